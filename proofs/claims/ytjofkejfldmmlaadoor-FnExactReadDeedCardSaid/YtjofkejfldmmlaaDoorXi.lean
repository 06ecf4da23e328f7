/- The law on ReadDeed against the reference, walked at whatever text. -/
import Derived.Test.YtjofkejfldmmlaaDoorXh
import Derived.Test.YtjofkejfldmmlaaDoorXz
namespace Go.Proofs.YtjofkejfldmmlaaDoor
open Go.RowKit Go.Deep

set_option maxRecDepth 100000 in
set_option maxHeartbeats 4000000 in
theorem law_ExactReadDeed {w : World} {s : ByteArray} (hs : s.size ≤ maxLen) (hF : LibOk w) :
    Calls Tryd.prog 7 #[.string s] w fun e w' => e = .returned (.bool true) ∧ Below w.heap.size w w' := by
  have hs' : s.size ≤ 9223372036854775807 := hs
  by_cases hbig : 1048576 < s.size
  · have hbig' : (1048576 : Int) < s.size := by omega
    go_enter Tryd.func7, Tryd.ntmps7
    go_wp2_with fail
    go_ret
    exact ⟨rfl, Below.refl _ _⟩
  · have hbig' : ¬ (1048576 : Int) < s.size := by omega
    have HS := spec_ReadDeed s (by omega)
    have HP := fun (w' : World) (h : ErrOk w') => ReadDeed_any s (by omega) h
    unfold ReadOf at HS HP
    obtain ⟨b, hb⟩ : ∃ b, (readD s.data.toList).isSome = b := ⟨_, rfl⟩
    obtain ⟨d, hd⟩ : ∃ d, (readD s.data.toList).getD ⟨0, 0, 0⟩ = d := ⟨_, rfl⟩
    rw [hb, hd] at HS HP
    clear hb hd
    have HE := eqDeed_any d
    unfold deedV at HS HP HE
    have hb9 : (b != b) = false := by cases b <;> rfl
    go_enter Tryd.func7, Tryd.ntmps7
    go_wp2_with fail
    go_at_call 16
    refine (HS w).mono ?_
    rintro e w1 ⟨b1, rfl⟩
    have X := BoxN.start w1 #[.int .i64 d.k, .int .i64 d.a, .int .i64 d.b] 24
    have B1 := b1.trans (X.below.mono b1.size)
    have hF1 := hF.e.below B1
    go_wp2_with fail
    generalize w1.alloc (.cells #[.int .i64 d.k, .int .i64 d.a, .int .i64 d.b] 24) = W at X B1 hF1 ⊢
    go_at_call 14
    refine (HP W hF1).mono ?_
    rintro e w2 ⟨b2, rfl⟩
    have Y := BoxN.start w2 #[.int .i64 d.k, .int .i64 d.a, .int .i64 d.b] 24
    have X2 := (X.step b2).step ((Y.below))
    have B2 := B1.trans ((b2.trans (Y.below.mono b2.size)).mono B1.size)
    have p0 := X2.cell 0 rfl
    have p1 := X2.cell 1 rfl
    have p2 := X2.cell 2 rfl
    have q0 := Y.cell 0 rfl
    have q1 := Y.cell 1 rfl
    have q2 := Y.cell 2 rfl
    go_wp2_with fail
    go_at_call 23
    refine (HE _).mono ?_
    rintro e w3 ⟨rfl, b3⟩
    go_wp2_with fail
    go_ret
    exact ⟨rfl, B2.trans (b3.mono B2.size)⟩
end Go.Proofs.YtjofkejfldmmlaaDoor
