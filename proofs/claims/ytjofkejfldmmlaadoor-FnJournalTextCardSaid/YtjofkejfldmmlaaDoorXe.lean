/- The laws' copies of deeds; the law on DeedText against the reference. -/
import Derived.Test.YtjofkejfldmmlaaDoorXd
namespace Go.Proofs.YtjofkejfldmmlaaDoor
open Go.RowKit Go.Deep

set_option maxRecDepth 100000 in
set_option maxHeartbeats 4000000 in
theorem toDeed_any (d : Dd) (w : World) : Calls Tryd.prog 22 #[deedV d] w fun e w' => e = .returned (deedV d) ∧ Below w.heap.size w w' := by
  obtain ⟨k, a, b⟩ := d
  unfold deedV
  dsimp only
  have bw := (((Below.refl w.heap.size w).alloc (Nat.le_refl _) (.cells #[.int .i64 k, .int .i64 a, .int .i64 b] 38)).alloc (by simp) (.cells #[.int .i64 k, .int .i64 a, .int .i64 b] 24)).alloc (by simp; omega) (.cells #[.int .i64 k, .int .i64 a, .int .i64 b] 24)
  have X := (BoxN.start (w.alloc (.cells #[.int .i64 k, .int .i64 a, .int .i64 b] 38)) #[.int .i64 k, .int .i64 a, .int .i64 b] 24)
  have Y := X.step (((Below.refl _ _).alloc (Nat.le_refl _) (.cells #[.int .i64 k, .int .i64 a, .int .i64 b] 24)))
  have es : (w.alloc (.cells #[.int .i64 k, .int .i64 a, .int .i64 b] 38)).heap.size = w.heap.size + 1 := by simp
  have c0 := Y.cell 0 rfl
  have c1 := Y.cell 1 rfl
  have c2 := Y.cell 2 rfl
  rw [es] at c0 c1 c2
  go_enter Tryd.func22, Tryd.ntmps22
  go_wp2_with fail
  go_returns
  exact ⟨rfl, bw⟩
set_option maxRecDepth 100000 in
set_option maxHeartbeats 4000000 in
theorem eqDeed_any (d : Dd) (w : World) : Calls Tryd.prog 23 #[deedV d, deedV d] w fun e w' => e = .returned (.bool true) ∧ Below w.heap.size w w' := by
  obtain ⟨k, a, b⟩ := d
  unfold deedV
  dsimp only
  have bw := ((Below.refl w.heap.size w).alloc (Nat.le_refl _) (.cells #[.int .i64 k, .int .i64 a, .int .i64 b] 24)).alloc (by simp) (.cells #[.int .i64 k, .int .i64 a, .int .i64 b] 24)
  go_enter Tryd.func23, Tryd.ntmps23
  go_wp2_with fail
  go_returns
  exact ⟨rfl, bw⟩
set_option maxRecDepth 100000 in
set_option maxHeartbeats 4000000 in
theorem law_ExactDeedText {w : World} (d : Dd) :
    Calls Tryd.prog 6 #[deedV d] w fun e w' => e = .returned (.bool true) ∧ Below w.heap.size w w' := by
  obtain ⟨k, a, b⟩ := d
  have HD := toDeed_any ⟨k, a, b⟩
  have HS := spec_DeedText ⟨k, a, b⟩
  have HP := DeedText_any ⟨k, a, b⟩
  obtain ⟨t, et⟩ : ∃ t : ByteArray, (⟨(deedL ⟨k, a, b⟩).toArray⟩ : ByteArray) = t := ⟨_, rfl⟩
  have hb8 : (t.toList != t.toList) = false := by simp
  unfold deedV at HD HS HP ⊢
  unfold strV at HS HP
  rw [et] at HS HP
  clear et
  dsimp only at HD HS HP ⊢
  have X := BoxN.start w #[.int .i64 k, .int .i64 a, .int .i64 b] 38
  have b0 := X.below
  have q0 := X.cell 0 rfl
  have q1 := X.cell 1 rfl
  have q2 := X.cell 2 rfl
  go_enter Tryd.func6, Tryd.ntmps6
  go_wp2_with fail
  generalize w.alloc (.cells #[.int .i64 k, .int .i64 a, .int .i64 b] 38) = W at X b0 q0 q1 q2 ⊢
  go_at_call 22
  refine (HD _).mono ?_
  rintro e w1 ⟨rfl, b1⟩
  have X1 := X.step b1
  have B1 := b0.trans (b1.mono b0.size)
  clear q0 q1 q2 X
  go_wp2_with fail
  go_at_call 12
  refine (HS _).mono ?_
  rintro e w2 ⟨rfl, b2⟩
  have X2 := X1.step b2
  have B2 := B1.trans (b2.mono B1.size)
  have q0 := X2.cell 0 rfl
  have q1 := X2.cell 1 rfl
  have q2 := X2.cell 2 rfl
  clear X1
  go_wp2_with fail
  go_at_call 22
  refine (HD _).mono ?_
  rintro e w3 ⟨rfl, b3⟩
  have B3 := B2.trans (b3.mono B2.size)
  clear q0 q1 q2 X2
  go_wp2_with fail
  go_at_call 11
  refine (HP _).mono ?_
  rintro e w4 ⟨rfl, b4⟩
  have B4 := B3.trans (b4.mono B3.size)
  go_wp2_with fail
  go_ret
  exact ⟨rfl, B4⟩
end Go.Proofs.YtjofkejfldmmlaaDoor
