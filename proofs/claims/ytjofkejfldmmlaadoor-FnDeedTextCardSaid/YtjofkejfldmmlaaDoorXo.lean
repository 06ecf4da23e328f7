/- The laws of DeedText and ReadDeed over what is drawn, walked at whatever code. -/
import Derived.Test.YtjofkejfldmmlaaDoorXn
import Derived.Test.YtjofkejfldmmlaaDoorXd
import Derived.Test.YtjofkejfldmmlaaDoorXf
import Derived.Test.YtjofkejfldmmlaaDoorXz
import Derived.Test.YtjofkejfldmmlaaDoorLe
namespace Go.Proofs.YtjofkejfldmmlaaDoor
open Go.RowKit Go.Deep

set_option maxRecDepth 100000 in
set_option maxHeartbeats 4000000 in
theorem law_DeedText {A : Option Addr} {b o n cap : Nat} {z : Nat → Nat} {w : World} (h : CodeAt w A b o n cap z) (hF : LibOk w) :
    Calls Tryd.prog 3 #[.slice A n cap] w fun e w' => e = .returned (.bool true) ∧ Below w.heap.size w w' := by
  have hn := h.hn
  have hc := h.hc
  by_cases hbig : 1048576 < n
  · have hbig' : (1048576 : Int) < n := by omega
    clear h hF
    go_enter Tryd.func3, Tryd.ntmps3
    go_wp2_with fail
    go_ret
    exact ⟨rfl, Below.refl _ _⟩
  have hbig' : ¬ (1048576 : Int) < n := by omega
  go_enter Tryd.func3, Tryd.ntmps3
  go_wp2_with fail
  go_at_call 10
  refine (draw_DeedText h).mono ?_
  rintro e w1 ⟨⟨dk, da, db⟩, rfl, b1⟩
  have HS := spec_DeedText ⟨dk, da, db⟩
  have HP := DeedText_any ⟨dk, da, db⟩
  have H0 := deedL_len ⟨dk, da, db⟩
  have HR : ∀ (w' : World), ErrOk w' → deedL ⟨dk, da, db⟩ ≠ [] → _ := fun w' h9 hne => ReadDeed_any (⟨(deedL ⟨dk, da, db⟩).toArray⟩ : ByteArray) (Nat.le_trans H0 (by omega)) h9
  unfold ReadOf at HR
  have HQ : deedL ⟨dk, da, db⟩ ≠ [] → readD (deedL ⟨dk, da, db⟩) = some ⟨dk, da, db⟩ := fun hne => readD_text hne
  obtain ⟨tx, etx⟩ : ∃ tx : ByteArray, (⟨(deedL ⟨dk, da, db⟩).toArray⟩ : ByteArray) = tx := ⟨_, rfl⟩
  have ltx : tx.data.toList = deedL ⟨dk, da, db⟩ := by rw [← etx]
  unfold deedV at HS HP HR ⊢
  unfold strV at HS HP
  rw [etx] at HS HP HR
  rw [ltx] at HR
  dsimp only at HS HP HR ⊢
  have hb9 : (tx.toList != tx.toList) = false := by simp
  have e1 := deed_eql dk da db dk da db
  simp only [beq_self_eq_true, Bool.and_self] at e1
  have X := BoxN.start w1 #[.int .i64 dk, .int .i64 da, .int .i64 db] 24
  have B1 := b1.trans (X.below.mono b1.size)
  have hF1 := hF.e.below B1
  have q0 := X.cell 0 rfl
  have q1 := X.cell 1 rfl
  have q2 := X.cell 2 rfl
  clear etx b1 h
  go_wp2_with fail
  generalize w1.alloc (.cells #[.int .i64 dk, .int .i64 da, .int .i64 db] 24) = W at X B1 hF1 q0 q1 q2 ⊢
  go_at_call 11
  refine (HP W).mono ?_
  rintro e w2 ⟨rfl, b2⟩
  have X2 := X.step b2
  have B2 := B1.trans (b2.mono B1.size)
  clear q0 q1 q2 X
  have q0 := X2.cell 0 rfl
  have q1 := X2.cell 1 rfl
  have q2 := X2.cell 2 rfl
  go_wp2_with fail
  go_at_call 12
  refine (HS _).mono ?_
  rintro e w3 ⟨rfl, b3⟩
  have X3 := X2.step b3
  have B3 := B2.trans (b3.mono B2.size)
  have hF3 := hF.e.below B3
  clear q0 q1 q2 X2 HS HP
  have q0 := X3.cell 0 rfl
  have q1 := X3.cell 1 rfl
  have q2 := X3.cell 2 rfl
  by_cases he : deedL ⟨dk, da, db⟩ = []
  · have z0 : tx.toList.isEmpty = true := by rw [Lib.toList_data, ltx, he]; rfl
    clear HR HQ
    go_wp2_with fail
    go_at_call 13
    refine (alive_any _).mono ?_
    rintro e w4 ⟨rfl, b4⟩
    go_wp2_with fail
    go_ret
    exact ⟨rfl, B3.trans (b4.mono B3.size)⟩
  have hR := HR w3 hF3 he
  rw [HQ he] at hR
  dsimp only [Option.getD_some, Option.isSome_some] at hR
  have z0 : tx.toList.isEmpty = false := by rw [Lib.toList_data, ltx, List.isEmpty_eq_false_iff]; exact he
  clear HR HQ
  go_wp2_with fail
  go_at_call 14
  refine hR.mono ?_
  rintro e w4 ⟨b4, rfl⟩
  have Y := BoxN.start w4 #[.int .i64 dk, .int .i64 da, .int .i64 db] 24
  have X4 := (X3.step b4).step Y.below
  have B4 := B3.trans ((b4.trans (Y.below.mono b4.size)).mono B3.size)
  clear q0 q1 q2 X3
  have p0 := X4.cell 0 rfl
  have p1 := X4.cell 1 rfl
  have p2 := X4.cell 2 rfl
  have q0 := Y.cell 0 rfl
  have q1 := Y.cell 1 rfl
  have q2 := Y.cell 2 rfl
  go_wp2_with fail
  go_ret
  exact ⟨rfl, B4⟩
set_option maxRecDepth 100000 in
set_option maxHeartbeats 4000000 in
theorem law_ReadDeed {A : Option Addr} {b o n cap : Nat} {z : Nat → Nat} {w : World} (h : CodeAt w A b o n cap z) (hF : LibOk w) :
    Calls Tryd.prog 4 #[.slice A n cap] w fun e w' => e = .returned (.bool true) ∧ Below w.heap.size w w' := by
  have hn := h.hn
  have hc := h.hc
  by_cases hbig : 1048576 < n
  · have hbig' : (1048576 : Int) < n := by omega
    clear h hF
    go_enter Tryd.func4, Tryd.ntmps4
    go_wp2_with fail
    go_ret
    exact ⟨rfl, Below.refl _ _⟩
  have hbig' : ¬ (1048576 : Int) < n := by omega
  go_enter Tryd.func4, Tryd.ntmps4
  go_wp2_with fail
  go_at_call 15
  refine (draw_ReadDeed h).mono ?_
  rintro e w1 ⟨s, rfl, hs5, b1⟩
  have hE1 := hF.e.below b1
  have HS := spec_ReadDeed s (by omega)
  have HP := fun (w' : World) (h : ErrOk w') => ReadDeed_any s (by omega) h
  have HX := fun (w' : World) (h : ErrOk w') => ReadDeed_any (s ++ ⟨#[32]⟩) (by rw [ByteArray.size_append]; show s.size + 1 ≤ _; omega) h
  have hx9 : (s ++ (⟨#[32]⟩ : ByteArray)).data.toList = s.data.toList ++ [32] := by simp [ByteArray.data_append]
  have hl9 : ¬ 9223372036854775807 < (s ++ (⟨#[32]⟩ : ByteArray)).size := by rw [ByteArray.size_append]; show ¬ _ < s.size + 1; omega
  unfold ReadOf at HS HP HX
  rw [hx9] at HX
  cases er : readD s.data.toList with
  | none =>
    rw [er] at HS HP
    unfold deedV at HS HP
    dsimp only [Option.getD_none, Option.isSome_none] at HS HP
    have e1 := deed_neq 0 0 0 0 0 0
    have e2 := deed_eql 0 0 0 0 0 0
    simp only [beq_self_eq_true, Bool.and_self, Bool.not_true] at e1 e2
    clear h
    go_wp2_with fail
    go_at_call 14
    refine (HP _ hE1).mono ?_
    rintro e w2 ⟨b2, rfl⟩
    have X := BoxN.start w2 #[.int .i64 0, .int .i64 0, .int .i64 0] 24
    have B2 := b1.trans ((b2.trans (X.below.mono b2.size)).mono b1.size)
    clear HP
    go_wp2_with fail
    generalize w2.alloc (.cells #[.int .i64 0, .int .i64 0, .int .i64 0] 24) = W at X B2 ⊢
    go_at_call 16
    refine (HS W).mono ?_
    rintro e w3 ⟨b3, rfl⟩
    have Y := BoxN.start w3 #[.int .i64 0, .int .i64 0, .int .i64 0] 24
    have X3 := (X.step b3).step Y.below
    have B3 := B2.trans ((b3.trans (Y.below.mono b3.size)).mono B2.size)
    have q0 := X3.cell 0 rfl
    have q1 := X3.cell 1 rfl
    have q2 := X3.cell 2 rfl
    have p0 := Y.cell 0 rfl
    have p1 := Y.cell 1 rfl
    have p2 := Y.cell 2 rfl
    clear HS X
    go_wp2_with fail
    go_at_call 13
    refine (alive_any _).mono ?_
    rintro e w4 ⟨rfl, b4⟩
    go_wp2_with fail
    go_ret
    exact ⟨rfl, B3.trans (b4.mono B3.size)⟩
  | some d =>
    obtain ⟨dk, da, db⟩ := d
    have h8 := readD_space er
    obtain ⟨hne, hdl⟩ := readD_is er
    rw [er] at HS HP
    rw [h8] at HX
    have HT := DeedText_any ⟨dk, da, db⟩
    unfold strV at HT
    rw [hdl] at HT
    have es : (⟨s.data.toList.toArray⟩ : ByteArray) = s := by simp
    rw [es] at HT
    have hb9 : (s.toList == s.toList) = true := by simp
    unfold deedV at HS HP HX HT
    dsimp only [Option.getD_none, Option.isSome_none, Option.getD_some, Option.isSome_some] at HS HP HX HT
    have e1 := deed_neq dk da db dk da db
    simp only [beq_self_eq_true, Bool.and_self, Bool.not_true] at e1
    clear h
    go_wp2_with fail
    go_at_call 14
    refine (HP _ hE1).mono ?_
    rintro e w2 ⟨b2, rfl⟩
    have X := BoxN.start w2 #[.int .i64 dk, .int .i64 da, .int .i64 db] 24
    have B2 := b1.trans ((b2.trans (X.below.mono b2.size)).mono b1.size)
    clear HP
    go_wp2_with fail
    generalize w2.alloc (.cells #[.int .i64 dk, .int .i64 da, .int .i64 db] 24) = W at X B2 ⊢
    go_at_call 16
    refine (HS W).mono ?_
    rintro e w3 ⟨b3, rfl⟩
    have Y := BoxN.start w3 #[.int .i64 dk, .int .i64 da, .int .i64 db] 24
    have X3 := (X.step b3).step Y.below
    have B3 := B2.trans ((b3.trans (Y.below.mono b3.size)).mono B2.size)
    have q0 := X3.cell 0 rfl
    have q1 := X3.cell 1 rfl
    have q2 := X3.cell 2 rfl
    have p0 := Y.cell 0 rfl
    have p1 := Y.cell 1 rfl
    have p2 := Y.cell 2 rfl
    clear HS X
    go_wp2_with fail
    go_at_call 14
    refine (HX _ (hF.e.below B3)).mono ?_
    rintro e w4 ⟨b4, rfl⟩
    have X4 := X3.step b4
    have B4 := B3.trans (b4.mono B3.size)
    have Z := BoxN.start w4 #[.int .i64 0, .int .i64 0, .int .i64 0] 24
    have X5 := X4.step Z.below
    have B5 := B4.trans (Z.below.mono B4.size)
    clear q0 q1 q2 p0 p1 p2 X3 X4 Y
    have q0 := X5.cell 0 rfl
    have q1 := X5.cell 1 rfl
    have q2 := X5.cell 2 rfl
    go_wp2_with fail
    generalize w4.alloc (.cells #[.int .i64 0, .int .i64 0, .int .i64 0] 24) = W5 at X5 B5 q0 q1 q2 ⊢
    go_at_call 11
    refine (HT _).mono ?_
    rintro e w6 ⟨rfl, b6⟩
    go_wp2_with fail
    go_ret
    exact ⟨rfl, B5.trans (b6.mono B5.size)⟩
end Go.Proofs.YtjofkejfldmmlaaDoor
