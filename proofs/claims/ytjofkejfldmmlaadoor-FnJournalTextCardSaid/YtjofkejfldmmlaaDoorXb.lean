/- The reference's numbers in decimal. -/
import Derived.Test.YtjofkejfldmmlaaDoorXa
import Derived.Test.YtjofkejfldmmlaaDoorFa
import Derived.Laws.IdiomStrings
namespace Go.Proofs.YtjofkejfldmmlaaDoor
open Go.RowKit Go.Deep

theorem hold_stronger {P : Program} {md : Region.Mode} {ops : Array Oper} {Q : Exit → Act → World → Prop} {S S' : World → Prop} (hs : ∀ w, S' w → S w) : ∀ (fuel : Nat) (listed : Array Bool) (a : Act) (w : World), wpAnyH P md ops Q S' fuel listed a w → wpAnyH P md ops Q S fuel listed a w
  | 0, _, _, _, h => h
  | fuel + 1, _, _, _, h => ⟨h.1, fun i hi => wpOp_mono (fun _ _ h' => ⟨hs _ h'.1, hold_stronger hs fuel _ _ _ h'.2⟩) (h.2 i hi)⟩
/-- One sign as a text. -/
theorem sign_text (d : Nat) (hd : d < 10) (w : World) (g : Nat) (c : Nat) (h : w.cell? ⟨g, 0, none⟩ = some (.int .u8 ((48 + d : Nat) : Int))) :
    (convert 22 9 (.slice (some ⟨g, 0, none⟩) 1 c)).run Tryd.prog w = .ok (.string ⟨#[UInt8.ofNat (48 + d)]⟩) w := by
  have := run_convert_bytes_back w 22 9 5 ⟨g, 0, none⟩ c [UInt8.ofNat (48 + d)] Tryd.underlying22 Tryd.underlying5 Tryd.underlying9 (fun j hj => by
    obtain rfl : j = 0 := by simp at hj; omega
    have e : (⟨g, 0, none⟩ : Addr).add 0 = ⟨g, 0, none⟩ := rfl
    rw [e, h]
    show _ = some (Value.int .u8 ((UInt8.ofNat (48 + d)).toNat : Int))
    rw [dig_toNat hd])
  exact this
theorem u8_dig {d : Nat} (hd : d < 10) : IntKind.u8.wrap (48 + (d : Int)) = 48 + (d : Int) := by rw [IntKind.wrap_u8]; omega
theorem i64_dig {d : Nat} (hd : d < 10) : IntKind.i64.wrap (48 + (d : Int)) = 48 + (d : Int) := by rw [IntKind.wrap_i64]; omega
theorem dig_int (d : Nat) : (48 + (d : Int)) = ((48 + d : Nat) : Int) := by omega
set_option maxRecDepth 100000 in
set_option maxHeartbeats 1000000 in
theorem l1Number_one (n : Nat) (hn : n < 10) (w : World) : Calls Tryd.prog 36 #[.int .i64 n] w fun e w' => e = .returned (.string ⟨(numL n).toArray⟩) ∧ Below w.heap.size w w' := by
  have h1 : (n : Int) < 10 := by omega
  have h2 := u8_dig hn
  have h3 := i64_dig hn
  have hb := BoxN.start w #[.int .u8 (48 + (n : Int))] 5
  have hc := sign_text n hn (w.alloc (.cells #[.int .u8 (48 + (n : Int))] 5)) w.heap.size 1 (by rw [← dig_int]; exact hb.cell 0 rfl)
  have hr : (⟨#[UInt8.ofNat (48 + n)]⟩ : ByteArray) = ⟨(numL n).toArray⟩ := by rw [numL_one hn]
  rw [hr] at hc
  have bw := hb.below
  clear hr hb
  go_enter Tryd.func36, Tryd.ntmps36
  go_wp2_with fail
  go_ret
  exact ⟨rfl, bw⟩
set_option maxRecDepth 100000 in
set_option maxHeartbeats 2000000 in
theorem l1Number_two (n : Nat) (hn : ¬ n < 10) (h99 : n ≤ 99) (w : World) : Calls Tryd.prog 36 #[.int .i64 n] w fun e w' => e = .returned (.string ⟨(numL n).toArray⟩) ∧ Below w.heap.size w w' := by
  have h1 : ¬ (n : Int) < 10 := by omega
  obtain ⟨q, hq, eq, h4⟩ : ∃ q, q < 10 ∧ n / 10 = q ∧ (n : Int) / 10 = (q : Int) := ⟨n / 10, by omega, rfl, rfl⟩
  obtain ⟨r, hm, er, h5⟩ : ∃ r, r < 10 ∧ n % 10 = r ∧ (n : Int).tmod 10 = (r : Int) := ⟨n % 10, Nat.mod_lt _ (by omega), rfl, rfl⟩
  have h6 : IntKind.i64.wrap (q : Int) = (q : Int) := by rw [IntKind.wrap_i64]; omega
  have h2 := u8_dig hm
  have h3 := i64_dig hm
  have bd : Below w.heap.size w w.drew := ⟨rfl, rfl, rfl, Nat.le_refl _, fun _ _ => rfl⟩
  obtain ⟨cb, ec⟩ : ∃ c, UInt8.ofNat (48 + r) = c := ⟨_, rfl⟩
  have hr : (⟨(numL q).toArray⟩ : ByteArray) ++ ⟨#[cb]⟩ = ⟨(numL n).toArray⟩ := ba_eq (by rw [app_data, numL_two hn, eq, er, ec])
  have hsz : (⟨(numL q).toArray⟩ : ByteArray).size = 1 := by rw [numL_one hq]; rfl
  have hR := Lib.hid hr
  have HC : ∀ (w' : World) (g : Nat), w'.cell? ⟨g, 0, none⟩ = some (.int .u8 (48 + (r : Int))) → (convert 22 9 (.slice (some ⟨g, 0, none⟩) 1 1)).run Tryd.prog w' = .ok (.string ⟨#[cb]⟩) w' := fun w' g h => by have := sign_text r hm w' g 1 (by rw [← dig_int]; exact h); rw [ec] at this; exact this
  clear hr eq er ec
  go_enter Tryd.func36, Tryd.ntmps36
  go_wp2_with fail
  refine region_plain (fuel := 11) (listed := #[false, false, false, false, false, false, false, false, false, false, false]) (fun _ => True) (by kernel_rfl) (by kernel_rfl) (by kernel_rfl) ?_
  refine hold_take (i := 0) (d := 11) (v := ?vq0) (listed' := #[true, false, false, false, false, false, false, false, false, false, false]) rfl (by kernel_rfl) (by kernel_rfl) (by kernel_rfl) rfl (by rfl) (by kernel_rfl) trivial ?hq0 ?rq0
  case hq0 =>
    intro w' hSw
    clear hSw
    go_simp
    try with_reducible rfl
  simp only [List.setIfInBounds_toArray, List.set_cons_zero, List.set_cons_succ]
  refine hold_take (i := 1) (d := 12) (v := ?vq1) (listed' := #[true, true, false, false, false, false, false, false, false, false, false]) rfl (by kernel_rfl) (by kernel_rfl) (by kernel_rfl) rfl (by rfl) (by kernel_rfl) trivial ?hq1 ?rq1
  case hq1 =>
    intro w' hSw
    clear hSw
    go_simp
    try with_reducible rfl
  simp only [List.setIfInBounds_toArray, List.set_cons_zero, List.set_cons_succ]
  refine hold_take (i := 3) (d := 14) (v := ?vq3) (listed' := #[true, true, false, true, false, false, false, false, false, false, false]) rfl (by kernel_rfl) (by kernel_rfl) (by kernel_rfl) rfl (by rfl) (by kernel_rfl) trivial ?hq3 ?rq3
  case hq3 =>
    intro w' hSw
    clear hSw
    go_simp
    try with_reducible rfl
  simp only [List.setIfInBounds_toArray, List.set_cons_zero, List.set_cons_succ]
  refine hold_take (i := 4) (d := 15) (v := ?vq4) (listed' := #[true, true, false, true, true, false, false, false, false, false, false]) rfl (by kernel_rfl) (by kernel_rfl) (by kernel_rfl) rfl (by rfl) (by kernel_rfl) trivial ?hq4 ?rq4
  case hq4 =>
    intro w' hSw
    clear hSw
    go_simp
    try with_reducible rfl
  simp only [List.setIfInBounds_toArray, List.set_cons_zero, List.set_cons_succ]
  refine hold_take (i := 5) (d := 16) (v := ?vq5) (listed' := #[true, true, false, true, true, true, false, false, false, false, false]) rfl (by kernel_rfl) (by kernel_rfl) (by kernel_rfl) rfl (by rfl) (by kernel_rfl) trivial ?hq5 ?rq5
  case hq5 =>
    intro w' hSw
    clear hSw
    go_simp
    try with_reducible rfl
  simp only [List.setIfInBounds_toArray, List.set_cons_zero, List.set_cons_succ]
  refine hold_take (i := 6) (d := 17) (v := ?vq6) (listed' := #[true, true, false, true, true, true, true, false, false, false, false]) rfl (by kernel_rfl) (by kernel_rfl) (by kernel_rfl) rfl (by rfl) (by kernel_rfl) trivial ?hq6 ?rq6
  case hq6 =>
    intro w' hSw
    clear hSw
    go_simp
    try with_reducible rfl
  simp only [List.setIfInBounds_toArray, List.set_cons_zero, List.set_cons_succ]
  refine hold_two (i := 2) (j := 7) (by kernel_rfl) ?ga ?gb
  case ga =>
    refine opH_call (i := 2) (d := 13) (listed' := #[true, true, true, true, true, true, true, false, false, false, false]) rfl rfl (by rfl) (by kernel_rfl) ?ea (l1Number_one q hq w.drew) ?_
    case ea => go_simp
    rintro e wca ⟨rfl, bca⟩
    refine ⟨_, rfl, trivial, ?_⟩
    simp only [List.setIfInBounds_toArray, List.set_cons_zero, List.set_cons_succ]
    have Xa2 := BoxN.start wca #[.int .u8 (48 + (r : Int))] 5
    have bxa2 := Xa2.below
    have kxa2 := Xa2.cell 0 rfl
    have bza2 : wca.heap.size < (wca.alloc (.cells #[.int .u8 (48 + (r : Int))] 5)).heap.size := by simp
    obtain ⟨bla2, ebla2⟩ : ∃ q, wca.heap.size = q := ⟨_, rfl⟩
    refine hold_value (i := 7) (d := 18) (listed' := #[true, true, true, true, true, true, true, true, false, false, false]) rfl (by kernel_rfl) rfl (by rfl) (by kernel_rfl) (v := .slice (some ⟨wca.heap.size, 0, none⟩) 1 1) (w' := wca.alloc (.cells #[.int .u8 (48 + (r : Int))] 5)) ?va2 trivial ?_
    case va2 =>
      go_simp
      try with_reducible rfl
    rw [ebla2] at kxa2 bxa2 bza2 ⊢
    simp only [List.setIfInBounds_toArray, List.set_cons_zero, List.set_cons_succ]
    generalize (wca.alloc (.cells #[.int .u8 (48 + (r : Int))] 5)) = wb at kxa2 bxa2 bza2 ⊢
    refine hold_stronger (S' := fun w' => w'.cell? ⟨bla2, 0, none⟩ = some (.int .u8 (48 + (r : Int)))) (fun _ _ => trivial) _ _ _ _ ?_
    have Sa : (fun w' => w'.cell? ⟨bla2, 0, none⟩ = some (.int .u8 (48 + (r : Int)))) wb := kxa2
    refine hold_take (i := 8) (d := 19) (v := ?vc1) (listed' := #[true, true, true, true, true, true, true, true, true, false, false]) rfl (by kernel_rfl) (by kernel_rfl) (by kernel_rfl) rfl (by rfl) (by kernel_rfl) Sa ?hc1 ?rc1
    case hc1 =>
      intro w' hSw
      have kk := HC w' _ hSw; clear hSw
      go_simp
      try with_reducible rfl
    simp only [List.setIfInBounds_toArray, List.set_cons_zero, List.set_cons_succ]
    refine hold_take (i := 9) (d := 20) (v := ?vta9) (listed' := #[true, true, true, true, true, true, true, true, true, true, false]) rfl (by kernel_rfl) (by kernel_rfl) (by kernel_rfl) rfl (by rfl) (by kernel_rfl) Sa ?hta9 ?rta9
    case hta9 =>
      intro w' hSw
      clear hSw
      go_simp
      try with_reducible rfl
    simp only [List.setIfInBounds_toArray, List.set_cons_zero, List.set_cons_succ]
    refine hold_take (i := 10) (d := 2) (v := ?vta10) (listed' := #[true, true, true, true, true, true, true, true, true, true, true]) rfl (by kernel_rfl) (by kernel_rfl) (by kernel_rfl) rfl (by rfl) (by kernel_rfl) Sa ?hta10 ?rta10
    case hta10 =>
      intro w' hSw
      clear hSw
      go_simp
      try with_reducible rfl
    simp only [List.setIfInBounds_toArray, List.set_cons_zero, List.set_cons_succ]
    refine hold_done (by kernel_rfl) ?_ _
    go_wp2_with fail
    go_ret
    exact ⟨by rw [hR.out]; rfl, bd.trans (bca.trans (bxa2.mono (by rw [← ebla2]; exact bca.size)))⟩
  case gb =>
    have Xb := BoxN.start w.drew #[.int .u8 (48 + (r : Int))] 5
    have bxb := Xb.below
    have kxb := Xb.cell 0 rfl
    have bzb : w.drew.heap.size < (w.drew.alloc (.cells #[.int .u8 (48 + (r : Int))] 5)).heap.size := by simp
    obtain ⟨blb, eblb⟩ : ∃ q, w.drew.heap.size = q := ⟨_, rfl⟩
    refine opH_value (i := 7) (d := 18) (listed' := #[true, true, false, true, true, true, true, true, false, false, false]) rfl rfl (by rfl) (by kernel_rfl) (v := .slice (some ⟨w.drew.heap.size, 0, none⟩) 1 1) (w' := w.drew.alloc (.cells #[.int .u8 (48 + (r : Int))] 5)) ?vb trivial ?_
    case vb =>
      go_simp
      try with_reducible rfl
    rw [eblb] at kxb bxb bzb ⊢
    simp only [List.setIfInBounds_toArray, List.set_cons_zero, List.set_cons_succ]
    generalize (w.drew.alloc (.cells #[.int .u8 (48 + (r : Int))] 5)) = wb at kxb bxb bzb ⊢
    refine hold_stronger (S' := fun w' => w'.cell? ⟨blb, 0, none⟩ = some (.int .u8 (48 + (r : Int)))) (fun _ _ => trivial) _ _ _ _ ?_
    have Sb : (fun w' => w'.cell? ⟨blb, 0, none⟩ = some (.int .u8 (48 + (r : Int)))) wb := kxb
    refine hold_take (i := 8) (d := 19) (v := ?vc2) (listed' := #[true, true, false, true, true, true, true, true, true, false, false]) rfl (by kernel_rfl) (by kernel_rfl) (by kernel_rfl) rfl (by rfl) (by kernel_rfl) Sb ?hc2 ?rc2
    case hc2 =>
      intro w' hSw
      have kk := HC w' _ hSw; clear hSw
      go_simp
      try with_reducible rfl
    simp only [List.setIfInBounds_toArray, List.set_cons_zero, List.set_cons_succ]
    refine hold_call (i := 2) (d := 13) (listed' := #[true, true, true, true, true, true, true, true, true, false, false]) rfl (by kernel_rfl) rfl (by rfl) (by kernel_rfl) ?eb2 (l1Number_one q hq wb) ?_
    case eb2 => go_simp
    rintro e wcb2 ⟨rfl, bcb2⟩
    have Sb2 : (fun w' => w'.cell? ⟨blb, 0, none⟩ = some (.int .u8 (48 + (r : Int)))) wcb2 := by show _ = _; rw [bcb2.cell (p := ⟨blb, 0, none⟩) bzb]; exact kxb
    refine ⟨_, rfl, Sb2, ?_⟩
    simp only [List.setIfInBounds_toArray, List.set_cons_zero, List.set_cons_succ]
    refine hold_take (i := 9) (d := 20) (v := ?vtb9) (listed' := #[true, true, true, true, true, true, true, true, true, true, false]) rfl (by kernel_rfl) (by kernel_rfl) (by kernel_rfl) rfl (by rfl) (by kernel_rfl) Sb2 ?htb9 ?rtb9
    case htb9 =>
      intro w' hSw
      clear hSw
      go_simp
      try with_reducible rfl
    simp only [List.setIfInBounds_toArray, List.set_cons_zero, List.set_cons_succ]
    refine hold_take (i := 10) (d := 2) (v := ?vtb10) (listed' := #[true, true, true, true, true, true, true, true, true, true, true]) rfl (by kernel_rfl) (by kernel_rfl) (by kernel_rfl) rfl (by rfl) (by kernel_rfl) Sb2 ?htb10 ?rtb10
    case htb10 =>
      intro w' hSw
      clear hSw
      go_simp
      try with_reducible rfl
    simp only [List.setIfInBounds_toArray, List.set_cons_zero, List.set_cons_succ]
    refine hold_done (by kernel_rfl) ?_ _
    go_wp2_with fail
    go_ret
    exact ⟨by rw [hR.out]; rfl, bd.trans ((bxb.mono (by rw [← eblb]; exact Nat.le_refl _)).trans (bcb2.mono (by have := bxb.size; have e : w.drew.heap.size = w.heap.size := rfl; omega)))⟩
theorem l1Number_any (n : Nat) (h99 : n ≤ 99) (w : World) : Calls Tryd.prog 36 #[.int .i64 n] w fun e w' => e = .returned (.string ⟨(numL n).toArray⟩) ∧ Below w.heap.size w w' := by
  by_cases h : n < 10
  · exact l1Number_one n h w
  · exact l1Number_two n h h99 w
end Go.Proofs.YtjofkejfldmmlaaDoor
