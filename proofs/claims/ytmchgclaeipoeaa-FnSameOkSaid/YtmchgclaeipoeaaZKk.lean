import Derived.Test.YtmchgclaeipoeaaZKe
namespace Go.Proofs.Ytmchgclaeipoeaa
open Go.RowKit Go.Deep

theorem ext_le (s : ByteArray) (a b : Nat) : (s.extract a b).size ≤ s.size := by
  rw [size_data, ext_data, size_data, List.length_take, List.length_drop]
  omega
def DrawnF (rb : Nat) (A : Option Addr) (n c p : Nat) (w : World) (e : Ending) (w' : World) : Prop :=
  ∃ (s : ByteArray) (p' : Nat), e = .returned (.string s) ∧ s.size ≤ 60 ∧ Rd w' rb A n c p' ∧ p' ≤ p + 40 ∧ Chg (fun j => j = rb) w w'
theorem lit0 : (ByteArray.mk #[]).size = 0 := rfl
theorem fm3 : fmM 3 = 29 := rfl
set_option maxRecDepth 100000 in
set_option maxHeartbeats 16000000 in
theorem formed_any {rb n c p : Nat} {A : Option Addr} {q : Int} {B b o : Nat} {z : Nat → Nat} {w : World} (hq1 : 1 ≤ q) (hq2 : q ≤ 1000000) (hp : p ≤ 5000) (hn : n ≤ 2000) (h : Rd w rb A n c p) (hz : BytesAt w B A b o n z) (hB : B ≤ rb) (hrb : rb < w.heap.size) :
    Calls Try.prog 13 #[.pointer (some ⟨rb, 0, none⟩), .int .i64 q] w (DrawnF rb A n c p w) := by
  have HZ := Lib.hid hz
  have HBY : ∀ {wx : World}, Chg (fun j => j = rb) w wx → BytesAt wx B A b o n z := fun hG => HZ.out.below ((hG.below (B := rb) (by omega) (fun j hj => by have hj' : j = rb := hj; omega)).mono hB)
  have HF := Lib.hid (form_three (x := 3) rfl (by rw [fm3]; omega) hn h hz hB hrb)
  clear hz h
  go_enter Try.func13, Try.ntmps13
  go_wp2_with fail
  go_at_call 38
  refine HF.out.mono ?_
  rintro e w1 ⟨s0, p1, rfl, s0lo, s0hi, R1, p1hi, C1⟩
  rw [fm3] at s0hi p1hi
  have rbW1 : rb < w1.heap.size := by have := C1.size; omega
  clear HF
  go_wp2_with fail
  go_at_call 14
  refine (pick_any (q := 8) (by omega) (by omega) (by omega) hn R1 (HBY C1) hB).mono ?_
  rintro e w2 ⟨v2, rfl, v20, v21, R2, O2⟩
  have C2 := C1.trans (Chg.of_only O2)
  have rbW2 : rb < w2.heap.size := by have := (Chg.of_only O2).size; omega
  clear O2 R1 C1 rbW1
  rcases (by omega : v2 = 0 ∨ v2 = 1 ∨ v2 = 2 ∨ 3 ≤ v2) with rfl | rfl | rfl | c3
  case inl =>
    go_wp2_with fail
    obtain ⟨sz, hsz⟩ : ∃ sz, (ByteArray.mk #[40, 33, 97, 124, 40, 97, 38, 40, 33, 97, 124, 98, 41, 41, 41]) = sz := ⟨_, rfl⟩
    have sz1 : 1 ≤ sz.size := by rw [← hsz]; decide
    have sz2 : sz.size ≤ 29 := by rw [← hsz]; decide
    rw [hsz]
    clear hsz s0lo s0hi
    go_at_call 37
    refine (odd_any hq1 hq2 (by omega) hn R2 (HBY C2) hB).mono ?_
    rintro e w3 ⟨⟨xo, rfl⟩, R3, O3⟩
    have C3 := C2.trans (Chg.of_only O3)
    have rbW3 : rb < w3.heap.size := by have := (Chg.of_only O3).size; omega
    clear O3 R2 C2 rbW2
    cases xo with
    | false =>
      go_wp2_with fail
      go_returns
      exact ⟨_, _, rfl, by omega, R3, by omega, C3⟩
    | true =>
      go_wp2_with fail
      go_at_call 14
      refine (pick_any (q := (sz.size : Int)) (by omega) (by omega) (by omega) hn R3 (HBY C3) hB).mono ?_
      rintro e w4 ⟨v4, rfl, v40, v41, R4, O4⟩
      have C4 := C3.trans (Chg.of_only O4)
      have rbW4' : rb < w4.heap.size := by have := (Chg.of_only O4).size; omega
      clear O4 R3 C3 rbW3
      obtain ⟨kq, rfl⟩ := Int.eq_ofNat_of_zero_le v40
      have hk1 : kq < sz.size := by omega
      have hx1 := ext_le sz 0 kq
      have hx2 := ext_le sz (kq + 1) sz.size
      have HW1 : Hid (IntKind.i64.wrap ((kq : Int) + 1) = ((kq + 1 : Nat) : Int)) := by show _ = _; simp (disch := omega) only [IntWalk.i64_in]; omega
      go_wp2_with fail
      have Rd4 : Rd w4.drew rb A n c _ := R4
      have Cd4 := C4.trans (Chg.drew (fun j => j = rb) w4)
      have rbW4 : rb < w4.drew.heap.size := rbW4'
      refine region_plain (fuel := 15) (listed := #[false, false, false, false, false, false, false, false, false, false, false, false, false, false, false]) (fun _ => True) (by kernel_rfl) (by kernel_rfl) (by kernel_rfl) ?_
      refine hold_take (i := 0) (d := 24) (v := ?vql30) (listed' := #[true, false, false, false, false, false, false, false, false, false, false, false, false, false, false]) rfl (by kernel_rfl) (by kernel_rfl) (by kernel_rfl) rfl (by rfl) (by kernel_rfl) trivial ?hql30 ?rql30
      case hql30 =>
        intro w' hSw
        clear hSw
        go_simp
        first | with_reducible rfl | (rw [if_neg (by omega)]; done) | (rw [if_neg (by omega)]; with_reducible rfl) | (rw [if_pos (by omega)]; done) | (rw [if_pos (by omega)]; with_reducible rfl) | (simp only [HW1.out, Int.toNat_natCast]; rw [if_pos (by omega)]; done) | (simp only [HW1.out, Int.toNat_natCast]; rw [if_pos (by omega)]; with_reducible rfl) | (simp only [HW1.out]; done) | (simp only [HW1.out]; with_reducible rfl) | (rw [if_neg (by simp only [ByteArray.size_append, lit1, lit0]; omega)]; done) | (rw [if_neg (by simp only [ByteArray.size_append, lit1, lit0]; omega)]; with_reducible rfl) | skip
      simp only [List.setIfInBounds_toArray, List.set_cons_zero, List.set_cons_succ]
      refine hold_take (i := 1) (d := 25) (v := ?vql31) (listed' := #[true, true, false, false, false, false, false, false, false, false, false, false, false, false, false]) rfl (by kernel_rfl) (by kernel_rfl) (by kernel_rfl) rfl (by rfl) (by kernel_rfl) trivial ?hql31 ?rql31
      case hql31 =>
        intro w' hSw
        clear hSw
        go_simp
        first | with_reducible rfl | (rw [if_neg (by omega)]; done) | (rw [if_neg (by omega)]; with_reducible rfl) | (rw [if_pos (by omega)]; done) | (rw [if_pos (by omega)]; with_reducible rfl) | (simp only [HW1.out, Int.toNat_natCast]; rw [if_pos (by omega)]; done) | (simp only [HW1.out, Int.toNat_natCast]; rw [if_pos (by omega)]; with_reducible rfl) | (simp only [HW1.out]; done) | (simp only [HW1.out]; with_reducible rfl) | (rw [if_neg (by simp only [ByteArray.size_append, lit1, lit0]; omega)]; done) | (rw [if_neg (by simp only [ByteArray.size_append, lit1, lit0]; omega)]; with_reducible rfl) | skip
      simp only [List.setIfInBounds_toArray, List.set_cons_zero, List.set_cons_succ]
      refine hold_take (i := 2) (d := 26) (v := ?vql32) (listed' := #[true, true, true, false, false, false, false, false, false, false, false, false, false, false, false]) rfl (by kernel_rfl) (by kernel_rfl) (by kernel_rfl) rfl (by rfl) (by kernel_rfl) trivial ?hql32 ?rql32
      case hql32 =>
        intro w' hSw
        clear hSw
        go_simp
        first | with_reducible rfl | (rw [if_neg (by omega)]; done) | (rw [if_neg (by omega)]; with_reducible rfl) | (rw [if_pos (by omega)]; done) | (rw [if_pos (by omega)]; with_reducible rfl) | (simp only [HW1.out, Int.toNat_natCast]; rw [if_pos (by omega)]; done) | (simp only [HW1.out, Int.toNat_natCast]; rw [if_pos (by omega)]; with_reducible rfl) | (simp only [HW1.out]; done) | (simp only [HW1.out]; with_reducible rfl) | (rw [if_neg (by simp only [ByteArray.size_append, lit1, lit0]; omega)]; done) | (rw [if_neg (by simp only [ByteArray.size_append, lit1, lit0]; omega)]; with_reducible rfl) | skip
      simp only [List.setIfInBounds_toArray, List.set_cons_zero, List.set_cons_succ]
      refine hold_take (i := 4) (d := 28) (v := ?vql34) (listed' := #[true, true, true, false, true, false, false, false, false, false, false, false, false, false, false]) rfl (by kernel_rfl) (by kernel_rfl) (by kernel_rfl) rfl (by rfl) (by kernel_rfl) trivial ?hql34 ?rql34
      case hql34 =>
        intro w' hSw
        clear hSw
        go_simp
        first | with_reducible rfl | (rw [if_neg (by omega)]; done) | (rw [if_neg (by omega)]; with_reducible rfl) | (rw [if_pos (by omega)]; done) | (rw [if_pos (by omega)]; with_reducible rfl) | (simp only [HW1.out, Int.toNat_natCast]; rw [if_pos (by omega)]; done) | (simp only [HW1.out, Int.toNat_natCast]; rw [if_pos (by omega)]; with_reducible rfl) | (simp only [HW1.out]; done) | (simp only [HW1.out]; with_reducible rfl) | (rw [if_neg (by simp only [ByteArray.size_append, lit1, lit0]; omega)]; done) | (rw [if_neg (by simp only [ByteArray.size_append, lit1, lit0]; omega)]; with_reducible rfl) | skip
      simp only [List.setIfInBounds_toArray, List.set_cons_zero, List.set_cons_succ]
      refine hold_take (i := 9) (d := 33) (v := ?vql39) (listed' := #[true, true, true, false, true, false, false, false, false, true, false, false, false, false, false]) rfl (by kernel_rfl) (by kernel_rfl) (by kernel_rfl) rfl (by rfl) (by kernel_rfl) trivial ?hql39 ?rql39
      case hql39 =>
        intro w' hSw
        clear hSw
        go_simp
        first | with_reducible rfl | (rw [if_neg (by omega)]; done) | (rw [if_neg (by omega)]; with_reducible rfl) | (rw [if_pos (by omega)]; done) | (rw [if_pos (by omega)]; with_reducible rfl) | (simp only [HW1.out, Int.toNat_natCast]; rw [if_pos (by omega)]; done) | (simp only [HW1.out, Int.toNat_natCast]; rw [if_pos (by omega)]; with_reducible rfl) | (simp only [HW1.out]; done) | (simp only [HW1.out]; with_reducible rfl) | (rw [if_neg (by simp only [ByteArray.size_append, lit1, lit0]; omega)]; done) | (rw [if_neg (by simp only [ByteArray.size_append, lit1, lit0]; omega)]; with_reducible rfl) | skip
      simp only [List.setIfInBounds_toArray, List.set_cons_zero, List.set_cons_succ]
      refine hold_take (i := 10) (d := 34) (v := ?vql310) (listed' := #[true, true, true, false, true, false, false, false, false, true, true, false, false, false, false]) rfl (by kernel_rfl) (by kernel_rfl) (by kernel_rfl) rfl (by rfl) (by kernel_rfl) trivial ?hql310 ?rql310
      case hql310 =>
        intro w' hSw
        clear hSw
        go_simp
        first | with_reducible rfl | (rw [if_neg (by omega)]; done) | (rw [if_neg (by omega)]; with_reducible rfl) | (rw [if_pos (by omega)]; done) | (rw [if_pos (by omega)]; with_reducible rfl) | (simp only [HW1.out, Int.toNat_natCast]; rw [if_pos (by omega)]; done) | (simp only [HW1.out, Int.toNat_natCast]; rw [if_pos (by omega)]; with_reducible rfl) | (simp only [HW1.out]; done) | (simp only [HW1.out]; with_reducible rfl) | (rw [if_neg (by simp only [ByteArray.size_append, lit1, lit0]; omega)]; done) | (rw [if_neg (by simp only [ByteArray.size_append, lit1, lit0]; omega)]; with_reducible rfl) | skip
      simp only [List.setIfInBounds_toArray, List.set_cons_zero, List.set_cons_succ]
      refine hold_take (i := 11) (d := 35) (v := ?vql311) (listed' := #[true, true, true, false, true, false, false, false, false, true, true, true, false, false, false]) rfl (by kernel_rfl) (by kernel_rfl) (by kernel_rfl) rfl (by rfl) (by kernel_rfl) trivial ?hql311 ?rql311
      case hql311 =>
        intro w' hSw
        clear hSw
        go_simp
        first | with_reducible rfl | (rw [if_neg (by omega)]; done) | (rw [if_neg (by omega)]; with_reducible rfl) | (rw [if_pos (by omega)]; done) | (rw [if_pos (by omega)]; with_reducible rfl) | (simp only [HW1.out, Int.toNat_natCast]; rw [if_pos (by omega)]; done) | (simp only [HW1.out, Int.toNat_natCast]; rw [if_pos (by omega)]; with_reducible rfl) | (simp only [HW1.out]; done) | (simp only [HW1.out]; with_reducible rfl) | (rw [if_neg (by simp only [ByteArray.size_append, lit1, lit0]; omega)]; done) | (rw [if_neg (by simp only [ByteArray.size_append, lit1, lit0]; omega)]; with_reducible rfl) | skip
      simp only [List.setIfInBounds_toArray, List.set_cons_zero, List.set_cons_succ]
      refine hold_take (i := 12) (d := 36) (v := ?vql312) (listed' := #[true, true, true, false, true, false, false, false, false, true, true, true, true, false, false]) rfl (by kernel_rfl) (by kernel_rfl) (by kernel_rfl) rfl (by rfl) (by kernel_rfl) trivial ?hql312 ?rql312
      case hql312 =>
        intro w' hSw
        clear hSw
        go_simp
        first | with_reducible rfl | (rw [if_neg (by omega)]; done) | (rw [if_neg (by omega)]; with_reducible rfl) | (rw [if_pos (by omega)]; done) | (rw [if_pos (by omega)]; with_reducible rfl) | (simp only [HW1.out, Int.toNat_natCast]; rw [if_pos (by omega)]; done) | (simp only [HW1.out, Int.toNat_natCast]; rw [if_pos (by omega)]; with_reducible rfl) | (simp only [HW1.out]; done) | (simp only [HW1.out]; with_reducible rfl) | (rw [if_neg (by simp only [ByteArray.size_append, lit1, lit0]; omega)]; done) | (rw [if_neg (by simp only [ByteArray.size_append, lit1, lit0]; omega)]; with_reducible rfl) | skip
      simp only [List.setIfInBounds_toArray, List.set_cons_zero, List.set_cons_succ]
      refine hold_two (i := 3) (j := 5) (by kernel_rfl) ?gl3n3 ?gl3n5
      case gl3n3 =>
        have Xl3b := BoxN.start w4.drew #[.string ⟨#[]⟩, .string ⟨#[40]⟩, .string ⟨#[41]⟩, .string ⟨#[100]⟩, .string ⟨#[38]⟩] 9
        have cbl3b := Chg.alloc (fun j => j = rb) w4.drew (.cells #[.string ⟨#[]⟩, .string ⟨#[40]⟩, .string ⟨#[41]⟩, .string ⟨#[100]⟩, .string ⟨#[38]⟩] 9)
        have Rl3b := (Chg.alloc (fun _ => False) w4.drew (.cells #[.string ⟨#[]⟩, .string ⟨#[40]⟩, .string ⟨#[41]⟩, .string ⟨#[100]⟩, .string ⟨#[38]⟩] 9)).rd Rd4 rbW4 (fun h => h)
        have Cl3b := Cd4.trans cbl3b
        have rbWl3b : rb < (w4.drew.alloc (.cells #[.string ⟨#[]⟩, .string ⟨#[40]⟩, .string ⟨#[41]⟩, .string ⟨#[100]⟩, .string ⟨#[38]⟩] 9)).heap.size := by simp; omega
        have blol3b : rb < w4.drew.heap.size := rbW4
        have k0l3b := Xl3b.cell 0 rfl
        have k1l3b := Xl3b.cell 1 rfl
        have k2l3b := Xl3b.cell 2 rfl
        have k3l3b := Xl3b.cell 3 rfl
        have k4l3b := Xl3b.cell 4 rfl
        obtain ⟨bll3b, ebll3b⟩ : ∃ q, w4.drew.heap.size = q := ⟨_, rfl⟩
        refine opH_value (i := 3) (d := 27) (listed' := #[true, true, true, true, true, false, false, false, false, true, true, true, true, false, false]) rfl rfl (by rfl) (by kernel_rfl) (v := .slice (some ⟨w4.drew.heap.size, 0, none⟩) 5 5) (w' := (w4.drew.alloc (.cells #[.string ⟨#[]⟩, .string ⟨#[40]⟩, .string ⟨#[41]⟩, .string ⟨#[100]⟩, .string ⟨#[38]⟩] 9))) ?vl3b trivial ?_
        case vl3b =>
          go_simp
          try with_reducible rfl
        rw [ebll3b] at k0l3b k1l3b k2l3b k3l3b k4l3b blol3b ⊢
        clear ebll3b Xl3b cbl3b
        generalize (w4.drew.alloc (.cells #[.string ⟨#[]⟩, .string ⟨#[40]⟩, .string ⟨#[41]⟩, .string ⟨#[100]⟩, .string ⟨#[38]⟩] 9)) = wbl3b at Rl3b Cl3b rbWl3b k0l3b k1l3b k2l3b k3l3b k4l3b ⊢
        simp only [List.setIfInBounds_toArray, List.set_cons_zero, List.set_cons_succ]
        refine hold_call (i := 5) (d := 29) (listed' := #[true, true, true, true, true, true, false, false, false, true, true, true, true, false, false]) rfl (by kernel_rfl) rfl (by rfl) (by kernel_rfl) ?el3bc (pick_any (q := 5) (by omega) (by omega) (by omega) hn Rl3b (HBY Cl3b) hB) ?_
        case el3bc => go_simp
        rintro e wcl3bc ⟨vp, rfl, vp0, vp1, Rl3bc, Ol3bc⟩
        have ccl3bc := Chg.of_only Ol3bc
        have Cl3bc := Cl3b.trans ccl3bc
        have rbWl3bc : rb < wcl3bc.heap.size := by have := ccl3bc.size; omega
        have k0l3bc := ccl3bc.at_ (p := ⟨bll3b, 0, none⟩) (by show ¬ (bll3b = rb); omega) k0l3b
        have k1l3bc := ccl3bc.at_ (p := ⟨bll3b, 1, none⟩) (by show ¬ (bll3b = rb); omega) k1l3b
        have k2l3bc := ccl3bc.at_ (p := ⟨bll3b, 2, none⟩) (by show ¬ (bll3b = rb); omega) k2l3b
        have k3l3bc := ccl3bc.at_ (p := ⟨bll3b, 3, none⟩) (by show ¬ (bll3b = rb); omega) k3l3b
        have k4l3bc := ccl3bc.at_ (p := ⟨bll3b, 4, none⟩) (by show ¬ (bll3b = rb); omega) k4l3b
        clear Ol3bc ccl3bc
        refine ⟨_, rfl, trivial, ?_⟩
        simp only [List.setIfInBounds_toArray, List.set_cons_zero, List.set_cons_succ]
        obtain ⟨jj, rfl⟩ := Int.eq_ofNat_of_zero_le vp0
        have jj5 : jj < 5 := by omega
        obtain ⟨li, li1, li2⟩ : ∃ li : ByteArray, li.size ≤ 1 ∧ wcl3bc.cell? ⟨bll3b, jj, none⟩ = some (.string li) := by
          rcases (by omega : jj = 0 ∨ jj = 1 ∨ jj = 2 ∨ jj = 3 ∨ jj = 4) with rfl | rfl | rfl | rfl | rfl
          · exact ⟨_, by decide, k0l3bc⟩
          · exact ⟨_, by decide, k1l3bc⟩
          · exact ⟨_, by decide, k2l3bc⟩
          · exact ⟨_, by decide, k3l3bc⟩
          · exact ⟨_, by decide, k4l3bc⟩
        clear k0l3bc k1l3bc k2l3bc k3l3bc k4l3bc
        refine hold_more (S' := fun w' => w'.cell? ⟨bll3b, jj, none⟩ = some (.string li)) (fun _ _ => trivial) _ _ _ _ ?_
        have SSl3bc : (fun w' => w'.cell? ⟨bll3b, jj, none⟩ = some (.string li)) wcl3bc := li2
        refine hold_take (i := 6) (d := 30) (v := ?vql3bc6) (listed' := #[true, true, true, true, true, true, true, false, false, true, true, true, true, false, false]) rfl (by kernel_rfl) (by kernel_rfl) (by kernel_rfl) rfl (by rfl) (by kernel_rfl) SSl3bc ?hql3bc6 ?rql3bc6
        case hql3bc6 =>
          intro w' hSw
          have k0 := hSw
          go_simp
          first | with_reducible rfl | (rw [if_neg (by omega)]; done) | (rw [if_neg (by omega)]; with_reducible rfl) | (rw [if_pos (by omega)]; done) | (rw [if_pos (by omega)]; with_reducible rfl) | (simp only [HW1.out, Int.toNat_natCast]; rw [if_pos (by omega)]; done) | (simp only [HW1.out, Int.toNat_natCast]; rw [if_pos (by omega)]; with_reducible rfl) | (simp only [HW1.out]; done) | (simp only [HW1.out]; with_reducible rfl) | (rw [if_neg (by simp only [ByteArray.size_append, lit1, lit0]; omega)]; done) | (rw [if_neg (by simp only [ByteArray.size_append, lit1, lit0]; omega)]; with_reducible rfl) | skip
        simp only [List.setIfInBounds_toArray, List.set_cons_zero, List.set_cons_succ]
        refine hold_take (i := 7) (d := 31) (v := ?vql3bc7) (listed' := #[true, true, true, true, true, true, true, true, false, true, true, true, true, false, false]) rfl (by kernel_rfl) (by kernel_rfl) (by kernel_rfl) rfl (by rfl) (by kernel_rfl) SSl3bc ?hql3bc7 ?rql3bc7
        case hql3bc7 =>
          intro w' hSw
          have k0 := hSw
          go_simp
          first | with_reducible rfl | (rw [if_neg (by omega)]; done) | (rw [if_neg (by omega)]; with_reducible rfl) | (rw [if_pos (by omega)]; done) | (rw [if_pos (by omega)]; with_reducible rfl) | (simp only [HW1.out, Int.toNat_natCast]; rw [if_pos (by omega)]; done) | (simp only [HW1.out, Int.toNat_natCast]; rw [if_pos (by omega)]; with_reducible rfl) | (simp only [HW1.out]; done) | (simp only [HW1.out]; with_reducible rfl) | (rw [if_neg (by simp only [ByteArray.size_append, lit1, lit0]; omega)]; done) | (rw [if_neg (by simp only [ByteArray.size_append, lit1, lit0]; omega)]; with_reducible rfl) | skip
        simp only [List.setIfInBounds_toArray, List.set_cons_zero, List.set_cons_succ]
        refine hold_take (i := 8) (d := 32) (v := ?vql3bc8) (listed' := #[true, true, true, true, true, true, true, true, true, true, true, true, true, false, false]) rfl (by kernel_rfl) (by kernel_rfl) (by kernel_rfl) rfl (by rfl) (by kernel_rfl) SSl3bc ?hql3bc8 ?rql3bc8
        case hql3bc8 =>
          intro w' hSw
          have k0 := hSw
          go_simp
          first | with_reducible rfl | (rw [if_neg (by omega)]; done) | (rw [if_neg (by omega)]; with_reducible rfl) | (rw [if_pos (by omega)]; done) | (rw [if_pos (by omega)]; with_reducible rfl) | (simp only [HW1.out, Int.toNat_natCast]; rw [if_pos (by omega)]; done) | (simp only [HW1.out, Int.toNat_natCast]; rw [if_pos (by omega)]; with_reducible rfl) | (simp only [HW1.out]; done) | (simp only [HW1.out]; with_reducible rfl) | (rw [if_neg (by simp only [ByteArray.size_append, lit1, lit0]; omega)]; done) | (rw [if_neg (by simp only [ByteArray.size_append, lit1, lit0]; omega)]; with_reducible rfl) | skip
        simp only [List.setIfInBounds_toArray, List.set_cons_zero, List.set_cons_succ]
        refine hold_take (i := 13) (d := 37) (v := ?vql3bc13) (listed' := #[true, true, true, true, true, true, true, true, true, true, true, true, true, true, false]) rfl (by kernel_rfl) (by kernel_rfl) (by kernel_rfl) rfl (by rfl) (by kernel_rfl) SSl3bc ?hql3bc13 ?rql3bc13
        case hql3bc13 =>
          intro w' hSw
          have k0 := hSw
          go_simp
          first | with_reducible rfl | (rw [if_neg (by omega)]; done) | (rw [if_neg (by omega)]; with_reducible rfl) | (rw [if_pos (by omega)]; done) | (rw [if_pos (by omega)]; with_reducible rfl) | (simp only [HW1.out, Int.toNat_natCast]; rw [if_pos (by omega)]; done) | (simp only [HW1.out, Int.toNat_natCast]; rw [if_pos (by omega)]; with_reducible rfl) | (simp only [HW1.out]; done) | (simp only [HW1.out]; with_reducible rfl) | (rw [if_neg (by simp only [ByteArray.size_append, lit1, lit0]; omega)]; done) | (rw [if_neg (by simp only [ByteArray.size_append, lit1, lit0]; omega)]; with_reducible rfl) | skip
        simp only [List.setIfInBounds_toArray, List.set_cons_zero, List.set_cons_succ]
        refine hold_take (i := 14) (d := 4) (v := ?vql3bc14) (listed' := #[true, true, true, true, true, true, true, true, true, true, true, true, true, true, true]) rfl (by kernel_rfl) (by kernel_rfl) (by kernel_rfl) rfl (by rfl) (by kernel_rfl) SSl3bc ?hql3bc14 ?rql3bc14
        case hql3bc14 =>
          intro w' hSw
          have k0 := hSw
          go_simp
          first | with_reducible rfl | (rw [if_neg (by omega)]; done) | (rw [if_neg (by omega)]; with_reducible rfl) | (rw [if_pos (by omega)]; done) | (rw [if_pos (by omega)]; with_reducible rfl) | (simp only [HW1.out, Int.toNat_natCast]; rw [if_pos (by omega)]; done) | (simp only [HW1.out, Int.toNat_natCast]; rw [if_pos (by omega)]; with_reducible rfl) | (simp only [HW1.out]; done) | (simp only [HW1.out]; with_reducible rfl) | (rw [if_neg (by simp only [ByteArray.size_append, lit1, lit0]; omega)]; done) | (rw [if_neg (by simp only [ByteArray.size_append, lit1, lit0]; omega)]; with_reducible rfl) | skip
        simp only [List.setIfInBounds_toArray, List.set_cons_zero, List.set_cons_succ]
        refine hold_done (by kernel_rfl) ?_ _
        go_wp2_with fail
        go_returns
        exact ⟨_, _, rfl, by simp only [ByteArray.size_append]; omega, Rl3bc, by omega, Cl3bc⟩
      case gl3n5 =>
        refine opH_call (i := 5) (d := 29) (listed' := #[true, true, true, false, true, true, false, false, false, true, true, true, true, false, false]) rfl rfl (by rfl) (by kernel_rfl) ?el3c (pick_any (q := 5) (by omega) (by omega) (by omega) hn Rd4 (HBY Cd4) hB) ?_
        case el3c => go_simp
        rintro e wcl3c ⟨vp, rfl, vp0, vp1, Rl3c, Ol3c⟩
        have ccl3c := Chg.of_only Ol3c
        have Cl3c := Cd4.trans ccl3c
        have rbWl3c : rb < wcl3c.heap.size := by have := ccl3c.size; omega
        clear Ol3c ccl3c
        refine ⟨_, rfl, trivial, ?_⟩
        simp only [List.setIfInBounds_toArray, List.set_cons_zero, List.set_cons_succ]
        obtain ⟨jj, rfl⟩ := Int.eq_ofNat_of_zero_le vp0
        have jj5 : jj < 5 := by omega
        have Xl3cb := BoxN.start wcl3c #[.string ⟨#[]⟩, .string ⟨#[40]⟩, .string ⟨#[41]⟩, .string ⟨#[100]⟩, .string ⟨#[38]⟩] 9
        have cbl3cb := Chg.alloc (fun j => j = rb) wcl3c (.cells #[.string ⟨#[]⟩, .string ⟨#[40]⟩, .string ⟨#[41]⟩, .string ⟨#[100]⟩, .string ⟨#[38]⟩] 9)
        have Rl3cb := (Chg.alloc (fun _ => False) wcl3c (.cells #[.string ⟨#[]⟩, .string ⟨#[40]⟩, .string ⟨#[41]⟩, .string ⟨#[100]⟩, .string ⟨#[38]⟩] 9)).rd Rl3c rbWl3c (fun h => h)
        have Cl3cb := Cl3c.trans cbl3cb
        have rbWl3cb : rb < (wcl3c.alloc (.cells #[.string ⟨#[]⟩, .string ⟨#[40]⟩, .string ⟨#[41]⟩, .string ⟨#[100]⟩, .string ⟨#[38]⟩] 9)).heap.size := by simp; omega
        have blol3cb : rb < wcl3c.heap.size := rbWl3c
        have k0l3cb := Xl3cb.cell 0 rfl
        have k1l3cb := Xl3cb.cell 1 rfl
        have k2l3cb := Xl3cb.cell 2 rfl
        have k3l3cb := Xl3cb.cell 3 rfl
        have k4l3cb := Xl3cb.cell 4 rfl
        obtain ⟨bll3cb, ebll3cb⟩ : ∃ q, wcl3c.heap.size = q := ⟨_, rfl⟩
        refine hold_value (i := 3) (d := 27) (listed' := #[true, true, true, true, true, true, false, false, false, true, true, true, true, false, false]) rfl (by kernel_rfl) rfl (by rfl) (by kernel_rfl) (v := .slice (some ⟨wcl3c.heap.size, 0, none⟩) 5 5) (w' := (wcl3c.alloc (.cells #[.string ⟨#[]⟩, .string ⟨#[40]⟩, .string ⟨#[41]⟩, .string ⟨#[100]⟩, .string ⟨#[38]⟩] 9))) ?vl3cb trivial ?_
        case vl3cb =>
          go_simp
          try with_reducible rfl
        rw [ebll3cb] at k0l3cb k1l3cb k2l3cb k3l3cb k4l3cb blol3cb ⊢
        clear ebll3cb Xl3cb cbl3cb
        generalize (wcl3c.alloc (.cells #[.string ⟨#[]⟩, .string ⟨#[40]⟩, .string ⟨#[41]⟩, .string ⟨#[100]⟩, .string ⟨#[38]⟩] 9)) = wbl3cb at Rl3cb Cl3cb rbWl3cb k0l3cb k1l3cb k2l3cb k3l3cb k4l3cb ⊢
        simp only [List.setIfInBounds_toArray, List.set_cons_zero, List.set_cons_succ]
        obtain ⟨li, li1, li2⟩ : ∃ li : ByteArray, li.size ≤ 1 ∧ wbl3cb.cell? ⟨bll3cb, jj, none⟩ = some (.string li) := by
          rcases (by omega : jj = 0 ∨ jj = 1 ∨ jj = 2 ∨ jj = 3 ∨ jj = 4) with rfl | rfl | rfl | rfl | rfl
          · exact ⟨_, by decide, k0l3cb⟩
          · exact ⟨_, by decide, k1l3cb⟩
          · exact ⟨_, by decide, k2l3cb⟩
          · exact ⟨_, by decide, k3l3cb⟩
          · exact ⟨_, by decide, k4l3cb⟩
        clear k0l3cb k1l3cb k2l3cb k3l3cb k4l3cb
        refine hold_more (S' := fun w' => w'.cell? ⟨bll3cb, jj, none⟩ = some (.string li)) (fun _ _ => trivial) _ _ _ _ ?_
        have SSl3cb : (fun w' => w'.cell? ⟨bll3cb, jj, none⟩ = some (.string li)) wbl3cb := li2
        refine hold_take (i := 6) (d := 30) (v := ?vql3cb6) (listed' := #[true, true, true, true, true, true, true, false, false, true, true, true, true, false, false]) rfl (by kernel_rfl) (by kernel_rfl) (by kernel_rfl) rfl (by rfl) (by kernel_rfl) SSl3cb ?hql3cb6 ?rql3cb6
        case hql3cb6 =>
          intro w' hSw
          have k0 := hSw
          go_simp
          first | with_reducible rfl | (rw [if_neg (by omega)]; done) | (rw [if_neg (by omega)]; with_reducible rfl) | (rw [if_pos (by omega)]; done) | (rw [if_pos (by omega)]; with_reducible rfl) | (simp only [HW1.out, Int.toNat_natCast]; rw [if_pos (by omega)]; done) | (simp only [HW1.out, Int.toNat_natCast]; rw [if_pos (by omega)]; with_reducible rfl) | (simp only [HW1.out]; done) | (simp only [HW1.out]; with_reducible rfl) | (rw [if_neg (by simp only [ByteArray.size_append, lit1, lit0]; omega)]; done) | (rw [if_neg (by simp only [ByteArray.size_append, lit1, lit0]; omega)]; with_reducible rfl) | skip
        simp only [List.setIfInBounds_toArray, List.set_cons_zero, List.set_cons_succ]
        refine hold_take (i := 7) (d := 31) (v := ?vql3cb7) (listed' := #[true, true, true, true, true, true, true, true, false, true, true, true, true, false, false]) rfl (by kernel_rfl) (by kernel_rfl) (by kernel_rfl) rfl (by rfl) (by kernel_rfl) SSl3cb ?hql3cb7 ?rql3cb7
        case hql3cb7 =>
          intro w' hSw
          have k0 := hSw
          go_simp
          first | with_reducible rfl | (rw [if_neg (by omega)]; done) | (rw [if_neg (by omega)]; with_reducible rfl) | (rw [if_pos (by omega)]; done) | (rw [if_pos (by omega)]; with_reducible rfl) | (simp only [HW1.out, Int.toNat_natCast]; rw [if_pos (by omega)]; done) | (simp only [HW1.out, Int.toNat_natCast]; rw [if_pos (by omega)]; with_reducible rfl) | (simp only [HW1.out]; done) | (simp only [HW1.out]; with_reducible rfl) | (rw [if_neg (by simp only [ByteArray.size_append, lit1, lit0]; omega)]; done) | (rw [if_neg (by simp only [ByteArray.size_append, lit1, lit0]; omega)]; with_reducible rfl) | skip
        simp only [List.setIfInBounds_toArray, List.set_cons_zero, List.set_cons_succ]
        refine hold_take (i := 8) (d := 32) (v := ?vql3cb8) (listed' := #[true, true, true, true, true, true, true, true, true, true, true, true, true, false, false]) rfl (by kernel_rfl) (by kernel_rfl) (by kernel_rfl) rfl (by rfl) (by kernel_rfl) SSl3cb ?hql3cb8 ?rql3cb8
        case hql3cb8 =>
          intro w' hSw
          have k0 := hSw
          go_simp
          first | with_reducible rfl | (rw [if_neg (by omega)]; done) | (rw [if_neg (by omega)]; with_reducible rfl) | (rw [if_pos (by omega)]; done) | (rw [if_pos (by omega)]; with_reducible rfl) | (simp only [HW1.out, Int.toNat_natCast]; rw [if_pos (by omega)]; done) | (simp only [HW1.out, Int.toNat_natCast]; rw [if_pos (by omega)]; with_reducible rfl) | (simp only [HW1.out]; done) | (simp only [HW1.out]; with_reducible rfl) | (rw [if_neg (by simp only [ByteArray.size_append, lit1, lit0]; omega)]; done) | (rw [if_neg (by simp only [ByteArray.size_append, lit1, lit0]; omega)]; with_reducible rfl) | skip
        simp only [List.setIfInBounds_toArray, List.set_cons_zero, List.set_cons_succ]
        refine hold_take (i := 13) (d := 37) (v := ?vql3cb13) (listed' := #[true, true, true, true, true, true, true, true, true, true, true, true, true, true, false]) rfl (by kernel_rfl) (by kernel_rfl) (by kernel_rfl) rfl (by rfl) (by kernel_rfl) SSl3cb ?hql3cb13 ?rql3cb13
        case hql3cb13 =>
          intro w' hSw
          have k0 := hSw
          go_simp
          first | with_reducible rfl | (rw [if_neg (by omega)]; done) | (rw [if_neg (by omega)]; with_reducible rfl) | (rw [if_pos (by omega)]; done) | (rw [if_pos (by omega)]; with_reducible rfl) | (simp only [HW1.out, Int.toNat_natCast]; rw [if_pos (by omega)]; done) | (simp only [HW1.out, Int.toNat_natCast]; rw [if_pos (by omega)]; with_reducible rfl) | (simp only [HW1.out]; done) | (simp only [HW1.out]; with_reducible rfl) | (rw [if_neg (by simp only [ByteArray.size_append, lit1, lit0]; omega)]; done) | (rw [if_neg (by simp only [ByteArray.size_append, lit1, lit0]; omega)]; with_reducible rfl) | skip
        simp only [List.setIfInBounds_toArray, List.set_cons_zero, List.set_cons_succ]
        refine hold_take (i := 14) (d := 4) (v := ?vql3cb14) (listed' := #[true, true, true, true, true, true, true, true, true, true, true, true, true, true, true]) rfl (by kernel_rfl) (by kernel_rfl) (by kernel_rfl) rfl (by rfl) (by kernel_rfl) SSl3cb ?hql3cb14 ?rql3cb14
        case hql3cb14 =>
          intro w' hSw
          have k0 := hSw
          go_simp
          first | with_reducible rfl | (rw [if_neg (by omega)]; done) | (rw [if_neg (by omega)]; with_reducible rfl) | (rw [if_pos (by omega)]; done) | (rw [if_pos (by omega)]; with_reducible rfl) | (simp only [HW1.out, Int.toNat_natCast]; rw [if_pos (by omega)]; done) | (simp only [HW1.out, Int.toNat_natCast]; rw [if_pos (by omega)]; with_reducible rfl) | (simp only [HW1.out]; done) | (simp only [HW1.out]; with_reducible rfl) | (rw [if_neg (by simp only [ByteArray.size_append, lit1, lit0]; omega)]; done) | (rw [if_neg (by simp only [ByteArray.size_append, lit1, lit0]; omega)]; with_reducible rfl) | skip
        simp only [List.setIfInBounds_toArray, List.set_cons_zero, List.set_cons_succ]
        refine hold_done (by kernel_rfl) ?_ _
        go_wp2_with fail
        go_returns
        exact ⟨_, _, rfl, by simp only [ByteArray.size_append]; omega, Rl3cb, by omega, Cl3cb⟩
  case inr.inl =>
    go_wp2_with fail
    obtain ⟨sz, hsz⟩ : ∃ sz, (ByteArray.mk #[40, 97, 124, 33, 97, 41]) = sz := ⟨_, rfl⟩
    have sz1 : 1 ≤ sz.size := by rw [← hsz]; decide
    have sz2 : sz.size ≤ 29 := by rw [← hsz]; decide
    rw [hsz]
    clear hsz s0lo s0hi
    go_at_call 37
    refine (odd_any hq1 hq2 (by omega) hn R2 (HBY C2) hB).mono ?_
    rintro e w3 ⟨⟨xo, rfl⟩, R3, O3⟩
    have C3 := C2.trans (Chg.of_only O3)
    have rbW3 : rb < w3.heap.size := by have := (Chg.of_only O3).size; omega
    clear O3 R2 C2 rbW2
    cases xo with
    | false =>
      go_wp2_with fail
      go_returns
      exact ⟨_, _, rfl, by omega, R3, by omega, C3⟩
    | true =>
      go_wp2_with fail
      go_at_call 14
      refine (pick_any (q := (sz.size : Int)) (by omega) (by omega) (by omega) hn R3 (HBY C3) hB).mono ?_
      rintro e w4 ⟨v4, rfl, v40, v41, R4, O4⟩
      have C4 := C3.trans (Chg.of_only O4)
      have rbW4' : rb < w4.heap.size := by have := (Chg.of_only O4).size; omega
      clear O4 R3 C3 rbW3
      obtain ⟨kq, rfl⟩ := Int.eq_ofNat_of_zero_le v40
      have hk1 : kq < sz.size := by omega
      have hx1 := ext_le sz 0 kq
      have hx2 := ext_le sz (kq + 1) sz.size
      have HW1 : Hid (IntKind.i64.wrap ((kq : Int) + 1) = ((kq + 1 : Nat) : Int)) := by show _ = _; simp (disch := omega) only [IntWalk.i64_in]; omega
      go_wp2_with fail
      have Rd4 : Rd w4.drew rb A n c _ := R4
      have Cd4 := C4.trans (Chg.drew (fun j => j = rb) w4)
      have rbW4 : rb < w4.drew.heap.size := rbW4'
      refine region_plain (fuel := 15) (listed := #[false, false, false, false, false, false, false, false, false, false, false, false, false, false, false]) (fun _ => True) (by kernel_rfl) (by kernel_rfl) (by kernel_rfl) ?_
      refine hold_take (i := 0) (d := 24) (v := ?vql70) (listed' := #[true, false, false, false, false, false, false, false, false, false, false, false, false, false, false]) rfl (by kernel_rfl) (by kernel_rfl) (by kernel_rfl) rfl (by rfl) (by kernel_rfl) trivial ?hql70 ?rql70
      case hql70 =>
        intro w' hSw
        clear hSw
        go_simp
        first | with_reducible rfl | (rw [if_neg (by omega)]; done) | (rw [if_neg (by omega)]; with_reducible rfl) | (rw [if_pos (by omega)]; done) | (rw [if_pos (by omega)]; with_reducible rfl) | (simp only [HW1.out, Int.toNat_natCast]; rw [if_pos (by omega)]; done) | (simp only [HW1.out, Int.toNat_natCast]; rw [if_pos (by omega)]; with_reducible rfl) | (simp only [HW1.out]; done) | (simp only [HW1.out]; with_reducible rfl) | (rw [if_neg (by simp only [ByteArray.size_append, lit1, lit0]; omega)]; done) | (rw [if_neg (by simp only [ByteArray.size_append, lit1, lit0]; omega)]; with_reducible rfl) | skip
      simp only [List.setIfInBounds_toArray, List.set_cons_zero, List.set_cons_succ]
      refine hold_take (i := 1) (d := 25) (v := ?vql71) (listed' := #[true, true, false, false, false, false, false, false, false, false, false, false, false, false, false]) rfl (by kernel_rfl) (by kernel_rfl) (by kernel_rfl) rfl (by rfl) (by kernel_rfl) trivial ?hql71 ?rql71
      case hql71 =>
        intro w' hSw
        clear hSw
        go_simp
        first | with_reducible rfl | (rw [if_neg (by omega)]; done) | (rw [if_neg (by omega)]; with_reducible rfl) | (rw [if_pos (by omega)]; done) | (rw [if_pos (by omega)]; with_reducible rfl) | (simp only [HW1.out, Int.toNat_natCast]; rw [if_pos (by omega)]; done) | (simp only [HW1.out, Int.toNat_natCast]; rw [if_pos (by omega)]; with_reducible rfl) | (simp only [HW1.out]; done) | (simp only [HW1.out]; with_reducible rfl) | (rw [if_neg (by simp only [ByteArray.size_append, lit1, lit0]; omega)]; done) | (rw [if_neg (by simp only [ByteArray.size_append, lit1, lit0]; omega)]; with_reducible rfl) | skip
      simp only [List.setIfInBounds_toArray, List.set_cons_zero, List.set_cons_succ]
      refine hold_take (i := 2) (d := 26) (v := ?vql72) (listed' := #[true, true, true, false, false, false, false, false, false, false, false, false, false, false, false]) rfl (by kernel_rfl) (by kernel_rfl) (by kernel_rfl) rfl (by rfl) (by kernel_rfl) trivial ?hql72 ?rql72
      case hql72 =>
        intro w' hSw
        clear hSw
        go_simp
        first | with_reducible rfl | (rw [if_neg (by omega)]; done) | (rw [if_neg (by omega)]; with_reducible rfl) | (rw [if_pos (by omega)]; done) | (rw [if_pos (by omega)]; with_reducible rfl) | (simp only [HW1.out, Int.toNat_natCast]; rw [if_pos (by omega)]; done) | (simp only [HW1.out, Int.toNat_natCast]; rw [if_pos (by omega)]; with_reducible rfl) | (simp only [HW1.out]; done) | (simp only [HW1.out]; with_reducible rfl) | (rw [if_neg (by simp only [ByteArray.size_append, lit1, lit0]; omega)]; done) | (rw [if_neg (by simp only [ByteArray.size_append, lit1, lit0]; omega)]; with_reducible rfl) | skip
      simp only [List.setIfInBounds_toArray, List.set_cons_zero, List.set_cons_succ]
      refine hold_take (i := 4) (d := 28) (v := ?vql74) (listed' := #[true, true, true, false, true, false, false, false, false, false, false, false, false, false, false]) rfl (by kernel_rfl) (by kernel_rfl) (by kernel_rfl) rfl (by rfl) (by kernel_rfl) trivial ?hql74 ?rql74
      case hql74 =>
        intro w' hSw
        clear hSw
        go_simp
        first | with_reducible rfl | (rw [if_neg (by omega)]; done) | (rw [if_neg (by omega)]; with_reducible rfl) | (rw [if_pos (by omega)]; done) | (rw [if_pos (by omega)]; with_reducible rfl) | (simp only [HW1.out, Int.toNat_natCast]; rw [if_pos (by omega)]; done) | (simp only [HW1.out, Int.toNat_natCast]; rw [if_pos (by omega)]; with_reducible rfl) | (simp only [HW1.out]; done) | (simp only [HW1.out]; with_reducible rfl) | (rw [if_neg (by simp only [ByteArray.size_append, lit1, lit0]; omega)]; done) | (rw [if_neg (by simp only [ByteArray.size_append, lit1, lit0]; omega)]; with_reducible rfl) | skip
      simp only [List.setIfInBounds_toArray, List.set_cons_zero, List.set_cons_succ]
      refine hold_take (i := 9) (d := 33) (v := ?vql79) (listed' := #[true, true, true, false, true, false, false, false, false, true, false, false, false, false, false]) rfl (by kernel_rfl) (by kernel_rfl) (by kernel_rfl) rfl (by rfl) (by kernel_rfl) trivial ?hql79 ?rql79
      case hql79 =>
        intro w' hSw
        clear hSw
        go_simp
        first | with_reducible rfl | (rw [if_neg (by omega)]; done) | (rw [if_neg (by omega)]; with_reducible rfl) | (rw [if_pos (by omega)]; done) | (rw [if_pos (by omega)]; with_reducible rfl) | (simp only [HW1.out, Int.toNat_natCast]; rw [if_pos (by omega)]; done) | (simp only [HW1.out, Int.toNat_natCast]; rw [if_pos (by omega)]; with_reducible rfl) | (simp only [HW1.out]; done) | (simp only [HW1.out]; with_reducible rfl) | (rw [if_neg (by simp only [ByteArray.size_append, lit1, lit0]; omega)]; done) | (rw [if_neg (by simp only [ByteArray.size_append, lit1, lit0]; omega)]; with_reducible rfl) | skip
      simp only [List.setIfInBounds_toArray, List.set_cons_zero, List.set_cons_succ]
      refine hold_take (i := 10) (d := 34) (v := ?vql710) (listed' := #[true, true, true, false, true, false, false, false, false, true, true, false, false, false, false]) rfl (by kernel_rfl) (by kernel_rfl) (by kernel_rfl) rfl (by rfl) (by kernel_rfl) trivial ?hql710 ?rql710
      case hql710 =>
        intro w' hSw
        clear hSw
        go_simp
        first | with_reducible rfl | (rw [if_neg (by omega)]; done) | (rw [if_neg (by omega)]; with_reducible rfl) | (rw [if_pos (by omega)]; done) | (rw [if_pos (by omega)]; with_reducible rfl) | (simp only [HW1.out, Int.toNat_natCast]; rw [if_pos (by omega)]; done) | (simp only [HW1.out, Int.toNat_natCast]; rw [if_pos (by omega)]; with_reducible rfl) | (simp only [HW1.out]; done) | (simp only [HW1.out]; with_reducible rfl) | (rw [if_neg (by simp only [ByteArray.size_append, lit1, lit0]; omega)]; done) | (rw [if_neg (by simp only [ByteArray.size_append, lit1, lit0]; omega)]; with_reducible rfl) | skip
      simp only [List.setIfInBounds_toArray, List.set_cons_zero, List.set_cons_succ]
      refine hold_take (i := 11) (d := 35) (v := ?vql711) (listed' := #[true, true, true, false, true, false, false, false, false, true, true, true, false, false, false]) rfl (by kernel_rfl) (by kernel_rfl) (by kernel_rfl) rfl (by rfl) (by kernel_rfl) trivial ?hql711 ?rql711
      case hql711 =>
        intro w' hSw
        clear hSw
        go_simp
        first | with_reducible rfl | (rw [if_neg (by omega)]; done) | (rw [if_neg (by omega)]; with_reducible rfl) | (rw [if_pos (by omega)]; done) | (rw [if_pos (by omega)]; with_reducible rfl) | (simp only [HW1.out, Int.toNat_natCast]; rw [if_pos (by omega)]; done) | (simp only [HW1.out, Int.toNat_natCast]; rw [if_pos (by omega)]; with_reducible rfl) | (simp only [HW1.out]; done) | (simp only [HW1.out]; with_reducible rfl) | (rw [if_neg (by simp only [ByteArray.size_append, lit1, lit0]; omega)]; done) | (rw [if_neg (by simp only [ByteArray.size_append, lit1, lit0]; omega)]; with_reducible rfl) | skip
      simp only [List.setIfInBounds_toArray, List.set_cons_zero, List.set_cons_succ]
      refine hold_take (i := 12) (d := 36) (v := ?vql712) (listed' := #[true, true, true, false, true, false, false, false, false, true, true, true, true, false, false]) rfl (by kernel_rfl) (by kernel_rfl) (by kernel_rfl) rfl (by rfl) (by kernel_rfl) trivial ?hql712 ?rql712
      case hql712 =>
        intro w' hSw
        clear hSw
        go_simp
        first | with_reducible rfl | (rw [if_neg (by omega)]; done) | (rw [if_neg (by omega)]; with_reducible rfl) | (rw [if_pos (by omega)]; done) | (rw [if_pos (by omega)]; with_reducible rfl) | (simp only [HW1.out, Int.toNat_natCast]; rw [if_pos (by omega)]; done) | (simp only [HW1.out, Int.toNat_natCast]; rw [if_pos (by omega)]; with_reducible rfl) | (simp only [HW1.out]; done) | (simp only [HW1.out]; with_reducible rfl) | (rw [if_neg (by simp only [ByteArray.size_append, lit1, lit0]; omega)]; done) | (rw [if_neg (by simp only [ByteArray.size_append, lit1, lit0]; omega)]; with_reducible rfl) | skip
      simp only [List.setIfInBounds_toArray, List.set_cons_zero, List.set_cons_succ]
      refine hold_two (i := 3) (j := 5) (by kernel_rfl) ?gl7n3 ?gl7n5
      case gl7n3 =>
        have Xl7b := BoxN.start w4.drew #[.string ⟨#[]⟩, .string ⟨#[40]⟩, .string ⟨#[41]⟩, .string ⟨#[100]⟩, .string ⟨#[38]⟩] 9
        have cbl7b := Chg.alloc (fun j => j = rb) w4.drew (.cells #[.string ⟨#[]⟩, .string ⟨#[40]⟩, .string ⟨#[41]⟩, .string ⟨#[100]⟩, .string ⟨#[38]⟩] 9)
        have Rl7b := (Chg.alloc (fun _ => False) w4.drew (.cells #[.string ⟨#[]⟩, .string ⟨#[40]⟩, .string ⟨#[41]⟩, .string ⟨#[100]⟩, .string ⟨#[38]⟩] 9)).rd Rd4 rbW4 (fun h => h)
        have Cl7b := Cd4.trans cbl7b
        have rbWl7b : rb < (w4.drew.alloc (.cells #[.string ⟨#[]⟩, .string ⟨#[40]⟩, .string ⟨#[41]⟩, .string ⟨#[100]⟩, .string ⟨#[38]⟩] 9)).heap.size := by simp; omega
        have blol7b : rb < w4.drew.heap.size := rbW4
        have k0l7b := Xl7b.cell 0 rfl
        have k1l7b := Xl7b.cell 1 rfl
        have k2l7b := Xl7b.cell 2 rfl
        have k3l7b := Xl7b.cell 3 rfl
        have k4l7b := Xl7b.cell 4 rfl
        obtain ⟨bll7b, ebll7b⟩ : ∃ q, w4.drew.heap.size = q := ⟨_, rfl⟩
        refine opH_value (i := 3) (d := 27) (listed' := #[true, true, true, true, true, false, false, false, false, true, true, true, true, false, false]) rfl rfl (by rfl) (by kernel_rfl) (v := .slice (some ⟨w4.drew.heap.size, 0, none⟩) 5 5) (w' := (w4.drew.alloc (.cells #[.string ⟨#[]⟩, .string ⟨#[40]⟩, .string ⟨#[41]⟩, .string ⟨#[100]⟩, .string ⟨#[38]⟩] 9))) ?vl7b trivial ?_
        case vl7b =>
          go_simp
          try with_reducible rfl
        rw [ebll7b] at k0l7b k1l7b k2l7b k3l7b k4l7b blol7b ⊢
        clear ebll7b Xl7b cbl7b
        generalize (w4.drew.alloc (.cells #[.string ⟨#[]⟩, .string ⟨#[40]⟩, .string ⟨#[41]⟩, .string ⟨#[100]⟩, .string ⟨#[38]⟩] 9)) = wbl7b at Rl7b Cl7b rbWl7b k0l7b k1l7b k2l7b k3l7b k4l7b ⊢
        simp only [List.setIfInBounds_toArray, List.set_cons_zero, List.set_cons_succ]
        refine hold_call (i := 5) (d := 29) (listed' := #[true, true, true, true, true, true, false, false, false, true, true, true, true, false, false]) rfl (by kernel_rfl) rfl (by rfl) (by kernel_rfl) ?el7bc (pick_any (q := 5) (by omega) (by omega) (by omega) hn Rl7b (HBY Cl7b) hB) ?_
        case el7bc => go_simp
        rintro e wcl7bc ⟨vp, rfl, vp0, vp1, Rl7bc, Ol7bc⟩
        have ccl7bc := Chg.of_only Ol7bc
        have Cl7bc := Cl7b.trans ccl7bc
        have rbWl7bc : rb < wcl7bc.heap.size := by have := ccl7bc.size; omega
        have k0l7bc := ccl7bc.at_ (p := ⟨bll7b, 0, none⟩) (by show ¬ (bll7b = rb); omega) k0l7b
        have k1l7bc := ccl7bc.at_ (p := ⟨bll7b, 1, none⟩) (by show ¬ (bll7b = rb); omega) k1l7b
        have k2l7bc := ccl7bc.at_ (p := ⟨bll7b, 2, none⟩) (by show ¬ (bll7b = rb); omega) k2l7b
        have k3l7bc := ccl7bc.at_ (p := ⟨bll7b, 3, none⟩) (by show ¬ (bll7b = rb); omega) k3l7b
        have k4l7bc := ccl7bc.at_ (p := ⟨bll7b, 4, none⟩) (by show ¬ (bll7b = rb); omega) k4l7b
        clear Ol7bc ccl7bc
        refine ⟨_, rfl, trivial, ?_⟩
        simp only [List.setIfInBounds_toArray, List.set_cons_zero, List.set_cons_succ]
        obtain ⟨jj, rfl⟩ := Int.eq_ofNat_of_zero_le vp0
        have jj5 : jj < 5 := by omega
        obtain ⟨li, li1, li2⟩ : ∃ li : ByteArray, li.size ≤ 1 ∧ wcl7bc.cell? ⟨bll7b, jj, none⟩ = some (.string li) := by
          rcases (by omega : jj = 0 ∨ jj = 1 ∨ jj = 2 ∨ jj = 3 ∨ jj = 4) with rfl | rfl | rfl | rfl | rfl
          · exact ⟨_, by decide, k0l7bc⟩
          · exact ⟨_, by decide, k1l7bc⟩
          · exact ⟨_, by decide, k2l7bc⟩
          · exact ⟨_, by decide, k3l7bc⟩
          · exact ⟨_, by decide, k4l7bc⟩
        clear k0l7bc k1l7bc k2l7bc k3l7bc k4l7bc
        refine hold_more (S' := fun w' => w'.cell? ⟨bll7b, jj, none⟩ = some (.string li)) (fun _ _ => trivial) _ _ _ _ ?_
        have SSl7bc : (fun w' => w'.cell? ⟨bll7b, jj, none⟩ = some (.string li)) wcl7bc := li2
        refine hold_take (i := 6) (d := 30) (v := ?vql7bc6) (listed' := #[true, true, true, true, true, true, true, false, false, true, true, true, true, false, false]) rfl (by kernel_rfl) (by kernel_rfl) (by kernel_rfl) rfl (by rfl) (by kernel_rfl) SSl7bc ?hql7bc6 ?rql7bc6
        case hql7bc6 =>
          intro w' hSw
          have k0 := hSw
          go_simp
          first | with_reducible rfl | (rw [if_neg (by omega)]; done) | (rw [if_neg (by omega)]; with_reducible rfl) | (rw [if_pos (by omega)]; done) | (rw [if_pos (by omega)]; with_reducible rfl) | (simp only [HW1.out, Int.toNat_natCast]; rw [if_pos (by omega)]; done) | (simp only [HW1.out, Int.toNat_natCast]; rw [if_pos (by omega)]; with_reducible rfl) | (simp only [HW1.out]; done) | (simp only [HW1.out]; with_reducible rfl) | (rw [if_neg (by simp only [ByteArray.size_append, lit1, lit0]; omega)]; done) | (rw [if_neg (by simp only [ByteArray.size_append, lit1, lit0]; omega)]; with_reducible rfl) | skip
        simp only [List.setIfInBounds_toArray, List.set_cons_zero, List.set_cons_succ]
        refine hold_take (i := 7) (d := 31) (v := ?vql7bc7) (listed' := #[true, true, true, true, true, true, true, true, false, true, true, true, true, false, false]) rfl (by kernel_rfl) (by kernel_rfl) (by kernel_rfl) rfl (by rfl) (by kernel_rfl) SSl7bc ?hql7bc7 ?rql7bc7
        case hql7bc7 =>
          intro w' hSw
          have k0 := hSw
          go_simp
          first | with_reducible rfl | (rw [if_neg (by omega)]; done) | (rw [if_neg (by omega)]; with_reducible rfl) | (rw [if_pos (by omega)]; done) | (rw [if_pos (by omega)]; with_reducible rfl) | (simp only [HW1.out, Int.toNat_natCast]; rw [if_pos (by omega)]; done) | (simp only [HW1.out, Int.toNat_natCast]; rw [if_pos (by omega)]; with_reducible rfl) | (simp only [HW1.out]; done) | (simp only [HW1.out]; with_reducible rfl) | (rw [if_neg (by simp only [ByteArray.size_append, lit1, lit0]; omega)]; done) | (rw [if_neg (by simp only [ByteArray.size_append, lit1, lit0]; omega)]; with_reducible rfl) | skip
        simp only [List.setIfInBounds_toArray, List.set_cons_zero, List.set_cons_succ]
        refine hold_take (i := 8) (d := 32) (v := ?vql7bc8) (listed' := #[true, true, true, true, true, true, true, true, true, true, true, true, true, false, false]) rfl (by kernel_rfl) (by kernel_rfl) (by kernel_rfl) rfl (by rfl) (by kernel_rfl) SSl7bc ?hql7bc8 ?rql7bc8
        case hql7bc8 =>
          intro w' hSw
          have k0 := hSw
          go_simp
          first | with_reducible rfl | (rw [if_neg (by omega)]; done) | (rw [if_neg (by omega)]; with_reducible rfl) | (rw [if_pos (by omega)]; done) | (rw [if_pos (by omega)]; with_reducible rfl) | (simp only [HW1.out, Int.toNat_natCast]; rw [if_pos (by omega)]; done) | (simp only [HW1.out, Int.toNat_natCast]; rw [if_pos (by omega)]; with_reducible rfl) | (simp only [HW1.out]; done) | (simp only [HW1.out]; with_reducible rfl) | (rw [if_neg (by simp only [ByteArray.size_append, lit1, lit0]; omega)]; done) | (rw [if_neg (by simp only [ByteArray.size_append, lit1, lit0]; omega)]; with_reducible rfl) | skip
        simp only [List.setIfInBounds_toArray, List.set_cons_zero, List.set_cons_succ]
        refine hold_take (i := 13) (d := 37) (v := ?vql7bc13) (listed' := #[true, true, true, true, true, true, true, true, true, true, true, true, true, true, false]) rfl (by kernel_rfl) (by kernel_rfl) (by kernel_rfl) rfl (by rfl) (by kernel_rfl) SSl7bc ?hql7bc13 ?rql7bc13
        case hql7bc13 =>
          intro w' hSw
          have k0 := hSw
          go_simp
          first | with_reducible rfl | (rw [if_neg (by omega)]; done) | (rw [if_neg (by omega)]; with_reducible rfl) | (rw [if_pos (by omega)]; done) | (rw [if_pos (by omega)]; with_reducible rfl) | (simp only [HW1.out, Int.toNat_natCast]; rw [if_pos (by omega)]; done) | (simp only [HW1.out, Int.toNat_natCast]; rw [if_pos (by omega)]; with_reducible rfl) | (simp only [HW1.out]; done) | (simp only [HW1.out]; with_reducible rfl) | (rw [if_neg (by simp only [ByteArray.size_append, lit1, lit0]; omega)]; done) | (rw [if_neg (by simp only [ByteArray.size_append, lit1, lit0]; omega)]; with_reducible rfl) | skip
        simp only [List.setIfInBounds_toArray, List.set_cons_zero, List.set_cons_succ]
        refine hold_take (i := 14) (d := 4) (v := ?vql7bc14) (listed' := #[true, true, true, true, true, true, true, true, true, true, true, true, true, true, true]) rfl (by kernel_rfl) (by kernel_rfl) (by kernel_rfl) rfl (by rfl) (by kernel_rfl) SSl7bc ?hql7bc14 ?rql7bc14
        case hql7bc14 =>
          intro w' hSw
          have k0 := hSw
          go_simp
          first | with_reducible rfl | (rw [if_neg (by omega)]; done) | (rw [if_neg (by omega)]; with_reducible rfl) | (rw [if_pos (by omega)]; done) | (rw [if_pos (by omega)]; with_reducible rfl) | (simp only [HW1.out, Int.toNat_natCast]; rw [if_pos (by omega)]; done) | (simp only [HW1.out, Int.toNat_natCast]; rw [if_pos (by omega)]; with_reducible rfl) | (simp only [HW1.out]; done) | (simp only [HW1.out]; with_reducible rfl) | (rw [if_neg (by simp only [ByteArray.size_append, lit1, lit0]; omega)]; done) | (rw [if_neg (by simp only [ByteArray.size_append, lit1, lit0]; omega)]; with_reducible rfl) | skip
        simp only [List.setIfInBounds_toArray, List.set_cons_zero, List.set_cons_succ]
        refine hold_done (by kernel_rfl) ?_ _
        go_wp2_with fail
        go_returns
        exact ⟨_, _, rfl, by simp only [ByteArray.size_append]; omega, Rl7bc, by omega, Cl7bc⟩
      case gl7n5 =>
        refine opH_call (i := 5) (d := 29) (listed' := #[true, true, true, false, true, true, false, false, false, true, true, true, true, false, false]) rfl rfl (by rfl) (by kernel_rfl) ?el7c (pick_any (q := 5) (by omega) (by omega) (by omega) hn Rd4 (HBY Cd4) hB) ?_
        case el7c => go_simp
        rintro e wcl7c ⟨vp, rfl, vp0, vp1, Rl7c, Ol7c⟩
        have ccl7c := Chg.of_only Ol7c
        have Cl7c := Cd4.trans ccl7c
        have rbWl7c : rb < wcl7c.heap.size := by have := ccl7c.size; omega
        clear Ol7c ccl7c
        refine ⟨_, rfl, trivial, ?_⟩
        simp only [List.setIfInBounds_toArray, List.set_cons_zero, List.set_cons_succ]
        obtain ⟨jj, rfl⟩ := Int.eq_ofNat_of_zero_le vp0
        have jj5 : jj < 5 := by omega
        have Xl7cb := BoxN.start wcl7c #[.string ⟨#[]⟩, .string ⟨#[40]⟩, .string ⟨#[41]⟩, .string ⟨#[100]⟩, .string ⟨#[38]⟩] 9
        have cbl7cb := Chg.alloc (fun j => j = rb) wcl7c (.cells #[.string ⟨#[]⟩, .string ⟨#[40]⟩, .string ⟨#[41]⟩, .string ⟨#[100]⟩, .string ⟨#[38]⟩] 9)
        have Rl7cb := (Chg.alloc (fun _ => False) wcl7c (.cells #[.string ⟨#[]⟩, .string ⟨#[40]⟩, .string ⟨#[41]⟩, .string ⟨#[100]⟩, .string ⟨#[38]⟩] 9)).rd Rl7c rbWl7c (fun h => h)
        have Cl7cb := Cl7c.trans cbl7cb
        have rbWl7cb : rb < (wcl7c.alloc (.cells #[.string ⟨#[]⟩, .string ⟨#[40]⟩, .string ⟨#[41]⟩, .string ⟨#[100]⟩, .string ⟨#[38]⟩] 9)).heap.size := by simp; omega
        have blol7cb : rb < wcl7c.heap.size := rbWl7c
        have k0l7cb := Xl7cb.cell 0 rfl
        have k1l7cb := Xl7cb.cell 1 rfl
        have k2l7cb := Xl7cb.cell 2 rfl
        have k3l7cb := Xl7cb.cell 3 rfl
        have k4l7cb := Xl7cb.cell 4 rfl
        obtain ⟨bll7cb, ebll7cb⟩ : ∃ q, wcl7c.heap.size = q := ⟨_, rfl⟩
        refine hold_value (i := 3) (d := 27) (listed' := #[true, true, true, true, true, true, false, false, false, true, true, true, true, false, false]) rfl (by kernel_rfl) rfl (by rfl) (by kernel_rfl) (v := .slice (some ⟨wcl7c.heap.size, 0, none⟩) 5 5) (w' := (wcl7c.alloc (.cells #[.string ⟨#[]⟩, .string ⟨#[40]⟩, .string ⟨#[41]⟩, .string ⟨#[100]⟩, .string ⟨#[38]⟩] 9))) ?vl7cb trivial ?_
        case vl7cb =>
          go_simp
          try with_reducible rfl
        rw [ebll7cb] at k0l7cb k1l7cb k2l7cb k3l7cb k4l7cb blol7cb ⊢
        clear ebll7cb Xl7cb cbl7cb
        generalize (wcl7c.alloc (.cells #[.string ⟨#[]⟩, .string ⟨#[40]⟩, .string ⟨#[41]⟩, .string ⟨#[100]⟩, .string ⟨#[38]⟩] 9)) = wbl7cb at Rl7cb Cl7cb rbWl7cb k0l7cb k1l7cb k2l7cb k3l7cb k4l7cb ⊢
        simp only [List.setIfInBounds_toArray, List.set_cons_zero, List.set_cons_succ]
        obtain ⟨li, li1, li2⟩ : ∃ li : ByteArray, li.size ≤ 1 ∧ wbl7cb.cell? ⟨bll7cb, jj, none⟩ = some (.string li) := by
          rcases (by omega : jj = 0 ∨ jj = 1 ∨ jj = 2 ∨ jj = 3 ∨ jj = 4) with rfl | rfl | rfl | rfl | rfl
          · exact ⟨_, by decide, k0l7cb⟩
          · exact ⟨_, by decide, k1l7cb⟩
          · exact ⟨_, by decide, k2l7cb⟩
          · exact ⟨_, by decide, k3l7cb⟩
          · exact ⟨_, by decide, k4l7cb⟩
        clear k0l7cb k1l7cb k2l7cb k3l7cb k4l7cb
        refine hold_more (S' := fun w' => w'.cell? ⟨bll7cb, jj, none⟩ = some (.string li)) (fun _ _ => trivial) _ _ _ _ ?_
        have SSl7cb : (fun w' => w'.cell? ⟨bll7cb, jj, none⟩ = some (.string li)) wbl7cb := li2
        refine hold_take (i := 6) (d := 30) (v := ?vql7cb6) (listed' := #[true, true, true, true, true, true, true, false, false, true, true, true, true, false, false]) rfl (by kernel_rfl) (by kernel_rfl) (by kernel_rfl) rfl (by rfl) (by kernel_rfl) SSl7cb ?hql7cb6 ?rql7cb6
        case hql7cb6 =>
          intro w' hSw
          have k0 := hSw
          go_simp
          first | with_reducible rfl | (rw [if_neg (by omega)]; done) | (rw [if_neg (by omega)]; with_reducible rfl) | (rw [if_pos (by omega)]; done) | (rw [if_pos (by omega)]; with_reducible rfl) | (simp only [HW1.out, Int.toNat_natCast]; rw [if_pos (by omega)]; done) | (simp only [HW1.out, Int.toNat_natCast]; rw [if_pos (by omega)]; with_reducible rfl) | (simp only [HW1.out]; done) | (simp only [HW1.out]; with_reducible rfl) | (rw [if_neg (by simp only [ByteArray.size_append, lit1, lit0]; omega)]; done) | (rw [if_neg (by simp only [ByteArray.size_append, lit1, lit0]; omega)]; with_reducible rfl) | skip
        simp only [List.setIfInBounds_toArray, List.set_cons_zero, List.set_cons_succ]
        refine hold_take (i := 7) (d := 31) (v := ?vql7cb7) (listed' := #[true, true, true, true, true, true, true, true, false, true, true, true, true, false, false]) rfl (by kernel_rfl) (by kernel_rfl) (by kernel_rfl) rfl (by rfl) (by kernel_rfl) SSl7cb ?hql7cb7 ?rql7cb7
        case hql7cb7 =>
          intro w' hSw
          have k0 := hSw
          go_simp
          first | with_reducible rfl | (rw [if_neg (by omega)]; done) | (rw [if_neg (by omega)]; with_reducible rfl) | (rw [if_pos (by omega)]; done) | (rw [if_pos (by omega)]; with_reducible rfl) | (simp only [HW1.out, Int.toNat_natCast]; rw [if_pos (by omega)]; done) | (simp only [HW1.out, Int.toNat_natCast]; rw [if_pos (by omega)]; with_reducible rfl) | (simp only [HW1.out]; done) | (simp only [HW1.out]; with_reducible rfl) | (rw [if_neg (by simp only [ByteArray.size_append, lit1, lit0]; omega)]; done) | (rw [if_neg (by simp only [ByteArray.size_append, lit1, lit0]; omega)]; with_reducible rfl) | skip
        simp only [List.setIfInBounds_toArray, List.set_cons_zero, List.set_cons_succ]
        refine hold_take (i := 8) (d := 32) (v := ?vql7cb8) (listed' := #[true, true, true, true, true, true, true, true, true, true, true, true, true, false, false]) rfl (by kernel_rfl) (by kernel_rfl) (by kernel_rfl) rfl (by rfl) (by kernel_rfl) SSl7cb ?hql7cb8 ?rql7cb8
        case hql7cb8 =>
          intro w' hSw
          have k0 := hSw
          go_simp
          first | with_reducible rfl | (rw [if_neg (by omega)]; done) | (rw [if_neg (by omega)]; with_reducible rfl) | (rw [if_pos (by omega)]; done) | (rw [if_pos (by omega)]; with_reducible rfl) | (simp only [HW1.out, Int.toNat_natCast]; rw [if_pos (by omega)]; done) | (simp only [HW1.out, Int.toNat_natCast]; rw [if_pos (by omega)]; with_reducible rfl) | (simp only [HW1.out]; done) | (simp only [HW1.out]; with_reducible rfl) | (rw [if_neg (by simp only [ByteArray.size_append, lit1, lit0]; omega)]; done) | (rw [if_neg (by simp only [ByteArray.size_append, lit1, lit0]; omega)]; with_reducible rfl) | skip
        simp only [List.setIfInBounds_toArray, List.set_cons_zero, List.set_cons_succ]
        refine hold_take (i := 13) (d := 37) (v := ?vql7cb13) (listed' := #[true, true, true, true, true, true, true, true, true, true, true, true, true, true, false]) rfl (by kernel_rfl) (by kernel_rfl) (by kernel_rfl) rfl (by rfl) (by kernel_rfl) SSl7cb ?hql7cb13 ?rql7cb13
        case hql7cb13 =>
          intro w' hSw
          have k0 := hSw
          go_simp
          first | with_reducible rfl | (rw [if_neg (by omega)]; done) | (rw [if_neg (by omega)]; with_reducible rfl) | (rw [if_pos (by omega)]; done) | (rw [if_pos (by omega)]; with_reducible rfl) | (simp only [HW1.out, Int.toNat_natCast]; rw [if_pos (by omega)]; done) | (simp only [HW1.out, Int.toNat_natCast]; rw [if_pos (by omega)]; with_reducible rfl) | (simp only [HW1.out]; done) | (simp only [HW1.out]; with_reducible rfl) | (rw [if_neg (by simp only [ByteArray.size_append, lit1, lit0]; omega)]; done) | (rw [if_neg (by simp only [ByteArray.size_append, lit1, lit0]; omega)]; with_reducible rfl) | skip
        simp only [List.setIfInBounds_toArray, List.set_cons_zero, List.set_cons_succ]
        refine hold_take (i := 14) (d := 4) (v := ?vql7cb14) (listed' := #[true, true, true, true, true, true, true, true, true, true, true, true, true, true, true]) rfl (by kernel_rfl) (by kernel_rfl) (by kernel_rfl) rfl (by rfl) (by kernel_rfl) SSl7cb ?hql7cb14 ?rql7cb14
        case hql7cb14 =>
          intro w' hSw
          have k0 := hSw
          go_simp
          first | with_reducible rfl | (rw [if_neg (by omega)]; done) | (rw [if_neg (by omega)]; with_reducible rfl) | (rw [if_pos (by omega)]; done) | (rw [if_pos (by omega)]; with_reducible rfl) | (simp only [HW1.out, Int.toNat_natCast]; rw [if_pos (by omega)]; done) | (simp only [HW1.out, Int.toNat_natCast]; rw [if_pos (by omega)]; with_reducible rfl) | (simp only [HW1.out]; done) | (simp only [HW1.out]; with_reducible rfl) | (rw [if_neg (by simp only [ByteArray.size_append, lit1, lit0]; omega)]; done) | (rw [if_neg (by simp only [ByteArray.size_append, lit1, lit0]; omega)]; with_reducible rfl) | skip
        simp only [List.setIfInBounds_toArray, List.set_cons_zero, List.set_cons_succ]
        refine hold_done (by kernel_rfl) ?_ _
        go_wp2_with fail
        go_returns
        exact ⟨_, _, rfl, by simp only [ByteArray.size_append]; omega, Rl7cb, by omega, Cl7cb⟩
  case inr.inr.inl =>
    go_wp2_with fail
    obtain ⟨sz, hsz⟩ : ∃ sz, (ByteArray.mk #[40, 40, 97, 38, 98, 41, 124, 40, 40, 97, 38, 33, 98, 41, 124, 40, 33, 97, 124, 33, 98, 41, 41, 41]) = sz := ⟨_, rfl⟩
    have sz1 : 1 ≤ sz.size := by rw [← hsz]; decide
    have sz2 : sz.size ≤ 29 := by rw [← hsz]; decide
    rw [hsz]
    clear hsz s0lo s0hi
    go_at_call 37
    refine (odd_any hq1 hq2 (by omega) hn R2 (HBY C2) hB).mono ?_
    rintro e w3 ⟨⟨xo, rfl⟩, R3, O3⟩
    have C3 := C2.trans (Chg.of_only O3)
    have rbW3 : rb < w3.heap.size := by have := (Chg.of_only O3).size; omega
    clear O3 R2 C2 rbW2
    cases xo with
    | false =>
      go_wp2_with fail
      go_returns
      exact ⟨_, _, rfl, by omega, R3, by omega, C3⟩
    | true =>
      go_wp2_with fail
      go_at_call 14
      refine (pick_any (q := (sz.size : Int)) (by omega) (by omega) (by omega) hn R3 (HBY C3) hB).mono ?_
      rintro e w4 ⟨v4, rfl, v40, v41, R4, O4⟩
      have C4 := C3.trans (Chg.of_only O4)
      have rbW4' : rb < w4.heap.size := by have := (Chg.of_only O4).size; omega
      clear O4 R3 C3 rbW3
      obtain ⟨kq, rfl⟩ := Int.eq_ofNat_of_zero_le v40
      have hk1 : kq < sz.size := by omega
      have hx1 := ext_le sz 0 kq
      have hx2 := ext_le sz (kq + 1) sz.size
      have HW1 : Hid (IntKind.i64.wrap ((kq : Int) + 1) = ((kq + 1 : Nat) : Int)) := by show _ = _; simp (disch := omega) only [IntWalk.i64_in]; omega
      go_wp2_with fail
      have Rd4 : Rd w4.drew rb A n c _ := R4
      have Cd4 := C4.trans (Chg.drew (fun j => j = rb) w4)
      have rbW4 : rb < w4.drew.heap.size := rbW4'
      refine region_plain (fuel := 15) (listed := #[false, false, false, false, false, false, false, false, false, false, false, false, false, false, false]) (fun _ => True) (by kernel_rfl) (by kernel_rfl) (by kernel_rfl) ?_
      refine hold_take (i := 0) (d := 24) (v := ?vql110) (listed' := #[true, false, false, false, false, false, false, false, false, false, false, false, false, false, false]) rfl (by kernel_rfl) (by kernel_rfl) (by kernel_rfl) rfl (by rfl) (by kernel_rfl) trivial ?hql110 ?rql110
      case hql110 =>
        intro w' hSw
        clear hSw
        go_simp
        first | with_reducible rfl | (rw [if_neg (by omega)]; done) | (rw [if_neg (by omega)]; with_reducible rfl) | (rw [if_pos (by omega)]; done) | (rw [if_pos (by omega)]; with_reducible rfl) | (simp only [HW1.out, Int.toNat_natCast]; rw [if_pos (by omega)]; done) | (simp only [HW1.out, Int.toNat_natCast]; rw [if_pos (by omega)]; with_reducible rfl) | (simp only [HW1.out]; done) | (simp only [HW1.out]; with_reducible rfl) | (rw [if_neg (by simp only [ByteArray.size_append, lit1, lit0]; omega)]; done) | (rw [if_neg (by simp only [ByteArray.size_append, lit1, lit0]; omega)]; with_reducible rfl) | skip
      simp only [List.setIfInBounds_toArray, List.set_cons_zero, List.set_cons_succ]
      refine hold_take (i := 1) (d := 25) (v := ?vql111) (listed' := #[true, true, false, false, false, false, false, false, false, false, false, false, false, false, false]) rfl (by kernel_rfl) (by kernel_rfl) (by kernel_rfl) rfl (by rfl) (by kernel_rfl) trivial ?hql111 ?rql111
      case hql111 =>
        intro w' hSw
        clear hSw
        go_simp
        first | with_reducible rfl | (rw [if_neg (by omega)]; done) | (rw [if_neg (by omega)]; with_reducible rfl) | (rw [if_pos (by omega)]; done) | (rw [if_pos (by omega)]; with_reducible rfl) | (simp only [HW1.out, Int.toNat_natCast]; rw [if_pos (by omega)]; done) | (simp only [HW1.out, Int.toNat_natCast]; rw [if_pos (by omega)]; with_reducible rfl) | (simp only [HW1.out]; done) | (simp only [HW1.out]; with_reducible rfl) | (rw [if_neg (by simp only [ByteArray.size_append, lit1, lit0]; omega)]; done) | (rw [if_neg (by simp only [ByteArray.size_append, lit1, lit0]; omega)]; with_reducible rfl) | skip
      simp only [List.setIfInBounds_toArray, List.set_cons_zero, List.set_cons_succ]
      refine hold_take (i := 2) (d := 26) (v := ?vql112) (listed' := #[true, true, true, false, false, false, false, false, false, false, false, false, false, false, false]) rfl (by kernel_rfl) (by kernel_rfl) (by kernel_rfl) rfl (by rfl) (by kernel_rfl) trivial ?hql112 ?rql112
      case hql112 =>
        intro w' hSw
        clear hSw
        go_simp
        first | with_reducible rfl | (rw [if_neg (by omega)]; done) | (rw [if_neg (by omega)]; with_reducible rfl) | (rw [if_pos (by omega)]; done) | (rw [if_pos (by omega)]; with_reducible rfl) | (simp only [HW1.out, Int.toNat_natCast]; rw [if_pos (by omega)]; done) | (simp only [HW1.out, Int.toNat_natCast]; rw [if_pos (by omega)]; with_reducible rfl) | (simp only [HW1.out]; done) | (simp only [HW1.out]; with_reducible rfl) | (rw [if_neg (by simp only [ByteArray.size_append, lit1, lit0]; omega)]; done) | (rw [if_neg (by simp only [ByteArray.size_append, lit1, lit0]; omega)]; with_reducible rfl) | skip
      simp only [List.setIfInBounds_toArray, List.set_cons_zero, List.set_cons_succ]
      refine hold_take (i := 4) (d := 28) (v := ?vql114) (listed' := #[true, true, true, false, true, false, false, false, false, false, false, false, false, false, false]) rfl (by kernel_rfl) (by kernel_rfl) (by kernel_rfl) rfl (by rfl) (by kernel_rfl) trivial ?hql114 ?rql114
      case hql114 =>
        intro w' hSw
        clear hSw
        go_simp
        first | with_reducible rfl | (rw [if_neg (by omega)]; done) | (rw [if_neg (by omega)]; with_reducible rfl) | (rw [if_pos (by omega)]; done) | (rw [if_pos (by omega)]; with_reducible rfl) | (simp only [HW1.out, Int.toNat_natCast]; rw [if_pos (by omega)]; done) | (simp only [HW1.out, Int.toNat_natCast]; rw [if_pos (by omega)]; with_reducible rfl) | (simp only [HW1.out]; done) | (simp only [HW1.out]; with_reducible rfl) | (rw [if_neg (by simp only [ByteArray.size_append, lit1, lit0]; omega)]; done) | (rw [if_neg (by simp only [ByteArray.size_append, lit1, lit0]; omega)]; with_reducible rfl) | skip
      simp only [List.setIfInBounds_toArray, List.set_cons_zero, List.set_cons_succ]
      refine hold_take (i := 9) (d := 33) (v := ?vql119) (listed' := #[true, true, true, false, true, false, false, false, false, true, false, false, false, false, false]) rfl (by kernel_rfl) (by kernel_rfl) (by kernel_rfl) rfl (by rfl) (by kernel_rfl) trivial ?hql119 ?rql119
      case hql119 =>
        intro w' hSw
        clear hSw
        go_simp
        first | with_reducible rfl | (rw [if_neg (by omega)]; done) | (rw [if_neg (by omega)]; with_reducible rfl) | (rw [if_pos (by omega)]; done) | (rw [if_pos (by omega)]; with_reducible rfl) | (simp only [HW1.out, Int.toNat_natCast]; rw [if_pos (by omega)]; done) | (simp only [HW1.out, Int.toNat_natCast]; rw [if_pos (by omega)]; with_reducible rfl) | (simp only [HW1.out]; done) | (simp only [HW1.out]; with_reducible rfl) | (rw [if_neg (by simp only [ByteArray.size_append, lit1, lit0]; omega)]; done) | (rw [if_neg (by simp only [ByteArray.size_append, lit1, lit0]; omega)]; with_reducible rfl) | skip
      simp only [List.setIfInBounds_toArray, List.set_cons_zero, List.set_cons_succ]
      refine hold_take (i := 10) (d := 34) (v := ?vql1110) (listed' := #[true, true, true, false, true, false, false, false, false, true, true, false, false, false, false]) rfl (by kernel_rfl) (by kernel_rfl) (by kernel_rfl) rfl (by rfl) (by kernel_rfl) trivial ?hql1110 ?rql1110
      case hql1110 =>
        intro w' hSw
        clear hSw
        go_simp
        first | with_reducible rfl | (rw [if_neg (by omega)]; done) | (rw [if_neg (by omega)]; with_reducible rfl) | (rw [if_pos (by omega)]; done) | (rw [if_pos (by omega)]; with_reducible rfl) | (simp only [HW1.out, Int.toNat_natCast]; rw [if_pos (by omega)]; done) | (simp only [HW1.out, Int.toNat_natCast]; rw [if_pos (by omega)]; with_reducible rfl) | (simp only [HW1.out]; done) | (simp only [HW1.out]; with_reducible rfl) | (rw [if_neg (by simp only [ByteArray.size_append, lit1, lit0]; omega)]; done) | (rw [if_neg (by simp only [ByteArray.size_append, lit1, lit0]; omega)]; with_reducible rfl) | skip
      simp only [List.setIfInBounds_toArray, List.set_cons_zero, List.set_cons_succ]
      refine hold_take (i := 11) (d := 35) (v := ?vql1111) (listed' := #[true, true, true, false, true, false, false, false, false, true, true, true, false, false, false]) rfl (by kernel_rfl) (by kernel_rfl) (by kernel_rfl) rfl (by rfl) (by kernel_rfl) trivial ?hql1111 ?rql1111
      case hql1111 =>
        intro w' hSw
        clear hSw
        go_simp
        first | with_reducible rfl | (rw [if_neg (by omega)]; done) | (rw [if_neg (by omega)]; with_reducible rfl) | (rw [if_pos (by omega)]; done) | (rw [if_pos (by omega)]; with_reducible rfl) | (simp only [HW1.out, Int.toNat_natCast]; rw [if_pos (by omega)]; done) | (simp only [HW1.out, Int.toNat_natCast]; rw [if_pos (by omega)]; with_reducible rfl) | (simp only [HW1.out]; done) | (simp only [HW1.out]; with_reducible rfl) | (rw [if_neg (by simp only [ByteArray.size_append, lit1, lit0]; omega)]; done) | (rw [if_neg (by simp only [ByteArray.size_append, lit1, lit0]; omega)]; with_reducible rfl) | skip
      simp only [List.setIfInBounds_toArray, List.set_cons_zero, List.set_cons_succ]
      refine hold_take (i := 12) (d := 36) (v := ?vql1112) (listed' := #[true, true, true, false, true, false, false, false, false, true, true, true, true, false, false]) rfl (by kernel_rfl) (by kernel_rfl) (by kernel_rfl) rfl (by rfl) (by kernel_rfl) trivial ?hql1112 ?rql1112
      case hql1112 =>
        intro w' hSw
        clear hSw
        go_simp
        first | with_reducible rfl | (rw [if_neg (by omega)]; done) | (rw [if_neg (by omega)]; with_reducible rfl) | (rw [if_pos (by omega)]; done) | (rw [if_pos (by omega)]; with_reducible rfl) | (simp only [HW1.out, Int.toNat_natCast]; rw [if_pos (by omega)]; done) | (simp only [HW1.out, Int.toNat_natCast]; rw [if_pos (by omega)]; with_reducible rfl) | (simp only [HW1.out]; done) | (simp only [HW1.out]; with_reducible rfl) | (rw [if_neg (by simp only [ByteArray.size_append, lit1, lit0]; omega)]; done) | (rw [if_neg (by simp only [ByteArray.size_append, lit1, lit0]; omega)]; with_reducible rfl) | skip
      simp only [List.setIfInBounds_toArray, List.set_cons_zero, List.set_cons_succ]
      refine hold_two (i := 3) (j := 5) (by kernel_rfl) ?gl11n3 ?gl11n5
      case gl11n3 =>
        have Xl11b := BoxN.start w4.drew #[.string ⟨#[]⟩, .string ⟨#[40]⟩, .string ⟨#[41]⟩, .string ⟨#[100]⟩, .string ⟨#[38]⟩] 9
        have cbl11b := Chg.alloc (fun j => j = rb) w4.drew (.cells #[.string ⟨#[]⟩, .string ⟨#[40]⟩, .string ⟨#[41]⟩, .string ⟨#[100]⟩, .string ⟨#[38]⟩] 9)
        have Rl11b := (Chg.alloc (fun _ => False) w4.drew (.cells #[.string ⟨#[]⟩, .string ⟨#[40]⟩, .string ⟨#[41]⟩, .string ⟨#[100]⟩, .string ⟨#[38]⟩] 9)).rd Rd4 rbW4 (fun h => h)
        have Cl11b := Cd4.trans cbl11b
        have rbWl11b : rb < (w4.drew.alloc (.cells #[.string ⟨#[]⟩, .string ⟨#[40]⟩, .string ⟨#[41]⟩, .string ⟨#[100]⟩, .string ⟨#[38]⟩] 9)).heap.size := by simp; omega
        have blol11b : rb < w4.drew.heap.size := rbW4
        have k0l11b := Xl11b.cell 0 rfl
        have k1l11b := Xl11b.cell 1 rfl
        have k2l11b := Xl11b.cell 2 rfl
        have k3l11b := Xl11b.cell 3 rfl
        have k4l11b := Xl11b.cell 4 rfl
        obtain ⟨bll11b, ebll11b⟩ : ∃ q, w4.drew.heap.size = q := ⟨_, rfl⟩
        refine opH_value (i := 3) (d := 27) (listed' := #[true, true, true, true, true, false, false, false, false, true, true, true, true, false, false]) rfl rfl (by rfl) (by kernel_rfl) (v := .slice (some ⟨w4.drew.heap.size, 0, none⟩) 5 5) (w' := (w4.drew.alloc (.cells #[.string ⟨#[]⟩, .string ⟨#[40]⟩, .string ⟨#[41]⟩, .string ⟨#[100]⟩, .string ⟨#[38]⟩] 9))) ?vl11b trivial ?_
        case vl11b =>
          go_simp
          try with_reducible rfl
        rw [ebll11b] at k0l11b k1l11b k2l11b k3l11b k4l11b blol11b ⊢
        clear ebll11b Xl11b cbl11b
        generalize (w4.drew.alloc (.cells #[.string ⟨#[]⟩, .string ⟨#[40]⟩, .string ⟨#[41]⟩, .string ⟨#[100]⟩, .string ⟨#[38]⟩] 9)) = wbl11b at Rl11b Cl11b rbWl11b k0l11b k1l11b k2l11b k3l11b k4l11b ⊢
        simp only [List.setIfInBounds_toArray, List.set_cons_zero, List.set_cons_succ]
        refine hold_call (i := 5) (d := 29) (listed' := #[true, true, true, true, true, true, false, false, false, true, true, true, true, false, false]) rfl (by kernel_rfl) rfl (by rfl) (by kernel_rfl) ?el11bc (pick_any (q := 5) (by omega) (by omega) (by omega) hn Rl11b (HBY Cl11b) hB) ?_
        case el11bc => go_simp
        rintro e wcl11bc ⟨vp, rfl, vp0, vp1, Rl11bc, Ol11bc⟩
        have ccl11bc := Chg.of_only Ol11bc
        have Cl11bc := Cl11b.trans ccl11bc
        have rbWl11bc : rb < wcl11bc.heap.size := by have := ccl11bc.size; omega
        have k0l11bc := ccl11bc.at_ (p := ⟨bll11b, 0, none⟩) (by show ¬ (bll11b = rb); omega) k0l11b
        have k1l11bc := ccl11bc.at_ (p := ⟨bll11b, 1, none⟩) (by show ¬ (bll11b = rb); omega) k1l11b
        have k2l11bc := ccl11bc.at_ (p := ⟨bll11b, 2, none⟩) (by show ¬ (bll11b = rb); omega) k2l11b
        have k3l11bc := ccl11bc.at_ (p := ⟨bll11b, 3, none⟩) (by show ¬ (bll11b = rb); omega) k3l11b
        have k4l11bc := ccl11bc.at_ (p := ⟨bll11b, 4, none⟩) (by show ¬ (bll11b = rb); omega) k4l11b
        clear Ol11bc ccl11bc
        refine ⟨_, rfl, trivial, ?_⟩
        simp only [List.setIfInBounds_toArray, List.set_cons_zero, List.set_cons_succ]
        obtain ⟨jj, rfl⟩ := Int.eq_ofNat_of_zero_le vp0
        have jj5 : jj < 5 := by omega
        obtain ⟨li, li1, li2⟩ : ∃ li : ByteArray, li.size ≤ 1 ∧ wcl11bc.cell? ⟨bll11b, jj, none⟩ = some (.string li) := by
          rcases (by omega : jj = 0 ∨ jj = 1 ∨ jj = 2 ∨ jj = 3 ∨ jj = 4) with rfl | rfl | rfl | rfl | rfl
          · exact ⟨_, by decide, k0l11bc⟩
          · exact ⟨_, by decide, k1l11bc⟩
          · exact ⟨_, by decide, k2l11bc⟩
          · exact ⟨_, by decide, k3l11bc⟩
          · exact ⟨_, by decide, k4l11bc⟩
        clear k0l11bc k1l11bc k2l11bc k3l11bc k4l11bc
        refine hold_more (S' := fun w' => w'.cell? ⟨bll11b, jj, none⟩ = some (.string li)) (fun _ _ => trivial) _ _ _ _ ?_
        have SSl11bc : (fun w' => w'.cell? ⟨bll11b, jj, none⟩ = some (.string li)) wcl11bc := li2
        refine hold_take (i := 6) (d := 30) (v := ?vql11bc6) (listed' := #[true, true, true, true, true, true, true, false, false, true, true, true, true, false, false]) rfl (by kernel_rfl) (by kernel_rfl) (by kernel_rfl) rfl (by rfl) (by kernel_rfl) SSl11bc ?hql11bc6 ?rql11bc6
        case hql11bc6 =>
          intro w' hSw
          have k0 := hSw
          go_simp
          first | with_reducible rfl | (rw [if_neg (by omega)]; done) | (rw [if_neg (by omega)]; with_reducible rfl) | (rw [if_pos (by omega)]; done) | (rw [if_pos (by omega)]; with_reducible rfl) | (simp only [HW1.out, Int.toNat_natCast]; rw [if_pos (by omega)]; done) | (simp only [HW1.out, Int.toNat_natCast]; rw [if_pos (by omega)]; with_reducible rfl) | (simp only [HW1.out]; done) | (simp only [HW1.out]; with_reducible rfl) | (rw [if_neg (by simp only [ByteArray.size_append, lit1, lit0]; omega)]; done) | (rw [if_neg (by simp only [ByteArray.size_append, lit1, lit0]; omega)]; with_reducible rfl) | skip
        simp only [List.setIfInBounds_toArray, List.set_cons_zero, List.set_cons_succ]
        refine hold_take (i := 7) (d := 31) (v := ?vql11bc7) (listed' := #[true, true, true, true, true, true, true, true, false, true, true, true, true, false, false]) rfl (by kernel_rfl) (by kernel_rfl) (by kernel_rfl) rfl (by rfl) (by kernel_rfl) SSl11bc ?hql11bc7 ?rql11bc7
        case hql11bc7 =>
          intro w' hSw
          have k0 := hSw
          go_simp
          first | with_reducible rfl | (rw [if_neg (by omega)]; done) | (rw [if_neg (by omega)]; with_reducible rfl) | (rw [if_pos (by omega)]; done) | (rw [if_pos (by omega)]; with_reducible rfl) | (simp only [HW1.out, Int.toNat_natCast]; rw [if_pos (by omega)]; done) | (simp only [HW1.out, Int.toNat_natCast]; rw [if_pos (by omega)]; with_reducible rfl) | (simp only [HW1.out]; done) | (simp only [HW1.out]; with_reducible rfl) | (rw [if_neg (by simp only [ByteArray.size_append, lit1, lit0]; omega)]; done) | (rw [if_neg (by simp only [ByteArray.size_append, lit1, lit0]; omega)]; with_reducible rfl) | skip
        simp only [List.setIfInBounds_toArray, List.set_cons_zero, List.set_cons_succ]
        refine hold_take (i := 8) (d := 32) (v := ?vql11bc8) (listed' := #[true, true, true, true, true, true, true, true, true, true, true, true, true, false, false]) rfl (by kernel_rfl) (by kernel_rfl) (by kernel_rfl) rfl (by rfl) (by kernel_rfl) SSl11bc ?hql11bc8 ?rql11bc8
        case hql11bc8 =>
          intro w' hSw
          have k0 := hSw
          go_simp
          first | with_reducible rfl | (rw [if_neg (by omega)]; done) | (rw [if_neg (by omega)]; with_reducible rfl) | (rw [if_pos (by omega)]; done) | (rw [if_pos (by omega)]; with_reducible rfl) | (simp only [HW1.out, Int.toNat_natCast]; rw [if_pos (by omega)]; done) | (simp only [HW1.out, Int.toNat_natCast]; rw [if_pos (by omega)]; with_reducible rfl) | (simp only [HW1.out]; done) | (simp only [HW1.out]; with_reducible rfl) | (rw [if_neg (by simp only [ByteArray.size_append, lit1, lit0]; omega)]; done) | (rw [if_neg (by simp only [ByteArray.size_append, lit1, lit0]; omega)]; with_reducible rfl) | skip
        simp only [List.setIfInBounds_toArray, List.set_cons_zero, List.set_cons_succ]
        refine hold_take (i := 13) (d := 37) (v := ?vql11bc13) (listed' := #[true, true, true, true, true, true, true, true, true, true, true, true, true, true, false]) rfl (by kernel_rfl) (by kernel_rfl) (by kernel_rfl) rfl (by rfl) (by kernel_rfl) SSl11bc ?hql11bc13 ?rql11bc13
        case hql11bc13 =>
          intro w' hSw
          have k0 := hSw
          go_simp
          first | with_reducible rfl | (rw [if_neg (by omega)]; done) | (rw [if_neg (by omega)]; with_reducible rfl) | (rw [if_pos (by omega)]; done) | (rw [if_pos (by omega)]; with_reducible rfl) | (simp only [HW1.out, Int.toNat_natCast]; rw [if_pos (by omega)]; done) | (simp only [HW1.out, Int.toNat_natCast]; rw [if_pos (by omega)]; with_reducible rfl) | (simp only [HW1.out]; done) | (simp only [HW1.out]; with_reducible rfl) | (rw [if_neg (by simp only [ByteArray.size_append, lit1, lit0]; omega)]; done) | (rw [if_neg (by simp only [ByteArray.size_append, lit1, lit0]; omega)]; with_reducible rfl) | skip
        simp only [List.setIfInBounds_toArray, List.set_cons_zero, List.set_cons_succ]
        refine hold_take (i := 14) (d := 4) (v := ?vql11bc14) (listed' := #[true, true, true, true, true, true, true, true, true, true, true, true, true, true, true]) rfl (by kernel_rfl) (by kernel_rfl) (by kernel_rfl) rfl (by rfl) (by kernel_rfl) SSl11bc ?hql11bc14 ?rql11bc14
        case hql11bc14 =>
          intro w' hSw
          have k0 := hSw
          go_simp
          first | with_reducible rfl | (rw [if_neg (by omega)]; done) | (rw [if_neg (by omega)]; with_reducible rfl) | (rw [if_pos (by omega)]; done) | (rw [if_pos (by omega)]; with_reducible rfl) | (simp only [HW1.out, Int.toNat_natCast]; rw [if_pos (by omega)]; done) | (simp only [HW1.out, Int.toNat_natCast]; rw [if_pos (by omega)]; with_reducible rfl) | (simp only [HW1.out]; done) | (simp only [HW1.out]; with_reducible rfl) | (rw [if_neg (by simp only [ByteArray.size_append, lit1, lit0]; omega)]; done) | (rw [if_neg (by simp only [ByteArray.size_append, lit1, lit0]; omega)]; with_reducible rfl) | skip
        simp only [List.setIfInBounds_toArray, List.set_cons_zero, List.set_cons_succ]
        refine hold_done (by kernel_rfl) ?_ _
        go_wp2_with fail
        go_returns
        exact ⟨_, _, rfl, by simp only [ByteArray.size_append]; omega, Rl11bc, by omega, Cl11bc⟩
      case gl11n5 =>
        refine opH_call (i := 5) (d := 29) (listed' := #[true, true, true, false, true, true, false, false, false, true, true, true, true, false, false]) rfl rfl (by rfl) (by kernel_rfl) ?el11c (pick_any (q := 5) (by omega) (by omega) (by omega) hn Rd4 (HBY Cd4) hB) ?_
        case el11c => go_simp
        rintro e wcl11c ⟨vp, rfl, vp0, vp1, Rl11c, Ol11c⟩
        have ccl11c := Chg.of_only Ol11c
        have Cl11c := Cd4.trans ccl11c
        have rbWl11c : rb < wcl11c.heap.size := by have := ccl11c.size; omega
        clear Ol11c ccl11c
        refine ⟨_, rfl, trivial, ?_⟩
        simp only [List.setIfInBounds_toArray, List.set_cons_zero, List.set_cons_succ]
        obtain ⟨jj, rfl⟩ := Int.eq_ofNat_of_zero_le vp0
        have jj5 : jj < 5 := by omega
        have Xl11cb := BoxN.start wcl11c #[.string ⟨#[]⟩, .string ⟨#[40]⟩, .string ⟨#[41]⟩, .string ⟨#[100]⟩, .string ⟨#[38]⟩] 9
        have cbl11cb := Chg.alloc (fun j => j = rb) wcl11c (.cells #[.string ⟨#[]⟩, .string ⟨#[40]⟩, .string ⟨#[41]⟩, .string ⟨#[100]⟩, .string ⟨#[38]⟩] 9)
        have Rl11cb := (Chg.alloc (fun _ => False) wcl11c (.cells #[.string ⟨#[]⟩, .string ⟨#[40]⟩, .string ⟨#[41]⟩, .string ⟨#[100]⟩, .string ⟨#[38]⟩] 9)).rd Rl11c rbWl11c (fun h => h)
        have Cl11cb := Cl11c.trans cbl11cb
        have rbWl11cb : rb < (wcl11c.alloc (.cells #[.string ⟨#[]⟩, .string ⟨#[40]⟩, .string ⟨#[41]⟩, .string ⟨#[100]⟩, .string ⟨#[38]⟩] 9)).heap.size := by simp; omega
        have blol11cb : rb < wcl11c.heap.size := rbWl11c
        have k0l11cb := Xl11cb.cell 0 rfl
        have k1l11cb := Xl11cb.cell 1 rfl
        have k2l11cb := Xl11cb.cell 2 rfl
        have k3l11cb := Xl11cb.cell 3 rfl
        have k4l11cb := Xl11cb.cell 4 rfl
        obtain ⟨bll11cb, ebll11cb⟩ : ∃ q, wcl11c.heap.size = q := ⟨_, rfl⟩
        refine hold_value (i := 3) (d := 27) (listed' := #[true, true, true, true, true, true, false, false, false, true, true, true, true, false, false]) rfl (by kernel_rfl) rfl (by rfl) (by kernel_rfl) (v := .slice (some ⟨wcl11c.heap.size, 0, none⟩) 5 5) (w' := (wcl11c.alloc (.cells #[.string ⟨#[]⟩, .string ⟨#[40]⟩, .string ⟨#[41]⟩, .string ⟨#[100]⟩, .string ⟨#[38]⟩] 9))) ?vl11cb trivial ?_
        case vl11cb =>
          go_simp
          try with_reducible rfl
        rw [ebll11cb] at k0l11cb k1l11cb k2l11cb k3l11cb k4l11cb blol11cb ⊢
        clear ebll11cb Xl11cb cbl11cb
        generalize (wcl11c.alloc (.cells #[.string ⟨#[]⟩, .string ⟨#[40]⟩, .string ⟨#[41]⟩, .string ⟨#[100]⟩, .string ⟨#[38]⟩] 9)) = wbl11cb at Rl11cb Cl11cb rbWl11cb k0l11cb k1l11cb k2l11cb k3l11cb k4l11cb ⊢
        simp only [List.setIfInBounds_toArray, List.set_cons_zero, List.set_cons_succ]
        obtain ⟨li, li1, li2⟩ : ∃ li : ByteArray, li.size ≤ 1 ∧ wbl11cb.cell? ⟨bll11cb, jj, none⟩ = some (.string li) := by
          rcases (by omega : jj = 0 ∨ jj = 1 ∨ jj = 2 ∨ jj = 3 ∨ jj = 4) with rfl | rfl | rfl | rfl | rfl
          · exact ⟨_, by decide, k0l11cb⟩
          · exact ⟨_, by decide, k1l11cb⟩
          · exact ⟨_, by decide, k2l11cb⟩
          · exact ⟨_, by decide, k3l11cb⟩
          · exact ⟨_, by decide, k4l11cb⟩
        clear k0l11cb k1l11cb k2l11cb k3l11cb k4l11cb
        refine hold_more (S' := fun w' => w'.cell? ⟨bll11cb, jj, none⟩ = some (.string li)) (fun _ _ => trivial) _ _ _ _ ?_
        have SSl11cb : (fun w' => w'.cell? ⟨bll11cb, jj, none⟩ = some (.string li)) wbl11cb := li2
        refine hold_take (i := 6) (d := 30) (v := ?vql11cb6) (listed' := #[true, true, true, true, true, true, true, false, false, true, true, true, true, false, false]) rfl (by kernel_rfl) (by kernel_rfl) (by kernel_rfl) rfl (by rfl) (by kernel_rfl) SSl11cb ?hql11cb6 ?rql11cb6
        case hql11cb6 =>
          intro w' hSw
          have k0 := hSw
          go_simp
          first | with_reducible rfl | (rw [if_neg (by omega)]; done) | (rw [if_neg (by omega)]; with_reducible rfl) | (rw [if_pos (by omega)]; done) | (rw [if_pos (by omega)]; with_reducible rfl) | (simp only [HW1.out, Int.toNat_natCast]; rw [if_pos (by omega)]; done) | (simp only [HW1.out, Int.toNat_natCast]; rw [if_pos (by omega)]; with_reducible rfl) | (simp only [HW1.out]; done) | (simp only [HW1.out]; with_reducible rfl) | (rw [if_neg (by simp only [ByteArray.size_append, lit1, lit0]; omega)]; done) | (rw [if_neg (by simp only [ByteArray.size_append, lit1, lit0]; omega)]; with_reducible rfl) | skip
        simp only [List.setIfInBounds_toArray, List.set_cons_zero, List.set_cons_succ]
        refine hold_take (i := 7) (d := 31) (v := ?vql11cb7) (listed' := #[true, true, true, true, true, true, true, true, false, true, true, true, true, false, false]) rfl (by kernel_rfl) (by kernel_rfl) (by kernel_rfl) rfl (by rfl) (by kernel_rfl) SSl11cb ?hql11cb7 ?rql11cb7
        case hql11cb7 =>
          intro w' hSw
          have k0 := hSw
          go_simp
          first | with_reducible rfl | (rw [if_neg (by omega)]; done) | (rw [if_neg (by omega)]; with_reducible rfl) | (rw [if_pos (by omega)]; done) | (rw [if_pos (by omega)]; with_reducible rfl) | (simp only [HW1.out, Int.toNat_natCast]; rw [if_pos (by omega)]; done) | (simp only [HW1.out, Int.toNat_natCast]; rw [if_pos (by omega)]; with_reducible rfl) | (simp only [HW1.out]; done) | (simp only [HW1.out]; with_reducible rfl) | (rw [if_neg (by simp only [ByteArray.size_append, lit1, lit0]; omega)]; done) | (rw [if_neg (by simp only [ByteArray.size_append, lit1, lit0]; omega)]; with_reducible rfl) | skip
        simp only [List.setIfInBounds_toArray, List.set_cons_zero, List.set_cons_succ]
        refine hold_take (i := 8) (d := 32) (v := ?vql11cb8) (listed' := #[true, true, true, true, true, true, true, true, true, true, true, true, true, false, false]) rfl (by kernel_rfl) (by kernel_rfl) (by kernel_rfl) rfl (by rfl) (by kernel_rfl) SSl11cb ?hql11cb8 ?rql11cb8
        case hql11cb8 =>
          intro w' hSw
          have k0 := hSw
          go_simp
          first | with_reducible rfl | (rw [if_neg (by omega)]; done) | (rw [if_neg (by omega)]; with_reducible rfl) | (rw [if_pos (by omega)]; done) | (rw [if_pos (by omega)]; with_reducible rfl) | (simp only [HW1.out, Int.toNat_natCast]; rw [if_pos (by omega)]; done) | (simp only [HW1.out, Int.toNat_natCast]; rw [if_pos (by omega)]; with_reducible rfl) | (simp only [HW1.out]; done) | (simp only [HW1.out]; with_reducible rfl) | (rw [if_neg (by simp only [ByteArray.size_append, lit1, lit0]; omega)]; done) | (rw [if_neg (by simp only [ByteArray.size_append, lit1, lit0]; omega)]; with_reducible rfl) | skip
        simp only [List.setIfInBounds_toArray, List.set_cons_zero, List.set_cons_succ]
        refine hold_take (i := 13) (d := 37) (v := ?vql11cb13) (listed' := #[true, true, true, true, true, true, true, true, true, true, true, true, true, true, false]) rfl (by kernel_rfl) (by kernel_rfl) (by kernel_rfl) rfl (by rfl) (by kernel_rfl) SSl11cb ?hql11cb13 ?rql11cb13
        case hql11cb13 =>
          intro w' hSw
          have k0 := hSw
          go_simp
          first | with_reducible rfl | (rw [if_neg (by omega)]; done) | (rw [if_neg (by omega)]; with_reducible rfl) | (rw [if_pos (by omega)]; done) | (rw [if_pos (by omega)]; with_reducible rfl) | (simp only [HW1.out, Int.toNat_natCast]; rw [if_pos (by omega)]; done) | (simp only [HW1.out, Int.toNat_natCast]; rw [if_pos (by omega)]; with_reducible rfl) | (simp only [HW1.out]; done) | (simp only [HW1.out]; with_reducible rfl) | (rw [if_neg (by simp only [ByteArray.size_append, lit1, lit0]; omega)]; done) | (rw [if_neg (by simp only [ByteArray.size_append, lit1, lit0]; omega)]; with_reducible rfl) | skip
        simp only [List.setIfInBounds_toArray, List.set_cons_zero, List.set_cons_succ]
        refine hold_take (i := 14) (d := 4) (v := ?vql11cb14) (listed' := #[true, true, true, true, true, true, true, true, true, true, true, true, true, true, true]) rfl (by kernel_rfl) (by kernel_rfl) (by kernel_rfl) rfl (by rfl) (by kernel_rfl) SSl11cb ?hql11cb14 ?rql11cb14
        case hql11cb14 =>
          intro w' hSw
          have k0 := hSw
          go_simp
          first | with_reducible rfl | (rw [if_neg (by omega)]; done) | (rw [if_neg (by omega)]; with_reducible rfl) | (rw [if_pos (by omega)]; done) | (rw [if_pos (by omega)]; with_reducible rfl) | (simp only [HW1.out, Int.toNat_natCast]; rw [if_pos (by omega)]; done) | (simp only [HW1.out, Int.toNat_natCast]; rw [if_pos (by omega)]; with_reducible rfl) | (simp only [HW1.out]; done) | (simp only [HW1.out]; with_reducible rfl) | (rw [if_neg (by simp only [ByteArray.size_append, lit1, lit0]; omega)]; done) | (rw [if_neg (by simp only [ByteArray.size_append, lit1, lit0]; omega)]; with_reducible rfl) | skip
        simp only [List.setIfInBounds_toArray, List.set_cons_zero, List.set_cons_succ]
        refine hold_done (by kernel_rfl) ?_ _
        go_wp2_with fail
        go_returns
        exact ⟨_, _, rfl, by simp only [ByteArray.size_append]; omega, Rl11cb, by omega, Cl11cb⟩
  case inr.inr.inr =>
    have n0 : (v2 == 0) = false := beq_eq_false_iff_ne.2 (by omega)
    have n1 : (v2 == 1) = false := beq_eq_false_iff_ne.2 (by omega)
    have n2 : (v2 == 2) = false := beq_eq_false_iff_ne.2 (by omega)
    go_wp2_with fail
    obtain ⟨sz, rfl⟩ : ∃ sz, sz = s0 := ⟨_, rfl⟩
    have sz1 : 1 ≤ sz.size := s0lo
    have sz2 : sz.size ≤ 29 := s0hi
    clear s0lo s0hi
    go_at_call 37
    refine (odd_any hq1 hq2 (by omega) hn R2 (HBY C2) hB).mono ?_
    rintro e w3 ⟨⟨xo, rfl⟩, R3, O3⟩
    have C3 := C2.trans (Chg.of_only O3)
    have rbW3 : rb < w3.heap.size := by have := (Chg.of_only O3).size; omega
    clear O3 R2 C2 rbW2
    cases xo with
    | false =>
      go_wp2_with fail
      go_returns
      exact ⟨_, _, rfl, by omega, R3, by omega, C3⟩
    | true =>
      go_wp2_with fail
      go_at_call 14
      refine (pick_any (q := (sz.size : Int)) (by omega) (by omega) (by omega) hn R3 (HBY C3) hB).mono ?_
      rintro e w4 ⟨v4, rfl, v40, v41, R4, O4⟩
      have C4 := C3.trans (Chg.of_only O4)
      have rbW4' : rb < w4.heap.size := by have := (Chg.of_only O4).size; omega
      clear O4 R3 C3 rbW3
      obtain ⟨kq, rfl⟩ := Int.eq_ofNat_of_zero_le v40
      have hk1 : kq < sz.size := by omega
      have hx1 := ext_le sz 0 kq
      have hx2 := ext_le sz (kq + 1) sz.size
      have HW1 : Hid (IntKind.i64.wrap ((kq : Int) + 1) = ((kq + 1 : Nat) : Int)) := by show _ = _; simp (disch := omega) only [IntWalk.i64_in]; omega
      go_wp2_with fail
      have Rd4 : Rd w4.drew rb A n c _ := R4
      have Cd4 := C4.trans (Chg.drew (fun j => j = rb) w4)
      have rbW4 : rb < w4.drew.heap.size := rbW4'
      refine region_plain (fuel := 15) (listed := #[false, false, false, false, false, false, false, false, false, false, false, false, false, false, false]) (fun _ => True) (by kernel_rfl) (by kernel_rfl) (by kernel_rfl) ?_
      refine hold_take (i := 0) (d := 24) (v := ?vqd0) (listed' := #[true, false, false, false, false, false, false, false, false, false, false, false, false, false, false]) rfl (by kernel_rfl) (by kernel_rfl) (by kernel_rfl) rfl (by rfl) (by kernel_rfl) trivial ?hqd0 ?rqd0
      case hqd0 =>
        intro w' hSw
        clear hSw
        go_simp
        first | with_reducible rfl | (rw [if_neg (by omega)]; done) | (rw [if_neg (by omega)]; with_reducible rfl) | (rw [if_pos (by omega)]; done) | (rw [if_pos (by omega)]; with_reducible rfl) | (simp only [HW1.out, Int.toNat_natCast]; rw [if_pos (by omega)]; done) | (simp only [HW1.out, Int.toNat_natCast]; rw [if_pos (by omega)]; with_reducible rfl) | (simp only [HW1.out]; done) | (simp only [HW1.out]; with_reducible rfl) | (rw [if_neg (by simp only [ByteArray.size_append, lit1, lit0]; omega)]; done) | (rw [if_neg (by simp only [ByteArray.size_append, lit1, lit0]; omega)]; with_reducible rfl) | skip
      simp only [List.setIfInBounds_toArray, List.set_cons_zero, List.set_cons_succ]
      refine hold_take (i := 1) (d := 25) (v := ?vqd1) (listed' := #[true, true, false, false, false, false, false, false, false, false, false, false, false, false, false]) rfl (by kernel_rfl) (by kernel_rfl) (by kernel_rfl) rfl (by rfl) (by kernel_rfl) trivial ?hqd1 ?rqd1
      case hqd1 =>
        intro w' hSw
        clear hSw
        go_simp
        first | with_reducible rfl | (rw [if_neg (by omega)]; done) | (rw [if_neg (by omega)]; with_reducible rfl) | (rw [if_pos (by omega)]; done) | (rw [if_pos (by omega)]; with_reducible rfl) | (simp only [HW1.out, Int.toNat_natCast]; rw [if_pos (by omega)]; done) | (simp only [HW1.out, Int.toNat_natCast]; rw [if_pos (by omega)]; with_reducible rfl) | (simp only [HW1.out]; done) | (simp only [HW1.out]; with_reducible rfl) | (rw [if_neg (by simp only [ByteArray.size_append, lit1, lit0]; omega)]; done) | (rw [if_neg (by simp only [ByteArray.size_append, lit1, lit0]; omega)]; with_reducible rfl) | skip
      simp only [List.setIfInBounds_toArray, List.set_cons_zero, List.set_cons_succ]
      refine hold_take (i := 2) (d := 26) (v := ?vqd2) (listed' := #[true, true, true, false, false, false, false, false, false, false, false, false, false, false, false]) rfl (by kernel_rfl) (by kernel_rfl) (by kernel_rfl) rfl (by rfl) (by kernel_rfl) trivial ?hqd2 ?rqd2
      case hqd2 =>
        intro w' hSw
        clear hSw
        go_simp
        first | with_reducible rfl | (rw [if_neg (by omega)]; done) | (rw [if_neg (by omega)]; with_reducible rfl) | (rw [if_pos (by omega)]; done) | (rw [if_pos (by omega)]; with_reducible rfl) | (simp only [HW1.out, Int.toNat_natCast]; rw [if_pos (by omega)]; done) | (simp only [HW1.out, Int.toNat_natCast]; rw [if_pos (by omega)]; with_reducible rfl) | (simp only [HW1.out]; done) | (simp only [HW1.out]; with_reducible rfl) | (rw [if_neg (by simp only [ByteArray.size_append, lit1, lit0]; omega)]; done) | (rw [if_neg (by simp only [ByteArray.size_append, lit1, lit0]; omega)]; with_reducible rfl) | skip
      simp only [List.setIfInBounds_toArray, List.set_cons_zero, List.set_cons_succ]
      refine hold_take (i := 4) (d := 28) (v := ?vqd4) (listed' := #[true, true, true, false, true, false, false, false, false, false, false, false, false, false, false]) rfl (by kernel_rfl) (by kernel_rfl) (by kernel_rfl) rfl (by rfl) (by kernel_rfl) trivial ?hqd4 ?rqd4
      case hqd4 =>
        intro w' hSw
        clear hSw
        go_simp
        first | with_reducible rfl | (rw [if_neg (by omega)]; done) | (rw [if_neg (by omega)]; with_reducible rfl) | (rw [if_pos (by omega)]; done) | (rw [if_pos (by omega)]; with_reducible rfl) | (simp only [HW1.out, Int.toNat_natCast]; rw [if_pos (by omega)]; done) | (simp only [HW1.out, Int.toNat_natCast]; rw [if_pos (by omega)]; with_reducible rfl) | (simp only [HW1.out]; done) | (simp only [HW1.out]; with_reducible rfl) | (rw [if_neg (by simp only [ByteArray.size_append, lit1, lit0]; omega)]; done) | (rw [if_neg (by simp only [ByteArray.size_append, lit1, lit0]; omega)]; with_reducible rfl) | skip
      simp only [List.setIfInBounds_toArray, List.set_cons_zero, List.set_cons_succ]
      refine hold_take (i := 9) (d := 33) (v := ?vqd9) (listed' := #[true, true, true, false, true, false, false, false, false, true, false, false, false, false, false]) rfl (by kernel_rfl) (by kernel_rfl) (by kernel_rfl) rfl (by rfl) (by kernel_rfl) trivial ?hqd9 ?rqd9
      case hqd9 =>
        intro w' hSw
        clear hSw
        go_simp
        first | with_reducible rfl | (rw [if_neg (by omega)]; done) | (rw [if_neg (by omega)]; with_reducible rfl) | (rw [if_pos (by omega)]; done) | (rw [if_pos (by omega)]; with_reducible rfl) | (simp only [HW1.out, Int.toNat_natCast]; rw [if_pos (by omega)]; done) | (simp only [HW1.out, Int.toNat_natCast]; rw [if_pos (by omega)]; with_reducible rfl) | (simp only [HW1.out]; done) | (simp only [HW1.out]; with_reducible rfl) | (rw [if_neg (by simp only [ByteArray.size_append, lit1, lit0]; omega)]; done) | (rw [if_neg (by simp only [ByteArray.size_append, lit1, lit0]; omega)]; with_reducible rfl) | skip
      simp only [List.setIfInBounds_toArray, List.set_cons_zero, List.set_cons_succ]
      refine hold_take (i := 10) (d := 34) (v := ?vqd10) (listed' := #[true, true, true, false, true, false, false, false, false, true, true, false, false, false, false]) rfl (by kernel_rfl) (by kernel_rfl) (by kernel_rfl) rfl (by rfl) (by kernel_rfl) trivial ?hqd10 ?rqd10
      case hqd10 =>
        intro w' hSw
        clear hSw
        go_simp
        first | with_reducible rfl | (rw [if_neg (by omega)]; done) | (rw [if_neg (by omega)]; with_reducible rfl) | (rw [if_pos (by omega)]; done) | (rw [if_pos (by omega)]; with_reducible rfl) | (simp only [HW1.out, Int.toNat_natCast]; rw [if_pos (by omega)]; done) | (simp only [HW1.out, Int.toNat_natCast]; rw [if_pos (by omega)]; with_reducible rfl) | (simp only [HW1.out]; done) | (simp only [HW1.out]; with_reducible rfl) | (rw [if_neg (by simp only [ByteArray.size_append, lit1, lit0]; omega)]; done) | (rw [if_neg (by simp only [ByteArray.size_append, lit1, lit0]; omega)]; with_reducible rfl) | skip
      simp only [List.setIfInBounds_toArray, List.set_cons_zero, List.set_cons_succ]
      refine hold_take (i := 11) (d := 35) (v := ?vqd11) (listed' := #[true, true, true, false, true, false, false, false, false, true, true, true, false, false, false]) rfl (by kernel_rfl) (by kernel_rfl) (by kernel_rfl) rfl (by rfl) (by kernel_rfl) trivial ?hqd11 ?rqd11
      case hqd11 =>
        intro w' hSw
        clear hSw
        go_simp
        first | with_reducible rfl | (rw [if_neg (by omega)]; done) | (rw [if_neg (by omega)]; with_reducible rfl) | (rw [if_pos (by omega)]; done) | (rw [if_pos (by omega)]; with_reducible rfl) | (simp only [HW1.out, Int.toNat_natCast]; rw [if_pos (by omega)]; done) | (simp only [HW1.out, Int.toNat_natCast]; rw [if_pos (by omega)]; with_reducible rfl) | (simp only [HW1.out]; done) | (simp only [HW1.out]; with_reducible rfl) | (rw [if_neg (by simp only [ByteArray.size_append, lit1, lit0]; omega)]; done) | (rw [if_neg (by simp only [ByteArray.size_append, lit1, lit0]; omega)]; with_reducible rfl) | skip
      simp only [List.setIfInBounds_toArray, List.set_cons_zero, List.set_cons_succ]
      refine hold_take (i := 12) (d := 36) (v := ?vqd12) (listed' := #[true, true, true, false, true, false, false, false, false, true, true, true, true, false, false]) rfl (by kernel_rfl) (by kernel_rfl) (by kernel_rfl) rfl (by rfl) (by kernel_rfl) trivial ?hqd12 ?rqd12
      case hqd12 =>
        intro w' hSw
        clear hSw
        go_simp
        first | with_reducible rfl | (rw [if_neg (by omega)]; done) | (rw [if_neg (by omega)]; with_reducible rfl) | (rw [if_pos (by omega)]; done) | (rw [if_pos (by omega)]; with_reducible rfl) | (simp only [HW1.out, Int.toNat_natCast]; rw [if_pos (by omega)]; done) | (simp only [HW1.out, Int.toNat_natCast]; rw [if_pos (by omega)]; with_reducible rfl) | (simp only [HW1.out]; done) | (simp only [HW1.out]; with_reducible rfl) | (rw [if_neg (by simp only [ByteArray.size_append, lit1, lit0]; omega)]; done) | (rw [if_neg (by simp only [ByteArray.size_append, lit1, lit0]; omega)]; with_reducible rfl) | skip
      simp only [List.setIfInBounds_toArray, List.set_cons_zero, List.set_cons_succ]
      refine hold_two (i := 3) (j := 5) (by kernel_rfl) ?gdn3 ?gdn5
      case gdn3 =>
        have Xdb := BoxN.start w4.drew #[.string ⟨#[]⟩, .string ⟨#[40]⟩, .string ⟨#[41]⟩, .string ⟨#[100]⟩, .string ⟨#[38]⟩] 9
        have cbdb := Chg.alloc (fun j => j = rb) w4.drew (.cells #[.string ⟨#[]⟩, .string ⟨#[40]⟩, .string ⟨#[41]⟩, .string ⟨#[100]⟩, .string ⟨#[38]⟩] 9)
        have Rdb := (Chg.alloc (fun _ => False) w4.drew (.cells #[.string ⟨#[]⟩, .string ⟨#[40]⟩, .string ⟨#[41]⟩, .string ⟨#[100]⟩, .string ⟨#[38]⟩] 9)).rd Rd4 rbW4 (fun h => h)
        have Cdb := Cd4.trans cbdb
        have rbWdb : rb < (w4.drew.alloc (.cells #[.string ⟨#[]⟩, .string ⟨#[40]⟩, .string ⟨#[41]⟩, .string ⟨#[100]⟩, .string ⟨#[38]⟩] 9)).heap.size := by simp; omega
        have blodb : rb < w4.drew.heap.size := rbW4
        have k0db := Xdb.cell 0 rfl
        have k1db := Xdb.cell 1 rfl
        have k2db := Xdb.cell 2 rfl
        have k3db := Xdb.cell 3 rfl
        have k4db := Xdb.cell 4 rfl
        obtain ⟨bldb, ebldb⟩ : ∃ q, w4.drew.heap.size = q := ⟨_, rfl⟩
        refine opH_value (i := 3) (d := 27) (listed' := #[true, true, true, true, true, false, false, false, false, true, true, true, true, false, false]) rfl rfl (by rfl) (by kernel_rfl) (v := .slice (some ⟨w4.drew.heap.size, 0, none⟩) 5 5) (w' := (w4.drew.alloc (.cells #[.string ⟨#[]⟩, .string ⟨#[40]⟩, .string ⟨#[41]⟩, .string ⟨#[100]⟩, .string ⟨#[38]⟩] 9))) ?vdb trivial ?_
        case vdb =>
          go_simp
          try with_reducible rfl
        rw [ebldb] at k0db k1db k2db k3db k4db blodb ⊢
        clear ebldb Xdb cbdb
        generalize (w4.drew.alloc (.cells #[.string ⟨#[]⟩, .string ⟨#[40]⟩, .string ⟨#[41]⟩, .string ⟨#[100]⟩, .string ⟨#[38]⟩] 9)) = wbdb at Rdb Cdb rbWdb k0db k1db k2db k3db k4db ⊢
        simp only [List.setIfInBounds_toArray, List.set_cons_zero, List.set_cons_succ]
        refine hold_call (i := 5) (d := 29) (listed' := #[true, true, true, true, true, true, false, false, false, true, true, true, true, false, false]) rfl (by kernel_rfl) rfl (by rfl) (by kernel_rfl) ?edbc (pick_any (q := 5) (by omega) (by omega) (by omega) hn Rdb (HBY Cdb) hB) ?_
        case edbc => go_simp
        rintro e wcdbc ⟨vp, rfl, vp0, vp1, Rdbc, Odbc⟩
        have ccdbc := Chg.of_only Odbc
        have Cdbc := Cdb.trans ccdbc
        have rbWdbc : rb < wcdbc.heap.size := by have := ccdbc.size; omega
        have k0dbc := ccdbc.at_ (p := ⟨bldb, 0, none⟩) (by show ¬ (bldb = rb); omega) k0db
        have k1dbc := ccdbc.at_ (p := ⟨bldb, 1, none⟩) (by show ¬ (bldb = rb); omega) k1db
        have k2dbc := ccdbc.at_ (p := ⟨bldb, 2, none⟩) (by show ¬ (bldb = rb); omega) k2db
        have k3dbc := ccdbc.at_ (p := ⟨bldb, 3, none⟩) (by show ¬ (bldb = rb); omega) k3db
        have k4dbc := ccdbc.at_ (p := ⟨bldb, 4, none⟩) (by show ¬ (bldb = rb); omega) k4db
        clear Odbc ccdbc
        refine ⟨_, rfl, trivial, ?_⟩
        simp only [List.setIfInBounds_toArray, List.set_cons_zero, List.set_cons_succ]
        obtain ⟨jj, rfl⟩ := Int.eq_ofNat_of_zero_le vp0
        have jj5 : jj < 5 := by omega
        obtain ⟨li, li1, li2⟩ : ∃ li : ByteArray, li.size ≤ 1 ∧ wcdbc.cell? ⟨bldb, jj, none⟩ = some (.string li) := by
          rcases (by omega : jj = 0 ∨ jj = 1 ∨ jj = 2 ∨ jj = 3 ∨ jj = 4) with rfl | rfl | rfl | rfl | rfl
          · exact ⟨_, by decide, k0dbc⟩
          · exact ⟨_, by decide, k1dbc⟩
          · exact ⟨_, by decide, k2dbc⟩
          · exact ⟨_, by decide, k3dbc⟩
          · exact ⟨_, by decide, k4dbc⟩
        clear k0dbc k1dbc k2dbc k3dbc k4dbc
        refine hold_more (S' := fun w' => w'.cell? ⟨bldb, jj, none⟩ = some (.string li)) (fun _ _ => trivial) _ _ _ _ ?_
        have SSdbc : (fun w' => w'.cell? ⟨bldb, jj, none⟩ = some (.string li)) wcdbc := li2
        refine hold_take (i := 6) (d := 30) (v := ?vqdbc6) (listed' := #[true, true, true, true, true, true, true, false, false, true, true, true, true, false, false]) rfl (by kernel_rfl) (by kernel_rfl) (by kernel_rfl) rfl (by rfl) (by kernel_rfl) SSdbc ?hqdbc6 ?rqdbc6
        case hqdbc6 =>
          intro w' hSw
          have k0 := hSw
          go_simp
          first | with_reducible rfl | (rw [if_neg (by omega)]; done) | (rw [if_neg (by omega)]; with_reducible rfl) | (rw [if_pos (by omega)]; done) | (rw [if_pos (by omega)]; with_reducible rfl) | (simp only [HW1.out, Int.toNat_natCast]; rw [if_pos (by omega)]; done) | (simp only [HW1.out, Int.toNat_natCast]; rw [if_pos (by omega)]; with_reducible rfl) | (simp only [HW1.out]; done) | (simp only [HW1.out]; with_reducible rfl) | (rw [if_neg (by simp only [ByteArray.size_append, lit1, lit0]; omega)]; done) | (rw [if_neg (by simp only [ByteArray.size_append, lit1, lit0]; omega)]; with_reducible rfl) | skip
        simp only [List.setIfInBounds_toArray, List.set_cons_zero, List.set_cons_succ]
        refine hold_take (i := 7) (d := 31) (v := ?vqdbc7) (listed' := #[true, true, true, true, true, true, true, true, false, true, true, true, true, false, false]) rfl (by kernel_rfl) (by kernel_rfl) (by kernel_rfl) rfl (by rfl) (by kernel_rfl) SSdbc ?hqdbc7 ?rqdbc7
        case hqdbc7 =>
          intro w' hSw
          have k0 := hSw
          go_simp
          first | with_reducible rfl | (rw [if_neg (by omega)]; done) | (rw [if_neg (by omega)]; with_reducible rfl) | (rw [if_pos (by omega)]; done) | (rw [if_pos (by omega)]; with_reducible rfl) | (simp only [HW1.out, Int.toNat_natCast]; rw [if_pos (by omega)]; done) | (simp only [HW1.out, Int.toNat_natCast]; rw [if_pos (by omega)]; with_reducible rfl) | (simp only [HW1.out]; done) | (simp only [HW1.out]; with_reducible rfl) | (rw [if_neg (by simp only [ByteArray.size_append, lit1, lit0]; omega)]; done) | (rw [if_neg (by simp only [ByteArray.size_append, lit1, lit0]; omega)]; with_reducible rfl) | skip
        simp only [List.setIfInBounds_toArray, List.set_cons_zero, List.set_cons_succ]
        refine hold_take (i := 8) (d := 32) (v := ?vqdbc8) (listed' := #[true, true, true, true, true, true, true, true, true, true, true, true, true, false, false]) rfl (by kernel_rfl) (by kernel_rfl) (by kernel_rfl) rfl (by rfl) (by kernel_rfl) SSdbc ?hqdbc8 ?rqdbc8
        case hqdbc8 =>
          intro w' hSw
          have k0 := hSw
          go_simp
          first | with_reducible rfl | (rw [if_neg (by omega)]; done) | (rw [if_neg (by omega)]; with_reducible rfl) | (rw [if_pos (by omega)]; done) | (rw [if_pos (by omega)]; with_reducible rfl) | (simp only [HW1.out, Int.toNat_natCast]; rw [if_pos (by omega)]; done) | (simp only [HW1.out, Int.toNat_natCast]; rw [if_pos (by omega)]; with_reducible rfl) | (simp only [HW1.out]; done) | (simp only [HW1.out]; with_reducible rfl) | (rw [if_neg (by simp only [ByteArray.size_append, lit1, lit0]; omega)]; done) | (rw [if_neg (by simp only [ByteArray.size_append, lit1, lit0]; omega)]; with_reducible rfl) | skip
        simp only [List.setIfInBounds_toArray, List.set_cons_zero, List.set_cons_succ]
        refine hold_take (i := 13) (d := 37) (v := ?vqdbc13) (listed' := #[true, true, true, true, true, true, true, true, true, true, true, true, true, true, false]) rfl (by kernel_rfl) (by kernel_rfl) (by kernel_rfl) rfl (by rfl) (by kernel_rfl) SSdbc ?hqdbc13 ?rqdbc13
        case hqdbc13 =>
          intro w' hSw
          have k0 := hSw
          go_simp
          first | with_reducible rfl | (rw [if_neg (by omega)]; done) | (rw [if_neg (by omega)]; with_reducible rfl) | (rw [if_pos (by omega)]; done) | (rw [if_pos (by omega)]; with_reducible rfl) | (simp only [HW1.out, Int.toNat_natCast]; rw [if_pos (by omega)]; done) | (simp only [HW1.out, Int.toNat_natCast]; rw [if_pos (by omega)]; with_reducible rfl) | (simp only [HW1.out]; done) | (simp only [HW1.out]; with_reducible rfl) | (rw [if_neg (by simp only [ByteArray.size_append, lit1, lit0]; omega)]; done) | (rw [if_neg (by simp only [ByteArray.size_append, lit1, lit0]; omega)]; with_reducible rfl) | skip
        simp only [List.setIfInBounds_toArray, List.set_cons_zero, List.set_cons_succ]
        refine hold_take (i := 14) (d := 4) (v := ?vqdbc14) (listed' := #[true, true, true, true, true, true, true, true, true, true, true, true, true, true, true]) rfl (by kernel_rfl) (by kernel_rfl) (by kernel_rfl) rfl (by rfl) (by kernel_rfl) SSdbc ?hqdbc14 ?rqdbc14
        case hqdbc14 =>
          intro w' hSw
          have k0 := hSw
          go_simp
          first | with_reducible rfl | (rw [if_neg (by omega)]; done) | (rw [if_neg (by omega)]; with_reducible rfl) | (rw [if_pos (by omega)]; done) | (rw [if_pos (by omega)]; with_reducible rfl) | (simp only [HW1.out, Int.toNat_natCast]; rw [if_pos (by omega)]; done) | (simp only [HW1.out, Int.toNat_natCast]; rw [if_pos (by omega)]; with_reducible rfl) | (simp only [HW1.out]; done) | (simp only [HW1.out]; with_reducible rfl) | (rw [if_neg (by simp only [ByteArray.size_append, lit1, lit0]; omega)]; done) | (rw [if_neg (by simp only [ByteArray.size_append, lit1, lit0]; omega)]; with_reducible rfl) | skip
        simp only [List.setIfInBounds_toArray, List.set_cons_zero, List.set_cons_succ]
        refine hold_done (by kernel_rfl) ?_ _
        go_wp2_with fail
        go_returns
        exact ⟨_, _, rfl, by simp only [ByteArray.size_append]; omega, Rdbc, by omega, Cdbc⟩
      case gdn5 =>
        refine opH_call (i := 5) (d := 29) (listed' := #[true, true, true, false, true, true, false, false, false, true, true, true, true, false, false]) rfl rfl (by rfl) (by kernel_rfl) ?edc (pick_any (q := 5) (by omega) (by omega) (by omega) hn Rd4 (HBY Cd4) hB) ?_
        case edc => go_simp
        rintro e wcdc ⟨vp, rfl, vp0, vp1, Rdc, Odc⟩
        have ccdc := Chg.of_only Odc
        have Cdc := Cd4.trans ccdc
        have rbWdc : rb < wcdc.heap.size := by have := ccdc.size; omega
        clear Odc ccdc
        refine ⟨_, rfl, trivial, ?_⟩
        simp only [List.setIfInBounds_toArray, List.set_cons_zero, List.set_cons_succ]
        obtain ⟨jj, rfl⟩ := Int.eq_ofNat_of_zero_le vp0
        have jj5 : jj < 5 := by omega
        have Xdcb := BoxN.start wcdc #[.string ⟨#[]⟩, .string ⟨#[40]⟩, .string ⟨#[41]⟩, .string ⟨#[100]⟩, .string ⟨#[38]⟩] 9
        have cbdcb := Chg.alloc (fun j => j = rb) wcdc (.cells #[.string ⟨#[]⟩, .string ⟨#[40]⟩, .string ⟨#[41]⟩, .string ⟨#[100]⟩, .string ⟨#[38]⟩] 9)
        have Rdcb := (Chg.alloc (fun _ => False) wcdc (.cells #[.string ⟨#[]⟩, .string ⟨#[40]⟩, .string ⟨#[41]⟩, .string ⟨#[100]⟩, .string ⟨#[38]⟩] 9)).rd Rdc rbWdc (fun h => h)
        have Cdcb := Cdc.trans cbdcb
        have rbWdcb : rb < (wcdc.alloc (.cells #[.string ⟨#[]⟩, .string ⟨#[40]⟩, .string ⟨#[41]⟩, .string ⟨#[100]⟩, .string ⟨#[38]⟩] 9)).heap.size := by simp; omega
        have blodcb : rb < wcdc.heap.size := rbWdc
        have k0dcb := Xdcb.cell 0 rfl
        have k1dcb := Xdcb.cell 1 rfl
        have k2dcb := Xdcb.cell 2 rfl
        have k3dcb := Xdcb.cell 3 rfl
        have k4dcb := Xdcb.cell 4 rfl
        obtain ⟨bldcb, ebldcb⟩ : ∃ q, wcdc.heap.size = q := ⟨_, rfl⟩
        refine hold_value (i := 3) (d := 27) (listed' := #[true, true, true, true, true, true, false, false, false, true, true, true, true, false, false]) rfl (by kernel_rfl) rfl (by rfl) (by kernel_rfl) (v := .slice (some ⟨wcdc.heap.size, 0, none⟩) 5 5) (w' := (wcdc.alloc (.cells #[.string ⟨#[]⟩, .string ⟨#[40]⟩, .string ⟨#[41]⟩, .string ⟨#[100]⟩, .string ⟨#[38]⟩] 9))) ?vdcb trivial ?_
        case vdcb =>
          go_simp
          try with_reducible rfl
        rw [ebldcb] at k0dcb k1dcb k2dcb k3dcb k4dcb blodcb ⊢
        clear ebldcb Xdcb cbdcb
        generalize (wcdc.alloc (.cells #[.string ⟨#[]⟩, .string ⟨#[40]⟩, .string ⟨#[41]⟩, .string ⟨#[100]⟩, .string ⟨#[38]⟩] 9)) = wbdcb at Rdcb Cdcb rbWdcb k0dcb k1dcb k2dcb k3dcb k4dcb ⊢
        simp only [List.setIfInBounds_toArray, List.set_cons_zero, List.set_cons_succ]
        obtain ⟨li, li1, li2⟩ : ∃ li : ByteArray, li.size ≤ 1 ∧ wbdcb.cell? ⟨bldcb, jj, none⟩ = some (.string li) := by
          rcases (by omega : jj = 0 ∨ jj = 1 ∨ jj = 2 ∨ jj = 3 ∨ jj = 4) with rfl | rfl | rfl | rfl | rfl
          · exact ⟨_, by decide, k0dcb⟩
          · exact ⟨_, by decide, k1dcb⟩
          · exact ⟨_, by decide, k2dcb⟩
          · exact ⟨_, by decide, k3dcb⟩
          · exact ⟨_, by decide, k4dcb⟩
        clear k0dcb k1dcb k2dcb k3dcb k4dcb
        refine hold_more (S' := fun w' => w'.cell? ⟨bldcb, jj, none⟩ = some (.string li)) (fun _ _ => trivial) _ _ _ _ ?_
        have SSdcb : (fun w' => w'.cell? ⟨bldcb, jj, none⟩ = some (.string li)) wbdcb := li2
        refine hold_take (i := 6) (d := 30) (v := ?vqdcb6) (listed' := #[true, true, true, true, true, true, true, false, false, true, true, true, true, false, false]) rfl (by kernel_rfl) (by kernel_rfl) (by kernel_rfl) rfl (by rfl) (by kernel_rfl) SSdcb ?hqdcb6 ?rqdcb6
        case hqdcb6 =>
          intro w' hSw
          have k0 := hSw
          go_simp
          first | with_reducible rfl | (rw [if_neg (by omega)]; done) | (rw [if_neg (by omega)]; with_reducible rfl) | (rw [if_pos (by omega)]; done) | (rw [if_pos (by omega)]; with_reducible rfl) | (simp only [HW1.out, Int.toNat_natCast]; rw [if_pos (by omega)]; done) | (simp only [HW1.out, Int.toNat_natCast]; rw [if_pos (by omega)]; with_reducible rfl) | (simp only [HW1.out]; done) | (simp only [HW1.out]; with_reducible rfl) | (rw [if_neg (by simp only [ByteArray.size_append, lit1, lit0]; omega)]; done) | (rw [if_neg (by simp only [ByteArray.size_append, lit1, lit0]; omega)]; with_reducible rfl) | skip
        simp only [List.setIfInBounds_toArray, List.set_cons_zero, List.set_cons_succ]
        refine hold_take (i := 7) (d := 31) (v := ?vqdcb7) (listed' := #[true, true, true, true, true, true, true, true, false, true, true, true, true, false, false]) rfl (by kernel_rfl) (by kernel_rfl) (by kernel_rfl) rfl (by rfl) (by kernel_rfl) SSdcb ?hqdcb7 ?rqdcb7
        case hqdcb7 =>
          intro w' hSw
          have k0 := hSw
          go_simp
          first | with_reducible rfl | (rw [if_neg (by omega)]; done) | (rw [if_neg (by omega)]; with_reducible rfl) | (rw [if_pos (by omega)]; done) | (rw [if_pos (by omega)]; with_reducible rfl) | (simp only [HW1.out, Int.toNat_natCast]; rw [if_pos (by omega)]; done) | (simp only [HW1.out, Int.toNat_natCast]; rw [if_pos (by omega)]; with_reducible rfl) | (simp only [HW1.out]; done) | (simp only [HW1.out]; with_reducible rfl) | (rw [if_neg (by simp only [ByteArray.size_append, lit1, lit0]; omega)]; done) | (rw [if_neg (by simp only [ByteArray.size_append, lit1, lit0]; omega)]; with_reducible rfl) | skip
        simp only [List.setIfInBounds_toArray, List.set_cons_zero, List.set_cons_succ]
        refine hold_take (i := 8) (d := 32) (v := ?vqdcb8) (listed' := #[true, true, true, true, true, true, true, true, true, true, true, true, true, false, false]) rfl (by kernel_rfl) (by kernel_rfl) (by kernel_rfl) rfl (by rfl) (by kernel_rfl) SSdcb ?hqdcb8 ?rqdcb8
        case hqdcb8 =>
          intro w' hSw
          have k0 := hSw
          go_simp
          first | with_reducible rfl | (rw [if_neg (by omega)]; done) | (rw [if_neg (by omega)]; with_reducible rfl) | (rw [if_pos (by omega)]; done) | (rw [if_pos (by omega)]; with_reducible rfl) | (simp only [HW1.out, Int.toNat_natCast]; rw [if_pos (by omega)]; done) | (simp only [HW1.out, Int.toNat_natCast]; rw [if_pos (by omega)]; with_reducible rfl) | (simp only [HW1.out]; done) | (simp only [HW1.out]; with_reducible rfl) | (rw [if_neg (by simp only [ByteArray.size_append, lit1, lit0]; omega)]; done) | (rw [if_neg (by simp only [ByteArray.size_append, lit1, lit0]; omega)]; with_reducible rfl) | skip
        simp only [List.setIfInBounds_toArray, List.set_cons_zero, List.set_cons_succ]
        refine hold_take (i := 13) (d := 37) (v := ?vqdcb13) (listed' := #[true, true, true, true, true, true, true, true, true, true, true, true, true, true, false]) rfl (by kernel_rfl) (by kernel_rfl) (by kernel_rfl) rfl (by rfl) (by kernel_rfl) SSdcb ?hqdcb13 ?rqdcb13
        case hqdcb13 =>
          intro w' hSw
          have k0 := hSw
          go_simp
          first | with_reducible rfl | (rw [if_neg (by omega)]; done) | (rw [if_neg (by omega)]; with_reducible rfl) | (rw [if_pos (by omega)]; done) | (rw [if_pos (by omega)]; with_reducible rfl) | (simp only [HW1.out, Int.toNat_natCast]; rw [if_pos (by omega)]; done) | (simp only [HW1.out, Int.toNat_natCast]; rw [if_pos (by omega)]; with_reducible rfl) | (simp only [HW1.out]; done) | (simp only [HW1.out]; with_reducible rfl) | (rw [if_neg (by simp only [ByteArray.size_append, lit1, lit0]; omega)]; done) | (rw [if_neg (by simp only [ByteArray.size_append, lit1, lit0]; omega)]; with_reducible rfl) | skip
        simp only [List.setIfInBounds_toArray, List.set_cons_zero, List.set_cons_succ]
        refine hold_take (i := 14) (d := 4) (v := ?vqdcb14) (listed' := #[true, true, true, true, true, true, true, true, true, true, true, true, true, true, true]) rfl (by kernel_rfl) (by kernel_rfl) (by kernel_rfl) rfl (by rfl) (by kernel_rfl) SSdcb ?hqdcb14 ?rqdcb14
        case hqdcb14 =>
          intro w' hSw
          have k0 := hSw
          go_simp
          first | with_reducible rfl | (rw [if_neg (by omega)]; done) | (rw [if_neg (by omega)]; with_reducible rfl) | (rw [if_pos (by omega)]; done) | (rw [if_pos (by omega)]; with_reducible rfl) | (simp only [HW1.out, Int.toNat_natCast]; rw [if_pos (by omega)]; done) | (simp only [HW1.out, Int.toNat_natCast]; rw [if_pos (by omega)]; with_reducible rfl) | (simp only [HW1.out]; done) | (simp only [HW1.out]; with_reducible rfl) | (rw [if_neg (by simp only [ByteArray.size_append, lit1, lit0]; omega)]; done) | (rw [if_neg (by simp only [ByteArray.size_append, lit1, lit0]; omega)]; with_reducible rfl) | skip
        simp only [List.setIfInBounds_toArray, List.set_cons_zero, List.set_cons_succ]
        refine hold_done (by kernel_rfl) ?_ _
        go_wp2_with fail
        go_returns
        exact ⟨_, _, rfl, by simp only [ByteArray.size_append]; omega, Rdcb, by omega, Cdcb⟩
end Go.Proofs.Ytmchgclaeipoeaa
