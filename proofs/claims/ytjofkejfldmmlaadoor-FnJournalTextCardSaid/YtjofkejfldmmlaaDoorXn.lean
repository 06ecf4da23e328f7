/- A text spoiled; the draws of DeedText and ReadDeed. -/
import Derived.Test.YtjofkejfldmmlaaDoorXm
import Derived.Test.YtjofkejfldmmlaaDoorXj
namespace Go.Proofs.YtjofkejfldmmlaaDoor
open Go.RowKit Go.Deep

theorem spoil_le (s : ByteArray) (a b : Nat) : (s.extract a b).size ≤ s.size := by
  rw [ByteArray.size_extract]; omega
/-- A text, the reader somewhat further. -/
def SpoiltT (rb : Nat) (A : Option Addr) (n c p q : Nat) (w : World) (e : Ending) (w' : World) : Prop :=
  ∃ (s : ByteArray) (p' : Nat), e = .returned (.string s) ∧ s.size ≤ q ∧ Rd w' rb A n c p' ∧ p' ≤ p + 2 ∧ Chg (fun j => j = rb) w w'
set_option maxRecDepth 100000 in
set_option maxHeartbeats 8000000 in
theorem l20Spoil_any {rb n c p : Nat} {A : Option Addr} {B b o : Nat} {z : Nat → Nat} {w : World} {sz : ByteArray} (hs : sz.size ≤ 1000) (hp : p ≤ 5000) (hn : n ≤ 2000) (h : Rd w rb A n c p) (hz : BytesAt w B A b o n z) (hB : B ≤ rb) (hrb : rb < w.heap.size) :
    Calls Tryd.prog 40 #[.pointer (some ⟨rb, 0, none⟩), .string sz] w (SpoiltT rb A n c p 2004 w) := by
  have HZ := Lib.hid hz
  have HBY : ∀ {wx : World}, Chg (fun j => j = rb) w wx → BytesAt wx B A b o n z := fun hG => HZ.out.below ((hG.below (B := rb) (by omega) (fun j hj => by have hj' : j = rb := hj; omega)).mono hB)
  clear hz
  by_cases h0 : sz.size = 0
  · have e0 : ((sz.size : Int) == 0) = true := by rw [h0]; rfl
    go_enter Tryd.func40, Tryd.ntmps40
    go_wp2_with fail
    go_returns
    exact ⟨_, _, rfl, by show 1 ≤ 2004; omega, h, by omega, Chg.refl _ _⟩
  have e0 : ((sz.size : Int) == 0) = false := beq_eq_false_iff_ne.2 (by omega)
  go_enter Tryd.func40, Tryd.ntmps40
  go_wp2_with fail
  go_at_call 39
  refine (pick_any (q := (sz.size : Int)) (by omega) (by omega) (by omega) hn h (HBY (Chg.refl _ _)) hB).mono ?_
  rintro e w4 ⟨v4, rfl, v40, v41, R4, O4⟩
  have C4 := Chg.of_only O4
  have rbW4' : rb < w4.heap.size := by have := (Chg.of_only O4).size; omega
  clear O4 h e0
  obtain ⟨kq, rfl⟩ := Int.eq_ofNat_of_zero_le v40
  have hk1 : kq < sz.size := by omega
  have hx1 := spoil_le sz 0 kq
  have hx2 := spoil_le sz (kq + 1) sz.size
  have HW1 : Hid (IntKind.i64.wrap ((kq : Int) + 1) = ((kq + 1 : Nat) : Int)) := by show _ = _; simp (disch := omega) only [IntWalk.i64_in]; omega
  go_wp2_with fail
  have Rd4 : Rd w4.drew rb A n c _ := R4
  have Cd4 := C4.trans (Chg.drew (fun j => j = rb) w4)
  have rbW4 : rb < w4.drew.heap.size := rbW4'
  refine region_plain (fuel := 15) (listed := #[false, false, false, false, false, false, false, false, false, false, false, false, false, false, false]) (fun _ => True) (by kernel_rfl) (by kernel_rfl) (by kernel_rfl) ?_
  refine hold_take (i := 0) (d := 13) (v := ?vqx0) (listed' := #[true, false, false, false, false, false, false, false, false, false, false, false, false, false, false]) rfl (by kernel_rfl) (by kernel_rfl) (by kernel_rfl) rfl (by rfl) (by kernel_rfl) trivial ?hqx0 ?rqx0
  case hqx0 =>
    intro w' hSw
    clear hSw
    go_simp
    first | with_reducible rfl | (rw [if_neg (by omega)]; done) | (rw [if_neg (by omega)]; with_reducible rfl) | (rw [if_pos (by omega)]; done) | (rw [if_pos (by omega)]; with_reducible rfl) | (simp only [HW1.out, Int.toNat_natCast]; rw [if_pos (by omega)]; done) | (simp only [HW1.out, Int.toNat_natCast]; rw [if_pos (by omega)]; with_reducible rfl) | (simp only [HW1.out]; done) | (simp only [HW1.out]; with_reducible rfl) | (rw [if_neg (by simp only [ByteArray.size_append]; omega)]; done) | (rw [if_neg (by simp only [ByteArray.size_append]; omega)]; with_reducible rfl) | skip
  simp only [List.setIfInBounds_toArray, List.set_cons_zero, List.set_cons_succ]
  refine hold_take (i := 1) (d := 14) (v := ?vqx1) (listed' := #[true, true, false, false, false, false, false, false, false, false, false, false, false, false, false]) rfl (by kernel_rfl) (by kernel_rfl) (by kernel_rfl) rfl (by rfl) (by kernel_rfl) trivial ?hqx1 ?rqx1
  case hqx1 =>
    intro w' hSw
    clear hSw
    go_simp
    first | with_reducible rfl | (rw [if_neg (by omega)]; done) | (rw [if_neg (by omega)]; with_reducible rfl) | (rw [if_pos (by omega)]; done) | (rw [if_pos (by omega)]; with_reducible rfl) | (simp only [HW1.out, Int.toNat_natCast]; rw [if_pos (by omega)]; done) | (simp only [HW1.out, Int.toNat_natCast]; rw [if_pos (by omega)]; with_reducible rfl) | (simp only [HW1.out]; done) | (simp only [HW1.out]; with_reducible rfl) | (rw [if_neg (by simp only [ByteArray.size_append]; omega)]; done) | (rw [if_neg (by simp only [ByteArray.size_append]; omega)]; with_reducible rfl) | skip
  simp only [List.setIfInBounds_toArray, List.set_cons_zero, List.set_cons_succ]
  refine hold_take (i := 2) (d := 15) (v := ?vqx2) (listed' := #[true, true, true, false, false, false, false, false, false, false, false, false, false, false, false]) rfl (by kernel_rfl) (by kernel_rfl) (by kernel_rfl) rfl (by rfl) (by kernel_rfl) trivial ?hqx2 ?rqx2
  case hqx2 =>
    intro w' hSw
    clear hSw
    go_simp
    first | with_reducible rfl | (rw [if_neg (by omega)]; done) | (rw [if_neg (by omega)]; with_reducible rfl) | (rw [if_pos (by omega)]; done) | (rw [if_pos (by omega)]; with_reducible rfl) | (simp only [HW1.out, Int.toNat_natCast]; rw [if_pos (by omega)]; done) | (simp only [HW1.out, Int.toNat_natCast]; rw [if_pos (by omega)]; with_reducible rfl) | (simp only [HW1.out]; done) | (simp only [HW1.out]; with_reducible rfl) | (rw [if_neg (by simp only [ByteArray.size_append]; omega)]; done) | (rw [if_neg (by simp only [ByteArray.size_append]; omega)]; with_reducible rfl) | skip
  simp only [List.setIfInBounds_toArray, List.set_cons_zero, List.set_cons_succ]
  refine hold_take (i := 4) (d := 17) (v := ?vqx4) (listed' := #[true, true, true, false, true, false, false, false, false, false, false, false, false, false, false]) rfl (by kernel_rfl) (by kernel_rfl) (by kernel_rfl) rfl (by rfl) (by kernel_rfl) trivial ?hqx4 ?rqx4
  case hqx4 =>
    intro w' hSw
    clear hSw
    go_simp
    first | with_reducible rfl | (rw [if_neg (by omega)]; done) | (rw [if_neg (by omega)]; with_reducible rfl) | (rw [if_pos (by omega)]; done) | (rw [if_pos (by omega)]; with_reducible rfl) | (simp only [HW1.out, Int.toNat_natCast]; rw [if_pos (by omega)]; done) | (simp only [HW1.out, Int.toNat_natCast]; rw [if_pos (by omega)]; with_reducible rfl) | (simp only [HW1.out]; done) | (simp only [HW1.out]; with_reducible rfl) | (rw [if_neg (by simp only [ByteArray.size_append]; omega)]; done) | (rw [if_neg (by simp only [ByteArray.size_append]; omega)]; with_reducible rfl) | skip
  simp only [List.setIfInBounds_toArray, List.set_cons_zero, List.set_cons_succ]
  refine hold_take (i := 9) (d := 22) (v := ?vqx9) (listed' := #[true, true, true, false, true, false, false, false, false, true, false, false, false, false, false]) rfl (by kernel_rfl) (by kernel_rfl) (by kernel_rfl) rfl (by rfl) (by kernel_rfl) trivial ?hqx9 ?rqx9
  case hqx9 =>
    intro w' hSw
    clear hSw
    go_simp
    first | with_reducible rfl | (rw [if_neg (by omega)]; done) | (rw [if_neg (by omega)]; with_reducible rfl) | (rw [if_pos (by omega)]; done) | (rw [if_pos (by omega)]; with_reducible rfl) | (simp only [HW1.out, Int.toNat_natCast]; rw [if_pos (by omega)]; done) | (simp only [HW1.out, Int.toNat_natCast]; rw [if_pos (by omega)]; with_reducible rfl) | (simp only [HW1.out]; done) | (simp only [HW1.out]; with_reducible rfl) | (rw [if_neg (by simp only [ByteArray.size_append]; omega)]; done) | (rw [if_neg (by simp only [ByteArray.size_append]; omega)]; with_reducible rfl) | skip
  simp only [List.setIfInBounds_toArray, List.set_cons_zero, List.set_cons_succ]
  refine hold_take (i := 10) (d := 23) (v := ?vqx10) (listed' := #[true, true, true, false, true, false, false, false, false, true, true, false, false, false, false]) rfl (by kernel_rfl) (by kernel_rfl) (by kernel_rfl) rfl (by rfl) (by kernel_rfl) trivial ?hqx10 ?rqx10
  case hqx10 =>
    intro w' hSw
    clear hSw
    go_simp
    first | with_reducible rfl | (rw [if_neg (by omega)]; done) | (rw [if_neg (by omega)]; with_reducible rfl) | (rw [if_pos (by omega)]; done) | (rw [if_pos (by omega)]; with_reducible rfl) | (simp only [HW1.out, Int.toNat_natCast]; rw [if_pos (by omega)]; done) | (simp only [HW1.out, Int.toNat_natCast]; rw [if_pos (by omega)]; with_reducible rfl) | (simp only [HW1.out]; done) | (simp only [HW1.out]; with_reducible rfl) | (rw [if_neg (by simp only [ByteArray.size_append]; omega)]; done) | (rw [if_neg (by simp only [ByteArray.size_append]; omega)]; with_reducible rfl) | skip
  simp only [List.setIfInBounds_toArray, List.set_cons_zero, List.set_cons_succ]
  refine hold_take (i := 11) (d := 24) (v := ?vqx11) (listed' := #[true, true, true, false, true, false, false, false, false, true, true, true, false, false, false]) rfl (by kernel_rfl) (by kernel_rfl) (by kernel_rfl) rfl (by rfl) (by kernel_rfl) trivial ?hqx11 ?rqx11
  case hqx11 =>
    intro w' hSw
    clear hSw
    go_simp
    first | with_reducible rfl | (rw [if_neg (by omega)]; done) | (rw [if_neg (by omega)]; with_reducible rfl) | (rw [if_pos (by omega)]; done) | (rw [if_pos (by omega)]; with_reducible rfl) | (simp only [HW1.out, Int.toNat_natCast]; rw [if_pos (by omega)]; done) | (simp only [HW1.out, Int.toNat_natCast]; rw [if_pos (by omega)]; with_reducible rfl) | (simp only [HW1.out]; done) | (simp only [HW1.out]; with_reducible rfl) | (rw [if_neg (by simp only [ByteArray.size_append]; omega)]; done) | (rw [if_neg (by simp only [ByteArray.size_append]; omega)]; with_reducible rfl) | skip
  simp only [List.setIfInBounds_toArray, List.set_cons_zero, List.set_cons_succ]
  refine hold_take (i := 12) (d := 25) (v := ?vqx12) (listed' := #[true, true, true, false, true, false, false, false, false, true, true, true, true, false, false]) rfl (by kernel_rfl) (by kernel_rfl) (by kernel_rfl) rfl (by rfl) (by kernel_rfl) trivial ?hqx12 ?rqx12
  case hqx12 =>
    intro w' hSw
    clear hSw
    go_simp
    first | with_reducible rfl | (rw [if_neg (by omega)]; done) | (rw [if_neg (by omega)]; with_reducible rfl) | (rw [if_pos (by omega)]; done) | (rw [if_pos (by omega)]; with_reducible rfl) | (simp only [HW1.out, Int.toNat_natCast]; rw [if_pos (by omega)]; done) | (simp only [HW1.out, Int.toNat_natCast]; rw [if_pos (by omega)]; with_reducible rfl) | (simp only [HW1.out]; done) | (simp only [HW1.out]; with_reducible rfl) | (rw [if_neg (by simp only [ByteArray.size_append]; omega)]; done) | (rw [if_neg (by simp only [ByteArray.size_append]; omega)]; with_reducible rfl) | skip
  simp only [List.setIfInBounds_toArray, List.set_cons_zero, List.set_cons_succ]
  refine hold_two (i := 3) (j := 5) (by kernel_rfl) ?gn3 ?gn5
  case gn3 =>
    have Xn3 := BoxN.start w4.drew #[.string ⟨#[]⟩, .string ⟨#[48]⟩, .string ⟨#[32]⟩, .string ⟨#[10]⟩, .string ⟨#[45]⟩, .string ⟨#[98, 97, 99, 107]⟩] 9
    have kn3 : ∀ j, j < 6 → ∃ li : ByteArray, li.size ≤ 4 ∧ (w4.drew.alloc (.cells #[.string ⟨#[]⟩, .string ⟨#[48]⟩, .string ⟨#[32]⟩, .string ⟨#[10]⟩, .string ⟨#[45]⟩, .string ⟨#[98, 97, 99, 107]⟩] 9)).cell? ⟨w4.drew.heap.size, j, none⟩ = some (.string li) := fun j hj => by
      rcases (by omega : j = 0 ∨ j = 1 ∨ j = 2 ∨ j = 3 ∨ j = 4 ∨ j = 5) with rfl | rfl | rfl | rfl | rfl | rfl
      · exact ⟨⟨#[]⟩, by decide, Xn3.cell 0 rfl⟩
      · exact ⟨⟨#[48]⟩, by decide, Xn3.cell 1 rfl⟩
      · exact ⟨⟨#[32]⟩, by decide, Xn3.cell 2 rfl⟩
      · exact ⟨⟨#[10]⟩, by decide, Xn3.cell 3 rfl⟩
      · exact ⟨⟨#[45]⟩, by decide, Xn3.cell 4 rfl⟩
      · exact ⟨⟨#[98, 97, 99, 107]⟩, by decide, Xn3.cell 5 rfl⟩
    have cgn3 := Chg.alloc (fun j => j = rb) w4.drew (.cells #[.string ⟨#[]⟩, .string ⟨#[48]⟩, .string ⟨#[32]⟩, .string ⟨#[10]⟩, .string ⟨#[45]⟩, .string ⟨#[98, 97, 99, 107]⟩] 9)
    have Rn3 := (Chg.alloc (fun _ => False) w4.drew (.cells #[.string ⟨#[]⟩, .string ⟨#[48]⟩, .string ⟨#[32]⟩, .string ⟨#[10]⟩, .string ⟨#[45]⟩, .string ⟨#[98, 97, 99, 107]⟩] 9)).rd Rd4 rbW4 (fun e => e)
    have Cn3 := Cd4.trans cgn3
    have rbWn3 : rb < (w4.drew.alloc (.cells #[.string ⟨#[]⟩, .string ⟨#[48]⟩, .string ⟨#[32]⟩, .string ⟨#[10]⟩, .string ⟨#[45]⟩, .string ⟨#[98, 97, 99, 107]⟩] 9)).heap.size := Nat.lt_of_lt_of_le rbW4 cgn3.size
    obtain ⟨bln3, ebln3⟩ : ∃ q, w4.drew.heap.size = q := ⟨_, rfl⟩
    have nbn3 : ¬ (bln3 = rb) := by rw [← ebln3]; have := rbW4; omega
    refine opH_value (i := 3) (d := 16) (listed' := #[true, true, true, true, true, false, false, false, false, true, true, true, true, false, false]) rfl rfl (by rfl) (by kernel_rfl) (v := .slice (some ⟨w4.drew.heap.size, 0, none⟩) 6 6) (w' := w4.drew.alloc (.cells #[.string ⟨#[]⟩, .string ⟨#[48]⟩, .string ⟨#[32]⟩, .string ⟨#[10]⟩, .string ⟨#[45]⟩, .string ⟨#[98, 97, 99, 107]⟩] 9)) ?vn3 trivial ?_
    case vn3 =>
      go_simp
      try with_reducible rfl
    rw [ebln3] at kn3 ⊢
    clear ebln3 Xn3 cgn3
    generalize w4.drew.alloc (.cells #[.string ⟨#[]⟩, .string ⟨#[48]⟩, .string ⟨#[32]⟩, .string ⟨#[10]⟩, .string ⟨#[45]⟩, .string ⟨#[98, 97, 99, 107]⟩] 9) = wvn3 at kn3 Rn3 Cn3 rbWn3 ⊢
    simp only [List.setIfInBounds_toArray, List.set_cons_zero, List.set_cons_succ]
    refine hold_call (i := 5) (d := 18) (listed' := #[true, true, true, true, true, true, false, false, false, true, true, true, true, false, false]) rfl (by kernel_rfl) rfl (by rfl) (by kernel_rfl) ?en3n5 (pick_any (q := 6) (by omega) (by omega) (by omega) hn Rn3 (HBY Cn3) hB) ?_
    case en3n5 => (go_simp; try rfl)
    rintro e wvn3n5 ⟨vn3n5, rfl, un3n5, tn3n5, Rn3n5, On3n5⟩
    have cgn3n5 := Chg.of_only On3n5
    have Cn3n5 := Cn3.trans cgn3n5
    have rbWn3n5 : rb < wvn3n5.heap.size := Nat.lt_of_lt_of_le rbWn3 cgn3n5.size
    obtain ⟨jj, rfl⟩ : ∃ j : Nat, vn3n5 = (j : Int) := ⟨vn3n5.toNat, by omega⟩
    have hj6 : jj < 6 := by omega
    have kn3n5 : ∀ j, j < 6 → ∃ li : ByteArray, li.size ≤ 4 ∧ wvn3n5.cell? ⟨bln3, j, none⟩ = some (.string li) := fun j hj => by
      obtain ⟨li, h1, h2⟩ := kn3 j hj
      exact ⟨li, h1, cgn3n5.at_cell (p := ⟨bln3, j, none⟩) nbn3 h2⟩
    clear kn3
    clear On3n5 cgn3n5
    refine ⟨_, rfl, trivial, ?_⟩
    simp only [List.setIfInBounds_toArray, List.set_cons_zero, List.set_cons_succ]
    obtain ⟨li, li1, li2⟩ := kn3n5 jj hj6
    clear kn3n5
    refine hold_stronger (S' := fun w' => w'.cell? ⟨bln3, jj, none⟩ = some (.string li)) (fun _ _ => trivial) _ _ _ _ ?_
    have SSn3n5 : (fun w' => w'.cell? ⟨bln3, jj, none⟩ = some (.string li)) wvn3n5 := li2
    refine hold_take (i := 6) (d := 19) (v := ?vqn3n5x6) (listed' := #[true, true, true, true, true, true, true, false, false, true, true, true, true, false, false]) rfl (by kernel_rfl) (by kernel_rfl) (by kernel_rfl) rfl (by rfl) (by kernel_rfl) SSn3n5 ?hqn3n5x6 ?rqn3n5x6
    case hqn3n5x6 =>
      intro w' hSw
      have kk := hSw
      go_simp
      first | with_reducible rfl | (rw [if_neg (by omega)]; done) | (rw [if_neg (by omega)]; with_reducible rfl) | (rw [if_pos (by omega)]; done) | (rw [if_pos (by omega)]; with_reducible rfl) | (simp only [HW1.out, Int.toNat_natCast]; rw [if_pos (by omega)]; done) | (simp only [HW1.out, Int.toNat_natCast]; rw [if_pos (by omega)]; with_reducible rfl) | (simp only [HW1.out]; done) | (simp only [HW1.out]; with_reducible rfl) | (rw [if_neg (by simp only [ByteArray.size_append]; omega)]; done) | (rw [if_neg (by simp only [ByteArray.size_append]; omega)]; with_reducible rfl) | skip
    simp only [List.setIfInBounds_toArray, List.set_cons_zero, List.set_cons_succ]
    refine hold_take (i := 7) (d := 20) (v := ?vqn3n5x7) (listed' := #[true, true, true, true, true, true, true, true, false, true, true, true, true, false, false]) rfl (by kernel_rfl) (by kernel_rfl) (by kernel_rfl) rfl (by rfl) (by kernel_rfl) SSn3n5 ?hqn3n5x7 ?rqn3n5x7
    case hqn3n5x7 =>
      intro w' hSw
      have kk := hSw
      go_simp
      first | with_reducible rfl | (rw [if_neg (by omega)]; done) | (rw [if_neg (by omega)]; with_reducible rfl) | (rw [if_pos (by omega)]; done) | (rw [if_pos (by omega)]; with_reducible rfl) | (simp only [HW1.out, Int.toNat_natCast]; rw [if_pos (by omega)]; done) | (simp only [HW1.out, Int.toNat_natCast]; rw [if_pos (by omega)]; with_reducible rfl) | (simp only [HW1.out]; done) | (simp only [HW1.out]; with_reducible rfl) | (rw [if_neg (by simp only [ByteArray.size_append]; omega)]; done) | (rw [if_neg (by simp only [ByteArray.size_append]; omega)]; with_reducible rfl) | skip
    simp only [List.setIfInBounds_toArray, List.set_cons_zero, List.set_cons_succ]
    refine hold_take (i := 8) (d := 21) (v := ?vqn3n5x8) (listed' := #[true, true, true, true, true, true, true, true, true, true, true, true, true, false, false]) rfl (by kernel_rfl) (by kernel_rfl) (by kernel_rfl) rfl (by rfl) (by kernel_rfl) SSn3n5 ?hqn3n5x8 ?rqn3n5x8
    case hqn3n5x8 =>
      intro w' hSw
      have kk := hSw
      go_simp
      first | with_reducible rfl | (rw [if_neg (by omega)]; done) | (rw [if_neg (by omega)]; with_reducible rfl) | (rw [if_pos (by omega)]; done) | (rw [if_pos (by omega)]; with_reducible rfl) | (simp only [HW1.out, Int.toNat_natCast]; rw [if_pos (by omega)]; done) | (simp only [HW1.out, Int.toNat_natCast]; rw [if_pos (by omega)]; with_reducible rfl) | (simp only [HW1.out]; done) | (simp only [HW1.out]; with_reducible rfl) | (rw [if_neg (by simp only [ByteArray.size_append]; omega)]; done) | (rw [if_neg (by simp only [ByteArray.size_append]; omega)]; with_reducible rfl) | skip
    simp only [List.setIfInBounds_toArray, List.set_cons_zero, List.set_cons_succ]
    refine hold_take (i := 13) (d := 26) (v := ?vqn3n5x13) (listed' := #[true, true, true, true, true, true, true, true, true, true, true, true, true, true, false]) rfl (by kernel_rfl) (by kernel_rfl) (by kernel_rfl) rfl (by rfl) (by kernel_rfl) SSn3n5 ?hqn3n5x13 ?rqn3n5x13
    case hqn3n5x13 =>
      intro w' hSw
      have kk := hSw
      go_simp
      first | with_reducible rfl | (rw [if_neg (by omega)]; done) | (rw [if_neg (by omega)]; with_reducible rfl) | (rw [if_pos (by omega)]; done) | (rw [if_pos (by omega)]; with_reducible rfl) | (simp only [HW1.out, Int.toNat_natCast]; rw [if_pos (by omega)]; done) | (simp only [HW1.out, Int.toNat_natCast]; rw [if_pos (by omega)]; with_reducible rfl) | (simp only [HW1.out]; done) | (simp only [HW1.out]; with_reducible rfl) | (rw [if_neg (by simp only [ByteArray.size_append]; omega)]; done) | (rw [if_neg (by simp only [ByteArray.size_append]; omega)]; with_reducible rfl) | skip
    simp only [List.setIfInBounds_toArray, List.set_cons_zero, List.set_cons_succ]
    refine hold_take (i := 14) (d := 4) (v := ?vqn3n5x14) (listed' := #[true, true, true, true, true, true, true, true, true, true, true, true, true, true, true]) rfl (by kernel_rfl) (by kernel_rfl) (by kernel_rfl) rfl (by rfl) (by kernel_rfl) SSn3n5 ?hqn3n5x14 ?rqn3n5x14
    case hqn3n5x14 =>
      intro w' hSw
      have kk := hSw
      go_simp
      first | with_reducible rfl | (rw [if_neg (by omega)]; done) | (rw [if_neg (by omega)]; with_reducible rfl) | (rw [if_pos (by omega)]; done) | (rw [if_pos (by omega)]; with_reducible rfl) | (simp only [HW1.out, Int.toNat_natCast]; rw [if_pos (by omega)]; done) | (simp only [HW1.out, Int.toNat_natCast]; rw [if_pos (by omega)]; with_reducible rfl) | (simp only [HW1.out]; done) | (simp only [HW1.out]; with_reducible rfl) | (rw [if_neg (by simp only [ByteArray.size_append]; omega)]; done) | (rw [if_neg (by simp only [ByteArray.size_append]; omega)]; with_reducible rfl) | skip
    simp only [List.setIfInBounds_toArray, List.set_cons_zero, List.set_cons_succ]
    refine hold_done (by kernel_rfl) ?_ _
    go_wp2_with fail
    go_returns
    exact ⟨_, _, rfl, by simp only [ByteArray.size_append]; omega, Rn3n5, by omega, Cn3n5⟩
  case gn5 =>
    refine opH_call (i := 5) (d := 18) (listed' := #[true, true, true, false, true, true, false, false, false, true, true, true, true, false, false]) rfl rfl (by rfl) (by kernel_rfl) ?en5 (pick_any (q := 6) (by omega) (by omega) (by omega) hn Rd4 (HBY Cd4) hB) ?_
    case en5 => (go_simp; try rfl)
    rintro e wvn5 ⟨vn5, rfl, un5, tn5, Rn5, On5⟩
    have cgn5 := Chg.of_only On5
    have Cn5 := Cd4.trans cgn5
    have rbWn5 : rb < wvn5.heap.size := Nat.lt_of_lt_of_le rbW4 cgn5.size
    obtain ⟨jj, rfl⟩ : ∃ j : Nat, vn5 = (j : Int) := ⟨vn5.toNat, by omega⟩
    have hj6 : jj < 6 := by omega
    clear On5 cgn5
    refine ⟨_, rfl, trivial, ?_⟩
    simp only [List.setIfInBounds_toArray, List.set_cons_zero, List.set_cons_succ]
    have Xn5n3 := BoxN.start wvn5 #[.string ⟨#[]⟩, .string ⟨#[48]⟩, .string ⟨#[32]⟩, .string ⟨#[10]⟩, .string ⟨#[45]⟩, .string ⟨#[98, 97, 99, 107]⟩] 9
    have kn5n3 : ∀ j, j < 6 → ∃ li : ByteArray, li.size ≤ 4 ∧ (wvn5.alloc (.cells #[.string ⟨#[]⟩, .string ⟨#[48]⟩, .string ⟨#[32]⟩, .string ⟨#[10]⟩, .string ⟨#[45]⟩, .string ⟨#[98, 97, 99, 107]⟩] 9)).cell? ⟨wvn5.heap.size, j, none⟩ = some (.string li) := fun j hj => by
      rcases (by omega : j = 0 ∨ j = 1 ∨ j = 2 ∨ j = 3 ∨ j = 4 ∨ j = 5) with rfl | rfl | rfl | rfl | rfl | rfl
      · exact ⟨⟨#[]⟩, by decide, Xn5n3.cell 0 rfl⟩
      · exact ⟨⟨#[48]⟩, by decide, Xn5n3.cell 1 rfl⟩
      · exact ⟨⟨#[32]⟩, by decide, Xn5n3.cell 2 rfl⟩
      · exact ⟨⟨#[10]⟩, by decide, Xn5n3.cell 3 rfl⟩
      · exact ⟨⟨#[45]⟩, by decide, Xn5n3.cell 4 rfl⟩
      · exact ⟨⟨#[98, 97, 99, 107]⟩, by decide, Xn5n3.cell 5 rfl⟩
    have cgn5n3 := Chg.alloc (fun j => j = rb) wvn5 (.cells #[.string ⟨#[]⟩, .string ⟨#[48]⟩, .string ⟨#[32]⟩, .string ⟨#[10]⟩, .string ⟨#[45]⟩, .string ⟨#[98, 97, 99, 107]⟩] 9)
    have Rn5n3 := (Chg.alloc (fun _ => False) wvn5 (.cells #[.string ⟨#[]⟩, .string ⟨#[48]⟩, .string ⟨#[32]⟩, .string ⟨#[10]⟩, .string ⟨#[45]⟩, .string ⟨#[98, 97, 99, 107]⟩] 9)).rd Rn5 rbWn5 (fun e => e)
    have Cn5n3 := Cn5.trans cgn5n3
    have rbWn5n3 : rb < (wvn5.alloc (.cells #[.string ⟨#[]⟩, .string ⟨#[48]⟩, .string ⟨#[32]⟩, .string ⟨#[10]⟩, .string ⟨#[45]⟩, .string ⟨#[98, 97, 99, 107]⟩] 9)).heap.size := Nat.lt_of_lt_of_le rbWn5 cgn5n3.size
    obtain ⟨bln5n3, ebln5n3⟩ : ∃ q, wvn5.heap.size = q := ⟨_, rfl⟩
    have nbn5n3 : ¬ (bln5n3 = rb) := by rw [← ebln5n3]; have := rbWn5; omega
    refine hold_value (i := 3) (d := 16) (listed' := #[true, true, true, true, true, true, false, false, false, true, true, true, true, false, false]) rfl (by kernel_rfl) rfl (by rfl) (by kernel_rfl) (v := .slice (some ⟨wvn5.heap.size, 0, none⟩) 6 6) (w' := wvn5.alloc (.cells #[.string ⟨#[]⟩, .string ⟨#[48]⟩, .string ⟨#[32]⟩, .string ⟨#[10]⟩, .string ⟨#[45]⟩, .string ⟨#[98, 97, 99, 107]⟩] 9)) ?vn5n3 trivial ?_
    case vn5n3 =>
      go_simp
      try with_reducible rfl
    rw [ebln5n3] at kn5n3 ⊢
    clear ebln5n3 Xn5n3 cgn5n3
    generalize wvn5.alloc (.cells #[.string ⟨#[]⟩, .string ⟨#[48]⟩, .string ⟨#[32]⟩, .string ⟨#[10]⟩, .string ⟨#[45]⟩, .string ⟨#[98, 97, 99, 107]⟩] 9) = wvn5n3 at kn5n3 Rn5n3 Cn5n3 rbWn5n3 ⊢
    simp only [List.setIfInBounds_toArray, List.set_cons_zero, List.set_cons_succ]
    obtain ⟨li, li1, li2⟩ := kn5n3 jj hj6
    clear kn5n3
    refine hold_stronger (S' := fun w' => w'.cell? ⟨bln5n3, jj, none⟩ = some (.string li)) (fun _ _ => trivial) _ _ _ _ ?_
    have SSn5n3 : (fun w' => w'.cell? ⟨bln5n3, jj, none⟩ = some (.string li)) wvn5n3 := li2
    refine hold_take (i := 6) (d := 19) (v := ?vqn5n3x6) (listed' := #[true, true, true, true, true, true, true, false, false, true, true, true, true, false, false]) rfl (by kernel_rfl) (by kernel_rfl) (by kernel_rfl) rfl (by rfl) (by kernel_rfl) SSn5n3 ?hqn5n3x6 ?rqn5n3x6
    case hqn5n3x6 =>
      intro w' hSw
      have kk := hSw
      go_simp
      first | with_reducible rfl | (rw [if_neg (by omega)]; done) | (rw [if_neg (by omega)]; with_reducible rfl) | (rw [if_pos (by omega)]; done) | (rw [if_pos (by omega)]; with_reducible rfl) | (simp only [HW1.out, Int.toNat_natCast]; rw [if_pos (by omega)]; done) | (simp only [HW1.out, Int.toNat_natCast]; rw [if_pos (by omega)]; with_reducible rfl) | (simp only [HW1.out]; done) | (simp only [HW1.out]; with_reducible rfl) | (rw [if_neg (by simp only [ByteArray.size_append]; omega)]; done) | (rw [if_neg (by simp only [ByteArray.size_append]; omega)]; with_reducible rfl) | skip
    simp only [List.setIfInBounds_toArray, List.set_cons_zero, List.set_cons_succ]
    refine hold_take (i := 7) (d := 20) (v := ?vqn5n3x7) (listed' := #[true, true, true, true, true, true, true, true, false, true, true, true, true, false, false]) rfl (by kernel_rfl) (by kernel_rfl) (by kernel_rfl) rfl (by rfl) (by kernel_rfl) SSn5n3 ?hqn5n3x7 ?rqn5n3x7
    case hqn5n3x7 =>
      intro w' hSw
      have kk := hSw
      go_simp
      first | with_reducible rfl | (rw [if_neg (by omega)]; done) | (rw [if_neg (by omega)]; with_reducible rfl) | (rw [if_pos (by omega)]; done) | (rw [if_pos (by omega)]; with_reducible rfl) | (simp only [HW1.out, Int.toNat_natCast]; rw [if_pos (by omega)]; done) | (simp only [HW1.out, Int.toNat_natCast]; rw [if_pos (by omega)]; with_reducible rfl) | (simp only [HW1.out]; done) | (simp only [HW1.out]; with_reducible rfl) | (rw [if_neg (by simp only [ByteArray.size_append]; omega)]; done) | (rw [if_neg (by simp only [ByteArray.size_append]; omega)]; with_reducible rfl) | skip
    simp only [List.setIfInBounds_toArray, List.set_cons_zero, List.set_cons_succ]
    refine hold_take (i := 8) (d := 21) (v := ?vqn5n3x8) (listed' := #[true, true, true, true, true, true, true, true, true, true, true, true, true, false, false]) rfl (by kernel_rfl) (by kernel_rfl) (by kernel_rfl) rfl (by rfl) (by kernel_rfl) SSn5n3 ?hqn5n3x8 ?rqn5n3x8
    case hqn5n3x8 =>
      intro w' hSw
      have kk := hSw
      go_simp
      first | with_reducible rfl | (rw [if_neg (by omega)]; done) | (rw [if_neg (by omega)]; with_reducible rfl) | (rw [if_pos (by omega)]; done) | (rw [if_pos (by omega)]; with_reducible rfl) | (simp only [HW1.out, Int.toNat_natCast]; rw [if_pos (by omega)]; done) | (simp only [HW1.out, Int.toNat_natCast]; rw [if_pos (by omega)]; with_reducible rfl) | (simp only [HW1.out]; done) | (simp only [HW1.out]; with_reducible rfl) | (rw [if_neg (by simp only [ByteArray.size_append]; omega)]; done) | (rw [if_neg (by simp only [ByteArray.size_append]; omega)]; with_reducible rfl) | skip
    simp only [List.setIfInBounds_toArray, List.set_cons_zero, List.set_cons_succ]
    refine hold_take (i := 13) (d := 26) (v := ?vqn5n3x13) (listed' := #[true, true, true, true, true, true, true, true, true, true, true, true, true, true, false]) rfl (by kernel_rfl) (by kernel_rfl) (by kernel_rfl) rfl (by rfl) (by kernel_rfl) SSn5n3 ?hqn5n3x13 ?rqn5n3x13
    case hqn5n3x13 =>
      intro w' hSw
      have kk := hSw
      go_simp
      first | with_reducible rfl | (rw [if_neg (by omega)]; done) | (rw [if_neg (by omega)]; with_reducible rfl) | (rw [if_pos (by omega)]; done) | (rw [if_pos (by omega)]; with_reducible rfl) | (simp only [HW1.out, Int.toNat_natCast]; rw [if_pos (by omega)]; done) | (simp only [HW1.out, Int.toNat_natCast]; rw [if_pos (by omega)]; with_reducible rfl) | (simp only [HW1.out]; done) | (simp only [HW1.out]; with_reducible rfl) | (rw [if_neg (by simp only [ByteArray.size_append]; omega)]; done) | (rw [if_neg (by simp only [ByteArray.size_append]; omega)]; with_reducible rfl) | skip
    simp only [List.setIfInBounds_toArray, List.set_cons_zero, List.set_cons_succ]
    refine hold_take (i := 14) (d := 4) (v := ?vqn5n3x14) (listed' := #[true, true, true, true, true, true, true, true, true, true, true, true, true, true, true]) rfl (by kernel_rfl) (by kernel_rfl) (by kernel_rfl) rfl (by rfl) (by kernel_rfl) SSn5n3 ?hqn5n3x14 ?rqn5n3x14
    case hqn5n3x14 =>
      intro w' hSw
      have kk := hSw
      go_simp
      first | with_reducible rfl | (rw [if_neg (by omega)]; done) | (rw [if_neg (by omega)]; with_reducible rfl) | (rw [if_pos (by omega)]; done) | (rw [if_pos (by omega)]; with_reducible rfl) | (simp only [HW1.out, Int.toNat_natCast]; rw [if_pos (by omega)]; done) | (simp only [HW1.out, Int.toNat_natCast]; rw [if_pos (by omega)]; with_reducible rfl) | (simp only [HW1.out]; done) | (simp only [HW1.out]; with_reducible rfl) | (rw [if_neg (by simp only [ByteArray.size_append]; omega)]; done) | (rw [if_neg (by simp only [ByteArray.size_append]; omega)]; with_reducible rfl) | skip
    simp only [List.setIfInBounds_toArray, List.set_cons_zero, List.set_cons_succ]
    refine hold_done (by kernel_rfl) ?_ _
    go_wp2_with fail
    go_returns
    exact ⟨_, _, rfl, by simp only [ByteArray.size_append]; omega, Rn5n3, by omega, Cn5n3⟩
/-- A deed drawn of a code; a text drawn of a code. -/
def DrewD (w : World) (e : Ending) (w' : World) : Prop := ∃ d : Dd, e = .returned (deedV d) ∧ Below w.heap.size w w'
def DrewTx (w : World) (e : Ending) (w' : World) : Prop := ∃ s : ByteArray, e = .returned (.string s) ∧ s.size ≤ 5000 ∧ Below w.heap.size w w'
set_option maxRecDepth 100000 in
set_option maxHeartbeats 4000000 in
theorem draw_DeedText {A : Option Addr} {b o n cap : Nat} {z : Nat → Nat} {w : World} (h : CodeAt w A b o n cap z) :
    Calls Tryd.prog 10 #[.slice A n cap] w (DrewD w) := by
  have X := BoxN.start w #[.int .i64 0, .int .i64 0, .int .i64 0] 24
  have hbA := X.below
  have hc := h.alloc (.cells #[.int .i64 0, .int .i64 0, .int .i64 0] 24)
  go_enter Tryd.func10, Tryd.ntmps10
  go_wp2_with fail
  go_at_call 30
  refine (l20Open_any hc).mono ?_
  rintro e w1 ⟨A1, b1, o1, n1, c1, z1, rfl, hn1, hR, hz, hb, hs⟩
  have X1 := X.step hb
  have hsA : (w.alloc (.cells #[.int .i64 0, .int .i64 0, .int .i64 0] 24)).heap.size = w.heap.size + 1 := by simp
  rw [hsA] at hR hz hs hb
  have hs' : w.heap.size + 1 < w1.heap.size := by omega
  have hbw : Below w.heap.size w w1 := hbA.trans (hb.mono (by omega))
  have HZ := Lib.hid hz
  have HBY : ∀ {wx : World}, Chg (fun j => j = w.heap.size + 1) w1 wx → BytesAt wx (w.heap.size + 1) A1 b1 o1 n1 z1 := fun hG => HZ.out.below (hG.below (by omega) (fun j hj => by have hj' : j = w.heap.size + 1 := hj; omega))
  clear h hc
  go_wp2_with fail
  go_at_call 32
  refine (l20Logic_any (by omega) (by omega) (by omega) hn1 hR hz (Nat.le_refl _) hs').mono ?_
  rintro e w2 ⟨ua, l, m, na, g, o2, k, nc, zz, p, rfl, hlog, hf, hg, hn, hL, hk, hR2, hp, hC⟩
  have hs2 := hC.size
  clear hlog hf hg hL hR hz
  go_wp2_with fail
  go_at_call 31
  refine (l20Deed_any (by omega) (by omega) hn1 hR2 (HBY hC) (Nat.le_refl _) (by omega)).mono ?_
  rintro e w3 ⟨d, p2, rfl, hp2, hR3, hC3⟩
  have hC13 := hC.trans hC3
  have hs3 := hC3.size
  have hb13 : Below (w.heap.size + 1) w1 w3 := hC13.below (by omega) (fun j hj => by have hj' : j = w.heap.size + 1 := hj; omega)
  clear hC hC3 hR2
  obtain ⟨dk, da, db⟩ := d
  have X3 : BoxN w #[.int .i64 0, .int .i64 0, .int .i64 0] 24 w3 := ⟨X1.since.trans hb13⟩
  have c0 := X3.cell 0 rfl
  have c1 := X3.cell 1 rfl
  have c2 := X3.cell 2 rfl
  have f0 := X3.frozen 0
  have f1 := X3.frozen 1
  have f2 := X3.frozen 2
  obtain ⟨g0, g1, g2, hB⟩ := X3.set3 (.int .i64 dk) (.int .i64 da) (.int .i64 db)
  unfold deedV
  go_wp2_with fail
  generalize ((w3.setCell ⟨w.heap.size, 0, none⟩ (.int .i64 dk)).setCell ⟨w.heap.size, 1, none⟩ (.int .i64 da)).setCell ⟨w.heap.size, 2, none⟩ (.int .i64 db) = WF at g0 g1 g2 hB ⊢
  refine bodyPost_ret (v := .agg #[.int .i64 dk, .int .i64 da, .int .i64 db]) (by simp [results, Tryd.results10, go_sem, g0, g1, g2]) rfl ?_
  exact ⟨⟨dk, da, db⟩, rfl, hB⟩
set_option maxRecDepth 100000 in
set_option maxHeartbeats 4000000 in
theorem draw_ReadDeed {A : Option Addr} {b o n cap : Nat} {z : Nat → Nat} {w : World} (h : CodeAt w A b o n cap z) :
    Calls Tryd.prog 15 #[.slice A n cap] w (DrewTx w) := by
  have hbA := Below.refl w.heap.size w
  have hc := h
  go_enter Tryd.func15, Tryd.ntmps15
  go_wp2_with fail
  go_at_call 30
  refine (l20Open_any hc).mono ?_
  rintro e w1 ⟨A1, b1, o1, n1, c1, z1, rfl, hn1, hR, hz, hb, hs⟩
  have hs' : w.heap.size < w1.heap.size := by omega
  have hbw : Below w.heap.size w w1 := hbA.trans (hb.mono (by omega))
  have HZ := Lib.hid hz
  have HBY : ∀ {wx : World}, Chg (fun j => j = w.heap.size) w1 wx → BytesAt wx (w.heap.size) A1 b1 o1 n1 z1 := fun hG => HZ.out.below (hG.below (by omega) (fun j hj => by have hj' : j = w.heap.size := hj; omega))
  clear h hc
  go_wp2_with fail
  go_at_call 32
  refine (l20Logic_any (by omega) (by omega) (by omega) hn1 hR hz (Nat.le_refl _) hs').mono ?_
  rintro e w2 ⟨ua, l, m, na, g, o2, k, nc, zz, p, rfl, hlog, hf, hg, hn, hL, hk, hR2, hp, hC⟩
  have hs2 := hC.size
  clear hlog hf hg hL hR hz
  go_wp2_with fail
  go_at_call 31
  refine (l20Deed_any (by omega) (by omega) hn1 hR2 (HBY hC) (Nat.le_refl _) (by omega)).mono ?_
  rintro e w3 ⟨d, p2, rfl, hp2, hR3, hC3⟩
  have hC13 := hC.trans hC3
  have hs3 := hC3.size
  have hb13 : Below (w.heap.size) w1 w3 := hC13.below (by omega) (fun j hj => by have hj' : j = w.heap.size := hj; omega)
  clear hC hC3 hR2
  have hbw3 : Below w.heap.size w w3 := hbw.trans (hb13.mono (by omega))
  have HT := spec_DeedText d w3
  unfold strV at HT
  obtain ⟨tx, etx⟩ : ∃ tx : ByteArray, (⟨(deedL d).toArray⟩ : ByteArray) = tx := ⟨_, rfl⟩
  have ltx : tx.size ≤ 10 := by rw [← etx]; exact deedL_len d
  rw [etx] at HT
  clear etx
  go_wp2_with fail
  go_at_call 12
  refine HT.mono ?_
  rintro e w4 ⟨rfl, b4⟩
  have hbw4 : Below w.heap.size w w4 := hbw3.trans (b4.mono (by omega))
  have hs4 := b4.size
  have hC4 : Chg (fun j => j = w.heap.size) w1 w4 := hC13.trans (Chg.of_below b4 fun j hj hB => absurd hB (by omega))
  have hR4 : Rd w4 w.heap.size A1 n1 c1 p2 := (Chg.of_below (S := fun _ => False) b4 fun j hj hB => absurd hB (by omega)).rd hR3 (by omega) (fun e => e)
  clear HT hbw3 hb13 hC13 hR3 b4
  go_wp2_with fail
  go_at_call 39
  refine (pick_any (q := 3) (by omega) (by omega) (by omega) hn1 hR4 (HBY hC4) (Nat.le_refl _)).mono ?_
  rintro e w5 ⟨v, rfl, v0, v1, hR5, O5⟩
  have c5 := Chg.of_only O5
  have hC5 := hC4.trans c5
  have hs5 := c5.size
  have hb5 : Below w.heap.size w1 w5 := hC5.below (by omega) (fun j hj => by have hj' : j = w.heap.size := hj; omega)
  clear hC4 hR4 O5 c5
  by_cases hv : v = 0
  · subst hv
    go_wp2_with fail
    go_at_call 40
    refine (l20Spoil_any (by omega) (by omega) hn1 hR5 (HBY hC5) (Nat.le_refl _) (by omega)).mono ?_
    rintro e w6 ⟨s, p6, rfl, hs6, hR6, hp6, hC6⟩
    have hb6 : Below w.heap.size w1 w6 := (hC5.trans hC6).below (by omega) (fun j hj => by have hj' : j = w.heap.size := hj; omega)
    go_wp2_with fail
    go_returns
    exact ⟨_, rfl, by omega, hbw.trans hb6⟩
  · have n0 : (v == 0) = false := beq_eq_false_iff_ne.2 hv
    go_wp2_with fail
    go_returns
    exact ⟨_, rfl, by omega, hbw.trans hb5⟩
end Go.Proofs.YtjofkejfldmmlaaDoor
