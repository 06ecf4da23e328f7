/- The walks of the laws' draws of an order and two answers out of a code. -/
import Derived.Test.YtcplljeglaolgaaDe
namespace Go.Proofs.Ytcplljeglaolgaa
open Go.RowKit Go.Deep

/-- What a draw of an order and two answers hands back. -/
def Drew2 (w : World) (e : Ending) (w' : World) : Prop :=
  ∃ (a : Option Addr) (l : Lay) (m : Mx) (x y : Int), e = .returned (.tuple #[.slice a m.n l.cap, .int .i64 x, .int .i64 y]) ∧ MatAt w' w'.heap.size a l m ∧ m.n ≤ 12 ∧ (∀ r, r < m.n → m.L r ≤ 12) ∧ Below w.heap.size w w'

set_option maxRecDepth 100000 in
set_option maxHeartbeats 1000000 in
theorem l20Pair_any {rb n c : Nat} {A : Option Addr} {B b o : Nat} {z : Nat → Nat} {w0 w : World} (hn : n ≤ 2000) (h : Rd w rb A n c 0) (hz : BytesAt w B A b o n z) (hB : B ≤ rb) (hrb : rb < w.heap.size) (hw0 : Below rb w0 w) (hrb0 : w0.heap.size ≤ rb) :
    Calls Try.prog 68 #[.pointer (some ⟨rb, 0, none⟩)] w (Drew2 w0) := by
  go_enter Try.func68, Try.ntmps68
  go_wp2_with fail
  go_at_call 77
  refine (l20Order_any (by omega) (by omega) (by omega) hn h hz hB hrb).mono ?_
  rintro e w2 ⟨a, l, m, p, rfl, hm, hf, h12, hL, hR, hp, hw2⟩
  have hBr : B ≤ rb := hB
  have q1 : (1 : Int) ≤ (m.n : Int) ∨ (m.n : Int) = 0 := by omega
  go_wp2_with fail
  case inl =>
    go_at_call 99
    refine (pick_any (by omega) (by omega) (by omega) hn hR (hz.below (hw2.mono hBr)) hB).mono ?_
    rintro e w3 ⟨v1, rfl, v1lo, v1hi, hR1, hO1⟩
    have hm1 := hm.only hf hO1 (fun x hx => by have hx' : x = rb := hx; omega)
    have hW1 : Below rb w w3 := hw2.trans (hO1.below (fun j hj => by have hj' : j = rb := hj; omega))
    have hs1 := hO1.size
    clear hR hm hw2 hO1
    go_wp2_with fail
    go_at_call 99
    refine (pick_any (by omega) (by omega) (by omega) hn hR1 (hz.below (hW1.mono hBr)) hB).mono ?_
    rintro e w4 ⟨v2, rfl, v2lo, v2hi, hR2, hO2⟩
    have hm2 := hm1.only hf hO2 (fun x hx => by have hx' : x = rb := hx; omega)
    have hW2 : Below rb w w4 := hW1.trans (hO2.below (fun j hj => by have hj' : j = rb := hj; omega))
    have hs2 := hO2.size
    clear hR1 hm1 hW1 hO2
    go_wp2_with fail
    go_at_call 99
    refine (pick_any (by omega) (by omega) (by omega) hn hR2 (hz.below (hW2.mono hBr)) hB).mono ?_
    rintro e w5 ⟨v3, rfl, v3lo, v3hi, hR3, hO3⟩
    have hm3 := hm2.only hf hO3 (fun x hx => by have hx' : x = rb := hx; omega)
    have hW3 : Below rb w w5 := hW2.trans (hO3.below (fun j hj => by have hj' : j = rb := hj; omega))
    have hs3 := hO3.size
    clear hR2 hm2 hW2 hO3
    go_wp2_with fail
    go_at_call 99
    refine (pick_any (by omega) (by omega) (by omega) hn hR3 (hz.below (hW3.mono hBr)) hB).mono ?_
    rintro e w6 ⟨v4, rfl, v4lo, v4hi, hR4, hO4⟩
    have hm4 := hm3.only hf hO4 (fun x hx => by have hx' : x = rb := hx; omega)
    have hW4 : Below rb w w6 := hW3.trans (hO4.below (fun j hj => by have hj' : j = rb := hj; omega))
    have hs4 := hO4.size
    clear hR3 hm3 hW3 hO4
    go_wp2_with fail
    go_ret3
    exact ⟨a, l, m, _, _, rfl, hm4.more (by omega), h12, hL, (hw0.trans hW4).mono hrb0⟩
  case inr =>
    go_at_call 99
    refine (pick_any (by omega) (by omega) (by omega) hn hR (hz.below (hw2.mono hBr)) hB).mono ?_
    rintro e w3 ⟨v1, rfl, v1lo, v1hi, hR1, hO1⟩
    have hm1 := hm.only hf hO1 (fun x hx => by have hx' : x = rb := hx; omega)
    have hW1 : Below rb w w3 := hw2.trans (hO1.below (fun j hj => by have hj' : j = rb := hj; omega))
    have hs1 := hO1.size
    clear hR hm hw2 hO1
    go_wp2_with fail
    go_at_call 99
    refine (pick_any (by omega) (by omega) (by omega) hn hR1 (hz.below (hW1.mono hBr)) hB).mono ?_
    rintro e w4 ⟨v2, rfl, v2lo, v2hi, hR2, hO2⟩
    have hm2 := hm1.only hf hO2 (fun x hx => by have hx' : x = rb := hx; omega)
    have hW2 : Below rb w w4 := hW1.trans (hO2.below (fun j hj => by have hj' : j = rb := hj; omega))
    have hs2 := hO2.size
    clear hR1 hm1 hW1 hO2
    go_wp2_with fail
    go_at_call 99
    refine (pick_any (by omega) (by omega) (by omega) hn hR2 (hz.below (hW2.mono hBr)) hB).mono ?_
    rintro e w5 ⟨v3, rfl, v3lo, v3hi, hR3, hO3⟩
    have hm3 := hm2.only hf hO3 (fun x hx => by have hx' : x = rb := hx; omega)
    have hW3 : Below rb w w5 := hW2.trans (hO3.below (fun j hj => by have hj' : j = rb := hj; omega))
    have hs3 := hO3.size
    clear hR2 hm2 hW2 hO3
    go_wp2_with fail
    go_at_call 99
    refine (pick_any (by omega) (by omega) (by omega) hn hR3 (hz.below (hW3.mono hBr)) hB).mono ?_
    rintro e w6 ⟨v4, rfl, v4lo, v4hi, hR4, hO4⟩
    have hm4 := hm3.only hf hO4 (fun x hx => by have hx' : x = rb := hx; omega)
    have hW4 : Below rb w w6 := hW3.trans (hO4.below (fun j hj => by have hj' : j = rb := hj; omega))
    have hs4 := hO4.size
    clear hR3 hm3 hW3 hO4
    go_wp2_with fail
    go_ret3
    exact ⟨a, l, m, _, _, rfl, hm4.more (by omega), h12, hL, (hw0.trans hW4).mono hrb0⟩

set_option maxHeartbeats 400000 in
theorem draw_MeetOf {A : Option Addr} {b o n cap : Nat} {z : Nat → Nat} {w : World} (h : CodeAt w A b o n cap z) :
    Calls Try.prog 22 #[.slice A n cap] w (Drew2 w) := by
  go_enter Try.func22, Try.ntmps22
  go_wp2_with fail
  go_at_call 69
  refine (l20Open_any h).mono ?_
  rintro e w1 ⟨A1, b1, o1, n1, c1, z1, rfl, hn1, hR, hz, hb, hs⟩
  have hs' : w.heap.size < w1.heap.size := by omega
  clear hs
  go_wp2_with fail
  go_at_call 68
  refine (l20Pair_any hn1 hR hz (Nat.le_refl _) hs' hb (Nat.le_refl _)).mono ?_
  rintro e w2 ⟨a, l, m, x, y, rfl, hm, h12, hL, hb2⟩
  go_wp2_with fail
  go_ret3
  exact ⟨a, l, m, x, y, rfl, hm, h12, hL, hb2⟩

set_option maxHeartbeats 400000 in
theorem draw_JoinOf {A : Option Addr} {b o n cap : Nat} {z : Nat → Nat} {w : World} (h : CodeAt w A b o n cap z) :
    Calls Try.prog 26 #[.slice A n cap] w (Drew2 w) := by
  go_enter Try.func26, Try.ntmps26
  go_wp2_with fail
  go_at_call 69
  refine (l20Open_any h).mono ?_
  rintro e w1 ⟨A1, b1, o1, n1, c1, z1, rfl, hn1, hR, hz, hb, hs⟩
  have hs' : w.heap.size < w1.heap.size := by omega
  clear hs
  go_wp2_with fail
  go_at_call 68
  refine (l20Pair_any hn1 hR hz (Nat.le_refl _) hs' hb (Nat.le_refl _)).mono ?_
  rintro e w2 ⟨a, l, m, x, y, rfl, hm, h12, hL, hb2⟩
  go_wp2_with fail
  go_ret3
  exact ⟨a, l, m, x, y, rfl, hm, h12, hL, hb2⟩
end Go.Proofs.Ytcplljeglaolgaa
