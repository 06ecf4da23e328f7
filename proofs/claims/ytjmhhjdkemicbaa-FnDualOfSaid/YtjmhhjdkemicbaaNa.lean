/- The laws on no, yes and logics, walked at whatever code. The law on LogicOk, walked at whatever code. The law on NotOf, walked at whatever code; what the functions of logics answer of numbers that are answers. -/
import Derived.Test.YtjmhhjdkemicbaaDn
import Derived.Test.YtjmhhjdkemicbaaLe
import Derived.Test.YtjmhhjdkemicbaaOi
import Derived.Test.YtjmhhjdkemicbaaMath
namespace Go.Proofs.Ytjmhhjdkemicbaa
open Go.RowKit Go.Deep

/-- The drawn logic in its box, and all that was there before. -/
structure Held (w : World) (ua : Option Addr) (l : Lay) (m : Mx) (na : Option Addr) (g o k nc : Nat) (z : Nat → Int) (P : Nat) (wx : World) : Prop where
  log : LogAt wx P ua l m na g o k z
  box : TwoAt wx P (.slice ua m.n l.cap) (.slice na k nc)
  old : Below w.heap.size w wx
theorem Held.step {w wx w' : World} {ua : Option Addr} {l : Lay} {m : Mx} {na : Option Addr} {g o k nc P : Nat} {z : Nat → Int} (h : Held w ua l m na g o k nc z P wx) (hb : Below wx.heap.size wx w') : Held w ua l m na g o k nc z P w' :=
  ⟨h.log.step hb, h.box.below hb (World.block_lt_of_cell? wx ⟨P, 0, none⟩ h.box.c0), h.old.trans (hb.mono h.old.size)⟩
theorem Held.start {w w1 : World} {ua : Option Addr} {l : Lay} {m : Mx} {na : Option Addr} {g o k : Nat} {z : Nat → Int} (h : Fresh w ua l m na g o k z w1) (nc : Nat) : Held w ua l m na g o k nc z w1.heap.size (w1.alloc (.cells #[.slice ua m.n l.cap, .slice na k nc] 30)) :=
  ⟨h.log.alloc _, TwoAt.new _ _ _ _, h.old.alloc h.old.size _⟩
theorem noV_no {m : Mx} {k : Nat} {z : Nat → Int} (h : logicB m k z = false) : noV m k z = -1 := by unfold noV; rw [h]; rfl
theorem yesV_no {m : Mx} {k : Nat} {z : Nat → Int} (h : logicB m k z = false) : yesV m k z = -1 := by unfold yesV; rw [h]; rfl
theorem Ortho.noV {m : Mx} {k : Nat} {z : Nat → Int} {y : Nat → Nat} {o : Nat} (h : Ortho m z y o) (hl : logicB m k z = true) : noV m k z = (o : Int) := by unfold Proofs.Ytjmhhjdkemicbaa.noV; rw [if_pos hl]; exact h.eq
theorem Ortho.yesV {m : Mx} {k : Nat} {z : Nat → Int} {y : Nat → Nat} {o : Nat} (h : Ortho m z y o) (hl : logicB m k z = true) : yesV m k z = (y o : Int) := by
  unfold Proofs.Ytjmhhjdkemicbaa.yesV
  rw [if_pos hl, h.eq]
  exact h.zy o h.ho
theorem Ortho.leastV {m : Mx} {z : Nat → Int} {y : Nat → Nat} {o : Nat} (h : Ortho m z y o) : leastV m = (o : Int) := by rw [leastV_yes (orderB_true h.lat.order)]; exact h.eq
theorem Ortho.greatV {m : Mx} {z : Nat → Int} {y : Nat → Nat} {o : Nat} (h : Ortho m z y o) : Proofs.Ytjmhhjdkemicbaa.leastV (tr m) = (y o : Int) := by rw [leastV_yes (orderB_true (tr_order h.lat.order))]; exact h.great

end Go.Proofs.Ytjmhhjdkemicbaa
namespace Go.Proofs.Ytjmhhjdkemicbaa
open Go.RowKit Go.Deep

def twoZ (r c : Nat) : Int := if r ≤ c then 1 else 0
def twoM : Mx := ⟨2, fun _ => 2, twoZ⟩
def twoN (c : Nat) : Int := 1 - (c : Int)
theorem two_logic : logicB twoM 2 twoN = true := by
  refine logicB_true ⟨⟨⟨by decide, by decide, ⟨fun _ _ => rfl, fun r _ c _ => ?_⟩, fun a _ => ?_, fun a b ha hb => ?_, fun a b c ha hb hc => ?_⟩, fun a b ha hb => ⟨?_, ?_⟩⟩, ⟨rfl, fun a ha => ?_, fun a ha => ?_, fun a ha => ?_⟩, by decide, by decide⟩
  · show twoZ r c = 0 ∨ twoZ r c = 1
    unfold twoZ
    split
    · exact .inr rfl
    · exact .inl rfl
  · show twoZ a a = 1
    unfold twoZ
    rw [if_pos (Nat.le_refl a)]
  · have h : ∀ a, a < 2 → ∀ b, b < 2 → a ≠ b → twoM.Z a b = 1 → twoM.Z b a = 0 := by decide
    exact h a ha b hb
  · have h : ∀ a, a < 2 → ∀ b, b < 2 → ∀ c, c < 2 → twoM.Z a b = 1 → twoM.Z b c = 1 → twoM.Z a c = 1 := by decide
    exact h a ha b hb c hc
  · have h : ∀ a, a < 2 → ∀ b, b < 2 → hasI (meetI twoM a b) = true := by decide
    exact h a ha b hb
  · have h : ∀ a, a < 2 → ∀ b, b < 2 → hasI (meetI (tr twoM) a b) = true := by decide
    exact h a ha b hb
  · have h : ∀ a, a < 2 → 0 ≤ twoN a := by decide
    exact h a ha
  · have h : ∀ a, a < 2 → twoN a < 2 := by decide
    exact h a ha
  · have h : ∀ a, a < 2 → twoN (twoN a).toNat = (a : Int) := by decide
    exact h a ha
def twoOs (s : Nat) : List Obj := [
  .cells #[.int .i64 1, .int .i64 1] 3,
  .cells #[.int .i64 0, .int .i64 1] 3,
  .cells #[.slice (some ⟨s, 0, none⟩) 2 2, .slice (some ⟨s + 1, 0, none⟩) 2 2] 28,
  .cells #[.int .i64 1, .int .i64 0] 3]
def twoLay (s : Nat) : Lay := ⟨s + 1 + 1, 0, 2, fun r => some ⟨s + r, 0, none⟩, fun _ => 2, fun r => s + r, fun _ => 0⟩
theorem cell_of {w : World} {b i : Nat} {arr : Array Value} {t : TypeId} {v : Value} (h : w.heap[b]? = some (.cells arr t (0, 0))) (hi : arr[i]? = some v) : w.cell? ⟨b, i, none⟩ = some v := by simp only [World.cell?, h]; simpa using hi
theorem twolog_at (w : World) : LogAt (allocs w (twoOs w.heap.size)) (w.heap.size + 4) (some ⟨w.heap.size + 1 + 1, 0, none⟩) (twoLay w.heap.size) twoM (some ⟨w.heap.size + 1 + 1 + 1, 0, none⟩) (w.heap.size + 1 + 1 + 1) 0 2 twoN := by
  have g0 : (allocs w (twoOs w.heap.size)).heap[w.heap.size + 0]? = some (.cells #[.int .i64 1, .int .i64 1] 3 (0, 0)) := allocs_get (twoOs w.heap.size) w 0 (by show 0 < 4; omega)
  have g1 : (allocs w (twoOs w.heap.size)).heap[w.heap.size + 1]? = some (.cells #[.int .i64 0, .int .i64 1] 3 (0, 0)) := allocs_get (twoOs w.heap.size) w 1 (by show 1 < 4; omega)
  have g2 : (allocs w (twoOs w.heap.size)).heap[w.heap.size + 2]? = some (.cells #[.slice (some ⟨w.heap.size, 0, none⟩) 2 2, .slice (some ⟨w.heap.size + 1, 0, none⟩) 2 2] 28 (0, 0)) := allocs_get (twoOs w.heap.size) w 2 (by show 2 < 4; omega)
  have g3 : (allocs w (twoOs w.heap.size)).heap[w.heap.size + 3]? = some (.cells #[.int .i64 1, .int .i64 0] 3 (0, 0)) := allocs_get (twoOs w.heap.size) w 3 (by show 3 < 4; omega)
  have hsz : w.heap.size + 4 ≤ (allocs w (twoOs w.heap.size)).heap.size := by
    have := Array.getElem?_eq_some_iff.1 g3
    obtain ⟨h, _⟩ := this
    omega
  refine ⟨⟨fun r hr => ?_, fun r hr c hc => ?_⟩, ⟨fun c hc => ?_⟩, by decide, fun _ _ => by show 2 ≤ _; omega, by omega, hsz⟩
  · have hr' : r < 2 := hr
    have h2 : r = 0 ∨ r = 1 := by omega
    refine ⟨rfl, by show w.heap.size + 1 + 1 < _; omega, ?_⟩
    rcases h2 with rfl | rfl
    · exact cell_of g2 rfl
    · exact cell_of g2 rfl
  · have hr' : r < 2 := hr
    have hc' : c < 2 := hc
    have h2 : r = 0 ∨ r = 1 := by omega
    have h3 : c = 0 ∨ c = 1 := by omega
    refine ⟨rfl, by show w.heap.size + r < _; omega, ?_⟩
    rcases h2 with rfl | rfl
    · rcases h3 with rfl | rfl
      · exact cell_of g0 rfl
      · exact cell_of g0 rfl
    · rcases h3 with rfl | rfl
      · exact cell_of g1 rfl
      · exact cell_of g1 rfl
  · have h3 : c = 0 ∨ c = 1 := by omega
    refine ⟨rfl, by omega, ?_⟩
    rcases h3 with rfl | rfl
    · exact cell_of g3 rfl
    · exact cell_of g3 rfl
theorem LogicOk_two (w : World) : Calls Try.prog 62 #[.agg #[.slice (some ⟨w.heap.size + 1 + 1, 0, none⟩) 2 2, .slice (some ⟨w.heap.size + 1 + 1 + 1, 0, none⟩) 2 2]] (allocs w (twoOs w.heap.size)) fun e w' => e = .returned (.bool true) ∧ Below w.heap.size w w' :=
  (LogicOk_any (m := twoM) (l := twoLay w.heap.size) (nc := 2) (twolog_at w)).mono fun _ _ ⟨he, hb⟩ => ⟨by rw [he, two_logic], (allocs_below _ w).trans (hb.mono (allocs_below _ w).size)⟩

end Go.Proofs.Ytjmhhjdkemicbaa
namespace Go.Proofs.Ytjmhhjdkemicbaa
open Go.RowKit Go.Deep

theorem good2 {n : Nat} {x y : Int} (h : goodB n 2 (two x y) = true) : ∃ a b : Nat, x = (a : Int) ∧ y = (b : Int) ∧ a < n ∧ b < n := by
  obtain ⟨h0, h1, h2, h3⟩ := good_two h
  exact ⟨x.toNat, y.toNat, by omega, by omega, by omega, by omega⟩
theorem Ortho.notV {m : Mx} {k : Nat} {z : Nat → Int} {y : Nat → Nat} {o a : Nat} (h : Ortho m z y o) (hl : logicB m k z = true) (ha : a < m.n) : notV m k z (a : Int) = (y a : Int) := by
  unfold Proofs.Ytjmhhjdkemicbaa.notV
  rw [hl, good_same, good_mk (by omega) (by omega) (by omega) (by omega)]
  exact h.zy a ha
theorem Ortho.andV {m : Mx} {k : Nat} {z : Nat → Int} {y : Nat → Nat} {o a b : Nat} (h : Ortho m z y o) (hl : logicB m k z = true) (ha : a < m.n) (hb : b < m.n) : andV m k z (a : Int) (b : Int) = meetI m a b := by
  have _ := h.ho
  unfold Proofs.Ytjmhhjdkemicbaa.andV
  rw [hl, good_mk (by omega) (by omega) (by omega) (by omega)]
  rfl
theorem Ortho.orV {m : Mx} {k : Nat} {z : Nat → Int} {y : Nat → Nat} {o a b : Nat} (h : Ortho m z y o) (hl : logicB m k z = true) (ha : a < m.n) (hb : b < m.n) : orV m k z (a : Int) (b : Int) = meetI (tr m) a b := by
  have _ := h.ho
  unfold Proofs.Ytjmhhjdkemicbaa.orV
  rw [hl, good_mk (by omega) (by omega) (by omega) (by omega)]
  rfl
theorem Ortho.apartB {m : Mx} {k : Nat} {z : Nat → Int} {y : Nat → Nat} {o a b : Nat} (h : Ortho m z y o) (hl : logicB m k z = true) (ha : a < m.n) (hb : b < m.n) : apartB m k z (a : Int) (b : Int) = leB m a (y b) := by
  unfold Proofs.Ytjmhhjdkemicbaa.apartB
  rw [hl, good_mk (by omega) (by omega) (by omega) (by omega)]
  show (true && leB m a (z b).toNat) = _
  rw [h.zy b hb]
  simp

end Go.Proofs.Ytjmhhjdkemicbaa
