/- An argument that is a logic, opened as it lies in memory. -/
import Derived.Test.YtijcacibofpnpaaKc
import Derived.Test.YtijcacibofpnpaaOa
import Derived.Lib.SmallJoins
namespace Go.Proofs.Ytijcacibofpnpaa
open Go.ChangeShapes Go.WideShapes Go.ChangeAt Go.RowKit Go.Deep

theorem cellsLogic : Try.prog.cellsOf 43 = 2 := by kernel_rfl
theorem open_row {H : Type} {enc : TypeId × Value → H} {W : World} {base fuel : Nat} {a : Option Addr} {len cap : Nat} {x : DataW H × List MemPlace}
    (h : DataW.trod enc Try.prog W base (fun _ => true) true fuel 24 [.slice a len cap] = some x) : ∃ (g o : Nat) (z : Nat → Int), len ≤ 9223372036854775807 ∧ RowAt W W.heap.size a g o len z := by
  rcases open_ints Try.underlying24 Try.underlying3 cellsInt h with ⟨hcs, _⟩ | ⟨a', len', cap', zs, hcs, _, hl, hm, hz, _, hcell, _⟩
  · simp only [List.cons.injEq, and_true, Value.slice.injEq] at hcs
    obtain ⟨rfl, rfl, rfl⟩ := hcs
    exact ⟨0, 0, fun _ => 0, Nat.zero_le _, ⟨fun j hj => absurd hj (Nat.not_lt_zero _)⟩⟩
  · simp only [List.cons.injEq, and_true, Value.slice.injEq] at hcs
    obtain ⟨rfl, rfl, rfl⟩ := hcs
    simp only [if_true] at hz
    have hml : maxLen = 9223372036854775807 := rfl
    refine ⟨a'.block, a'.off, fun j => zs.getD j 0, by omega, ⟨fun j hj => ?_⟩⟩
    obtain ⟨b, o, sp⟩ := a'
    have hc := hcell j (by omega)
    have hs : sp = none := by simpa [Addr.add] using World.cell?_spot (hcell 0 (by omega))
    subst hs
    rw [add_plain] at hc
    refine ⟨rfl, (World.block_lt_of_cell? W ⟨b, o + j, none⟩ hc : b < _), ?_⟩
    exact hc
set_option maxRecDepth 100000 in
theorem open_logic {H : Type} {enc : TypeId × Value → H} {W : World} {base b0 : Nat} {v : Value} {d : DataW H} {p : List MemPlace}
    (hv : Value.okWide Try.prog W .any b0 43 v) (h : DataW.Trod enc Try.prog W base (fun _ => true) true 43 v d p) :
    ∃ (ua : Option Addr) (l : Lay) (m : Mx) (na : Option Addr) (g o k nc : Nat) (z : Nat → Int), v = .agg #[.slice ua m.n l.cap, .slice na k nc] ∧ LogAt W W.heap.size ua l m na g o k z := by
  obtain ⟨v0, v1, y0, y1, n, rfl, _, _, h0, h1⟩ := Joins.open_agg2 Try.underlying43 (by kernel_rfl) cellsLogic hv h
  obtain ⟨a, len, cap, e0⟩ := Joins.slice_form Try.underlying23 h0
  obtain ⟨a', len', cap', e1⟩ := Joins.slice_form Try.underlying24 h1
  simp only [List.cons.injEq, and_true] at e0 e1
  subst e0
  subst e1
  obtain ⟨l, m, rfl, rfl, hm⟩ := open_mx (H := H) (enc := enc) h0
  obtain ⟨g, o, z, hk, hr⟩ := open_row (H := H) (enc := enc) h1
  exact ⟨a, l, m, a', g, o, len', cap', z, rfl, hm.mat, hr, hm.hn, hm.hL, hk, Nat.le_refl _⟩
set_option maxRecDepth 100000 in
theorem open_list {H : Type} {enc : TypeId × Value → H} {W : World} {base b0 : Nat} {v : Value} {d : DataW H} {p : List MemPlace}
    (hv : Value.okWide Try.prog W .any b0 24 v) (h : DataW.Trod enc Try.prog W base (fun _ => true) true 24 v d p) :
    ∃ (a : Option Addr) (g o k nc : Nat) (z : Nat → Int), v = .slice a k nc ∧ k ≤ 9223372036854775807 ∧ RowAt W W.heap.size a g o k z := by
  obtain ⟨a, len, cap, rfl⟩ := okWide_slice Try.underlying24 hv
  obtain ⟨fuel, hf⟩ := h
  obtain ⟨g, o, z, hk, hr⟩ := open_row (H := H) (enc := enc) hf
  exact ⟨a, g, o, len, cap, z, rfl, hk, hr⟩
end Go.Proofs.Ytijcacibofpnpaa
