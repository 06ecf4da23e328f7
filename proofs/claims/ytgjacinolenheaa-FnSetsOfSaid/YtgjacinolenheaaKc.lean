/- A code that comes in, opened as it lies in memory. -/
import Derived.Test.YtgjacinolenheaaKit
import Derived.Test.YtgjacinolenheaaDe
namespace Go.Proofs.Ytgjacinolenheaa
open Go.ChangeShapes Go.WideShapes Go.ChangeAt Go.RowKit Go.Deep

theorem cellsByte : Try.prog.cellsOf 5 = 1 := by kernel_rfl

theorem open_code {H : Type} {enc : TypeId × Value → H} {W : World} {base fuel : Nat} {a : Option Addr} {len cap : Nat} {x : DataW H × List MemPlace}
    (h : DataW.trod enc Try.prog W base (fun _ => true) true fuel 22 [.slice a len cap] = some x) : ∃ (b o : Nat) (z : Nat → Nat), CodeAt W a b o len cap z := by
  rcases open_ints Try.underlying22 Try.underlying5 cellsByte h with ⟨hcs, _⟩ | ⟨a', len', cap', zs, hcs, _, hl, hm, hz, _, hcell, hwf⟩
  · simp only [List.cons.injEq, and_true, Value.slice.injEq] at hcs
    obtain ⟨rfl, rfl, rfl⟩ := hcs
    exact ⟨0, 0, fun _ => 0, ⟨fun j hj => absurd hj (Nat.not_lt_zero _)⟩, Nat.le_refl _, Nat.zero_le _⟩
  · simp only [List.cons.injEq, and_true, Value.slice.injEq] at hcs
    obtain ⟨rfl, rfl, rfl⟩ := hcs
    simp only [if_true] at hz
    have hml : maxLen = 9223372036854775807 := rfl
    refine ⟨a'.block, a'.off, fun j => (zs.getD j 0).toNat, ⟨fun j hj => ?_⟩, hl, by omega⟩
    obtain ⟨b, o, sp⟩ := a'
    have hc := hcell j (by omega)
    have hs : sp = none := by simpa [Addr.add] using World.cell?_spot (hcell 0 (by omega))
    subst hs
    rw [add_plain] at hc
    have hg : zs.getD j 0 = zs[j]'(by omega) := by rw [List.getD_eq_getElem?_getD, List.getElem?_eq_getElem (by omega)]; rfl
    have hw := hwf (zs.getD j 0) (by rw [hg]; exact List.getElem_mem _)
    have hw' : 0 ≤ zs.getD j 0 ∧ zs.getD j 0 ≤ 255 := by
      simp only [Lit.wf, Bool.and_eq_true, decide_eq_true_eq] at hw
      exact hw
    refine ⟨rfl, (World.block_lt_of_cell? W ⟨b, o + j, none⟩ hc : b < _), ?_, by show (zs.getD j 0).toNat < 256; omega⟩
    show W.cell? _ = some (.int .u8 ((zs.getD j 0).toNat : Int))
    rw [Int.toNat_of_nonneg hw'.1]
    exact hc
end Go.Proofs.Ytgjacinolenheaa
