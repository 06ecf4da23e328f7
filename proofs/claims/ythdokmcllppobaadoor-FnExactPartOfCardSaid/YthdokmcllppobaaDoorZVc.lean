/- The walk of spreading a logic's answers. -/
import Derived.Test.YthdokmcllppobaaDoorZVa
namespace Go.Proofs.YthdokmcllppobaaDoor
open Go.RowKit Go.Deep

/-- A list of numbers of the call's own. -/
def OwnL (W : World) (base : Nat) (v : Value) (L : List Int) : Prop := W.ownsRow base 3 1 v L.length (L.map fun x => Value.int .i64 x)
theorem OwnL.more {W : World} {base m : Nat} {v : Value} {L M : List Int} (h : W.ownsRow base 3 1 v (L.length + m) ((L.map fun x => Value.int .i64 x) ++ (M.map fun x => Value.int .i64 x))) (hm : M.length = m) : OwnL W base v (L ++ M) := by
  unfold OwnL
  rw [List.length_append, List.map_append, hm]
  exact h
theorem OwnL.chg {S : Nat → Prop} {W W' : World} {base : Nat} {v : Value} {L : List Int} (h : OwnL W base v L) (hc : Chg S W W') (hs : ∀ j, base ≤ j → j < W.heap.size → ¬ S j) : OwnL W' base v L :=
  hc.own h fun g hg => hs g (ownsRow_block h g hg) (own_lt h g hg)
theorem OwnL.row {W : World} {base : Nat} {v : Value} {L : List Int} (h : OwnL W base v L) (h0 : 0 < L.length) : ∃ g cap, v = .slice (some ⟨g, 0, none⟩) L.length cap ∧ base ≤ g ∧ RowAt W W.heap.size (some ⟨g, 0, none⟩) g 0 L.length (fun k => L[k]?.getD 0) := by
  rcases h.2 with ⟨_, h1⟩ | ⟨g, cap, cur, rfl, hb, _⟩
  · omega
  · refine ⟨g, cap, rfl, hb, ⟨fun c hc => ⟨rfl, own_lt h g rfl, ?_⟩⟩⟩
    have := World.ownsRow.cellAt h c (by omega)
    rw [Nat.zero_add, this]
    simp [hc]
theorem frozen_new4 (w : World) (a b c d : Value) (t : TypeId) (i : Nat) : (w.alloc (.cells #[a, b, c, d] t)).frozen? ⟨w.heap.size, i, none⟩ = false := by
  have h := World.alloc_heap_new w (.cells #[a, b, c, d] t)
  simp only [World.frozen?, h]
  show (decide (0 ≤ i) && decide (i < 0)) = false
  simp
theorem four_told {w : World} {p : Nat} {a b c d a' b' c' d' : Value} (h0 : w.cell? ⟨p, 0, none⟩ = some a') (h1 : w.cell? ⟨p, 1, none⟩ = some b') (h2 : w.cell? ⟨p, 2, none⟩ = some c') (h3 : w.cell? ⟨p, 3, none⟩ = some d') :
    ((((w.setCell ⟨p, 0, none⟩ a).setCell ⟨p, 1, none⟩ b).setCell ⟨p, 2, none⟩ c).setCell ⟨p, 3, none⟩ d).cell? ⟨p, 0, none⟩ = some a ∧ ((((w.setCell ⟨p, 0, none⟩ a).setCell ⟨p, 1, none⟩ b).setCell ⟨p, 2, none⟩ c).setCell ⟨p, 3, none⟩ d).cell? ⟨p, 1, none⟩ = some b ∧ ((((w.setCell ⟨p, 0, none⟩ a).setCell ⟨p, 1, none⟩ b).setCell ⟨p, 2, none⟩ c).setCell ⟨p, 3, none⟩ d).cell? ⟨p, 2, none⟩ = some c ∧ ((((w.setCell ⟨p, 0, none⟩ a).setCell ⟨p, 1, none⟩ b).setCell ⟨p, 2, none⟩ c).setCell ⟨p, 3, none⟩ d).cell? ⟨p, 3, none⟩ = some d := by
  have ne : ∀ {i j : Nat}, i ≠ j → (⟨p, i, none⟩ : Addr) ≠ ⟨p, j, none⟩ := fun h e => h (by injection e)
  refine ⟨?_, ?_, ?_, ?_⟩
  · rw [World.cell?_setCell_other _ _ _ _ (ne (by omega)), World.cell?_setCell_other _ _ _ _ (ne (by omega)), World.cell?_setCell_other _ _ _ _ (ne (by omega))]
    exact World.cell?_setCell_same _ _ _ h0
  · rw [World.cell?_setCell_other _ _ _ _ (ne (by omega)), World.cell?_setCell_other _ _ _ _ (ne (by omega))]
    exact World.cell?_setCell_same _ _ _ ((World.cell?_setCell_other _ _ _ _ (ne (by omega))).trans h1)
  · rw [World.cell?_setCell_other _ _ _ _ (ne (by omega))]
    exact World.cell?_setCell_same _ _ _ ((World.cell?_setCell_other _ _ _ _ (ne (by omega))).trans ((World.cell?_setCell_other _ _ _ _ (ne (by omega))).trans h2))
  · exact World.cell?_setCell_same _ _ _ ((World.cell?_setCell_other _ _ _ _ (ne (by omega))).trans ((World.cell?_setCell_other _ _ _ _ (ne (by omega))).trans ((World.cell?_setCell_other _ _ _ _ (ne (by omega))).trans h3)))
end Go.Proofs.YthdokmcllppobaaDoor
