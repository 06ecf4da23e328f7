/- The walk of the plan of glued logics. -/
import Derived.Test.YthdokmcllppobaaDoorZVc
import Derived.Test.YthdokmcllppobaaDoorZFh
namespace Go.Proofs.YthdokmcllppobaaDoor
open Go.RowKit Go.Deep

/-- Four values in a box. -/
structure FourAt (w : World) (p : Nat) (a b c d : Value) : Prop where
  c0 : w.cell? ⟨p, 0, none⟩ = some a
  c1 : w.cell? ⟨p, 1, none⟩ = some b
  c2 : w.cell? ⟨p, 2, none⟩ = some c
  c3 : w.cell? ⟨p, 3, none⟩ = some d
  fz : ∀ i, w.frozen? ⟨p, i, none⟩ = false
theorem FourAt.new (w : World) (a b c d : Value) (t : TypeId) : FourAt (w.alloc (.cells #[a, b, c, d] t)) w.heap.size a b c d := by
  have Y := BoxN.start w #[a, b, c, d] t
  exact ⟨Y.cell 0 rfl, Y.cell 1 rfl, Y.cell 2 rfl, Y.cell 3 rfl, frozen_new4 w a b c d t⟩
theorem FourAt.lt {w : World} {p : Nat} {a b c d : Value} (h : FourAt w p a b c d) : p < w.heap.size := World.block_lt_of_cell? w ⟨p, 0, none⟩ h.c0
theorem FourAt.below {w w' : World} {p : Nat} {a b c d : Value} (h : FourAt w p a b c d) (hb : Below w.heap.size w w') : FourAt w' p a b c d :=
  ⟨(hb.cell (p := ⟨p, 0, none⟩) h.lt).trans h.c0, (hb.cell (p := ⟨p, 1, none⟩) h.lt).trans h.c1, (hb.cell (p := ⟨p, 2, none⟩) h.lt).trans h.c2, (hb.cell (p := ⟨p, 3, none⟩) h.lt).trans h.c3, fun i => (hb.frozen (p := ⟨p, i, none⟩) h.lt).trans (h.fz i)⟩
theorem FourAt.only {S : Nat → Prop} {w w' : World} {p : Nat} {a b c d : Value} (h : FourAt w p a b c d) (ho : OnlyIn S w w') (hp : ¬ S p) : FourAt w' p a b c d :=
  have hb := ho.block p hp
  ⟨(World.cell?_of_block (a := ⟨p, 0, none⟩) hb).trans h.c0, (World.cell?_of_block (a := ⟨p, 1, none⟩) hb).trans h.c1, (World.cell?_of_block (a := ⟨p, 2, none⟩) hb).trans h.c2, (World.cell?_of_block (a := ⟨p, 3, none⟩) hb).trans h.c3, fun i => (World.frozen?_of_block (a := ⟨p, i, none⟩) hb).trans (h.fz i)⟩
abbrev put4 (w : World) (p : Nat) (a b c d : Value) : World := (((w.setCell ⟨p, 0, none⟩ a).setCell ⟨p, 1, none⟩ b).setCell ⟨p, 2, none⟩ c).setCell ⟨p, 3, none⟩ d
theorem FourAt.put {w : World} {p : Nat} {a b c d a' b' c' d' : Value} (h : FourAt w p a b c d) : FourAt (put4 w p a' b' c' d') p a' b' c' d' := by
  obtain ⟨h0, h1, h2, h3⟩ := four_told (a := a') (b := b') (c := c') (d := d') h.c0 h.c1 h.c2 h.c3
  exact ⟨h0, h1, h2, h3, fun i => by unfold put4; rw [World.frozen?_setCell, World.frozen?_setCell, World.frozen?_setCell, World.frozen?_setCell]; exact h.fz i⟩
end Go.Proofs.YthdokmcllppobaaDoor
