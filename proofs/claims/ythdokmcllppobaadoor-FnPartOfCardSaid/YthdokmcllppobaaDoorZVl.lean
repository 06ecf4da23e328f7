/- Other names: a row of all numbers, each once; the walk of the program's eachOnce. -/
import Derived.Test.YthdokmcllppobaaDoorZVa
import Derived.Test.YthdokmcllppobaaDoorZMathI
import Derived.Test.YthdokmcllppobaaDoorZFe
import Derived.Test.YthdokmcllppobaaDoorZFg
namespace Go.Proofs.YthdokmcllppobaaDoor
open Go.RowKit Go.Deep

def placeN (n : Nat) (z : Nat → Int) (a : Nat) : Nat := (firstI n (fun c => (a : Int) == z c)).toNat
structure Each (n : Nat) (z : Nat → Int) : Prop where
  perm : Perm n (fun c => (z c).toNat) (placeN n z)
  nat : ∀ c, c < n → z c = ((z c).toNat : Int)
  at_ : ∀ a, a < n → firstI n (fun c => (a : Int) == z c) = (placeN n z a : Int)
end Go.Proofs.YthdokmcllppobaaDoor

/- The walk of spreading a logic's answers. -/
namespace Go.Proofs.YthdokmcllppobaaDoor
open Go.RowKit Go.Deep

/-- A list of numbers of the call's own. -/
def OwnL (W : World) (base : Nat) (v : Value) (L : List Int) : Prop := W.ownsRow base 3 1 v L.length (L.map fun x => Value.int .i64 x)
theorem OwnL.more {W : World} {base m : Nat} {v : Value} {L M : List Int} (h : W.ownsRow base 3 1 v (L.length + m) ((L.map fun x => Value.int .i64 x) ++ (M.map fun x => Value.int .i64 x))) (hm : M.length = m) : OwnL W base v (L ++ M) := by
  unfold OwnL
  rw [List.length_append, List.map_append, hm]
  exact h
theorem OwnL.chg {S : Nat → Prop} {W W' : World} {base : Nat} {v : Value} {L : List Int} (h : OwnL W base v L) (hc : Chg S W W') (hs : ∀ j, base ≤ j → j < W.heap.size → ¬ S j) : OwnL W' base v L :=
  hc.own h fun g hg => hs g (ownsRow_block h g hg) (own_lt h g hg)
theorem OwnL.row {W : World} {base : Nat} {v : Value} {L : List Int} (h : OwnL W base v L) (h0 : 0 < L.length) : ∃ g cap, v = .slice (some ⟨g, 0, none⟩) L.length cap ∧ base ≤ g ∧ RowAt W W.heap.size (some ⟨g, 0, none⟩) g 0 L.length (fun k => L[k]?.getD 0) := by
  rcases h.2 with ⟨_, h1⟩ | ⟨g, cap, cur, rfl, hb, _⟩
  · omega
  · refine ⟨g, cap, rfl, hb, ⟨fun c hc => ⟨rfl, own_lt h g rfl, ?_⟩⟩⟩
    have := World.ownsRow.cellAt h c (by omega)
    rw [Nat.zero_add, this]
    simp [hc]
theorem frozen_new4 (w : World) (a b c d : Value) (t : TypeId) (i : Nat) : (w.alloc (.cells #[a, b, c, d] t)).frozen? ⟨w.heap.size, i, none⟩ = false := by
  have h := World.alloc_heap_new w (.cells #[a, b, c, d] t)
  simp only [World.frozen?, h]
  show (decide (0 ≤ i) && decide (i < 0)) = false
  simp
theorem four_told {w : World} {p : Nat} {a b c d a' b' c' d' : Value} (h0 : w.cell? ⟨p, 0, none⟩ = some a') (h1 : w.cell? ⟨p, 1, none⟩ = some b') (h2 : w.cell? ⟨p, 2, none⟩ = some c') (h3 : w.cell? ⟨p, 3, none⟩ = some d') :
    ((((w.setCell ⟨p, 0, none⟩ a).setCell ⟨p, 1, none⟩ b).setCell ⟨p, 2, none⟩ c).setCell ⟨p, 3, none⟩ d).cell? ⟨p, 0, none⟩ = some a ∧ ((((w.setCell ⟨p, 0, none⟩ a).setCell ⟨p, 1, none⟩ b).setCell ⟨p, 2, none⟩ c).setCell ⟨p, 3, none⟩ d).cell? ⟨p, 1, none⟩ = some b ∧ ((((w.setCell ⟨p, 0, none⟩ a).setCell ⟨p, 1, none⟩ b).setCell ⟨p, 2, none⟩ c).setCell ⟨p, 3, none⟩ d).cell? ⟨p, 2, none⟩ = some c ∧ ((((w.setCell ⟨p, 0, none⟩ a).setCell ⟨p, 1, none⟩ b).setCell ⟨p, 2, none⟩ c).setCell ⟨p, 3, none⟩ d).cell? ⟨p, 3, none⟩ = some d := by
  have ne : ∀ {i j : Nat}, i ≠ j → (⟨p, i, none⟩ : Addr) ≠ ⟨p, j, none⟩ := fun h e => h (by injection e)
  refine ⟨?_, ?_, ?_, ?_⟩
  · rw [World.cell?_setCell_other _ _ _ _ (ne (by omega)), World.cell?_setCell_other _ _ _ _ (ne (by omega)), World.cell?_setCell_other _ _ _ _ (ne (by omega))]
    exact World.cell?_setCell_same _ _ _ h0
  · rw [World.cell?_setCell_other _ _ _ _ (ne (by omega)), World.cell?_setCell_other _ _ _ _ (ne (by omega))]
    exact World.cell?_setCell_same _ _ _ ((World.cell?_setCell_other _ _ _ _ (ne (by omega))).trans h1)
  · rw [World.cell?_setCell_other _ _ _ _ (ne (by omega))]
    exact World.cell?_setCell_same _ _ _ ((World.cell?_setCell_other _ _ _ _ (ne (by omega))).trans ((World.cell?_setCell_other _ _ _ _ (ne (by omega))).trans h2))
  · exact World.cell?_setCell_same _ _ _ ((World.cell?_setCell_other _ _ _ _ (ne (by omega))).trans ((World.cell?_setCell_other _ _ _ _ (ne (by omega))).trans ((World.cell?_setCell_other _ _ _ _ (ne (by omega))).trans h3)))
end Go.Proofs.YthdokmcllppobaaDoor

/- The walks of the program's functions that make a logic of two, given the walk of the plan; TimesOf. -/
namespace Go.Proofs.YthdokmcllppobaaDoor
open Go.RowKit Go.Deep

theorem Ortho.congr {m : Mx} {z : Nat → Int} {y y' : Nat → Nat} {o : Nat} (h : Ortho m z y o) (e : ∀ a, a < m.n → y a = y' a) : Ortho m z y' o := by
  have l : ∀ a, a < m.n → y' a < m.n := fun a ha => by rw [← e a ha]; exact h.lt a ha
  exact ⟨h.lat, fun a ha => by rw [h.zy a ha, e a ha], l, fun a ha => by rw [← e a ha, ← e _ (h.lt a ha)]; exact h.inv a ha, fun a b ha hb hab => by rw [← e a ha, ← e b hb]; exact h.turn a b ha hb hab, h.ho, h.least, h.eq, fun a ha => by rw [← e a ha]; exact h.kept a ha⟩
/-- Its opposites, as plain numbers. -/
def LD.y (d : LD) (a : Nat) : Nat := (d.z a).toNat
end Go.Proofs.YthdokmcllppobaaDoor

/- The walk of the plan of glued logics. -/
namespace Go.Proofs.YthdokmcllppobaaDoor
open Go.RowKit Go.Deep

/-- Four values in a box. -/
structure FourAt (w : World) (p : Nat) (a b c d : Value) : Prop where
  c0 : w.cell? ⟨p, 0, none⟩ = some a
  c1 : w.cell? ⟨p, 1, none⟩ = some b
  c2 : w.cell? ⟨p, 2, none⟩ = some c
  c3 : w.cell? ⟨p, 3, none⟩ = some d
  fz : ∀ i, w.frozen? ⟨p, i, none⟩ = false
theorem FourAt.new (w : World) (a b c d : Value) (t : TypeId) : FourAt (w.alloc (.cells #[a, b, c, d] t)) w.heap.size a b c d := by
  have Y := BoxN.start w #[a, b, c, d] t
  exact ⟨Y.cell 0 rfl, Y.cell 1 rfl, Y.cell 2 rfl, Y.cell 3 rfl, frozen_new4 w a b c d t⟩
theorem FourAt.lt {w : World} {p : Nat} {a b c d : Value} (h : FourAt w p a b c d) : p < w.heap.size := World.block_lt_of_cell? w ⟨p, 0, none⟩ h.c0
theorem FourAt.below {w w' : World} {p : Nat} {a b c d : Value} (h : FourAt w p a b c d) (hb : Below w.heap.size w w') : FourAt w' p a b c d :=
  ⟨(hb.cell (p := ⟨p, 0, none⟩) h.lt).trans h.c0, (hb.cell (p := ⟨p, 1, none⟩) h.lt).trans h.c1, (hb.cell (p := ⟨p, 2, none⟩) h.lt).trans h.c2, (hb.cell (p := ⟨p, 3, none⟩) h.lt).trans h.c3, fun i => (hb.frozen (p := ⟨p, i, none⟩) h.lt).trans (h.fz i)⟩
theorem FourAt.only {S : Nat → Prop} {w w' : World} {p : Nat} {a b c d : Value} (h : FourAt w p a b c d) (ho : OnlyIn S w w') (hp : ¬ S p) : FourAt w' p a b c d :=
  have hb := ho.block p hp
  ⟨(World.cell?_of_block (a := ⟨p, 0, none⟩) hb).trans h.c0, (World.cell?_of_block (a := ⟨p, 1, none⟩) hb).trans h.c1, (World.cell?_of_block (a := ⟨p, 2, none⟩) hb).trans h.c2, (World.cell?_of_block (a := ⟨p, 3, none⟩) hb).trans h.c3, fun i => (World.frozen?_of_block (a := ⟨p, i, none⟩) hb).trans (h.fz i)⟩
abbrev put4 (w : World) (p : Nat) (a b c d : Value) : World := (((w.setCell ⟨p, 0, none⟩ a).setCell ⟨p, 1, none⟩ b).setCell ⟨p, 2, none⟩ c).setCell ⟨p, 3, none⟩ d
theorem FourAt.put {w : World} {p : Nat} {a b c d a' b' c' d' : Value} (h : FourAt w p a b c d) : FourAt (put4 w p a' b' c' d') p a' b' c' d' := by
  obtain ⟨h0, h1, h2, h3⟩ := four_told (a := a') (b := b') (c := c') (d := d') h.c0 h.c1 h.c2 h.c3
  exact ⟨h0, h1, h2, h3, fun i => by unfold put4; rw [World.frozen?_setCell, World.frozen?_setCell, World.frozen?_setCell, World.frozen?_setCell]; exact h.fz i⟩
end Go.Proofs.YthdokmcllppobaaDoor
