/- The walks of the laws' helpers on logics: how large one is, its copy, whether two are equal. -/
import Derived.Test.YtchiadologkfeaaOe
import Derived.Test.YtchiadologkfeaaLc
import Derived.Test.YtchiadologkfeaaDb
namespace Go.Proofs.Ytchiadologkfeaa
open Go.RowKit Go.Deep

/-- A variable of two cells. -/
structure TwoAt (w : World) (p : Nat) (u v : Value) : Prop where
  c0 : w.cell? ⟨p, 0, none⟩ = some u
  c1 : w.cell? ⟨p, 1, none⟩ = some v
  f0 : w.frozen? ⟨p, 0, none⟩ = false
  f1 : w.frozen? ⟨p, 1, none⟩ = false
theorem TwoAt.new (w : World) (x y : Value) (t : TypeId) : TwoAt (w.alloc (.cells #[x, y] t)) w.heap.size x y := by
  have h := World.alloc_heap_new w (.cells #[x, y] t)
  exact ⟨by simp only [World.cell?, h]; rfl, by simp only [World.cell?, h]; rfl, by simp only [World.frozen?, h]; rfl, by simp only [World.frozen?, h]; rfl⟩
theorem TwoAt.below {w w' : World} {p B : Nat} {u v : Value} (h : TwoAt w p u v) (hb : Below B w w') (hp : p < B) : TwoAt w' p u v :=
  ⟨(hb.cell (p := ⟨p, 0, none⟩) hp).trans h.c0, (hb.cell (p := ⟨p, 1, none⟩) hp).trans h.c1, (hb.frozen (p := ⟨p, 0, none⟩) hp).trans h.f0, (hb.frozen (p := ⟨p, 1, none⟩) hp).trans h.f1⟩
theorem TwoAt.other {w : World} {p q i : Nat} {u v x : Value} (h : TwoAt w p u v) (hne : p ≠ q) : TwoAt (w.setCell ⟨q, i, none⟩ x) p u v :=
  ⟨by rw [World.cell?_setCell_other _ _ _ _ (fun e => by injection e with e1; omega)]; exact h.c0, by rw [World.cell?_setCell_other _ _ _ _ (fun e => by injection e with e1; omega)]; exact h.c1,
   by rw [World.frozen?_setCell]; exact h.f0, by rw [World.frozen?_setCell]; exact h.f1⟩
theorem TwoAt.set0 {w : World} {p : Nat} {u v : Value} (h : TwoAt w p u v) (x : Value) : TwoAt (w.setCell ⟨p, 0, none⟩ x) p x v :=
  ⟨World.cell?_setCell_same _ _ _ h.c0, by rw [World.cell?_setCell_other _ _ _ _ (fun e => by injection e with _ e1; omega)]; exact h.c1, by rw [World.frozen?_setCell]; exact h.f0, by rw [World.frozen?_setCell]; exact h.f1⟩
theorem TwoAt.set1 {w : World} {p : Nat} {u v : Value} (h : TwoAt w p u v) (x : Value) : TwoAt (w.setCell ⟨p, 1, none⟩ x) p u x :=
  ⟨by rw [World.cell?_setCell_other _ _ _ _ (fun e => by injection e with _ e1; omega)]; exact h.c0, World.cell?_setCell_same _ _ _ h.c1, by rw [World.frozen?_setCell]; exact h.f0, by rw [World.frozen?_setCell]; exact h.f1⟩

/-- What the size's reckoning leaves. -/
def SzL (m : Mx) (k : Nat) (e : Ending) : Prop := ∃ v : Int, e = .returned (.int .i64 v) ∧ (v < 0 ∨ (m.n ≤ 1048576 ∧ (∀ r, r < m.n → m.L r ≤ 1048576) ∧ k ≤ 1048576 ∧ 0 ≤ v ∧ v ≤ 1048576))
/-- What a copy is. -/
def CopyL (w : World) (m : Mx) (k : Nat) (z : Nat → Int) (e : Ending) (w' : World) : Prop :=
  ∃ N q : Nat, e = .returned (.agg #[.slice (some ⟨N, 0, none⟩) m.n m.n, .slice (some ⟨q, 0, none⟩) k k]) ∧ LogAt w' w'.heap.size (some ⟨N, 0, none⟩) (freshLay N m) m (some ⟨q, 0, none⟩) q 0 k z ∧ Below w.heap.size w w'
theorem fresh_from (N : Nat) (m : Mx) : LayFrom N (freshLay N m) m := ⟨fun _ _ => Nat.le_refl _, fun r _ _ _ => by show N ≤ N + 1 + r; omega⟩
theorem CopyS.rowAt {w w' : World} {n : Nat} {z : Nat → Int} (h : CopyS w w' n n z) : RowAt w' w'.heap.size (some ⟨w.heap.size, 0, none⟩) w.heap.size 0 n z :=
  ⟨fun c hc => ⟨rfl, by rw [h.size]; omega, by
    have := h.row.cell hc
    rw [if_pos hc] at this
    rw [Nat.zero_add]
    exact this⟩⟩
theorem RowAt.only {S : Nat → Prop} {w w' : World} {B : Nat} {a : Option Addr} {g o n : Nat} {z : Nat → Int} (h : RowAt w B a g o n z) (ho : OnlyIn S w w') (hS : ¬ S g) : RowAt w' B a g o n z :=
  ⟨fun c hc => by
    obtain ⟨h1, h2, h3⟩ := h.row c hc
    refine ⟨h1, h2, ?_⟩
    rw [World.cell?_of_block (w := w) (ho.block g hS)]
    exact h3⟩

end Go.Proofs.Ytchiadologkfeaa
