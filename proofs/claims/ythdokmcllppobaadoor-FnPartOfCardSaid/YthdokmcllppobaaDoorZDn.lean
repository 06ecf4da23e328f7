/- The walks of the laws' draws of a logic, alone or with two answers, out of a code. -/
import Derived.Test.YthdokmcllppobaaDoorZDm
import Derived.Test.YthdokmcllppobaaDoorZDe
import Derived.Test.YthdokmcllppobaaDoorZOa
import Derived.Deep.DeepCutAuto
namespace Go.Proofs.YthdokmcllppobaaDoor
open Go.RowKit Go.Deep

/-- What is drawn: a logic's rows and opposites, in memory of the call's own. -/
structure Fresh (w : World) (ua : Option Addr) (l : Lay) (m : Mx) (na : Option Addr) (g o k : Nat) (z : Nat → Int) (w' : World) : Prop where
  log : LogAt w' w'.heap.size ua l m na g o k z
  lay : LayFrom w.heap.size l m
  from_ : 0 < k → w.heap.size ≤ g
  hn : m.n ≤ 12
  hL : ∀ r, r < m.n → m.L r ≤ 12
  hk : k ≤ 12
  old : Below w.heap.size w w'
/-- Stored into the result's box, which came ahead of it. -/
theorem Fresh.put {w w1 w2 : World} {ua : Option Addr} {l : Lay} {m : Mx} {na : Option Addr} {g o k : Nat} {z : Nat → Int} (h : Fresh w1 ua l m na g o k z w2) (h1 : Below w.heap.size w w1) (hs : w.heap.size < w1.heap.size) (u t : Value) :
    Fresh w ua l m na g o k z ((w2.setCell ⟨w.heap.size, 0, none⟩ u).setCell ⟨w.heap.size, 1, none⟩ t) := by
  have ho := ((OnlyIn.refl (fun x => x = w.heap.size) w2).set (b := w.heap.size) rfl 0 u).set (b := w.heap.size) rfl 1 t
  have hs2 := ho.size
  have hz := h.old.size
  have hm := (h.log.mat.only h.lay ho (fun j hj => by have hj' : j = w.heap.size := hj; omega)).more (B' := ((w2.setCell ⟨w.heap.size, 0, none⟩ u).setCell ⟨w.heap.size, 1, none⟩ t).heap.size) (by omega)
  have hR : RowAt ((w2.setCell ⟨w.heap.size, 0, none⟩ u).setCell ⟨w.heap.size, 1, none⟩ t) ((w2.setCell ⟨w.heap.size, 0, none⟩ u).setCell ⟨w.heap.size, 1, none⟩ t).heap.size na g o k z := ⟨fun i hi => by
    obtain ⟨e1, e2, e3⟩ := (h.log.row.only ho (fun e => by have e' : g = w.heap.size := e; have := h.from_ (by omega); omega)).row i hi
    exact ⟨e1, by omega, e3⟩⟩
  exact ⟨⟨hm, hR, h.log.hn, h.log.hL, h.log.hk, Nat.le_refl _⟩, ⟨fun r hr => by have := h.lay.top r hr; omega, fun r hr c hc => by have := h.lay.row r hr c hc; omega⟩, fun h0 => by have := h.from_ h0; omega, h.hn, h.hL, h.hk,
    (h1.trans (h.old.mono (by omega))).trans (ho.below fun j hj => by have hj' : j = w.heap.size := hj; omega)⟩
theorem Fresh.only {S : Nat → Prop} {w w1 w2 : World} {ua : Option Addr} {l : Lay} {m : Mx} {na : Option Addr} {g o k : Nat} {z : Nat → Int} (h : Fresh w ua l m na g o k z w1) (ho : OnlyIn S w1 w2) (hS : ∀ j, S j → j < w.heap.size) (hb : Below w.heap.size w w2) : Fresh w ua l m na g o k z w2 := by
  have hs2 := ho.size
  refine ⟨⟨(h.log.mat.only h.lay ho hS).more (by omega), ⟨fun i hi => ?_⟩, h.log.hn, h.log.hL, h.log.hk, Nat.le_refl _⟩, h.lay, h.from_, h.hn, h.hL, h.hk, hb⟩
  obtain ⟨e1, e2, e3⟩ := (h.log.row.only ho (fun e => by have := hS g e; have := h.from_ (by omega); omega)).row i hi
  exact ⟨e1, by omega, e3⟩

theorem Fresh.alloc {w w1 : World} {ua : Option Addr} {l : Lay} {m : Mx} {na : Option Addr} {g o k : Nat} {z : Nat → Int} (h : Fresh w ua l m na g o k z w1) (x : Obj) : Fresh w ua l m na g o k z (w1.alloc x) := by
  have hl := h.log.alloc x
  refine ⟨⟨hl.mat.more (by simp), ⟨fun i hi => ?_⟩, h.log.hn, h.log.hL, h.log.hk, Nat.le_refl _⟩, h.lay, h.from_, h.hn, h.hL, h.hk, h.old.alloc h.old.size x⟩
  obtain ⟨e1, e2, e3⟩ := hl.row.row i hi
  exact ⟨e1, by simp; omega, e3⟩
theorem CodeAt.alloc {A : Option Addr} {b o n cap : Nat} {z : Nat → Nat} {w : World} (h : CodeAt w A b o n cap z) (x : Obj) : CodeAt (w.alloc x) A b o n cap z :=
  ⟨⟨fun j hj => by
    obtain ⟨e1, e2, e3, e4⟩ := (h.bytes.below ((Below.refl w.heap.size w).alloc (Nat.le_refl _) x)).at_ j hj
    exact ⟨e1, by simp; omega, e3, e4⟩⟩, h.hn, h.hc⟩

def DrewN (w : World) (e : Ending) (w' : World) : Prop :=
  ∃ (ua : Option Addr) (l : Lay) (m : Mx) (na : Option Addr) (g o k nc : Nat) (z : Nat → Int) (x : Int), e = .returned (.tuple #[.agg #[.slice ua m.n l.cap, .slice na k nc], .int .i64 x]) ∧ Fresh w ua l m na g o k z w'

end Go.Proofs.YthdokmcllppobaaDoor
