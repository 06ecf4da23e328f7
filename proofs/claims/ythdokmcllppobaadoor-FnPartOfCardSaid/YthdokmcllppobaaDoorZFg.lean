/- The walk of the plan of pairs. -/
import Derived.Test.YthdokmcllppobaaDoorZFe
namespace Go.Proofs.YthdokmcllppobaaDoor
open Go.RowKit Go.Deep

/-- A logic of this kind that is one: its opposites as plain numbers, its least answer. -/
structure LD.Is (d : LD) (w : World) (B : Nat) (y : Nat → Nat) (o : Nat) : Prop where
  at_ : d.At w B
  ok : logicB d.m d.k d.z = true
  orth : Ortho d.m d.z y o
  len : d.k = d.m.n
theorem LD.is {d : LD} {w : World} {B : Nat} (h : d.At w B) (hok : d.ok = true) : ∃ y o, d.Is w B y o := by
  have hl := logicB_is hok
  obtain ⟨y, o, hO⟩ := hl.ortho
  exact ⟨y, o, h, hok, hO, hl.pair.len⟩
theorem LD.Is.step {d : LD} {w w' : World} {B o : Nat} {y : Nat → Nat} (h : d.Is w B y o) (hb : Below w.heap.size w w') : d.Is w' B y o := ⟨LogAt.step h.at_ hb, h.ok, h.orth, h.len⟩
theorem LD.Is.sq {d : LD} {w : World} {B o : Nat} {y : Nat → Nat} (h : d.Is w B y o) : SqAt w B d.ua d.l d.m := LogAt.sq h.at_ h.orth.lat.order
theorem LD.Is.hi {d : LD} {w : World} {B o : Nat} {y : Nat → Nat} (h : d.Is w B y o) : 1 ≤ d.m.n ∧ d.m.n ≤ 12 := ⟨h.orth.lat.order.pos, h.orth.lat.order.top⟩
theorem LD.Is.notAt {d : LD} {w : World} {B o : Nat} {y : Nat → Nat} (h : d.Is w B y o) {a : Nat} (ha : a < d.m.n) : d.na = some ⟨d.g, d.o, none⟩ ∧ w.cell? ⟨d.g, d.o + a, none⟩ = some (.int .i64 (y a : Int)) ∧ y a < d.m.n := by
  obtain ⟨h1, _, h3⟩ := h.at_.row.row a (by rw [h.len]; exact ha)
  rw [h.orth.zy a ha] at h3
  exact ⟨h1, h3, h.orth.lt a ha⟩
theorem ThreeAt.only {S : Nat → Prop} {w w' : World} {p : Nat} {u v x : Value} (h : ThreeAt w p u v x) (ho : OnlyIn S w w') (hp : ¬ S p) : ThreeAt w' p u v x :=
  have hb := ho.block p hp
  ⟨(World.cell?_of_block (a := ⟨p, 0, none⟩) hb).trans h.c0, (World.cell?_of_block (a := ⟨p, 1, none⟩) hb).trans h.c1, (World.cell?_of_block (a := ⟨p, 2, none⟩) hb).trans h.c2, (World.frozen?_of_block (a := ⟨p, 0, none⟩) hb).trans h.f0, (World.frozen?_of_block (a := ⟨p, 1, none⟩) hb).trans h.f1, (World.frozen?_of_block (a := ⟨p, 2, none⟩) hb).trans h.f2⟩
end Go.Proofs.YthdokmcllppobaaDoor
