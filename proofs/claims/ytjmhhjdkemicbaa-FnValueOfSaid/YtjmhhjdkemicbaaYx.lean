/- The drawing of a set under way. -/
import Derived.Test.YtjmhhjdkemicbaaDn
namespace Go.Proofs.Ytjmhhjdkemicbaa
open Go.RowKit Go.Deep

/-- The drawing of a set under way: the result's box, the logic's box, the reader, the logic itself. -/
structure SomeS (w : World) (rb : Nat) (A : Option Addr) (n c p x1 : Nat) (ua : Option Addr) (l : Lay) (m : Mx) (na : Option Addr) (g o k nc : Nat) (z : Nat → Int) (y : World) : Prop where
  res : TwoAt y w.heap.size (.slice none 0 0) (.slice none 0 0)
  box : TwoAt y x1 (.slice ua m.n l.cap) (.slice na k nc)
  rd : Rd y rb A n c p
  old : Chg (fun j => j = rb) w y
  log : LogAt y y.heap.size ua l m na g o k z
  lay : LayFrom (w.heap.size + 1) l m
  from_ : 0 < k → w.heap.size + 1 ≤ g
  hrb : rb < w.heap.size
  hx : w.heap.size < x1
  hxs : x1 < y.heap.size
  h12 : m.n ≤ 12
  hL : ∀ r, r < m.n → m.L r ≤ 12
  hk : k ≤ 12
theorem SomeS.pick {w : World} {rb : Nat} {A : Option Addr} {n c p p' x1 : Nat} {ua : Option Addr} {l : Lay} {m : Mx} {na : Option Addr} {g o k nc : Nat} {z : Nat → Int} {y y' : World} (h : SomeS w rb A n c p x1 ua l m na g o k nc z y) (ho : OnlyIn (· = rb) y y') (hr : Rd y' rb A n c p') : SomeS w rb A n c p' x1 ua l m na g o k nc z y' := by
  have hc := Chg.of_only ho
  have hs := ho.size
  have hrb := h.hrb
  have hx := h.hx
  refine ⟨hc.two h.res (by show ¬ (_ = rb); omega), hc.two h.box (by show ¬ (_ = rb); omega), hr, h.old.trans hc, ⟨(h.log.mat.only h.lay ho (fun j hj => by have hj' : j = rb := hj; omega)).more (by omega), ⟨fun i hi => ?_⟩, h.log.hn, h.log.hL, h.log.hk, Nat.le_refl _⟩, h.lay, h.from_, hrb, hx, by have := h.hxs; omega, h.h12, h.hL, h.hk⟩
  obtain ⟨e1, e2, e3⟩ := (h.log.row.only ho (fun e => by have e' : g = rb := e; have := h.from_ (by omega); omega)).row i hi
  exact ⟨e1, by omega, e3⟩
theorem SomeS.below {w : World} {rb : Nat} {A : Option Addr} {n c p x1 : Nat} {ua : Option Addr} {l : Lay} {m : Mx} {na : Option Addr} {g o k nc : Nat} {z : Nat → Int} {y y' : World} (h : SomeS w rb A n c p x1 ua l m na g o k nc z y) (hb : Below y.heap.size y y') : SomeS w rb A n c p x1 ua l m na g o k nc z y' := by
  have hc : Chg (fun _ => False) y y' := Chg.of_below hb fun j hj hB => absurd hj (by omega)
  have hs := hb.size
  have hrb := h.hrb
  have hx := h.hx
  have hl := h.log.step hb
  refine ⟨hc.two h.res (fun e => e), hc.two h.box (fun e => e), hc.rd h.rd (by have := h.hxs; omega) (fun e => e), h.old.trans (hc.mono fun _ e => e.elim), ⟨hl.mat.more hs, ⟨fun i hi => ?_⟩, hl.hn, hl.hL, hl.hk, Nat.le_refl _⟩, h.lay, h.from_, hrb, hx, by have := h.hxs; omega, h.h12, h.hL, h.hk⟩
  obtain ⟨e1, e2, e3⟩ := hl.row.row i hi
  exact ⟨e1, by omega, e3⟩
theorem SomeS.only {w : World} {rb : Nat} {A : Option Addr} {n c p x1 : Nat} {ua : Option Addr} {l : Lay} {m : Mx} {na : Option Addr} {g o k nc : Nat} {z : Nat → Int} {y y' : World} (h : SomeS w rb A n c p x1 ua l m na g o k nc z y) (ho : OnlyIn (fun _ => False) y y') : SomeS w rb A n c p x1 ua l m na g o k nc z y' :=
  h.below ((ho.below (B := y.heap.size) fun _ e => e.elim))
theorem OnlyIn.drew {S : Nat → Prop} {w w' : World} (h : OnlyIn S w w') : OnlyIn S w w'.drew := ⟨h.os, h.tape, h.output, h.size, h.block⟩
/-- What l20Some hands back. -/
def DrawnN (rb : Nat) (w : World) (e : Ending) (w' : World) : Prop :=
  ∃ (ua : Option Addr) (l : Lay) (m : Mx) (na : Option Addr) (g o k nc : Nat) (z : Nat → Int) (x : Int), e = .returned (.tuple #[.agg #[.slice ua m.n l.cap, .slice na k nc], .int .i64 x]) ∧ LogAt w' w'.heap.size ua l m na g o k z ∧ LayFrom w.heap.size l m ∧ (0 < k → w.heap.size ≤ g) ∧ m.n ≤ 12 ∧ (∀ r, r < m.n → m.L r ≤ 12) ∧ k ≤ 12 ∧ Chg (fun j => j = rb) w w'
theorem SomeS.boxPut {w : World} {rb : Nat} {A : Option Addr} {n c p x1 : Nat} {ua : Option Addr} {l : Lay} {m : Mx} {na : Option Addr} {g o k nc : Nat} {z : Nat → Int} {y : World} (h : SomeS w rb A n c p x1 ua l m na g o k nc z y) : TwoAt ((y.setCell ⟨w.heap.size, 0, none⟩ (.slice ua m.n l.cap)).setCell ⟨w.heap.size, 1, none⟩ (.slice na k nc)) x1 (.slice ua m.n l.cap) (.slice na k nc) := by
  have hx := h.hx
  have hcS : Chg (fun j => j = w.heap.size) y ((y.setCell ⟨w.heap.size, 0, none⟩ (.slice ua m.n l.cap)).setCell ⟨w.heap.size, 1, none⟩ (.slice na k nc)) := (Chg.set (S := fun j => j = w.heap.size) rfl _).trans (Chg.set (S := fun j => j = w.heap.size) rfl _)
  exact hcS.two h.box (by show ¬ (_ = w.heap.size); omega)
theorem SomeS.put {w : World} {rb : Nat} {A : Option Addr} {n c p x1 : Nat} {ua : Option Addr} {l : Lay} {m : Mx} {na : Option Addr} {g o k nc : Nat} {z : Nat → Int} {y : World} (h : SomeS w rb A n c p x1 ua l m na g o k nc z y) :
    LogAt ((y.setCell ⟨w.heap.size, 0, none⟩ (.slice ua m.n l.cap)).setCell ⟨w.heap.size, 1, none⟩ (.slice na k nc)) ((y.setCell ⟨w.heap.size, 0, none⟩ (.slice ua m.n l.cap)).setCell ⟨w.heap.size, 1, none⟩ (.slice na k nc)).heap.size ua l m na g o k z ∧ LayFrom w.heap.size l m ∧ (0 < k → w.heap.size ≤ g) ∧ m.n ≤ 12 ∧ (∀ r, r < m.n → m.L r ≤ 12) ∧ k ≤ 12 ∧
      Chg (fun j => j = rb) w ((y.setCell ⟨w.heap.size, 0, none⟩ (.slice ua m.n l.cap)).setCell ⟨w.heap.size, 1, none⟩ (.slice na k nc)) := by
  have hx := h.hx
  have hcS : Chg (fun j => j = w.heap.size) y ((y.setCell ⟨w.heap.size, 0, none⟩ (.slice ua m.n l.cap)).setCell ⟨w.heap.size, 1, none⟩ (.slice na k nc)) := (Chg.set (S := fun j => j = w.heap.size) rfl _).trans (Chg.set (S := fun j => j = w.heap.size) rfl _)
  have hoS := ((OnlyIn.refl (fun x => x = w.heap.size) y).set (b := w.heap.size) rfl 0 (.slice ua m.n l.cap)).set (b := w.heap.size) rfl 1 (.slice na k nc)
  have hsS := hoS.size
  refine ⟨⟨(h.log.mat.only h.lay hoS (fun j hj => by have hj' : j = w.heap.size := hj; omega)).more (by omega), ⟨fun i hi => ?_⟩, h.log.hn, h.log.hL, h.log.hk, Nat.le_refl _⟩, ⟨fun r hr => by have := h.lay.top r hr; omega, fun r hr c hc => by have := h.lay.row r hr c hc; omega⟩, fun h0 => by have := h.from_ h0; omega, h.h12, h.hL, h.hk,
    ⟨hcS.os.trans h.old.os, hcS.tape.trans h.old.tape, hcS.output.trans h.old.output, Nat.le_trans h.old.size hcS.size, fun j hj hs => (hcS.block j (by have := h.old.size; omega) (by show ¬ (_ = w.heap.size); omega)).trans (h.old.block j hj hs)⟩⟩
  obtain ⟨e1, e2, e3⟩ := (h.log.row.only hoS (fun e => by have e' : g = w.heap.size := e; have := h.from_ (by omega); omega)).row i hi
  exact ⟨e1, by omega, e3⟩
end Go.Proofs.Ytjmhhjdkemicbaa
