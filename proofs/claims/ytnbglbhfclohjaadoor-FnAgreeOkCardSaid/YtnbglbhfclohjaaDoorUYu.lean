import Derived.Test.YtnbglbhfclohjaaDoorUWv
import Derived.Test.YtnbglbhfclohjaaDoorUDa
import Derived.Test.YtnbglbhfclohjaaDoorUWc
import Derived.Test.YtnbglbhfclohjaaDoorUDn
import Derived.Test.YtnbglbhfclohjaaDoorUOa
import Derived.Test.YtnbglbhfclohjaaDoorUMath
import Derived.Test.YtnbglbhfclohjaaDoorUYi
import Derived.Test.YtnbglbhfclohjaaDoorUSm
namespace Go.Proofs.YtnbglbhfclohjaaDoor
open Go.RowKit Go.Deep

/-- Rows that read as others, entry by entry, where both have the same lengths. -/
theorem MatAt.as {w : World} {B : Nat} {a : Option Addr} {l : Lay} {m m' : Mx} (h : MatAt w B a l m) (hn : m'.n = m.n) (hL : ∀ r, r < m.n → m'.L r = m.L r) (hZ : ∀ r, r < m.n → ∀ c, c < m.L r → m'.Z r c = m.Z r c) : MatAt w B a l m' :=
  ⟨fun r hr => by
    have hr' : r < m.n := by omega
    rw [hL r hr']
    exact h.top r hr', fun r hr c hc => by
    have hr' : r < m.n := by omega
    rw [hL r hr'] at hc
    rw [hZ r hr' c hc]
    exact h.row r hr' c hc⟩
end Go.Proofs.YtnbglbhfclohjaaDoor
namespace Go.Proofs.YtnbglbhfclohjaaDoor
open Go.RowKit Go.Deep

def oneM (x : Int) : Mx := ⟨1, fun _ => 1, fun _ _ => x⟩
def oneLay (N : Nat) : Lay := ⟨N + 1, 0, 1, fun _ => some ⟨N, 0, none⟩, fun _ => 1, fun _ => N, fun _ => 0⟩
theorem one_at (w : World) (x : Int) : MatAt ((w.alloc (.cells #[.int .i64 x] 3)).alloc (.cells #[.slice (some ⟨w.heap.size, 0, none⟩) 1 1] 24)) (w.heap.size + 2) (some ⟨w.heap.size + 1, 0, none⟩) (oneLay w.heap.size) (oneM x) := by
  have b0 := (Boxed.new w 3 (.int .i64 x)).alloc (.cells #[.slice (some ⟨w.heap.size, 0, none⟩) 1 1] 24)
  have b1 := Boxed.new (w.alloc (.cells #[.int .i64 x] 3)) 24 (.slice (some ⟨w.heap.size, 0, none⟩) 1 1)
  rw [World.size_alloc] at b1
  refine ⟨fun r hr => ?_, fun r hr c hc => ?_⟩
  · have hr' : r < 1 := hr
    obtain rfl : r = 0 := by omega
    exact ⟨rfl, by show w.heap.size + 1 < _; omega, b1.cell⟩
  · have hc' : c < 1 := hc
    obtain rfl : c = 0 := by omega
    exact ⟨rfl, by show w.heap.size < _; omega, b0.cell⟩
theorem one_order : orderB (oneM 1) = true := orderB_true ⟨Nat.le_refl 1, by show 1 ≤ 12; omega, ⟨fun _ _ => rfl, fun _ _ _ _ => .inr rfl⟩, fun _ _ => rfl, fun a b ha hb hne => by
  have ha' : a < 1 := ha
  have hb' : b < 1 := hb
  exact absurd (by omega) hne, fun _ _ _ _ _ _ _ _ => rfl⟩
theorem zero_order : orderB (oneM 0) = false := orderB_false fun h => by
  have : (0 : Int) = 1 := h.refl 0 (by show 0 < 1; omega)
  omega
theorem OrderOk_one (w : World) (x : Int) : Calls Tryd.prog 59 #[.slice (some ⟨w.heap.size + 1, 0, none⟩) 1 1] ((w.alloc (.cells #[.int .i64 x] 3)).alloc (.cells #[.slice (some ⟨w.heap.size, 0, none⟩) 1 1] 24)) fun e w' =>
    e = .returned (.bool (orderB (oneM x))) ∧ Below (w.heap.size + 2) ((w.alloc (.cells #[.int .i64 x] 3)).alloc (.cells #[.slice (some ⟨w.heap.size, 0, none⟩) 1 1] 24)) w' :=
  (OrderOk_any (m := oneM x) (l := oneLay w.heap.size) (by show 1 ≤ _; omega) (fun _ _ => by show 1 ≤ _; omega) (one_at w x) (by simp)).mono fun _ _ ⟨he, hb⟩ => ⟨he, hb.mono (by simp)⟩

set_option maxHeartbeats 400000 in
theorem alive_any (w : World) : Calls Tryd.prog 16 #[] w fun e w' => e = .returned (.bool true) ∧ Below w.heap.size w w' := by
  go_enter Tryd.func16, Tryd.ntmps16
  go_wp2_with fail
  go_at_call 59
  refine (OrderOk_one w 1).mono ?_
  rintro e w1 ⟨rfl, hb1⟩
  rw [one_order]
  have B1 : Below w.heap.size w w1 := (((Below.refl w.heap.size w).alloc (Nat.le_refl _) _).alloc (by simp) _).trans (hb1.mono (by omega))
  clear hb1
  go_wp2_with fail
  go_at_call 59
  refine (OrderOk_one w1 0).mono ?_
  rintro e w2 ⟨rfl, hb2⟩
  rw [zero_order]
  have B2 : Below w.heap.size w w2 := ((B1.alloc B1.size _).alloc (by have := B1.size; simp; omega) _).trans (hb2.mono (by have := B1.size; omega))
  clear hb2
  go_wp2_with fail
  go_ret
  exact ⟨rfl, B2⟩

end Go.Proofs.YtnbglbhfclohjaaDoor
namespace Go.Proofs.YtnbglbhfclohjaaDoor
open Go.RowKit Go.Deep

/-- The drawing of a set under way: the result's box, the logic's box, the reader, the logic itself. -/
structure SomeS (w : World) (rb : Nat) (A : Option Addr) (n c p x1 : Nat) (ua : Option Addr) (l : Lay) (m : Mx) (na : Option Addr) (g o k nc : Nat) (z : Nat → Int) (y : World) : Prop where
  res : TwoAt y w.heap.size (.slice none 0 0) (.slice none 0 0)
  box : TwoAt y x1 (.slice ua m.n l.cap) (.slice na k nc)
  rd : Rd y rb A n c p
  old : Chg (fun j => j = rb) w y
  log : LogAt y y.heap.size ua l m na g o k z
  lay : LayFrom (w.heap.size + 1) l m
  from_ : 0 < k → w.heap.size + 1 ≤ g
  hrb : rb < w.heap.size
  hx : w.heap.size < x1
  hxs : x1 < y.heap.size
  h12 : m.n ≤ 12
  hL : ∀ r, r < m.n → m.L r ≤ 12
  hk : k ≤ 12
theorem SomeS.pick {w : World} {rb : Nat} {A : Option Addr} {n c p p' x1 : Nat} {ua : Option Addr} {l : Lay} {m : Mx} {na : Option Addr} {g o k nc : Nat} {z : Nat → Int} {y y' : World} (h : SomeS w rb A n c p x1 ua l m na g o k nc z y) (ho : OnlyIn (· = rb) y y') (hr : Rd y' rb A n c p') : SomeS w rb A n c p' x1 ua l m na g o k nc z y' := by
  have hc := Chg.of_only ho
  have hs := ho.size
  have hrb := h.hrb
  have hx := h.hx
  refine ⟨hc.two h.res (by show ¬ (_ = rb); omega), hc.two h.box (by show ¬ (_ = rb); omega), hr, h.old.trans hc, ⟨(h.log.mat.only h.lay ho (fun j hj => by have hj' : j = rb := hj; omega)).more (by omega), ⟨fun i hi => ?_⟩, h.log.hn, h.log.hL, h.log.hk, Nat.le_refl _⟩, h.lay, h.from_, hrb, hx, by have := h.hxs; omega, h.h12, h.hL, h.hk⟩
  obtain ⟨e1, e2, e3⟩ := (h.log.row.only ho (fun e => by have e' : g = rb := e; have := h.from_ (by omega); omega)).row i hi
  exact ⟨e1, by omega, e3⟩
theorem SomeS.below {w : World} {rb : Nat} {A : Option Addr} {n c p x1 : Nat} {ua : Option Addr} {l : Lay} {m : Mx} {na : Option Addr} {g o k nc : Nat} {z : Nat → Int} {y y' : World} (h : SomeS w rb A n c p x1 ua l m na g o k nc z y) (hb : Below y.heap.size y y') : SomeS w rb A n c p x1 ua l m na g o k nc z y' := by
  have hc : Chg (fun _ => False) y y' := Chg.of_below hb fun j hj hB => absurd hj (by omega)
  have hs := hb.size
  have hrb := h.hrb
  have hx := h.hx
  have hl := h.log.step hb
  refine ⟨hc.two h.res (fun e => e), hc.two h.box (fun e => e), hc.rd h.rd (by have := h.hxs; omega) (fun e => e), h.old.trans (hc.mono fun _ e => e.elim), ⟨hl.mat.more hs, ⟨fun i hi => ?_⟩, hl.hn, hl.hL, hl.hk, Nat.le_refl _⟩, h.lay, h.from_, hrb, hx, by have := h.hxs; omega, h.h12, h.hL, h.hk⟩
  obtain ⟨e1, e2, e3⟩ := hl.row.row i hi
  exact ⟨e1, by omega, e3⟩
theorem SomeS.only {w : World} {rb : Nat} {A : Option Addr} {n c p x1 : Nat} {ua : Option Addr} {l : Lay} {m : Mx} {na : Option Addr} {g o k nc : Nat} {z : Nat → Int} {y y' : World} (h : SomeS w rb A n c p x1 ua l m na g o k nc z y) (ho : OnlyIn (fun _ => False) y y') : SomeS w rb A n c p x1 ua l m na g o k nc z y' :=
  h.below ((ho.below (B := y.heap.size) fun _ e => e.elim))
theorem OnlyIn.drew {S : Nat → Prop} {w w' : World} (h : OnlyIn S w w') : OnlyIn S w w'.drew := ⟨h.os, h.tape, h.output, h.size, h.block⟩
theorem SomeS.boxPut {w : World} {rb : Nat} {A : Option Addr} {n c p x1 : Nat} {ua : Option Addr} {l : Lay} {m : Mx} {na : Option Addr} {g o k nc : Nat} {z : Nat → Int} {y : World} (h : SomeS w rb A n c p x1 ua l m na g o k nc z y) : TwoAt ((y.setCell ⟨w.heap.size, 0, none⟩ (.slice ua m.n l.cap)).setCell ⟨w.heap.size, 1, none⟩ (.slice na k nc)) x1 (.slice ua m.n l.cap) (.slice na k nc) := by
  have hx := h.hx
  have hcS : Chg (fun j => j = w.heap.size) y ((y.setCell ⟨w.heap.size, 0, none⟩ (.slice ua m.n l.cap)).setCell ⟨w.heap.size, 1, none⟩ (.slice na k nc)) := (Chg.set (S := fun j => j = w.heap.size) rfl _).trans (Chg.set (S := fun j => j = w.heap.size) rfl _)
  exact hcS.two h.box (by show ¬ (_ = w.heap.size); omega)
theorem SomeS.put {w : World} {rb : Nat} {A : Option Addr} {n c p x1 : Nat} {ua : Option Addr} {l : Lay} {m : Mx} {na : Option Addr} {g o k nc : Nat} {z : Nat → Int} {y : World} (h : SomeS w rb A n c p x1 ua l m na g o k nc z y) :
    LogAt ((y.setCell ⟨w.heap.size, 0, none⟩ (.slice ua m.n l.cap)).setCell ⟨w.heap.size, 1, none⟩ (.slice na k nc)) ((y.setCell ⟨w.heap.size, 0, none⟩ (.slice ua m.n l.cap)).setCell ⟨w.heap.size, 1, none⟩ (.slice na k nc)).heap.size ua l m na g o k z ∧ LayFrom w.heap.size l m ∧ (0 < k → w.heap.size ≤ g) ∧ m.n ≤ 12 ∧ (∀ r, r < m.n → m.L r ≤ 12) ∧ k ≤ 12 ∧
      Chg (fun j => j = rb) w ((y.setCell ⟨w.heap.size, 0, none⟩ (.slice ua m.n l.cap)).setCell ⟨w.heap.size, 1, none⟩ (.slice na k nc)) := by
  have hx := h.hx
  have hcS : Chg (fun j => j = w.heap.size) y ((y.setCell ⟨w.heap.size, 0, none⟩ (.slice ua m.n l.cap)).setCell ⟨w.heap.size, 1, none⟩ (.slice na k nc)) := (Chg.set (S := fun j => j = w.heap.size) rfl _).trans (Chg.set (S := fun j => j = w.heap.size) rfl _)
  have hoS := ((OnlyIn.refl (fun x => x = w.heap.size) y).set (b := w.heap.size) rfl 0 (.slice ua m.n l.cap)).set (b := w.heap.size) rfl 1 (.slice na k nc)
  have hsS := hoS.size
  refine ⟨⟨(h.log.mat.only h.lay hoS (fun j hj => by have hj' : j = w.heap.size := hj; omega)).more (by omega), ⟨fun i hi => ?_⟩, h.log.hn, h.log.hL, h.log.hk, Nat.le_refl _⟩, ⟨fun r hr => by have := h.lay.top r hr; omega, fun r hr c hc => by have := h.lay.row r hr c hc; omega⟩, fun h0 => by have := h.from_ h0; omega, h.h12, h.hL, h.hk,
    ⟨hcS.os.trans h.old.os, hcS.tape.trans h.old.tape, hcS.output.trans h.old.output, Nat.le_trans h.old.size hcS.size, fun j hj hs => (hcS.block j (by have := h.old.size; omega) (by show ¬ (_ = w.heap.size); omega)).trans (h.old.block j hj hs)⟩⟩
  obtain ⟨e1, e2, e3⟩ := (h.log.row.only hoS (fun e => by have e' : g = w.heap.size := e; have := h.from_ (by omega); omega)).row i hi
  exact ⟨e1, by omega, e3⟩
end Go.Proofs.YtnbglbhfclohjaaDoor
namespace Go.Proofs.YtnbglbhfclohjaaDoor
open Go.RowKit Go.Deep

/-- The drawing under way: the result's box, the logic's box, the reader, the logic itself. -/
structure AgS (w1 : World) (d rb : Nat) (A : Option Addr) (n c p x1 : Nat) (ua : Option Addr) (l : Lay) (m : Mx) (na : Option Addr) (g o k nc : Nat) (z : Nat → Int) (y : World) : Prop where
  res : TwoAt y d (.slice none 0 0) (.slice none 0 0)
  box : TwoAt y x1 (.slice ua m.n l.cap) (.slice na k nc)
  rd : Rd y rb A n c p
  old : Chg (fun j => j = rb) w1 y
  log : LogAt y y.heap.size ua l m na g o k z
  lay : LayFrom w1.heap.size l m
  from_ : 0 < k → w1.heap.size ≤ g
  hd : d < rb
  hrb : rb < w1.heap.size
  hx : w1.heap.size ≤ x1
  hxs : x1 < y.heap.size
  h12 : m.n ≤ 12
  hL : ∀ r, r < m.n → m.L r ≤ 12
  hk : k ≤ 12
theorem AgS.pick {w1 : World} {d rb n c p x1 : Nat} {A : Option Addr} {ua : Option Addr} {l : Lay} {m : Mx} {na : Option Addr} {g o k nc : Nat} {z : Nat → Int} {y : World} {y' : World} {p' : Nat} (h : AgS w1 d rb A n c p x1 ua l m na g o k nc z y) (ho : OnlyIn (· = rb) y y') (hr : Rd y' rb A n c p') : AgS w1 d rb A n c p' x1 ua l m na g o k nc z y' := by
  have hc := Chg.of_only ho
  have hs := ho.size
  have hd := h.hd
  have hrb := h.hrb
  have hx := h.hx
  refine ⟨hc.two h.res (by show ¬ (_ = rb); omega), hc.two h.box (by show ¬ (_ = rb); omega), hr, h.old.trans hc, ⟨(h.log.mat.only h.lay ho (fun j hj => by have hj' : j = rb := hj; omega)).more (by omega), ⟨fun i hi => ?_⟩, h.log.hn, h.log.hL, h.log.hk, Nat.le_refl _⟩, h.lay, h.from_, hd, hrb, hx, by have := h.hxs; omega, h.h12, h.hL, h.hk⟩
  obtain ⟨e1, e2, e3⟩ := (h.log.row.only ho (fun e => by have e' : g = rb := e; have := h.from_ (by omega); omega)).row i hi
  exact ⟨e1, by omega, e3⟩
theorem AgS.below {w1 : World} {d rb n c p x1 : Nat} {A : Option Addr} {ua : Option Addr} {l : Lay} {m : Mx} {na : Option Addr} {g o k nc : Nat} {z : Nat → Int} {y : World} {y' : World} (h : AgS w1 d rb A n c p x1 ua l m na g o k nc z y) (hb : Below y.heap.size y y') : AgS w1 d rb A n c p x1 ua l m na g o k nc z y' := by
  have hc : Chg (fun _ => False) y y' := Chg.of_below hb fun j hj hB => absurd hj (by omega)
  have hs := hb.size
  have hrb := h.hrb
  have hx := h.hx
  have hl := h.log.step hb
  refine ⟨hc.two h.res (fun e => e), hc.two h.box (fun e => e), hc.rd h.rd (by have := h.hxs; omega) (fun e => e), h.old.trans (hc.mono fun _ e => e.elim), ⟨hl.mat.more hs, ⟨fun i hi => ?_⟩, hl.hn, hl.hL, hl.hk, Nat.le_refl _⟩, h.lay, h.from_, h.hd, hrb, hx, by have := h.hxs; omega, h.h12, h.hL, h.hk⟩
  obtain ⟨e1, e2, e3⟩ := hl.row.row i hi
  exact ⟨e1, by omega, e3⟩
theorem AgS.fresh {w1 : World} {rb n c p x1 : Nat} {A : Option Addr} {ua : Option Addr} {l : Lay} {m : Mx} {na : Option Addr} {g o k nc : Nat} {z : Nat → Int} {y : World} {w : World} (h : AgS w1 w.heap.size rb A n c p x1 ua l m na g o k nc z y) (hb : Below w.heap.size w w1) :
    Fresh w ua l m na g o k z ((y.setCell ⟨w.heap.size, 0, none⟩ (.slice ua m.n l.cap)).setCell ⟨w.heap.size, 1, none⟩ (.slice na k nc)) := by
  have hoS := ((OnlyIn.refl (fun x => x = w.heap.size) y).set (b := w.heap.size) rfl 0 (.slice ua m.n l.cap)).set (b := w.heap.size) rfl 1 (.slice na k nc)
  have hsS := hoS.size
  have hd := h.hd
  have hrb := h.hrb
  refine ⟨⟨(h.log.mat.only h.lay hoS (fun j hj => by have hj' : j = w.heap.size := hj; omega)).more (by omega), ⟨fun i hi => ?_⟩, h.log.hn, h.log.hL, h.log.hk, Nat.le_refl _⟩, ⟨fun r hr => by have := h.lay.top r hr; omega, fun r hr c hc => by have := h.lay.row r hr c hc; omega⟩, fun h0 => by have := h.from_ h0; omega, h.h12, h.hL, h.hk, ?_⟩
  · obtain ⟨e1, e2, e3⟩ := (h.log.row.only hoS (fun e => by have e' : g = w.heap.size := e; have := h.from_ (by omega); omega)).row i hi
    exact ⟨e1, by omega, e3⟩
  · exact (hb.trans (h.old.below (by omega) fun j hj => by have hj' : j = rb := hj; omega)).trans (hoS.below fun j hj => by have hj' : j = w.heap.size := hj; omega)
theorem AgS.boxPut {w1 : World} {d rb n c p x1 : Nat} {A : Option Addr} {ua : Option Addr} {l : Lay} {m : Mx} {na : Option Addr} {g o k nc : Nat} {z : Nat → Int} {y : World} (h : AgS w1 d rb A n c p x1 ua l m na g o k nc z y) : TwoAt ((y.setCell ⟨d, 0, none⟩ (.slice ua m.n l.cap)).setCell ⟨d, 1, none⟩ (.slice na k nc)) x1 (.slice ua m.n l.cap) (.slice na k nc) := by
  have hx := h.hx
  have hd := h.hd
  have hrb := h.hrb
  have hcS : Chg (fun j => j = d) y ((y.setCell ⟨d, 0, none⟩ (.slice ua m.n l.cap)).setCell ⟨d, 1, none⟩ (.slice na k nc)) := (Chg.set (S := fun j => j = d) rfl _).trans (Chg.set (S := fun j => j = d) rfl _)
  exact hcS.two h.box (by show ¬ (_ = d); omega)
end Go.Proofs.YtnbglbhfclohjaaDoor
namespace Go.Proofs.YtnbglbhfclohjaaDoor
open Go.RowKit Go.Deep

end Go.Proofs.YtnbglbhfclohjaaDoor
namespace Go.Proofs.YtnbglbhfclohjaaDoor
open Go.RowKit Go.Deep

theorem OwnMat.step {w w' : World} {b : Nat} {G : Nat → Nat} {m : Mx} (h : OwnMat w b G m) (hb : Below w.heap.size w w') : OwnMat w' b G m :=
  h.below hb h.top.lt fun r hr => (h.row r hr).lt
end Go.Proofs.YtnbglbhfclohjaaDoor
namespace Go.Proofs.YtnbglbhfclohjaaDoor
open Go.RowKit Go.Deep

end Go.Proofs.YtnbglbhfclohjaaDoor
namespace Go.Proofs.YtnbglbhfclohjaaDoor
open Go.RowKit Go.Deep

end Go.Proofs.YtnbglbhfclohjaaDoor
namespace Go.Proofs.YtnbglbhfclohjaaDoor
open Go.RowKit Go.Deep

/-- A list of numbers in memory of the call's own: as a slice value, entry by entry. -/
theorem list_row {w : World} {base : Nat} {v : Value} {n : Nat} {f : Nat → Value} {z : Nat → Int} (h : w.ownsRow base 3 1 v n ((List.range n).map f)) (hz : ∀ i, i < n → f i = .int .i64 (z i)) :
    ∃ a g cap, v = .slice a n cap ∧ RowAt w w.heap.size a g 0 n z := by
  rcases owns_ways h with ⟨rfl, rfl⟩ | ⟨g, cap, rfl, hc⟩
  · exact ⟨none, 0, 0, rfl, ⟨fun c hc => absurd hc (Nat.not_lt_zero _)⟩⟩
  · exact ⟨some ⟨g, 0, none⟩, g, cap, rfl, ⟨fun c hcn => ⟨rfl, World.block_lt_of_cell? _ _ (hc c hcn), by rw [← hz c hcn]; simpa using hc c hcn⟩⟩⟩
theorem RowAt.more {w : World} {B B' : Nat} {a : Option Addr} {g o n : Nat} {z : Nat → Int} (h : RowAt w B a g o n z) (hB : B ≤ B') : RowAt w B' a g o n z :=
  ⟨fun c hc => by obtain ⟨h1, h2, h3⟩ := h.row c hc; exact ⟨h1, by omega, h3⟩⟩

end Go.Proofs.YtnbglbhfclohjaaDoor
namespace Go.Proofs.YtnbglbhfclohjaaDoor
open Go.RowKit Go.Deep

/-- What l20Some hands back, with the reader. -/
def DrawnNR (rb n c : Nat) (A : Option Addr) (w : World) (e : Ending) (w' : World) : Prop :=
  ∃ (ua : Option Addr) (l : Lay) (m : Mx) (na : Option Addr) (g o k nc : Nat) (z : Nat → Int) (x : Int), e = .returned (.tuple #[.agg #[.slice ua m.n l.cap, .slice na k nc], .int .i64 x]) ∧ LogAt w' w'.heap.size ua l m na g o k z ∧ LayFrom w.heap.size l m ∧ (0 < k → w.heap.size ≤ g) ∧ m.n ≤ 12 ∧ (∀ r, r < m.n → m.L r ≤ 12) ∧ k ≤ 12 ∧ Chg (fun j => j = rb) w w' ∧ ∃ p, p ≤ 90000 ∧ Rd w' rb A n c p
theorem SomeS.putR {w : World} {rb : Nat} {A : Option Addr} {n c p x1 : Nat} {ua : Option Addr} {l : Lay} {m : Mx} {na : Option Addr} {g o k nc : Nat} {z : Nat → Int} {y : World} (h : SomeS w rb A n c p x1 ua l m na g o k nc z y) (hp : p ≤ 90000) :
    LogAt ((y.setCell ⟨w.heap.size, 0, none⟩ (.slice ua m.n l.cap)).setCell ⟨w.heap.size, 1, none⟩ (.slice na k nc)) ((y.setCell ⟨w.heap.size, 0, none⟩ (.slice ua m.n l.cap)).setCell ⟨w.heap.size, 1, none⟩ (.slice na k nc)).heap.size ua l m na g o k z ∧ LayFrom w.heap.size l m ∧ (0 < k → w.heap.size ≤ g) ∧ m.n ≤ 12 ∧ (∀ r, r < m.n → m.L r ≤ 12) ∧ k ≤ 12 ∧
      Chg (fun j => j = rb) w ((y.setCell ⟨w.heap.size, 0, none⟩ (.slice ua m.n l.cap)).setCell ⟨w.heap.size, 1, none⟩ (.slice na k nc)) ∧ ∃ p, p ≤ 90000 ∧ Rd ((y.setCell ⟨w.heap.size, 0, none⟩ (.slice ua m.n l.cap)).setCell ⟨w.heap.size, 1, none⟩ (.slice na k nc)) rb A n c p := by
  obtain ⟨h1, h2, h3, h4, h5, h6, h7⟩ := h.put
  have hcS : Chg (fun j => j = w.heap.size) y ((y.setCell ⟨w.heap.size, 0, none⟩ (.slice ua m.n l.cap)).setCell ⟨w.heap.size, 1, none⟩ (.slice na k nc)) := (Chg.set (S := fun j => j = w.heap.size) rfl _).trans (Chg.set (S := fun j => j = w.heap.size) rfl _)
  have hrb := h.hrb
  have hx := h.hx
  have hxs := h.hxs
  exact ⟨h1, h2, h3, h4, h5, h6, h7, p, hp, hcS.rd h.rd (by omega) (by show ¬ (_ = w.heap.size); omega)⟩

set_option maxRecDepth 100000 in
set_option maxHeartbeats 4000000 in
theorem l20SomeR_any {rb n c : Nat} {A : Option Addr} {q0 : Int} {B b o : Nat} {z0 : Nat → Nat} {w : World} (hq0 : 1 ≤ q0) (hq1 : q0 ≤ 1000000) (hn : n ≤ 2000) (h : Rd w rb A n c 0) (hz : BytesAt w B A b o n z0) (hB : B ≤ rb) (hrb : rb < w.heap.size) :
    Calls Tryd.prog 66 #[.pointer (some ⟨rb, 0, none⟩), .int .i64 q0] w (DrawnNR rb n c A w) := by
  have hT := TwoAt.new w (.slice none 0 0) (.slice none 0 0) 26
  have hcA := Chg.alloc (fun j => j = rb) w (.cells #[.slice none 0 0, .slice none 0 0] 26)
  have hsA : (w.alloc (.cells #[.slice none 0 0, .slice none 0 0] 26)).heap.size = w.heap.size + 1 := by simp
  have hRA := (Chg.alloc (fun _ => False) w (.cells #[.slice none 0 0, .slice none 0 0] 26)).rd h hrb (fun h => h)
  have HZ := Lib.hid hz
  have HBY : ∀ {wx : World}, Chg (fun j => j = rb) w wx → BytesAt wx B A b o n z0 := fun hG => HZ.out.below ((hG.below (B := rb) (by omega) (fun j hj => by have hj' : j = rb := hj; omega)).mono hB)
  clear h hz
  go_enter Tryd.func66, Tryd.ntmps66
  go_wp2_with fail
  go_at_call 48
  refine (l20Logic_any hq0 hq1 (by omega) hn hRA (HBY hcA) hB (by omega)).mono ?_
  rintro e w1 ⟨ua, l, m, na, g, o2, k, nc, zz, p, rfl, hlog, hf, hg, hn1, hL, hk, hR1, hp, hC⟩
  rw [hsA] at hf hg
  have hs1 := hC.size
  rw [hsA] at hs1
  have hT1 := hC.two hT (by show ¬ (w.heap.size = rb); omega)
  have hst0 : SomeS w rb A n c p w1.heap.size ua l m na g o2 k nc zz (w1.alloc (.cells #[.slice ua m.n l.cap, .slice na k nc] 26)) := by
    have hcX := Chg.alloc (fun _ => False) w1 (.cells #[.slice ua m.n l.cap, .slice na k nc] 26)
    have hlx := hlog.alloc (.cells #[.slice ua m.n l.cap, .slice na k nc] 26)
    refine ⟨hcX.two hT1 (fun e => e), TwoAt.new w1 (.slice ua m.n l.cap) (.slice na k nc) 26, hcX.rd hR1 (by omega) (fun e => e), (hcA.trans hC).trans (hcX.mono fun _ e => e.elim), ⟨hlx.mat.more (by simp), ⟨fun i hi => ?_⟩, hlx.hn, hlx.hL, hlx.hk, Nat.le_refl _⟩, hf, hg, hrb, by omega, by simp, hn1, hL, hk⟩
    obtain ⟨e1, e2, e3⟩ := hlx.row.row i hi
    exact ⟨e1, by simp; omega, e3⟩
  have hcc0 := hst0.box.c0
  have hcc1 := hst0.box.c1
  clear hT hcA hRA hlog hf hg hL hC hT1 hR1
  obtain ⟨mx, hmx⟩ : ∃ mx : Int, (if (k : Int) < 1 then 1 else (k : Int)) = mx := ⟨_, rfl⟩
  have hmx1 : 1 ≤ mx ∧ mx ≤ 12 := by
    rw [← hmx]
    split <;> omega
  go_upto_region 3 with fail
  all_goals
    clear hmx hcc0 hcc1
    generalize hW : w1.alloc (.cells #[.slice ua m.n l.cap, .slice na k nc] 26) = w2 at hst0 ⊢
    clear hW
    have hst := hst0
    clear hst0
    refine region_plain (fuel := 10) (listed := #[false, false, false, false, false, false, false, false, false, false]) (fun _ => True) (by kernel_rfl) (by kernel_rfl) (by kernel_rfl) ?_
    have hst := hst.only (OnlyIn.refl _ _).drew
    refine hold_take (i := 0) (d := 16) (v := ?vA0) (listed' := #[true, false, false, false, false, false, false, false, false, false]) rfl (by kernel_rfl) (by kernel_rfl) (by kernel_rfl) rfl (by rfl) (by kernel_rfl) trivial ?hA0 ?rA0
    case hA0 =>
      intro w' hSw
      skip
      go_simp
      try with_reducible rfl
    simp only [List.setIfInBounds_toArray, List.set_cons_zero, List.set_cons_succ]
    refine hold_take (i := 1) (d := 17) (v := ?vA1) (listed' := #[true, true, false, false, false, false, false, false, false, false]) rfl (by kernel_rfl) (by kernel_rfl) (by kernel_rfl) rfl (by rfl) (by kernel_rfl) trivial ?hA1 ?rA1
    case hA1 =>
      intro w' hSw
      skip
      go_simp
      try with_reducible rfl
    simp only [List.setIfInBounds_toArray, List.set_cons_zero, List.set_cons_succ]
    refine hold_take (i := 4) (d := 20) (v := ?vA4) (listed' := #[true, true, false, false, true, false, false, false, false, false]) rfl (by kernel_rfl) (by kernel_rfl) (by kernel_rfl) rfl (by rfl) (by kernel_rfl) trivial ?hA4 ?rA4
    case hA4 =>
      intro w' hSw
      skip
      go_simp
      try with_reducible rfl
    simp only [List.setIfInBounds_toArray, List.set_cons_zero, List.set_cons_succ]
    refine hold_take (i := 5) (d := 21) (v := ?vA5) (listed' := #[true, true, false, false, true, true, false, false, false, false]) rfl (by kernel_rfl) (by kernel_rfl) (by kernel_rfl) rfl (by rfl) (by kernel_rfl) trivial ?hA5 ?rA5
    case hA5 =>
      intro w' hSw
      skip
      go_simp
      try with_reducible rfl
    simp only [List.setIfInBounds_toArray, List.set_cons_zero, List.set_cons_succ]
    refine hold_call (i := 2) (d := 18) (listed' := #[true, true, true, false, true, true, false, false, false, false]) rfl (by kernel_rfl) rfl (by rfl) (by kernel_rfl) ?heA2 (pick_any (q := mx) (by omega) (by omega) (by omega) hn hst.rd (HBY hst.old) hB) ?hcA2
    case heA2 => go_simp
    rintro e y1 ⟨v1, rfl, v1lo, v1hi, hR1, hQ1⟩
    have hst1 := hst.pick hQ1 hR1
    refine ⟨_, rfl, trivial, ?_⟩
    simp only [List.setIfInBounds_toArray, List.set_cons_zero, List.set_cons_succ]
    refine hold_take (i := 3) (d := 19) (v := ?vA3) (listed' := #[true, true, true, true, true, true, false, false, false, false]) rfl (by kernel_rfl) (by kernel_rfl) (by kernel_rfl) rfl (by rfl) (by kernel_rfl) trivial ?hA3 ?rA3
    case hA3 =>
      intro w' hSw
      skip
      go_simp
      try with_reducible rfl
    simp only [List.setIfInBounds_toArray, List.set_cons_zero, List.set_cons_succ]
    refine hold_call (i := 6) (d := 22) (listed' := #[true, true, true, true, true, true, true, false, false, false]) rfl (by kernel_rfl) rfl (by rfl) (by kernel_rfl) ?heA6 (pick_any (q := mx) (by omega) (by omega) (by omega) hn hst1.rd (HBY hst1.old) hB) ?hcA6
    case heA6 => go_simp
    rintro e y2 ⟨v2, rfl, v2lo, v2hi, hR2, hQ2⟩
    have hst2 := hst1.pick hQ2 hR2
    clear hR1 hQ1 hR2 hQ2 hst hst1
    refine ⟨_, rfl, trivial, ?_⟩
    simp only [List.setIfInBounds_toArray, List.set_cons_zero, List.set_cons_succ]
    refine hold_take (i := 7) (d := 23) (v := ?vA7) (listed' := #[true, true, true, true, true, true, true, true, false, false]) rfl (by kernel_rfl) (by kernel_rfl) (by kernel_rfl) rfl (by rfl) (by kernel_rfl) trivial ?hA7 ?rA7
    case hA7 =>
      intro w' hSw
      skip
      go_simp
      try with_reducible rfl
    simp only [List.setIfInBounds_toArray, List.set_cons_zero, List.set_cons_succ]
    refine hold_take (i := 8) (d := 24) (v := ?vA8) (listed' := #[true, true, true, true, true, true, true, true, true, false]) rfl (by kernel_rfl) (by kernel_rfl) (by kernel_rfl) rfl (by rfl) (by kernel_rfl) trivial ?hA8 ?rA8
    case hA8 =>
      intro w' hSw
      skip
      go_simp
      try with_reducible rfl
    simp only [List.setIfInBounds_toArray, List.set_cons_zero, List.set_cons_succ]
    refine hold_take (i := 9) (d := 8) (v := ?vA9) (listed' := #[true, true, true, true, true, true, true, true, true, true]) rfl (by kernel_rfl) (by kernel_rfl) (by kernel_rfl) rfl (by rfl) (by kernel_rfl) trivial ?hA9 ?rA9
    case hA9 =>
      intro w' hSw
      skip
      go_simp
      try with_reducible rfl
    simp only [List.setIfInBounds_toArray, List.set_cons_zero, List.set_cons_succ]
    refine hold_done (by kernel_rfl) ?_ _
    generalize bits BinOp.or IntKind.i64 _ _ = S2
    have hst := hst2
    clear hst2

    go_wp2_with fail
    go_at_call 67
    refine (pick_any (q := 2) (by omega) (by omega) (by omega) hn hst.rd (HBY hst.old) hB).mono ?_
    rintro e y3 ⟨v3, rfl, v3lo, v3hi, hR3, hQ3⟩
    have hst := hst.pick hQ3 hR3
    clear hR3 hQ3
    by_cases h3 : v3 = 0
    · subst h3
      go_wp2_with fail
      go_at_call 67
      refine (pick_any (q := mx) (by omega) (by omega) (by omega) hn hst.rd (HBY hst.old) hB).mono ?_
      rintro e y4 ⟨v4, rfl, v4lo, v4hi, hR4, hQ4⟩
      have hst := hst.pick hQ4 hR4
      clear hR4 hQ4
      have c0 := hst.box.c0
      have c1 := hst.box.c1
      go_wp2_with fail
      go_at_call 26
      refine (spec_LogicOk hst.log).mono ?_
      rintro e y5 ⟨rfl, b5⟩
      have hst := hst.below b5
      clear c0 c1 b5
      have c0 := hst.box.c0
      have c1 := hst.box.c1
      cases hlg : logicB m k zz with
      | false =>
        clear hlg
        go_upto_region 8 with fail
        clear c0 c1
        have hst := hst.only (OnlyIn.refl _ _).drew
        have K0 : (fun w' => w'.cell? ⟨w1.heap.size, 0, none⟩ = some (.slice ua m.n l.cap) ∧ w'.cell? ⟨w1.heap.size, 1, none⟩ = some (.slice na k nc)) y5.drew := ⟨hst.box.c0, hst.box.c1⟩
        refine region_plain (fuel := 14) (listed := #[false, false, false, false, false, false, false, false, false, false, false, false, false, false]) (fun w' => w'.cell? ⟨w1.heap.size, 0, none⟩ = some (.slice ua m.n l.cap) ∧ w'.cell? ⟨w1.heap.size, 1, none⟩ = some (.slice na k nc)) (by kernel_rfl) (by kernel_rfl) (by kernel_rfl) ?_
        refine hold_take (i := 0) (d := 44) (v := ?vB0) (listed' := #[true, false, false, false, false, false, false, false, false, false, false, false, false, false]) rfl (by kernel_rfl) (by kernel_rfl) (by kernel_rfl) rfl (by rfl) (by kernel_rfl) K0 ?hB0 ?rB0
        case hB0 =>
          intro w' hSw
          obtain ⟨k0, k1⟩ := hSw
          go_simp
          try with_reducible rfl
        simp only [List.setIfInBounds_toArray, List.set_cons_zero, List.set_cons_succ]
        refine hold_take (i := 1) (d := 45) (v := ?vB1) (listed' := #[true, true, false, false, false, false, false, false, false, false, false, false, false, false]) rfl (by kernel_rfl) (by kernel_rfl) (by kernel_rfl) rfl (by rfl) (by kernel_rfl) K0 ?hB1 ?rB1
        case hB1 =>
          intro w' hSw
          obtain ⟨k0, k1⟩ := hSw
          go_simp
          try with_reducible rfl
        simp only [List.setIfInBounds_toArray, List.set_cons_zero, List.set_cons_succ]
        refine hold_take (i := 2) (d := 46) (v := ?vB2) (listed' := #[true, true, true, false, false, false, false, false, false, false, false, false, false, false]) rfl (by kernel_rfl) (by kernel_rfl) (by kernel_rfl) rfl (by rfl) (by kernel_rfl) K0 ?hB2 ?rB2
        case hB2 =>
          intro w' hSw
          obtain ⟨k0, k1⟩ := hSw
          go_simp
          try with_reducible rfl
        simp only [List.setIfInBounds_toArray, List.set_cons_zero, List.set_cons_succ]
        refine hold_take (i := 7) (d := 51) (v := ?vB7) (listed' := #[true, true, true, false, false, false, false, true, false, false, false, false, false, false]) rfl (by kernel_rfl) (by kernel_rfl) (by kernel_rfl) rfl (by rfl) (by kernel_rfl) K0 ?hB7 ?rB7
        case hB7 =>
          intro w' hSw
          obtain ⟨k0, k1⟩ := hSw
          go_simp
          try with_reducible rfl
        simp only [List.setIfInBounds_toArray, List.set_cons_zero, List.set_cons_succ]
        refine hold_call (i := 3) (d := 47) (listed' := #[true, true, true, true, false, false, false, true, false, false, false, false, false, false]) rfl (by kernel_rfl) rfl (by rfl) (by kernel_rfl) ?heB3 (pick_any (q := 40) (by omega) (by omega) (by omega) hn hst.rd (HBY hst.old) hB) ?hcB3
        case heB3 => go_simp
        rintro e y8 ⟨v8, rfl, v8lo, v8hi, hR8, hQ8⟩
        have hst8 := hst.pick hQ8 hR8
        have K8 : (fun w' => w'.cell? ⟨w1.heap.size, 0, none⟩ = some (.slice ua m.n l.cap) ∧ w'.cell? ⟨w1.heap.size, 1, none⟩ = some (.slice na k nc)) y8 := ⟨hst8.box.c0, hst8.box.c1⟩
        refine ⟨_, rfl, K8, ?_⟩
        simp only [List.setIfInBounds_toArray, List.set_cons_zero, List.set_cons_succ]
        refine hold_take (i := 4) (d := 48) (v := ?vB4) (listed' := #[true, true, true, true, true, false, false, true, false, false, false, false, false, false]) rfl (by kernel_rfl) (by kernel_rfl) (by kernel_rfl) rfl (by rfl) (by kernel_rfl) K8 ?hB4 ?rB4
        case hB4 =>
          intro w' hSw
          obtain ⟨k0, k1⟩ := hSw
          go_simp
          try with_reducible rfl
        simp only [List.setIfInBounds_toArray, List.set_cons_zero, List.set_cons_succ]
        refine hold_take (i := 5) (d := 49) (v := ?vB5) (listed' := #[true, true, true, true, true, true, false, true, false, false, false, false, false, false]) rfl (by kernel_rfl) (by kernel_rfl) (by kernel_rfl) rfl (by rfl) (by kernel_rfl) K8 ?hB5 ?rB5
        case hB5 =>
          intro w' hSw
          obtain ⟨k0, k1⟩ := hSw
          go_simp
          try with_reducible rfl
        simp only [List.setIfInBounds_toArray, List.set_cons_zero, List.set_cons_succ]
        refine hold_take (i := 6) (d := 50) (v := ?vB6) (listed' := #[true, true, true, true, true, true, true, true, false, false, false, false, false, false]) rfl (by kernel_rfl) (by kernel_rfl) (by kernel_rfl) rfl (by rfl) (by kernel_rfl) K8 ?hB6 ?rB6
        case hB6 =>
          intro w' hSw
          obtain ⟨k0, k1⟩ := hSw
          go_simp
          try with_reducible rfl
        simp only [List.setIfInBounds_toArray, List.set_cons_zero, List.set_cons_succ]
        refine hold_call (i := 8) (d := 52) (listed' := #[true, true, true, true, true, true, true, true, true, false, false, false, false, false]) rfl (by kernel_rfl) rfl (by rfl) (by kernel_rfl) ?heB8 (pick_any (q := 50) (by omega) (by omega) (by omega) hn hst8.rd (HBY hst8.old) hB) ?hcB8
        case heB8 => go_simp
        rintro e y9 ⟨v9, rfl, v9lo, v9hi, hR9, hQ9⟩
        have hst9 := hst8.pick hQ9 hR9
        have K9 : (fun w' => w'.cell? ⟨w1.heap.size, 0, none⟩ = some (.slice ua m.n l.cap) ∧ w'.cell? ⟨w1.heap.size, 1, none⟩ = some (.slice na k nc)) y9 := ⟨hst9.box.c0, hst9.box.c1⟩
        clear hst8 hst hR8 hQ8 hR9 hQ9
        refine ⟨_, rfl, K9, ?_⟩
        simp only [List.setIfInBounds_toArray, List.set_cons_zero, List.set_cons_succ]
        refine hold_take (i := 9) (d := 53) (v := ?vB9) (listed' := #[true, true, true, true, true, true, true, true, true, true, false, false, false, false]) rfl (by kernel_rfl) (by kernel_rfl) (by kernel_rfl) rfl (by rfl) (by kernel_rfl) K9 ?hB9 ?rB9
        case hB9 =>
          intro w' hSw
          obtain ⟨k0, k1⟩ := hSw
          go_simp
          try with_reducible rfl
        simp only [List.setIfInBounds_toArray, List.set_cons_zero, List.set_cons_succ]
        refine hold_take (i := 10) (d := 54) (v := ?vB10) (listed' := #[true, true, true, true, true, true, true, true, true, true, true, false, false, false]) rfl (by kernel_rfl) (by kernel_rfl) (by kernel_rfl) rfl (by rfl) (by kernel_rfl) K9 ?hB10 ?rB10
        case hB10 =>
          intro w' hSw
          obtain ⟨k0, k1⟩ := hSw
          go_simp
          try with_reducible rfl
        simp only [List.setIfInBounds_toArray, List.set_cons_zero, List.set_cons_succ]
        refine hold_take (i := 11) (d := 55) (v := ?vB11) (listed' := #[true, true, true, true, true, true, true, true, true, true, true, true, false, false]) rfl (by kernel_rfl) (by kernel_rfl) (by kernel_rfl) rfl (by rfl) (by kernel_rfl) K9 ?hB11 ?rB11
        case hB11 =>
          intro w' hSw
          obtain ⟨k0, k1⟩ := hSw
          go_simp
          try with_reducible rfl
        simp only [List.setIfInBounds_toArray, List.set_cons_zero, List.set_cons_succ]
        have d0 := hst9.res.c0
        have d1 := hst9.res.c1
        have d2 := hst9.res.f0
        have d3 := hst9.res.f1
        have hb10 := hst9.boxPut
        have K10 : (fun w' => w'.cell? ⟨w1.heap.size, 0, none⟩ = some (.slice ua m.n l.cap) ∧ w'.cell? ⟨w1.heap.size, 1, none⟩ = some (.slice na k nc)) ((y9.setCell ⟨w.heap.size, 0, none⟩ (.slice ua m.n l.cap)).setCell ⟨w.heap.size, 1, none⟩ (.slice na k nc)) := ⟨hb10.c0, hb10.c1⟩
        refine hold_store (i := 12) (w' := ((y9.setCell ⟨w.heap.size, 0, none⟩ (.slice ua m.n l.cap)).setCell ⟨w.heap.size, 1, none⟩ (.slice na k nc))) (listed' := #[true, true, true, true, true, true, true, true, true, true, true, true, true, false]) rfl (by kernel_rfl) rfl (by rfl) (by kernel_rfl) ?hsB12 K10 ?hkB12
        case hsB12 => go_simp
        refine hold_take (i := 13) (d := 5) (v := ?vB13) (listed' := #[true, true, true, true, true, true, true, true, true, true, true, true, true, true]) rfl (by kernel_rfl) (by kernel_rfl) (by kernel_rfl) rfl (by rfl) (by kernel_rfl) K10 ?hB13 ?rB13
        case hB13 =>
          intro w' hSw
          obtain ⟨k0, k1⟩ := hSw
          go_simp
          try with_reducible rfl
        simp only [List.setIfInBounds_toArray, List.set_cons_zero, List.set_cons_succ]
        refine hold_done (by kernel_rfl) ?_ _
        generalize IntKind.i64.wrap (_ - _) = X9
        have hall := Lib.hid (hst9.putR (by omega))
        have hfin := (hst9.res.set0 (.slice ua m.n l.cap)).set1 (.slice na k nc)
        have t0 := hfin.c0
        have t1 := hfin.c1
        clear hfin hst9 hb10 d0 d1 d2 d3 K0 K8 K9 K10
        go_wp2_with fail
        exact bodyPost_ret (v := .tuple #[.agg #[.slice ua m.n l.cap, .slice na k nc], .int .i64 X9]) (by simp [results, Tryd.results66, go_sem, t0, t1]) rfl ⟨ua, l, m, na, g, o2, k, nc, zz, X9, rfl, hall.out⟩
      | true =>
        clear hlg
        go_wp2_with fail
        go_at_call 67
        refine (pick_any (q := 2) (by omega) (by omega) (by omega) hn hst.rd (HBY hst.old) hB).mono ?_
        rintro e y6 ⟨v6, rfl, v6lo, v6hi, hR6, hQ6⟩
        have hst := hst.pick hQ6 hR6
        clear c0 c1 hR6 hQ6
        have c0 := hst.box.c0
        have c1 := hst.box.c1
        by_cases h6 : v6 = 0
        · subst h6
          go_wp2_with fail
          go_at_call 119
          refine (spec_MadeBy hst.log).mono ?_
          rintro e y7 ⟨rfl, b7⟩
          generalize madeV m k zz _ = X7
          have hst := hst.below b7
          clear c0 c1 b7
          have c0 := hst.box.c0
          have c1 := hst.box.c1
          go_upto_region 8 with fail
          clear c0 c1
          have hst := hst.only (OnlyIn.refl _ _).drew
          have K0 : (fun w' => w'.cell? ⟨w1.heap.size, 0, none⟩ = some (.slice ua m.n l.cap) ∧ w'.cell? ⟨w1.heap.size, 1, none⟩ = some (.slice na k nc)) y7.drew := ⟨hst.box.c0, hst.box.c1⟩
          refine region_plain (fuel := 14) (listed := #[false, false, false, false, false, false, false, false, false, false, false, false, false, false]) (fun w' => w'.cell? ⟨w1.heap.size, 0, none⟩ = some (.slice ua m.n l.cap) ∧ w'.cell? ⟨w1.heap.size, 1, none⟩ = some (.slice na k nc)) (by kernel_rfl) (by kernel_rfl) (by kernel_rfl) ?_
          refine hold_take (i := 0) (d := 44) (v := ?vC0) (listed' := #[true, false, false, false, false, false, false, false, false, false, false, false, false, false]) rfl (by kernel_rfl) (by kernel_rfl) (by kernel_rfl) rfl (by rfl) (by kernel_rfl) K0 ?hC0 ?rC0
          case hC0 =>
            intro w' hSw
            obtain ⟨k0, k1⟩ := hSw
            go_simp
            try with_reducible rfl
          simp only [List.setIfInBounds_toArray, List.set_cons_zero, List.set_cons_succ]
          refine hold_take (i := 1) (d := 45) (v := ?vC1) (listed' := #[true, true, false, false, false, false, false, false, false, false, false, false, false, false]) rfl (by kernel_rfl) (by kernel_rfl) (by kernel_rfl) rfl (by rfl) (by kernel_rfl) K0 ?hC1 ?rC1
          case hC1 =>
            intro w' hSw
            obtain ⟨k0, k1⟩ := hSw
            go_simp
            try with_reducible rfl
          simp only [List.setIfInBounds_toArray, List.set_cons_zero, List.set_cons_succ]
          refine hold_take (i := 2) (d := 46) (v := ?vC2) (listed' := #[true, true, true, false, false, false, false, false, false, false, false, false, false, false]) rfl (by kernel_rfl) (by kernel_rfl) (by kernel_rfl) rfl (by rfl) (by kernel_rfl) K0 ?hC2 ?rC2
          case hC2 =>
            intro w' hSw
            obtain ⟨k0, k1⟩ := hSw
            go_simp
            try with_reducible rfl
          simp only [List.setIfInBounds_toArray, List.set_cons_zero, List.set_cons_succ]
          refine hold_take (i := 7) (d := 51) (v := ?vC7) (listed' := #[true, true, true, false, false, false, false, true, false, false, false, false, false, false]) rfl (by kernel_rfl) (by kernel_rfl) (by kernel_rfl) rfl (by rfl) (by kernel_rfl) K0 ?hC7 ?rC7
          case hC7 =>
            intro w' hSw
            obtain ⟨k0, k1⟩ := hSw
            go_simp
            try with_reducible rfl
          simp only [List.setIfInBounds_toArray, List.set_cons_zero, List.set_cons_succ]
          refine hold_call (i := 3) (d := 47) (listed' := #[true, true, true, true, false, false, false, true, false, false, false, false, false, false]) rfl (by kernel_rfl) rfl (by rfl) (by kernel_rfl) ?heC3 (pick_any (q := 40) (by omega) (by omega) (by omega) hn hst.rd (HBY hst.old) hB) ?hcC3
          case heC3 => go_simp
          rintro e y8 ⟨v8, rfl, v8lo, v8hi, hR8, hQ8⟩
          have hst8 := hst.pick hQ8 hR8
          have K8 : (fun w' => w'.cell? ⟨w1.heap.size, 0, none⟩ = some (.slice ua m.n l.cap) ∧ w'.cell? ⟨w1.heap.size, 1, none⟩ = some (.slice na k nc)) y8 := ⟨hst8.box.c0, hst8.box.c1⟩
          refine ⟨_, rfl, K8, ?_⟩
          simp only [List.setIfInBounds_toArray, List.set_cons_zero, List.set_cons_succ]
          refine hold_take (i := 4) (d := 48) (v := ?vC4) (listed' := #[true, true, true, true, true, false, false, true, false, false, false, false, false, false]) rfl (by kernel_rfl) (by kernel_rfl) (by kernel_rfl) rfl (by rfl) (by kernel_rfl) K8 ?hC4 ?rC4
          case hC4 =>
            intro w' hSw
            obtain ⟨k0, k1⟩ := hSw
            go_simp
            try with_reducible rfl
          simp only [List.setIfInBounds_toArray, List.set_cons_zero, List.set_cons_succ]
          refine hold_take (i := 5) (d := 49) (v := ?vC5) (listed' := #[true, true, true, true, true, true, false, true, false, false, false, false, false, false]) rfl (by kernel_rfl) (by kernel_rfl) (by kernel_rfl) rfl (by rfl) (by kernel_rfl) K8 ?hC5 ?rC5
          case hC5 =>
            intro w' hSw
            obtain ⟨k0, k1⟩ := hSw
            go_simp
            try with_reducible rfl
          simp only [List.setIfInBounds_toArray, List.set_cons_zero, List.set_cons_succ]
          refine hold_take (i := 6) (d := 50) (v := ?vC6) (listed' := #[true, true, true, true, true, true, true, true, false, false, false, false, false, false]) rfl (by kernel_rfl) (by kernel_rfl) (by kernel_rfl) rfl (by rfl) (by kernel_rfl) K8 ?hC6 ?rC6
          case hC6 =>
            intro w' hSw
            obtain ⟨k0, k1⟩ := hSw
            go_simp
            try with_reducible rfl
          simp only [List.setIfInBounds_toArray, List.set_cons_zero, List.set_cons_succ]
          refine hold_call (i := 8) (d := 52) (listed' := #[true, true, true, true, true, true, true, true, true, false, false, false, false, false]) rfl (by kernel_rfl) rfl (by rfl) (by kernel_rfl) ?heC8 (pick_any (q := 50) (by omega) (by omega) (by omega) hn hst8.rd (HBY hst8.old) hB) ?hcC8
          case heC8 => go_simp
          rintro e y9 ⟨v9, rfl, v9lo, v9hi, hR9, hQ9⟩
          have hst9 := hst8.pick hQ9 hR9
          have K9 : (fun w' => w'.cell? ⟨w1.heap.size, 0, none⟩ = some (.slice ua m.n l.cap) ∧ w'.cell? ⟨w1.heap.size, 1, none⟩ = some (.slice na k nc)) y9 := ⟨hst9.box.c0, hst9.box.c1⟩
          clear hst8 hst hR8 hQ8 hR9 hQ9
          refine ⟨_, rfl, K9, ?_⟩
          simp only [List.setIfInBounds_toArray, List.set_cons_zero, List.set_cons_succ]
          refine hold_take (i := 9) (d := 53) (v := ?vC9) (listed' := #[true, true, true, true, true, true, true, true, true, true, false, false, false, false]) rfl (by kernel_rfl) (by kernel_rfl) (by kernel_rfl) rfl (by rfl) (by kernel_rfl) K9 ?hC9 ?rC9
          case hC9 =>
            intro w' hSw
            obtain ⟨k0, k1⟩ := hSw
            go_simp
            try with_reducible rfl
          simp only [List.setIfInBounds_toArray, List.set_cons_zero, List.set_cons_succ]
          refine hold_take (i := 10) (d := 54) (v := ?vC10) (listed' := #[true, true, true, true, true, true, true, true, true, true, true, false, false, false]) rfl (by kernel_rfl) (by kernel_rfl) (by kernel_rfl) rfl (by rfl) (by kernel_rfl) K9 ?hC10 ?rC10
          case hC10 =>
            intro w' hSw
            obtain ⟨k0, k1⟩ := hSw
            go_simp
            try with_reducible rfl
          simp only [List.setIfInBounds_toArray, List.set_cons_zero, List.set_cons_succ]
          refine hold_take (i := 11) (d := 55) (v := ?vC11) (listed' := #[true, true, true, true, true, true, true, true, true, true, true, true, false, false]) rfl (by kernel_rfl) (by kernel_rfl) (by kernel_rfl) rfl (by rfl) (by kernel_rfl) K9 ?hC11 ?rC11
          case hC11 =>
            intro w' hSw
            obtain ⟨k0, k1⟩ := hSw
            go_simp
            try with_reducible rfl
          simp only [List.setIfInBounds_toArray, List.set_cons_zero, List.set_cons_succ]
          have d0 := hst9.res.c0
          have d1 := hst9.res.c1
          have d2 := hst9.res.f0
          have d3 := hst9.res.f1
          have hb10 := hst9.boxPut
          have K10 : (fun w' => w'.cell? ⟨w1.heap.size, 0, none⟩ = some (.slice ua m.n l.cap) ∧ w'.cell? ⟨w1.heap.size, 1, none⟩ = some (.slice na k nc)) ((y9.setCell ⟨w.heap.size, 0, none⟩ (.slice ua m.n l.cap)).setCell ⟨w.heap.size, 1, none⟩ (.slice na k nc)) := ⟨hb10.c0, hb10.c1⟩
          refine hold_store (i := 12) (w' := ((y9.setCell ⟨w.heap.size, 0, none⟩ (.slice ua m.n l.cap)).setCell ⟨w.heap.size, 1, none⟩ (.slice na k nc))) (listed' := #[true, true, true, true, true, true, true, true, true, true, true, true, true, false]) rfl (by kernel_rfl) rfl (by rfl) (by kernel_rfl) ?hsC12 K10 ?hkC12
          case hsC12 => go_simp
          refine hold_take (i := 13) (d := 5) (v := ?vC13) (listed' := #[true, true, true, true, true, true, true, true, true, true, true, true, true, true]) rfl (by kernel_rfl) (by kernel_rfl) (by kernel_rfl) rfl (by rfl) (by kernel_rfl) K10 ?hC13 ?rC13
          case hC13 =>
            intro w' hSw
            obtain ⟨k0, k1⟩ := hSw
            go_simp
            try with_reducible rfl
          simp only [List.setIfInBounds_toArray, List.set_cons_zero, List.set_cons_succ]
          refine hold_done (by kernel_rfl) ?_ _
          generalize IntKind.i64.wrap (_ - _) = X9
          have hall := Lib.hid (hst9.putR (by omega))
          have hfin := (hst9.res.set0 (.slice ua m.n l.cap)).set1 (.slice na k nc)
          have t0 := hfin.c0
          have t1 := hfin.c1
          clear hfin hst9 hb10 d0 d1 d2 d3 K0 K8 K9 K10
          go_wp2_with fail
          exact bodyPost_ret (v := .tuple #[.agg #[.slice ua m.n l.cap, .slice na k nc], .int .i64 X9]) (by simp [results, Tryd.results66, go_sem, t0, t1]) rfl ⟨ua, l, m, na, g, o2, k, nc, zz, X9, rfl, hall.out⟩
        · have e6 : (v6 == 0) = false := by simpa using h6
          go_upto_region 8 with fail
          clear c0 c1
          have hst := hst.only (OnlyIn.refl _ _).drew
          have K0 : (fun w' => w'.cell? ⟨w1.heap.size, 0, none⟩ = some (.slice ua m.n l.cap) ∧ w'.cell? ⟨w1.heap.size, 1, none⟩ = some (.slice na k nc)) y6.drew := ⟨hst.box.c0, hst.box.c1⟩
          refine region_plain (fuel := 14) (listed := #[false, false, false, false, false, false, false, false, false, false, false, false, false, false]) (fun w' => w'.cell? ⟨w1.heap.size, 0, none⟩ = some (.slice ua m.n l.cap) ∧ w'.cell? ⟨w1.heap.size, 1, none⟩ = some (.slice na k nc)) (by kernel_rfl) (by kernel_rfl) (by kernel_rfl) ?_
          refine hold_take (i := 0) (d := 44) (v := ?vD0) (listed' := #[true, false, false, false, false, false, false, false, false, false, false, false, false, false]) rfl (by kernel_rfl) (by kernel_rfl) (by kernel_rfl) rfl (by rfl) (by kernel_rfl) K0 ?hD0 ?rD0
          case hD0 =>
            intro w' hSw
            obtain ⟨k0, k1⟩ := hSw
            go_simp
            try with_reducible rfl
          simp only [List.setIfInBounds_toArray, List.set_cons_zero, List.set_cons_succ]
          refine hold_take (i := 1) (d := 45) (v := ?vD1) (listed' := #[true, true, false, false, false, false, false, false, false, false, false, false, false, false]) rfl (by kernel_rfl) (by kernel_rfl) (by kernel_rfl) rfl (by rfl) (by kernel_rfl) K0 ?hD1 ?rD1
          case hD1 =>
            intro w' hSw
            obtain ⟨k0, k1⟩ := hSw
            go_simp
            try with_reducible rfl
          simp only [List.setIfInBounds_toArray, List.set_cons_zero, List.set_cons_succ]
          refine hold_take (i := 2) (d := 46) (v := ?vD2) (listed' := #[true, true, true, false, false, false, false, false, false, false, false, false, false, false]) rfl (by kernel_rfl) (by kernel_rfl) (by kernel_rfl) rfl (by rfl) (by kernel_rfl) K0 ?hD2 ?rD2
          case hD2 =>
            intro w' hSw
            obtain ⟨k0, k1⟩ := hSw
            go_simp
            try with_reducible rfl
          simp only [List.setIfInBounds_toArray, List.set_cons_zero, List.set_cons_succ]
          refine hold_take (i := 7) (d := 51) (v := ?vD7) (listed' := #[true, true, true, false, false, false, false, true, false, false, false, false, false, false]) rfl (by kernel_rfl) (by kernel_rfl) (by kernel_rfl) rfl (by rfl) (by kernel_rfl) K0 ?hD7 ?rD7
          case hD7 =>
            intro w' hSw
            obtain ⟨k0, k1⟩ := hSw
            go_simp
            try with_reducible rfl
          simp only [List.setIfInBounds_toArray, List.set_cons_zero, List.set_cons_succ]
          refine hold_call (i := 3) (d := 47) (listed' := #[true, true, true, true, false, false, false, true, false, false, false, false, false, false]) rfl (by kernel_rfl) rfl (by rfl) (by kernel_rfl) ?heD3 (pick_any (q := 40) (by omega) (by omega) (by omega) hn hst.rd (HBY hst.old) hB) ?hcD3
          case heD3 => go_simp
          rintro e y8 ⟨v8, rfl, v8lo, v8hi, hR8, hQ8⟩
          have hst8 := hst.pick hQ8 hR8
          have K8 : (fun w' => w'.cell? ⟨w1.heap.size, 0, none⟩ = some (.slice ua m.n l.cap) ∧ w'.cell? ⟨w1.heap.size, 1, none⟩ = some (.slice na k nc)) y8 := ⟨hst8.box.c0, hst8.box.c1⟩
          refine ⟨_, rfl, K8, ?_⟩
          simp only [List.setIfInBounds_toArray, List.set_cons_zero, List.set_cons_succ]
          refine hold_take (i := 4) (d := 48) (v := ?vD4) (listed' := #[true, true, true, true, true, false, false, true, false, false, false, false, false, false]) rfl (by kernel_rfl) (by kernel_rfl) (by kernel_rfl) rfl (by rfl) (by kernel_rfl) K8 ?hD4 ?rD4
          case hD4 =>
            intro w' hSw
            obtain ⟨k0, k1⟩ := hSw
            go_simp
            try with_reducible rfl
          simp only [List.setIfInBounds_toArray, List.set_cons_zero, List.set_cons_succ]
          refine hold_take (i := 5) (d := 49) (v := ?vD5) (listed' := #[true, true, true, true, true, true, false, true, false, false, false, false, false, false]) rfl (by kernel_rfl) (by kernel_rfl) (by kernel_rfl) rfl (by rfl) (by kernel_rfl) K8 ?hD5 ?rD5
          case hD5 =>
            intro w' hSw
            obtain ⟨k0, k1⟩ := hSw
            go_simp
            try with_reducible rfl
          simp only [List.setIfInBounds_toArray, List.set_cons_zero, List.set_cons_succ]
          refine hold_take (i := 6) (d := 50) (v := ?vD6) (listed' := #[true, true, true, true, true, true, true, true, false, false, false, false, false, false]) rfl (by kernel_rfl) (by kernel_rfl) (by kernel_rfl) rfl (by rfl) (by kernel_rfl) K8 ?hD6 ?rD6
          case hD6 =>
            intro w' hSw
            obtain ⟨k0, k1⟩ := hSw
            go_simp
            try with_reducible rfl
          simp only [List.setIfInBounds_toArray, List.set_cons_zero, List.set_cons_succ]
          refine hold_call (i := 8) (d := 52) (listed' := #[true, true, true, true, true, true, true, true, true, false, false, false, false, false]) rfl (by kernel_rfl) rfl (by rfl) (by kernel_rfl) ?heD8 (pick_any (q := 50) (by omega) (by omega) (by omega) hn hst8.rd (HBY hst8.old) hB) ?hcD8
          case heD8 => go_simp
          rintro e y9 ⟨v9, rfl, v9lo, v9hi, hR9, hQ9⟩
          have hst9 := hst8.pick hQ9 hR9
          have K9 : (fun w' => w'.cell? ⟨w1.heap.size, 0, none⟩ = some (.slice ua m.n l.cap) ∧ w'.cell? ⟨w1.heap.size, 1, none⟩ = some (.slice na k nc)) y9 := ⟨hst9.box.c0, hst9.box.c1⟩
          clear hst8 hst hR8 hQ8 hR9 hQ9
          refine ⟨_, rfl, K9, ?_⟩
          simp only [List.setIfInBounds_toArray, List.set_cons_zero, List.set_cons_succ]
          refine hold_take (i := 9) (d := 53) (v := ?vD9) (listed' := #[true, true, true, true, true, true, true, true, true, true, false, false, false, false]) rfl (by kernel_rfl) (by kernel_rfl) (by kernel_rfl) rfl (by rfl) (by kernel_rfl) K9 ?hD9 ?rD9
          case hD9 =>
            intro w' hSw
            obtain ⟨k0, k1⟩ := hSw
            go_simp
            try with_reducible rfl
          simp only [List.setIfInBounds_toArray, List.set_cons_zero, List.set_cons_succ]
          refine hold_take (i := 10) (d := 54) (v := ?vD10) (listed' := #[true, true, true, true, true, true, true, true, true, true, true, false, false, false]) rfl (by kernel_rfl) (by kernel_rfl) (by kernel_rfl) rfl (by rfl) (by kernel_rfl) K9 ?hD10 ?rD10
          case hD10 =>
            intro w' hSw
            obtain ⟨k0, k1⟩ := hSw
            go_simp
            try with_reducible rfl
          simp only [List.setIfInBounds_toArray, List.set_cons_zero, List.set_cons_succ]
          refine hold_take (i := 11) (d := 55) (v := ?vD11) (listed' := #[true, true, true, true, true, true, true, true, true, true, true, true, false, false]) rfl (by kernel_rfl) (by kernel_rfl) (by kernel_rfl) rfl (by rfl) (by kernel_rfl) K9 ?hD11 ?rD11
          case hD11 =>
            intro w' hSw
            obtain ⟨k0, k1⟩ := hSw
            go_simp
            try with_reducible rfl
          simp only [List.setIfInBounds_toArray, List.set_cons_zero, List.set_cons_succ]
          have d0 := hst9.res.c0
          have d1 := hst9.res.c1
          have d2 := hst9.res.f0
          have d3 := hst9.res.f1
          have hb10 := hst9.boxPut
          have K10 : (fun w' => w'.cell? ⟨w1.heap.size, 0, none⟩ = some (.slice ua m.n l.cap) ∧ w'.cell? ⟨w1.heap.size, 1, none⟩ = some (.slice na k nc)) ((y9.setCell ⟨w.heap.size, 0, none⟩ (.slice ua m.n l.cap)).setCell ⟨w.heap.size, 1, none⟩ (.slice na k nc)) := ⟨hb10.c0, hb10.c1⟩
          refine hold_store (i := 12) (w' := ((y9.setCell ⟨w.heap.size, 0, none⟩ (.slice ua m.n l.cap)).setCell ⟨w.heap.size, 1, none⟩ (.slice na k nc))) (listed' := #[true, true, true, true, true, true, true, true, true, true, true, true, true, false]) rfl (by kernel_rfl) rfl (by rfl) (by kernel_rfl) ?hsD12 K10 ?hkD12
          case hsD12 => go_simp
          refine hold_take (i := 13) (d := 5) (v := ?vD13) (listed' := #[true, true, true, true, true, true, true, true, true, true, true, true, true, true]) rfl (by kernel_rfl) (by kernel_rfl) (by kernel_rfl) rfl (by rfl) (by kernel_rfl) K10 ?hD13 ?rD13
          case hD13 =>
            intro w' hSw
            obtain ⟨k0, k1⟩ := hSw
            go_simp
            try with_reducible rfl
          simp only [List.setIfInBounds_toArray, List.set_cons_zero, List.set_cons_succ]
          refine hold_done (by kernel_rfl) ?_ _
          generalize IntKind.i64.wrap (_ - _) = X9
          have hall := Lib.hid (hst9.putR (by omega))
          have hfin := (hst9.res.set0 (.slice ua m.n l.cap)).set1 (.slice na k nc)
          have t0 := hfin.c0
          have t1 := hfin.c1
          clear hfin hst9 hb10 d0 d1 d2 d3 K0 K8 K9 K10
          go_wp2_with fail
          exact bodyPost_ret (v := .tuple #[.agg #[.slice ua m.n l.cap, .slice na k nc], .int .i64 X9]) (by simp [results, Tryd.results66, go_sem, t0, t1]) rfl ⟨ua, l, m, na, g, o2, k, nc, zz, X9, rfl, hall.out⟩
    · have e3 : (v3 == 0) = false := by simpa using h3
      have c0 := hst.box.c0
      have c1 := hst.box.c1
      go_wp2_with fail
      go_at_call 26
      refine (spec_LogicOk hst.log).mono ?_
      rintro e y5 ⟨rfl, b5⟩
      have hst := hst.below b5
      clear c0 c1 b5
      have c0 := hst.box.c0
      have c1 := hst.box.c1
      cases hlg : logicB m k zz with
      | false =>
        clear hlg
        go_upto_region 8 with fail
        clear c0 c1
        have hst := hst.only (OnlyIn.refl _ _).drew
        have K0 : (fun w' => w'.cell? ⟨w1.heap.size, 0, none⟩ = some (.slice ua m.n l.cap) ∧ w'.cell? ⟨w1.heap.size, 1, none⟩ = some (.slice na k nc)) y5.drew := ⟨hst.box.c0, hst.box.c1⟩
        refine region_plain (fuel := 14) (listed := #[false, false, false, false, false, false, false, false, false, false, false, false, false, false]) (fun w' => w'.cell? ⟨w1.heap.size, 0, none⟩ = some (.slice ua m.n l.cap) ∧ w'.cell? ⟨w1.heap.size, 1, none⟩ = some (.slice na k nc)) (by kernel_rfl) (by kernel_rfl) (by kernel_rfl) ?_
        refine hold_take (i := 0) (d := 44) (v := ?vE0) (listed' := #[true, false, false, false, false, false, false, false, false, false, false, false, false, false]) rfl (by kernel_rfl) (by kernel_rfl) (by kernel_rfl) rfl (by rfl) (by kernel_rfl) K0 ?hE0 ?rE0
        case hE0 =>
          intro w' hSw
          obtain ⟨k0, k1⟩ := hSw
          go_simp
          try with_reducible rfl
        simp only [List.setIfInBounds_toArray, List.set_cons_zero, List.set_cons_succ]
        refine hold_take (i := 1) (d := 45) (v := ?vE1) (listed' := #[true, true, false, false, false, false, false, false, false, false, false, false, false, false]) rfl (by kernel_rfl) (by kernel_rfl) (by kernel_rfl) rfl (by rfl) (by kernel_rfl) K0 ?hE1 ?rE1
        case hE1 =>
          intro w' hSw
          obtain ⟨k0, k1⟩ := hSw
          go_simp
          try with_reducible rfl
        simp only [List.setIfInBounds_toArray, List.set_cons_zero, List.set_cons_succ]
        refine hold_take (i := 2) (d := 46) (v := ?vE2) (listed' := #[true, true, true, false, false, false, false, false, false, false, false, false, false, false]) rfl (by kernel_rfl) (by kernel_rfl) (by kernel_rfl) rfl (by rfl) (by kernel_rfl) K0 ?hE2 ?rE2
        case hE2 =>
          intro w' hSw
          obtain ⟨k0, k1⟩ := hSw
          go_simp
          try with_reducible rfl
        simp only [List.setIfInBounds_toArray, List.set_cons_zero, List.set_cons_succ]
        refine hold_take (i := 7) (d := 51) (v := ?vE7) (listed' := #[true, true, true, false, false, false, false, true, false, false, false, false, false, false]) rfl (by kernel_rfl) (by kernel_rfl) (by kernel_rfl) rfl (by rfl) (by kernel_rfl) K0 ?hE7 ?rE7
        case hE7 =>
          intro w' hSw
          obtain ⟨k0, k1⟩ := hSw
          go_simp
          try with_reducible rfl
        simp only [List.setIfInBounds_toArray, List.set_cons_zero, List.set_cons_succ]
        refine hold_call (i := 3) (d := 47) (listed' := #[true, true, true, true, false, false, false, true, false, false, false, false, false, false]) rfl (by kernel_rfl) rfl (by rfl) (by kernel_rfl) ?heE3 (pick_any (q := 40) (by omega) (by omega) (by omega) hn hst.rd (HBY hst.old) hB) ?hcE3
        case heE3 => go_simp
        rintro e y8 ⟨v8, rfl, v8lo, v8hi, hR8, hQ8⟩
        have hst8 := hst.pick hQ8 hR8
        have K8 : (fun w' => w'.cell? ⟨w1.heap.size, 0, none⟩ = some (.slice ua m.n l.cap) ∧ w'.cell? ⟨w1.heap.size, 1, none⟩ = some (.slice na k nc)) y8 := ⟨hst8.box.c0, hst8.box.c1⟩
        refine ⟨_, rfl, K8, ?_⟩
        simp only [List.setIfInBounds_toArray, List.set_cons_zero, List.set_cons_succ]
        refine hold_take (i := 4) (d := 48) (v := ?vE4) (listed' := #[true, true, true, true, true, false, false, true, false, false, false, false, false, false]) rfl (by kernel_rfl) (by kernel_rfl) (by kernel_rfl) rfl (by rfl) (by kernel_rfl) K8 ?hE4 ?rE4
        case hE4 =>
          intro w' hSw
          obtain ⟨k0, k1⟩ := hSw
          go_simp
          try with_reducible rfl
        simp only [List.setIfInBounds_toArray, List.set_cons_zero, List.set_cons_succ]
        refine hold_take (i := 5) (d := 49) (v := ?vE5) (listed' := #[true, true, true, true, true, true, false, true, false, false, false, false, false, false]) rfl (by kernel_rfl) (by kernel_rfl) (by kernel_rfl) rfl (by rfl) (by kernel_rfl) K8 ?hE5 ?rE5
        case hE5 =>
          intro w' hSw
          obtain ⟨k0, k1⟩ := hSw
          go_simp
          try with_reducible rfl
        simp only [List.setIfInBounds_toArray, List.set_cons_zero, List.set_cons_succ]
        refine hold_take (i := 6) (d := 50) (v := ?vE6) (listed' := #[true, true, true, true, true, true, true, true, false, false, false, false, false, false]) rfl (by kernel_rfl) (by kernel_rfl) (by kernel_rfl) rfl (by rfl) (by kernel_rfl) K8 ?hE6 ?rE6
        case hE6 =>
          intro w' hSw
          obtain ⟨k0, k1⟩ := hSw
          go_simp
          try with_reducible rfl
        simp only [List.setIfInBounds_toArray, List.set_cons_zero, List.set_cons_succ]
        refine hold_call (i := 8) (d := 52) (listed' := #[true, true, true, true, true, true, true, true, true, false, false, false, false, false]) rfl (by kernel_rfl) rfl (by rfl) (by kernel_rfl) ?heE8 (pick_any (q := 50) (by omega) (by omega) (by omega) hn hst8.rd (HBY hst8.old) hB) ?hcE8
        case heE8 => go_simp
        rintro e y9 ⟨v9, rfl, v9lo, v9hi, hR9, hQ9⟩
        have hst9 := hst8.pick hQ9 hR9
        have K9 : (fun w' => w'.cell? ⟨w1.heap.size, 0, none⟩ = some (.slice ua m.n l.cap) ∧ w'.cell? ⟨w1.heap.size, 1, none⟩ = some (.slice na k nc)) y9 := ⟨hst9.box.c0, hst9.box.c1⟩
        clear hst8 hst hR8 hQ8 hR9 hQ9
        refine ⟨_, rfl, K9, ?_⟩
        simp only [List.setIfInBounds_toArray, List.set_cons_zero, List.set_cons_succ]
        refine hold_take (i := 9) (d := 53) (v := ?vE9) (listed' := #[true, true, true, true, true, true, true, true, true, true, false, false, false, false]) rfl (by kernel_rfl) (by kernel_rfl) (by kernel_rfl) rfl (by rfl) (by kernel_rfl) K9 ?hE9 ?rE9
        case hE9 =>
          intro w' hSw
          obtain ⟨k0, k1⟩ := hSw
          go_simp
          try with_reducible rfl
        simp only [List.setIfInBounds_toArray, List.set_cons_zero, List.set_cons_succ]
        refine hold_take (i := 10) (d := 54) (v := ?vE10) (listed' := #[true, true, true, true, true, true, true, true, true, true, true, false, false, false]) rfl (by kernel_rfl) (by kernel_rfl) (by kernel_rfl) rfl (by rfl) (by kernel_rfl) K9 ?hE10 ?rE10
        case hE10 =>
          intro w' hSw
          obtain ⟨k0, k1⟩ := hSw
          go_simp
          try with_reducible rfl
        simp only [List.setIfInBounds_toArray, List.set_cons_zero, List.set_cons_succ]
        refine hold_take (i := 11) (d := 55) (v := ?vE11) (listed' := #[true, true, true, true, true, true, true, true, true, true, true, true, false, false]) rfl (by kernel_rfl) (by kernel_rfl) (by kernel_rfl) rfl (by rfl) (by kernel_rfl) K9 ?hE11 ?rE11
        case hE11 =>
          intro w' hSw
          obtain ⟨k0, k1⟩ := hSw
          go_simp
          try with_reducible rfl
        simp only [List.setIfInBounds_toArray, List.set_cons_zero, List.set_cons_succ]
        have d0 := hst9.res.c0
        have d1 := hst9.res.c1
        have d2 := hst9.res.f0
        have d3 := hst9.res.f1
        have hb10 := hst9.boxPut
        have K10 : (fun w' => w'.cell? ⟨w1.heap.size, 0, none⟩ = some (.slice ua m.n l.cap) ∧ w'.cell? ⟨w1.heap.size, 1, none⟩ = some (.slice na k nc)) ((y9.setCell ⟨w.heap.size, 0, none⟩ (.slice ua m.n l.cap)).setCell ⟨w.heap.size, 1, none⟩ (.slice na k nc)) := ⟨hb10.c0, hb10.c1⟩
        refine hold_store (i := 12) (w' := ((y9.setCell ⟨w.heap.size, 0, none⟩ (.slice ua m.n l.cap)).setCell ⟨w.heap.size, 1, none⟩ (.slice na k nc))) (listed' := #[true, true, true, true, true, true, true, true, true, true, true, true, true, false]) rfl (by kernel_rfl) rfl (by rfl) (by kernel_rfl) ?hsE12 K10 ?hkE12
        case hsE12 => go_simp
        refine hold_take (i := 13) (d := 5) (v := ?vE13) (listed' := #[true, true, true, true, true, true, true, true, true, true, true, true, true, true]) rfl (by kernel_rfl) (by kernel_rfl) (by kernel_rfl) rfl (by rfl) (by kernel_rfl) K10 ?hE13 ?rE13
        case hE13 =>
          intro w' hSw
          obtain ⟨k0, k1⟩ := hSw
          go_simp
          try with_reducible rfl
        simp only [List.setIfInBounds_toArray, List.set_cons_zero, List.set_cons_succ]
        refine hold_done (by kernel_rfl) ?_ _
        generalize IntKind.i64.wrap (_ - _) = X9
        have hall := Lib.hid (hst9.putR (by omega))
        have hfin := (hst9.res.set0 (.slice ua m.n l.cap)).set1 (.slice na k nc)
        have t0 := hfin.c0
        have t1 := hfin.c1
        clear hfin hst9 hb10 d0 d1 d2 d3 K0 K8 K9 K10
        go_wp2_with fail
        exact bodyPost_ret (v := .tuple #[.agg #[.slice ua m.n l.cap, .slice na k nc], .int .i64 X9]) (by simp [results, Tryd.results66, go_sem, t0, t1]) rfl ⟨ua, l, m, na, g, o2, k, nc, zz, X9, rfl, hall.out⟩
      | true =>
        clear hlg
        go_wp2_with fail
        go_at_call 67
        refine (pick_any (q := 2) (by omega) (by omega) (by omega) hn hst.rd (HBY hst.old) hB).mono ?_
        rintro e y6 ⟨v6, rfl, v6lo, v6hi, hR6, hQ6⟩
        have hst := hst.pick hQ6 hR6
        clear c0 c1 hR6 hQ6
        have c0 := hst.box.c0
        have c1 := hst.box.c1
        by_cases h6 : v6 = 0
        · subst h6
          go_wp2_with fail
          go_at_call 119
          refine (spec_MadeBy hst.log).mono ?_
          rintro e y7 ⟨rfl, b7⟩
          generalize madeV m k zz _ = X7
          have hst := hst.below b7
          clear c0 c1 b7
          have c0 := hst.box.c0
          have c1 := hst.box.c1
          go_upto_region 8 with fail
          clear c0 c1
          have hst := hst.only (OnlyIn.refl _ _).drew
          have K0 : (fun w' => w'.cell? ⟨w1.heap.size, 0, none⟩ = some (.slice ua m.n l.cap) ∧ w'.cell? ⟨w1.heap.size, 1, none⟩ = some (.slice na k nc)) y7.drew := ⟨hst.box.c0, hst.box.c1⟩
          refine region_plain (fuel := 14) (listed := #[false, false, false, false, false, false, false, false, false, false, false, false, false, false]) (fun w' => w'.cell? ⟨w1.heap.size, 0, none⟩ = some (.slice ua m.n l.cap) ∧ w'.cell? ⟨w1.heap.size, 1, none⟩ = some (.slice na k nc)) (by kernel_rfl) (by kernel_rfl) (by kernel_rfl) ?_
          refine hold_take (i := 0) (d := 44) (v := ?vF0) (listed' := #[true, false, false, false, false, false, false, false, false, false, false, false, false, false]) rfl (by kernel_rfl) (by kernel_rfl) (by kernel_rfl) rfl (by rfl) (by kernel_rfl) K0 ?hF0 ?rF0
          case hF0 =>
            intro w' hSw
            obtain ⟨k0, k1⟩ := hSw
            go_simp
            try with_reducible rfl
          simp only [List.setIfInBounds_toArray, List.set_cons_zero, List.set_cons_succ]
          refine hold_take (i := 1) (d := 45) (v := ?vF1) (listed' := #[true, true, false, false, false, false, false, false, false, false, false, false, false, false]) rfl (by kernel_rfl) (by kernel_rfl) (by kernel_rfl) rfl (by rfl) (by kernel_rfl) K0 ?hF1 ?rF1
          case hF1 =>
            intro w' hSw
            obtain ⟨k0, k1⟩ := hSw
            go_simp
            try with_reducible rfl
          simp only [List.setIfInBounds_toArray, List.set_cons_zero, List.set_cons_succ]
          refine hold_take (i := 2) (d := 46) (v := ?vF2) (listed' := #[true, true, true, false, false, false, false, false, false, false, false, false, false, false]) rfl (by kernel_rfl) (by kernel_rfl) (by kernel_rfl) rfl (by rfl) (by kernel_rfl) K0 ?hF2 ?rF2
          case hF2 =>
            intro w' hSw
            obtain ⟨k0, k1⟩ := hSw
            go_simp
            try with_reducible rfl
          simp only [List.setIfInBounds_toArray, List.set_cons_zero, List.set_cons_succ]
          refine hold_take (i := 7) (d := 51) (v := ?vF7) (listed' := #[true, true, true, false, false, false, false, true, false, false, false, false, false, false]) rfl (by kernel_rfl) (by kernel_rfl) (by kernel_rfl) rfl (by rfl) (by kernel_rfl) K0 ?hF7 ?rF7
          case hF7 =>
            intro w' hSw
            obtain ⟨k0, k1⟩ := hSw
            go_simp
            try with_reducible rfl
          simp only [List.setIfInBounds_toArray, List.set_cons_zero, List.set_cons_succ]
          refine hold_call (i := 3) (d := 47) (listed' := #[true, true, true, true, false, false, false, true, false, false, false, false, false, false]) rfl (by kernel_rfl) rfl (by rfl) (by kernel_rfl) ?heF3 (pick_any (q := 40) (by omega) (by omega) (by omega) hn hst.rd (HBY hst.old) hB) ?hcF3
          case heF3 => go_simp
          rintro e y8 ⟨v8, rfl, v8lo, v8hi, hR8, hQ8⟩
          have hst8 := hst.pick hQ8 hR8
          have K8 : (fun w' => w'.cell? ⟨w1.heap.size, 0, none⟩ = some (.slice ua m.n l.cap) ∧ w'.cell? ⟨w1.heap.size, 1, none⟩ = some (.slice na k nc)) y8 := ⟨hst8.box.c0, hst8.box.c1⟩
          refine ⟨_, rfl, K8, ?_⟩
          simp only [List.setIfInBounds_toArray, List.set_cons_zero, List.set_cons_succ]
          refine hold_take (i := 4) (d := 48) (v := ?vF4) (listed' := #[true, true, true, true, true, false, false, true, false, false, false, false, false, false]) rfl (by kernel_rfl) (by kernel_rfl) (by kernel_rfl) rfl (by rfl) (by kernel_rfl) K8 ?hF4 ?rF4
          case hF4 =>
            intro w' hSw
            obtain ⟨k0, k1⟩ := hSw
            go_simp
            try with_reducible rfl
          simp only [List.setIfInBounds_toArray, List.set_cons_zero, List.set_cons_succ]
          refine hold_take (i := 5) (d := 49) (v := ?vF5) (listed' := #[true, true, true, true, true, true, false, true, false, false, false, false, false, false]) rfl (by kernel_rfl) (by kernel_rfl) (by kernel_rfl) rfl (by rfl) (by kernel_rfl) K8 ?hF5 ?rF5
          case hF5 =>
            intro w' hSw
            obtain ⟨k0, k1⟩ := hSw
            go_simp
            try with_reducible rfl
          simp only [List.setIfInBounds_toArray, List.set_cons_zero, List.set_cons_succ]
          refine hold_take (i := 6) (d := 50) (v := ?vF6) (listed' := #[true, true, true, true, true, true, true, true, false, false, false, false, false, false]) rfl (by kernel_rfl) (by kernel_rfl) (by kernel_rfl) rfl (by rfl) (by kernel_rfl) K8 ?hF6 ?rF6
          case hF6 =>
            intro w' hSw
            obtain ⟨k0, k1⟩ := hSw
            go_simp
            try with_reducible rfl
          simp only [List.setIfInBounds_toArray, List.set_cons_zero, List.set_cons_succ]
          refine hold_call (i := 8) (d := 52) (listed' := #[true, true, true, true, true, true, true, true, true, false, false, false, false, false]) rfl (by kernel_rfl) rfl (by rfl) (by kernel_rfl) ?heF8 (pick_any (q := 50) (by omega) (by omega) (by omega) hn hst8.rd (HBY hst8.old) hB) ?hcF8
          case heF8 => go_simp
          rintro e y9 ⟨v9, rfl, v9lo, v9hi, hR9, hQ9⟩
          have hst9 := hst8.pick hQ9 hR9
          have K9 : (fun w' => w'.cell? ⟨w1.heap.size, 0, none⟩ = some (.slice ua m.n l.cap) ∧ w'.cell? ⟨w1.heap.size, 1, none⟩ = some (.slice na k nc)) y9 := ⟨hst9.box.c0, hst9.box.c1⟩
          clear hst8 hst hR8 hQ8 hR9 hQ9
          refine ⟨_, rfl, K9, ?_⟩
          simp only [List.setIfInBounds_toArray, List.set_cons_zero, List.set_cons_succ]
          refine hold_take (i := 9) (d := 53) (v := ?vF9) (listed' := #[true, true, true, true, true, true, true, true, true, true, false, false, false, false]) rfl (by kernel_rfl) (by kernel_rfl) (by kernel_rfl) rfl (by rfl) (by kernel_rfl) K9 ?hF9 ?rF9
          case hF9 =>
            intro w' hSw
            obtain ⟨k0, k1⟩ := hSw
            go_simp
            try with_reducible rfl
          simp only [List.setIfInBounds_toArray, List.set_cons_zero, List.set_cons_succ]
          refine hold_take (i := 10) (d := 54) (v := ?vF10) (listed' := #[true, true, true, true, true, true, true, true, true, true, true, false, false, false]) rfl (by kernel_rfl) (by kernel_rfl) (by kernel_rfl) rfl (by rfl) (by kernel_rfl) K9 ?hF10 ?rF10
          case hF10 =>
            intro w' hSw
            obtain ⟨k0, k1⟩ := hSw
            go_simp
            try with_reducible rfl
          simp only [List.setIfInBounds_toArray, List.set_cons_zero, List.set_cons_succ]
          refine hold_take (i := 11) (d := 55) (v := ?vF11) (listed' := #[true, true, true, true, true, true, true, true, true, true, true, true, false, false]) rfl (by kernel_rfl) (by kernel_rfl) (by kernel_rfl) rfl (by rfl) (by kernel_rfl) K9 ?hF11 ?rF11
          case hF11 =>
            intro w' hSw
            obtain ⟨k0, k1⟩ := hSw
            go_simp
            try with_reducible rfl
          simp only [List.setIfInBounds_toArray, List.set_cons_zero, List.set_cons_succ]
          have d0 := hst9.res.c0
          have d1 := hst9.res.c1
          have d2 := hst9.res.f0
          have d3 := hst9.res.f1
          have hb10 := hst9.boxPut
          have K10 : (fun w' => w'.cell? ⟨w1.heap.size, 0, none⟩ = some (.slice ua m.n l.cap) ∧ w'.cell? ⟨w1.heap.size, 1, none⟩ = some (.slice na k nc)) ((y9.setCell ⟨w.heap.size, 0, none⟩ (.slice ua m.n l.cap)).setCell ⟨w.heap.size, 1, none⟩ (.slice na k nc)) := ⟨hb10.c0, hb10.c1⟩
          refine hold_store (i := 12) (w' := ((y9.setCell ⟨w.heap.size, 0, none⟩ (.slice ua m.n l.cap)).setCell ⟨w.heap.size, 1, none⟩ (.slice na k nc))) (listed' := #[true, true, true, true, true, true, true, true, true, true, true, true, true, false]) rfl (by kernel_rfl) rfl (by rfl) (by kernel_rfl) ?hsF12 K10 ?hkF12
          case hsF12 => go_simp
          refine hold_take (i := 13) (d := 5) (v := ?vF13) (listed' := #[true, true, true, true, true, true, true, true, true, true, true, true, true, true]) rfl (by kernel_rfl) (by kernel_rfl) (by kernel_rfl) rfl (by rfl) (by kernel_rfl) K10 ?hF13 ?rF13
          case hF13 =>
            intro w' hSw
            obtain ⟨k0, k1⟩ := hSw
            go_simp
            try with_reducible rfl
          simp only [List.setIfInBounds_toArray, List.set_cons_zero, List.set_cons_succ]
          refine hold_done (by kernel_rfl) ?_ _
          generalize IntKind.i64.wrap (_ - _) = X9
          have hall := Lib.hid (hst9.putR (by omega))
          have hfin := (hst9.res.set0 (.slice ua m.n l.cap)).set1 (.slice na k nc)
          have t0 := hfin.c0
          have t1 := hfin.c1
          clear hfin hst9 hb10 d0 d1 d2 d3 K0 K8 K9 K10
          go_wp2_with fail
          exact bodyPost_ret (v := .tuple #[.agg #[.slice ua m.n l.cap, .slice na k nc], .int .i64 X9]) (by simp [results, Tryd.results66, go_sem, t0, t1]) rfl ⟨ua, l, m, na, g, o2, k, nc, zz, X9, rfl, hall.out⟩
        · have e6 : (v6 == 0) = false := by simpa using h6
          go_upto_region 8 with fail
          clear c0 c1
          have hst := hst.only (OnlyIn.refl _ _).drew
          have K0 : (fun w' => w'.cell? ⟨w1.heap.size, 0, none⟩ = some (.slice ua m.n l.cap) ∧ w'.cell? ⟨w1.heap.size, 1, none⟩ = some (.slice na k nc)) y6.drew := ⟨hst.box.c0, hst.box.c1⟩
          refine region_plain (fuel := 14) (listed := #[false, false, false, false, false, false, false, false, false, false, false, false, false, false]) (fun w' => w'.cell? ⟨w1.heap.size, 0, none⟩ = some (.slice ua m.n l.cap) ∧ w'.cell? ⟨w1.heap.size, 1, none⟩ = some (.slice na k nc)) (by kernel_rfl) (by kernel_rfl) (by kernel_rfl) ?_
          refine hold_take (i := 0) (d := 44) (v := ?vG0) (listed' := #[true, false, false, false, false, false, false, false, false, false, false, false, false, false]) rfl (by kernel_rfl) (by kernel_rfl) (by kernel_rfl) rfl (by rfl) (by kernel_rfl) K0 ?hG0 ?rG0
          case hG0 =>
            intro w' hSw
            obtain ⟨k0, k1⟩ := hSw
            go_simp
            try with_reducible rfl
          simp only [List.setIfInBounds_toArray, List.set_cons_zero, List.set_cons_succ]
          refine hold_take (i := 1) (d := 45) (v := ?vG1) (listed' := #[true, true, false, false, false, false, false, false, false, false, false, false, false, false]) rfl (by kernel_rfl) (by kernel_rfl) (by kernel_rfl) rfl (by rfl) (by kernel_rfl) K0 ?hG1 ?rG1
          case hG1 =>
            intro w' hSw
            obtain ⟨k0, k1⟩ := hSw
            go_simp
            try with_reducible rfl
          simp only [List.setIfInBounds_toArray, List.set_cons_zero, List.set_cons_succ]
          refine hold_take (i := 2) (d := 46) (v := ?vG2) (listed' := #[true, true, true, false, false, false, false, false, false, false, false, false, false, false]) rfl (by kernel_rfl) (by kernel_rfl) (by kernel_rfl) rfl (by rfl) (by kernel_rfl) K0 ?hG2 ?rG2
          case hG2 =>
            intro w' hSw
            obtain ⟨k0, k1⟩ := hSw
            go_simp
            try with_reducible rfl
          simp only [List.setIfInBounds_toArray, List.set_cons_zero, List.set_cons_succ]
          refine hold_take (i := 7) (d := 51) (v := ?vG7) (listed' := #[true, true, true, false, false, false, false, true, false, false, false, false, false, false]) rfl (by kernel_rfl) (by kernel_rfl) (by kernel_rfl) rfl (by rfl) (by kernel_rfl) K0 ?hG7 ?rG7
          case hG7 =>
            intro w' hSw
            obtain ⟨k0, k1⟩ := hSw
            go_simp
            try with_reducible rfl
          simp only [List.setIfInBounds_toArray, List.set_cons_zero, List.set_cons_succ]
          refine hold_call (i := 3) (d := 47) (listed' := #[true, true, true, true, false, false, false, true, false, false, false, false, false, false]) rfl (by kernel_rfl) rfl (by rfl) (by kernel_rfl) ?heG3 (pick_any (q := 40) (by omega) (by omega) (by omega) hn hst.rd (HBY hst.old) hB) ?hcG3
          case heG3 => go_simp
          rintro e y8 ⟨v8, rfl, v8lo, v8hi, hR8, hQ8⟩
          have hst8 := hst.pick hQ8 hR8
          have K8 : (fun w' => w'.cell? ⟨w1.heap.size, 0, none⟩ = some (.slice ua m.n l.cap) ∧ w'.cell? ⟨w1.heap.size, 1, none⟩ = some (.slice na k nc)) y8 := ⟨hst8.box.c0, hst8.box.c1⟩
          refine ⟨_, rfl, K8, ?_⟩
          simp only [List.setIfInBounds_toArray, List.set_cons_zero, List.set_cons_succ]
          refine hold_take (i := 4) (d := 48) (v := ?vG4) (listed' := #[true, true, true, true, true, false, false, true, false, false, false, false, false, false]) rfl (by kernel_rfl) (by kernel_rfl) (by kernel_rfl) rfl (by rfl) (by kernel_rfl) K8 ?hG4 ?rG4
          case hG4 =>
            intro w' hSw
            obtain ⟨k0, k1⟩ := hSw
            go_simp
            try with_reducible rfl
          simp only [List.setIfInBounds_toArray, List.set_cons_zero, List.set_cons_succ]
          refine hold_take (i := 5) (d := 49) (v := ?vG5) (listed' := #[true, true, true, true, true, true, false, true, false, false, false, false, false, false]) rfl (by kernel_rfl) (by kernel_rfl) (by kernel_rfl) rfl (by rfl) (by kernel_rfl) K8 ?hG5 ?rG5
          case hG5 =>
            intro w' hSw
            obtain ⟨k0, k1⟩ := hSw
            go_simp
            try with_reducible rfl
          simp only [List.setIfInBounds_toArray, List.set_cons_zero, List.set_cons_succ]
          refine hold_take (i := 6) (d := 50) (v := ?vG6) (listed' := #[true, true, true, true, true, true, true, true, false, false, false, false, false, false]) rfl (by kernel_rfl) (by kernel_rfl) (by kernel_rfl) rfl (by rfl) (by kernel_rfl) K8 ?hG6 ?rG6
          case hG6 =>
            intro w' hSw
            obtain ⟨k0, k1⟩ := hSw
            go_simp
            try with_reducible rfl
          simp only [List.setIfInBounds_toArray, List.set_cons_zero, List.set_cons_succ]
          refine hold_call (i := 8) (d := 52) (listed' := #[true, true, true, true, true, true, true, true, true, false, false, false, false, false]) rfl (by kernel_rfl) rfl (by rfl) (by kernel_rfl) ?heG8 (pick_any (q := 50) (by omega) (by omega) (by omega) hn hst8.rd (HBY hst8.old) hB) ?hcG8
          case heG8 => go_simp
          rintro e y9 ⟨v9, rfl, v9lo, v9hi, hR9, hQ9⟩
          have hst9 := hst8.pick hQ9 hR9
          have K9 : (fun w' => w'.cell? ⟨w1.heap.size, 0, none⟩ = some (.slice ua m.n l.cap) ∧ w'.cell? ⟨w1.heap.size, 1, none⟩ = some (.slice na k nc)) y9 := ⟨hst9.box.c0, hst9.box.c1⟩
          clear hst8 hst hR8 hQ8 hR9 hQ9
          refine ⟨_, rfl, K9, ?_⟩
          simp only [List.setIfInBounds_toArray, List.set_cons_zero, List.set_cons_succ]
          refine hold_take (i := 9) (d := 53) (v := ?vG9) (listed' := #[true, true, true, true, true, true, true, true, true, true, false, false, false, false]) rfl (by kernel_rfl) (by kernel_rfl) (by kernel_rfl) rfl (by rfl) (by kernel_rfl) K9 ?hG9 ?rG9
          case hG9 =>
            intro w' hSw
            obtain ⟨k0, k1⟩ := hSw
            go_simp
            try with_reducible rfl
          simp only [List.setIfInBounds_toArray, List.set_cons_zero, List.set_cons_succ]
          refine hold_take (i := 10) (d := 54) (v := ?vG10) (listed' := #[true, true, true, true, true, true, true, true, true, true, true, false, false, false]) rfl (by kernel_rfl) (by kernel_rfl) (by kernel_rfl) rfl (by rfl) (by kernel_rfl) K9 ?hG10 ?rG10
          case hG10 =>
            intro w' hSw
            obtain ⟨k0, k1⟩ := hSw
            go_simp
            try with_reducible rfl
          simp only [List.setIfInBounds_toArray, List.set_cons_zero, List.set_cons_succ]
          refine hold_take (i := 11) (d := 55) (v := ?vG11) (listed' := #[true, true, true, true, true, true, true, true, true, true, true, true, false, false]) rfl (by kernel_rfl) (by kernel_rfl) (by kernel_rfl) rfl (by rfl) (by kernel_rfl) K9 ?hG11 ?rG11
          case hG11 =>
            intro w' hSw
            obtain ⟨k0, k1⟩ := hSw
            go_simp
            try with_reducible rfl
          simp only [List.setIfInBounds_toArray, List.set_cons_zero, List.set_cons_succ]
          have d0 := hst9.res.c0
          have d1 := hst9.res.c1
          have d2 := hst9.res.f0
          have d3 := hst9.res.f1
          have hb10 := hst9.boxPut
          have K10 : (fun w' => w'.cell? ⟨w1.heap.size, 0, none⟩ = some (.slice ua m.n l.cap) ∧ w'.cell? ⟨w1.heap.size, 1, none⟩ = some (.slice na k nc)) ((y9.setCell ⟨w.heap.size, 0, none⟩ (.slice ua m.n l.cap)).setCell ⟨w.heap.size, 1, none⟩ (.slice na k nc)) := ⟨hb10.c0, hb10.c1⟩
          refine hold_store (i := 12) (w' := ((y9.setCell ⟨w.heap.size, 0, none⟩ (.slice ua m.n l.cap)).setCell ⟨w.heap.size, 1, none⟩ (.slice na k nc))) (listed' := #[true, true, true, true, true, true, true, true, true, true, true, true, true, false]) rfl (by kernel_rfl) rfl (by rfl) (by kernel_rfl) ?hsG12 K10 ?hkG12
          case hsG12 => go_simp
          refine hold_take (i := 13) (d := 5) (v := ?vG13) (listed' := #[true, true, true, true, true, true, true, true, true, true, true, true, true, true]) rfl (by kernel_rfl) (by kernel_rfl) (by kernel_rfl) rfl (by rfl) (by kernel_rfl) K10 ?hG13 ?rG13
          case hG13 =>
            intro w' hSw
            obtain ⟨k0, k1⟩ := hSw
            go_simp
            try with_reducible rfl
          simp only [List.setIfInBounds_toArray, List.set_cons_zero, List.set_cons_succ]
          refine hold_done (by kernel_rfl) ?_ _
          generalize IntKind.i64.wrap (_ - _) = X9
          have hall := Lib.hid (hst9.putR (by omega))
          have hfin := (hst9.res.set0 (.slice ua m.n l.cap)).set1 (.slice na k nc)
          have t0 := hfin.c0
          have t1 := hfin.c1
          clear hfin hst9 hb10 d0 d1 d2 d3 K0 K8 K9 K10
          go_wp2_with fail
          exact bodyPost_ret (v := .tuple #[.agg #[.slice ua m.n l.cap, .slice na k nc], .int .i64 X9]) (by simp [results, Tryd.results66, go_sem, t0, t1]) rfl ⟨ua, l, m, na, g, o2, k, nc, zz, X9, rfl, hall.out⟩

theorem blocksV_hi (m : Mx) (k : Nat) (z : Nat → Int) : (blocksV m k z).length ≤ 4096 := by
  unfold blocksV
  split
  · next hl0 =>
    obtain ⟨_, _, hO9⟩ := (logicB_is hl0).ortho
    exact Nat.le_trans (listTo_len _ _) (pow_le_12 hO9.lat.order.top)
  · exact Nat.zero_le _
set_option maxRecDepth 100000 in
set_option maxHeartbeats 4000000 in
theorem draw_AgreeOk {A : Option Addr} {b o n cap : Nat} {z : Nat → Nat} {w : World} (h : CodeAt w A b o n cap z) :
    Calls Tryd.prog 23 #[.slice A n cap] w (DrewN w) := by
  have hT := TwoAt.new w (.slice none 0 0) (.slice none 0 0) 26
  have hbA := (Below.refl w.heap.size w).alloc (Nat.le_refl _) (.cells #[.slice none 0 0, .slice none 0 0] 26)
  have hc := h.alloc (.cells #[.slice none 0 0, .slice none 0 0] 26)
  go_enter Tryd.func23, Tryd.ntmps23
  go_wp2_with fail
  go_at_call 49
  refine (l20Open_any hc).mono ?_
  rintro e w1 ⟨A1, b1, o1, n1, c1, z1, rfl, hn1, hR, hz, hb, hs⟩
  have hsA : (w.alloc (.cells #[.slice none 0 0, .slice none 0 0] 26)).heap.size = w.heap.size + 1 := by simp
  have hT1 := hT.below hb (by omega)
  rw [hsA] at hR hz hs hb
  have hs' : w.heap.size + 1 < w1.heap.size := by omega
  have hbw : Below w.heap.size w w1 := hbA.trans (hb.mono (by omega))
  have HZ := Lib.hid hz
  have HBY : ∀ {wx : World}, Chg (fun j => j = w.heap.size + 1) w1 wx → BytesAt wx (w.heap.size + 1) A1 b1 o1 n1 z1 := fun hG => HZ.out.below (hG.below (by omega) (fun j hj => by have hj' : j = w.heap.size + 1 := hj; omega))
  have hbw9 := Lib.hid hbw
  clear h hc hT hs hbA hb hbw
  go_wp2_with fail
  go_at_call 66
  refine (l20SomeR_any (by omega) (by omega) hn1 hR hz (Nat.le_refl _) hs').mono ?_
  rintro e w2 ⟨ua, l, m, na, g, o2, k, nc, zz, x, rfl, hlog, hf, hg, hn, hL, hk, hC, p, hp, hR2⟩
  have hs2 := hC.size
  have hst : AgS w1 w.heap.size (w.heap.size + 1) A1 n1 c1 p w2.heap.size ua l m na g o2 k nc zz (w2.alloc (.cells #[.slice ua m.n l.cap, .slice na k nc] 26)) := by
    have hcX := Chg.alloc (fun _ => False) w2 (.cells #[.slice ua m.n l.cap, .slice na k nc] 26)
    have hlx := hlog.alloc (.cells #[.slice ua m.n l.cap, .slice na k nc] 26)
    refine ⟨hcX.two (hC.two hT1 (by show ¬ (w.heap.size = w.heap.size + 1); omega)) (fun e => e), TwoAt.new w2 (.slice ua m.n l.cap) (.slice na k nc) 26, hcX.rd hR2 (by omega) (fun e => e), hC.trans (hcX.mono fun _ e => e.elim), ⟨hlx.mat.more (by simp), ⟨fun i hi => ?_⟩, hlx.hn, hlx.hL, hlx.hk, Nat.le_refl _⟩, hf, hg, by omega, by omega, hs2, by simp, hn, hL, hk⟩
    obtain ⟨e1, e2, e3⟩ := hlx.row.row i hi
    exact ⟨e1, by simp; omega, e3⟩
  have hH := Lib.hid hn1
  clear hlog hf hg hn hL hk hC hR2 hR hz hT1 hs2 hsA
  have c0 := hst.box.c0
  have c1 := hst.box.c1
  go_wp2_with fail
  go_at_call 29
  refine (spec_BlocksOf hst.log).mono ?_
  rintro e w3 ⟨v, rfl, hv, b3⟩
  have hN := blocksV_hi m k zz
  have hst := hst.below b3
  rw [map_range] at hv
  have hgb : ∀ q, v.ownBlock = some q → w.heap.size + 1 < q := fun q hq => by
    have := ownsRow_block hv q hq
    have h9 : (w2.alloc (.cells #[.slice ua m.n l.cap, .slice na k nc] 26)).heap.size = w2.heap.size + 1 := by simp
    have := hst.hx
    have := hst.hrb
    omega
  obtain ⟨ag, gl, cl, rfl, hrow⟩ := list_row (z := fun i : Nat => (blocksV m k zz)[i]?.getD 0) hv fun i _ => rfl
  generalize (blocksV m k zz).length = N at *
  generalize (fun i : Nat => (blocksV m k zz)[i]?.getD 0) = Y at *
  clear hv b3 c0 c1
  have c0 := hst.box.c0
  have c1 := hst.box.c1
  have d0 := hst.res.c0
  have d1 := hst.res.c1
  have d2 := hst.res.f0
  have d3 := hst.res.f1
  by_cases h0 : N = 0
  · have h0' : ¬ (0 : Int) < N := by omega
    have hall := Lib.hid (hst.fresh hbw9.out)
    have hfin := (hst.res.set0 (.slice ua m.n l.cap)).set1 (.slice na k nc)
    have t0 := hfin.c0
    have t1 := hfin.c1
    clear hfin hst hrow hgb
    go_wp2_with fail
    exact bodyPost_ret (v := .tuple #[.agg #[.slice ua m.n l.cap, .slice na k nc], .int .i64 x]) (by simp [results, Tryd.results23, go_sem, t0, t1]) rfl ⟨ua, l, m, na, g, o2, k, nc, zz, x, rfl, hall.out⟩
  · have h0' : (0 : Int) < N := by omega
    obtain ⟨rfl, _, _⟩ := hrow.row 0 (by omega)
    have hgl : w.heap.size + 1 < gl := hgb gl rfl
    have Hrow := Lib.hid hrow
    clear hrow hgb h0
    go_wp2_with fail
    go_at_call 67
    refine (pick_any (q := 2) (by omega) (by omega) (by omega) hH.out hst.rd (HBY hst.old) (Nat.le_refl _)).mono ?_
    rintro e w4 ⟨v6, rfl, v6lo, v6hi, hR6, hQ6⟩
    have hst := hst.pick hQ6 hR6
    have Hrow := Lib.hid (Hrow.out.only hQ6 (show ¬ (gl = w.heap.size + 1) by omega))
    clear c0 c1 d0 d1 d2 d3 hR6 hQ6
    have c0 := hst.box.c0
    have c1 := hst.box.c1
    by_cases h6 : v6 = 0
    · subst h6
      clear v6lo v6hi
      go_wp2_with fail
      have hst := hst.below (Below.refl _ w4).drew
      have Hrow := Lib.hid (Hrow.out.below (Below.refl _ w4).drew)
      have hcl : ∀ i, i < N → w4.drew.cell? ⟨gl, i, none⟩ = some (.int .i64 (Y i)) := fun i hi => by
        have := (Hrow.out.row i hi).2.2
        rwa [Nat.zero_add] at this
      have K0 : (fun w' => (w'.cell? ⟨w2.heap.size, 0, none⟩ = some (.slice ua m.n l.cap) ∧ w'.cell? ⟨w2.heap.size, 1, none⟩ = some (.slice na k nc)) ∧ ∀ i, i < N → w'.cell? ⟨gl, i, none⟩ = some (.int .i64 (Y i))) w4.drew := ⟨⟨hst.box.c0, hst.box.c1⟩, hcl⟩
      clear c0 c1 hcl
      refine region_plain (fuel := 10) (listed := #[false, false, false, false, false, false, false, false, false, false]) (fun w' => (w'.cell? ⟨w2.heap.size, 0, none⟩ = some (.slice ua m.n l.cap) ∧ w'.cell? ⟨w2.heap.size, 1, none⟩ = some (.slice na k nc)) ∧ ∀ i, i < N → w'.cell? ⟨gl, i, none⟩ = some (.int .i64 (Y i))) (by kernel_rfl) (by kernel_rfl) (by kernel_rfl) ?_
      refine hold_take (i := 0) (d := 25) (v := ?vA0) (listed' := #[true, false, false, false, false, false, false, false, false, false]) rfl (by kernel_rfl) (by kernel_rfl) (by kernel_rfl) rfl (by rfl) (by kernel_rfl) K0 ?hA0 ?rA0
      case hA0 =>
        intro w' hSw
        obtain ⟨⟨k0, k1⟩, k2⟩ := hSw
        go_simp
        try with_reducible rfl
      simp only [List.setIfInBounds_toArray, List.set_cons_zero, List.set_cons_succ]
      refine hold_take (i := 1) (d := 26) (v := ?vA1) (listed' := #[true, true, false, false, false, false, false, false, false, false]) rfl (by kernel_rfl) (by kernel_rfl) (by kernel_rfl) rfl (by rfl) (by kernel_rfl) K0 ?hA1 ?rA1
      case hA1 =>
        intro w' hSw
        obtain ⟨⟨k0, k1⟩, k2⟩ := hSw
        go_simp
        try with_reducible rfl
      simp only [List.setIfInBounds_toArray, List.set_cons_zero, List.set_cons_succ]
      refine hold_take (i := 2) (d := 27) (v := ?vA2) (listed' := #[true, true, true, false, false, false, false, false, false, false]) rfl (by kernel_rfl) (by kernel_rfl) (by kernel_rfl) rfl (by rfl) (by kernel_rfl) K0 ?hA2 ?rA2
      case hA2 =>
        intro w' hSw
        obtain ⟨⟨k0, k1⟩, k2⟩ := hSw
        go_simp
        try with_reducible rfl
      simp only [List.setIfInBounds_toArray, List.set_cons_zero, List.set_cons_succ]
      refine hold_take (i := 3) (d := 28) (v := ?vA3) (listed' := #[true, true, true, true, false, false, false, false, false, false]) rfl (by kernel_rfl) (by kernel_rfl) (by kernel_rfl) rfl (by rfl) (by kernel_rfl) K0 ?hA3 ?rA3
      case hA3 =>
        intro w' hSw
        obtain ⟨⟨k0, k1⟩, k2⟩ := hSw
        go_simp
        try with_reducible rfl
      simp only [List.setIfInBounds_toArray, List.set_cons_zero, List.set_cons_succ]
      refine hold_take (i := 4) (d := 29) (v := ?vA4) (listed' := #[true, true, true, true, true, false, false, false, false, false]) rfl (by kernel_rfl) (by kernel_rfl) (by kernel_rfl) rfl (by rfl) (by kernel_rfl) K0 ?hA4 ?rA4
      case hA4 =>
        intro w' hSw
        obtain ⟨⟨k0, k1⟩, k2⟩ := hSw
        go_simp
        try with_reducible rfl
      simp only [List.setIfInBounds_toArray, List.set_cons_zero, List.set_cons_succ]
      refine hold_call (i := 5) (d := 30) (listed' := #[true, true, true, true, true, true, false, false, false, false]) rfl (by kernel_rfl) rfl (by rfl) (by kernel_rfl) ?heA5 (pick_any (q := (N : Int)) (by omega) (by omega) (by omega) hH.out hst.rd (HBY hst.old) (Nat.le_refl _)) ?hcA5
      case heA5 => go_simp
      rintro e y5 ⟨v5, rfl, v5lo, v5hi, hR5, hQ5⟩
      have hst5 := hst.pick hQ5 hR5
      obtain ⟨i5, rfl⟩ := Int.eq_ofNat_of_zero_le v5lo
      have i5hi : i5 < N := by omega
      have Hrow5 := Hrow.out.only hQ5 (show ¬ (gl = w.heap.size + 1) by omega)
      have hcl5 : ∀ i, i < N → y5.cell? ⟨gl, i, none⟩ = some (.int .i64 (Y i)) := fun i hi => by
        have := (Hrow5.row i hi).2.2
        rwa [Nat.zero_add] at this
      have K5 : (fun w' => (w'.cell? ⟨w2.heap.size, 0, none⟩ = some (.slice ua m.n l.cap) ∧ w'.cell? ⟨w2.heap.size, 1, none⟩ = some (.slice na k nc)) ∧ ∀ i, i < N → w'.cell? ⟨gl, i, none⟩ = some (.int .i64 (Y i))) y5 := ⟨⟨hst5.box.c0, hst5.box.c1⟩, hcl5⟩
      clear hst hR5 hQ5 Hrow Hrow5 K0
      refine ⟨_, rfl, K5, ?_⟩
      simp only [List.setIfInBounds_toArray, List.set_cons_zero, List.set_cons_succ]
      refine hold_take (i := 6) (d := 31) (v := ?vA6) (listed' := #[true, true, true, true, true, true, true, false, false, false]) rfl (by kernel_rfl) (by kernel_rfl) (by kernel_rfl) rfl (by rfl) (by kernel_rfl) K5 ?hA6 ?rA6
      case hA6 =>
        intro w' hSw
        obtain ⟨⟨k0, k1⟩, k2⟩ := hSw; have k3 := k2 i5 i5hi; clear k2
        go_simp
        try with_reducible rfl
      simp only [List.setIfInBounds_toArray, List.set_cons_zero, List.set_cons_succ]
      refine hold_take (i := 7) (d := 32) (v := ?vA7) (listed' := #[true, true, true, true, true, true, true, true, false, false]) rfl (by kernel_rfl) (by kernel_rfl) (by kernel_rfl) rfl (by rfl) (by kernel_rfl) K5 ?hA7 ?rA7
      case hA7 =>
        intro w' hSw
        obtain ⟨⟨k0, k1⟩, k2⟩ := hSw; have k3 := k2 i5 i5hi; clear k2
        go_simp
        try with_reducible rfl
      simp only [List.setIfInBounds_toArray, List.set_cons_zero, List.set_cons_succ]
      have d0 := hst5.res.c0
      have d1 := hst5.res.c1
      have d2 := hst5.res.f0
      have d3 := hst5.res.f1
      have hb9 := hst5.boxPut
      have hcl9 : ∀ i, i < N → ((y5.setCell ⟨w.heap.size, 0, none⟩ (.slice ua m.n l.cap)).setCell ⟨w.heap.size, 1, none⟩ (.slice na k nc)).cell? ⟨gl, i, none⟩ = some (.int .i64 (Y i)) := fun i hi => by
        rw [World.cell?_setCell_other _ _ _ _ (fun e => by injection e with e1; omega), World.cell?_setCell_other _ _ _ _ (fun e => by injection e with e1; omega)]; exact hcl5 i hi
      have K9 : (fun w' => (w'.cell? ⟨w2.heap.size, 0, none⟩ = some (.slice ua m.n l.cap) ∧ w'.cell? ⟨w2.heap.size, 1, none⟩ = some (.slice na k nc)) ∧ ∀ i, i < N → w'.cell? ⟨gl, i, none⟩ = some (.int .i64 (Y i))) ((y5.setCell ⟨w.heap.size, 0, none⟩ (.slice ua m.n l.cap)).setCell ⟨w.heap.size, 1, none⟩ (.slice na k nc)) := ⟨⟨hb9.c0, hb9.c1⟩, hcl9⟩
      refine hold_store (i := 8) (w' := ((y5.setCell ⟨w.heap.size, 0, none⟩ (.slice ua m.n l.cap)).setCell ⟨w.heap.size, 1, none⟩ (.slice na k nc))) (listed' := #[true, true, true, true, true, true, true, true, true, false]) rfl (by kernel_rfl) rfl (by rfl) (by kernel_rfl) ?hsA8 K9 ?hkA8
      case hsA8 => go_simp
      refine hold_take (i := 9) (d := 3) (v := ?vA9) (listed' := #[true, true, true, true, true, true, true, true, true, true]) rfl (by kernel_rfl) (by kernel_rfl) (by kernel_rfl) rfl (by rfl) (by kernel_rfl) K9 ?hA9 ?rA9
      case hA9 =>
        intro w' hSw
        obtain ⟨⟨k0, k1⟩, k2⟩ := hSw
        go_simp
        try with_reducible rfl
      simp only [List.setIfInBounds_toArray, List.set_cons_zero, List.set_cons_succ]
      refine hold_done (by kernel_rfl) ?_ _
      have hall := Lib.hid (hst5.fresh hbw9.out)
      have hfin := (hst5.res.set0 (.slice ua m.n l.cap)).set1 (.slice na k nc)
      have t0 := hfin.c0
      have t1 := hfin.c1
      clear hfin hst5 hb9 d0 d1 d2 d3 K5 K9 hcl5 hcl9
      go_wp2_with fail
      exact bodyPost_ret (v := .tuple #[.agg #[.slice ua m.n l.cap, .slice na k nc], .int .i64 (Y i5)]) (by simp [results, Tryd.results23, go_sem, t0, t1]) rfl ⟨ua, l, m, na, g, o2, k, nc, zz, Y i5, rfl, hall.out⟩
    · have e6 : (v6 == 0) = false := by simpa using h6
      have d0 := hst.res.c0
      have d1 := hst.res.c1
      have d2 := hst.res.f0
      have d3 := hst.res.f1
      have hall := Lib.hid (hst.fresh hbw9.out)
      have hfin := (hst.res.set0 (.slice ua m.n l.cap)).set1 (.slice na k nc)
      have t0 := hfin.c0
      have t1 := hfin.c1
      clear hfin hst Hrow
      go_wp2_with fail
      exact bodyPost_ret (v := .tuple #[.agg #[.slice ua m.n l.cap, .slice na k nc], .int .i64 x]) (by simp [results, Tryd.results23, go_sem, t0, t1]) rfl ⟨ua, l, m, na, g, o2, k, nc, zz, x, rfl, hall.out⟩
end Go.Proofs.YtnbglbhfclohjaaDoor
