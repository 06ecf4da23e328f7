import Derived.Test.YtmchgclaeipoeaaZDn
import Derived.Test.YtmchgclaeipoeaaZKk
namespace Go.Proofs.Ytmchgclaeipoeaa
open Go.RowKit Go.Deep

/-- The drawing of a set under way: the result's box, the logic's box, the reader, the logic itself. -/
structure SomeS (w : World) (rb : Nat) (A : Option Addr) (n c p x1 : Nat) (ua : Option Addr) (l : Lay) (m : Mx) (na : Option Addr) (g o k nc : Nat) (z : Nat → Int) (y : World) : Prop where
  res : TwoAt y w.heap.size (.slice none 0 0) (.slice none 0 0)
  box : TwoAt y x1 (.slice ua m.n l.cap) (.slice na k nc)
  rd : Rd y rb A n c p
  old : Chg (fun j => j = rb) w y
  log : LogAt y y.heap.size ua l m na g o k z
  lay : LayFrom (w.heap.size + 1) l m
  from_ : 0 < k → w.heap.size + 1 ≤ g
  hrb : rb < w.heap.size
  hx : w.heap.size < x1
  hxs : x1 < y.heap.size
  h12 : m.n ≤ 12
  hL : ∀ r, r < m.n → m.L r ≤ 12
  hk : k ≤ 12
theorem SomeS.pick {w : World} {rb : Nat} {A : Option Addr} {n c p p' x1 : Nat} {ua : Option Addr} {l : Lay} {m : Mx} {na : Option Addr} {g o k nc : Nat} {z : Nat → Int} {y y' : World} (h : SomeS w rb A n c p x1 ua l m na g o k nc z y) (ho : OnlyIn (· = rb) y y') (hr : Rd y' rb A n c p') : SomeS w rb A n c p' x1 ua l m na g o k nc z y' := by
  have hc := Chg.of_only ho
  have hs := ho.size
  have hrb := h.hrb
  have hx := h.hx
  refine ⟨hc.two h.res (by show ¬ (_ = rb); omega), hc.two h.box (by show ¬ (_ = rb); omega), hr, h.old.trans hc, ⟨(h.log.mat.only h.lay ho (fun j hj => by have hj' : j = rb := hj; omega)).more (by omega), ⟨fun i hi => ?_⟩, h.log.hn, h.log.hL, h.log.hk, Nat.le_refl _⟩, h.lay, h.from_, hrb, hx, by have := h.hxs; omega, h.h12, h.hL, h.hk⟩
  obtain ⟨e1, e2, e3⟩ := (h.log.row.only ho (fun e => by have e' : g = rb := e; have := h.from_ (by omega); omega)).row i hi
  exact ⟨e1, by omega, e3⟩
theorem SomeS.below {w : World} {rb : Nat} {A : Option Addr} {n c p x1 : Nat} {ua : Option Addr} {l : Lay} {m : Mx} {na : Option Addr} {g o k nc : Nat} {z : Nat → Int} {y y' : World} (h : SomeS w rb A n c p x1 ua l m na g o k nc z y) (hb : Below y.heap.size y y') : SomeS w rb A n c p x1 ua l m na g o k nc z y' := by
  have hc : Chg (fun _ => False) y y' := Chg.of_below hb fun j hj hB => absurd hj (by omega)
  have hs := hb.size
  have hrb := h.hrb
  have hx := h.hx
  have hl := h.log.step hb
  refine ⟨hc.two h.res (fun e => e), hc.two h.box (fun e => e), hc.rd h.rd (by have := h.hxs; omega) (fun e => e), h.old.trans (hc.mono fun _ e => e.elim), ⟨hl.mat.more hs, ⟨fun i hi => ?_⟩, hl.hn, hl.hL, hl.hk, Nat.le_refl _⟩, h.lay, h.from_, hrb, hx, by have := h.hxs; omega, h.h12, h.hL, h.hk⟩
  obtain ⟨e1, e2, e3⟩ := hl.row.row i hi
  exact ⟨e1, by omega, e3⟩
theorem SomeS.only {w : World} {rb : Nat} {A : Option Addr} {n c p x1 : Nat} {ua : Option Addr} {l : Lay} {m : Mx} {na : Option Addr} {g o k nc : Nat} {z : Nat → Int} {y y' : World} (h : SomeS w rb A n c p x1 ua l m na g o k nc z y) (ho : OnlyIn (fun _ => False) y y') : SomeS w rb A n c p x1 ua l m na g o k nc z y' :=
  h.below ((ho.below (B := y.heap.size) fun _ e => e.elim))
theorem OnlyIn.drew {S : Nat → Prop} {w w' : World} (h : OnlyIn S w w') : OnlyIn S w w'.drew := ⟨h.os, h.tape, h.output, h.size, h.block⟩
theorem SomeS.boxPut {w : World} {rb : Nat} {A : Option Addr} {n c p x1 : Nat} {ua : Option Addr} {l : Lay} {m : Mx} {na : Option Addr} {g o k nc : Nat} {z : Nat → Int} {y : World} (h : SomeS w rb A n c p x1 ua l m na g o k nc z y) : TwoAt ((y.setCell ⟨w.heap.size, 0, none⟩ (.slice ua m.n l.cap)).setCell ⟨w.heap.size, 1, none⟩ (.slice na k nc)) x1 (.slice ua m.n l.cap) (.slice na k nc) := by
  have hx := h.hx
  have hcS : Chg (fun j => j = w.heap.size) y ((y.setCell ⟨w.heap.size, 0, none⟩ (.slice ua m.n l.cap)).setCell ⟨w.heap.size, 1, none⟩ (.slice na k nc)) := (Chg.set (S := fun j => j = w.heap.size) rfl _).trans (Chg.set (S := fun j => j = w.heap.size) rfl _)
  exact hcS.two h.box (by show ¬ (_ = w.heap.size); omega)
theorem SomeS.put {w : World} {rb : Nat} {A : Option Addr} {n c p x1 : Nat} {ua : Option Addr} {l : Lay} {m : Mx} {na : Option Addr} {g o k nc : Nat} {z : Nat → Int} {y : World} (h : SomeS w rb A n c p x1 ua l m na g o k nc z y) :
    LogAt ((y.setCell ⟨w.heap.size, 0, none⟩ (.slice ua m.n l.cap)).setCell ⟨w.heap.size, 1, none⟩ (.slice na k nc)) ((y.setCell ⟨w.heap.size, 0, none⟩ (.slice ua m.n l.cap)).setCell ⟨w.heap.size, 1, none⟩ (.slice na k nc)).heap.size ua l m na g o k z ∧ LayFrom w.heap.size l m ∧ (0 < k → w.heap.size ≤ g) ∧ m.n ≤ 12 ∧ (∀ r, r < m.n → m.L r ≤ 12) ∧ k ≤ 12 ∧
      Chg (fun j => j = rb) w ((y.setCell ⟨w.heap.size, 0, none⟩ (.slice ua m.n l.cap)).setCell ⟨w.heap.size, 1, none⟩ (.slice na k nc)) := by
  have hx := h.hx
  have hcS : Chg (fun j => j = w.heap.size) y ((y.setCell ⟨w.heap.size, 0, none⟩ (.slice ua m.n l.cap)).setCell ⟨w.heap.size, 1, none⟩ (.slice na k nc)) := (Chg.set (S := fun j => j = w.heap.size) rfl _).trans (Chg.set (S := fun j => j = w.heap.size) rfl _)
  have hoS := ((OnlyIn.refl (fun x => x = w.heap.size) y).set (b := w.heap.size) rfl 0 (.slice ua m.n l.cap)).set (b := w.heap.size) rfl 1 (.slice na k nc)
  have hsS := hoS.size
  refine ⟨⟨(h.log.mat.only h.lay hoS (fun j hj => by have hj' : j = w.heap.size := hj; omega)).more (by omega), ⟨fun i hi => ?_⟩, h.log.hn, h.log.hL, h.log.hk, Nat.le_refl _⟩, ⟨fun r hr => by have := h.lay.top r hr; omega, fun r hr c hc => by have := h.lay.row r hr c hc; omega⟩, fun h0 => by have := h.from_ h0; omega, h.h12, h.hL, h.hk,
    ⟨hcS.os.trans h.old.os, hcS.tape.trans h.old.tape, hcS.output.trans h.old.output, Nat.le_trans h.old.size hcS.size, fun j hj hs => (hcS.block j (by have := h.old.size; omega) (by show ¬ (_ = w.heap.size); omega)).trans (h.old.block j hj hs)⟩⟩
  obtain ⟨e1, e2, e3⟩ := (h.log.row.only hoS (fun e => by have e' : g = w.heap.size := e; have := h.from_ (by omega); omega)).row i hi
  exact ⟨e1, by omega, e3⟩
end Go.Proofs.Ytmchgclaeipoeaa
namespace Go.Proofs.Ytmchgclaeipoeaa
open Go.RowKit Go.Deep

/-- The drawing under way: the result's box, the logic's box, the reader, the logic itself. -/
structure AgS (w1 : World) (d rb : Nat) (A : Option Addr) (n c p x1 : Nat) (ua : Option Addr) (l : Lay) (m : Mx) (na : Option Addr) (g o k nc : Nat) (z : Nat → Int) (y : World) : Prop where
  res : TwoAt y d (.slice none 0 0) (.slice none 0 0)
  box : TwoAt y x1 (.slice ua m.n l.cap) (.slice na k nc)
  rd : Rd y rb A n c p
  old : Chg (fun j => j = rb) w1 y
  log : LogAt y y.heap.size ua l m na g o k z
  lay : LayFrom w1.heap.size l m
  from_ : 0 < k → w1.heap.size ≤ g
  hd : d < rb
  hrb : rb < w1.heap.size
  hx : w1.heap.size ≤ x1
  hxs : x1 < y.heap.size
  h12 : m.n ≤ 12
  hL : ∀ r, r < m.n → m.L r ≤ 12
  hk : k ≤ 12
theorem AgS.pick {w1 : World} {d rb n c p x1 : Nat} {A : Option Addr} {ua : Option Addr} {l : Lay} {m : Mx} {na : Option Addr} {g o k nc : Nat} {z : Nat → Int} {y : World} {y' : World} {p' : Nat} (h : AgS w1 d rb A n c p x1 ua l m na g o k nc z y) (ho : OnlyIn (· = rb) y y') (hr : Rd y' rb A n c p') : AgS w1 d rb A n c p' x1 ua l m na g o k nc z y' := by
  have hc := Chg.of_only ho
  have hs := ho.size
  have hd := h.hd
  have hrb := h.hrb
  have hx := h.hx
  refine ⟨hc.two h.res (by show ¬ (_ = rb); omega), hc.two h.box (by show ¬ (_ = rb); omega), hr, h.old.trans hc, ⟨(h.log.mat.only h.lay ho (fun j hj => by have hj' : j = rb := hj; omega)).more (by omega), ⟨fun i hi => ?_⟩, h.log.hn, h.log.hL, h.log.hk, Nat.le_refl _⟩, h.lay, h.from_, hd, hrb, hx, by have := h.hxs; omega, h.h12, h.hL, h.hk⟩
  obtain ⟨e1, e2, e3⟩ := (h.log.row.only ho (fun e => by have e' : g = rb := e; have := h.from_ (by omega); omega)).row i hi
  exact ⟨e1, by omega, e3⟩
theorem AgS.below {w1 : World} {d rb n c p x1 : Nat} {A : Option Addr} {ua : Option Addr} {l : Lay} {m : Mx} {na : Option Addr} {g o k nc : Nat} {z : Nat → Int} {y : World} {y' : World} (h : AgS w1 d rb A n c p x1 ua l m na g o k nc z y) (hb : Below y.heap.size y y') : AgS w1 d rb A n c p x1 ua l m na g o k nc z y' := by
  have hc : Chg (fun _ => False) y y' := Chg.of_below hb fun j hj hB => absurd hj (by omega)
  have hs := hb.size
  have hrb := h.hrb
  have hx := h.hx
  have hl := h.log.step hb
  refine ⟨hc.two h.res (fun e => e), hc.two h.box (fun e => e), hc.rd h.rd (by have := h.hxs; omega) (fun e => e), h.old.trans (hc.mono fun _ e => e.elim), ⟨hl.mat.more hs, ⟨fun i hi => ?_⟩, hl.hn, hl.hL, hl.hk, Nat.le_refl _⟩, h.lay, h.from_, h.hd, hrb, hx, by have := h.hxs; omega, h.h12, h.hL, h.hk⟩
  obtain ⟨e1, e2, e3⟩ := hl.row.row i hi
  exact ⟨e1, by omega, e3⟩
theorem AgS.fresh {w1 : World} {rb n c p x1 : Nat} {A : Option Addr} {ua : Option Addr} {l : Lay} {m : Mx} {na : Option Addr} {g o k nc : Nat} {z : Nat → Int} {y : World} {w : World} (h : AgS w1 w.heap.size rb A n c p x1 ua l m na g o k nc z y) (hb : Below w.heap.size w w1) :
    Fresh w ua l m na g o k z ((y.setCell ⟨w.heap.size, 0, none⟩ (.slice ua m.n l.cap)).setCell ⟨w.heap.size, 1, none⟩ (.slice na k nc)) := by
  have hoS := ((OnlyIn.refl (fun x => x = w.heap.size) y).set (b := w.heap.size) rfl 0 (.slice ua m.n l.cap)).set (b := w.heap.size) rfl 1 (.slice na k nc)
  have hsS := hoS.size
  have hd := h.hd
  have hrb := h.hrb
  refine ⟨⟨(h.log.mat.only h.lay hoS (fun j hj => by have hj' : j = w.heap.size := hj; omega)).more (by omega), ⟨fun i hi => ?_⟩, h.log.hn, h.log.hL, h.log.hk, Nat.le_refl _⟩, ⟨fun r hr => by have := h.lay.top r hr; omega, fun r hr c hc => by have := h.lay.row r hr c hc; omega⟩, fun h0 => by have := h.from_ h0; omega, h.h12, h.hL, h.hk, ?_⟩
  · obtain ⟨e1, e2, e3⟩ := (h.log.row.only hoS (fun e => by have e' : g = w.heap.size := e; have := h.from_ (by omega); omega)).row i hi
    exact ⟨e1, by omega, e3⟩
  · exact (hb.trans (h.old.below (by omega) fun j hj => by have hj' : j = rb := hj; omega)).trans (hoS.below fun j hj => by have hj' : j = w.heap.size := hj; omega)
theorem AgS.boxPut {w1 : World} {d rb n c p x1 : Nat} {A : Option Addr} {ua : Option Addr} {l : Lay} {m : Mx} {na : Option Addr} {g o k nc : Nat} {z : Nat → Int} {y : World} (h : AgS w1 d rb A n c p x1 ua l m na g o k nc z y) : TwoAt ((y.setCell ⟨d, 0, none⟩ (.slice ua m.n l.cap)).setCell ⟨d, 1, none⟩ (.slice na k nc)) x1 (.slice ua m.n l.cap) (.slice na k nc) := by
  have hx := h.hx
  have hd := h.hd
  have hrb := h.hrb
  have hcS : Chg (fun j => j = d) y ((y.setCell ⟨d, 0, none⟩ (.slice ua m.n l.cap)).setCell ⟨d, 1, none⟩ (.slice na k nc)) := (Chg.set (S := fun j => j = d) rfl _).trans (Chg.set (S := fun j => j = d) rfl _)
  exact hcS.two h.box (by show ¬ (_ = d); omega)
end Go.Proofs.Ytmchgclaeipoeaa
namespace Go.Proofs.Ytmchgclaeipoeaa
open Go.RowKit Go.Deep

theorem MatAt.chg {S : Nat → Prop} {w w' : World} {B b0 : Nat} {a : Option Addr} {l : Lay} {m : Mx} (h : MatAt w B a l m) (hf : LayFrom b0 l m) (hc : Chg S w w') (hS : ∀ j, S j → j < b0) : MatAt w' B a l m :=
  ⟨fun r hr => by
    obtain ⟨e1, e2, e3⟩ := h.top r hr
    exact ⟨e1, e2, hc.at_ (p := ⟨l.b, l.o + r, none⟩) (fun hs => by have := hS _ hs; have := hf.top r hr; have : l.b < b0 := hS _ hs; omega) e3⟩,
  fun r hr c hcc => by
    obtain ⟨e1, e2, e3⟩ := h.row r hr c hcc
    exact ⟨e1, e2, hc.at_ (p := ⟨l.G r, l.O r + c, none⟩) (fun hs => by have : l.G r < b0 := hS _ hs; have := hf.row r hr c hcc; omega) e3⟩⟩
theorem AgS.chg {w1 : World} {d rb n c p x1 : Nat} {A : Option Addr} {ua : Option Addr} {l : Lay} {m : Mx} {na : Option Addr} {g o k nc : Nat} {z : Nat → Int} {y y' : World} {p' : Nat} (h : AgS w1 d rb A n c p x1 ua l m na g o k nc z y) (hc : Chg (fun j => j = rb) y y') (hr : Rd y' rb A n c p') : AgS w1 d rb A n c p' x1 ua l m na g o k nc z y' := by
  have hs := hc.size
  have hd := h.hd
  have hrb := h.hrb
  have hx := h.hx
  refine ⟨hc.two h.res (by show ¬ (_ = rb); omega), hc.two h.box (by show ¬ (_ = rb); omega), hr, h.old.trans hc, ⟨(h.log.mat.chg h.lay hc (fun j hj => by have hj' : j = rb := hj; omega)).more (by omega), ⟨fun i hi => ?_⟩, h.log.hn, h.log.hL, h.log.hk, Nat.le_refl _⟩, h.lay, h.from_, hd, hrb, hx, by have := h.hxs; omega, h.h12, h.hL, h.hk⟩
  obtain ⟨e1, e2, e3⟩ := h.log.row.row i hi
  have hg := h.from_ (by omega)
  exact ⟨e1, by omega, hc.at_ (p := ⟨g, o + i, none⟩) (by show ¬ (g = rb); omega) e3⟩
end Go.Proofs.Ytmchgclaeipoeaa
namespace Go.Proofs.Ytmchgclaeipoeaa
open Go.RowKit Go.Deep

def DrewS2 (w : World) (e : Ending) (w' : World) : Prop :=
  ∃ (ua : Option Addr) (l : Lay) (m : Mx) (na : Option Addr) (g o k nc : Nat) (z : Nat → Int) (s t : ByteArray), e = .returned (.tuple #[.agg #[.slice ua m.n l.cap, .slice na k nc], .string s, .string t]) ∧ s.size ≤ 100 ∧ t.size ≤ 100 ∧ Fresh w ua l m na g o k z w'
theorem two_app_size (s : ByteArray) : ((ByteArray.mk #[33, 33]) ++ s).size = 2 + s.size := ByteArray.size_append
set_option maxRecDepth 100000 in
set_option maxHeartbeats 4000000 in
theorem draw_SameOk {A : Option Addr} {b o n cap : Nat} {z : Nat → Nat} {w : World} (h : CodeAt w A b o n cap z) :
    Calls Try.prog 4 #[.slice A n cap] w (DrewS2 w) := by
  have hT := TwoAt.new w (.slice none 0 0) (.slice none 0 0) 26
  have hbA := (Below.refl w.heap.size w).alloc (Nat.le_refl _) (.cells #[.slice none 0 0, .slice none 0 0] 26)
  have hc := h.alloc (.cells #[.slice none 0 0, .slice none 0 0] 26)
  go_enter Try.func4, Try.ntmps4
  go_wp2_with fail
  go_at_call 11
  refine (l20Open_any hc).mono ?_
  rintro e w1 ⟨A1, b1, o1, n1, c1, z1, rfl, hn1, hR, hz, hb, hs⟩
  have hsA : (w.alloc (.cells #[.slice none 0 0, .slice none 0 0] 26)).heap.size = w.heap.size + 1 := by simp
  have hT1 := hT.below hb (by omega)
  rw [hsA] at hR hz hs hb
  have hs' : w.heap.size + 1 < w1.heap.size := by omega
  have hbw : Below w.heap.size w w1 := hbA.trans (hb.mono (by omega))
  have HZ := Lib.hid hz
  have HBY : ∀ {wx : World}, Chg (fun j => j = w.heap.size + 1) w1 wx → BytesAt wx (w.heap.size + 1) A1 b1 o1 n1 z1 := fun hG => HZ.out.below (hG.below (by omega) (fun j hj => by have hj' : j = w.heap.size + 1 := hj; omega))
  have hbw9 := Lib.hid hbw
  clear h hc hT hs hbA hb hbw
  go_wp2_with fail
  go_at_call 12
  refine (l20Logic_any (by omega) (by omega) (by omega) hn1 hR hz (Nat.le_refl _) hs').mono ?_
  rintro e w2 ⟨ua, l, m, na, g, o2, k, nc, zz, p, rfl, hlog, hf, hg, hn, hL, hk, hR2, hp, hC⟩
  have hs2 := hC.size
  have hst : AgS w1 w.heap.size (w.heap.size + 1) A1 n1 c1 p w2.heap.size ua l m na g o2 k nc zz (w2.alloc (.cells #[.slice ua m.n l.cap, .slice na k nc] 26)) := by
    have hcX := Chg.alloc (fun _ => False) w2 (.cells #[.slice ua m.n l.cap, .slice na k nc] 26)
    have hlx := hlog.alloc (.cells #[.slice ua m.n l.cap, .slice na k nc] 26)
    refine ⟨hcX.two (hC.two hT1 (by show ¬ (w.heap.size = w.heap.size + 1); omega)) (fun e => e), TwoAt.new w2 (.slice ua m.n l.cap) (.slice na k nc) 26, hcX.rd hR2 (by omega) (fun e => e), hC.trans (hcX.mono fun _ e => e.elim), ⟨hlx.mat.more (by simp), ⟨fun i hi => ?_⟩, hlx.hn, hlx.hL, hlx.hk, Nat.le_refl _⟩, hf, hg, by omega, by omega, hs2, by simp, hn, hL, hk⟩
    obtain ⟨e1, e2, e3⟩ := hlx.row.row i hi
    exact ⟨e1, by simp; omega, e3⟩
  have hH := Lib.hid hn1
  clear hlog hf hg hn hL hk hC hR2 hR hz hT1 hs2 hsA
  have c0 := hst.box.c0
  have c1 := hst.box.c1
  go_wp2_with fail
  generalize w2.alloc (.cells #[.slice ua m.n l.cap, .slice na k nc] 26) = W at hst c0 c1 ⊢
  have hrbd : w.heap.size + 1 < W.heap.size := by have := hst.hx; have := hst.hxs; have := hst.hrb; omega
  go_at_call 13
  refine (formed_any (q := 14) (by omega) (by omega) (by omega) hH.out hst.rd (HBY hst.old) (Nat.le_refl _) hrbd).mono ?_
  rintro e w3 ⟨s, p2, rfl, hs60, hR3, hp2, hC3⟩
  have hst := hst.chg hC3 hR3
  clear c0 c1 hR3 hC3 hrbd
  have c0 := hst.box.c0
  have c1 := hst.box.c1
  go_wp2_with fail
  go_at_call 14
  refine (pick_any (q := 4) (by omega) (by omega) (by omega) hH.out hst.rd (HBY hst.old) (Nat.le_refl _)).mono ?_
  rintro e w4 ⟨v4, rfl, v40, v41, hR4, hO4⟩
  have hst := hst.pick hO4 hR4
  clear c0 c1 hR4 hO4
  rcases (by omega : v4 = 0 ∨ v4 = 1 ∨ v4 = 2 ∨ v4 = 3) with rfl | rfl | rfl | rfl
  ·
    have d0 := hst.res.c0
    have d1 := hst.res.c1
    have d2 := hst.res.f0
    have d3 := hst.res.f1
    have hfin := (hst.res.set0 (.slice ua m.n l.cap)).set1 (.slice na k nc)
    have t0 := hfin.c0
    have t1 := hfin.c1
    have hall := Lib.hid (hst.fresh hbw9.out)
    have c0 := hst.box.c0
    have c1 := hst.box.c1
    clear hst hfin
    go_wp2_with fail
    exact bodyPost_ret (v := .tuple #[.agg #[.slice ua m.n l.cap, .slice na k nc], .string ⟨#[40, 97, 124, 40, 33, 97, 38, 40, 97, 124, 98, 41, 41, 41]⟩, .string ⟨#[40, 97, 124, 98, 41]⟩]) (by simp [results, Try.results4, go_sem, t0, t1]) rfl ⟨ua, l, m, na, g, o2, k, nc, zz, _, _, rfl, by decide, by decide, hall.out⟩
  ·
    have d0 := hst.res.c0
    have d1 := hst.res.c1
    have d2 := hst.res.f0
    have d3 := hst.res.f1
    have hfin := (hst.res.set0 (.slice ua m.n l.cap)).set1 (.slice na k nc)
    have t0 := hfin.c0
    have t1 := hfin.c1
    have hall := Lib.hid (hst.fresh hbw9.out)
    have c0 := hst.box.c0
    have c1 := hst.box.c1
    clear hst hfin
    go_wp2_with fail
    exact bodyPost_ret (v := .tuple #[.agg #[.slice ua m.n l.cap, .slice na k nc], .string ⟨#[40, 97, 38, 40, 98, 124, 99, 41, 41]⟩, .string ⟨#[40, 40, 97, 38, 98, 41, 124, 40, 97, 38, 99, 41, 41]⟩]) (by simp [results, Try.results4, go_sem, t0, t1]) rfl ⟨ua, l, m, na, g, o2, k, nc, zz, _, _, rfl, by decide, by decide, hall.out⟩
  ·
    have d0 := hst.res.c0
    have d1 := hst.res.c1
    have d2 := hst.res.f0
    have d3 := hst.res.f1
    have hfin := (hst.res.set0 (.slice ua m.n l.cap)).set1 (.slice na k nc)
    have t0 := hfin.c0
    have t1 := hfin.c1
    have hall := Lib.hid (hst.fresh hbw9.out)
    have c0 := hst.box.c0
    have c1 := hst.box.c1
    clear hst hfin
    have hts := two_app_size s
    have hle : ((ByteArray.mk #[33, 33]) ++ s).size ≤ 100 := by omega
    clear hts
    go_wp2_with fail
    exact bodyPost_ret (v := .tuple #[.agg #[.slice ua m.n l.cap, .slice na k nc], .string s, .string ((ByteArray.mk #[33, 33]) ++ s)]) (by simp [results, Try.results4, go_sem, t0, t1]) rfl ⟨ua, l, m, na, g, o2, k, nc, zz, _, _, rfl, by omega, hle, hall.out⟩
  · have c0 := hst.box.c0
    have c1 := hst.box.c1
    go_wp2_with fail
    have hst := hst.below (Below.refl _ w4).drew
    have hrbd : w.heap.size + 1 < w4.drew.heap.size := by have := hst.hx; have := hst.hxs; have := hst.hrb; omega
    have K0 : (fun w' => w'.cell? ⟨w2.heap.size, 0, none⟩ = some (.slice ua m.n l.cap) ∧ w'.cell? ⟨w2.heap.size, 1, none⟩ = some (.slice na k nc)) w4.drew := ⟨hst.box.c0, hst.box.c1⟩
    clear c0 c1
    refine region_plain (fuel := 7) (listed := #[false, false, false, false, false, false, false]) (fun w' => w'.cell? ⟨w2.heap.size, 0, none⟩ = some (.slice ua m.n l.cap) ∧ w'.cell? ⟨w2.heap.size, 1, none⟩ = some (.slice na k nc)) (by kernel_rfl) (by kernel_rfl) (by kernel_rfl) ?_
    refine hold_take (i := 0) (d := 28) (v := ?vV0) (listed' := #[true, false, false, false, false, false, false]) rfl (by kernel_rfl) (by kernel_rfl) (by kernel_rfl) rfl (by rfl) (by kernel_rfl) K0 ?hV0 ?rV0
    case hV0 =>
      intro w' hSw
      obtain ⟨k0, k1⟩ := hSw
      go_simp
      try with_reducible rfl
    simp only [List.setIfInBounds_toArray, List.set_cons_zero, List.set_cons_succ]
    refine hold_take (i := 1) (d := 29) (v := ?vV1) (listed' := #[true, true, false, false, false, false, false]) rfl (by kernel_rfl) (by kernel_rfl) (by kernel_rfl) rfl (by rfl) (by kernel_rfl) K0 ?hV1 ?rV1
    case hV1 =>
      intro w' hSw
      obtain ⟨k0, k1⟩ := hSw
      go_simp
      try with_reducible rfl
    simp only [List.setIfInBounds_toArray, List.set_cons_zero, List.set_cons_succ]
    refine hold_take (i := 2) (d := 30) (v := ?vV2) (listed' := #[true, true, true, false, false, false, false]) rfl (by kernel_rfl) (by kernel_rfl) (by kernel_rfl) rfl (by rfl) (by kernel_rfl) K0 ?hV2 ?rV2
    case hV2 =>
      intro w' hSw
      obtain ⟨k0, k1⟩ := hSw
      go_simp
      try with_reducible rfl
    simp only [List.setIfInBounds_toArray, List.set_cons_zero, List.set_cons_succ]
    refine hold_call (i := 3) (d := 31) (listed' := #[true, true, true, true, false, false, false]) rfl (by kernel_rfl) rfl (by rfl) (by kernel_rfl) ?heV3 (formed_any (q := 14) (by omega) (by omega) (by omega) hH.out hst.rd (HBY hst.old) (Nat.le_refl _) hrbd) ?hcV3
    case heV3 => go_simp
    rintro e y1 ⟨s2, p3, rfl, hs260, hR5, hp3, hC5⟩
    have hst1 := hst.chg hC5 hR5
    have K1 : (fun w' => w'.cell? ⟨w2.heap.size, 0, none⟩ = some (.slice ua m.n l.cap) ∧ w'.cell? ⟨w2.heap.size, 1, none⟩ = some (.slice na k nc)) y1 := ⟨hst1.box.c0, hst1.box.c1⟩
    clear hst hR5 hC5 K0
    refine ⟨_, rfl, K1, ?_⟩
    simp only [List.setIfInBounds_toArray, List.set_cons_zero, List.set_cons_succ]
    have d0 := hst1.res.c0
    have d1 := hst1.res.c1
    have d2 := hst1.res.f0
    have d3 := hst1.res.f1
    have K2 : (fun w' => w'.cell? ⟨w2.heap.size, 0, none⟩ = some (.slice ua m.n l.cap) ∧ w'.cell? ⟨w2.heap.size, 1, none⟩ = some (.slice na k nc)) ((y1.setCell ⟨w.heap.size, 0, none⟩ (.slice ua m.n l.cap)).setCell ⟨w.heap.size, 1, none⟩ (.slice na k nc)) := ⟨hst1.boxPut.c0, hst1.boxPut.c1⟩
    refine hold_store (i := 4) (w' := ((y1.setCell ⟨w.heap.size, 0, none⟩ (.slice ua m.n l.cap)).setCell ⟨w.heap.size, 1, none⟩ (.slice na k nc))) (listed' := #[true, true, true, true, true, false, false]) rfl (by kernel_rfl) rfl (by rfl) (by kernel_rfl) ?hsV4 K2 ?hkV4
    case hsV4 => go_simp
    refine hold_take (i := 5) (d := 3) (v := ?vV5) (listed' := #[true, true, true, true, true, true, false]) rfl (by kernel_rfl) (by kernel_rfl) (by kernel_rfl) rfl (by rfl) (by kernel_rfl) K2 ?hV5 ?rV5
    case hV5 =>
      intro w' hSw
      obtain ⟨k0, k1⟩ := hSw
      go_simp
      try with_reducible rfl
    simp only [List.setIfInBounds_toArray, List.set_cons_zero, List.set_cons_succ]
    refine hold_take (i := 6) (d := 4) (v := ?vV6) (listed' := #[true, true, true, true, true, true, true]) rfl (by kernel_rfl) (by kernel_rfl) (by kernel_rfl) rfl (by rfl) (by kernel_rfl) K2 ?hV6 ?rV6
    case hV6 =>
      intro w' hSw
      obtain ⟨k0, k1⟩ := hSw
      go_simp
      try with_reducible rfl
    simp only [List.setIfInBounds_toArray, List.set_cons_zero, List.set_cons_succ]
    refine hold_done (by kernel_rfl) ?_ _
    have hfin := (hst1.res.set0 (.slice ua m.n l.cap)).set1 (.slice na k nc)
    have t0 := hfin.c0
    have t1 := hfin.c1
    have hall := Lib.hid (hst1.fresh hbw9.out)
    clear hst1 hfin d0 d1 d2 d3
    go_wp2_with fail
    exact bodyPost_ret (v := .tuple #[.agg #[.slice ua m.n l.cap, .slice na k nc], .string s, .string s2]) (by simp [results, Try.results4, go_sem, t0, t1]) rfl ⟨ua, l, m, na, g, o2, k, nc, zz, _, _, rfl, by omega, by omega, hall.out⟩
end Go.Proofs.Ytmchgclaeipoeaa
