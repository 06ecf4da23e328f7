import Derived.Test.YtnbglbhfclohjaaZDn
import Derived.Test.YtnbglbhfclohjaaZWv
import Derived.Test.YtnbglbhfclohjaaZDa
import Derived.Test.YtnbglbhfclohjaaZWc
import Derived.Test.YtnbglbhfclohjaaZOa
import Derived.Test.YtnbglbhfclohjaaZMath
import Derived.Test.YtnbglbhfclohjaaZCk
namespace Go.Proofs.Ytnbglbhfclohjaa
open Go.RowKit Go.Deep

/-- The drawing of a set under way: the result's box, the logic's box, the reader, the logic itself. -/
structure SomeS (w : World) (rb : Nat) (A : Option Addr) (n c p x1 : Nat) (ua : Option Addr) (l : Lay) (m : Mx) (na : Option Addr) (g o k nc : Nat) (z : Nat → Int) (y : World) : Prop where
  res : TwoAt y w.heap.size (.slice none 0 0) (.slice none 0 0)
  box : TwoAt y x1 (.slice ua m.n l.cap) (.slice na k nc)
  rd : Rd y rb A n c p
  old : Chg (fun j => j = rb) w y
  log : LogAt y y.heap.size ua l m na g o k z
  lay : LayFrom (w.heap.size + 1) l m
  from_ : 0 < k → w.heap.size + 1 ≤ g
  hrb : rb < w.heap.size
  hx : w.heap.size < x1
  hxs : x1 < y.heap.size
  h12 : m.n ≤ 12
  hL : ∀ r, r < m.n → m.L r ≤ 12
  hk : k ≤ 12
theorem SomeS.pick {w : World} {rb : Nat} {A : Option Addr} {n c p p' x1 : Nat} {ua : Option Addr} {l : Lay} {m : Mx} {na : Option Addr} {g o k nc : Nat} {z : Nat → Int} {y y' : World} (h : SomeS w rb A n c p x1 ua l m na g o k nc z y) (ho : OnlyIn (· = rb) y y') (hr : Rd y' rb A n c p') : SomeS w rb A n c p' x1 ua l m na g o k nc z y' := by
  have hc := Chg.of_only ho
  have hs := ho.size
  have hrb := h.hrb
  have hx := h.hx
  refine ⟨hc.two h.res (by show ¬ (_ = rb); omega), hc.two h.box (by show ¬ (_ = rb); omega), hr, h.old.trans hc, ⟨(h.log.mat.only h.lay ho (fun j hj => by have hj' : j = rb := hj; omega)).more (by omega), ⟨fun i hi => ?_⟩, h.log.hn, h.log.hL, h.log.hk, Nat.le_refl _⟩, h.lay, h.from_, hrb, hx, by have := h.hxs; omega, h.h12, h.hL, h.hk⟩
  obtain ⟨e1, e2, e3⟩ := (h.log.row.only ho (fun e => by have e' : g = rb := e; have := h.from_ (by omega); omega)).row i hi
  exact ⟨e1, by omega, e3⟩
theorem SomeS.below {w : World} {rb : Nat} {A : Option Addr} {n c p x1 : Nat} {ua : Option Addr} {l : Lay} {m : Mx} {na : Option Addr} {g o k nc : Nat} {z : Nat → Int} {y y' : World} (h : SomeS w rb A n c p x1 ua l m na g o k nc z y) (hb : Below y.heap.size y y') : SomeS w rb A n c p x1 ua l m na g o k nc z y' := by
  have hc : Chg (fun _ => False) y y' := Chg.of_below hb fun j hj hB => absurd hj (by omega)
  have hs := hb.size
  have hrb := h.hrb
  have hx := h.hx
  have hl := h.log.step hb
  refine ⟨hc.two h.res (fun e => e), hc.two h.box (fun e => e), hc.rd h.rd (by have := h.hxs; omega) (fun e => e), h.old.trans (hc.mono fun _ e => e.elim), ⟨hl.mat.more hs, ⟨fun i hi => ?_⟩, hl.hn, hl.hL, hl.hk, Nat.le_refl _⟩, h.lay, h.from_, hrb, hx, by have := h.hxs; omega, h.h12, h.hL, h.hk⟩
  obtain ⟨e1, e2, e3⟩ := hl.row.row i hi
  exact ⟨e1, by omega, e3⟩
theorem SomeS.only {w : World} {rb : Nat} {A : Option Addr} {n c p x1 : Nat} {ua : Option Addr} {l : Lay} {m : Mx} {na : Option Addr} {g o k nc : Nat} {z : Nat → Int} {y y' : World} (h : SomeS w rb A n c p x1 ua l m na g o k nc z y) (ho : OnlyIn (fun _ => False) y y') : SomeS w rb A n c p x1 ua l m na g o k nc z y' :=
  h.below ((ho.below (B := y.heap.size) fun _ e => e.elim))
theorem OnlyIn.drew {S : Nat → Prop} {w w' : World} (h : OnlyIn S w w') : OnlyIn S w w'.drew := ⟨h.os, h.tape, h.output, h.size, h.block⟩
theorem SomeS.boxPut {w : World} {rb : Nat} {A : Option Addr} {n c p x1 : Nat} {ua : Option Addr} {l : Lay} {m : Mx} {na : Option Addr} {g o k nc : Nat} {z : Nat → Int} {y : World} (h : SomeS w rb A n c p x1 ua l m na g o k nc z y) : TwoAt ((y.setCell ⟨w.heap.size, 0, none⟩ (.slice ua m.n l.cap)).setCell ⟨w.heap.size, 1, none⟩ (.slice na k nc)) x1 (.slice ua m.n l.cap) (.slice na k nc) := by
  have hx := h.hx
  have hcS : Chg (fun j => j = w.heap.size) y ((y.setCell ⟨w.heap.size, 0, none⟩ (.slice ua m.n l.cap)).setCell ⟨w.heap.size, 1, none⟩ (.slice na k nc)) := (Chg.set (S := fun j => j = w.heap.size) rfl _).trans (Chg.set (S := fun j => j = w.heap.size) rfl _)
  exact hcS.two h.box (by show ¬ (_ = w.heap.size); omega)
theorem SomeS.put {w : World} {rb : Nat} {A : Option Addr} {n c p x1 : Nat} {ua : Option Addr} {l : Lay} {m : Mx} {na : Option Addr} {g o k nc : Nat} {z : Nat → Int} {y : World} (h : SomeS w rb A n c p x1 ua l m na g o k nc z y) :
    LogAt ((y.setCell ⟨w.heap.size, 0, none⟩ (.slice ua m.n l.cap)).setCell ⟨w.heap.size, 1, none⟩ (.slice na k nc)) ((y.setCell ⟨w.heap.size, 0, none⟩ (.slice ua m.n l.cap)).setCell ⟨w.heap.size, 1, none⟩ (.slice na k nc)).heap.size ua l m na g o k z ∧ LayFrom w.heap.size l m ∧ (0 < k → w.heap.size ≤ g) ∧ m.n ≤ 12 ∧ (∀ r, r < m.n → m.L r ≤ 12) ∧ k ≤ 12 ∧
      Chg (fun j => j = rb) w ((y.setCell ⟨w.heap.size, 0, none⟩ (.slice ua m.n l.cap)).setCell ⟨w.heap.size, 1, none⟩ (.slice na k nc)) := by
  have hx := h.hx
  have hcS : Chg (fun j => j = w.heap.size) y ((y.setCell ⟨w.heap.size, 0, none⟩ (.slice ua m.n l.cap)).setCell ⟨w.heap.size, 1, none⟩ (.slice na k nc)) := (Chg.set (S := fun j => j = w.heap.size) rfl _).trans (Chg.set (S := fun j => j = w.heap.size) rfl _)
  have hoS := ((OnlyIn.refl (fun x => x = w.heap.size) y).set (b := w.heap.size) rfl 0 (.slice ua m.n l.cap)).set (b := w.heap.size) rfl 1 (.slice na k nc)
  have hsS := hoS.size
  refine ⟨⟨(h.log.mat.only h.lay hoS (fun j hj => by have hj' : j = w.heap.size := hj; omega)).more (by omega), ⟨fun i hi => ?_⟩, h.log.hn, h.log.hL, h.log.hk, Nat.le_refl _⟩, ⟨fun r hr => by have := h.lay.top r hr; omega, fun r hr c hc => by have := h.lay.row r hr c hc; omega⟩, fun h0 => by have := h.from_ h0; omega, h.h12, h.hL, h.hk,
    ⟨hcS.os.trans h.old.os, hcS.tape.trans h.old.tape, hcS.output.trans h.old.output, Nat.le_trans h.old.size hcS.size, fun j hj hs => (hcS.block j (by have := h.old.size; omega) (by show ¬ (_ = w.heap.size); omega)).trans (h.old.block j hj hs)⟩⟩
  obtain ⟨e1, e2, e3⟩ := (h.log.row.only hoS (fun e => by have e' : g = w.heap.size := e; have := h.from_ (by omega); omega)).row i hi
  exact ⟨e1, by omega, e3⟩
end Go.Proofs.Ytnbglbhfclohjaa
namespace Go.Proofs.Ytnbglbhfclohjaa
open Go.RowKit Go.Deep

/-- The drawing under way: the result's box, the logic's box, the reader, the logic itself. -/
structure AgS (w1 : World) (d rb : Nat) (A : Option Addr) (n c p x1 : Nat) (ua : Option Addr) (l : Lay) (m : Mx) (na : Option Addr) (g o k nc : Nat) (z : Nat → Int) (y : World) : Prop where
  res : TwoAt y d (.slice none 0 0) (.slice none 0 0)
  box : TwoAt y x1 (.slice ua m.n l.cap) (.slice na k nc)
  rd : Rd y rb A n c p
  old : Chg (fun j => j = rb) w1 y
  log : LogAt y y.heap.size ua l m na g o k z
  lay : LayFrom w1.heap.size l m
  from_ : 0 < k → w1.heap.size ≤ g
  hd : d < rb
  hrb : rb < w1.heap.size
  hx : w1.heap.size ≤ x1
  hxs : x1 < y.heap.size
  h12 : m.n ≤ 12
  hL : ∀ r, r < m.n → m.L r ≤ 12
  hk : k ≤ 12
theorem AgS.pick {w1 : World} {d rb n c p x1 : Nat} {A : Option Addr} {ua : Option Addr} {l : Lay} {m : Mx} {na : Option Addr} {g o k nc : Nat} {z : Nat → Int} {y : World} {y' : World} {p' : Nat} (h : AgS w1 d rb A n c p x1 ua l m na g o k nc z y) (ho : OnlyIn (· = rb) y y') (hr : Rd y' rb A n c p') : AgS w1 d rb A n c p' x1 ua l m na g o k nc z y' := by
  have hc := Chg.of_only ho
  have hs := ho.size
  have hd := h.hd
  have hrb := h.hrb
  have hx := h.hx
  refine ⟨hc.two h.res (by show ¬ (_ = rb); omega), hc.two h.box (by show ¬ (_ = rb); omega), hr, h.old.trans hc, ⟨(h.log.mat.only h.lay ho (fun j hj => by have hj' : j = rb := hj; omega)).more (by omega), ⟨fun i hi => ?_⟩, h.log.hn, h.log.hL, h.log.hk, Nat.le_refl _⟩, h.lay, h.from_, hd, hrb, hx, by have := h.hxs; omega, h.h12, h.hL, h.hk⟩
  obtain ⟨e1, e2, e3⟩ := (h.log.row.only ho (fun e => by have e' : g = rb := e; have := h.from_ (by omega); omega)).row i hi
  exact ⟨e1, by omega, e3⟩
theorem AgS.below {w1 : World} {d rb n c p x1 : Nat} {A : Option Addr} {ua : Option Addr} {l : Lay} {m : Mx} {na : Option Addr} {g o k nc : Nat} {z : Nat → Int} {y : World} {y' : World} (h : AgS w1 d rb A n c p x1 ua l m na g o k nc z y) (hb : Below y.heap.size y y') : AgS w1 d rb A n c p x1 ua l m na g o k nc z y' := by
  have hc : Chg (fun _ => False) y y' := Chg.of_below hb fun j hj hB => absurd hj (by omega)
  have hs := hb.size
  have hrb := h.hrb
  have hx := h.hx
  have hl := h.log.step hb
  refine ⟨hc.two h.res (fun e => e), hc.two h.box (fun e => e), hc.rd h.rd (by have := h.hxs; omega) (fun e => e), h.old.trans (hc.mono fun _ e => e.elim), ⟨hl.mat.more hs, ⟨fun i hi => ?_⟩, hl.hn, hl.hL, hl.hk, Nat.le_refl _⟩, h.lay, h.from_, h.hd, hrb, hx, by have := h.hxs; omega, h.h12, h.hL, h.hk⟩
  obtain ⟨e1, e2, e3⟩ := hl.row.row i hi
  exact ⟨e1, by omega, e3⟩
theorem AgS.fresh {w1 : World} {rb n c p x1 : Nat} {A : Option Addr} {ua : Option Addr} {l : Lay} {m : Mx} {na : Option Addr} {g o k nc : Nat} {z : Nat → Int} {y : World} {w : World} (h : AgS w1 w.heap.size rb A n c p x1 ua l m na g o k nc z y) (hb : Below w.heap.size w w1) :
    Fresh w ua l m na g o k z ((y.setCell ⟨w.heap.size, 0, none⟩ (.slice ua m.n l.cap)).setCell ⟨w.heap.size, 1, none⟩ (.slice na k nc)) := by
  have hoS := ((OnlyIn.refl (fun x => x = w.heap.size) y).set (b := w.heap.size) rfl 0 (.slice ua m.n l.cap)).set (b := w.heap.size) rfl 1 (.slice na k nc)
  have hsS := hoS.size
  have hd := h.hd
  have hrb := h.hrb
  refine ⟨⟨(h.log.mat.only h.lay hoS (fun j hj => by have hj' : j = w.heap.size := hj; omega)).more (by omega), ⟨fun i hi => ?_⟩, h.log.hn, h.log.hL, h.log.hk, Nat.le_refl _⟩, ⟨fun r hr => by have := h.lay.top r hr; omega, fun r hr c hc => by have := h.lay.row r hr c hc; omega⟩, fun h0 => by have := h.from_ h0; omega, h.h12, h.hL, h.hk, ?_⟩
  · obtain ⟨e1, e2, e3⟩ := (h.log.row.only hoS (fun e => by have e' : g = w.heap.size := e; have := h.from_ (by omega); omega)).row i hi
    exact ⟨e1, by omega, e3⟩
  · exact (hb.trans (h.old.below (by omega) fun j hj => by have hj' : j = rb := hj; omega)).trans (hoS.below fun j hj => by have hj' : j = w.heap.size := hj; omega)
theorem AgS.boxPut {w1 : World} {d rb n c p x1 : Nat} {A : Option Addr} {ua : Option Addr} {l : Lay} {m : Mx} {na : Option Addr} {g o k nc : Nat} {z : Nat → Int} {y : World} (h : AgS w1 d rb A n c p x1 ua l m na g o k nc z y) : TwoAt ((y.setCell ⟨d, 0, none⟩ (.slice ua m.n l.cap)).setCell ⟨d, 1, none⟩ (.slice na k nc)) x1 (.slice ua m.n l.cap) (.slice na k nc) := by
  have hx := h.hx
  have hd := h.hd
  have hrb := h.hrb
  have hcS : Chg (fun j => j = d) y ((y.setCell ⟨d, 0, none⟩ (.slice ua m.n l.cap)).setCell ⟨d, 1, none⟩ (.slice na k nc)) := (Chg.set (S := fun j => j = d) rfl _).trans (Chg.set (S := fun j => j = d) rfl _)
  exact hcS.two h.box (by show ¬ (_ = d); omega)
end Go.Proofs.Ytnbglbhfclohjaa
namespace Go.Proofs.Ytnbglbhfclohjaa
open Go.RowKit Go.Deep

/-- Rows that read as others, entry by entry, where both have the same lengths. -/
theorem MatAt.as {w : World} {B : Nat} {a : Option Addr} {l : Lay} {m m' : Mx} (h : MatAt w B a l m) (hn : m'.n = m.n) (hL : ∀ r, r < m.n → m'.L r = m.L r) (hZ : ∀ r, r < m.n → ∀ c, c < m.L r → m'.Z r c = m.Z r c) : MatAt w B a l m' :=
  ⟨fun r hr => by
    have hr' : r < m.n := by omega
    rw [hL r hr']
    exact h.top r hr', fun r hr c hc => by
    have hr' : r < m.n := by omega
    rw [hL r hr'] at hc
    rw [hZ r hr' c hc]
    exact h.row r hr' c hc⟩
end Go.Proofs.Ytnbglbhfclohjaa
namespace Go.Proofs.Ytnbglbhfclohjaa
open Go.RowKit Go.Deep

def oneM (x : Int) : Mx := ⟨1, fun _ => 1, fun _ _ => x⟩
def oneLay (N : Nat) : Lay := ⟨N + 1, 0, 1, fun _ => some ⟨N, 0, none⟩, fun _ => 1, fun _ => N, fun _ => 0⟩
theorem one_at (w : World) (x : Int) : MatAt ((w.alloc (.cells #[.int .i64 x] 3)).alloc (.cells #[.slice (some ⟨w.heap.size, 0, none⟩) 1 1] 24)) (w.heap.size + 2) (some ⟨w.heap.size + 1, 0, none⟩) (oneLay w.heap.size) (oneM x) := by
  have b0 := (Boxed.new w 3 (.int .i64 x)).alloc (.cells #[.slice (some ⟨w.heap.size, 0, none⟩) 1 1] 24)
  have b1 := Boxed.new (w.alloc (.cells #[.int .i64 x] 3)) 24 (.slice (some ⟨w.heap.size, 0, none⟩) 1 1)
  rw [World.size_alloc] at b1
  refine ⟨fun r hr => ?_, fun r hr c hc => ?_⟩
  · have hr' : r < 1 := hr
    obtain rfl : r = 0 := by omega
    exact ⟨rfl, by show w.heap.size + 1 < _; omega, b1.cell⟩
  · have hc' : c < 1 := hc
    obtain rfl : c = 0 := by omega
    exact ⟨rfl, by show w.heap.size < _; omega, b0.cell⟩
theorem one_order : orderB (oneM 1) = true := orderB_true ⟨Nat.le_refl 1, by show 1 ≤ 12; omega, ⟨fun _ _ => rfl, fun _ _ _ _ => .inr rfl⟩, fun _ _ => rfl, fun a b ha hb hne => by
  have ha' : a < 1 := ha
  have hb' : b < 1 := hb
  exact absurd (by omega) hne, fun _ _ _ _ _ _ _ _ => rfl⟩
theorem zero_order : orderB (oneM 0) = false := orderB_false fun h => by
  have : (0 : Int) = 1 := h.refl 0 (by show 0 < 1; omega)
  omega
theorem OrderOk_one (w : World) (x : Int) : Calls Try.prog 13 #[.slice (some ⟨w.heap.size + 1, 0, none⟩) 1 1] ((w.alloc (.cells #[.int .i64 x] 3)).alloc (.cells #[.slice (some ⟨w.heap.size, 0, none⟩) 1 1] 24)) fun e w' =>
    e = .returned (.bool (orderB (oneM x))) ∧ Below (w.heap.size + 2) ((w.alloc (.cells #[.int .i64 x] 3)).alloc (.cells #[.slice (some ⟨w.heap.size, 0, none⟩) 1 1] 24)) w' :=
  (OrderOk_any (m := oneM x) (l := oneLay w.heap.size) (by show 1 ≤ _; omega) (fun _ _ => by show 1 ≤ _; omega) (one_at w x) (by simp)).mono fun _ _ ⟨he, hb⟩ => ⟨he, hb.mono (by simp)⟩

set_option maxHeartbeats 400000 in
theorem alive_any (w : World) : Calls Try.prog 17 #[] w fun e w' => e = .returned (.bool true) ∧ Below w.heap.size w w' := by
  go_enter Try.func17, Try.ntmps17
  go_wp2_with fail
  go_at_call 13
  refine (OrderOk_one w 1).mono ?_
  rintro e w1 ⟨rfl, hb1⟩
  rw [one_order]
  have B1 : Below w.heap.size w w1 := (((Below.refl w.heap.size w).alloc (Nat.le_refl _) _).alloc (by simp) _).trans (hb1.mono (by omega))
  clear hb1
  go_wp2_with fail
  go_at_call 13
  refine (OrderOk_one w1 0).mono ?_
  rintro e w2 ⟨rfl, hb2⟩
  rw [zero_order]
  have B2 : Below w.heap.size w w2 := ((B1.alloc B1.size _).alloc (by have := B1.size; simp; omega) _).trans (hb2.mono (by have := B1.size; omega))
  clear hb2
  go_wp2_with fail
  go_ret
  exact ⟨rfl, B2⟩

end Go.Proofs.Ytnbglbhfclohjaa
namespace Go.Proofs.Ytnbglbhfclohjaa
open Go.RowKit Go.Deep

end Go.Proofs.Ytnbglbhfclohjaa
namespace Go.Proofs.Ytnbglbhfclohjaa
open Go.RowKit Go.Deep

theorem OwnMat.step {w w' : World} {b : Nat} {G : Nat → Nat} {m : Mx} (h : OwnMat w b G m) (hb : Below w.heap.size w w') : OwnMat w' b G m :=
  h.below hb h.top.lt fun r hr => (h.row r hr).lt
end Go.Proofs.Ytnbglbhfclohjaa
namespace Go.Proofs.Ytnbglbhfclohjaa
open Go.RowKit Go.Deep

end Go.Proofs.Ytnbglbhfclohjaa
namespace Go.Proofs.Ytnbglbhfclohjaa
open Go.RowKit Go.Deep

end Go.Proofs.Ytnbglbhfclohjaa
namespace Go.Proofs.Ytnbglbhfclohjaa
open Go.RowKit Go.Deep

/-- A list of numbers in memory of the call's own: as a slice value, entry by entry. -/
theorem list_row {w : World} {base : Nat} {v : Value} {n : Nat} {f : Nat → Value} {z : Nat → Int} (h : w.ownsRow base 3 1 v n ((List.range n).map f)) (hz : ∀ i, i < n → f i = .int .i64 (z i)) :
    ∃ a g cap, v = .slice a n cap ∧ RowAt w w.heap.size a g 0 n z := by
  rcases owns_ways h with ⟨rfl, rfl⟩ | ⟨g, cap, rfl, hc⟩
  · exact ⟨none, 0, 0, rfl, ⟨fun c hc => absurd hc (Nat.not_lt_zero _)⟩⟩
  · exact ⟨some ⟨g, 0, none⟩, g, cap, rfl, ⟨fun c hcn => ⟨rfl, World.block_lt_of_cell? _ _ (hc c hcn), by rw [← hz c hcn]; simpa using hc c hcn⟩⟩⟩
theorem RowAt.more {w : World} {B B' : Nat} {a : Option Addr} {g o n : Nat} {z : Nat → Int} (h : RowAt w B a g o n z) (hB : B ≤ B') : RowAt w B' a g o n z :=
  ⟨fun c hc => by obtain ⟨h1, h2, h3⟩ := h.row c hc; exact ⟨h1, by omega, h3⟩⟩

end Go.Proofs.Ytnbglbhfclohjaa
namespace Go.Proofs.Ytnbglbhfclohjaa
open Go.RowKit Go.Deep

theorem statesV_hi (m : Mx) (k : Nat) (z : Nat → Int) : (statesV m k z).length ≤ 4096 := by
  unfold statesV
  split
  · next hl0 =>
    obtain ⟨_, _, hO9⟩ := (logicB_is hl0).ortho
    exact Nat.le_trans (listTo_len _ _) (pow_le_12 hO9.lat.order.top)
  · exact Nat.zero_le _
set_option maxRecDepth 100000 in
set_option maxHeartbeats 4000000 in
theorem draw_StateOk {A : Option Addr} {b o n cap : Nat} {z : Nat → Nat} {w : World} (h : CodeAt w A b o n cap z) :
    Calls Try.prog 14 #[.slice A n cap] w (DrewN w) := by
  have hT := TwoAt.new w (.slice none 0 0) (.slice none 0 0) 26
  have hbA := (Below.refl w.heap.size w).alloc (Nat.le_refl _) (.cells #[.slice none 0 0, .slice none 0 0] 26)
  have hc := h.alloc (.cells #[.slice none 0 0, .slice none 0 0] 26)
  go_enter Try.func14, Try.ntmps14
  go_wp2_with fail
  go_at_call 30
  refine (l20Open_any hc).mono ?_
  rintro e w1 ⟨A1, b1, o1, n1, c1, z1, rfl, hn1, hR, hz, hb, hs⟩
  have hsA : (w.alloc (.cells #[.slice none 0 0, .slice none 0 0] 26)).heap.size = w.heap.size + 1 := by simp
  have hT1 := hT.below hb (by omega)
  rw [hsA] at hR hz hs hb
  have hs' : w.heap.size + 1 < w1.heap.size := by omega
  have hbw : Below w.heap.size w w1 := hbA.trans (hb.mono (by omega))
  have HZ := Lib.hid hz
  have HBY : ∀ {wx : World}, Chg (fun j => j = w.heap.size + 1) w1 wx → BytesAt wx (w.heap.size + 1) A1 b1 o1 n1 z1 := fun hG => HZ.out.below (hG.below (by omega) (fun j hj => by have hj' : j = w.heap.size + 1 := hj; omega))
  have hbw9 := Lib.hid hbw
  clear h hc hT hs hbA hb hbw
  go_wp2_with fail
  go_at_call 29
  refine (l20Logic_any (by omega) (by omega) (by omega) hn1 hR hz (Nat.le_refl _) hs').mono ?_
  rintro e w2 ⟨ua, l, m, na, g, o2, k, nc, zz, p, rfl, hlog, hf, hg, hn, hL, hk, hR2, hp, hC⟩
  have hs2 := hC.size
  have hst : AgS w1 w.heap.size (w.heap.size + 1) A1 n1 c1 p w2.heap.size ua l m na g o2 k nc zz (w2.alloc (.cells #[.slice ua m.n l.cap, .slice na k nc] 26)) := by
    have hcX := Chg.alloc (fun _ => False) w2 (.cells #[.slice ua m.n l.cap, .slice na k nc] 26)
    have hlx := hlog.alloc (.cells #[.slice ua m.n l.cap, .slice na k nc] 26)
    refine ⟨hcX.two (hC.two hT1 (by show ¬ (w.heap.size = w.heap.size + 1); omega)) (fun e => e), TwoAt.new w2 (.slice ua m.n l.cap) (.slice na k nc) 26, hcX.rd hR2 (by omega) (fun e => e), hC.trans (hcX.mono fun _ e => e.elim), ⟨hlx.mat.more (by simp), ⟨fun i hi => ?_⟩, hlx.hn, hlx.hL, hlx.hk, Nat.le_refl _⟩, hf, hg, by omega, by omega, hs2, by simp, hn, hL, hk⟩
    obtain ⟨e1, e2, e3⟩ := hlx.row.row i hi
    exact ⟨e1, by simp; omega, e3⟩
  have hH := Lib.hid hn1
  clear hlog hf hg hn hL hk hC hR2 hR hz hT1 hs2 hsA
  have c0 := hst.box.c0
  have c1 := hst.box.c1
  go_wp2_with fail
  go_at_call 41
  refine (spec_StatesOf hst.log).mono ?_
  rintro e w3 ⟨v, rfl, hv, b3⟩
  have hN := statesV_hi m k zz
  have hst := hst.below b3
  rw [map_range] at hv
  have hgb : ∀ q, v.ownBlock = some q → w.heap.size + 1 < q := fun q hq => by
    have := ownsRow_block hv q hq
    have h9 : (w2.alloc (.cells #[.slice ua m.n l.cap, .slice na k nc] 26)).heap.size = w2.heap.size + 1 := by simp
    have := hst.hx
    have := hst.hrb
    omega
  obtain ⟨ag, gl, cl, rfl, hrow⟩ := list_row (z := fun i : Nat => (statesV m k zz)[i]?.getD 0) hv fun i _ => rfl
  generalize (statesV m k zz).length = N at *
  generalize (fun i : Nat => (statesV m k zz)[i]?.getD 0) = Y at *
  clear hv b3 c0 c1
  by_cases h0 : N = 0
  · have h0' : ¬ (0 : Int) < N := by omega
    clear hrow hgb
    go_wp2_with fail
    have hst := hst.below (Below.refl _ w3).drew
    have K0 : (fun w' => w'.cell? ⟨w2.heap.size, 0, none⟩ = some (.slice ua m.n l.cap) ∧ w'.cell? ⟨w2.heap.size, 1, none⟩ = some (.slice na k nc)) w3.drew := ⟨hst.box.c0, hst.box.c1⟩
    refine region_plain (fuel := 13) (listed := #[false, false, false, false, false, false, false, false, false, false, false, false, false]) (fun w' => w'.cell? ⟨w2.heap.size, 0, none⟩ = some (.slice ua m.n l.cap) ∧ w'.cell? ⟨w2.heap.size, 1, none⟩ = some (.slice na k nc)) (by kernel_rfl) (by kernel_rfl) (by kernel_rfl) ?_
    refine hold_take (i := 0) (d := 29) (v := ?vB0) (listed' := #[true, false, false, false, false, false, false, false, false, false, false, false, false]) rfl (by kernel_rfl) (by kernel_rfl) (by kernel_rfl) rfl (by rfl) (by kernel_rfl) K0 ?hB0 ?rB0
    case hB0 =>
      intro w' hSw
      obtain ⟨k0, k1⟩ := hSw
      go_simp
      try with_reducible rfl
    simp only [List.setIfInBounds_toArray, List.set_cons_zero, List.set_cons_succ]
    refine hold_take (i := 1) (d := 30) (v := ?vB1) (listed' := #[true, true, false, false, false, false, false, false, false, false, false, false, false]) rfl (by kernel_rfl) (by kernel_rfl) (by kernel_rfl) rfl (by rfl) (by kernel_rfl) K0 ?hB1 ?rB1
    case hB1 =>
      intro w' hSw
      obtain ⟨k0, k1⟩ := hSw
      go_simp
      try with_reducible rfl
    simp only [List.setIfInBounds_toArray, List.set_cons_zero, List.set_cons_succ]
    refine hold_take (i := 4) (d := 33) (v := ?vB4) (listed' := #[true, true, false, false, true, false, false, false, false, false, false, false, false]) rfl (by kernel_rfl) (by kernel_rfl) (by kernel_rfl) rfl (by rfl) (by kernel_rfl) K0 ?hB4 ?rB4
    case hB4 =>
      intro w' hSw
      obtain ⟨k0, k1⟩ := hSw
      go_simp
      try with_reducible rfl
    simp only [List.setIfInBounds_toArray, List.set_cons_zero, List.set_cons_succ]
    refine hold_take (i := 7) (d := 36) (v := ?vB7) (listed' := #[true, true, false, false, true, false, false, true, false, false, false, false, false]) rfl (by kernel_rfl) (by kernel_rfl) (by kernel_rfl) rfl (by rfl) (by kernel_rfl) K0 ?hB7 ?rB7
    case hB7 =>
      intro w' hSw
      obtain ⟨k0, k1⟩ := hSw
      go_simp
      try with_reducible rfl
    simp only [List.setIfInBounds_toArray, List.set_cons_zero, List.set_cons_succ]
    refine hold_call (i := 2) (d := 31) (listed' := #[true, true, true, false, true, false, false, true, false, false, false, false, false]) rfl (by kernel_rfl) rfl (by rfl) (by kernel_rfl) ?heB2 (pick_any (q := 64) (by omega) (by omega) (by omega) hH.out hst.rd (HBY hst.old) (Nat.le_refl _)) ?hcB2
    case heB2 => go_simp
    rintro e y1 ⟨u1, rfl, u1lo, u1hi, hR1, hQ1⟩
    have hst1 := hst.pick hQ1 hR1
    have K1 : (fun w' => w'.cell? ⟨w2.heap.size, 0, none⟩ = some (.slice ua m.n l.cap) ∧ w'.cell? ⟨w2.heap.size, 1, none⟩ = some (.slice na k nc)) y1 := ⟨hst1.box.c0, hst1.box.c1⟩
    clear hst hR1 hQ1 K0
    refine ⟨_, rfl, K1, ?_⟩
    simp only [List.setIfInBounds_toArray, List.set_cons_zero, List.set_cons_succ]
    refine hold_take (i := 3) (d := 32) (v := ?vB3) (listed' := #[true, true, true, true, true, false, false, true, false, false, false, false, false]) rfl (by kernel_rfl) (by kernel_rfl) (by kernel_rfl) rfl (by rfl) (by kernel_rfl) K1 ?hB3 ?rB3
    case hB3 =>
      intro w' hSw
      obtain ⟨k0, k1⟩ := hSw
      go_simp
      try with_reducible rfl
    simp only [List.setIfInBounds_toArray, List.set_cons_zero, List.set_cons_succ]
    refine hold_call (i := 5) (d := 34) (listed' := #[true, true, true, true, true, true, false, true, false, false, false, false, false]) rfl (by kernel_rfl) rfl (by rfl) (by kernel_rfl) ?heB5 (pick_any (q := 64) (by omega) (by omega) (by omega) hH.out hst1.rd (HBY hst1.old) (Nat.le_refl _)) ?hcB5
    case heB5 => go_simp
    rintro e y2 ⟨u2, rfl, u2lo, u2hi, hR2, hQ2⟩
    have hst2 := hst1.pick hQ2 hR2
    have K2 : (fun w' => w'.cell? ⟨w2.heap.size, 0, none⟩ = some (.slice ua m.n l.cap) ∧ w'.cell? ⟨w2.heap.size, 1, none⟩ = some (.slice na k nc)) y2 := ⟨hst2.box.c0, hst2.box.c1⟩
    clear hst1 hR2 hQ2 K1
    refine ⟨_, rfl, K2, ?_⟩
    simp only [List.setIfInBounds_toArray, List.set_cons_zero, List.set_cons_succ]
    refine hold_take (i := 6) (d := 35) (v := ?vB6) (listed' := #[true, true, true, true, true, true, true, true, false, false, false, false, false]) rfl (by kernel_rfl) (by kernel_rfl) (by kernel_rfl) rfl (by rfl) (by kernel_rfl) K2 ?hB6 ?rB6
    case hB6 =>
      intro w' hSw
      obtain ⟨k0, k1⟩ := hSw
      go_simp
      try with_reducible rfl
    simp only [List.setIfInBounds_toArray, List.set_cons_zero, List.set_cons_succ]
    refine hold_call (i := 8) (d := 37) (listed' := #[true, true, true, true, true, true, true, true, true, false, false, false, false]) rfl (by kernel_rfl) rfl (by rfl) (by kernel_rfl) ?heB8 (pick_any (q := 20) (by omega) (by omega) (by omega) hH.out hst2.rd (HBY hst2.old) (Nat.le_refl _)) ?hcB8
    case heB8 => go_simp
    rintro e y3 ⟨u3, rfl, u3lo, u3hi, hR3, hQ3⟩
    have hst3 := hst2.pick hQ3 hR3
    have K3 : (fun w' => w'.cell? ⟨w2.heap.size, 0, none⟩ = some (.slice ua m.n l.cap) ∧ w'.cell? ⟨w2.heap.size, 1, none⟩ = some (.slice na k nc)) y3 := ⟨hst3.box.c0, hst3.box.c1⟩
    clear hst2 hR3 hQ3 K2
    refine ⟨_, rfl, K3, ?_⟩
    simp only [List.setIfInBounds_toArray, List.set_cons_zero, List.set_cons_succ]
    refine hold_take (i := 9) (d := 38) (v := ?vB9) (listed' := #[true, true, true, true, true, true, true, true, true, true, false, false, false]) rfl (by kernel_rfl) (by kernel_rfl) (by kernel_rfl) rfl (by rfl) (by kernel_rfl) K3 ?hB9 ?rB9
    case hB9 =>
      intro w' hSw
      obtain ⟨k0, k1⟩ := hSw
      go_simp
      try with_reducible rfl
    simp only [List.setIfInBounds_toArray, List.set_cons_zero, List.set_cons_succ]
    refine hold_take (i := 10) (d := 39) (v := ?vB10) (listed' := #[true, true, true, true, true, true, true, true, true, true, true, false, false]) rfl (by kernel_rfl) (by kernel_rfl) (by kernel_rfl) rfl (by rfl) (by kernel_rfl) K3 ?hB10 ?rB10
    case hB10 =>
      intro w' hSw
      obtain ⟨k0, k1⟩ := hSw
      go_simp
      try with_reducible rfl
    simp only [List.setIfInBounds_toArray, List.set_cons_zero, List.set_cons_succ]
    have d0 := hst3.res.c0
    have d1 := hst3.res.c1
    have d2 := hst3.res.f0
    have d3 := hst3.res.f1
    have hb9 := hst3.boxPut
    have K9 : (fun w' => w'.cell? ⟨w2.heap.size, 0, none⟩ = some (.slice ua m.n l.cap) ∧ w'.cell? ⟨w2.heap.size, 1, none⟩ = some (.slice na k nc)) ((y3.setCell ⟨w.heap.size, 0, none⟩ (.slice ua m.n l.cap)).setCell ⟨w.heap.size, 1, none⟩ (.slice na k nc)) := ⟨hb9.c0, hb9.c1⟩
    refine hold_store (i := 11) (w' := ((y3.setCell ⟨w.heap.size, 0, none⟩ (.slice ua m.n l.cap)).setCell ⟨w.heap.size, 1, none⟩ (.slice na k nc))) (listed' := #[true, true, true, true, true, true, true, true, true, true, true, true, false]) rfl (by kernel_rfl) rfl (by rfl) (by kernel_rfl) ?hsB11 K9 ?hkB11
    case hsB11 => go_simp
    refine hold_take (i := 12) (d := 3) (v := ?vB12) (listed' := #[true, true, true, true, true, true, true, true, true, true, true, true, true]) rfl (by kernel_rfl) (by kernel_rfl) (by kernel_rfl) rfl (by rfl) (by kernel_rfl) K9 ?hB12 ?rB12
    case hB12 =>
      intro w' hSw
      obtain ⟨k0, k1⟩ := hSw
      go_simp
      try with_reducible rfl
    simp only [List.setIfInBounds_toArray, List.set_cons_zero, List.set_cons_succ]
    refine hold_done (by kernel_rfl) ?_ _
    have hall := Lib.hid (hst3.fresh hbw9.out)
    have hfin := (hst3.res.set0 (.slice ua m.n l.cap)).set1 (.slice na k nc)
    have t0 := hfin.c0
    have t1 := hfin.c1
    clear hfin hst3 hb9 d0 d1 d2 d3 K3 K9
    go_wp2_with fail
    exact bodyPost_ret (v := .tuple #[.agg #[.slice ua m.n l.cap, .slice na k nc], .int .i64 (IntKind.i64.wrap (IntKind.i64.wrap (IntKind.i64.wrap (u1 * 64) + u2) - IntKind.i64.wrap (u3.tdiv 19)))]) (by simp [results, Try.results14, go_sem, t0, t1]) rfl ⟨ua, l, m, na, g, o2, k, nc, zz, _, rfl, hall.out⟩
  · have h0' : (0 : Int) < N := by omega
    obtain ⟨rfl, _, _⟩ := hrow.row 0 (by omega)
    have hgl : w.heap.size + 1 < gl := hgb gl rfl
    have Hrow := Lib.hid hrow
    clear hrow hgb h0
    go_wp2_with fail
    go_at_call 42
    refine (pick_any (q := 3) (by omega) (by omega) (by omega) hH.out hst.rd (HBY hst.old) (Nat.le_refl _)).mono ?_
    rintro e w4 ⟨v6, rfl, v6lo, v6hi, hR6, hQ6⟩
    have hst := hst.pick hQ6 hR6
    have Hrow := Lib.hid (Hrow.out.only hQ6 (show ¬ (gl = w.heap.size + 1) by omega))
    clear hR6 hQ6
    by_cases h6 : 0 < v6
    · go_wp2_with fail
      have hst := hst.below (Below.refl _ w4).drew
      have Hrow := Lib.hid (Hrow.out.below (Below.refl _ w4).drew)
      have hcl : ∀ i, i < N → w4.drew.cell? ⟨gl, i, none⟩ = some (.int .i64 (Y i)) := fun i hi => by
        have := (Hrow.out.row i hi).2.2
        rwa [Nat.zero_add] at this
      have K0 : (fun w' => (w'.cell? ⟨w2.heap.size, 0, none⟩ = some (.slice ua m.n l.cap) ∧ w'.cell? ⟨w2.heap.size, 1, none⟩ = some (.slice na k nc)) ∧ ∀ i, i < N → w'.cell? ⟨gl, i, none⟩ = some (.int .i64 (Y i))) w4.drew := ⟨⟨hst.box.c0, hst.box.c1⟩, hcl⟩
      clear hcl
      refine region_plain (fuel := 10) (listed := #[false, false, false, false, false, false, false, false, false, false]) (fun w' => (w'.cell? ⟨w2.heap.size, 0, none⟩ = some (.slice ua m.n l.cap) ∧ w'.cell? ⟨w2.heap.size, 1, none⟩ = some (.slice na k nc)) ∧ ∀ i, i < N → w'.cell? ⟨gl, i, none⟩ = some (.int .i64 (Y i))) (by kernel_rfl) (by kernel_rfl) (by kernel_rfl) ?_
      refine hold_take (i := 0) (d := 21) (v := ?vA0) (listed' := #[true, false, false, false, false, false, false, false, false, false]) rfl (by kernel_rfl) (by kernel_rfl) (by kernel_rfl) rfl (by rfl) (by kernel_rfl) K0 ?hA0 ?rA0
      case hA0 =>
        intro w' hSw
        obtain ⟨⟨k0, k1⟩, k2⟩ := hSw
        go_simp
        try with_reducible rfl
      simp only [List.setIfInBounds_toArray, List.set_cons_zero, List.set_cons_succ]
      refine hold_take (i := 1) (d := 22) (v := ?vA1) (listed' := #[true, true, false, false, false, false, false, false, false, false]) rfl (by kernel_rfl) (by kernel_rfl) (by kernel_rfl) rfl (by rfl) (by kernel_rfl) K0 ?hA1 ?rA1
      case hA1 =>
        intro w' hSw
        obtain ⟨⟨k0, k1⟩, k2⟩ := hSw
        go_simp
        try with_reducible rfl
      simp only [List.setIfInBounds_toArray, List.set_cons_zero, List.set_cons_succ]
      refine hold_take (i := 2) (d := 23) (v := ?vA2) (listed' := #[true, true, true, false, false, false, false, false, false, false]) rfl (by kernel_rfl) (by kernel_rfl) (by kernel_rfl) rfl (by rfl) (by kernel_rfl) K0 ?hA2 ?rA2
      case hA2 =>
        intro w' hSw
        obtain ⟨⟨k0, k1⟩, k2⟩ := hSw
        go_simp
        try with_reducible rfl
      simp only [List.setIfInBounds_toArray, List.set_cons_zero, List.set_cons_succ]
      refine hold_take (i := 3) (d := 24) (v := ?vA3) (listed' := #[true, true, true, true, false, false, false, false, false, false]) rfl (by kernel_rfl) (by kernel_rfl) (by kernel_rfl) rfl (by rfl) (by kernel_rfl) K0 ?hA3 ?rA3
      case hA3 =>
        intro w' hSw
        obtain ⟨⟨k0, k1⟩, k2⟩ := hSw
        go_simp
        try with_reducible rfl
      simp only [List.setIfInBounds_toArray, List.set_cons_zero, List.set_cons_succ]
      refine hold_take (i := 4) (d := 25) (v := ?vA4) (listed' := #[true, true, true, true, true, false, false, false, false, false]) rfl (by kernel_rfl) (by kernel_rfl) (by kernel_rfl) rfl (by rfl) (by kernel_rfl) K0 ?hA4 ?rA4
      case hA4 =>
        intro w' hSw
        obtain ⟨⟨k0, k1⟩, k2⟩ := hSw
        go_simp
        try with_reducible rfl
      simp only [List.setIfInBounds_toArray, List.set_cons_zero, List.set_cons_succ]
      refine hold_call (i := 5) (d := 26) (listed' := #[true, true, true, true, true, true, false, false, false, false]) rfl (by kernel_rfl) rfl (by rfl) (by kernel_rfl) ?heA5 (pick_any (q := (N : Int)) (by omega) (by omega) (by omega) hH.out hst.rd (HBY hst.old) (Nat.le_refl _)) ?hcA5
      case heA5 => go_simp
      rintro e y5 ⟨v5, rfl, v5lo, v5hi, hR5, hQ5⟩
      have hst5 := hst.pick hQ5 hR5
      obtain ⟨i5, rfl⟩ := Int.eq_ofNat_of_zero_le v5lo
      have i5hi : i5 < N := by omega
      have Hrow5 := Hrow.out.only hQ5 (show ¬ (gl = w.heap.size + 1) by omega)
      have hcl5 : ∀ i, i < N → y5.cell? ⟨gl, i, none⟩ = some (.int .i64 (Y i)) := fun i hi => by
        have := (Hrow5.row i hi).2.2
        rwa [Nat.zero_add] at this
      have K5 : (fun w' => (w'.cell? ⟨w2.heap.size, 0, none⟩ = some (.slice ua m.n l.cap) ∧ w'.cell? ⟨w2.heap.size, 1, none⟩ = some (.slice na k nc)) ∧ ∀ i, i < N → w'.cell? ⟨gl, i, none⟩ = some (.int .i64 (Y i))) y5 := ⟨⟨hst5.box.c0, hst5.box.c1⟩, hcl5⟩
      clear hst hR5 hQ5 Hrow Hrow5 K0
      refine ⟨_, rfl, K5, ?_⟩
      simp only [List.setIfInBounds_toArray, List.set_cons_zero, List.set_cons_succ]
      refine hold_take (i := 6) (d := 27) (v := ?vA6) (listed' := #[true, true, true, true, true, true, true, false, false, false]) rfl (by kernel_rfl) (by kernel_rfl) (by kernel_rfl) rfl (by rfl) (by kernel_rfl) K5 ?hA6 ?rA6
      case hA6 =>
        intro w' hSw
        obtain ⟨⟨k0, k1⟩, k2⟩ := hSw; have k3 := k2 i5 i5hi; clear k2
        go_simp
        try with_reducible rfl
      simp only [List.setIfInBounds_toArray, List.set_cons_zero, List.set_cons_succ]
      refine hold_take (i := 7) (d := 28) (v := ?vA7) (listed' := #[true, true, true, true, true, true, true, true, false, false]) rfl (by kernel_rfl) (by kernel_rfl) (by kernel_rfl) rfl (by rfl) (by kernel_rfl) K5 ?hA7 ?rA7
      case hA7 =>
        intro w' hSw
        obtain ⟨⟨k0, k1⟩, k2⟩ := hSw; have k3 := k2 i5 i5hi; clear k2
        go_simp
        try with_reducible rfl
      simp only [List.setIfInBounds_toArray, List.set_cons_zero, List.set_cons_succ]
      have d0 := hst5.res.c0
      have d1 := hst5.res.c1
      have d2 := hst5.res.f0
      have d3 := hst5.res.f1
      have hb9 := hst5.boxPut
      have hcl9 : ∀ i, i < N → ((y5.setCell ⟨w.heap.size, 0, none⟩ (.slice ua m.n l.cap)).setCell ⟨w.heap.size, 1, none⟩ (.slice na k nc)).cell? ⟨gl, i, none⟩ = some (.int .i64 (Y i)) := fun i hi => by
        rw [World.cell?_setCell_other _ _ _ _ (fun e => by injection e with e1; omega), World.cell?_setCell_other _ _ _ _ (fun e => by injection e with e1; omega)]; exact hcl5 i hi
      have K9 : (fun w' => (w'.cell? ⟨w2.heap.size, 0, none⟩ = some (.slice ua m.n l.cap) ∧ w'.cell? ⟨w2.heap.size, 1, none⟩ = some (.slice na k nc)) ∧ ∀ i, i < N → w'.cell? ⟨gl, i, none⟩ = some (.int .i64 (Y i))) ((y5.setCell ⟨w.heap.size, 0, none⟩ (.slice ua m.n l.cap)).setCell ⟨w.heap.size, 1, none⟩ (.slice na k nc)) := ⟨⟨hb9.c0, hb9.c1⟩, hcl9⟩
      refine hold_store (i := 8) (w' := ((y5.setCell ⟨w.heap.size, 0, none⟩ (.slice ua m.n l.cap)).setCell ⟨w.heap.size, 1, none⟩ (.slice na k nc))) (listed' := #[true, true, true, true, true, true, true, true, true, false]) rfl (by kernel_rfl) rfl (by rfl) (by kernel_rfl) ?hsA8 K9 ?hkA8
      case hsA8 => go_simp
      refine hold_take (i := 9) (d := 3) (v := ?vA9) (listed' := #[true, true, true, true, true, true, true, true, true, true]) rfl (by kernel_rfl) (by kernel_rfl) (by kernel_rfl) rfl (by rfl) (by kernel_rfl) K9 ?hA9 ?rA9
      case hA9 =>
        intro w' hSw
        obtain ⟨⟨k0, k1⟩, k2⟩ := hSw
        go_simp
        try with_reducible rfl
      simp only [List.setIfInBounds_toArray, List.set_cons_zero, List.set_cons_succ]
      refine hold_done (by kernel_rfl) ?_ _
      have hall := Lib.hid (hst5.fresh hbw9.out)
      have hfin := (hst5.res.set0 (.slice ua m.n l.cap)).set1 (.slice na k nc)
      have t0 := hfin.c0
      have t1 := hfin.c1
      clear hfin hst5 hb9 d0 d1 d2 d3 K5 K9 hcl5 hcl9
      go_wp2_with fail
      exact bodyPost_ret (v := .tuple #[.agg #[.slice ua m.n l.cap, .slice na k nc], .int .i64 (Y i5)]) (by simp [results, Try.results14, go_sem, t0, t1]) rfl ⟨ua, l, m, na, g, o2, k, nc, zz, _, rfl, hall.out⟩
    · clear Hrow
      go_wp2_with fail
      have hst := hst.below (Below.refl _ w4).drew
      have K0 : (fun w' => w'.cell? ⟨w2.heap.size, 0, none⟩ = some (.slice ua m.n l.cap) ∧ w'.cell? ⟨w2.heap.size, 1, none⟩ = some (.slice na k nc)) w4.drew := ⟨hst.box.c0, hst.box.c1⟩
      refine region_plain (fuel := 13) (listed := #[false, false, false, false, false, false, false, false, false, false, false, false, false]) (fun w' => w'.cell? ⟨w2.heap.size, 0, none⟩ = some (.slice ua m.n l.cap) ∧ w'.cell? ⟨w2.heap.size, 1, none⟩ = some (.slice na k nc)) (by kernel_rfl) (by kernel_rfl) (by kernel_rfl) ?_
      refine hold_take (i := 0) (d := 29) (v := ?vC0) (listed' := #[true, false, false, false, false, false, false, false, false, false, false, false, false]) rfl (by kernel_rfl) (by kernel_rfl) (by kernel_rfl) rfl (by rfl) (by kernel_rfl) K0 ?hC0 ?rC0
      case hC0 =>
        intro w' hSw
        obtain ⟨k0, k1⟩ := hSw
        go_simp
        try with_reducible rfl
      simp only [List.setIfInBounds_toArray, List.set_cons_zero, List.set_cons_succ]
      refine hold_take (i := 1) (d := 30) (v := ?vC1) (listed' := #[true, true, false, false, false, false, false, false, false, false, false, false, false]) rfl (by kernel_rfl) (by kernel_rfl) (by kernel_rfl) rfl (by rfl) (by kernel_rfl) K0 ?hC1 ?rC1
      case hC1 =>
        intro w' hSw
        obtain ⟨k0, k1⟩ := hSw
        go_simp
        try with_reducible rfl
      simp only [List.setIfInBounds_toArray, List.set_cons_zero, List.set_cons_succ]
      refine hold_take (i := 4) (d := 33) (v := ?vC4) (listed' := #[true, true, false, false, true, false, false, false, false, false, false, false, false]) rfl (by kernel_rfl) (by kernel_rfl) (by kernel_rfl) rfl (by rfl) (by kernel_rfl) K0 ?hC4 ?rC4
      case hC4 =>
        intro w' hSw
        obtain ⟨k0, k1⟩ := hSw
        go_simp
        try with_reducible rfl
      simp only [List.setIfInBounds_toArray, List.set_cons_zero, List.set_cons_succ]
      refine hold_take (i := 7) (d := 36) (v := ?vC7) (listed' := #[true, true, false, false, true, false, false, true, false, false, false, false, false]) rfl (by kernel_rfl) (by kernel_rfl) (by kernel_rfl) rfl (by rfl) (by kernel_rfl) K0 ?hC7 ?rC7
      case hC7 =>
        intro w' hSw
        obtain ⟨k0, k1⟩ := hSw
        go_simp
        try with_reducible rfl
      simp only [List.setIfInBounds_toArray, List.set_cons_zero, List.set_cons_succ]
      refine hold_call (i := 2) (d := 31) (listed' := #[true, true, true, false, true, false, false, true, false, false, false, false, false]) rfl (by kernel_rfl) rfl (by rfl) (by kernel_rfl) ?heC2 (pick_any (q := 64) (by omega) (by omega) (by omega) hH.out hst.rd (HBY hst.old) (Nat.le_refl _)) ?hcC2
      case heC2 => go_simp
      rintro e y1 ⟨u1, rfl, u1lo, u1hi, hR1, hQ1⟩
      have hst1 := hst.pick hQ1 hR1
      have K1 : (fun w' => w'.cell? ⟨w2.heap.size, 0, none⟩ = some (.slice ua m.n l.cap) ∧ w'.cell? ⟨w2.heap.size, 1, none⟩ = some (.slice na k nc)) y1 := ⟨hst1.box.c0, hst1.box.c1⟩
      clear hst hR1 hQ1 K0
      refine ⟨_, rfl, K1, ?_⟩
      simp only [List.setIfInBounds_toArray, List.set_cons_zero, List.set_cons_succ]
      refine hold_take (i := 3) (d := 32) (v := ?vC3) (listed' := #[true, true, true, true, true, false, false, true, false, false, false, false, false]) rfl (by kernel_rfl) (by kernel_rfl) (by kernel_rfl) rfl (by rfl) (by kernel_rfl) K1 ?hC3 ?rC3
      case hC3 =>
        intro w' hSw
        obtain ⟨k0, k1⟩ := hSw
        go_simp
        try with_reducible rfl
      simp only [List.setIfInBounds_toArray, List.set_cons_zero, List.set_cons_succ]
      refine hold_call (i := 5) (d := 34) (listed' := #[true, true, true, true, true, true, false, true, false, false, false, false, false]) rfl (by kernel_rfl) rfl (by rfl) (by kernel_rfl) ?heC5 (pick_any (q := 64) (by omega) (by omega) (by omega) hH.out hst1.rd (HBY hst1.old) (Nat.le_refl _)) ?hcC5
      case heC5 => go_simp
      rintro e y2 ⟨u2, rfl, u2lo, u2hi, hR2, hQ2⟩
      have hst2 := hst1.pick hQ2 hR2
      have K2 : (fun w' => w'.cell? ⟨w2.heap.size, 0, none⟩ = some (.slice ua m.n l.cap) ∧ w'.cell? ⟨w2.heap.size, 1, none⟩ = some (.slice na k nc)) y2 := ⟨hst2.box.c0, hst2.box.c1⟩
      clear hst1 hR2 hQ2 K1
      refine ⟨_, rfl, K2, ?_⟩
      simp only [List.setIfInBounds_toArray, List.set_cons_zero, List.set_cons_succ]
      refine hold_take (i := 6) (d := 35) (v := ?vC6) (listed' := #[true, true, true, true, true, true, true, true, false, false, false, false, false]) rfl (by kernel_rfl) (by kernel_rfl) (by kernel_rfl) rfl (by rfl) (by kernel_rfl) K2 ?hC6 ?rC6
      case hC6 =>
        intro w' hSw
        obtain ⟨k0, k1⟩ := hSw
        go_simp
        try with_reducible rfl
      simp only [List.setIfInBounds_toArray, List.set_cons_zero, List.set_cons_succ]
      refine hold_call (i := 8) (d := 37) (listed' := #[true, true, true, true, true, true, true, true, true, false, false, false, false]) rfl (by kernel_rfl) rfl (by rfl) (by kernel_rfl) ?heC8 (pick_any (q := 20) (by omega) (by omega) (by omega) hH.out hst2.rd (HBY hst2.old) (Nat.le_refl _)) ?hcC8
      case heC8 => go_simp
      rintro e y3 ⟨u3, rfl, u3lo, u3hi, hR3, hQ3⟩
      have hst3 := hst2.pick hQ3 hR3
      have K3 : (fun w' => w'.cell? ⟨w2.heap.size, 0, none⟩ = some (.slice ua m.n l.cap) ∧ w'.cell? ⟨w2.heap.size, 1, none⟩ = some (.slice na k nc)) y3 := ⟨hst3.box.c0, hst3.box.c1⟩
      clear hst2 hR3 hQ3 K2
      refine ⟨_, rfl, K3, ?_⟩
      simp only [List.setIfInBounds_toArray, List.set_cons_zero, List.set_cons_succ]
      refine hold_take (i := 9) (d := 38) (v := ?vC9) (listed' := #[true, true, true, true, true, true, true, true, true, true, false, false, false]) rfl (by kernel_rfl) (by kernel_rfl) (by kernel_rfl) rfl (by rfl) (by kernel_rfl) K3 ?hC9 ?rC9
      case hC9 =>
        intro w' hSw
        obtain ⟨k0, k1⟩ := hSw
        go_simp
        try with_reducible rfl
      simp only [List.setIfInBounds_toArray, List.set_cons_zero, List.set_cons_succ]
      refine hold_take (i := 10) (d := 39) (v := ?vC10) (listed' := #[true, true, true, true, true, true, true, true, true, true, true, false, false]) rfl (by kernel_rfl) (by kernel_rfl) (by kernel_rfl) rfl (by rfl) (by kernel_rfl) K3 ?hC10 ?rC10
      case hC10 =>
        intro w' hSw
        obtain ⟨k0, k1⟩ := hSw
        go_simp
        try with_reducible rfl
      simp only [List.setIfInBounds_toArray, List.set_cons_zero, List.set_cons_succ]
      have d0 := hst3.res.c0
      have d1 := hst3.res.c1
      have d2 := hst3.res.f0
      have d3 := hst3.res.f1
      have hb9 := hst3.boxPut
      have K9 : (fun w' => w'.cell? ⟨w2.heap.size, 0, none⟩ = some (.slice ua m.n l.cap) ∧ w'.cell? ⟨w2.heap.size, 1, none⟩ = some (.slice na k nc)) ((y3.setCell ⟨w.heap.size, 0, none⟩ (.slice ua m.n l.cap)).setCell ⟨w.heap.size, 1, none⟩ (.slice na k nc)) := ⟨hb9.c0, hb9.c1⟩
      refine hold_store (i := 11) (w' := ((y3.setCell ⟨w.heap.size, 0, none⟩ (.slice ua m.n l.cap)).setCell ⟨w.heap.size, 1, none⟩ (.slice na k nc))) (listed' := #[true, true, true, true, true, true, true, true, true, true, true, true, false]) rfl (by kernel_rfl) rfl (by rfl) (by kernel_rfl) ?hsC11 K9 ?hkC11
      case hsC11 => go_simp
      refine hold_take (i := 12) (d := 3) (v := ?vC12) (listed' := #[true, true, true, true, true, true, true, true, true, true, true, true, true]) rfl (by kernel_rfl) (by kernel_rfl) (by kernel_rfl) rfl (by rfl) (by kernel_rfl) K9 ?hC12 ?rC12
      case hC12 =>
        intro w' hSw
        obtain ⟨k0, k1⟩ := hSw
        go_simp
        try with_reducible rfl
      simp only [List.setIfInBounds_toArray, List.set_cons_zero, List.set_cons_succ]
      refine hold_done (by kernel_rfl) ?_ _
      have hall := Lib.hid (hst3.fresh hbw9.out)
      have hfin := (hst3.res.set0 (.slice ua m.n l.cap)).set1 (.slice na k nc)
      have t0 := hfin.c0
      have t1 := hfin.c1
      clear hfin hst3 hb9 d0 d1 d2 d3 K3 K9
      go_wp2_with fail
      exact bodyPost_ret (v := .tuple #[.agg #[.slice ua m.n l.cap, .slice na k nc], .int .i64 (IntKind.i64.wrap (IntKind.i64.wrap (IntKind.i64.wrap (u1 * 64) + u2) - IntKind.i64.wrap (u3.tdiv 19)))]) (by simp [results, Try.results14, go_sem, t0, t1]) rfl ⟨ua, l, m, na, g, o2, k, nc, zz, _, rfl, hall.out⟩
end Go.Proofs.Ytnbglbhfclohjaa
