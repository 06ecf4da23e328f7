import Derived.Test.YtjmhhjdkemicbaaDoorZWv
import Derived.Test.YtjmhhjdkemicbaaDoorZDa
import Derived.Test.YtjmhhjdkemicbaaDoorZWc
import Derived.Test.YtjmhhjdkemicbaaDoorZDn
import Derived.Test.YtjmhhjdkemicbaaDoorZOi
import Derived.Test.YtjmhhjdkemicbaaDoorZMath
import Derived.Test.YtjmhhjdkemicbaaDoorZKh
import Derived.Test.YtjmhhjdkemicbaaDoorZKk
import Derived.Test.YtjmhhjdkemicbaaDoorZKj
import Derived.Test.YtjmhhjdkemicbaaDoorZSi
namespace Go.Proofs.YtjmhhjdkemicbaaDoor
open Go.RowKit Go.Deep

/-- Rows that read as others, entry by entry, where both have the same lengths. -/
theorem MatAt.as {w : World} {B : Nat} {a : Option Addr} {l : Lay} {m m' : Mx} (h : MatAt w B a l m) (hn : m'.n = m.n) (hL : ∀ r, r < m.n → m'.L r = m.L r) (hZ : ∀ r, r < m.n → ∀ c, c < m.L r → m'.Z r c = m.Z r c) : MatAt w B a l m' :=
  ⟨fun r hr => by
    have hr' : r < m.n := by omega
    rw [hL r hr']
    exact h.top r hr', fun r hr c hc => by
    have hr' : r < m.n := by omega
    rw [hL r hr'] at hc
    rw [hZ r hr' c hc]
    exact h.row r hr' c hc⟩
end Go.Proofs.YtjmhhjdkemicbaaDoor
namespace Go.Proofs.YtjmhhjdkemicbaaDoor
open Go.RowKit Go.Deep

def oneM (x : Int) : Mx := ⟨1, fun _ => 1, fun _ _ => x⟩
def oneLay (N : Nat) : Lay := ⟨N + 1, 0, 1, fun _ => some ⟨N, 0, none⟩, fun _ => 1, fun _ => N, fun _ => 0⟩
theorem one_at (w : World) (x : Int) : MatAt ((w.alloc (.cells #[.int .i64 x] 3)).alloc (.cells #[.slice (some ⟨w.heap.size, 0, none⟩) 1 1] 24)) (w.heap.size + 2) (some ⟨w.heap.size + 1, 0, none⟩) (oneLay w.heap.size) (oneM x) := by
  have b0 := (Boxed.new w 3 (.int .i64 x)).alloc (.cells #[.slice (some ⟨w.heap.size, 0, none⟩) 1 1] 24)
  have b1 := Boxed.new (w.alloc (.cells #[.int .i64 x] 3)) 24 (.slice (some ⟨w.heap.size, 0, none⟩) 1 1)
  rw [World.size_alloc] at b1
  refine ⟨fun r hr => ?_, fun r hr c hc => ?_⟩
  · have hr' : r < 1 := hr
    obtain rfl : r = 0 := by omega
    exact ⟨rfl, by show w.heap.size + 1 < _; omega, b1.cell⟩
  · have hc' : c < 1 := hc
    obtain rfl : c = 0 := by omega
    exact ⟨rfl, by show w.heap.size < _; omega, b0.cell⟩
theorem one_order : orderB (oneM 1) = true := orderB_true ⟨Nat.le_refl 1, by show 1 ≤ 12; omega, ⟨fun _ _ => rfl, fun _ _ _ _ => .inr rfl⟩, fun _ _ => rfl, fun a b ha hb hne => by
  have ha' : a < 1 := ha
  have hb' : b < 1 := hb
  exact absurd (by omega) hne, fun _ _ _ _ _ _ _ _ => rfl⟩
theorem zero_order : orderB (oneM 0) = false := orderB_false fun h => by
  have : (0 : Int) = 1 := h.refl 0 (by show 0 < 1; omega)
  omega
theorem OrderOk_one (w : World) (x : Int) : Calls Tryd.prog 24 #[.slice (some ⟨w.heap.size + 1, 0, none⟩) 1 1] ((w.alloc (.cells #[.int .i64 x] 3)).alloc (.cells #[.slice (some ⟨w.heap.size, 0, none⟩) 1 1] 24)) fun e w' =>
    e = .returned (.bool (orderB (oneM x))) ∧ Below (w.heap.size + 2) ((w.alloc (.cells #[.int .i64 x] 3)).alloc (.cells #[.slice (some ⟨w.heap.size, 0, none⟩) 1 1] 24)) w' :=
  (OrderOk_any (m := oneM x) (l := oneLay w.heap.size) (by show 1 ≤ _; omega) (fun _ _ => by show 1 ≤ _; omega) (one_at w x) (by simp)).mono fun _ _ ⟨he, hb⟩ => ⟨he, hb.mono (by simp)⟩

set_option maxHeartbeats 400000 in
theorem alive_any (w : World) : Calls Tryd.prog 8 #[] w fun e w' => e = .returned (.bool true) ∧ Below w.heap.size w w' := by
  go_enter Tryd.func8, Tryd.ntmps8
  go_wp2_with fail
  go_at_call 24
  refine (OrderOk_one w 1).mono ?_
  rintro e w1 ⟨rfl, hb1⟩
  rw [one_order]
  have B1 : Below w.heap.size w w1 := (((Below.refl w.heap.size w).alloc (Nat.le_refl _) _).alloc (by simp) _).trans (hb1.mono (by omega))
  clear hb1
  go_wp2_with fail
  go_at_call 24
  refine (OrderOk_one w1 0).mono ?_
  rintro e w2 ⟨rfl, hb2⟩
  rw [zero_order]
  have B2 : Below w.heap.size w w2 := ((B1.alloc B1.size _).alloc (by have := B1.size; simp; omega) _).trans (hb2.mono (by have := B1.size; omega))
  clear hb2
  go_wp2_with fail
  go_ret
  exact ⟨rfl, B2⟩

end Go.Proofs.YtjmhhjdkemicbaaDoor
namespace Go.Proofs.YtjmhhjdkemicbaaDoor
open Go.RowKit Go.Deep

/-- The drawn logic in its box, and all that was there before. -/
structure Held (w : World) (ua : Option Addr) (l : Lay) (m : Mx) (na : Option Addr) (g o k nc : Nat) (z : Nat → Int) (P : Nat) (wx : World) : Prop where
  log : LogAt wx P ua l m na g o k z
  box : TwoAt wx P (.slice ua m.n l.cap) (.slice na k nc)
  old : Below w.heap.size w wx
theorem Held.step {w wx w' : World} {ua : Option Addr} {l : Lay} {m : Mx} {na : Option Addr} {g o k nc P : Nat} {z : Nat → Int} (h : Held w ua l m na g o k nc z P wx) (hb : Below wx.heap.size wx w') : Held w ua l m na g o k nc z P w' :=
  ⟨h.log.step hb, h.box.below hb (World.block_lt_of_cell? wx ⟨P, 0, none⟩ h.box.c0), h.old.trans (hb.mono h.old.size)⟩
theorem Held.start {w w1 : World} {ua : Option Addr} {l : Lay} {m : Mx} {na : Option Addr} {g o k : Nat} {z : Nat → Int} (h : Fresh w ua l m na g o k z w1) (nc : Nat) : Held w ua l m na g o k nc z w1.heap.size (w1.alloc (.cells #[.slice ua m.n l.cap, .slice na k nc] 26)) :=
  ⟨h.log.alloc _, TwoAt.new _ _ _ _, h.old.alloc h.old.size _⟩
theorem Ortho.noV {m : Mx} {k : Nat} {z : Nat → Int} {y : Nat → Nat} {o : Nat} (h : Ortho m z y o) (hl : logicB m k z = true) : noV m k z = (o : Int) := by unfold Proofs.YtjmhhjdkemicbaaDoor.noV; rw [if_pos hl]; exact h.eq
theorem Ortho.yesV {m : Mx} {k : Nat} {z : Nat → Int} {y : Nat → Nat} {o : Nat} (h : Ortho m z y o) (hl : logicB m k z = true) : yesV m k z = (y o : Int) := by
  unfold Proofs.YtjmhhjdkemicbaaDoor.yesV
  rw [if_pos hl, h.eq]
  exact h.zy o h.ho
theorem Ortho.leastV {m : Mx} {z : Nat → Int} {y : Nat → Nat} {o : Nat} (h : Ortho m z y o) : leastV m = (o : Int) := by rw [leastV_yes (orderB_true h.lat.order)]; exact h.eq
end Go.Proofs.YtjmhhjdkemicbaaDoor
namespace Go.Proofs.YtjmhhjdkemicbaaDoor
open Go.RowKit Go.Deep

end Go.Proofs.YtjmhhjdkemicbaaDoor
namespace Go.Proofs.YtjmhhjdkemicbaaDoor
open Go.RowKit Go.Deep

end Go.Proofs.YtjmhhjdkemicbaaDoor
namespace Go.Proofs.YtjmhhjdkemicbaaDoor
open Go.RowKit Go.Deep

section
variable {m : Mx} {k : Nat} {z : Nat → Int} {s : List UInt8}
theorem value_at {a b d n0 : Nat} {f : Fm} (hl : logicB m m.n z = true) (hO : Ortho m z (fun c => (z c).toNat) n0) (ha : a < m.n) (hb : b < m.n) (hd : d < m.n) (hf : formB s = true) (he : fmOf s = some f) :
    valueV m m.n z s (a : Int) (b : Int) (d : Int) = ((valN m (fun c => (z c).toNat) n0 a b d f : Nat) : Int) :=
  valueV_yes hf he (by rw [hl, good_mk (by omega) (by omega) (by omega) (by omega)]; rfl) (by rw [hl, good_mk (by omega) (by omega) (by omega) (by omega)]; rfl) hO
end
end Go.Proofs.YtjmhhjdkemicbaaDoor
namespace Go.Proofs.YtjmhhjdkemicbaaDoor
open Go.RowKit Go.Deep

/-- The drawing of a set under way: the result's box, the logic's box, the reader, the logic itself. -/
structure SomeS (w : World) (rb : Nat) (A : Option Addr) (n c p x1 : Nat) (ua : Option Addr) (l : Lay) (m : Mx) (na : Option Addr) (g o k nc : Nat) (z : Nat → Int) (y : World) : Prop where
  res : TwoAt y w.heap.size (.slice none 0 0) (.slice none 0 0)
  box : TwoAt y x1 (.slice ua m.n l.cap) (.slice na k nc)
  rd : Rd y rb A n c p
  old : Chg (fun j => j = rb) w y
  log : LogAt y y.heap.size ua l m na g o k z
  lay : LayFrom (w.heap.size + 1) l m
  from_ : 0 < k → w.heap.size + 1 ≤ g
  hrb : rb < w.heap.size
  hx : w.heap.size < x1
  hxs : x1 < y.heap.size
  h12 : m.n ≤ 12
  hL : ∀ r, r < m.n → m.L r ≤ 12
  hk : k ≤ 12
theorem SomeS.pick {w : World} {rb : Nat} {A : Option Addr} {n c p p' x1 : Nat} {ua : Option Addr} {l : Lay} {m : Mx} {na : Option Addr} {g o k nc : Nat} {z : Nat → Int} {y y' : World} (h : SomeS w rb A n c p x1 ua l m na g o k nc z y) (ho : OnlyIn (· = rb) y y') (hr : Rd y' rb A n c p') : SomeS w rb A n c p' x1 ua l m na g o k nc z y' := by
  have hc := Chg.of_only ho
  have hs := ho.size
  have hrb := h.hrb
  have hx := h.hx
  refine ⟨hc.two h.res (by show ¬ (_ = rb); omega), hc.two h.box (by show ¬ (_ = rb); omega), hr, h.old.trans hc, ⟨(h.log.mat.only h.lay ho (fun j hj => by have hj' : j = rb := hj; omega)).more (by omega), ⟨fun i hi => ?_⟩, h.log.hn, h.log.hL, h.log.hk, Nat.le_refl _⟩, h.lay, h.from_, hrb, hx, by have := h.hxs; omega, h.h12, h.hL, h.hk⟩
  obtain ⟨e1, e2, e3⟩ := (h.log.row.only ho (fun e => by have e' : g = rb := e; have := h.from_ (by omega); omega)).row i hi
  exact ⟨e1, by omega, e3⟩
theorem SomeS.below {w : World} {rb : Nat} {A : Option Addr} {n c p x1 : Nat} {ua : Option Addr} {l : Lay} {m : Mx} {na : Option Addr} {g o k nc : Nat} {z : Nat → Int} {y y' : World} (h : SomeS w rb A n c p x1 ua l m na g o k nc z y) (hb : Below y.heap.size y y') : SomeS w rb A n c p x1 ua l m na g o k nc z y' := by
  have hc : Chg (fun _ => False) y y' := Chg.of_below hb fun j hj hB => absurd hj (by omega)
  have hs := hb.size
  have hrb := h.hrb
  have hx := h.hx
  have hl := h.log.step hb
  refine ⟨hc.two h.res (fun e => e), hc.two h.box (fun e => e), hc.rd h.rd (by have := h.hxs; omega) (fun e => e), h.old.trans (hc.mono fun _ e => e.elim), ⟨hl.mat.more hs, ⟨fun i hi => ?_⟩, hl.hn, hl.hL, hl.hk, Nat.le_refl _⟩, h.lay, h.from_, hrb, hx, by have := h.hxs; omega, h.h12, h.hL, h.hk⟩
  obtain ⟨e1, e2, e3⟩ := hl.row.row i hi
  exact ⟨e1, by omega, e3⟩
theorem SomeS.only {w : World} {rb : Nat} {A : Option Addr} {n c p x1 : Nat} {ua : Option Addr} {l : Lay} {m : Mx} {na : Option Addr} {g o k nc : Nat} {z : Nat → Int} {y y' : World} (h : SomeS w rb A n c p x1 ua l m na g o k nc z y) (ho : OnlyIn (fun _ => False) y y') : SomeS w rb A n c p x1 ua l m na g o k nc z y' :=
  h.below ((ho.below (B := y.heap.size) fun _ e => e.elim))
theorem OnlyIn.drew {S : Nat → Prop} {w w' : World} (h : OnlyIn S w w') : OnlyIn S w w'.drew := ⟨h.os, h.tape, h.output, h.size, h.block⟩
theorem SomeS.put {w : World} {rb : Nat} {A : Option Addr} {n c p x1 : Nat} {ua : Option Addr} {l : Lay} {m : Mx} {na : Option Addr} {g o k nc : Nat} {z : Nat → Int} {y : World} (h : SomeS w rb A n c p x1 ua l m na g o k nc z y) :
    LogAt ((y.setCell ⟨w.heap.size, 0, none⟩ (.slice ua m.n l.cap)).setCell ⟨w.heap.size, 1, none⟩ (.slice na k nc)) ((y.setCell ⟨w.heap.size, 0, none⟩ (.slice ua m.n l.cap)).setCell ⟨w.heap.size, 1, none⟩ (.slice na k nc)).heap.size ua l m na g o k z ∧ LayFrom w.heap.size l m ∧ (0 < k → w.heap.size ≤ g) ∧ m.n ≤ 12 ∧ (∀ r, r < m.n → m.L r ≤ 12) ∧ k ≤ 12 ∧
      Chg (fun j => j = rb) w ((y.setCell ⟨w.heap.size, 0, none⟩ (.slice ua m.n l.cap)).setCell ⟨w.heap.size, 1, none⟩ (.slice na k nc)) := by
  have hx := h.hx
  have hcS : Chg (fun j => j = w.heap.size) y ((y.setCell ⟨w.heap.size, 0, none⟩ (.slice ua m.n l.cap)).setCell ⟨w.heap.size, 1, none⟩ (.slice na k nc)) := (Chg.set (S := fun j => j = w.heap.size) rfl _).trans (Chg.set (S := fun j => j = w.heap.size) rfl _)
  have hoS := ((OnlyIn.refl (fun x => x = w.heap.size) y).set (b := w.heap.size) rfl 0 (.slice ua m.n l.cap)).set (b := w.heap.size) rfl 1 (.slice na k nc)
  have hsS := hoS.size
  refine ⟨⟨(h.log.mat.only h.lay hoS (fun j hj => by have hj' : j = w.heap.size := hj; omega)).more (by omega), ⟨fun i hi => ?_⟩, h.log.hn, h.log.hL, h.log.hk, Nat.le_refl _⟩, ⟨fun r hr => by have := h.lay.top r hr; omega, fun r hr c hc => by have := h.lay.row r hr c hc; omega⟩, fun h0 => by have := h.from_ h0; omega, h.h12, h.hL, h.hk,
    ⟨hcS.os.trans h.old.os, hcS.tape.trans h.old.tape, hcS.output.trans h.old.output, Nat.le_trans h.old.size hcS.size, fun j hj hs => (hcS.block j (by have := h.old.size; omega) (by show ¬ (_ = w.heap.size); omega)).trans (h.old.block j hj hs)⟩⟩
  obtain ⟨e1, e2, e3⟩ := (h.log.row.only hoS (fun e => by have e' : g = w.heap.size := e; have := h.from_ (by omega); omega)).row i hi
  exact ⟨e1, by omega, e3⟩
end Go.Proofs.YtjmhhjdkemicbaaDoor
namespace Go.Proofs.YtjmhhjdkemicbaaDoor
open Go.RowKit Go.Deep

/-- The drawing under way: the result's box, the logic's box, the reader, the logic itself. -/
structure AgS (w1 : World) (d rb : Nat) (A : Option Addr) (n c p x1 : Nat) (ua : Option Addr) (l : Lay) (m : Mx) (na : Option Addr) (g o k nc : Nat) (z : Nat → Int) (y : World) : Prop where
  res : TwoAt y d (.slice none 0 0) (.slice none 0 0)
  box : TwoAt y x1 (.slice ua m.n l.cap) (.slice na k nc)
  rd : Rd y rb A n c p
  old : Chg (fun j => j = rb) w1 y
  log : LogAt y y.heap.size ua l m na g o k z
  lay : LayFrom w1.heap.size l m
  from_ : 0 < k → w1.heap.size ≤ g
  hd : d < rb
  hrb : rb < w1.heap.size
  hx : w1.heap.size ≤ x1
  hxs : x1 < y.heap.size
  h12 : m.n ≤ 12
  hL : ∀ r, r < m.n → m.L r ≤ 12
  hk : k ≤ 12
theorem AgS.pick {w1 : World} {d rb n c p x1 : Nat} {A : Option Addr} {ua : Option Addr} {l : Lay} {m : Mx} {na : Option Addr} {g o k nc : Nat} {z : Nat → Int} {y : World} {y' : World} {p' : Nat} (h : AgS w1 d rb A n c p x1 ua l m na g o k nc z y) (ho : OnlyIn (· = rb) y y') (hr : Rd y' rb A n c p') : AgS w1 d rb A n c p' x1 ua l m na g o k nc z y' := by
  have hc := Chg.of_only ho
  have hs := ho.size
  have hd := h.hd
  have hrb := h.hrb
  have hx := h.hx
  refine ⟨hc.two h.res (by show ¬ (_ = rb); omega), hc.two h.box (by show ¬ (_ = rb); omega), hr, h.old.trans hc, ⟨(h.log.mat.only h.lay ho (fun j hj => by have hj' : j = rb := hj; omega)).more (by omega), ⟨fun i hi => ?_⟩, h.log.hn, h.log.hL, h.log.hk, Nat.le_refl _⟩, h.lay, h.from_, hd, hrb, hx, by have := h.hxs; omega, h.h12, h.hL, h.hk⟩
  obtain ⟨e1, e2, e3⟩ := (h.log.row.only ho (fun e => by have e' : g = rb := e; have := h.from_ (by omega); omega)).row i hi
  exact ⟨e1, by omega, e3⟩
theorem AgS.below {w1 : World} {d rb n c p x1 : Nat} {A : Option Addr} {ua : Option Addr} {l : Lay} {m : Mx} {na : Option Addr} {g o k nc : Nat} {z : Nat → Int} {y : World} {y' : World} (h : AgS w1 d rb A n c p x1 ua l m na g o k nc z y) (hb : Below y.heap.size y y') : AgS w1 d rb A n c p x1 ua l m na g o k nc z y' := by
  have hc : Chg (fun _ => False) y y' := Chg.of_below hb fun j hj hB => absurd hj (by omega)
  have hs := hb.size
  have hrb := h.hrb
  have hx := h.hx
  have hl := h.log.step hb
  refine ⟨hc.two h.res (fun e => e), hc.two h.box (fun e => e), hc.rd h.rd (by have := h.hxs; omega) (fun e => e), h.old.trans (hc.mono fun _ e => e.elim), ⟨hl.mat.more hs, ⟨fun i hi => ?_⟩, hl.hn, hl.hL, hl.hk, Nat.le_refl _⟩, h.lay, h.from_, h.hd, hrb, hx, by have := h.hxs; omega, h.h12, h.hL, h.hk⟩
  obtain ⟨e1, e2, e3⟩ := hl.row.row i hi
  exact ⟨e1, by omega, e3⟩
theorem AgS.fresh {w1 : World} {rb n c p x1 : Nat} {A : Option Addr} {ua : Option Addr} {l : Lay} {m : Mx} {na : Option Addr} {g o k nc : Nat} {z : Nat → Int} {y : World} {w : World} (h : AgS w1 w.heap.size rb A n c p x1 ua l m na g o k nc z y) (hb : Below w.heap.size w w1) :
    Fresh w ua l m na g o k z ((y.setCell ⟨w.heap.size, 0, none⟩ (.slice ua m.n l.cap)).setCell ⟨w.heap.size, 1, none⟩ (.slice na k nc)) := by
  have hoS := ((OnlyIn.refl (fun x => x = w.heap.size) y).set (b := w.heap.size) rfl 0 (.slice ua m.n l.cap)).set (b := w.heap.size) rfl 1 (.slice na k nc)
  have hsS := hoS.size
  have hd := h.hd
  have hrb := h.hrb
  refine ⟨⟨(h.log.mat.only h.lay hoS (fun j hj => by have hj' : j = w.heap.size := hj; omega)).more (by omega), ⟨fun i hi => ?_⟩, h.log.hn, h.log.hL, h.log.hk, Nat.le_refl _⟩, ⟨fun r hr => by have := h.lay.top r hr; omega, fun r hr c hc => by have := h.lay.row r hr c hc; omega⟩, fun h0 => by have := h.from_ h0; omega, h.h12, h.hL, h.hk, ?_⟩
  · obtain ⟨e1, e2, e3⟩ := (h.log.row.only hoS (fun e => by have e' : g = w.heap.size := e; have := h.from_ (by omega); omega)).row i hi
    exact ⟨e1, by omega, e3⟩
  · exact (hb.trans (h.old.below (by omega) fun j hj => by have hj' : j = rb := hj; omega)).trans (hoS.below fun j hj => by have hj' : j = w.heap.size := hj; omega)
end Go.Proofs.YtjmhhjdkemicbaaDoor
namespace Go.Proofs.YtjmhhjdkemicbaaDoor
open Go.RowKit Go.Deep

theorem MatAt.chg {S : Nat → Prop} {w w' : World} {B b0 : Nat} {a : Option Addr} {l : Lay} {m : Mx} (h : MatAt w B a l m) (hf : LayFrom b0 l m) (hc : Chg S w w') (hS : ∀ j, S j → j < b0) : MatAt w' B a l m :=
  ⟨fun r hr => by
    obtain ⟨e1, e2, e3⟩ := h.top r hr
    exact ⟨e1, e2, hc.at_ (p := ⟨l.b, l.o + r, none⟩) (fun hs => by have := hS _ hs; have := hf.top r hr; have : l.b < b0 := hS _ hs; omega) e3⟩,
  fun r hr c hcc => by
    obtain ⟨e1, e2, e3⟩ := h.row r hr c hcc
    exact ⟨e1, e2, hc.at_ (p := ⟨l.G r, l.O r + c, none⟩) (fun hs => by have : l.G r < b0 := hS _ hs; have := hf.row r hr c hcc; omega) e3⟩⟩
theorem AgS.chg {w1 : World} {d rb n c p x1 : Nat} {A : Option Addr} {ua : Option Addr} {l : Lay} {m : Mx} {na : Option Addr} {g o k nc : Nat} {z : Nat → Int} {y y' : World} {p' : Nat} (h : AgS w1 d rb A n c p x1 ua l m na g o k nc z y) (hc : Chg (fun j => j = rb) y y') (hr : Rd y' rb A n c p') : AgS w1 d rb A n c p' x1 ua l m na g o k nc z y' := by
  have hs := hc.size
  have hd := h.hd
  have hrb := h.hrb
  have hx := h.hx
  refine ⟨hc.two h.res (by show ¬ (_ = rb); omega), hc.two h.box (by show ¬ (_ = rb); omega), hr, h.old.trans hc, ⟨(h.log.mat.chg h.lay hc (fun j hj => by have hj' : j = rb := hj; omega)).more (by omega), ⟨fun i hi => ?_⟩, h.log.hn, h.log.hL, h.log.hk, Nat.le_refl _⟩, h.lay, h.from_, hd, hrb, hx, by have := h.hxs; omega, h.h12, h.hL, h.hk⟩
  obtain ⟨e1, e2, e3⟩ := h.log.row.row i hi
  have hg := h.from_ (by omega)
  exact ⟨e1, by omega, hc.at_ (p := ⟨g, o + i, none⟩) (by show ¬ (g = rb); omega) e3⟩
/-- A logic and a text (and three numbers) drawn. -/
def DrewS (w : World) (e : Ending) (w' : World) : Prop :=
  ∃ (ua : Option Addr) (l : Lay) (m : Mx) (na : Option Addr) (g o k nc : Nat) (z : Nat → Int) (s : ByteArray), e = .returned (.tuple #[.agg #[.slice ua m.n l.cap, .slice na k nc], .string s]) ∧ s.size ≤ 60 ∧ Fresh w ua l m na g o k z w'
set_option maxRecDepth 100000 in
set_option maxHeartbeats 4000000 in
theorem draw_AlwaysOk {A : Option Addr} {b o n cap : Nat} {z : Nat → Nat} {w : World} (h : CodeAt w A b o n cap z) :
    Calls Tryd.prog 4 #[.slice A n cap] w (DrewS w) := by
  have hT := TwoAt.new w (.slice none 0 0) (.slice none 0 0) 26
  have hbA := (Below.refl w.heap.size w).alloc (Nat.le_refl _) (.cells #[.slice none 0 0, .slice none 0 0] 26)
  have hc := h.alloc (.cells #[.slice none 0 0, .slice none 0 0] 26)
  go_enter Tryd.func4, Tryd.ntmps4
  go_wp2_with fail
  go_at_call 13
  refine (l20Open_any hc).mono ?_
  rintro e w1 ⟨A1, b1, o1, n1, c1, z1, rfl, hn1, hR, hz, hb, hs⟩
  have hsA : (w.alloc (.cells #[.slice none 0 0, .slice none 0 0] 26)).heap.size = w.heap.size + 1 := by simp
  have hT1 := hT.below hb (by omega)
  rw [hsA] at hR hz hs hb
  have hs' : w.heap.size + 1 < w1.heap.size := by omega
  have hbw : Below w.heap.size w w1 := hbA.trans (hb.mono (by omega))
  have HZ := Lib.hid hz
  have HBY : ∀ {wx : World}, Chg (fun j => j = w.heap.size + 1) w1 wx → BytesAt wx (w.heap.size + 1) A1 b1 o1 n1 z1 := fun hG => HZ.out.below (hG.below (by omega) (fun j hj => by have hj' : j = w.heap.size + 1 := hj; omega))
  have hbw9 := Lib.hid hbw
  clear h hc hT hs hbA hb hbw
  go_wp2_with fail
  go_at_call 14
  refine (l20Logic_any (by omega) (by omega) (by omega) hn1 hR hz (Nat.le_refl _) hs').mono ?_
  rintro e w2 ⟨ua, l, m, na, g, o2, k, nc, zz, p, rfl, hlog, hf, hg, hn, hL, hk, hR2, hp, hC⟩
  have hs2 := hC.size
  have hrb2 : w.heap.size + 1 < w2.heap.size := by omega
  have hH := Lib.hid hn1
  have HLg := Lib.hid hlog
  have HFr := Lib.hid hf
  have HG := Lib.hid hg
  have HL := Lib.hid hL
  clear hlog hf hg hL hR hz
  go_wp2_with fail
  go_at_call 15
  refine (formed_any (q := 14) (by omega) (by omega) (by omega) hH.out hR2 (HBY hC) (Nat.le_refl _) hrb2).mono ?_
  rintro e w3 ⟨s, p2, rfl, hs60, hR3, hp2, hC3⟩
  have hs3 := hC3.size
  have hT3 := hC3.two (hC.two hT1 (by show ¬ (w.heap.size = w.heap.size + 1); omega)) (by show ¬ (w.heap.size = w.heap.size + 1); omega)
  have hlog3 : LogAt w3 w3.heap.size ua l m na g o2 k zz := by
    refine ⟨(HLg.out.mat.chg HFr.out hC3 (fun j hj => by have hj' : j = w.heap.size + 1 := hj; omega)).more (by omega), ⟨fun i hi => ?_⟩, HLg.out.hn, HLg.out.hL, HLg.out.hk, Nat.le_refl _⟩
    obtain ⟨e1, e2, e3⟩ := HLg.out.row.row i hi
    have hg := HG.out (by omega)
    exact ⟨e1, by omega, hC3.at_ (p := ⟨g, o2 + i, none⟩) (by show ¬ (g = w.heap.size + 1); omega) e3⟩
  have hold : Below w.heap.size w w3 := hbw9.out.trans ((hC.trans hC3).below (by omega) fun j hj => by have hj' : j = w.heap.size + 1 := hj; omega)
  have d0 := hT3.c0
  have d1 := hT3.c1
  have d2 := hT3.f0
  have d3 := hT3.f1
  have hfin := (hT3.set0 (.slice ua m.n l.cap)).set1 (.slice na k nc)
  have t0 := hfin.c0
  have t1 := hfin.c1
  have hoS := ((OnlyIn.refl (fun x => x = w.heap.size) w3).set (b := w.heap.size) rfl 0 (.slice ua m.n l.cap)).set (b := w.heap.size) rfl 1 (.slice na k nc)
  have hsS := hoS.size
  have hall : Hid (Fresh w ua l m na g o2 k zz ((w3.setCell ⟨w.heap.size, 0, none⟩ (.slice ua m.n l.cap)).setCell ⟨w.heap.size, 1, none⟩ (.slice na k nc))) := by
    refine ⟨⟨(hlog3.mat.only HFr.out hoS (fun j hj => by have hj' : j = w.heap.size := hj; omega)).more (by omega), ⟨fun i hi => ?_⟩, hlog3.hn, hlog3.hL, hlog3.hk, Nat.le_refl _⟩, ⟨fun r hr => by have := HFr.out.top r hr; omega, fun r hr c hc => by have := HFr.out.row r hr c hc; omega⟩, fun h0 => by have := HG.out h0; omega, hn, HL.out, hk, ?_⟩
    · obtain ⟨e1, e2, e3⟩ := (hlog3.row.only hoS (fun e => by have e' : g = w.heap.size := e; have := HG.out (by omega); omega)).row i hi
      exact ⟨e1, by omega, e3⟩
    · exact hold.trans (hoS.below fun j hj => by have hj' : j = w.heap.size := hj; omega)
  clear hlog3 hold hfin hoS hT3 hC hC3 hR2 hR3 hT1
  go_wp2_with fail
  exact bodyPost_ret (v := .tuple #[.agg #[.slice ua m.n l.cap, .slice na k nc], .string s]) (by simp [results, Tryd.results4, go_sem, t0, t1]) rfl ⟨ua, l, m, na, g, o2, k, nc, zz, s, rfl, hs60, hall.out⟩
end Go.Proofs.YtjmhhjdkemicbaaDoor
namespace Go.Proofs.YtjmhhjdkemicbaaDoor
open Go.RowKit Go.Deep

theorem list_shape {W : World} {base : Nat} {v : Value} {L : List Int} (h : W.ownsRow base 3 1 v L.length (L.map (Value.int .i64))) : ∃ a c, v = .slice a L.length c := by
  rcases h.2 with ⟨e1, e2⟩ | ⟨g9, c9, _, e1, _⟩
  · exact ⟨none, 0, by rw [e1, e2]⟩
  · exact ⟨_, c9, e1⟩
end Go.Proofs.YtjmhhjdkemicbaaDoor
namespace Go.Proofs.YtjmhhjdkemicbaaDoor
open Go.RowKit Go.Deep

theorem always_text {m : Mx} {k n0 : Nat} {z : Nat → Int} (f : Fm) (hl : logicB m k z = true) (hO : Ortho m z (fun c => (z c).toNat) n0) (h60 : f.text.length ≤ 60) : alwaysV m k z f.text = alwaysB m (fun c => (z c).toNat) n0 f :=
  alwaysV_yes hl (form_mk h60) (fmOf_text f) hO
theorem alwaysV_parts {m : Mx} {k n0 : Nat} {z : Nat → Int} {s : List UInt8} (h : alwaysV m k z s = true) (hO : Ortho m z (fun c => (z c).toNat) n0) : ∃ f, formB s = true ∧ fmOf s = some f ∧ alwaysB m (fun c => (z c).toNat) n0 f = true := by
  unfold alwaysV at h
  rw [Bool.and_eq_true] at h
  obtain ⟨_, h2⟩ := h
  cases e : fmOf s with
  | none => rw [e] at h2; cases h2
  | some f =>
    rw [e] at h2
    have h2 : (formB s && alwaysB m (fun c => (z c).toNat) (leastI m).toNat f) = true := h2
    rw [Bool.and_eq_true, hO.eq, Int.toNat_natCast] at h2
    exact ⟨f, h2.1, rfl, h2.2⟩
set_option maxRecDepth 100000 in
set_option maxHeartbeats 8000000 in
theorem law_AlwaysOk {A : Option Addr} {b o n cap : Nat} {z : Nat → Nat} {w : World} (h : CodeAt w A b o n cap z) (hT : TabOk w) :
    Calls Tryd.prog 3 #[.slice A n cap] w fun e w' => e = .returned (.bool true) ∧ Below w.heap.size w w' := by
  have hn := h.hn
  have hc := h.hc
  by_cases hbig : 1048576 < n
  · have hbig' : (1048576 : Int) < n := by omega
    clear h hT
    go_enter Tryd.func3, Tryd.ntmps3
    go_wp2_with fail
    go_ret
    exact ⟨rfl, Below.refl _ _⟩
  have hbig' : ¬ (1048576 : Int) < n := by omega
  have HT := Lib.hid hT
  clear hT
  go_enter Tryd.func3, Tryd.ntmps3
  go_wp2_with fail
  go_at_call 4
  refine (draw_AlwaysOk h).mono ?_
  rintro e w1 ⟨ua, l, m, na, g, o2, k, nc, zz, s, rfl, hs60, hF⟩
  have H1 := Held.start hF nc
  clear h hF
  have q0 := H1.box.c0
  have q1 := H1.box.c1
  go_wp2_with fail
  go_at_call 5
  refine (AlwaysOk_any H1.log s (by omega)).mono ?_
  rintro e w2 ⟨rfl, b2⟩
  have H2 := H1.step b2
  clear H1 q0 q1 b2
  have q0 := H2.box.c0
  have q1 := H2.box.c1
  obtain ⟨V, hV⟩ : ∃ V, alwaysV m k zz s.data.toList = V := ⟨_, rfl⟩
  rw [hV]
  have HV := Lib.hid hV
  clear hV
  have hVV : (V != V) = false := by cases V <;> rfl
  go_wp2_with fail
  go_at_call 6
  refine (spec_AlwaysOk H2.log s (by omega)).mono ?_
  rintro e w3 ⟨rfl, b3⟩
  rw [HV.out]
  have H3 := H2.step b3
  clear H2 q0 q1 b3
  have q0 := H3.box.c0
  have q1 := H3.box.c1
  go_wp2_with fail
  go_at_call 7
  refine (spec_LogicOk H3.log).mono ?_
  rintro e w4 ⟨rfl, b4⟩
  have H4 := H3.step b4
  clear H3 q0 q1 b4
  have q0 := H4.box.c0
  have q1 := H4.box.c1
  cases hl : logicB m k zz with
  | false =>
    obtain rfl : V = false := HV.out.symm.trans (alwaysV_nol hl)
    clear hl HV
    go_wp2_with fail
    go_at_call 8
    refine (alive_any _).mono ?_
    rintro e w5 ⟨rfl, b5⟩
    have H5 := H4.step b5
    go_wp2_with fail
    go_ret
    exact ⟨rfl, H5.old⟩
  | true =>
    obtain ⟨y0, n0, hO0⟩ := (logicB_is hl).ortho
    have hkn : k = m.n := (logicB_is hl).pair.len
    subst hkn
    have hO := hO0.own
    have hn12 := hO.lat.order.top
    have hpos := hO.lat.order.pos
    have HA1 : Hid (alwaysV m m.n zz (ByteArray.mk #[40, 97, 124, 33, 97, 41]).data.toList = true) := (always_text fmMid hl hO (by decide)).trans hO.always_mid
    have HA2 : Hid (alwaysV m m.n zz (ByteArray.mk #[33, 40, 97, 38, 33, 97, 41]).data.toList = true) := (always_text fmNot hl hO (by decide)).trans hO.always_not
    obtain ⟨Wb, hWb⟩ : ∃ Wb, alwaysB m (fun c => (zz c).toNat) n0 fmFour = Wb := ⟨_, rfl⟩
    have HA3 : Hid (alwaysV m m.n zz (ByteArray.mk #[40, 40, 97, 38, 98, 41, 124, 40, 40, 97, 38, 33, 98, 41, 124, 40, 40, 33, 97, 38, 98, 41, 124, 40, 33, 97, 38, 33, 98, 41, 41, 41, 41]).data.toList = Wb) := (always_text fmFour hl hO (by decide)).trans hWb
    have HY : Hid (yesV m m.n zz = (((zz n0).toNat : Nat) : Int)) := hO.yesV hl
    obtain ⟨Kb, hKb⟩ : ∃ Kb, keepsV m m.n zz = Kb := ⟨_, rfl⟩
    have HK := Lib.hid hKb
    obtain ⟨N, hN⟩ : ∃ N, (blocksV m m.n zz).length = N := ⟨_, rfl⟩
    have HNl := Lib.hid hN
    have HNw : Hid (Kb = true → Wb = decide (N = 1)) := fun e => by
      have hk : keepsB m (fun c => (zz c).toNat) = true := by rw [← keepsV_is hO, hKb, e]
      rw [← hWb, hO.always_four hk, ← hN]
      unfold blocksV
      rw [if_pos hl]
    have hN4 : N ≤ 4096 := by
      rw [← hN]
      unfold blocksV
      rw [if_pos hl]
      exact Nat.le_trans (listTo_len _ _) (pow_le_12 hO.lat.order.top)
    have HVal : V = true → Hid (valueV m m.n zz s.data.toList (0 : Int) ((m.n - 1 : Nat) : Int) (0 : Int) = (((zz n0).toNat : Nat) : Int)) := fun e => by
      obtain ⟨f, h1, h2, h3⟩ := alwaysV_parts (HV.out.trans e) hO
      have h9 := value_at (a := 0) (b := m.n - 1) (d := 0) hl hO hpos (by omega) hpos h1 h2
      rw [always_iff.1 h3 0 (m.n - 1) 0 hpos (by omega) hpos] at h9
      exact h9
    have HW1 : Hid (IntKind.i64.wrap ((m.n : Int) - 1) = ((m.n - 1 : Nat) : Int)) := by show _ = _; simp (disch := omega) only [IntWalk.i64_in]; omega
    clear hl hO hO0 hWb hKb hN HV hVV
    go_wp2_with fail
    go_at_call 5
    refine (AlwaysOk_any H4.log ⟨#[40, 97, 124, 33, 97, 41]⟩ (by decide)).mono ?_
    rintro e w5 ⟨rfl, b5⟩
    rw [HA1.out]
    have H5 := H4.step b5
    clear H4 q0 q1 b5
    have q0 := H5.box.c0
    have q1 := H5.box.c1
    go_wp2_with fail
    go_at_call 5
    refine (AlwaysOk_any H5.log ⟨#[33, 40, 97, 38, 33, 97, 41]⟩ (by decide)).mono ?_
    rintro e w6 ⟨rfl, b6⟩
    rw [HA2.out]
    have H6 := H5.step b6
    clear H5 q0 q1 b6
    have q0 := H6.box.c0
    have q1 := H6.box.c1
    cases V with
    | false =>
      clear HVal
      go_wp2_with fail
      have Hd := Lib.hid (H6.step (Below.refl _ w6).drew)
      have K0 : (fun w' => w'.cell? ⟨w1.heap.size, 0, none⟩ = some (.slice ua m.n l.cap) ∧ w'.cell? ⟨w1.heap.size, 1, none⟩ = some (.slice na m.n nc)) w6.drew := ⟨Hd.out.box.c0, Hd.out.box.c1⟩
      clear H6 q0 q1
      refine region_plain (fuel := 13) (listed := #[false, false, false, false, false, false, false, false, false, false, false, false, false]) (fun w' => w'.cell? ⟨w1.heap.size, 0, none⟩ = some (.slice ua m.n l.cap) ∧ w'.cell? ⟨w1.heap.size, 1, none⟩ = some (.slice na m.n nc)) (by kernel_rfl) (by kernel_rfl) (by kernel_rfl) ?_
      refine hold_take (i := 0) (d := 39) (v := ?vA0) (listed' := #[true, false, false, false, false, false, false, false, false, false, false, false, false]) rfl (by kernel_rfl) (by kernel_rfl) (by kernel_rfl) rfl (by rfl) (by kernel_rfl) K0 ?hA0 ?rA0
      case hA0 =>
        intro w' hSw
        obtain ⟨k0, k1⟩ := hSw
        go_simp
        try with_reducible rfl
      simp only [List.setIfInBounds_toArray, List.set_cons_zero, List.set_cons_succ]
      refine hold_take (i := 1) (d := 40) (v := ?vA1) (listed' := #[true, true, false, false, false, false, false, false, false, false, false, false, false]) rfl (by kernel_rfl) (by kernel_rfl) (by kernel_rfl) rfl (by rfl) (by kernel_rfl) K0 ?hA1 ?rA1
      case hA1 =>
        intro w' hSw
        obtain ⟨k0, k1⟩ := hSw
        go_simp
        try with_reducible rfl
      simp only [List.setIfInBounds_toArray, List.set_cons_zero, List.set_cons_succ]
      refine hold_skip (i := 2) (d := 41) (listed' := #[true, true, true, false, false, false, false, false, false, false, false, false, false]) rfl (by kernel_rfl) (by kernel_rfl) (by kernel_rfl) rfl (by rfl) (by kernel_rfl) K0 ?_
      simp only [List.setIfInBounds_toArray, List.set_cons_zero, List.set_cons_succ]
      refine hold_skip (i := 3) (d := 42) (listed' := #[true, true, true, true, false, false, false, false, false, false, false, false, false]) rfl (by kernel_rfl) (by kernel_rfl) (by kernel_rfl) rfl (by rfl) (by kernel_rfl) K0 ?_
      simp only [List.setIfInBounds_toArray, List.set_cons_zero, List.set_cons_succ]
      refine hold_skip (i := 4) (d := 43) (listed' := #[true, true, true, true, true, false, false, false, false, false, false, false, false]) rfl (by kernel_rfl) (by kernel_rfl) (by kernel_rfl) rfl (by rfl) (by kernel_rfl) K0 ?_
      simp only [List.setIfInBounds_toArray, List.set_cons_zero, List.set_cons_succ]
      refine hold_skip (i := 5) (d := 44) (listed' := #[true, true, true, true, true, true, false, false, false, false, false, false, false]) rfl (by kernel_rfl) (by kernel_rfl) (by kernel_rfl) rfl (by rfl) (by kernel_rfl) K0 ?_
      simp only [List.setIfInBounds_toArray, List.set_cons_zero, List.set_cons_succ]
      refine hold_skip (i := 6) (d := 45) (listed' := #[true, true, true, true, true, true, true, false, false, false, false, false, false]) rfl (by kernel_rfl) (by kernel_rfl) (by kernel_rfl) rfl (by rfl) (by kernel_rfl) K0 ?_
      simp only [List.setIfInBounds_toArray, List.set_cons_zero, List.set_cons_succ]
      refine hold_skip (i := 7) (d := 46) (listed' := #[true, true, true, true, true, true, true, true, false, false, false, false, false]) rfl (by kernel_rfl) (by kernel_rfl) (by kernel_rfl) rfl (by rfl) (by kernel_rfl) K0 ?_
      simp only [List.setIfInBounds_toArray, List.set_cons_zero, List.set_cons_succ]
      refine hold_skip (i := 9) (d := 48) (listed' := #[true, true, true, true, true, true, true, true, false, true, false, false, false]) rfl (by kernel_rfl) (by kernel_rfl) (by kernel_rfl) rfl (by rfl) (by kernel_rfl) K0 ?_
      simp only [List.setIfInBounds_toArray, List.set_cons_zero, List.set_cons_succ]
      refine hold_skip (i := 8) (d := 47) (listed' := #[true, true, true, true, true, true, true, true, true, true, false, false, false]) rfl (by kernel_rfl) (by kernel_rfl) (by kernel_rfl) rfl (by rfl) (by kernel_rfl) K0 ?_
      simp only [List.setIfInBounds_toArray, List.set_cons_zero, List.set_cons_succ]
      refine hold_skip (i := 10) (d := 49) (listed' := #[true, true, true, true, true, true, true, true, true, true, true, false, false]) rfl (by kernel_rfl) (by kernel_rfl) (by kernel_rfl) rfl (by rfl) (by kernel_rfl) K0 ?_
      simp only [List.setIfInBounds_toArray, List.set_cons_zero, List.set_cons_succ]
      refine hold_skip (i := 11) (d := 50) (listed' := #[true, true, true, true, true, true, true, true, true, true, true, true, false]) rfl (by kernel_rfl) (by kernel_rfl) (by kernel_rfl) rfl (by rfl) (by kernel_rfl) K0 ?_
      simp only [List.setIfInBounds_toArray, List.set_cons_zero, List.set_cons_succ]
      refine hold_take (i := 12) (d := 51) (v := ?vA12) (listed' := #[true, true, true, true, true, true, true, true, true, true, true, true, true]) rfl (by kernel_rfl) (by kernel_rfl) (by kernel_rfl) rfl (by rfl) (by kernel_rfl) K0 ?hA12 ?rA12
      case hA12 =>
        intro w' hSw
        obtain ⟨k0, k1⟩ := hSw
        go_simp
        try with_reducible rfl
      simp only [List.setIfInBounds_toArray, List.set_cons_zero, List.set_cons_succ]
      refine hold_done (by kernel_rfl) ?_ _
      have q0 := Hd.out.box.c0
      have q1 := Hd.out.box.c1
      go_wp2_with fail
      go_at_call 5
      refine (AlwaysOk_any Hd.out.log ⟨#[40, 40, 97, 38, 98, 41, 124, 40, 40, 97, 38, 33, 98, 41, 124, 40, 40, 33, 97, 38, 98, 41, 124, 40, 33, 97, 38, 33, 98, 41, 41, 41, 41]⟩ (by decide)).mono ?_
      rintro e w7 ⟨rfl, b7⟩
      rw [HA3.out]
      have H7 := Hd.out.step b7
      clear Hd q0 q1 b7
      have q0 := H7.box.c0
      have q1 := H7.box.c1
      go_wp2_with fail
      go_at_call 11
      refine (spec_KeepsOk H7.log).mono ?_
      rintro e w8 ⟨rfl, b8⟩
      rw [HK.out]
      have H8 := H7.step b8
      clear H7 q0 q1 b8
      have q0 := H8.box.c0
      have q1 := H8.box.c1
      cases Kb with
      | false =>
        go_wp2_with fail
        go_ret
        exact ⟨rfl, H8.old⟩
      | true =>
        have HWd := Lib.hid (HNw.out rfl)
        clear HNw
        go_wp2_with fail
        go_at_call 12
        refine (BlocksOf_any H8.log (HT.out.step H8.old HT.out.size)).mono ?_
        rintro e w9 ⟨vb, rfl, hvb, b9⟩
        have H9 := H8.step b9
        obtain ⟨ab, cb, rfl⟩ := list_shape hvb
        rw [HNl.out]
        clear H8 q0 q1 hvb b9
        have HWe : Hid ((Wb == decide ((N : Int) = 1)) = true) := by
          show _ = _
          rw [HWd.out]
          have : decide ((N : Int) = 1) = decide (N = 1) := by rw [decide_eq_decide]; omega
          rw [this]; simp
        have hWe := HWe.out
        by_cases h1 : N = 1
        · obtain rfl : Wb = true := by rw [HWd.out]; exact decide_eq_true h1
          subst h1
          go_wp2_with fail
          go_ret
          exact ⟨rfl, H9.old⟩
        · obtain rfl : Wb = false := by rw [HWd.out]; exact decide_eq_false h1
          have h1' : ¬ (N : Int) = 1 := by omega
          have h1b : ((N : Int) == 1) = false := beq_eq_false_iff_ne.2 h1'
          go_wp2_with fail
          go_ret
          exact ⟨rfl, H9.old⟩
    | true =>
      have HVs := HVal rfl
      clear HVal
      go_wp2_with fail
      have Hd := Lib.hid (H6.step (Below.refl _ w6).drew)
      have K0 : (fun w' => w'.cell? ⟨w1.heap.size, 0, none⟩ = some (.slice ua m.n l.cap) ∧ w'.cell? ⟨w1.heap.size, 1, none⟩ = some (.slice na m.n nc)) w6.drew := ⟨Hd.out.box.c0, Hd.out.box.c1⟩
      clear H6 q0 q1
      refine region_plain (fuel := 13) (listed := #[false, false, false, false, false, false, false, false, false, false, false, false, false]) (fun w' => w'.cell? ⟨w1.heap.size, 0, none⟩ = some (.slice ua m.n l.cap) ∧ w'.cell? ⟨w1.heap.size, 1, none⟩ = some (.slice na m.n nc)) (by kernel_rfl) (by kernel_rfl) (by kernel_rfl) ?_
      refine hold_take (i := 0) (d := 39) (v := ?vB0) (listed' := #[true, false, false, false, false, false, false, false, false, false, false, false, false]) rfl (by kernel_rfl) (by kernel_rfl) (by kernel_rfl) rfl (by rfl) (by kernel_rfl) K0 ?hB0 ?rB0
      case hB0 =>
        intro w' hSw
        obtain ⟨k0, k1⟩ := hSw
        go_simp
        try with_reducible rfl
      simp only [List.setIfInBounds_toArray, List.set_cons_zero, List.set_cons_succ]
      refine hold_take (i := 1) (d := 40) (v := ?vB1) (listed' := #[true, true, false, false, false, false, false, false, false, false, false, false, false]) rfl (by kernel_rfl) (by kernel_rfl) (by kernel_rfl) rfl (by rfl) (by kernel_rfl) K0 ?hB1 ?rB1
      case hB1 =>
        intro w' hSw
        obtain ⟨k0, k1⟩ := hSw
        go_simp
        try with_reducible rfl
      simp only [List.setIfInBounds_toArray, List.set_cons_zero, List.set_cons_succ]
      refine hold_take (i := 2) (d := 41) (v := ?vB2) (listed' := #[true, true, true, false, false, false, false, false, false, false, false, false, false]) rfl (by kernel_rfl) (by kernel_rfl) (by kernel_rfl) rfl (by rfl) (by kernel_rfl) K0 ?hB2 ?rB2
      case hB2 =>
        intro w' hSw
        obtain ⟨k0, k1⟩ := hSw
        go_simp
        try with_reducible rfl
      simp only [List.setIfInBounds_toArray, List.set_cons_zero, List.set_cons_succ]
      refine hold_take (i := 3) (d := 42) (v := ?vB3) (listed' := #[true, true, true, true, false, false, false, false, false, false, false, false, false]) rfl (by kernel_rfl) (by kernel_rfl) (by kernel_rfl) rfl (by rfl) (by kernel_rfl) K0 ?hB3 ?rB3
      case hB3 =>
        intro w' hSw
        obtain ⟨k0, k1⟩ := hSw
        go_simp
        try with_reducible rfl
      simp only [List.setIfInBounds_toArray, List.set_cons_zero, List.set_cons_succ]
      refine hold_take (i := 4) (d := 43) (v := ?vB4) (listed' := #[true, true, true, true, true, false, false, false, false, false, false, false, false]) rfl (by kernel_rfl) (by kernel_rfl) (by kernel_rfl) rfl (by rfl) (by kernel_rfl) K0 ?hB4 ?rB4
      case hB4 =>
        intro w' hSw
        obtain ⟨k0, k1⟩ := hSw
        go_simp
        try with_reducible rfl
      simp only [List.setIfInBounds_toArray, List.set_cons_zero, List.set_cons_succ]
      refine hold_take (i := 5) (d := 44) (v := ?vB5) (listed' := #[true, true, true, true, true, true, false, false, false, false, false, false, false]) rfl (by kernel_rfl) (by kernel_rfl) (by kernel_rfl) rfl (by rfl) (by kernel_rfl) K0 ?hB5 ?rB5
      case hB5 =>
        intro w' hSw
        obtain ⟨k0, k1⟩ := hSw
        go_simp
        try with_reducible rfl
      simp only [List.setIfInBounds_toArray, List.set_cons_zero, List.set_cons_succ]
      refine hold_take (i := 6) (d := 45) (v := ?vB6) (listed' := #[true, true, true, true, true, true, true, false, false, false, false, false, false]) rfl (by kernel_rfl) (by kernel_rfl) (by kernel_rfl) rfl (by rfl) (by kernel_rfl) K0 ?hB6 ?rB6
      case hB6 =>
        intro w' hSw
        obtain ⟨k0, k1⟩ := hSw
        go_simp
        try with_reducible rfl
      simp only [List.setIfInBounds_toArray, List.set_cons_zero, List.set_cons_succ]
      refine hold_take (i := 7) (d := 46) (v := .int .i64 ((m.n - 1 : Nat) : Int)) (listed' := #[true, true, true, true, true, true, true, true, false, false, false, false, false]) rfl (by kernel_rfl) (by kernel_rfl) (by kernel_rfl) rfl (by rfl) (by kernel_rfl) K0 ?hB7 ?rB7
      case hB7 =>
        intro w' hSw
        obtain ⟨k0, k1⟩ := hSw
        go_simp
        first | done | (simp only [HW1.out]; done) | (rw [HW1.out]; done) | (simp; omega)
      simp only [List.setIfInBounds_toArray, List.set_cons_zero, List.set_cons_succ]
      refine hold_take (i := 9) (d := 48) (v := ?vB9) (listed' := #[true, true, true, true, true, true, true, true, false, true, false, false, false]) rfl (by kernel_rfl) (by kernel_rfl) (by kernel_rfl) rfl (by rfl) (by kernel_rfl) K0 ?hB9 ?rB9
      case hB9 =>
        intro w' hSw
        obtain ⟨k0, k1⟩ := hSw
        go_simp
        try with_reducible rfl
      simp only [List.setIfInBounds_toArray, List.set_cons_zero, List.set_cons_succ]
      refine hold_call (i := 8) (d := 47) (listed' := #[true, true, true, true, true, true, true, true, true, true, false, false, false]) rfl (by kernel_rfl) rfl (by rfl) (by kernel_rfl) ?heB8 (ValueOf_any (nc := nc) (x := (0 : Int)) (v := ((m.n - 1 : Nat) : Int)) (t := (0 : Int)) Hd.out.log s (by omega)) ?hcB8
      case heB8 => go_simp
      rintro e y1 ⟨rfl, bb1⟩
      rw [HVs.out]
      have G1 := Lib.hid (Hd.out.step bb1)
      have K1 : (fun w' => w'.cell? ⟨w1.heap.size, 0, none⟩ = some (.slice ua m.n l.cap) ∧ w'.cell? ⟨w1.heap.size, 1, none⟩ = some (.slice na m.n nc)) y1 := ⟨G1.out.box.c0, G1.out.box.c1⟩
      clear K0 bb1
      refine ⟨_, rfl, K1, ?_⟩
      simp only [List.setIfInBounds_toArray, List.set_cons_zero, List.set_cons_succ]
      refine hold_call (i := 10) (d := 49) (listed' := #[true, true, true, true, true, true, true, true, true, true, true, false, false]) rfl (by kernel_rfl) rfl (by rfl) (by kernel_rfl) ?heB10 (YesOf_any (nc := nc) G1.out.log) ?hcB10
      case heB10 => go_simp
      rintro e y2 ⟨rfl, bb2⟩
      rw [HY.out]
      have G2 := Lib.hid (G1.out.step bb2)
      have K2 : (fun w' => w'.cell? ⟨w1.heap.size, 0, none⟩ = some (.slice ua m.n l.cap) ∧ w'.cell? ⟨w1.heap.size, 1, none⟩ = some (.slice na m.n nc)) y2 := ⟨G2.out.box.c0, G2.out.box.c1⟩
      clear K1 bb2
      refine ⟨_, rfl, K2, ?_⟩
      simp only [List.setIfInBounds_toArray, List.set_cons_zero, List.set_cons_succ]
      refine hold_take (i := 11) (d := 50) (v := .bool false) (listed' := #[true, true, true, true, true, true, true, true, true, true, true, true, false]) rfl (by kernel_rfl) (by kernel_rfl) (by kernel_rfl) rfl (by rfl) (by kernel_rfl) K2 ?hB11 ?rB11
      case hB11 =>
        intro w' hSw
        obtain ⟨k0, k1⟩ := hSw
        go_simp
        first | done | with_reducible rfl | (simp; done)
      simp only [List.setIfInBounds_toArray, List.set_cons_zero, List.set_cons_succ]
      refine hold_take (i := 12) (d := 51) (v := ?vB12) (listed' := #[true, true, true, true, true, true, true, true, true, true, true, true, true]) rfl (by kernel_rfl) (by kernel_rfl) (by kernel_rfl) rfl (by rfl) (by kernel_rfl) K2 ?hB12 ?rB12
      case hB12 =>
        intro w' hSw
        obtain ⟨k0, k1⟩ := hSw
        go_simp
        try with_reducible rfl
      simp only [List.setIfInBounds_toArray, List.set_cons_zero, List.set_cons_succ]
      refine hold_done (by kernel_rfl) ?_ _
      have q0 := G2.out.box.c0
      have q1 := G2.out.box.c1
      go_wp2_with fail
      go_at_call 5
      refine (AlwaysOk_any G2.out.log ⟨#[40, 40, 97, 38, 98, 41, 124, 40, 40, 97, 38, 33, 98, 41, 124, 40, 40, 33, 97, 38, 98, 41, 124, 40, 33, 97, 38, 33, 98, 41, 41, 41, 41]⟩ (by decide)).mono ?_
      rintro e w7 ⟨rfl, b7⟩
      rw [HA3.out]
      have H7 := G2.out.step b7
      clear G2 q0 q1 b7
      have q0 := H7.box.c0
      have q1 := H7.box.c1
      go_wp2_with fail
      go_at_call 11
      refine (spec_KeepsOk H7.log).mono ?_
      rintro e w8 ⟨rfl, b8⟩
      rw [HK.out]
      have H8 := H7.step b8
      clear H7 q0 q1 b8
      have q0 := H8.box.c0
      have q1 := H8.box.c1
      cases Kb with
      | false =>
        go_wp2_with fail
        go_ret
        exact ⟨rfl, H8.old⟩
      | true =>
        have HWd := Lib.hid (HNw.out rfl)
        clear HNw
        go_wp2_with fail
        go_at_call 12
        refine (BlocksOf_any H8.log (HT.out.step H8.old HT.out.size)).mono ?_
        rintro e w9 ⟨vb, rfl, hvb, b9⟩
        have H9 := H8.step b9
        obtain ⟨ab, cb, rfl⟩ := list_shape hvb
        rw [HNl.out]
        clear H8 q0 q1 hvb b9
        have HWe : Hid ((Wb == decide ((N : Int) = 1)) = true) := by
          show _ = _
          rw [HWd.out]
          have : decide ((N : Int) = 1) = decide (N = 1) := by rw [decide_eq_decide]; omega
          rw [this]; simp
        have hWe := HWe.out
        by_cases h1 : N = 1
        · obtain rfl : Wb = true := by rw [HWd.out]; exact decide_eq_true h1
          subst h1
          go_wp2_with fail
          go_ret
          exact ⟨rfl, H9.old⟩
        · obtain rfl : Wb = false := by rw [HWd.out]; exact decide_eq_false h1
          have h1' : ¬ (N : Int) = 1 := by omega
          have h1b : ((N : Int) == 1) = false := beq_eq_false_iff_ne.2 h1'
          go_wp2_with fail
          go_ret
          exact ⟨rfl, H9.old⟩
end Go.Proofs.YtjmhhjdkemicbaaDoor
