/- The walks of the laws' draws of a logic, alone or with two answers, out of a code. -/
import Derived.Test.YtijcacibofpnpaaDoorZDm
import Derived.Test.YtijcacibofpnpaaDoorZDe
import Derived.Test.YtijcacibofpnpaaDoorZOa
import Derived.Deep.DeepCutAuto
namespace Go.Proofs.YtijcacibofpnpaaDoor
open Go.RowKit Go.Deep

/-- What is drawn: a logic's rows and opposites, in memory of the call's own. -/
structure Fresh (w : World) (ua : Option Addr) (l : Lay) (m : Mx) (na : Option Addr) (g o k : Nat) (z : Nat → Int) (w' : World) : Prop where
  log : LogAt w' w'.heap.size ua l m na g o k z
  lay : LayFrom w.heap.size l m
  from_ : 0 < k → w.heap.size ≤ g
  hn : m.n ≤ 12
  hL : ∀ r, r < m.n → m.L r ≤ 12
  hk : k ≤ 12
  old : Below w.heap.size w w'
def DrewL (w : World) (e : Ending) (w' : World) : Prop :=
  ∃ (ua : Option Addr) (l : Lay) (m : Mx) (na : Option Addr) (g o k nc : Nat) (z : Nat → Int), e = .returned (.agg #[.slice ua m.n l.cap, .slice na k nc]) ∧ Fresh w ua l m na g o k z w'
/-- Stored into the result's box, which came ahead of it. -/
theorem Fresh.put {w w1 w2 : World} {ua : Option Addr} {l : Lay} {m : Mx} {na : Option Addr} {g o k : Nat} {z : Nat → Int} (h : Fresh w1 ua l m na g o k z w2) (h1 : Below w.heap.size w w1) (hs : w.heap.size < w1.heap.size) (u t : Value) :
    Fresh w ua l m na g o k z ((w2.setCell ⟨w.heap.size, 0, none⟩ u).setCell ⟨w.heap.size, 1, none⟩ t) := by
  have ho := ((OnlyIn.refl (fun x => x = w.heap.size) w2).set (b := w.heap.size) rfl 0 u).set (b := w.heap.size) rfl 1 t
  have hs2 := ho.size
  have hz := h.old.size
  have hm := (h.log.mat.only h.lay ho (fun j hj => by have hj' : j = w.heap.size := hj; omega)).more (B' := ((w2.setCell ⟨w.heap.size, 0, none⟩ u).setCell ⟨w.heap.size, 1, none⟩ t).heap.size) (by omega)
  have hR : RowAt ((w2.setCell ⟨w.heap.size, 0, none⟩ u).setCell ⟨w.heap.size, 1, none⟩ t) ((w2.setCell ⟨w.heap.size, 0, none⟩ u).setCell ⟨w.heap.size, 1, none⟩ t).heap.size na g o k z := ⟨fun i hi => by
    obtain ⟨e1, e2, e3⟩ := (h.log.row.only ho (fun e => by have e' : g = w.heap.size := e; have := h.from_ (by omega); omega)).row i hi
    exact ⟨e1, by omega, e3⟩⟩
  exact ⟨⟨hm, hR, h.log.hn, h.log.hL, h.log.hk, Nat.le_refl _⟩, ⟨fun r hr => by have := h.lay.top r hr; omega, fun r hr c hc => by have := h.lay.row r hr c hc; omega⟩, fun h0 => by have := h.from_ h0; omega, h.hn, h.hL, h.hk,
    (h1.trans (h.old.mono (by omega))).trans (ho.below fun j hj => by have hj' : j = w.heap.size := hj; omega)⟩
theorem Fresh.only {S : Nat → Prop} {w w1 w2 : World} {ua : Option Addr} {l : Lay} {m : Mx} {na : Option Addr} {g o k : Nat} {z : Nat → Int} (h : Fresh w ua l m na g o k z w1) (ho : OnlyIn S w1 w2) (hS : ∀ j, S j → j < w.heap.size) (hb : Below w.heap.size w w2) : Fresh w ua l m na g o k z w2 := by
  have hs2 := ho.size
  refine ⟨⟨(h.log.mat.only h.lay ho hS).more (by omega), ⟨fun i hi => ?_⟩, h.log.hn, h.log.hL, h.log.hk, Nat.le_refl _⟩, h.lay, h.from_, h.hn, h.hL, h.hk, hb⟩
  obtain ⟨e1, e2, e3⟩ := (h.log.row.only ho (fun e => by have := hS g e; have := h.from_ (by omega); omega)).row i hi
  exact ⟨e1, by omega, e3⟩

theorem Fresh.alloc {w w1 : World} {ua : Option Addr} {l : Lay} {m : Mx} {na : Option Addr} {g o k : Nat} {z : Nat → Int} (h : Fresh w ua l m na g o k z w1) (x : Obj) : Fresh w ua l m na g o k z (w1.alloc x) := by
  have hl := h.log.alloc x
  refine ⟨⟨hl.mat.more (by simp), ⟨fun i hi => ?_⟩, h.log.hn, h.log.hL, h.log.hk, Nat.le_refl _⟩, h.lay, h.from_, h.hn, h.hL, h.hk, h.old.alloc h.old.size x⟩
  obtain ⟨e1, e2, e3⟩ := hl.row.row i hi
  exact ⟨e1, by simp; omega, e3⟩
theorem CodeAt.alloc {A : Option Addr} {b o n cap : Nat} {z : Nat → Nat} {w : World} (h : CodeAt w A b o n cap z) (x : Obj) : CodeAt (w.alloc x) A b o n cap z :=
  ⟨⟨fun j hj => by
    obtain ⟨e1, e2, e3, e4⟩ := (h.bytes.below ((Below.refl w.heap.size w).alloc (Nat.le_refl _) x)).at_ j hj
    exact ⟨e1, by simp; omega, e3, e4⟩⟩, h.hn, h.hc⟩

end Go.Proofs.YtijcacibofpnpaaDoor

/- Draws of a logic, and of a logic and two answers. -/
namespace Go.Proofs.YtijcacibofpnpaaDoor
open Go.RowKit Go.Deep

set_option maxHeartbeats 1000000 in
theorem draw_CentreOf {A : Option Addr} {b o n cap : Nat} {z : Nat → Nat} {w : World} (h : CodeAt w A b o n cap z) :
    Calls Tryd.prog 4 #[.slice A n cap] w (DrewL w) := by
  have hT := TwoAt.new w (.slice none 0 0) (.slice none 0 0) 26
  have hbA := (Below.refl w.heap.size w).alloc (Nat.le_refl _) (.cells #[.slice none 0 0, .slice none 0 0] 26)
  have hc := h.alloc (.cells #[.slice none 0 0, .slice none 0 0] 26)
  go_enter Tryd.func4, Tryd.ntmps4
  go_wp2_with fail
  go_at_call 17
  refine (l20Open_any hc).mono ?_
  rintro e w1 ⟨A1, b1, o1, n1, c1, z1, rfl, hn1, hR, hz, hb, hs⟩
  have hsA : (w.alloc (.cells #[.slice none 0 0, .slice none 0 0] 26)).heap.size = w.heap.size + 1 := by simp
  have hT1 := hT.below hb (by omega)
  rw [hsA] at hR hz hs
  have hs' : w.heap.size + 1 < w1.heap.size := by omega
  clear h hc hT hs
  go_wp2_with fail
  go_at_call 16
  refine (l20Logic_any (by omega) (by omega) (by omega) hn1 hR hz (Nat.le_refl _) hs').mono ?_
  rintro e w2 ⟨ua, l, m, na, g, o2, k, nc, zz, p, rfl, hlog, hf, hg, hn, hL, hk, _, _, hC⟩
  have hT2 := hC.two hT1 (by show ¬ (w.heap.size = w.heap.size + 1); omega)
  have hF : Fresh (w.alloc (.cells #[.slice none 0 0, .slice none 0 0] 26)) ua l m na g o2 k zz w2 := ⟨hlog, ⟨fun r hr => by have := hf.top r hr; omega, fun r hr c hc => by have := hf.row r hr c hc; omega⟩, fun h0 => by have := hg h0; omega, hn, hL, hk, hb.trans (hC.below (by omega) fun j hj => by have hj' : j = w.heap.size + 1 := hj; omega)⟩
  have hall := Lib.hid (hF.put hbA (by omega) (.slice ua m.n l.cap) (.slice na k nc))
  have hfin := (hT2.set0 (.slice ua m.n l.cap)).set1 (.slice na k nc)
  have t0 := hfin.c0
  have t1 := hfin.c1
  have e0 := hT2.c0
  have e1 := hT2.c1
  have e2 := hT2.f0
  have e3 := hT2.f1
  clear hF hlog hf hC hT1 hT2 hfin hb hR hz
  go_wp2_with fail
  exact bodyPost_ret (v := .agg #[.slice ua m.n l.cap, .slice na k nc]) (by simp [results, Tryd.results4, go_sem, t0, t1]) rfl ⟨ua, l, m, na, g, o2, k, nc, zz, rfl, hall.out⟩

end Go.Proofs.YtijcacibofpnpaaDoor
