/- The walk of the laws' drawing of a logic: whatever the code, rows and opposites come, at most twelve, and nothing that was there has turned but the reader. -/
import Derived.Test.YtijcacibofpnpaaDoorZDh
import Derived.Test.YtijcacibofpnpaaDoorZDq
import Derived.Test.YtijcacibofpnpaaDoorZDr
namespace Go.Proofs.YtijcacibofpnpaaDoor
open Go.RowKit Go.Deep

theorem LogO.chg2 {S : Nat → Prop} {w w' : World} {base : Nat} {u t : Value} {n : Nat} {rv : Nat → Value} {Z : Nat → Nat → Int} {y : Nat → Int} (h : LogO w base u t n rv Z y) (hc : Chg S w w') (hs : ∀ j, S j → j < base ∨ w.heap.size ≤ j) : LogO w' base u t n rv Z y := by
  have no : ∀ g, base ≤ g → g < w.heap.size → ¬ S g := fun g h1 h2 e => by
    rcases hs g e with h3 | h3
    · omega
    · omega
  exact ⟨h.pos, h.hi, hc.out h.out (fun g hg => no g (ownsRow_block h.out.top g hg) (own_lt h.out.top g hg)) (fun r hr g hg => no g (ownsRow_block (h.out.row r hr) g hg) (own_lt (h.out.row r hr) g hg)), hc.ints h.ints (fun g hg => no g (ownsRow_block h.ints g hg) (own_lt h.ints g hg)), h.sep, h.rng⟩
theorem Chg.rd {S : Nat → Prop} {w w' : World} {rb n c p : Nat} {A : Option Addr} (hc : Chg S w w') (h : Rd w rb A n c p) (hb : rb < w.heap.size) (hs : ¬ S rb) : Rd w' rb A n c p := h.block (hc.block rb hb hs)

/-- The drawing under way: the result's box, the logic's box, the reader. -/
structure LgB (rb : Nat) (A : Option Addr) (n c p : Nat) (w : World) (u t : Value) (wx : World) : Prop where
  res : TwoAt wx w.heap.size (.slice none 0 0) (.slice none 0 0)
  box : TwoAt wx (w.heap.size + 1) u t
  rd : Rd wx rb A n c p
  old : Chg (fun j => j = rb) w wx
  size : w.heap.size + 2 ≤ wx.heap.size
  hrb : rb < w.heap.size
theorem LgB.chg {S : Nat → Prop} {rb n c p : Nat} {A : Option Addr} {w wx w' : World} {u t : Value} (h : LgB rb A n c p w u t wx) (hc : Chg S wx w') (hs : ∀ j, S j → w.heap.size + 2 ≤ j) : LgB rb A n c p w u t w' := by
  have hrb := h.hrb
  have hsz := h.size
  have no : ∀ j, j < w.heap.size + 2 → ¬ S j := fun j hj e => by have := hs j e; omega
  refine ⟨hc.two h.res (no _ (by omega)), hc.two h.box (no _ (by omega)), hc.rd h.rd (by omega) (no _ (by omega)), ⟨hc.os.trans h.old.os, hc.tape.trans h.old.tape, hc.output.trans h.old.output, Nat.le_trans h.old.size hc.size, fun j hj hs => (hc.block j (by omega) (no j (by omega))).trans (h.old.block j hj hs)⟩, Nat.le_trans hsz hc.size, hrb⟩
theorem LgB.below {rb n c p : Nat} {A : Option Addr} {w wx w' : World} {u t : Value} (h : LgB rb A n c p w u t wx) (hb : Below wx.heap.size wx w') : LgB rb A n c p w u t w' :=
  h.chg (Chg.of_below (S := fun _ => False) hb fun j hj hB => absurd hj (by omega)) fun _ e => e.elim
theorem LgB.pick {rb n c p p' : Nat} {A : Option Addr} {w wx w' : World} {u t : Value} (h : LgB rb A n c p w u t wx) (ho : OnlyIn (· = rb) wx w') (hr : Rd w' rb A n c p') : LgB rb A n c p' w u t w' := by
  have hrb := h.hrb
  have hc := Chg.of_only ho
  exact ⟨hc.two h.res (by show ¬ (_ = rb); omega), hc.two h.box (by show ¬ (_ = rb); omega), hr, h.old.trans hc, Nat.le_trans h.size hc.size, hrb⟩
theorem LgB.put {rb n c p : Nat} {A : Option Addr} {w wx : World} {u t : Value} (h : LgB rb A n c p w u t wx) (u' t' : Value) : LgB rb A n c p w u' t' ((wx.setCell ⟨w.heap.size + 1, 0, none⟩ u').setCell ⟨w.heap.size + 1, 1, none⟩ t') := by
  have hrb := h.hrb
  have hsz := h.size
  have hc : Chg (fun j => j = w.heap.size + 1) wx ((wx.setCell ⟨w.heap.size + 1, 0, none⟩ u').setCell ⟨w.heap.size + 1, 1, none⟩ t') := (Chg.set (S := fun j => j = w.heap.size + 1) rfl _).trans (Chg.set (S := fun j => j = w.heap.size + 1) rfl _)
  exact ⟨hc.two h.res (by show ¬ (_ = w.heap.size + 1); omega), (h.box.set0 u').set1 t', hc.rd h.rd (by omega) (by show ¬ (_ = w.heap.size + 1); omega), ⟨hc.os.trans h.old.os, hc.tape.trans h.old.tape, hc.output.trans h.old.output, Nat.le_trans h.old.size hc.size, fun j hj hs => (hc.block j (by omega) (by show ¬ (_ = w.heap.size + 1); omega)).trans (h.old.block j hj hs)⟩, Nat.le_trans hsz hc.size, hrb⟩
theorem LgB.set1 {rb n c p : Nat} {A : Option Addr} {w wx : World} {u t : Value} (h : LgB rb A n c p w u t wx) (t' : Value) : LgB rb A n c p w u t' (wx.setCell ⟨w.heap.size + 1, 1, none⟩ t') := by
  have hrb := h.hrb
  have hsz := h.size
  have hc : Chg (fun j => j = w.heap.size + 1) wx (wx.setCell ⟨w.heap.size + 1, 1, none⟩ t') := Chg.set (S := fun j => j = w.heap.size + 1) rfl _
  exact ⟨hc.two h.res (by show ¬ (_ = w.heap.size + 1); omega), h.box.set1 t', hc.rd h.rd (by omega) (by show ¬ (_ = w.heap.size + 1); omega), ⟨hc.os.trans h.old.os, hc.tape.trans h.old.tape, hc.output.trans h.old.output, Nat.le_trans h.old.size hc.size, fun j hj hs => (hc.block j (by omega) (by show ¬ (_ = w.heap.size + 1); omega)).trans (h.old.block j hj hs)⟩, Nat.le_trans hsz hc.size, hrb⟩
theorem LgB.putL {rb n c p : Nat} {A : Option Addr} {w wx : World} {u t u' t' : Value} {N : Nat} {rv : Nat → Value} {Z : Nat → Nat → Int} {y : Nat → Int} (hL : LogO wx (w.heap.size + 2) u' t' N rv Z y) (_ : LgB rb A n c p w u t wx) : LogO ((wx.setCell ⟨w.heap.size + 1, 0, none⟩ u').setCell ⟨w.heap.size + 1, 1, none⟩ t') (w.heap.size + 2) u' t' N rv Z y :=
  hL.chg2 ((Chg.set (S := fun j => j = w.heap.size + 1) rfl _).trans (Chg.set (S := fun j => j = w.heap.size + 1) rfl _)) fun j hj => by
    have hj' : j = w.heap.size + 1 := hj
    omega

/-- What has turned since is the reader, or new. -/
theorem LgB.past {rb n c p p' : Nat} {A : Option Addr} {w wc wr : World} {u t : Value} (h : LgB rb A n c p w u t wc) (hc : Chg (fun j => j = rb ∨ wc.heap.size ≤ j) wc wr) (hr : Rd wr rb A n c p') : LgB rb A n c p' w u t wr := by
  have hrb := h.hrb
  have hsz := h.size
  exact ⟨hc.two h.res (by show ¬ (_ ∨ _); omega), hc.two h.box (by show ¬ (_ ∨ _); omega), hr, ⟨hc.os.trans h.old.os, hc.tape.trans h.old.tape, hc.output.trans h.old.output, Nat.le_trans h.old.size hc.size, fun j hj hs => (hc.block j (by omega) (by
    have hs' : ¬ j = rb := hs
    show ¬ (_ ∨ _)
    omega)).trans (h.old.block j hj hs)⟩, Nat.le_trans hsz hc.size, hrb⟩
theorem ints_cast {w : World} {base : Nat} {t : Value} {k m : Nat} {q : Nat → Nat} {x : Nat} (h : IntsAt w base t k (fun c => if c = m then (x : Int) else (q c : Int))) : IntsAt w base t k (fun c => ((if c = m then x else q c : Nat) : Int)) := by
  have e : (fun c => if c = m then (x : Int) else (q c : Int)) = fun c => ((if c = m then x else q c : Nat) : Int) := by
    funext c
    by_cases e : c = m
    · rw [if_pos e, if_pos e]
    · rw [if_neg e, if_neg e]
  rwa [e] at h
theorem Out.topc {w : World} {base g cap k N : Nat} {rv : Nat → Value} {Z : Nat → Nat → Int} (h : Out w base (.slice (some ⟨g, 0, none⟩) k cap) k N rv Z) {r : Nat} (hr : r < k) : w.cell? ⟨g, r, none⟩ = some (rv r) := by
  rw [h.top.cellAt r (by omega)]
  simp [hr]
/-- What is drawn: a logic's rows and opposites in memory; the reader some picks further. -/
def DrawnLog (rb : Nat) (A : Option Addr) (n c p0 : Nat) (w : World) (e : Ending) (w' : World) : Prop :=
  ∃ (ua : Option Addr) (l : Lay) (m : Mx) (na : Option Addr) (g o k nc : Nat) (z : Nat → Int) (p : Nat), e = .returned (.agg #[.slice ua m.n l.cap, .slice na k nc]) ∧ LogAt w' w'.heap.size ua l m na g o k z ∧ LayFrom w.heap.size l m ∧ (0 < k → w.heap.size ≤ g) ∧ m.n ≤ 12 ∧ (∀ r, r < m.n → m.L r ≤ 12) ∧ k ≤ 12 ∧ Rd w' rb A n c p ∧ p ≤ p0 + 20 ∧ Chg (fun j => j = rb) w w'
/-- The end: what the box holds is stored into the result. -/
theorem lg_end {rb n c p p0 : Nat} {A : Option Addr} {w wx : World} {u : Value} {na : Option Addr} {g o k nc N : Nat} {rv : Nat → Value} {Z : Nat → Nat → Int} {z : Nat → Int} {u0 t0 : Value} (h : LgB rb A n c p w u0 t0 wx) (hO : Out wx (w.heap.size + 2) u N N rv Z) (h1 : 1 ≤ N) (h12 : N ≤ 12)
    (hR : RowAt wx wx.heap.size na g o k z) (hg : 0 < k → w.heap.size + 2 ≤ g) (hk : k ≤ 12) (hp : p ≤ p0 + 20) :
    DrawnLog rb A n c p0 w (.returned (.agg #[u, .slice na k nc])) ((wx.setCell ⟨w.heap.size, 0, none⟩ u).setCell ⟨w.heap.size, 1, none⟩ (.slice na k nc)) := by
  have hrb := h.hrb
  have hsz := h.size
  obtain ⟨a, l, rfl, hm, hf⟩ := hO.mat (by omega)
  have hc : Chg (fun j => j = w.heap.size) wx ((wx.setCell ⟨w.heap.size, 0, none⟩ (.slice a N l.cap)).setCell ⟨w.heap.size, 1, none⟩ (.slice na k nc)) := (Chg.set (S := fun j => j = w.heap.size) rfl _).trans (Chg.set (S := fun j => j = w.heap.size) rfl _)
  have ho := ((OnlyIn.refl (fun x => x = w.heap.size) wx).set (b := w.heap.size) rfl 0 (.slice a N l.cap)).set (b := w.heap.size) rfl 1 (.slice na k nc)
  have hs2 := ho.size
  have hf' : LayFrom w.heap.size l ⟨N, fun _ => N, Z⟩ := ⟨fun r hr => by have := hf.top r hr; omega, fun r hr c hc => by have := hf.row r hr c hc; omega⟩
  have hm' := (hm.only hf ho (fun j hj => by have hj' : j = w.heap.size := hj; omega)).more (B' := ((wx.setCell ⟨w.heap.size, 0, none⟩ (.slice a N l.cap)).setCell ⟨w.heap.size, 1, none⟩ (.slice na k nc)).heap.size) (by omega)
  have hR' : RowAt ((wx.setCell ⟨w.heap.size, 0, none⟩ (.slice a N l.cap)).setCell ⟨w.heap.size, 1, none⟩ (.slice na k nc)) ((wx.setCell ⟨w.heap.size, 0, none⟩ (.slice a N l.cap)).setCell ⟨w.heap.size, 1, none⟩ (.slice na k nc)).heap.size na g o k z := ⟨fun i hi => by
    obtain ⟨e1, e2, e3⟩ := (hR.only ho (fun e => by have e' : g = w.heap.size := e; have := hg (by omega); omega)).row i hi
    exact ⟨e1, by omega, e3⟩⟩
  exact ⟨a, l, ⟨N, fun _ => N, Z⟩, na, g, o, k, nc, z, p, rfl, ⟨hm', hR', by show N ≤ _; omega, fun _ _ => by show N ≤ _; omega, by omega, Nat.le_refl _⟩, hf', fun h0 => by have := hg h0; omega, h12, fun _ _ => h12, hk, hc.rd h.rd (by omega) (by show ¬ (_ = w.heap.size); omega), hp,
    ⟨hc.os.trans h.old.os, hc.tape.trans h.old.tape, hc.output.trans h.old.output, Nat.le_trans h.old.size hc.size, fun j hj hs => (hc.block j (by omega) (by show ¬ (_ = w.heap.size); omega)).trans (h.old.block j hj hs)⟩⟩
theorem lg_none {rb n c p p0 : Nat} {A : Option Addr} {w wx : World} {u0 t0 : Value} (h : LgB rb A n c p w u0 t0 wx) (hp : p ≤ p0 + 20) :
    DrawnLog rb A n c p0 w (.returned (.agg #[.slice none 0 0, .slice none 0 0])) ((wx.setCell ⟨w.heap.size, 0, none⟩ (.slice none 0 0)).setCell ⟨w.heap.size, 1, none⟩ (.slice none 0 0)) := by
  have hrb := h.hrb
  have hsz := h.size
  have hc : Chg (fun j => j = w.heap.size) wx ((wx.setCell ⟨w.heap.size, 0, none⟩ (.slice none 0 0)).setCell ⟨w.heap.size, 1, none⟩ (.slice none 0 0)) := (Chg.set (S := fun j => j = w.heap.size) rfl _).trans (Chg.set (S := fun j => j = w.heap.size) rfl _)
  exact ⟨none, ⟨0, 0, 0, fun _ => none, fun _ => 0, fun _ => 0, fun _ => 0⟩, ⟨0, fun _ => 0, fun _ _ => 0⟩, none, 0, 0, 0, 0, fun _ => 0, p, rfl, ⟨⟨fun _ hr => absurd hr (Nat.not_lt_zero _), fun _ hr => absurd hr (Nat.not_lt_zero _)⟩, ⟨fun _ hr => absurd hr (Nat.not_lt_zero _)⟩, Nat.zero_le _, fun _ hr => absurd hr (Nat.not_lt_zero _), Nat.zero_le _, Nat.le_refl _⟩, ⟨fun _ hr => absurd hr (Nat.not_lt_zero _), fun _ hr => absurd hr (Nat.not_lt_zero _)⟩, fun h0 => absurd h0 (Nat.not_lt_zero _), Nat.zero_le _, fun _ hr => absurd hr (Nat.not_lt_zero _), Nat.zero_le _, hc.rd h.rd (by omega) (by show ¬ (_ = w.heap.size); omega), hp,
    ⟨hc.os.trans h.old.os, hc.tape.trans h.old.tape, hc.output.trans h.old.output, Nat.le_trans h.old.size hc.size, fun j hj hs => (hc.block j (by omega) (by show ¬ (_ = w.heap.size); omega)).trans (h.old.block j hj hs)⟩⟩
end Go.Proofs.YtijcacibofpnpaaDoor
