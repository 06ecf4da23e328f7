import Derived.Test.YtojcgmgponnlpaaZDh
import Derived.Test.YtojcgmgponnlpaaZDq
import Derived.Test.YtojcgmgponnlpaaZDr
import Derived.Deep.DeepCutAuto
import Derived.Deep.CutBlock
import Derived.Test.YtojcgmgponnlpaaZDa
import Derived.Test.YtojcgmgponnlpaaZOa
import Derived.BigQuiet
import Derived.Test.YtojcgmgponnlpaaZDko
namespace Go.Proofs.Ytojcgmgponnlpaa
open Go.RowKit Go.Deep

theorem LogO.chg2 {S : Nat → Prop} {w w' : World} {base : Nat} {u t : Value} {n : Nat} {rv : Nat → Value} {Z : Nat → Nat → Int} {y : Nat → Int} (h : LogO w base u t n rv Z y) (hc : Chg S w w') (hs : ∀ j, S j → j < base ∨ w.heap.size ≤ j) : LogO w' base u t n rv Z y := by
  have no : ∀ g, base ≤ g → g < w.heap.size → ¬ S g := fun g h1 h2 e => by
    rcases hs g e with h3 | h3
    · omega
    · omega
  exact ⟨h.pos, h.hi, hc.out h.out (fun g hg => no g (ownsRow_block h.out.top g hg) (own_lt h.out.top g hg)) (fun r hr g hg => no g (ownsRow_block (h.out.row r hr) g hg) (own_lt (h.out.row r hr) g hg)), hc.ints h.ints (fun g hg => no g (ownsRow_block h.ints g hg) (own_lt h.ints g hg)), h.sep, h.rng⟩
theorem Chg.rd {S : Nat → Prop} {w w' : World} {rb n c p : Nat} {A : Option Addr} (hc : Chg S w w') (h : Rd w rb A n c p) (hb : rb < w.heap.size) (hs : ¬ S rb) : Rd w' rb A n c p := h.block (hc.block rb hb hs)

/-- The drawing under way: the result's box, the logic's box, the reader. -/
structure LgB (rb : Nat) (A : Option Addr) (n c p : Nat) (w : World) (u t : Value) (wx : World) : Prop where
  res : TwoAt wx w.heap.size (.slice none 0 0) (.slice none 0 0)
  box : TwoAt wx (w.heap.size + 1) u t
  rd : Rd wx rb A n c p
  old : Chg (fun j => j = rb) w wx
  size : w.heap.size + 2 ≤ wx.heap.size
  hrb : rb < w.heap.size
theorem LgB.chg {S : Nat → Prop} {rb n c p : Nat} {A : Option Addr} {w wx w' : World} {u t : Value} (h : LgB rb A n c p w u t wx) (hc : Chg S wx w') (hs : ∀ j, S j → w.heap.size + 2 ≤ j) : LgB rb A n c p w u t w' := by
  have hrb := h.hrb
  have hsz := h.size
  have no : ∀ j, j < w.heap.size + 2 → ¬ S j := fun j hj e => by have := hs j e; omega
  refine ⟨hc.two h.res (no _ (by omega)), hc.two h.box (no _ (by omega)), hc.rd h.rd (by omega) (no _ (by omega)), ⟨hc.os.trans h.old.os, hc.tape.trans h.old.tape, hc.output.trans h.old.output, Nat.le_trans h.old.size hc.size, fun j hj hs => (hc.block j (by omega) (no j (by omega))).trans (h.old.block j hj hs)⟩, Nat.le_trans hsz hc.size, hrb⟩
theorem LgB.below {rb n c p : Nat} {A : Option Addr} {w wx w' : World} {u t : Value} (h : LgB rb A n c p w u t wx) (hb : Below wx.heap.size wx w') : LgB rb A n c p w u t w' :=
  h.chg (Chg.of_below (S := fun _ => False) hb fun j hj hB => absurd hj (by omega)) fun _ e => e.elim
theorem LgB.pick {rb n c p p' : Nat} {A : Option Addr} {w wx w' : World} {u t : Value} (h : LgB rb A n c p w u t wx) (ho : OnlyIn (· = rb) wx w') (hr : Rd w' rb A n c p') : LgB rb A n c p' w u t w' := by
  have hrb := h.hrb
  have hc := Chg.of_only ho
  exact ⟨hc.two h.res (by show ¬ (_ = rb); omega), hc.two h.box (by show ¬ (_ = rb); omega), hr, h.old.trans hc, Nat.le_trans h.size hc.size, hrb⟩
theorem LgB.put {rb n c p : Nat} {A : Option Addr} {w wx : World} {u t : Value} (h : LgB rb A n c p w u t wx) (u' t' : Value) : LgB rb A n c p w u' t' ((wx.setCell ⟨w.heap.size + 1, 0, none⟩ u').setCell ⟨w.heap.size + 1, 1, none⟩ t') := by
  have hrb := h.hrb
  have hsz := h.size
  have hc : Chg (fun j => j = w.heap.size + 1) wx ((wx.setCell ⟨w.heap.size + 1, 0, none⟩ u').setCell ⟨w.heap.size + 1, 1, none⟩ t') := (Chg.set (S := fun j => j = w.heap.size + 1) rfl _).trans (Chg.set (S := fun j => j = w.heap.size + 1) rfl _)
  exact ⟨hc.two h.res (by show ¬ (_ = w.heap.size + 1); omega), (h.box.set0 u').set1 t', hc.rd h.rd (by omega) (by show ¬ (_ = w.heap.size + 1); omega), ⟨hc.os.trans h.old.os, hc.tape.trans h.old.tape, hc.output.trans h.old.output, Nat.le_trans h.old.size hc.size, fun j hj hs => (hc.block j (by omega) (by show ¬ (_ = w.heap.size + 1); omega)).trans (h.old.block j hj hs)⟩, Nat.le_trans hsz hc.size, hrb⟩
theorem LgB.putL {rb n c p : Nat} {A : Option Addr} {w wx : World} {u t u' t' : Value} {N : Nat} {rv : Nat → Value} {Z : Nat → Nat → Int} {y : Nat → Int} (hL : LogO wx (w.heap.size + 2) u' t' N rv Z y) (_ : LgB rb A n c p w u t wx) : LogO ((wx.setCell ⟨w.heap.size + 1, 0, none⟩ u').setCell ⟨w.heap.size + 1, 1, none⟩ t') (w.heap.size + 2) u' t' N rv Z y :=
  hL.chg2 ((Chg.set (S := fun j => j = w.heap.size + 1) rfl _).trans (Chg.set (S := fun j => j = w.heap.size + 1) rfl _)) fun j hj => by
    have hj' : j = w.heap.size + 1 := hj
    omega

/-- What has turned since is the reader, or new. -/
theorem LgB.past {rb n c p p' : Nat} {A : Option Addr} {w wc wr : World} {u t : Value} (h : LgB rb A n c p w u t wc) (hc : Chg (fun j => j = rb ∨ wc.heap.size ≤ j) wc wr) (hr : Rd wr rb A n c p') : LgB rb A n c p' w u t wr := by
  have hrb := h.hrb
  have hsz := h.size
  exact ⟨hc.two h.res (by show ¬ (_ ∨ _); omega), hc.two h.box (by show ¬ (_ ∨ _); omega), hr, ⟨hc.os.trans h.old.os, hc.tape.trans h.old.tape, hc.output.trans h.old.output, Nat.le_trans h.old.size hc.size, fun j hj hs => (hc.block j (by omega) (by
    have hs' : ¬ j = rb := hs
    show ¬ (_ ∨ _)
    omega)).trans (h.old.block j hj hs)⟩, Nat.le_trans hsz hc.size, hrb⟩
theorem ints_cast {w : World} {base : Nat} {t : Value} {k m : Nat} {q : Nat → Nat} {x : Nat} (h : IntsAt w base t k (fun c => if c = m then (x : Int) else (q c : Int))) : IntsAt w base t k (fun c => ((if c = m then x else q c : Nat) : Int)) := by
  have e : (fun c => if c = m then (x : Int) else (q c : Int)) = fun c => ((if c = m then x else q c : Nat) : Int) := by
    funext c
    by_cases e : c = m
    · rw [if_pos e, if_pos e]
    · rw [if_neg e, if_neg e]
  rwa [e] at h
end Go.Proofs.Ytojcgmgponnlpaa
namespace Go.Proofs.Ytojcgmgponnlpaa
open Go.RowKit Go.Deep

set_option maxRecDepth 100000 in
set_option maxHeartbeats 4000000 in
theorem odd_from_zero {rb n c p : Nat} {A : Option Addr} {q : Int} {B b o : Nat} {z : Nat → Nat} {w : World} (hq : 0 ≤ q) (hq' : q ≤ 1000000) (hp : p ≤ 100000) (hn : n ≤ 2000) (h : Rd w rb A n c p) (hz : BytesAt w B A b o n z) (hB : B ≤ rb) :
    Calls Try.prog 48 #[.pointer (some ⟨rb, 0, none⟩), .int .i64 q] w fun e w' => (∃ x : Bool, e = .returned (.bool x)) ∧ ∃ p', p' ≤ p + 1 ∧ Rd w' rb A n c p' ∧ OnlyIn (· = rb) w w' := by
  by_cases h0 : q = 0
  · subst h0
    go_enter Try.func48, Try.ntmps48
    go_wp2_with fail
    go_ret
    exact ⟨⟨_, rfl⟩, p, by omega, h, OnlyIn.refl _ _⟩
  · exact (odd_any (by omega) hq' hp hn h hz hB).mono fun _ _ ⟨h1, h2, h3⟩ => ⟨h1, p + 1, Nat.le_refl _, h2, h3⟩
end Go.Proofs.Ytojcgmgponnlpaa
namespace Go.Proofs.Ytojcgmgponnlpaa
open Go.RowKit Go.Deep

theorem CodeAt.alloc {A : Option Addr} {b o n cap : Nat} {z : Nat → Nat} {w : World} (h : CodeAt w A b o n cap z) (x : Obj) : CodeAt (w.alloc x) A b o n cap z :=
  ⟨⟨fun j hj => by
    obtain ⟨e1, e2, e3, e4⟩ := (h.bytes.below ((Below.refl w.heap.size w).alloc (Nat.le_refl _) x)).at_ j hj
    exact ⟨e1, by simp; omega, e3, e4⟩⟩, h.hn, h.hc⟩

end Go.Proofs.Ytojcgmgponnlpaa
namespace Go.Proofs.Ytojcgmgponnlpaa
open Go.RowKit Go.Deep

end Go.Proofs.Ytojcgmgponnlpaa
namespace Go.Proofs.Ytojcgmgponnlpaa
open Go.RowKit Go.Deep

end Go.Proofs.Ytojcgmgponnlpaa
namespace Go.Proofs.Ytojcgmgponnlpaa
open Go.RowKit Go.Deep

set_option maxRecDepth 100000 in
set_option maxHeartbeats 4000000 in
theorem odd_zero {rb n c p : Nat} {A : Option Addr} {w : World} (h : Rd w rb A n c p) :
    Calls Try.prog 48 #[.pointer (some ⟨rb, 0, none⟩), .int .i64 0] w fun e w' => e = .returned (.bool false) ∧ Rd w' rb A n c p ∧ OnlyIn (· = rb) w w' := by
  go_enter Try.func48, Try.ntmps48
  go_wp2_with fail
  go_ret
  exact ⟨rfl, h, OnlyIn.refl _ _⟩
/-- What is drawn: a logic of one's own that has answers; the reader some picks further. -/
def DrawnC (rb : Nat) (A : Option Addr) (n c p0 : Nat) (w : World) (e : Ending) (w' : World) : Prop :=
  ∃ (u t : Value) (cc : Lc) (p : Nat), e = .returned (.agg #[u, t]) ∧ CW w' ⟨u, t, w.heap.size, w'.heap.size⟩ cc ∧ 1 ≤ cc.k ∧ cc.k ≤ 12 ∧ Rd w' rb A n c p ∧ p ≤ p0 + 20 ∧ Chg (fun j => j = rb) w w'
theorem lg_endC {rb n c p p0 : Nat} {A : Option Addr} {w wx : World} {u t : Value} {N : Nat} {rv : Nat → Value} {Z : Nat → Nat → Int} {y : Nat → Int} {u0 t0 : Value} (h : LgB rb A n c p w u0 t0 wx) (hL : LogO wx (w.heap.size + 2) u t N rv Z y) (hp : p ≤ p0 + 20) :
    DrawnC rb A n c p0 w (.returned (.agg #[u, t])) ((wx.setCell ⟨w.heap.size, 0, none⟩ u).setCell ⟨w.heap.size, 1, none⟩ t) := by
  have hrb := h.hrb
  have hsz := h.size
  have hc : Chg (fun j => j = w.heap.size) wx ((wx.setCell ⟨w.heap.size, 0, none⟩ u).setCell ⟨w.heap.size, 1, none⟩ t) := (Chg.set (S := fun j => j = w.heap.size) rfl _).trans (Chg.set (S := fun j => j = w.heap.size) rfl _)
  have hL' := (hL.chg hc fun j hj => by have hj' : j = w.heap.size := hj; omega).base (base' := w.heap.size) (by omega)
  obtain ⟨ua, l, na, g, nc, rfl, rfl, hW⟩ := hL'.logW
  exact ⟨_, _, ⟨⟨N, fun _ => N, Z⟩, N, y⟩, p, rfl, ⟨ua, l, na, g, nc, rfl, rfl, hW⟩, hL.pos, hL.hi, hc.rd h.rd (by omega) (by show ¬ (_ = w.heap.size); omega), hp,
    ⟨hc.os.trans h.old.os, hc.tape.trans h.old.tape, hc.output.trans h.old.output, Nat.le_trans h.old.size hc.size, fun j hj hs => (hc.block j (by omega) (by show ¬ (_ = w.heap.size); omega)).trans (h.old.block j hj hs)⟩⟩
set_option maxRecDepth 100000 in
set_option maxHeartbeats 4000000 in
theorem l20Logic_zero {rb n c p0 : Nat} {A : Option Addr} {B b o : Nat} {z0 : Nat → Nat} {w : World} (hp : p0 ≤ 1000) (hn : n ≤ 2000) (h : Rd w rb A n c p0) (hz : BytesAt w B A b o n z0) (hB : B ≤ rb) (hrb : rb < w.heap.size) :
    Calls Try.prog 45 #[.pointer (some ⟨rb, 0, none⟩), .int .i64 0] w (DrawnC rb A n c p0 w) := by
  obtain ⟨i0, hi, hz0, hz1, hz2⟩ := info_parts infoInt
  have HI := Lib.hid hi
  have HZ0 := Lib.hid hz0
  have HZ1 := Lib.hid hz1
  have HZ2 := Lib.hid hz2
  clear hi hz0 hz1 hz2
  have x1 := TwoAt.new w (.slice none 0 0) (.slice none 0 0) 26
  have x2 := TwoAt.new (w.alloc (.cells #[.slice none 0 0, .slice none 0 0] 26)) (.slice none 0 0) (.slice none 0 0) 26
  simp only [World.size_alloc] at x2
  have X1 := (Chg.alloc (fun _ => False) (w.alloc (.cells #[.slice none 0 0, .slice none 0 0] 26)) (.cells #[.slice none 0 0, .slice none 0 0] 26)).two x1 (fun h => h)
  have hC0 := (Chg.alloc (fun j => j = rb) w (.cells #[.slice none 0 0, .slice none 0 0] 26)).trans (Chg.alloc (fun j => j = rb) _ (.cells #[.slice none 0 0, .slice none 0 0] 26))
  have hR0 : Rd ((w.alloc (.cells #[.slice none 0 0, .slice none 0 0] 26)).alloc (.cells #[.slice none 0 0, .slice none 0 0] 26)) rb A n c p0 := h.block ((Below.heap_alloc _ _ _ (by simp; omega)).trans (Below.heap_alloc _ _ _ (by omega)))
  have G0 : LgB rb A n c p0 w (.slice none 0 0) (.slice none 0 0) _ := ⟨X1, x2, hR0, hC0, by simp, hrb⟩
  have HZ := Lib.hid hz
  have HB : ∀ {wx : World} {u t : Value} {p : Nat}, LgB rb A n c p w u t wx → BytesAt wx B A b o n z0 := fun hG => HZ.out.below ((hG.old.below (B := rb) (by omega) (fun j hj => by have hj' : j = rb := hj; omega)).mono hB)
  clear x1 x2 X1 hC0 hR0 h hz
  go_enter Try.func45, Try.ntmps45
  go_wp2_with fail
  generalize hW0 : (w.alloc (.cells #[.slice none 0 0, .slice none 0 0] 26)).alloc (.cells #[.slice none 0 0, .slice none 0 0] 26) = w0 at G0 ⊢
  clear hW0
  go_at_call 30
  refine (pick_any (by omega) (by omega) (by omega) hn G0.rd (HB G0) hB).mono ?_
  rintro e w1 ⟨v, rfl, hv0, hv1, hR1, hO1⟩
  have G1 := G0.pick hO1 hR1
  clear G0 hR1 hO1
  go_upto_block 0 with fail
  go_cut [] (fun wx => ∃ (N p : Nat) (u t : Value) (rv : Nat → Value) (Z : Nat → Nat → Int) (y : Nat → Int), LgB rb A n c p w u t wx ∧ LogO wx (w.heap.size + 2) u t N rv Z y ∧ p ≤ p0 + 2)
  case first =>
    have hv : v = 0 ∨ v = 1 ∨ v = 2 ∨ v = 3 ∨ v = 4 ∨ v = 5 ∨ v = 6 ∨ v = 7 ∨ v = 8 := by omega
    clear hv0 hv1
    rcases hv with rfl | rfl | rfl | rfl | rfl | rfl | rfl | rfl | rfl
    · go_wp2_with fail
      go_at_call 30
      refine (pick_any (by omega) (by omega) (by omega) hn G1.rd (HB G1) hB).mono ?_
      rintro e w2 ⟨v2, rfl, v2lo, v2hi, hR2, hO2⟩
      have G2 := G1.pick hO2 hR2
      go_wp2_with fail
      go_at_call 80
      refine (boole_any _ v2lo v2hi).mono ?_
      rintro e wa ⟨Na, _, ua, ta, rva, Za, ya, rfl, La, hba⟩
      have Ga := G2.below hba
      obtain ⟨gu, cu, rfl, _⟩ := La.out.topv (by have := La.pos; omega)
      obtain ⟨gt, ct, rfl, _⟩ := La.ints.val (by have := La.pos; omega)
      have r0 := Ga.box.c0
      have r1 := Ga.box.c1
      have r2 := Ga.box.f0
      have r3 := Ga.box.f1
      have hGs := G2.size
      have G' := Lib.hid (Ga.put (.slice (some ⟨gu, 0, none⟩) Na cu) (.slice (some ⟨gt, 0, none⟩) Na ct))
      have L' := Lib.hid (LgB.putL (La.base (base' := w.heap.size + 2) (by omega)) Ga)
      go_wp2_with fail
      go_meet
      exact ⟨_, _, _, _, _, _, _, G'.out, L'.out, by omega⟩
    · go_wp2_with fail
      go_at_call 30
      refine (pick_any (by omega) (by omega) (by omega) hn G1.rd (HB G1) hB).mono ?_
      rintro e w2 ⟨v2, rfl, v2lo, v2hi, hR2, hO2⟩
      have G2 := G1.pick hO2 hR2
      go_wp2_with fail
      go_at_call 80
      refine (boole_any _ v2lo v2hi).mono ?_
      rintro e wa ⟨Na, _, ua, ta, rva, Za, ya, rfl, La, hba⟩
      have Ga := G2.below hba
      obtain ⟨gu, cu, rfl, _⟩ := La.out.topv (by have := La.pos; omega)
      obtain ⟨gt, ct, rfl, _⟩ := La.ints.val (by have := La.pos; omega)
      have r0 := Ga.box.c0
      have r1 := Ga.box.c1
      have r2 := Ga.box.f0
      have r3 := Ga.box.f1
      have hGs := G2.size
      have G' := Lib.hid (Ga.put (.slice (some ⟨gu, 0, none⟩) Na cu) (.slice (some ⟨gt, 0, none⟩) Na ct))
      have L' := Lib.hid (LgB.putL (La.base (base' := w.heap.size + 2) (by omega)) Ga)
      go_wp2_with fail
      go_meet
      exact ⟨_, _, _, _, _, _, _, G'.out, L'.out, by omega⟩
    · go_wp2_with fail
      go_at_call 80
      refine (boole_2 _).mono ?_
      rintro e wa ⟨ua, ta, rva, Za, ya, rfl, La, hba⟩
      have Ga := G1.below hba
      go_wp2_with fail
      go_at_call 80
      refine (boole_2 _).mono ?_
      rintro e wb ⟨ub, tb, rvb, Zb, yb, rfl, Lb, hbb⟩
      have Gb := Ga.below hbb
      have La1 := La.below hbb (Nat.le_refl _)
      go_wp2_with fail
      go_at_call 81
      refine (glued_any La1 Lb (by omega) (by omega) (by omega)).mono ?_
      rintro e wc ⟨uc, tc, rvc, Zc, yc, rfl, Lc, hbc⟩
      change LogO _ _ _ _ 6 _ _ _ at Lc
      have Gc := Gb.below hbc
      obtain ⟨gu, cu, rfl, _⟩ := Lc.out.topv (by have := Lc.pos; omega)
      obtain ⟨gt, ct, rfl, _⟩ := Lc.ints.val (by have := Lc.pos; omega)
      have r0 := Gc.box.c0
      have r1 := Gc.box.c1
      have r2 := Gc.box.f0
      have r3 := Gc.box.f1
      have hGs := Gb.size
      have G' := Lib.hid (Gc.put (.slice (some ⟨gu, 0, none⟩) 6 cu) (.slice (some ⟨gt, 0, none⟩) 6 ct))
      have L' := Lib.hid (LgB.putL (Lc.base (base' := w.heap.size + 2) (by omega)) Gc)
      go_wp2_with fail
      go_meet
      exact ⟨_, _, _, _, _, _, _, G'.out, L'.out, by omega⟩
    · go_wp2_with fail
      go_at_call 80
      refine (boole_2 _).mono ?_
      rintro e wa ⟨ua, ta, rva, Za, ya, rfl, La, hba⟩
      have Ga := G1.below hba
      go_wp2_with fail
      go_at_call 80
      refine (boole_2 _).mono ?_
      rintro e wb ⟨ub, tb, rvb, Zb, yb, rfl, Lb, hbb⟩
      have Gb := Ga.below hbb
      have La1 := La.below hbb (Nat.le_refl _)
      go_wp2_with fail
      go_at_call 81
      refine (glued_any La1 Lb (by omega) (by omega) (by omega)).mono ?_
      rintro e wc ⟨uc, tc, rvc, Zc, yc, rfl, Lc, hbc⟩
      change LogO _ _ _ _ 6 _ _ _ at Lc
      have Gc := Gb.below hbc
      obtain ⟨gu, cu, rfl, _⟩ := Lc.out.topv (by have := Lc.pos; omega)
      obtain ⟨gt, ct, rfl, _⟩ := Lc.ints.val (by have := Lc.pos; omega)
      have r0 := Gc.box.c0
      have r1 := Gc.box.c1
      have r2 := Gc.box.f0
      have r3 := Gc.box.f1
      have hGs := Gb.size
      have G' := Lib.hid (Gc.put (.slice (some ⟨gu, 0, none⟩) 6 cu) (.slice (some ⟨gt, 0, none⟩) 6 ct))
      have L' := Lib.hid (LgB.putL (Lc.base (base' := w.heap.size + 2) (by omega)) Gc)
      go_wp2_with fail
      go_meet
      exact ⟨_, _, _, _, _, _, _, G'.out, L'.out, by omega⟩
    · go_wp2_with fail
      go_at_call 80
      refine (boole_2 _).mono ?_
      rintro e wa ⟨ua, ta, rva, Za, ya, rfl, La, hba⟩
      have Ga := G1.below hba
      go_wp2_with fail
      go_at_call 80
      refine (boole_3 _).mono ?_
      rintro e wb ⟨ub, tb, rvb, Zb, yb, rfl, Lb, hbb⟩
      have Gb := Ga.below hbb
      have La1 := La.below hbb (Nat.le_refl _)
      go_wp2_with fail
      go_at_call 81
      refine (glued_any La1 Lb (by omega) (by omega) (by omega)).mono ?_
      rintro e wc ⟨uc, tc, rvc, Zc, yc, rfl, Lc, hbc⟩
      change LogO _ _ _ _ 10 _ _ _ at Lc
      have Gc := Gb.below hbc
      obtain ⟨gu, cu, rfl, _⟩ := Lc.out.topv (by have := Lc.pos; omega)
      obtain ⟨gt, ct, rfl, _⟩ := Lc.ints.val (by have := Lc.pos; omega)
      have r0 := Gc.box.c0
      have r1 := Gc.box.c1
      have r2 := Gc.box.f0
      have r3 := Gc.box.f1
      have hGs := Gb.size
      have G' := Lib.hid (Gc.put (.slice (some ⟨gu, 0, none⟩) 10 cu) (.slice (some ⟨gt, 0, none⟩) 10 ct))
      have L' := Lib.hid (LgB.putL (Lc.base (base' := w.heap.size + 2) (by omega)) Gc)
      go_wp2_with fail
      go_meet
      exact ⟨_, _, _, _, _, _, _, G'.out, L'.out, by omega⟩
    · go_wp2_with fail
      go_at_call 80
      refine (boole_2 _).mono ?_
      rintro e wa ⟨ua, ta, rva, Za, ya, rfl, La, hba⟩
      have Ga := G1.below hba
      go_wp2_with fail
      go_at_call 80
      refine (boole_2 _).mono ?_
      rintro e wb ⟨ub, tb, rvb, Zb, yb, rfl, Lb, hbb⟩
      have Gb := Ga.below hbb
      have La1 := La.below hbb (Nat.le_refl _)
      go_wp2_with fail
      go_at_call 81
      refine (glued_any La1 Lb (by omega) (by omega) (by omega)).mono ?_
      rintro e wc ⟨uc, tc, rvc, Zc, yc, rfl, Lc, hbc⟩
      change LogO _ _ _ _ 6 _ _ _ at Lc
      have Gc := Gb.below hbc
      go_wp2_with fail
      go_at_call 80
      refine (boole_2 _).mono ?_
      rintro e wd ⟨ud, td, rvd, Zd, yd, rfl, Ld, hbd⟩
      have Gd := Gc.below hbd
      have Lc1 := Lc.below hbd (Nat.le_refl _)
      go_wp2_with fail
      go_at_call 81
      refine (glued_any Lc1 Ld (by omega) (by omega) (by omega)).mono ?_
      rintro e wf ⟨uf, tf, rvf, Zf, yf, rfl, Lf, hbf⟩
      change LogO _ _ _ _ 8 _ _ _ at Lf
      have Gf := Gd.below hbf
      obtain ⟨gu, cu, rfl, _⟩ := Lf.out.topv (by have := Lf.pos; omega)
      obtain ⟨gt, ct, rfl, _⟩ := Lf.ints.val (by have := Lf.pos; omega)
      have r0 := Gf.box.c0
      have r1 := Gf.box.c1
      have r2 := Gf.box.f0
      have r3 := Gf.box.f1
      have hGs := Gd.size
      have G' := Lib.hid (Gf.put (.slice (some ⟨gu, 0, none⟩) 8 cu) (.slice (some ⟨gt, 0, none⟩) 8 ct))
      have L' := Lib.hid (LgB.putL (Lf.base (base' := w.heap.size + 2) (by omega)) Gf)
      go_wp2_with fail
      go_meet
      exact ⟨_, _, _, _, _, _, _, G'.out, L'.out, by omega⟩
    · go_wp2_with fail
      go_at_call 82
      refine (six_any _).mono ?_
      rintro e wa ⟨ua, ta, rva, Za, ya, rfl, La, hba⟩
      have Ga := G1.below hba
      obtain ⟨gu, cu, rfl, _⟩ := La.out.topv (by have := La.pos; omega)
      obtain ⟨gt, ct, rfl, _⟩ := La.ints.val (by have := La.pos; omega)
      have r0 := Ga.box.c0
      have r1 := Ga.box.c1
      have r2 := Ga.box.f0
      have r3 := Ga.box.f1
      have hGs := G1.size
      have G' := Lib.hid (Ga.put (.slice (some ⟨gu, 0, none⟩) 6 cu) (.slice (some ⟨gt, 0, none⟩) 6 ct))
      have L' := Lib.hid (LgB.putL (La.base (base' := w.heap.size + 2) (by omega)) Ga)
      go_wp2_with fail
      go_meet
      exact ⟨_, _, _, _, _, _, _, G'.out, L'.out, by omega⟩
    · go_wp2_with fail
      go_at_call 82
      refine (six_any _).mono ?_
      rintro e wa ⟨ua, ta, rva, Za, ya, rfl, La, hba⟩
      have Ga := G1.below hba
      go_wp2_with fail
      go_at_call 80
      refine (boole_2 _).mono ?_
      rintro e wb ⟨ub, tb, rvb, Zb, yb, rfl, Lb, hbb⟩
      have Gb := Ga.below hbb
      have La1 := La.below hbb (Nat.le_refl _)
      go_wp2_with fail
      go_at_call 81
      refine (glued_any La1 Lb (by omega) (by omega) (by omega)).mono ?_
      rintro e wc ⟨uc, tc, rvc, Zc, yc, rfl, Lc, hbc⟩
      change LogO _ _ _ _ 8 _ _ _ at Lc
      have Gc := Gb.below hbc
      obtain ⟨gu, cu, rfl, _⟩ := Lc.out.topv (by have := Lc.pos; omega)
      obtain ⟨gt, ct, rfl, _⟩ := Lc.ints.val (by have := Lc.pos; omega)
      have r0 := Gc.box.c0
      have r1 := Gc.box.c1
      have r2 := Gc.box.f0
      have r3 := Gc.box.f1
      have hGs := Gb.size
      have G' := Lib.hid (Gc.put (.slice (some ⟨gu, 0, none⟩) 8 cu) (.slice (some ⟨gt, 0, none⟩) 8 ct))
      have L' := Lib.hid (LgB.putL (Lc.base (base' := w.heap.size + 2) (by omega)) Gc)
      go_wp2_with fail
      go_meet
      exact ⟨_, _, _, _, _, _, _, G'.out, L'.out, by omega⟩
    · go_wp2_with fail
      go_at_call 83
      refine (pasted_any _).mono ?_
      rintro e wa ⟨ua, ta, rva, Za, ya, rfl, La, hba⟩
      have Ga := G1.below hba
      obtain ⟨gu, cu, rfl, _⟩ := La.out.topv (by have := La.pos; omega)
      obtain ⟨gt, ct, rfl, _⟩ := La.ints.val (by have := La.pos; omega)
      have r0 := Ga.box.c0
      have r1 := Ga.box.c1
      have r2 := Ga.box.f0
      have r3 := Ga.box.f1
      have hGs := G1.size
      have G' := Lib.hid (Ga.put (.slice (some ⟨gu, 0, none⟩) 12 cu) (.slice (some ⟨gt, 0, none⟩) 12 ct))
      have L' := Lib.hid (LgB.putL (La.base (base' := w.heap.size + 2) (by omega)) Ga)
      go_wp2_with fail
      go_meet
      exact ⟨_, _, _, _, _, _, _, G'.out, L'.out, by omega⟩
  case rest =>
    clear G1 hv0 hv1
    obtain ⟨N, p, u, t, rv, Z, y, hG, hL, hpp⟩ := hcut
    have hN1 := hL.pos
    have hN12 := hL.hi
    obtain ⟨gu, cu, rfl, _⟩ := hL.out.topv (by omega)
    obtain ⟨gt, ct, rfl, hgt, _, hct⟩ := hL.ints.val (by omega)
    have hrow0 : IntsAt (wc.alloc (.cells #[] 3)) wc.heap.size (.slice (some ⟨wc.heap.size, 0, none⟩) 0 0) 0 (fun _ => ((0 : Nat) : Int)) := World.ownsRow_lit (base := wc.heap.size) (e := 3) (size := 1) wc #[] 0 (Nat.le_refl _) (Nat.zero_le _) rfl
    have hC0 := Chg.alloc (fun j => j = rb ∨ wc.heap.size ≤ j) wc (.cells #[] 3)
    have hwrb : rb < wc.heap.size := by have := hG.size; omega
    have hR0 : Rd (wc.alloc (.cells #[] 3)) rb A n c p := (Chg.alloc (fun _ => False) wc (.cells #[] 3)).rd hG.rd hwrb (fun h => h)
    go_wp2_with fail
    go_loopw [6, 7] (fun t' i wr => ∃ (k p' : Nat) (q : Nat → Nat), k ≤ N ∧ i = .int .i64 k ∧ IntsAt wr wc.heap.size t' k (fun c => (q c : Int)) ∧ Hid (∀ c, c < k → q c < k) ∧ Chg (fun j => j = rb ∨ wc.heap.size ≤ j) wc wr ∧ Rd wr rb A n c p' ∧ p' ≤ p + k) (fun _ i _ => N - (intOf i).toNat)
    case atStart => exact ⟨0, p, fun _ => 0, Nat.zero_le _, rfl, hrow0, fun _ hc => absurd hc (Nat.not_lt_zero _), hC0, hR0, by omega⟩
    case round =>
      clear hrow0 hC0 hR0
      obtain ⟨k, p', q, hk, rfl, hI, hq, hC, hR, hp'⟩ := hrel
      have hGr := hG.past hC hR
      have hqb := hGr.box.c1
      by_cases hlt : k < N
      · have hlt' : (k : Int) < N := by omega
        go_wp2_with fail
        go_at_call 30
        refine (pick_any (by omega) (by omega) (by omega) hn hR (HB hGr) hB).mono ?_
        rintro e wp ⟨v, rfl, v0, v1, hR1, hO1⟩
        obtain ⟨at_, rfl⟩ := Int.eq_ofNat_of_zero_le v0
        have hat : at_ ≤ k := by omega
        have htb := ownsRow_block hI
        have hC1 := hC.trans ((Chg.of_only hO1).mono (T := fun j => j = rb ∨ wc.heap.size ≤ j) fun j hj => .inl hj)
        have hI1 := (Chg.of_only hO1).ints hI (fun g hg e => by have := htb g hg; have e' : g = rb := e; omega)
        have hsz1 := hC1.size
        clear hI hC hR hGr hqb hO1 v0 v1
        go_wp2_with (at_builtin; refine wpList_append_own _ rfl _ _ 24 rfl wc.heap.size 3 i0 (.int .i64 0) 1 8 Try.underlying24 HI.out HZ0.out HZ1.out HZ2.out rfl (by decide) _ _ _ rfl ((Chg.alloc (fun _ => False) _ _).own hI1 (fun _ _ h => h)) ⟨wp.heap.size, 0, none⟩ 1 1 [.int .i64 (k : Int)] rfl rfl (cell_one_new _ _ _) ?c2 ?c3 ?c4 ?c5 ?_)
        case c2 => simp [Value.oneCell']
        case c3 => unfold maxLen; omega
        case c4 => omega
        case c5 => first | omega | (simp; omega)
        intro v' w4 hown4 hgrow _
        have HO4 := ints_cast (IntsAt.step hown4)
        have hg4 := (Chg.alloc (fun j => wc.heap.size ≤ j) wp (.cells #[.int .i64 (k : Int)] 3)).trans (Chg.of_grown hgrow htb)
        have hC4 := hC1.trans (hg4.mono (T := fun j => j = rb ∨ wc.heap.size ≤ j) fun j hj => .inr hj)
        have hR4 := hg4.rd hR1 (by omega) (by show ¬ _ ≤ rb; omega)
        have hQ4 : Hid (∀ c, c < k + 1 → (if c = k then k else q c) < k + 1) := fun c hc => by
          by_cases e : c = k
          · rw [if_pos e]; omega
          · rw [if_neg e]; have := hq.out c (by omega); omega
        obtain ⟨g4, c4, rfl, hg40, hg41, _⟩ := HO4.val (by omega)
        clear hown4 hgrow hI1 hC1 hR1 hg4 htb hq
        go_wp2_with fail
        go_loopw [9] (fun i wi => ∃ (j : Nat) (q' : Nat → Nat), at_ ≤ j ∧ j ≤ k ∧ i = .int .i64 j ∧ IntsAt wi wc.heap.size (.slice (some ⟨g4, 0, none⟩) (k + 1) c4) (k + 1) (fun c => (q' c : Int)) ∧ Hid (∀ c, c < k + 1 → q' c < k + 1) ∧ Chg (fun j => j = rb ∨ wc.heap.size ≤ j) wc wi ∧ Rd wi rb A n c (p' + 1)) (fun i _ => (intOf i).toNat)
        case atStart => exact ⟨k, _, hat, Nat.le_refl _, rfl, HO4, hQ4, hC4, hR4⟩
        case round =>
          clear HO4 hQ4 hC4 hR4
          obtain ⟨j, q', haj, hjk, rfl, hI, hq, hC, hR⟩ := hrel
          have hset : ∀ (i : Nat) (x : Value), Chg (fun j => j = rb ∨ wc.heap.size ≤ j) wr (wr.setCell ⟨g4, i, none⟩ x) ∧ Rd (wr.setCell ⟨g4, i, none⟩ x) rb A n c (p' + 1) := fun i x => ⟨Chg.set (S := fun j => j = rb ∨ wc.heap.size ≤ j) (.inr hg40) x, hR.block (Below.heap_setCell _ _ _ _ (by show rb ≠ g4; omega))⟩
          by_cases hjt : at_ < j
          · have hjt' : (at_ : Int) < j := by omega
            obtain ⟨J, hJ⟩ : ∃ J, J + 1 = j := ⟨j - 1, by omega⟩
            have eJ : (j : Int) - 1 = (J : Int) := by omega
            have c1 := hI.cell (c := J) (by omega)
            have c2 := hI.cell (c := j) (by omega)
            have c3 := hI.frozen j
            have l1 : (J : Int) < (k : Int) + 1 := by omega
            have l2 : (j : Int) < (k : Int) + 1 := by omega
            have hqJ := hq.out J (by omega)
            have HI2 := Lib.hid (ints_cast (hI.store j (q' J : Int)))
            have HJ := Lib.hid hJ
            have hC2 := Lib.hid (hC.trans (hset j (.int .i64 (q' J : Int))).1)
            have hR2 := Lib.hid (hset j (.int .i64 (q' J : Int))).2
            clear hJ hset hC hI hR
            go_wp2_with fail
            go_roundw
            case rel => exact ⟨J, _, by have := HJ.out; omega, by have := HJ.out; omega, by go_num, HI2.out, fun c hc => by
              show (if c = j then q' J else q' c) < k + 1
              by_cases e : c = j
              · rw [if_pos e]; exact hqJ
              · rw [if_neg e]; exact hq.out c hc, hC2.out, hR2.out⟩
            case measure => have := HJ.out; simp [intOf]; omega
          · have hjt' : ¬ (at_ : Int) < j := by omega
            have c2 := hI.cell (c := at_) (by omega)
            have c3 := hI.frozen at_
            have l2 : (at_ : Int) < (k : Int) + 1 := by omega
            have HI2 := Lib.hid (ints_cast (hI.store at_ (k : Int)))
            have hC2 := Lib.hid (hC.trans (hset at_ (.int .i64 (k : Int))).1)
            have hR2 := Lib.hid (hset at_ (.int .i64 (k : Int))).2
            clear hset hC hI hR
            go_wp2_with fail
            go_roundw
            case rel => exact ⟨k + 1, p' + 1, _, by omega, by go_num, HI2.out, fun c hc => by
              show (if c = at_ then k else q' c) < k + 1
              by_cases e : c = at_
              · rw [if_pos e]; omega
              · rw [if_neg e]; exact hq.out c hc, hC2.out, hR2.out, by omega⟩
            case measure => simp [intOf]; omega
      · have hlt' : ¬ (k : Int) < N := by omega
        have hkn : k = N := by omega
        have hI1 : IntsAt wr wc.heap.size u6 N (fun c => (q c : Int)) := by subst hkn; exact hI
        have hqN : Hid (∀ c, c < N → q c < N) := fun c hc => by have := hq.out c (by omega); omega
        obtain ⟨go, co, rfl, hgo, hgol, _⟩ := hI1.val (by omega)
        have hLr := hL.chg2 hC (fun j hj => by
          have hj' : j = rb ∨ wc.heap.size ≤ j := hj
          have := hG.hrb
          omega)
        have hp2 : p' ≤ p + 12 := by omega
        clear hkn hI hq hG hL hC
        go_wp2_with fail
        go_at_call 30
        refine (pick_any (by omega) (by omega) (by omega) hn hR (HB hGr) hB).mono ?_
        rintro e wp ⟨v, rfl, v0, v1, hR1, hO1⟩
        have hG1 := hGr.pick hO1 hR1
        have hL1 := hLr.chg2 (Chg.of_only hO1) (fun j hj => by
          have hj' : j = rb := hj
          omega)
        have hNu : NumsAt wp go N q := ⟨fun c hc => ((Chg.of_only hO1).ints hI1 (fun g hg e => by
          have hg' : go = g := by simpa [Value.ownBlock] using hg
          have e' : g = rb := e
          omega)).cell hc, hqN.out, by have := hO1.size; omega⟩
        clear hGr hLr hR hR1 hO1 hI1 hqb
        go_upto_if 82 with fail
        go_cut [] (fun wx => ∃ (p2 : Nat) (u t : Value) (rv : Nat → Value) (Z : Nat → Nat → Int) (y : Nat → Int), LgB rb A n c p2 w u t wx ∧ LogO wx (w.heap.size + 2) u t N rv Z y ∧ p2 ≤ p + 13)
        case first =>
          have e4 := hG1.box.c0
          have e5 := hG1.box.c1
          go_wp2_with fail
          · go_at_call 84
            refine (rename_any hL1 hNu).mono ?_
            rintro e wa ⟨ua, ta, rva, Za, ya, rfl, La, hba⟩
            have Ga := hG1.below hba
            obtain ⟨gu', cu', rfl, _⟩ := La.out.topv (by omega)
            obtain ⟨gt', ct', rfl, _⟩ := La.ints.val (by omega)
            have r0 := Ga.box.c0
            have r1 := Ga.box.c1
            have r2 := Ga.box.f0
            have r3 := Ga.box.f1
            have hGs := hG1.size
            have G' := Lib.hid (Ga.put (.slice (some ⟨gu', 0, none⟩) N cu') (.slice (some ⟨gt', 0, none⟩) N ct'))
            have L' := Lib.hid (LgB.putL (La.base (base' := w.heap.size + 2) (by omega)) Ga)
            clear hG1 hL1 La Ga
            go_wp2_with fail
            go_meet
            exact ⟨_, _, _, _, _, _, G'.out, L'.out, by omega⟩
          · go_meet
            exact ⟨_, _, _, _, _, _, hG1, hL1, by omega⟩
        case rest =>
          clear hG1 hL1 hNu v0 v1 hqN hgo hgol
          obtain ⟨p2, u2, t2, rv2, Z2, y2, hG, hL, hp3⟩ := hcut
          obtain ⟨gu2, cu2, rfl, _⟩ := hL.out.topv (by omega)
          obtain ⟨gt2, ct2, rfl, hgt2, hgtl2, hct2⟩ := hL.ints.val (by omega)
          have hpz : p2 ≤ p0 + 15 := by omega
          clear hp3 hp2
          go_wp2_with fail
          go_at_call 48
          refine (odd_zero hG.rd).mono ?_
          rintro e wo ⟨rfl, hR1, hO1⟩
          have hG1 := hG.pick hO1 hR1
          have hL1 := hL.chg2 (Chg.of_only hO1) (fun j hj => by
            have hj' : j = rb := hj
            omega)
          clear hG hL hR1 hO1
          have e0 := hG1.res.f0
          have e1 := hG1.res.f1
          have e2 := hG1.res.c0
          have e3 := hG1.res.c1
          have e4 := hG1.box.c0
          have e5 := hG1.box.c1
          have hsz := hG1.size
          have hall := Lib.hid (lg_endC (p0 := p0) hG1 hL1 (by omega))
          have hfin := (hG1.res.set0 (.slice (some ⟨gu2, 0, none⟩) N cu2)).set1 (.slice (some ⟨gt2, 0, none⟩) N ct2)
          clear hG1 hL1
          have t0 := hfin.c0
          have t1 := hfin.c1
          clear hfin
          go_wp2_with fail
          exact bodyPost_ret (v := .agg #[.slice (some ⟨gu2, 0, none⟩) N cu2, .slice (some ⟨gt2, 0, none⟩) N ct2]) (by simp [results, Try.results45, go_sem, t0, t1]) rfl hall.out
end Go.Proofs.Ytojcgmgponnlpaa
