/- The walks of the laws' draws of a logic, alone or with two answers, out of a code. -/
import Derived.Test.YtijcacibofpnpaaDm
import Derived.Test.YtijcacibofpnpaaDe
import Derived.Test.YtijcacibofpnpaaOa
import Derived.Deep.DeepCutAuto
namespace Go.Proofs.Ytijcacibofpnpaa
open Go.RowKit Go.Deep

/-- What is drawn: a logic's rows and opposites, in memory of the call's own. -/
structure Fresh (w : World) (ua : Option Addr) (l : Lay) (m : Mx) (na : Option Addr) (g o k : Nat) (z : Nat → Int) (w' : World) : Prop where
  log : LogAt w' w'.heap.size ua l m na g o k z
  lay : LayFrom w.heap.size l m
  from_ : 0 < k → w.heap.size ≤ g
  hn : m.n ≤ 12
  hL : ∀ r, r < m.n → m.L r ≤ 12
  hk : k ≤ 12
  old : Below w.heap.size w w'
def DrewL (w : World) (e : Ending) (w' : World) : Prop :=
  ∃ (ua : Option Addr) (l : Lay) (m : Mx) (na : Option Addr) (g o k nc : Nat) (z : Nat → Int), e = .returned (.agg #[.slice ua m.n l.cap, .slice na k nc]) ∧ Fresh w ua l m na g o k z w'
def DrewT (w : World) (e : Ending) (w' : World) : Prop :=
  ∃ (ua : Option Addr) (l : Lay) (m : Mx) (na : Option Addr) (g o k nc : Nat) (z : Nat → Int) (x y : Int), e = .returned (.tuple #[.agg #[.slice ua m.n l.cap, .slice na k nc], .int .i64 x, .int .i64 y]) ∧ Fresh w ua l m na g o k z w'
/-- Stored into the result's box, which came ahead of it. -/
theorem Fresh.put {w w1 w2 : World} {ua : Option Addr} {l : Lay} {m : Mx} {na : Option Addr} {g o k : Nat} {z : Nat → Int} (h : Fresh w1 ua l m na g o k z w2) (h1 : Below w.heap.size w w1) (hs : w.heap.size < w1.heap.size) (u t : Value) :
    Fresh w ua l m na g o k z ((w2.setCell ⟨w.heap.size, 0, none⟩ u).setCell ⟨w.heap.size, 1, none⟩ t) := by
  have ho := ((OnlyIn.refl (fun x => x = w.heap.size) w2).set (b := w.heap.size) rfl 0 u).set (b := w.heap.size) rfl 1 t
  have hs2 := ho.size
  have hz := h.old.size
  have hm := (h.log.mat.only h.lay ho (fun j hj => by have hj' : j = w.heap.size := hj; omega)).more (B' := ((w2.setCell ⟨w.heap.size, 0, none⟩ u).setCell ⟨w.heap.size, 1, none⟩ t).heap.size) (by omega)
  have hR : RowAt ((w2.setCell ⟨w.heap.size, 0, none⟩ u).setCell ⟨w.heap.size, 1, none⟩ t) ((w2.setCell ⟨w.heap.size, 0, none⟩ u).setCell ⟨w.heap.size, 1, none⟩ t).heap.size na g o k z := ⟨fun i hi => by
    obtain ⟨e1, e2, e3⟩ := (h.log.row.only ho (fun e => by have e' : g = w.heap.size := e; have := h.from_ (by omega); omega)).row i hi
    exact ⟨e1, by omega, e3⟩⟩
  exact ⟨⟨hm, hR, h.log.hn, h.log.hL, h.log.hk, Nat.le_refl _⟩, ⟨fun r hr => by have := h.lay.top r hr; omega, fun r hr c hc => by have := h.lay.row r hr c hc; omega⟩, fun h0 => by have := h.from_ h0; omega, h.hn, h.hL, h.hk,
    (h1.trans (h.old.mono (by omega))).trans (ho.below fun j hj => by have hj' : j = w.heap.size := hj; omega)⟩
theorem Fresh.only {S : Nat → Prop} {w w1 w2 : World} {ua : Option Addr} {l : Lay} {m : Mx} {na : Option Addr} {g o k : Nat} {z : Nat → Int} (h : Fresh w ua l m na g o k z w1) (ho : OnlyIn S w1 w2) (hS : ∀ j, S j → j < w.heap.size) (hb : Below w.heap.size w w2) : Fresh w ua l m na g o k z w2 := by
  have hs2 := ho.size
  refine ⟨⟨(h.log.mat.only h.lay ho hS).more (by omega), ⟨fun i hi => ?_⟩, h.log.hn, h.log.hL, h.log.hk, Nat.le_refl _⟩, h.lay, h.from_, h.hn, h.hL, h.hk, hb⟩
  obtain ⟨e1, e2, e3⟩ := (h.log.row.only ho (fun e => by have := hS g e; have := h.from_ (by omega); omega)).row i hi
  exact ⟨e1, by omega, e3⟩

theorem Fresh.alloc {w w1 : World} {ua : Option Addr} {l : Lay} {m : Mx} {na : Option Addr} {g o k : Nat} {z : Nat → Int} (h : Fresh w ua l m na g o k z w1) (x : Obj) : Fresh w ua l m na g o k z (w1.alloc x) := by
  have hl := h.log.alloc x
  refine ⟨⟨hl.mat.more (by simp), ⟨fun i hi => ?_⟩, h.log.hn, h.log.hL, h.log.hk, Nat.le_refl _⟩, h.lay, h.from_, h.hn, h.hL, h.hk, h.old.alloc h.old.size x⟩
  obtain ⟨e1, e2, e3⟩ := hl.row.row i hi
  exact ⟨e1, by simp; omega, e3⟩
theorem CodeAt.alloc {A : Option Addr} {b o n cap : Nat} {z : Nat → Nat} {w : World} (h : CodeAt w A b o n cap z) (x : Obj) : CodeAt (w.alloc x) A b o n cap z :=
  ⟨⟨fun j hj => by
    obtain ⟨e1, e2, e3, e4⟩ := (h.bytes.below ((Below.refl w.heap.size w).alloc (Nat.le_refl _) x)).at_ j hj
    exact ⟨e1, by simp; omega, e3, e4⟩⟩, h.hn, h.hc⟩

def DrawnT (rb : Nat) (w : World) (e : Ending) (w' : World) : Prop :=
  ∃ (ua : Option Addr) (l : Lay) (m : Mx) (na : Option Addr) (g o k nc : Nat) (z : Nat → Int) (x y : Int), e = .returned (.tuple #[.agg #[.slice ua m.n l.cap, .slice na k nc], .int .i64 x, .int .i64 y]) ∧ LogAt w' w'.heap.size ua l m na g o k z ∧ LayFrom w.heap.size l m ∧ (0 < k → w.heap.size ≤ g) ∧ m.n ≤ 12 ∧ (∀ r, r < m.n → m.L r ≤ 12) ∧ k ≤ 12 ∧ Chg (fun j => j = rb) w w'
/-- The same, with where the reader stands behind it. -/
def DrawnTR (rb : Nat) (A : Option Addr) (n c : Nat) (w : World) (e : Ending) (w' : World) : Prop :=
  ∃ (ua : Option Addr) (l : Lay) (m : Mx) (na : Option Addr) (g o k nc : Nat) (z : Nat → Int) (x y : Int) (p : Nat), e = .returned (.tuple #[.agg #[.slice ua m.n l.cap, .slice na k nc], .int .i64 x, .int .i64 y]) ∧ LogAt w' w'.heap.size ua l m na g o k z ∧ LayFrom w.heap.size l m ∧ (0 < k → w.heap.size ≤ g) ∧ m.n ≤ 12 ∧ (∀ r, r < m.n → m.L r ≤ 12) ∧ k ≤ 12 ∧ Chg (fun j => j = rb) w w' ∧ Rd w' rb A n c p ∧ p ≤ 1000
set_option maxRecDepth 100000 in
set_option maxHeartbeats 2000000 in
theorem l20TwoR_any {rb n c : Nat} {A : Option Addr} {q0 : Int} {B b o : Nat} {z0 : Nat → Nat} {w : World} (hq0 : 1 ≤ q0) (hq1 : q0 ≤ 1000000) (hn : n ≤ 2000) (h : Rd w rb A n c 0) (hz : BytesAt w B A b o n z0) (hB : B ≤ rb) (hrb : rb < w.heap.size) :
    Calls Try.prog 43 #[.pointer (some ⟨rb, 0, none⟩), .int .i64 q0] w (DrawnTR rb A n c w) := by
  have hT := TwoAt.new w (.slice none 0 0) (.slice none 0 0) 26
  have hcA := Chg.alloc (fun j => j = rb) w (.cells #[.slice none 0 0, .slice none 0 0] 26)
  have hsA : (w.alloc (.cells #[.slice none 0 0, .slice none 0 0] 26)).heap.size = w.heap.size + 1 := by simp
  have hRA := (Chg.alloc (fun _ => False) w (.cells #[.slice none 0 0, .slice none 0 0] 26)).rd h hrb (fun h => h)
  have HZ := Lib.hid hz
  have HBY : ∀ {wx : World}, Chg (fun j => j = rb) w wx → BytesAt wx B A b o n z0 := fun hG => HZ.out.below ((hG.below (B := rb) (by omega) (fun j hj => by have hj' : j = rb := hj; omega)).mono hB)
  clear h hz
  go_enter Try.func43, Try.ntmps43
  go_wp2_with fail
  go_at_call 51
  refine (l20Logic_any hq0 hq1 (by omega) hn hRA (HBY hcA) hB (by omega)).mono ?_
  rintro e w1 ⟨ua, l, m, na, g, o2, k, nc, zz, p, rfl, hlog, hf, hg, hn1, hL, hk, hR1, hp, hC⟩
  rw [hsA] at hf hg
  have hs1 := hC.size
  rw [hsA] at hs1
  have hT1 := hC.two hT (by show ¬ (w.heap.size = rb); omega)
  have hC1 := hcA.trans hC
  have hX := TwoAt.new w1 (.slice ua m.n l.cap) (.slice na k nc) 26
  have hcX := Chg.alloc (fun j => j = rb) w1 (.cells #[.slice ua m.n l.cap, .slice na k nc] 26)
  have hC2 := hC1.trans hcX
  have hT2 := hcX.two hT1 (by show ¬ (w.heap.size = rb); omega)
  have hR2 := (Chg.alloc (fun _ => False) w1 (.cells #[.slice ua m.n l.cap, .slice na k nc] 26)).rd hR1 (by omega) (fun h => h)
  have hlog2 := Lib.hid (hlog.alloc (.cells #[.slice ua m.n l.cap, .slice na k nc] 26))
  have HF := Lib.hid hf
  have HG := Lib.hid hg
  have HL := Lib.hid hL
  clear hT hcA hRA hlog hf hg hL hC hT1 hC1 hcX hR1
  obtain ⟨mx, hmx⟩ : ∃ mx : Int, (if (k : Int) < 1 then 1 else (k : Int)) = mx := ⟨_, rfl⟩
  have hmx1 : 1 ≤ mx ∧ mx ≤ 12 := by
    rw [← hmx]
    split <;> omega
  go_upto_region 3 with fail
  all_goals
    clear hmx
    generalize hW : w1.alloc (.cells #[.slice ua m.n l.cap, .slice na k nc] 26) = w2 at hX hC2 hT2 hR2 hlog2 ⊢
    clear hW
    have hTd := (Chg.drew (fun _ => False) w2).two hT2 (fun h => h)
    have hXd := (Chg.drew (fun _ => False) w2).two hX (fun h => h)
    have hCd := hC2.trans (Chg.drew (fun j => j = rb) w2)
    have hRd : Rd w2.drew rb A n c p := hR2
    have K0 : w2.drew.cell? ⟨w1.heap.size, 0, none⟩ = some (.slice ua m.n l.cap) ∧ w2.drew.cell? ⟨w1.heap.size, 1, none⟩ = some (.slice na k nc) := ⟨hXd.c0, hXd.c1⟩
    have hkeep : Hid (∀ (y' : World), OnlyIn (· = rb) w2.drew y' → TwoAt y' w.heap.size (.slice none 0 0) (.slice none 0 0) ∧ TwoAt y' w1.heap.size (.slice ua m.n l.cap) (.slice na k nc) ∧ Chg (fun j => j = rb) w y' ∧ LogAt y' y'.heap.size ua l m na g o2 k zz) := fun y' ho => by
      have hc := Chg.of_only ho
      have hs := ho.size
      refine ⟨hc.two hTd (by show ¬ (_ = rb); omega), hc.two hXd (by show ¬ (_ = rb); omega), hCd.trans hc, ⟨(hlog2.out.mat.only HF.out (w' := y') ⟨ho.os, ho.tape, ho.output, ho.size, ho.block⟩ (fun j hj => by have hj' : j = rb := hj; omega)).more (by have := hlog2.out.hB; simp at hs; omega), ⟨fun i hi => ?_⟩, hlog2.out.hn, hlog2.out.hL, hlog2.out.hk, Nat.le_refl _⟩⟩
      obtain ⟨e1, e2, e3⟩ := (hlog2.out.row.only (w' := y') ⟨ho.os, ho.tape, ho.output, ho.size, ho.block⟩ (fun e => by have e' : g = rb := e; have := HG.out (by omega); omega)).row i hi
      exact ⟨e1, by have := hlog2.out.hB; simp at hs; omega, e3⟩
    clear hTd hXd hR2 hX hT2 hC2
    refine region_plain (fuel := 20) (listed := #[false, false, false, false, false, false, false, false, false, false, false, false, false, false, false, false, false, false, false, false]) (fun w' => w'.cell? ⟨w1.heap.size, 0, none⟩ = some (.slice ua m.n l.cap) ∧ w'.cell? ⟨w1.heap.size, 1, none⟩ = some (.slice na k nc)) (by kernel_rfl) (by kernel_rfl) (by kernel_rfl) ?_
    refine hold_take (i := 0) (d := 16) (v := ?vT0) (listed' := #[true, false, false, false, false, false, false, false, false, false, false, false, false, false, false, false, false, false, false, false]) rfl (by kernel_rfl) (by kernel_rfl) (by kernel_rfl) rfl (by rfl) (by kernel_rfl) K0 ?hT0 ?rT0
    case hT0 =>
      intro w' hSw
      obtain ⟨k0, k1⟩ := hSw
      go_simp
      try with_reducible rfl
    simp only [List.setIfInBounds_toArray, List.set_cons_zero, List.set_cons_succ]
    refine hold_take (i := 1) (d := 17) (v := ?vT1) (listed' := #[true, true, false, false, false, false, false, false, false, false, false, false, false, false, false, false, false, false, false, false]) rfl (by kernel_rfl) (by kernel_rfl) (by kernel_rfl) rfl (by rfl) (by kernel_rfl) K0 ?hT1 ?rT1
    case hT1 =>
      intro w' hSw
      obtain ⟨k0, k1⟩ := hSw
      go_simp
      try with_reducible rfl
    simp only [List.setIfInBounds_toArray, List.set_cons_zero, List.set_cons_succ]
    refine hold_take (i := 2) (d := 18) (v := ?vT2) (listed' := #[true, true, true, false, false, false, false, false, false, false, false, false, false, false, false, false, false, false, false, false]) rfl (by kernel_rfl) (by kernel_rfl) (by kernel_rfl) rfl (by rfl) (by kernel_rfl) K0 ?hT2 ?rT2
    case hT2 =>
      intro w' hSw
      obtain ⟨k0, k1⟩ := hSw
      go_simp
      try with_reducible rfl
    simp only [List.setIfInBounds_toArray, List.set_cons_zero, List.set_cons_succ]
    refine hold_take (i := 4) (d := 20) (v := ?vT4) (listed' := #[true, true, true, false, true, false, false, false, false, false, false, false, false, false, false, false, false, false, false, false]) rfl (by kernel_rfl) (by kernel_rfl) (by kernel_rfl) rfl (by rfl) (by kernel_rfl) K0 ?hT4 ?rT4
    case hT4 =>
      intro w' hSw
      obtain ⟨k0, k1⟩ := hSw
      go_simp
      try with_reducible rfl
    simp only [List.setIfInBounds_toArray, List.set_cons_zero, List.set_cons_succ]
    refine hold_take (i := 9) (d := 25) (v := ?vT9) (listed' := #[true, true, true, false, true, false, false, false, false, true, false, false, false, false, false, false, false, false, false, false]) rfl (by kernel_rfl) (by kernel_rfl) (by kernel_rfl) rfl (by rfl) (by kernel_rfl) K0 ?hT9 ?rT9
    case hT9 =>
      intro w' hSw
      obtain ⟨k0, k1⟩ := hSw
      go_simp
      try with_reducible rfl
    simp only [List.setIfInBounds_toArray, List.set_cons_zero, List.set_cons_succ]
    refine hold_take (i := 10) (d := 26) (v := ?vT10) (listed' := #[true, true, true, false, true, false, false, false, false, true, true, false, false, false, false, false, false, false, false, false]) rfl (by kernel_rfl) (by kernel_rfl) (by kernel_rfl) rfl (by rfl) (by kernel_rfl) K0 ?hT10 ?rT10
    case hT10 =>
      intro w' hSw
      obtain ⟨k0, k1⟩ := hSw
      go_simp
      try with_reducible rfl
    simp only [List.setIfInBounds_toArray, List.set_cons_zero, List.set_cons_succ]
    refine hold_take (i := 12) (d := 28) (v := ?vT12) (listed' := #[true, true, true, false, true, false, false, false, false, true, true, false, true, false, false, false, false, false, false, false]) rfl (by kernel_rfl) (by kernel_rfl) (by kernel_rfl) rfl (by rfl) (by kernel_rfl) K0 ?hT12 ?rT12
    case hT12 =>
      intro w' hSw
      obtain ⟨k0, k1⟩ := hSw
      go_simp
      try with_reducible rfl
    simp only [List.setIfInBounds_toArray, List.set_cons_zero, List.set_cons_succ]
    refine hold_call (i := 3) (d := 19) (listed' := #[true, true, true, true, true, false, false, false, false, true, true, false, true, false, false, false, false, false, false, false]) rfl (by kernel_rfl) rfl (by rfl) (by kernel_rfl) ?heT3 (pick_any (q := mx) (by omega) (by omega) (by omega) hn hRd (HBY hCd) hB) ?hcT3
    case heT3 => go_simp
    rintro e y1 ⟨v1, rfl, v1lo, v1hi, hR1, hQ1⟩
    have hk1 := hkeep.out _ hQ1
    have K1 : y1.cell? ⟨w1.heap.size, 0, none⟩ = some (.slice ua m.n l.cap) ∧ y1.cell? ⟨w1.heap.size, 1, none⟩ = some (.slice na k nc) := ⟨hk1.2.1.c0, hk1.2.1.c1⟩
    have hz1 := HBY hk1.2.2.1
    clear hk1
    refine ⟨_, rfl, K1, ?_⟩
    simp only [List.setIfInBounds_toArray, List.set_cons_zero, List.set_cons_succ]
    refine hold_call (i := 5) (d := 21) (listed' := #[true, true, true, true, true, true, false, false, false, true, true, false, true, false, false, false, false, false, false, false]) rfl (by kernel_rfl) rfl (by rfl) (by kernel_rfl) ?heT5 (pick_any (q := 40) (by omega) (by omega) (by omega) hn hR1 hz1 hB) ?hcT5
    case heT5 => go_simp
    rintro e y2 ⟨v2, rfl, v2lo, v2hi, hR2, hQ2⟩
    have hQ12 := hQ1.trans hQ2
    have hk2 := hkeep.out _ hQ12
    have K2 : y2.cell? ⟨w1.heap.size, 0, none⟩ = some (.slice ua m.n l.cap) ∧ y2.cell? ⟨w1.heap.size, 1, none⟩ = some (.slice na k nc) := ⟨hk2.2.1.c0, hk2.2.1.c1⟩
    have hz2 := HBY hk2.2.2.1
    clear hk2
    refine ⟨_, rfl, K2, ?_⟩
    simp only [List.setIfInBounds_toArray, List.set_cons_zero, List.set_cons_succ]
    refine hold_take (i := 6) (d := 22) (v := ?vT6) (listed' := #[true, true, true, true, true, true, true, false, false, true, true, false, true, false, false, false, false, false, false, false]) rfl (by kernel_rfl) (by kernel_rfl) (by kernel_rfl) rfl (by rfl) (by kernel_rfl) K2 ?hT6 ?rT6
    case hT6 =>
      intro w' hSw
      obtain ⟨k0, k1⟩ := hSw
      go_simp
      try with_reducible rfl
    simp only [List.setIfInBounds_toArray, List.set_cons_zero, List.set_cons_succ]
    refine hold_take (i := 7) (d := 23) (v := ?vT7) (listed' := #[true, true, true, true, true, true, true, true, false, true, true, false, true, false, false, false, false, false, false, false]) rfl (by kernel_rfl) (by kernel_rfl) (by kernel_rfl) rfl (by rfl) (by kernel_rfl) K2 ?hT7 ?rT7
    case hT7 =>
      intro w' hSw
      obtain ⟨k0, k1⟩ := hSw
      go_simp
      try with_reducible rfl
    simp only [List.setIfInBounds_toArray, List.set_cons_zero, List.set_cons_succ]
    refine hold_take (i := 8) (d := 24) (v := ?vT8) (listed' := #[true, true, true, true, true, true, true, true, true, true, true, false, true, false, false, false, false, false, false, false]) rfl (by kernel_rfl) (by kernel_rfl) (by kernel_rfl) rfl (by rfl) (by kernel_rfl) K2 ?hT8 ?rT8
    case hT8 =>
      intro w' hSw
      obtain ⟨k0, k1⟩ := hSw
      go_simp
      try with_reducible rfl
    simp only [List.setIfInBounds_toArray, List.set_cons_zero, List.set_cons_succ]
    refine hold_call (i := 11) (d := 27) (listed' := #[true, true, true, true, true, true, true, true, true, true, true, true, true, false, false, false, false, false, false, false]) rfl (by kernel_rfl) rfl (by rfl) (by kernel_rfl) ?heT11 (pick_any (q := mx) (by omega) (by omega) (by omega) hn hR2 hz2 hB) ?hcT11
    case heT11 => go_simp
    rintro e y3 ⟨v3, rfl, v3lo, v3hi, hR3, hQ3⟩
    have hQ13 := hQ12.trans hQ3
    have hk3 := hkeep.out _ hQ13
    have K3 : y3.cell? ⟨w1.heap.size, 0, none⟩ = some (.slice ua m.n l.cap) ∧ y3.cell? ⟨w1.heap.size, 1, none⟩ = some (.slice na k nc) := ⟨hk3.2.1.c0, hk3.2.1.c1⟩
    have hz3 := HBY hk3.2.2.1
    clear hk3
    refine ⟨_, rfl, K3, ?_⟩
    simp only [List.setIfInBounds_toArray, List.set_cons_zero, List.set_cons_succ]
    refine hold_call (i := 13) (d := 29) (listed' := #[true, true, true, true, true, true, true, true, true, true, true, true, true, true, false, false, false, false, false, false]) rfl (by kernel_rfl) rfl (by rfl) (by kernel_rfl) ?heT13 (pick_any (q := 40) (by omega) (by omega) (by omega) hn hR3 hz3 hB) ?hcT13
    case heT13 => go_simp
    rintro e y4 ⟨v4, rfl, v4lo, v4hi, hR4, hQ4⟩
    have hQ14 := hQ13.trans hQ4
    have hk4 := Lib.hid (hkeep.out _ hQ14)
    have K4 : y4.cell? ⟨w1.heap.size, 0, none⟩ = some (.slice ua m.n l.cap) ∧ y4.cell? ⟨w1.heap.size, 1, none⟩ = some (.slice na k nc) := ⟨hk4.out.2.1.c0, hk4.out.2.1.c1⟩
    refine ⟨_, rfl, K4, ?_⟩
    simp only [List.setIfInBounds_toArray, List.set_cons_zero, List.set_cons_succ]
    refine hold_take (i := 14) (d := 30) (v := ?vT14) (listed' := #[true, true, true, true, true, true, true, true, true, true, true, true, true, true, true, false, false, false, false, false]) rfl (by kernel_rfl) (by kernel_rfl) (by kernel_rfl) rfl (by rfl) (by kernel_rfl) K4 ?hT14 ?rT14
    case hT14 =>
      intro w' hSw
      obtain ⟨k0, k1⟩ := hSw
      go_simp
      try with_reducible rfl
    simp only [List.setIfInBounds_toArray, List.set_cons_zero, List.set_cons_succ]
    refine hold_take (i := 15) (d := 31) (v := ?vT15) (listed' := #[true, true, true, true, true, true, true, true, true, true, true, true, true, true, true, true, false, false, false, false]) rfl (by kernel_rfl) (by kernel_rfl) (by kernel_rfl) rfl (by rfl) (by kernel_rfl) K4 ?hT15 ?rT15
    case hT15 =>
      intro w' hSw
      obtain ⟨k0, k1⟩ := hSw
      go_simp
      try with_reducible rfl
    simp only [List.setIfInBounds_toArray, List.set_cons_zero, List.set_cons_succ]
    refine hold_take (i := 16) (d := 32) (v := ?vT16) (listed' := #[true, true, true, true, true, true, true, true, true, true, true, true, true, true, true, true, true, false, false, false]) rfl (by kernel_rfl) (by kernel_rfl) (by kernel_rfl) rfl (by rfl) (by kernel_rfl) K4 ?hT16 ?rT16
    case hT16 =>
      intro w' hSw
      obtain ⟨k0, k1⟩ := hSw
      go_simp
      try with_reducible rfl
    simp only [List.setIfInBounds_toArray, List.set_cons_zero, List.set_cons_succ]
    have d0 := hk4.out.1.c0
    have d1 := hk4.out.1.c1
    have d2 := hk4.out.1.f0
    have d3 := hk4.out.1.f1
    have hcS : Chg (fun j => j = w.heap.size) y4 ((y4.setCell ⟨w.heap.size, 0, none⟩ (.slice ua m.n l.cap)).setCell ⟨w.heap.size, 1, none⟩ (.slice na k nc)) := (Chg.set (S := fun j => j = w.heap.size) rfl _).trans (Chg.set (S := fun j => j = w.heap.size) rfl _)
    have hX5 := hcS.two hk4.out.2.1 (by show ¬ (_ = w.heap.size); omega)
    have K5 : ((y4.setCell ⟨w.heap.size, 0, none⟩ (.slice ua m.n l.cap)).setCell ⟨w.heap.size, 1, none⟩ (.slice na k nc)).cell? ⟨w1.heap.size, 0, none⟩ = some (.slice ua m.n l.cap) ∧ ((y4.setCell ⟨w.heap.size, 0, none⟩ (.slice ua m.n l.cap)).setCell ⟨w.heap.size, 1, none⟩ (.slice na k nc)).cell? ⟨w1.heap.size, 1, none⟩ = some (.slice na k nc) := ⟨hX5.c0, hX5.c1⟩
    refine hold_store (i := 17) (w' := ((y4.setCell ⟨w.heap.size, 0, none⟩ (.slice ua m.n l.cap)).setCell ⟨w.heap.size, 1, none⟩ (.slice na k nc))) (listed' := #[true, true, true, true, true, true, true, true, true, true, true, true, true, true, true, true, true, true, false, false]) rfl (by kernel_rfl) rfl (by rfl) (by kernel_rfl) ?hsT17 K5 ?hkT17
    case hsT17 => go_simp
    refine hold_take (i := 18) (d := 5) (v := ?vT18) (listed' := #[true, true, true, true, true, true, true, true, true, true, true, true, true, true, true, true, true, true, true, false]) rfl (by kernel_rfl) (by kernel_rfl) (by kernel_rfl) rfl (by rfl) (by kernel_rfl) K5 ?hT18 ?rT18
    case hT18 =>
      intro w' hSw
      obtain ⟨k0, k1⟩ := hSw
      go_simp
      try with_reducible rfl
    simp only [List.setIfInBounds_toArray, List.set_cons_zero, List.set_cons_succ]
    refine hold_take (i := 19) (d := 6) (v := ?vT19) (listed' := #[true, true, true, true, true, true, true, true, true, true, true, true, true, true, true, true, true, true, true, true]) rfl (by kernel_rfl) (by kernel_rfl) (by kernel_rfl) rfl (by rfl) (by kernel_rfl) K5 ?hT19 ?rT19
    case hT19 =>
      intro w' hSw
      obtain ⟨k0, k1⟩ := hSw
      go_simp
      try with_reducible rfl
    simp only [List.setIfInBounds_toArray, List.set_cons_zero, List.set_cons_succ]
    refine hold_done (by kernel_rfl) ?_ _
    have hC5 : Chg (fun j => j = rb) w y4 := hk4.out.2.2.1
    have hs4 := hC5.size
    have hoS := ((OnlyIn.refl (fun x => x = w.heap.size) y4).set (b := w.heap.size) rfl 0 (.slice ua m.n l.cap)).set (b := w.heap.size) rfl 1 (.slice na k nc)
    have hsS := hoS.size
    have hfin := (hk4.out.1.set0 (.slice ua m.n l.cap)).set1 (.slice na k nc)
    have t0 := hfin.c0
    have t1 := hfin.c1
    have hlogE : LogAt ((y4.setCell ⟨w.heap.size, 0, none⟩ (.slice ua m.n l.cap)).setCell ⟨w.heap.size, 1, none⟩ (.slice na k nc)) ((y4.setCell ⟨w.heap.size, 0, none⟩ (.slice ua m.n l.cap)).setCell ⟨w.heap.size, 1, none⟩ (.slice na k nc)).heap.size ua l m na g o2 k zz := by
      refine ⟨(hk4.out.2.2.2.mat.only HF.out hoS (fun j hj => by have hj' : j = w.heap.size := hj; omega)).more (by omega), ⟨fun i hi => ?_⟩, hk4.out.2.2.2.hn, hk4.out.2.2.2.hL, hk4.out.2.2.2.hk, Nat.le_refl _⟩
      obtain ⟨e1, e2, e3⟩ := (hk4.out.2.2.2.row.only hoS (fun e => by have e' : g = w.heap.size := e; have := HG.out (by omega); omega)).row i hi
      exact ⟨e1, by omega, e3⟩
    have hfr : Chg (fun j => j = rb) w ((y4.setCell ⟨w.heap.size, 0, none⟩ (.slice ua m.n l.cap)).setCell ⟨w.heap.size, 1, none⟩ (.slice na k nc)) :=
      ⟨hcS.os.trans hC5.os, hcS.tape.trans hC5.tape, hcS.output.trans hC5.output, Nat.le_trans hC5.size hcS.size, fun j hj hs => (hcS.block j (by omega) (by show ¬ (_ = w.heap.size); omega)).trans (hC5.block j hj hs)⟩
    have hall := Lib.hid (show LogAt _ _ ua l m na g o2 k zz ∧ LayFrom w.heap.size l m ∧ (0 < k → w.heap.size ≤ g) ∧ m.n ≤ 12 ∧ (∀ r, r < m.n → m.L r ≤ 12) ∧ k ≤ 12 ∧ Chg (fun j => j = rb) w _ ∧ Rd _ rb A n c (p + 1 + 1 + 1 + 1) ∧ p + 1 + 1 + 1 + 1 ≤ 1000 from ⟨hlogE, ⟨fun r hr => by have := HF.out.top r hr; omega, fun r hr c hc => by have := HF.out.row r hr c hc; omega⟩, fun h0 => by have := HG.out h0; omega, hn1, HL.out, hk, hfr, hcS.rd hR4 (by omega) (by show ¬ (rb = w.heap.size); omega), by omega⟩)
    clear hfin hlogE hfr hoS hcS hX5 hC5
    go_wp2_with fail
    exact bodyPost_ret (v := .tuple #[.agg #[.slice ua m.n l.cap, .slice na k nc], .int .i64 (IntKind.i64.wrap (v1 + IntKind.i64.wrap (IntKind.i64.wrap (v2.tdiv 39) * 12))), .int .i64 (IntKind.i64.wrap (v3 - IntKind.i64.wrap (IntKind.i64.wrap (v4.tdiv 39) * 12)))]) (by simp [results, Try.results43, go_sem, t0, t1]) rfl ⟨ua, l, m, na, g, o2, k, nc, zz, _, _, _, rfl, hall.out⟩
theorem l20Two_any {rb n c : Nat} {A : Option Addr} {q0 : Int} {B b o : Nat} {z0 : Nat → Nat} {w : World} (hq0 : 1 ≤ q0) (hq1 : q0 ≤ 1000000) (hn : n ≤ 2000) (h : Rd w rb A n c 0) (hz : BytesAt w B A b o n z0) (hB : B ≤ rb) (hrb : rb < w.heap.size) :
    Calls Try.prog 43 #[.pointer (some ⟨rb, 0, none⟩), .int .i64 q0] w (DrawnT rb w) :=
  (l20TwoR_any hq0 hq1 hn h hz hB hrb).mono fun _ _ ⟨ua, l, m, na, g, o, k, nc, z, x, y, _, he, h1, h2, h3, h4, h5, h6, h7, _, _⟩ => ⟨ua, l, m, na, g, o, k, nc, z, x, y, he, h1, h2, h3, h4, h5, h6, h7⟩

def DrewN (w : World) (e : Ending) (w' : World) : Prop :=
  ∃ (ua : Option Addr) (l : Lay) (m : Mx) (na : Option Addr) (g o k nc : Nat) (z : Nat → Int) (x : Int), e = .returned (.tuple #[.agg #[.slice ua m.n l.cap, .slice na k nc], .int .i64 x]) ∧ Fresh w ua l m na g o k z w'

end Go.Proofs.Ytijcacibofpnpaa
