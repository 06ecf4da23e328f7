/- The walks of the draws of a logic and three answers. -/
import Derived.Test.YtijcacibofpnpaaDn
import Derived.BigQuiet
namespace Go.Proofs.Ytijcacibofpnpaa
open Go.RowKit Go.Deep

def Drawn3 (rb : Nat) (w : World) (e : Ending) (w' : World) : Prop :=
  ∃ (ua : Option Addr) (l : Lay) (m : Mx) (na : Option Addr) (g o k nc : Nat) (z : Nat → Int) (x y t : Int), e = .returned (.tuple #[.agg #[.slice ua m.n l.cap, .slice na k nc], .int .i64 x, .int .i64 y, .int .i64 t]) ∧ LogAt w' w'.heap.size ua l m na g o k z ∧ LayFrom w.heap.size l m ∧ (0 < k → w.heap.size ≤ g) ∧ m.n ≤ 12 ∧ (∀ r, r < m.n → m.L r ≤ 12) ∧ k ≤ 12 ∧ Chg (fun j => j = rb) w w'
def Drew3 (w : World) (e : Ending) (w' : World) : Prop :=
  ∃ (ua : Option Addr) (l : Lay) (m : Mx) (na : Option Addr) (g o k nc : Nat) (z : Nat → Int) (x y t : Int), e = .returned (.tuple #[.agg #[.slice ua m.n l.cap, .slice na k nc], .int .i64 x, .int .i64 y, .int .i64 t]) ∧ Fresh w ua l m na g o k z w'

set_option maxRecDepth 100000 in
set_option maxHeartbeats 2000000 in
theorem l20Three_any {rb n c : Nat} {A : Option Addr} {q0 : Int} {B b o : Nat} {z0 : Nat → Nat} {w : World} (hq0 : 1 ≤ q0) (hq1 : q0 ≤ 1000000) (hn : n ≤ 2000) (h : Rd w rb A n c 0) (hz : BytesAt w B A b o n z0) (hB : B ≤ rb) (hrb : rb < w.heap.size) :
    Calls Try.prog 60 #[.pointer (some ⟨rb, 0, none⟩), .int .i64 q0] w (Drawn3 rb w) := by
  have hT := TwoAt.new w (.slice none 0 0) (.slice none 0 0) 26
  have hcA := Chg.alloc (fun j => j = rb) w (.cells #[.slice none 0 0, .slice none 0 0] 26)
  have hsA : (w.alloc (.cells #[.slice none 0 0, .slice none 0 0] 26)).heap.size = w.heap.size + 1 := by simp
  have hRA := (Chg.alloc (fun _ => False) w (.cells #[.slice none 0 0, .slice none 0 0] 26)).rd h hrb (fun h => h)
  have HZ := Lib.hid hz
  have HBY : ∀ {wx : World}, Chg (fun j => j = rb) w wx → BytesAt wx B A b o n z0 := fun hG => HZ.out.below ((hG.below (B := rb) (by omega) (fun j hj => by have hj' : j = rb := hj; omega)).mono hB)
  clear h hz
  go_enter Try.func60, Try.ntmps60
  go_wp2_with fail
  go_at_call 43
  refine (l20TwoR_any hq0 hq1 hn hRA (HBY hcA) hB (by omega)).mono ?_
  rintro e w1 ⟨ua, l, m, na, g, o2, k, nc, zz, x, y, p, rfl, hlog, hf, hg, hn1, hL, hk, hC, hR1, hp⟩
  rw [hsA] at hf hg
  have hs1 := hC.size
  rw [hsA] at hs1
  have hT1 := hC.two hT (by show ¬ (w.heap.size = rb); omega)
  have hC1 := hcA.trans hC
  have hX := TwoAt.new w1 (.slice ua m.n l.cap) (.slice na k nc) 26
  have hcX := Chg.alloc (fun j => j = rb) w1 (.cells #[.slice ua m.n l.cap, .slice na k nc] 26)
  have hC2 := hC1.trans hcX
  have hT2 := hcX.two hT1 (by show ¬ (w.heap.size = rb); omega)
  have hR2 := (Chg.alloc (fun _ => False) w1 (.cells #[.slice ua m.n l.cap, .slice na k nc] 26)).rd hR1 (by omega) (fun h => h)
  have hlog2 := Lib.hid (hlog.alloc (.cells #[.slice ua m.n l.cap, .slice na k nc] 26))
  have HF := Lib.hid hf
  have HG := Lib.hid hg
  have HL := Lib.hid hL
  clear hT hcA hRA hlog hf hg hL hC hT1 hC1 hcX hR1
  go_wp2_with fail
  generalize hW : w1.alloc (.cells #[.slice ua m.n l.cap, .slice na k nc] 26) = w2 at hX hC2 hT2 hR2 hlog2 ⊢
  clear hW
  have hTd := (Chg.drew (fun _ => False) w2).two hT2 (fun h => h)
  have hXd := (Chg.drew (fun _ => False) w2).two hX (fun h => h)
  have hCd := hC2.trans (Chg.drew (fun j => j = rb) w2)
  have hRd : Rd w2.drew rb A n c p := hR2
  have K0 : (fun w' => w'.cell? ⟨w1.heap.size, 0, none⟩ = some (.slice ua m.n l.cap) ∧ w'.cell? ⟨w1.heap.size, 1, none⟩ = some (.slice na k nc)) w2.drew := ⟨hXd.c0, hXd.c1⟩
  have hkeep : Hid (∀ (y' : World), OnlyIn (· = rb) w2.drew y' → TwoAt y' w.heap.size (.slice none 0 0) (.slice none 0 0) ∧ TwoAt y' w1.heap.size (.slice ua m.n l.cap) (.slice na k nc) ∧ Chg (fun j => j = rb) w y' ∧ LogAt y' y'.heap.size ua l m na g o2 k zz) := fun y' ho => by
    have hc := Chg.of_only ho
    have hs := ho.size
    refine ⟨hc.two hTd (by show ¬ (_ = rb); omega), hc.two hXd (by show ¬ (_ = rb); omega), hCd.trans hc, ⟨(hlog2.out.mat.only HF.out (w' := y') ⟨ho.os, ho.tape, ho.output, ho.size, ho.block⟩ (fun j hj => by have hj' : j = rb := hj; omega)).more (by have := hlog2.out.hB; simp at hs; omega), ⟨fun i hi => ?_⟩, hlog2.out.hn, hlog2.out.hL, hlog2.out.hk, Nat.le_refl _⟩⟩
    obtain ⟨e1, e2, e3⟩ := (hlog2.out.row.only (w' := y') ⟨ho.os, ho.tape, ho.output, ho.size, ho.block⟩ (fun e => by have e' : g = rb := e; have := HG.out (by omega); omega)).row i hi
    exact ⟨e1, by have := hlog2.out.hB; simp at hs; omega, e3⟩
  clear hTd hXd hR2 hX hT2 hC2
  rcases (show k = 0 ∨ 1 ≤ k by omega) with hk0 | hk1
  · subst hk0
    refine region_plain (fuel := 13) (listed := #[false, false, false, false, false, false, false, false, false, false, false, false, false]) (fun w' => w'.cell? ⟨w1.heap.size, 0, none⟩ = some (.slice ua m.n l.cap) ∧ w'.cell? ⟨w1.heap.size, 1, none⟩ = some (.slice na 0 nc)) (by kernel_rfl) (by kernel_rfl) (by kernel_rfl) ?_
    refine hold_take (i := 0) (d := 18) (v := ?vA0) (listed' := #[true, false, false, false, false, false, false, false, false, false, false, false, false]) rfl (by kernel_rfl) (by kernel_rfl) (by kernel_rfl) rfl (by rfl) (by kernel_rfl) K0 ?hA0 ?rA0
    case hA0 =>
      intro w' hSw
      obtain ⟨k0, k1⟩ := hSw
      go_simp
      try with_reducible rfl
    simp only [List.setIfInBounds_toArray, List.set_cons_zero, List.set_cons_succ]
    refine hold_take (i := 1) (d := 19) (v := ?vA1) (listed' := #[true, true, false, false, false, false, false, false, false, false, false, false, false]) rfl (by kernel_rfl) (by kernel_rfl) (by kernel_rfl) rfl (by rfl) (by kernel_rfl) K0 ?hA1 ?rA1
    case hA1 =>
      intro w' hSw
      obtain ⟨k0, k1⟩ := hSw
      go_simp
      try with_reducible rfl
    simp only [List.setIfInBounds_toArray, List.set_cons_zero, List.set_cons_succ]
    refine hold_take (i := 2) (d := 20) (v := ?vA2) (listed' := #[true, true, true, false, false, false, false, false, false, false, false, false, false]) rfl (by kernel_rfl) (by kernel_rfl) (by kernel_rfl) rfl (by rfl) (by kernel_rfl) K0 ?hA2 ?rA2
    case hA2 =>
      intro w' hSw
      obtain ⟨k0, k1⟩ := hSw
      go_simp
      try with_reducible rfl
    simp only [List.setIfInBounds_toArray, List.set_cons_zero, List.set_cons_succ]
    refine hold_take (i := 3) (d := 21) (v := ?vA3) (listed' := #[true, true, true, true, false, false, false, false, false, false, false, false, false]) rfl (by kernel_rfl) (by kernel_rfl) (by kernel_rfl) rfl (by rfl) (by kernel_rfl) K0 ?hA3 ?rA3
    case hA3 =>
      intro w' hSw
      obtain ⟨k0, k1⟩ := hSw
      go_simp
      try with_reducible rfl
    simp only [List.setIfInBounds_toArray, List.set_cons_zero, List.set_cons_succ]
    refine hold_take (i := 4) (d := 22) (v := ?vA4) (listed' := #[true, true, true, true, true, false, false, false, false, false, false, false, false]) rfl (by kernel_rfl) (by kernel_rfl) (by kernel_rfl) rfl (by rfl) (by kernel_rfl) K0 ?hA4 ?rA4
    case hA4 =>
      intro w' hSw
      obtain ⟨k0, k1⟩ := hSw
      go_simp
      try with_reducible rfl
    simp only [List.setIfInBounds_toArray, List.set_cons_zero, List.set_cons_succ]
    refine hold_take (i := 5) (d := 23) (v := ?vA5) (listed' := #[true, true, true, true, true, true, false, false, false, false, false, false, false]) rfl (by kernel_rfl) (by kernel_rfl) (by kernel_rfl) rfl (by rfl) (by kernel_rfl) K0 ?hA5 ?rA5
    case hA5 =>
      intro w' hSw
      obtain ⟨k0, k1⟩ := hSw
      go_simp
      try with_reducible rfl
    simp only [List.setIfInBounds_toArray, List.set_cons_zero, List.set_cons_succ]
    refine hold_take (i := 6) (d := 24) (v := ?vA6) (listed' := #[true, true, true, true, true, true, true, false, false, false, false, false, false]) rfl (by kernel_rfl) (by kernel_rfl) (by kernel_rfl) rfl (by rfl) (by kernel_rfl) K0 ?hA6 ?rA6
    case hA6 =>
      intro w' hSw
      obtain ⟨k0, k1⟩ := hSw
      go_simp
      try with_reducible rfl
    simp only [List.setIfInBounds_toArray, List.set_cons_zero, List.set_cons_succ]
    refine hold_take (i := 7) (d := 25) (v := ?vA7) (listed' := #[true, true, true, true, true, true, true, true, false, false, false, false, false]) rfl (by kernel_rfl) (by kernel_rfl) (by kernel_rfl) rfl (by rfl) (by kernel_rfl) K0 ?hA7 ?rA7
    case hA7 =>
      intro w' hSw
      obtain ⟨k0, k1⟩ := hSw
      go_simp
      try with_reducible rfl
    simp only [List.setIfInBounds_toArray, List.set_cons_zero, List.set_cons_succ]
    refine hold_call (i := 8) (d := 26) (listed' := #[true, true, true, true, true, true, true, true, true, false, false, false, false]) rfl (by kernel_rfl) rfl (by rfl) (by kernel_rfl) ?heA8 (pick_any (q := 1) (by omega) (by omega) (by omega) hn hRd (HBY hCd) hB) ?hcA8
    case heA8 => go_simp
    rintro e y1 ⟨v1, rfl, v1lo, v1hi, hR1, hQ1⟩
    have hk4 := Lib.hid (hkeep.out _ hQ1)
    have K1 : (fun w' => w'.cell? ⟨w1.heap.size, 0, none⟩ = some (.slice ua m.n l.cap) ∧ w'.cell? ⟨w1.heap.size, 1, none⟩ = some (.slice na 0 nc)) y1 := ⟨hk4.out.2.1.c0, hk4.out.2.1.c1⟩
    refine ⟨_, rfl, K1, ?_⟩
    simp only [List.setIfInBounds_toArray, List.set_cons_zero, List.set_cons_succ]
    have d0 := hk4.out.1.c0
    have d1 := hk4.out.1.c1
    have d2 := hk4.out.1.f0
    have d3 := hk4.out.1.f1
    have hcS : Chg (fun j => j = w.heap.size) y1 ((y1.setCell ⟨w.heap.size, 0, none⟩ (.slice ua m.n l.cap)).setCell ⟨w.heap.size, 1, none⟩ (.slice na 0 nc)) := (Chg.set (S := fun j => j = w.heap.size) rfl _).trans (Chg.set (S := fun j => j = w.heap.size) rfl _)
    have hX5 := hcS.two hk4.out.2.1 (by show ¬ (_ = w.heap.size); omega)
    have K5 : (fun w' => w'.cell? ⟨w1.heap.size, 0, none⟩ = some (.slice ua m.n l.cap) ∧ w'.cell? ⟨w1.heap.size, 1, none⟩ = some (.slice na 0 nc)) ((y1.setCell ⟨w.heap.size, 0, none⟩ (.slice ua m.n l.cap)).setCell ⟨w.heap.size, 1, none⟩ (.slice na 0 nc)) := ⟨hX5.c0, hX5.c1⟩
    refine hold_store (i := 9) (w' := ((y1.setCell ⟨w.heap.size, 0, none⟩ (.slice ua m.n l.cap)).setCell ⟨w.heap.size, 1, none⟩ (.slice na 0 nc))) (listed' := #[true, true, true, true, true, true, true, true, true, true, false, false, false]) rfl (by kernel_rfl) rfl (by rfl) (by kernel_rfl) ?hsA9 K5 ?hkA9
    case hsA9 => go_simp
    refine hold_take (i := 10) (d := 5) (v := ?vA10) (listed' := #[true, true, true, true, true, true, true, true, true, true, true, false, false]) rfl (by kernel_rfl) (by kernel_rfl) (by kernel_rfl) rfl (by rfl) (by kernel_rfl) K5 ?hA10 ?rA10
    case hA10 =>
      intro w' hSw
      obtain ⟨k0, k1⟩ := hSw
      go_simp
      try with_reducible rfl
    simp only [List.setIfInBounds_toArray, List.set_cons_zero, List.set_cons_succ]
    refine hold_take (i := 11) (d := 6) (v := ?vA11) (listed' := #[true, true, true, true, true, true, true, true, true, true, true, true, false]) rfl (by kernel_rfl) (by kernel_rfl) (by kernel_rfl) rfl (by rfl) (by kernel_rfl) K5 ?hA11 ?rA11
    case hA11 =>
      intro w' hSw
      obtain ⟨k0, k1⟩ := hSw
      go_simp
      try with_reducible rfl
    simp only [List.setIfInBounds_toArray, List.set_cons_zero, List.set_cons_succ]
    refine hold_take (i := 12) (d := 7) (v := ?vA12) (listed' := #[true, true, true, true, true, true, true, true, true, true, true, true, true]) rfl (by kernel_rfl) (by kernel_rfl) (by kernel_rfl) rfl (by rfl) (by kernel_rfl) K5 ?hA12 ?rA12
    case hA12 =>
      intro w' hSw
      obtain ⟨k0, k1⟩ := hSw
      go_simp
      try with_reducible rfl
    simp only [List.setIfInBounds_toArray, List.set_cons_zero, List.set_cons_succ]
    refine hold_done (by kernel_rfl) ?_ _
    have hC5 : Chg (fun j => j = rb) w y1 := hk4.out.2.2.1
    have hs4 := hC5.size
    have hoS := ((OnlyIn.refl (fun x => x = w.heap.size) y1).set (b := w.heap.size) rfl 0 (.slice ua m.n l.cap)).set (b := w.heap.size) rfl 1 (.slice na 0 nc)
    have hsS := hoS.size
    have hfin := (hk4.out.1.set0 (.slice ua m.n l.cap)).set1 (.slice na 0 nc)
    have t0 := hfin.c0
    have t1 := hfin.c1
    have hlogE : LogAt ((y1.setCell ⟨w.heap.size, 0, none⟩ (.slice ua m.n l.cap)).setCell ⟨w.heap.size, 1, none⟩ (.slice na 0 nc)) ((y1.setCell ⟨w.heap.size, 0, none⟩ (.slice ua m.n l.cap)).setCell ⟨w.heap.size, 1, none⟩ (.slice na 0 nc)).heap.size ua l m na g o2 0 zz := by
      refine ⟨(hk4.out.2.2.2.mat.only HF.out hoS (fun j hj => by have hj' : j = w.heap.size := hj; omega)).more (by omega), ⟨fun i hi => ?_⟩, hk4.out.2.2.2.hn, hk4.out.2.2.2.hL, hk4.out.2.2.2.hk, Nat.le_refl _⟩
      obtain ⟨e1, e2, e3⟩ := (hk4.out.2.2.2.row.only hoS (fun e => by have e' : g = w.heap.size := e; have := HG.out (by omega); omega)).row i hi
      exact ⟨e1, by omega, e3⟩
    have hfr : Chg (fun j => j = rb) w ((y1.setCell ⟨w.heap.size, 0, none⟩ (.slice ua m.n l.cap)).setCell ⟨w.heap.size, 1, none⟩ (.slice na 0 nc)) :=
      ⟨hcS.os.trans hC5.os, hcS.tape.trans hC5.tape, hcS.output.trans hC5.output, Nat.le_trans hC5.size hcS.size, fun j hj hs => (hcS.block j (by omega) (by show ¬ (_ = w.heap.size); omega)).trans (hC5.block j hj hs)⟩
    have hall := Lib.hid (show LogAt _ _ ua l m na g o2 0 zz ∧ LayFrom w.heap.size l m ∧ (0 < 0 → w.heap.size ≤ g) ∧ m.n ≤ 12 ∧ (∀ r, r < m.n → m.L r ≤ 12) ∧ 0 ≤ 12 ∧ Chg (fun j => j = rb) w _ from ⟨hlogE, ⟨fun r hr => by have := HF.out.top r hr; omega, fun r hr c hc => by have := HF.out.row r hr c hc; omega⟩, fun h0 => by have := HG.out h0; omega, hn1, HL.out, by omega, hfr⟩)
    clear hfin hlogE hfr hoS hcS hX5 hC5
    go_wp2_with fail
    exact bodyPost_ret (v := .tuple #[.agg #[.slice ua m.n l.cap, .slice na 0 nc], .int .i64 x, .int .i64 y, .int .i64 v1]) (by simp [results, Try.results60, go_sem, t0, t1]) rfl ⟨ua, l, m, na, g, o2, 0, nc, zz, _, _, _, rfl, hall.out⟩
  · have hmx : (k : Int) ≤ 12 := by omega
    have hmx2 : ¬ (k : Int) < 1 := by omega
    have hmx3 : 1 ≤ (k : Int) := by omega
    refine region_plain (fuel := 13) (listed := #[false, false, false, false, false, false, false, false, false, false, false, false, false]) (fun w' => w'.cell? ⟨w1.heap.size, 0, none⟩ = some (.slice ua m.n l.cap) ∧ w'.cell? ⟨w1.heap.size, 1, none⟩ = some (.slice na k nc)) (by kernel_rfl) (by kernel_rfl) (by kernel_rfl) ?_
    refine hold_take (i := 0) (d := 18) (v := ?vB0) (listed' := #[true, false, false, false, false, false, false, false, false, false, false, false, false]) rfl (by kernel_rfl) (by kernel_rfl) (by kernel_rfl) rfl (by rfl) (by kernel_rfl) K0 ?hB0 ?rB0
    case hB0 =>
      intro w' hSw
      obtain ⟨k0, k1⟩ := hSw
      go_simp
      try with_reducible rfl
    simp only [List.setIfInBounds_toArray, List.set_cons_zero, List.set_cons_succ]
    refine hold_take (i := 1) (d := 19) (v := ?vB1) (listed' := #[true, true, false, false, false, false, false, false, false, false, false, false, false]) rfl (by kernel_rfl) (by kernel_rfl) (by kernel_rfl) rfl (by rfl) (by kernel_rfl) K0 ?hB1 ?rB1
    case hB1 =>
      intro w' hSw
      obtain ⟨k0, k1⟩ := hSw
      go_simp
      try with_reducible rfl
    simp only [List.setIfInBounds_toArray, List.set_cons_zero, List.set_cons_succ]
    refine hold_take (i := 2) (d := 20) (v := ?vB2) (listed' := #[true, true, true, false, false, false, false, false, false, false, false, false, false]) rfl (by kernel_rfl) (by kernel_rfl) (by kernel_rfl) rfl (by rfl) (by kernel_rfl) K0 ?hB2 ?rB2
    case hB2 =>
      intro w' hSw
      obtain ⟨k0, k1⟩ := hSw
      go_simp
      try with_reducible rfl
    simp only [List.setIfInBounds_toArray, List.set_cons_zero, List.set_cons_succ]
    refine hold_take (i := 3) (d := 21) (v := ?vB3) (listed' := #[true, true, true, true, false, false, false, false, false, false, false, false, false]) rfl (by kernel_rfl) (by kernel_rfl) (by kernel_rfl) rfl (by rfl) (by kernel_rfl) K0 ?hB3 ?rB3
    case hB3 =>
      intro w' hSw
      obtain ⟨k0, k1⟩ := hSw
      go_simp
      try with_reducible rfl
    simp only [List.setIfInBounds_toArray, List.set_cons_zero, List.set_cons_succ]
    refine hold_take (i := 4) (d := 22) (v := ?vB4) (listed' := #[true, true, true, true, true, false, false, false, false, false, false, false, false]) rfl (by kernel_rfl) (by kernel_rfl) (by kernel_rfl) rfl (by rfl) (by kernel_rfl) K0 ?hB4 ?rB4
    case hB4 =>
      intro w' hSw
      obtain ⟨k0, k1⟩ := hSw
      go_simp
      try with_reducible rfl
    simp only [List.setIfInBounds_toArray, List.set_cons_zero, List.set_cons_succ]
    refine hold_take (i := 5) (d := 23) (v := ?vB5) (listed' := #[true, true, true, true, true, true, false, false, false, false, false, false, false]) rfl (by kernel_rfl) (by kernel_rfl) (by kernel_rfl) rfl (by rfl) (by kernel_rfl) K0 ?hB5 ?rB5
    case hB5 =>
      intro w' hSw
      obtain ⟨k0, k1⟩ := hSw
      go_simp
      try with_reducible rfl
    simp only [List.setIfInBounds_toArray, List.set_cons_zero, List.set_cons_succ]
    refine hold_take (i := 6) (d := 24) (v := ?vB6) (listed' := #[true, true, true, true, true, true, true, false, false, false, false, false, false]) rfl (by kernel_rfl) (by kernel_rfl) (by kernel_rfl) rfl (by rfl) (by kernel_rfl) K0 ?hB6 ?rB6
    case hB6 =>
      intro w' hSw
      obtain ⟨k0, k1⟩ := hSw
      go_simp
      try with_reducible rfl
    simp only [List.setIfInBounds_toArray, List.set_cons_zero, List.set_cons_succ]
    refine hold_take (i := 7) (d := 25) (v := ?vB7) (listed' := #[true, true, true, true, true, true, true, true, false, false, false, false, false]) rfl (by kernel_rfl) (by kernel_rfl) (by kernel_rfl) rfl (by rfl) (by kernel_rfl) K0 ?hB7 ?rB7
    case hB7 =>
      intro w' hSw
      obtain ⟨k0, k1⟩ := hSw
      go_simp
      try with_reducible rfl
    simp only [List.setIfInBounds_toArray, List.set_cons_zero, List.set_cons_succ]
    refine hold_call (i := 8) (d := 26) (listed' := #[true, true, true, true, true, true, true, true, true, false, false, false, false]) rfl (by kernel_rfl) rfl (by rfl) (by kernel_rfl) ?heB8 (pick_any (q := (k : Int)) (by omega) (by omega) (by omega) hn hRd (HBY hCd) hB) ?hcB8
    case heB8 => go_simp
    rintro e y1 ⟨v1, rfl, v1lo, v1hi, hR1, hQ1⟩
    have hk4 := Lib.hid (hkeep.out _ hQ1)
    have K1 : (fun w' => w'.cell? ⟨w1.heap.size, 0, none⟩ = some (.slice ua m.n l.cap) ∧ w'.cell? ⟨w1.heap.size, 1, none⟩ = some (.slice na k nc)) y1 := ⟨hk4.out.2.1.c0, hk4.out.2.1.c1⟩
    refine ⟨_, rfl, K1, ?_⟩
    simp only [List.setIfInBounds_toArray, List.set_cons_zero, List.set_cons_succ]
    have d0 := hk4.out.1.c0
    have d1 := hk4.out.1.c1
    have d2 := hk4.out.1.f0
    have d3 := hk4.out.1.f1
    have hcS : Chg (fun j => j = w.heap.size) y1 ((y1.setCell ⟨w.heap.size, 0, none⟩ (.slice ua m.n l.cap)).setCell ⟨w.heap.size, 1, none⟩ (.slice na k nc)) := (Chg.set (S := fun j => j = w.heap.size) rfl _).trans (Chg.set (S := fun j => j = w.heap.size) rfl _)
    have hX5 := hcS.two hk4.out.2.1 (by show ¬ (_ = w.heap.size); omega)
    have K5 : (fun w' => w'.cell? ⟨w1.heap.size, 0, none⟩ = some (.slice ua m.n l.cap) ∧ w'.cell? ⟨w1.heap.size, 1, none⟩ = some (.slice na k nc)) ((y1.setCell ⟨w.heap.size, 0, none⟩ (.slice ua m.n l.cap)).setCell ⟨w.heap.size, 1, none⟩ (.slice na k nc)) := ⟨hX5.c0, hX5.c1⟩
    refine hold_store (i := 9) (w' := ((y1.setCell ⟨w.heap.size, 0, none⟩ (.slice ua m.n l.cap)).setCell ⟨w.heap.size, 1, none⟩ (.slice na k nc))) (listed' := #[true, true, true, true, true, true, true, true, true, true, false, false, false]) rfl (by kernel_rfl) rfl (by rfl) (by kernel_rfl) ?hsB9 K5 ?hkB9
    case hsB9 => go_simp
    refine hold_take (i := 10) (d := 5) (v := ?vB10) (listed' := #[true, true, true, true, true, true, true, true, true, true, true, false, false]) rfl (by kernel_rfl) (by kernel_rfl) (by kernel_rfl) rfl (by rfl) (by kernel_rfl) K5 ?hB10 ?rB10
    case hB10 =>
      intro w' hSw
      obtain ⟨k0, k1⟩ := hSw
      go_simp
      try with_reducible rfl
    simp only [List.setIfInBounds_toArray, List.set_cons_zero, List.set_cons_succ]
    refine hold_take (i := 11) (d := 6) (v := ?vB11) (listed' := #[true, true, true, true, true, true, true, true, true, true, true, true, false]) rfl (by kernel_rfl) (by kernel_rfl) (by kernel_rfl) rfl (by rfl) (by kernel_rfl) K5 ?hB11 ?rB11
    case hB11 =>
      intro w' hSw
      obtain ⟨k0, k1⟩ := hSw
      go_simp
      try with_reducible rfl
    simp only [List.setIfInBounds_toArray, List.set_cons_zero, List.set_cons_succ]
    refine hold_take (i := 12) (d := 7) (v := ?vB12) (listed' := #[true, true, true, true, true, true, true, true, true, true, true, true, true]) rfl (by kernel_rfl) (by kernel_rfl) (by kernel_rfl) rfl (by rfl) (by kernel_rfl) K5 ?hB12 ?rB12
    case hB12 =>
      intro w' hSw
      obtain ⟨k0, k1⟩ := hSw
      go_simp
      try with_reducible rfl
    simp only [List.setIfInBounds_toArray, List.set_cons_zero, List.set_cons_succ]
    refine hold_done (by kernel_rfl) ?_ _
    have hC5 : Chg (fun j => j = rb) w y1 := hk4.out.2.2.1
    have hs4 := hC5.size
    have hoS := ((OnlyIn.refl (fun x => x = w.heap.size) y1).set (b := w.heap.size) rfl 0 (.slice ua m.n l.cap)).set (b := w.heap.size) rfl 1 (.slice na k nc)
    have hsS := hoS.size
    have hfin := (hk4.out.1.set0 (.slice ua m.n l.cap)).set1 (.slice na k nc)
    have t0 := hfin.c0
    have t1 := hfin.c1
    have hlogE : LogAt ((y1.setCell ⟨w.heap.size, 0, none⟩ (.slice ua m.n l.cap)).setCell ⟨w.heap.size, 1, none⟩ (.slice na k nc)) ((y1.setCell ⟨w.heap.size, 0, none⟩ (.slice ua m.n l.cap)).setCell ⟨w.heap.size, 1, none⟩ (.slice na k nc)).heap.size ua l m na g o2 k zz := by
      refine ⟨(hk4.out.2.2.2.mat.only HF.out hoS (fun j hj => by have hj' : j = w.heap.size := hj; omega)).more (by omega), ⟨fun i hi => ?_⟩, hk4.out.2.2.2.hn, hk4.out.2.2.2.hL, hk4.out.2.2.2.hk, Nat.le_refl _⟩
      obtain ⟨e1, e2, e3⟩ := (hk4.out.2.2.2.row.only hoS (fun e => by have e' : g = w.heap.size := e; have := HG.out (by omega); omega)).row i hi
      exact ⟨e1, by omega, e3⟩
    have hfr : Chg (fun j => j = rb) w ((y1.setCell ⟨w.heap.size, 0, none⟩ (.slice ua m.n l.cap)).setCell ⟨w.heap.size, 1, none⟩ (.slice na k nc)) :=
      ⟨hcS.os.trans hC5.os, hcS.tape.trans hC5.tape, hcS.output.trans hC5.output, Nat.le_trans hC5.size hcS.size, fun j hj hs => (hcS.block j (by omega) (by show ¬ (_ = w.heap.size); omega)).trans (hC5.block j hj hs)⟩
    have hall := Lib.hid (show LogAt _ _ ua l m na g o2 k zz ∧ LayFrom w.heap.size l m ∧ (0 < k → w.heap.size ≤ g) ∧ m.n ≤ 12 ∧ (∀ r, r < m.n → m.L r ≤ 12) ∧ k ≤ 12 ∧ Chg (fun j => j = rb) w _ from ⟨hlogE, ⟨fun r hr => by have := HF.out.top r hr; omega, fun r hr c hc => by have := HF.out.row r hr c hc; omega⟩, fun h0 => by have := HG.out h0; omega, hn1, HL.out, by omega, hfr⟩)
    clear hfin hlogE hfr hoS hcS hX5 hC5
    go_wp2_with fail
    exact bodyPost_ret (v := .tuple #[.agg #[.slice ua m.n l.cap, .slice na k nc], .int .i64 x, .int .i64 y, .int .i64 v1]) (by simp [results, Try.results60, go_sem, t0, t1]) rfl ⟨ua, l, m, na, g, o2, k, nc, zz, _, _, _, rfl, hall.out⟩

set_option maxHeartbeats 1000000 in
theorem draw_SplitOk {A : Option Addr} {b o n cap : Nat} {z : Nat → Nat} {w : World} (h : CodeAt w A b o n cap z) :
    Calls Try.prog 29 #[.slice A n cap] w (Drew3 w) := by
  have hT := TwoAt.new w (.slice none 0 0) (.slice none 0 0) 26
  have hbA := (Below.refl w.heap.size w).alloc (Nat.le_refl _) (.cells #[.slice none 0 0, .slice none 0 0] 26)
  have hc := h.alloc (.cells #[.slice none 0 0, .slice none 0 0] 26)
  go_enter Try.func29, Try.ntmps29
  go_wp2_with fail
  go_at_call 44
  refine (l20Open_any hc).mono ?_
  rintro e w1 ⟨A1, b1, o1, n1, c1, z1, rfl, hn1, hR, hz, hb, hs⟩
  have hsA : (w.alloc (.cells #[.slice none 0 0, .slice none 0 0] 26)).heap.size = w.heap.size + 1 := by simp
  have hT1 := hT.below hb (by omega)
  rw [hsA] at hR hz hs
  have hs' : w.heap.size + 1 < w1.heap.size := by omega
  clear h hc hT hs
  go_wp2_with fail
  go_at_call 60
  refine (l20Three_any (by omega) (by omega) hn1 hR hz (Nat.le_refl _) hs').mono ?_
  rintro e w2 ⟨ua, l, m, na, g, o2, k, nc, zz, x, y, t, rfl, hlog, hf, hg, hn, hL, hk, hC⟩
  have hT2 := hC.two hT1 (by show ¬ (w.heap.size = w.heap.size + 1); omega)
  have hF : Fresh (w.alloc (.cells #[.slice none 0 0, .slice none 0 0] 26)) ua l m na g o2 k zz w2 := ⟨hlog, ⟨fun r hr => by have := hf.top r hr; omega, fun r hr c hc => by have := hf.row r hr c hc; omega⟩, fun h0 => by have := hg h0; omega, hn, hL, hk, hb.trans (hC.below (by omega) fun j hj => by have hj' : j = w.heap.size + 1 := hj; omega)⟩
  have hall := Lib.hid (hF.put hbA (by omega) (.slice ua m.n l.cap) (.slice na k nc))
  have hfin := (hT2.set0 (.slice ua m.n l.cap)).set1 (.slice na k nc)
  have t0 := hfin.c0
  have t1 := hfin.c1
  have e0 := hT2.c0
  have e1 := hT2.c1
  have e2 := hT2.f0
  have e3 := hT2.f1
  clear hF hlog hf hC hT1 hT2 hfin hb hR hz
  go_wp2_with fail
  exact bodyPost_ret (v := .tuple #[.agg #[.slice ua m.n l.cap, .slice na k nc], .int .i64 x, .int .i64 y, .int .i64 t]) (by simp [results, Try.results29, go_sem, t0, t1]) rfl ⟨ua, l, m, na, g, o2, k, nc, zz, x, y, t, rfl, hall.out⟩


end Go.Proofs.Ytijcacibofpnpaa
