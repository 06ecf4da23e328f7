/- The walks of the reference's WithOk, SplitOk and BothWaysOk. The walk of the reference's CentreOf. The walks of the program's takenApart, WithOk, ApartFrom, SplitOk. The walk of the reference's ApartFrom. -/
import Derived.Test.YtkfinkhdfbogjaaOi
import Derived.Test.YtkfinkhdfbogjaaMath
import Derived.Test.YtkfinkhdfbogjaaWv
namespace Go.Proofs.Ytkfinkhdfbogjaa
open Go.RowKit Go.Deep

noncomputable def withV (m : Mx) (k : Nat) (z : Nat → Int) (x v : Int) : Bool := (logicB m k z && goodB m.n 2 (two x v)) && agB m (fun a => (z a).toNat) x.toNat v.toNat
noncomputable def splitV (m : Mx) (k : Nat) (z : Nat → Int) (x v t : Int) : Bool := ((logicB m k z && goodB m.n 2 (two x v)) && (logicB m k z && goodB m.n 2 (two x t))) && splitB m x.toNat v.toNat t.toNat
noncomputable def bothV (m : Mx) (k : Nat) (z : Nat → Int) : Bool := logicB m k z && twoWaysB m (fun a => (z a).toNat)

/-- Two answers of a logic, out of the test. -/
theorem good_parts {m : Mx} {k : Nat} {z : Nat → Int} {x v : Int} (h : (logicB m k z && goodB m.n 2 (two x v)) = true) : ∃ (a b o : Nat), x = (a : Int) ∧ v = (b : Int) ∧ a < m.n ∧ b < m.n ∧ k = m.n ∧ Ortho m z (fun c => (z c).toNat) o := by
  rw [Bool.and_eq_true] at h
  obtain ⟨x0, x1, y0, y1⟩ := good_two h.2
  obtain ⟨a, rfl⟩ := Int.eq_ofNat_of_zero_le x0
  obtain ⟨b, rfl⟩ := Int.eq_ofNat_of_zero_le y0
  obtain ⟨y, o, hO⟩ := (logicB_is h.1).ortho
  exact ⟨a, b, o, rfl, rfl, by omega, by omega, (logicB_is h.1).pair.len, hO.own⟩

theorem parts_split {m : Mx} {k : Nat} {z : Nat → Int} {x v t : Int} (h1 : (logicB m k z && goodB m.n 2 (two x v)) = true) (h2 : (logicB m k z && goodB m.n 2 (two x t)) = true) :
    ∃ (a b d o : Nat), x = (a : Int) ∧ v = (b : Int) ∧ t = (d : Int) ∧ a < m.n ∧ b < m.n ∧ d < m.n ∧ k = m.n ∧ Ortho m z (fun c => (z c).toNat) o := by
  obtain ⟨a, b, o, rfl, rfl, ha, hb, hk, hO⟩ := good_parts h1
  obtain ⟨a', d, _, e, rfl, _, hd, _, _⟩ := good_parts h2
  exact ⟨a, b, d, o, rfl, rfl, rfl, ha, hb, hd, hk, hO⟩
end Go.Proofs.Ytkfinkhdfbogjaa
namespace Go.Proofs.Ytkfinkhdfbogjaa
open Go.RowKit Go.Deep

/-- The answers of the centre below a number, in ascending order. -/
def midTo (m : Mx) (y : Nat → Nat) : Nat → List Int
  | 0 => []
  | k + 1 => if midB m y k = true then midTo m y k ++ [(k : Int)] else midTo m y k
noncomputable def midV (m : Mx) (k : Nat) (z : Nat → Int) : List Int := if logicB m k z = true then midTo m (fun a => (z a).toNat) m.n else []
theorem midTo_len (m : Mx) (y : Nat → Nat) (k : Nat) : (midTo m y k).length ≤ k := by
  induction k with
  | zero => exact Nat.le_refl _
  | succ k ih =>
    unfold midTo
    by_cases h : midB m y k = true
    · rw [if_pos h, List.length_append]; simp; omega
    · rw [if_neg h]; omega
theorem midV_len (m : Mx) (k : Nat) (z : Nat → Int) : (midV m k z).length ≤ 1048576 := by
  unfold midV
  by_cases h : logicB m k z = true
  · rw [if_pos h]
    obtain ⟨y, o, hO⟩ := (logicB_is h).ortho
    have h1 := hO.lat.order.top
    have h2 := midTo_len m (fun a => (z a).toNat) m.n
    omega
  · rw [if_neg h]; simp
theorem midTo_yes {m : Mx} {y : Nat → Nat} {k : Nat} (h : midB m y k = true) : midTo m y (k + 1) = midTo m y k ++ [(k : Int)] := if_pos h
theorem midTo_no {m : Mx} {y : Nat → Nat} {k : Nat} (h : midB m y k = false) : midTo m y (k + 1) = midTo m y k := if_neg (by rw [h]; exact Bool.false_ne_true)
theorem midTo_all {m : Mx} {y : Nat → Nat} {k : Nat} (h : ∀ a, a < k → midB m y a = true) : (midTo m y k).length = k := by
  induction k with
  | zero => rfl
  | succ k ih =>
    rw [midTo_yes (h k (Nat.lt_succ_self k)), List.length_append, ih fun a ha => h a (by omega)]
    rfl
/-- The first of all tests of an answer. -/
def midP (m : Mx) (y : Nat → Nat) (a j : Nat) : Bool := allB j fun b => agB m y a b && agB m y b a
theorem allB_step {j : Nat} {f : Nat → Bool} : allB (j + 1) f = (allB j f && f j) := by
  cases h1 : allB j f with
  | false =>
    cases h2 : allB (j + 1) f with
    | false => rfl
    | true =>
      have : allB j f = true := allB_true fun i hi => allB_is h2 i (by omega)
      rw [h1] at this
      exact absurd this Bool.false_ne_true
  | true =>
    cases h2 : f j with
    | false => exact allB_false (Nat.lt_succ_self j) h2
    | true =>
      exact allB_true fun i hi => by
        by_cases e : i = j
        · rw [e]; exact h2
        · exact allB_is h1 i (by omega)

end Go.Proofs.Ytkfinkhdfbogjaa
namespace Go.Proofs.Ytkfinkhdfbogjaa
open Go.RowKit Go.Deep

/-- The algebra of a logic lies in memory, and its rows and opposites. -/
structure AL (w : World) (B ob tb : Nat) (tG : Nat → Nat) (ua : Option Addr) (l : Lay) (m : Mx) (g o : Nat) (z : Nat → Int) (y : Nat → Nat) (n0 : Nat) : Prop where
  A : Alg w ob tb tG ua l m
  S : SqAt w B ua l m
  R : RowAt w B (some ⟨g, o, none⟩) g o m.n z
  O : Ortho m z y n0
theorem AL.step {w w' : World} {B ob tb g o n0 : Nat} {tG : Nat → Nat} {ua : Option Addr} {l : Lay} {m : Mx} {z : Nat → Int} {y : Nat → Nat} (h : AL w B ob tb tG ua l m g o z y n0) (hb : Below w.heap.size w w') : AL w' B ob tb tG ua l m g o z y n0 :=
  ⟨h.A.step hb, h.S.step hb, h.R.below (hb.mono h.S.hB), h.O⟩
theorem AL.notAt {w : World} {B ob tb g o n0 b : Nat} {tG : Nat → Nat} {ua : Option Addr} {l : Lay} {m : Mx} {z : Nat → Int} {y : Nat → Nat} (h : AL w B ob tb tG ua l m g o z y n0) (hb : b < m.n) : w.cell? ⟨g, o + b, none⟩ = some (.int .i64 ((y b : Nat) : Int)) := by
  have := (h.R.row b hb).2.2
  rw [h.O.zy b hb] at this
  exact this
theorem AL.of {w : World} {B ob tb g o n0 : Nat} {tG : Nat → Nat} {ua na : Option Addr} {l : Lay} {m : Mx} {z : Nat → Int} {y : Nat → Nat} (hA : Alg w ob tb tG ua l m) (h : LogAt w B ua l m na g o m.n z) (hO : Ortho m z y n0) :
    na = some ⟨g, o, none⟩ ∧ AL w B ob tb tG ua l m g o z y n0 := by
  have hp := hO.lat.order.pos
  obtain ⟨rfl, _, _⟩ := h.row.row 0 (by omega)
  exact ⟨rfl, hA, h.sq hO.lat.order, h.row, hO⟩
theorem meetA {w : World} {B ob tb g o nc n0 a b : Nat} {tG : Nat → Nat} {ua : Option Addr} {l : Lay} {m : Mx} {z : Nat → Int} {y : Nat → Nat} (h : AL w B ob tb tG ua l m g o z y n0) (ha : a < m.n) (hb : b < m.n) :
    Calls Try.prog 53 #[.agg #[.slice ua m.n l.cap, .slice (some ⟨g, o, none⟩) m.n nc, .slice (some ⟨ob, 0, none⟩) 2 2], .int .i64 0, .int .i64 a, .int .i64 b] w fun e w' => e = .returned (.int .i64 ((mN m a b : Nat) : Int)) ∧ Below w.heap.size w w' := by
  have e := made_meet (na := some ⟨g, o, none⟩) (k := m.n) (nc := nc) h.A h.S ha hb
  unfold algV at e
  rw [h.O.mI ha hb] at e
  exact e
theorem joinA {w : World} {B ob tb g o nc n0 a b : Nat} {tG : Nat → Nat} {ua : Option Addr} {l : Lay} {m : Mx} {z : Nat → Int} {y : Nat → Nat} (h : AL w B ob tb tG ua l m g o z y n0) (ha : a < m.n) (hb : b < m.n) :
    Calls Try.prog 53 #[.agg #[.slice ua m.n l.cap, .slice (some ⟨g, o, none⟩) m.n nc, .slice (some ⟨ob, 0, none⟩) 2 2], .int .i64 1, .int .i64 a, .int .i64 b] w fun e w' => e = .returned (.int .i64 ((jN m a b : Nat) : Int)) ∧ Below w.heap.size w w' := by
  have e := made_join (na := some ⟨g, o, none⟩) (k := m.n) (nc := nc) h.A h.S ha hb
  unfold algV at e
  rw [h.O.jI ha hb] at e
  exact e
theorem AL.mlt {w : World} {B ob tb g o n0 a b : Nat} {tG : Nat → Nat} {ua : Option Addr} {l : Lay} {m : Mx} {z : Nat → Int} {y : Nat → Nat} (h : AL w B ob tb tG ua l m g o z y n0) (ha : a < m.n) (hb : b < m.n) : mN m a b < m.n := (h.O.mG ha hb).lt
theorem AL.jlt {w : World} {B ob tb g o n0 a b : Nat} {tG : Nat → Nat} {ua : Option Addr} {l : Lay} {m : Mx} {z : Nat → Int} {y : Nat → Nat} (h : AL w B ob tb tG ua l m g o z y n0) (ha : a < m.n) (hb : b < m.n) : jN m a b < m.n := (h.O.jG ha hb).lt
def takN (m : Mx) (y : Nat → Nat) (a b : Nat) : Nat := jN m (mN m a b) (mN m a (y b))
theorem agB_tak (m : Mx) (y : Nat → Nat) (a b : Nat) : agB m y a b = decide (takN m y a b = a) := rfl
theorem apN_tak (m : Mx) (y : Nat → Nat) (a b : Nat) : apN m y a b = jN m (takN m y a b) (takN m y (y a) b) := rfl

set_option maxRecDepth 100000 in
set_option maxHeartbeats 2000000 in
theorem takenApart_any {w : World} {B ob tb g o nc n0 a b : Nat} {tG : Nat → Nat} {ua : Option Addr} {l : Lay} {m : Mx} {z : Nat → Int} {y : Nat → Nat} (h : AL w B ob tb tG ua l m g o z y n0) (ha : a < m.n) (hb : b < m.n) :
    Calls Try.prog 52 #[.agg #[.slice ua m.n l.cap, .slice (some ⟨g, o, none⟩) m.n nc, .slice (some ⟨ob, 0, none⟩) 2 2], .int .i64 a, .int .i64 b] w fun e w' => e = .returned (.int .i64 ((takN m y a b : Nat) : Int)) ∧ Below w.heap.size w w' := by
  have hY := BoxN.start w #[.slice ua m.n l.cap, .slice (some ⟨g, o, none⟩) m.n nc, .slice (some ⟨ob, 0, none⟩) 2 2] 60
  have hL := Lib.hid (h.step hY.below)
  have ha' : (a : Int) < m.n := by omega
  have hb' : (b : Int) < m.n := by omega
  have hyb := h.O.lt b hb
  have hm1 := h.mlt ha hb
  have hm2 := h.mlt ha hyb
  clear h
  go_enter Try.func52, Try.ntmps52
  go_wp2_with fail
  generalize w.alloc (.cells #[.slice ua m.n l.cap, .slice (some ⟨g, o, none⟩) m.n nc, .slice (some ⟨ob, 0, none⟩) 2 2] 60) = W at hY hL ⊢
  have hY0 := hY.step (Below.refl _ W).drew
  have hL0 := Lib.hid (hL.out.step (Below.refl _ W).drew)
  have hS0 : (fun w' => (((w'.cell? ⟨w.heap.size, 0, none⟩ = some (.slice ua m.n l.cap) ∧ w'.cell? ⟨w.heap.size, 1, none⟩ = some (.slice (some ⟨g, o, none⟩) m.n nc)) ∧ w'.cell? ⟨w.heap.size, 2, none⟩ = some (.slice (some ⟨ob, 0, none⟩) 2 2)) ∧ w'.cell? ⟨g, o + b, none⟩ = some (.int .i64 ((y b : Nat) : Int)))) W.drew := ⟨⟨⟨hY0.cell 0 rfl, hY0.cell 1 rfl⟩, hY0.cell 2 rfl⟩, hL0.out.notAt hb⟩
  clear hY hL
  refine region_plain (fuel := 15) (listed := #[false, false, false, false, false, false, false, false, false, false, false, false, false, false, false]) (fun w' => (((w'.cell? ⟨w.heap.size, 0, none⟩ = some (.slice ua m.n l.cap) ∧ w'.cell? ⟨w.heap.size, 1, none⟩ = some (.slice (some ⟨g, o, none⟩) m.n nc)) ∧ w'.cell? ⟨w.heap.size, 2, none⟩ = some (.slice (some ⟨ob, 0, none⟩) 2 2)) ∧ w'.cell? ⟨g, o + b, none⟩ = some (.int .i64 ((y b : Nat) : Int)))) (by kernel_rfl) (by kernel_rfl) (by kernel_rfl) ?_
  refine hold_take (i := 0) (d := 7) (v := ?va0) (listed' := #[true, false, false, false, false, false, false, false, false, false, false, false, false, false, false]) rfl (by kernel_rfl) (by kernel_rfl) (by kernel_rfl) rfl (by rfl) (by kernel_rfl) hS0 ?ha0 ?ra0
  case ha0 =>
    intro w' hSw
    obtain ⟨⟨⟨k0, k1⟩, k2⟩, k3⟩ := hSw
    go_simp
    try with_reducible rfl
  simp only [List.setIfInBounds_toArray, List.set_cons_zero, List.set_cons_succ]
  refine hold_take (i := 1) (d := 8) (v := ?va1) (listed' := #[true, true, false, false, false, false, false, false, false, false, false, false, false, false, false]) rfl (by kernel_rfl) (by kernel_rfl) (by kernel_rfl) rfl (by rfl) (by kernel_rfl) hS0 ?ha1 ?ra1
  case ha1 =>
    intro w' hSw
    obtain ⟨⟨⟨k0, k1⟩, k2⟩, k3⟩ := hSw
    go_simp
    try with_reducible rfl
  simp only [List.setIfInBounds_toArray, List.set_cons_zero, List.set_cons_succ]
  refine hold_take (i := 2) (d := 9) (v := ?va2) (listed' := #[true, true, true, false, false, false, false, false, false, false, false, false, false, false, false]) rfl (by kernel_rfl) (by kernel_rfl) (by kernel_rfl) rfl (by rfl) (by kernel_rfl) hS0 ?ha2 ?ra2
  case ha2 =>
    intro w' hSw
    obtain ⟨⟨⟨k0, k1⟩, k2⟩, k3⟩ := hSw
    go_simp
    try with_reducible rfl
  simp only [List.setIfInBounds_toArray, List.set_cons_zero, List.set_cons_succ]
  refine hold_take (i := 3) (d := 10) (v := ?va3) (listed' := #[true, true, true, true, false, false, false, false, false, false, false, false, false, false, false]) rfl (by kernel_rfl) (by kernel_rfl) (by kernel_rfl) rfl (by rfl) (by kernel_rfl) hS0 ?ha3 ?ra3
  case ha3 =>
    intro w' hSw
    obtain ⟨⟨⟨k0, k1⟩, k2⟩, k3⟩ := hSw
    go_simp
    try with_reducible rfl
  simp only [List.setIfInBounds_toArray, List.set_cons_zero, List.set_cons_succ]
  refine hold_take (i := 5) (d := 12) (v := ?va5) (listed' := #[true, true, true, true, false, true, false, false, false, false, false, false, false, false, false]) rfl (by kernel_rfl) (by kernel_rfl) (by kernel_rfl) rfl (by rfl) (by kernel_rfl) hS0 ?ha5 ?ra5
  case ha5 =>
    intro w' hSw
    obtain ⟨⟨⟨k0, k1⟩, k2⟩, k3⟩ := hSw
    go_simp
    try with_reducible rfl
  simp only [List.setIfInBounds_toArray, List.set_cons_zero, List.set_cons_succ]
  refine hold_take (i := 6) (d := 13) (v := ?va6) (listed' := #[true, true, true, true, false, true, true, false, false, false, false, false, false, false, false]) rfl (by kernel_rfl) (by kernel_rfl) (by kernel_rfl) rfl (by rfl) (by kernel_rfl) hS0 ?ha6 ?ra6
  case ha6 =>
    intro w' hSw
    obtain ⟨⟨⟨k0, k1⟩, k2⟩, k3⟩ := hSw
    go_simp
    try with_reducible rfl
  simp only [List.setIfInBounds_toArray, List.set_cons_zero, List.set_cons_succ]
  refine hold_take (i := 7) (d := 14) (v := ?va7) (listed' := #[true, true, true, true, false, true, true, true, false, false, false, false, false, false, false]) rfl (by kernel_rfl) (by kernel_rfl) (by kernel_rfl) rfl (by rfl) (by kernel_rfl) hS0 ?ha7 ?ra7
  case ha7 =>
    intro w' hSw
    obtain ⟨⟨⟨k0, k1⟩, k2⟩, k3⟩ := hSw
    go_simp
    try with_reducible rfl
  simp only [List.setIfInBounds_toArray, List.set_cons_zero, List.set_cons_succ]
  refine hold_take (i := 8) (d := 15) (v := ?va8) (listed' := #[true, true, true, true, false, true, true, true, true, false, false, false, false, false, false]) rfl (by kernel_rfl) (by kernel_rfl) (by kernel_rfl) rfl (by rfl) (by kernel_rfl) hS0 ?ha8 ?ra8
  case ha8 =>
    intro w' hSw
    obtain ⟨⟨⟨k0, k1⟩, k2⟩, k3⟩ := hSw
    go_simp
    try with_reducible rfl
  simp only [List.setIfInBounds_toArray, List.set_cons_zero, List.set_cons_succ]
  refine hold_take (i := 9) (d := 16) (v := ?va9) (listed' := #[true, true, true, true, false, true, true, true, true, true, false, false, false, false, false]) rfl (by kernel_rfl) (by kernel_rfl) (by kernel_rfl) rfl (by rfl) (by kernel_rfl) hS0 ?ha9 ?ra9
  case ha9 =>
    intro w' hSw
    obtain ⟨⟨⟨k0, k1⟩, k2⟩, k3⟩ := hSw
    go_simp
    try with_reducible rfl
  simp only [List.setIfInBounds_toArray, List.set_cons_zero, List.set_cons_succ]
  refine hold_take (i := 10) (d := 17) (v := ?va10) (listed' := #[true, true, true, true, false, true, true, true, true, true, true, false, false, false, false]) rfl (by kernel_rfl) (by kernel_rfl) (by kernel_rfl) rfl (by rfl) (by kernel_rfl) hS0 ?ha10 ?ra10
  case ha10 =>
    intro w' hSw
    obtain ⟨⟨⟨k0, k1⟩, k2⟩, k3⟩ := hSw
    go_simp
    try with_reducible rfl
  simp only [List.setIfInBounds_toArray, List.set_cons_zero, List.set_cons_succ]
  refine hold_take (i := 11) (d := 18) (v := ?va11) (listed' := #[true, true, true, true, false, true, true, true, true, true, true, true, false, false, false]) rfl (by kernel_rfl) (by kernel_rfl) (by kernel_rfl) rfl (by rfl) (by kernel_rfl) hS0 ?ha11 ?ra11
  case ha11 =>
    intro w' hSw
    obtain ⟨⟨⟨k0, k1⟩, k2⟩, k3⟩ := hSw
    go_simp
    try with_reducible rfl
  simp only [List.setIfInBounds_toArray, List.set_cons_zero, List.set_cons_succ]
  refine hold_call (i := 4) (d := 11) (listed' := #[true, true, true, true, true, true, true, true, true, true, true, true, false, false, false]) rfl (by kernel_rfl) rfl (by rfl) (by kernel_rfl) ?hea4 (meetA (nc := nc) hL0.out ha hb) ?hca4
  case hea4 => go_simp
  rintro e x1 ⟨rfl, bb1⟩
  have hY1 := hY0.step bb1
  have hL1 := Lib.hid (hL0.out.step bb1)
  have hS1 : (fun w' => (((w'.cell? ⟨w.heap.size, 0, none⟩ = some (.slice ua m.n l.cap) ∧ w'.cell? ⟨w.heap.size, 1, none⟩ = some (.slice (some ⟨g, o, none⟩) m.n nc)) ∧ w'.cell? ⟨w.heap.size, 2, none⟩ = some (.slice (some ⟨ob, 0, none⟩) 2 2)) ∧ w'.cell? ⟨g, o + b, none⟩ = some (.int .i64 ((y b : Nat) : Int)))) x1 := ⟨⟨⟨hY1.cell 0 rfl, hY1.cell 1 rfl⟩, hY1.cell 2 rfl⟩, hL1.out.notAt hb⟩
  clear hS0 hL0 hY0 bb1
  refine ⟨_, rfl, hS1, ?_⟩
  simp only [List.setIfInBounds_toArray, List.set_cons_zero, List.set_cons_succ]
  refine hold_call (i := 12) (d := 19) (listed' := #[true, true, true, true, true, true, true, true, true, true, true, true, true, false, false]) rfl (by kernel_rfl) rfl (by rfl) (by kernel_rfl) ?hea12 (meetA (nc := nc) hL1.out ha hyb) ?hca12
  case hea12 => go_simp
  rintro e x2 ⟨rfl, bb2⟩
  have hY2 := hY1.step bb2
  have hL2 := Lib.hid (hL1.out.step bb2)
  have hS2 : (fun w' => (((w'.cell? ⟨w.heap.size, 0, none⟩ = some (.slice ua m.n l.cap) ∧ w'.cell? ⟨w.heap.size, 1, none⟩ = some (.slice (some ⟨g, o, none⟩) m.n nc)) ∧ w'.cell? ⟨w.heap.size, 2, none⟩ = some (.slice (some ⟨ob, 0, none⟩) 2 2)) ∧ w'.cell? ⟨g, o + b, none⟩ = some (.int .i64 ((y b : Nat) : Int)))) x2 := ⟨⟨⟨hY2.cell 0 rfl, hY2.cell 1 rfl⟩, hY2.cell 2 rfl⟩, hL2.out.notAt hb⟩
  clear hS1 hL1 hY1 bb2
  refine ⟨_, rfl, hS2, ?_⟩
  simp only [List.setIfInBounds_toArray, List.set_cons_zero, List.set_cons_succ]
  refine hold_call (i := 13) (d := 20) (listed' := #[true, true, true, true, true, true, true, true, true, true, true, true, true, true, false]) rfl (by kernel_rfl) rfl (by rfl) (by kernel_rfl) ?hea13 (joinA (nc := nc) hL2.out hm1 hm2) ?hca13
  case hea13 => go_simp
  rintro e x3 ⟨rfl, bb3⟩
  have hY3 := hY2.step bb3
  have hL3 := Lib.hid (hL2.out.step bb3)
  have hS3 : (fun w' => (((w'.cell? ⟨w.heap.size, 0, none⟩ = some (.slice ua m.n l.cap) ∧ w'.cell? ⟨w.heap.size, 1, none⟩ = some (.slice (some ⟨g, o, none⟩) m.n nc)) ∧ w'.cell? ⟨w.heap.size, 2, none⟩ = some (.slice (some ⟨ob, 0, none⟩) 2 2)) ∧ w'.cell? ⟨g, o + b, none⟩ = some (.int .i64 ((y b : Nat) : Int)))) x3 := ⟨⟨⟨hY3.cell 0 rfl, hY3.cell 1 rfl⟩, hY3.cell 2 rfl⟩, hL3.out.notAt hb⟩
  clear hS2 hL2 hY2 bb3
  refine ⟨_, rfl, hS3, ?_⟩
  simp only [List.setIfInBounds_toArray, List.set_cons_zero, List.set_cons_succ]
  refine hold_take (i := 14) (d := 6) (v := ?va14) (listed' := #[true, true, true, true, true, true, true, true, true, true, true, true, true, true, true]) rfl (by kernel_rfl) (by kernel_rfl) (by kernel_rfl) rfl (by rfl) (by kernel_rfl) hS3 ?ha14 ?ra14
  case ha14 =>
    intro w' hSw
    obtain ⟨⟨⟨k0, k1⟩, k2⟩, k3⟩ := hSw
    go_simp
    try with_reducible rfl
  simp only [List.setIfInBounds_toArray, List.set_cons_zero, List.set_cons_succ]
  refine hold_done (by kernel_rfl) ?_ _
  go_wp2_with fail
  go_ret
  exact ⟨rfl, hY3.below⟩

set_option maxRecDepth 100000 in
set_option maxHeartbeats 4000000 in
theorem WithOk_any {w : World} {B : Nat} {ua : Option Addr} {l : Lay} {m : Mx} {na : Option Addr} {g o k nc : Nat} {z : Nat → Int} {x v : Int} (h : LogAt w B ua l m na g o k z) :
    Calls Try.prog 17 #[.agg #[.slice ua m.n l.cap, .slice na k nc], .int .i64 x, .int .i64 v] w fun e w' => e = .returned (.bool (withV m k z x v)) ∧ Below w.heap.size w w' := by
  have hX := BoxN.start w #[.slice ua m.n l.cap, .slice na k nc] 26
  have q0 := hX.cell 0 rfl
  have q1 := hX.cell 1 rfl
  have hrow := two_at (w.alloc (.cells #[.slice ua m.n l.cap, .slice na k nc] 26)) x v
  rw [World.size_alloc] at hrow
  have b2 := (Below.refl (w.heap.size + 1) (w.alloc (.cells #[.slice ua m.n l.cap, .slice na k nc] 26))).alloc (by simp) (.cells #[.int .i64 x, .int .i64 v] 3)
  have hX2 := hX.step (b2.mono (by simp))
  have bw := hX2.below
  have hsz : ((w.alloc (.cells #[.slice ua m.n l.cap, .slice na k nc] 26)).alloc (.cells #[.int .i64 x, .int .i64 v] 3)).heap.size ≥ w.heap.size + 1 + 1 := by simp
  have h2 := Lib.hid (h.step bw)
  go_enter Try.func17, Try.ntmps17
  generalize hW : (w.alloc (.cells #[.slice ua m.n l.cap, .slice na k nc] 26)).alloc (.cells #[.int .i64 x, .int .i64 v] 3) = W at hrow hX2 bw hsz h2
  have hrow2 : Hid (RowAt W W.heap.size (some ⟨w.heap.size + 1, 0, none⟩) (w.heap.size + 1) 0 2 (two x v)) := ⟨fun c hc => by obtain ⟨a1, a2, a3⟩ := hrow.row c hc; exact ⟨a1, by omega, a3⟩⟩
  clear hX b2 h hrow
  go_wp2_with fail
  go_at_call 44
  refine (algebraWith_any h2.out hrow2.out (by omega)).mono ?_
  rintro e w1 ⟨b1, (⟨hg, ob, tb, tG, rfl, hA⟩ | ⟨hg, rfl⟩)⟩
  · clear hW q0 q1 hrow2
    have B1 := bw.trans (b1.mono bw.size)
    have h3 := h2.out.step b1
    clear h2 hX2 bw hsz
    obtain ⟨a, b, n0, rfl, rfl, ha, hb, rfl, hO⟩ := good_parts hg
    obtain ⟨y, hy⟩ : ∃ y : Nat → Nat, y = fun c => (z c).toNat := ⟨_, rfl⟩
    rw [← hy] at hO
    obtain ⟨rfl, hL1⟩ := AL.of hA h3 hO
    have HV : Hid (agB m y a b = withV m m.n z (a : Int) (b : Int)) := by
      show _ = _
      rw [hy]
      unfold withV
      rw [hg]; rfl
    clear hg hy hA h3 hO
    have hY := BoxN.start w1 #[.slice ua m.n l.cap, .slice (some ⟨g, o, none⟩) m.n nc, .slice (some ⟨ob, 0, none⟩) 2 2] 60
    have BY := B1.trans (hY.below.mono B1.size)
    have hL := Lib.hid (hL1.step hY.below)
    clear hL1
    have r0 := hY.cell 0 rfl
    have r1 := hY.cell 1 rfl
    have r2 := hY.cell 2 rfl
    rw [agB_tak] at HV
    cases hk : decide (takN m y a b = a) with
    | true =>
      have n1 : (((takN m y a b : Nat) : Int) == (a : Int)) = true := by rw [of_decide_eq_true hk]; simp
      rw [hk] at HV
      clear hk
      unfold algV
      go_wp2_with fail
      go_at_call 52
      refine (takenApart_any (nc := nc) hL.out ha hb).mono ?_
      rintro e w2 ⟨rfl, b2⟩
      have BZ := BY.trans (b2.mono BY.size)
      go_wp2_with fail
      go_ret
      exact ⟨ret_bool HV.out, BZ⟩
    | false =>
      have n1 : (((takN m y a b : Nat) : Int) == (a : Int)) = false := by have := of_decide_eq_false hk; rw [beq_eq_false_iff_ne]; omega
      rw [hk] at HV
      clear hk
      unfold algV
      go_wp2_with fail
      go_at_call 52
      refine (takenApart_any (nc := nc) hL.out ha hb).mono ?_
      rintro e w2 ⟨rfl, b2⟩
      have BZ := BY.trans (b2.mono BY.size)
      go_wp2_with fail
      go_ret
      exact ⟨ret_bool HV.out, BZ⟩
  · have HV : Hid (false = withV m k z x v) := by show _ = _; unfold withV; rw [hg]; rfl
    clear hW q0 q1 hrow2 hg
    have B1 := bw.trans (b1.mono bw.size)
    have B2 := B1.alloc B1.size (.cells #[.slice none 0 0, .slice none 0 0, .slice none 0 0] 60)
    unfold noAlg
    go_wp2_with fail
    go_ret
    exact ⟨ret_bool HV.out, B2⟩
noncomputable def apV (m : Mx) (k : Nat) (z : Nat → Int) (x v : Int) : Int := if (logicB m k z && goodB m.n 2 (two x v)) = true then ((apN m (fun a => (z a).toNat) x.toNat v.toNat : Nat) : Int) else -1

def three (a b c : Int) : Nat → Int := fun i => if i = 0 then a else if i = 1 then b else c
theorem three_at (w : World) (a b c : Int) : RowAt (w.alloc (.cells #[.int .i64 a, .int .i64 b, .int .i64 c] 3)) (w.heap.size + 1) (some ⟨w.heap.size, 0, none⟩) w.heap.size 0 3 (three a b c) :=
  ⟨fun i hi => ⟨rfl, by omega, by
    rcases (show i = 0 ∨ i = 1 ∨ i = 2 by omega) with rfl | rfl | rfl
    · simp [three]
    · simp [three]
    · simp [three]⟩⟩
theorem good_three {n : Nat} {a b c : Int} : goodB n 3 (three a b c) = (goodB n 2 (two a b) && goodB n 2 (two a c)) := by
  rw [Bool.eq_iff_iff, Bool.and_eq_true]
  constructor
  · intro h
    have h0 := allB_is h 0 (by omega)
    have h1 := allB_is h 1 (by omega)
    have h2 := allB_is h 2 (by omega)
    simp [three] at h0 h1 h2
    exact ⟨good_mk (by omega) (by omega) (by omega) (by omega), good_mk (by omega) (by omega) (by omega) (by omega)⟩
  · rintro ⟨h1, h2⟩
    obtain ⟨a0, a1, b0, b1⟩ := good_two h1
    obtain ⟨_, _, c0, c1⟩ := good_two h2
    exact allB_true fun i hi => by
      rcases (show i = 0 ∨ i = 1 ∨ i = 2 by omega) with rfl | rfl | rfl
      · simp [three]; omega
      · simp [three]; omega
      · simp [three]; omega
theorem split_tests {L A C : Bool} : (L && (A && C)) = ((L && A) && (L && C)) := by cases L <;> cases A <;> cases C <;> rfl

end Go.Proofs.Ytkfinkhdfbogjaa
namespace Go.Proofs.Ytkfinkhdfbogjaa
open Go.RowKit Go.Deep

theorem meetQ2 {B c n : Nat} {sa : Option Addr} {l : Lay} {m : Mx} {a b : Nat} {w : World} {z : Nat → Int} {y : Nat → Nat} {o : Nat} (h : MatAt w B sa l m) (hO : Ortho m z y o) (ha : a < m.n) (hb : b < m.n) :
    Calls Try.prog 47 #[.slice sa m.n l.cap, .int .i64 a, .int .i64 b] (w.drewN (c + n)) fun e w' => e = .returned (.int .i64 (mN m a b : Nat)) ∧ ∃ k, w' = w.drewN (c + k) :=
  (l1Meet_any (h.drewN (c + n)) hO.lat.order ha hb).mono fun _ _ ⟨he, hw⟩ => ⟨by rw [he, hO.mI ha hb], by subst hw; exact ⟨n, rfl⟩⟩
theorem joinQ2 {B c n : Nat} {sa : Option Addr} {l : Lay} {m : Mx} {a b : Nat} {w : World} {z : Nat → Int} {y : Nat → Nat} {o : Nat} (h : MatAt w B sa l m) (hO : Ortho m z y o) (ha : a < m.n) (hb : b < m.n) :
    Calls Try.prog 48 #[.slice sa m.n l.cap, .int .i64 a, .int .i64 b] (w.drewN (c + n)) fun e w' => e = .returned (.int .i64 (jN m a b : Nat)) ∧ ∃ k, w' = w.drewN (c + k) :=
  (l1Join_any (h.drewN (c + n)) hO.lat.order ha hb).mono fun _ _ ⟨he, hw⟩ => ⟨by rw [he, hO.jI ha hb], by subst hw; exact ⟨n, rfl⟩⟩
theorem joinD {B c : Nat} {sa : Option Addr} {l : Lay} {m : Mx} {a b : Nat} {w : World} {z : Nat → Int} {y : Nat → Nat} {o : Nat} (h : MatAt w B sa l m) (hO : Ortho m z y o) (ha : a < m.n) (hb : b < m.n) :
    Calls Try.prog 48 #[.slice sa m.n l.cap, .int .i64 a, .int .i64 b] (w.drewN c) fun e w' => e = .returned (.int .i64 (jN m a b : Nat)) ∧ Drew w w' :=
  (l1Join_any (h.drewN c) hO.lat.order ha hb).mono fun _ _ ⟨he, hw⟩ => ⟨by rw [he, hO.jI ha hb], by subst hw; exact (Drew.refl w).drewN c⟩

end Go.Proofs.Ytkfinkhdfbogjaa
