import Derived.Test.YtjmhhjdkemicbaaDoorZOi
import Derived.Test.YtjmhhjdkemicbaaDoorZMath
import Derived.Test.YtjmhhjdkemicbaaDoorZWv
namespace Go.Proofs.YtjmhhjdkemicbaaDoor
open Go.RowKit Go.Deep

/-- Two answers of a logic, out of the test. -/
theorem good_parts {m : Mx} {k : Nat} {z : Nat → Int} {x v : Int} (h : (logicB m k z && goodB m.n 2 (two x v)) = true) : ∃ (a b o : Nat), x = (a : Int) ∧ v = (b : Int) ∧ a < m.n ∧ b < m.n ∧ k = m.n ∧ Ortho m z (fun c => (z c).toNat) o := by
  rw [Bool.and_eq_true] at h
  obtain ⟨x0, x1, y0, y1⟩ := good_two h.2
  obtain ⟨a, rfl⟩ := Int.eq_ofNat_of_zero_le x0
  obtain ⟨b, rfl⟩ := Int.eq_ofNat_of_zero_le y0
  obtain ⟨y, o, hO⟩ := (logicB_is h.1).ortho
  exact ⟨a, b, o, rfl, rfl, by omega, by omega, (logicB_is h.1).pair.len, hO.own⟩

theorem parts_split {m : Mx} {k : Nat} {z : Nat → Int} {x v t : Int} (h1 : (logicB m k z && goodB m.n 2 (two x v)) = true) (h2 : (logicB m k z && goodB m.n 2 (two x t)) = true) :
    ∃ (a b d o : Nat), x = (a : Int) ∧ v = (b : Int) ∧ t = (d : Int) ∧ a < m.n ∧ b < m.n ∧ d < m.n ∧ k = m.n ∧ Ortho m z (fun c => (z c).toNat) o := by
  obtain ⟨a, b, o, rfl, rfl, ha, hb, hk, hO⟩ := good_parts h1
  obtain ⟨a', d, _, e, rfl, _, hd, _, _⟩ := good_parts h2
  exact ⟨a, b, d, o, rfl, rfl, rfl, ha, hb, hd, hk, hO⟩
end Go.Proofs.YtjmhhjdkemicbaaDoor
namespace Go.Proofs.YtjmhhjdkemicbaaDoor
open Go.RowKit Go.Deep

end Go.Proofs.YtjmhhjdkemicbaaDoor
namespace Go.Proofs.YtjmhhjdkemicbaaDoor
open Go.RowKit Go.Deep

/-- The algebra of a logic lies in memory, and its rows and opposites. -/
structure AL (w : World) (B ob tb : Nat) (tG : Nat → Nat) (ua : Option Addr) (l : Lay) (m : Mx) (g o : Nat) (z : Nat → Int) (y : Nat → Nat) (n0 : Nat) : Prop where
  A : Alg w ob tb tG ua l m
  S : SqAt w B ua l m
  R : RowAt w B (some ⟨g, o, none⟩) g o m.n z
  O : Ortho m z y n0
theorem AL.step {w w' : World} {B ob tb g o n0 : Nat} {tG : Nat → Nat} {ua : Option Addr} {l : Lay} {m : Mx} {z : Nat → Int} {y : Nat → Nat} (h : AL w B ob tb tG ua l m g o z y n0) (hb : Below w.heap.size w w') : AL w' B ob tb tG ua l m g o z y n0 :=
  ⟨h.A.step hb, h.S.step hb, h.R.below (hb.mono h.S.hB), h.O⟩
theorem AL.notAt {w : World} {B ob tb g o n0 b : Nat} {tG : Nat → Nat} {ua : Option Addr} {l : Lay} {m : Mx} {z : Nat → Int} {y : Nat → Nat} (h : AL w B ob tb tG ua l m g o z y n0) (hb : b < m.n) : w.cell? ⟨g, o + b, none⟩ = some (.int .i64 ((y b : Nat) : Int)) := by
  have := (h.R.row b hb).2.2
  rw [h.O.zy b hb] at this
  exact this
theorem AL.of {w : World} {B ob tb g o n0 : Nat} {tG : Nat → Nat} {ua na : Option Addr} {l : Lay} {m : Mx} {z : Nat → Int} {y : Nat → Nat} (hA : Alg w ob tb tG ua l m) (h : LogAt w B ua l m na g o m.n z) (hO : Ortho m z y n0) :
    na = some ⟨g, o, none⟩ ∧ AL w B ob tb tG ua l m g o z y n0 := by
  have hp := hO.lat.order.pos
  obtain ⟨rfl, _, _⟩ := h.row.row 0 (by omega)
  exact ⟨rfl, hA, h.sq hO.lat.order, h.row, hO⟩
theorem meetA {w : World} {B ob tb g o nc n0 a b : Nat} {tG : Nat → Nat} {ua : Option Addr} {l : Lay} {m : Mx} {z : Nat → Int} {y : Nat → Nat} (h : AL w B ob tb tG ua l m g o z y n0) (ha : a < m.n) (hb : b < m.n) :
    Calls Tryd.prog 55 #[.agg #[.slice ua m.n l.cap, .slice (some ⟨g, o, none⟩) m.n nc, .slice (some ⟨ob, 0, none⟩) 2 2], .int .i64 0, .int .i64 a, .int .i64 b] w fun e w' => e = .returned (.int .i64 ((mN m a b : Nat) : Int)) ∧ Below w.heap.size w w' := by
  have e := made_meet (na := some ⟨g, o, none⟩) (k := m.n) (nc := nc) h.A h.S ha hb
  unfold algV at e
  rw [h.O.mI ha hb] at e
  exact e
theorem joinA {w : World} {B ob tb g o nc n0 a b : Nat} {tG : Nat → Nat} {ua : Option Addr} {l : Lay} {m : Mx} {z : Nat → Int} {y : Nat → Nat} (h : AL w B ob tb tG ua l m g o z y n0) (ha : a < m.n) (hb : b < m.n) :
    Calls Tryd.prog 55 #[.agg #[.slice ua m.n l.cap, .slice (some ⟨g, o, none⟩) m.n nc, .slice (some ⟨ob, 0, none⟩) 2 2], .int .i64 1, .int .i64 a, .int .i64 b] w fun e w' => e = .returned (.int .i64 ((jN m a b : Nat) : Int)) ∧ Below w.heap.size w w' := by
  have e := made_join (na := some ⟨g, o, none⟩) (k := m.n) (nc := nc) h.A h.S ha hb
  unfold algV at e
  rw [h.O.jI ha hb] at e
  exact e
theorem AL.mlt {w : World} {B ob tb g o n0 a b : Nat} {tG : Nat → Nat} {ua : Option Addr} {l : Lay} {m : Mx} {z : Nat → Int} {y : Nat → Nat} (h : AL w B ob tb tG ua l m g o z y n0) (ha : a < m.n) (hb : b < m.n) : mN m a b < m.n := (h.O.mG ha hb).lt
def takN (m : Mx) (y : Nat → Nat) (a b : Nat) : Nat := jN m (mN m a b) (mN m a (y b))
set_option maxRecDepth 100000 in
set_option maxHeartbeats 2000000 in
theorem takenApart_any {w : World} {B ob tb g o nc n0 a b : Nat} {tG : Nat → Nat} {ua : Option Addr} {l : Lay} {m : Mx} {z : Nat → Int} {y : Nat → Nat} (h : AL w B ob tb tG ua l m g o z y n0) (ha : a < m.n) (hb : b < m.n) :
    Calls Tryd.prog 73 #[.agg #[.slice ua m.n l.cap, .slice (some ⟨g, o, none⟩) m.n nc, .slice (some ⟨ob, 0, none⟩) 2 2], .int .i64 a, .int .i64 b] w fun e w' => e = .returned (.int .i64 ((takN m y a b : Nat) : Int)) ∧ Below w.heap.size w w' := by
  have hY := BoxN.start w #[.slice ua m.n l.cap, .slice (some ⟨g, o, none⟩) m.n nc, .slice (some ⟨ob, 0, none⟩) 2 2] 52
  have hL := Lib.hid (h.step hY.below)
  have ha' : (a : Int) < m.n := by omega
  have hb' : (b : Int) < m.n := by omega
  have hyb := h.O.lt b hb
  have hm1 := h.mlt ha hb
  have hm2 := h.mlt ha hyb
  clear h
  go_enter Tryd.func73, Tryd.ntmps73
  go_wp2_with fail
  generalize w.alloc (.cells #[.slice ua m.n l.cap, .slice (some ⟨g, o, none⟩) m.n nc, .slice (some ⟨ob, 0, none⟩) 2 2] 52) = W at hY hL ⊢
  have hY0 := hY.step (Below.refl _ W).drew
  have hL0 := Lib.hid (hL.out.step (Below.refl _ W).drew)
  have hS0 : (fun w' => (((w'.cell? ⟨w.heap.size, 0, none⟩ = some (.slice ua m.n l.cap) ∧ w'.cell? ⟨w.heap.size, 1, none⟩ = some (.slice (some ⟨g, o, none⟩) m.n nc)) ∧ w'.cell? ⟨w.heap.size, 2, none⟩ = some (.slice (some ⟨ob, 0, none⟩) 2 2)) ∧ w'.cell? ⟨g, o + b, none⟩ = some (.int .i64 ((y b : Nat) : Int)))) W.drew := ⟨⟨⟨hY0.cell 0 rfl, hY0.cell 1 rfl⟩, hY0.cell 2 rfl⟩, hL0.out.notAt hb⟩
  clear hY hL
  refine region_plain (fuel := 15) (listed := #[false, false, false, false, false, false, false, false, false, false, false, false, false, false, false]) (fun w' => (((w'.cell? ⟨w.heap.size, 0, none⟩ = some (.slice ua m.n l.cap) ∧ w'.cell? ⟨w.heap.size, 1, none⟩ = some (.slice (some ⟨g, o, none⟩) m.n nc)) ∧ w'.cell? ⟨w.heap.size, 2, none⟩ = some (.slice (some ⟨ob, 0, none⟩) 2 2)) ∧ w'.cell? ⟨g, o + b, none⟩ = some (.int .i64 ((y b : Nat) : Int)))) (by kernel_rfl) (by kernel_rfl) (by kernel_rfl) ?_
  refine hold_take (i := 0) (d := 7) (v := ?va0) (listed' := #[true, false, false, false, false, false, false, false, false, false, false, false, false, false, false]) rfl (by kernel_rfl) (by kernel_rfl) (by kernel_rfl) rfl (by rfl) (by kernel_rfl) hS0 ?ha0 ?ra0
  case ha0 =>
    intro w' hSw
    obtain ⟨⟨⟨k0, k1⟩, k2⟩, k3⟩ := hSw
    go_simp
    try with_reducible rfl
  simp only [List.setIfInBounds_toArray, List.set_cons_zero, List.set_cons_succ]
  refine hold_take (i := 1) (d := 8) (v := ?va1) (listed' := #[true, true, false, false, false, false, false, false, false, false, false, false, false, false, false]) rfl (by kernel_rfl) (by kernel_rfl) (by kernel_rfl) rfl (by rfl) (by kernel_rfl) hS0 ?ha1 ?ra1
  case ha1 =>
    intro w' hSw
    obtain ⟨⟨⟨k0, k1⟩, k2⟩, k3⟩ := hSw
    go_simp
    try with_reducible rfl
  simp only [List.setIfInBounds_toArray, List.set_cons_zero, List.set_cons_succ]
  refine hold_take (i := 2) (d := 9) (v := ?va2) (listed' := #[true, true, true, false, false, false, false, false, false, false, false, false, false, false, false]) rfl (by kernel_rfl) (by kernel_rfl) (by kernel_rfl) rfl (by rfl) (by kernel_rfl) hS0 ?ha2 ?ra2
  case ha2 =>
    intro w' hSw
    obtain ⟨⟨⟨k0, k1⟩, k2⟩, k3⟩ := hSw
    go_simp
    try with_reducible rfl
  simp only [List.setIfInBounds_toArray, List.set_cons_zero, List.set_cons_succ]
  refine hold_take (i := 3) (d := 10) (v := ?va3) (listed' := #[true, true, true, true, false, false, false, false, false, false, false, false, false, false, false]) rfl (by kernel_rfl) (by kernel_rfl) (by kernel_rfl) rfl (by rfl) (by kernel_rfl) hS0 ?ha3 ?ra3
  case ha3 =>
    intro w' hSw
    obtain ⟨⟨⟨k0, k1⟩, k2⟩, k3⟩ := hSw
    go_simp
    try with_reducible rfl
  simp only [List.setIfInBounds_toArray, List.set_cons_zero, List.set_cons_succ]
  refine hold_take (i := 5) (d := 12) (v := ?va5) (listed' := #[true, true, true, true, false, true, false, false, false, false, false, false, false, false, false]) rfl (by kernel_rfl) (by kernel_rfl) (by kernel_rfl) rfl (by rfl) (by kernel_rfl) hS0 ?ha5 ?ra5
  case ha5 =>
    intro w' hSw
    obtain ⟨⟨⟨k0, k1⟩, k2⟩, k3⟩ := hSw
    go_simp
    try with_reducible rfl
  simp only [List.setIfInBounds_toArray, List.set_cons_zero, List.set_cons_succ]
  refine hold_take (i := 6) (d := 13) (v := ?va6) (listed' := #[true, true, true, true, false, true, true, false, false, false, false, false, false, false, false]) rfl (by kernel_rfl) (by kernel_rfl) (by kernel_rfl) rfl (by rfl) (by kernel_rfl) hS0 ?ha6 ?ra6
  case ha6 =>
    intro w' hSw
    obtain ⟨⟨⟨k0, k1⟩, k2⟩, k3⟩ := hSw
    go_simp
    try with_reducible rfl
  simp only [List.setIfInBounds_toArray, List.set_cons_zero, List.set_cons_succ]
  refine hold_take (i := 7) (d := 14) (v := ?va7) (listed' := #[true, true, true, true, false, true, true, true, false, false, false, false, false, false, false]) rfl (by kernel_rfl) (by kernel_rfl) (by kernel_rfl) rfl (by rfl) (by kernel_rfl) hS0 ?ha7 ?ra7
  case ha7 =>
    intro w' hSw
    obtain ⟨⟨⟨k0, k1⟩, k2⟩, k3⟩ := hSw
    go_simp
    try with_reducible rfl
  simp only [List.setIfInBounds_toArray, List.set_cons_zero, List.set_cons_succ]
  refine hold_take (i := 8) (d := 15) (v := ?va8) (listed' := #[true, true, true, true, false, true, true, true, true, false, false, false, false, false, false]) rfl (by kernel_rfl) (by kernel_rfl) (by kernel_rfl) rfl (by rfl) (by kernel_rfl) hS0 ?ha8 ?ra8
  case ha8 =>
    intro w' hSw
    obtain ⟨⟨⟨k0, k1⟩, k2⟩, k3⟩ := hSw
    go_simp
    try with_reducible rfl
  simp only [List.setIfInBounds_toArray, List.set_cons_zero, List.set_cons_succ]
  refine hold_take (i := 9) (d := 16) (v := ?va9) (listed' := #[true, true, true, true, false, true, true, true, true, true, false, false, false, false, false]) rfl (by kernel_rfl) (by kernel_rfl) (by kernel_rfl) rfl (by rfl) (by kernel_rfl) hS0 ?ha9 ?ra9
  case ha9 =>
    intro w' hSw
    obtain ⟨⟨⟨k0, k1⟩, k2⟩, k3⟩ := hSw
    go_simp
    try with_reducible rfl
  simp only [List.setIfInBounds_toArray, List.set_cons_zero, List.set_cons_succ]
  refine hold_take (i := 10) (d := 17) (v := ?va10) (listed' := #[true, true, true, true, false, true, true, true, true, true, true, false, false, false, false]) rfl (by kernel_rfl) (by kernel_rfl) (by kernel_rfl) rfl (by rfl) (by kernel_rfl) hS0 ?ha10 ?ra10
  case ha10 =>
    intro w' hSw
    obtain ⟨⟨⟨k0, k1⟩, k2⟩, k3⟩ := hSw
    go_simp
    try with_reducible rfl
  simp only [List.setIfInBounds_toArray, List.set_cons_zero, List.set_cons_succ]
  refine hold_take (i := 11) (d := 18) (v := ?va11) (listed' := #[true, true, true, true, false, true, true, true, true, true, true, true, false, false, false]) rfl (by kernel_rfl) (by kernel_rfl) (by kernel_rfl) rfl (by rfl) (by kernel_rfl) hS0 ?ha11 ?ra11
  case ha11 =>
    intro w' hSw
    obtain ⟨⟨⟨k0, k1⟩, k2⟩, k3⟩ := hSw
    go_simp
    try with_reducible rfl
  simp only [List.setIfInBounds_toArray, List.set_cons_zero, List.set_cons_succ]
  refine hold_call (i := 4) (d := 11) (listed' := #[true, true, true, true, true, true, true, true, true, true, true, true, false, false, false]) rfl (by kernel_rfl) rfl (by rfl) (by kernel_rfl) ?hea4 (meetA (nc := nc) hL0.out ha hb) ?hca4
  case hea4 => go_simp
  rintro e x1 ⟨rfl, bb1⟩
  have hY1 := hY0.step bb1
  have hL1 := Lib.hid (hL0.out.step bb1)
  have hS1 : (fun w' => (((w'.cell? ⟨w.heap.size, 0, none⟩ = some (.slice ua m.n l.cap) ∧ w'.cell? ⟨w.heap.size, 1, none⟩ = some (.slice (some ⟨g, o, none⟩) m.n nc)) ∧ w'.cell? ⟨w.heap.size, 2, none⟩ = some (.slice (some ⟨ob, 0, none⟩) 2 2)) ∧ w'.cell? ⟨g, o + b, none⟩ = some (.int .i64 ((y b : Nat) : Int)))) x1 := ⟨⟨⟨hY1.cell 0 rfl, hY1.cell 1 rfl⟩, hY1.cell 2 rfl⟩, hL1.out.notAt hb⟩
  clear hS0 hL0 hY0 bb1
  refine ⟨_, rfl, hS1, ?_⟩
  simp only [List.setIfInBounds_toArray, List.set_cons_zero, List.set_cons_succ]
  refine hold_call (i := 12) (d := 19) (listed' := #[true, true, true, true, true, true, true, true, true, true, true, true, true, false, false]) rfl (by kernel_rfl) rfl (by rfl) (by kernel_rfl) ?hea12 (meetA (nc := nc) hL1.out ha hyb) ?hca12
  case hea12 => go_simp
  rintro e x2 ⟨rfl, bb2⟩
  have hY2 := hY1.step bb2
  have hL2 := Lib.hid (hL1.out.step bb2)
  have hS2 : (fun w' => (((w'.cell? ⟨w.heap.size, 0, none⟩ = some (.slice ua m.n l.cap) ∧ w'.cell? ⟨w.heap.size, 1, none⟩ = some (.slice (some ⟨g, o, none⟩) m.n nc)) ∧ w'.cell? ⟨w.heap.size, 2, none⟩ = some (.slice (some ⟨ob, 0, none⟩) 2 2)) ∧ w'.cell? ⟨g, o + b, none⟩ = some (.int .i64 ((y b : Nat) : Int)))) x2 := ⟨⟨⟨hY2.cell 0 rfl, hY2.cell 1 rfl⟩, hY2.cell 2 rfl⟩, hL2.out.notAt hb⟩
  clear hS1 hL1 hY1 bb2
  refine ⟨_, rfl, hS2, ?_⟩
  simp only [List.setIfInBounds_toArray, List.set_cons_zero, List.set_cons_succ]
  refine hold_call (i := 13) (d := 20) (listed' := #[true, true, true, true, true, true, true, true, true, true, true, true, true, true, false]) rfl (by kernel_rfl) rfl (by rfl) (by kernel_rfl) ?hea13 (joinA (nc := nc) hL2.out hm1 hm2) ?hca13
  case hea13 => go_simp
  rintro e x3 ⟨rfl, bb3⟩
  have hY3 := hY2.step bb3
  have hL3 := Lib.hid (hL2.out.step bb3)
  have hS3 : (fun w' => (((w'.cell? ⟨w.heap.size, 0, none⟩ = some (.slice ua m.n l.cap) ∧ w'.cell? ⟨w.heap.size, 1, none⟩ = some (.slice (some ⟨g, o, none⟩) m.n nc)) ∧ w'.cell? ⟨w.heap.size, 2, none⟩ = some (.slice (some ⟨ob, 0, none⟩) 2 2)) ∧ w'.cell? ⟨g, o + b, none⟩ = some (.int .i64 ((y b : Nat) : Int)))) x3 := ⟨⟨⟨hY3.cell 0 rfl, hY3.cell 1 rfl⟩, hY3.cell 2 rfl⟩, hL3.out.notAt hb⟩
  clear hS2 hL2 hY2 bb3
  refine ⟨_, rfl, hS3, ?_⟩
  simp only [List.setIfInBounds_toArray, List.set_cons_zero, List.set_cons_succ]
  refine hold_take (i := 14) (d := 6) (v := ?va14) (listed' := #[true, true, true, true, true, true, true, true, true, true, true, true, true, true, true]) rfl (by kernel_rfl) (by kernel_rfl) (by kernel_rfl) rfl (by rfl) (by kernel_rfl) hS3 ?ha14 ?ra14
  case ha14 =>
    intro w' hSw
    obtain ⟨⟨⟨k0, k1⟩, k2⟩, k3⟩ := hSw
    go_simp
    try with_reducible rfl
  simp only [List.setIfInBounds_toArray, List.set_cons_zero, List.set_cons_succ]
  refine hold_done (by kernel_rfl) ?_ _
  go_wp2_with fail
  go_ret
  exact ⟨rfl, hY3.below⟩

def three (a b c : Int) : Nat → Int := fun i => if i = 0 then a else if i = 1 then b else c
theorem three_at (w : World) (a b c : Int) : RowAt (w.alloc (.cells #[.int .i64 a, .int .i64 b, .int .i64 c] 3)) (w.heap.size + 1) (some ⟨w.heap.size, 0, none⟩) w.heap.size 0 3 (three a b c) :=
  ⟨fun i hi => ⟨rfl, by omega, by
    rcases (show i = 0 ∨ i = 1 ∨ i = 2 by omega) with rfl | rfl | rfl
    · simp [three]
    · simp [three]
    · simp [three]⟩⟩
theorem good_three {n : Nat} {a b c : Int} : goodB n 3 (three a b c) = (goodB n 2 (two a b) && goodB n 2 (two a c)) := by
  rw [Bool.eq_iff_iff, Bool.and_eq_true]
  constructor
  · intro h
    have h0 := allB_is h 0 (by omega)
    have h1 := allB_is h 1 (by omega)
    have h2 := allB_is h 2 (by omega)
    simp [three] at h0 h1 h2
    exact ⟨good_mk (by omega) (by omega) (by omega) (by omega), good_mk (by omega) (by omega) (by omega) (by omega)⟩
  · rintro ⟨h1, h2⟩
    obtain ⟨a0, a1, b0, b1⟩ := good_two h1
    obtain ⟨_, _, c0, c1⟩ := good_two h2
    exact allB_true fun i hi => by
      rcases (show i = 0 ∨ i = 1 ∨ i = 2 by omega) with rfl | rfl | rfl
      · simp [three]; omega
      · simp [three]; omega
      · simp [three]; omega
theorem split_tests {L A C : Bool} : (L && (A && C)) = ((L && A) && (L && C)) := by cases L <;> cases A <;> cases C <;> rfl

end Go.Proofs.YtjmhhjdkemicbaaDoor
namespace Go.Proofs.YtjmhhjdkemicbaaDoor
open Go.RowKit Go.Deep

end Go.Proofs.YtjmhhjdkemicbaaDoor
