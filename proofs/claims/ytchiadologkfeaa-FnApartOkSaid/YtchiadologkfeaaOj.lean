/- The walks of the reference's AndOf, OrOf, NotOf, NoOf, YesOf and ApartOk. -/
import Derived.Test.YtchiadologkfeaaOi
namespace Go.Proofs.Ytchiadologkfeaa
open Go.RowKit Go.Deep

theorem good_mk {n : Nat} {a b : Int} (h0 : 0 ≤ a) (h1 : a < (n : Int)) (h2 : 0 ≤ b) (h3 : b < (n : Int)) : goodB n 2 (two a b) = true := allB_true fun i hi => by
  rcases (show i = 0 ∨ i = 1 by omega) with rfl | rfl
  · simp [two, h0, h1]
  · simp [two, h2, h3]
theorem good_no0 {n : Nat} {a b : Int} (h : ¬ (0 ≤ a ∧ a < (n : Int))) : goodB n 2 (two a b) = false := by
  cases hg : goodB n 2 (two a b) with
  | false => rfl
  | true => exact absurd ⟨(good_two hg).1, (good_two hg).2.1⟩ h
theorem good_no1 {n : Nat} {a b : Int} (h : ¬ (0 ≤ b ∧ b < (n : Int))) : goodB n 2 (two a b) = false := by
  cases hg : goodB n 2 (two a b) with
  | false => rfl
  | true => exact absurd ⟨(good_two hg).2.2.1, (good_two hg).2.2.2⟩ h
theorem good_same {n : Nat} {a : Int} : goodB n 1 (lone1 a) = goodB n 2 (two a a) := by
  by_cases h : 0 ≤ a ∧ a < (n : Int)
  · rw [good_mk h.1 h.2 h.1 h.2]
    exact allB_true fun i _ => by simp [lone1, h.1, h.2]
  · rw [good_no0 h]
    cases hg : goodB n 1 (lone1 a) with
    | false => rfl
    | true => exact absurd (good_lone hg) h
theorem not_no {m : Mx} {k : Nat} {z : Nat → Int} : notV m k z (noV m k z) = yesV m k z := by
  cases hl : logicB m k z with
  | false => unfold notV yesV; rw [hl]; rfl
  | true =>
    have hlog := logicB_is hl
    obtain ⟨x, hx, hxe, _⟩ := least_parts hlog.lat.order (lattice_hasLeast hlog.lat)
    have e1 : noV m k z = (x : Int) := by unfold noV; rw [if_pos hl, hxe]
    have e2 : goodB m.n 1 (lone1 (x : Int)) = true := by rw [good_same]; exact good_mk (by omega) (by omega) (by omega) (by omega)
    rw [e1]
    unfold notV yesV
    rw [hl, e2, hxe]
    rfl


set_option maxRecDepth 100000 in
set_option maxHeartbeats 2000000 in
theorem l2Both_any {w : World} {B : Nat} {ua : Option Addr} {l : Lay} {m : Mx} {na : Option Addr} {g o k nc : Nat} {z : Nat → Int} {x y : Int} (h : LogAt w B ua l m na g o k z) :
    Calls Try.prog 48 #[.agg #[.slice ua m.n l.cap, .slice na k nc], .int .i64 x, .int .i64 y] w fun e w' => e = .returned (.bool (logicB m k z && goodB m.n 2 (two x y))) ∧ Below w.heap.size w w' := by
  have hX := BoxN.start w #[.slice ua m.n l.cap, .slice na k nc] 26
  have q0 := hX.cell 0 rfl
  have q1 := hX.cell 1 rfl
  have bw := hX.below
  have h2 := Lib.hid (h.step bw)
  have hkk := h.hk
  clear h
  cases hl : logicB m k z with
  | false =>
    have HL := Lib.hid hl
    clear hl
    go_enter Try.func48, Try.ntmps48
    go_wp2_with fail
    go_at_call 12
    refine (spec_LogicOk h2.out).mono ?_
    rintro e w1 ⟨rfl, b1⟩
    rw [HL.out]
    have B1 := bw.trans (b1.mono bw.size)
    go_wp2_with fail
    go_ret
    exact ⟨rfl, B1⟩
  | true =>
    have HL := Lib.hid hl
    have hkl : k ≤ m.n := Nat.le_of_eq (logicB_is hl).pair.len
    have hkg : m.n ≤ k := Nat.le_of_eq (logicB_is hl).pair.len.symm
    have hpos := (logicB_is hl).lat.order.pos
    have hk1 : (1 : Int) ≤ (k : Int) := by omega
    clear hl
    go_enter Try.func48, Try.ntmps48
    go_wp2_with fail
    go_at_call 12
    refine (spec_LogicOk h2.out).mono ?_
    rintro e w1 ⟨rfl, b1⟩
    rw [HL.out]
    have B1 := bw.trans (b1.mono bw.size)
    have hX1 := hX.step b1
    have r0 := hX1.cell 0 rfl
    have r1 := hX1.cell 1 rfl
    clear q0 q1
    by_cases hx : 0 ≤ x ∧ x < (m.n : Int)
    · have HD : Hid ((decide ((0 : Int) ≤ x) && decide (x ≤ (k : Int) - 1)) = true) := by show _ = _; simp; omega
      have HX := Lib.hid hx
      clear hx
      by_cases hy : 0 ≤ y ∧ y < (m.n : Int)
      · have HE : Hid ((decide ((0 : Int) ≤ y) && decide (y ≤ (k : Int) - 1)) = true) := by show _ = _; simp; omega
        have HF : Hid (true = (true && goodB m.n 2 (two x y))) := by show _ = _; rw [good_mk HX.out.1 HX.out.2 hy.1 hy.2]; rfl
        clear hy
        go_wp2_with fail
        go_at_call 42
        refine (l1In_any _ _ _ _).mono ?_
        rintro e w2 ⟨rfl, rfl⟩
        rw [HD.out]
        go_wp2_with fail
        go_at_call 42
        refine (l1In_any _ _ _ _).mono ?_
        rintro e w3 ⟨rfl, rfl⟩
        rw [HE.out]
        go_wp2_with fail
        go_ret
        exact ⟨ret_bool HF.out, B1⟩
      · have HE : Hid ((decide ((0 : Int) ≤ y) && decide (y ≤ (k : Int) - 1)) = false) := by show _ = _; rw [Bool.and_eq_false_iff]; simp; omega
        have HF : Hid (false = (true && goodB m.n 2 (two x y))) := by show _ = _; rw [good_no1 hy]; rfl
        clear hy
        go_wp2_with fail
        go_at_call 42
        refine (l1In_any _ _ _ _).mono ?_
        rintro e w2 ⟨rfl, rfl⟩
        rw [HD.out]
        go_wp2_with fail
        go_at_call 42
        refine (l1In_any _ _ _ _).mono ?_
        rintro e w3 ⟨rfl, rfl⟩
        rw [HE.out]
        go_wp2_with fail
        go_ret
        exact ⟨ret_bool HF.out, B1⟩
    · have HD : Hid ((decide ((0 : Int) ≤ x) && decide (x ≤ (k : Int) - 1)) = false) := by show _ = _; rw [Bool.and_eq_false_iff]; simp; omega
      have HF : Hid (false = (true && goodB m.n 2 (two x y))) := by show _ = _; rw [good_no0 hx]; rfl
      clear hx
      go_wp2_with fail
      go_at_call 42
      refine (l1In_any _ _ _ _).mono ?_
      rintro e w2 ⟨rfl, rfl⟩
      rw [HD.out]
      go_wp2_with fail
      go_ret
      exact ⟨ret_bool HF.out, B1⟩

set_option maxRecDepth 100000 in
set_option maxHeartbeats 2000000 in
theorem spec_AndOf {w : World} {B : Nat} {ua : Option Addr} {l : Lay} {m : Mx} {na : Option Addr} {g o k nc : Nat} {z : Nat → Int} {x y : Int} (h : LogAt w B ua l m na g o k z) :
    Calls Try.prog 16 #[.agg #[.slice ua m.n l.cap, .slice na k nc], .int .i64 x, .int .i64 y] w fun e w' => e = .returned (.int .i64 (andV m k z x y)) ∧ Below w.heap.size w w' := by
  have hX := BoxN.start w #[.slice ua m.n l.cap, .slice na k nc] 26
  have q0 := hX.cell 0 rfl
  have q1 := hX.cell 1 rfl
  have bw := hX.below
  have h2 := Lib.hid (h.step bw)
  have hkk := h.hk
  clear h
  go_enter Try.func16, Try.ntmps16
  go_wp2_with fail
  go_at_call 48
  refine (l2Both_any h2.out).mono ?_
  rintro e w1 ⟨rfl, b1⟩
  have B1 := bw.trans (b1.mono bw.size)
  have hX1 := hX.step b1
  have r0 := hX1.cell 0 rfl
  have r1 := hX1.cell 1 rfl
  have h3 := Lib.hid (h2.out.step b1)
  clear q0 q1
  cases hg : (logicB m k z && goodB m.n 2 (two x y)) with
  | true =>
    have hgg := hg
    rw [Bool.and_eq_true] at hg
    have hlog := logicB_is hg.1
    have hord := hlog.lat.order
    obtain ⟨x0, x1, y0, y1⟩ := good_two hg.2
    obtain ⟨a, rfl⟩ := Int.eq_ofNat_of_zero_le x0
    obtain ⟨b, rfl⟩ := Int.eq_ofNat_of_zero_le y0
    have ha : a < m.n := by omega
    have hb : b < m.n := by omega
    have HV : Hid (meetI m a b = andV m k z (a : Int) (b : Int)) := by show _ = _; unfold andV; rw [if_pos hgg]; simp
    have HO := Lib.hid hord
    clear hg hgg hlog hord x0 x1 y0 y1
    go_wp2_with fail
    go_at_call 44
    refine (l1Meet_any h3.out.mat HO.out ha hb).mono ?_
    rintro e w2 ⟨rfl, rfl⟩
    go_wp2_with fail
    go_ret
    exact ⟨ret_int HV.out, B1⟩
  | false =>
    have HV : Hid ((-1 : Int) = andV m k z x y) := by show _ = _; unfold andV; rw [if_neg (by rw [hg]; decide)]
    clear hg
    go_wp2_with fail
    go_ret
    exact ⟨ret_int HV.out, B1⟩

set_option maxRecDepth 100000 in
set_option maxHeartbeats 2000000 in
theorem spec_OrOf {w : World} {B : Nat} {ua : Option Addr} {l : Lay} {m : Mx} {na : Option Addr} {g o k nc : Nat} {z : Nat → Int} {x y : Int} (h : LogAt w B ua l m na g o k z) :
    Calls Try.prog 20 #[.agg #[.slice ua m.n l.cap, .slice na k nc], .int .i64 x, .int .i64 y] w fun e w' => e = .returned (.int .i64 (orV m k z x y)) ∧ Below w.heap.size w w' := by
  have hX := BoxN.start w #[.slice ua m.n l.cap, .slice na k nc] 26
  have q0 := hX.cell 0 rfl
  have q1 := hX.cell 1 rfl
  have bw := hX.below
  have h2 := Lib.hid (h.step bw)
  have hkk := h.hk
  clear h
  go_enter Try.func20, Try.ntmps20
  go_wp2_with fail
  go_at_call 48
  refine (l2Both_any h2.out).mono ?_
  rintro e w1 ⟨rfl, b1⟩
  have B1 := bw.trans (b1.mono bw.size)
  have hX1 := hX.step b1
  have r0 := hX1.cell 0 rfl
  have r1 := hX1.cell 1 rfl
  have h3 := Lib.hid (h2.out.step b1)
  clear q0 q1
  cases hg : (logicB m k z && goodB m.n 2 (two x y)) with
  | true =>
    have hgg := hg
    rw [Bool.and_eq_true] at hg
    have hlog := logicB_is hg.1
    have hord := hlog.lat.order
    obtain ⟨x0, x1, y0, y1⟩ := good_two hg.2
    obtain ⟨a, rfl⟩ := Int.eq_ofNat_of_zero_le x0
    obtain ⟨b, rfl⟩ := Int.eq_ofNat_of_zero_le y0
    have ha : a < m.n := by omega
    have hb : b < m.n := by omega
    have HV : Hid (meetI (tr m) a b = orV m k z (a : Int) (b : Int)) := by show _ = _; unfold orV; rw [if_pos hgg]; simp
    have HO := Lib.hid hord
    clear hg hgg hlog hord x0 x1 y0 y1
    go_wp2_with fail
    go_at_call 50
    refine (l1Join_any h3.out.mat HO.out ha hb).mono ?_
    rintro e w2 ⟨rfl, rfl⟩
    go_wp2_with fail
    go_ret
    exact ⟨ret_int HV.out, B1⟩
  | false =>
    have HV : Hid ((-1 : Int) = orV m k z x y) := by show _ = _; unfold orV; rw [if_neg (by rw [hg]; decide)]
    clear hg
    go_wp2_with fail
    go_ret
    exact ⟨ret_int HV.out, B1⟩

set_option maxRecDepth 100000 in
set_option maxHeartbeats 2000000 in
theorem spec_NotOf {w : World} {B : Nat} {ua : Option Addr} {l : Lay} {m : Mx} {na : Option Addr} {g o k nc : Nat} {z : Nat → Int} {x : Int} (h : LogAt w B ua l m na g o k z) :
    Calls Try.prog 23 #[.agg #[.slice ua m.n l.cap, .slice na k nc], .int .i64 x] w fun e w' => e = .returned (.int .i64 (notV m k z x)) ∧ Below w.heap.size w w' := by
  have hX := BoxN.start w #[.slice ua m.n l.cap, .slice na k nc] 26
  have q0 := hX.cell 0 rfl
  have q1 := hX.cell 1 rfl
  have bw := hX.below
  have h2 := Lib.hid (h.step bw)
  have hkk := h.hk
  clear h
  go_enter Try.func23, Try.ntmps23
  go_wp2_with fail
  go_at_call 48
  refine (l2Both_any h2.out).mono ?_
  rintro e w1 ⟨rfl, b1⟩
  have B1 := bw.trans (b1.mono bw.size)
  have hX1 := hX.step b1
  have r0 := hX1.cell 0 rfl
  have r1 := hX1.cell 1 rfl
  have h3 := Lib.hid (h2.out.step b1)
  clear q0 q1
  cases hg : (logicB m k z && goodB m.n 2 (two x x)) with
  | true =>
    have hgg := hg
    rw [Bool.and_eq_true] at hg
    have hlog := logicB_is hg.1
    have hord := hlog.lat.order
    obtain ⟨x0, x1, y0, y1⟩ := good_two hg.2
    obtain ⟨a, rfl⟩ := Int.eq_ofNat_of_zero_le x0
    have hkm := hlog.pair.len
    have ha : a < k := by omega
    have ha' : (a : Int) < k := by omega
    have HV : Hid (z a = notV m k z (a : Int)) := by show _ = _; unfold notV; rw [good_same, if_pos hgg]; simp
    obtain ⟨rfl, _, c1⟩ := h3.out.row.row a ha
    clear hg hgg hlog hord x0 x1 y0 y1 hkm
    go_wp2_with fail
    go_ret
    exact ⟨ret_int HV.out, B1⟩
  | false =>
    have HV : Hid ((-1 : Int) = notV m k z x) := by show _ = _; unfold notV; rw [good_same, if_neg (by rw [hg]; decide)]
    clear hg
    go_wp2_with fail
    go_ret
    exact ⟨ret_int HV.out, B1⟩

set_option maxRecDepth 100000 in
set_option maxHeartbeats 2000000 in
theorem spec_NoOf {w : World} {B : Nat} {ua : Option Addr} {l : Lay} {m : Mx} {na : Option Addr} {g o k nc : Nat} {z : Nat → Int} (h : LogAt w B ua l m na g o k z) :
    Calls Try.prog 26 #[.agg #[.slice ua m.n l.cap, .slice na k nc]] w fun e w' => e = .returned (.int .i64 (noV m k z)) ∧ Below w.heap.size w w' := by
  have hX := BoxN.start w #[.slice ua m.n l.cap, .slice na k nc] 26
  have q0 := hX.cell 0 rfl
  have q1 := hX.cell 1 rfl
  have bw := hX.below
  have h2 := Lib.hid (h.step bw)
  have hkk := h.hk
  clear h
  go_enter Try.func26, Try.ntmps26
  go_wp2_with fail
  go_at_call 12
  refine (spec_LogicOk h2.out).mono ?_
  rintro e w1 ⟨rfl, b1⟩
  have B1 := bw.trans (b1.mono bw.size)
  have hX1 := hX.step b1
  have r0 := hX1.cell 0 rfl
  have r1 := hX1.cell 1 rfl
  have h3 := Lib.hid (h2.out.step b1)
  clear q0 q1
  cases hg : logicB m k z with
  | true =>
    have HV : Hid (leastV m = noV m k z) := by show _ = _; unfold noV; rw [if_pos hg, leastV_yes (orderB_true (logicB_is hg).lat.order)]
    clear hg
    go_wp2_with fail
    go_at_call 43
    refine (spec_LeastOf h3.out.hn h3.out.hL h3.out.mat).mono ?_
    rintro e w2 ⟨rfl, rfl⟩
    go_wp2_with fail
    go_ret
    exact ⟨ret_int HV.out, B1⟩
  | false =>
    have HV : Hid ((-1 : Int) = noV m k z) := by show _ = _; unfold noV; rw [if_neg (by rw [hg]; decide)]
    clear hg
    go_wp2_with fail
    go_ret
    exact ⟨ret_int HV.out, B1⟩

set_option maxRecDepth 100000 in
set_option maxHeartbeats 2000000 in
theorem spec_YesOf {w : World} {B : Nat} {ua : Option Addr} {l : Lay} {m : Mx} {na : Option Addr} {g o k nc : Nat} {z : Nat → Int} (h : LogAt w B ua l m na g o k z) :
    Calls Try.prog 29 #[.agg #[.slice ua m.n l.cap, .slice na k nc]] w fun e w' => e = .returned (.int .i64 (yesV m k z)) ∧ Below w.heap.size w w' := by
  have hX := BoxN.start w #[.slice ua m.n l.cap, .slice na k nc] 26
  have q0 := hX.cell 0 rfl
  have q1 := hX.cell 1 rfl
  have bw := hX.below
  have h2 := Lib.hid (h.step bw)
  have hkk := h.hk
  clear h
  have h2d := Lib.hid (h2.out.step (Below.refl _ _).drew)
  have hXd := hX.step (Below.refl _ _).drew
  have K2 : (w.alloc (.cells #[.slice ua m.n l.cap, .slice na k nc] 26)).drew.cell? ⟨w.heap.size, 0, none⟩ = some (.slice ua m.n l.cap) ∧ (w.alloc (.cells #[.slice ua m.n l.cap, .slice na k nc] 26)).drew.cell? ⟨w.heap.size, 1, none⟩ = some (.slice na k nc) := ⟨q0, q1⟩
  go_enter Try.func29, Try.ntmps29
  go_wp2_with fail
  go_region_held3 (fun w' => w'.cell? ⟨w.heap.size, 0, none⟩ = some (.slice ua m.n l.cap) ∧ w'.cell? ⟨w.heap.size, 1, none⟩ = some (.slice na k nc)) (first | with_reducible exact K2 | with_reducible exact K3 | with_reducible exact K4)
    (first
      | (go_at_call 26; refine (spec_NoOf h2d.out).mono ?_; rintro e w3 ⟨rfl, b3⟩; have hX3 := hXd.step b3; have K3 : w3.cell? ⟨w.heap.size, 0, none⟩ = some (.slice ua m.n l.cap) ∧ w3.cell? ⟨w.heap.size, 1, none⟩ = some (.slice na k nc) := ⟨hX3.cell 0 rfl, hX3.cell 1 rfl⟩; have h3 := Lib.hid (h2d.out.step b3))
      | (go_at_call 23; refine (spec_NotOf h3.out).mono ?_; rintro e w4 ⟨rfl, b4⟩; have hX4 := hX3.step b4; have K4 : w4.cell? ⟨w.heap.size, 0, none⟩ = some (.slice ua m.n l.cap) ∧ w4.cell? ⟨w.heap.size, 1, none⟩ = some (.slice na k nc) := ⟨hX4.cell 0 rfl, hX4.cell 1 rfl⟩; have B4 := hX4.below; rw [not_no]))
  all_goals
    go_wp2_with fail
    go_ret
    exact ⟨rfl, B4⟩

set_option maxRecDepth 100000 in
set_option maxHeartbeats 2000000 in
theorem spec_ApartOk {w : World} {B : Nat} {ua : Option Addr} {l : Lay} {m : Mx} {na : Option Addr} {g o k nc : Nat} {z : Nat → Int} {x y : Int} (h : LogAt w B ua l m na g o k z) :
    Calls Try.prog 33 #[.agg #[.slice ua m.n l.cap, .slice na k nc], .int .i64 x, .int .i64 y] w fun e w' => e = .returned (.bool (apartB m k z x y)) ∧ Below w.heap.size w w' := by
  have hX := BoxN.start w #[.slice ua m.n l.cap, .slice na k nc] 26
  have q0 := hX.cell 0 rfl
  have q1 := hX.cell 1 rfl
  have bw := hX.below
  have h2 := Lib.hid (h.step bw)
  have hkk := h.hk
  clear h
  have h2d := Lib.hid (h2.out.step (Below.refl _ _).drew)
  have hXd := hX.step (Below.refl _ _).drew
  have bwd := hXd.below
  cases hg : (logicB m k z && goodB m.n 2 (two x y)) with
  | true =>
    have HG := Lib.hid hg
    have hgg := hg
    rw [Bool.and_eq_true] at hg
    have hlog := logicB_is hg.1
    have hord := hlog.lat.order
    have hkl : k ≤ m.n := Nat.le_of_eq hlog.pair.len
    have hkg : m.n ≤ k := Nat.le_of_eq hlog.pair.len.symm
    obtain ⟨x0, x1, y0, y1⟩ := good_two hg.2
    obtain ⟨a, rfl⟩ := Int.eq_ofNat_of_zero_le x0
    obtain ⟨b, rfl⟩ := Int.eq_ofNat_of_zero_le y0
    have ha : a < m.n := by omega
    have ha' : (a : Int) < m.n := by omega
    have hb : b < k := by omega
    have hb' : (b : Int) < k := by omega
    obtain ⟨y, hy⟩ := Int.eq_ofNat_of_zero_le (hlog.pair.lo b (by omega))
    have hyn : y < m.n := by have := hlog.pair.hi b (by omega); omega
    have hyn' : (y : Int) < m.n := by omega
    have HV0 : Hid (leB m a y = apartB m k z (a : Int) (b : Int)) := by
      show leB m a y = apartB m k z (a : Int) (b : Int)
      unfold apartB
      rw [hgg]
      simp [hy]
    obtain ⟨rfl, hgB, c1⟩ := h2.out.row.row b hb
    rw [hy] at c1
    obtain ⟨rfl, hlB, t1⟩ := h2.out.mat.top a ha
    obtain ⟨_, t0, t2⟩ := h2.out.mat.sq hord.sq ha hyn
    obtain ⟨_, hGB, _⟩ := h2.out.mat.row a ha y (by rw [hord.sq.len a ha]; exact hyn)
    have hBs := h2.out.hB
    have hlz := leB_cases hord.sq ha hyn
    have hwW : w.heap.size < (w.alloc (.cells #[.slice (some ⟨l.b, l.o, none⟩) m.n l.cap, .slice (some ⟨g, o, none⟩) k nc] 26)).heap.size := by simp
    clear hg hgg hlog hord x0 x1 y0 y1 hy t1
    rcases hlz with ⟨l1, z1⟩ | ⟨l1, z1⟩
    · rw [z1] at t2
      have HV : Hid (true = apartB m k z (a : Int) (b : Int)) := by show _ = _; rw [← HV0.out, l1]
      have hS : (fun w' => w'.cell? ⟨w.heap.size, 0, none⟩ = some (.slice (some ⟨l.b, l.o, none⟩) m.n l.cap) ∧ w'.cell? ⟨w.heap.size, 1, none⟩ = some (.slice (some ⟨g, o, none⟩) k nc) ∧ w'.cell? ⟨l.b, l.o + a, none⟩ = some (.slice (some ⟨l.G a, l.O a, none⟩) m.n (l.C a)) ∧ w'.cell? ⟨g, o + b, none⟩ = some (.int .i64 (y : Int)) ∧ w'.cell? ⟨l.G a, l.O a + y, none⟩ = some (.int .i64 1)) (w.alloc (.cells #[.slice (some ⟨l.b, l.o, none⟩) m.n l.cap, .slice (some ⟨g, o, none⟩) k nc] 26)).drew := ⟨q0, q1, t0, c1, t2⟩
      have hkeep : Hid (∀ w1, Below (w.alloc (.cells #[.slice (some ⟨l.b, l.o, none⟩) m.n l.cap, .slice (some ⟨g, o, none⟩) k nc] 26)).drew.heap.size (w.alloc (.cells #[.slice (some ⟨l.b, l.o, none⟩) m.n l.cap, .slice (some ⟨g, o, none⟩) k nc] 26)).drew w1 → (fun w' => w'.cell? ⟨w.heap.size, 0, none⟩ = some (.slice (some ⟨l.b, l.o, none⟩) m.n l.cap) ∧ w'.cell? ⟨w.heap.size, 1, none⟩ = some (.slice (some ⟨g, o, none⟩) k nc) ∧ w'.cell? ⟨l.b, l.o + a, none⟩ = some (.slice (some ⟨l.G a, l.O a, none⟩) m.n (l.C a)) ∧ w'.cell? ⟨g, o + b, none⟩ = some (.int .i64 (y : Int)) ∧ w'.cell? ⟨l.G a, l.O a + y, none⟩ = some (.int .i64 1)) w1) := fun w1 hb1 => ⟨(hb1.cell (p := ⟨w.heap.size, 0, none⟩) hwW).trans q0, (hb1.cell (p := ⟨w.heap.size, 1, none⟩) hwW).trans q1, (hb1.cell (p := ⟨l.b, l.o + a, none⟩) (Nat.lt_of_lt_of_le hlB hBs)).trans t0, (hb1.cell (p := ⟨g, o + b, none⟩) (Nat.lt_of_lt_of_le hgB hBs)).trans c1, (hb1.cell (p := ⟨l.G a, l.O a + y, none⟩) (Nat.lt_of_lt_of_le hGB hBs)).trans t2⟩
      clear l1 z1
      go_enter Try.func33, Try.ntmps33
      go_wp2_with fail
      refine region_plain (fuel := 20) (listed := #[false, false, false, false, false, false, false, false, false, false, false, false, false, false, false, false, false, false, false, false]) (fun w' => w'.cell? ⟨w.heap.size, 0, none⟩ = some (.slice (some ⟨l.b, l.o, none⟩) m.n l.cap) ∧ w'.cell? ⟨w.heap.size, 1, none⟩ = some (.slice (some ⟨g, o, none⟩) k nc) ∧ w'.cell? ⟨l.b, l.o + a, none⟩ = some (.slice (some ⟨l.G a, l.O a, none⟩) m.n (l.C a)) ∧ w'.cell? ⟨g, o + b, none⟩ = some (.int .i64 (y : Int)) ∧ w'.cell? ⟨l.G a, l.O a + y, none⟩ = some (.int .i64 1)) (by kernel_rfl) (by kernel_rfl) (by kernel_rfl) ?_
      refine hold_take (i := 0) (d := 7) (v := ?vB0) (listed' := #[true, false, false, false, false, false, false, false, false, false, false, false, false, false, false, false, false, false, false, false]) rfl (by kernel_rfl) (by kernel_rfl) (by kernel_rfl) rfl (by rfl) (by kernel_rfl) hS ?hB0 ?rB0
      case hB0 =>
        intro w' hSw
        obtain ⟨k0, k1, k2, k3, k4⟩ := hSw
        go_simp
        try with_reducible rfl
      simp only [List.setIfInBounds_toArray, List.set_cons_zero, List.set_cons_succ]
      refine hold_take (i := 1) (d := 8) (v := ?vB1) (listed' := #[true, true, false, false, false, false, false, false, false, false, false, false, false, false, false, false, false, false, false, false]) rfl (by kernel_rfl) (by kernel_rfl) (by kernel_rfl) rfl (by rfl) (by kernel_rfl) hS ?hB1 ?rB1
      case hB1 =>
        intro w' hSw
        obtain ⟨k0, k1, k2, k3, k4⟩ := hSw
        go_simp
        try with_reducible rfl
      simp only [List.setIfInBounds_toArray, List.set_cons_zero, List.set_cons_succ]
      refine hold_take (i := 2) (d := 9) (v := ?vB2) (listed' := #[true, true, true, false, false, false, false, false, false, false, false, false, false, false, false, false, false, false, false, false]) rfl (by kernel_rfl) (by kernel_rfl) (by kernel_rfl) rfl (by rfl) (by kernel_rfl) hS ?hB2 ?rB2
      case hB2 =>
        intro w' hSw
        obtain ⟨k0, k1, k2, k3, k4⟩ := hSw
        go_simp
        try with_reducible rfl
      simp only [List.setIfInBounds_toArray, List.set_cons_zero, List.set_cons_succ]
      refine hold_call (i := 3) (d := 10) (listed' := #[true, true, true, true, false, false, false, false, false, false, false, false, false, false, false, false, false, false, false, false]) rfl (by kernel_rfl) rfl (by rfl) (by kernel_rfl) ?heB (l2Both_any (nc := nc) (x := (a : Int)) (y := (b : Int)) h2d.out) ?hcB
      case heB => go_simp
      rintro e w3 ⟨rfl, b3⟩
      rw [HG.out]
      have B3 := bwd.trans (b3.mono bwd.size)
      have hS1 : (fun w' => w'.cell? ⟨w.heap.size, 0, none⟩ = some (.slice (some ⟨l.b, l.o, none⟩) m.n l.cap) ∧ w'.cell? ⟨w.heap.size, 1, none⟩ = some (.slice (some ⟨g, o, none⟩) k nc) ∧ w'.cell? ⟨l.b, l.o + a, none⟩ = some (.slice (some ⟨l.G a, l.O a, none⟩) m.n (l.C a)) ∧ w'.cell? ⟨g, o + b, none⟩ = some (.int .i64 (y : Int)) ∧ w'.cell? ⟨l.G a, l.O a + y, none⟩ = some (.int .i64 1)) w3 := hkeep.out w3 b3
      refine ⟨_, rfl, hS1, ?_⟩
      simp only [List.setIfInBounds_toArray, List.set_cons_zero, List.set_cons_succ]
      refine hold_take (i := 4) (d := 11) (v := ?vB4) (listed' := #[true, true, true, true, true, false, false, false, false, false, false, false, false, false, false, false, false, false, false, false]) rfl (by kernel_rfl) (by kernel_rfl) (by kernel_rfl) rfl (by rfl) (by kernel_rfl) hS1 ?hB4 ?rB4
      case hB4 =>
        intro w' hSw
        obtain ⟨k0, k1, k2, k3, k4⟩ := hSw
        go_simp
        try with_reducible rfl
      simp only [List.setIfInBounds_toArray, List.set_cons_zero, List.set_cons_succ]
      refine hold_take (i := 5) (d := 12) (v := ?vB5) (listed' := #[true, true, true, true, true, true, false, false, false, false, false, false, false, false, false, false, false, false, false, false]) rfl (by kernel_rfl) (by kernel_rfl) (by kernel_rfl) rfl (by rfl) (by kernel_rfl) hS1 ?hB5 ?rB5
      case hB5 =>
        intro w' hSw
        obtain ⟨k0, k1, k2, k3, k4⟩ := hSw
        go_simp
        try with_reducible rfl
      simp only [List.setIfInBounds_toArray, List.set_cons_zero, List.set_cons_succ]
      refine hold_take (i := 6) (d := 13) (v := ?vB6) (listed' := #[true, true, true, true, true, true, true, false, false, false, false, false, false, false, false, false, false, false, false, false]) rfl (by kernel_rfl) (by kernel_rfl) (by kernel_rfl) rfl (by rfl) (by kernel_rfl) hS1 ?hB6 ?rB6
      case hB6 =>
        intro w' hSw
        obtain ⟨k0, k1, k2, k3, k4⟩ := hSw
        go_simp
        try with_reducible rfl
      simp only [List.setIfInBounds_toArray, List.set_cons_zero, List.set_cons_succ]
      refine hold_take (i := 7) (d := 14) (v := ?vB7) (listed' := #[true, true, true, true, true, true, true, true, false, false, false, false, false, false, false, false, false, false, false, false]) rfl (by kernel_rfl) (by kernel_rfl) (by kernel_rfl) rfl (by rfl) (by kernel_rfl) hS1 ?hB7 ?rB7
      case hB7 =>
        intro w' hSw
        obtain ⟨k0, k1, k2, k3, k4⟩ := hSw
        go_simp
        try with_reducible rfl
      simp only [List.setIfInBounds_toArray, List.set_cons_zero, List.set_cons_succ]
      refine hold_take (i := 8) (d := 15) (v := ?vB8) (listed' := #[true, true, true, true, true, true, true, true, true, false, false, false, false, false, false, false, false, false, false, false]) rfl (by kernel_rfl) (by kernel_rfl) (by kernel_rfl) rfl (by rfl) (by kernel_rfl) hS1 ?hB8 ?rB8
      case hB8 =>
        intro w' hSw
        obtain ⟨k0, k1, k2, k3, k4⟩ := hSw
        go_simp
        try with_reducible rfl
      simp only [List.setIfInBounds_toArray, List.set_cons_zero, List.set_cons_succ]
      refine hold_take (i := 9) (d := 16) (v := ?vB9) (listed' := #[true, true, true, true, true, true, true, true, true, true, false, false, false, false, false, false, false, false, false, false]) rfl (by kernel_rfl) (by kernel_rfl) (by kernel_rfl) rfl (by rfl) (by kernel_rfl) hS1 ?hB9 ?rB9
      case hB9 =>
        intro w' hSw
        obtain ⟨k0, k1, k2, k3, k4⟩ := hSw
        go_simp
        try with_reducible rfl
      simp only [List.setIfInBounds_toArray, List.set_cons_zero, List.set_cons_succ]
      refine hold_take (i := 10) (d := 17) (v := ?vB10) (listed' := #[true, true, true, true, true, true, true, true, true, true, true, false, false, false, false, false, false, false, false, false]) rfl (by kernel_rfl) (by kernel_rfl) (by kernel_rfl) rfl (by rfl) (by kernel_rfl) hS1 ?hB10 ?rB10
      case hB10 =>
        intro w' hSw
        obtain ⟨k0, k1, k2, k3, k4⟩ := hSw
        go_simp
        try with_reducible rfl
      simp only [List.setIfInBounds_toArray, List.set_cons_zero, List.set_cons_succ]
      refine hold_take (i := 11) (d := 18) (v := ?vB11) (listed' := #[true, true, true, true, true, true, true, true, true, true, true, true, false, false, false, false, false, false, false, false]) rfl (by kernel_rfl) (by kernel_rfl) (by kernel_rfl) rfl (by rfl) (by kernel_rfl) hS1 ?hB11 ?rB11
      case hB11 =>
        intro w' hSw
        obtain ⟨k0, k1, k2, k3, k4⟩ := hSw
        go_simp
        try with_reducible rfl
      simp only [List.setIfInBounds_toArray, List.set_cons_zero, List.set_cons_succ]
      refine hold_take (i := 12) (d := 19) (v := ?vB12) (listed' := #[true, true, true, true, true, true, true, true, true, true, true, true, true, false, false, false, false, false, false, false]) rfl (by kernel_rfl) (by kernel_rfl) (by kernel_rfl) rfl (by rfl) (by kernel_rfl) hS1 ?hB12 ?rB12
      case hB12 =>
        intro w' hSw
        obtain ⟨k0, k1, k2, k3, k4⟩ := hSw
        go_simp
        try with_reducible rfl
      simp only [List.setIfInBounds_toArray, List.set_cons_zero, List.set_cons_succ]
      refine hold_take (i := 13) (d := 20) (v := ?vB13) (listed' := #[true, true, true, true, true, true, true, true, true, true, true, true, true, true, false, false, false, false, false, false]) rfl (by kernel_rfl) (by kernel_rfl) (by kernel_rfl) rfl (by rfl) (by kernel_rfl) hS1 ?hB13 ?rB13
      case hB13 =>
        intro w' hSw
        obtain ⟨k0, k1, k2, k3, k4⟩ := hSw
        go_simp
        try with_reducible rfl
      simp only [List.setIfInBounds_toArray, List.set_cons_zero, List.set_cons_succ]
      refine hold_take (i := 14) (d := 21) (v := ?vB14) (listed' := #[true, true, true, true, true, true, true, true, true, true, true, true, true, true, true, false, false, false, false, false]) rfl (by kernel_rfl) (by kernel_rfl) (by kernel_rfl) rfl (by rfl) (by kernel_rfl) hS1 ?hB14 ?rB14
      case hB14 =>
        intro w' hSw
        obtain ⟨k0, k1, k2, k3, k4⟩ := hSw
        go_simp
        try with_reducible rfl
      simp only [List.setIfInBounds_toArray, List.set_cons_zero, List.set_cons_succ]
      refine hold_take (i := 15) (d := 22) (v := ?vB15) (listed' := #[true, true, true, true, true, true, true, true, true, true, true, true, true, true, true, true, false, false, false, false]) rfl (by kernel_rfl) (by kernel_rfl) (by kernel_rfl) rfl (by rfl) (by kernel_rfl) hS1 ?hB15 ?rB15
      case hB15 =>
        intro w' hSw
        obtain ⟨k0, k1, k2, k3, k4⟩ := hSw
        go_simp
        try with_reducible rfl
      simp only [List.setIfInBounds_toArray, List.set_cons_zero, List.set_cons_succ]
      refine hold_take (i := 16) (d := 23) (v := ?vB16) (listed' := #[true, true, true, true, true, true, true, true, true, true, true, true, true, true, true, true, true, false, false, false]) rfl (by kernel_rfl) (by kernel_rfl) (by kernel_rfl) rfl (by rfl) (by kernel_rfl) hS1 ?hB16 ?rB16
      case hB16 =>
        intro w' hSw
        obtain ⟨k0, k1, k2, k3, k4⟩ := hSw
        go_simp
        try with_reducible rfl
      simp only [List.setIfInBounds_toArray, List.set_cons_zero, List.set_cons_succ]
      refine hold_take (i := 17) (d := 24) (v := ?vB17) (listed' := #[true, true, true, true, true, true, true, true, true, true, true, true, true, true, true, true, true, true, false, false]) rfl (by kernel_rfl) (by kernel_rfl) (by kernel_rfl) rfl (by rfl) (by kernel_rfl) hS1 ?hB17 ?rB17
      case hB17 =>
        intro w' hSw
        obtain ⟨k0, k1, k2, k3, k4⟩ := hSw
        go_simp
        try with_reducible rfl
      simp only [List.setIfInBounds_toArray, List.set_cons_zero, List.set_cons_succ]
      refine hold_take (i := 18) (d := 25) (v := ?vB18) (listed' := #[true, true, true, true, true, true, true, true, true, true, true, true, true, true, true, true, true, true, true, false]) rfl (by kernel_rfl) (by kernel_rfl) (by kernel_rfl) rfl (by rfl) (by kernel_rfl) hS1 ?hB18 ?rB18
      case hB18 =>
        intro w' hSw
        obtain ⟨k0, k1, k2, k3, k4⟩ := hSw
        go_simp
        try with_reducible rfl
      simp only [List.setIfInBounds_toArray, List.set_cons_zero, List.set_cons_succ]
      refine hold_take (i := 19) (d := 6) (v := ?vB19) (listed' := #[true, true, true, true, true, true, true, true, true, true, true, true, true, true, true, true, true, true, true, true]) rfl (by kernel_rfl) (by kernel_rfl) (by kernel_rfl) rfl (by rfl) (by kernel_rfl) hS1 ?hB19 ?rB19
      case hB19 =>
        intro w' hSw
        obtain ⟨k0, k1, k2, k3, k4⟩ := hSw
        go_simp
        try with_reducible rfl
      simp only [List.setIfInBounds_toArray, List.set_cons_zero, List.set_cons_succ]
      refine hold_done (by kernel_rfl) ?_ _
      go_wp2_with fail
      go_ret
      exact ⟨ret_bool HV.out, B3⟩
    · rw [z1] at t2
      have HV : Hid (false = apartB m k z (a : Int) (b : Int)) := by show _ = _; rw [← HV0.out, l1]
      have hS : (fun w' => w'.cell? ⟨w.heap.size, 0, none⟩ = some (.slice (some ⟨l.b, l.o, none⟩) m.n l.cap) ∧ w'.cell? ⟨w.heap.size, 1, none⟩ = some (.slice (some ⟨g, o, none⟩) k nc) ∧ w'.cell? ⟨l.b, l.o + a, none⟩ = some (.slice (some ⟨l.G a, l.O a, none⟩) m.n (l.C a)) ∧ w'.cell? ⟨g, o + b, none⟩ = some (.int .i64 (y : Int)) ∧ w'.cell? ⟨l.G a, l.O a + y, none⟩ = some (.int .i64 0)) (w.alloc (.cells #[.slice (some ⟨l.b, l.o, none⟩) m.n l.cap, .slice (some ⟨g, o, none⟩) k nc] 26)).drew := ⟨q0, q1, t0, c1, t2⟩
      have hkeep : Hid (∀ w1, Below (w.alloc (.cells #[.slice (some ⟨l.b, l.o, none⟩) m.n l.cap, .slice (some ⟨g, o, none⟩) k nc] 26)).drew.heap.size (w.alloc (.cells #[.slice (some ⟨l.b, l.o, none⟩) m.n l.cap, .slice (some ⟨g, o, none⟩) k nc] 26)).drew w1 → (fun w' => w'.cell? ⟨w.heap.size, 0, none⟩ = some (.slice (some ⟨l.b, l.o, none⟩) m.n l.cap) ∧ w'.cell? ⟨w.heap.size, 1, none⟩ = some (.slice (some ⟨g, o, none⟩) k nc) ∧ w'.cell? ⟨l.b, l.o + a, none⟩ = some (.slice (some ⟨l.G a, l.O a, none⟩) m.n (l.C a)) ∧ w'.cell? ⟨g, o + b, none⟩ = some (.int .i64 (y : Int)) ∧ w'.cell? ⟨l.G a, l.O a + y, none⟩ = some (.int .i64 0)) w1) := fun w1 hb1 => ⟨(hb1.cell (p := ⟨w.heap.size, 0, none⟩) hwW).trans q0, (hb1.cell (p := ⟨w.heap.size, 1, none⟩) hwW).trans q1, (hb1.cell (p := ⟨l.b, l.o + a, none⟩) (Nat.lt_of_lt_of_le hlB hBs)).trans t0, (hb1.cell (p := ⟨g, o + b, none⟩) (Nat.lt_of_lt_of_le hgB hBs)).trans c1, (hb1.cell (p := ⟨l.G a, l.O a + y, none⟩) (Nat.lt_of_lt_of_le hGB hBs)).trans t2⟩
      clear l1 z1
      go_enter Try.func33, Try.ntmps33
      go_wp2_with fail
      refine region_plain (fuel := 20) (listed := #[false, false, false, false, false, false, false, false, false, false, false, false, false, false, false, false, false, false, false, false]) (fun w' => w'.cell? ⟨w.heap.size, 0, none⟩ = some (.slice (some ⟨l.b, l.o, none⟩) m.n l.cap) ∧ w'.cell? ⟨w.heap.size, 1, none⟩ = some (.slice (some ⟨g, o, none⟩) k nc) ∧ w'.cell? ⟨l.b, l.o + a, none⟩ = some (.slice (some ⟨l.G a, l.O a, none⟩) m.n (l.C a)) ∧ w'.cell? ⟨g, o + b, none⟩ = some (.int .i64 (y : Int)) ∧ w'.cell? ⟨l.G a, l.O a + y, none⟩ = some (.int .i64 0)) (by kernel_rfl) (by kernel_rfl) (by kernel_rfl) ?_
      refine hold_take (i := 0) (d := 7) (v := ?vC0) (listed' := #[true, false, false, false, false, false, false, false, false, false, false, false, false, false, false, false, false, false, false, false]) rfl (by kernel_rfl) (by kernel_rfl) (by kernel_rfl) rfl (by rfl) (by kernel_rfl) hS ?hC0 ?rC0
      case hC0 =>
        intro w' hSw
        obtain ⟨k0, k1, k2, k3, k4⟩ := hSw
        go_simp
        try with_reducible rfl
      simp only [List.setIfInBounds_toArray, List.set_cons_zero, List.set_cons_succ]
      refine hold_take (i := 1) (d := 8) (v := ?vC1) (listed' := #[true, true, false, false, false, false, false, false, false, false, false, false, false, false, false, false, false, false, false, false]) rfl (by kernel_rfl) (by kernel_rfl) (by kernel_rfl) rfl (by rfl) (by kernel_rfl) hS ?hC1 ?rC1
      case hC1 =>
        intro w' hSw
        obtain ⟨k0, k1, k2, k3, k4⟩ := hSw
        go_simp
        try with_reducible rfl
      simp only [List.setIfInBounds_toArray, List.set_cons_zero, List.set_cons_succ]
      refine hold_take (i := 2) (d := 9) (v := ?vC2) (listed' := #[true, true, true, false, false, false, false, false, false, false, false, false, false, false, false, false, false, false, false, false]) rfl (by kernel_rfl) (by kernel_rfl) (by kernel_rfl) rfl (by rfl) (by kernel_rfl) hS ?hC2 ?rC2
      case hC2 =>
        intro w' hSw
        obtain ⟨k0, k1, k2, k3, k4⟩ := hSw
        go_simp
        try with_reducible rfl
      simp only [List.setIfInBounds_toArray, List.set_cons_zero, List.set_cons_succ]
      refine hold_call (i := 3) (d := 10) (listed' := #[true, true, true, true, false, false, false, false, false, false, false, false, false, false, false, false, false, false, false, false]) rfl (by kernel_rfl) rfl (by rfl) (by kernel_rfl) ?heC (l2Both_any (nc := nc) (x := (a : Int)) (y := (b : Int)) h2d.out) ?hcC
      case heC => go_simp
      rintro e w3 ⟨rfl, b3⟩
      rw [HG.out]
      have B3 := bwd.trans (b3.mono bwd.size)
      have hS1 : (fun w' => w'.cell? ⟨w.heap.size, 0, none⟩ = some (.slice (some ⟨l.b, l.o, none⟩) m.n l.cap) ∧ w'.cell? ⟨w.heap.size, 1, none⟩ = some (.slice (some ⟨g, o, none⟩) k nc) ∧ w'.cell? ⟨l.b, l.o + a, none⟩ = some (.slice (some ⟨l.G a, l.O a, none⟩) m.n (l.C a)) ∧ w'.cell? ⟨g, o + b, none⟩ = some (.int .i64 (y : Int)) ∧ w'.cell? ⟨l.G a, l.O a + y, none⟩ = some (.int .i64 0)) w3 := hkeep.out w3 b3
      refine ⟨_, rfl, hS1, ?_⟩
      simp only [List.setIfInBounds_toArray, List.set_cons_zero, List.set_cons_succ]
      refine hold_take (i := 4) (d := 11) (v := ?vC4) (listed' := #[true, true, true, true, true, false, false, false, false, false, false, false, false, false, false, false, false, false, false, false]) rfl (by kernel_rfl) (by kernel_rfl) (by kernel_rfl) rfl (by rfl) (by kernel_rfl) hS1 ?hC4 ?rC4
      case hC4 =>
        intro w' hSw
        obtain ⟨k0, k1, k2, k3, k4⟩ := hSw
        go_simp
        try with_reducible rfl
      simp only [List.setIfInBounds_toArray, List.set_cons_zero, List.set_cons_succ]
      refine hold_take (i := 5) (d := 12) (v := ?vC5) (listed' := #[true, true, true, true, true, true, false, false, false, false, false, false, false, false, false, false, false, false, false, false]) rfl (by kernel_rfl) (by kernel_rfl) (by kernel_rfl) rfl (by rfl) (by kernel_rfl) hS1 ?hC5 ?rC5
      case hC5 =>
        intro w' hSw
        obtain ⟨k0, k1, k2, k3, k4⟩ := hSw
        go_simp
        try with_reducible rfl
      simp only [List.setIfInBounds_toArray, List.set_cons_zero, List.set_cons_succ]
      refine hold_take (i := 6) (d := 13) (v := ?vC6) (listed' := #[true, true, true, true, true, true, true, false, false, false, false, false, false, false, false, false, false, false, false, false]) rfl (by kernel_rfl) (by kernel_rfl) (by kernel_rfl) rfl (by rfl) (by kernel_rfl) hS1 ?hC6 ?rC6
      case hC6 =>
        intro w' hSw
        obtain ⟨k0, k1, k2, k3, k4⟩ := hSw
        go_simp
        try with_reducible rfl
      simp only [List.setIfInBounds_toArray, List.set_cons_zero, List.set_cons_succ]
      refine hold_take (i := 7) (d := 14) (v := ?vC7) (listed' := #[true, true, true, true, true, true, true, true, false, false, false, false, false, false, false, false, false, false, false, false]) rfl (by kernel_rfl) (by kernel_rfl) (by kernel_rfl) rfl (by rfl) (by kernel_rfl) hS1 ?hC7 ?rC7
      case hC7 =>
        intro w' hSw
        obtain ⟨k0, k1, k2, k3, k4⟩ := hSw
        go_simp
        try with_reducible rfl
      simp only [List.setIfInBounds_toArray, List.set_cons_zero, List.set_cons_succ]
      refine hold_take (i := 8) (d := 15) (v := ?vC8) (listed' := #[true, true, true, true, true, true, true, true, true, false, false, false, false, false, false, false, false, false, false, false]) rfl (by kernel_rfl) (by kernel_rfl) (by kernel_rfl) rfl (by rfl) (by kernel_rfl) hS1 ?hC8 ?rC8
      case hC8 =>
        intro w' hSw
        obtain ⟨k0, k1, k2, k3, k4⟩ := hSw
        go_simp
        try with_reducible rfl
      simp only [List.setIfInBounds_toArray, List.set_cons_zero, List.set_cons_succ]
      refine hold_take (i := 9) (d := 16) (v := ?vC9) (listed' := #[true, true, true, true, true, true, true, true, true, true, false, false, false, false, false, false, false, false, false, false]) rfl (by kernel_rfl) (by kernel_rfl) (by kernel_rfl) rfl (by rfl) (by kernel_rfl) hS1 ?hC9 ?rC9
      case hC9 =>
        intro w' hSw
        obtain ⟨k0, k1, k2, k3, k4⟩ := hSw
        go_simp
        try with_reducible rfl
      simp only [List.setIfInBounds_toArray, List.set_cons_zero, List.set_cons_succ]
      refine hold_take (i := 10) (d := 17) (v := ?vC10) (listed' := #[true, true, true, true, true, true, true, true, true, true, true, false, false, false, false, false, false, false, false, false]) rfl (by kernel_rfl) (by kernel_rfl) (by kernel_rfl) rfl (by rfl) (by kernel_rfl) hS1 ?hC10 ?rC10
      case hC10 =>
        intro w' hSw
        obtain ⟨k0, k1, k2, k3, k4⟩ := hSw
        go_simp
        try with_reducible rfl
      simp only [List.setIfInBounds_toArray, List.set_cons_zero, List.set_cons_succ]
      refine hold_take (i := 11) (d := 18) (v := ?vC11) (listed' := #[true, true, true, true, true, true, true, true, true, true, true, true, false, false, false, false, false, false, false, false]) rfl (by kernel_rfl) (by kernel_rfl) (by kernel_rfl) rfl (by rfl) (by kernel_rfl) hS1 ?hC11 ?rC11
      case hC11 =>
        intro w' hSw
        obtain ⟨k0, k1, k2, k3, k4⟩ := hSw
        go_simp
        try with_reducible rfl
      simp only [List.setIfInBounds_toArray, List.set_cons_zero, List.set_cons_succ]
      refine hold_take (i := 12) (d := 19) (v := ?vC12) (listed' := #[true, true, true, true, true, true, true, true, true, true, true, true, true, false, false, false, false, false, false, false]) rfl (by kernel_rfl) (by kernel_rfl) (by kernel_rfl) rfl (by rfl) (by kernel_rfl) hS1 ?hC12 ?rC12
      case hC12 =>
        intro w' hSw
        obtain ⟨k0, k1, k2, k3, k4⟩ := hSw
        go_simp
        try with_reducible rfl
      simp only [List.setIfInBounds_toArray, List.set_cons_zero, List.set_cons_succ]
      refine hold_take (i := 13) (d := 20) (v := ?vC13) (listed' := #[true, true, true, true, true, true, true, true, true, true, true, true, true, true, false, false, false, false, false, false]) rfl (by kernel_rfl) (by kernel_rfl) (by kernel_rfl) rfl (by rfl) (by kernel_rfl) hS1 ?hC13 ?rC13
      case hC13 =>
        intro w' hSw
        obtain ⟨k0, k1, k2, k3, k4⟩ := hSw
        go_simp
        try with_reducible rfl
      simp only [List.setIfInBounds_toArray, List.set_cons_zero, List.set_cons_succ]
      refine hold_take (i := 14) (d := 21) (v := ?vC14) (listed' := #[true, true, true, true, true, true, true, true, true, true, true, true, true, true, true, false, false, false, false, false]) rfl (by kernel_rfl) (by kernel_rfl) (by kernel_rfl) rfl (by rfl) (by kernel_rfl) hS1 ?hC14 ?rC14
      case hC14 =>
        intro w' hSw
        obtain ⟨k0, k1, k2, k3, k4⟩ := hSw
        go_simp
        try with_reducible rfl
      simp only [List.setIfInBounds_toArray, List.set_cons_zero, List.set_cons_succ]
      refine hold_take (i := 15) (d := 22) (v := ?vC15) (listed' := #[true, true, true, true, true, true, true, true, true, true, true, true, true, true, true, true, false, false, false, false]) rfl (by kernel_rfl) (by kernel_rfl) (by kernel_rfl) rfl (by rfl) (by kernel_rfl) hS1 ?hC15 ?rC15
      case hC15 =>
        intro w' hSw
        obtain ⟨k0, k1, k2, k3, k4⟩ := hSw
        go_simp
        try with_reducible rfl
      simp only [List.setIfInBounds_toArray, List.set_cons_zero, List.set_cons_succ]
      refine hold_take (i := 16) (d := 23) (v := ?vC16) (listed' := #[true, true, true, true, true, true, true, true, true, true, true, true, true, true, true, true, true, false, false, false]) rfl (by kernel_rfl) (by kernel_rfl) (by kernel_rfl) rfl (by rfl) (by kernel_rfl) hS1 ?hC16 ?rC16
      case hC16 =>
        intro w' hSw
        obtain ⟨k0, k1, k2, k3, k4⟩ := hSw
        go_simp
        try with_reducible rfl
      simp only [List.setIfInBounds_toArray, List.set_cons_zero, List.set_cons_succ]
      refine hold_take (i := 17) (d := 24) (v := ?vC17) (listed' := #[true, true, true, true, true, true, true, true, true, true, true, true, true, true, true, true, true, true, false, false]) rfl (by kernel_rfl) (by kernel_rfl) (by kernel_rfl) rfl (by rfl) (by kernel_rfl) hS1 ?hC17 ?rC17
      case hC17 =>
        intro w' hSw
        obtain ⟨k0, k1, k2, k3, k4⟩ := hSw
        go_simp
        try with_reducible rfl
      simp only [List.setIfInBounds_toArray, List.set_cons_zero, List.set_cons_succ]
      refine hold_take (i := 18) (d := 25) (v := ?vC18) (listed' := #[true, true, true, true, true, true, true, true, true, true, true, true, true, true, true, true, true, true, true, false]) rfl (by kernel_rfl) (by kernel_rfl) (by kernel_rfl) rfl (by rfl) (by kernel_rfl) hS1 ?hC18 ?rC18
      case hC18 =>
        intro w' hSw
        obtain ⟨k0, k1, k2, k3, k4⟩ := hSw
        go_simp
        try with_reducible rfl
      simp only [List.setIfInBounds_toArray, List.set_cons_zero, List.set_cons_succ]
      refine hold_take (i := 19) (d := 6) (v := ?vC19) (listed' := #[true, true, true, true, true, true, true, true, true, true, true, true, true, true, true, true, true, true, true, true]) rfl (by kernel_rfl) (by kernel_rfl) (by kernel_rfl) rfl (by rfl) (by kernel_rfl) hS1 ?hC19 ?rC19
      case hC19 =>
        intro w' hSw
        obtain ⟨k0, k1, k2, k3, k4⟩ := hSw
        go_simp
        try with_reducible rfl
      simp only [List.setIfInBounds_toArray, List.set_cons_zero, List.set_cons_succ]
      refine hold_done (by kernel_rfl) ?_ _
      go_wp2_with fail
      go_ret
      exact ⟨ret_bool HV.out, B3⟩
  | false =>
    have HG := Lib.hid hg
    have HV : Hid (false = apartB m k z x y) := by show _ = _; unfold apartB; rw [hg]; rfl
    clear hg
    have hS : (fun w' => w'.cell? ⟨w.heap.size, 0, none⟩ = some (.slice ua m.n l.cap) ∧ w'.cell? ⟨w.heap.size, 1, none⟩ = some (.slice na k nc)) (w.alloc (.cells #[.slice ua m.n l.cap, .slice na k nc] 26)).drew := ⟨q0, q1⟩
    go_enter Try.func33, Try.ntmps33
    go_wp2_with fail
    refine region_plain (fuel := 20) (listed := #[false, false, false, false, false, false, false, false, false, false, false, false, false, false, false, false, false, false, false, false]) (fun w' => w'.cell? ⟨w.heap.size, 0, none⟩ = some (.slice ua m.n l.cap) ∧ w'.cell? ⟨w.heap.size, 1, none⟩ = some (.slice na k nc)) (by kernel_rfl) (by kernel_rfl) (by kernel_rfl) ?_
    refine hold_take (i := 0) (d := 7) (v := ?vD0) (listed' := #[true, false, false, false, false, false, false, false, false, false, false, false, false, false, false, false, false, false, false, false]) rfl (by kernel_rfl) (by kernel_rfl) (by kernel_rfl) rfl (by rfl) (by kernel_rfl) hS ?hD0 ?rD0
    case hD0 =>
      intro w' hSw
      obtain ⟨k0, k1⟩ := hSw
      go_simp
      try with_reducible rfl
    simp only [List.setIfInBounds_toArray, List.set_cons_zero, List.set_cons_succ]
    refine hold_take (i := 1) (d := 8) (v := ?vD1) (listed' := #[true, true, false, false, false, false, false, false, false, false, false, false, false, false, false, false, false, false, false, false]) rfl (by kernel_rfl) (by kernel_rfl) (by kernel_rfl) rfl (by rfl) (by kernel_rfl) hS ?hD1 ?rD1
    case hD1 =>
      intro w' hSw
      obtain ⟨k0, k1⟩ := hSw
      go_simp
      try with_reducible rfl
    simp only [List.setIfInBounds_toArray, List.set_cons_zero, List.set_cons_succ]
    refine hold_take (i := 2) (d := 9) (v := ?vD2) (listed' := #[true, true, true, false, false, false, false, false, false, false, false, false, false, false, false, false, false, false, false, false]) rfl (by kernel_rfl) (by kernel_rfl) (by kernel_rfl) rfl (by rfl) (by kernel_rfl) hS ?hD2 ?rD2
    case hD2 =>
      intro w' hSw
      obtain ⟨k0, k1⟩ := hSw
      go_simp
      try with_reducible rfl
    simp only [List.setIfInBounds_toArray, List.set_cons_zero, List.set_cons_succ]
    refine hold_call (i := 3) (d := 10) (listed' := #[true, true, true, true, false, false, false, false, false, false, false, false, false, false, false, false, false, false, false, false]) rfl (by kernel_rfl) rfl (by rfl) (by kernel_rfl) ?heD (l2Both_any (nc := nc) (x := x) (y := y) h2d.out) ?hcD
    case heD => go_simp
    rintro e w3 ⟨rfl, b3⟩
    rw [HG.out]
    have B3 := bwd.trans (b3.mono bwd.size)
    have hX3 := hXd.step b3
    have hS1 : (fun w' => w'.cell? ⟨w.heap.size, 0, none⟩ = some (.slice ua m.n l.cap) ∧ w'.cell? ⟨w.heap.size, 1, none⟩ = some (.slice na k nc)) w3 := ⟨hX3.cell 0 rfl, hX3.cell 1 rfl⟩
    refine ⟨_, rfl, hS1, ?_⟩
    simp only [List.setIfInBounds_toArray, List.set_cons_zero, List.set_cons_succ]
    refine hold_take (i := 4) (d := 11) (v := ?vD4) (listed' := #[true, true, true, true, true, false, false, false, false, false, false, false, false, false, false, false, false, false, false, false]) rfl (by kernel_rfl) (by kernel_rfl) (by kernel_rfl) rfl (by rfl) (by kernel_rfl) hS1 ?hD4 ?rD4
    case hD4 =>
      intro w' hSw
      obtain ⟨k0, k1⟩ := hSw
      go_simp
      try with_reducible rfl
    simp only [List.setIfInBounds_toArray, List.set_cons_zero, List.set_cons_succ]
    refine hold_skip (i := 5) (d := 12) (listed' := #[true, true, true, true, true, true, false, false, false, false, false, false, false, false, false, false, false, false, false, false]) rfl (by kernel_rfl) (by kernel_rfl) (by kernel_rfl) rfl (by rfl) (by kernel_rfl) hS1 ?_
    simp only [List.setIfInBounds_toArray, List.set_cons_zero, List.set_cons_succ]
    refine hold_skip (i := 6) (d := 13) (listed' := #[true, true, true, true, true, true, true, false, false, false, false, false, false, false, false, false, false, false, false, false]) rfl (by kernel_rfl) (by kernel_rfl) (by kernel_rfl) rfl (by rfl) (by kernel_rfl) hS1 ?_
    simp only [List.setIfInBounds_toArray, List.set_cons_zero, List.set_cons_succ]
    refine hold_skip (i := 7) (d := 14) (listed' := #[true, true, true, true, true, true, true, true, false, false, false, false, false, false, false, false, false, false, false, false]) rfl (by kernel_rfl) (by kernel_rfl) (by kernel_rfl) rfl (by rfl) (by kernel_rfl) hS1 ?_
    simp only [List.setIfInBounds_toArray, List.set_cons_zero, List.set_cons_succ]
    refine hold_skip (i := 8) (d := 15) (listed' := #[true, true, true, true, true, true, true, true, true, false, false, false, false, false, false, false, false, false, false, false]) rfl (by kernel_rfl) (by kernel_rfl) (by kernel_rfl) rfl (by rfl) (by kernel_rfl) hS1 ?_
    simp only [List.setIfInBounds_toArray, List.set_cons_zero, List.set_cons_succ]
    refine hold_skip (i := 9) (d := 16) (listed' := #[true, true, true, true, true, true, true, true, true, true, false, false, false, false, false, false, false, false, false, false]) rfl (by kernel_rfl) (by kernel_rfl) (by kernel_rfl) rfl (by rfl) (by kernel_rfl) hS1 ?_
    simp only [List.setIfInBounds_toArray, List.set_cons_zero, List.set_cons_succ]
    refine hold_skip (i := 10) (d := 17) (listed' := #[true, true, true, true, true, true, true, true, true, true, true, false, false, false, false, false, false, false, false, false]) rfl (by kernel_rfl) (by kernel_rfl) (by kernel_rfl) rfl (by rfl) (by kernel_rfl) hS1 ?_
    simp only [List.setIfInBounds_toArray, List.set_cons_zero, List.set_cons_succ]
    refine hold_skip (i := 11) (d := 18) (listed' := #[true, true, true, true, true, true, true, true, true, true, true, true, false, false, false, false, false, false, false, false]) rfl (by kernel_rfl) (by kernel_rfl) (by kernel_rfl) rfl (by rfl) (by kernel_rfl) hS1 ?_
    simp only [List.setIfInBounds_toArray, List.set_cons_zero, List.set_cons_succ]
    refine hold_skip (i := 12) (d := 19) (listed' := #[true, true, true, true, true, true, true, true, true, true, true, true, true, false, false, false, false, false, false, false]) rfl (by kernel_rfl) (by kernel_rfl) (by kernel_rfl) rfl (by rfl) (by kernel_rfl) hS1 ?_
    simp only [List.setIfInBounds_toArray, List.set_cons_zero, List.set_cons_succ]
    refine hold_skip (i := 13) (d := 20) (listed' := #[true, true, true, true, true, true, true, true, true, true, true, true, true, true, false, false, false, false, false, false]) rfl (by kernel_rfl) (by kernel_rfl) (by kernel_rfl) rfl (by rfl) (by kernel_rfl) hS1 ?_
    simp only [List.setIfInBounds_toArray, List.set_cons_zero, List.set_cons_succ]
    refine hold_skip (i := 14) (d := 21) (listed' := #[true, true, true, true, true, true, true, true, true, true, true, true, true, true, true, false, false, false, false, false]) rfl (by kernel_rfl) (by kernel_rfl) (by kernel_rfl) rfl (by rfl) (by kernel_rfl) hS1 ?_
    simp only [List.setIfInBounds_toArray, List.set_cons_zero, List.set_cons_succ]
    refine hold_skip (i := 15) (d := 22) (listed' := #[true, true, true, true, true, true, true, true, true, true, true, true, true, true, true, true, false, false, false, false]) rfl (by kernel_rfl) (by kernel_rfl) (by kernel_rfl) rfl (by rfl) (by kernel_rfl) hS1 ?_
    simp only [List.setIfInBounds_toArray, List.set_cons_zero, List.set_cons_succ]
    refine hold_skip (i := 16) (d := 23) (listed' := #[true, true, true, true, true, true, true, true, true, true, true, true, true, true, true, true, true, false, false, false]) rfl (by kernel_rfl) (by kernel_rfl) (by kernel_rfl) rfl (by rfl) (by kernel_rfl) hS1 ?_
    simp only [List.setIfInBounds_toArray, List.set_cons_zero, List.set_cons_succ]
    refine hold_skip (i := 17) (d := 24) (listed' := #[true, true, true, true, true, true, true, true, true, true, true, true, true, true, true, true, true, true, false, false]) rfl (by kernel_rfl) (by kernel_rfl) (by kernel_rfl) rfl (by rfl) (by kernel_rfl) hS1 ?_
    simp only [List.setIfInBounds_toArray, List.set_cons_zero, List.set_cons_succ]
    refine hold_take (i := 18) (d := 25) (v := ?vD18) (listed' := #[true, true, true, true, true, true, true, true, true, true, true, true, true, true, true, true, true, true, true, false]) rfl (by kernel_rfl) (by kernel_rfl) (by kernel_rfl) rfl (by rfl) (by kernel_rfl) hS1 ?hD18 ?rD18
    case hD18 =>
      intro w' hSw
      obtain ⟨k0, k1⟩ := hSw
      go_simp
      try with_reducible rfl
    simp only [List.setIfInBounds_toArray, List.set_cons_zero, List.set_cons_succ]
    refine hold_take (i := 19) (d := 6) (v := ?vD19) (listed' := #[true, true, true, true, true, true, true, true, true, true, true, true, true, true, true, true, true, true, true, true]) rfl (by kernel_rfl) (by kernel_rfl) (by kernel_rfl) rfl (by rfl) (by kernel_rfl) hS1 ?hD19 ?rD19
    case hD19 =>
      intro w' hSw
      obtain ⟨k0, k1⟩ := hSw
      go_simp
      try with_reducible rfl
    simp only [List.setIfInBounds_toArray, List.set_cons_zero, List.set_cons_succ]
    refine hold_done (by kernel_rfl) ?_ _
    go_wp2_with fail
    go_ret
    exact ⟨ret_bool HV.out, B3⟩
end Go.Proofs.Ytchiadologkfeaa
