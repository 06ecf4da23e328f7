import Derived.Test.YtojcgmgponnlpaaZOa
import Derived.Test.YtojcgmgponnlpaaZMath
namespace Go.Proofs.Ytojcgmgponnlpaa
open Go.RowKit Go.Deep

def lone1 (a : Int) : Nat → Int := fun _ => a
noncomputable def notV (m : Mx) (k : Nat) (z : Nat → Int) (a : Int) : Int := if (logicB m k z && goodB m.n 1 (lone1 a)) = true then z a.toNat else -1
noncomputable def noV (m : Mx) (k : Nat) (z : Nat → Int) : Int := if logicB m k z = true then leastI m else -1
noncomputable def yesV (m : Mx) (k : Nat) (z : Nat → Int) : Int := if logicB m k z = true then z (leastI m).toNat else -1
theorem good_lone {n : Nat} {a : Int} (h : goodB n 1 (lone1 a) = true) : 0 ≤ a ∧ a < (n : Int) := by
  have h0 := allB_is h 0 (by omega)
  simp only [lone1, Bool.and_eq_true] at h0
  exact ⟨of_decide_eq_true h0.1, of_decide_eq_true h0.2⟩

end Go.Proofs.Ytojcgmgponnlpaa
namespace Go.Proofs.Ytojcgmgponnlpaa
open Go.RowKit Go.Deep

theorem good_mk {n : Nat} {a b : Int} (h0 : 0 ≤ a) (h1 : a < (n : Int)) (h2 : 0 ≤ b) (h3 : b < (n : Int)) : goodB n 2 (two a b) = true := allB_true fun i hi => by
  rcases (show i = 0 ∨ i = 1 by omega) with rfl | rfl
  · simp [two, h0, h1]
  · simp [two, h2, h3]
theorem good_no0 {n : Nat} {a b : Int} (h : ¬ (0 ≤ a ∧ a < (n : Int))) : goodB n 2 (two a b) = false := by
  cases hg : goodB n 2 (two a b) with
  | false => rfl
  | true => exact absurd ⟨(good_two hg).1, (good_two hg).2.1⟩ h
theorem good_no1 {n : Nat} {a b : Int} (h : ¬ (0 ≤ b ∧ b < (n : Int))) : goodB n 2 (two a b) = false := by
  cases hg : goodB n 2 (two a b) with
  | false => rfl
  | true => exact absurd ⟨(good_two hg).2.2.1, (good_two hg).2.2.2⟩ h
theorem good_same {n : Nat} {a : Int} : goodB n 1 (lone1 a) = goodB n 2 (two a a) := by
  by_cases h : 0 ≤ a ∧ a < (n : Int)
  · rw [good_mk h.1 h.2 h.1 h.2]
    exact allB_true fun i _ => by simp [lone1, h.1, h.2]
  · rw [good_no0 h]
    cases hg : goodB n 1 (lone1 a) with
    | false => rfl
    | true => exact absurd (good_lone hg) h
theorem not_no {m : Mx} {k : Nat} {z : Nat → Int} : notV m k z (noV m k z) = yesV m k z := by
  cases hl : logicB m k z with
  | false => unfold notV yesV; rw [hl]; rfl
  | true =>
    have hlog := logicB_is hl
    obtain ⟨x, hx, hxe, _⟩ := least_parts hlog.lat.order (lattice_hasLeast hlog.lat)
    have e1 : noV m k z = (x : Int) := by unfold noV; rw [if_pos hl, hxe]
    have e2 : goodB m.n 1 (lone1 (x : Int)) = true := by rw [good_same]; exact good_mk (by omega) (by omega) (by omega) (by omega)
    rw [e1]
    unfold notV yesV
    rw [hl, e2, hxe]
    rfl


set_option maxRecDepth 100000 in
set_option maxHeartbeats 2000000 in
theorem l2Both_any {w : World} {B : Nat} {ua : Option Addr} {l : Lay} {m : Mx} {na : Option Addr} {g o k nc : Nat} {z : Nat → Int} {x y : Int} (h : LogAt w B ua l m na g o k z) :
    Calls Try.prog 115 #[.agg #[.slice ua m.n l.cap, .slice na k nc], .int .i64 x, .int .i64 y] w fun e w' => e = .returned (.bool (logicB m k z && goodB m.n 2 (two x y))) ∧ Below w.heap.size w w' := by
  have hX := BoxN.start w #[.slice ua m.n l.cap, .slice na k nc] 26
  have q0 := hX.cell 0 rfl
  have q1 := hX.cell 1 rfl
  have bw := hX.below
  have h2 := Lib.hid (h.step bw)
  have hkk := h.hk
  clear h
  cases hl : logicB m k z with
  | false =>
    have HL := Lib.hid hl
    clear hl
    go_enter Try.func115, Try.ntmps115
    go_wp2_with fail
    go_at_call 28
    refine (spec_LogicOk h2.out).mono ?_
    rintro e w1 ⟨rfl, b1⟩
    rw [HL.out]
    have B1 := bw.trans (b1.mono bw.size)
    go_wp2_with fail
    go_ret
    exact ⟨rfl, B1⟩
  | true =>
    have HL := Lib.hid hl
    have hkl : k ≤ m.n := Nat.le_of_eq (logicB_is hl).pair.len
    have hkg : m.n ≤ k := Nat.le_of_eq (logicB_is hl).pair.len.symm
    have hpos := (logicB_is hl).lat.order.pos
    have hk1 : (1 : Int) ≤ (k : Int) := by omega
    clear hl
    go_enter Try.func115, Try.ntmps115
    go_wp2_with fail
    go_at_call 28
    refine (spec_LogicOk h2.out).mono ?_
    rintro e w1 ⟨rfl, b1⟩
    rw [HL.out]
    have B1 := bw.trans (b1.mono bw.size)
    have hX1 := hX.step b1
    have r0 := hX1.cell 0 rfl
    have r1 := hX1.cell 1 rfl
    clear q0 q1
    by_cases hx : 0 ≤ x ∧ x < (m.n : Int)
    · have HD : Hid ((decide ((0 : Int) ≤ x) && decide (x ≤ (k : Int) - 1)) = true) := by show _ = _; simp; omega
      have HX := Lib.hid hx
      clear hx
      by_cases hy : 0 ≤ y ∧ y < (m.n : Int)
      · have HE : Hid ((decide ((0 : Int) ≤ y) && decide (y ≤ (k : Int) - 1)) = true) := by show _ = _; simp; omega
        have HF : Hid (true = (true && goodB m.n 2 (two x y))) := by show _ = _; rw [good_mk HX.out.1 HX.out.2 hy.1 hy.2]; rfl
        clear hy
        go_wp2_with fail
        go_at_call 56
        refine (l1In_any _ _ _ _).mono ?_
        rintro e w2 ⟨rfl, rfl⟩
        rw [HD.out]
        go_wp2_with fail
        go_at_call 56
        refine (l1In_any _ _ _ _).mono ?_
        rintro e w3 ⟨rfl, rfl⟩
        rw [HE.out]
        go_wp2_with fail
        go_ret
        exact ⟨ret_bool HF.out, B1⟩
      · have HE : Hid ((decide ((0 : Int) ≤ y) && decide (y ≤ (k : Int) - 1)) = false) := by show _ = _; rw [Bool.and_eq_false_iff]; simp; omega
        have HF : Hid (false = (true && goodB m.n 2 (two x y))) := by show _ = _; rw [good_no1 hy]; rfl
        clear hy
        go_wp2_with fail
        go_at_call 56
        refine (l1In_any _ _ _ _).mono ?_
        rintro e w2 ⟨rfl, rfl⟩
        rw [HD.out]
        go_wp2_with fail
        go_at_call 56
        refine (l1In_any _ _ _ _).mono ?_
        rintro e w3 ⟨rfl, rfl⟩
        rw [HE.out]
        go_wp2_with fail
        go_ret
        exact ⟨ret_bool HF.out, B1⟩
    · have HD : Hid ((decide ((0 : Int) ≤ x) && decide (x ≤ (k : Int) - 1)) = false) := by show _ = _; rw [Bool.and_eq_false_iff]; simp; omega
      have HF : Hid (false = (true && goodB m.n 2 (two x y))) := by show _ = _; rw [good_no0 hx]; rfl
      clear hx
      go_wp2_with fail
      go_at_call 56
      refine (l1In_any _ _ _ _).mono ?_
      rintro e w2 ⟨rfl, rfl⟩
      rw [HD.out]
      go_wp2_with fail
      go_ret
      exact ⟨ret_bool HF.out, B1⟩

set_option maxRecDepth 100000 in
set_option maxHeartbeats 2000000 in
theorem spec_NotOf {w : World} {B : Nat} {ua : Option Addr} {l : Lay} {m : Mx} {na : Option Addr} {g o k nc : Nat} {z : Nat → Int} {x : Int} (h : LogAt w B ua l m na g o k z) :
    Calls Try.prog 132 #[.agg #[.slice ua m.n l.cap, .slice na k nc], .int .i64 x] w fun e w' => e = .returned (.int .i64 (notV m k z x)) ∧ Below w.heap.size w w' := by
  have hX := BoxN.start w #[.slice ua m.n l.cap, .slice na k nc] 26
  have q0 := hX.cell 0 rfl
  have q1 := hX.cell 1 rfl
  have bw := hX.below
  have h2 := Lib.hid (h.step bw)
  have hkk := h.hk
  clear h
  go_enter Try.func132, Try.ntmps132
  go_wp2_with fail
  go_at_call 115
  refine (l2Both_any h2.out).mono ?_
  rintro e w1 ⟨rfl, b1⟩
  have B1 := bw.trans (b1.mono bw.size)
  have hX1 := hX.step b1
  have r0 := hX1.cell 0 rfl
  have r1 := hX1.cell 1 rfl
  have h3 := Lib.hid (h2.out.step b1)
  clear q0 q1
  cases hg : (logicB m k z && goodB m.n 2 (two x x)) with
  | true =>
    have hgg := hg
    rw [Bool.and_eq_true] at hg
    have hlog := logicB_is hg.1
    have hord := hlog.lat.order
    obtain ⟨x0, x1, y0, y1⟩ := good_two hg.2
    obtain ⟨a, rfl⟩ := Int.eq_ofNat_of_zero_le x0
    have hkm := hlog.pair.len
    have ha : a < k := by omega
    have ha' : (a : Int) < k := by omega
    have HV : Hid (z a = notV m k z (a : Int)) := by show _ = _; unfold notV; rw [good_same, if_pos hgg]; simp
    obtain ⟨rfl, _, c1⟩ := h3.out.row.row a ha
    clear hg hgg hlog hord x0 x1 y0 y1 hkm
    go_wp2_with fail
    go_ret
    exact ⟨ret_int HV.out, B1⟩
  | false =>
    have HV : Hid ((-1 : Int) = notV m k z x) := by show _ = _; unfold notV; rw [good_same, if_neg (by rw [hg]; decide)]
    clear hg
    go_wp2_with fail
    go_ret
    exact ⟨ret_int HV.out, B1⟩

set_option maxRecDepth 100000 in
set_option maxHeartbeats 2000000 in
theorem spec_NoOf {w : World} {B : Nat} {ua : Option Addr} {l : Lay} {m : Mx} {na : Option Addr} {g o k nc : Nat} {z : Nat → Int} (h : LogAt w B ua l m na g o k z) :
    Calls Try.prog 128 #[.agg #[.slice ua m.n l.cap, .slice na k nc]] w fun e w' => e = .returned (.int .i64 (noV m k z)) ∧ Below w.heap.size w w' := by
  have hX := BoxN.start w #[.slice ua m.n l.cap, .slice na k nc] 26
  have q0 := hX.cell 0 rfl
  have q1 := hX.cell 1 rfl
  have bw := hX.below
  have h2 := Lib.hid (h.step bw)
  have hkk := h.hk
  clear h
  go_enter Try.func128, Try.ntmps128
  go_wp2_with fail
  go_at_call 28
  refine (spec_LogicOk h2.out).mono ?_
  rintro e w1 ⟨rfl, b1⟩
  have B1 := bw.trans (b1.mono bw.size)
  have hX1 := hX.step b1
  have r0 := hX1.cell 0 rfl
  have r1 := hX1.cell 1 rfl
  have h3 := Lib.hid (h2.out.step b1)
  clear q0 q1
  cases hg : logicB m k z with
  | true =>
    have HV : Hid (leastV m = noV m k z) := by show _ = _; unfold noV; rw [if_pos hg, leastV_yes (orderB_true (logicB_is hg).lat.order)]
    clear hg
    go_wp2_with fail
    go_at_call 57
    refine (spec_LeastOf h3.out.hn h3.out.hL h3.out.mat).mono ?_
    rintro e w2 ⟨rfl, rfl⟩
    go_wp2_with fail
    go_ret
    exact ⟨ret_int HV.out, B1⟩
  | false =>
    have HV : Hid ((-1 : Int) = noV m k z) := by show _ = _; unfold noV; rw [if_neg (by rw [hg]; decide)]
    clear hg
    go_wp2_with fail
    go_ret
    exact ⟨ret_int HV.out, B1⟩

set_option maxRecDepth 100000 in
set_option maxHeartbeats 2000000 in
theorem spec_YesOf {w : World} {B : Nat} {ua : Option Addr} {l : Lay} {m : Mx} {na : Option Addr} {g o k nc : Nat} {z : Nat → Int} (h : LogAt w B ua l m na g o k z) :
    Calls Try.prog 129 #[.agg #[.slice ua m.n l.cap, .slice na k nc]] w fun e w' => e = .returned (.int .i64 (yesV m k z)) ∧ Below w.heap.size w w' := by
  have hX := BoxN.start w #[.slice ua m.n l.cap, .slice na k nc] 26
  have q0 := hX.cell 0 rfl
  have q1 := hX.cell 1 rfl
  have bw := hX.below
  have h2 := Lib.hid (h.step bw)
  have hkk := h.hk
  clear h
  have h2d := Lib.hid (h2.out.step (Below.refl _ _).drew)
  have hXd := hX.step (Below.refl _ _).drew
  have K2 : (w.alloc (.cells #[.slice ua m.n l.cap, .slice na k nc] 26)).drew.cell? ⟨w.heap.size, 0, none⟩ = some (.slice ua m.n l.cap) ∧ (w.alloc (.cells #[.slice ua m.n l.cap, .slice na k nc] 26)).drew.cell? ⟨w.heap.size, 1, none⟩ = some (.slice na k nc) := ⟨q0, q1⟩
  go_enter Try.func129, Try.ntmps129
  go_wp2_with fail
  go_region_held3 (fun w' => w'.cell? ⟨w.heap.size, 0, none⟩ = some (.slice ua m.n l.cap) ∧ w'.cell? ⟨w.heap.size, 1, none⟩ = some (.slice na k nc)) (first | with_reducible exact K2 | with_reducible exact K3 | with_reducible exact K4)
    (first
      | (go_at_call 128; refine (spec_NoOf h2d.out).mono ?_; rintro e w3 ⟨rfl, b3⟩; have hX3 := hXd.step b3; have K3 : w3.cell? ⟨w.heap.size, 0, none⟩ = some (.slice ua m.n l.cap) ∧ w3.cell? ⟨w.heap.size, 1, none⟩ = some (.slice na k nc) := ⟨hX3.cell 0 rfl, hX3.cell 1 rfl⟩; have h3 := Lib.hid (h2d.out.step b3))
      | (go_at_call 132; refine (spec_NotOf h3.out).mono ?_; rintro e w4 ⟨rfl, b4⟩; have hX4 := hX3.step b4; have K4 : w4.cell? ⟨w.heap.size, 0, none⟩ = some (.slice ua m.n l.cap) ∧ w4.cell? ⟨w.heap.size, 1, none⟩ = some (.slice na k nc) := ⟨hX4.cell 0 rfl, hX4.cell 1 rfl⟩; have B4 := hX4.below; rw [not_no]))
  all_goals
    go_wp2_with fail
    go_ret
    exact ⟨rfl, B4⟩

end Go.Proofs.Ytojcgmgponnlpaa
namespace Go.Proofs.Ytojcgmgponnlpaa
open Go.RowKit Go.Deep

end Go.Proofs.Ytojcgmgponnlpaa
namespace Go.Proofs.Ytojcgmgponnlpaa
open Go.RowKit Go.Deep Go.Shelf

attribute [local go_sem] Oper.semAt_some

end Go.Proofs.Ytojcgmgponnlpaa
