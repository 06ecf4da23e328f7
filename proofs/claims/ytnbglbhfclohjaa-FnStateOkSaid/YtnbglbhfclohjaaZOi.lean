import Derived.Test.YtnbglbhfclohjaaZOa
import Derived.Test.YtnbglbhfclohjaaZMath
namespace Go.Proofs.Ytnbglbhfclohjaa
open Go.RowKit Go.Deep

def lone1 (a : Int) : Nat → Int := fun _ => a
noncomputable def notV (m : Mx) (k : Nat) (z : Nat → Int) (a : Int) : Int := if (logicB m k z && goodB m.n 1 (lone1 a)) = true then z a.toNat else -1
noncomputable def noV (m : Mx) (k : Nat) (z : Nat → Int) : Int := if logicB m k z = true then leastI m else -1
noncomputable def yesV (m : Mx) (k : Nat) (z : Nat → Int) : Int := if logicB m k z = true then z (leastI m).toNat else -1
theorem good_lone {n : Nat} {a : Int} (h : goodB n 1 (lone1 a) = true) : 0 ≤ a ∧ a < (n : Int) := by
  have h0 := allB_is h 0 (by omega)
  simp only [lone1, Bool.and_eq_true] at h0
  exact ⟨of_decide_eq_true h0.1, of_decide_eq_true h0.2⟩

set_option maxRecDepth 100000 in
set_option maxHeartbeats 2000000 in
theorem YesOf_any {w : World} {B : Nat} {ua : Option Addr} {l : Lay} {m : Mx} {na : Option Addr} {g o k nc : Nat} {z : Nat → Int} (h : LogAt w B ua l m na g o k z) :
    Calls Try.prog 19 #[.agg #[.slice ua m.n l.cap, .slice na k nc]] w fun e w' => e = .returned (.int .i64 (yesV m k z)) ∧ Below w.heap.size w w' := by
  have hX := BoxN.start w #[.slice ua m.n l.cap, .slice na k nc] 26
  have q0 := hX.cell 0 rfl
  have q1 := hX.cell 1 rfl
  have hX2 := hX
  have bw := hX.below
  have h2 := Lib.hid (h.step bw)
  go_enter Try.func19, Try.ntmps19
  have hrow2 : Hid (RowAt (w.alloc (.cells #[.slice ua m.n l.cap, .slice na k nc] 26)) (w.alloc (.cells #[.slice ua m.n l.cap, .slice na k nc] 26)).heap.size none 0 0 0 (fun _ => 0)) := ⟨fun c hc => absurd hc (Nat.not_lt_zero _)⟩
  generalize hW : w.alloc (.cells #[.slice ua m.n l.cap, .slice na k nc] 26) = W at hX2 bw h2 hrow2 q0 q1
  clear hX h
  go_wp2_with fail
  go_at_call 31
  refine (algebraWith_any h2.out hrow2.out (by omega)).mono ?_
  rintro e w1 ⟨b1, (⟨hg, ob, tb, tG, rfl, hA⟩ | ⟨hg, rfl⟩)⟩
  · clear hW q0 q1 hrow2
    have B1 := bw.trans (b1.mono bw.size)
    have hY := BoxN.start w1 #[.slice ua m.n l.cap, .slice na k nc, .slice (some ⟨ob, 0, none⟩) 2 2] 55
    have hYb := hY.below
    have BY := B1.trans (hYb.mono B1.size)
    have h3 := Lib.hid ((h2.out.step b1).step hYb)
    have hA3 := Lib.hid (hA.step hYb)
    have r0 := hY.cell 0 rfl
    have r1 := hY.cell 1 rfl
    have r2 := hY.cell 2 rfl
    clear hA
    unfold algV
    rw [Bool.and_eq_true] at hg
    have hlog := logicB_is hg.1
    have hord := hlog.lat.order
    have HS := Lib.hid (h3.out.sq hord)
    have hkm := hlog.pair.len
    have hR := h3.out.row
    obtain ⟨x, hx, hxe, _⟩ := least_parts hord (lattice_hasLeast hlog.lat)
    have hx1 : x < k := by omega
    have hx2 : (x : Int) < k := by omega
    have HV : Hid (z x = yesV m k z) := by show _ = _; unfold yesV; rw [if_pos hg.1, hxe]; simp
    have HX := Lib.hid hxe
    obtain ⟨rfl, _, _⟩ := hR.row x hx1
    clear hg hlog hord hkm hR hxe
    go_wp2_with fail
    go_at_call 51
    refine (least_sq HS.out).mono ?_
    rintro e w2 ⟨rfl, b2⟩
    rw [HX.out]
    have B2 := BY.trans (b2.mono BY.size)
    have hY2 := hY.step b2
    have s1 := hY2.cell 1 rfl
    obtain ⟨_, _, c1⟩ := (h3.out.step b2).row.row x hx1
    clear r0 r1 r2
    go_wp2_with fail
    go_ret
    exact ⟨ret_int HV.out, B2⟩
  · have HV : Hid ((-1 : Int) = yesV m k z) := by show _ = _; unfold yesV; rw [good_nil, Bool.and_true] at hg; rw [if_neg (by rw [hg]; decide)]
    clear hW q0 q1 hrow2 hg
    have B1 := bw.trans (b1.mono bw.size)
    have B2 := B1.alloc B1.size (.cells #[.slice none 0 0, .slice none 0 0, .slice none 0 0] 55)
    unfold noAlg
    go_wp2_with fail
    go_ret
    exact ⟨ret_int HV.out, B2⟩

end Go.Proofs.Ytnbglbhfclohjaa
namespace Go.Proofs.Ytnbglbhfclohjaa
open Go.RowKit Go.Deep

theorem good_mk {n : Nat} {a b : Int} (h0 : 0 ≤ a) (h1 : a < (n : Int)) (h2 : 0 ≤ b) (h3 : b < (n : Int)) : goodB n 2 (two a b) = true := allB_true fun i hi => by
  rcases (show i = 0 ∨ i = 1 by omega) with rfl | rfl
  · simp [two, h0, h1]
  · simp [two, h2, h3]
theorem good_no0 {n : Nat} {a b : Int} (h : ¬ (0 ≤ a ∧ a < (n : Int))) : goodB n 2 (two a b) = false := by
  cases hg : goodB n 2 (two a b) with
  | false => rfl
  | true => exact absurd ⟨(good_two hg).1, (good_two hg).2.1⟩ h
theorem good_no1 {n : Nat} {a b : Int} (h : ¬ (0 ≤ b ∧ b < (n : Int))) : goodB n 2 (two a b) = false := by
  cases hg : goodB n 2 (two a b) with
  | false => rfl
  | true => exact absurd ⟨(good_two hg).2.2.1, (good_two hg).2.2.2⟩ h
theorem good_same {n : Nat} {a : Int} : goodB n 1 (lone1 a) = goodB n 2 (two a a) := by
  by_cases h : 0 ≤ a ∧ a < (n : Int)
  · rw [good_mk h.1 h.2 h.1 h.2]
    exact allB_true fun i _ => by simp [lone1, h.1, h.2]
  · rw [good_no0 h]
    cases hg : goodB n 1 (lone1 a) with
    | false => rfl
    | true => exact absurd (good_lone hg) h
theorem not_no {m : Mx} {k : Nat} {z : Nat → Int} : notV m k z (noV m k z) = yesV m k z := by
  cases hl : logicB m k z with
  | false => unfold notV yesV; rw [hl]; rfl
  | true =>
    have hlog := logicB_is hl
    obtain ⟨x, hx, hxe, _⟩ := least_parts hlog.lat.order (lattice_hasLeast hlog.lat)
    have e1 : noV m k z = (x : Int) := by unfold noV; rw [if_pos hl, hxe]
    have e2 : goodB m.n 1 (lone1 (x : Int)) = true := by rw [good_same]; exact good_mk (by omega) (by omega) (by omega) (by omega)
    rw [e1]
    unfold notV yesV
    rw [hl, e2, hxe]
    rfl


set_option maxRecDepth 100000 in
set_option maxHeartbeats 2000000 in
theorem l2Both_any {w : World} {B : Nat} {ua : Option Addr} {l : Lay} {m : Mx} {na : Option Addr} {g o k nc : Nat} {z : Nat → Int} {x y : Int} (h : LogAt w B ua l m na g o k z) :
    Calls Try.prog 105 #[.agg #[.slice ua m.n l.cap, .slice na k nc], .int .i64 x, .int .i64 y] w fun e w' => e = .returned (.bool (logicB m k z && goodB m.n 2 (two x y))) ∧ Below w.heap.size w w' := by
  have hX := BoxN.start w #[.slice ua m.n l.cap, .slice na k nc] 26
  have q0 := hX.cell 0 rfl
  have q1 := hX.cell 1 rfl
  have bw := hX.below
  have h2 := Lib.hid (h.step bw)
  have hkk := h.hk
  clear h
  cases hl : logicB m k z with
  | false =>
    have HL := Lib.hid hl
    clear hl
    go_enter Try.func105, Try.ntmps105
    go_wp2_with fail
    go_at_call 34
    refine (spec_LogicOk h2.out).mono ?_
    rintro e w1 ⟨rfl, b1⟩
    rw [HL.out]
    have B1 := bw.trans (b1.mono bw.size)
    go_wp2_with fail
    go_ret
    exact ⟨rfl, B1⟩
  | true =>
    have HL := Lib.hid hl
    have hkl : k ≤ m.n := Nat.le_of_eq (logicB_is hl).pair.len
    have hkg : m.n ≤ k := Nat.le_of_eq (logicB_is hl).pair.len.symm
    have hpos := (logicB_is hl).lat.order.pos
    have hk1 : (1 : Int) ≤ (k : Int) := by omega
    clear hl
    go_enter Try.func105, Try.ntmps105
    go_wp2_with fail
    go_at_call 34
    refine (spec_LogicOk h2.out).mono ?_
    rintro e w1 ⟨rfl, b1⟩
    rw [HL.out]
    have B1 := bw.trans (b1.mono bw.size)
    have hX1 := hX.step b1
    have r0 := hX1.cell 0 rfl
    have r1 := hX1.cell 1 rfl
    clear q0 q1
    by_cases hx : 0 ≤ x ∧ x < (m.n : Int)
    · have HD : Hid ((decide ((0 : Int) ≤ x) && decide (x ≤ (k : Int) - 1)) = true) := by show _ = _; simp; omega
      have HX := Lib.hid hx
      clear hx
      by_cases hy : 0 ≤ y ∧ y < (m.n : Int)
      · have HE : Hid ((decide ((0 : Int) ≤ y) && decide (y ≤ (k : Int) - 1)) = true) := by show _ = _; simp; omega
        have HF : Hid (true = (true && goodB m.n 2 (two x y))) := by show _ = _; rw [good_mk HX.out.1 HX.out.2 hy.1 hy.2]; rfl
        clear hy
        go_wp2_with fail
        go_at_call 46
        refine (l1In_any _ _ _ _).mono ?_
        rintro e w2 ⟨rfl, rfl⟩
        rw [HD.out]
        go_wp2_with fail
        go_at_call 46
        refine (l1In_any _ _ _ _).mono ?_
        rintro e w3 ⟨rfl, rfl⟩
        rw [HE.out]
        go_wp2_with fail
        go_ret
        exact ⟨ret_bool HF.out, B1⟩
      · have HE : Hid ((decide ((0 : Int) ≤ y) && decide (y ≤ (k : Int) - 1)) = false) := by show _ = _; rw [Bool.and_eq_false_iff]; simp; omega
        have HF : Hid (false = (true && goodB m.n 2 (two x y))) := by show _ = _; rw [good_no1 hy]; rfl
        clear hy
        go_wp2_with fail
        go_at_call 46
        refine (l1In_any _ _ _ _).mono ?_
        rintro e w2 ⟨rfl, rfl⟩
        rw [HD.out]
        go_wp2_with fail
        go_at_call 46
        refine (l1In_any _ _ _ _).mono ?_
        rintro e w3 ⟨rfl, rfl⟩
        rw [HE.out]
        go_wp2_with fail
        go_ret
        exact ⟨ret_bool HF.out, B1⟩
    · have HD : Hid ((decide ((0 : Int) ≤ x) && decide (x ≤ (k : Int) - 1)) = false) := by show _ = _; rw [Bool.and_eq_false_iff]; simp; omega
      have HF : Hid (false = (true && goodB m.n 2 (two x y))) := by show _ = _; rw [good_no0 hx]; rfl
      clear hx
      go_wp2_with fail
      go_at_call 46
      refine (l1In_any _ _ _ _).mono ?_
      rintro e w2 ⟨rfl, rfl⟩
      rw [HD.out]
      go_wp2_with fail
      go_ret
      exact ⟨ret_bool HF.out, B1⟩

set_option maxRecDepth 100000 in
set_option maxHeartbeats 2000000 in
theorem spec_NotOf {w : World} {B : Nat} {ua : Option Addr} {l : Lay} {m : Mx} {na : Option Addr} {g o k nc : Nat} {z : Nat → Int} {x : Int} (h : LogAt w B ua l m na g o k z) :
    Calls Try.prog 80 #[.agg #[.slice ua m.n l.cap, .slice na k nc], .int .i64 x] w fun e w' => e = .returned (.int .i64 (notV m k z x)) ∧ Below w.heap.size w w' := by
  have hX := BoxN.start w #[.slice ua m.n l.cap, .slice na k nc] 26
  have q0 := hX.cell 0 rfl
  have q1 := hX.cell 1 rfl
  have bw := hX.below
  have h2 := Lib.hid (h.step bw)
  have hkk := h.hk
  clear h
  go_enter Try.func80, Try.ntmps80
  go_wp2_with fail
  go_at_call 105
  refine (l2Both_any h2.out).mono ?_
  rintro e w1 ⟨rfl, b1⟩
  have B1 := bw.trans (b1.mono bw.size)
  have hX1 := hX.step b1
  have r0 := hX1.cell 0 rfl
  have r1 := hX1.cell 1 rfl
  have h3 := Lib.hid (h2.out.step b1)
  clear q0 q1
  cases hg : (logicB m k z && goodB m.n 2 (two x x)) with
  | true =>
    have hgg := hg
    rw [Bool.and_eq_true] at hg
    have hlog := logicB_is hg.1
    have hord := hlog.lat.order
    obtain ⟨x0, x1, y0, y1⟩ := good_two hg.2
    obtain ⟨a, rfl⟩ := Int.eq_ofNat_of_zero_le x0
    have hkm := hlog.pair.len
    have ha : a < k := by omega
    have ha' : (a : Int) < k := by omega
    have HV : Hid (z a = notV m k z (a : Int)) := by show _ = _; unfold notV; rw [good_same, if_pos hgg]; simp
    obtain ⟨rfl, _, c1⟩ := h3.out.row.row a ha
    clear hg hgg hlog hord x0 x1 y0 y1 hkm
    go_wp2_with fail
    go_ret
    exact ⟨ret_int HV.out, B1⟩
  | false =>
    have HV : Hid ((-1 : Int) = notV m k z x) := by show _ = _; unfold notV; rw [good_same, if_neg (by rw [hg]; decide)]
    clear hg
    go_wp2_with fail
    go_ret
    exact ⟨ret_int HV.out, B1⟩

set_option maxRecDepth 100000 in
set_option maxHeartbeats 2000000 in
theorem spec_NoOf {w : World} {B : Nat} {ua : Option Addr} {l : Lay} {m : Mx} {na : Option Addr} {g o k nc : Nat} {z : Nat → Int} (h : LogAt w B ua l m na g o k z) :
    Calls Try.prog 81 #[.agg #[.slice ua m.n l.cap, .slice na k nc]] w fun e w' => e = .returned (.int .i64 (noV m k z)) ∧ Below w.heap.size w w' := by
  have hX := BoxN.start w #[.slice ua m.n l.cap, .slice na k nc] 26
  have q0 := hX.cell 0 rfl
  have q1 := hX.cell 1 rfl
  have bw := hX.below
  have h2 := Lib.hid (h.step bw)
  have hkk := h.hk
  clear h
  go_enter Try.func81, Try.ntmps81
  go_wp2_with fail
  go_at_call 34
  refine (spec_LogicOk h2.out).mono ?_
  rintro e w1 ⟨rfl, b1⟩
  have B1 := bw.trans (b1.mono bw.size)
  have hX1 := hX.step b1
  have r0 := hX1.cell 0 rfl
  have r1 := hX1.cell 1 rfl
  have h3 := Lib.hid (h2.out.step b1)
  clear q0 q1
  cases hg : logicB m k z with
  | true =>
    have HV : Hid (leastV m = noV m k z) := by show _ = _; unfold noV; rw [if_pos hg, leastV_yes (orderB_true (logicB_is hg).lat.order)]
    clear hg
    go_wp2_with fail
    go_at_call 73
    refine (spec_LeastOf h3.out.hn h3.out.hL h3.out.mat).mono ?_
    rintro e w2 ⟨rfl, rfl⟩
    go_wp2_with fail
    go_ret
    exact ⟨ret_int HV.out, B1⟩
  | false =>
    have HV : Hid ((-1 : Int) = noV m k z) := by show _ = _; unfold noV; rw [if_neg (by rw [hg]; decide)]
    clear hg
    go_wp2_with fail
    go_ret
    exact ⟨ret_int HV.out, B1⟩

set_option maxRecDepth 100000 in
set_option maxHeartbeats 2000000 in
theorem spec_YesOf {w : World} {B : Nat} {ua : Option Addr} {l : Lay} {m : Mx} {na : Option Addr} {g o k nc : Nat} {z : Nat → Int} (h : LogAt w B ua l m na g o k z) :
    Calls Try.prog 48 #[.agg #[.slice ua m.n l.cap, .slice na k nc]] w fun e w' => e = .returned (.int .i64 (yesV m k z)) ∧ Below w.heap.size w w' := by
  have hX := BoxN.start w #[.slice ua m.n l.cap, .slice na k nc] 26
  have q0 := hX.cell 0 rfl
  have q1 := hX.cell 1 rfl
  have bw := hX.below
  have h2 := Lib.hid (h.step bw)
  have hkk := h.hk
  clear h
  have h2d := Lib.hid (h2.out.step (Below.refl _ _).drew)
  have hXd := hX.step (Below.refl _ _).drew
  have K2 : (w.alloc (.cells #[.slice ua m.n l.cap, .slice na k nc] 26)).drew.cell? ⟨w.heap.size, 0, none⟩ = some (.slice ua m.n l.cap) ∧ (w.alloc (.cells #[.slice ua m.n l.cap, .slice na k nc] 26)).drew.cell? ⟨w.heap.size, 1, none⟩ = some (.slice na k nc) := ⟨q0, q1⟩
  go_enter Try.func48, Try.ntmps48
  go_wp2_with fail
  go_region_held3 (fun w' => w'.cell? ⟨w.heap.size, 0, none⟩ = some (.slice ua m.n l.cap) ∧ w'.cell? ⟨w.heap.size, 1, none⟩ = some (.slice na k nc)) (first | with_reducible exact K2 | with_reducible exact K3 | with_reducible exact K4)
    (first
      | (go_at_call 81; refine (spec_NoOf h2d.out).mono ?_; rintro e w3 ⟨rfl, b3⟩; have hX3 := hXd.step b3; have K3 : w3.cell? ⟨w.heap.size, 0, none⟩ = some (.slice ua m.n l.cap) ∧ w3.cell? ⟨w.heap.size, 1, none⟩ = some (.slice na k nc) := ⟨hX3.cell 0 rfl, hX3.cell 1 rfl⟩; have h3 := Lib.hid (h2d.out.step b3))
      | (go_at_call 80; refine (spec_NotOf h3.out).mono ?_; rintro e w4 ⟨rfl, b4⟩; have hX4 := hX3.step b4; have K4 : w4.cell? ⟨w.heap.size, 0, none⟩ = some (.slice ua m.n l.cap) ∧ w4.cell? ⟨w.heap.size, 1, none⟩ = some (.slice na k nc) := ⟨hX4.cell 0 rfl, hX4.cell 1 rfl⟩; have B4 := hX4.below; rw [not_no]))
  all_goals
    go_wp2_with fail
    go_ret
    exact ⟨rfl, B4⟩

end Go.Proofs.Ytnbglbhfclohjaa
namespace Go.Proofs.Ytnbglbhfclohjaa
open Go.RowKit Go.Deep

theorem meetQ {B n : Nat} {sa : Option Addr} {l : Lay} {m : Mx} {a b : Nat} {w : World} {z : Nat → Int} {y : Nat → Nat} {o : Nat} (h : MatAt w B sa l m) (hO : Ortho m z y o) (ha : a < m.n) (hb : b < m.n) :
    Calls Try.prog 50 #[.slice sa m.n l.cap, .int .i64 a, .int .i64 b] (w.drewN n) fun e w' => e = .returned (.int .i64 (mN m a b : Nat)) ∧ ∃ k, w' = w.drewN k :=
  quiet_drew ((l1Meet_any (h.drewN n) hO.lat.order ha hb).mono fun _ _ ⟨he, hw⟩ => ⟨by rw [he, hO.mI ha hb], by subst hw; exact Drew.refl _⟩)
theorem joinQ {B n : Nat} {sa : Option Addr} {l : Lay} {m : Mx} {a b : Nat} {w : World} {z : Nat → Int} {y : Nat → Nat} {o : Nat} (h : MatAt w B sa l m) (hO : Ortho m z y o) (ha : a < m.n) (hb : b < m.n) :
    Calls Try.prog 49 #[.slice sa m.n l.cap, .int .i64 a, .int .i64 b] (w.drewN n) fun e w' => e = .returned (.int .i64 (jN m a b : Nat)) ∧ ∃ k, w' = w.drewN k :=
  quiet_drew ((l1Join_any (h.drewN n) hO.lat.order ha hb).mono fun _ _ ⟨he, hw⟩ => ⟨by rw [he, hO.jI ha hb], by subst hw; exact Drew.refl _⟩)

set_option maxRecDepth 100000 in
set_option maxHeartbeats 2000000 in
theorem spec_KeepsOk {w : World} {B : Nat} {ua : Option Addr} {l : Lay} {m : Mx} {na : Option Addr} {g o k nc : Nat} {z : Nat → Int} (h : LogAt w B ua l m na g o k z) :
    Calls Try.prog 18 #[.agg #[.slice ua m.n l.cap, .slice na k nc]] w fun e w' => e = .returned (.bool (keepsV m k z)) ∧ Below w.heap.size w w' := by
  have hX := BoxN.start w #[.slice ua m.n l.cap, .slice na k nc] 26
  have h1 := Lib.hid (h.alloc (.cells #[.slice ua m.n l.cap, .slice na k nc] 26))
  have q0 := hX.cell 0 rfl
  have q1 := hX.cell 1 rfl
  have hkk := h.hk
  clear h
  cases hl : logicB m k z with
  | false =>
    have HL := Lib.hid hl
    have HF : Hid (false = keepsV m k z) := by show _ = _; unfold keepsV; rw [hl]; rfl
    clear hl
    go_enter Try.func18, Try.ntmps18
    go_wp2_with fail
    generalize hW : w.alloc (.cells #[.slice ua m.n l.cap, .slice na k nc] 26) = W at h1 hX q0 q1 ⊢
    clear hW
    go_loopw [3] (fun i wr => i = .int .i64 0 ∧ wr = W) (fun _ _ => 0)
    case atStart => exact ⟨rfl, rfl⟩
    case round =>
      obtain ⟨rfl, rfl⟩ := hrel
      by_cases hk0 : 0 < k
      · have hk0' : (0 : Int) < k := by omega
        go_wp2_with fail
        go_at_call 34
        refine (spec_LogicOk h1.out).mono ?_
        rintro e w2 ⟨rfl, b2⟩
        rw [HL.out]
        have hX2 := hX.step b2
        have h2 := Lib.hid (h1.out.step b2)
        have r0 := hX2.cell 0 rfl
        have r1 := hX2.cell 1 rfl
        clear q0 q1
        go_wp2_with fail
        go_at_call 34
        refine (spec_LogicOk h2.out).mono ?_
        rintro e w3 ⟨rfl, b3⟩
        rw [HL.out]
        have hX3 := hX2.step b3
        clear r0 r1
        go_wp2_with fail
        go_ret
        exact ⟨ret_bool HF.out, hX3.below⟩
      · have hk0' : ¬ (0 : Int) < k := by omega
        go_wp2_with fail
        go_at_call 34
        refine (spec_LogicOk h1.out).mono ?_
        rintro e w3 ⟨rfl, b3⟩
        rw [HL.out]
        have hX3 := hX.step b3
        clear q0 q1
        go_wp2_with fail
        go_ret
        exact ⟨ret_bool HF.out, hX3.below⟩
  | true =>
    have hlog := logicB_is hl
    obtain ⟨y, o', hO⟩ := hlog.ortho
    have hkn : k = m.n := hlog.pair.len
    subst hkn
    have hn := hO.lat.order.top
    have hpos := hO.lat.order.pos
    have HV : Hid (keepsV m m.n z = keepsB m y) := keepsV_is hO
    have HO := Lib.hid hO
    have HL := Lib.hid hl
    obtain ⟨rfl, hg1, hg2⟩ := h1.out.row.row 0 (by omega)
    obtain ⟨rfl, hg3, hg4⟩ := h1.out.mat.top 0 (by omega)
    clear hl hO hlog hg1 hg2 hg3 hg4
    go_enter Try.func18, Try.ntmps18
    go_wp2_with fail
    generalize hW : w.alloc (.cells #[.slice (some ⟨l.b, l.o, none⟩) m.n l.cap, .slice (some ⟨g, o, none⟩) m.n nc] 26) = W at h1 hX ⊢
    clear hW q0 q1
    go_loopw [3] (fun i wr => ∃ j : Nat, j ≤ m.n ∧ i = .int .i64 j ∧ Below W.heap.size W wr ∧ Hid (∀ a, a < j → ∀ b, b < m.n → keepsPB m y a b = true)) (fun i _ => m.n - (intOf i).toNat)
    case atStart => exact ⟨0, Nat.zero_le _, rfl, Below.refl _ _, fun c hc => absurd hc (Nat.not_lt_zero _)⟩
    case round =>
      obtain ⟨j, hj, rfl, hD, hR⟩ := hrel
      have hXr := hX.step hD
      have hr := Lib.hid (h1.out.step hD)
      have q0 := hXr.cell 0 rfl
      have q1 := hXr.cell 1 rfl
      by_cases hlt : j < m.n
      · have hlt' : (j : Int) < m.n := by omega
        go_wp2_with fail
        go_at_call 34
        refine (spec_LogicOk hr.out).mono ?_
        rintro e w2 ⟨rfl, b2⟩
        rw [HL.out]
        have hD2 := hD.trans (b2.mono hD.size)
        clear q0 q1 hr hXr hD
        go_wp2_with fail
        go_loopw [4] (fun i wi => ∃ b : Nat, b ≤ m.n ∧ i = .int .i64 b ∧ Below W.heap.size W wi ∧ Hid (∀ c, c < b → keepsPB m y j c = true)) (fun i _ => m.n - (intOf i).toNat)
        case atStart => exact ⟨0, Nat.zero_le _, rfl, hD2, fun c hc => absurd hc (Nat.not_lt_zero _)⟩
        case round =>
          obtain ⟨b, hbn, rfl, hD, hT⟩ := hrel
          clear hD2
          by_cases hbt : b < m.n
          · have hbt' : (b : Int) < m.n := by omega
            have hXi := hX.step hD
            have hri := h1.out.step hD
            have r0 := hXi.cell 0 rfl
            have r1 := hXi.cell 1 rfl
            obtain ⟨_, _, d1⟩ := hri.row.row j hlt
            rw [HO.out.zy j hlt] at d1
            have f2 := HO.out.lt j hlt
            have f2' : ((y j : Nat) : Int) < m.n := by omega
            obtain ⟨_, t1, t2⟩ := hri.mat.sq HO.out.lat.order.sq hlt hbt
            have hmat := Lib.hid hri.mat
            have hm := (HO.out.mG hbt f2).lt
            clear hri
            rcases leB_cases HO.out.lat.order.sq hlt hbt with ⟨l1, z1⟩ | ⟨l1, z1⟩
            · rw [z1] at t2
              by_cases hk : jN m j (mN m b (y j)) = b
              · have HP : Hid (keepsPB m y j b = true) := by show _ = _; unfold keepsPB; rw [hk]; simp
                have n1 : (((jN m j (mN m b (y j)) : Nat) : Int) != (b : Int)) = false := by simp [hk]
                clear l1 z1 hk
                go_wp2_with fail
                go_quiet (first | (go_at_call 50; exact meetQ hmat.out HO.out hbt f2) | (go_at_call 49; exact joinQ hmat.out HO.out hlt hm))
                clear n1
                go_wp2_with fail
                go_roundw
                case rel => exact ⟨b + 1, by omega, by go_num, Below.drewN' hD _, fun c hc => by
                  by_cases e : c = b
                  · subst e; exact HP.out
                  · exact hT.out c (by omega)⟩
                case measure => simp [intOf]; omega
              · have HF : Hid (false = keepsV m m.n z) := by
                  show _ = _
                  rw [HV.out]
                  exact (allB_false hlt (allB_false hbt (by unfold keepsPB; rw [l1]; simp [hk]))).symm
                have n1 : (((jN m j (mN m b (y j)) : Nat) : Int) != (b : Int)) = true := by simp; omega
                clear l1 z1 hk
                go_wp2_with fail
                go_quiet (first | (go_at_call 50; exact meetQ hmat.out HO.out hbt f2) | (go_at_call 49; exact joinQ hmat.out HO.out hlt hm))
                clear n1
                go_wp2_with fail
                go_ret
                exact ⟨ret_bool HF.out, Below.drewN' hXi.below _⟩
            · rw [z1] at t2
              have HP : Hid (keepsPB m y j b = true) := by show _ = _; unfold keepsPB; rw [l1]; rfl
              clear l1 z1
              go_wp2_with fail
              go_quiet (fail)
              go_wp2_with fail
              go_roundw
              case rel => exact ⟨b + 1, by omega, by go_num, Below.drewN' hD _, fun c hc => by
                by_cases e : c = b
                · subst e; exact HP.out
                · exact hT.out c (by omega)⟩
              case measure => simp [intOf]; omega
          · have hbt' : ¬ (b : Int) < m.n := by omega
            have hXi := hX.step hD
            have r0 := hXi.cell 0 rfl
            have r1 := hXi.cell 1 rfl
            go_wp2_with fail
            go_roundw
            case rel => exact ⟨j + 1, by omega, by go_num, hD, fun a ha c hc => by
              by_cases e : a = j
              · subst e; exact hT.out c (by omega)
              · exact hR.out a (by omega) c hc⟩
            case measure => simp [intOf]; omega
      · have hlt' : ¬ (j : Int) < m.n := by omega
        have HT : Hid (true = keepsV m m.n z) := by
          show _ = _
          rw [HV.out]
          exact (allB_true fun a ha => allB_true fun b hb => hR.out a (by omega) b hb).symm
        go_wp2_with fail
        go_at_call 34
        refine (spec_LogicOk hr.out).mono ?_
        rintro e w2 ⟨rfl, b2⟩
        rw [HL.out]
        have hX2 := hXr.step b2
        clear q0 q1
        go_wp2_with fail
        go_ret
        exact ⟨ret_bool HT.out, hX2.below⟩
end Go.Proofs.Ytnbglbhfclohjaa
namespace Go.Proofs.Ytnbglbhfclohjaa
open Go.RowKit Go.Deep Go.Shelf

attribute [local go_sem] Oper.semAt_some

/-- Nothing speaks against the pairs of the list. -/
def AllKeep (m : Mx) (y : Nat → Nat) (pre : List (Fin m.n × Fin m.n)) : Prop := ∀ p ∈ pre, keepsPB m y p.1.val p.2.val = true
theorem AllKeep.snoc {m : Mx} {y : Nat → Nat} {pre : List (Fin m.n × Fin m.n)} (h : AllKeep m y pre) {x : Fin m.n × Fin m.n} (hx : keepsPB m y x.1.val x.2.val = true) : AllKeep m y (pre ++ [x]) := fun p hp => by
  rcases List.mem_append.1 hp with e | e
  · exact h p e
  · have e' : p = x := by simpa using e
    rw [e']; exact hx

end Go.Proofs.Ytnbglbhfclohjaa
