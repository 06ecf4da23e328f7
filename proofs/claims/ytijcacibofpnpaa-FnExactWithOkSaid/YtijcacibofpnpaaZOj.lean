/- The walks of the reference's AndOf, OrOf, NotOf, NoOf, YesOf and ApartOk. -/
import Derived.Test.YtijcacibofpnpaaZOa
import Derived.Test.YtijcacibofpnpaaZMath
namespace Go.Proofs.Ytijcacibofpnpaa
open Go.RowKit Go.Deep

theorem good_mk {n : Nat} {a b : Int} (h0 : 0 ≤ a) (h1 : a < (n : Int)) (h2 : 0 ≤ b) (h3 : b < (n : Int)) : goodB n 2 (two a b) = true := allB_true fun i hi => by
  rcases (show i = 0 ∨ i = 1 by omega) with rfl | rfl
  · simp [two, h0, h1]
  · simp [two, h2, h3]
theorem good_no0 {n : Nat} {a b : Int} (h : ¬ (0 ≤ a ∧ a < (n : Int))) : goodB n 2 (two a b) = false := by
  cases hg : goodB n 2 (two a b) with
  | false => rfl
  | true => exact absurd ⟨(good_two hg).1, (good_two hg).2.1⟩ h
theorem good_no1 {n : Nat} {a b : Int} (h : ¬ (0 ≤ b ∧ b < (n : Int))) : goodB n 2 (two a b) = false := by
  cases hg : goodB n 2 (two a b) with
  | false => rfl
  | true => exact absurd ⟨(good_two hg).2.2.1, (good_two hg).2.2.2⟩ h
set_option maxRecDepth 100000 in
set_option maxHeartbeats 2000000 in
theorem l2Both_any {w : World} {B : Nat} {ua : Option Addr} {l : Lay} {m : Mx} {na : Option Addr} {g o k nc : Nat} {z : Nat → Int} {x y : Int} (h : LogAt w B ua l m na g o k z) :
    Calls Try.prog 47 #[.agg #[.slice ua m.n l.cap, .slice na k nc], .int .i64 x, .int .i64 y] w fun e w' => e = .returned (.bool (logicB m k z && goodB m.n 2 (two x y))) ∧ Below w.heap.size w w' := by
  have hX := BoxN.start w #[.slice ua m.n l.cap, .slice na k nc] 26
  have q0 := hX.cell 0 rfl
  have q1 := hX.cell 1 rfl
  have bw := hX.below
  have h2 := Lib.hid (h.step bw)
  have hkk := h.hk
  clear h
  cases hl : logicB m k z with
  | false =>
    have HL := Lib.hid hl
    clear hl
    go_enter Try.func47, Try.ntmps47
    go_wp2_with fail
    go_at_call 33
    refine (spec_LogicOk h2.out).mono ?_
    rintro e w1 ⟨rfl, b1⟩
    rw [HL.out]
    have B1 := bw.trans (b1.mono bw.size)
    go_wp2_with fail
    go_ret
    exact ⟨rfl, B1⟩
  | true =>
    have HL := Lib.hid hl
    have hkl : k ≤ m.n := Nat.le_of_eq (logicB_is hl).pair.len
    have hkg : m.n ≤ k := Nat.le_of_eq (logicB_is hl).pair.len.symm
    have hpos := (logicB_is hl).lat.order.pos
    have hk1 : (1 : Int) ≤ (k : Int) := by omega
    clear hl
    go_enter Try.func47, Try.ntmps47
    go_wp2_with fail
    go_at_call 33
    refine (spec_LogicOk h2.out).mono ?_
    rintro e w1 ⟨rfl, b1⟩
    rw [HL.out]
    have B1 := bw.trans (b1.mono bw.size)
    have hX1 := hX.step b1
    have r0 := hX1.cell 0 rfl
    have r1 := hX1.cell 1 rfl
    clear q0 q1
    by_cases hx : 0 ≤ x ∧ x < (m.n : Int)
    · have HD : Hid ((decide ((0 : Int) ≤ x) && decide (x ≤ (k : Int) - 1)) = true) := by show _ = _; simp; omega
      have HX := Lib.hid hx
      clear hx
      by_cases hy : 0 ≤ y ∧ y < (m.n : Int)
      · have HE : Hid ((decide ((0 : Int) ≤ y) && decide (y ≤ (k : Int) - 1)) = true) := by show _ = _; simp; omega
        have HF : Hid (true = (true && goodB m.n 2 (two x y))) := by show _ = _; rw [good_mk HX.out.1 HX.out.2 hy.1 hy.2]; rfl
        clear hy
        go_wp2_with fail
        go_at_call 62
        refine (l1In_any _ _ _ _).mono ?_
        rintro e w2 ⟨rfl, rfl⟩
        rw [HD.out]
        go_wp2_with fail
        go_at_call 62
        refine (l1In_any _ _ _ _).mono ?_
        rintro e w3 ⟨rfl, rfl⟩
        rw [HE.out]
        go_wp2_with fail
        go_ret
        exact ⟨ret_bool HF.out, B1⟩
      · have HE : Hid ((decide ((0 : Int) ≤ y) && decide (y ≤ (k : Int) - 1)) = false) := by show _ = _; rw [Bool.and_eq_false_iff]; simp; omega
        have HF : Hid (false = (true && goodB m.n 2 (two x y))) := by show _ = _; rw [good_no1 hy]; rfl
        clear hy
        go_wp2_with fail
        go_at_call 62
        refine (l1In_any _ _ _ _).mono ?_
        rintro e w2 ⟨rfl, rfl⟩
        rw [HD.out]
        go_wp2_with fail
        go_at_call 62
        refine (l1In_any _ _ _ _).mono ?_
        rintro e w3 ⟨rfl, rfl⟩
        rw [HE.out]
        go_wp2_with fail
        go_ret
        exact ⟨ret_bool HF.out, B1⟩
    · have HD : Hid ((decide ((0 : Int) ≤ x) && decide (x ≤ (k : Int) - 1)) = false) := by show _ = _; rw [Bool.and_eq_false_iff]; simp; omega
      have HF : Hid (false = (true && goodB m.n 2 (two x y))) := by show _ = _; rw [good_no0 hx]; rfl
      clear hx
      go_wp2_with fail
      go_at_call 62
      refine (l1In_any _ _ _ _).mono ?_
      rintro e w2 ⟨rfl, rfl⟩
      rw [HD.out]
      go_wp2_with fail
      go_ret
      exact ⟨ret_bool HF.out, B1⟩

end Go.Proofs.Ytijcacibofpnpaa
