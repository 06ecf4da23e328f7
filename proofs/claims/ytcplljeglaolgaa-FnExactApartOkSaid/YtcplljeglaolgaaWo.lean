/- The walks of the reference's MeetOf, JoinOf, LeastOf and LatticeOk. -/
import Derived.Test.YtcplljeglaolgaaWm
import Derived.Test.YtcplljeglaolgaaWn
import Derived.Test.YtcplljeglaolgaaWc
import Derived.Test.YtcplljeglaolgaaMathC
namespace Go.Proofs.Ytcplljeglaolgaa
open Go.RowKit Go.Deep

theorem ret_two {a b : Int} {x y : Bool} (h : a = b) (k : x = y) : Ending.returned (.tuple #[.int .i64 a, .bool x]) = .returned (.tuple #[.int .i64 b, .bool y]) := by rw [h, k]

set_option maxRecDepth 100000 in
set_option maxHeartbeats 1000000 in
theorem spec_MeetOf {B : Nat} {sa : Option Addr} {l : Lay} {m : Mx} {a b : Int} {w : World} (hn : m.n ≤ 9223372036854775807) (hL : ∀ r, r < m.n → m.L r ≤ 9223372036854775807) (h : MatAt w B sa l m) :
    Calls Try.prog 24 #[.slice sa m.n l.cap, .int .i64 a, .int .i64 b] w fun e w' => e = .returned (.tuple #[.int .i64 (meetV m a b), .bool (hasI (meetV m a b))]) ∧ w = w' := by
  have HL := Lib.hid hL
  clear hL
  cases ho : orderB m with
  | false =>
    have HR : Hid (-1 = meetV m a b) := (meetV_no fun h => by rw [ho] at h; cases h.1).symm
    have HO := Lib.hid ho
    clear ho
    go_enter Try.func24, Try.ntmps24
    go_wp2_with fail
    go_at_call 72
    refine (spec_OrderOk B sa l m _ hn HL.out h).mono ?_
    rintro e w1 ⟨rfl, rfl⟩
    rw [HO.out]
    go_wp2_with fail
    go_ret2
    exact ⟨ret_two HR.out (by rw [← HR.out]; rfl), rfl⟩
  | true =>
    have hord := orderB_is ho
    have hpos := hord.pos
    have HO := Lib.hid ho
    have HORD := Lib.hid hord
    clear ho hord
    by_cases ha : 0 ≤ a ∧ a < (m.n : Int)
    · have HA : Hid ((decide ((0 : Int) ≤ a) && decide (a ≤ (m.n : Int) - 1)) = true) := by show _ = _; simp; omega
      by_cases hb : 0 ≤ b ∧ b < (m.n : Int)
      · have HB : Hid ((decide ((0 : Int) ≤ b) && decide (b ≤ (m.n : Int) - 1)) = true) := by show _ = _; simp; omega
        obtain ⟨a, rfl⟩ := Int.eq_ofNat_of_zero_le ha.1
        obtain ⟨b, rfl⟩ := Int.eq_ofNat_of_zero_le hb.1
        have ha' : a < m.n := by omega
        have hb' : b < m.n := by omega
        have HR : Hid (meetI m a b = meetV m a b) := (meetV_yes HO.out ha' hb').symm
        have hrg := meetI_range m a b
        by_cases hneg : meetI m a b < 0
        · have HH : Hid (hasI (meetV m a b) = false) := by show _ = _; rw [← HR.out]; exact hasI_no hneg
          go_enter Try.func24, Try.ntmps24
          go_wp2_with fail
          go_at_call 72
          refine (spec_OrderOk B sa l m _ hn HL.out h).mono ?_
          rintro e w1 ⟨rfl, rfl⟩
          rw [HO.out]
          go_wp2_with fail
          go_at_call 73
          refine (l1In_any _ _ _ _).mono ?_
          rintro e w1 ⟨rfl, rfl⟩
          rw [HA.out]
          go_wp2_with fail
          go_at_call 73
          refine (l1In_any _ _ _ _).mono ?_
          rintro e w1 ⟨rfl, rfl⟩
          rw [HB.out]
          go_wp2_with fail
          go_at_call 74
          refine (l1Meet_any h HORD.out ha' hb').mono ?_
          rintro e w1 ⟨rfl, rfl⟩
          go_wp2_with fail
          go_ret2
          exact ⟨ret_two HR.out (by rw [HH.out]; exact decide_eq_false (by omega)), rfl⟩
        · have HH : Hid (hasI (meetV m a b) = true) := by show _ = _; rw [← HR.out]; exact hasI_yes (by omega)
          go_enter Try.func24, Try.ntmps24
          go_wp2_with fail
          go_at_call 72
          refine (spec_OrderOk B sa l m _ hn HL.out h).mono ?_
          rintro e w1 ⟨rfl, rfl⟩
          rw [HO.out]
          go_wp2_with fail
          go_at_call 73
          refine (l1In_any _ _ _ _).mono ?_
          rintro e w1 ⟨rfl, rfl⟩
          rw [HA.out]
          go_wp2_with fail
          go_at_call 73
          refine (l1In_any _ _ _ _).mono ?_
          rintro e w1 ⟨rfl, rfl⟩
          rw [HB.out]
          go_wp2_with fail
          go_at_call 74
          refine (l1Meet_any h HORD.out ha' hb').mono ?_
          rintro e w1 ⟨rfl, rfl⟩
          go_wp2_with fail
          go_ret2
          exact ⟨ret_two HR.out HH.out.symm, rfl⟩
      · have HB : Hid ((decide ((0 : Int) ≤ b) && decide (b ≤ (m.n : Int) - 1)) = false) := by show _ = _; rw [Bool.and_eq_false_iff]; simp; omega
        have HR : Hid (-1 = meetV m a b) := (meetV_no fun h => hb ⟨h.2.2.2.1, h.2.2.2.2⟩).symm
        clear hb ha
        go_enter Try.func24, Try.ntmps24
        go_wp2_with fail
        go_at_call 72
        refine (spec_OrderOk B sa l m _ hn HL.out h).mono ?_
        rintro e w1 ⟨rfl, rfl⟩
        rw [HO.out]
        go_wp2_with fail
        go_at_call 73
        refine (l1In_any _ _ _ _).mono ?_
        rintro e w1 ⟨rfl, rfl⟩
        rw [HA.out]
        go_wp2_with fail
        go_at_call 73
        refine (l1In_any _ _ _ _).mono ?_
        rintro e w1 ⟨rfl, rfl⟩
        rw [HB.out]
        go_wp2_with fail
        go_ret2
        exact ⟨ret_two HR.out (by rw [← HR.out]; rfl), rfl⟩
    · have HA : Hid ((decide ((0 : Int) ≤ a) && decide (a ≤ (m.n : Int) - 1)) = false) := by show _ = _; rw [Bool.and_eq_false_iff]; simp; omega
      have HR : Hid (-1 = meetV m a b) := (meetV_no fun h => ha ⟨h.2.1, h.2.2.1⟩).symm
      clear ha
      go_enter Try.func24, Try.ntmps24
      go_wp2_with fail
      go_at_call 72
      refine (spec_OrderOk B sa l m _ hn HL.out h).mono ?_
      rintro e w1 ⟨rfl, rfl⟩
      rw [HO.out]
      go_wp2_with fail
      go_at_call 73
      refine (l1In_any _ _ _ _).mono ?_
      rintro e w1 ⟨rfl, rfl⟩
      rw [HA.out]
      go_wp2_with fail
      go_ret2
      exact ⟨ret_two HR.out (by rw [← HR.out]; rfl), rfl⟩

set_option maxRecDepth 100000 in
set_option maxHeartbeats 1000000 in
theorem spec_JoinOf {B : Nat} {sa : Option Addr} {l : Lay} {m : Mx} {a b : Int} {w : World} (hn : m.n ≤ 9223372036854775807) (hL : ∀ r, r < m.n → m.L r ≤ 9223372036854775807) (h : MatAt w B sa l m) :
    Calls Try.prog 28 #[.slice sa m.n l.cap, .int .i64 a, .int .i64 b] w fun e w' => e = .returned (.tuple #[.int .i64 (joinV m a b), .bool (hasI (joinV m a b))]) ∧ w = w' := by
  have HL := Lib.hid hL
  clear hL
  cases ho : orderB m with
  | false =>
    have HR : Hid (-1 = joinV m a b) := (joinV_no fun h => by rw [ho] at h; cases h.1).symm
    have HO := Lib.hid ho
    clear ho
    go_enter Try.func28, Try.ntmps28
    go_wp2_with fail
    go_at_call 72
    refine (spec_OrderOk B sa l m _ hn HL.out h).mono ?_
    rintro e w1 ⟨rfl, rfl⟩
    rw [HO.out]
    go_wp2_with fail
    go_ret2
    exact ⟨ret_two HR.out (by rw [← HR.out]; rfl), rfl⟩
  | true =>
    have hord := orderB_is ho
    have hpos := hord.pos
    have HO := Lib.hid ho
    have HORD := Lib.hid hord
    clear ho hord
    by_cases ha : 0 ≤ a ∧ a < (m.n : Int)
    · have HA : Hid ((decide ((0 : Int) ≤ a) && decide (a ≤ (m.n : Int) - 1)) = true) := by show _ = _; simp; omega
      by_cases hb : 0 ≤ b ∧ b < (m.n : Int)
      · have HB : Hid ((decide ((0 : Int) ≤ b) && decide (b ≤ (m.n : Int) - 1)) = true) := by show _ = _; simp; omega
        obtain ⟨a, rfl⟩ := Int.eq_ofNat_of_zero_le ha.1
        obtain ⟨b, rfl⟩ := Int.eq_ofNat_of_zero_le hb.1
        have ha' : a < m.n := by omega
        have hb' : b < m.n := by omega
        have HR : Hid (meetI (tr m) a b = joinV m a b) := (joinV_yes HO.out ha' hb').symm
        have hrg := meetI_range (tr m) a b
        by_cases hneg : meetI (tr m) a b < 0
        · have HH : Hid (hasI (joinV m a b) = false) := by show _ = _; rw [← HR.out]; exact hasI_no hneg
          go_enter Try.func28, Try.ntmps28
          go_wp2_with fail
          go_at_call 72
          refine (spec_OrderOk B sa l m _ hn HL.out h).mono ?_
          rintro e w1 ⟨rfl, rfl⟩
          rw [HO.out]
          go_wp2_with fail
          go_at_call 73
          refine (l1In_any _ _ _ _).mono ?_
          rintro e w1 ⟨rfl, rfl⟩
          rw [HA.out]
          go_wp2_with fail
          go_at_call 73
          refine (l1In_any _ _ _ _).mono ?_
          rintro e w1 ⟨rfl, rfl⟩
          rw [HB.out]
          go_wp2_with fail
          go_at_call 76
          refine (l1Join_any h HORD.out ha' hb').mono ?_
          rintro e w1 ⟨rfl, rfl⟩
          go_wp2_with fail
          go_ret2
          exact ⟨ret_two HR.out (by rw [HH.out]; exact decide_eq_false (by omega)), rfl⟩
        · have HH : Hid (hasI (joinV m a b) = true) := by show _ = _; rw [← HR.out]; exact hasI_yes (by omega)
          go_enter Try.func28, Try.ntmps28
          go_wp2_with fail
          go_at_call 72
          refine (spec_OrderOk B sa l m _ hn HL.out h).mono ?_
          rintro e w1 ⟨rfl, rfl⟩
          rw [HO.out]
          go_wp2_with fail
          go_at_call 73
          refine (l1In_any _ _ _ _).mono ?_
          rintro e w1 ⟨rfl, rfl⟩
          rw [HA.out]
          go_wp2_with fail
          go_at_call 73
          refine (l1In_any _ _ _ _).mono ?_
          rintro e w1 ⟨rfl, rfl⟩
          rw [HB.out]
          go_wp2_with fail
          go_at_call 76
          refine (l1Join_any h HORD.out ha' hb').mono ?_
          rintro e w1 ⟨rfl, rfl⟩
          go_wp2_with fail
          go_ret2
          exact ⟨ret_two HR.out HH.out.symm, rfl⟩
      · have HB : Hid ((decide ((0 : Int) ≤ b) && decide (b ≤ (m.n : Int) - 1)) = false) := by show _ = _; rw [Bool.and_eq_false_iff]; simp; omega
        have HR : Hid (-1 = joinV m a b) := (joinV_no fun h => hb ⟨h.2.2.2.1, h.2.2.2.2⟩).symm
        clear hb ha
        go_enter Try.func28, Try.ntmps28
        go_wp2_with fail
        go_at_call 72
        refine (spec_OrderOk B sa l m _ hn HL.out h).mono ?_
        rintro e w1 ⟨rfl, rfl⟩
        rw [HO.out]
        go_wp2_with fail
        go_at_call 73
        refine (l1In_any _ _ _ _).mono ?_
        rintro e w1 ⟨rfl, rfl⟩
        rw [HA.out]
        go_wp2_with fail
        go_at_call 73
        refine (l1In_any _ _ _ _).mono ?_
        rintro e w1 ⟨rfl, rfl⟩
        rw [HB.out]
        go_wp2_with fail
        go_ret2
        exact ⟨ret_two HR.out (by rw [← HR.out]; rfl), rfl⟩
    · have HA : Hid ((decide ((0 : Int) ≤ a) && decide (a ≤ (m.n : Int) - 1)) = false) := by show _ = _; rw [Bool.and_eq_false_iff]; simp; omega
      have HR : Hid (-1 = joinV m a b) := (joinV_no fun h => ha ⟨h.2.1, h.2.2.1⟩).symm
      clear ha
      go_enter Try.func28, Try.ntmps28
      go_wp2_with fail
      go_at_call 72
      refine (spec_OrderOk B sa l m _ hn HL.out h).mono ?_
      rintro e w1 ⟨rfl, rfl⟩
      rw [HO.out]
      go_wp2_with fail
      go_at_call 73
      refine (l1In_any _ _ _ _).mono ?_
      rintro e w1 ⟨rfl, rfl⟩
      rw [HA.out]
      go_wp2_with fail
      go_ret2
      exact ⟨ret_two HR.out (by rw [← HR.out]; rfl), rfl⟩
end Go.Proofs.Ytcplljeglaolgaa
