/- How sums of powers of two read in the program's numbers: shifts, remainders, unions. -/
import Derived.Test.YtjofkejfldmmlaaDoorMath
import Derived.Test.YtjofkejfldmmlaaDoorDa
namespace Go.Proofs.YtjofkejfldmmlaaDoor
open Go.RowKit Go.Deep

theorem bit_is (s k : Nat) : ((s : Int) / 2 ^ k).tmod 2 = (if s.testBit k = true then 1 else 0) := by
  have e1 : ((s : Int) / 2 ^ k) = ((s / 2 ^ k : Nat) : Int) := by push_cast; rfl
  have e2 : ((s / 2 ^ k : Nat) : Int).tmod 2 = ((s / 2 ^ k % 2 : Nat) : Int) := by
    generalize s / 2 ^ k = q
    rw [Int.tmod_eq_emod_of_nonneg (Int.natCast_nonneg q)]; omega
  rw [e1, e2]
  have h3 := Nat.testBit_eq_decide_div_mod_eq (x := s) (i := k)
  rw [h3]
  by_cases h : s / 2 ^ k % 2 = 1
  · simp [h]
  · have : s / 2 ^ k % 2 = 0 := by omega
    simp [this]
theorem bit_yes {s k : Nat} (h : s.testBit k = true) : ((s : Int) / 2 ^ k).tmod 2 = 1 := by rw [bit_is, if_pos h]
theorem bit_no {s k : Nat} (h : s.testBit k = false) : ((s : Int) / 2 ^ k).tmod 2 = 0 := by rw [bit_is, if_neg (by rw [h]; decide)]
theorem pow_le_12 {k : Nat} (h : k ≤ 12) : 2 ^ k ≤ 4096 := by
  have := Nat.pow_le_pow_right (n := 2) (by omega) h
  exact this
theorem pow_pos' (k : Nat) : 1 ≤ 2 ^ k := Nat.one_le_two_pow
theorem i64_or_nat (a b : Nat) (ha : a < 9223372036854775808) (hb : b < 9223372036854775808) : bits .or .i64 (a : Int) (b : Int) = ((a ||| b : Nat) : Int) := by
  have hx : a ||| b < 2 ^ 63 := Nat.or_lt_two_pow (by omega) (by omega)
  show IntKind.i64.wrap ((BitVec.ofInt 64 (a : Int) ||| BitVec.ofInt 64 (b : Int)).toNat : Int) = _
  rw [BitVec.toNat_or, ofInt_i64 a ha, ofInt_i64 b hb, IntKind.wrap_i64]
  omega
theorem i64_and_nat (a b : Nat) (ha : a < 9223372036854775808) (hb : b < 9223372036854775808) : bits .and .i64 (a : Int) (b : Int) = ((a &&& b : Nat) : Int) := by
  have hx : a &&& b < 2 ^ 63 := Nat.and_lt_two_pow _ (by omega)
  show IntKind.i64.wrap ((BitVec.ofInt 64 (a : Int) &&& BitVec.ofInt 64 (b : Int)).toNat : Int) = _
  rw [BitVec.toNat_and, ofInt_i64 a ha, ofInt_i64 b hb, IntKind.wrap_i64]
  omega
theorem one_wrap {k : Nat} (h : k ≤ 12) : IntKind.i64.wrap (2 ^ k) = ((2 ^ k : Nat) : Int) := by
  have := pow_le_12 h
  have e : ((2 : Int) ^ k) = ((2 ^ k : Nat) : Int) := by push_cast; rfl
  rw [e]
  generalize 2 ^ k = q at this
  exact IntWalk.i64_in _ (by omega)
end Go.Proofs.YtjofkejfldmmlaaDoor
