/- The walk of the program's has: whether a set has an answer, as 1 or 0. -/
import Derived.Test.YtjmhhjdkemicbaaMathL
namespace Go.Proofs.Ytjmhhjdkemicbaa
open Go.RowKit Go.Deep

/-- 1 if a set has an answer, 0 if it has not. -/
def hasN (s a : Nat) : Nat := if s.testBit a = true then 1 else 0
theorem hasN_le (s a : Nat) : hasN s a ≤ 1 := by unfold hasN; split <;> omega
theorem hasN_asked (s a : Nat) : (((hasN s a : Nat) : Int) == 1) = s.testBit a := by
  unfold hasN
  cases s.testBit a <;> simp
theorem hasN_value {s b : Nat} (hs : s < 4096) : bits .and .i64 ((s : Int) / 2 ^ b) 1 = ((hasN s b : Nat) : Int) := by
  have e : ((s : Int) / 2 ^ b) = ((s / 2 ^ b : Nat) : Int) := by
    rw [Int.natCast_ediv]; simp
  have hl : s / 2 ^ b < 4096 := Nat.lt_of_le_of_lt (Nat.div_le_self _ _) hs
  unfold hasN
  rw [e, show (1 : Int) = ((1 : Nat) : Int) from rfl, i64_and_nat _ _ (by omega) (by omega), Nat.and_one_is_mod, Nat.testBit_eq_decide_div_mod_eq]
  by_cases h : s / 2 ^ b % 2 = 1
  · rw [h]; simp
  · have h0 : s / 2 ^ b % 2 = 0 := by omega
    rw [h0]; simp

end Go.Proofs.Ytjmhhjdkemicbaa
