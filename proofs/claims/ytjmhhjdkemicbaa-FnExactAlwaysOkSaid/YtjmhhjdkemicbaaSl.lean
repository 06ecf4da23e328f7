/- The walk of the reference's BooleanOk. -/
import Derived.Test.YtjmhhjdkemicbaaSk
namespace Go.Proofs.Ytjmhhjdkemicbaa
open Go.RowKit Go.Deep

noncomputable def boolV (m : Mx) (k : Nat) (z : Nat → Int) : Bool := logicB m k z && boolB m
/-- The three numbers that one number tells. -/
def tripB (m : Mx) (k : Nat) : Bool := splitB m (k / m.n / m.n) (k / m.n % m.n) (k % m.n)
theorem trip_all {m : Mx} (hp : 0 < m.n) : boolB m = true ↔ ∀ k, k < m.n * m.n * m.n → tripB m k = true := by
  rw [bool_iff]
  constructor
  · intro h k hk
    have h1 : k / m.n < m.n * m.n := (Nat.div_lt_iff_lt_mul hp).2 hk
    exact h _ _ _ ((Nat.div_lt_iff_lt_mul hp).2 h1) (Nat.mod_lt _ hp) (Nat.mod_lt _ hp)
  · intro h a b d ha hb hd
    have h1 : (a * m.n + b) * m.n + d < m.n * m.n * m.n := by
      have h2 : a * m.n + b < m.n * m.n := by
        have : (a + 1) * m.n ≤ m.n * m.n := Nat.mul_le_mul_right _ ha
        rw [Nat.add_mul, Nat.one_mul] at this
        omega
      have : (a * m.n + b + 1) * m.n ≤ m.n * m.n * m.n := Nat.mul_le_mul_right _ h2
      rw [Nat.add_mul, Nat.one_mul] at this
      omega
    have h3 := h _ h1
    unfold tripB at h3
    have e1 : ((a * m.n + b) * m.n + d) / m.n = a * m.n + b := by
      rw [Nat.add_comm, Nat.add_mul_div_right _ _ hp, Nat.div_eq_of_lt hd, Nat.zero_add]
    have e2 : ((a * m.n + b) * m.n + d) % m.n = d := by
      rw [Nat.add_comm, Nat.add_mul_mod_self_right, Nat.mod_eq_of_lt hd]
    have e3 : (a * m.n + b) / m.n = a := by
      rw [Nat.add_comm, Nat.add_mul_div_right _ _ hp, Nat.div_eq_of_lt hb, Nat.zero_add]
    have e4 : (a * m.n + b) % m.n = b := by
      rw [Nat.add_comm, Nat.add_mul_mod_self_right, Nat.mod_eq_of_lt hb]
    rw [e1, e2, e3, e4] at h3
    exact h3
theorem div_wrap {j n : Nat} (hj : j ≤ 100000) : IntKind.i64.wrap ((j : Int) / (n : Int)) = (j : Int) / (n : Int) := by
  rw [← Int.natCast_ediv]
  have h := Nat.div_le_self j n
  generalize j / n = q at h
  rw [IntKind.wrap_i64]
  omega
theorem div2_wrap {j n : Nat} (hj : j ≤ 100000) : IntKind.i64.wrap (((j : Int) / (n : Int)).tdiv (n : Int)) = (j : Int) / (n : Int) / (n : Int) := by
  rw [← Int.natCast_ediv]
  have h := Nat.div_le_self j n
  generalize j / n = q at h
  rw [Int.tdiv_eq_ediv_of_nonneg (Int.natCast_nonneg q)]
  exact div_wrap (by omega)
theorem div_mod (j n : Nat) : ((j : Int) / (n : Int)).tmod (n : Int) = (j : Int) / (n : Int) % (n : Int) := by
  rw [← Int.natCast_ediv]
  exact Int.tmod_eq_emod_of_nonneg (Int.natCast_nonneg _)
theorem bool_false {m : Mx} (hp : 0 < m.n) {k : Nat} (hk : k < m.n * m.n * m.n) (h : tripB m k = false) : boolB m = false := by
  cases e : boolB m with
  | false => rfl
  | true => rw [(trip_all hp).1 e k hk] at h; cases h

end Go.Proofs.Ytjmhhjdkemicbaa
