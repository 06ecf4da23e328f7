/- The plain mathematics of atoms. -/
import Derived.Test.YtcplljeglaolgaaMathC
namespace Go.Proofs.Ytcplljeglaolgaa

/-- The atoms among the first k answers: those with two answers below them. -/
def atomsTo (m : Mx) : Nat → List Int
  | 0 => []
  | k + 1 => if countI m k = 2 then atomsTo m k ++ [(k : Int)] else atomsTo m k
theorem atomsTo_yes {m : Mx} {k : Nat} (h : countI m k = 2) : atomsTo m (k + 1) = atomsTo m k ++ [(k : Int)] := by rw [atomsTo, if_pos h]
theorem atomsTo_no {m : Mx} {k : Nat} (h : ¬ countI m k = 2) : atomsTo m (k + 1) = atomsTo m k := by rw [atomsTo, if_neg h]
theorem atomsTo_len (m : Mx) (k : Nat) : (atomsTo m k).length ≤ k := by
  induction k with
  | zero => exact Nat.le_refl _
  | succ k ih =>
    by_cases h : countI m k = 2
    · rw [atomsTo_yes h]; simp; exact ih
    · rw [atomsTo_no h]; omega
open Classical in
noncomputable def atomsV (m : Mx) : List Int := if orderB m = true ∧ hasI (leastI m) = true then atomsTo m m.n else []
theorem atomsV_no {m : Mx} (h : ¬ (orderB m = true ∧ hasI (leastI m) = true)) : atomsV m = [] := by unfold atomsV; rw [if_neg h]
theorem atomsV_yes {m : Mx} (h : orderB m = true) (h' : hasI (leastI m) = true) : atomsV m = atomsTo m m.n := by unfold atomsV; rw [if_pos ⟨h, h'⟩]
theorem sumTo_bits {f : Nat → Int} (k : Nat) (h : ∀ i, i < k → f i = 0 ∨ f i = 1) : 0 ≤ sumTo k f ∧ sumTo k f ≤ (k : Int) := by
  induction k with
  | zero => simp [sumTo]
  | succ k ih =>
    have h1 := ih fun i hi => h i (by omega)
    have h2 := h k (by omega)
    simp only [sumTo]
    omega
theorem sumTo_one {f : Nat → Int} {x : Nat} (k : Nat) (h : ∀ i, i < k → i ≠ x → f i = 0) (hx : f x = 1) : sumTo k f = if x < k then 1 else 0 := by
  induction k with
  | zero => simp [sumTo]
  | succ k ih =>
    have h1 := ih fun i hi => h i (by omega)
    simp only [sumTo, h1]
    by_cases e : k = x
    · subst e; rw [hx]; simp
    · rw [h k (by omega) e]
      by_cases hl : x < k
      · rw [if_pos hl, if_pos (by omega)]; omega
      · rw [if_neg hl, if_neg (by omega)]; omega
theorem least_count {m : Mx} (h : IsOrder m) {k : Nat} (hk : k < m.n) (hl : leastI m = (k : Int)) : countI m k = 1 := by
  have hb : belowAllB m k = true := by
    rcases firstI_ways m.n (belowAllB m) with ⟨h1, _⟩ | ⟨x, hx, h1, h2, _⟩
    · have : leastI m = -1 := h1
      omega
    · have : leastI m = (x : Int) := h1
      have : x = k := by omega
      subst this
      exact h2
  have hz : ∀ r, r < m.n → r ≠ k → m.Z r k = 0 := fun r hr hne => h.anti k r hk hr (Ne.symm hne) (leB_is (allB_is hb r hr))
  unfold countI
  rw [sumTo_one m.n hz (h.refl k hk), if_pos hk]
theorem count_bits {m : Mx} (h : Square m) {a : Nat} (ha : a < m.n) (k : Nat) (hk : k ≤ m.n) : 0 ≤ sumTo k (fun r => m.Z r a) ∧ sumTo k (fun r => m.Z r a) ≤ (k : Int) :=
  sumTo_bits k fun i hi => h.bit i (by omega) a ha
end Go.Proofs.Ytcplljeglaolgaa
