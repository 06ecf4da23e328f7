/- The plain mathematics of joins and lattices. -/
import Derived.Test.YtcplljeglaolgaaMathB
namespace Go.Proofs.Ytcplljeglaolgaa
open Classical in
noncomputable def joinV (m : Mx) (a b : Int) : Int := if orderB m = true ∧ 0 ≤ a ∧ a < (m.n : Int) ∧ 0 ≤ b ∧ b < (m.n : Int) then meetI (tr m) a.toNat b.toNat else -1
theorem joinV_no {m : Mx} {a b : Int} (h : ¬ (orderB m = true ∧ 0 ≤ a ∧ a < (m.n : Int) ∧ 0 ≤ b ∧ b < (m.n : Int))) : joinV m a b = -1 := by unfold joinV; rw [if_neg h]
theorem joinV_yes {m : Mx} {a b : Nat} (h : orderB m = true) (ha : a < m.n) (hb : b < m.n) : joinV m a b = meetI (tr m) a b := by
  unfold joinV; rw [if_pos ⟨h, by omega, by omega, by omega, by omega⟩]; simp
theorem hasI_yes {i : Int} (h : 0 ≤ i) : hasI i = true := by unfold hasI; simpa using h
theorem hasI_no {i : Int} (h : i < 0) : hasI i = false := by unfold hasI; simpa using h
theorem hasI_is {i : Int} (h : hasI i = true) : 0 ≤ i := by unfold hasI at h; simpa using h
theorem hasI_not {i : Int} (h : hasI i = false) : i < 0 := by unfold hasI at h; simpa using h
theorem meetI_range (m : Mx) (a b : Nat) : -1 ≤ meetI m a b ∧ meetI m a b < (m.n : Int) + 1 := by
  rcases firstI_ways m.n (isMeetB m a b) with ⟨h, _⟩ | ⟨k, hk, h, _⟩
  · show -1 ≤ firstI _ _ ∧ firstI _ _ < _; omega
  · show -1 ≤ firstI _ _ ∧ firstI _ _ < _; omega
/-- Both meet and join. -/
structure MJ (m : Mx) (a b : Nat) : Prop where
  meets : hasI (meetI m a b) = true
  joins : hasI (meetI (tr m) a b) = true
structure IsLattice (m : Mx) : Prop where
  order : IsOrder m
  both : ∀ a b, a < m.n → b < m.n → MJ m a b
open Classical in
noncomputable def latticeB (m : Mx) : Bool := decide (IsLattice m)
open Classical in
theorem latticeB_true {m : Mx} (h : IsLattice m) : latticeB m = true := by unfold latticeB; exact decide_eq_true h
open Classical in
theorem latticeB_false {m : Mx} (h : ¬ IsLattice m) : latticeB m = false := by unfold latticeB; exact decide_eq_false h
open Classical in
theorem latticeB_is {m : Mx} (h : latticeB m = true) : IsLattice m := by unfold latticeB at h; exact of_decide_eq_true h
theorem bothB_comm (m : Mx) (c a b : Nat) : bothB m c a b = bothB m c b a := by unfold bothB; rw [Bool.and_comm]
theorem meetI_comm (m : Mx) (a b : Nat) : meetI m a b = meetI m b a := by
  unfold meetI
  have : isMeetB m a b = isMeetB m b a := by
    funext x
    unfold isMeetB ubB
    rw [bothB_comm m x a b]
    congr 1
    unfold allB
    congr 1
    funext c
    rw [bothB_comm m c a b]
  rw [this]
theorem MJ.comm {m : Mx} {a b : Nat} (h : MJ m a b) : MJ m b a := ⟨by rw [meetI_comm]; exact h.meets, by rw [meetI_comm]; exact h.joins⟩
/-- Of an answer and itself the meeting is this. -/
theorem meetI_self {m : Mx} (h : IsOrder m) {a : Nat} (ha : a < m.n) : meetI m a a = (a : Int) := by
  have hr : leB m a a = true := leB_mk (h.refl a ha)
  have hm : isMeetB m a a a = true := isMeet_mk (by unfold bothB; rw [hr]; rfl) fun c _ hb => by
    unfold bothB at hb
    rw [Bool.and_eq_true] at hb
    exact hb.1
  rcases firstI_ways m.n (isMeetB m a a) with ⟨_, h4⟩ | ⟨y, hy, h3, h4, _⟩
  · rw [h4 a ha] at hm; cases hm
  · have h5 := bestI_meet h hy h4 m.n hy (Nat.le_refl _)
    have h6 := bestI_meet h ha hm m.n ha (Nat.le_refl _)
    show firstI _ _ = _
    omega
theorem MJ.self {m : Mx} (h : IsOrder m) {a : Nat} (ha : a < m.n) : MJ m a a :=
  ⟨by rw [meetI_self h ha]; exact hasI_nat a, by rw [meetI_self (tr_order h) ha]; exact hasI_nat a⟩
/-- It is enough to look at pairs of which the second is less. -/
theorem lattice_of_less {m : Mx} (h : IsOrder m) (hp : ∀ a, a < m.n → ∀ b, b < a → MJ m a b) : IsLattice m :=
  ⟨h, fun a b ha hb => by
    rcases Nat.lt_trichotomy a b with h1 | h1 | h1
    · exact (hp b hb a h1).comm
    · subst h1; exact MJ.self h ha
    · exact hp a ha b h1⟩
end Go.Proofs.Ytcplljeglaolgaa
