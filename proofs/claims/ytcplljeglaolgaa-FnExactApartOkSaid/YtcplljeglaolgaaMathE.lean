/- Orders: a least answer meets every answer in itself; meetings are below both. -/
import Derived.Test.YtcplljeglaolgaaMathD
namespace Go.Proofs.Ytcplljeglaolgaa

theorem meetI_of {m : Mx} (h : IsOrder m) {a b x : Nat} (hx : x < m.n) (hm : isMeetB m a b x = true) : meetI m a b = (x : Int) := by
  rcases firstI_ways m.n (isMeetB m a b) with ⟨_, hno⟩ | ⟨k, hk, he, h1, _⟩
  · rw [hno x hx] at hm; cases hm
  · have p := isMeet_parts hm
    have q := isMeet_parts h1
    have : k = x := le_anti h hk hx (p.2 k hk q.1) (q.2 x hx p.1)
    unfold meetI
    rw [he, this]
theorem meetI_parts {m : Mx} {a b : Nat} (h : hasI (meetI m a b) = true) : ∃ x, x < m.n ∧ meetI m a b = (x : Int) ∧ m.Z x a = 1 ∧ m.Z x b = 1 ∧ ∀ c, c < m.n → m.Z c a = 1 → m.Z c b = 1 → m.Z c x = 1 := by
  rcases firstI_ways m.n (isMeetB m a b) with ⟨he, _⟩ | ⟨k, hk, he, h1, _⟩
  · have he' : meetI m a b = -1 := he
    rw [he'] at h
    cases h
  · obtain ⟨p, q⟩ := isMeet_parts h1
    have p' := p
    unfold bothB at p'
    rw [Bool.and_eq_true] at p'
    exact ⟨k, hk, he, leB_is p'.1, leB_is p'.2, fun c hc ha hb => leB_is (q c hc (by unfold bothB; rw [leB_mk ha, leB_mk hb]; rfl))⟩
theorem least_parts {m : Mx} (h : IsOrder m) (hl : hasI (leastI m) = true) : ∃ x, x < m.n ∧ leastI m = (x : Int) ∧ ∀ k, k < m.n → m.Z x k = 1 ∧ meetI m x k = (x : Int) := by
  rcases firstI_ways m.n (belowAllB m) with ⟨he, _⟩ | ⟨x, hx, he, h1, _⟩
  · have he' : leastI m = -1 := he
    rw [he'] at hl
    cases hl
  · refine ⟨x, hx, he, fun k hk => ?_⟩
    have hb := allB_is h1
    refine ⟨leB_is (hb k hk), meetI_of h hx (isMeet_mk ?_ fun c _ hc => ?_)⟩
    · unfold bothB
      rw [hb x hx, hb k hk]; rfl
    · unfold bothB at hc
      rw [Bool.and_eq_true] at hc
      exact hc.1
theorem least_not {m : Mx} (hl : hasI (leastI m) = false) : leastI m = -1 := by
  rcases firstI_ways m.n (belowAllB m) with ⟨he, _⟩ | ⟨x, hx, he, h1, _⟩
  · exact he
  · have he' : leastI m = (x : Int) := he
    rw [he', hasI_nat] at hl
    cases hl
end Go.Proofs.Ytcplljeglaolgaa
