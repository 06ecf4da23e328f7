/- The plain mathematics of meetings: the reference's scan finds what the program's search finds. -/
import Derived.Test.YtcplljeglaolgaaMath
namespace Go.Proofs.Ytcplljeglaolgaa

/-- The reference's scan for the greatest one below both: the best one among the first k. -/
def bestI (m : Mx) (a b : Nat) : Nat → Int
  | 0 => -1
  | k + 1 => if bothB m k a b = true ∧ (bestI m a b k < 0 ∨ leB m (bestI m a b k).toNat k = true) then (k : Int) else bestI m a b k

theorem bestI_ways (m : Mx) (a b k : Nat) : (bestI m a b k = -1 ∧ ∀ i, i < k → bothB m i a b = false) ∨ ∃ x, x < k ∧ bestI m a b k = (x : Int) ∧ bothB m x a b = true := by
  induction k with
  | zero => exact .inl ⟨rfl, fun i hi => absurd hi (Nat.not_lt_zero _)⟩
  | succ k ih =>
    by_cases h : bothB m k a b = true ∧ (bestI m a b k < 0 ∨ leB m (bestI m a b k).toNat k = true)
    · exact .inr ⟨k, by omega, by rw [bestI, if_pos h], h.1⟩
    · have he : bestI m a b (k + 1) = bestI m a b k := by rw [bestI, if_neg h]
      rcases ih with ⟨h1, h2⟩ | ⟨x, hx, h1, h2⟩
      · refine .inl ⟨by rw [he, h1], fun i hi => ?_⟩
        by_cases e : i = k
        · subst e
          cases hb : bothB m i a b with
          | false => rfl
          | true => exact absurd ⟨hb, .inl (by omega)⟩ h
        · exact h2 i (by omega)
      · exact .inr ⟨x, by omega, by rw [he, h1], h2⟩
theorem bestI_step_yes {m : Mx} {a b k : Nat} (h : bothB m k a b = true) (h2 : bestI m a b k < 0 ∨ leB m (bestI m a b k).toNat k = true) : bestI m a b (k + 1) = (k : Int) := by
  rw [bestI, if_pos ⟨h, h2⟩]
theorem bestI_step_no {m : Mx} {a b k : Nat} (h : ¬ (bothB m k a b = true ∧ (bestI m a b k < 0 ∨ leB m (bestI m a b k).toNat k = true))) : bestI m a b (k + 1) = bestI m a b k := by
  rw [bestI, if_neg h]

theorem isMeet_parts {m : Mx} {a b x : Nat} (h : isMeetB m a b x = true) : bothB m x a b = true ∧ ∀ c, c < m.n → bothB m c a b = true → leB m c x = true := by
  unfold isMeetB at h
  rw [Bool.and_eq_true] at h
  refine ⟨h.1, fun c hc hb => ?_⟩
  have := allB_is h.2 c hc
  rw [hb] at this
  simpa using this
theorem isMeet_mk {m : Mx} {a b x : Nat} (h1 : bothB m x a b = true) (h2 : ∀ c, c < m.n → bothB m c a b = true → leB m c x = true) : isMeetB m a b x = true := by
  unfold isMeetB
  rw [h1, Bool.true_and]
  refine allB_true fun c hc => ?_
  cases hb : bothB m c a b with
  | false => rfl
  | true => rw [h2 c hc hb]; rfl
theorem le_anti {m : Mx} (h : IsOrder m) {x y : Nat} (hx : x < m.n) (hy : y < m.n) (h1 : leB m x y = true) (h2 : leB m y x = true) : x = y := by
  by_cases e : x = y
  · exact e
  · have := h.anti x y hx hy e (leB_is h1)
    have := leB_is h2
    omega

theorem bestI_meet {m : Mx} (h : IsOrder m) {a b x : Nat} (hx : x < m.n) (hm : isMeetB m a b x = true) : ∀ k, x < k → k ≤ m.n → bestI m a b k = (x : Int) := by
  obtain ⟨h1, h2⟩ := isMeet_parts hm
  intro k
  induction k with
  | zero => intro hk; exact absurd hk (Nat.not_lt_zero _)
  | succ k ih =>
    intro hk hkn
    by_cases e : k = x
    · subst e
      refine bestI_step_yes h1 ?_
      rcases bestI_ways m a b k with ⟨h3, _⟩ | ⟨y, hy, h3, h4⟩
      · exact .inl (by omega)
      · right
        rw [h3]
        exact h2 y (by omega) h4
    · have hb := ih (by omega) (by omega)
      rw [bestI_step_no, hb]
      rintro ⟨h3, h4⟩
      rw [hb] at h4
      rcases h4 with h4 | h4
      · omega
      · have h5 := h2 k (by omega) h3
        exact e (le_anti h (by omega) hx h5 (by simpa using h4))

/-- The scan passed: it is the meeting, or there is none. -/
theorem meetI_pass {m : Mx} (h : IsOrder m) {a b : Nat} (hp : ∀ k, k < m.n → bothB m k a b = true → ∀ x : Nat, bestI m a b m.n = (x : Int) → leB m k x = true) : meetI m a b = bestI m a b m.n := by
  rcases bestI_ways m a b m.n with ⟨h1, h2⟩ | ⟨x, hx, h1, h2⟩
  · rw [h1]
    exact firstI_none fun i hi => by
      cases hh : isMeetB m a b i with
      | false => rfl
      | true =>
        have := (isMeet_parts hh).1
        rw [h2 i hi] at this
        cases this
  · have hm : isMeetB m a b x = true := isMeet_mk h2 fun c hc hb => hp c hc hb x h1
    rcases firstI_ways m.n (isMeetB m a b) with ⟨_, h4⟩ | ⟨y, hy, h3, h4, _⟩
    · rw [h4 x hx] at hm; cases hm
    · have := bestI_meet h hy h4 m.n hy (Nat.le_refl _)
      show firstI _ _ = _
      rw [h3, this]
theorem meetI_fail {m : Mx} (h : IsOrder m) {a b k x : Nat} (hk : k < m.n) (hb : bothB m k a b = true) (hx : bestI m a b m.n = (x : Int)) (hn : leB m k x = false) : meetI m a b = -1 :=
  firstI_none fun i hi => by
    cases hh : isMeetB m a b i with
    | false => rfl
    | true =>
      have h1 := bestI_meet h hi hh m.n hi (Nat.le_refl _)
      have h2 := (isMeet_parts hh).2 k hk hb
      have : i = x := by omega
      subst this
      rw [hn] at h2; cases h2

theorem tr_order {m : Mx} (h : IsOrder m) : IsOrder (tr m) :=
  ⟨h.pos, h.top, ⟨fun _ _ => rfl, fun r hr c hc => h.sq.bit c hc r hr⟩, h.refl, fun a b ha hb hne h1 => by
    have h1' : m.Z b a = 1 := h1
    exact h.anti b a hb ha (Ne.symm hne) h1', fun a b c ha hb hc h1 h2 => h.trans c b a hc hb ha h2 h1⟩
theorem leB_cases {m : Mx} (h : Square m) {a b : Nat} (ha : a < m.n) (hb : b < m.n) : (leB m a b = true ∧ m.Z a b = 1) ∨ (leB m a b = false ∧ m.Z a b = 0) := by
  rcases h.bit a ha b hb with h1 | h1
  · exact .inr ⟨by simp [leB, h1], h1⟩
  · exact .inl ⟨by simp [leB, h1], h1⟩
end Go.Proofs.Ytcplljeglaolgaa
