/- The plain mathematics of orders as rows of numbers: no program is named here. -/
namespace Go.Proofs.Ytcplljeglaolgaa

/-- The numbers as data: so many rows, their lengths, what they hold. -/
structure Mx where
  n : Nat
  L : Nat → Nat
  Z : Nat → Nat → Int

structure Square (m : Mx) : Prop where
  len : ∀ r, r < m.n → m.L r = m.n
  bit : ∀ r, r < m.n → ∀ c, c < m.n → m.Z r c = 0 ∨ m.Z r c = 1

structure IsOrder (m : Mx) : Prop where
  pos : 1 ≤ m.n
  top : m.n ≤ 12
  sq : Square m
  refl : ∀ a, a < m.n → m.Z a a = 1
  anti : ∀ a b, a < m.n → b < m.n → a ≠ b → m.Z a b = 1 → m.Z b a = 0
  trans : ∀ a b c, a < m.n → b < m.n → c < m.n → m.Z a b = 1 → m.Z b c = 1 → m.Z a c = 1

/-- Nothing speaks against the pair. -/
structure PairOk (m : Mx) (a b : Nat) : Prop where
  refl : a = b → m.Z a b = 1
  anti : a ≠ b → m.Z a b = 1 → m.Z b a = 0
  trans : ∀ c, c < m.n → m.Z a b = 1 → m.Z b c = 1 → m.Z a c = 1

open Classical in
noncomputable def orderB (m : Mx) : Bool := decide (IsOrder m)
open Classical in
theorem orderB_true {m : Mx} (h : IsOrder m) : orderB m = true := by unfold orderB; exact decide_eq_true h
open Classical in
theorem orderB_false {m : Mx} (h : ¬ IsOrder m) : orderB m = false := by unfold orderB; exact decide_eq_false h
open Classical in
theorem orderB_is {m : Mx} (h : orderB m = true) : IsOrder m := by unfold orderB at h; exact of_decide_eq_true h
open Classical in
theorem orderB_not {m : Mx} (h : orderB m = false) : ¬ IsOrder m := by unfold orderB at h; exact of_decide_eq_false h
theorem isOrder_of {m : Mx} (h1 : 1 ≤ m.n) (h2 : m.n ≤ 12) (hs : Square m) (hp : ∀ a, a < m.n → ∀ b, b < m.n → PairOk m a b) : IsOrder m :=
  ⟨h1, h2, hs, fun a ha => (hp a ha a ha).refl rfl, fun a b ha hb => (hp a ha b hb).anti, fun a b c ha hb hc => (hp a ha b hb).trans c hc⟩
/-! ### Tests over all numbers below a bound; the first one that fits -/
def allB (n : Nat) (f : Nat → Bool) : Bool := (List.range n).all f
theorem allB_true {n : Nat} {f : Nat → Bool} (h : ∀ i, i < n → f i = true) : allB n f = true := by
  unfold allB; rw [List.all_eq_true]; intro x hx; exact h x (List.mem_range.1 hx)
theorem allB_false {n : Nat} {f : Nat → Bool} {k : Nat} (hk : k < n) (h : f k = false) : allB n f = false := by
  unfold allB; rw [List.all_eq_false]; exact ⟨k, List.mem_range.2 hk, by rw [h]; decide⟩
theorem allB_is {n : Nat} {f : Nat → Bool} (h : allB n f = true) : ∀ i, i < n → f i = true := by
  unfold allB at h; rw [List.all_eq_true] at h; exact fun i hi => h i (List.mem_range.2 hi)

/-- The first number below n that fits; -1 if there is none. -/
def firstI : Nat → (Nat → Bool) → Int
  | 0, _ => -1
  | n + 1, f => if firstI n f = -1 then (if f n = true then (n : Int) else -1) else firstI n f
theorem firstI_none {n : Nat} {f : Nat → Bool} (h : ∀ i, i < n → f i = false) : firstI n f = -1 := by
  induction n with
  | zero => rfl
  | succ n ih =>
    have h1 := ih fun i hi => h i (by omega)
    simp [firstI, h1, h n (by omega)]
theorem firstI_hit {n : Nat} {f : Nat → Bool} {k : Nat} (hk : k < n) (h0 : ∀ i, i < k → f i = false) (h1 : f k = true) : firstI n f = (k : Int) := by
  induction n with
  | zero => omega
  | succ n ih =>
    by_cases e : k = n
    · subst e
      simp [firstI, firstI_none h0, h1]
    · have h2 := ih (by omega)
      have h3 : firstI n f ≠ -1 := by omega
      simp only [firstI, if_neg h3]
      exact h2
/-- Either none fits, or there is a first one. -/
theorem firstI_ways (n : Nat) (f : Nat → Bool) : (firstI n f = -1 ∧ ∀ i, i < n → f i = false) ∨ ∃ k, k < n ∧ firstI n f = (k : Int) ∧ f k = true ∧ ∀ i, i < k → f i = false := by
  induction n with
  | zero => exact .inl ⟨rfl, fun i hi => absurd hi (Nat.not_lt_zero _)⟩
  | succ n ih =>
    rcases ih with ⟨h1, h2⟩ | ⟨k, hk, h1, h2, h3⟩
    · cases hf : f n with
      | false =>
        refine .inl ⟨by simp [firstI, h1, hf], fun i hi => ?_⟩
        by_cases e : i = n
        · subst e; exact hf
        · exact h2 i (by omega)
      | true => exact .inr ⟨n, by omega, by simp [firstI, h1, hf], hf, h2⟩
    · have h4 : firstI n f ≠ -1 := by omega
      refine .inr ⟨k, by omega, ?_, h2, h3⟩
      simp only [firstI, if_neg h4]
      exact h1

def leB (m : Mx) (a b : Nat) : Bool := m.Z a b == 1
def takesB (m : Mx) (a b : Nat) : Bool := allB m.n fun c => !leB m c a || leB m c b
def bothB (m : Mx) (c a b : Nat) : Bool := leB m c a && leB m c b
def ubB (m : Mx) (x a b : Nat) : Bool := allB m.n fun c => !bothB m c a b || leB m c x
def isMeetB (m : Mx) (a b x : Nat) : Bool := bothB m x a b && ubB m x a b
def meetI (m : Mx) (a b : Nat) : Int := firstI m.n (isMeetB m a b)
def belowAllB (m : Mx) (a : Nat) : Bool := allB m.n fun b => leB m a b
def leastI (m : Mx) : Int := firstI m.n (belowAllB m)
/-- The order turned round. -/
def tr (m : Mx) : Mx := ⟨m.n, fun _ => m.n, fun a b => m.Z b a⟩
def sumTo : Nat → (Nat → Int) → Int
  | 0, _ => 0
  | n + 1, f => sumTo n f + f n
def countI (m : Mx) (a : Nat) : Int := sumTo m.n fun r => m.Z r a
def hasI (i : Int) : Bool := decide (0 ≤ i)
theorem hasI_nat (k : Nat) : hasI (k : Int) = true := by unfold hasI; simp
theorem hasI_none : hasI (-1) = false := rfl
open Classical in
noncomputable def squareB (m : Mx) : Bool := decide (Square m)
open Classical in
theorem squareB_true {m : Mx} (h : Square m) : squareB m = true := by unfold squareB; exact decide_eq_true h
open Classical in
theorem squareB_false {m : Mx} (h : ¬ Square m) : squareB m = false := by unfold squareB; exact decide_eq_false h
open Classical in
theorem squareB_is {m : Mx} (h : squareB m = true) : Square m := by unfold squareB at h; exact of_decide_eq_true h
open Classical in
theorem squareB_not {m : Mx} (h : squareB m = false) : ¬ Square m := by unfold squareB at h; exact of_decide_eq_false h
theorem leB_is {m : Mx} {a b : Nat} (h : leB m a b = true) : m.Z a b = 1 := by simpa [leB] using h
theorem leB_mk {m : Mx} {a b : Nat} (h : m.Z a b = 1) : leB m a b = true := by simpa [leB] using h
theorem leB_not {m : Mx} {a b : Nat} (h : leB m a b = false) : m.Z a b ≠ 1 := by simpa [leB] using h
theorem takesB_is {m : Mx} {a b : Nat} (h : takesB m a b = true) : ∀ c, c < m.n → m.Z c a = 1 → m.Z c b = 1 := by
  intro c hc h1
  have := allB_is h c hc
  rw [leB_mk h1] at this
  exact leB_is (by simpa using this)
theorem takesB_mk {m : Mx} {a b : Nat} (h : ∀ c, c < m.n → m.Z c a = 1 → m.Z c b = 1) : takesB m a b = true :=
  allB_true fun c hc => by
    cases h1 : leB m c a with
    | false => rfl
    | true => rw [leB_mk (h c hc (leB_is h1))]; rfl
/-- What the program asks of a pair. -/
structure PairG (m : Mx) (a b : Nat) : Prop where
  both : (leB m a b && leB m b a) = decide (a = b)
  takes : leB m a b = true → takesB m a b = true
theorem pairG_of_order {m : Mx} (h : IsOrder m) {a b : Nat} (ha : a < m.n) (hb : b < m.n) : PairG m a b := by
  refine ⟨?_, fun h1 => takesB_mk fun c hc h2 => h.trans c a b hc ha hb h2 (leB_is h1)⟩
  by_cases e : a = b
  · subst e; simp [leB_mk (h.refl a ha)]
  · have hd : decide (a = b) = false := decide_eq_false e
    rw [hd]
    cases h1 : leB m a b with
    | false => rfl
    | true =>
      have := h.anti a b ha hb e (leB_is h1)
      simp [leB, this]
theorem order_of_pairG {m : Mx} (h1 : 1 ≤ m.n) (h2 : m.n ≤ 12) (hs : Square m) (hp : ∀ a b, a < m.n → b < m.n → PairG m a b) : IsOrder m := by
  refine ⟨h1, h2, hs, fun a ha => ?_, fun a b ha hb hne h => ?_, fun a b c ha hb hc h h' => ?_⟩
  · have := (hp a a ha ha).both
    exact leB_is (by simpa using this)
  · have := (hp a b ha hb).both
    rw [leB_mk h] at this
    have hd : decide (a = b) = false := decide_eq_false hne
    rw [hd] at this
    have h3 := leB_not (a := b) (b := a) (by simpa using this)
    rcases hs.bit b hb a ha with h4 | h4
    · exact h4
    · exact absurd h4 h3
  · exact takesB_is ((hp b c hb hc).takes (leB_mk h')) a ha h
theorem takesB_self (m : Mx) (a : Nat) : takesB m a a = true := takesB_mk fun _ _ h => h
/-- All numbers of a list of answers are answers. -/
def goodB (n k : Nat) (z : Nat → Int) : Bool := allB k fun i => decide (0 ≤ z i) && decide (z i < (n : Int))
open Classical in
/-- What MeetOf tells: the meeting of two answers of an order; -1 for others. -/
noncomputable def meetV (m : Mx) (a b : Int) : Int := if orderB m = true ∧ 0 ≤ a ∧ a < (m.n : Int) ∧ 0 ≤ b ∧ b < (m.n : Int) then meetI m a.toNat b.toNat else -1
noncomputable def leastV (m : Mx) : Int := if orderB m = true then leastI m else -1
theorem meetV_no {m : Mx} {a b : Int} (h : ¬ (orderB m = true ∧ 0 ≤ a ∧ a < (m.n : Int) ∧ 0 ≤ b ∧ b < (m.n : Int))) : meetV m a b = -1 := by unfold meetV; rw [if_neg h]
theorem meetV_yes {m : Mx} {a b : Nat} (h : orderB m = true) (ha : a < m.n) (hb : b < m.n) : meetV m a b = meetI m a b := by
  unfold meetV; rw [if_pos ⟨h, by omega, by omega, by omega, by omega⟩]; simp
theorem leastV_no {m : Mx} (h : orderB m = false) : leastV m = -1 := by unfold leastV; rw [h]; simp
theorem leastV_yes {m : Mx} (h : orderB m = true) : leastV m = leastI m := by unfold leastV; rw [if_pos h]
def two (a b : Int) : Nat → Int := fun i => if i = 0 then a else b
theorem good_two {n : Nat} {a b : Int} (h : goodB n 2 (two a b) = true) : 0 ≤ a ∧ a < (n : Int) ∧ 0 ≤ b ∧ b < (n : Int) := by
  have h0 := allB_is h 0 (by omega)
  have h1 := allB_is h 1 (by omega)
  simp [two] at h0 h1
  omega
theorem bad_two {n : Nat} {a b : Int} (h : goodB n 2 (two a b) = false) : ¬ (0 ≤ a ∧ a < (n : Int) ∧ 0 ≤ b ∧ b < (n : Int)) := by
  intro hh
  have : goodB n 2 (two a b) = true := allB_true fun i hi => by
    unfold two
    by_cases e : i = 0
    · subst e; simp; omega
    · simp [e]; omega
  rw [h] at this
  cases this
theorem good_nil (n : Nat) (z : Nat → Int) : goodB n 0 z = true := allB_true fun _ hi => absurd hi (Nat.not_lt_zero _)
end Go.Proofs.Ytcplljeglaolgaa
