
namespace Go.Proofs.Ytmchgclaeipoeaa

/-- The numbers as data: so many rows, their lengths, what they hold. -/
structure Mx where
  n : Nat
  L : Nat → Nat
  Z : Nat → Nat → Int

structure Square (m : Mx) : Prop where
  len : ∀ r, r < m.n → m.L r = m.n
  bit : ∀ r, r < m.n → ∀ c, c < m.n → m.Z r c = 0 ∨ m.Z r c = 1

structure IsOrder (m : Mx) : Prop where
  pos : 1 ≤ m.n
  top : m.n ≤ 12
  sq : Square m
  refl : ∀ a, a < m.n → m.Z a a = 1
  anti : ∀ a b, a < m.n → b < m.n → a ≠ b → m.Z a b = 1 → m.Z b a = 0
  trans : ∀ a b c, a < m.n → b < m.n → c < m.n → m.Z a b = 1 → m.Z b c = 1 → m.Z a c = 1

/-- Nothing speaks against the pair. -/
structure PairOk (m : Mx) (a b : Nat) : Prop where
  refl : a = b → m.Z a b = 1
  anti : a ≠ b → m.Z a b = 1 → m.Z b a = 0
  trans : ∀ c, c < m.n → m.Z a b = 1 → m.Z b c = 1 → m.Z a c = 1

open Classical in
noncomputable def orderB (m : Mx) : Bool := decide (IsOrder m)
open Classical in
theorem orderB_true {m : Mx} (h : IsOrder m) : orderB m = true := by unfold orderB; exact decide_eq_true h
open Classical in
theorem orderB_false {m : Mx} (h : ¬ IsOrder m) : orderB m = false := by unfold orderB; exact decide_eq_false h
open Classical in
theorem orderB_is {m : Mx} (h : orderB m = true) : IsOrder m := by unfold orderB at h; exact of_decide_eq_true h
open Classical in
theorem orderB_not {m : Mx} (h : orderB m = false) : ¬ IsOrder m := by unfold orderB at h; exact of_decide_eq_false h
theorem isOrder_of {m : Mx} (h1 : 1 ≤ m.n) (h2 : m.n ≤ 12) (hs : Square m) (hp : ∀ a, a < m.n → ∀ b, b < m.n → PairOk m a b) : IsOrder m :=
  ⟨h1, h2, hs, fun a ha => (hp a ha a ha).refl rfl, fun a b ha hb => (hp a ha b hb).anti, fun a b c ha hb hc => (hp a ha b hb).trans c hc⟩
def allB (n : Nat) (f : Nat → Bool) : Bool := (List.range n).all f
theorem allB_true {n : Nat} {f : Nat → Bool} (h : ∀ i, i < n → f i = true) : allB n f = true := by
  unfold allB; rw [List.all_eq_true]; intro x hx; exact h x (List.mem_range.1 hx)
theorem allB_false {n : Nat} {f : Nat → Bool} {k : Nat} (hk : k < n) (h : f k = false) : allB n f = false := by
  unfold allB; rw [List.all_eq_false]; exact ⟨k, List.mem_range.2 hk, by rw [h]; decide⟩
theorem allB_is {n : Nat} {f : Nat → Bool} (h : allB n f = true) : ∀ i, i < n → f i = true := by
  unfold allB at h; rw [List.all_eq_true] at h; exact fun i hi => h i (List.mem_range.2 hi)

/-- The first number below n that fits; -1 if there is none. -/
def firstI : Nat → (Nat → Bool) → Int
  | 0, _ => -1
  | n + 1, f => if firstI n f = -1 then (if f n = true then (n : Int) else -1) else firstI n f
theorem firstI_none {n : Nat} {f : Nat → Bool} (h : ∀ i, i < n → f i = false) : firstI n f = -1 := by
  induction n with
  | zero => rfl
  | succ n ih =>
    have h1 := ih fun i hi => h i (by omega)
    simp [firstI, h1, h n (by omega)]
theorem firstI_hit {n : Nat} {f : Nat → Bool} {k : Nat} (hk : k < n) (h0 : ∀ i, i < k → f i = false) (h1 : f k = true) : firstI n f = (k : Int) := by
  induction n with
  | zero => omega
  | succ n ih =>
    by_cases e : k = n
    · subst e
      simp [firstI, firstI_none h0, h1]
    · have h2 := ih (by omega)
      have h3 : firstI n f ≠ -1 := by omega
      simp only [firstI, if_neg h3]
      exact h2
/-- Either none fits, or there is a first one. -/
theorem firstI_ways (n : Nat) (f : Nat → Bool) : (firstI n f = -1 ∧ ∀ i, i < n → f i = false) ∨ ∃ k, k < n ∧ firstI n f = (k : Int) ∧ f k = true ∧ ∀ i, i < k → f i = false := by
  induction n with
  | zero => exact .inl ⟨rfl, fun i hi => absurd hi (Nat.not_lt_zero _)⟩
  | succ n ih =>
    rcases ih with ⟨h1, h2⟩ | ⟨k, hk, h1, h2, h3⟩
    · cases hf : f n with
      | false =>
        refine .inl ⟨by simp [firstI, h1, hf], fun i hi => ?_⟩
        by_cases e : i = n
        · subst e; exact hf
        · exact h2 i (by omega)
      | true => exact .inr ⟨n, by omega, by simp [firstI, h1, hf], hf, h2⟩
    · have h4 : firstI n f ≠ -1 := by omega
      refine .inr ⟨k, by omega, ?_, h2, h3⟩
      simp only [firstI, if_neg h4]
      exact h1

def leB (m : Mx) (a b : Nat) : Bool := m.Z a b == 1
def takesB (m : Mx) (a b : Nat) : Bool := allB m.n fun c => !leB m c a || leB m c b
def bothB (m : Mx) (c a b : Nat) : Bool := leB m c a && leB m c b
def ubB (m : Mx) (x a b : Nat) : Bool := allB m.n fun c => !bothB m c a b || leB m c x
def isMeetB (m : Mx) (a b x : Nat) : Bool := bothB m x a b && ubB m x a b
def meetI (m : Mx) (a b : Nat) : Int := firstI m.n (isMeetB m a b)
def belowAllB (m : Mx) (a : Nat) : Bool := allB m.n fun b => leB m a b
def leastI (m : Mx) : Int := firstI m.n (belowAllB m)
/-- The order turned round. -/
def tr (m : Mx) : Mx := ⟨m.n, fun _ => m.n, fun a b => m.Z b a⟩
def hasI (i : Int) : Bool := decide (0 ≤ i)
theorem hasI_nat (k : Nat) : hasI (k : Int) = true := by unfold hasI; simp
open Classical in
noncomputable def squareB (m : Mx) : Bool := decide (Square m)
open Classical in
theorem squareB_true {m : Mx} (h : Square m) : squareB m = true := by unfold squareB; exact decide_eq_true h
open Classical in
theorem squareB_false {m : Mx} (h : ¬ Square m) : squareB m = false := by unfold squareB; exact decide_eq_false h
theorem leB_is {m : Mx} {a b : Nat} (h : leB m a b = true) : m.Z a b = 1 := by simpa [leB] using h
theorem leB_mk {m : Mx} {a b : Nat} (h : m.Z a b = 1) : leB m a b = true := by simpa [leB] using h
theorem leB_not {m : Mx} {a b : Nat} (h : leB m a b = false) : m.Z a b ≠ 1 := by simpa [leB] using h
theorem takesB_is {m : Mx} {a b : Nat} (h : takesB m a b = true) : ∀ c, c < m.n → m.Z c a = 1 → m.Z c b = 1 := by
  intro c hc h1
  have := allB_is h c hc
  rw [leB_mk h1] at this
  exact leB_is (by simpa using this)
theorem takesB_mk {m : Mx} {a b : Nat} (h : ∀ c, c < m.n → m.Z c a = 1 → m.Z c b = 1) : takesB m a b = true :=
  allB_true fun c hc => by
    cases h1 : leB m c a with
    | false => rfl
    | true => rw [leB_mk (h c hc (leB_is h1))]; rfl
/-- What the program asks of a pair. -/
structure PairG (m : Mx) (a b : Nat) : Prop where
  both : (leB m a b && leB m b a) = decide (a = b)
  takes : leB m a b = true → takesB m a b = true
theorem pairG_of_order {m : Mx} (h : IsOrder m) {a b : Nat} (ha : a < m.n) (hb : b < m.n) : PairG m a b := by
  refine ⟨?_, fun h1 => takesB_mk fun c hc h2 => h.trans c a b hc ha hb h2 (leB_is h1)⟩
  by_cases e : a = b
  · subst e; simp [leB_mk (h.refl a ha)]
  · have hd : decide (a = b) = false := decide_eq_false e
    rw [hd]
    cases h1 : leB m a b with
    | false => rfl
    | true =>
      have := h.anti a b ha hb e (leB_is h1)
      simp [leB, this]
theorem order_of_pairG {m : Mx} (h1 : 1 ≤ m.n) (h2 : m.n ≤ 12) (hs : Square m) (hp : ∀ a b, a < m.n → b < m.n → PairG m a b) : IsOrder m := by
  refine ⟨h1, h2, hs, fun a ha => ?_, fun a b ha hb hne h => ?_, fun a b c ha hb hc h h' => ?_⟩
  · have := (hp a a ha ha).both
    exact leB_is (by simpa using this)
  · have := (hp a b ha hb).both
    rw [leB_mk h] at this
    have hd : decide (a = b) = false := decide_eq_false hne
    rw [hd] at this
    have h3 := leB_not (a := b) (b := a) (by simpa using this)
    rcases hs.bit b hb a ha with h4 | h4
    · exact h4
    · exact absurd h4 h3
  · exact takesB_is ((hp b c hb hc).takes (leB_mk h')) a ha h
theorem takesB_self (m : Mx) (a : Nat) : takesB m a a = true := takesB_mk fun _ _ h => h
/-- All numbers of a list of answers are answers. -/
def goodB (n k : Nat) (z : Nat → Int) : Bool := allB k fun i => decide (0 ≤ z i) && decide (z i < (n : Int))
noncomputable def leastV (m : Mx) : Int := if orderB m = true then leastI m else -1
theorem leastV_no {m : Mx} (h : orderB m = false) : leastV m = -1 := by unfold leastV; rw [h]; simp
theorem leastV_yes {m : Mx} (h : orderB m = true) : leastV m = leastI m := by unfold leastV; rw [if_pos h]
def two (a b : Int) : Nat → Int := fun i => if i = 0 then a else b
theorem good_nil (n : Nat) (z : Nat → Int) : goodB n 0 z = true := allB_true fun _ hi => absurd hi (Nat.not_lt_zero _)
end Go.Proofs.Ytmchgclaeipoeaa
namespace Go.Proofs.Ytmchgclaeipoeaa

/-- The reference's scan for the greatest one below both: the best one among the first k. -/
def bestI (m : Mx) (a b : Nat) : Nat → Int
  | 0 => -1
  | k + 1 => if bothB m k a b = true ∧ (bestI m a b k < 0 ∨ leB m (bestI m a b k).toNat k = true) then (k : Int) else bestI m a b k

theorem bestI_ways (m : Mx) (a b k : Nat) : (bestI m a b k = -1 ∧ ∀ i, i < k → bothB m i a b = false) ∨ ∃ x, x < k ∧ bestI m a b k = (x : Int) ∧ bothB m x a b = true := by
  induction k with
  | zero => exact .inl ⟨rfl, fun i hi => absurd hi (Nat.not_lt_zero _)⟩
  | succ k ih =>
    by_cases h : bothB m k a b = true ∧ (bestI m a b k < 0 ∨ leB m (bestI m a b k).toNat k = true)
    · exact .inr ⟨k, by omega, by rw [bestI, if_pos h], h.1⟩
    · have he : bestI m a b (k + 1) = bestI m a b k := by rw [bestI, if_neg h]
      rcases ih with ⟨h1, h2⟩ | ⟨x, hx, h1, h2⟩
      · refine .inl ⟨by rw [he, h1], fun i hi => ?_⟩
        by_cases e : i = k
        · subst e
          cases hb : bothB m i a b with
          | false => rfl
          | true => exact absurd ⟨hb, .inl (by omega)⟩ h
        · exact h2 i (by omega)
      · exact .inr ⟨x, by omega, by rw [he, h1], h2⟩
theorem bestI_step_yes {m : Mx} {a b k : Nat} (h : bothB m k a b = true) (h2 : bestI m a b k < 0 ∨ leB m (bestI m a b k).toNat k = true) : bestI m a b (k + 1) = (k : Int) := by
  rw [bestI, if_pos ⟨h, h2⟩]
theorem bestI_step_no {m : Mx} {a b k : Nat} (h : ¬ (bothB m k a b = true ∧ (bestI m a b k < 0 ∨ leB m (bestI m a b k).toNat k = true))) : bestI m a b (k + 1) = bestI m a b k := by
  rw [bestI, if_neg h]

theorem isMeet_parts {m : Mx} {a b x : Nat} (h : isMeetB m a b x = true) : bothB m x a b = true ∧ ∀ c, c < m.n → bothB m c a b = true → leB m c x = true := by
  unfold isMeetB at h
  rw [Bool.and_eq_true] at h
  refine ⟨h.1, fun c hc hb => ?_⟩
  have := allB_is h.2 c hc
  rw [hb] at this
  simpa using this
theorem isMeet_mk {m : Mx} {a b x : Nat} (h1 : bothB m x a b = true) (h2 : ∀ c, c < m.n → bothB m c a b = true → leB m c x = true) : isMeetB m a b x = true := by
  unfold isMeetB
  rw [h1, Bool.true_and]
  refine allB_true fun c hc => ?_
  cases hb : bothB m c a b with
  | false => rfl
  | true => rw [h2 c hc hb]; rfl
theorem le_anti {m : Mx} (h : IsOrder m) {x y : Nat} (hx : x < m.n) (hy : y < m.n) (h1 : leB m x y = true) (h2 : leB m y x = true) : x = y := by
  by_cases e : x = y
  · exact e
  · have := h.anti x y hx hy e (leB_is h1)
    have := leB_is h2
    omega

theorem bestI_meet {m : Mx} (h : IsOrder m) {a b x : Nat} (hx : x < m.n) (hm : isMeetB m a b x = true) : ∀ k, x < k → k ≤ m.n → bestI m a b k = (x : Int) := by
  obtain ⟨h1, h2⟩ := isMeet_parts hm
  intro k
  induction k with
  | zero => intro hk; exact absurd hk (Nat.not_lt_zero _)
  | succ k ih =>
    intro hk hkn
    by_cases e : k = x
    · subst e
      refine bestI_step_yes h1 ?_
      rcases bestI_ways m a b k with ⟨h3, _⟩ | ⟨y, hy, h3, h4⟩
      · exact .inl (by omega)
      · right
        rw [h3]
        exact h2 y (by omega) h4
    · have hb := ih (by omega) (by omega)
      rw [bestI_step_no, hb]
      rintro ⟨h3, h4⟩
      rw [hb] at h4
      rcases h4 with h4 | h4
      · omega
      · have h5 := h2 k (by omega) h3
        exact e (le_anti h (by omega) hx h5 (by simpa using h4))

/-- The scan passed: it is the meeting, or there is none. -/
theorem meetI_pass {m : Mx} (h : IsOrder m) {a b : Nat} (hp : ∀ k, k < m.n → bothB m k a b = true → ∀ x : Nat, bestI m a b m.n = (x : Int) → leB m k x = true) : meetI m a b = bestI m a b m.n := by
  rcases bestI_ways m a b m.n with ⟨h1, h2⟩ | ⟨x, hx, h1, h2⟩
  · rw [h1]
    exact firstI_none fun i hi => by
      cases hh : isMeetB m a b i with
      | false => rfl
      | true =>
        have := (isMeet_parts hh).1
        rw [h2 i hi] at this
        cases this
  · have hm : isMeetB m a b x = true := isMeet_mk h2 fun c hc hb => hp c hc hb x h1
    rcases firstI_ways m.n (isMeetB m a b) with ⟨_, h4⟩ | ⟨y, hy, h3, h4, _⟩
    · rw [h4 x hx] at hm; cases hm
    · have := bestI_meet h hy h4 m.n hy (Nat.le_refl _)
      show firstI _ _ = _
      rw [h3, this]
theorem meetI_fail {m : Mx} (h : IsOrder m) {a b k x : Nat} (hk : k < m.n) (hb : bothB m k a b = true) (hx : bestI m a b m.n = (x : Int)) (hn : leB m k x = false) : meetI m a b = -1 :=
  firstI_none fun i hi => by
    cases hh : isMeetB m a b i with
    | false => rfl
    | true =>
      have h1 := bestI_meet h hi hh m.n hi (Nat.le_refl _)
      have h2 := (isMeet_parts hh).2 k hk hb
      have : i = x := by omega
      subst this
      rw [hn] at h2; cases h2

theorem tr_order {m : Mx} (h : IsOrder m) : IsOrder (tr m) :=
  ⟨h.pos, h.top, ⟨fun _ _ => rfl, fun r hr c hc => h.sq.bit c hc r hr⟩, h.refl, fun a b ha hb hne h1 => by
    have h1' : m.Z b a = 1 := h1
    exact h.anti b a hb ha (Ne.symm hne) h1', fun a b c ha hb hc h1 h2 => h.trans c b a hc hb ha h2 h1⟩
theorem leB_cases {m : Mx} (h : Square m) {a b : Nat} (ha : a < m.n) (hb : b < m.n) : (leB m a b = true ∧ m.Z a b = 1) ∨ (leB m a b = false ∧ m.Z a b = 0) := by
  rcases h.bit a ha b hb with h1 | h1
  · exact .inr ⟨by simp [leB, h1], h1⟩
  · exact .inl ⟨by simp [leB, h1], h1⟩
end Go.Proofs.Ytmchgclaeipoeaa
namespace Go.Proofs.Ytmchgclaeipoeaa
theorem hasI_yes {i : Int} (h : 0 ≤ i) : hasI i = true := by unfold hasI; simpa using h
theorem hasI_is {i : Int} (h : hasI i = true) : 0 ≤ i := by unfold hasI at h; simpa using h
theorem meetI_range (m : Mx) (a b : Nat) : -1 ≤ meetI m a b ∧ meetI m a b < (m.n : Int) + 1 := by
  rcases firstI_ways m.n (isMeetB m a b) with ⟨h, _⟩ | ⟨k, hk, h, _⟩
  · show -1 ≤ firstI _ _ ∧ firstI _ _ < _; omega
  · show -1 ≤ firstI _ _ ∧ firstI _ _ < _; omega
/-- Both meet and join. -/
structure MJ (m : Mx) (a b : Nat) : Prop where
  meets : hasI (meetI m a b) = true
  joins : hasI (meetI (tr m) a b) = true
structure IsLattice (m : Mx) : Prop where
  order : IsOrder m
  both : ∀ a b, a < m.n → b < m.n → MJ m a b
open Classical in
noncomputable def latticeB (m : Mx) : Bool := decide (IsLattice m)
open Classical in
theorem latticeB_true {m : Mx} (h : IsLattice m) : latticeB m = true := by unfold latticeB; exact decide_eq_true h
open Classical in
theorem latticeB_false {m : Mx} (h : ¬ IsLattice m) : latticeB m = false := by unfold latticeB; exact decide_eq_false h
open Classical in
theorem latticeB_is {m : Mx} (h : latticeB m = true) : IsLattice m := by unfold latticeB at h; exact of_decide_eq_true h
theorem bothB_comm (m : Mx) (c a b : Nat) : bothB m c a b = bothB m c b a := by unfold bothB; rw [Bool.and_comm]
theorem meetI_comm (m : Mx) (a b : Nat) : meetI m a b = meetI m b a := by
  unfold meetI
  have : isMeetB m a b = isMeetB m b a := by
    funext x
    unfold isMeetB ubB
    rw [bothB_comm m x a b]
    congr 1
    unfold allB
    congr 1
    funext c
    rw [bothB_comm m c a b]
  rw [this]
theorem MJ.comm {m : Mx} {a b : Nat} (h : MJ m a b) : MJ m b a := ⟨by rw [meetI_comm]; exact h.meets, by rw [meetI_comm]; exact h.joins⟩
/-- Of an answer and itself the meeting is this. -/
theorem meetI_self {m : Mx} (h : IsOrder m) {a : Nat} (ha : a < m.n) : meetI m a a = (a : Int) := by
  have hr : leB m a a = true := leB_mk (h.refl a ha)
  have hm : isMeetB m a a a = true := isMeet_mk (by unfold bothB; rw [hr]; rfl) fun c _ hb => by
    unfold bothB at hb
    rw [Bool.and_eq_true] at hb
    exact hb.1
  rcases firstI_ways m.n (isMeetB m a a) with ⟨_, h4⟩ | ⟨y, hy, h3, h4, _⟩
  · rw [h4 a ha] at hm; cases hm
  · have h5 := bestI_meet h hy h4 m.n hy (Nat.le_refl _)
    have h6 := bestI_meet h ha hm m.n ha (Nat.le_refl _)
    show firstI _ _ = _
    omega
theorem MJ.self {m : Mx} (h : IsOrder m) {a : Nat} (ha : a < m.n) : MJ m a a :=
  ⟨by rw [meetI_self h ha]; exact hasI_nat a, by rw [meetI_self (tr_order h) ha]; exact hasI_nat a⟩
/-- It is enough to look at pairs of which the second is less. -/
theorem lattice_of_less {m : Mx} (h : IsOrder m) (hp : ∀ a, a < m.n → ∀ b, b < a → MJ m a b) : IsLattice m :=
  ⟨h, fun a b ha hb => by
    rcases Nat.lt_trichotomy a b with h1 | h1 | h1
    · exact (hp b hb a h1).comm
    · subst h1; exact MJ.self h ha
    · exact hp a ha b h1⟩
end Go.Proofs.Ytmchgclaeipoeaa
namespace Go.Proofs.Ytmchgclaeipoeaa

end Go.Proofs.Ytmchgclaeipoeaa
namespace Go.Proofs.Ytmchgclaeipoeaa

theorem meetI_of {m : Mx} (h : IsOrder m) {a b x : Nat} (hx : x < m.n) (hm : isMeetB m a b x = true) : meetI m a b = (x : Int) := by
  rcases firstI_ways m.n (isMeetB m a b) with ⟨_, hno⟩ | ⟨k, hk, he, h1, _⟩
  · rw [hno x hx] at hm; cases hm
  · have p := isMeet_parts hm
    have q := isMeet_parts h1
    have : k = x := le_anti h hk hx (p.2 k hk q.1) (q.2 x hx p.1)
    unfold meetI
    rw [he, this]
theorem meetI_parts {m : Mx} {a b : Nat} (h : hasI (meetI m a b) = true) : ∃ x, x < m.n ∧ meetI m a b = (x : Int) ∧ m.Z x a = 1 ∧ m.Z x b = 1 ∧ ∀ c, c < m.n → m.Z c a = 1 → m.Z c b = 1 → m.Z c x = 1 := by
  rcases firstI_ways m.n (isMeetB m a b) with ⟨he, _⟩ | ⟨k, hk, he, h1, _⟩
  · have he' : meetI m a b = -1 := he
    rw [he'] at h
    cases h
  · obtain ⟨p, q⟩ := isMeet_parts h1
    have p' := p
    unfold bothB at p'
    rw [Bool.and_eq_true] at p'
    exact ⟨k, hk, he, leB_is p'.1, leB_is p'.2, fun c hc ha hb => leB_is (q c hc (by unfold bothB; rw [leB_mk ha, leB_mk hb]; rfl))⟩
theorem least_parts {m : Mx} (h : IsOrder m) (hl : hasI (leastI m) = true) : ∃ x, x < m.n ∧ leastI m = (x : Int) ∧ ∀ k, k < m.n → m.Z x k = 1 ∧ meetI m x k = (x : Int) := by
  rcases firstI_ways m.n (belowAllB m) with ⟨he, _⟩ | ⟨x, hx, he, h1, _⟩
  · have he' : leastI m = -1 := he
    rw [he'] at hl
    cases hl
  · refine ⟨x, hx, he, fun k hk => ?_⟩
    have hb := allB_is h1
    refine ⟨leB_is (hb k hk), meetI_of h hx (isMeet_mk ?_ fun c _ hc => ?_)⟩
    · unfold bothB
      rw [hb x hx, hb k hk]; rfl
    · unfold bothB at hc
      rw [Bool.and_eq_true] at hc
      exact hc.1
end Go.Proofs.Ytmchgclaeipoeaa
namespace Go.Proofs.Ytmchgclaeipoeaa

/-- One at x, nought elsewhere. -/
def one (x i : Nat) : Int := if i = x then 1 else 0
/-- Below all. -/
def BelowAll (m : Mx) (x : Nat) : Prop := ∀ k, k < m.n → m.Z x k = 1
theorem lattice_least {m : Mx} (h : IsLattice m) : ∃ x, x < m.n ∧ BelowAll m x := by
  have key : ∀ k, 1 ≤ k → k ≤ m.n → ∃ x, x < m.n ∧ ∀ i, i < k → m.Z x i = 1 := by
    intro k
    induction k with
    | zero => intro h1; omega
    | succ k ih =>
      intro _ hk
      by_cases e : k = 0
      · subst e
        exact ⟨0, by omega, fun i hi => by
          obtain rfl : i = 0 := by omega
          exact h.order.refl 0 (by omega)⟩
      · obtain ⟨x, hx, hxi⟩ := ih (by omega) (by omega)
        obtain ⟨y, hy, _, hyx, hyk, _⟩ := meetI_parts (h.both x k hx (by omega)).meets
        refine ⟨y, hy, fun i hi => ?_⟩
        by_cases e' : i = k
        · subst e'; exact hyk
        · exact h.order.trans y x i hy hx (by omega) hyx (hxi i (by omega))
  obtain ⟨x, hx, hxa⟩ := key m.n h.order.pos (Nat.le_refl _)
  exact ⟨x, hx, hxa⟩
theorem lattice_hasLeast {m : Mx} (h : IsLattice m) : hasI (leastI m) = true := by
  obtain ⟨x, hx, hl⟩ := lattice_least h
  rcases firstI_ways m.n (belowAllB m) with ⟨_, hno⟩ | ⟨k, _, he, _, _⟩
  · have h1 : belowAllB m x = true := allB_true fun k hk => leB_mk (hl k hk)
    rw [hno x hx] at h1; cases h1
  · have he' : leastI m = (k : Int) := he
    rw [he']; exact hasI_nat k
end Go.Proofs.Ytmchgclaeipoeaa
namespace Go.Proofs.Ytmchgclaeipoeaa

/-- Each of so many numbers is one below n, and the number at its place is the place. -/
structure IsPair (k n : Nat) (z : Nat → Int) : Prop where
  len : k = n
  lo : ∀ a, a < n → 0 ≤ z a
  hi : ∀ a, a < n → z a < (n : Int)
  inv : ∀ a, a < n → z (z a).toNat = (a : Int)
open Classical in
noncomputable def pairB (k n : Nat) (z : Nat → Int) : Bool := decide (IsPair k n z)
open Classical in
theorem pairB_true {k n : Nat} {z : Nat → Int} (h : IsPair k n z) : pairB k n z = true := by unfold pairB; exact decide_eq_true h
open Classical in
theorem pairB_false {k n : Nat} {z : Nat → Int} (h : ¬ IsPair k n z) : pairB k n z = false := by unfold pairB; exact decide_eq_false h
open Classical in
theorem pairB_is {k n : Nat} {z : Nat → Int} (h : pairB k n z = true) : IsPair k n z := by unfold pairB at h; exact of_decide_eq_true h
open Classical in
theorem pairB_not {k n : Nat} {z : Nat → Int} (h : pairB k n z = false) : ¬ IsPair k n z := by unfold pairB at h; exact of_decide_eq_false h
/-- The opposites as numbers from 0 on. -/
theorem IsPair.nat {k n : Nat} {z : Nat → Int} (h : IsPair k n z) : ∃ y : Nat → Nat, ∀ a, a < n → z a = (y a : Int) ∧ y a < n ∧ y (y a) = a := by
  refine ⟨fun a => (z a).toNat, fun a ha => ?_⟩
  have h1 := h.lo a ha
  have h2 := h.hi a ha
  have h3 := h.inv a ha
  refine ⟨by show z a = ((z a).toNat : Int); omega, by show (z a).toNat < n; omega, ?_⟩
  show (z (z a).toNat).toNat = a
  omega

/-- What is below is above among the opposites. -/
def turnPB (m : Mx) (y : Nat → Nat) (a b : Nat) : Bool := !(leB m a b && !leB m (y b) (y a))
def turnB (m : Mx) (y : Nat → Nat) : Bool := allB m.n fun a => allB m.n fun b => turnPB m y a b
/-- Each meets its opposite in the least one. -/
def keptPB (m : Mx) (y : Nat → Nat) (a : Nat) : Bool := decide (meetI m a (y a) = leastI m)
def keptB (m : Mx) (y : Nat → Nat) : Bool := allB m.n (keptPB m y)
structure IsLogic (m : Mx) (k : Nat) (z : Nat → Int) : Prop where
  lat : IsLattice m
  pair : IsPair k m.n z
  turn : turnB m (fun a => (z a).toNat) = true
  kept : keptB m (fun a => (z a).toNat) = true
open Classical in
noncomputable def logicB (m : Mx) (k : Nat) (z : Nat → Int) : Bool := decide (IsLogic m k z)
open Classical in
theorem logicB_true {m : Mx} {k : Nat} {z : Nat → Int} (h : IsLogic m k z) : logicB m k z = true := by unfold logicB; exact decide_eq_true h
open Classical in
theorem logicB_false {m : Mx} {k : Nat} {z : Nat → Int} (h : ¬ IsLogic m k z) : logicB m k z = false := by unfold logicB; exact decide_eq_false h
open Classical in
theorem logicB_is {m : Mx} {k : Nat} {z : Nat → Int} (h : logicB m k z = true) : IsLogic m k z := by unfold logicB at h; exact of_decide_eq_true h
theorem allB_congr {n : Nat} {f g : Nat → Bool} (h : ∀ i, i < n → f i = g i) : allB n f = allB n g := by
  cases hg : allB n g with
  | true => exact allB_true fun i hi => by rw [h i hi]; exact allB_is hg i hi
  | false =>
    cases hf : allB n f with
    | false => rfl
    | true => rw [allB_true (f := g) fun i hi => by rw [← h i hi]; exact allB_is hf i hi] at hg; cases hg
theorem turnB_congr {m : Mx} {y y' : Nat → Nat} (h : ∀ a, a < m.n → y a = y' a) : turnB m y = turnB m y' :=
  allB_congr fun a ha => allB_congr fun b hb => by unfold turnPB; rw [h a ha, h b hb]
theorem keptB_congr {m : Mx} {y y' : Nat → Nat} (h : ∀ a, a < m.n → y a = y' a) : keptB m y = keptB m y' :=
  allB_congr fun a ha => by unfold keptPB; rw [h a ha]
theorem logic_is {m : Mx} {k : Nat} {z : Nat → Int} {y : Nat → Nat} (hl : IsLattice m) (hp : IsPair k m.n z) (hy : ∀ a, a < m.n → z a = (y a : Int)) : logicB m k z = (turnB m y && keptB m y) := by
  have e : ∀ a, a < m.n → (z a).toNat = y a := fun a ha => by rw [hy a ha]; simp
  have h1 := turnB_congr (m := m) (y := fun a => (z a).toNat) (y' := y) e
  have h2 := keptB_congr (m := m) (y := fun a => (z a).toNat) (y' := y) e
  cases hb : turnB m y && keptB m y with
  | true =>
    rw [Bool.and_eq_true] at hb
    exact logicB_true ⟨hl, hp, h1.trans hb.1, h2.trans hb.2⟩
  | false =>
    refine logicB_false fun h => ?_
    rw [← h1, ← h2, h.turn, h.kept] at hb
    cases hb
end Go.Proofs.Ytmchgclaeipoeaa
namespace Go.Proofs.Ytmchgclaeipoeaa

/-- A lattice with opposites, as plain numbers. -/
structure Ortho (m : Mx) (z : Nat → Int) (y : Nat → Nat) (o : Nat) : Prop where
  lat : IsLattice m
  zy : ∀ a, a < m.n → z a = (y a : Int)
  lt : ∀ a, a < m.n → y a < m.n
  inv : ∀ a, a < m.n → y (y a) = a
  turn : ∀ a b, a < m.n → b < m.n → m.Z a b = 1 → m.Z (y b) (y a) = 1
  ho : o < m.n
  least : BelowAll m o
  eq : leastI m = (o : Int)
  kept : ∀ a, a < m.n → meetI m a (y a) = (o : Int)
theorem IsLogic.ortho {m : Mx} {k : Nat} {z : Nat → Int} (h : IsLogic m k z) : ∃ y o, Ortho m z y o := by
  obtain ⟨y, hy⟩ := h.pair.nat
  have e : ∀ a, a < m.n → (z a).toNat = y a := fun a ha => by rw [(hy a ha).1]; simp
  have h1 := turnB_congr (m := m) (y := fun a => (z a).toNat) (y' := y) e
  have h2 := keptB_congr (m := m) (y := fun a => (z a).toNat) (y' := y) e
  have ht := h1.symm.trans h.turn
  have hk := h2.symm.trans h.kept
  obtain ⟨o, ho, heq, hob⟩ := least_parts h.lat.order (lattice_hasLeast h.lat)
  refine ⟨y, o, h.lat, fun a ha => (hy a ha).1, fun a ha => (hy a ha).2.1, fun a ha => (hy a ha).2.2, fun a b ha hb hab => ?_, ho, fun k hk => (hob k hk).1, heq, fun a ha => ?_⟩
  · have := allB_is (allB_is ht a ha) b hb
    unfold turnPB at this
    rw [leB_mk hab] at this
    exact leB_is (by simpa using this)
  · have := allB_is hk a ha
    unfold keptPB at this
    rw [of_decide_eq_true this, heq]

theorem Ortho.back {m : Mx} {z : Nat → Int} {y : Nat → Nat} {o : Nat} (h : Ortho m z y o) {a b : Nat} (ha : a < m.n) (hb : b < m.n) (hab : m.Z a (y b) = 1) : m.Z b (y a) = 1 := by
  have := h.turn a (y b) ha (h.lt b hb) hab
  rwa [h.inv b hb] at this
/-- The opposite of a meeting is the join of the opposites. -/
theorem Ortho.meet_not {m : Mx} {z : Nat → Int} {y : Nat → Nat} {o : Nat} (h : Ortho m z y o) {a b x : Nat} (ha : a < m.n) (hb : b < m.n) (hx : meetI m a b = (x : Int)) : meetI (tr m) (y a) (y b) = (y x : Int) := by
  obtain ⟨x', hx', e, h1, h2, h3⟩ := meetI_parts (h.lat.both a b ha hb).meets
  have : x' = x := by omega
  subst this
  refine meetI_of (tr_order h.lat.order) (h.lt x' hx') (isMeet_mk ?_ fun c hc hb' => ?_)
  · unfold bothB
    rw [leB_mk (show (tr m).Z (y x') (y a) = 1 from h.turn x' a hx' ha h1), leB_mk (show (tr m).Z (y x') (y b) = 1 from h.turn x' b hx' hb h2)]; rfl
  · have hc' : c < m.n := hc
    unfold bothB at hb'
    rw [Bool.and_eq_true] at hb'
    have g1 : m.Z (y a) c = 1 := leB_is hb'.1
    have g2 : m.Z (y b) c = 1 := leB_is hb'.2
    have g3 := h.turn _ c (h.lt a ha) hc' g1
    have g4 := h.turn _ c (h.lt b hb) hc' g2
    rw [h.inv a ha] at g3
    rw [h.inv b hb] at g4
    have g5 := h.turn _ _ (h.lt c hc') hx' (h3 (y c) (h.lt c hc') g3 g4)
    rw [h.inv c hc'] at g5
    exact leB_mk (show m.Z (y x') c = 1 from g5)
theorem Ortho.meets {m : Mx} {z : Nat → Int} {y : Nat → Nat} {o : Nat} (h : Ortho m z y o) {a b : Nat} (ha : a < m.n) (hb : b < m.n) : ∃ x, x < m.n ∧ meetI m a b = (x : Int) := by
  obtain ⟨x, hx, e, _⟩ := meetI_parts (h.lat.both a b ha hb).meets
  exact ⟨x, hx, e⟩
theorem Ortho.joins {m : Mx} {z : Nat → Int} {y : Nat → Nat} {o : Nat} (h : Ortho m z y o) {a b : Nat} (ha : a < m.n) (hb : b < m.n) : ∃ x, x < m.n ∧ meetI (tr m) a b = (x : Int) := by
  obtain ⟨x, hx, e, _⟩ := meetI_parts (h.lat.both a b ha hb).joins
  exact ⟨x, hx, e⟩
/-- Above all is just the opposite of the least one. -/
theorem Ortho.above {m : Mx} {z : Nat → Int} {y : Nat → Nat} {o : Nat} (h : Ortho m z y o) {c : Nat} (hc : c < m.n) : m.Z c (y o) = 1 := by
  have := h.turn o (y c) h.ho (h.lt c hc) (h.least _ (h.lt c hc))
  rwa [h.inv c hc] at this
theorem leastI_of {m : Mx} (h : IsOrder m) {o : Nat} (ho : o < m.n) (hl : BelowAll m o) : leastI m = (o : Int) := by
  rcases firstI_ways m.n (belowAllB m) with ⟨_, hno⟩ | ⟨k, hk, he, h1, _⟩
  · have h1 : belowAllB m o = true := allB_true fun k hk => leB_mk (hl k hk)
    rw [hno o ho] at h1; cases h1
  · have he' : leastI m = (k : Int) := he
    rw [he', le_anti h hk ho (allB_is h1 o ho) (leB_mk (hl k hk))]
theorem Ortho.under {m : Mx} {z : Nat → Int} {y : Nat → Nat} {o : Nat} (h : Ortho m z y o) {c a : Nat} (hc : c < m.n) (ha : a < m.n) (h1 : m.Z c a = 1) (h2 : m.Z c (y a) = 1) : c = o := by
  obtain ⟨x', hx', e, _, _, h3⟩ := meetI_parts (h.lat.both a (y a) ha (h.lt a ha)).meets
  have e2 := h.kept a ha
  have : x' = o := by omega
  subst this
  exact le_anti h.lat.order hc hx' (leB_mk (h3 c hc h1 h2)) (leB_mk (h.least c hc))
/-- What is apart meets in the least one. -/
theorem Ortho.apart {m : Mx} {z : Nat → Int} {y : Nat → Nat} {o : Nat} (h : Ortho m z y o) {a b : Nat} (ha : a < m.n) (hb : b < m.n) (hab : m.Z a (y b) = 1) : meetI m a b = (o : Int) := by
  refine meetI_of h.lat.order h.ho (isMeet_mk ?_ fun c hc hb' => ?_)
  · unfold bothB
    rw [leB_mk (h.least a ha), leB_mk (h.least b hb)]; rfl
  · unfold bothB at hb'
    rw [Bool.and_eq_true] at hb'
    have := h.under hc hb (leB_is hb'.2) (h.lat.order.trans c a (y b) hc ha (h.lt b hb) (leB_is hb'.1) hab)
    rw [this]
    exact leB_mk (h.least o h.ho)
end Go.Proofs.Ytmchgclaeipoeaa
namespace Go.Proofs.Ytmchgclaeipoeaa

/-- What makes rows and opposites a logic: meetings alone, since joins are opposites of meetings of opposites. -/
structure LogicData (n : Nat) (Z : Nat → Nat → Int) (y : Nat → Nat) (o : Nat) : Prop where
  pos : 1 ≤ n
  top : n ≤ 12
  bit : ∀ a b, a < n → b < n → Z a b = 0 ∨ Z a b = 1
  refl : ∀ a, a < n → Z a a = 1
  anti : ∀ a b, a < n → b < n → Z a b = 1 → Z b a = 1 → a = b
  trans : ∀ a b c, a < n → b < n → c < n → Z a b = 1 → Z b c = 1 → Z a c = 1
  lt : ∀ a, a < n → y a < n
  inv : ∀ a, a < n → y (y a) = a
  turn : ∀ a b, a < n → b < n → Z a b = 1 → Z (y b) (y a) = 1
  meet : ∀ a b, a < n → b < n → ∃ x, x < n ∧ Z x a = 1 ∧ Z x b = 1 ∧ ∀ c, c < n → Z c a = 1 → Z c b = 1 → Z c x = 1
  ho : o < n
  least : ∀ a, a < n → Z o a = 1
  kept : ∀ a c, a < n → c < n → Z c a = 1 → Z c (y a) = 1 → c = o
theorem LogicData.order {n : Nat} {Z : Nat → Nat → Int} {y : Nat → Nat} {o : Nat} (h : LogicData n Z y o) : IsOrder ⟨n, fun _ => n, Z⟩ :=
  ⟨h.pos, h.top, ⟨fun _ _ => rfl, fun r hr c hc => h.bit r c hr hc⟩, h.refl, fun a b ha hb hne hab => by
    rcases h.bit b a hb ha with e | e
    · exact e
    · exact absurd (h.anti a b ha hb hab e) hne, h.trans⟩
theorem hasI_of {m : Mx} (h : IsOrder m) {a b x : Nat} (hx : x < m.n) (h1 : m.Z x a = 1) (h2 : m.Z x b = 1) (h3 : ∀ c, c < m.n → m.Z c a = 1 → m.Z c b = 1 → m.Z c x = 1) : meetI m a b = (x : Int) :=
  meetI_of h hx (isMeet_mk (by unfold bothB; rw [leB_mk h1, leB_mk h2]; rfl) fun c hc hb => by
    unfold bothB at hb
    rw [Bool.and_eq_true] at hb
    exact leB_mk (h3 c hc (leB_is hb.1) (leB_is hb.2)))
theorem LogicData.lattice {n : Nat} {Z : Nat → Nat → Int} {y : Nat → Nat} {o : Nat} (h : LogicData n Z y o) : IsLattice ⟨n, fun _ => n, Z⟩ := by
  refine ⟨h.order, fun a b ha hb => ⟨?_, ?_⟩⟩
  · obtain ⟨x, hx, h1, h2, h3⟩ := h.meet a b ha hb
    rw [hasI_of h.order (x := x) hx h1 h2 h3]
    exact hasI_nat x
  · have ha' : a < n := ha
    have hb' : b < n := hb
    obtain ⟨x, hx, h1, h2, h3⟩ := h.meet (y a) (y b) (h.lt a ha') (h.lt b hb')
    have k1 : Z a (y x) = 1 := by
      have := h.turn x (y a) hx (h.lt a ha') h1
      rwa [h.inv a ha'] at this
    have k2 : Z b (y x) = 1 := by
      have := h.turn x (y b) hx (h.lt b hb') h2
      rwa [h.inv b hb'] at this
    have e := hasI_of (m := tr ⟨n, fun _ => n, Z⟩) (tr_order h.order) (a := a) (b := b) (x := y x) (h.lt x hx) k1 k2 fun c hc g1 g2 => by
      have hc' : c < n := hc
      have t1 : Z a c = 1 := g1
      have t2 : Z b c = 1 := g2
      have := h.turn (y c) x (h.lt c hc') hx (h3 (y c) (h.lt c hc') (h.turn a c ha' hc' t1) (h.turn b c hb' hc' t2))
      rw [h.inv c hc'] at this
      exact this
    rw [e]
    exact hasI_nat _
theorem LogicData.ortho {n : Nat} {Z : Nat → Nat → Int} {y : Nat → Nat} {o : Nat} (h : LogicData n Z y o) : Ortho ⟨n, fun _ => n, Z⟩ (fun a => (y a : Int)) y o :=
  ⟨h.lattice, fun _ _ => rfl, h.lt, h.inv, h.turn, h.ho, h.least, leastI_of h.order h.ho h.least, fun a ha =>
    hasI_of h.order (x := o) h.ho (h.least a ha) (h.least _ (h.lt a ha)) fun c hc g1 g2 => by
      rw [h.kept a c ha hc g1 g2]
      exact h.refl o h.ho⟩
theorem Ortho.logic {m : Mx} {z : Nat → Int} {y : Nat → Nat} {o : Nat} (h : Ortho m z y o) : IsLogic m m.n z := by
  have e : ∀ a, a < m.n → (z a).toNat = y a := fun a ha => by rw [h.zy a ha]; simp
  refine ⟨h.lat, ⟨rfl, fun a ha => by rw [h.zy a ha]; omega, fun a ha => by rw [h.zy a ha]; have := h.lt a ha; omega, fun a ha => by rw [e a ha, h.zy _ (h.lt a ha), h.inv a ha]⟩, ?_, ?_⟩
  · refine (turnB_congr e).trans (allB_true fun a ha => allB_true fun b hb => ?_)
    unfold turnPB
    cases hl : leB m a b with
    | false => rfl
    | true => rw [leB_mk (h.turn a b ha hb (leB_is hl))]; rfl
  · refine (keptB_congr e).trans (allB_true fun a ha => ?_)
    unfold keptPB
    rw [h.kept a ha, h.eq]
    simp
theorem LogicData.logic {n : Nat} {Z : Nat → Nat → Int} {y : Nat → Nat} {o : Nat} (h : LogicData n Z y o) : IsLogic ⟨n, fun _ => n, Z⟩ n (fun a => (y a : Int)) := h.ortho.logic
/-- A logic is such data. -/
theorem Ortho.data {m : Mx} {z : Nat → Int} {y : Nat → Nat} {o : Nat} (h : Ortho m z y o) : LogicData m.n m.Z y o :=
  ⟨h.lat.order.pos, h.lat.order.top, fun a b ha hb => h.lat.order.sq.bit a ha b hb, h.lat.order.refl, fun a b ha hb h1 h2 => le_anti h.lat.order ha hb (leB_mk h1) (leB_mk h2), h.lat.order.trans, h.lt, h.inv, h.turn,
   fun a b ha hb => by
     obtain ⟨x, hx, _, h1, h2, h3⟩ := meetI_parts (h.lat.both a b ha hb).meets
     exact ⟨x, hx, h1, h2, h3⟩, h.ho, fun a ha => h.least a ha, fun a c ha hc g1 g2 => h.under hc ha g1 g2⟩

end Go.Proofs.Ytmchgclaeipoeaa
namespace Go.Proofs.Ytmchgclaeipoeaa

/-- Where a number stands: at the bottom, at the top, on the first side, on the second one. -/
theorem stands (p r k : Nat) (h : k < p + r + 2) : k = 0 ∨ k = p + r + 1 ∨ (∃ i, i < p ∧ k = i + 1) ∨ (∃ i, i < r ∧ k = p + i + 1) := by
  by_cases h0 : k = 0
  · exact .inl h0
  · by_cases h1 : k = p + r + 1
    · exact .inr (.inl h1)
    · by_cases h2 : k ≤ p
      · exact .inr (.inr (.inl ⟨k - 1, by omega, by omega⟩))
      · exact .inr (.inr (.inr ⟨k - p - 1, by omega, by omega⟩))
section
variable {p r : Nat} {Z1 Z2 : Nat → Nat → Int} {f1 f2 : Nat → Nat}
end

end Go.Proofs.Ytmchgclaeipoeaa
namespace Go.Proofs.Ytmchgclaeipoeaa

def mN (m : Mx) (a b : Nat) : Nat := (meetI m a b).toNat
def jN (m : Mx) (a b : Nat) : Nat := (meetI (tr m) a b).toNat
/-- The greatest below both. -/
structure Glb (m : Mx) (a b x : Nat) : Prop where
  lt : x < m.n
  l : m.Z x a = 1
  r : m.Z x b = 1
  top : ∀ c, c < m.n → m.Z c a = 1 → m.Z c b = 1 → m.Z c x = 1
/-- The least above both. -/
structure Lub (m : Mx) (a b x : Nat) : Prop where
  lt : x < m.n
  l : m.Z a x = 1
  r : m.Z b x = 1
  bot : ∀ c, c < m.n → m.Z a c = 1 → m.Z b c = 1 → m.Z x c = 1
theorem le_eq {m : Mx} (h : IsOrder m) {a b : Nat} (ha : a < m.n) (hb : b < m.n) (h1 : m.Z a b = 1) (h2 : m.Z b a = 1) : a = b := le_anti h ha hb (leB_mk h1) (leB_mk h2)
theorem Ortho.mI {m : Mx} {z : Nat → Int} {y : Nat → Nat} {o : Nat} (h : Ortho m z y o) {a b : Nat} (ha : a < m.n) (hb : b < m.n) : meetI m a b = (mN m a b : Int) := by
  obtain ⟨x, _, e⟩ := h.meets ha hb
  unfold mN; rw [e]; simp
theorem Ortho.jI {m : Mx} {z : Nat → Int} {y : Nat → Nat} {o : Nat} (h : Ortho m z y o) {a b : Nat} (ha : a < m.n) (hb : b < m.n) : meetI (tr m) a b = (jN m a b : Int) := by
  obtain ⟨x, _, e⟩ := h.joins ha hb
  unfold jN; rw [e]; simp
theorem Ortho.mG {m : Mx} {z : Nat → Int} {y : Nat → Nat} {o : Nat} (h : Ortho m z y o) {a b : Nat} (ha : a < m.n) (hb : b < m.n) : Glb m a b (mN m a b) := by
  obtain ⟨x, hx, e, h1, h2, h3⟩ := meetI_parts (h.lat.both a b ha hb).meets
  have : mN m a b = x := by unfold mN; rw [e]; simp
  rw [this]; exact ⟨hx, h1, h2, h3⟩
theorem Ortho.jG {m : Mx} {z : Nat → Int} {y : Nat → Nat} {o : Nat} (h : Ortho m z y o) {a b : Nat} (ha : a < m.n) (hb : b < m.n) : Lub m a b (jN m a b) := by
  obtain ⟨x, hx, e, h1, h2, h3⟩ := meetI_parts (h.lat.both a b ha hb).joins
  have : jN m a b = x := by unfold jN; rw [e]; simp
  rw [this]; exact ⟨hx, h1, h2, h3⟩
theorem Glb.eq {m : Mx} (h : IsOrder m) {a b x x' : Nat} (g : Glb m a b x) (g' : Glb m a b x') : x = x' := le_eq h g.lt g'.lt (g'.top x g.lt g.l g.r) (g.top x' g'.lt g'.l g'.r)
theorem Lub.eq {m : Mx} (h : IsOrder m) {a b x x' : Nat} (g : Lub m a b x) (g' : Lub m a b x') : x = x' := le_eq h g.lt g'.lt (g.bot x' g'.lt g'.l g'.r) (g'.bot x g.lt g.l g.r)
theorem Ortho.j_is {m : Mx} {z : Nat → Int} {y : Nat → Nat} {o : Nat} (h : Ortho m z y o) {a b : Nat} (ha : a < m.n) (hb : b < m.n) : jN m a b = y (mN m (y a) (y b)) := by
  have := h.meet_not (h.lt a ha) (h.lt b hb) (h.mI (h.lt a ha) (h.lt b hb))
  rw [h.inv a ha, h.inv b hb, h.jI ha hb] at this
  omega
theorem Ortho.m_not {m : Mx} {z : Nat → Int} {y : Nat → Nat} {o : Nat} (h : Ortho m z y o) {a : Nat} (ha : a < m.n) : mN m a (y a) = o := by
  have := h.kept a ha
  rw [h.mI ha (h.lt a ha)] at this
  omega
theorem Ortho.m_comm {m : Mx} {z : Nat → Int} {y : Nat → Nat} {o : Nat} (_ : Ortho m z y o) (a b : Nat) : mN m a b = mN m b a := by unfold mN; rw [meetI_comm]

def keepsPB (m : Mx) (y : Nat → Nat) (a b : Nat) : Bool := !(leB m a b && !decide (jN m a (mN m b (y a)) = b))
def keepsB (m : Mx) (y : Nat → Nat) : Bool := allB m.n fun a => allB m.n fun b => keepsPB m y a b
noncomputable def keepsV (m : Mx) (k : Nat) (z : Nat → Int) : Bool := logicB m k z && keepsB m (fun a => (z a).toNat)
theorem keepsB_congr {m : Mx} {y y' : Nat → Nat} (h : ∀ a, a < m.n → y a = y' a) : keepsB m y = keepsB m y' :=
  allB_congr fun a ha => allB_congr fun b _ => by unfold keepsPB; rw [h a ha]
theorem Ortho.toNat {m : Mx} {z : Nat → Int} {y : Nat → Nat} {o : Nat} (h : Ortho m z y o) {a : Nat} (ha : a < m.n) : (z a).toNat = y a := by rw [h.zy a ha]; simp
theorem keepsV_is {m : Mx} {z : Nat → Int} {y : Nat → Nat} {o : Nat} (h : Ortho m z y o) : keepsV m m.n z = keepsB m y := by
  unfold keepsV
  rw [logicB_true h.logic, Bool.true_and]
  exact keepsB_congr fun a ha => h.toNat ha
structure Closed (m : Mx) (y : Nat → Nat) (s : Nat) : Prop where
  meet : ∀ a b, a < m.n → b < m.n → s.testBit a = true → s.testBit b = true → s.testBit (mN m a b) = true
  not : ∀ a, a < m.n → s.testBit a = true → s.testBit (y a) = true
def closedRB (m : Mx) (y : Nat → Nat) (s a : Nat) : Bool := !s.testBit a || (allB m.n (fun b => !s.testBit b || s.testBit (mN m a b)) && s.testBit (y a))
def closedB (m : Mx) (y : Nat → Nat) (s : Nat) : Bool := allB m.n (closedRB m y s)
theorem closedB_is {m : Mx} {y : Nat → Nat} {s : Nat} (h : closedB m y s = true) : Closed m y s := by
  refine ⟨fun a b ha hb ga gb => ?_, fun a ha ga => ?_⟩
  · have := allB_is h a ha
    unfold closedRB at this
    rw [ga] at this
    simp only [Bool.not_true, Bool.false_or, Bool.and_eq_true] at this
    have h2 := allB_is this.1 b hb
    rw [gb] at h2
    simpa using h2
  · have := allB_is h a ha
    unfold closedRB at this
    rw [ga] at this
    simp only [Bool.not_true, Bool.false_or, Bool.and_eq_true] at this
    exact this.2
theorem closedB_mk {m : Mx} {y : Nat → Nat} {s : Nat} (h : Closed m y s) : closedB m y s = true := allB_true fun a ha => by
  unfold closedRB
  cases ga : s.testBit a with
  | false => rfl
  | true =>
    rw [h.not a ha ga, Bool.and_true]
    simp only [Bool.not_true, Bool.false_or]
    refine allB_true fun b hb => ?_
    cases gb : s.testBit b with
    | false => rfl
    | true => rw [h.meet a b ha hb ga gb]; rfl
theorem Closed.join {m : Mx} {z : Nat → Int} {y : Nat → Nat} {o s : Nat} (hc : Closed m y s) (h : Ortho m z y o) {a b : Nat} (ha : a < m.n) (hb : b < m.n) (ga : s.testBit a = true) (gb : s.testBit b = true) : s.testBit (jN m a b) = true := by
  rw [h.j_is ha hb]
  exact hc.not _ (h.mG (h.lt a ha) (h.lt b hb)).lt (hc.meet _ _ (h.lt a ha) (h.lt b hb) (hc.not a ha ga) (hc.not b hb gb))
def Sub (s t : Nat) : Prop := ∀ a, s.testBit a = true → t.testBit a = true
theorem Sub.refl (s : Nat) : Sub s s := fun _ h => h
theorem Sub.trans {s t u : Nat} (h : Sub s t) (k : Sub t u) : Sub s u := fun a g => k a (h a g)
theorem Sub.eq {s t : Nat} (h : Sub s t) (k : Sub t s) : s = t := Nat.eq_of_testBit_eq fun i => by
  rw [Bool.eq_iff_iff]; exact ⟨h i, k i⟩
theorem Sub.or {s t : Nat} (h : Sub s t) : s ||| t = t := Nat.eq_of_testBit_eq fun i => by
  rw [Nat.testBit_or]
  cases g : s.testBit i with
  | false => simp
  | true => rw [h i g]; rfl
theorem Sub.le {s t : Nat} (h : Sub s t) : s ≤ t := by rw [← h.or]; exact Nat.left_le_or
theorem sub_or {s t u : Nat} (h : Sub s u) (k : Sub t u) : Sub (s ||| t) u := fun a g => by
  rw [Nat.testBit_or, Bool.or_eq_true] at g
  rcases g with g | g
  · exact h a g
  · exact k a g
theorem sub_left (s t : Nat) : Sub s (s ||| t) := fun a g => by rw [Nat.testBit_or, g]; rfl
theorem sub_right (s t : Nat) : Sub t (s ||| t) := fun a g => by rw [Nat.testBit_or, g]; simp
theorem sub_one {x u : Nat} (h : u.testBit x = true) : Sub (2 ^ x) u := fun a g => by
  rw [Nat.testBit_two_pow] at g
  rw [← of_decide_eq_true g]; exact h
theorem has_one (x : Nat) : (2 ^ x).testBit x = true := Nat.testBit_two_pow_self
theorem bit_lt {s n a : Nat} (hs : s < 2 ^ n) (h : s.testBit a = true) : a < n := by
  apply Nat.lt_of_not_le
  intro hle
  have h1 := Nat.ge_two_pow_of_testBit h
  have h2 := Nat.pow_le_pow_right (n := 2) (by omega) hle
  omega
theorem or_lt {s t n : Nat} (hs : s < 2 ^ n) (ht : t < 2 ^ n) : s ||| t < 2 ^ n := Nat.or_lt_two_pow hs ht
theorem one_lt {x n : Nat} (h : x < n) : 2 ^ x < 2 ^ n := Nat.pow_lt_pow_right (by omega) h
theorem has_some {s : Nat} (h : 1 ≤ s) : ∃ a, s.testBit a = true := Nat.exists_testBit_of_ne_zero (by omega)
theorem Closed.no {m : Mx} {z : Nat → Int} {y : Nat → Nat} {o s : Nat} (hc : Closed m y s) (h : Ortho m z y o) (hs : s < 2 ^ m.n) (h1 : 1 ≤ s) : s.testBit o = true := by
  obtain ⟨a, ga⟩ := has_some h1
  have ha := bit_lt hs ga
  rw [← h.m_not ha]
  exact hc.meet _ _ ha (h.lt a ha) ga (hc.not a ha ga)

structure IsMade (m : Mx) (y : Nat → Nat) (s t : Nat) : Prop where
  has : Sub s t
  lt : t < 2 ^ m.n
  closed : Closed m y t
  least : ∀ u, Closed m y u → Sub s u → Sub t u
theorem IsMade.eq {m : Mx} {y : Nat → Nat} {s t t' : Nat} (h : IsMade m y s t) (h' : IsMade m y s t') : t = t' := (h.least t' h'.closed h'.has).eq (h'.least t h.closed h.has)
/-- On the way to it. -/
structure Under (m : Mx) (y : Nat → Nat) (s t : Nat) : Prop where
  has : Sub s t
  lt : t < 2 ^ m.n
  least : ∀ u, Closed m y u → Sub s u → Sub t u
theorem Under.made {m : Mx} {y : Nat → Nat} {s t : Nat} (h : Under m y s t) (hc : Closed m y t) : IsMade m y s t := ⟨h.has, h.lt, hc, h.least⟩
theorem Under.start {m : Mx} {y : Nat → Nat} {s : Nat} (h : s < 2 ^ m.n) : Under m y s s := ⟨.refl s, h, fun _ _ k => k⟩
theorem Under.then {m : Mx} {y : Nat → Nat} {s t u : Nat} (h : Under m y s t) (k : Under m y t u) : Under m y s u := ⟨h.has.trans k.has, k.lt, fun v hv hs => k.least v hv (h.least v hv hs)⟩
theorem Under.more {m : Mx} {y : Nat → Nat} {s t x : Nat} (h : Under m y s t) (hx : x < m.n) (hu : ∀ u, Closed m y u → Sub s u → u.testBit x = true) : Under m y s (t ||| 2 ^ x) :=
  ⟨h.has.trans (sub_left _ _), or_lt h.lt (one_lt hx), fun u hu' hs => sub_or (h.least u hu' hs) (sub_one (hu u hu' hs))⟩
/-- One step towards it, all pairs being looked at. -/
structure Grown (m : Mx) (y : Nat → Nat) (s t : Nat) : Prop where
  under : Under m y s t
  meet : ∀ a b, a < m.n → b < m.n → s.testBit a = true → s.testBit b = true → t.testBit (mN m a b) = true
  not : ∀ a, a < m.n → s.testBit a = true → t.testBit (y a) = true
theorem Grown.same {m : Mx} {y : Nat → Nat} {s t : Nat} (h : Grown m y s t) : (decide (t = s)) = closedB m y s := by
  rw [Bool.eq_iff_iff, decide_eq_true_iff]
  constructor
  · intro e
    subst e
    exact closedB_mk ⟨h.meet, h.not⟩
  · intro hc
    exact (h.under.least s (closedB_is hc) (.refl s)).eq h.under.has
theorem IsMade.congr {m : Mx} {y y' : Nat → Nat} {s t : Nat} (h : IsMade m y s t) (e : ∀ a, a < m.n → y a = y' a) : IsMade m y' s t :=
  ⟨h.has, h.lt, ⟨h.closed.meet, fun a ha ga => by rw [← e a ha]; exact h.closed.not a ha ga⟩, fun u hu hs => h.least u ⟨hu.meet, fun a ha ga => by rw [e a ha]; exact hu.not a ha ga⟩ hs⟩
def memsTo (s : Nat) : Nat → List Nat
  | 0 => []
  | k + 1 => if s.testBit k = true then memsTo s k ++ [k] else memsTo s k
theorem memsTo_yes {s k : Nat} (h : s.testBit k = true) : memsTo s (k + 1) = memsTo s k ++ [k] := by rw [memsTo, if_pos h]
theorem memsTo_no {s k : Nat} (h : s.testBit k = false) : memsTo s (k + 1) = memsTo s k := by rw [memsTo, if_neg (by rw [h]; decide)]
theorem memsTo_mem {s c : Nat} (k : Nat) : c ∈ memsTo s k ↔ c < k ∧ s.testBit c = true := by
  induction k with
  | zero => simp [memsTo]
  | succ k ih =>
    cases e : s.testBit k with
    | false =>
      rw [memsTo_no e, ih]
      constructor
      · rintro ⟨h1, h2⟩; exact ⟨by omega, h2⟩
      · rintro ⟨h1, h2⟩
        refine ⟨?_, h2⟩
        have : c ≠ k := fun e2 => by rw [e2, e] at h2; cases h2
        omega
    | true =>
      rw [memsTo_yes e, List.mem_append, ih, List.mem_singleton]
      constructor
      · rintro (⟨h1, h2⟩ | rfl)
        · exact ⟨by omega, h2⟩
        · exact ⟨by omega, e⟩
      · rintro ⟨h1, h2⟩
        by_cases e2 : c = k
        · exact .inr e2
        · exact .inl ⟨by omega, h2⟩
theorem memsTo_up {s : Nat} (k : Nat) : (memsTo s k).Pairwise (· < ·) := by
  induction k with
  | zero => exact List.Pairwise.nil
  | succ k ih =>
    cases e : s.testBit k with
    | false => rw [memsTo_no e]; exact ih
    | true =>
      rw [memsTo_yes e]
      refine List.pairwise_append.2 ⟨ih, List.pairwise_singleton _ _, fun a ha b hb => ?_⟩
      rw [List.mem_singleton] at hb
      rw [hb]
      exact ((memsTo_mem k).1 ha).1
theorem memsTo_len (s k : Nat) : (memsTo s k).length ≤ k := by
  induction k with
  | zero => exact Nat.le_refl _
  | succ k ih =>
    cases e : s.testBit k with
    | false => rw [memsTo_no e]; omega
    | true => rw [memsTo_yes e, List.length_append, List.length_singleton]; omega
def memF (s n j : Nat) : Nat := (memsTo s n)[j]?.getD 0
def memB (s n a : Nat) : Nat := (memsTo s n).idxOf a
def memK (s n : Nat) : Nat := (memsTo s n).length
/-- Some of the numbers below n, in a row, with their places. -/
structure Emb (n k s : Nat) (q b : Nat → Nat) : Prop where
  lt : ∀ j, j < k → q j < n
  has : ∀ j, j < k → s.testBit (q j) = true
  bq : ∀ j, j < k → b (q j) = j
  blt : ∀ a, a < n → s.testBit a = true → b a < k
  qb : ∀ a, a < n → s.testBit a = true → q (b a) = a
theorem mem_emb (s n : Nat) : Emb n (memK s n) s (memF s n) (memB s n) := by
  have get : ∀ j, j < memK s n → ∃ h : j < (memsTo s n).length, memF s n j = (memsTo s n)[j] := fun j hj => ⟨hj, by unfold memF; rw [List.getElem?_eq_getElem hj]; rfl⟩
  have mem : ∀ j, j < memK s n → memF s n j ∈ memsTo s n := fun j hj => by
    obtain ⟨h, e⟩ := get j hj
    rw [e]
    exact List.getElem_mem h
  refine ⟨fun j hj => ((memsTo_mem n).1 (mem j hj)).1, fun j hj => ((memsTo_mem n).1 (mem j hj)).2, fun j hj => ?_, fun a ha hs => List.idxOf_lt_length_iff.2 ((memsTo_mem n).2 ⟨ha, hs⟩), fun a ha hs => ?_⟩
  · obtain ⟨h1, e1⟩ := get j hj
    have hi : (memsTo s n).idxOf (memF s n j) < (memsTo s n).length := List.idxOf_lt_length_iff.2 (mem j hj)
    have e2 : (memsTo s n)[(memsTo s n).idxOf (memF s n j)] = memF s n j := List.getElem_idxOf hi
    have hp := List.pairwise_iff_getElem.1 (memsTo_up (s := s) n)
    unfold memB
    rcases Nat.lt_trichotomy ((memsTo s n).idxOf (memF s n j)) j with h | h | h
    · have := hp _ j hi h1 h; omega
    · exact h
    · have := hp j _ h1 hi h; omega
  · have hi : (memsTo s n).idxOf a < (memsTo s n).length := List.idxOf_lt_length_iff.2 ((memsTo_mem n).2 ⟨ha, hs⟩)
    unfold memF memB
    rw [List.getElem?_eq_getElem hi]
    exact List.getElem_idxOf hi
end Go.Proofs.Ytmchgclaeipoeaa
namespace Go.Proofs.Ytmchgclaeipoeaa

/-- A lattice with opposites, for itself. -/
structure OL (α : Type) where
  le : α → α → Prop
  m : α → α → α
  j : α → α → α
  c : α → α
  o : α
  refl : ∀ a, le a a
  trans : ∀ {a b d}, le a b → le b d → le a d
  anti : ∀ {a b}, le a b → le b a → a = b
  ml : ∀ a b, le (m a b) a
  mr : ∀ a b, le (m a b) b
  mg : ∀ {a b d}, le d a → le d b → le d (m a b)
  jl : ∀ a b, le a (j a b)
  jr : ∀ a b, le b (j a b)
  jg : ∀ {a b d}, le a d → le b d → le (j a b) d
  cc : ∀ a, c (c a) = a
  turn : ∀ {a b}, le a b → le (c b) (c a)
  low : ∀ a, le o a
  apart : ∀ a, m a (c a) = o
namespace OL
variable {α : Type} {L : OL α}
/-- The law. -/
def Keeps (L : OL α) : Prop := ∀ a b, L.le a b → L.j a (L.m b (L.c a)) = b
/-- One answer agrees with another one. -/
def Ag (L : OL α) (a b : α) : Prop := L.j (L.m a b) (L.m a (L.c b)) = a
theorem m_comm (a b : α) : L.m a b = L.m b a := L.anti (L.mg (L.mr a b) (L.ml a b)) (L.mg (L.mr b a) (L.ml b a))
theorem j_comm (a b : α) : L.j a b = L.j b a := L.anti (L.jg (L.jr b a) (L.jl b a)) (L.jg (L.jr a b) (L.jl a b))
theorem turn' {a b : α} (h : L.le a (L.c b)) : L.le b (L.c a) := by have := L.turn h; rw [L.cc] at this; exact this
theorem turn'' {a b : α} (h : L.le (L.c a) b) : L.le (L.c b) a := by have := L.turn h; rw [L.cc] at this; exact this
theorem c_m (a b : α) : L.c (L.m a b) = L.j (L.c a) (L.c b) :=
  L.anti (turn'' (L.mg (turn'' (L.jl _ _)) (turn'' (L.jr _ _)))) (L.jg (L.turn (L.ml a b)) (L.turn (L.mr a b)))
theorem c_j (a b : α) : L.c (L.j a b) = L.m (L.c a) (L.c b) := by
  have := c_m (L := L) (L.c a) (L.c b)
  rw [L.cc, L.cc] at this
  rw [← this, L.cc]
theorem m_le {a b : α} (h : L.le a b) : L.m a b = a := L.anti (L.ml a b) (L.mg (L.refl a) h)
theorem m_le' {a b : α} (h : L.le a b) : L.m b a = a := by rw [m_comm, m_le h]
theorem j_le {a b : α} (h : L.le a b) : L.j a b = b := L.anti (L.jg h (L.refl b)) (L.jr a b)
theorem j_le' {a b : α} (h : L.le a b) : L.j b a = b := by rw [j_comm, j_le h]
theorem top (a : α) : L.le a (L.c L.o) := turn' (L.low _)
theorem zero {a t : α} (h1 : L.le t a) (h2 : L.le t (L.c a)) : L.le t L.o := by rw [← L.apart a]; exact L.mg h1 h2
theorem is_o {t : α} (h : L.le t L.o) : t = L.o := L.anti h (L.low t)
theorem j_c (a : α) : L.j a (L.c a) = L.c L.o := by
  have := c_m (L := L) a (L.c a)
  rw [L.apart, L.cc] at this
  rw [j_comm, ← this]
theorem Ag.c {a b : α} (h : L.Ag a b) : L.Ag a (L.c b) := by
  unfold Ag at *
  rw [L.cc, j_comm]
  exact h
theorem Ag.c' {a b : α} (h : L.Ag a (L.c b)) : L.Ag a b := by have := h.c; rw [L.cc] at this; exact this
theorem ag_le {a b : α} (h : L.le a b) : L.Ag a b := by
  unfold Ag
  rw [m_le h]
  exact j_le' (L.ml _ _)
theorem Keeps.ag {a b : α} (hk : L.Keeps) (h : L.Ag a b) : L.Ag b a := by
  have e := hk (L.m b a) b (L.ml b a)
  have e2 : L.m b (L.c (L.m b a)) = L.m b (L.c a) := by
    refine L.anti (L.mg (L.ml _ _) ?_) (L.mg (L.ml _ _) (L.trans (L.mr _ _) (L.turn (L.mr b a))))
    have h1 : L.c a = L.m (L.c (L.m a b)) (L.c (L.m a (L.c b))) := by rw [← c_j, h]
    rw [h1]
    refine L.mg ?_ (L.trans (L.ml _ _) (turn' (L.mr _ _)))
    rw [m_comm a b]
    exact L.mr _ _
  unfold Ag
  rw [← e2]
  exact e
theorem keeps_of (h : ∀ a b, L.Ag a b → L.Ag b a) : L.Keeps := fun a b hab => by
  have e := h a b (ag_le hab)
  unfold Ag at e
  rw [m_le' hab] at e
  exact e
theorem Keeps.not {a b : α} (hk : L.Keeps) (h : L.Ag a b) : L.Ag (L.c a) b := hk.ag (hk.ag h).c
theorem Keeps.same {e f : α} (hk : L.Keeps) (h : L.le e f) (h0 : L.le (L.m f (L.c e)) L.o) : e = f := by
  have := hk e f h
  rw [is_o h0, j_le' (L.low e)] at this
  exact this
/-- It agrees with all, both ways. -/
def Mid (L : OL α) (a : α) : Prop := ∀ b, L.Ag a b ∧ L.Ag b a
theorem Keeps.mid {a : α} (hk : L.Keeps) (h : ∀ b, L.Ag b a) : L.Mid a := fun b => ⟨hk.ag (h b), h b⟩
end OL

/-- The opposites told by the numbers themselves. -/
theorem Ortho.own {m : Mx} {z : Nat → Int} {y : Nat → Nat} {o : Nat} (h : Ortho m z y o) : Ortho m z (fun a => (z a).toNat) o := by
  have e : ∀ a, a < m.n → (z a).toNat = y a := fun a ha => h.toNat ha
  have l : ∀ a, a < m.n → (z a).toNat < m.n := fun a ha => by rw [e a ha]; exact h.lt a ha
  exact ⟨h.lat, fun a ha => by show z a = (((z a).toNat : Nat) : Int); rw [e a ha, h.zy a ha], l,
    fun a ha => by show (z (z a).toNat).toNat = a; rw [e a ha, e _ (h.lt a ha)]; exact h.inv a ha,
    fun a b ha hb hab => by show m.Z (z b).toNat (z a).toNat = 1; rw [e a ha, e b hb]; exact h.turn a b ha hb hab, h.ho, h.least, h.eq,
    fun a ha => by show meetI m a (z a).toNat = _; rw [e a ha]; exact h.kept a ha⟩
/-- The lattice of a logic, its answers below their number. -/
def Ortho.ol {m : Mx} {z : Nat → Int} {y : Nat → Nat} {o : Nat} (h : Ortho m z y o) : OL (Fin m.n) where
  le a b := m.Z a b = 1
  m a b := ⟨mN m a b, (h.mG a.2 b.2).lt⟩
  j a b := ⟨jN m a b, (h.jG a.2 b.2).lt⟩
  c a := ⟨y a, h.lt a a.2⟩
  o := ⟨o, h.ho⟩
  refl a := h.lat.order.refl a a.2
  trans {a b d} h1 h2 := h.lat.order.trans _ _ _ a.2 b.2 d.2 h1 h2
  anti {a b} h1 h2 := Fin.ext (le_eq h.lat.order a.2 b.2 h1 h2)
  ml a b := (h.mG a.2 b.2).l
  mr a b := (h.mG a.2 b.2).r
  mg {a b d} h1 h2 := (h.mG a.2 b.2).top d d.2 h1 h2
  jl a b := (h.jG a.2 b.2).l
  jr a b := (h.jG a.2 b.2).r
  jg {a b d} h1 h2 := (h.jG a.2 b.2).bot d d.2 h1 h2
  cc a := Fin.ext (h.inv a a.2)
  turn {a b} h1 := h.turn a b a.2 b.2 h1
  low a := h.least a a.2
  apart a := Fin.ext (h.m_not a.2)

def agB (m : Mx) (y : Nat → Nat) (a b : Nat) : Bool := decide (jN m (mN m a b) (mN m a (y b)) = a)
def twoWaysB (m : Mx) (y : Nat → Nat) : Bool := allB m.n fun a => allB m.n fun b => !agB m y a b || agB m y b a
def splitB (m : Mx) (a b d : Nat) : Bool := decide (mN m a (jN m b d) = jN m (mN m a b) (mN m a d))
section
variable {m : Mx} {z : Nat → Int} {y : Nat → Nat} {o : Nat}
theorem Ortho.keeps_iff (h : Ortho m z y o) : keepsB m y = true ↔ h.ol.Keeps := by
  constructor
  · intro e a b hab
    have := allB_is (allB_is e a a.2) b b.2
    unfold keepsPB at this
    rw [leB_mk hab] at this
    have e2 : jN m a (mN m b (y a)) = b := by simpa using this
    exact Fin.ext e2
  · intro e
    refine allB_true fun a ha => allB_true fun b hb => ?_
    unfold keepsPB
    cases hl : leB m a b with
    | false => rfl
    | true =>
      have e2 : jN m a (mN m b (y a)) = b := congrArg Fin.val (e ⟨a, ha⟩ ⟨b, hb⟩ (leB_is hl))
      simpa using e2
end
end Go.Proofs.Ytmchgclaeipoeaa
