
namespace Go.Proofs.Ytojcgmgponnlpaa

/-- The numbers as data: so many rows, their lengths, what they hold. -/
structure Mx where
  n : Nat
  L : Nat → Nat
  Z : Nat → Nat → Int

structure Square (m : Mx) : Prop where
  len : ∀ r, r < m.n → m.L r = m.n
  bit : ∀ r, r < m.n → ∀ c, c < m.n → m.Z r c = 0 ∨ m.Z r c = 1

structure IsOrder (m : Mx) : Prop where
  pos : 1 ≤ m.n
  top : m.n ≤ 12
  sq : Square m
  refl : ∀ a, a < m.n → m.Z a a = 1
  anti : ∀ a b, a < m.n → b < m.n → a ≠ b → m.Z a b = 1 → m.Z b a = 0
  trans : ∀ a b c, a < m.n → b < m.n → c < m.n → m.Z a b = 1 → m.Z b c = 1 → m.Z a c = 1

/-- Nothing speaks against the pair. -/
structure PairOk (m : Mx) (a b : Nat) : Prop where
  refl : a = b → m.Z a b = 1
  anti : a ≠ b → m.Z a b = 1 → m.Z b a = 0
  trans : ∀ c, c < m.n → m.Z a b = 1 → m.Z b c = 1 → m.Z a c = 1

open Classical in
noncomputable def orderB (m : Mx) : Bool := decide (IsOrder m)
open Classical in
theorem orderB_true {m : Mx} (h : IsOrder m) : orderB m = true := by unfold orderB; exact decide_eq_true h
open Classical in
theorem orderB_false {m : Mx} (h : ¬ IsOrder m) : orderB m = false := by unfold orderB; exact decide_eq_false h
open Classical in
theorem orderB_is {m : Mx} (h : orderB m = true) : IsOrder m := by unfold orderB at h; exact of_decide_eq_true h
open Classical in
theorem orderB_not {m : Mx} (h : orderB m = false) : ¬ IsOrder m := by unfold orderB at h; exact of_decide_eq_false h
theorem isOrder_of {m : Mx} (h1 : 1 ≤ m.n) (h2 : m.n ≤ 12) (hs : Square m) (hp : ∀ a, a < m.n → ∀ b, b < m.n → PairOk m a b) : IsOrder m :=
  ⟨h1, h2, hs, fun a ha => (hp a ha a ha).refl rfl, fun a b ha hb => (hp a ha b hb).anti, fun a b c ha hb hc => (hp a ha b hb).trans c hc⟩
def allB (n : Nat) (f : Nat → Bool) : Bool := (List.range n).all f
theorem allB_true {n : Nat} {f : Nat → Bool} (h : ∀ i, i < n → f i = true) : allB n f = true := by
  unfold allB; rw [List.all_eq_true]; intro x hx; exact h x (List.mem_range.1 hx)
theorem allB_false {n : Nat} {f : Nat → Bool} {k : Nat} (hk : k < n) (h : f k = false) : allB n f = false := by
  unfold allB; rw [List.all_eq_false]; exact ⟨k, List.mem_range.2 hk, by rw [h]; decide⟩
theorem allB_is {n : Nat} {f : Nat → Bool} (h : allB n f = true) : ∀ i, i < n → f i = true := by
  unfold allB at h; rw [List.all_eq_true] at h; exact fun i hi => h i (List.mem_range.2 hi)

/-- The first number below n that fits; -1 if there is none. -/
def firstI : Nat → (Nat → Bool) → Int
  | 0, _ => -1
  | n + 1, f => if firstI n f = -1 then (if f n = true then (n : Int) else -1) else firstI n f
theorem firstI_none {n : Nat} {f : Nat → Bool} (h : ∀ i, i < n → f i = false) : firstI n f = -1 := by
  induction n with
  | zero => rfl
  | succ n ih =>
    have h1 := ih fun i hi => h i (by omega)
    simp [firstI, h1, h n (by omega)]
theorem firstI_hit {n : Nat} {f : Nat → Bool} {k : Nat} (hk : k < n) (h0 : ∀ i, i < k → f i = false) (h1 : f k = true) : firstI n f = (k : Int) := by
  induction n with
  | zero => omega
  | succ n ih =>
    by_cases e : k = n
    · subst e
      simp [firstI, firstI_none h0, h1]
    · have h2 := ih (by omega)
      have h3 : firstI n f ≠ -1 := by omega
      simp only [firstI, if_neg h3]
      exact h2
/-- Either none fits, or there is a first one. -/
theorem firstI_ways (n : Nat) (f : Nat → Bool) : (firstI n f = -1 ∧ ∀ i, i < n → f i = false) ∨ ∃ k, k < n ∧ firstI n f = (k : Int) ∧ f k = true ∧ ∀ i, i < k → f i = false := by
  induction n with
  | zero => exact .inl ⟨rfl, fun i hi => absurd hi (Nat.not_lt_zero _)⟩
  | succ n ih =>
    rcases ih with ⟨h1, h2⟩ | ⟨k, hk, h1, h2, h3⟩
    · cases hf : f n with
      | false =>
        refine .inl ⟨by simp [firstI, h1, hf], fun i hi => ?_⟩
        by_cases e : i = n
        · subst e; exact hf
        · exact h2 i (by omega)
      | true => exact .inr ⟨n, by omega, by simp [firstI, h1, hf], hf, h2⟩
    · have h4 : firstI n f ≠ -1 := by omega
      refine .inr ⟨k, by omega, ?_, h2, h3⟩
      simp only [firstI, if_neg h4]
      exact h1

def leB (m : Mx) (a b : Nat) : Bool := m.Z a b == 1
def takesB (m : Mx) (a b : Nat) : Bool := allB m.n fun c => !leB m c a || leB m c b
def bothB (m : Mx) (c a b : Nat) : Bool := leB m c a && leB m c b
def ubB (m : Mx) (x a b : Nat) : Bool := allB m.n fun c => !bothB m c a b || leB m c x
def isMeetB (m : Mx) (a b x : Nat) : Bool := bothB m x a b && ubB m x a b
def meetI (m : Mx) (a b : Nat) : Int := firstI m.n (isMeetB m a b)
def belowAllB (m : Mx) (a : Nat) : Bool := allB m.n fun b => leB m a b
def leastI (m : Mx) : Int := firstI m.n (belowAllB m)
/-- The order turned round. -/
def tr (m : Mx) : Mx := ⟨m.n, fun _ => m.n, fun a b => m.Z b a⟩
def hasI (i : Int) : Bool := decide (0 ≤ i)
theorem hasI_nat (k : Nat) : hasI (k : Int) = true := by unfold hasI; simp
open Classical in
noncomputable def squareB (m : Mx) : Bool := decide (Square m)
open Classical in
theorem squareB_true {m : Mx} (h : Square m) : squareB m = true := by unfold squareB; exact decide_eq_true h
open Classical in
theorem squareB_false {m : Mx} (h : ¬ Square m) : squareB m = false := by unfold squareB; exact decide_eq_false h
theorem leB_is {m : Mx} {a b : Nat} (h : leB m a b = true) : m.Z a b = 1 := by simpa [leB] using h
theorem leB_mk {m : Mx} {a b : Nat} (h : m.Z a b = 1) : leB m a b = true := by simpa [leB] using h
theorem leB_not {m : Mx} {a b : Nat} (h : leB m a b = false) : m.Z a b ≠ 1 := by simpa [leB] using h
theorem takesB_is {m : Mx} {a b : Nat} (h : takesB m a b = true) : ∀ c, c < m.n → m.Z c a = 1 → m.Z c b = 1 := by
  intro c hc h1
  have := allB_is h c hc
  rw [leB_mk h1] at this
  exact leB_is (by simpa using this)
theorem takesB_mk {m : Mx} {a b : Nat} (h : ∀ c, c < m.n → m.Z c a = 1 → m.Z c b = 1) : takesB m a b = true :=
  allB_true fun c hc => by
    cases h1 : leB m c a with
    | false => rfl
    | true => rw [leB_mk (h c hc (leB_is h1))]; rfl
/-- What the program asks of a pair. -/
structure PairG (m : Mx) (a b : Nat) : Prop where
  both : (leB m a b && leB m b a) = decide (a = b)
  takes : leB m a b = true → takesB m a b = true
theorem pairG_of_order {m : Mx} (h : IsOrder m) {a b : Nat} (ha : a < m.n) (hb : b < m.n) : PairG m a b := by
  refine ⟨?_, fun h1 => takesB_mk fun c hc h2 => h.trans c a b hc ha hb h2 (leB_is h1)⟩
  by_cases e : a = b
  · subst e; simp [leB_mk (h.refl a ha)]
  · have hd : decide (a = b) = false := decide_eq_false e
    rw [hd]
    cases h1 : leB m a b with
    | false => rfl
    | true =>
      have := h.anti a b ha hb e (leB_is h1)
      simp [leB, this]
theorem order_of_pairG {m : Mx} (h1 : 1 ≤ m.n) (h2 : m.n ≤ 12) (hs : Square m) (hp : ∀ a b, a < m.n → b < m.n → PairG m a b) : IsOrder m := by
  refine ⟨h1, h2, hs, fun a ha => ?_, fun a b ha hb hne h => ?_, fun a b c ha hb hc h h' => ?_⟩
  · have := (hp a a ha ha).both
    exact leB_is (by simpa using this)
  · have := (hp a b ha hb).both
    rw [leB_mk h] at this
    have hd : decide (a = b) = false := decide_eq_false hne
    rw [hd] at this
    have h3 := leB_not (a := b) (b := a) (by simpa using this)
    rcases hs.bit b hb a ha with h4 | h4
    · exact h4
    · exact absurd h4 h3
  · exact takesB_is ((hp b c hb hc).takes (leB_mk h')) a ha h
theorem takesB_self (m : Mx) (a : Nat) : takesB m a a = true := takesB_mk fun _ _ h => h
/-- All numbers of a list of answers are answers. -/
def goodB (n k : Nat) (z : Nat → Int) : Bool := allB k fun i => decide (0 ≤ z i) && decide (z i < (n : Int))
noncomputable def leastV (m : Mx) : Int := if orderB m = true then leastI m else -1
theorem leastV_no {m : Mx} (h : orderB m = false) : leastV m = -1 := by unfold leastV; rw [h]; simp
theorem leastV_yes {m : Mx} (h : orderB m = true) : leastV m = leastI m := by unfold leastV; rw [if_pos h]
def two (a b : Int) : Nat → Int := fun i => if i = 0 then a else b
theorem good_two {n : Nat} {a b : Int} (h : goodB n 2 (two a b) = true) : 0 ≤ a ∧ a < (n : Int) ∧ 0 ≤ b ∧ b < (n : Int) := by
  have h0 := allB_is h 0 (by omega)
  have h1 := allB_is h 1 (by omega)
  simp [two] at h0 h1
  omega
theorem good_nil (n : Nat) (z : Nat → Int) : goodB n 0 z = true := allB_true fun _ hi => absurd hi (Nat.not_lt_zero _)
end Go.Proofs.Ytojcgmgponnlpaa
namespace Go.Proofs.Ytojcgmgponnlpaa

/-- The reference's scan for the greatest one below both: the best one among the first k. -/
def bestI (m : Mx) (a b : Nat) : Nat → Int
  | 0 => -1
  | k + 1 => if bothB m k a b = true ∧ (bestI m a b k < 0 ∨ leB m (bestI m a b k).toNat k = true) then (k : Int) else bestI m a b k

theorem bestI_ways (m : Mx) (a b k : Nat) : (bestI m a b k = -1 ∧ ∀ i, i < k → bothB m i a b = false) ∨ ∃ x, x < k ∧ bestI m a b k = (x : Int) ∧ bothB m x a b = true := by
  induction k with
  | zero => exact .inl ⟨rfl, fun i hi => absurd hi (Nat.not_lt_zero _)⟩
  | succ k ih =>
    by_cases h : bothB m k a b = true ∧ (bestI m a b k < 0 ∨ leB m (bestI m a b k).toNat k = true)
    · exact .inr ⟨k, by omega, by rw [bestI, if_pos h], h.1⟩
    · have he : bestI m a b (k + 1) = bestI m a b k := by rw [bestI, if_neg h]
      rcases ih with ⟨h1, h2⟩ | ⟨x, hx, h1, h2⟩
      · refine .inl ⟨by rw [he, h1], fun i hi => ?_⟩
        by_cases e : i = k
        · subst e
          cases hb : bothB m i a b with
          | false => rfl
          | true => exact absurd ⟨hb, .inl (by omega)⟩ h
        · exact h2 i (by omega)
      · exact .inr ⟨x, by omega, by rw [he, h1], h2⟩
theorem bestI_step_yes {m : Mx} {a b k : Nat} (h : bothB m k a b = true) (h2 : bestI m a b k < 0 ∨ leB m (bestI m a b k).toNat k = true) : bestI m a b (k + 1) = (k : Int) := by
  rw [bestI, if_pos ⟨h, h2⟩]
theorem bestI_step_no {m : Mx} {a b k : Nat} (h : ¬ (bothB m k a b = true ∧ (bestI m a b k < 0 ∨ leB m (bestI m a b k).toNat k = true))) : bestI m a b (k + 1) = bestI m a b k := by
  rw [bestI, if_neg h]

theorem isMeet_parts {m : Mx} {a b x : Nat} (h : isMeetB m a b x = true) : bothB m x a b = true ∧ ∀ c, c < m.n → bothB m c a b = true → leB m c x = true := by
  unfold isMeetB at h
  rw [Bool.and_eq_true] at h
  refine ⟨h.1, fun c hc hb => ?_⟩
  have := allB_is h.2 c hc
  rw [hb] at this
  simpa using this
theorem isMeet_mk {m : Mx} {a b x : Nat} (h1 : bothB m x a b = true) (h2 : ∀ c, c < m.n → bothB m c a b = true → leB m c x = true) : isMeetB m a b x = true := by
  unfold isMeetB
  rw [h1, Bool.true_and]
  refine allB_true fun c hc => ?_
  cases hb : bothB m c a b with
  | false => rfl
  | true => rw [h2 c hc hb]; rfl
theorem le_anti {m : Mx} (h : IsOrder m) {x y : Nat} (hx : x < m.n) (hy : y < m.n) (h1 : leB m x y = true) (h2 : leB m y x = true) : x = y := by
  by_cases e : x = y
  · exact e
  · have := h.anti x y hx hy e (leB_is h1)
    have := leB_is h2
    omega

theorem bestI_meet {m : Mx} (h : IsOrder m) {a b x : Nat} (hx : x < m.n) (hm : isMeetB m a b x = true) : ∀ k, x < k → k ≤ m.n → bestI m a b k = (x : Int) := by
  obtain ⟨h1, h2⟩ := isMeet_parts hm
  intro k
  induction k with
  | zero => intro hk; exact absurd hk (Nat.not_lt_zero _)
  | succ k ih =>
    intro hk hkn
    by_cases e : k = x
    · subst e
      refine bestI_step_yes h1 ?_
      rcases bestI_ways m a b k with ⟨h3, _⟩ | ⟨y, hy, h3, h4⟩
      · exact .inl (by omega)
      · right
        rw [h3]
        exact h2 y (by omega) h4
    · have hb := ih (by omega) (by omega)
      rw [bestI_step_no, hb]
      rintro ⟨h3, h4⟩
      rw [hb] at h4
      rcases h4 with h4 | h4
      · omega
      · have h5 := h2 k (by omega) h3
        exact e (le_anti h (by omega) hx h5 (by simpa using h4))

/-- The scan passed: it is the meeting, or there is none. -/
theorem meetI_pass {m : Mx} (h : IsOrder m) {a b : Nat} (hp : ∀ k, k < m.n → bothB m k a b = true → ∀ x : Nat, bestI m a b m.n = (x : Int) → leB m k x = true) : meetI m a b = bestI m a b m.n := by
  rcases bestI_ways m a b m.n with ⟨h1, h2⟩ | ⟨x, hx, h1, h2⟩
  · rw [h1]
    exact firstI_none fun i hi => by
      cases hh : isMeetB m a b i with
      | false => rfl
      | true =>
        have := (isMeet_parts hh).1
        rw [h2 i hi] at this
        cases this
  · have hm : isMeetB m a b x = true := isMeet_mk h2 fun c hc hb => hp c hc hb x h1
    rcases firstI_ways m.n (isMeetB m a b) with ⟨_, h4⟩ | ⟨y, hy, h3, h4, _⟩
    · rw [h4 x hx] at hm; cases hm
    · have := bestI_meet h hy h4 m.n hy (Nat.le_refl _)
      show firstI _ _ = _
      rw [h3, this]
theorem meetI_fail {m : Mx} (h : IsOrder m) {a b k x : Nat} (hk : k < m.n) (hb : bothB m k a b = true) (hx : bestI m a b m.n = (x : Int)) (hn : leB m k x = false) : meetI m a b = -1 :=
  firstI_none fun i hi => by
    cases hh : isMeetB m a b i with
    | false => rfl
    | true =>
      have h1 := bestI_meet h hi hh m.n hi (Nat.le_refl _)
      have h2 := (isMeet_parts hh).2 k hk hb
      have : i = x := by omega
      subst this
      rw [hn] at h2; cases h2

theorem tr_order {m : Mx} (h : IsOrder m) : IsOrder (tr m) :=
  ⟨h.pos, h.top, ⟨fun _ _ => rfl, fun r hr c hc => h.sq.bit c hc r hr⟩, h.refl, fun a b ha hb hne h1 => by
    have h1' : m.Z b a = 1 := h1
    exact h.anti b a hb ha (Ne.symm hne) h1', fun a b c ha hb hc h1 h2 => h.trans c b a hc hb ha h2 h1⟩
theorem leB_cases {m : Mx} (h : Square m) {a b : Nat} (ha : a < m.n) (hb : b < m.n) : (leB m a b = true ∧ m.Z a b = 1) ∨ (leB m a b = false ∧ m.Z a b = 0) := by
  rcases h.bit a ha b hb with h1 | h1
  · exact .inr ⟨by simp [leB, h1], h1⟩
  · exact .inl ⟨by simp [leB, h1], h1⟩
end Go.Proofs.Ytojcgmgponnlpaa
namespace Go.Proofs.Ytojcgmgponnlpaa
theorem hasI_yes {i : Int} (h : 0 ≤ i) : hasI i = true := by unfold hasI; simpa using h
theorem hasI_is {i : Int} (h : hasI i = true) : 0 ≤ i := by unfold hasI at h; simpa using h
theorem meetI_range (m : Mx) (a b : Nat) : -1 ≤ meetI m a b ∧ meetI m a b < (m.n : Int) + 1 := by
  rcases firstI_ways m.n (isMeetB m a b) with ⟨h, _⟩ | ⟨k, hk, h, _⟩
  · show -1 ≤ firstI _ _ ∧ firstI _ _ < _; omega
  · show -1 ≤ firstI _ _ ∧ firstI _ _ < _; omega
/-- Both meet and join. -/
structure MJ (m : Mx) (a b : Nat) : Prop where
  meets : hasI (meetI m a b) = true
  joins : hasI (meetI (tr m) a b) = true
structure IsLattice (m : Mx) : Prop where
  order : IsOrder m
  both : ∀ a b, a < m.n → b < m.n → MJ m a b
open Classical in
noncomputable def latticeB (m : Mx) : Bool := decide (IsLattice m)
open Classical in
theorem latticeB_true {m : Mx} (h : IsLattice m) : latticeB m = true := by unfold latticeB; exact decide_eq_true h
open Classical in
theorem latticeB_false {m : Mx} (h : ¬ IsLattice m) : latticeB m = false := by unfold latticeB; exact decide_eq_false h
open Classical in
theorem latticeB_is {m : Mx} (h : latticeB m = true) : IsLattice m := by unfold latticeB at h; exact of_decide_eq_true h
theorem bothB_comm (m : Mx) (c a b : Nat) : bothB m c a b = bothB m c b a := by unfold bothB; rw [Bool.and_comm]
theorem meetI_comm (m : Mx) (a b : Nat) : meetI m a b = meetI m b a := by
  unfold meetI
  have : isMeetB m a b = isMeetB m b a := by
    funext x
    unfold isMeetB ubB
    rw [bothB_comm m x a b]
    congr 1
    unfold allB
    congr 1
    funext c
    rw [bothB_comm m c a b]
  rw [this]
theorem MJ.comm {m : Mx} {a b : Nat} (h : MJ m a b) : MJ m b a := ⟨by rw [meetI_comm]; exact h.meets, by rw [meetI_comm]; exact h.joins⟩
/-- Of an answer and itself the meeting is this. -/
theorem meetI_self {m : Mx} (h : IsOrder m) {a : Nat} (ha : a < m.n) : meetI m a a = (a : Int) := by
  have hr : leB m a a = true := leB_mk (h.refl a ha)
  have hm : isMeetB m a a a = true := isMeet_mk (by unfold bothB; rw [hr]; rfl) fun c _ hb => by
    unfold bothB at hb
    rw [Bool.and_eq_true] at hb
    exact hb.1
  rcases firstI_ways m.n (isMeetB m a a) with ⟨_, h4⟩ | ⟨y, hy, h3, h4, _⟩
  · rw [h4 a ha] at hm; cases hm
  · have h5 := bestI_meet h hy h4 m.n hy (Nat.le_refl _)
    have h6 := bestI_meet h ha hm m.n ha (Nat.le_refl _)
    show firstI _ _ = _
    omega
theorem MJ.self {m : Mx} (h : IsOrder m) {a : Nat} (ha : a < m.n) : MJ m a a :=
  ⟨by rw [meetI_self h ha]; exact hasI_nat a, by rw [meetI_self (tr_order h) ha]; exact hasI_nat a⟩
/-- It is enough to look at pairs of which the second is less. -/
theorem lattice_of_less {m : Mx} (h : IsOrder m) (hp : ∀ a, a < m.n → ∀ b, b < a → MJ m a b) : IsLattice m :=
  ⟨h, fun a b ha hb => by
    rcases Nat.lt_trichotomy a b with h1 | h1 | h1
    · exact (hp b hb a h1).comm
    · subst h1; exact MJ.self h ha
    · exact hp a ha b h1⟩
end Go.Proofs.Ytojcgmgponnlpaa
namespace Go.Proofs.Ytojcgmgponnlpaa

end Go.Proofs.Ytojcgmgponnlpaa
namespace Go.Proofs.Ytojcgmgponnlpaa

theorem meetI_of {m : Mx} (h : IsOrder m) {a b x : Nat} (hx : x < m.n) (hm : isMeetB m a b x = true) : meetI m a b = (x : Int) := by
  rcases firstI_ways m.n (isMeetB m a b) with ⟨_, hno⟩ | ⟨k, hk, he, h1, _⟩
  · rw [hno x hx] at hm; cases hm
  · have p := isMeet_parts hm
    have q := isMeet_parts h1
    have : k = x := le_anti h hk hx (p.2 k hk q.1) (q.2 x hx p.1)
    unfold meetI
    rw [he, this]
theorem meetI_parts {m : Mx} {a b : Nat} (h : hasI (meetI m a b) = true) : ∃ x, x < m.n ∧ meetI m a b = (x : Int) ∧ m.Z x a = 1 ∧ m.Z x b = 1 ∧ ∀ c, c < m.n → m.Z c a = 1 → m.Z c b = 1 → m.Z c x = 1 := by
  rcases firstI_ways m.n (isMeetB m a b) with ⟨he, _⟩ | ⟨k, hk, he, h1, _⟩
  · have he' : meetI m a b = -1 := he
    rw [he'] at h
    cases h
  · obtain ⟨p, q⟩ := isMeet_parts h1
    have p' := p
    unfold bothB at p'
    rw [Bool.and_eq_true] at p'
    exact ⟨k, hk, he, leB_is p'.1, leB_is p'.2, fun c hc ha hb => leB_is (q c hc (by unfold bothB; rw [leB_mk ha, leB_mk hb]; rfl))⟩
theorem least_parts {m : Mx} (h : IsOrder m) (hl : hasI (leastI m) = true) : ∃ x, x < m.n ∧ leastI m = (x : Int) ∧ ∀ k, k < m.n → m.Z x k = 1 ∧ meetI m x k = (x : Int) := by
  rcases firstI_ways m.n (belowAllB m) with ⟨he, _⟩ | ⟨x, hx, he, h1, _⟩
  · have he' : leastI m = -1 := he
    rw [he'] at hl
    cases hl
  · refine ⟨x, hx, he, fun k hk => ?_⟩
    have hb := allB_is h1
    refine ⟨leB_is (hb k hk), meetI_of h hx (isMeet_mk ?_ fun c _ hc => ?_)⟩
    · unfold bothB
      rw [hb x hx, hb k hk]; rfl
    · unfold bothB at hc
      rw [Bool.and_eq_true] at hc
      exact hc.1
end Go.Proofs.Ytojcgmgponnlpaa
namespace Go.Proofs.Ytojcgmgponnlpaa

/-- One at x, nought elsewhere. -/
def one (x i : Nat) : Int := if i = x then 1 else 0
/-- Below all. -/
def BelowAll (m : Mx) (x : Nat) : Prop := ∀ k, k < m.n → m.Z x k = 1
theorem lattice_least {m : Mx} (h : IsLattice m) : ∃ x, x < m.n ∧ BelowAll m x := by
  have key : ∀ k, 1 ≤ k → k ≤ m.n → ∃ x, x < m.n ∧ ∀ i, i < k → m.Z x i = 1 := by
    intro k
    induction k with
    | zero => intro h1; omega
    | succ k ih =>
      intro _ hk
      by_cases e : k = 0
      · subst e
        exact ⟨0, by omega, fun i hi => by
          obtain rfl : i = 0 := by omega
          exact h.order.refl 0 (by omega)⟩
      · obtain ⟨x, hx, hxi⟩ := ih (by omega) (by omega)
        obtain ⟨y, hy, _, hyx, hyk, _⟩ := meetI_parts (h.both x k hx (by omega)).meets
        refine ⟨y, hy, fun i hi => ?_⟩
        by_cases e' : i = k
        · subst e'; exact hyk
        · exact h.order.trans y x i hy hx (by omega) hyx (hxi i (by omega))
  obtain ⟨x, hx, hxa⟩ := key m.n h.order.pos (Nat.le_refl _)
  exact ⟨x, hx, hxa⟩
theorem lattice_hasLeast {m : Mx} (h : IsLattice m) : hasI (leastI m) = true := by
  obtain ⟨x, hx, hl⟩ := lattice_least h
  rcases firstI_ways m.n (belowAllB m) with ⟨_, hno⟩ | ⟨k, _, he, _, _⟩
  · have h1 : belowAllB m x = true := allB_true fun k hk => leB_mk (hl k hk)
    rw [hno x hx] at h1; cases h1
  · have he' : leastI m = (k : Int) := he
    rw [he']; exact hasI_nat k
end Go.Proofs.Ytojcgmgponnlpaa
namespace Go.Proofs.Ytojcgmgponnlpaa

/-- Each of so many numbers is one below n, and the number at its place is the place. -/
structure IsPair (k n : Nat) (z : Nat → Int) : Prop where
  len : k = n
  lo : ∀ a, a < n → 0 ≤ z a
  hi : ∀ a, a < n → z a < (n : Int)
  inv : ∀ a, a < n → z (z a).toNat = (a : Int)
open Classical in
noncomputable def pairB (k n : Nat) (z : Nat → Int) : Bool := decide (IsPair k n z)
open Classical in
theorem pairB_true {k n : Nat} {z : Nat → Int} (h : IsPair k n z) : pairB k n z = true := by unfold pairB; exact decide_eq_true h
open Classical in
theorem pairB_false {k n : Nat} {z : Nat → Int} (h : ¬ IsPair k n z) : pairB k n z = false := by unfold pairB; exact decide_eq_false h
open Classical in
theorem pairB_is {k n : Nat} {z : Nat → Int} (h : pairB k n z = true) : IsPair k n z := by unfold pairB at h; exact of_decide_eq_true h
open Classical in
theorem pairB_not {k n : Nat} {z : Nat → Int} (h : pairB k n z = false) : ¬ IsPair k n z := by unfold pairB at h; exact of_decide_eq_false h
/-- The opposites as numbers from 0 on. -/
theorem IsPair.nat {k n : Nat} {z : Nat → Int} (h : IsPair k n z) : ∃ y : Nat → Nat, ∀ a, a < n → z a = (y a : Int) ∧ y a < n ∧ y (y a) = a := by
  refine ⟨fun a => (z a).toNat, fun a ha => ?_⟩
  have h1 := h.lo a ha
  have h2 := h.hi a ha
  have h3 := h.inv a ha
  refine ⟨by show z a = ((z a).toNat : Int); omega, by show (z a).toNat < n; omega, ?_⟩
  show (z (z a).toNat).toNat = a
  omega

/-- What is below is above among the opposites. -/
def turnPB (m : Mx) (y : Nat → Nat) (a b : Nat) : Bool := !(leB m a b && !leB m (y b) (y a))
def turnB (m : Mx) (y : Nat → Nat) : Bool := allB m.n fun a => allB m.n fun b => turnPB m y a b
/-- Each meets its opposite in the least one. -/
def keptPB (m : Mx) (y : Nat → Nat) (a : Nat) : Bool := decide (meetI m a (y a) = leastI m)
def keptB (m : Mx) (y : Nat → Nat) : Bool := allB m.n (keptPB m y)
structure IsLogic (m : Mx) (k : Nat) (z : Nat → Int) : Prop where
  lat : IsLattice m
  pair : IsPair k m.n z
  turn : turnB m (fun a => (z a).toNat) = true
  kept : keptB m (fun a => (z a).toNat) = true
open Classical in
noncomputable def logicB (m : Mx) (k : Nat) (z : Nat → Int) : Bool := decide (IsLogic m k z)
open Classical in
theorem logicB_true {m : Mx} {k : Nat} {z : Nat → Int} (h : IsLogic m k z) : logicB m k z = true := by unfold logicB; exact decide_eq_true h
open Classical in
theorem logicB_false {m : Mx} {k : Nat} {z : Nat → Int} (h : ¬ IsLogic m k z) : logicB m k z = false := by unfold logicB; exact decide_eq_false h
open Classical in
theorem logicB_is {m : Mx} {k : Nat} {z : Nat → Int} (h : logicB m k z = true) : IsLogic m k z := by unfold logicB at h; exact of_decide_eq_true h
theorem allB_congr {n : Nat} {f g : Nat → Bool} (h : ∀ i, i < n → f i = g i) : allB n f = allB n g := by
  cases hg : allB n g with
  | true => exact allB_true fun i hi => by rw [h i hi]; exact allB_is hg i hi
  | false =>
    cases hf : allB n f with
    | false => rfl
    | true => rw [allB_true (f := g) fun i hi => by rw [← h i hi]; exact allB_is hf i hi] at hg; cases hg
theorem turnB_congr {m : Mx} {y y' : Nat → Nat} (h : ∀ a, a < m.n → y a = y' a) : turnB m y = turnB m y' :=
  allB_congr fun a ha => allB_congr fun b hb => by unfold turnPB; rw [h a ha, h b hb]
theorem keptB_congr {m : Mx} {y y' : Nat → Nat} (h : ∀ a, a < m.n → y a = y' a) : keptB m y = keptB m y' :=
  allB_congr fun a ha => by unfold keptPB; rw [h a ha]
theorem logic_is {m : Mx} {k : Nat} {z : Nat → Int} {y : Nat → Nat} (hl : IsLattice m) (hp : IsPair k m.n z) (hy : ∀ a, a < m.n → z a = (y a : Int)) : logicB m k z = (turnB m y && keptB m y) := by
  have e : ∀ a, a < m.n → (z a).toNat = y a := fun a ha => by rw [hy a ha]; simp
  have h1 := turnB_congr (m := m) (y := fun a => (z a).toNat) (y' := y) e
  have h2 := keptB_congr (m := m) (y := fun a => (z a).toNat) (y' := y) e
  cases hb : turnB m y && keptB m y with
  | true =>
    rw [Bool.and_eq_true] at hb
    exact logicB_true ⟨hl, hp, h1.trans hb.1, h2.trans hb.2⟩
  | false =>
    refine logicB_false fun h => ?_
    rw [← h1, ← h2, h.turn, h.kept] at hb
    cases hb
end Go.Proofs.Ytojcgmgponnlpaa
namespace Go.Proofs.Ytojcgmgponnlpaa

/-- A lattice with opposites, as plain numbers. -/
structure Ortho (m : Mx) (z : Nat → Int) (y : Nat → Nat) (o : Nat) : Prop where
  lat : IsLattice m
  zy : ∀ a, a < m.n → z a = (y a : Int)
  lt : ∀ a, a < m.n → y a < m.n
  inv : ∀ a, a < m.n → y (y a) = a
  turn : ∀ a b, a < m.n → b < m.n → m.Z a b = 1 → m.Z (y b) (y a) = 1
  ho : o < m.n
  least : BelowAll m o
  eq : leastI m = (o : Int)
  kept : ∀ a, a < m.n → meetI m a (y a) = (o : Int)
theorem IsLogic.ortho {m : Mx} {k : Nat} {z : Nat → Int} (h : IsLogic m k z) : ∃ y o, Ortho m z y o := by
  obtain ⟨y, hy⟩ := h.pair.nat
  have e : ∀ a, a < m.n → (z a).toNat = y a := fun a ha => by rw [(hy a ha).1]; simp
  have h1 := turnB_congr (m := m) (y := fun a => (z a).toNat) (y' := y) e
  have h2 := keptB_congr (m := m) (y := fun a => (z a).toNat) (y' := y) e
  have ht := h1.symm.trans h.turn
  have hk := h2.symm.trans h.kept
  obtain ⟨o, ho, heq, hob⟩ := least_parts h.lat.order (lattice_hasLeast h.lat)
  refine ⟨y, o, h.lat, fun a ha => (hy a ha).1, fun a ha => (hy a ha).2.1, fun a ha => (hy a ha).2.2, fun a b ha hb hab => ?_, ho, fun k hk => (hob k hk).1, heq, fun a ha => ?_⟩
  · have := allB_is (allB_is ht a ha) b hb
    unfold turnPB at this
    rw [leB_mk hab] at this
    exact leB_is (by simpa using this)
  · have := allB_is hk a ha
    unfold keptPB at this
    rw [of_decide_eq_true this, heq]

theorem Ortho.meets {m : Mx} {z : Nat → Int} {y : Nat → Nat} {o : Nat} (h : Ortho m z y o) {a b : Nat} (ha : a < m.n) (hb : b < m.n) : ∃ x, x < m.n ∧ meetI m a b = (x : Int) := by
  obtain ⟨x, hx, e, _⟩ := meetI_parts (h.lat.both a b ha hb).meets
  exact ⟨x, hx, e⟩
theorem leastI_of {m : Mx} (h : IsOrder m) {o : Nat} (ho : o < m.n) (hl : BelowAll m o) : leastI m = (o : Int) := by
  rcases firstI_ways m.n (belowAllB m) with ⟨_, hno⟩ | ⟨k, hk, he, h1, _⟩
  · have h1 : belowAllB m o = true := allB_true fun k hk => leB_mk (hl k hk)
    rw [hno o ho] at h1; cases h1
  · have he' : leastI m = (k : Int) := he
    rw [he', le_anti h hk ho (allB_is h1 o ho) (leB_mk (hl k hk))]
theorem Ortho.under {m : Mx} {z : Nat → Int} {y : Nat → Nat} {o : Nat} (h : Ortho m z y o) {c a : Nat} (hc : c < m.n) (ha : a < m.n) (h1 : m.Z c a = 1) (h2 : m.Z c (y a) = 1) : c = o := by
  obtain ⟨x', hx', e, _, _, h3⟩ := meetI_parts (h.lat.both a (y a) ha (h.lt a ha)).meets
  have e2 := h.kept a ha
  have : x' = o := by omega
  subst this
  exact le_anti h.lat.order hc hx' (leB_mk (h3 c hc h1 h2)) (leB_mk (h.least c hc))
end Go.Proofs.Ytojcgmgponnlpaa
namespace Go.Proofs.Ytojcgmgponnlpaa

/-- What makes rows and opposites a logic: meetings alone, since joins are opposites of meetings of opposites. -/
structure LogicData (n : Nat) (Z : Nat → Nat → Int) (y : Nat → Nat) (o : Nat) : Prop where
  pos : 1 ≤ n
  top : n ≤ 12
  bit : ∀ a b, a < n → b < n → Z a b = 0 ∨ Z a b = 1
  refl : ∀ a, a < n → Z a a = 1
  anti : ∀ a b, a < n → b < n → Z a b = 1 → Z b a = 1 → a = b
  trans : ∀ a b c, a < n → b < n → c < n → Z a b = 1 → Z b c = 1 → Z a c = 1
  lt : ∀ a, a < n → y a < n
  inv : ∀ a, a < n → y (y a) = a
  turn : ∀ a b, a < n → b < n → Z a b = 1 → Z (y b) (y a) = 1
  meet : ∀ a b, a < n → b < n → ∃ x, x < n ∧ Z x a = 1 ∧ Z x b = 1 ∧ ∀ c, c < n → Z c a = 1 → Z c b = 1 → Z c x = 1
  ho : o < n
  least : ∀ a, a < n → Z o a = 1
  kept : ∀ a c, a < n → c < n → Z c a = 1 → Z c (y a) = 1 → c = o
theorem LogicData.order {n : Nat} {Z : Nat → Nat → Int} {y : Nat → Nat} {o : Nat} (h : LogicData n Z y o) : IsOrder ⟨n, fun _ => n, Z⟩ :=
  ⟨h.pos, h.top, ⟨fun _ _ => rfl, fun r hr c hc => h.bit r c hr hc⟩, h.refl, fun a b ha hb hne hab => by
    rcases h.bit b a hb ha with e | e
    · exact e
    · exact absurd (h.anti a b ha hb hab e) hne, h.trans⟩
theorem hasI_of {m : Mx} (h : IsOrder m) {a b x : Nat} (hx : x < m.n) (h1 : m.Z x a = 1) (h2 : m.Z x b = 1) (h3 : ∀ c, c < m.n → m.Z c a = 1 → m.Z c b = 1 → m.Z c x = 1) : meetI m a b = (x : Int) :=
  meetI_of h hx (isMeet_mk (by unfold bothB; rw [leB_mk h1, leB_mk h2]; rfl) fun c hc hb => by
    unfold bothB at hb
    rw [Bool.and_eq_true] at hb
    exact leB_mk (h3 c hc (leB_is hb.1) (leB_is hb.2)))
theorem LogicData.lattice {n : Nat} {Z : Nat → Nat → Int} {y : Nat → Nat} {o : Nat} (h : LogicData n Z y o) : IsLattice ⟨n, fun _ => n, Z⟩ := by
  refine ⟨h.order, fun a b ha hb => ⟨?_, ?_⟩⟩
  · obtain ⟨x, hx, h1, h2, h3⟩ := h.meet a b ha hb
    rw [hasI_of h.order (x := x) hx h1 h2 h3]
    exact hasI_nat x
  · have ha' : a < n := ha
    have hb' : b < n := hb
    obtain ⟨x, hx, h1, h2, h3⟩ := h.meet (y a) (y b) (h.lt a ha') (h.lt b hb')
    have k1 : Z a (y x) = 1 := by
      have := h.turn x (y a) hx (h.lt a ha') h1
      rwa [h.inv a ha'] at this
    have k2 : Z b (y x) = 1 := by
      have := h.turn x (y b) hx (h.lt b hb') h2
      rwa [h.inv b hb'] at this
    have e := hasI_of (m := tr ⟨n, fun _ => n, Z⟩) (tr_order h.order) (a := a) (b := b) (x := y x) (h.lt x hx) k1 k2 fun c hc g1 g2 => by
      have hc' : c < n := hc
      have t1 : Z a c = 1 := g1
      have t2 : Z b c = 1 := g2
      have := h.turn (y c) x (h.lt c hc') hx (h3 (y c) (h.lt c hc') (h.turn a c ha' hc' t1) (h.turn b c hb' hc' t2))
      rw [h.inv c hc'] at this
      exact this
    rw [e]
    exact hasI_nat _
theorem LogicData.ortho {n : Nat} {Z : Nat → Nat → Int} {y : Nat → Nat} {o : Nat} (h : LogicData n Z y o) : Ortho ⟨n, fun _ => n, Z⟩ (fun a => (y a : Int)) y o :=
  ⟨h.lattice, fun _ _ => rfl, h.lt, h.inv, h.turn, h.ho, h.least, leastI_of h.order h.ho h.least, fun a ha =>
    hasI_of h.order (x := o) h.ho (h.least a ha) (h.least _ (h.lt a ha)) fun c hc g1 g2 => by
      rw [h.kept a c ha hc g1 g2]
      exact h.refl o h.ho⟩
theorem Ortho.logic {m : Mx} {z : Nat → Int} {y : Nat → Nat} {o : Nat} (h : Ortho m z y o) : IsLogic m m.n z := by
  have e : ∀ a, a < m.n → (z a).toNat = y a := fun a ha => by rw [h.zy a ha]; simp
  refine ⟨h.lat, ⟨rfl, fun a ha => by rw [h.zy a ha]; omega, fun a ha => by rw [h.zy a ha]; have := h.lt a ha; omega, fun a ha => by rw [e a ha, h.zy _ (h.lt a ha), h.inv a ha]⟩, ?_, ?_⟩
  · refine (turnB_congr e).trans (allB_true fun a ha => allB_true fun b hb => ?_)
    unfold turnPB
    cases hl : leB m a b with
    | false => rfl
    | true => rw [leB_mk (h.turn a b ha hb (leB_is hl))]; rfl
  · refine (keptB_congr e).trans (allB_true fun a ha => ?_)
    unfold keptPB
    rw [h.kept a ha, h.eq]
    simp
theorem LogicData.logic {n : Nat} {Z : Nat → Nat → Int} {y : Nat → Nat} {o : Nat} (h : LogicData n Z y o) : IsLogic ⟨n, fun _ => n, Z⟩ n (fun a => (y a : Int)) := h.ortho.logic
/-- A logic is such data. -/
theorem Ortho.data {m : Mx} {z : Nat → Int} {y : Nat → Nat} {o : Nat} (h : Ortho m z y o) : LogicData m.n m.Z y o :=
  ⟨h.lat.order.pos, h.lat.order.top, fun a b ha hb => h.lat.order.sq.bit a ha b hb, h.lat.order.refl, fun a b ha hb h1 h2 => le_anti h.lat.order ha hb (leB_mk h1) (leB_mk h2), h.lat.order.trans, h.lt, h.inv, h.turn,
   fun a b ha hb => by
     obtain ⟨x, hx, _, h1, h2, h3⟩ := meetI_parts (h.lat.both a b ha hb).meets
     exact ⟨x, hx, h1, h2, h3⟩, h.ho, fun a ha => h.least a ha, fun a c ha hc g1 g2 => h.under hc ha g1 g2⟩

def timesZ (n : Nat) (Z1 Z2 : Nat → Nat → Int) (k j : Nat) : Int := Z1 (k / n) (j / n) * Z2 (k % n) (j % n)
def timesY (n : Nat) (y1 y2 : Nat → Nat) (k : Nat) : Nat := y1 (k / n) * n + y2 (k % n)
theorem div_pair {n a b : Nat} (hb : b < n) : (a * n + b) / n = a := by
  rw [Nat.mul_comm, Nat.mul_add_div (by omega), Nat.div_eq_of_lt hb, Nat.add_zero]
theorem mod_pair {n a b : Nat} (hb : b < n) : (a * n + b) % n = b := by
  rw [Nat.mul_comm, Nat.mul_add_mod, Nat.mod_eq_of_lt hb]
theorem pair_lt {n n1 a b : Nat} (ha : a < n1) (hb : b < n) : a * n + b < n1 * n := by
  have h1 : (a + 1) * n ≤ n1 * n := Nat.mul_le_mul_right n ha
  rw [Nat.add_mul] at h1
  omega
theorem pair_parts {n n1 k : Nat} (h : k < n1 * n) : k / n < n1 ∧ k % n < n ∧ k = k / n * n + k % n := by
  have hn : 0 < n := by
    rcases Nat.eq_zero_or_pos n with e | e
    · rw [e] at h; omega
    · exact e
  exact ⟨(Nat.div_lt_iff_lt_mul hn).2 h, Nat.mod_lt k hn, by rw [Nat.mul_comm]; exact (Nat.div_add_mod k n).symm⟩
theorem bits_mul {a b : Int} (h1 : a = 0 ∨ a = 1) (h2 : b = 0 ∨ b = 1) : (a * b = 0 ∨ a * b = 1) ∧ (a * b = 1 ↔ a = 1 ∧ b = 1) := by
  rcases h1 with rfl | rfl <;> rcases h2 with rfl | rfl <;> simp
theorem times_data {n1 n2 o1 o2 : Nat} {Z1 Z2 : Nat → Nat → Int} {y1 y2 : Nat → Nat} (h1 : LogicData n1 Z1 y1 o1) (h2 : LogicData n2 Z2 y2 o2) (hn : n1 * n2 ≤ 12) : LogicData (n1 * n2) (timesZ n2 Z1 Z2) (timesY n2 y1 y2) (o1 * n2 + o2) := by
  have one : ∀ k j, k < n1 * n2 → j < n1 * n2 → (timesZ n2 Z1 Z2 k j = 1 ↔ Z1 (k / n2) (j / n2) = 1 ∧ Z2 (k % n2) (j % n2) = 1) := fun k j hk hj => by
    obtain ⟨a1, a2, _⟩ := pair_parts hk
    obtain ⟨b1, b2, _⟩ := pair_parts hj
    exact (bits_mul (h1.bit _ _ a1 b1) (h2.bit _ _ a2 b2)).2
  have ypair : ∀ k, k < n1 * n2 → timesY n2 y1 y2 k < n1 * n2 ∧ timesY n2 y1 y2 k / n2 = y1 (k / n2) ∧ timesY n2 y1 y2 k % n2 = y2 (k % n2) := fun k hk => by
    obtain ⟨a1, a2, _⟩ := pair_parts hk
    exact ⟨pair_lt (h1.lt _ a1) (h2.lt _ a2), div_pair (h2.lt _ a2), mod_pair (h2.lt _ a2)⟩
  refine ⟨?_, hn, fun k j hk hj => ?_, fun k hk => ?_, fun k j hk hj e1 e2 => ?_, fun k j c hk hj hc e1 e2 => ?_, fun k hk => (ypair k hk).1, fun k hk => ?_, fun k j hk hj e => ?_, fun k j hk hj => ?_, ?_, fun k hk => ?_, fun k c hk hc e1 e2 => ?_⟩
  · exact Nat.mul_pos h1.pos h2.pos
  · obtain ⟨a1, a2, _⟩ := pair_parts hk
    obtain ⟨b1, b2, _⟩ := pair_parts hj
    exact (bits_mul (h1.bit _ _ a1 b1) (h2.bit _ _ a2 b2)).1
  · obtain ⟨a1, a2, _⟩ := pair_parts hk
    exact (one k k hk hk).2 ⟨h1.refl _ a1, h2.refl _ a2⟩
  · obtain ⟨a1, a2, a3⟩ := pair_parts hk
    obtain ⟨b1, b2, b3⟩ := pair_parts hj
    obtain ⟨f1, f2⟩ := (one k j hk hj).1 e1
    obtain ⟨g1, g2⟩ := (one j k hj hk).1 e2
    rw [a3, b3, h1.anti _ _ a1 b1 f1 g1, h2.anti _ _ a2 b2 f2 g2]
  · obtain ⟨a1, a2, _⟩ := pair_parts hk
    obtain ⟨b1, b2, _⟩ := pair_parts hj
    obtain ⟨c1, c2, _⟩ := pair_parts hc
    obtain ⟨f1, f2⟩ := (one k j hk hj).1 e1
    obtain ⟨g1, g2⟩ := (one j c hj hc).1 e2
    exact (one k c hk hc).2 ⟨h1.trans _ _ _ a1 b1 c1 f1 g1, h2.trans _ _ _ a2 b2 c2 f2 g2⟩
  · obtain ⟨a1, a2, a3⟩ := pair_parts hk
    obtain ⟨_, p1, p2⟩ := ypair k hk
    show y1 (timesY n2 y1 y2 k / n2) * n2 + y2 (timesY n2 y1 y2 k % n2) = k
    rw [p1, p2, h1.inv _ a1, h2.inv _ a2, ← a3]
  · obtain ⟨a1, a2, _⟩ := pair_parts hk
    obtain ⟨b1, b2, _⟩ := pair_parts hj
    obtain ⟨p0, p1, p2⟩ := ypair k hk
    obtain ⟨q0, q1, q2⟩ := ypair j hj
    obtain ⟨f1, f2⟩ := (one k j hk hj).1 e
    refine (one _ _ q0 p0).2 ?_
    rw [p1, p2, q1, q2]
    exact ⟨h1.turn _ _ a1 b1 f1, h2.turn _ _ a2 b2 f2⟩
  · obtain ⟨a1, a2, _⟩ := pair_parts hk
    obtain ⟨b1, b2, _⟩ := pair_parts hj
    obtain ⟨x1, hx1, u1, u2, u3⟩ := h1.meet _ _ a1 b1
    obtain ⟨x2, hx2, v1, v2, v3⟩ := h2.meet _ _ a2 b2
    have hx : x1 * n2 + x2 < n1 * n2 := pair_lt hx1 hx2
    refine ⟨x1 * n2 + x2, hx, (one _ _ hx hk).2 ?_, (one _ _ hx hj).2 ?_, fun c hc e1 e2 => (one _ _ hc hx).2 ?_⟩
    · rw [div_pair hx2, mod_pair hx2]; exact ⟨u1, v1⟩
    · rw [div_pair hx2, mod_pair hx2]; exact ⟨u2, v2⟩
    · obtain ⟨c1, c2, _⟩ := pair_parts hc
      obtain ⟨f1, f2⟩ := (one c k hc hk).1 e1
      obtain ⟨g1, g2⟩ := (one c j hc hj).1 e2
      rw [div_pair hx2, mod_pair hx2]
      exact ⟨u3 _ c1 f1 g1, v3 _ c2 f2 g2⟩
  · exact pair_lt h1.ho h2.ho
  · obtain ⟨a1, a2, _⟩ := pair_parts hk
    refine (one _ _ (pair_lt h1.ho h2.ho) hk).2 ?_
    rw [div_pair h2.ho, mod_pair h2.ho]
    exact ⟨h1.least _ a1, h2.least _ a2⟩
  · obtain ⟨a1, a2, _⟩ := pair_parts hk
    obtain ⟨c1, c2, c3⟩ := pair_parts hc
    obtain ⟨p0, p1, p2⟩ := ypair k hk
    obtain ⟨f1, f2⟩ := (one c k hc hk).1 e1
    obtain ⟨g1, g2⟩ := (one c _ hc p0).1 e2
    rw [p1] at g1
    rw [p2] at g2
    rw [c3, h1.kept _ _ a1 c1 f1 g1, h2.kept _ _ a2 c2 f2 g2]

/-- A row of all numbers below n, each once, and its reverse. -/
structure Perm (n : Nat) (q b : Nat → Nat) : Prop where
  lt : ∀ k, k < n → q k < n
  blt : ∀ k, k < n → b k < n
  qb : ∀ k, k < n → q (b k) = k
  bq : ∀ k, k < n → b (q k) = k
def nameZ (Z : Nat → Nat → Int) (q : Nat → Nat) (k j : Nat) : Int := Z (q k) (q j)
end Go.Proofs.Ytojcgmgponnlpaa
namespace Go.Proofs.Ytojcgmgponnlpaa

/-- So many numbers below n, none of them lo or hi, each other number once. -/
structure Inner (n lo hi p : Nat) (f : Nat → Nat) : Prop where
  len : p + 2 = n
  lt : ∀ i, i < p → f i < n
  nlo : ∀ i, i < p → f i ≠ lo
  nhi : ∀ i, i < p → f i ≠ hi
  inj : ∀ i j, i < p → j < p → f i = f j → i = j
  all : ∀ c, c < n → c ≠ lo → c ≠ hi → ∃ i, i < p ∧ f i = c

/-- One side of what is glued: the logic's inner answers at s + 1 .. s + p. -/
def sideZ (Z : Nat → Nat → Int) (f : Nat → Nat) (s k j : Nat) : Int := Z (f (k - s - 1)) (f (j - s - 1))
def gluedZ (p r : Nat) (Z1 Z2 : Nat → Nat → Int) (f1 f2 : Nat → Nat) (k j : Nat) : Int :=
  if k = 0 ∨ j = p + r + 1 then 1
  else if 1 ≤ k ∧ k ≤ p ∧ 1 ≤ j ∧ j ≤ p then sideZ Z1 f1 0 k j
  else if p + 1 ≤ k ∧ k ≤ p + r ∧ p + 1 ≤ j ∧ j ≤ p + r then sideZ Z2 f2 p k j
  else if k = j then 1 else 0
/-- Where a number stands: at the bottom, at the top, on the first side, on the second one. -/
theorem stands (p r k : Nat) (h : k < p + r + 2) : k = 0 ∨ k = p + r + 1 ∨ (∃ i, i < p ∧ k = i + 1) ∨ (∃ i, i < r ∧ k = p + i + 1) := by
  by_cases h0 : k = 0
  · exact .inl h0
  · by_cases h1 : k = p + r + 1
    · exact .inr (.inl h1)
    · by_cases h2 : k ≤ p
      · exact .inr (.inr (.inl ⟨k - 1, by omega, by omega⟩))
      · exact .inr (.inr (.inr ⟨k - p - 1, by omega, by omega⟩))
section
variable {p r : Nat} {Z1 Z2 : Nat → Nat → Int} {f1 f2 : Nat → Nat}
theorem gz_bot (j : Nat) : gluedZ p r Z1 Z2 f1 f2 0 j = 1 := by unfold gluedZ; rw [if_pos (.inl rfl)]
theorem gz_top (k : Nat) : gluedZ p r Z1 Z2 f1 f2 k (p + r + 1) = 1 := by unfold gluedZ; rw [if_pos (.inr rfl)]
theorem gz_AA {i j : Nat} (hi : i < p) (hj : j < p) : gluedZ p r Z1 Z2 f1 f2 (i + 1) (j + 1) = Z1 (f1 i) (f1 j) := by
  unfold gluedZ sideZ
  rw [if_neg (by omega), if_pos (by omega)]
  rw [show i + 1 - 0 - 1 = i by omega, show j + 1 - 0 - 1 = j by omega]
theorem gz_BB {i j : Nat} (hi : i < r) (hj : j < r) : gluedZ p r Z1 Z2 f1 f2 (p + i + 1) (p + j + 1) = Z2 (f2 i) (f2 j) := by
  unfold gluedZ sideZ
  rw [if_neg (by omega), if_neg (by omega), if_pos (by omega)]
  rw [show p + i + 1 - p - 1 = i by omega, show p + j + 1 - p - 1 = j by omega]
theorem gz_AB {i j : Nat} (hi : i < p) (hj : j < r) : gluedZ p r Z1 Z2 f1 f2 (i + 1) (p + j + 1) = 0 := by
  unfold gluedZ
  rw [if_neg (by omega), if_neg (by omega), if_neg (by omega), if_neg (by omega)]
theorem gz_BA {i j : Nat} (_ : i < r) (_ : j < p) : gluedZ p r Z1 Z2 f1 f2 (p + i + 1) (j + 1) = 0 := by
  unfold gluedZ
  rw [if_neg (by omega), if_neg (by omega), if_neg (by omega), if_neg (by omega)]
theorem gz_A0 {i : Nat} (hi : i < p) : gluedZ p r Z1 Z2 f1 f2 (i + 1) 0 = 0 := by
  unfold gluedZ
  rw [if_neg (by omega), if_neg (by omega), if_neg (by omega), if_neg (by omega)]
theorem gz_B0 {i : Nat} (_ : i < r) : gluedZ p r Z1 Z2 f1 f2 (p + i + 1) 0 = 0 := by
  unfold gluedZ
  rw [if_neg (by omega), if_neg (by omega), if_neg (by omega), if_neg (by omega)]
theorem gz_T0 : gluedZ p r Z1 Z2 f1 f2 (p + r + 1) 0 = 0 := by
  unfold gluedZ
  rw [if_neg (by omega), if_neg (by omega), if_neg (by omega), if_neg (by omega)]
theorem gz_TA {j : Nat} (hj : j < p) : gluedZ p r Z1 Z2 f1 f2 (p + r + 1) (j + 1) = 0 := by
  unfold gluedZ
  rw [if_neg (by omega), if_neg (by omega), if_neg (by omega), if_neg (by omega)]
theorem gz_TB {j : Nat} (hj : j < r) : gluedZ p r Z1 Z2 f1 f2 (p + r + 1) (p + j + 1) = 0 := by
  unfold gluedZ
  rw [if_neg (by omega), if_neg (by omega), if_neg (by omega), if_neg (by omega)]
end

/-- The opposites of a side: the place of the opposite. -/
structure SideY (p s : Nat) (f y : Nat → Nat) (g : Nat → Nat) : Prop where
  at_ : ∀ i, i < p → ∃ j, j < p ∧ g (s + i + 1) = s + j + 1 ∧ f j = y (f i)

theorem glued_data {n1 n2 o1 o2 p r : Nat} {Z1 Z2 : Nat → Nat → Int} {y1 y2 f1 f2 g : Nat → Nat} (h1 : LogicData n1 Z1 y1 o1) (h2 : LogicData n2 Z2 y2 o2) (i1 : Inner n1 o1 (y1 o1) p f1) (i2 : Inner n2 o2 (y2 o2) r f2) (hn : p + r + 2 ≤ 12)
    (g0 : g 0 = p + r + 1) (gT : g (p + r + 1) = 0) (gA : SideY p 0 f1 y1 g) (gB : SideY r p f2 y2 g) : LogicData (p + r + 2) (gluedZ p r Z1 Z2 f1 f2) g 0 := by
  have up1 : ∀ c, c < n1 → Z1 c (y1 o1) = 1 := fun c hc => by
    have := h1.turn o1 (y1 c) h1.ho (h1.lt c hc) (h1.least _ (h1.lt c hc))
    rwa [h1.inv c hc] at this
  have up2 : ∀ c, c < n2 → Z2 c (y2 o2) = 1 := fun c hc => by
    have := h2.turn o2 (y2 c) h2.ho (h2.lt c hc) (h2.least _ (h2.lt c hc))
    rwa [h2.inv c hc] at this
  have notT1 : ∀ i c, i < p → c < n1 → Z1 c (f1 i) = 1 → c ≠ y1 o1 := fun i c hi hc e e2 => by
    rw [e2] at e
    exact i1.nhi i hi (h1.anti _ _ (i1.lt i hi) (h1.lt _ h1.ho) (up1 _ (i1.lt i hi)) e)
  have notT2 : ∀ i c, i < r → c < n2 → Z2 c (f2 i) = 1 → c ≠ y2 o2 := fun i c hi hc e e2 => by
    rw [e2] at e
    exact i2.nhi i hi (h2.anti _ _ (i2.lt i hi) (h2.lt _ h2.ho) (up2 _ (i2.lt i hi)) e)
  have yinv1 : ∀ i j, i < p → j < p → f1 j = y1 (f1 i) → f1 i = y1 (f1 j) := fun i j hi hj e => by rw [e, h1.inv _ (i1.lt i hi)]
  have yinv2 : ∀ i j, i < r → j < r → f2 j = y2 (f2 i) → f2 i = y2 (f2 j) := fun i j hi hj e => by rw [e, h2.inv _ (i2.lt i hi)]
  refine ⟨by omega, hn, fun k j hk hj => ?_, fun k hk => ?_, fun k j hk hj e1 e2 => ?_, fun k j c hk hj hc e1 e2 => ?_, fun k hk => ?_, fun k hk => ?_, fun k j hk hj e => ?_, fun k j hk hj => ?_, by omega, fun k hk => gz_bot k, fun k c hk hc e1 e2 => ?_⟩
  · unfold gluedZ
    split
    · exact .inr rfl
    · split
      · rename_i _ h
        exact h1.bit _ _ (i1.lt _ (by omega)) (i1.lt _ (by omega))
      · split
        · rename_i _ _ h
          exact h2.bit _ _ (i2.lt _ (by omega)) (i2.lt _ (by omega))
        · split
          · exact .inr rfl
          · exact .inl rfl
  · rcases stands p r k hk with rfl | rfl | ⟨i, hi, rfl⟩ | ⟨i, hi, rfl⟩
    · exact gz_bot _
    · exact gz_top _
    · rw [gz_AA hi hi]; exact h1.refl _ (i1.lt i hi)
    · rw [gz_BB hi hi]; exact h2.refl _ (i2.lt i hi)
  · rcases stands p r k hk with rfl | rfl | ⟨i, hi, rfl⟩ | ⟨i, hi, rfl⟩ <;> rcases stands p r j hj with rfl | rfl | ⟨i', hi', rfl⟩ | ⟨i', hi', rfl⟩
    · rfl
    · rw [gz_T0] at e2; omega
    · rw [gz_A0 hi'] at e2; omega
    · rw [gz_B0 hi'] at e2; omega
    · rw [gz_T0] at e1; omega
    · rfl
    · rw [gz_TA hi'] at e1; omega
    · rw [gz_TB hi'] at e1; omega
    · rw [gz_A0 hi] at e1; omega
    · rw [gz_TA hi] at e2; omega
    · rw [gz_AA hi hi'] at e1
      rw [gz_AA hi' hi] at e2
      rw [i1.inj i i' hi hi' (h1.anti _ _ (i1.lt i hi) (i1.lt i' hi') e1 e2)]
    · rw [gz_AB hi hi'] at e1; omega
    · rw [gz_B0 hi] at e1; omega
    · rw [gz_TB hi] at e2; omega
    · rw [gz_BA hi hi'] at e1; omega
    · rw [gz_BB hi hi'] at e1
      rw [gz_BB hi' hi] at e2
      rw [i2.inj i i' hi hi' (h2.anti _ _ (i2.lt i hi) (i2.lt i' hi') e1 e2)]
  · rcases stands p r k hk with rfl | rfl | ⟨i, hi, rfl⟩ | ⟨i, hi, rfl⟩
    · exact gz_bot _
    · rcases stands p r j hj with rfl | rfl | ⟨i', hi', rfl⟩ | ⟨i', hi', rfl⟩
      · rw [gz_T0] at e1; omega
      · exact e2
      · rw [gz_TA hi'] at e1; omega
      · rw [gz_TB hi'] at e1; omega
    · rcases stands p r c hc with rfl | rfl | ⟨i'', hi'', rfl⟩ | ⟨i'', hi'', rfl⟩
      · rcases stands p r j hj with rfl | rfl | ⟨i', hi', rfl⟩ | ⟨i', hi', rfl⟩
        · exact e1
        · rw [gz_T0] at e2; omega
        · rw [gz_A0 hi'] at e2; omega
        · rw [gz_B0 hi'] at e2; omega
      · exact gz_top _
      · rcases stands p r j hj with rfl | rfl | ⟨i', hi', rfl⟩ | ⟨i', hi', rfl⟩
        · rw [gz_A0 hi] at e1; omega
        · rw [gz_TA hi''] at e2; omega
        · rw [gz_AA hi hi'] at e1
          rw [gz_AA hi' hi''] at e2
          rw [gz_AA hi hi'']
          exact h1.trans _ _ _ (i1.lt i hi) (i1.lt i' hi') (i1.lt i'' hi'') e1 e2
        · rw [gz_AB hi hi'] at e1; omega
      · rcases stands p r j hj with rfl | rfl | ⟨i', hi', rfl⟩ | ⟨i', hi', rfl⟩
        · rw [gz_A0 hi] at e1; omega
        · rw [gz_TB hi''] at e2; omega
        · rw [gz_AB hi' hi''] at e2; omega
        · rw [gz_AB hi hi'] at e1; omega
    · rcases stands p r c hc with rfl | rfl | ⟨i'', hi'', rfl⟩ | ⟨i'', hi'', rfl⟩
      · rcases stands p r j hj with rfl | rfl | ⟨i', hi', rfl⟩ | ⟨i', hi', rfl⟩
        · exact e1
        · rw [gz_T0] at e2; omega
        · rw [gz_A0 hi'] at e2; omega
        · rw [gz_B0 hi'] at e2; omega
      · exact gz_top _
      · rcases stands p r j hj with rfl | rfl | ⟨i', hi', rfl⟩ | ⟨i', hi', rfl⟩
        · rw [gz_B0 hi] at e1; omega
        · rw [gz_TA hi''] at e2; omega
        · rw [gz_BA hi hi'] at e1; omega
        · rw [gz_BA hi' hi''] at e2; omega
      · rcases stands p r j hj with rfl | rfl | ⟨i', hi', rfl⟩ | ⟨i', hi', rfl⟩
        · rw [gz_B0 hi] at e1; omega
        · rw [gz_TB hi''] at e2; omega
        · rw [gz_BA hi hi'] at e1; omega
        · rw [gz_BB hi hi'] at e1
          rw [gz_BB hi' hi''] at e2
          rw [gz_BB hi hi'']
          exact h2.trans _ _ _ (i2.lt i hi) (i2.lt i' hi') (i2.lt i'' hi'') e1 e2
  · rcases stands p r k hk with rfl | rfl | ⟨i, hi, rfl⟩ | ⟨i, hi, rfl⟩
    · omega
    · omega
    · obtain ⟨j, hj, e, _⟩ := gA.at_ i hi
      rw [Nat.zero_add] at e
      omega
    · obtain ⟨j, hj, e, _⟩ := gB.at_ i hi
      omega
  · rcases stands p r k hk with rfl | rfl | ⟨i, hi, rfl⟩ | ⟨i, hi, rfl⟩
    · rw [g0, gT]
    · rw [gT, g0]
    · obtain ⟨j, hj, e, ej⟩ := gA.at_ i hi
      obtain ⟨j', hj', e', ej'⟩ := gA.at_ j hj
      rw [Nat.zero_add, Nat.zero_add] at e e'
      rw [e, e', i1.inj j' i hj' hi (by rw [ej', ej, h1.inv _ (i1.lt i hi)])]
    · obtain ⟨j, hj, e, ej⟩ := gB.at_ i hi
      obtain ⟨j', hj', e', ej'⟩ := gB.at_ j hj
      rw [e, e', i2.inj j' i hj' hi (by rw [ej', ej, h2.inv _ (i2.lt i hi)])]
  · rcases stands p r k hk with rfl | rfl | ⟨i, hi, rfl⟩ | ⟨i, hi, rfl⟩
    · rw [g0]; exact gz_top _
    · rcases stands p r j hj with rfl | rfl | ⟨i', hi', rfl⟩ | ⟨i', hi', rfl⟩
      · rw [gz_T0] at e; omega
      · rw [gT]; exact gz_bot _
      · rw [gz_TA hi'] at e; omega
      · rw [gz_TB hi'] at e; omega
    · rcases stands p r j hj with rfl | rfl | ⟨i', hi', rfl⟩ | ⟨i', hi', rfl⟩
      · rw [gz_A0 hi] at e; omega
      · rw [gT]; exact gz_bot _
      · obtain ⟨a, ha, ea, ea'⟩ := gA.at_ i hi
        obtain ⟨b, hb, eb, eb'⟩ := gA.at_ i' hi'
        rw [Nat.zero_add, Nat.zero_add] at ea eb
        rw [gz_AA hi hi'] at e
        rw [ea, eb, gz_AA hb ha, ea', eb']
        exact h1.turn _ _ (i1.lt i hi) (i1.lt i' hi') e
      · rw [gz_AB hi hi'] at e; omega
    · rcases stands p r j hj with rfl | rfl | ⟨i', hi', rfl⟩ | ⟨i', hi', rfl⟩
      · rw [gz_B0 hi] at e; omega
      · rw [gT]; exact gz_bot _
      · rw [gz_BA hi hi'] at e; omega
      · obtain ⟨a, ha, ea, ea'⟩ := gB.at_ i hi
        obtain ⟨b, hb, eb, eb'⟩ := gB.at_ i' hi'
        rw [gz_BB hi hi'] at e
        rw [ea, eb, gz_BB hb ha, ea', eb']
        exact h2.turn _ _ (i2.lt i hi) (i2.lt i' hi') e
  · have bot : ∀ (u v : Nat), (∀ c, c < p + r + 2 → gluedZ p r Z1 Z2 f1 f2 c u = 1 → gluedZ p r Z1 Z2 f1 f2 c v = 1 → c = 0) → ∃ x, x < p + r + 2 ∧ gluedZ p r Z1 Z2 f1 f2 x u = 1 ∧ gluedZ p r Z1 Z2 f1 f2 x v = 1 ∧ ∀ c, c < p + r + 2 → gluedZ p r Z1 Z2 f1 f2 c u = 1 → gluedZ p r Z1 Z2 f1 f2 c v = 1 → gluedZ p r Z1 Z2 f1 f2 c x = 1 := fun u v hb => ⟨0, by omega, gz_bot u, gz_bot v, fun c hc e1 e2 => by rw [hb c hc e1 e2]; exact gz_bot 0⟩
    have zero : ∀ c, c < p + r + 2 → gluedZ p r Z1 Z2 f1 f2 c 0 = 1 → c = 0 := fun c hc e => by
      rcases stands p r c hc with rfl | rfl | ⟨i, hi, rfl⟩ | ⟨i, hi, rfl⟩
      · rfl
      · rw [gz_T0] at e; omega
      · rw [gz_A0 hi] at e; omega
      · rw [gz_B0 hi] at e; omega
    have refl_ : ∀ k, k < p + r + 2 → gluedZ p r Z1 Z2 f1 f2 k k = 1 := fun k hk => by
      rcases stands p r k hk with rfl | rfl | ⟨i, hi, rfl⟩ | ⟨i, hi, rfl⟩
      · exact gz_bot _
      · exact gz_top _
      · rw [gz_AA hi hi]; exact h1.refl _ (i1.lt i hi)
      · rw [gz_BB hi hi]; exact h2.refl _ (i2.lt i hi)
    rcases stands p r k hk with rfl | rfl | ⟨i, hi, rfl⟩ | ⟨i, hi, rfl⟩
    · exact bot _ _ fun c hc e _ => zero c hc e
    · exact ⟨j, hj, gz_top j, refl_ j hj, fun c _ _ e => e⟩
    · rcases stands p r j hj with rfl | rfl | ⟨i', hi', rfl⟩ | ⟨i', hi', rfl⟩
      · exact bot _ _ fun c hc _ e => zero c hc e
      · exact ⟨i + 1, by omega, refl_ _ (by omega), gz_top _, fun c _ e _ => e⟩
      · obtain ⟨x, hx, u1, u2, u3⟩ := h1.meet _ _ (i1.lt i hi) (i1.lt i' hi')
        by_cases ex : x = o1
        · refine bot _ _ fun c hc e1 e2 => ?_
          rcases stands p r c hc with rfl | rfl | ⟨a, ha, rfl⟩ | ⟨a, ha, rfl⟩
          · rfl
          · rw [gz_TA hi] at e1; omega
          · rw [gz_AA ha hi] at e1
            rw [gz_AA ha hi'] at e2
            have := u3 _ (i1.lt a ha) e1 e2
            rw [ex] at this
            exact absurd (h1.anti _ _ (i1.lt a ha) h1.ho this (h1.least _ (i1.lt a ha))) (i1.nlo a ha)
          · rw [gz_BA ha hi] at e1; omega
        · obtain ⟨a, ha, rfl⟩ := i1.all x hx ex (notT1 i x hi hx u1)
          refine ⟨a + 1, by omega, by rw [gz_AA ha hi]; exact u1, by rw [gz_AA ha hi']; exact u2, fun c hc e1 e2 => ?_⟩
          rcases stands p r c hc with rfl | rfl | ⟨b, hb, rfl⟩ | ⟨b, hb, rfl⟩
          · exact gz_bot _
          · rw [gz_TA hi] at e1; omega
          · rw [gz_AA hb hi] at e1
            rw [gz_AA hb hi'] at e2
            rw [gz_AA hb ha]
            exact u3 _ (i1.lt b hb) e1 e2
          · rw [gz_BA hb hi] at e1; omega
      · refine bot _ _ fun c hc e1 e2 => ?_
        rcases stands p r c hc with rfl | rfl | ⟨a, ha, rfl⟩ | ⟨a, ha, rfl⟩
        · rfl
        · rw [gz_TA hi] at e1; omega
        · rw [gz_AB ha hi'] at e2; omega
        · rw [gz_BA ha hi] at e1; omega
    · rcases stands p r j hj with rfl | rfl | ⟨i', hi', rfl⟩ | ⟨i', hi', rfl⟩
      · exact bot _ _ fun c hc _ e => zero c hc e
      · exact ⟨p + i + 1, by omega, refl_ _ (by omega), gz_top _, fun c _ e _ => e⟩
      · refine bot _ _ fun c hc e1 e2 => ?_
        rcases stands p r c hc with rfl | rfl | ⟨a, ha, rfl⟩ | ⟨a, ha, rfl⟩
        · rfl
        · rw [gz_TB hi] at e1; omega
        · rw [gz_AB ha hi] at e1; omega
        · rw [gz_BA ha hi'] at e2; omega
      · obtain ⟨x, hx, u1, u2, u3⟩ := h2.meet _ _ (i2.lt i hi) (i2.lt i' hi')
        by_cases ex : x = o2
        · refine bot _ _ fun c hc e1 e2 => ?_
          rcases stands p r c hc with rfl | rfl | ⟨a, ha, rfl⟩ | ⟨a, ha, rfl⟩
          · rfl
          · rw [gz_TB hi] at e1; omega
          · rw [gz_AB ha hi] at e1; omega
          · rw [gz_BB ha hi] at e1
            rw [gz_BB ha hi'] at e2
            have := u3 _ (i2.lt a ha) e1 e2
            rw [ex] at this
            exact absurd (h2.anti _ _ (i2.lt a ha) h2.ho this (h2.least _ (i2.lt a ha))) (i2.nlo a ha)
        · obtain ⟨a, ha, rfl⟩ := i2.all x hx ex (notT2 i x hi hx u1)
          refine ⟨p + a + 1, by omega, by rw [gz_BB ha hi]; exact u1, by rw [gz_BB ha hi']; exact u2, fun c hc e1 e2 => ?_⟩
          rcases stands p r c hc with rfl | rfl | ⟨b, hb, rfl⟩ | ⟨b, hb, rfl⟩
          · exact gz_bot _
          · rw [gz_TB hi] at e1; omega
          · rw [gz_AB hb hi] at e1; omega
          · rw [gz_BB hb hi] at e1
            rw [gz_BB hb hi'] at e2
            rw [gz_BB hb ha]
            exact u3 _ (i2.lt b hb) e1 e2
  · rcases stands p r k hk with rfl | rfl | ⟨i, hi, rfl⟩ | ⟨i, hi, rfl⟩
    · rcases stands p r c hc with rfl | rfl | ⟨a, ha, rfl⟩ | ⟨a, ha, rfl⟩
      · rfl
      · rw [gz_T0] at e1; omega
      · rw [gz_A0 ha] at e1; omega
      · rw [gz_B0 ha] at e1; omega
    · rw [gT] at e2
      rcases stands p r c hc with rfl | rfl | ⟨a, ha, rfl⟩ | ⟨a, ha, rfl⟩
      · rfl
      · rw [gz_T0] at e2; omega
      · rw [gz_A0 ha] at e2; omega
      · rw [gz_B0 ha] at e2; omega
    · obtain ⟨j, hj, e, ej⟩ := gA.at_ i hi
      rw [Nat.zero_add, Nat.zero_add] at e
      rw [e] at e2
      rcases stands p r c hc with rfl | rfl | ⟨a, ha, rfl⟩ | ⟨a, ha, rfl⟩
      · rfl
      · rw [gz_TA hi] at e1; omega
      · rw [gz_AA ha hi] at e1
        rw [gz_AA ha hj, ej] at e2
        exact absurd (h1.kept _ _ (i1.lt i hi) (i1.lt a ha) e1 e2) (i1.nlo a ha)
      · rw [gz_BA ha hi] at e1; omega
    · obtain ⟨j, hj, e, ej⟩ := gB.at_ i hi
      rw [e] at e2
      rcases stands p r c hc with rfl | rfl | ⟨a, ha, rfl⟩ | ⟨a, ha, rfl⟩
      · rfl
      · rw [gz_TB hi] at e1; omega
      · rw [gz_AB ha hi] at e1; omega
      · rw [gz_BB ha hi] at e1
        rw [gz_BB ha hj, ej] at e2
        exact absurd (h2.kept _ _ (i2.lt i hi) (i2.lt a ha) e1 e2) (i2.nlo a ha)

def innerTo (lo hi : Nat) : Nat → List Nat
  | 0 => []
  | k + 1 => if k = lo ∨ k = hi then innerTo lo hi k else innerTo lo hi k ++ [k]
theorem innerTo_no {lo hi k : Nat} (h : k = lo ∨ k = hi) : innerTo lo hi (k + 1) = innerTo lo hi k := by rw [innerTo, if_pos h]
theorem innerTo_yes {lo hi k : Nat} (h : ¬ (k = lo ∨ k = hi)) : innerTo lo hi (k + 1) = innerTo lo hi k ++ [k] := by rw [innerTo, if_neg h]
theorem innerTo_mem {lo hi c : Nat} (k : Nat) : c ∈ innerTo lo hi k ↔ c < k ∧ c ≠ lo ∧ c ≠ hi := by
  induction k with
  | zero => simp [innerTo]
  | succ k ih =>
    by_cases e : k = lo ∨ k = hi
    · rw [innerTo_no e, ih]
      omega
    · rw [innerTo_yes e, List.mem_append, ih, List.mem_singleton]
      omega
theorem innerTo_up {lo hi : Nat} (k : Nat) : (innerTo lo hi k).Pairwise (· < ·) := by
  induction k with
  | zero => exact List.Pairwise.nil
  | succ k ih =>
    by_cases e : k = lo ∨ k = hi
    · rw [innerTo_no e]; exact ih
    · rw [innerTo_yes e]
      refine List.pairwise_append.2 ⟨ih, List.pairwise_singleton _ _, fun a ha b hb => ?_⟩
      rw [List.mem_singleton] at hb
      rw [hb]
      exact ((innerTo_mem k).1 ha).1
theorem innerTo_len {lo hi : Nat} (hne : lo ≠ hi) (k : Nat) : (innerTo lo hi k).length + ((if lo < k then 1 else 0) + if hi < k then 1 else 0) = k := by
  induction k with
  | zero => simp [innerTo]
  | succ k ih =>
    by_cases e : k = lo ∨ k = hi
    · rw [innerTo_no e]
      rcases e with rfl | rfl
      · rw [if_neg (by omega)] at ih
        rw [if_pos (by omega)]
        by_cases h2 : hi < k
        · rw [if_pos h2] at ih
          rw [if_pos (by omega)]
          omega
        · rw [if_neg h2] at ih
          rw [if_neg (by omega)]
          omega
      · rw [if_neg (Nat.lt_irrefl k)] at ih
        rw [if_pos (Nat.lt_succ_self k)]
        by_cases h2 : lo < k
        · rw [if_pos h2] at ih
          rw [if_pos (by omega)]
          omega
        · rw [if_neg h2] at ih
          rw [if_neg (by omega)]
          omega
    · rw [innerTo_yes e, List.length_append, List.length_singleton]
      have e1 : (lo < k + 1) ↔ lo < k := by omega
      have e2 : (hi < k + 1) ↔ hi < k := by omega
      simp only [e1, e2]
      omega
def innerF (lo hi n i : Nat) : Nat := (innerTo lo hi n)[i]?.getD 0
theorem inner_is {n lo hi : Nat} (hlo : lo < n) (hhi : hi < n) (hne : lo ≠ hi) : Inner n lo hi (innerTo lo hi n).length (innerF lo hi n) := by
  have hlen := innerTo_len (lo := lo) (hi := hi) hne n
  rw [if_pos hlo, if_pos hhi] at hlen
  have get : ∀ i, i < (innerTo lo hi n).length → ∃ h : i < (innerTo lo hi n).length, innerF lo hi n i = (innerTo lo hi n)[i] := fun i hi => ⟨hi, by unfold innerF; rw [List.getElem?_eq_getElem hi]; rfl⟩
  have mem : ∀ i, i < (innerTo lo hi n).length → innerF lo hi n i ∈ innerTo lo hi n := fun i hi => by
    obtain ⟨h, e⟩ := get i hi
    rw [e]
    exact List.getElem_mem h
  refine ⟨by omega, fun i hi => ((innerTo_mem n).1 (mem i hi)).1, fun i hi => ((innerTo_mem n).1 (mem i hi)).2.1, fun i hi => ((innerTo_mem n).1 (mem i hi)).2.2, fun i j gi gj e => ?_, fun c hc h1 h2 => ?_⟩
  · obtain ⟨h1, e1⟩ := get i gi
    obtain ⟨h2, e2⟩ := get j gj
    rw [e1, e2] at e
    have hp := List.pairwise_iff_getElem.1 (innerTo_up (lo := lo) (hi := hi) n)
    rcases Nat.lt_trichotomy i j with h | h | h
    · have := hp i j h1 h2 h; omega
    · exact h
    · have := hp j i h2 h1 h; omega
  · obtain ⟨i, gi, e⟩ := List.getElem_of_mem ((innerTo_mem n).2 ⟨hc, h1, h2⟩)
    exact ⟨i, gi, by unfold innerF; rw [List.getElem?_eq_getElem gi]; exact e⟩

def anyB (n : Nat) (f : Nat → Bool) : Bool := (List.range n).any f
theorem anyB_is {n : Nat} {f : Nat → Bool} (h : anyB n f = true) : ∃ i, i < n ∧ f i = true := by
  unfold anyB at h
  rw [List.any_eq_true] at h
  obtain ⟨x, hx, hf⟩ := h
  exact ⟨x, List.mem_range.1 hx, hf⟩
def checkL (n : Nat) (Z : Nat → Nat → Int) (y : Nat → Nat) (o : Nat) : Bool :=
  decide (1 ≤ n) && decide (n ≤ 12) && decide (o < n) &&
  allB n (fun a => decide (Z a a = 1) && decide (Z o a = 1) && decide (y a < n) && decide (y (y a) = a)) &&
  allB n (fun a => allB n fun b => (decide (Z a b = 0) || decide (Z a b = 1)) && (!(decide (Z a b = 1) && decide (Z b a = 1)) || decide (a = b)) && (!decide (Z a b = 1) || decide (Z (y b) (y a) = 1)) && (!(decide (Z b a = 1) && decide (Z b (y a) = 1)) || decide (b = o))) &&
  allB n (fun a => allB n fun b => allB n fun c => !(decide (Z a b = 1) && decide (Z b c = 1)) || decide (Z a c = 1)) &&
  allB n (fun a => allB n fun b => anyB n fun x => decide (Z x a = 1) && decide (Z x b = 1) && allB n fun c => !(decide (Z c a = 1) && decide (Z c b = 1)) || decide (Z c x = 1))
theorem imp_of {p q : Prop} [Decidable p] [Decidable q] (h : (!decide p || decide q) = true) (hp : p) : q := by
  rw [decide_eq_true hp] at h
  exact of_decide_eq_true (by simpa using h)
theorem imp2_of {p p' q : Prop} [Decidable p] [Decidable p'] [Decidable q] (h : (!(decide p && decide p') || decide q) = true) (hp : p) (hp' : p') : q := by
  rw [decide_eq_true hp, decide_eq_true hp'] at h
  exact of_decide_eq_true (by simpa using h)
theorem checkL_is {n o : Nat} {Z : Nat → Nat → Int} {y : Nat → Nat} (h : checkL n Z y o = true) : LogicData n Z y o := by
  unfold checkL at h
  simp only [Bool.and_eq_true] at h
  obtain ⟨⟨⟨⟨⟨⟨c1, c2⟩, c3⟩, c4⟩, c5⟩, c6⟩, c7⟩ := h
  have d4 := fun a (ha : a < n) => allB_is c4 a ha
  have d5 := fun a (ha : a < n) b (hb : b < n) => allB_is (allB_is c5 a ha) b hb
  simp only [Bool.and_eq_true] at d4 d5
  refine ⟨of_decide_eq_true c1, of_decide_eq_true c2, fun a b ha hb => ?_, fun a ha => of_decide_eq_true (d4 a ha).1.1.1, fun a b ha hb => imp2_of (d5 a ha b hb).1.1.2, fun a b c ha hb hc => imp2_of (allB_is (allB_is (allB_is c6 a ha) b hb) c hc), fun a ha => of_decide_eq_true (d4 a ha).1.2, fun a ha => of_decide_eq_true (d4 a ha).2, fun a b ha hb => imp_of (d5 a ha b hb).1.2, fun a b ha hb => ?_, of_decide_eq_true c3, fun a ha => of_decide_eq_true (d4 a ha).1.1.2, fun a c ha hc => imp2_of (d5 a ha c hc).2⟩
  · have := (d5 a ha b hb).1.1.1
    rw [Bool.or_eq_true] at this
    exact this.imp of_decide_eq_true of_decide_eq_true
  · obtain ⟨x, hx, h⟩ := anyB_is (allB_is (allB_is c7 a ha) b hb)
    simp only [Bool.and_eq_true] at h
    exact ⟨x, hx, of_decide_eq_true h.1.1, of_decide_eq_true h.1.2, fun c hc => imp2_of (allB_is h.2 c hc)⟩

def setsZ (k j : Nat) : Int := if k &&& j = k then 1 else 0
def setsY (n k : Nat) : Nat := n - 1 - k
theorem sets_data (t : Nat) (h : t ≤ 3) : LogicData (2 ^ t) setsZ (setsY (2 ^ t)) 0 := by
  have ht : t = 0 ∨ t = 1 ∨ t = 2 ∨ t = 3 := by omega
  rcases ht with rfl | rfl | rfl | rfl
  · exact checkL_is (by decide +kernel)
  · exact checkL_is (by decide +kernel)
  · exact checkL_is (by decide +kernel)
  · exact checkL_is (by decide +kernel)
def ringZ (r c : Nat) : Int := (([[1, 1, 1, 1, 1, 1], [0, 1, 1, 0, 0, 1], [0, 0, 1, 0, 0, 1], [0, 0, 0, 1, 1, 1], [0, 0, 0, 0, 1, 1], [0, 0, 0, 0, 0, 1]] : List (List Int))[r]?.getD [])[c]?.getD 0
def ringY (c : Nat) : Nat := 5 - c
theorem ring_data : LogicData 6 ringZ ringY 0 := checkL_is (by decide +kernel)
end Go.Proofs.Ytojcgmgponnlpaa
namespace Go.Proofs.Ytojcgmgponnlpaa

def mN (m : Mx) (a b : Nat) : Nat := (meetI m a b).toNat
def jN (m : Mx) (a b : Nat) : Nat := (meetI (tr m) a b).toNat
/-- The greatest below both. -/
structure Glb (m : Mx) (a b x : Nat) : Prop where
  lt : x < m.n
  l : m.Z x a = 1
  r : m.Z x b = 1
  top : ∀ c, c < m.n → m.Z c a = 1 → m.Z c b = 1 → m.Z c x = 1
/-- The least above both. -/
structure Lub (m : Mx) (a b x : Nat) : Prop where
  lt : x < m.n
  l : m.Z a x = 1
  r : m.Z b x = 1
  bot : ∀ c, c < m.n → m.Z a c = 1 → m.Z b c = 1 → m.Z x c = 1
theorem le_eq {m : Mx} (h : IsOrder m) {a b : Nat} (ha : a < m.n) (hb : b < m.n) (h1 : m.Z a b = 1) (h2 : m.Z b a = 1) : a = b := le_anti h ha hb (leB_mk h1) (leB_mk h2)
theorem Ortho.mI {m : Mx} {z : Nat → Int} {y : Nat → Nat} {o : Nat} (h : Ortho m z y o) {a b : Nat} (ha : a < m.n) (hb : b < m.n) : meetI m a b = (mN m a b : Int) := by
  obtain ⟨x, _, e⟩ := h.meets ha hb
  unfold mN; rw [e]; simp
theorem Ortho.mG {m : Mx} {z : Nat → Int} {y : Nat → Nat} {o : Nat} (h : Ortho m z y o) {a b : Nat} (ha : a < m.n) (hb : b < m.n) : Glb m a b (mN m a b) := by
  obtain ⟨x, hx, e, h1, h2, h3⟩ := meetI_parts (h.lat.both a b ha hb).meets
  have : mN m a b = x := by unfold mN; rw [e]; simp
  rw [this]; exact ⟨hx, h1, h2, h3⟩
theorem Ortho.jG {m : Mx} {z : Nat → Int} {y : Nat → Nat} {o : Nat} (h : Ortho m z y o) {a b : Nat} (ha : a < m.n) (hb : b < m.n) : Lub m a b (jN m a b) := by
  obtain ⟨x, hx, e, h1, h2, h3⟩ := meetI_parts (h.lat.both a b ha hb).joins
  have : jN m a b = x := by unfold jN; rw [e]; simp
  rw [this]; exact ⟨hx, h1, h2, h3⟩
theorem Glb.eq {m : Mx} (h : IsOrder m) {a b x x' : Nat} (g : Glb m a b x) (g' : Glb m a b x') : x = x' := le_eq h g.lt g'.lt (g'.top x g.lt g.l g.r) (g.top x' g'.lt g'.l g'.r)
theorem Lub.eq {m : Mx} (h : IsOrder m) {a b x x' : Nat} (g : Lub m a b x) (g' : Lub m a b x') : x = x' := le_eq h g.lt g'.lt (g.bot x' g'.lt g'.l g'.r) (g'.bot x g.lt g.l g.r)
theorem Ortho.m_not {m : Mx} {z : Nat → Int} {y : Nat → Nat} {o : Nat} (h : Ortho m z y o) {a : Nat} (ha : a < m.n) : mN m a (y a) = o := by
  have := h.kept a ha
  rw [h.mI ha (h.lt a ha)] at this
  omega
def keepsPB (m : Mx) (y : Nat → Nat) (a b : Nat) : Bool := !(leB m a b && !decide (jN m a (mN m b (y a)) = b))
def keepsB (m : Mx) (y : Nat → Nat) : Bool := allB m.n fun a => allB m.n fun b => keepsPB m y a b
noncomputable def keepsV (m : Mx) (k : Nat) (z : Nat → Int) : Bool := logicB m k z && keepsB m (fun a => (z a).toNat)
theorem keepsB_congr {m : Mx} {y y' : Nat → Nat} (h : ∀ a, a < m.n → y a = y' a) : keepsB m y = keepsB m y' :=
  allB_congr fun a ha => allB_congr fun b _ => by unfold keepsPB; rw [h a ha]
theorem Ortho.toNat {m : Mx} {z : Nat → Int} {y : Nat → Nat} {o : Nat} (h : Ortho m z y o) {a : Nat} (ha : a < m.n) : (z a).toNat = y a := by rw [h.zy a ha]; simp
theorem keepsV_is {m : Mx} {z : Nat → Int} {y : Nat → Nat} {o : Nat} (h : Ortho m z y o) : keepsV m m.n z = keepsB m y := by
  unfold keepsV
  rw [logicB_true h.logic, Bool.true_and]
  exact keepsB_congr fun a ha => h.toNat ha
theorem Ortho.join_o {m : Mx} {z : Nat → Int} {y : Nat → Nat} {o : Nat} (h : Ortho m z y o) {a : Nat} (ha : a < m.n) : jN m a o = a :=
  (h.jG ha h.ho).eq h.lat.order ⟨ha, h.lat.order.refl a ha, h.least a ha, fun _ _ g _ => g⟩
theorem Ortho.broken {m : Mx} {z : Nat → Int} {y : Nat → Nat} {o : Nat} (h : Ortho m z y o) {a b : Nat} (ha : a < m.n) (hne : a ≠ b) (hab : m.Z a b = 1) (he : mN m b (y a) = o) : keepsPB m y a b = false := by
  unfold keepsPB
  rw [leB_mk hab, he, h.join_o ha]
  simp [hne]
theorem Ortho.unbroken {m : Mx} {z : Nat → Int} {y : Nat → Nat} {o : Nat} (h : Ortho m z y o) (hb : ∀ a b, a < m.n → b < m.n → a ≠ b → m.Z a b = 1 → mN m b (y a) ≠ o) : keepsB m y = true :=
  allB_true fun a ha => allB_true fun b hb' => by
    unfold keepsPB
    cases hl : leB m a b with
    | false => rfl
    | true =>
      have hab := leB_is hl
      have hp := h.mG hb' (h.lt a ha)
      have hc := h.jG ha hp.lt
      have hcb := hc.bot b hb' hab hp.l
      by_cases e : jN m a (mN m b (y a)) = b
      · simp [e]
      · exfalso
        refine hb _ _ hc.lt hb' e hcb ?_
        have hd := h.mG hb' (h.lt _ hc.lt)
        have d1 := h.lat.order.trans _ _ _ hd.lt (h.lt _ hc.lt) (h.lt a ha) hd.r (h.turn a _ ha hc.lt hc.l)
        have d2 := hp.top _ hd.lt hd.l d1
        have d3 := h.lat.order.trans _ _ _ hd.lt (h.lt _ hc.lt) (h.lt _ hp.lt) hd.r (h.turn _ _ hp.lt hc.lt hc.r)
        exact h.under hd.lt hp.lt d2 d3

structure Closed (m : Mx) (y : Nat → Nat) (s : Nat) : Prop where
  meet : ∀ a b, a < m.n → b < m.n → s.testBit a = true → s.testBit b = true → s.testBit (mN m a b) = true
  not : ∀ a, a < m.n → s.testBit a = true → s.testBit (y a) = true
def closedRB (m : Mx) (y : Nat → Nat) (s a : Nat) : Bool := !s.testBit a || (allB m.n (fun b => !s.testBit b || s.testBit (mN m a b)) && s.testBit (y a))
def closedB (m : Mx) (y : Nat → Nat) (s : Nat) : Bool := allB m.n (closedRB m y s)
theorem closedB_is {m : Mx} {y : Nat → Nat} {s : Nat} (h : closedB m y s = true) : Closed m y s := by
  refine ⟨fun a b ha hb ga gb => ?_, fun a ha ga => ?_⟩
  · have := allB_is h a ha
    unfold closedRB at this
    rw [ga] at this
    simp only [Bool.not_true, Bool.false_or, Bool.and_eq_true] at this
    have h2 := allB_is this.1 b hb
    rw [gb] at h2
    simpa using h2
  · have := allB_is h a ha
    unfold closedRB at this
    rw [ga] at this
    simp only [Bool.not_true, Bool.false_or, Bool.and_eq_true] at this
    exact this.2
theorem closedB_mk {m : Mx} {y : Nat → Nat} {s : Nat} (h : Closed m y s) : closedB m y s = true := allB_true fun a ha => by
  unfold closedRB
  cases ga : s.testBit a with
  | false => rfl
  | true =>
    rw [h.not a ha ga, Bool.and_true]
    simp only [Bool.not_true, Bool.false_or]
    refine allB_true fun b hb => ?_
    cases gb : s.testBit b with
    | false => rfl
    | true => rw [h.meet a b ha hb ga gb]; rfl
def Sub (s t : Nat) : Prop := ∀ a, s.testBit a = true → t.testBit a = true
theorem Sub.refl (s : Nat) : Sub s s := fun _ h => h
theorem Sub.trans {s t u : Nat} (h : Sub s t) (k : Sub t u) : Sub s u := fun a g => k a (h a g)
theorem Sub.eq {s t : Nat} (h : Sub s t) (k : Sub t s) : s = t := Nat.eq_of_testBit_eq fun i => by
  rw [Bool.eq_iff_iff]; exact ⟨h i, k i⟩
theorem Sub.or {s t : Nat} (h : Sub s t) : s ||| t = t := Nat.eq_of_testBit_eq fun i => by
  rw [Nat.testBit_or]
  cases g : s.testBit i with
  | false => simp
  | true => rw [h i g]; rfl
theorem Sub.le {s t : Nat} (h : Sub s t) : s ≤ t := by rw [← h.or]; exact Nat.left_le_or
theorem sub_or {s t u : Nat} (h : Sub s u) (k : Sub t u) : Sub (s ||| t) u := fun a g => by
  rw [Nat.testBit_or, Bool.or_eq_true] at g
  rcases g with g | g
  · exact h a g
  · exact k a g
theorem sub_left (s t : Nat) : Sub s (s ||| t) := fun a g => by rw [Nat.testBit_or, g]; rfl
theorem sub_right (s t : Nat) : Sub t (s ||| t) := fun a g => by rw [Nat.testBit_or, g]; simp
theorem sub_one {x u : Nat} (h : u.testBit x = true) : Sub (2 ^ x) u := fun a g => by
  rw [Nat.testBit_two_pow] at g
  rw [← of_decide_eq_true g]; exact h
theorem has_one (x : Nat) : (2 ^ x).testBit x = true := Nat.testBit_two_pow_self
theorem bit_lt {s n a : Nat} (hs : s < 2 ^ n) (h : s.testBit a = true) : a < n := by
  apply Nat.lt_of_not_le
  intro hle
  have h1 := Nat.ge_two_pow_of_testBit h
  have h2 := Nat.pow_le_pow_right (n := 2) (by omega) hle
  omega
theorem or_lt {s t n : Nat} (hs : s < 2 ^ n) (ht : t < 2 ^ n) : s ||| t < 2 ^ n := Nat.or_lt_two_pow hs ht
theorem one_lt {x n : Nat} (h : x < n) : 2 ^ x < 2 ^ n := Nat.pow_lt_pow_right (by omega) h
theorem has_some {s : Nat} (h : 1 ≤ s) : ∃ a, s.testBit a = true := Nat.exists_testBit_of_ne_zero (by omega)
theorem full_bit {n a : Nat} (h : a < n) : (2 ^ n - 1).testBit a = true := by rw [Nat.testBit_two_pow_sub_one]; simpa using h
theorem sub_full {s n : Nat} (h : s < 2 ^ n) : Sub s (2 ^ n - 1) := fun _ g => full_bit (bit_lt h g)
theorem Closed.no {m : Mx} {z : Nat → Int} {y : Nat → Nat} {o s : Nat} (hc : Closed m y s) (h : Ortho m z y o) (hs : s < 2 ^ m.n) (h1 : 1 ≤ s) : s.testBit o = true := by
  obtain ⟨a, ga⟩ := has_some h1
  have ha := bit_lt hs ga
  rw [← h.m_not ha]
  exact hc.meet _ _ ha (h.lt a ha) ga (hc.not a ha ga)

structure IsMade (m : Mx) (y : Nat → Nat) (s t : Nat) : Prop where
  has : Sub s t
  lt : t < 2 ^ m.n
  closed : Closed m y t
  least : ∀ u, Closed m y u → Sub s u → Sub t u
theorem IsMade.eq {m : Mx} {y : Nat → Nat} {s t t' : Nat} (h : IsMade m y s t) (h' : IsMade m y s t') : t = t' := (h.least t' h'.closed h'.has).eq (h'.least t h.closed h.has)
/-- On the way to it. -/
structure Under (m : Mx) (y : Nat → Nat) (s t : Nat) : Prop where
  has : Sub s t
  lt : t < 2 ^ m.n
  least : ∀ u, Closed m y u → Sub s u → Sub t u
theorem Under.made {m : Mx} {y : Nat → Nat} {s t : Nat} (h : Under m y s t) (hc : Closed m y t) : IsMade m y s t := ⟨h.has, h.lt, hc, h.least⟩
theorem Under.start {m : Mx} {y : Nat → Nat} {s : Nat} (h : s < 2 ^ m.n) : Under m y s s := ⟨.refl s, h, fun _ _ k => k⟩
theorem Under.then {m : Mx} {y : Nat → Nat} {s t u : Nat} (h : Under m y s t) (k : Under m y t u) : Under m y s u := ⟨h.has.trans k.has, k.lt, fun v hv hs => k.least v hv (h.least v hv hs)⟩
theorem Under.more {m : Mx} {y : Nat → Nat} {s t x : Nat} (h : Under m y s t) (hx : x < m.n) (hu : ∀ u, Closed m y u → Sub s u → u.testBit x = true) : Under m y s (t ||| 2 ^ x) :=
  ⟨h.has.trans (sub_left _ _), or_lt h.lt (one_lt hx), fun u hu' hs => sub_or (h.least u hu' hs) (sub_one (hu u hu' hs))⟩
/-- One step towards it, all pairs being looked at. -/
structure Grown (m : Mx) (y : Nat → Nat) (s t : Nat) : Prop where
  under : Under m y s t
  meet : ∀ a b, a < m.n → b < m.n → s.testBit a = true → s.testBit b = true → t.testBit (mN m a b) = true
  not : ∀ a, a < m.n → s.testBit a = true → t.testBit (y a) = true
theorem Grown.same {m : Mx} {y : Nat → Nat} {s t : Nat} (h : Grown m y s t) : (decide (t = s)) = closedB m y s := by
  rw [Bool.eq_iff_iff, decide_eq_true_iff]
  constructor
  · intro e
    subst e
    exact closedB_mk ⟨h.meet, h.not⟩
  · intro hc
    exact (h.under.least s (closedB_is hc) (.refl s)).eq h.under.has
theorem Grown.grows {m : Mx} {y : Nat → Nat} {s t : Nat} (h : Grown m y s t) (hc : closedB m y s = false) : s < t := by
  have h1 := h.under.has.le
  have h2 : t ≠ s := fun e => by
    have := h.same
    rw [hc] at this
    exact absurd e (of_decide_eq_false this)
  omega
def inB (n : Nat) (s : Int) : Bool := decide (1 ≤ s ∧ s < (2 ^ n : Nat))
noncomputable def subV (m : Mx) (k : Nat) (z : Nat → Int) (s : Int) : Bool := logicB m k z && inB m.n s && closedB m (fun a => (z a).toNat) s.toNat
theorem closedB_congr {m : Mx} {y y' : Nat → Nat} {s : Nat} (h : ∀ a, a < m.n → y a = y' a) : closedB m y s = closedB m y' s :=
  allB_congr fun a ha => by unfold closedRB; rw [h a ha]
theorem subV_is {m : Mx} {z : Nat → Int} {y : Nat → Nat} {o s : Nat} (h : Ortho m z y o) (h1 : 1 ≤ s) (h2 : s < 2 ^ m.n) : subV m m.n z (s : Int) = closedB m y s := by
  unfold subV
  have : inB m.n (s : Int) = true := by unfold inB; exact decide_eq_true ⟨by omega, by omega⟩
  rw [logicB_true h.logic, this, Bool.true_and, Bool.true_and]
  exact closedB_congr fun a ha => h.toNat ha
open Classical in
noncomputable def madeV (m : Mx) (k : Nat) (z : Nat → Int) (s : Int) : Int :=
  if h : logicB m k z = true ∧ inB m.n s = true ∧ ∃ t, IsMade m (fun a => (z a).toNat) s.toNat t then (choose h.2.2 : Nat) else -1
theorem IsMade.congr {m : Mx} {y y' : Nat → Nat} {s t : Nat} (h : IsMade m y s t) (e : ∀ a, a < m.n → y a = y' a) : IsMade m y' s t :=
  ⟨h.has, h.lt, ⟨h.closed.meet, fun a ha ga => by rw [← e a ha]; exact h.closed.not a ha ga⟩, fun u hu hs => h.least u ⟨hu.meet, fun a ha ga => by rw [e a ha]; exact hu.not a ha ga⟩ hs⟩
theorem madeV_is {m : Mx} {z : Nat → Int} {y : Nat → Nat} {o s t : Nat} (h : Ortho m z y o) (h1 : 1 ≤ s) (h2 : s < 2 ^ m.n) (ht : IsMade m y s t) : madeV m m.n z (s : Int) = (t : Int) := by
  have hi : inB m.n (s : Int) = true := by unfold inB; exact decide_eq_true ⟨by omega, by omega⟩
  have ht' : IsMade m (fun a => (z a).toNat) (s : Int).toNat t := ht.congr fun a ha => (h.toNat ha).symm
  unfold madeV
  rw [dif_pos ⟨logicB_true h.logic, hi, t, ht'⟩]
  exact congrArg Nat.cast ((Classical.choose_spec (⟨t, ht'⟩ : ∃ t, IsMade m (fun a => (z a).toNat) (s : Int).toNat t)).eq ht')
theorem madeV_no {m : Mx} {k : Nat} {z : Nat → Int} {s : Int} (h : (logicB m k z && inB m.n s) = false) : madeV m k z s = -1 := by
  unfold madeV
  rw [dif_neg]
  rintro ⟨h1, h2, _⟩
  rw [h1, h2] at h
  cases h

def memsTo (s : Nat) : Nat → List Nat
  | 0 => []
  | k + 1 => if s.testBit k = true then memsTo s k ++ [k] else memsTo s k
theorem memsTo_yes {s k : Nat} (h : s.testBit k = true) : memsTo s (k + 1) = memsTo s k ++ [k] := by rw [memsTo, if_pos h]
theorem memsTo_no {s k : Nat} (h : s.testBit k = false) : memsTo s (k + 1) = memsTo s k := by rw [memsTo, if_neg (by rw [h]; decide)]
theorem memsTo_mem {s c : Nat} (k : Nat) : c ∈ memsTo s k ↔ c < k ∧ s.testBit c = true := by
  induction k with
  | zero => simp [memsTo]
  | succ k ih =>
    cases e : s.testBit k with
    | false =>
      rw [memsTo_no e, ih]
      constructor
      · rintro ⟨h1, h2⟩; exact ⟨by omega, h2⟩
      · rintro ⟨h1, h2⟩
        refine ⟨?_, h2⟩
        have : c ≠ k := fun e2 => by rw [e2, e] at h2; cases h2
        omega
    | true =>
      rw [memsTo_yes e, List.mem_append, ih, List.mem_singleton]
      constructor
      · rintro (⟨h1, h2⟩ | rfl)
        · exact ⟨by omega, h2⟩
        · exact ⟨by omega, e⟩
      · rintro ⟨h1, h2⟩
        by_cases e2 : c = k
        · exact .inr e2
        · exact .inl ⟨by omega, h2⟩
theorem memsTo_up {s : Nat} (k : Nat) : (memsTo s k).Pairwise (· < ·) := by
  induction k with
  | zero => exact List.Pairwise.nil
  | succ k ih =>
    cases e : s.testBit k with
    | false => rw [memsTo_no e]; exact ih
    | true =>
      rw [memsTo_yes e]
      refine List.pairwise_append.2 ⟨ih, List.pairwise_singleton _ _, fun a ha b hb => ?_⟩
      rw [List.mem_singleton] at hb
      rw [hb]
      exact ((memsTo_mem k).1 ha).1
theorem memsTo_len (s k : Nat) : (memsTo s k).length ≤ k := by
  induction k with
  | zero => exact Nat.le_refl _
  | succ k ih =>
    cases e : s.testBit k with
    | false => rw [memsTo_no e]; omega
    | true => rw [memsTo_yes e, List.length_append, List.length_singleton]; omega
def memF (s n j : Nat) : Nat := (memsTo s n)[j]?.getD 0
def memB (s n a : Nat) : Nat := (memsTo s n).idxOf a
def memK (s n : Nat) : Nat := (memsTo s n).length
/-- Some of the numbers below n, in a row, with their places. -/
structure Emb (n k s : Nat) (q b : Nat → Nat) : Prop where
  lt : ∀ j, j < k → q j < n
  has : ∀ j, j < k → s.testBit (q j) = true
  bq : ∀ j, j < k → b (q j) = j
  blt : ∀ a, a < n → s.testBit a = true → b a < k
  qb : ∀ a, a < n → s.testBit a = true → q (b a) = a
theorem mem_emb (s n : Nat) : Emb n (memK s n) s (memF s n) (memB s n) := by
  have get : ∀ j, j < memK s n → ∃ h : j < (memsTo s n).length, memF s n j = (memsTo s n)[j] := fun j hj => ⟨hj, by unfold memF; rw [List.getElem?_eq_getElem hj]; rfl⟩
  have mem : ∀ j, j < memK s n → memF s n j ∈ memsTo s n := fun j hj => by
    obtain ⟨h, e⟩ := get j hj
    rw [e]
    exact List.getElem_mem h
  refine ⟨fun j hj => ((memsTo_mem n).1 (mem j hj)).1, fun j hj => ((memsTo_mem n).1 (mem j hj)).2, fun j hj => ?_, fun a ha hs => List.idxOf_lt_length_iff.2 ((memsTo_mem n).2 ⟨ha, hs⟩), fun a ha hs => ?_⟩
  · obtain ⟨h1, e1⟩ := get j hj
    have hi : (memsTo s n).idxOf (memF s n j) < (memsTo s n).length := List.idxOf_lt_length_iff.2 (mem j hj)
    have e2 : (memsTo s n)[(memsTo s n).idxOf (memF s n j)] = memF s n j := List.getElem_idxOf hi
    have hp := List.pairwise_iff_getElem.1 (memsTo_up (s := s) n)
    unfold memB
    rcases Nat.lt_trichotomy ((memsTo s n).idxOf (memF s n j)) j with h | h | h
    · have := hp _ j hi h1 h; omega
    · exact h
    · have := hp j _ h1 hi h; omega
  · have hi : (memsTo s n).idxOf a < (memsTo s n).length := List.idxOf_lt_length_iff.2 ((memsTo_mem n).2 ⟨ha, hs⟩)
    unfold memF memB
    rw [List.getElem?_eq_getElem hi]
    exact List.getElem_idxOf hi
theorem mem_pos {s n : Nat} (h1 : 1 ≤ s) (h2 : s < 2 ^ n) : 1 ≤ memK s n := by
  obtain ⟨a, ga⟩ := has_some h1
  have := List.length_pos_of_mem ((memsTo_mem n).2 ⟨bit_lt h2 ga, ga⟩)
  exact this

def partY (y : Nat → Nat) (q b : Nat → Nat) (j : Nat) : Nat := b (y (q j))
theorem part_data {n o k s : Nat} {Z : Nat → Nat → Int} {y q b : Nat → Nat} (h : LogicData n Z y o) (hs : Closed ⟨n, fun _ => n, Z⟩ y s) (ho : s.testBit o = true) (hp : Emb n k s q b) (hk : k ≤ 12) : LogicData k (nameZ Z q) (partY y q b) (b o) := by
  have hO := h.ortho
  have inj : ∀ k' j, k' < k → j < k → q k' = q j → k' = j := fun k' j hk hj e => by rw [← hp.bq k' hk, e, hp.bq j hj]
  have hy : ∀ j, j < k → s.testBit (y (q j)) = true ∧ y (q j) < n := fun j hj => ⟨hs.not _ (hp.lt j hj) (hp.has j hj), h.lt _ (hp.lt j hj)⟩
  have hq : ∀ j, j < k → q (b (y (q j))) = y (q j) := fun j hj => hp.qb _ (hy j hj).2 (hy j hj).1
  have hbo := hp.blt o h.ho ho
  refine ⟨by omega, hk, fun k j hk hj => h.bit _ _ (hp.lt k hk) (hp.lt j hj), fun k hk => h.refl _ (hp.lt k hk), fun k j hk hj e1 e2 => inj k j hk hj (h.anti _ _ (hp.lt k hk) (hp.lt j hj) e1 e2), fun k j c hk hj hc e1 e2 => h.trans _ _ _ (hp.lt k hk) (hp.lt j hj) (hp.lt c hc) e1 e2, fun k hk => hp.blt _ (hy k hk).2 (hy k hk).1, fun k hk => ?_, fun k j hk hj e => ?_, fun k j hk hj => ?_, hbo, fun k hk => ?_, fun k c hk hc e1 e2 => ?_⟩
  · show b (y (q (b (y (q k))))) = k
    rw [hq k hk, h.inv _ (hp.lt k hk), hp.bq k hk]
  · show Z (q (b (y (q j)))) (q (b (y (q k)))) = 1
    rw [hq k hk, hq j hj]
    exact h.turn _ _ (hp.lt k hk) (hp.lt j hj) e
  · have hg := hO.mG (hp.lt k hk) (hp.lt j hj)
    have hx := hs.meet _ _ (hp.lt k hk) (hp.lt j hj) (hp.has k hk) (hp.has j hj)
    have hqx := hp.qb _ hg.lt hx
    refine ⟨b _, hp.blt _ hg.lt hx, ?_, ?_, fun c hc e1 e2 => ?_⟩
    · show Z (q (b _)) (q k) = 1; rw [hqx]; exact hg.l
    · show Z (q (b _)) (q j) = 1; rw [hqx]; exact hg.r
    · show Z (q c) (q (b _)) = 1; rw [hqx]; exact hg.top _ (hp.lt c hc) e1 e2
  · show Z (q (b o)) (q k) = 1
    rw [hp.qb o h.ho ho]
    exact h.least _ (hp.lt k hk)
  · have e2' : Z (q c) (q (b (y (q k)))) = 1 := e2
    rw [hq k hk] at e2'
    rw [← h.kept _ _ (hp.lt k hk) (hp.lt c hc) e1 e2', hp.bq c hc]
/-- Meetings of a part are those of the logic. -/
theorem part_meet {n o k s : Nat} {Z : Nat → Nat → Int} {y q b : Nat → Nat} (h : LogicData n Z y o) (hs : Closed ⟨n, fun _ => n, Z⟩ y s) (ho : s.testBit o = true) (hp : Emb n k s q b) (hk : k ≤ 12) {i j : Nat} (hi : i < k) (hj : j < k) :
    q (mN ⟨k, fun _ => k, nameZ Z q⟩ i j) = mN ⟨n, fun _ => n, Z⟩ (q i) (q j) := by
  have hO := h.ortho
  have hP := (part_data h hs ho hp hk).ortho
  have g := hP.mG hi hj
  have g2 := hO.mG (hp.lt i hi) (hp.lt j hj)
  have hx := hs.meet _ _ (hp.lt i hi) (hp.lt j hj) (hp.has i hi) (hp.has j hj)
  have hqx := hp.qb _ g2.lt hx
  have hbx := hp.blt _ g2.lt hx
  have e1 : b (mN ⟨n, fun _ => n, Z⟩ (q i) (q j)) = mN ⟨k, fun _ => k, nameZ Z q⟩ i j := by
    refine Glb.eq hP.lat.order (a := i) (b := j) ⟨hbx, ?_, ?_, fun c hc e1 e2 => ?_⟩ g
    · show Z (q (b _)) (q i) = 1; rw [hqx]; exact g2.l
    · show Z (q (b _)) (q j) = 1; rw [hqx]; exact g2.r
    · show Z (q c) (q (b _)) = 1; rw [hqx]; exact g2.top _ (hp.lt c hc) e1 e2
  rw [← e1, hqx]
theorem part_y {n o k s : Nat} {Z : Nat → Nat → Int} {y q b : Nat → Nat} (h : LogicData n Z y o) (hs : Closed ⟨n, fun _ => n, Z⟩ y s) (hp : Emb n k s q b) {i : Nat} (hi : i < k) : q (partY y q b i) = y (q i) :=
  hp.qb _ (h.lt _ (hp.lt i hi)) (hs.not _ (hp.lt i hi) (hp.has i hi))
/-- A part of a logic that keeps the law keeps it. -/
theorem part_keeps {n o k s : Nat} {Z : Nat → Nat → Int} {y q b : Nat → Nat} (h : LogicData n Z y o) (hs : Closed ⟨n, fun _ => n, Z⟩ y s) (ho : s.testBit o = true) (hp : Emb n k s q b) (hk : k ≤ 12)
    (hl : keepsB ⟨n, fun _ => n, Z⟩ y = true) : keepsB ⟨k, fun _ => k, nameZ Z q⟩ (partY y q b) = true := by
  have hO := h.ortho
  have hP := (part_data h hs ho hp hk).ortho
  refine hP.unbroken fun a c ha hc hne hac he => ?_
  have hqne : q a ≠ q c := fun e => hne (by rw [← hp.bq a ha, e, hp.bq c hc])
  have e1 := part_meet h hs ho hp hk hc (hP.lt a ha)
  rw [he, part_y h hs hp ha, hp.qb o h.ho ho] at e1
  have := hO.broken (hp.lt a ha) hqne hac e1.symm
  have h2 := allB_is (allB_is hl (q a) (hp.lt a ha)) (q c) (hp.lt c hc)
  rw [this] at h2
  cases h2
end Go.Proofs.Ytojcgmgponnlpaa
namespace Go.Proofs.Ytojcgmgponnlpaa

/-- A lattice with opposites, for itself. -/
structure OL (α : Type) where
  le : α → α → Prop
  m : α → α → α
  j : α → α → α
  c : α → α
  o : α
  refl : ∀ a, le a a
  trans : ∀ {a b d}, le a b → le b d → le a d
  anti : ∀ {a b}, le a b → le b a → a = b
  ml : ∀ a b, le (m a b) a
  mr : ∀ a b, le (m a b) b
  mg : ∀ {a b d}, le d a → le d b → le d (m a b)
  jl : ∀ a b, le a (j a b)
  jr : ∀ a b, le b (j a b)
  jg : ∀ {a b d}, le a d → le b d → le (j a b) d
  cc : ∀ a, c (c a) = a
  turn : ∀ {a b}, le a b → le (c b) (c a)
  low : ∀ a, le o a
  apart : ∀ a, m a (c a) = o
namespace OL
variable {α : Type} {L : OL α}
theorem turn' {a b : α} (h : L.le a (L.c b)) : L.le b (L.c a) := by have := L.turn h; rw [L.cc] at this; exact this
theorem top (a : α) : L.le a (L.c L.o) := turn' (L.low _)
theorem zero {a t : α} (h1 : L.le t a) (h2 : L.le t (L.c a)) : L.le t L.o := by rw [← L.apart a]; exact L.mg h1 h2
end OL

/-- The lattice of a logic, its answers below their number. -/
def Ortho.ol {m : Mx} {z : Nat → Int} {y : Nat → Nat} {o : Nat} (h : Ortho m z y o) : OL (Fin m.n) where
  le a b := m.Z a b = 1
  m a b := ⟨mN m a b, (h.mG a.2 b.2).lt⟩
  j a b := ⟨jN m a b, (h.jG a.2 b.2).lt⟩
  c a := ⟨y a, h.lt a a.2⟩
  o := ⟨o, h.ho⟩
  refl a := h.lat.order.refl a a.2
  trans {a b d} h1 h2 := h.lat.order.trans _ _ _ a.2 b.2 d.2 h1 h2
  anti {a b} h1 h2 := Fin.ext (le_eq h.lat.order a.2 b.2 h1 h2)
  ml a b := (h.mG a.2 b.2).l
  mr a b := (h.mG a.2 b.2).r
  mg {a b d} h1 h2 := (h.mG a.2 b.2).top d d.2 h1 h2
  jl a b := (h.jG a.2 b.2).l
  jr a b := (h.jG a.2 b.2).r
  jg {a b d} h1 h2 := (h.jG a.2 b.2).bot d d.2 h1 h2
  cc a := Fin.ext (h.inv a a.2)
  turn {a b} h1 := h.turn a b a.2 b.2 h1
  low a := h.least a a.2
  apart a := Fin.ext (h.m_not a.2)

section
variable {m : Mx} {z : Nat → Int} {y : Nat → Nat} {o : Nat}
end
end Go.Proofs.Ytojcgmgponnlpaa
