/- The plain mathematics of orders as rows of numbers: no program is named here. The plain mathematics of meetings: the reference's scan finds what the program's search finds. The plain mathematics of joins and lattices. The plain mathematics of atoms. Orders: a least answer meets every answer in itself; meetings are below both. Atoms of an order with a least answer: all answers but that are above one, and two of them meet in it; lattices have a least answer, and joins take meetings in. The plain mathematics of logics: lattices with opposites. The plain mathematics of lattices with opposites: what is said of meetings, joins and opposites. -/

namespace Go.Proofs.YtijcacibofpnpaaDoor

/-- The numbers as data: so many rows, their lengths, what they hold. -/
structure Mx where
  n : Nat
  L : Nat → Nat
  Z : Nat → Nat → Int

structure Square (m : Mx) : Prop where
  len : ∀ r, r < m.n → m.L r = m.n
  bit : ∀ r, r < m.n → ∀ c, c < m.n → m.Z r c = 0 ∨ m.Z r c = 1

structure IsOrder (m : Mx) : Prop where
  pos : 1 ≤ m.n
  top : m.n ≤ 12
  sq : Square m
  refl : ∀ a, a < m.n → m.Z a a = 1
  anti : ∀ a b, a < m.n → b < m.n → a ≠ b → m.Z a b = 1 → m.Z b a = 0
  trans : ∀ a b c, a < m.n → b < m.n → c < m.n → m.Z a b = 1 → m.Z b c = 1 → m.Z a c = 1

/-- Nothing speaks against the pair. -/
structure PairOk (m : Mx) (a b : Nat) : Prop where
  refl : a = b → m.Z a b = 1
  anti : a ≠ b → m.Z a b = 1 → m.Z b a = 0
  trans : ∀ c, c < m.n → m.Z a b = 1 → m.Z b c = 1 → m.Z a c = 1

open Classical in
noncomputable def orderB (m : Mx) : Bool := decide (IsOrder m)
open Classical in
theorem orderB_true {m : Mx} (h : IsOrder m) : orderB m = true := by unfold orderB; exact decide_eq_true h
open Classical in
theorem orderB_false {m : Mx} (h : ¬ IsOrder m) : orderB m = false := by unfold orderB; exact decide_eq_false h
open Classical in
theorem orderB_is {m : Mx} (h : orderB m = true) : IsOrder m := by unfold orderB at h; exact of_decide_eq_true h
open Classical in
theorem orderB_not {m : Mx} (h : orderB m = false) : ¬ IsOrder m := by unfold orderB at h; exact of_decide_eq_false h
theorem isOrder_of {m : Mx} (h1 : 1 ≤ m.n) (h2 : m.n ≤ 12) (hs : Square m) (hp : ∀ a, a < m.n → ∀ b, b < m.n → PairOk m a b) : IsOrder m :=
  ⟨h1, h2, hs, fun a ha => (hp a ha a ha).refl rfl, fun a b ha hb => (hp a ha b hb).anti, fun a b c ha hb hc => (hp a ha b hb).trans c hc⟩
/-! ### Tests over all numbers below a bound; the first one that fits -/
def allB (n : Nat) (f : Nat → Bool) : Bool := (List.range n).all f
theorem allB_true {n : Nat} {f : Nat → Bool} (h : ∀ i, i < n → f i = true) : allB n f = true := by
  unfold allB; rw [List.all_eq_true]; intro x hx; exact h x (List.mem_range.1 hx)
theorem allB_false {n : Nat} {f : Nat → Bool} {k : Nat} (hk : k < n) (h : f k = false) : allB n f = false := by
  unfold allB; rw [List.all_eq_false]; exact ⟨k, List.mem_range.2 hk, by rw [h]; decide⟩
theorem allB_is {n : Nat} {f : Nat → Bool} (h : allB n f = true) : ∀ i, i < n → f i = true := by
  unfold allB at h; rw [List.all_eq_true] at h; exact fun i hi => h i (List.mem_range.2 hi)

/-- The first number below n that fits; -1 if there is none. -/
def firstI : Nat → (Nat → Bool) → Int
  | 0, _ => -1
  | n + 1, f => if firstI n f = -1 then (if f n = true then (n : Int) else -1) else firstI n f
theorem firstI_none {n : Nat} {f : Nat → Bool} (h : ∀ i, i < n → f i = false) : firstI n f = -1 := by
  induction n with
  | zero => rfl
  | succ n ih =>
    have h1 := ih fun i hi => h i (by omega)
    simp [firstI, h1, h n (by omega)]
theorem firstI_hit {n : Nat} {f : Nat → Bool} {k : Nat} (hk : k < n) (h0 : ∀ i, i < k → f i = false) (h1 : f k = true) : firstI n f = (k : Int) := by
  induction n with
  | zero => omega
  | succ n ih =>
    by_cases e : k = n
    · subst e
      simp [firstI, firstI_none h0, h1]
    · have h2 := ih (by omega)
      have h3 : firstI n f ≠ -1 := by omega
      simp only [firstI, if_neg h3]
      exact h2
/-- Either none fits, or there is a first one. -/
theorem firstI_ways (n : Nat) (f : Nat → Bool) : (firstI n f = -1 ∧ ∀ i, i < n → f i = false) ∨ ∃ k, k < n ∧ firstI n f = (k : Int) ∧ f k = true ∧ ∀ i, i < k → f i = false := by
  induction n with
  | zero => exact .inl ⟨rfl, fun i hi => absurd hi (Nat.not_lt_zero _)⟩
  | succ n ih =>
    rcases ih with ⟨h1, h2⟩ | ⟨k, hk, h1, h2, h3⟩
    · cases hf : f n with
      | false =>
        refine .inl ⟨by simp [firstI, h1, hf], fun i hi => ?_⟩
        by_cases e : i = n
        · subst e; exact hf
        · exact h2 i (by omega)
      | true => exact .inr ⟨n, by omega, by simp [firstI, h1, hf], hf, h2⟩
    · have h4 : firstI n f ≠ -1 := by omega
      refine .inr ⟨k, by omega, ?_, h2, h3⟩
      simp only [firstI, if_neg h4]
      exact h1

def leB (m : Mx) (a b : Nat) : Bool := m.Z a b == 1
def takesB (m : Mx) (a b : Nat) : Bool := allB m.n fun c => !leB m c a || leB m c b
def bothB (m : Mx) (c a b : Nat) : Bool := leB m c a && leB m c b
def ubB (m : Mx) (x a b : Nat) : Bool := allB m.n fun c => !bothB m c a b || leB m c x
def isMeetB (m : Mx) (a b x : Nat) : Bool := bothB m x a b && ubB m x a b
def meetI (m : Mx) (a b : Nat) : Int := firstI m.n (isMeetB m a b)
def belowAllB (m : Mx) (a : Nat) : Bool := allB m.n fun b => leB m a b
def leastI (m : Mx) : Int := firstI m.n (belowAllB m)
/-- The order turned round. -/
def tr (m : Mx) : Mx := ⟨m.n, fun _ => m.n, fun a b => m.Z b a⟩
def sumTo : Nat → (Nat → Int) → Int
  | 0, _ => 0
  | n + 1, f => sumTo n f + f n
def countI (m : Mx) (a : Nat) : Int := sumTo m.n fun r => m.Z r a
def hasI (i : Int) : Bool := decide (0 ≤ i)
theorem hasI_nat (k : Nat) : hasI (k : Int) = true := by unfold hasI; simp
open Classical in
noncomputable def squareB (m : Mx) : Bool := decide (Square m)
open Classical in
theorem squareB_true {m : Mx} (h : Square m) : squareB m = true := by unfold squareB; exact decide_eq_true h
open Classical in
theorem squareB_false {m : Mx} (h : ¬ Square m) : squareB m = false := by unfold squareB; exact decide_eq_false h
theorem leB_is {m : Mx} {a b : Nat} (h : leB m a b = true) : m.Z a b = 1 := by simpa [leB] using h
theorem leB_mk {m : Mx} {a b : Nat} (h : m.Z a b = 1) : leB m a b = true := by simpa [leB] using h
theorem leB_not {m : Mx} {a b : Nat} (h : leB m a b = false) : m.Z a b ≠ 1 := by simpa [leB] using h
theorem takesB_is {m : Mx} {a b : Nat} (h : takesB m a b = true) : ∀ c, c < m.n → m.Z c a = 1 → m.Z c b = 1 := by
  intro c hc h1
  have := allB_is h c hc
  rw [leB_mk h1] at this
  exact leB_is (by simpa using this)
theorem takesB_mk {m : Mx} {a b : Nat} (h : ∀ c, c < m.n → m.Z c a = 1 → m.Z c b = 1) : takesB m a b = true :=
  allB_true fun c hc => by
    cases h1 : leB m c a with
    | false => rfl
    | true => rw [leB_mk (h c hc (leB_is h1))]; rfl
/-- What the program asks of a pair. -/
structure PairG (m : Mx) (a b : Nat) : Prop where
  both : (leB m a b && leB m b a) = decide (a = b)
  takes : leB m a b = true → takesB m a b = true
theorem pairG_of_order {m : Mx} (h : IsOrder m) {a b : Nat} (ha : a < m.n) (hb : b < m.n) : PairG m a b := by
  refine ⟨?_, fun h1 => takesB_mk fun c hc h2 => h.trans c a b hc ha hb h2 (leB_is h1)⟩
  by_cases e : a = b
  · subst e; simp [leB_mk (h.refl a ha)]
  · have hd : decide (a = b) = false := decide_eq_false e
    rw [hd]
    cases h1 : leB m a b with
    | false => rfl
    | true =>
      have := h.anti a b ha hb e (leB_is h1)
      simp [leB, this]
theorem order_of_pairG {m : Mx} (h1 : 1 ≤ m.n) (h2 : m.n ≤ 12) (hs : Square m) (hp : ∀ a b, a < m.n → b < m.n → PairG m a b) : IsOrder m := by
  refine ⟨h1, h2, hs, fun a ha => ?_, fun a b ha hb hne h => ?_, fun a b c ha hb hc h h' => ?_⟩
  · have := (hp a a ha ha).both
    exact leB_is (by simpa using this)
  · have := (hp a b ha hb).both
    rw [leB_mk h] at this
    have hd : decide (a = b) = false := decide_eq_false hne
    rw [hd] at this
    have h3 := leB_not (a := b) (b := a) (by simpa using this)
    rcases hs.bit b hb a ha with h4 | h4
    · exact h4
    · exact absurd h4 h3
  · exact takesB_is ((hp b c hb hc).takes (leB_mk h')) a ha h
theorem takesB_self (m : Mx) (a : Nat) : takesB m a a = true := takesB_mk fun _ _ h => h
/-- All numbers of a list of answers are answers. -/
def goodB (n k : Nat) (z : Nat → Int) : Bool := allB k fun i => decide (0 ≤ z i) && decide (z i < (n : Int))
noncomputable def leastV (m : Mx) : Int := if orderB m = true then leastI m else -1
theorem leastV_no {m : Mx} (h : orderB m = false) : leastV m = -1 := by unfold leastV; rw [h]; simp
theorem leastV_yes {m : Mx} (h : orderB m = true) : leastV m = leastI m := by unfold leastV; rw [if_pos h]
def two (a b : Int) : Nat → Int := fun i => if i = 0 then a else b
theorem good_nil (n : Nat) (z : Nat → Int) : goodB n 0 z = true := allB_true fun _ hi => absurd hi (Nat.not_lt_zero _)
end Go.Proofs.YtijcacibofpnpaaDoor
namespace Go.Proofs.YtijcacibofpnpaaDoor

/-- The reference's scan for the greatest one below both: the best one among the first k. -/
def bestI (m : Mx) (a b : Nat) : Nat → Int
  | 0 => -1
  | k + 1 => if bothB m k a b = true ∧ (bestI m a b k < 0 ∨ leB m (bestI m a b k).toNat k = true) then (k : Int) else bestI m a b k

theorem bestI_ways (m : Mx) (a b k : Nat) : (bestI m a b k = -1 ∧ ∀ i, i < k → bothB m i a b = false) ∨ ∃ x, x < k ∧ bestI m a b k = (x : Int) ∧ bothB m x a b = true := by
  induction k with
  | zero => exact .inl ⟨rfl, fun i hi => absurd hi (Nat.not_lt_zero _)⟩
  | succ k ih =>
    by_cases h : bothB m k a b = true ∧ (bestI m a b k < 0 ∨ leB m (bestI m a b k).toNat k = true)
    · exact .inr ⟨k, by omega, by rw [bestI, if_pos h], h.1⟩
    · have he : bestI m a b (k + 1) = bestI m a b k := by rw [bestI, if_neg h]
      rcases ih with ⟨h1, h2⟩ | ⟨x, hx, h1, h2⟩
      · refine .inl ⟨by rw [he, h1], fun i hi => ?_⟩
        by_cases e : i = k
        · subst e
          cases hb : bothB m i a b with
          | false => rfl
          | true => exact absurd ⟨hb, .inl (by omega)⟩ h
        · exact h2 i (by omega)
      · exact .inr ⟨x, by omega, by rw [he, h1], h2⟩
theorem bestI_step_yes {m : Mx} {a b k : Nat} (h : bothB m k a b = true) (h2 : bestI m a b k < 0 ∨ leB m (bestI m a b k).toNat k = true) : bestI m a b (k + 1) = (k : Int) := by
  rw [bestI, if_pos ⟨h, h2⟩]
theorem bestI_step_no {m : Mx} {a b k : Nat} (h : ¬ (bothB m k a b = true ∧ (bestI m a b k < 0 ∨ leB m (bestI m a b k).toNat k = true))) : bestI m a b (k + 1) = bestI m a b k := by
  rw [bestI, if_neg h]

theorem isMeet_parts {m : Mx} {a b x : Nat} (h : isMeetB m a b x = true) : bothB m x a b = true ∧ ∀ c, c < m.n → bothB m c a b = true → leB m c x = true := by
  unfold isMeetB at h
  rw [Bool.and_eq_true] at h
  refine ⟨h.1, fun c hc hb => ?_⟩
  have := allB_is h.2 c hc
  rw [hb] at this
  simpa using this
theorem isMeet_mk {m : Mx} {a b x : Nat} (h1 : bothB m x a b = true) (h2 : ∀ c, c < m.n → bothB m c a b = true → leB m c x = true) : isMeetB m a b x = true := by
  unfold isMeetB
  rw [h1, Bool.true_and]
  refine allB_true fun c hc => ?_
  cases hb : bothB m c a b with
  | false => rfl
  | true => rw [h2 c hc hb]; rfl
theorem le_anti {m : Mx} (h : IsOrder m) {x y : Nat} (hx : x < m.n) (hy : y < m.n) (h1 : leB m x y = true) (h2 : leB m y x = true) : x = y := by
  by_cases e : x = y
  · exact e
  · have := h.anti x y hx hy e (leB_is h1)
    have := leB_is h2
    omega

theorem bestI_meet {m : Mx} (h : IsOrder m) {a b x : Nat} (hx : x < m.n) (hm : isMeetB m a b x = true) : ∀ k, x < k → k ≤ m.n → bestI m a b k = (x : Int) := by
  obtain ⟨h1, h2⟩ := isMeet_parts hm
  intro k
  induction k with
  | zero => intro hk; exact absurd hk (Nat.not_lt_zero _)
  | succ k ih =>
    intro hk hkn
    by_cases e : k = x
    · subst e
      refine bestI_step_yes h1 ?_
      rcases bestI_ways m a b k with ⟨h3, _⟩ | ⟨y, hy, h3, h4⟩
      · exact .inl (by omega)
      · right
        rw [h3]
        exact h2 y (by omega) h4
    · have hb := ih (by omega) (by omega)
      rw [bestI_step_no, hb]
      rintro ⟨h3, h4⟩
      rw [hb] at h4
      rcases h4 with h4 | h4
      · omega
      · have h5 := h2 k (by omega) h3
        exact e (le_anti h (by omega) hx h5 (by simpa using h4))

/-- The scan passed: it is the meeting, or there is none. -/
theorem meetI_pass {m : Mx} (h : IsOrder m) {a b : Nat} (hp : ∀ k, k < m.n → bothB m k a b = true → ∀ x : Nat, bestI m a b m.n = (x : Int) → leB m k x = true) : meetI m a b = bestI m a b m.n := by
  rcases bestI_ways m a b m.n with ⟨h1, h2⟩ | ⟨x, hx, h1, h2⟩
  · rw [h1]
    exact firstI_none fun i hi => by
      cases hh : isMeetB m a b i with
      | false => rfl
      | true =>
        have := (isMeet_parts hh).1
        rw [h2 i hi] at this
        cases this
  · have hm : isMeetB m a b x = true := isMeet_mk h2 fun c hc hb => hp c hc hb x h1
    rcases firstI_ways m.n (isMeetB m a b) with ⟨_, h4⟩ | ⟨y, hy, h3, h4, _⟩
    · rw [h4 x hx] at hm; cases hm
    · have := bestI_meet h hy h4 m.n hy (Nat.le_refl _)
      show firstI _ _ = _
      rw [h3, this]
theorem meetI_fail {m : Mx} (h : IsOrder m) {a b k x : Nat} (hk : k < m.n) (hb : bothB m k a b = true) (hx : bestI m a b m.n = (x : Int)) (hn : leB m k x = false) : meetI m a b = -1 :=
  firstI_none fun i hi => by
    cases hh : isMeetB m a b i with
    | false => rfl
    | true =>
      have h1 := bestI_meet h hi hh m.n hi (Nat.le_refl _)
      have h2 := (isMeet_parts hh).2 k hk hb
      have : i = x := by omega
      subst this
      rw [hn] at h2; cases h2

theorem tr_order {m : Mx} (h : IsOrder m) : IsOrder (tr m) :=
  ⟨h.pos, h.top, ⟨fun _ _ => rfl, fun r hr c hc => h.sq.bit c hc r hr⟩, h.refl, fun a b ha hb hne h1 => by
    have h1' : m.Z b a = 1 := h1
    exact h.anti b a hb ha (Ne.symm hne) h1', fun a b c ha hb hc h1 h2 => h.trans c b a hc hb ha h2 h1⟩
theorem leB_cases {m : Mx} (h : Square m) {a b : Nat} (ha : a < m.n) (hb : b < m.n) : (leB m a b = true ∧ m.Z a b = 1) ∨ (leB m a b = false ∧ m.Z a b = 0) := by
  rcases h.bit a ha b hb with h1 | h1
  · exact .inr ⟨by simp [leB, h1], h1⟩
  · exact .inl ⟨by simp [leB, h1], h1⟩
end Go.Proofs.YtijcacibofpnpaaDoor
namespace Go.Proofs.YtijcacibofpnpaaDoor
theorem hasI_yes {i : Int} (h : 0 ≤ i) : hasI i = true := by unfold hasI; simpa using h
theorem hasI_is {i : Int} (h : hasI i = true) : 0 ≤ i := by unfold hasI at h; simpa using h
theorem meetI_range (m : Mx) (a b : Nat) : -1 ≤ meetI m a b ∧ meetI m a b < (m.n : Int) + 1 := by
  rcases firstI_ways m.n (isMeetB m a b) with ⟨h, _⟩ | ⟨k, hk, h, _⟩
  · show -1 ≤ firstI _ _ ∧ firstI _ _ < _; omega
  · show -1 ≤ firstI _ _ ∧ firstI _ _ < _; omega
/-- Both meet and join. -/
structure MJ (m : Mx) (a b : Nat) : Prop where
  meets : hasI (meetI m a b) = true
  joins : hasI (meetI (tr m) a b) = true
structure IsLattice (m : Mx) : Prop where
  order : IsOrder m
  both : ∀ a b, a < m.n → b < m.n → MJ m a b
open Classical in
noncomputable def latticeB (m : Mx) : Bool := decide (IsLattice m)
open Classical in
theorem latticeB_true {m : Mx} (h : IsLattice m) : latticeB m = true := by unfold latticeB; exact decide_eq_true h
open Classical in
theorem latticeB_false {m : Mx} (h : ¬ IsLattice m) : latticeB m = false := by unfold latticeB; exact decide_eq_false h
open Classical in
theorem latticeB_is {m : Mx} (h : latticeB m = true) : IsLattice m := by unfold latticeB at h; exact of_decide_eq_true h
theorem bothB_comm (m : Mx) (c a b : Nat) : bothB m c a b = bothB m c b a := by unfold bothB; rw [Bool.and_comm]
theorem meetI_comm (m : Mx) (a b : Nat) : meetI m a b = meetI m b a := by
  unfold meetI
  have : isMeetB m a b = isMeetB m b a := by
    funext x
    unfold isMeetB ubB
    rw [bothB_comm m x a b]
    congr 1
    unfold allB
    congr 1
    funext c
    rw [bothB_comm m c a b]
  rw [this]
theorem MJ.comm {m : Mx} {a b : Nat} (h : MJ m a b) : MJ m b a := ⟨by rw [meetI_comm]; exact h.meets, by rw [meetI_comm]; exact h.joins⟩
/-- Of an answer and itself the meeting is this. -/
theorem meetI_self {m : Mx} (h : IsOrder m) {a : Nat} (ha : a < m.n) : meetI m a a = (a : Int) := by
  have hr : leB m a a = true := leB_mk (h.refl a ha)
  have hm : isMeetB m a a a = true := isMeet_mk (by unfold bothB; rw [hr]; rfl) fun c _ hb => by
    unfold bothB at hb
    rw [Bool.and_eq_true] at hb
    exact hb.1
  rcases firstI_ways m.n (isMeetB m a a) with ⟨_, h4⟩ | ⟨y, hy, h3, h4, _⟩
  · rw [h4 a ha] at hm; cases hm
  · have h5 := bestI_meet h hy h4 m.n hy (Nat.le_refl _)
    have h6 := bestI_meet h ha hm m.n ha (Nat.le_refl _)
    show firstI _ _ = _
    omega
theorem MJ.self {m : Mx} (h : IsOrder m) {a : Nat} (ha : a < m.n) : MJ m a a :=
  ⟨by rw [meetI_self h ha]; exact hasI_nat a, by rw [meetI_self (tr_order h) ha]; exact hasI_nat a⟩
/-- It is enough to look at pairs of which the second is less. -/
theorem lattice_of_less {m : Mx} (h : IsOrder m) (hp : ∀ a, a < m.n → ∀ b, b < a → MJ m a b) : IsLattice m :=
  ⟨h, fun a b ha hb => by
    rcases Nat.lt_trichotomy a b with h1 | h1 | h1
    · exact (hp b hb a h1).comm
    · subst h1; exact MJ.self h ha
    · exact hp a ha b h1⟩
end Go.Proofs.YtijcacibofpnpaaDoor
namespace Go.Proofs.YtijcacibofpnpaaDoor

/-- The atoms among the first k answers: those with two answers below them. -/
def atomsTo (m : Mx) : Nat → List Int
  | 0 => []
  | k + 1 => if countI m k = 2 then atomsTo m k ++ [(k : Int)] else atomsTo m k
open Classical in
noncomputable def atomsV (m : Mx) : List Int := if orderB m = true ∧ hasI (leastI m) = true then atomsTo m m.n else []
theorem atomsV_yes {m : Mx} (h : orderB m = true) (h' : hasI (leastI m) = true) : atomsV m = atomsTo m m.n := by unfold atomsV; rw [if_pos ⟨h, h'⟩]
end Go.Proofs.YtijcacibofpnpaaDoor
namespace Go.Proofs.YtijcacibofpnpaaDoor

theorem meetI_of {m : Mx} (h : IsOrder m) {a b x : Nat} (hx : x < m.n) (hm : isMeetB m a b x = true) : meetI m a b = (x : Int) := by
  rcases firstI_ways m.n (isMeetB m a b) with ⟨_, hno⟩ | ⟨k, hk, he, h1, _⟩
  · rw [hno x hx] at hm; cases hm
  · have p := isMeet_parts hm
    have q := isMeet_parts h1
    have : k = x := le_anti h hk hx (p.2 k hk q.1) (q.2 x hx p.1)
    unfold meetI
    rw [he, this]
theorem meetI_parts {m : Mx} {a b : Nat} (h : hasI (meetI m a b) = true) : ∃ x, x < m.n ∧ meetI m a b = (x : Int) ∧ m.Z x a = 1 ∧ m.Z x b = 1 ∧ ∀ c, c < m.n → m.Z c a = 1 → m.Z c b = 1 → m.Z c x = 1 := by
  rcases firstI_ways m.n (isMeetB m a b) with ⟨he, _⟩ | ⟨k, hk, he, h1, _⟩
  · have he' : meetI m a b = -1 := he
    rw [he'] at h
    cases h
  · obtain ⟨p, q⟩ := isMeet_parts h1
    have p' := p
    unfold bothB at p'
    rw [Bool.and_eq_true] at p'
    exact ⟨k, hk, he, leB_is p'.1, leB_is p'.2, fun c hc ha hb => leB_is (q c hc (by unfold bothB; rw [leB_mk ha, leB_mk hb]; rfl))⟩
theorem least_parts {m : Mx} (h : IsOrder m) (hl : hasI (leastI m) = true) : ∃ x, x < m.n ∧ leastI m = (x : Int) ∧ ∀ k, k < m.n → m.Z x k = 1 ∧ meetI m x k = (x : Int) := by
  rcases firstI_ways m.n (belowAllB m) with ⟨he, _⟩ | ⟨x, hx, he, h1, _⟩
  · have he' : leastI m = -1 := he
    rw [he'] at hl
    cases hl
  · refine ⟨x, hx, he, fun k hk => ?_⟩
    have hb := allB_is h1
    refine ⟨leB_is (hb k hk), meetI_of h hx (isMeet_mk ?_ fun c _ hc => ?_)⟩
    · unfold bothB
      rw [hb x hx, hb k hk]; rfl
    · unfold bothB at hc
      rw [Bool.and_eq_true] at hc
      exact hc.1
end Go.Proofs.YtijcacibofpnpaaDoor
namespace Go.Proofs.YtijcacibofpnpaaDoor

/-! ### Sums of noughts and ones -/
/-- One at x, nought elsewhere. -/
def one (x i : Nat) : Int := if i = x then 1 else 0
/-! ### Atoms -/
/-- Below all. -/
def BelowAll (m : Mx) (x : Nat) : Prop := ∀ k, k < m.n → m.Z x k = 1
/-! ### Lattices -/
theorem lattice_least {m : Mx} (h : IsLattice m) : ∃ x, x < m.n ∧ BelowAll m x := by
  have key : ∀ k, 1 ≤ k → k ≤ m.n → ∃ x, x < m.n ∧ ∀ i, i < k → m.Z x i = 1 := by
    intro k
    induction k with
    | zero => intro h1; omega
    | succ k ih =>
      intro _ hk
      by_cases e : k = 0
      · subst e
        exact ⟨0, by omega, fun i hi => by
          obtain rfl : i = 0 := by omega
          exact h.order.refl 0 (by omega)⟩
      · obtain ⟨x, hx, hxi⟩ := ih (by omega) (by omega)
        obtain ⟨y, hy, _, hyx, hyk, _⟩ := meetI_parts (h.both x k hx (by omega)).meets
        refine ⟨y, hy, fun i hi => ?_⟩
        by_cases e' : i = k
        · subst e'; exact hyk
        · exact h.order.trans y x i hy hx (by omega) hyx (hxi i (by omega))
  obtain ⟨x, hx, hxa⟩ := key m.n h.order.pos (Nat.le_refl _)
  exact ⟨x, hx, hxa⟩
theorem lattice_hasLeast {m : Mx} (h : IsLattice m) : hasI (leastI m) = true := by
  obtain ⟨x, hx, hl⟩ := lattice_least h
  rcases firstI_ways m.n (belowAllB m) with ⟨_, hno⟩ | ⟨k, _, he, _, _⟩
  · have h1 : belowAllB m x = true := allB_true fun k hk => leB_mk (hl k hk)
    rw [hno x hx] at h1; cases h1
  · have he' : leastI m = (k : Int) := he
    rw [he']; exact hasI_nat k
end Go.Proofs.YtijcacibofpnpaaDoor
namespace Go.Proofs.YtijcacibofpnpaaDoor

/-- Each of so many numbers is one below n, and the number at its place is the place. -/
structure IsPair (k n : Nat) (z : Nat → Int) : Prop where
  len : k = n
  lo : ∀ a, a < n → 0 ≤ z a
  hi : ∀ a, a < n → z a < (n : Int)
  inv : ∀ a, a < n → z (z a).toNat = (a : Int)
open Classical in
noncomputable def pairB (k n : Nat) (z : Nat → Int) : Bool := decide (IsPair k n z)
open Classical in
theorem pairB_true {k n : Nat} {z : Nat → Int} (h : IsPair k n z) : pairB k n z = true := by unfold pairB; exact decide_eq_true h
open Classical in
theorem pairB_false {k n : Nat} {z : Nat → Int} (h : ¬ IsPair k n z) : pairB k n z = false := by unfold pairB; exact decide_eq_false h
open Classical in
theorem pairB_is {k n : Nat} {z : Nat → Int} (h : pairB k n z = true) : IsPair k n z := by unfold pairB at h; exact of_decide_eq_true h
open Classical in
theorem pairB_not {k n : Nat} {z : Nat → Int} (h : pairB k n z = false) : ¬ IsPair k n z := by unfold pairB at h; exact of_decide_eq_false h
/-- The opposites as numbers from 0 on. -/
theorem IsPair.nat {k n : Nat} {z : Nat → Int} (h : IsPair k n z) : ∃ y : Nat → Nat, ∀ a, a < n → z a = (y a : Int) ∧ y a < n ∧ y (y a) = a := by
  refine ⟨fun a => (z a).toNat, fun a ha => ?_⟩
  have h1 := h.lo a ha
  have h2 := h.hi a ha
  have h3 := h.inv a ha
  refine ⟨by show z a = ((z a).toNat : Int); omega, by show (z a).toNat < n; omega, ?_⟩
  show (z (z a).toNat).toNat = a
  omega

/-- What is below is above among the opposites. -/
def turnPB (m : Mx) (y : Nat → Nat) (a b : Nat) : Bool := !(leB m a b && !leB m (y b) (y a))
def turnB (m : Mx) (y : Nat → Nat) : Bool := allB m.n fun a => allB m.n fun b => turnPB m y a b
/-- Each meets its opposite in the least one. -/
def keptPB (m : Mx) (y : Nat → Nat) (a : Nat) : Bool := decide (meetI m a (y a) = leastI m)
def keptB (m : Mx) (y : Nat → Nat) : Bool := allB m.n (keptPB m y)
structure IsLogic (m : Mx) (k : Nat) (z : Nat → Int) : Prop where
  lat : IsLattice m
  pair : IsPair k m.n z
  turn : turnB m (fun a => (z a).toNat) = true
  kept : keptB m (fun a => (z a).toNat) = true
open Classical in
noncomputable def logicB (m : Mx) (k : Nat) (z : Nat → Int) : Bool := decide (IsLogic m k z)
open Classical in
theorem logicB_true {m : Mx} {k : Nat} {z : Nat → Int} (h : IsLogic m k z) : logicB m k z = true := by unfold logicB; exact decide_eq_true h
open Classical in
theorem logicB_false {m : Mx} {k : Nat} {z : Nat → Int} (h : ¬ IsLogic m k z) : logicB m k z = false := by unfold logicB; exact decide_eq_false h
open Classical in
theorem logicB_is {m : Mx} {k : Nat} {z : Nat → Int} (h : logicB m k z = true) : IsLogic m k z := by unfold logicB at h; exact of_decide_eq_true h
theorem allB_congr {n : Nat} {f g : Nat → Bool} (h : ∀ i, i < n → f i = g i) : allB n f = allB n g := by
  cases hg : allB n g with
  | true => exact allB_true fun i hi => by rw [h i hi]; exact allB_is hg i hi
  | false =>
    cases hf : allB n f with
    | false => rfl
    | true => rw [allB_true (f := g) fun i hi => by rw [← h i hi]; exact allB_is hf i hi] at hg; cases hg
theorem turnB_congr {m : Mx} {y y' : Nat → Nat} (h : ∀ a, a < m.n → y a = y' a) : turnB m y = turnB m y' :=
  allB_congr fun a ha => allB_congr fun b hb => by unfold turnPB; rw [h a ha, h b hb]
theorem keptB_congr {m : Mx} {y y' : Nat → Nat} (h : ∀ a, a < m.n → y a = y' a) : keptB m y = keptB m y' :=
  allB_congr fun a ha => by unfold keptPB; rw [h a ha]
theorem logic_is {m : Mx} {k : Nat} {z : Nat → Int} {y : Nat → Nat} (hl : IsLattice m) (hp : IsPair k m.n z) (hy : ∀ a, a < m.n → z a = (y a : Int)) : logicB m k z = (turnB m y && keptB m y) := by
  have e : ∀ a, a < m.n → (z a).toNat = y a := fun a ha => by rw [hy a ha]; simp
  have h1 := turnB_congr (m := m) (y := fun a => (z a).toNat) (y' := y) e
  have h2 := keptB_congr (m := m) (y := fun a => (z a).toNat) (y' := y) e
  cases hb : turnB m y && keptB m y with
  | true =>
    rw [Bool.and_eq_true] at hb
    exact logicB_true ⟨hl, hp, h1.trans hb.1, h2.trans hb.2⟩
  | false =>
    refine logicB_false fun h => ?_
    rw [← h1, ← h2, h.turn, h.kept] at hb
    cases hb
end Go.Proofs.YtijcacibofpnpaaDoor
namespace Go.Proofs.YtijcacibofpnpaaDoor

/-- A lattice with opposites, as plain numbers. -/
structure Ortho (m : Mx) (z : Nat → Int) (y : Nat → Nat) (o : Nat) : Prop where
  lat : IsLattice m
  zy : ∀ a, a < m.n → z a = (y a : Int)
  lt : ∀ a, a < m.n → y a < m.n
  inv : ∀ a, a < m.n → y (y a) = a
  turn : ∀ a b, a < m.n → b < m.n → m.Z a b = 1 → m.Z (y b) (y a) = 1
  ho : o < m.n
  least : BelowAll m o
  eq : leastI m = (o : Int)
  kept : ∀ a, a < m.n → meetI m a (y a) = (o : Int)
theorem IsLogic.ortho {m : Mx} {k : Nat} {z : Nat → Int} (h : IsLogic m k z) : ∃ y o, Ortho m z y o := by
  obtain ⟨y, hy⟩ := h.pair.nat
  have e : ∀ a, a < m.n → (z a).toNat = y a := fun a ha => by rw [(hy a ha).1]; simp
  have h1 := turnB_congr (m := m) (y := fun a => (z a).toNat) (y' := y) e
  have h2 := keptB_congr (m := m) (y := fun a => (z a).toNat) (y' := y) e
  have ht := h1.symm.trans h.turn
  have hk := h2.symm.trans h.kept
  obtain ⟨o, ho, heq, hob⟩ := least_parts h.lat.order (lattice_hasLeast h.lat)
  refine ⟨y, o, h.lat, fun a ha => (hy a ha).1, fun a ha => (hy a ha).2.1, fun a ha => (hy a ha).2.2, fun a b ha hb hab => ?_, ho, fun k hk => (hob k hk).1, heq, fun a ha => ?_⟩
  · have := allB_is (allB_is ht a ha) b hb
    unfold turnPB at this
    rw [leB_mk hab] at this
    exact leB_is (by simpa using this)
  · have := allB_is hk a ha
    unfold keptPB at this
    rw [of_decide_eq_true this, heq]

theorem Ortho.back {m : Mx} {z : Nat → Int} {y : Nat → Nat} {o : Nat} (h : Ortho m z y o) {a b : Nat} (ha : a < m.n) (hb : b < m.n) (hab : m.Z a (y b) = 1) : m.Z b (y a) = 1 := by
  have := h.turn a (y b) ha (h.lt b hb) hab
  rwa [h.inv b hb] at this
/-- The opposite of a meeting is the join of the opposites. -/
theorem Ortho.meet_not {m : Mx} {z : Nat → Int} {y : Nat → Nat} {o : Nat} (h : Ortho m z y o) {a b x : Nat} (ha : a < m.n) (hb : b < m.n) (hx : meetI m a b = (x : Int)) : meetI (tr m) (y a) (y b) = (y x : Int) := by
  obtain ⟨x', hx', e, h1, h2, h3⟩ := meetI_parts (h.lat.both a b ha hb).meets
  have : x' = x := by omega
  subst this
  refine meetI_of (tr_order h.lat.order) (h.lt x' hx') (isMeet_mk ?_ fun c hc hb' => ?_)
  · unfold bothB
    rw [leB_mk (show (tr m).Z (y x') (y a) = 1 from h.turn x' a hx' ha h1), leB_mk (show (tr m).Z (y x') (y b) = 1 from h.turn x' b hx' hb h2)]; rfl
  · have hc' : c < m.n := hc
    unfold bothB at hb'
    rw [Bool.and_eq_true] at hb'
    have g1 : m.Z (y a) c = 1 := leB_is hb'.1
    have g2 : m.Z (y b) c = 1 := leB_is hb'.2
    have g3 := h.turn _ c (h.lt a ha) hc' g1
    have g4 := h.turn _ c (h.lt b hb) hc' g2
    rw [h.inv a ha] at g3
    rw [h.inv b hb] at g4
    have g5 := h.turn _ _ (h.lt c hc') hx' (h3 (y c) (h.lt c hc') g3 g4)
    rw [h.inv c hc'] at g5
    exact leB_mk (show m.Z (y x') c = 1 from g5)
theorem Ortho.meets {m : Mx} {z : Nat → Int} {y : Nat → Nat} {o : Nat} (h : Ortho m z y o) {a b : Nat} (ha : a < m.n) (hb : b < m.n) : ∃ x, x < m.n ∧ meetI m a b = (x : Int) := by
  obtain ⟨x, hx, e, _⟩ := meetI_parts (h.lat.both a b ha hb).meets
  exact ⟨x, hx, e⟩
theorem Ortho.joins {m : Mx} {z : Nat → Int} {y : Nat → Nat} {o : Nat} (h : Ortho m z y o) {a b : Nat} (ha : a < m.n) (hb : b < m.n) : ∃ x, x < m.n ∧ meetI (tr m) a b = (x : Int) := by
  obtain ⟨x, hx, e, _⟩ := meetI_parts (h.lat.both a b ha hb).joins
  exact ⟨x, hx, e⟩
/-- Above all is just the opposite of the least one. -/
theorem Ortho.above {m : Mx} {z : Nat → Int} {y : Nat → Nat} {o : Nat} (h : Ortho m z y o) {c : Nat} (hc : c < m.n) : m.Z c (y o) = 1 := by
  have := h.turn o (y c) h.ho (h.lt c hc) (h.least _ (h.lt c hc))
  rwa [h.inv c hc] at this
theorem leastI_of {m : Mx} (h : IsOrder m) {o : Nat} (ho : o < m.n) (hl : BelowAll m o) : leastI m = (o : Int) := by
  rcases firstI_ways m.n (belowAllB m) with ⟨_, hno⟩ | ⟨k, hk, he, h1, _⟩
  · have h1 : belowAllB m o = true := allB_true fun k hk => leB_mk (hl k hk)
    rw [hno o ho] at h1; cases h1
  · have he' : leastI m = (k : Int) := he
    rw [he', le_anti h hk ho (allB_is h1 o ho) (leB_mk (hl k hk))]
theorem Ortho.under {m : Mx} {z : Nat → Int} {y : Nat → Nat} {o : Nat} (h : Ortho m z y o) {c a : Nat} (hc : c < m.n) (ha : a < m.n) (h1 : m.Z c a = 1) (h2 : m.Z c (y a) = 1) : c = o := by
  obtain ⟨x', hx', e, _, _, h3⟩ := meetI_parts (h.lat.both a (y a) ha (h.lt a ha)).meets
  have e2 := h.kept a ha
  have : x' = o := by omega
  subst this
  exact le_anti h.lat.order hc hx' (leB_mk (h3 c hc h1 h2)) (leB_mk (h.least c hc))
/-- What is apart meets in the least one. -/
theorem Ortho.apart {m : Mx} {z : Nat → Int} {y : Nat → Nat} {o : Nat} (h : Ortho m z y o) {a b : Nat} (ha : a < m.n) (hb : b < m.n) (hab : m.Z a (y b) = 1) : meetI m a b = (o : Int) := by
  refine meetI_of h.lat.order h.ho (isMeet_mk ?_ fun c hc hb' => ?_)
  · unfold bothB
    rw [leB_mk (h.least a ha), leB_mk (h.least b hb)]; rfl
  · unfold bothB at hb'
    rw [Bool.and_eq_true] at hb'
    have := h.under hc hb (leB_is hb'.2) (h.lat.order.trans c a (y b) hc ha (h.lt b hb) (leB_is hb'.1) hab)
    rw [this]
    exact leB_mk (h.least o h.ho)
end Go.Proofs.YtijcacibofpnpaaDoor
