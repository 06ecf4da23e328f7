/- The plain mathematics of the law: keeping it, pairs that break it, closed sets of answers, the least closed set around one, parts. -/
import Derived.Test.YtijcacibofpnpaaDoorZMathI
namespace Go.Proofs.YtijcacibofpnpaaDoor

def mN (m : Mx) (a b : Nat) : Nat := (meetI m a b).toNat
def jN (m : Mx) (a b : Nat) : Nat := (meetI (tr m) a b).toNat
/-- The greatest below both. -/
structure Glb (m : Mx) (a b x : Nat) : Prop where
  lt : x < m.n
  l : m.Z x a = 1
  r : m.Z x b = 1
  top : ∀ c, c < m.n → m.Z c a = 1 → m.Z c b = 1 → m.Z c x = 1
/-- The least above both. -/
structure Lub (m : Mx) (a b x : Nat) : Prop where
  lt : x < m.n
  l : m.Z a x = 1
  r : m.Z b x = 1
  bot : ∀ c, c < m.n → m.Z a c = 1 → m.Z b c = 1 → m.Z x c = 1
theorem le_eq {m : Mx} (h : IsOrder m) {a b : Nat} (ha : a < m.n) (hb : b < m.n) (h1 : m.Z a b = 1) (h2 : m.Z b a = 1) : a = b := le_anti h ha hb (leB_mk h1) (leB_mk h2)
theorem Ortho.mI {m : Mx} {z : Nat → Int} {y : Nat → Nat} {o : Nat} (h : Ortho m z y o) {a b : Nat} (ha : a < m.n) (hb : b < m.n) : meetI m a b = (mN m a b : Int) := by
  obtain ⟨x, _, e⟩ := h.meets ha hb
  unfold mN; rw [e]; simp
theorem Ortho.jI {m : Mx} {z : Nat → Int} {y : Nat → Nat} {o : Nat} (h : Ortho m z y o) {a b : Nat} (ha : a < m.n) (hb : b < m.n) : meetI (tr m) a b = (jN m a b : Int) := by
  obtain ⟨x, _, e⟩ := h.joins ha hb
  unfold jN; rw [e]; simp
theorem Ortho.mG {m : Mx} {z : Nat → Int} {y : Nat → Nat} {o : Nat} (h : Ortho m z y o) {a b : Nat} (ha : a < m.n) (hb : b < m.n) : Glb m a b (mN m a b) := by
  obtain ⟨x, hx, e, h1, h2, h3⟩ := meetI_parts (h.lat.both a b ha hb).meets
  have : mN m a b = x := by unfold mN; rw [e]; simp
  rw [this]; exact ⟨hx, h1, h2, h3⟩
theorem Ortho.jG {m : Mx} {z : Nat → Int} {y : Nat → Nat} {o : Nat} (h : Ortho m z y o) {a b : Nat} (ha : a < m.n) (hb : b < m.n) : Lub m a b (jN m a b) := by
  obtain ⟨x, hx, e, h1, h2, h3⟩ := meetI_parts (h.lat.both a b ha hb).joins
  have : jN m a b = x := by unfold jN; rw [e]; simp
  rw [this]; exact ⟨hx, h1, h2, h3⟩
theorem Glb.eq {m : Mx} (h : IsOrder m) {a b x x' : Nat} (g : Glb m a b x) (g' : Glb m a b x') : x = x' := le_eq h g.lt g'.lt (g'.top x g.lt g.l g.r) (g.top x' g'.lt g'.l g'.r)
theorem Lub.eq {m : Mx} (h : IsOrder m) {a b x x' : Nat} (g : Lub m a b x) (g' : Lub m a b x') : x = x' := le_eq h g.lt g'.lt (g.bot x' g'.lt g'.l g'.r) (g'.bot x g.lt g.l g.r)
theorem Ortho.j_is {m : Mx} {z : Nat → Int} {y : Nat → Nat} {o : Nat} (h : Ortho m z y o) {a b : Nat} (ha : a < m.n) (hb : b < m.n) : jN m a b = y (mN m (y a) (y b)) := by
  have := h.meet_not (h.lt a ha) (h.lt b hb) (h.mI (h.lt a ha) (h.lt b hb))
  rw [h.inv a ha, h.inv b hb, h.jI ha hb] at this
  omega
theorem Ortho.m_not {m : Mx} {z : Nat → Int} {y : Nat → Nat} {o : Nat} (h : Ortho m z y o) {a : Nat} (ha : a < m.n) : mN m a (y a) = o := by
  have := h.kept a ha
  rw [h.mI ha (h.lt a ha)] at this
  omega
theorem Ortho.m_comm {m : Mx} {z : Nat → Int} {y : Nat → Nat} {o : Nat} (_ : Ortho m z y o) (a b : Nat) : mN m a b = mN m b a := by unfold mN; rw [meetI_comm]

/-! ### Keeping the law -/
def keepsPB (m : Mx) (y : Nat → Nat) (a b : Nat) : Bool := !(leB m a b && !decide (jN m a (mN m b (y a)) = b))
def keepsB (m : Mx) (y : Nat → Nat) : Bool := allB m.n fun a => allB m.n fun b => keepsPB m y a b
noncomputable def keepsV (m : Mx) (k : Nat) (z : Nat → Int) : Bool := logicB m k z && keepsB m (fun a => (z a).toNat)
theorem keepsB_congr {m : Mx} {y y' : Nat → Nat} (h : ∀ a, a < m.n → y a = y' a) : keepsB m y = keepsB m y' :=
  allB_congr fun a ha => allB_congr fun b _ => by unfold keepsPB; rw [h a ha]
theorem Ortho.toNat {m : Mx} {z : Nat → Int} {y : Nat → Nat} {o : Nat} (h : Ortho m z y o) {a : Nat} (ha : a < m.n) : (z a).toNat = y a := by rw [h.zy a ha]; simp
theorem keepsV_is {m : Mx} {z : Nat → Int} {y : Nat → Nat} {o : Nat} (h : Ortho m z y o) : keepsV m m.n z = keepsB m y := by
  unfold keepsV
  rw [logicB_true h.logic, Bool.true_and]
  exact keepsB_congr fun a ha => h.toNat ha
/-! ### Sets of answers, as sums of powers of two -/
structure Closed (m : Mx) (y : Nat → Nat) (s : Nat) : Prop where
  meet : ∀ a b, a < m.n → b < m.n → s.testBit a = true → s.testBit b = true → s.testBit (mN m a b) = true
  not : ∀ a, a < m.n → s.testBit a = true → s.testBit (y a) = true
def closedRB (m : Mx) (y : Nat → Nat) (s a : Nat) : Bool := !s.testBit a || (allB m.n (fun b => !s.testBit b || s.testBit (mN m a b)) && s.testBit (y a))
def closedB (m : Mx) (y : Nat → Nat) (s : Nat) : Bool := allB m.n (closedRB m y s)
theorem closedB_is {m : Mx} {y : Nat → Nat} {s : Nat} (h : closedB m y s = true) : Closed m y s := by
  refine ⟨fun a b ha hb ga gb => ?_, fun a ha ga => ?_⟩
  · have := allB_is h a ha
    unfold closedRB at this
    rw [ga] at this
    simp only [Bool.not_true, Bool.false_or, Bool.and_eq_true] at this
    have h2 := allB_is this.1 b hb
    rw [gb] at h2
    simpa using h2
  · have := allB_is h a ha
    unfold closedRB at this
    rw [ga] at this
    simp only [Bool.not_true, Bool.false_or, Bool.and_eq_true] at this
    exact this.2
theorem closedB_mk {m : Mx} {y : Nat → Nat} {s : Nat} (h : Closed m y s) : closedB m y s = true := allB_true fun a ha => by
  unfold closedRB
  cases ga : s.testBit a with
  | false => rfl
  | true =>
    rw [h.not a ha ga, Bool.and_true]
    simp only [Bool.not_true, Bool.false_or]
    refine allB_true fun b hb => ?_
    cases gb : s.testBit b with
    | false => rfl
    | true => rw [h.meet a b ha hb ga gb]; rfl
theorem Closed.join {m : Mx} {z : Nat → Int} {y : Nat → Nat} {o s : Nat} (hc : Closed m y s) (h : Ortho m z y o) {a b : Nat} (ha : a < m.n) (hb : b < m.n) (ga : s.testBit a = true) (gb : s.testBit b = true) : s.testBit (jN m a b) = true := by
  rw [h.j_is ha hb]
  exact hc.not _ (h.mG (h.lt a ha) (h.lt b hb)).lt (hc.meet _ _ (h.lt a ha) (h.lt b hb) (hc.not a ha ga) (hc.not b hb gb))
def Sub (s t : Nat) : Prop := ∀ a, s.testBit a = true → t.testBit a = true
theorem Sub.refl (s : Nat) : Sub s s := fun _ h => h
theorem Sub.trans {s t u : Nat} (h : Sub s t) (k : Sub t u) : Sub s u := fun a g => k a (h a g)
theorem Sub.eq {s t : Nat} (h : Sub s t) (k : Sub t s) : s = t := Nat.eq_of_testBit_eq fun i => by
  rw [Bool.eq_iff_iff]; exact ⟨h i, k i⟩
theorem Sub.or {s t : Nat} (h : Sub s t) : s ||| t = t := Nat.eq_of_testBit_eq fun i => by
  rw [Nat.testBit_or]
  cases g : s.testBit i with
  | false => simp
  | true => rw [h i g]; rfl
theorem Sub.le {s t : Nat} (h : Sub s t) : s ≤ t := by rw [← h.or]; exact Nat.left_le_or
theorem sub_or {s t u : Nat} (h : Sub s u) (k : Sub t u) : Sub (s ||| t) u := fun a g => by
  rw [Nat.testBit_or, Bool.or_eq_true] at g
  rcases g with g | g
  · exact h a g
  · exact k a g
theorem sub_left (s t : Nat) : Sub s (s ||| t) := fun a g => by rw [Nat.testBit_or, g]; rfl
theorem sub_right (s t : Nat) : Sub t (s ||| t) := fun a g => by rw [Nat.testBit_or, g]; simp
theorem sub_one {x u : Nat} (h : u.testBit x = true) : Sub (2 ^ x) u := fun a g => by
  rw [Nat.testBit_two_pow] at g
  rw [← of_decide_eq_true g]; exact h
theorem has_one (x : Nat) : (2 ^ x).testBit x = true := Nat.testBit_two_pow_self
theorem bit_lt {s n a : Nat} (hs : s < 2 ^ n) (h : s.testBit a = true) : a < n := by
  apply Nat.lt_of_not_le
  intro hle
  have h1 := Nat.ge_two_pow_of_testBit h
  have h2 := Nat.pow_le_pow_right (n := 2) (by omega) hle
  omega
theorem or_lt {s t n : Nat} (hs : s < 2 ^ n) (ht : t < 2 ^ n) : s ||| t < 2 ^ n := Nat.or_lt_two_pow hs ht
theorem one_lt {x n : Nat} (h : x < n) : 2 ^ x < 2 ^ n := Nat.pow_lt_pow_right (by omega) h
theorem has_some {s : Nat} (h : 1 ≤ s) : ∃ a, s.testBit a = true := Nat.exists_testBit_of_ne_zero (by omega)
theorem Closed.no {m : Mx} {z : Nat → Int} {y : Nat → Nat} {o s : Nat} (hc : Closed m y s) (h : Ortho m z y o) (hs : s < 2 ^ m.n) (h1 : 1 ≤ s) : s.testBit o = true := by
  obtain ⟨a, ga⟩ := has_some h1
  have ha := bit_lt hs ga
  rw [← h.m_not ha]
  exact hc.meet _ _ ha (h.lt a ha) ga (hc.not a ha ga)

/-! ### The least closed set -/
structure IsMade (m : Mx) (y : Nat → Nat) (s t : Nat) : Prop where
  has : Sub s t
  lt : t < 2 ^ m.n
  closed : Closed m y t
  least : ∀ u, Closed m y u → Sub s u → Sub t u
theorem IsMade.eq {m : Mx} {y : Nat → Nat} {s t t' : Nat} (h : IsMade m y s t) (h' : IsMade m y s t') : t = t' := (h.least t' h'.closed h'.has).eq (h'.least t h.closed h.has)
/-- On the way to it. -/
structure Under (m : Mx) (y : Nat → Nat) (s t : Nat) : Prop where
  has : Sub s t
  lt : t < 2 ^ m.n
  least : ∀ u, Closed m y u → Sub s u → Sub t u
theorem Under.made {m : Mx} {y : Nat → Nat} {s t : Nat} (h : Under m y s t) (hc : Closed m y t) : IsMade m y s t := ⟨h.has, h.lt, hc, h.least⟩
theorem Under.start {m : Mx} {y : Nat → Nat} {s : Nat} (h : s < 2 ^ m.n) : Under m y s s := ⟨.refl s, h, fun _ _ k => k⟩
theorem Under.then {m : Mx} {y : Nat → Nat} {s t u : Nat} (h : Under m y s t) (k : Under m y t u) : Under m y s u := ⟨h.has.trans k.has, k.lt, fun v hv hs => k.least v hv (h.least v hv hs)⟩
theorem Under.more {m : Mx} {y : Nat → Nat} {s t x : Nat} (h : Under m y s t) (hx : x < m.n) (hu : ∀ u, Closed m y u → Sub s u → u.testBit x = true) : Under m y s (t ||| 2 ^ x) :=
  ⟨h.has.trans (sub_left _ _), or_lt h.lt (one_lt hx), fun u hu' hs => sub_or (h.least u hu' hs) (sub_one (hu u hu' hs))⟩
/-- One step towards it, all pairs being looked at. -/
structure Grown (m : Mx) (y : Nat → Nat) (s t : Nat) : Prop where
  under : Under m y s t
  meet : ∀ a b, a < m.n → b < m.n → s.testBit a = true → s.testBit b = true → t.testBit (mN m a b) = true
  not : ∀ a, a < m.n → s.testBit a = true → t.testBit (y a) = true
theorem Grown.same {m : Mx} {y : Nat → Nat} {s t : Nat} (h : Grown m y s t) : (decide (t = s)) = closedB m y s := by
  rw [Bool.eq_iff_iff, decide_eq_true_iff]
  constructor
  · intro e
    subst e
    exact closedB_mk ⟨h.meet, h.not⟩
  · intro hc
    exact (h.under.least s (closedB_is hc) (.refl s)).eq h.under.has
def inB (n : Nat) (s : Int) : Bool := decide (1 ≤ s ∧ s < (2 ^ n : Nat))
noncomputable def subV (m : Mx) (k : Nat) (z : Nat → Int) (s : Int) : Bool := logicB m k z && inB m.n s && closedB m (fun a => (z a).toNat) s.toNat
theorem closedB_congr {m : Mx} {y y' : Nat → Nat} {s : Nat} (h : ∀ a, a < m.n → y a = y' a) : closedB m y s = closedB m y' s :=
  allB_congr fun a ha => by unfold closedRB; rw [h a ha]
theorem subV_is {m : Mx} {z : Nat → Int} {y : Nat → Nat} {o s : Nat} (h : Ortho m z y o) (h1 : 1 ≤ s) (h2 : s < 2 ^ m.n) : subV m m.n z (s : Int) = closedB m y s := by
  unfold subV
  have : inB m.n (s : Int) = true := by unfold inB; exact decide_eq_true ⟨by omega, by omega⟩
  rw [logicB_true h.logic, this, Bool.true_and, Bool.true_and]
  exact closedB_congr fun a ha => h.toNat ha
theorem IsMade.congr {m : Mx} {y y' : Nat → Nat} {s t : Nat} (h : IsMade m y s t) (e : ∀ a, a < m.n → y a = y' a) : IsMade m y' s t :=
  ⟨h.has, h.lt, ⟨h.closed.meet, fun a ha ga => by rw [← e a ha]; exact h.closed.not a ha ga⟩, fun u hu hs => h.least u ⟨hu.meet, fun a ha ga => by rw [e a ha]; exact hu.not a ha ga⟩ hs⟩
/-! ### The numbers of a set, in ascending order -/
def memsTo (s : Nat) : Nat → List Nat
  | 0 => []
  | k + 1 => if s.testBit k = true then memsTo s k ++ [k] else memsTo s k
theorem memsTo_yes {s k : Nat} (h : s.testBit k = true) : memsTo s (k + 1) = memsTo s k ++ [k] := by rw [memsTo, if_pos h]
theorem memsTo_no {s k : Nat} (h : s.testBit k = false) : memsTo s (k + 1) = memsTo s k := by rw [memsTo, if_neg (by rw [h]; decide)]
theorem memsTo_mem {s c : Nat} (k : Nat) : c ∈ memsTo s k ↔ c < k ∧ s.testBit c = true := by
  induction k with
  | zero => simp [memsTo]
  | succ k ih =>
    cases e : s.testBit k with
    | false =>
      rw [memsTo_no e, ih]
      constructor
      · rintro ⟨h1, h2⟩; exact ⟨by omega, h2⟩
      · rintro ⟨h1, h2⟩
        refine ⟨?_, h2⟩
        have : c ≠ k := fun e2 => by rw [e2, e] at h2; cases h2
        omega
    | true =>
      rw [memsTo_yes e, List.mem_append, ih, List.mem_singleton]
      constructor
      · rintro (⟨h1, h2⟩ | rfl)
        · exact ⟨by omega, h2⟩
        · exact ⟨by omega, e⟩
      · rintro ⟨h1, h2⟩
        by_cases e2 : c = k
        · exact .inr e2
        · exact .inl ⟨by omega, h2⟩
theorem memsTo_up {s : Nat} (k : Nat) : (memsTo s k).Pairwise (· < ·) := by
  induction k with
  | zero => exact List.Pairwise.nil
  | succ k ih =>
    cases e : s.testBit k with
    | false => rw [memsTo_no e]; exact ih
    | true =>
      rw [memsTo_yes e]
      refine List.pairwise_append.2 ⟨ih, List.pairwise_singleton _ _, fun a ha b hb => ?_⟩
      rw [List.mem_singleton] at hb
      rw [hb]
      exact ((memsTo_mem k).1 ha).1
theorem memsTo_len (s k : Nat) : (memsTo s k).length ≤ k := by
  induction k with
  | zero => exact Nat.le_refl _
  | succ k ih =>
    cases e : s.testBit k with
    | false => rw [memsTo_no e]; omega
    | true => rw [memsTo_yes e, List.length_append, List.length_singleton]; omega
def memF (s n j : Nat) : Nat := (memsTo s n)[j]?.getD 0
def memB (s n a : Nat) : Nat := (memsTo s n).idxOf a
def memK (s n : Nat) : Nat := (memsTo s n).length
/-- Some of the numbers below n, in a row, with their places. -/
structure Emb (n k s : Nat) (q b : Nat → Nat) : Prop where
  lt : ∀ j, j < k → q j < n
  has : ∀ j, j < k → s.testBit (q j) = true
  bq : ∀ j, j < k → b (q j) = j
  blt : ∀ a, a < n → s.testBit a = true → b a < k
  qb : ∀ a, a < n → s.testBit a = true → q (b a) = a
theorem mem_emb (s n : Nat) : Emb n (memK s n) s (memF s n) (memB s n) := by
  have get : ∀ j, j < memK s n → ∃ h : j < (memsTo s n).length, memF s n j = (memsTo s n)[j] := fun j hj => ⟨hj, by unfold memF; rw [List.getElem?_eq_getElem hj]; rfl⟩
  have mem : ∀ j, j < memK s n → memF s n j ∈ memsTo s n := fun j hj => by
    obtain ⟨h, e⟩ := get j hj
    rw [e]
    exact List.getElem_mem h
  refine ⟨fun j hj => ((memsTo_mem n).1 (mem j hj)).1, fun j hj => ((memsTo_mem n).1 (mem j hj)).2, fun j hj => ?_, fun a ha hs => List.idxOf_lt_length_iff.2 ((memsTo_mem n).2 ⟨ha, hs⟩), fun a ha hs => ?_⟩
  · obtain ⟨h1, e1⟩ := get j hj
    have hi : (memsTo s n).idxOf (memF s n j) < (memsTo s n).length := List.idxOf_lt_length_iff.2 (mem j hj)
    have e2 : (memsTo s n)[(memsTo s n).idxOf (memF s n j)] = memF s n j := List.getElem_idxOf hi
    have hp := List.pairwise_iff_getElem.1 (memsTo_up (s := s) n)
    unfold memB
    rcases Nat.lt_trichotomy ((memsTo s n).idxOf (memF s n j)) j with h | h | h
    · have := hp _ j hi h1 h; omega
    · exact h
    · have := hp j _ h1 hi h; omega
  · have hi : (memsTo s n).idxOf a < (memsTo s n).length := List.idxOf_lt_length_iff.2 ((memsTo_mem n).2 ⟨ha, hs⟩)
    unfold memF memB
    rw [List.getElem?_eq_getElem hi]
    exact List.getElem_idxOf hi
theorem mem_pos {s n : Nat} (h1 : 1 ≤ s) (h2 : s < 2 ^ n) : 1 ≤ memK s n := by
  obtain ⟨a, ga⟩ := has_some h1
  have := List.length_pos_of_mem ((memsTo_mem n).2 ⟨bit_lt h2 ga, ga⟩)
  exact this

/-! ### Parts -/
end Go.Proofs.YtijcacibofpnpaaDoor
