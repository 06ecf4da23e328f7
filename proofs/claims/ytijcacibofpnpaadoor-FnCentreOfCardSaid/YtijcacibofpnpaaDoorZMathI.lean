/- The plain mathematics of logics that are made: products, glued logics, logics under other names. The plain mathematics of glued logics. -/
import Derived.Test.YtijcacibofpnpaaDoorZMath
namespace Go.Proofs.YtijcacibofpnpaaDoor

/-- What makes rows and opposites a logic: meetings alone, since joins are opposites of meetings of opposites. -/
structure LogicData (n : Nat) (Z : Nat → Nat → Int) (y : Nat → Nat) (o : Nat) : Prop where
  pos : 1 ≤ n
  top : n ≤ 12
  bit : ∀ a b, a < n → b < n → Z a b = 0 ∨ Z a b = 1
  refl : ∀ a, a < n → Z a a = 1
  anti : ∀ a b, a < n → b < n → Z a b = 1 → Z b a = 1 → a = b
  trans : ∀ a b c, a < n → b < n → c < n → Z a b = 1 → Z b c = 1 → Z a c = 1
  lt : ∀ a, a < n → y a < n
  inv : ∀ a, a < n → y (y a) = a
  turn : ∀ a b, a < n → b < n → Z a b = 1 → Z (y b) (y a) = 1
  meet : ∀ a b, a < n → b < n → ∃ x, x < n ∧ Z x a = 1 ∧ Z x b = 1 ∧ ∀ c, c < n → Z c a = 1 → Z c b = 1 → Z c x = 1
  ho : o < n
  least : ∀ a, a < n → Z o a = 1
  kept : ∀ a c, a < n → c < n → Z c a = 1 → Z c (y a) = 1 → c = o
theorem LogicData.order {n : Nat} {Z : Nat → Nat → Int} {y : Nat → Nat} {o : Nat} (h : LogicData n Z y o) : IsOrder ⟨n, fun _ => n, Z⟩ :=
  ⟨h.pos, h.top, ⟨fun _ _ => rfl, fun r hr c hc => h.bit r c hr hc⟩, h.refl, fun a b ha hb hne hab => by
    rcases h.bit b a hb ha with e | e
    · exact e
    · exact absurd (h.anti a b ha hb hab e) hne, h.trans⟩
theorem hasI_of {m : Mx} (h : IsOrder m) {a b x : Nat} (hx : x < m.n) (h1 : m.Z x a = 1) (h2 : m.Z x b = 1) (h3 : ∀ c, c < m.n → m.Z c a = 1 → m.Z c b = 1 → m.Z c x = 1) : meetI m a b = (x : Int) :=
  meetI_of h hx (isMeet_mk (by unfold bothB; rw [leB_mk h1, leB_mk h2]; rfl) fun c hc hb => by
    unfold bothB at hb
    rw [Bool.and_eq_true] at hb
    exact leB_mk (h3 c hc (leB_is hb.1) (leB_is hb.2)))
theorem LogicData.lattice {n : Nat} {Z : Nat → Nat → Int} {y : Nat → Nat} {o : Nat} (h : LogicData n Z y o) : IsLattice ⟨n, fun _ => n, Z⟩ := by
  refine ⟨h.order, fun a b ha hb => ⟨?_, ?_⟩⟩
  · obtain ⟨x, hx, h1, h2, h3⟩ := h.meet a b ha hb
    rw [hasI_of h.order (x := x) hx h1 h2 h3]
    exact hasI_nat x
  · have ha' : a < n := ha
    have hb' : b < n := hb
    obtain ⟨x, hx, h1, h2, h3⟩ := h.meet (y a) (y b) (h.lt a ha') (h.lt b hb')
    have k1 : Z a (y x) = 1 := by
      have := h.turn x (y a) hx (h.lt a ha') h1
      rwa [h.inv a ha'] at this
    have k2 : Z b (y x) = 1 := by
      have := h.turn x (y b) hx (h.lt b hb') h2
      rwa [h.inv b hb'] at this
    have e := hasI_of (m := tr ⟨n, fun _ => n, Z⟩) (tr_order h.order) (a := a) (b := b) (x := y x) (h.lt x hx) k1 k2 fun c hc g1 g2 => by
      have hc' : c < n := hc
      have t1 : Z a c = 1 := g1
      have t2 : Z b c = 1 := g2
      have := h.turn (y c) x (h.lt c hc') hx (h3 (y c) (h.lt c hc') (h.turn a c ha' hc' t1) (h.turn b c hb' hc' t2))
      rw [h.inv c hc'] at this
      exact this
    rw [e]
    exact hasI_nat _
theorem LogicData.ortho {n : Nat} {Z : Nat → Nat → Int} {y : Nat → Nat} {o : Nat} (h : LogicData n Z y o) : Ortho ⟨n, fun _ => n, Z⟩ (fun a => (y a : Int)) y o :=
  ⟨h.lattice, fun _ _ => rfl, h.lt, h.inv, h.turn, h.ho, h.least, leastI_of h.order h.ho h.least, fun a ha =>
    hasI_of h.order (x := o) h.ho (h.least a ha) (h.least _ (h.lt a ha)) fun c hc g1 g2 => by
      rw [h.kept a c ha hc g1 g2]
      exact h.refl o h.ho⟩
theorem Ortho.logic {m : Mx} {z : Nat → Int} {y : Nat → Nat} {o : Nat} (h : Ortho m z y o) : IsLogic m m.n z := by
  have e : ∀ a, a < m.n → (z a).toNat = y a := fun a ha => by rw [h.zy a ha]; simp
  refine ⟨h.lat, ⟨rfl, fun a ha => by rw [h.zy a ha]; omega, fun a ha => by rw [h.zy a ha]; have := h.lt a ha; omega, fun a ha => by rw [e a ha, h.zy _ (h.lt a ha), h.inv a ha]⟩, ?_, ?_⟩
  · refine (turnB_congr e).trans (allB_true fun a ha => allB_true fun b hb => ?_)
    unfold turnPB
    cases hl : leB m a b with
    | false => rfl
    | true => rw [leB_mk (h.turn a b ha hb (leB_is hl))]; rfl
  · refine (keptB_congr e).trans (allB_true fun a ha => ?_)
    unfold keptPB
    rw [h.kept a ha, h.eq]
    simp
theorem LogicData.logic {n : Nat} {Z : Nat → Nat → Int} {y : Nat → Nat} {o : Nat} (h : LogicData n Z y o) : IsLogic ⟨n, fun _ => n, Z⟩ n (fun a => (y a : Int)) := h.ortho.logic
/-- A logic is such data. -/
theorem Ortho.data {m : Mx} {z : Nat → Int} {y : Nat → Nat} {o : Nat} (h : Ortho m z y o) : LogicData m.n m.Z y o :=
  ⟨h.lat.order.pos, h.lat.order.top, fun a b ha hb => h.lat.order.sq.bit a ha b hb, h.lat.order.refl, fun a b ha hb h1 h2 => le_anti h.lat.order ha hb (leB_mk h1) (leB_mk h2), h.lat.order.trans, h.lt, h.inv, h.turn,
   fun a b ha hb => by
     obtain ⟨x, hx, _, h1, h2, h3⟩ := meetI_parts (h.lat.both a b ha hb).meets
     exact ⟨x, hx, h1, h2, h3⟩, h.ho, fun a ha => h.least a ha, fun a c ha hc g1 g2 => h.under hc ha g1 g2⟩

/-! ### Products -/
/-! ### Other names -/
end Go.Proofs.YtijcacibofpnpaaDoor
namespace Go.Proofs.YtijcacibofpnpaaDoor

/-- Where a number stands: at the bottom, at the top, on the first side, on the second one. -/
theorem stands (p r k : Nat) (h : k < p + r + 2) : k = 0 ∨ k = p + r + 1 ∨ (∃ i, i < p ∧ k = i + 1) ∨ (∃ i, i < r ∧ k = p + i + 1) := by
  by_cases h0 : k = 0
  · exact .inl h0
  · by_cases h1 : k = p + r + 1
    · exact .inr (.inl h1)
    · by_cases h2 : k ≤ p
      · exact .inr (.inr (.inl ⟨k - 1, by omega, by omega⟩))
      · exact .inr (.inr (.inr ⟨k - p - 1, by omega, by omega⟩))
section
variable {p r : Nat} {Z1 Z2 : Nat → Nat → Int} {f1 f2 : Nat → Nat}
end

/-! ### The inner answers, in ascending order -/
/-! ### Whether rows and opposites are a logic, reckoned -/
def anyB (n : Nat) (f : Nat → Bool) : Bool := (List.range n).any f
theorem anyB_is {n : Nat} {f : Nat → Bool} (h : anyB n f = true) : ∃ i, i < n ∧ f i = true := by
  unfold anyB at h
  rw [List.any_eq_true] at h
  obtain ⟨x, hx, hf⟩ := h
  exact ⟨x, List.mem_range.1 hx, hf⟩
def checkL (n : Nat) (Z : Nat → Nat → Int) (y : Nat → Nat) (o : Nat) : Bool :=
  decide (1 ≤ n) && decide (n ≤ 12) && decide (o < n) &&
  allB n (fun a => decide (Z a a = 1) && decide (Z o a = 1) && decide (y a < n) && decide (y (y a) = a)) &&
  allB n (fun a => allB n fun b => (decide (Z a b = 0) || decide (Z a b = 1)) && (!(decide (Z a b = 1) && decide (Z b a = 1)) || decide (a = b)) && (!decide (Z a b = 1) || decide (Z (y b) (y a) = 1)) && (!(decide (Z b a = 1) && decide (Z b (y a) = 1)) || decide (b = o))) &&
  allB n (fun a => allB n fun b => allB n fun c => !(decide (Z a b = 1) && decide (Z b c = 1)) || decide (Z a c = 1)) &&
  allB n (fun a => allB n fun b => anyB n fun x => decide (Z x a = 1) && decide (Z x b = 1) && allB n fun c => !(decide (Z c a = 1) && decide (Z c b = 1)) || decide (Z c x = 1))
theorem imp_of {p q : Prop} [Decidable p] [Decidable q] (h : (!decide p || decide q) = true) (hp : p) : q := by
  rw [decide_eq_true hp] at h
  exact of_decide_eq_true (by simpa using h)
theorem imp2_of {p p' q : Prop} [Decidable p] [Decidable p'] [Decidable q] (h : (!(decide p && decide p') || decide q) = true) (hp : p) (hp' : p') : q := by
  rw [decide_eq_true hp, decide_eq_true hp'] at h
  exact of_decide_eq_true (by simpa using h)
theorem checkL_is {n o : Nat} {Z : Nat → Nat → Int} {y : Nat → Nat} (h : checkL n Z y o = true) : LogicData n Z y o := by
  unfold checkL at h
  simp only [Bool.and_eq_true] at h
  obtain ⟨⟨⟨⟨⟨⟨c1, c2⟩, c3⟩, c4⟩, c5⟩, c6⟩, c7⟩ := h
  have d4 := fun a (ha : a < n) => allB_is c4 a ha
  have d5 := fun a (ha : a < n) b (hb : b < n) => allB_is (allB_is c5 a ha) b hb
  simp only [Bool.and_eq_true] at d4 d5
  refine ⟨of_decide_eq_true c1, of_decide_eq_true c2, fun a b ha hb => ?_, fun a ha => of_decide_eq_true (d4 a ha).1.1.1, fun a b ha hb => imp2_of (d5 a ha b hb).1.1.2, fun a b c ha hb hc => imp2_of (allB_is (allB_is (allB_is c6 a ha) b hb) c hc), fun a ha => of_decide_eq_true (d4 a ha).1.2, fun a ha => of_decide_eq_true (d4 a ha).2, fun a b ha hb => imp_of (d5 a ha b hb).1.2, fun a b ha hb => ?_, of_decide_eq_true c3, fun a ha => of_decide_eq_true (d4 a ha).1.1.2, fun a c ha hc => imp2_of (d5 a ha c hc).2⟩
  · have := (d5 a ha b hb).1.1.1
    rw [Bool.or_eq_true] at this
    exact this.imp of_decide_eq_true of_decide_eq_true
  · obtain ⟨x, hx, h⟩ := anyB_is (allB_is (allB_is c7 a ha) b hb)
    simp only [Bool.and_eq_true] at h
    exact ⟨x, hx, of_decide_eq_true h.1.1, of_decide_eq_true h.1.2, fun c hc => imp2_of (allB_is h.2 c hc)⟩

/-! ### Sets, and the ring -/
def setsZ (k j : Nat) : Int := if k &&& j = k then 1 else 0
def setsY (n k : Nat) : Nat := n - 1 - k
theorem sets_data (t : Nat) (h : t ≤ 3) : LogicData (2 ^ t) setsZ (setsY (2 ^ t)) 0 := by
  have ht : t = 0 ∨ t = 1 ∨ t = 2 ∨ t = 3 := by omega
  rcases ht with rfl | rfl | rfl | rfl
  · exact checkL_is (by decide +kernel)
  · exact checkL_is (by decide +kernel)
  · exact checkL_is (by decide +kernel)
  · exact checkL_is (by decide +kernel)
end Go.Proofs.YtijcacibofpnpaaDoor
