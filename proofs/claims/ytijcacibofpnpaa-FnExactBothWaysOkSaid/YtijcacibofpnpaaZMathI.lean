/- The plain mathematics of logics that are made: products, glued logics, logics under other names. The plain mathematics of glued logics. -/
import Derived.Test.YtijcacibofpnpaaZMath
namespace Go.Proofs.Ytijcacibofpnpaa

/-- What makes rows and opposites a logic: meetings alone, since joins are opposites of meetings of opposites. -/
structure LogicData (n : Nat) (Z : Nat → Nat → Int) (y : Nat → Nat) (o : Nat) : Prop where
  pos : 1 ≤ n
  top : n ≤ 12
  bit : ∀ a b, a < n → b < n → Z a b = 0 ∨ Z a b = 1
  refl : ∀ a, a < n → Z a a = 1
  anti : ∀ a b, a < n → b < n → Z a b = 1 → Z b a = 1 → a = b
  trans : ∀ a b c, a < n → b < n → c < n → Z a b = 1 → Z b c = 1 → Z a c = 1
  lt : ∀ a, a < n → y a < n
  inv : ∀ a, a < n → y (y a) = a
  turn : ∀ a b, a < n → b < n → Z a b = 1 → Z (y b) (y a) = 1
  meet : ∀ a b, a < n → b < n → ∃ x, x < n ∧ Z x a = 1 ∧ Z x b = 1 ∧ ∀ c, c < n → Z c a = 1 → Z c b = 1 → Z c x = 1
  ho : o < n
  least : ∀ a, a < n → Z o a = 1
  kept : ∀ a c, a < n → c < n → Z c a = 1 → Z c (y a) = 1 → c = o
theorem LogicData.order {n : Nat} {Z : Nat → Nat → Int} {y : Nat → Nat} {o : Nat} (h : LogicData n Z y o) : IsOrder ⟨n, fun _ => n, Z⟩ :=
  ⟨h.pos, h.top, ⟨fun _ _ => rfl, fun r hr c hc => h.bit r c hr hc⟩, h.refl, fun a b ha hb hne hab => by
    rcases h.bit b a hb ha with e | e
    · exact e
    · exact absurd (h.anti a b ha hb hab e) hne, h.trans⟩
theorem hasI_of {m : Mx} (h : IsOrder m) {a b x : Nat} (hx : x < m.n) (h1 : m.Z x a = 1) (h2 : m.Z x b = 1) (h3 : ∀ c, c < m.n → m.Z c a = 1 → m.Z c b = 1 → m.Z c x = 1) : meetI m a b = (x : Int) :=
  meetI_of h hx (isMeet_mk (by unfold bothB; rw [leB_mk h1, leB_mk h2]; rfl) fun c hc hb => by
    unfold bothB at hb
    rw [Bool.and_eq_true] at hb
    exact leB_mk (h3 c hc (leB_is hb.1) (leB_is hb.2)))
theorem LogicData.lattice {n : Nat} {Z : Nat → Nat → Int} {y : Nat → Nat} {o : Nat} (h : LogicData n Z y o) : IsLattice ⟨n, fun _ => n, Z⟩ := by
  refine ⟨h.order, fun a b ha hb => ⟨?_, ?_⟩⟩
  · obtain ⟨x, hx, h1, h2, h3⟩ := h.meet a b ha hb
    rw [hasI_of h.order (x := x) hx h1 h2 h3]
    exact hasI_nat x
  · have ha' : a < n := ha
    have hb' : b < n := hb
    obtain ⟨x, hx, h1, h2, h3⟩ := h.meet (y a) (y b) (h.lt a ha') (h.lt b hb')
    have k1 : Z a (y x) = 1 := by
      have := h.turn x (y a) hx (h.lt a ha') h1
      rwa [h.inv a ha'] at this
    have k2 : Z b (y x) = 1 := by
      have := h.turn x (y b) hx (h.lt b hb') h2
      rwa [h.inv b hb'] at this
    have e := hasI_of (m := tr ⟨n, fun _ => n, Z⟩) (tr_order h.order) (a := a) (b := b) (x := y x) (h.lt x hx) k1 k2 fun c hc g1 g2 => by
      have hc' : c < n := hc
      have t1 : Z a c = 1 := g1
      have t2 : Z b c = 1 := g2
      have := h.turn (y c) x (h.lt c hc') hx (h3 (y c) (h.lt c hc') (h.turn a c ha' hc' t1) (h.turn b c hb' hc' t2))
      rw [h.inv c hc'] at this
      exact this
    rw [e]
    exact hasI_nat _
theorem LogicData.ortho {n : Nat} {Z : Nat → Nat → Int} {y : Nat → Nat} {o : Nat} (h : LogicData n Z y o) : Ortho ⟨n, fun _ => n, Z⟩ (fun a => (y a : Int)) y o :=
  ⟨h.lattice, fun _ _ => rfl, h.lt, h.inv, h.turn, h.ho, h.least, leastI_of h.order h.ho h.least, fun a ha =>
    hasI_of h.order (x := o) h.ho (h.least a ha) (h.least _ (h.lt a ha)) fun c hc g1 g2 => by
      rw [h.kept a c ha hc g1 g2]
      exact h.refl o h.ho⟩
theorem Ortho.logic {m : Mx} {z : Nat → Int} {y : Nat → Nat} {o : Nat} (h : Ortho m z y o) : IsLogic m m.n z := by
  have e : ∀ a, a < m.n → (z a).toNat = y a := fun a ha => by rw [h.zy a ha]; simp
  refine ⟨h.lat, ⟨rfl, fun a ha => by rw [h.zy a ha]; omega, fun a ha => by rw [h.zy a ha]; have := h.lt a ha; omega, fun a ha => by rw [e a ha, h.zy _ (h.lt a ha), h.inv a ha]⟩, ?_, ?_⟩
  · refine (turnB_congr e).trans (allB_true fun a ha => allB_true fun b hb => ?_)
    unfold turnPB
    cases hl : leB m a b with
    | false => rfl
    | true => rw [leB_mk (h.turn a b ha hb (leB_is hl))]; rfl
  · refine (keptB_congr e).trans (allB_true fun a ha => ?_)
    unfold keptPB
    rw [h.kept a ha, h.eq]
    simp
theorem LogicData.logic {n : Nat} {Z : Nat → Nat → Int} {y : Nat → Nat} {o : Nat} (h : LogicData n Z y o) : IsLogic ⟨n, fun _ => n, Z⟩ n (fun a => (y a : Int)) := h.ortho.logic
/-- A logic is such data. -/
theorem Ortho.data {m : Mx} {z : Nat → Int} {y : Nat → Nat} {o : Nat} (h : Ortho m z y o) : LogicData m.n m.Z y o :=
  ⟨h.lat.order.pos, h.lat.order.top, fun a b ha hb => h.lat.order.sq.bit a ha b hb, h.lat.order.refl, fun a b ha hb h1 h2 => le_anti h.lat.order ha hb (leB_mk h1) (leB_mk h2), h.lat.order.trans, h.lt, h.inv, h.turn,
   fun a b ha hb => by
     obtain ⟨x, hx, _, h1, h2, h3⟩ := meetI_parts (h.lat.both a b ha hb).meets
     exact ⟨x, hx, h1, h2, h3⟩, h.ho, fun a ha => h.least a ha, fun a c ha hc g1 g2 => h.under hc ha g1 g2⟩

/-! ### Products -/
/-! ### Other names -/
end Go.Proofs.Ytijcacibofpnpaa
namespace Go.Proofs.Ytijcacibofpnpaa

section
variable {p r : Nat} {Z1 Z2 : Nat → Nat → Int} {f1 f2 : Nat → Nat}
end

/-! ### The inner answers, in ascending order -/
/-! ### Whether rows and opposites are a logic, reckoned -/
/-! ### Sets, and the ring -/
end Go.Proofs.Ytijcacibofpnpaa
