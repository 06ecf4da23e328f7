/- The plain mathematics of logics: lattices with opposites. -/
import Derived.Test.YtcplljeglaolgaaMathE
namespace Go.Proofs.Ytcplljeglaolgaa

/-- Each of so many numbers is one below n, and the number at its place is the place. -/
structure IsPair (k n : Nat) (z : Nat → Int) : Prop where
  len : k = n
  lo : ∀ a, a < n → 0 ≤ z a
  hi : ∀ a, a < n → z a < (n : Int)
  inv : ∀ a, a < n → z (z a).toNat = (a : Int)
open Classical in
noncomputable def pairB (k n : Nat) (z : Nat → Int) : Bool := decide (IsPair k n z)
open Classical in
theorem pairB_true {k n : Nat} {z : Nat → Int} (h : IsPair k n z) : pairB k n z = true := by unfold pairB; exact decide_eq_true h
open Classical in
theorem pairB_false {k n : Nat} {z : Nat → Int} (h : ¬ IsPair k n z) : pairB k n z = false := by unfold pairB; exact decide_eq_false h
open Classical in
theorem pairB_is {k n : Nat} {z : Nat → Int} (h : pairB k n z = true) : IsPair k n z := by unfold pairB at h; exact of_decide_eq_true h
open Classical in
theorem pairB_not {k n : Nat} {z : Nat → Int} (h : pairB k n z = false) : ¬ IsPair k n z := by unfold pairB at h; exact of_decide_eq_false h
/-- The opposites as numbers from 0 on. -/
theorem IsPair.nat {k n : Nat} {z : Nat → Int} (h : IsPair k n z) : ∃ y : Nat → Nat, ∀ a, a < n → z a = (y a : Int) ∧ y a < n ∧ y (y a) = a := by
  refine ⟨fun a => (z a).toNat, fun a ha => ?_⟩
  have h1 := h.lo a ha
  have h2 := h.hi a ha
  have h3 := h.inv a ha
  refine ⟨by show z a = ((z a).toNat : Int); omega, by show (z a).toNat < n; omega, ?_⟩
  show (z (z a).toNat).toNat = a
  omega

/-- What is below is above among the opposites. -/
def turnPB (m : Mx) (y : Nat → Nat) (a b : Nat) : Bool := !(leB m a b && !leB m (y b) (y a))
def turnB (m : Mx) (y : Nat → Nat) : Bool := allB m.n fun a => allB m.n fun b => turnPB m y a b
/-- Each meets its opposite in the least one. -/
def keptPB (m : Mx) (y : Nat → Nat) (a : Nat) : Bool := decide (meetI m a (y a) = leastI m)
def keptB (m : Mx) (y : Nat → Nat) : Bool := allB m.n (keptPB m y)
structure IsLogic (m : Mx) (k : Nat) (z : Nat → Int) : Prop where
  lat : IsLattice m
  pair : IsPair k m.n z
  turn : turnB m (fun a => (z a).toNat) = true
  kept : keptB m (fun a => (z a).toNat) = true
open Classical in
noncomputable def logicB (m : Mx) (k : Nat) (z : Nat → Int) : Bool := decide (IsLogic m k z)
open Classical in
theorem logicB_true {m : Mx} {k : Nat} {z : Nat → Int} (h : IsLogic m k z) : logicB m k z = true := by unfold logicB; exact decide_eq_true h
open Classical in
theorem logicB_false {m : Mx} {k : Nat} {z : Nat → Int} (h : ¬ IsLogic m k z) : logicB m k z = false := by unfold logicB; exact decide_eq_false h
open Classical in
theorem logicB_is {m : Mx} {k : Nat} {z : Nat → Int} (h : logicB m k z = true) : IsLogic m k z := by unfold logicB at h; exact of_decide_eq_true h
open Classical in
theorem logicB_not {m : Mx} {k : Nat} {z : Nat → Int} (h : logicB m k z = false) : ¬ IsLogic m k z := by unfold logicB at h; exact of_decide_eq_false h
theorem allB_congr {n : Nat} {f g : Nat → Bool} (h : ∀ i, i < n → f i = g i) : allB n f = allB n g := by
  cases hg : allB n g with
  | true => exact allB_true fun i hi => by rw [h i hi]; exact allB_is hg i hi
  | false =>
    cases hf : allB n f with
    | false => rfl
    | true => rw [allB_true (f := g) fun i hi => by rw [← h i hi]; exact allB_is hf i hi] at hg; cases hg
theorem turnB_congr {m : Mx} {y y' : Nat → Nat} (h : ∀ a, a < m.n → y a = y' a) : turnB m y = turnB m y' :=
  allB_congr fun a ha => allB_congr fun b hb => by unfold turnPB; rw [h a ha, h b hb]
theorem keptB_congr {m : Mx} {y y' : Nat → Nat} (h : ∀ a, a < m.n → y a = y' a) : keptB m y = keptB m y' :=
  allB_congr fun a ha => by unfold keptPB; rw [h a ha]
theorem logic_is {m : Mx} {k : Nat} {z : Nat → Int} {y : Nat → Nat} (hl : IsLattice m) (hp : IsPair k m.n z) (hy : ∀ a, a < m.n → z a = (y a : Int)) : logicB m k z = (turnB m y && keptB m y) := by
  have e : ∀ a, a < m.n → (z a).toNat = y a := fun a ha => by rw [hy a ha]; simp
  have h1 := turnB_congr (m := m) (y := fun a => (z a).toNat) (y' := y) e
  have h2 := keptB_congr (m := m) (y := fun a => (z a).toNat) (y' := y) e
  cases hb : turnB m y && keptB m y with
  | true =>
    rw [Bool.and_eq_true] at hb
    exact logicB_true ⟨hl, hp, h1.trans hb.1, h2.trans hb.2⟩
  | false =>
    refine logicB_false fun h => ?_
    rw [← h1, ← h2, h.turn, h.kept] at hb
    cases hb
end Go.Proofs.Ytcplljeglaolgaa
