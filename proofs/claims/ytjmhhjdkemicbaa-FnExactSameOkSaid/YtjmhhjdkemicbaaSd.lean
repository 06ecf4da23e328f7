/- The walk of the program's shared: what agrees with all of a set. -/
import Derived.Test.YtjmhhjdkemicbaaSc
namespace Go.Proofs.Ytjmhhjdkemicbaa
open Go.RowKit Go.Deep Go.Shelf

theorem i64_andNot_nat (a b : Nat) (ha : a < 9223372036854775808) (hb : b < 9223372036854775808) : bits .andNot .i64 (a : Int) (b : Int) = ((a ^^^ (a &&& b) : Nat) : Int) := by
  have h1 : a &&& b < 2 ^ 63 := Nat.and_lt_two_pow _ (by omega)
  have hx : a ^^^ (a &&& b) < 2 ^ 63 := Nat.xor_lt_two_pow (by omega) h1
  have e : (BitVec.ofInt 64 (a : Int) &&& ~~~BitVec.ofInt 64 (b : Int)).toNat = a ^^^ (a &&& b) := by
    refine Nat.eq_of_testBit_eq fun i => ?_
    rw [BitVec.testBit_toNat, BitVec.getLsbD_and, BitVec.getLsbD_not, ← BitVec.testBit_toNat, ← BitVec.testBit_toNat, ofInt_i64 a ha, ofInt_i64 b hb, Nat.testBit_xor, Nat.testBit_and]
    by_cases hi : i < 64
    · simp only [hi, decide_true, Bool.true_and]
      cases a.testBit i <;> cases b.testBit i <;> rfl
    · have h2 : 2 ^ 64 ≤ 2 ^ i := Nat.pow_le_pow_right (by omega) (by omega)
      have h3 : a.testBit i = false := Nat.testBit_lt_two_pow (by omega)
      rw [h3]; rfl
  show IntKind.i64.wrap ((BitVec.ofInt 64 (a : Int) &&& ~~~BitVec.ofInt 64 (b : Int)).toNat : Int) = _
  rw [e, IntKind.wrap_i64]
  omega
theorem more_is (m : Mx) (y : Nat → Nat) (s : Nat) : shN m y s ^^^ (shN m y s &&& s) = moreN m y s := by
  refine Nat.eq_of_testBit_eq fun i => ?_
  have e : (moreN m y s).testBit i = (decide (i < m.n) && (nbB m y s i && !s.testBit i)) := (bitS_is _ _).2 i
  rw [Nat.testBit_xor, Nat.testBit_and, shN_bit, e]
  cases decide (i < m.n) <;> cases nbB m y s i <;> cases s.testBit i <;> rfl
theorem rest_zero {a b : Nat} : a ^^^ (a &&& b) = 0 ↔ Sub a b := by
  have key : ∀ i, (a ^^^ (a &&& b)).testBit i = (a.testBit i && !b.testBit i) := fun i => by
    rw [Nat.testBit_xor, Nat.testBit_and]
    cases a.testBit i <;> cases b.testBit i <;> rfl
  constructor
  · intro h i hi
    have := key i
    rw [h, Nat.zero_testBit, hi, Bool.true_and] at this
    cases e : b.testBit i with
    | true => rfl
    | false => rw [e] at this; cases this
  · intro h
    refine zero_bits fun i => ?_
    rw [key]
    cases e : a.testBit i with
    | false => rfl
    | true => rw [h i e]; rfl
/-- What agrees with the first of the listed. -/
structure ShTo (m : Mx) (y q : Nat → Nat) (j v : Nat) : Prop where
  lt : v < 2 ^ m.n
  bit : ∀ x, x < m.n → (v.testBit x = true ↔ ∀ i, i < j → adjB m y x (q i) = true)
theorem ShTo.zero (m : Mx) (y q : Nat → Nat) : ShTo m y q 0 (2 ^ m.n - 1) :=
  ⟨by have := Nat.two_pow_pos m.n; omega, fun x hx => by rw [full_bits]; simp [hx]⟩
theorem ShTo.next {m : Mx} {y q : Nat → Nat} {j v r : Nat} (h : ShTo m y q j v) (hr : ∀ b, b < m.n → r.testBit b = adjB m y (q j) b) : ShTo m y q (j + 1) (v &&& r) :=
  ⟨Nat.lt_of_le_of_lt Nat.and_le_left h.lt, fun x hx => by
    rw [Nat.testBit_and, Bool.and_eq_true, h.bit x hx, hr x hx, adjB_comm]
    constructor
    · rintro ⟨h1, h2⟩ i hi
      by_cases e : i = j
      · subst e; exact h2
      · exact h1 i (by omega)
    · intro h1
      exact ⟨fun i hi => h1 i (by omega), h1 j (by omega)⟩⟩
theorem ShTo.all {m : Mx} {y : Nat → Nat} {s v : Nat} (hn : m.n ≤ 12) (hs : s < 2 ^ m.n) (h : ShTo m y (memF s 12) (memK s 12) v) : v = shN m y s := by
  have hE := mem_emb s 12
  refine Nat.eq_of_testBit_eq fun x => ?_
  rw [shN_bit]
  by_cases hx : x < m.n
  · rw [Bool.eq_iff_iff, h.bit x hx, Bool.and_eq_true, decide_eq_true_iff, nb_iff]
    constructor
    · intro g
      refine ⟨hx, fun a ha ga => ?_⟩
      have := g _ (hE.blt a (by omega) ga)
      rw [hE.qb a (by omega) ga] at this
      exact this
    · rintro ⟨_, g⟩ i hi
      exact g _ (bit_under hs (hE.has i hi)) (hE.has i hi)
  · cases e : v.testBit x with
    | true => exact absurd (bit_under h.lt e) hx
    | false => simp [hx]

end Go.Proofs.Ytjmhhjdkemicbaa
