/- Rows and opposites of a glued logic, as the reference lays them, number by number. -/
import Derived.Test.YtgjacinolenheaaZVf
namespace Go.Proofs.Ytgjacinolenheaa
open Go.RowKit Go.Deep

/-- A row ahead of all that is laid over it. -/
def rowInit (N k c : Nat) : Int := if c = k ∨ c = N - 1 then 1 else 0
/-- A row of which j numbers are laid. -/
def rowTo (Z : Nat → Int) (N k j c : Nat) : Int := if c < j then Z c else rowInit N k c
/-- The opposite found so far. -/
def notTo (g : Nat → Nat) (N k j : Nat) : Nat := if g k < j then g k else N - 1 - k
theorem rowTo_keep {Z : Nat → Int} {N k j : Nat} (h : Z j = rowInit N k j) : rowTo Z N k (j + 1) = rowTo Z N k j := by
  funext c
  unfold rowTo
  by_cases h1 : c < j
  · rw [if_pos h1, if_pos (by omega)]
  · rw [if_neg h1]
    by_cases h2 : c < j + 1
    · obtain rfl : c = j := by omega
      rw [if_pos h2, h]
    · rw [if_neg h2]
theorem rowTo_set {Z : Nat → Int} {N k j : Nat} {x : Int} (h : Z j = x) : rowTo Z N k (j + 1) = fun c => if c = j then x else rowTo Z N k j c := by
  funext c
  unfold rowTo
  by_cases h0 : c = j
  · subst h0
    rw [if_pos (by omega), if_pos rfl, h]
  · rw [if_neg h0]
    by_cases h1 : c < j
    · rw [if_pos h1, if_pos (by omega)]
    · rw [if_neg h1, if_neg (by omega)]
theorem rowTo_zero (Z : Nat → Int) (N k : Nat) : rowTo Z N k 0 = rowInit N k := by
  funext c
  unfold rowTo
  rw [if_neg (by omega)]
theorem rowInit_two (N k : Nat) : rowInit N k = fun c => if c = N - 1 then 1 else (fun c' => if c' = k then (1 : Int) else 0) c := by
  funext c
  unfold rowInit
  by_cases h1 : c = N - 1
  · rw [if_pos (.inr h1), if_pos h1]
  · rw [if_neg h1]
    by_cases h2 : c = k
    · rw [if_pos (.inl h2)]; show _ = if c = k then (1 : Int) else 0; rw [if_pos h2]
    · rw [if_neg (by omega)]; show _ = if c = k then (1 : Int) else 0; rw [if_neg h2]
theorem notTo_zero (g : Nat → Nat) (N k : Nat) : notTo g N k 0 = N - 1 - k := by unfold notTo; rw [if_neg (by omega)]
theorem notTo_keep {g : Nat → Nat} {N k j : Nat} (h : g k ≠ j ∨ g k = N - 1 - k) : notTo g N k (j + 1) = notTo g N k j := by
  unfold notTo
  by_cases h1 : g k < j
  · rw [if_pos h1, if_pos (by omega)]
  · rw [if_neg h1]
    by_cases h2 : g k < j + 1
    · rw [if_pos h2]
      omega
    · rw [if_neg h2]
theorem notTo_hit {g : Nat → Nat} {N k j : Nat} (h : g k = j) : notTo g N k (j + 1) = j := by unfold notTo; rw [if_pos (by omega), h]
theorem notTo_end {g : Nat → Nat} {N k : Nat} (h : g k < N) : notTo g N k N = g k := by unfold notTo; rw [if_pos h]
section
variable {p r : Nat} {Z0 Z1 : Nat → Nat → Int} {f0 f1 : Nat → Nat}
/-- Both on the first side, both on the second one. -/
def inA (p k : Nat) : Bool := decide (1 ≤ k) && decide (k ≤ p)
def inB (p r k : Nat) : Bool := decide (p + 1 ≤ k) && decide (k ≤ p + r)
theorem inA_is {p k : Nat} (h : inA p k = true) : ∃ i, i < p ∧ k = i + 1 := by
  unfold inA at h
  simp only [Bool.and_eq_true, decide_eq_true_eq] at h
  exact ⟨k - 1, by omega, by omega⟩
theorem inB_is {p r k : Nat} (h : inB p r k = true) : ∃ i, i < r ∧ k = p + i + 1 := by
  unfold inB at h
  simp only [Bool.and_eq_true, decide_eq_true_eq] at h
  exact ⟨k - p - 1, by omega, by omega⟩
theorem glued_zero (j : Nat) : gluedZ p r Z0 Z1 f0 f1 0 j = 1 := gz_bot j
theorem glued_A {k j : Nat} (hk : inA p k = true) (hj : inA p j = true) : gluedZ p r Z0 Z1 f0 f1 k j = Z0 (f0 (k - 1)) (f0 (j - 1)) := by
  obtain ⟨i, hi, rfl⟩ := inA_is hk
  obtain ⟨i', hi', rfl⟩ := inA_is hj
  rw [gz_AA hi hi']
  rfl
theorem glued_B {k j : Nat} (hk : inB p r k = true) (hj : inB p r j = true) : gluedZ p r Z0 Z1 f0 f1 k j = Z1 (f1 (k - p - 1)) (f1 (j - p - 1)) := by
  obtain ⟨i, hi, rfl⟩ := inB_is hk
  obtain ⟨i', hi', rfl⟩ := inB_is hj
  rw [gz_BB hi hi', show p + i + 1 - p - 1 = i by omega, show p + i' + 1 - p - 1 = i' by omega]
/-- Where neither side lays a number. -/
theorem glued_keep {k j : Nat} (h0 : k ≠ 0) (hk : k < p + r + 2) (hj : j < p + r + 2) (hA : (inA p k && inA p j) = false) (hB : (inB p r k && inB p r j) = false) : gluedZ p r Z0 Z1 f0 f1 k j = rowInit (p + r + 2) k j := by
  unfold gluedZ rowInit
  have hA' : ¬ (1 ≤ k ∧ k ≤ p ∧ 1 ≤ j ∧ j ≤ p) := fun h => by
    unfold inA at hA
    rw [decide_eq_true h.1, decide_eq_true h.2.1, decide_eq_true h.2.2.1, decide_eq_true h.2.2.2] at hA
    cases hA
  have hB' : ¬ (p + 1 ≤ k ∧ k ≤ p + r ∧ p + 1 ≤ j ∧ j ≤ p + r) := fun h => by
    unfold inB at hB
    rw [decide_eq_true h.1, decide_eq_true h.2.1, decide_eq_true h.2.2.1, decide_eq_true h.2.2.2] at hB
    cases hB
  rw [if_neg hA', if_neg hB']
  by_cases h1 : j = p + r + 1
  · rw [if_pos (.inr h1), if_pos (.inr (by omega))]
  · rw [if_neg (by omega)]
    by_cases h2 : k = j
    · rw [if_pos h2, if_pos (.inl h2.symm)]
    · rw [if_neg h2, if_neg (by omega)]
end
section
variable {m0 m1 : Mx} {y0 y1 : Nat → Nat} {o0 o1 : Nat}
/-- The test that finds an opposite on the first side. -/
theorem Glue.testA (g : Glue m0 m1 y0 y1 o0 o1) {k j : Nat} (hk : inA (m0.n - 2) k = true) (hj : inA (m0.n - 2) j = true) : y0 (gF m0 y0 (k - 1)) = gF m0 y0 (j - 1) ↔ gY m0 m1 y0 y1 k = j := by
  obtain ⟨i, hi, rfl⟩ := inA_is hk
  obtain ⟨i', hi', rfl⟩ := inA_is hj
  obtain ⟨_, _, sA, _⟩ := g.opp
  obtain ⟨j', hj', e1, e2⟩ := sA.at_ i hi
  rw [show 0 + i + 1 = i + 1 by omega] at e1
  show y0 (gF m0 y0 i) = gF m0 y0 i' ↔ _
  rw [e1, ← e2]
  constructor
  · intro h
    have := g.i0.inj j' i' hj' hi' h
    omega
  · intro h
    rw [show j' = i' by omega]
theorem Glue.testB (g : Glue m0 m1 y0 y1 o0 o1) {k j : Nat} (hk : inB (m0.n - 2) (m1.n - 2) k = true) (hj : inB (m0.n - 2) (m1.n - 2) j = true) : y1 (gF m1 y1 (k - (m0.n - 2) - 1)) = gF m1 y1 (j - (m0.n - 2) - 1) ↔ gY m0 m1 y0 y1 k = j := by
  obtain ⟨i, hi, rfl⟩ := inB_is hk
  obtain ⟨i', hi', rfl⟩ := inB_is hj
  obtain ⟨_, _, _, sB, _⟩ := g.opp
  obtain ⟨j', hj', e1, e2⟩ := sB.at_ i hi
  rw [show m0.n - 2 + i + 1 - (m0.n - 2) - 1 = i by omega, show m0.n - 2 + i' + 1 - (m0.n - 2) - 1 = i' by omega, e1, ← e2]
  constructor
  · intro h
    have := g.i1.inj j' i' hj' hi' h
    omega
  · intro h
    rw [show j' = i' by omega]
/-- Where neither side tests, nothing is found. -/
theorem Glue.keep (g : Glue m0 m1 y0 y1 o0 o1) {k j : Nat} (hk : k < gN m0 m1) (hA : (inA (m0.n - 2) k && inA (m0.n - 2) j) = false) (hB : (inB (m0.n - 2) (m1.n - 2) k && inB (m0.n - 2) (m1.n - 2) j) = false) : gY m0 m1 y0 y1 k ≠ j ∨ gY m0 m1 y0 y1 k = gN m0 m1 - 1 - k := by
  obtain ⟨b0, bT, sA, sB, _⟩ := g.opp
  unfold gN at hk ⊢
  rcases stands (m0.n - 2) (m1.n - 2) k hk with rfl | rfl | ⟨i, hi, rfl⟩ | ⟨i, hi, rfl⟩
  · right; rw [b0]; omega
  · right; rw [bT]; omega
  · left
    intro e
    obtain ⟨j', hj', e1, _⟩ := sA.at_ i hi
    rw [show 0 + i + 1 = i + 1 by omega] at e1
    have a1 : inA (m0.n - 2) (i + 1) = true := by unfold inA; rw [decide_eq_true (by omega), decide_eq_true (by omega)]; rfl
    have a2 : inA (m0.n - 2) j = true := by unfold inA; rw [decide_eq_true (by omega), decide_eq_true (by omega)]; rfl
    rw [a1, a2] at hA
    cases hA
  · left
    intro e
    obtain ⟨j', hj', e1, _⟩ := sB.at_ i hi
    have a1 : inB (m0.n - 2) (m1.n - 2) (m0.n - 2 + i + 1) = true := by unfold inB; rw [decide_eq_true (by omega), decide_eq_true (by omega)]; rfl
    have a2 : inB (m0.n - 2) (m1.n - 2) j = true := by unfold inB; rw [decide_eq_true (by omega), decide_eq_true (by omega)]; rfl
    rw [a1, a2] at hB
    cases hB
end
end Go.Proofs.Ytgjacinolenheaa
