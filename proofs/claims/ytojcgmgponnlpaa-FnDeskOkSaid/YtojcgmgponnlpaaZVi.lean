import Derived.Test.YtojcgmgponnlpaaZDkm
import Derived.Test.YtojcgmgponnlpaaZVh
namespace Go.Proofs.Ytojcgmgponnlpaa
open Go.RowKit Go.Deep

/-- A row ahead of all that is laid over it. -/
def rowInit (N k c : Nat) : Int := if c = k ∨ c = N - 1 then 1 else 0
/-- A row of which j numbers are laid. -/
def rowTo (Z : Nat → Int) (N k j c : Nat) : Int := if c < j then Z c else rowInit N k c
/-- The opposite found so far. -/
def notTo (g : Nat → Nat) (N k j : Nat) : Nat := if g k < j then g k else N - 1 - k
theorem rowTo_keep {Z : Nat → Int} {N k j : Nat} (h : Z j = rowInit N k j) : rowTo Z N k (j + 1) = rowTo Z N k j := by
  funext c
  unfold rowTo
  by_cases h1 : c < j
  · rw [if_pos h1, if_pos (by omega)]
  · rw [if_neg h1]
    by_cases h2 : c < j + 1
    · obtain rfl : c = j := by omega
      rw [if_pos h2, h]
    · rw [if_neg h2]
theorem rowTo_set {Z : Nat → Int} {N k j : Nat} {x : Int} (h : Z j = x) : rowTo Z N k (j + 1) = fun c => if c = j then x else rowTo Z N k j c := by
  funext c
  unfold rowTo
  by_cases h0 : c = j
  · subst h0
    rw [if_pos (by omega), if_pos rfl, h]
  · rw [if_neg h0]
    by_cases h1 : c < j
    · rw [if_pos h1, if_pos (by omega)]
    · rw [if_neg h1, if_neg (by omega)]
theorem rowTo_zero (Z : Nat → Int) (N k : Nat) : rowTo Z N k 0 = rowInit N k := by
  funext c
  unfold rowTo
  rw [if_neg (by omega)]
theorem rowInit_two (N k : Nat) : rowInit N k = fun c => if c = N - 1 then 1 else (fun c' => if c' = k then (1 : Int) else 0) c := by
  funext c
  unfold rowInit
  by_cases h1 : c = N - 1
  · rw [if_pos (.inr h1), if_pos h1]
  · rw [if_neg h1]
    by_cases h2 : c = k
    · rw [if_pos (.inl h2)]; show _ = if c = k then (1 : Int) else 0; rw [if_pos h2]
    · rw [if_neg (by omega)]; show _ = if c = k then (1 : Int) else 0; rw [if_neg h2]
theorem notTo_zero (g : Nat → Nat) (N k : Nat) : notTo g N k 0 = N - 1 - k := by unfold notTo; rw [if_neg (by omega)]
theorem notTo_keep {g : Nat → Nat} {N k j : Nat} (h : g k ≠ j ∨ g k = N - 1 - k) : notTo g N k (j + 1) = notTo g N k j := by
  unfold notTo
  by_cases h1 : g k < j
  · rw [if_pos h1, if_pos (by omega)]
  · rw [if_neg h1]
    by_cases h2 : g k < j + 1
    · rw [if_pos h2]
      omega
    · rw [if_neg h2]
theorem notTo_hit {g : Nat → Nat} {N k j : Nat} (h : g k = j) : notTo g N k (j + 1) = j := by unfold notTo; rw [if_pos (by omega), h]
theorem notTo_end {g : Nat → Nat} {N k : Nat} (h : g k < N) : notTo g N k N = g k := by unfold notTo; rw [if_pos h]
section
variable {p r : Nat} {Z0 Z1 : Nat → Nat → Int} {f0 f1 : Nat → Nat}
/-- Both on the first side, both on the second one. -/
def inA (p k : Nat) : Bool := decide (1 ≤ k) && decide (k ≤ p)
def inPR (p r k : Nat) : Bool := decide (p + 1 ≤ k) && decide (k ≤ p + r)
theorem inA_is {p k : Nat} (h : inA p k = true) : ∃ i, i < p ∧ k = i + 1 := by
  unfold inA at h
  simp only [Bool.and_eq_true, decide_eq_true_eq] at h
  exact ⟨k - 1, by omega, by omega⟩
theorem inB_is {p r k : Nat} (h : inPR p r k = true) : ∃ i, i < r ∧ k = p + i + 1 := by
  unfold inPR at h
  simp only [Bool.and_eq_true, decide_eq_true_eq] at h
  exact ⟨k - p - 1, by omega, by omega⟩
theorem glued_zero (j : Nat) : gluedZ p r Z0 Z1 f0 f1 0 j = 1 := gz_bot j
theorem glued_A {k j : Nat} (hk : inA p k = true) (hj : inA p j = true) : gluedZ p r Z0 Z1 f0 f1 k j = Z0 (f0 (k - 1)) (f0 (j - 1)) := by
  obtain ⟨i, hi, rfl⟩ := inA_is hk
  obtain ⟨i', hi', rfl⟩ := inA_is hj
  rw [gz_AA hi hi']
  rfl
theorem glued_B {k j : Nat} (hk : inPR p r k = true) (hj : inPR p r j = true) : gluedZ p r Z0 Z1 f0 f1 k j = Z1 (f1 (k - p - 1)) (f1 (j - p - 1)) := by
  obtain ⟨i, hi, rfl⟩ := inB_is hk
  obtain ⟨i', hi', rfl⟩ := inB_is hj
  rw [gz_BB hi hi', show p + i + 1 - p - 1 = i by omega, show p + i' + 1 - p - 1 = i' by omega]
/-- Where neither side lays a number. -/
theorem glued_keep {k j : Nat} (h0 : k ≠ 0) (hk : k < p + r + 2) (hj : j < p + r + 2) (hA : (inA p k && inA p j) = false) (hB : (inPR p r k && inPR p r j) = false) : gluedZ p r Z0 Z1 f0 f1 k j = rowInit (p + r + 2) k j := by
  unfold gluedZ rowInit
  have hA' : ¬ (1 ≤ k ∧ k ≤ p ∧ 1 ≤ j ∧ j ≤ p) := fun h => by
    unfold inA at hA
    rw [decide_eq_true h.1, decide_eq_true h.2.1, decide_eq_true h.2.2.1, decide_eq_true h.2.2.2] at hA
    cases hA
  have hB' : ¬ (p + 1 ≤ k ∧ k ≤ p + r ∧ p + 1 ≤ j ∧ j ≤ p + r) := fun h => by
    unfold inPR at hB
    rw [decide_eq_true h.1, decide_eq_true h.2.1, decide_eq_true h.2.2.1, decide_eq_true h.2.2.2] at hB
    cases hB
  rw [if_neg hA', if_neg hB']
  by_cases h1 : j = p + r + 1
  · rw [if_pos (.inr h1), if_pos (.inr (by omega))]
  · rw [if_neg (by omega)]
    by_cases h2 : k = j
    · rw [if_pos h2, if_pos (.inl h2.symm)]
    · rw [if_neg h2, if_neg (by omega)]
end
section
variable {m0 m1 : Mx} {y0 y1 : Nat → Nat} {o0 o1 : Nat}
/-- The test that finds an opposite on the first side. -/
theorem Glue.testA (g : Glue m0 m1 y0 y1 o0 o1) {k j : Nat} (hk : inA (m0.n - 2) k = true) (hj : inA (m0.n - 2) j = true) : y0 (gF m0 y0 (k - 1)) = gF m0 y0 (j - 1) ↔ gY m0 m1 y0 y1 k = j := by
  obtain ⟨i, hi, rfl⟩ := inA_is hk
  obtain ⟨i', hi', rfl⟩ := inA_is hj
  obtain ⟨_, _, sA, _⟩ := g.opp
  obtain ⟨j', hj', e1, e2⟩ := sA.at_ i hi
  rw [show 0 + i + 1 = i + 1 by omega] at e1
  show y0 (gF m0 y0 i) = gF m0 y0 i' ↔ _
  rw [e1, ← e2]
  constructor
  · intro h
    have := g.i0.inj j' i' hj' hi' h
    omega
  · intro h
    rw [show j' = i' by omega]
theorem Glue.testB (g : Glue m0 m1 y0 y1 o0 o1) {k j : Nat} (hk : inPR (m0.n - 2) (m1.n - 2) k = true) (hj : inPR (m0.n - 2) (m1.n - 2) j = true) : y1 (gF m1 y1 (k - (m0.n - 2) - 1)) = gF m1 y1 (j - (m0.n - 2) - 1) ↔ gY m0 m1 y0 y1 k = j := by
  obtain ⟨i, hi, rfl⟩ := inB_is hk
  obtain ⟨i', hi', rfl⟩ := inB_is hj
  obtain ⟨_, _, _, sB, _⟩ := g.opp
  obtain ⟨j', hj', e1, e2⟩ := sB.at_ i hi
  rw [show m0.n - 2 + i + 1 - (m0.n - 2) - 1 = i by omega, show m0.n - 2 + i' + 1 - (m0.n - 2) - 1 = i' by omega, e1, ← e2]
  constructor
  · intro h
    have := g.i1.inj j' i' hj' hi' h
    omega
  · intro h
    rw [show j' = i' by omega]
/-- Where neither side tests, nothing is found. -/
theorem Glue.keep (g : Glue m0 m1 y0 y1 o0 o1) {k j : Nat} (hk : k < gN m0 m1) (hA : (inA (m0.n - 2) k && inA (m0.n - 2) j) = false) (hB : (inPR (m0.n - 2) (m1.n - 2) k && inPR (m0.n - 2) (m1.n - 2) j) = false) : gY m0 m1 y0 y1 k ≠ j ∨ gY m0 m1 y0 y1 k = gN m0 m1 - 1 - k := by
  obtain ⟨b0, bT, sA, sB, _⟩ := g.opp
  unfold gN at hk ⊢
  rcases stands (m0.n - 2) (m1.n - 2) k hk with rfl | rfl | ⟨i, hi, rfl⟩ | ⟨i, hi, rfl⟩
  · right; rw [b0]; omega
  · right; rw [bT]; omega
  · left
    intro e
    obtain ⟨j', hj', e1, _⟩ := sA.at_ i hi
    rw [show 0 + i + 1 = i + 1 by omega] at e1
    have a1 : inA (m0.n - 2) (i + 1) = true := by unfold inA; rw [decide_eq_true (by omega), decide_eq_true (by omega)]; rfl
    have a2 : inA (m0.n - 2) j = true := by unfold inA; rw [decide_eq_true (by omega), decide_eq_true (by omega)]; rfl
    rw [a1, a2] at hA
    cases hA
  · left
    intro e
    obtain ⟨j', hj', e1, _⟩ := sB.at_ i hi
    have a1 : inPR (m0.n - 2) (m1.n - 2) (m0.n - 2 + i + 1) = true := by unfold inPR; rw [decide_eq_true (by omega), decide_eq_true (by omega)]; rfl
    have a2 : inPR (m0.n - 2) (m1.n - 2) j = true := by unfold inPR; rw [decide_eq_true (by omega), decide_eq_true (by omega)]; rfl
    rw [a1, a2] at hB
    cases hB
end
end Go.Proofs.Ytojcgmgponnlpaa
namespace Go.Proofs.Ytojcgmgponnlpaa
open Go.RowKit Go.Deep

def gzB (k : Nat) : Bool := decide (k = 0)
def gqB (k j : Nat) : Bool := decide (k = j)
theorem SqAt.both {w : World} {B : Nat} {ua : Option Addr} {l : Lay} {m : Mx} (h : SqAt w B ua l m) {r c : Nat} (hr : r < m.n) (hc : c < m.n) :
    ua = some ⟨l.b, l.o, none⟩ ∧ w.cell? ⟨l.b, l.o + r, none⟩ = some (.slice (some ⟨l.G r, l.O r, none⟩) m.n (l.C r)) ∧ w.cell? ⟨l.G r, l.O r + c, none⟩ = some (.int .i64 (m.Z r c)) := h.mat.sq h.sq hr hc
theorem l1In_yes {n lo hi : Int} (h : lo ≤ n ∧ n ≤ hi) (w : World) : Calls Try.prog 56 #[.int .i64 n, .int .i64 lo, .int .i64 hi] w fun e w' => e = .returned (.bool true) ∧ w = w' :=
  (l1In_any n lo hi w).mono fun e w' ⟨h1, h2⟩ => ⟨by rw [h1, decide_eq_true h.1, decide_eq_true h.2]; rfl, h2⟩
theorem l1In_not {n lo hi : Int} (h : ¬ (lo ≤ n ∧ n ≤ hi)) (w : World) : Calls Try.prog 56 #[.int .i64 n, .int .i64 lo, .int .i64 hi] w fun e w' => e = .returned (.bool false) ∧ w = w' :=
  (l1In_any n lo hi w).mono fun e w' ⟨h1, h2⟩ => ⟨by
    have h3 : (decide (lo ≤ n) && decide (n ≤ hi)) = false := by
      rw [Bool.and_eq_false_iff, decide_eq_false_iff_not, decide_eq_false_iff_not]; omega
    rw [h1, h3], h2⟩
/-- What l3Inner tells of a logic, wherever it lies. -/
def InnerIs (d : LD) (p : Nat) (f : Nat → Nat) : Prop := ∀ (W : World) (B' : Nat), d.At W B' → Calls Try.prog 125 #[.agg #[d.u, d.t]] W (InnerRes W p f)
/-- What is known of the rows and opposites to be made. -/
structure Laid (p r N n0 n1 : Nat) (Z0 Z1 : Nat → Nat → Int) (y0 y1 f0 f1 : Nat → Nat) (Zg : Nat → Nat → Int) (gy : Nat → Nat) : Prop where
  zero : ∀ j, Zg 0 j = 1
  A : ∀ k j, inA p k = true → inA p j = true → Zg k j = Z0 (f0 (k - 1)) (f0 (j - 1))
  B : ∀ k j, inPR p r k = true → inPR p r j = true → Zg k j = Z1 (f1 (k - p - 1)) (f1 (j - p - 1))
  keep : ∀ k j, k ≠ 0 → k < N → j < N → (inA p k && inA p j) = false → (inPR p r k && inPR p r j) = false → Zg k j = rowInit N k j
  bit : ∀ k c, k < N → c < N → 0 ≤ Zg k c ∧ Zg k c ≤ 2
  tA : ∀ k j, inA p k = true → inA p j = true → (y0 (f0 (k - 1)) = f0 (j - 1) ↔ gy k = j)
  tB : ∀ k j, inPR p r k = true → inPR p r j = true → (y1 (f1 (k - p - 1)) = f1 (j - p - 1) ↔ gy k = j)
  tK : ∀ k j, k < N → (inA p k && inA p j) = false → (inPR p r k && inPR p r j) = false → gy k ≠ j ∨ gy k = N - 1 - k
  lt : ∀ k, k < N → gy k < N
  l0 : ∀ i, i < p → f0 i < n0
  l1 : ∀ i, i < r → f1 i < n1
theorem RowAt.wider {w : World} {B B' : Nat} {a : Option Addr} {g o n : Nat} {z : Nat → Int} (h : RowAt w B a g o n z) (hB : B ≤ B') : RowAt w B' a g o n z :=
  ⟨fun c hc => by obtain ⟨h1, h2, h3⟩ := h.row c hc; exact ⟨h1, by omega, h3⟩⟩
theorem inA_mk {p k : Nat} (h1 : 1 ≤ k) (h2 : k ≤ p) : inA p k = true := by unfold inA; rw [decide_eq_true h1, decide_eq_true h2]; rfl
theorem inA_no {p k : Nat} (h : ¬ (1 ≤ k ∧ k ≤ p)) : inA p k = false := by
  unfold inA
  rw [Bool.and_eq_false_iff, decide_eq_false_iff_not, decide_eq_false_iff_not]; omega
theorem inB_mk {p r k : Nat} (h1 : p + 1 ≤ k) (h2 : k ≤ p + r) : inPR p r k = true := by unfold inPR; rw [decide_eq_true h1, decide_eq_true h2]; rfl
theorem inB_no {p r k : Nat} (h : ¬ (p + 1 ≤ k ∧ k ≤ p + r)) : inPR p r k = false := by
  unfold inPR
  rw [Bool.and_eq_false_iff, decide_eq_false_iff_not, decide_eq_false_iff_not]; omega
theorem and_no_left {a b : Bool} (h : a = false) : (a && b) = false := by rw [h]; rfl
theorem and_no_right {a b : Bool} (h : b = false) : (a && b) = false := by rw [h]; cases a <;> rfl

set_option maxRecDepth 100000 in
set_option maxHeartbeats 8000000 in
theorem spec_GluedOf_yes {w : World} {d0 d1 : LD} {B p0 p1 p r N : Nat} {y0 y1 f0 f1 gy : Nat → Nat} {Zg : Nat → Nat → Int} (h0 : d0.Is w B y0 p0) (h1 : d1.Is w B y1 p1) (b0 : 2 ≤ d0.m.n) (b1 : 2 ≤ d1.m.n) (hN : N = p + r + 2) (hN12 : N ≤ 12)
    (c0 : InnerIs d0 p f0) (c1 : InnerIs d1 r f1) (hL : Laid p r N d0.m.n d1.m.n d0.m.Z d1.m.Z y0 y1 f0 f1 Zg gy) :
    Calls Try.prog 112 #[.agg #[d0.u, d0.t], .agg #[d1.u, d1.t]] w (MadeOk w N Zg gy true) := by
  obtain ⟨i0, hi, hz0, hz1, hz2⟩ := info_parts infoInt
  have HI := Lib.hid hi
  have HZ0 := Lib.hid hz0
  have HZ1 := Lib.hid hz1
  have HZ2 := Lib.hid hz2
  obtain ⟨i1, hj, hy0, hy1, hy2⟩ := info_parts infoInts
  have HJ := Lib.hid hj
  have HY0 := Lib.hid hy0
  have HY1 := Lib.hid hy1
  have HY2 := Lib.hid hy2
  clear hi hz0 hz1 hz2 hj hy0 hy1 hy2
  obtain ⟨ua0, l0, m0, na0, g0, o0, k0, nc0, z0⟩ := d0
  obtain ⟨ua1, l1, m1, na1, g1, o1, k1, nc1, z1⟩ := d1
  have hk0 : k0 = m0.n := h0.len
  have hk1 : k1 = m1.n := h1.len
  subst hk0
  subst hk1
  replace b0 : 2 ≤ m0.n := b0
  replace b1 : 2 ≤ m1.n := b1
  have n0 : 1 ≤ m0.n ∧ m0.n ≤ 12 := h0.hi
  have n1 : 1 ≤ m1.n ∧ m1.n ≤ 12 := h1.hi
  have hu0 : ua0 = some ⟨l0.b, l0.o, none⟩ := (h0.sq.both (r := 0) (c := 0) n0.1 n0.1).1
  have hu1 : ua1 = some ⟨l1.b, l1.o, none⟩ := (h1.sq.both (r := 0) (c := 0) n1.1 n1.1).1
  have hv0 : na0 = some ⟨g0, o0, none⟩ := (h0.notAt (a := 0) n0.1).1
  have hv1 : na1 = some ⟨g1, o1, none⟩ := (h1.notAt (a := 0) n1.1).1
  subst hu0 hu1 hv0 hv1
  have L0 : logicB m0 m0.n z0 = true := h0.ok
  have L1 : logicB m1 m1.n z1 = true := h1.ok
  have HL : Hid (Laid p r N m0.n m1.n m0.Z m1.Z y0 y1 f0 f1 Zg gy) := hL
  have HC0 : Hid (∀ (W : World), LogAt W B (some ⟨l0.b, l0.o, none⟩) l0 m0 (some ⟨g0, o0, none⟩) g0 o0 m0.n z0 → Calls Try.prog 125 #[.agg #[.slice (some ⟨l0.b, l0.o, none⟩) m0.n l0.cap, .slice (some ⟨g0, o0, none⟩) m0.n nc0]] W (InnerRes W p f0)) := fun W h => c0 W B h
  have HC1 : Hid (∀ (W : World), LogAt W B (some ⟨l1.b, l1.o, none⟩) l1 m1 (some ⟨g1, o1, none⟩) g1 o1 m1.n z1 → Calls Try.prog 125 #[.agg #[.slice (some ⟨l1.b, l1.o, none⟩) m1.n l1.cap, .slice (some ⟨g1, o1, none⟩) m1.n nc1]] W (InnerRes W r f1)) := fun W h => c1 W B h
  show Calls Try.prog 112 #[.agg #[.slice (some ⟨l0.b, l0.o, none⟩) m0.n l0.cap, .slice (some ⟨g0, o0, none⟩) m0.n nc0], .agg #[.slice (some ⟨l1.b, l1.o, none⟩) m1.n l1.cap, .slice (some ⟨g1, o1, none⟩) m1.n nc1]] w (MadeOk w N Zg gy true)
  have hNa : N ≤ p + r + 2 := by omega
  have hNb : p + r + 2 ≤ N := by omega
  have eN : (p : Int) + (r : Int) + 2 = (N : Int) := by omega
  have eN1 : IntKind.i64.wrap ((p : Int) + (r : Int)) = (p : Int) + (r : Int) := IntWalk.i64_in _ (by omega)
  have eN2 : IntKind.i64.wrap (N : Int) = (N : Int) := IntWalk.i64_in _ (by omega)
  have e12 : ¬ (12 : Int) < (N : Int) := by omega
  have e2a : ¬ (m0.n : Int) < 2 := by omega
  have e2b : ¬ (m1.n : Int) < 2 := by omega
  have xa := TwoAt.new w (.slice (some ⟨l0.b, l0.o, none⟩) m0.n l0.cap) (.slice (some ⟨g0, o0, none⟩) m0.n nc0) 26
  have ba := (Below.refl w.heap.size w).alloc (Nat.le_refl _) (.cells #[.slice (some ⟨l0.b, l0.o, none⟩) m0.n l0.cap, .slice (some ⟨g0, o0, none⟩) m0.n nc0] 26)
  have xb := TwoAt.new (w.alloc (.cells #[.slice (some ⟨l0.b, l0.o, none⟩) m0.n l0.cap, .slice (some ⟨g0, o0, none⟩) m0.n nc0] 26)) (.slice (some ⟨l1.b, l1.o, none⟩) m1.n l1.cap) (.slice (some ⟨g1, o1, none⟩) m1.n nc1) 26
  simp only [World.size_alloc] at xb
  have bb := (Below.refl (w.heap.size + 1) (w.alloc (.cells #[.slice (some ⟨l0.b, l0.o, none⟩) m0.n l0.cap, .slice (some ⟨g0, o0, none⟩) m0.n nc0] 26))).alloc (by simp) (.cells #[.slice (some ⟨l1.b, l1.o, none⟩) m1.n l1.cap, .slice (some ⟨g1, o1, none⟩) m1.n nc1] 26)
  have bc := (Below.refl (w.heap.size + 1 + 1) ((w.alloc (.cells #[.slice (some ⟨l0.b, l0.o, none⟩) m0.n l0.cap, .slice (some ⟨g0, o0, none⟩) m0.n nc0] 26)).alloc (.cells #[.slice (some ⟨l1.b, l1.o, none⟩) m1.n l1.cap, .slice (some ⟨g1, o1, none⟩) m1.n nc1] 26))).alloc (by simp) (.cells #[.slice none 0 0, .slice none 0 0] 26)
  have xr := TwoAt.new ((w.alloc (.cells #[.slice (some ⟨l0.b, l0.o, none⟩) m0.n l0.cap, .slice (some ⟨g0, o0, none⟩) m0.n nc0] 26)).alloc (.cells #[.slice (some ⟨l1.b, l1.o, none⟩) m1.n l1.cap, .slice (some ⟨g1, o1, none⟩) m1.n nc1] 26)) (.slice none 0 0) (.slice none 0 0) 26
  simp only [World.size_alloc] at xr
  replace xa := (xa.below bb (by omega)).below bc (by omega)
  replace xb := xb.below bc (by omega)
  have B0 := (ba.trans (bb.mono (by omega))).trans (bc.mono (by omega))
  have s0 : w.heap.size + 1 + 1 < (((w.alloc (.cells #[.slice (some ⟨l0.b, l0.o, none⟩) m0.n l0.cap, .slice (some ⟨g0, o0, none⟩) m0.n nc0] 26)).alloc (.cells #[.slice (some ⟨l1.b, l1.o, none⟩) m1.n l1.cap, .slice (some ⟨g1, o1, none⟩) m1.n nc1] 26)).alloc (.cells #[.slice none 0 0, .slice none 0 0] 26)).heap.size := by simp
  have HL0 := Lib.hid L0
  have HL1 := Lib.hid L1
  have H0 := Lib.hid h0
  have H1 := Lib.hid h1
  clear ba bb bc L0 L1 h0 h1 c0 c1 hL hN
  go_enter Try.func112, Try.ntmps112
  have q0 := xa.c0
  have q1 := xa.c1
  have q2 := xb.c0
  have q3 := xb.c1
  go_wp2_with fail
  generalize ((w.alloc (.cells #[.slice (some ⟨l0.b, l0.o, none⟩) m0.n l0.cap, .slice (some ⟨g0, o0, none⟩) m0.n nc0] 26)).alloc (.cells #[.slice (some ⟨l1.b, l1.o, none⟩) m1.n l1.cap, .slice (some ⟨g1, o1, none⟩) m1.n nc1] 26)).alloc (.cells #[.slice none 0 0, .slice none 0 0] 26) = w2 at xa xb xr B0 s0 q0 q1 q2 q3 ⊢
  go_at_call 125
  refine (HC0.out w2 (H0.out.step B0).at_).mono ?_
  rintro e w3 ⟨aA, gA, cA, rfl, hRA, b3⟩
  have s3 := b3.size
  have B3 := B0.trans (b3.mono B0.size)
  replace xa := xa.below b3 (by omega)
  replace xb := xb.below b3 (by omega)
  replace xr := xr.below b3 (by omega)
  clear q0 q1 q2 q3 B0
  have q2 := xb.c0
  have q3 := xb.c1
  go_wp2_with fail
  go_at_call 125
  refine (HC1.out w3 (H1.out.step B3).at_).mono ?_
  rintro e w4 ⟨aB, gB, cB, rfl, hRB, b4⟩
  have s4 := b4.size
  have B4 := B3.trans (b4.mono B3.size)
  replace xa := xa.below b4 (by omega)
  replace xb := xb.below b4 (by omega)
  replace xr := xr.below b4 (by omega)
  replace hRA := (hRA.below b4).wider s4
  clear q2 q3 B3 b3 b4
  have q0 := xa.c0
  have q1 := xa.c1
  have q2 := xb.c0
  have q3 := xb.c1
  go_wp2_with fail
  go_at_call 28
  refine (spec_LogicOk (H0.out.step B4).at_).mono ?_
  rintro e w5 ⟨rfl, b5⟩
  rw [show logicB _ _ _ = true from HL0.out]
  have s5 := b5.size
  have B5 := B4.trans (b5.mono B4.size)
  replace xa := xa.below b5 (by omega)
  replace xb := xb.below b5 (by omega)
  replace xr := xr.below b5 (by omega)
  replace hRA := (hRA.below b5).wider s5
  replace hRB := (hRB.below b5).wider s5
  clear q0 q1 q2 q3 B4 b5
  have q2 := xb.c0
  have q3 := xb.c1
  go_wp2_with fail
  go_at_call 28
  refine (spec_LogicOk (H1.out.step B5).at_).mono ?_
  rintro e w6 ⟨rfl, b6⟩
  rw [show logicB _ _ _ = true from HL1.out]
  have s6 := b6.size
  have B6 := B5.trans (b6.mono B5.size)
  have bl := (Below.refl w6.heap.size w6).alloc (Nat.le_refl _) (.cells #[.slice none 0 0, .slice none 0 0] 26)
  replace xa := xa.below b6 (by omega)
  replace xb := xb.below b6 (by omega)
  replace xr := xr.below b6 (by omega)
  have q1 := xa.c1
  replace hRA := (hRA.below b6).wider s6
  replace hRB := (hRB.below b6).wider s6
  clear q2 q3
  have q3 := xb.c1
  have XA := Lib.hid (xa.below bl (by omega))
  have XB := Lib.hid (xb.below bl (by omega))
  have XR := Lib.hid (xr.below bl (by omega))
  have RA := Lib.hid (hRA.below bl)
  have RB := Lib.hid (hRB.below bl)
  have B7 := Lib.hid (B6.trans (bl.mono B6.size))
  have hM0 := MakeAt.begin (N := N) (base := w6.heap.size + 1) Zg (fun c => (gy c : Int)) (by omega) (TwoAt.new w6 (.slice none 0 0) (.slice none 0 0) 26)
  have s7 : w6.heap.size < (w6.alloc (.cells #[.slice none 0 0, .slice none 0 0] 26)).heap.size := by simp
  obtain ⟨P0, hP0⟩ : ∃ P0, P0 = w6.heap.size := ⟨_, rfl⟩
  have hP : w.heap.size + 1 + 1 < P0 := by omega
  rw [← hP0] at hM0 RA RB s7
  clear hRA hRB xa xb xr B5 B6 b6 bl s0 s3 s4 s5 s6
  go_wp2_with fail
  rw [← hP0]
  generalize w6.alloc (.cells #[.slice none 0 0, .slice none 0 0] 26) = w7 at XA XB XR RA RB B7 hM0 s7 ⊢
  clear hP0 q1 q3 eN eN1 eN2 e12 e2a e2b
  have J0 := Lib.hid (H0.out.step B7.out)
  have J1 := Lib.hid (H1.out.step B7.out)
  have hB0 : Below P0 w7 w7 := Below.refl _ _
  obtain ⟨N1, hN1⟩ : ∃ a : Nat, a = N - 1 := ⟨_, rfl⟩
  obtain ⟨N2, hN2⟩ : ∃ a : Nat, a = N - 2 := ⟨_, rfl⟩
  obtain ⟨P1, hP1⟩ : ∃ a : Nat, a = p + 1 := ⟨_, rfl⟩
  have hN1a : N1 + 1 ≤ N := by omega
  have hN1b : N ≤ N1 + 1 := by omega
  have hN2a : N2 + 2 ≤ N := by omega
  have hN2b : N ≤ N2 + 2 := by omega
  have hP1a : p + 1 ≤ P1 := by omega
  have hP1b : P1 ≤ p + 1 := by omega
  clear hN1 hN2 hP1
  have en1 : (N : Int) - 1 = (N1 : Int) := by omega
  have en2 : (N : Int) - 2 = (N2 : Int) := by omega
  have en3 : (p : Int) + 1 = (P1 : Int) := by omega
  have en4 : IntKind.i64.wrap (N1 : Int) = (N1 : Int) := IntWalk.i64_in _ (by omega)
  have en5 : IntKind.i64.wrap (N2 : Int) = (N2 : Int) := IntWalk.i64_in _ (by omega)
  have en6 : IntKind.i64.wrap (P1 : Int) = (P1 : Int) := IntWalk.i64_in _ (by omega)
  go_loopw [10] (fun i wr => ∃ (k : Nat) (u t : Value) (rv : Nat → Value), k ≤ N ∧ i = .int .i64 k ∧ Below P0 w7 wr ∧ MakeAt wr P0 (P0 + 1) u t k k N rv Zg (fun c => (gy c : Int))) (fun i _ => N - (intOf i).toNat)
  case atStart => exact ⟨0, _, _, _, Nat.zero_le _, rfl, hB0, hM0⟩
  case round =>
    clear hM0 hB0
    obtain ⟨k, u, t, rv, hk, rfl, hQ, hM⟩ := hrel
    have hS := hQ.size
    by_cases hlt : k < N
    · have hlt' : (k : Int) < (N : Int) := by omega
      have hmk := run_make_row' (P := Try.prog) 24 3 (.int .i64 0) 8 Try.underlying24 infoInt rfl .i64 .i64 N (by omega) (by omega)
      obtain ⟨wo, rfl⟩ : ∃ wo : World, wo = wr := ⟨_, rfl⟩
      have hrow := World.rowIs_made wo (.int .i64 0) N 3
      have hI0 : IntsAt (wo.alloc (.cells (madeCells #[.int .i64 0] N) 3)) wo.heap.size (.slice (some ⟨wo.heap.size, 0, none⟩) N N) N (fun _ => 0) := owns_of_rowIs hrow (Nat.le_refl _) (by omega)
      have hb0 : Below wo.heap.size wo (wo.alloc (.cells (madeCells #[.int .i64 0] N) 3)) := (Below.refl _ wo).alloc (Nat.le_refl _) _
      clear hrow
      have z0 := hI0.frozen k
      have z1 := hI0.cell hlt
      have hI1 := IntsAt.store hI0 k 1
      have z2 := hI1.frozen N1
      have z3 := hI1.cell (show N1 < N by omega)
      have hI2 := Lib.hid (IntsAt.store hI1 N1 1)
      have hb2 := Lib.hid ((hb0.setCell (p := ⟨wo.heap.size, k, none⟩) (Nat.le_refl _) (.int .i64 1)).setCell (p := ⟨wo.heap.size, N1, none⟩) (Nat.le_refl _) (.int .i64 1))
      have c5 : (N1 : Int) < (N : Int) := by omega
      obtain ⟨nk, hnk⟩ : ∃ a : Nat, a = N1 - k := ⟨_, rfl⟩
      have en7 : (N1 : Int) - (k : Int) = (nk : Int) := by omega
      have en8 : IntKind.i64.wrap (nk : Int) = (nk : Int) := IntWalk.i64_in _ (by omega)
      have HNK : Hid (nk = notTo gy N k 0) := by show _ = _; rw [notTo_zero]; omega
      clear hI0 hI1 hb0 hnk
      have HM := Lib.hid hM
      clear hM
      go_upto_region 11 with fail
      clear hmk
      generalize wo.alloc (.cells (madeCells #[.int .i64 0] N) 3) = w8 at z0 z1 z2 z3 hI2 hb2 ⊢
      go_wp2_with fail
      clear z0 z1 z2 z3 en7 en8
      go_loopw [12, 13] (fun nv i wi => ∃ j : Nat, j ≤ N ∧ i = .int .i64 j ∧ nv = .int .i64 ((notTo gy N k j : Nat) : Int) ∧ IntsAt wi wo.heap.size (.slice (some ⟨wo.heap.size, 0, none⟩) N N) N (rowTo (Zg k) N k j) ∧ Below wo.heap.size wo wi) (fun _ i _ => N - (intOf i).toNat)
      case atStart =>
        refine ⟨0, Nat.zero_le _, rfl, congrArg (fun x : Nat => Value.int .i64 (x : Int)) HNK.out, ?_, hb2.out⟩
        have e := rowInit_two N k
        rw [show N - 1 = N1 by omega] at e
        rw [rowTo_zero, e]
        exact hI2.out
      case round =>
        clear hI2 hb2 HNK
        obtain ⟨j, hj, rfl, rfl, hI, hB⟩ := hrel
        have hws := hB.size
        by_cases hjt : j < N
        · have hjt' : (j : Int) < (N : Int) := by omega
          have HK : Hid (Below P0 w7 wr) := hQ.trans (hB.mono (by omega))
          have t0 : ((k : Int) == 0) = gzB k := by unfold gzB; rw [Bool.eq_iff_iff]; simp
          have t1 : decide ((k : Int) = 0) = gzB k := by unfold gzB; rw [Bool.eq_iff_iff]; simp
          have z0 := IntsAt.frozen hI j
          have z1 := IntsAt.cell hI hjt
          cases hz : gzB k with
          | true =>
            have hk1 : k < 1 := by unfold gzB at hz; have := of_decide_eq_true hz; omega
            have HIq : Hid (IntsAt (wr.setCell ⟨wo.heap.size, j, none⟩ (.int .i64 1)) wo.heap.size (.slice (some ⟨wo.heap.size, 0, none⟩) N N) N (rowTo (Zg k) N k (j + 1))) := by
              show IntsAt _ _ _ _ _
              rw [rowTo_set (x := 1) (by rw [show k = 0 by omega]; exact HL.out.zero j)]
              exact IntsAt.store hI j 1
            have HBq := Lib.hid (hB.setCell (p := ⟨wo.heap.size, j, none⟩) (Nat.le_refl _) (.int .i64 1))
            have HNV : Hid (notTo gy N k (j + 1) = notTo gy N k j) := notTo_keep (HL.out.tK k j hlt (and_no_left (inA_no (by omega))) (and_no_left (inB_no (by omega))))
            clear hI hB
            go_wp2_with fail
            go_at_call 56
            refine (l1In_not ?hq1 _).mono ?_
            case hq1 => omega
            rintro e wx ⟨rfl, rfl⟩
            go_wp2_with fail
            go_at_call 56
            refine (l1In_not ?hq2 _).mono ?_
            case hq2 => omega
            rintro e wx ⟨rfl, rfl⟩
            go_wp2_with fail
            go_roundw
            case rel => exact ⟨j + 1, by omega, by go_num, congrArg (fun x : Nat => Value.int .i64 (x : Int)) HNV.out.symm, HIq.out, HBq.out⟩
            case measure => simp [intOf]; omega
          | false =>
            have hk1 : 1 ≤ k := by unfold gzB at hz; have := of_decide_eq_false hz; omega
            clear z0 z1
            by_cases hkA : k ≤ p
            · by_cases hjA : 1 ≤ j ∧ j ≤ p
              · obtain ⟨hj1, hj2⟩ := hjA
                obtain ⟨ka, hka⟩ : ∃ a : Nat, a = k - 1 := ⟨_, rfl⟩
                obtain ⟨ja, hja⟩ : ∃ a : Nat, a = j - 1 := ⟨_, rfl⟩
                have lka : ka < p := by omega
                have lja : ja < p := by omega
                have HQ : Hid ((Zg k j = m0.Z (f0 ka) (f0 ja)) ∧ (y0 (f0 ka) = f0 ja ↔ gy k = j)) := by
                  show _ ∧ _
                  rw [hka, hja]
                  exact ⟨HL.out.A k j (inA_mk (by omega) (by omega)) (inA_mk (by omega) (by omega)), HL.out.tA k j (inA_mk (by omega) (by omega)) (inA_mk (by omega) (by omega))⟩
                obtain ⟨ea, ga, fk⟩ := RA.out.row ka lka
                obtain ⟨_, _, fj⟩ := RA.out.row ja lja
                rw [Nat.zero_add] at fk fj
                subst ea
                have lqk := HL.out.l0 ka lka
                have lqj := HL.out.l0 ja lja
                obtain ⟨qk, hqk⟩ : ∃ q, q = f0 ka := ⟨_, rfl⟩
                obtain ⟨qj, hqj⟩ : ∃ q, q = f0 ja := ⟨_, rfl⟩
                rw [← hqk] at fk lqk
                rw [← hqj] at fj lqj
                replace HQ : Hid ((Zg k j = m0.Z qk qj) ∧ (y0 qk = qj ↔ gy k = j)) := by have := HQ.out; show _ ∧ _; rw [hqk, hqj]; exact this
                obtain ⟨yq, hyq⟩ : ∃ q, q = y0 qk := ⟨_, rfl⟩
                have f0 := XA.out.c0
                have f1 := XA.out.c1
                have f3 := (J0.out.sq.both lqk lqj).2.1
                have f4 := (J0.out.sq.both lqk lqj).2.2
                have f5 : w7.cell? ⟨g0, o0 + qk, none⟩ = some (.int .i64 (yq : Int)) := by rw [hyq]; exact (J0.out.notAt lqk).2.1
                have fl0 : w.heap.size < P0 := by omega
                have fl3 : l0.b < P0 := by have h1 := World.block_lt_of_cell? w _ (H0.out.sq.both lqk lqj).2.1; have h2 : l0.b < w.heap.size := h1; omega
                have fl4 : l0.G qk < P0 := by have h1 := World.block_lt_of_cell? w _ (H0.out.sq.both lqk lqj).2.2; have h2 : l0.G qk < w.heap.size := h1; omega
                have fl5 : g0 < P0 := by have h1 := World.block_lt_of_cell? w _ (H0.out.notAt lqk).2.1; have h2 : g0 < w.heap.size := h1; omega
                replace HQ : Hid ((Zg k j = m0.Z qk qj) ∧ (yq = qj ↔ gy k = j)) := by have := HQ.out; show _ ∧ _; rw [hyq]; exact this
                have c1 : (ka : Int) < (p : Int) := by omega
                have c2 : (ja : Int) < (p : Int) := by omega
                have c3 : (qk : Int) < (m0.n : Int) := by omega
                have c4 : (qj : Int) < (m0.n : Int) := by omega
                have ei1 : (k : Int) - 1 = (ka : Int) := by omega
                have ei2 : (j : Int) - 1 = (ja : Int) := by omega
                have ei7 : IntKind.i64.wrap (ka : Int) = (ka : Int) := IntWalk.i64_in _ (by omega)
                have ei8 : IntKind.i64.wrap (ja : Int) = (ja : Int) := IntWalk.i64_in _ (by omega)
                clear hka hja hqk hqj hyq
                have HIw := Lib.hid hI
                have HBw := Lib.hid hB
                clear hI hB
                go_wp2_with fail
                go_at_call 56
                refine (l1In_yes ?hq3 _).mono ?_
                case hq3 => omega
                rintro e wx ⟨rfl, rfl⟩
                go_wp2_with fail
                go_at_call 56
                refine (l1In_yes ?hq4 _).mono ?_
                case hq4 => omega
                rintro e wx ⟨rfl, rfl⟩
                go_wp2_with fail
                have hZv := HQ.out.1
                have r0 : (wr.drew).frozen? ⟨wo.heap.size, j, none⟩ = false := IntsAt.frozen HIw.out j
                have r1 : (wr.drew).cell? ⟨wo.heap.size, j, none⟩ = some (.int .i64 (rowTo (Zg k) N k j j)) := IntsAt.cell HIw.out hjt
                have K0 : Below P0 w7 wr.drew := HK.out.drew
                have K1 : Below P0 w7 ((wr.drew).setCell ⟨wo.heap.size, j, none⟩ (.int .i64 (m0.Z qk qj))) := K0.setCell (p := ⟨wo.heap.size, j, none⟩) (by show P0 ≤ wo.heap.size; omega) _
                have HIq : Hid (IntsAt ((wr.drew).setCell ⟨wo.heap.size, j, none⟩ (.int .i64 (m0.Z qk qj))) wo.heap.size (.slice (some ⟨wo.heap.size, 0, none⟩) N N) N (rowTo (Zg k) N k (j + 1))) := by
                  show IntsAt _ _ _ _ _
                  rw [rowTo_set (x := m0.Z qk qj) hZv]
                  exact IntsAt.store ((Chg.drew (fun _ => False) wr).ints HIw.out (fun _ _ h => h)) j _
                have HBq : Hid (Below wo.heap.size wo ((wr.drew).setCell ⟨wo.heap.size, j, none⟩ (.int .i64 (m0.Z qk qj)))) := (HBw.out.drew).setCell (p := ⟨wo.heap.size, j, none⟩) (Nat.le_refl _) _
                clear hZv
                refine region_plain (fuel := 20) (listed := #[false, false, false, false, false, false, false, false, false, false, false, false, false, false, false, false, false, false, false, false]) (fun W' => Below P0 w7 W') (by kernel_rfl) (by kernel_rfl) (by kernel_rfl) ?_
                refine hold_take (i := 0) (d := 88) (v := ?vAr0) (listed' := #[true, false, false, false, false, false, false, false, false, false, false, false, false, false, false, false, false, false, false, false]) rfl (by kernel_rfl) (by kernel_rfl) (by kernel_rfl) rfl (by rfl) (by kernel_rfl) K0 ?hAr0 ?rAr0
                case hAr0 =>
                  intro w' hSw
                  have hSb : Below P0 w7 w' := hSw; have x0 := (hSb.cell (p := ⟨w.heap.size, 0, none⟩) fl0).trans f0; have x1 := (hSb.cell (p := ⟨gA, ka, none⟩) ga).trans fk; have x2 := (hSb.cell (p := ⟨gA, ja, none⟩) ga).trans fj; have x3 := (hSb.cell (p := ⟨l0.b, l0.o + qk, none⟩) fl3).trans f3; have x4 := (hSb.cell (p := ⟨l0.G qk, l0.O qk + qj, none⟩) fl4).trans f4
                  go_simp
                  try with_reducible rfl
                simp only [List.setIfInBounds_toArray, List.set_cons_zero, List.set_cons_succ]
                refine hold_take (i := 1) (d := 89) (v := ?vAr1) (listed' := #[true, true, false, false, false, false, false, false, false, false, false, false, false, false, false, false, false, false, false, false]) rfl (by kernel_rfl) (by kernel_rfl) (by kernel_rfl) rfl (by rfl) (by kernel_rfl) K0 ?hAr1 ?rAr1
                case hAr1 =>
                  intro w' hSw
                  have hSb : Below P0 w7 w' := hSw; have x0 := (hSb.cell (p := ⟨w.heap.size, 0, none⟩) fl0).trans f0; have x1 := (hSb.cell (p := ⟨gA, ka, none⟩) ga).trans fk; have x2 := (hSb.cell (p := ⟨gA, ja, none⟩) ga).trans fj; have x3 := (hSb.cell (p := ⟨l0.b, l0.o + qk, none⟩) fl3).trans f3; have x4 := (hSb.cell (p := ⟨l0.G qk, l0.O qk + qj, none⟩) fl4).trans f4
                  go_simp
                  try with_reducible rfl
                simp only [List.setIfInBounds_toArray, List.set_cons_zero, List.set_cons_succ]
                refine hold_take (i := 2) (d := 90) (v := ?vAr2) (listed' := #[true, true, true, false, false, false, false, false, false, false, false, false, false, false, false, false, false, false, false, false]) rfl (by kernel_rfl) (by kernel_rfl) (by kernel_rfl) rfl (by rfl) (by kernel_rfl) K0 ?hAr2 ?rAr2
                case hAr2 =>
                  intro w' hSw
                  have hSb : Below P0 w7 w' := hSw; have x0 := (hSb.cell (p := ⟨w.heap.size, 0, none⟩) fl0).trans f0; have x1 := (hSb.cell (p := ⟨gA, ka, none⟩) ga).trans fk; have x2 := (hSb.cell (p := ⟨gA, ja, none⟩) ga).trans fj; have x3 := (hSb.cell (p := ⟨l0.b, l0.o + qk, none⟩) fl3).trans f3; have x4 := (hSb.cell (p := ⟨l0.G qk, l0.O qk + qj, none⟩) fl4).trans f4
                  go_simp
                  try with_reducible rfl
                simp only [List.setIfInBounds_toArray, List.set_cons_zero, List.set_cons_succ]
                refine hold_take (i := 3) (d := 91) (v := ?vAr3) (listed' := #[true, true, true, true, false, false, false, false, false, false, false, false, false, false, false, false, false, false, false, false]) rfl (by kernel_rfl) (by kernel_rfl) (by kernel_rfl) rfl (by rfl) (by kernel_rfl) K0 ?hAr3 ?rAr3
                case hAr3 =>
                  intro w' hSw
                  have hSb : Below P0 w7 w' := hSw; have x0 := (hSb.cell (p := ⟨w.heap.size, 0, none⟩) fl0).trans f0; have x1 := (hSb.cell (p := ⟨gA, ka, none⟩) ga).trans fk; have x2 := (hSb.cell (p := ⟨gA, ja, none⟩) ga).trans fj; have x3 := (hSb.cell (p := ⟨l0.b, l0.o + qk, none⟩) fl3).trans f3; have x4 := (hSb.cell (p := ⟨l0.G qk, l0.O qk + qj, none⟩) fl4).trans f4
                  go_simp
                  try with_reducible rfl
                simp only [List.setIfInBounds_toArray, List.set_cons_zero, List.set_cons_succ]
                refine hold_take (i := 4) (d := 92) (v := ?vAr4) (listed' := #[true, true, true, true, true, false, false, false, false, false, false, false, false, false, false, false, false, false, false, false]) rfl (by kernel_rfl) (by kernel_rfl) (by kernel_rfl) rfl (by rfl) (by kernel_rfl) K0 ?hAr4 ?rAr4
                case hAr4 =>
                  intro w' hSw
                  have hSb : Below P0 w7 w' := hSw; have x0 := (hSb.cell (p := ⟨w.heap.size, 0, none⟩) fl0).trans f0; have x1 := (hSb.cell (p := ⟨gA, ka, none⟩) ga).trans fk; have x2 := (hSb.cell (p := ⟨gA, ja, none⟩) ga).trans fj; have x3 := (hSb.cell (p := ⟨l0.b, l0.o + qk, none⟩) fl3).trans f3; have x4 := (hSb.cell (p := ⟨l0.G qk, l0.O qk + qj, none⟩) fl4).trans f4
                  go_simp
                  try with_reducible rfl
                simp only [List.setIfInBounds_toArray, List.set_cons_zero, List.set_cons_succ]
                refine hold_take (i := 5) (d := 93) (v := ?vAr5) (listed' := #[true, true, true, true, true, true, false, false, false, false, false, false, false, false, false, false, false, false, false, false]) rfl (by kernel_rfl) (by kernel_rfl) (by kernel_rfl) rfl (by rfl) (by kernel_rfl) K0 ?hAr5 ?rAr5
                case hAr5 =>
                  intro w' hSw
                  have hSb : Below P0 w7 w' := hSw; have x0 := (hSb.cell (p := ⟨w.heap.size, 0, none⟩) fl0).trans f0; have x1 := (hSb.cell (p := ⟨gA, ka, none⟩) ga).trans fk; have x2 := (hSb.cell (p := ⟨gA, ja, none⟩) ga).trans fj; have x3 := (hSb.cell (p := ⟨l0.b, l0.o + qk, none⟩) fl3).trans f3; have x4 := (hSb.cell (p := ⟨l0.G qk, l0.O qk + qj, none⟩) fl4).trans f4
                  go_simp
                  try with_reducible rfl
                simp only [List.setIfInBounds_toArray, List.set_cons_zero, List.set_cons_succ]
                refine hold_take (i := 6) (d := 94) (v := ?vAr6) (listed' := #[true, true, true, true, true, true, true, false, false, false, false, false, false, false, false, false, false, false, false, false]) rfl (by kernel_rfl) (by kernel_rfl) (by kernel_rfl) rfl (by rfl) (by kernel_rfl) K0 ?hAr6 ?rAr6
                case hAr6 =>
                  intro w' hSw
                  have hSb : Below P0 w7 w' := hSw; have x0 := (hSb.cell (p := ⟨w.heap.size, 0, none⟩) fl0).trans f0; have x1 := (hSb.cell (p := ⟨gA, ka, none⟩) ga).trans fk; have x2 := (hSb.cell (p := ⟨gA, ja, none⟩) ga).trans fj; have x3 := (hSb.cell (p := ⟨l0.b, l0.o + qk, none⟩) fl3).trans f3; have x4 := (hSb.cell (p := ⟨l0.G qk, l0.O qk + qj, none⟩) fl4).trans f4
                  go_simp
                  try with_reducible rfl
                simp only [List.setIfInBounds_toArray, List.set_cons_zero, List.set_cons_succ]
                refine hold_take (i := 7) (d := 95) (v := ?vAr7) (listed' := #[true, true, true, true, true, true, true, true, false, false, false, false, false, false, false, false, false, false, false, false]) rfl (by kernel_rfl) (by kernel_rfl) (by kernel_rfl) rfl (by rfl) (by kernel_rfl) K0 ?hAr7 ?rAr7
                case hAr7 =>
                  intro w' hSw
                  have hSb : Below P0 w7 w' := hSw; have x0 := (hSb.cell (p := ⟨w.heap.size, 0, none⟩) fl0).trans f0; have x1 := (hSb.cell (p := ⟨gA, ka, none⟩) ga).trans fk; have x2 := (hSb.cell (p := ⟨gA, ja, none⟩) ga).trans fj; have x3 := (hSb.cell (p := ⟨l0.b, l0.o + qk, none⟩) fl3).trans f3; have x4 := (hSb.cell (p := ⟨l0.G qk, l0.O qk + qj, none⟩) fl4).trans f4
                  go_simp
                  try with_reducible rfl
                simp only [List.setIfInBounds_toArray, List.set_cons_zero, List.set_cons_succ]
                refine hold_take (i := 8) (d := 96) (v := ?vAr8) (listed' := #[true, true, true, true, true, true, true, true, true, false, false, false, false, false, false, false, false, false, false, false]) rfl (by kernel_rfl) (by kernel_rfl) (by kernel_rfl) rfl (by rfl) (by kernel_rfl) K0 ?hAr8 ?rAr8
                case hAr8 =>
                  intro w' hSw
                  have hSb : Below P0 w7 w' := hSw; have x0 := (hSb.cell (p := ⟨w.heap.size, 0, none⟩) fl0).trans f0; have x1 := (hSb.cell (p := ⟨gA, ka, none⟩) ga).trans fk; have x2 := (hSb.cell (p := ⟨gA, ja, none⟩) ga).trans fj; have x3 := (hSb.cell (p := ⟨l0.b, l0.o + qk, none⟩) fl3).trans f3; have x4 := (hSb.cell (p := ⟨l0.G qk, l0.O qk + qj, none⟩) fl4).trans f4
                  go_simp
                  try with_reducible rfl
                simp only [List.setIfInBounds_toArray, List.set_cons_zero, List.set_cons_succ]
                refine hold_take (i := 9) (d := 97) (v := ?vAr9) (listed' := #[true, true, true, true, true, true, true, true, true, true, false, false, false, false, false, false, false, false, false, false]) rfl (by kernel_rfl) (by kernel_rfl) (by kernel_rfl) rfl (by rfl) (by kernel_rfl) K0 ?hAr9 ?rAr9
                case hAr9 =>
                  intro w' hSw
                  have hSb : Below P0 w7 w' := hSw; have x0 := (hSb.cell (p := ⟨w.heap.size, 0, none⟩) fl0).trans f0; have x1 := (hSb.cell (p := ⟨gA, ka, none⟩) ga).trans fk; have x2 := (hSb.cell (p := ⟨gA, ja, none⟩) ga).trans fj; have x3 := (hSb.cell (p := ⟨l0.b, l0.o + qk, none⟩) fl3).trans f3; have x4 := (hSb.cell (p := ⟨l0.G qk, l0.O qk + qj, none⟩) fl4).trans f4
                  go_simp
                  try with_reducible rfl
                simp only [List.setIfInBounds_toArray, List.set_cons_zero, List.set_cons_succ]
                refine hold_take (i := 10) (d := 98) (v := ?vAr10) (listed' := #[true, true, true, true, true, true, true, true, true, true, true, false, false, false, false, false, false, false, false, false]) rfl (by kernel_rfl) (by kernel_rfl) (by kernel_rfl) rfl (by rfl) (by kernel_rfl) K0 ?hAr10 ?rAr10
                case hAr10 =>
                  intro w' hSw
                  have hSb : Below P0 w7 w' := hSw; have x0 := (hSb.cell (p := ⟨w.heap.size, 0, none⟩) fl0).trans f0; have x1 := (hSb.cell (p := ⟨gA, ka, none⟩) ga).trans fk; have x2 := (hSb.cell (p := ⟨gA, ja, none⟩) ga).trans fj; have x3 := (hSb.cell (p := ⟨l0.b, l0.o + qk, none⟩) fl3).trans f3; have x4 := (hSb.cell (p := ⟨l0.G qk, l0.O qk + qj, none⟩) fl4).trans f4
                  go_simp
                  try with_reducible rfl
                simp only [List.setIfInBounds_toArray, List.set_cons_zero, List.set_cons_succ]
                refine hold_take (i := 11) (d := 99) (v := ?vAr11) (listed' := #[true, true, true, true, true, true, true, true, true, true, true, true, false, false, false, false, false, false, false, false]) rfl (by kernel_rfl) (by kernel_rfl) (by kernel_rfl) rfl (by rfl) (by kernel_rfl) K0 ?hAr11 ?rAr11
                case hAr11 =>
                  intro w' hSw
                  have hSb : Below P0 w7 w' := hSw; have x0 := (hSb.cell (p := ⟨w.heap.size, 0, none⟩) fl0).trans f0; have x1 := (hSb.cell (p := ⟨gA, ka, none⟩) ga).trans fk; have x2 := (hSb.cell (p := ⟨gA, ja, none⟩) ga).trans fj; have x3 := (hSb.cell (p := ⟨l0.b, l0.o + qk, none⟩) fl3).trans f3; have x4 := (hSb.cell (p := ⟨l0.G qk, l0.O qk + qj, none⟩) fl4).trans f4
                  go_simp
                  try with_reducible rfl
                simp only [List.setIfInBounds_toArray, List.set_cons_zero, List.set_cons_succ]
                refine hold_take (i := 12) (d := 100) (v := ?vAr12) (listed' := #[true, true, true, true, true, true, true, true, true, true, true, true, true, false, false, false, false, false, false, false]) rfl (by kernel_rfl) (by kernel_rfl) (by kernel_rfl) rfl (by rfl) (by kernel_rfl) K0 ?hAr12 ?rAr12
                case hAr12 =>
                  intro w' hSw
                  have hSb : Below P0 w7 w' := hSw; have x0 := (hSb.cell (p := ⟨w.heap.size, 0, none⟩) fl0).trans f0; have x1 := (hSb.cell (p := ⟨gA, ka, none⟩) ga).trans fk; have x2 := (hSb.cell (p := ⟨gA, ja, none⟩) ga).trans fj; have x3 := (hSb.cell (p := ⟨l0.b, l0.o + qk, none⟩) fl3).trans f3; have x4 := (hSb.cell (p := ⟨l0.G qk, l0.O qk + qj, none⟩) fl4).trans f4
                  go_simp
                  try with_reducible rfl
                simp only [List.setIfInBounds_toArray, List.set_cons_zero, List.set_cons_succ]
                refine hold_take (i := 13) (d := 101) (v := ?vAr13) (listed' := #[true, true, true, true, true, true, true, true, true, true, true, true, true, true, false, false, false, false, false, false]) rfl (by kernel_rfl) (by kernel_rfl) (by kernel_rfl) rfl (by rfl) (by kernel_rfl) K0 ?hAr13 ?rAr13
                case hAr13 =>
                  intro w' hSw
                  have hSb : Below P0 w7 w' := hSw; have x0 := (hSb.cell (p := ⟨w.heap.size, 0, none⟩) fl0).trans f0; have x1 := (hSb.cell (p := ⟨gA, ka, none⟩) ga).trans fk; have x2 := (hSb.cell (p := ⟨gA, ja, none⟩) ga).trans fj; have x3 := (hSb.cell (p := ⟨l0.b, l0.o + qk, none⟩) fl3).trans f3; have x4 := (hSb.cell (p := ⟨l0.G qk, l0.O qk + qj, none⟩) fl4).trans f4
                  go_simp
                  try with_reducible rfl
                simp only [List.setIfInBounds_toArray, List.set_cons_zero, List.set_cons_succ]
                refine hold_take (i := 14) (d := 102) (v := ?vAr14) (listed' := #[true, true, true, true, true, true, true, true, true, true, true, true, true, true, true, false, false, false, false, false]) rfl (by kernel_rfl) (by kernel_rfl) (by kernel_rfl) rfl (by rfl) (by kernel_rfl) K0 ?hAr14 ?rAr14
                case hAr14 =>
                  intro w' hSw
                  have hSb : Below P0 w7 w' := hSw; have x0 := (hSb.cell (p := ⟨w.heap.size, 0, none⟩) fl0).trans f0; have x1 := (hSb.cell (p := ⟨gA, ka, none⟩) ga).trans fk; have x2 := (hSb.cell (p := ⟨gA, ja, none⟩) ga).trans fj; have x3 := (hSb.cell (p := ⟨l0.b, l0.o + qk, none⟩) fl3).trans f3; have x4 := (hSb.cell (p := ⟨l0.G qk, l0.O qk + qj, none⟩) fl4).trans f4
                  go_simp
                  try with_reducible rfl
                simp only [List.setIfInBounds_toArray, List.set_cons_zero, List.set_cons_succ]
                refine hold_take (i := 15) (d := 103) (v := ?vAr15) (listed' := #[true, true, true, true, true, true, true, true, true, true, true, true, true, true, true, true, false, false, false, false]) rfl (by kernel_rfl) (by kernel_rfl) (by kernel_rfl) rfl (by rfl) (by kernel_rfl) K0 ?hAr15 ?rAr15
                case hAr15 =>
                  intro w' hSw
                  have hSb : Below P0 w7 w' := hSw; have x0 := (hSb.cell (p := ⟨w.heap.size, 0, none⟩) fl0).trans f0; have x1 := (hSb.cell (p := ⟨gA, ka, none⟩) ga).trans fk; have x2 := (hSb.cell (p := ⟨gA, ja, none⟩) ga).trans fj; have x3 := (hSb.cell (p := ⟨l0.b, l0.o + qk, none⟩) fl3).trans f3; have x4 := (hSb.cell (p := ⟨l0.G qk, l0.O qk + qj, none⟩) fl4).trans f4
                  go_simp
                  try with_reducible rfl
                simp only [List.setIfInBounds_toArray, List.set_cons_zero, List.set_cons_succ]
                refine hold_take (i := 16) (d := 104) (v := ?vAr16) (listed' := #[true, true, true, true, true, true, true, true, true, true, true, true, true, true, true, true, true, false, false, false]) rfl (by kernel_rfl) (by kernel_rfl) (by kernel_rfl) rfl (by rfl) (by kernel_rfl) K0 ?hAr16 ?rAr16
                case hAr16 =>
                  intro w' hSw
                  have hSb : Below P0 w7 w' := hSw; have x0 := (hSb.cell (p := ⟨w.heap.size, 0, none⟩) fl0).trans f0; have x1 := (hSb.cell (p := ⟨gA, ka, none⟩) ga).trans fk; have x2 := (hSb.cell (p := ⟨gA, ja, none⟩) ga).trans fj; have x3 := (hSb.cell (p := ⟨l0.b, l0.o + qk, none⟩) fl3).trans f3; have x4 := (hSb.cell (p := ⟨l0.G qk, l0.O qk + qj, none⟩) fl4).trans f4
                  go_simp
                  try with_reducible rfl
                simp only [List.setIfInBounds_toArray, List.set_cons_zero, List.set_cons_succ]
                refine hold_take (i := 17) (d := 105) (v := ?vAr17) (listed' := #[true, true, true, true, true, true, true, true, true, true, true, true, true, true, true, true, true, true, false, false]) rfl (by kernel_rfl) (by kernel_rfl) (by kernel_rfl) rfl (by rfl) (by kernel_rfl) K0 ?hAr17 ?rAr17
                case hAr17 =>
                  intro w' hSw
                  have hSb : Below P0 w7 w' := hSw; have x0 := (hSb.cell (p := ⟨w.heap.size, 0, none⟩) fl0).trans f0; have x1 := (hSb.cell (p := ⟨gA, ka, none⟩) ga).trans fk; have x2 := (hSb.cell (p := ⟨gA, ja, none⟩) ga).trans fj; have x3 := (hSb.cell (p := ⟨l0.b, l0.o + qk, none⟩) fl3).trans f3; have x4 := (hSb.cell (p := ⟨l0.G qk, l0.O qk + qj, none⟩) fl4).trans f4
                  go_simp
                  try with_reducible rfl
                simp only [List.setIfInBounds_toArray, List.set_cons_zero, List.set_cons_succ]
                refine hold_take (i := 18) (d := 106) (v := ?vAr18) (listed' := #[true, true, true, true, true, true, true, true, true, true, true, true, true, true, true, true, true, true, true, false]) rfl (by kernel_rfl) (by kernel_rfl) (by kernel_rfl) rfl (by rfl) (by kernel_rfl) K0 ?hAr18 ?rAr18
                case hAr18 =>
                  intro w' hSw
                  have hSb : Below P0 w7 w' := hSw; have x0 := (hSb.cell (p := ⟨w.heap.size, 0, none⟩) fl0).trans f0; have x1 := (hSb.cell (p := ⟨gA, ka, none⟩) ga).trans fk; have x2 := (hSb.cell (p := ⟨gA, ja, none⟩) ga).trans fj; have x3 := (hSb.cell (p := ⟨l0.b, l0.o + qk, none⟩) fl3).trans f3; have x4 := (hSb.cell (p := ⟨l0.G qk, l0.O qk + qj, none⟩) fl4).trans f4
                  go_simp
                  try with_reducible rfl
                simp only [List.setIfInBounds_toArray, List.set_cons_zero, List.set_cons_succ]
                refine hold_store (i := 19) (w' := ((wr.drew).setCell ⟨wo.heap.size, j, none⟩ (.int .i64 (m0.Z qk qj)))) (listed' := #[true, true, true, true, true, true, true, true, true, true, true, true, true, true, true, true, true, true, true, true]) rfl (by kernel_rfl) rfl (by rfl) (by kernel_rfl) ?stA K1 ?_
                case stA =>
                  go_simp
                  try with_reducible rfl
                refine hold_done (by kernel_rfl) ?_ _
                have HKq := Lib.hid K1
                clear r0 r1 K0 K1 HIw HBw f0 f3 f4 fl3 fl4
                generalize ((wr.drew).setCell ⟨wo.heap.size, j, none⟩ (.int .i64 (m0.Z qk qj))) = w9 at HIq HBq HKq ⊢
                have t2 : ((yq : Int) == (qj : Int)) = gqB yq qj := by unfold gqB; rw [Bool.eq_iff_iff]; simp; omega
                have t3 : decide ((yq : Int) = (qj : Int)) = gqB yq qj := by unfold gqB; rw [Bool.eq_iff_iff]; simp; omega
                go_wp2_with fail
                have K2 : Below P0 w7 w9.drew := HKq.out.drew
                refine region_plain (fuel := 15) (listed := #[false, false, false, false, false, false, false, false, false, false, false, false, false, false, false]) (fun W' => Below P0 w7 W') (by kernel_rfl) (by kernel_rfl) (by kernel_rfl) ?_
                refine hold_take (i := 0) (d := 107) (v := ?vAs0) (listed' := #[true, false, false, false, false, false, false, false, false, false, false, false, false, false, false]) rfl (by kernel_rfl) (by kernel_rfl) (by kernel_rfl) rfl (by rfl) (by kernel_rfl) K2 ?hAs0 ?rAs0
                case hAs0 =>
                  intro w' hSw
                  have hSb : Below P0 w7 w' := hSw; have x0 := (hSb.cell (p := ⟨w.heap.size, 1, none⟩) fl0).trans f1; have x1 := (hSb.cell (p := ⟨gA, ka, none⟩) ga).trans fk; have x2 := (hSb.cell (p := ⟨gA, ja, none⟩) ga).trans fj; have x3 := (hSb.cell (p := ⟨g0, o0 + qk, none⟩) fl5).trans f5
                  go_simp
                  try with_reducible rfl
                simp only [List.setIfInBounds_toArray, List.set_cons_zero, List.set_cons_succ]
                refine hold_take (i := 1) (d := 108) (v := ?vAs1) (listed' := #[true, true, false, false, false, false, false, false, false, false, false, false, false, false, false]) rfl (by kernel_rfl) (by kernel_rfl) (by kernel_rfl) rfl (by rfl) (by kernel_rfl) K2 ?hAs1 ?rAs1
                case hAs1 =>
                  intro w' hSw
                  have hSb : Below P0 w7 w' := hSw; have x0 := (hSb.cell (p := ⟨w.heap.size, 1, none⟩) fl0).trans f1; have x1 := (hSb.cell (p := ⟨gA, ka, none⟩) ga).trans fk; have x2 := (hSb.cell (p := ⟨gA, ja, none⟩) ga).trans fj; have x3 := (hSb.cell (p := ⟨g0, o0 + qk, none⟩) fl5).trans f5
                  go_simp
                  try with_reducible rfl
                simp only [List.setIfInBounds_toArray, List.set_cons_zero, List.set_cons_succ]
                refine hold_take (i := 2) (d := 109) (v := ?vAs2) (listed' := #[true, true, true, false, false, false, false, false, false, false, false, false, false, false, false]) rfl (by kernel_rfl) (by kernel_rfl) (by kernel_rfl) rfl (by rfl) (by kernel_rfl) K2 ?hAs2 ?rAs2
                case hAs2 =>
                  intro w' hSw
                  have hSb : Below P0 w7 w' := hSw; have x0 := (hSb.cell (p := ⟨w.heap.size, 1, none⟩) fl0).trans f1; have x1 := (hSb.cell (p := ⟨gA, ka, none⟩) ga).trans fk; have x2 := (hSb.cell (p := ⟨gA, ja, none⟩) ga).trans fj; have x3 := (hSb.cell (p := ⟨g0, o0 + qk, none⟩) fl5).trans f5
                  go_simp
                  try with_reducible rfl
                simp only [List.setIfInBounds_toArray, List.set_cons_zero, List.set_cons_succ]
                refine hold_take (i := 3) (d := 110) (v := ?vAs3) (listed' := #[true, true, true, true, false, false, false, false, false, false, false, false, false, false, false]) rfl (by kernel_rfl) (by kernel_rfl) (by kernel_rfl) rfl (by rfl) (by kernel_rfl) K2 ?hAs3 ?rAs3
                case hAs3 =>
                  intro w' hSw
                  have hSb : Below P0 w7 w' := hSw; have x0 := (hSb.cell (p := ⟨w.heap.size, 1, none⟩) fl0).trans f1; have x1 := (hSb.cell (p := ⟨gA, ka, none⟩) ga).trans fk; have x2 := (hSb.cell (p := ⟨gA, ja, none⟩) ga).trans fj; have x3 := (hSb.cell (p := ⟨g0, o0 + qk, none⟩) fl5).trans f5
                  go_simp
                  try with_reducible rfl
                simp only [List.setIfInBounds_toArray, List.set_cons_zero, List.set_cons_succ]
                refine hold_take (i := 4) (d := 111) (v := ?vAs4) (listed' := #[true, true, true, true, true, false, false, false, false, false, false, false, false, false, false]) rfl (by kernel_rfl) (by kernel_rfl) (by kernel_rfl) rfl (by rfl) (by kernel_rfl) K2 ?hAs4 ?rAs4
                case hAs4 =>
                  intro w' hSw
                  have hSb : Below P0 w7 w' := hSw; have x0 := (hSb.cell (p := ⟨w.heap.size, 1, none⟩) fl0).trans f1; have x1 := (hSb.cell (p := ⟨gA, ka, none⟩) ga).trans fk; have x2 := (hSb.cell (p := ⟨gA, ja, none⟩) ga).trans fj; have x3 := (hSb.cell (p := ⟨g0, o0 + qk, none⟩) fl5).trans f5
                  go_simp
                  try with_reducible rfl
                simp only [List.setIfInBounds_toArray, List.set_cons_zero, List.set_cons_succ]
                refine hold_take (i := 5) (d := 112) (v := ?vAs5) (listed' := #[true, true, true, true, true, true, false, false, false, false, false, false, false, false, false]) rfl (by kernel_rfl) (by kernel_rfl) (by kernel_rfl) rfl (by rfl) (by kernel_rfl) K2 ?hAs5 ?rAs5
                case hAs5 =>
                  intro w' hSw
                  have hSb : Below P0 w7 w' := hSw; have x0 := (hSb.cell (p := ⟨w.heap.size, 1, none⟩) fl0).trans f1; have x1 := (hSb.cell (p := ⟨gA, ka, none⟩) ga).trans fk; have x2 := (hSb.cell (p := ⟨gA, ja, none⟩) ga).trans fj; have x3 := (hSb.cell (p := ⟨g0, o0 + qk, none⟩) fl5).trans f5
                  go_simp
                  try with_reducible rfl
                simp only [List.setIfInBounds_toArray, List.set_cons_zero, List.set_cons_succ]
                refine hold_take (i := 6) (d := 113) (v := ?vAs6) (listed' := #[true, true, true, true, true, true, true, false, false, false, false, false, false, false, false]) rfl (by kernel_rfl) (by kernel_rfl) (by kernel_rfl) rfl (by rfl) (by kernel_rfl) K2 ?hAs6 ?rAs6
                case hAs6 =>
                  intro w' hSw
                  have hSb : Below P0 w7 w' := hSw; have x0 := (hSb.cell (p := ⟨w.heap.size, 1, none⟩) fl0).trans f1; have x1 := (hSb.cell (p := ⟨gA, ka, none⟩) ga).trans fk; have x2 := (hSb.cell (p := ⟨gA, ja, none⟩) ga).trans fj; have x3 := (hSb.cell (p := ⟨g0, o0 + qk, none⟩) fl5).trans f5
                  go_simp
                  try with_reducible rfl
                simp only [List.setIfInBounds_toArray, List.set_cons_zero, List.set_cons_succ]
                refine hold_take (i := 7) (d := 114) (v := ?vAs7) (listed' := #[true, true, true, true, true, true, true, true, false, false, false, false, false, false, false]) rfl (by kernel_rfl) (by kernel_rfl) (by kernel_rfl) rfl (by rfl) (by kernel_rfl) K2 ?hAs7 ?rAs7
                case hAs7 =>
                  intro w' hSw
                  have hSb : Below P0 w7 w' := hSw; have x0 := (hSb.cell (p := ⟨w.heap.size, 1, none⟩) fl0).trans f1; have x1 := (hSb.cell (p := ⟨gA, ka, none⟩) ga).trans fk; have x2 := (hSb.cell (p := ⟨gA, ja, none⟩) ga).trans fj; have x3 := (hSb.cell (p := ⟨g0, o0 + qk, none⟩) fl5).trans f5
                  go_simp
                  try with_reducible rfl
                simp only [List.setIfInBounds_toArray, List.set_cons_zero, List.set_cons_succ]
                refine hold_take (i := 8) (d := 115) (v := ?vAs8) (listed' := #[true, true, true, true, true, true, true, true, true, false, false, false, false, false, false]) rfl (by kernel_rfl) (by kernel_rfl) (by kernel_rfl) rfl (by rfl) (by kernel_rfl) K2 ?hAs8 ?rAs8
                case hAs8 =>
                  intro w' hSw
                  have hSb : Below P0 w7 w' := hSw; have x0 := (hSb.cell (p := ⟨w.heap.size, 1, none⟩) fl0).trans f1; have x1 := (hSb.cell (p := ⟨gA, ka, none⟩) ga).trans fk; have x2 := (hSb.cell (p := ⟨gA, ja, none⟩) ga).trans fj; have x3 := (hSb.cell (p := ⟨g0, o0 + qk, none⟩) fl5).trans f5
                  go_simp
                  try with_reducible rfl
                simp only [List.setIfInBounds_toArray, List.set_cons_zero, List.set_cons_succ]
                refine hold_take (i := 9) (d := 116) (v := ?vAs9) (listed' := #[true, true, true, true, true, true, true, true, true, true, false, false, false, false, false]) rfl (by kernel_rfl) (by kernel_rfl) (by kernel_rfl) rfl (by rfl) (by kernel_rfl) K2 ?hAs9 ?rAs9
                case hAs9 =>
                  intro w' hSw
                  have hSb : Below P0 w7 w' := hSw; have x0 := (hSb.cell (p := ⟨w.heap.size, 1, none⟩) fl0).trans f1; have x1 := (hSb.cell (p := ⟨gA, ka, none⟩) ga).trans fk; have x2 := (hSb.cell (p := ⟨gA, ja, none⟩) ga).trans fj; have x3 := (hSb.cell (p := ⟨g0, o0 + qk, none⟩) fl5).trans f5
                  go_simp
                  try with_reducible rfl
                simp only [List.setIfInBounds_toArray, List.set_cons_zero, List.set_cons_succ]
                refine hold_take (i := 10) (d := 117) (v := ?vAs10) (listed' := #[true, true, true, true, true, true, true, true, true, true, true, false, false, false, false]) rfl (by kernel_rfl) (by kernel_rfl) (by kernel_rfl) rfl (by rfl) (by kernel_rfl) K2 ?hAs10 ?rAs10
                case hAs10 =>
                  intro w' hSw
                  have hSb : Below P0 w7 w' := hSw; have x0 := (hSb.cell (p := ⟨w.heap.size, 1, none⟩) fl0).trans f1; have x1 := (hSb.cell (p := ⟨gA, ka, none⟩) ga).trans fk; have x2 := (hSb.cell (p := ⟨gA, ja, none⟩) ga).trans fj; have x3 := (hSb.cell (p := ⟨g0, o0 + qk, none⟩) fl5).trans f5
                  go_simp
                  try with_reducible rfl
                simp only [List.setIfInBounds_toArray, List.set_cons_zero, List.set_cons_succ]
                refine hold_take (i := 11) (d := 118) (v := ?vAs11) (listed' := #[true, true, true, true, true, true, true, true, true, true, true, true, false, false, false]) rfl (by kernel_rfl) (by kernel_rfl) (by kernel_rfl) rfl (by rfl) (by kernel_rfl) K2 ?hAs11 ?rAs11
                case hAs11 =>
                  intro w' hSw
                  have hSb : Below P0 w7 w' := hSw; have x0 := (hSb.cell (p := ⟨w.heap.size, 1, none⟩) fl0).trans f1; have x1 := (hSb.cell (p := ⟨gA, ka, none⟩) ga).trans fk; have x2 := (hSb.cell (p := ⟨gA, ja, none⟩) ga).trans fj; have x3 := (hSb.cell (p := ⟨g0, o0 + qk, none⟩) fl5).trans f5
                  go_simp
                  try with_reducible rfl
                simp only [List.setIfInBounds_toArray, List.set_cons_zero, List.set_cons_succ]
                refine hold_take (i := 12) (d := 119) (v := ?vAs12) (listed' := #[true, true, true, true, true, true, true, true, true, true, true, true, true, false, false]) rfl (by kernel_rfl) (by kernel_rfl) (by kernel_rfl) rfl (by rfl) (by kernel_rfl) K2 ?hAs12 ?rAs12
                case hAs12 =>
                  intro w' hSw
                  have hSb : Below P0 w7 w' := hSw; have x0 := (hSb.cell (p := ⟨w.heap.size, 1, none⟩) fl0).trans f1; have x1 := (hSb.cell (p := ⟨gA, ka, none⟩) ga).trans fk; have x2 := (hSb.cell (p := ⟨gA, ja, none⟩) ga).trans fj; have x3 := (hSb.cell (p := ⟨g0, o0 + qk, none⟩) fl5).trans f5
                  go_simp
                  try with_reducible rfl
                simp only [List.setIfInBounds_toArray, List.set_cons_zero, List.set_cons_succ]
                refine hold_take (i := 13) (d := 120) (v := ?vAs13) (listed' := #[true, true, true, true, true, true, true, true, true, true, true, true, true, true, false]) rfl (by kernel_rfl) (by kernel_rfl) (by kernel_rfl) rfl (by rfl) (by kernel_rfl) K2 ?hAs13 ?rAs13
                case hAs13 =>
                  intro w' hSw
                  have hSb : Below P0 w7 w' := hSw; have x0 := (hSb.cell (p := ⟨w.heap.size, 1, none⟩) fl0).trans f1; have x1 := (hSb.cell (p := ⟨gA, ka, none⟩) ga).trans fk; have x2 := (hSb.cell (p := ⟨gA, ja, none⟩) ga).trans fj; have x3 := (hSb.cell (p := ⟨g0, o0 + qk, none⟩) fl5).trans f5
                  go_simp
                  try with_reducible rfl
                simp only [List.setIfInBounds_toArray, List.set_cons_zero, List.set_cons_succ]
                refine hold_take (i := 14) (d := 121) (v := ?vAs14) (listed' := #[true, true, true, true, true, true, true, true, true, true, true, true, true, true, true]) rfl (by kernel_rfl) (by kernel_rfl) (by kernel_rfl) rfl (by rfl) (by kernel_rfl) K2 ?hAs14 ?rAs14
                case hAs14 =>
                  intro w' hSw
                  have hSb : Below P0 w7 w' := hSw; have x0 := (hSb.cell (p := ⟨w.heap.size, 1, none⟩) fl0).trans f1; have x1 := (hSb.cell (p := ⟨gA, ka, none⟩) ga).trans fk; have x2 := (hSb.cell (p := ⟨gA, ja, none⟩) ga).trans fj; have x3 := (hSb.cell (p := ⟨g0, o0 + qk, none⟩) fl5).trans f5
                  go_simp
                  try with_reducible rfl
                simp only [List.setIfInBounds_toArray, List.set_cons_zero, List.set_cons_succ]
                refine hold_done (by kernel_rfl) ?_ _
                replace HIq : Hid (IntsAt w9.drew wo.heap.size (.slice (some ⟨wo.heap.size, 0, none⟩) N N) N (rowTo (Zg k) N k (j + 1))) := (Chg.drew (fun _ => False) w9).ints HIq.out (fun _ _ h => h)
                replace HBq : Hid (Below wo.heap.size wo w9.drew) := HBq.out.drew
                clear f1 fk fj f5 fl0 fl5 ga K2 HKq
                cases hg : gqB yq qj with
                | true =>
                  have HNV : Hid (notTo gy N k (j + 1) = j) := notTo_hit (HQ.out.2.1 (by unfold gqB at hg; simpa using hg))
                  go_wp2_with fail
                  go_at_call 56
                  refine (l1In_not ?hq5 _).mono ?_
                  case hq5 => omega
                  rintro e wx ⟨rfl, rfl⟩
                  go_wp2_with fail
                  go_roundw
                  case rel => exact ⟨j + 1, by omega, by go_num, congrArg (fun x : Nat => Value.int .i64 (x : Int)) HNV.out.symm, HIq.out, HBq.out⟩
                  case measure => simp [intOf]; omega
                | false =>
                  have HNV : Hid (notTo gy N k (j + 1) = notTo gy N k j) := notTo_keep (.inl fun e => absurd (HQ.out.2.2 e) (by unfold gqB at hg; simpa using hg))
                  go_wp2_with fail
                  go_at_call 56
                  refine (l1In_not ?hq6 _).mono ?_
                  case hq6 => omega
                  rintro e wx ⟨rfl, rfl⟩
                  go_wp2_with fail
                  go_roundw
                  case rel => exact ⟨j + 1, by omega, by go_num, congrArg (fun x : Nat => Value.int .i64 (x : Int)) HNV.out.symm, HIq.out, HBq.out⟩
                  case measure => simp [intOf]; omega
              · -- another answer
                have HIq : Hid (IntsAt wr wo.heap.size (.slice (some ⟨wo.heap.size, 0, none⟩) N N) N (rowTo (Zg k) N k (j + 1))) := by
                  show IntsAt _ _ _ _ _
                  rw [rowTo_keep (HL.out.keep k j (by omega) hlt hjt (and_no_right (inA_no (by omega))) (and_no_left (inB_no (by omega))))]
                  exact hI
                have HBq := Lib.hid hB
                have HNV : Hid (notTo gy N k (j + 1) = notTo gy N k j) := notTo_keep (HL.out.tK k j hlt (and_no_right (inA_no (by omega))) (and_no_left (inB_no (by omega))))
                clear hI hB
                go_wp2_with fail
                go_at_call 56
                refine (l1In_yes ?hq7 _).mono ?_
                case hq7 => omega
                rintro e wx ⟨rfl, rfl⟩
                go_wp2_with fail
                go_at_call 56
                refine (l1In_not ?hq8 _).mono ?_
                case hq8 => omega
                rintro e wx ⟨rfl, rfl⟩
                go_wp2_with fail
                go_at_call 56
                refine (l1In_not ?hq9 _).mono ?_
                case hq9 => omega
                rintro e wx ⟨rfl, rfl⟩
                go_wp2_with fail
                go_roundw
                case rel => exact ⟨j + 1, by omega, by go_num, congrArg (fun x : Nat => Value.int .i64 (x : Int)) HNV.out.symm, HIq.out, HBq.out⟩
                case measure => simp [intOf]; omega
            · by_cases hkB : k ≤ p + r
              · by_cases hjB : p + 1 ≤ j ∧ j ≤ p + r
                · obtain ⟨hj1, hj2⟩ := hjB
                  obtain ⟨ka, hka⟩ : ∃ a : Nat, a = k - p - 1 := ⟨_, rfl⟩
                  obtain ⟨ja, hja⟩ : ∃ a : Nat, a = j - p - 1 := ⟨_, rfl⟩
                  have lka : ka < r := by omega
                  have lja : ja < r := by omega
                  have HQ : Hid ((Zg k j = m1.Z (f1 ka) (f1 ja)) ∧ (y1 (f1 ka) = f1 ja ↔ gy k = j)) := by
                    show _ ∧ _
                    rw [hka, hja]
                    exact ⟨HL.out.B k j (inB_mk (by omega) (by omega)) (inB_mk (by omega) (by omega)), HL.out.tB k j (inB_mk (by omega) (by omega)) (inB_mk (by omega) (by omega))⟩
                  obtain ⟨ea, ga, fk⟩ := RB.out.row ka lka
                  obtain ⟨_, _, fj⟩ := RB.out.row ja lja
                  rw [Nat.zero_add] at fk fj
                  subst ea
                  have lqk := HL.out.l1 ka lka
                  have lqj := HL.out.l1 ja lja
                  obtain ⟨qk, hqk⟩ : ∃ q, q = f1 ka := ⟨_, rfl⟩
                  obtain ⟨qj, hqj⟩ : ∃ q, q = f1 ja := ⟨_, rfl⟩
                  rw [← hqk] at fk lqk
                  rw [← hqj] at fj lqj
                  replace HQ : Hid ((Zg k j = m1.Z qk qj) ∧ (y1 qk = qj ↔ gy k = j)) := by have := HQ.out; show _ ∧ _; rw [hqk, hqj]; exact this
                  obtain ⟨yq, hyq⟩ : ∃ q, q = y1 qk := ⟨_, rfl⟩
                  have f0 := XB.out.c0
                  have f1 := XB.out.c1
                  have f3 := (J1.out.sq.both lqk lqj).2.1
                  have f4 := (J1.out.sq.both lqk lqj).2.2
                  have f5 : w7.cell? ⟨g1, o1 + qk, none⟩ = some (.int .i64 (yq : Int)) := by rw [hyq]; exact (J1.out.notAt lqk).2.1
                  have fl0 : w.heap.size + 1 < P0 := by omega
                  have fl3 : l1.b < P0 := by have h1 := World.block_lt_of_cell? w _ (H1.out.sq.both lqk lqj).2.1; have h2 : l1.b < w.heap.size := h1; omega
                  have fl4 : l1.G qk < P0 := by have h1 := World.block_lt_of_cell? w _ (H1.out.sq.both lqk lqj).2.2; have h2 : l1.G qk < w.heap.size := h1; omega
                  have fl5 : g1 < P0 := by have h1 := World.block_lt_of_cell? w _ (H1.out.notAt lqk).2.1; have h2 : g1 < w.heap.size := h1; omega
                  replace HQ : Hid ((Zg k j = m1.Z qk qj) ∧ (yq = qj ↔ gy k = j)) := by have := HQ.out; show _ ∧ _; rw [hyq]; exact this
                  have c1 : (ka : Int) < (r : Int) := by omega
                  have c2 : (ja : Int) < (r : Int) := by omega
                  have c3 : (qk : Int) < (m1.n : Int) := by omega
                  have c4 : (qj : Int) < (m1.n : Int) := by omega
                  obtain ⟨kp, hkp⟩ : ∃ a : Nat, a = k - p := ⟨_, rfl⟩
                  obtain ⟨jp, hjp⟩ : ∃ a : Nat, a = j - p := ⟨_, rfl⟩
                  have ei1 : (k : Int) - (p : Int) = (kp : Int) := by omega
                  have ei2 : (j : Int) - (p : Int) = (jp : Int) := by omega
                  have ei3 : (kp : Int) - 1 = (ka : Int) := by omega
                  have ei4 : (jp : Int) - 1 = (ja : Int) := by omega
                  have ei5 : IntKind.i64.wrap (kp : Int) = (kp : Int) := IntWalk.i64_in _ (by omega)
                  have ei6 : IntKind.i64.wrap (jp : Int) = (jp : Int) := IntWalk.i64_in _ (by omega)
                  clear hkp hjp
                  have ei7 : IntKind.i64.wrap (ka : Int) = (ka : Int) := IntWalk.i64_in _ (by omega)
                  have ei8 : IntKind.i64.wrap (ja : Int) = (ja : Int) := IntWalk.i64_in _ (by omega)
                  clear hka hja hqk hqj hyq
                  have HIw := Lib.hid hI
                  have HBw := Lib.hid hB
                  clear hI hB
                  go_wp2_with fail
                  go_at_call 56
                  refine (l1In_not ?hq10 _).mono ?_
                  case hq10 => omega
                  rintro e wx ⟨rfl, rfl⟩
                  go_wp2_with fail
                  go_at_call 56
                  refine (l1In_yes ?hq11 _).mono ?_
                  case hq11 => omega
                  rintro e wx ⟨rfl, rfl⟩
                  go_wp2_with fail
                  go_at_call 56
                  refine (l1In_yes ?hq12 _).mono ?_
                  case hq12 => omega
                  rintro e wx ⟨rfl, rfl⟩
                  go_wp2_with fail
                  have hZv := HQ.out.1
                  have r0 : (wr.drew).frozen? ⟨wo.heap.size, j, none⟩ = false := IntsAt.frozen HIw.out j
                  have r1 : (wr.drew).cell? ⟨wo.heap.size, j, none⟩ = some (.int .i64 (rowTo (Zg k) N k j j)) := IntsAt.cell HIw.out hjt
                  have K0 : Below P0 w7 wr.drew := HK.out.drew
                  have K1 : Below P0 w7 ((wr.drew).setCell ⟨wo.heap.size, j, none⟩ (.int .i64 (m1.Z qk qj))) := K0.setCell (p := ⟨wo.heap.size, j, none⟩) (by show P0 ≤ wo.heap.size; omega) _
                  have HIq : Hid (IntsAt ((wr.drew).setCell ⟨wo.heap.size, j, none⟩ (.int .i64 (m1.Z qk qj))) wo.heap.size (.slice (some ⟨wo.heap.size, 0, none⟩) N N) N (rowTo (Zg k) N k (j + 1))) := by
                    show IntsAt _ _ _ _ _
                    rw [rowTo_set (x := m1.Z qk qj) hZv]
                    exact IntsAt.store ((Chg.drew (fun _ => False) wr).ints HIw.out (fun _ _ h => h)) j _
                  have HBq : Hid (Below wo.heap.size wo ((wr.drew).setCell ⟨wo.heap.size, j, none⟩ (.int .i64 (m1.Z qk qj)))) := (HBw.out.drew).setCell (p := ⟨wo.heap.size, j, none⟩) (Nat.le_refl _) _
                  clear hZv
                  refine region_plain (fuel := 26) (listed := #[false, false, false, false, false, false, false, false, false, false, false, false, false, false, false, false, false, false, false, false, false, false, false, false, false, false]) (fun W' => Below P0 w7 W') (by kernel_rfl) (by kernel_rfl) (by kernel_rfl) ?_
                  refine hold_take (i := 0) (d := 139) (v := ?vBr0) (listed' := #[true, false, false, false, false, false, false, false, false, false, false, false, false, false, false, false, false, false, false, false, false, false, false, false, false, false]) rfl (by kernel_rfl) (by kernel_rfl) (by kernel_rfl) rfl (by rfl) (by kernel_rfl) K0 ?hBr0 ?rBr0
                  case hBr0 =>
                    intro w' hSw
                    have hSb : Below P0 w7 w' := hSw; have x0 := (hSb.cell (p := ⟨w.heap.size + 1, 0, none⟩) fl0).trans f0; have x1 := (hSb.cell (p := ⟨gB, ka, none⟩) ga).trans fk; have x2 := (hSb.cell (p := ⟨gB, ja, none⟩) ga).trans fj; have x3 := (hSb.cell (p := ⟨l1.b, l1.o + qk, none⟩) fl3).trans f3; have x4 := (hSb.cell (p := ⟨l1.G qk, l1.O qk + qj, none⟩) fl4).trans f4
                    go_simp
                    try with_reducible rfl
                  simp only [List.setIfInBounds_toArray, List.set_cons_zero, List.set_cons_succ]
                  refine hold_take (i := 1) (d := 140) (v := ?vBr1) (listed' := #[true, true, false, false, false, false, false, false, false, false, false, false, false, false, false, false, false, false, false, false, false, false, false, false, false, false]) rfl (by kernel_rfl) (by kernel_rfl) (by kernel_rfl) rfl (by rfl) (by kernel_rfl) K0 ?hBr1 ?rBr1
                  case hBr1 =>
                    intro w' hSw
                    have hSb : Below P0 w7 w' := hSw; have x0 := (hSb.cell (p := ⟨w.heap.size + 1, 0, none⟩) fl0).trans f0; have x1 := (hSb.cell (p := ⟨gB, ka, none⟩) ga).trans fk; have x2 := (hSb.cell (p := ⟨gB, ja, none⟩) ga).trans fj; have x3 := (hSb.cell (p := ⟨l1.b, l1.o + qk, none⟩) fl3).trans f3; have x4 := (hSb.cell (p := ⟨l1.G qk, l1.O qk + qj, none⟩) fl4).trans f4
                    go_simp
                    try with_reducible rfl
                  simp only [List.setIfInBounds_toArray, List.set_cons_zero, List.set_cons_succ]
                  refine hold_take (i := 2) (d := 141) (v := ?vBr2) (listed' := #[true, true, true, false, false, false, false, false, false, false, false, false, false, false, false, false, false, false, false, false, false, false, false, false, false, false]) rfl (by kernel_rfl) (by kernel_rfl) (by kernel_rfl) rfl (by rfl) (by kernel_rfl) K0 ?hBr2 ?rBr2
                  case hBr2 =>
                    intro w' hSw
                    have hSb : Below P0 w7 w' := hSw; have x0 := (hSb.cell (p := ⟨w.heap.size + 1, 0, none⟩) fl0).trans f0; have x1 := (hSb.cell (p := ⟨gB, ka, none⟩) ga).trans fk; have x2 := (hSb.cell (p := ⟨gB, ja, none⟩) ga).trans fj; have x3 := (hSb.cell (p := ⟨l1.b, l1.o + qk, none⟩) fl3).trans f3; have x4 := (hSb.cell (p := ⟨l1.G qk, l1.O qk + qj, none⟩) fl4).trans f4
                    go_simp
                    try with_reducible rfl
                  simp only [List.setIfInBounds_toArray, List.set_cons_zero, List.set_cons_succ]
                  refine hold_take (i := 3) (d := 142) (v := ?vBr3) (listed' := #[true, true, true, true, false, false, false, false, false, false, false, false, false, false, false, false, false, false, false, false, false, false, false, false, false, false]) rfl (by kernel_rfl) (by kernel_rfl) (by kernel_rfl) rfl (by rfl) (by kernel_rfl) K0 ?hBr3 ?rBr3
                  case hBr3 =>
                    intro w' hSw
                    have hSb : Below P0 w7 w' := hSw; have x0 := (hSb.cell (p := ⟨w.heap.size + 1, 0, none⟩) fl0).trans f0; have x1 := (hSb.cell (p := ⟨gB, ka, none⟩) ga).trans fk; have x2 := (hSb.cell (p := ⟨gB, ja, none⟩) ga).trans fj; have x3 := (hSb.cell (p := ⟨l1.b, l1.o + qk, none⟩) fl3).trans f3; have x4 := (hSb.cell (p := ⟨l1.G qk, l1.O qk + qj, none⟩) fl4).trans f4
                    go_simp
                    try with_reducible rfl
                  simp only [List.setIfInBounds_toArray, List.set_cons_zero, List.set_cons_succ]
                  refine hold_take (i := 4) (d := 143) (v := ?vBr4) (listed' := #[true, true, true, true, true, false, false, false, false, false, false, false, false, false, false, false, false, false, false, false, false, false, false, false, false, false]) rfl (by kernel_rfl) (by kernel_rfl) (by kernel_rfl) rfl (by rfl) (by kernel_rfl) K0 ?hBr4 ?rBr4
                  case hBr4 =>
                    intro w' hSw
                    have hSb : Below P0 w7 w' := hSw; have x0 := (hSb.cell (p := ⟨w.heap.size + 1, 0, none⟩) fl0).trans f0; have x1 := (hSb.cell (p := ⟨gB, ka, none⟩) ga).trans fk; have x2 := (hSb.cell (p := ⟨gB, ja, none⟩) ga).trans fj; have x3 := (hSb.cell (p := ⟨l1.b, l1.o + qk, none⟩) fl3).trans f3; have x4 := (hSb.cell (p := ⟨l1.G qk, l1.O qk + qj, none⟩) fl4).trans f4
                    go_simp
                    try with_reducible rfl
                  simp only [List.setIfInBounds_toArray, List.set_cons_zero, List.set_cons_succ]
                  refine hold_take (i := 5) (d := 144) (v := ?vBr5) (listed' := #[true, true, true, true, true, true, false, false, false, false, false, false, false, false, false, false, false, false, false, false, false, false, false, false, false, false]) rfl (by kernel_rfl) (by kernel_rfl) (by kernel_rfl) rfl (by rfl) (by kernel_rfl) K0 ?hBr5 ?rBr5
                  case hBr5 =>
                    intro w' hSw
                    have hSb : Below P0 w7 w' := hSw; have x0 := (hSb.cell (p := ⟨w.heap.size + 1, 0, none⟩) fl0).trans f0; have x1 := (hSb.cell (p := ⟨gB, ka, none⟩) ga).trans fk; have x2 := (hSb.cell (p := ⟨gB, ja, none⟩) ga).trans fj; have x3 := (hSb.cell (p := ⟨l1.b, l1.o + qk, none⟩) fl3).trans f3; have x4 := (hSb.cell (p := ⟨l1.G qk, l1.O qk + qj, none⟩) fl4).trans f4
                    go_simp
                    try with_reducible rfl
                  simp only [List.setIfInBounds_toArray, List.set_cons_zero, List.set_cons_succ]
                  refine hold_take (i := 6) (d := 145) (v := ?vBr6) (listed' := #[true, true, true, true, true, true, true, false, false, false, false, false, false, false, false, false, false, false, false, false, false, false, false, false, false, false]) rfl (by kernel_rfl) (by kernel_rfl) (by kernel_rfl) rfl (by rfl) (by kernel_rfl) K0 ?hBr6 ?rBr6
                  case hBr6 =>
                    intro w' hSw
                    have hSb : Below P0 w7 w' := hSw; have x0 := (hSb.cell (p := ⟨w.heap.size + 1, 0, none⟩) fl0).trans f0; have x1 := (hSb.cell (p := ⟨gB, ka, none⟩) ga).trans fk; have x2 := (hSb.cell (p := ⟨gB, ja, none⟩) ga).trans fj; have x3 := (hSb.cell (p := ⟨l1.b, l1.o + qk, none⟩) fl3).trans f3; have x4 := (hSb.cell (p := ⟨l1.G qk, l1.O qk + qj, none⟩) fl4).trans f4
                    go_simp
                    try with_reducible rfl
                  simp only [List.setIfInBounds_toArray, List.set_cons_zero, List.set_cons_succ]
                  refine hold_take (i := 7) (d := 146) (v := ?vBr7) (listed' := #[true, true, true, true, true, true, true, true, false, false, false, false, false, false, false, false, false, false, false, false, false, false, false, false, false, false]) rfl (by kernel_rfl) (by kernel_rfl) (by kernel_rfl) rfl (by rfl) (by kernel_rfl) K0 ?hBr7 ?rBr7
                  case hBr7 =>
                    intro w' hSw
                    have hSb : Below P0 w7 w' := hSw; have x0 := (hSb.cell (p := ⟨w.heap.size + 1, 0, none⟩) fl0).trans f0; have x1 := (hSb.cell (p := ⟨gB, ka, none⟩) ga).trans fk; have x2 := (hSb.cell (p := ⟨gB, ja, none⟩) ga).trans fj; have x3 := (hSb.cell (p := ⟨l1.b, l1.o + qk, none⟩) fl3).trans f3; have x4 := (hSb.cell (p := ⟨l1.G qk, l1.O qk + qj, none⟩) fl4).trans f4
                    go_simp
                    try with_reducible rfl
                  simp only [List.setIfInBounds_toArray, List.set_cons_zero, List.set_cons_succ]
                  refine hold_take (i := 8) (d := 147) (v := ?vBr8) (listed' := #[true, true, true, true, true, true, true, true, true, false, false, false, false, false, false, false, false, false, false, false, false, false, false, false, false, false]) rfl (by kernel_rfl) (by kernel_rfl) (by kernel_rfl) rfl (by rfl) (by kernel_rfl) K0 ?hBr8 ?rBr8
                  case hBr8 =>
                    intro w' hSw
                    have hSb : Below P0 w7 w' := hSw; have x0 := (hSb.cell (p := ⟨w.heap.size + 1, 0, none⟩) fl0).trans f0; have x1 := (hSb.cell (p := ⟨gB, ka, none⟩) ga).trans fk; have x2 := (hSb.cell (p := ⟨gB, ja, none⟩) ga).trans fj; have x3 := (hSb.cell (p := ⟨l1.b, l1.o + qk, none⟩) fl3).trans f3; have x4 := (hSb.cell (p := ⟨l1.G qk, l1.O qk + qj, none⟩) fl4).trans f4
                    go_simp
                    try with_reducible rfl
                  simp only [List.setIfInBounds_toArray, List.set_cons_zero, List.set_cons_succ]
                  refine hold_take (i := 9) (d := 148) (v := ?vBr9) (listed' := #[true, true, true, true, true, true, true, true, true, true, false, false, false, false, false, false, false, false, false, false, false, false, false, false, false, false]) rfl (by kernel_rfl) (by kernel_rfl) (by kernel_rfl) rfl (by rfl) (by kernel_rfl) K0 ?hBr9 ?rBr9
                  case hBr9 =>
                    intro w' hSw
                    have hSb : Below P0 w7 w' := hSw; have x0 := (hSb.cell (p := ⟨w.heap.size + 1, 0, none⟩) fl0).trans f0; have x1 := (hSb.cell (p := ⟨gB, ka, none⟩) ga).trans fk; have x2 := (hSb.cell (p := ⟨gB, ja, none⟩) ga).trans fj; have x3 := (hSb.cell (p := ⟨l1.b, l1.o + qk, none⟩) fl3).trans f3; have x4 := (hSb.cell (p := ⟨l1.G qk, l1.O qk + qj, none⟩) fl4).trans f4
                    go_simp
                    try with_reducible rfl
                  simp only [List.setIfInBounds_toArray, List.set_cons_zero, List.set_cons_succ]
                  refine hold_take (i := 10) (d := 149) (v := ?vBr10) (listed' := #[true, true, true, true, true, true, true, true, true, true, true, false, false, false, false, false, false, false, false, false, false, false, false, false, false, false]) rfl (by kernel_rfl) (by kernel_rfl) (by kernel_rfl) rfl (by rfl) (by kernel_rfl) K0 ?hBr10 ?rBr10
                  case hBr10 =>
                    intro w' hSw
                    have hSb : Below P0 w7 w' := hSw; have x0 := (hSb.cell (p := ⟨w.heap.size + 1, 0, none⟩) fl0).trans f0; have x1 := (hSb.cell (p := ⟨gB, ka, none⟩) ga).trans fk; have x2 := (hSb.cell (p := ⟨gB, ja, none⟩) ga).trans fj; have x3 := (hSb.cell (p := ⟨l1.b, l1.o + qk, none⟩) fl3).trans f3; have x4 := (hSb.cell (p := ⟨l1.G qk, l1.O qk + qj, none⟩) fl4).trans f4
                    go_simp
                    try with_reducible rfl
                  simp only [List.setIfInBounds_toArray, List.set_cons_zero, List.set_cons_succ]
                  refine hold_take (i := 11) (d := 150) (v := ?vBr11) (listed' := #[true, true, true, true, true, true, true, true, true, true, true, true, false, false, false, false, false, false, false, false, false, false, false, false, false, false]) rfl (by kernel_rfl) (by kernel_rfl) (by kernel_rfl) rfl (by rfl) (by kernel_rfl) K0 ?hBr11 ?rBr11
                  case hBr11 =>
                    intro w' hSw
                    have hSb : Below P0 w7 w' := hSw; have x0 := (hSb.cell (p := ⟨w.heap.size + 1, 0, none⟩) fl0).trans f0; have x1 := (hSb.cell (p := ⟨gB, ka, none⟩) ga).trans fk; have x2 := (hSb.cell (p := ⟨gB, ja, none⟩) ga).trans fj; have x3 := (hSb.cell (p := ⟨l1.b, l1.o + qk, none⟩) fl3).trans f3; have x4 := (hSb.cell (p := ⟨l1.G qk, l1.O qk + qj, none⟩) fl4).trans f4
                    go_simp
                    try with_reducible rfl
                  simp only [List.setIfInBounds_toArray, List.set_cons_zero, List.set_cons_succ]
                  refine hold_take (i := 12) (d := 151) (v := ?vBr12) (listed' := #[true, true, true, true, true, true, true, true, true, true, true, true, true, false, false, false, false, false, false, false, false, false, false, false, false, false]) rfl (by kernel_rfl) (by kernel_rfl) (by kernel_rfl) rfl (by rfl) (by kernel_rfl) K0 ?hBr12 ?rBr12
                  case hBr12 =>
                    intro w' hSw
                    have hSb : Below P0 w7 w' := hSw; have x0 := (hSb.cell (p := ⟨w.heap.size + 1, 0, none⟩) fl0).trans f0; have x1 := (hSb.cell (p := ⟨gB, ka, none⟩) ga).trans fk; have x2 := (hSb.cell (p := ⟨gB, ja, none⟩) ga).trans fj; have x3 := (hSb.cell (p := ⟨l1.b, l1.o + qk, none⟩) fl3).trans f3; have x4 := (hSb.cell (p := ⟨l1.G qk, l1.O qk + qj, none⟩) fl4).trans f4
                    go_simp
                    try with_reducible rfl
                  simp only [List.setIfInBounds_toArray, List.set_cons_zero, List.set_cons_succ]
                  refine hold_take (i := 13) (d := 152) (v := ?vBr13) (listed' := #[true, true, true, true, true, true, true, true, true, true, true, true, true, true, false, false, false, false, false, false, false, false, false, false, false, false]) rfl (by kernel_rfl) (by kernel_rfl) (by kernel_rfl) rfl (by rfl) (by kernel_rfl) K0 ?hBr13 ?rBr13
                  case hBr13 =>
                    intro w' hSw
                    have hSb : Below P0 w7 w' := hSw; have x0 := (hSb.cell (p := ⟨w.heap.size + 1, 0, none⟩) fl0).trans f0; have x1 := (hSb.cell (p := ⟨gB, ka, none⟩) ga).trans fk; have x2 := (hSb.cell (p := ⟨gB, ja, none⟩) ga).trans fj; have x3 := (hSb.cell (p := ⟨l1.b, l1.o + qk, none⟩) fl3).trans f3; have x4 := (hSb.cell (p := ⟨l1.G qk, l1.O qk + qj, none⟩) fl4).trans f4
                    go_simp
                    try with_reducible rfl
                  simp only [List.setIfInBounds_toArray, List.set_cons_zero, List.set_cons_succ]
                  refine hold_take (i := 14) (d := 153) (v := ?vBr14) (listed' := #[true, true, true, true, true, true, true, true, true, true, true, true, true, true, true, false, false, false, false, false, false, false, false, false, false, false]) rfl (by kernel_rfl) (by kernel_rfl) (by kernel_rfl) rfl (by rfl) (by kernel_rfl) K0 ?hBr14 ?rBr14
                  case hBr14 =>
                    intro w' hSw
                    have hSb : Below P0 w7 w' := hSw; have x0 := (hSb.cell (p := ⟨w.heap.size + 1, 0, none⟩) fl0).trans f0; have x1 := (hSb.cell (p := ⟨gB, ka, none⟩) ga).trans fk; have x2 := (hSb.cell (p := ⟨gB, ja, none⟩) ga).trans fj; have x3 := (hSb.cell (p := ⟨l1.b, l1.o + qk, none⟩) fl3).trans f3; have x4 := (hSb.cell (p := ⟨l1.G qk, l1.O qk + qj, none⟩) fl4).trans f4
                    go_simp
                    try with_reducible rfl
                  simp only [List.setIfInBounds_toArray, List.set_cons_zero, List.set_cons_succ]
                  refine hold_take (i := 15) (d := 154) (v := ?vBr15) (listed' := #[true, true, true, true, true, true, true, true, true, true, true, true, true, true, true, true, false, false, false, false, false, false, false, false, false, false]) rfl (by kernel_rfl) (by kernel_rfl) (by kernel_rfl) rfl (by rfl) (by kernel_rfl) K0 ?hBr15 ?rBr15
                  case hBr15 =>
                    intro w' hSw
                    have hSb : Below P0 w7 w' := hSw; have x0 := (hSb.cell (p := ⟨w.heap.size + 1, 0, none⟩) fl0).trans f0; have x1 := (hSb.cell (p := ⟨gB, ka, none⟩) ga).trans fk; have x2 := (hSb.cell (p := ⟨gB, ja, none⟩) ga).trans fj; have x3 := (hSb.cell (p := ⟨l1.b, l1.o + qk, none⟩) fl3).trans f3; have x4 := (hSb.cell (p := ⟨l1.G qk, l1.O qk + qj, none⟩) fl4).trans f4
                    go_simp
                    try with_reducible rfl
                  simp only [List.setIfInBounds_toArray, List.set_cons_zero, List.set_cons_succ]
                  refine hold_take (i := 16) (d := 155) (v := ?vBr16) (listed' := #[true, true, true, true, true, true, true, true, true, true, true, true, true, true, true, true, true, false, false, false, false, false, false, false, false, false]) rfl (by kernel_rfl) (by kernel_rfl) (by kernel_rfl) rfl (by rfl) (by kernel_rfl) K0 ?hBr16 ?rBr16
                  case hBr16 =>
                    intro w' hSw
                    have hSb : Below P0 w7 w' := hSw; have x0 := (hSb.cell (p := ⟨w.heap.size + 1, 0, none⟩) fl0).trans f0; have x1 := (hSb.cell (p := ⟨gB, ka, none⟩) ga).trans fk; have x2 := (hSb.cell (p := ⟨gB, ja, none⟩) ga).trans fj; have x3 := (hSb.cell (p := ⟨l1.b, l1.o + qk, none⟩) fl3).trans f3; have x4 := (hSb.cell (p := ⟨l1.G qk, l1.O qk + qj, none⟩) fl4).trans f4
                    go_simp
                    try with_reducible rfl
                  simp only [List.setIfInBounds_toArray, List.set_cons_zero, List.set_cons_succ]
                  refine hold_take (i := 17) (d := 156) (v := ?vBr17) (listed' := #[true, true, true, true, true, true, true, true, true, true, true, true, true, true, true, true, true, true, false, false, false, false, false, false, false, false]) rfl (by kernel_rfl) (by kernel_rfl) (by kernel_rfl) rfl (by rfl) (by kernel_rfl) K0 ?hBr17 ?rBr17
                  case hBr17 =>
                    intro w' hSw
                    have hSb : Below P0 w7 w' := hSw; have x0 := (hSb.cell (p := ⟨w.heap.size + 1, 0, none⟩) fl0).trans f0; have x1 := (hSb.cell (p := ⟨gB, ka, none⟩) ga).trans fk; have x2 := (hSb.cell (p := ⟨gB, ja, none⟩) ga).trans fj; have x3 := (hSb.cell (p := ⟨l1.b, l1.o + qk, none⟩) fl3).trans f3; have x4 := (hSb.cell (p := ⟨l1.G qk, l1.O qk + qj, none⟩) fl4).trans f4
                    go_simp
                    try with_reducible rfl
                  simp only [List.setIfInBounds_toArray, List.set_cons_zero, List.set_cons_succ]
                  refine hold_take (i := 18) (d := 157) (v := ?vBr18) (listed' := #[true, true, true, true, true, true, true, true, true, true, true, true, true, true, true, true, true, true, true, false, false, false, false, false, false, false]) rfl (by kernel_rfl) (by kernel_rfl) (by kernel_rfl) rfl (by rfl) (by kernel_rfl) K0 ?hBr18 ?rBr18
                  case hBr18 =>
                    intro w' hSw
                    have hSb : Below P0 w7 w' := hSw; have x0 := (hSb.cell (p := ⟨w.heap.size + 1, 0, none⟩) fl0).trans f0; have x1 := (hSb.cell (p := ⟨gB, ka, none⟩) ga).trans fk; have x2 := (hSb.cell (p := ⟨gB, ja, none⟩) ga).trans fj; have x3 := (hSb.cell (p := ⟨l1.b, l1.o + qk, none⟩) fl3).trans f3; have x4 := (hSb.cell (p := ⟨l1.G qk, l1.O qk + qj, none⟩) fl4).trans f4
                    go_simp
                    try with_reducible rfl
                  simp only [List.setIfInBounds_toArray, List.set_cons_zero, List.set_cons_succ]
                  refine hold_take (i := 19) (d := 158) (v := ?vBr19) (listed' := #[true, true, true, true, true, true, true, true, true, true, true, true, true, true, true, true, true, true, true, true, false, false, false, false, false, false]) rfl (by kernel_rfl) (by kernel_rfl) (by kernel_rfl) rfl (by rfl) (by kernel_rfl) K0 ?hBr19 ?rBr19
                  case hBr19 =>
                    intro w' hSw
                    have hSb : Below P0 w7 w' := hSw; have x0 := (hSb.cell (p := ⟨w.heap.size + 1, 0, none⟩) fl0).trans f0; have x1 := (hSb.cell (p := ⟨gB, ka, none⟩) ga).trans fk; have x2 := (hSb.cell (p := ⟨gB, ja, none⟩) ga).trans fj; have x3 := (hSb.cell (p := ⟨l1.b, l1.o + qk, none⟩) fl3).trans f3; have x4 := (hSb.cell (p := ⟨l1.G qk, l1.O qk + qj, none⟩) fl4).trans f4
                    go_simp
                    try with_reducible rfl
                  simp only [List.setIfInBounds_toArray, List.set_cons_zero, List.set_cons_succ]
                  refine hold_take (i := 20) (d := 159) (v := ?vBr20) (listed' := #[true, true, true, true, true, true, true, true, true, true, true, true, true, true, true, true, true, true, true, true, true, false, false, false, false, false]) rfl (by kernel_rfl) (by kernel_rfl) (by kernel_rfl) rfl (by rfl) (by kernel_rfl) K0 ?hBr20 ?rBr20
                  case hBr20 =>
                    intro w' hSw
                    have hSb : Below P0 w7 w' := hSw; have x0 := (hSb.cell (p := ⟨w.heap.size + 1, 0, none⟩) fl0).trans f0; have x1 := (hSb.cell (p := ⟨gB, ka, none⟩) ga).trans fk; have x2 := (hSb.cell (p := ⟨gB, ja, none⟩) ga).trans fj; have x3 := (hSb.cell (p := ⟨l1.b, l1.o + qk, none⟩) fl3).trans f3; have x4 := (hSb.cell (p := ⟨l1.G qk, l1.O qk + qj, none⟩) fl4).trans f4
                    go_simp
                    try with_reducible rfl
                  simp only [List.setIfInBounds_toArray, List.set_cons_zero, List.set_cons_succ]
                  refine hold_take (i := 21) (d := 160) (v := ?vBr21) (listed' := #[true, true, true, true, true, true, true, true, true, true, true, true, true, true, true, true, true, true, true, true, true, true, false, false, false, false]) rfl (by kernel_rfl) (by kernel_rfl) (by kernel_rfl) rfl (by rfl) (by kernel_rfl) K0 ?hBr21 ?rBr21
                  case hBr21 =>
                    intro w' hSw
                    have hSb : Below P0 w7 w' := hSw; have x0 := (hSb.cell (p := ⟨w.heap.size + 1, 0, none⟩) fl0).trans f0; have x1 := (hSb.cell (p := ⟨gB, ka, none⟩) ga).trans fk; have x2 := (hSb.cell (p := ⟨gB, ja, none⟩) ga).trans fj; have x3 := (hSb.cell (p := ⟨l1.b, l1.o + qk, none⟩) fl3).trans f3; have x4 := (hSb.cell (p := ⟨l1.G qk, l1.O qk + qj, none⟩) fl4).trans f4
                    go_simp
                    try with_reducible rfl
                  simp only [List.setIfInBounds_toArray, List.set_cons_zero, List.set_cons_succ]
                  refine hold_take (i := 22) (d := 161) (v := ?vBr22) (listed' := #[true, true, true, true, true, true, true, true, true, true, true, true, true, true, true, true, true, true, true, true, true, true, true, false, false, false]) rfl (by kernel_rfl) (by kernel_rfl) (by kernel_rfl) rfl (by rfl) (by kernel_rfl) K0 ?hBr22 ?rBr22
                  case hBr22 =>
                    intro w' hSw
                    have hSb : Below P0 w7 w' := hSw; have x0 := (hSb.cell (p := ⟨w.heap.size + 1, 0, none⟩) fl0).trans f0; have x1 := (hSb.cell (p := ⟨gB, ka, none⟩) ga).trans fk; have x2 := (hSb.cell (p := ⟨gB, ja, none⟩) ga).trans fj; have x3 := (hSb.cell (p := ⟨l1.b, l1.o + qk, none⟩) fl3).trans f3; have x4 := (hSb.cell (p := ⟨l1.G qk, l1.O qk + qj, none⟩) fl4).trans f4
                    go_simp
                    try with_reducible rfl
                  simp only [List.setIfInBounds_toArray, List.set_cons_zero, List.set_cons_succ]
                  refine hold_take (i := 23) (d := 162) (v := ?vBr23) (listed' := #[true, true, true, true, true, true, true, true, true, true, true, true, true, true, true, true, true, true, true, true, true, true, true, true, false, false]) rfl (by kernel_rfl) (by kernel_rfl) (by kernel_rfl) rfl (by rfl) (by kernel_rfl) K0 ?hBr23 ?rBr23
                  case hBr23 =>
                    intro w' hSw
                    have hSb : Below P0 w7 w' := hSw; have x0 := (hSb.cell (p := ⟨w.heap.size + 1, 0, none⟩) fl0).trans f0; have x1 := (hSb.cell (p := ⟨gB, ka, none⟩) ga).trans fk; have x2 := (hSb.cell (p := ⟨gB, ja, none⟩) ga).trans fj; have x3 := (hSb.cell (p := ⟨l1.b, l1.o + qk, none⟩) fl3).trans f3; have x4 := (hSb.cell (p := ⟨l1.G qk, l1.O qk + qj, none⟩) fl4).trans f4
                    go_simp
                    try with_reducible rfl
                  simp only [List.setIfInBounds_toArray, List.set_cons_zero, List.set_cons_succ]
                  refine hold_take (i := 24) (d := 163) (v := ?vBr24) (listed' := #[true, true, true, true, true, true, true, true, true, true, true, true, true, true, true, true, true, true, true, true, true, true, true, true, true, false]) rfl (by kernel_rfl) (by kernel_rfl) (by kernel_rfl) rfl (by rfl) (by kernel_rfl) K0 ?hBr24 ?rBr24
                  case hBr24 =>
                    intro w' hSw
                    have hSb : Below P0 w7 w' := hSw; have x0 := (hSb.cell (p := ⟨w.heap.size + 1, 0, none⟩) fl0).trans f0; have x1 := (hSb.cell (p := ⟨gB, ka, none⟩) ga).trans fk; have x2 := (hSb.cell (p := ⟨gB, ja, none⟩) ga).trans fj; have x3 := (hSb.cell (p := ⟨l1.b, l1.o + qk, none⟩) fl3).trans f3; have x4 := (hSb.cell (p := ⟨l1.G qk, l1.O qk + qj, none⟩) fl4).trans f4
                    go_simp
                    try with_reducible rfl
                  simp only [List.setIfInBounds_toArray, List.set_cons_zero, List.set_cons_succ]
                  refine hold_store (i := 25) (w' := ((wr.drew).setCell ⟨wo.heap.size, j, none⟩ (.int .i64 (m1.Z qk qj)))) (listed' := #[true, true, true, true, true, true, true, true, true, true, true, true, true, true, true, true, true, true, true, true, true, true, true, true, true, true]) rfl (by kernel_rfl) rfl (by rfl) (by kernel_rfl) ?stB K1 ?_
                  case stB =>
                    go_simp
                    try with_reducible rfl
                  refine hold_done (by kernel_rfl) ?_ _
                  have HKq := Lib.hid K1
                  clear r0 r1 K0 K1 HIw HBw f0 f3 f4 fl3 fl4
                  generalize ((wr.drew).setCell ⟨wo.heap.size, j, none⟩ (.int .i64 (m1.Z qk qj))) = w9 at HIq HBq HKq ⊢
                  have t2 : ((yq : Int) == (qj : Int)) = gqB yq qj := by unfold gqB; rw [Bool.eq_iff_iff]; simp; omega
                  have t3 : decide ((yq : Int) = (qj : Int)) = gqB yq qj := by unfold gqB; rw [Bool.eq_iff_iff]; simp; omega
                  go_wp2_with fail
                  have K2 : Below P0 w7 w9.drew := HKq.out.drew
                  refine region_plain (fuel := 21) (listed := #[false, false, false, false, false, false, false, false, false, false, false, false, false, false, false, false, false, false, false, false, false]) (fun W' => Below P0 w7 W') (by kernel_rfl) (by kernel_rfl) (by kernel_rfl) ?_
                  refine hold_take (i := 0) (d := 164) (v := ?vBs0) (listed' := #[true, false, false, false, false, false, false, false, false, false, false, false, false, false, false, false, false, false, false, false, false]) rfl (by kernel_rfl) (by kernel_rfl) (by kernel_rfl) rfl (by rfl) (by kernel_rfl) K2 ?hBs0 ?rBs0
                  case hBs0 =>
                    intro w' hSw
                    have hSb : Below P0 w7 w' := hSw; have x0 := (hSb.cell (p := ⟨w.heap.size + 1, 1, none⟩) fl0).trans f1; have x1 := (hSb.cell (p := ⟨gB, ka, none⟩) ga).trans fk; have x2 := (hSb.cell (p := ⟨gB, ja, none⟩) ga).trans fj; have x3 := (hSb.cell (p := ⟨g1, o1 + qk, none⟩) fl5).trans f5
                    go_simp
                    try with_reducible rfl
                  simp only [List.setIfInBounds_toArray, List.set_cons_zero, List.set_cons_succ]
                  refine hold_take (i := 1) (d := 165) (v := ?vBs1) (listed' := #[true, true, false, false, false, false, false, false, false, false, false, false, false, false, false, false, false, false, false, false, false]) rfl (by kernel_rfl) (by kernel_rfl) (by kernel_rfl) rfl (by rfl) (by kernel_rfl) K2 ?hBs1 ?rBs1
                  case hBs1 =>
                    intro w' hSw
                    have hSb : Below P0 w7 w' := hSw; have x0 := (hSb.cell (p := ⟨w.heap.size + 1, 1, none⟩) fl0).trans f1; have x1 := (hSb.cell (p := ⟨gB, ka, none⟩) ga).trans fk; have x2 := (hSb.cell (p := ⟨gB, ja, none⟩) ga).trans fj; have x3 := (hSb.cell (p := ⟨g1, o1 + qk, none⟩) fl5).trans f5
                    go_simp
                    try with_reducible rfl
                  simp only [List.setIfInBounds_toArray, List.set_cons_zero, List.set_cons_succ]
                  refine hold_take (i := 2) (d := 166) (v := ?vBs2) (listed' := #[true, true, true, false, false, false, false, false, false, false, false, false, false, false, false, false, false, false, false, false, false]) rfl (by kernel_rfl) (by kernel_rfl) (by kernel_rfl) rfl (by rfl) (by kernel_rfl) K2 ?hBs2 ?rBs2
                  case hBs2 =>
                    intro w' hSw
                    have hSb : Below P0 w7 w' := hSw; have x0 := (hSb.cell (p := ⟨w.heap.size + 1, 1, none⟩) fl0).trans f1; have x1 := (hSb.cell (p := ⟨gB, ka, none⟩) ga).trans fk; have x2 := (hSb.cell (p := ⟨gB, ja, none⟩) ga).trans fj; have x3 := (hSb.cell (p := ⟨g1, o1 + qk, none⟩) fl5).trans f5
                    go_simp
                    try with_reducible rfl
                  simp only [List.setIfInBounds_toArray, List.set_cons_zero, List.set_cons_succ]
                  refine hold_take (i := 3) (d := 167) (v := ?vBs3) (listed' := #[true, true, true, true, false, false, false, false, false, false, false, false, false, false, false, false, false, false, false, false, false]) rfl (by kernel_rfl) (by kernel_rfl) (by kernel_rfl) rfl (by rfl) (by kernel_rfl) K2 ?hBs3 ?rBs3
                  case hBs3 =>
                    intro w' hSw
                    have hSb : Below P0 w7 w' := hSw; have x0 := (hSb.cell (p := ⟨w.heap.size + 1, 1, none⟩) fl0).trans f1; have x1 := (hSb.cell (p := ⟨gB, ka, none⟩) ga).trans fk; have x2 := (hSb.cell (p := ⟨gB, ja, none⟩) ga).trans fj; have x3 := (hSb.cell (p := ⟨g1, o1 + qk, none⟩) fl5).trans f5
                    go_simp
                    try with_reducible rfl
                  simp only [List.setIfInBounds_toArray, List.set_cons_zero, List.set_cons_succ]
                  refine hold_take (i := 4) (d := 168) (v := ?vBs4) (listed' := #[true, true, true, true, true, false, false, false, false, false, false, false, false, false, false, false, false, false, false, false, false]) rfl (by kernel_rfl) (by kernel_rfl) (by kernel_rfl) rfl (by rfl) (by kernel_rfl) K2 ?hBs4 ?rBs4
                  case hBs4 =>
                    intro w' hSw
                    have hSb : Below P0 w7 w' := hSw; have x0 := (hSb.cell (p := ⟨w.heap.size + 1, 1, none⟩) fl0).trans f1; have x1 := (hSb.cell (p := ⟨gB, ka, none⟩) ga).trans fk; have x2 := (hSb.cell (p := ⟨gB, ja, none⟩) ga).trans fj; have x3 := (hSb.cell (p := ⟨g1, o1 + qk, none⟩) fl5).trans f5
                    go_simp
                    try with_reducible rfl
                  simp only [List.setIfInBounds_toArray, List.set_cons_zero, List.set_cons_succ]
                  refine hold_take (i := 5) (d := 169) (v := ?vBs5) (listed' := #[true, true, true, true, true, true, false, false, false, false, false, false, false, false, false, false, false, false, false, false, false]) rfl (by kernel_rfl) (by kernel_rfl) (by kernel_rfl) rfl (by rfl) (by kernel_rfl) K2 ?hBs5 ?rBs5
                  case hBs5 =>
                    intro w' hSw
                    have hSb : Below P0 w7 w' := hSw; have x0 := (hSb.cell (p := ⟨w.heap.size + 1, 1, none⟩) fl0).trans f1; have x1 := (hSb.cell (p := ⟨gB, ka, none⟩) ga).trans fk; have x2 := (hSb.cell (p := ⟨gB, ja, none⟩) ga).trans fj; have x3 := (hSb.cell (p := ⟨g1, o1 + qk, none⟩) fl5).trans f5
                    go_simp
                    try with_reducible rfl
                  simp only [List.setIfInBounds_toArray, List.set_cons_zero, List.set_cons_succ]
                  refine hold_take (i := 6) (d := 170) (v := ?vBs6) (listed' := #[true, true, true, true, true, true, true, false, false, false, false, false, false, false, false, false, false, false, false, false, false]) rfl (by kernel_rfl) (by kernel_rfl) (by kernel_rfl) rfl (by rfl) (by kernel_rfl) K2 ?hBs6 ?rBs6
                  case hBs6 =>
                    intro w' hSw
                    have hSb : Below P0 w7 w' := hSw; have x0 := (hSb.cell (p := ⟨w.heap.size + 1, 1, none⟩) fl0).trans f1; have x1 := (hSb.cell (p := ⟨gB, ka, none⟩) ga).trans fk; have x2 := (hSb.cell (p := ⟨gB, ja, none⟩) ga).trans fj; have x3 := (hSb.cell (p := ⟨g1, o1 + qk, none⟩) fl5).trans f5
                    go_simp
                    try with_reducible rfl
                  simp only [List.setIfInBounds_toArray, List.set_cons_zero, List.set_cons_succ]
                  refine hold_take (i := 7) (d := 171) (v := ?vBs7) (listed' := #[true, true, true, true, true, true, true, true, false, false, false, false, false, false, false, false, false, false, false, false, false]) rfl (by kernel_rfl) (by kernel_rfl) (by kernel_rfl) rfl (by rfl) (by kernel_rfl) K2 ?hBs7 ?rBs7
                  case hBs7 =>
                    intro w' hSw
                    have hSb : Below P0 w7 w' := hSw; have x0 := (hSb.cell (p := ⟨w.heap.size + 1, 1, none⟩) fl0).trans f1; have x1 := (hSb.cell (p := ⟨gB, ka, none⟩) ga).trans fk; have x2 := (hSb.cell (p := ⟨gB, ja, none⟩) ga).trans fj; have x3 := (hSb.cell (p := ⟨g1, o1 + qk, none⟩) fl5).trans f5
                    go_simp
                    try with_reducible rfl
                  simp only [List.setIfInBounds_toArray, List.set_cons_zero, List.set_cons_succ]
                  refine hold_take (i := 8) (d := 172) (v := ?vBs8) (listed' := #[true, true, true, true, true, true, true, true, true, false, false, false, false, false, false, false, false, false, false, false, false]) rfl (by kernel_rfl) (by kernel_rfl) (by kernel_rfl) rfl (by rfl) (by kernel_rfl) K2 ?hBs8 ?rBs8
                  case hBs8 =>
                    intro w' hSw
                    have hSb : Below P0 w7 w' := hSw; have x0 := (hSb.cell (p := ⟨w.heap.size + 1, 1, none⟩) fl0).trans f1; have x1 := (hSb.cell (p := ⟨gB, ka, none⟩) ga).trans fk; have x2 := (hSb.cell (p := ⟨gB, ja, none⟩) ga).trans fj; have x3 := (hSb.cell (p := ⟨g1, o1 + qk, none⟩) fl5).trans f5
                    go_simp
                    try with_reducible rfl
                  simp only [List.setIfInBounds_toArray, List.set_cons_zero, List.set_cons_succ]
                  refine hold_take (i := 9) (d := 173) (v := ?vBs9) (listed' := #[true, true, true, true, true, true, true, true, true, true, false, false, false, false, false, false, false, false, false, false, false]) rfl (by kernel_rfl) (by kernel_rfl) (by kernel_rfl) rfl (by rfl) (by kernel_rfl) K2 ?hBs9 ?rBs9
                  case hBs9 =>
                    intro w' hSw
                    have hSb : Below P0 w7 w' := hSw; have x0 := (hSb.cell (p := ⟨w.heap.size + 1, 1, none⟩) fl0).trans f1; have x1 := (hSb.cell (p := ⟨gB, ka, none⟩) ga).trans fk; have x2 := (hSb.cell (p := ⟨gB, ja, none⟩) ga).trans fj; have x3 := (hSb.cell (p := ⟨g1, o1 + qk, none⟩) fl5).trans f5
                    go_simp
                    try with_reducible rfl
                  simp only [List.setIfInBounds_toArray, List.set_cons_zero, List.set_cons_succ]
                  refine hold_take (i := 10) (d := 174) (v := ?vBs10) (listed' := #[true, true, true, true, true, true, true, true, true, true, true, false, false, false, false, false, false, false, false, false, false]) rfl (by kernel_rfl) (by kernel_rfl) (by kernel_rfl) rfl (by rfl) (by kernel_rfl) K2 ?hBs10 ?rBs10
                  case hBs10 =>
                    intro w' hSw
                    have hSb : Below P0 w7 w' := hSw; have x0 := (hSb.cell (p := ⟨w.heap.size + 1, 1, none⟩) fl0).trans f1; have x1 := (hSb.cell (p := ⟨gB, ka, none⟩) ga).trans fk; have x2 := (hSb.cell (p := ⟨gB, ja, none⟩) ga).trans fj; have x3 := (hSb.cell (p := ⟨g1, o1 + qk, none⟩) fl5).trans f5
                    go_simp
                    try with_reducible rfl
                  simp only [List.setIfInBounds_toArray, List.set_cons_zero, List.set_cons_succ]
                  refine hold_take (i := 11) (d := 175) (v := ?vBs11) (listed' := #[true, true, true, true, true, true, true, true, true, true, true, true, false, false, false, false, false, false, false, false, false]) rfl (by kernel_rfl) (by kernel_rfl) (by kernel_rfl) rfl (by rfl) (by kernel_rfl) K2 ?hBs11 ?rBs11
                  case hBs11 =>
                    intro w' hSw
                    have hSb : Below P0 w7 w' := hSw; have x0 := (hSb.cell (p := ⟨w.heap.size + 1, 1, none⟩) fl0).trans f1; have x1 := (hSb.cell (p := ⟨gB, ka, none⟩) ga).trans fk; have x2 := (hSb.cell (p := ⟨gB, ja, none⟩) ga).trans fj; have x3 := (hSb.cell (p := ⟨g1, o1 + qk, none⟩) fl5).trans f5
                    go_simp
                    try with_reducible rfl
                  simp only [List.setIfInBounds_toArray, List.set_cons_zero, List.set_cons_succ]
                  refine hold_take (i := 12) (d := 176) (v := ?vBs12) (listed' := #[true, true, true, true, true, true, true, true, true, true, true, true, true, false, false, false, false, false, false, false, false]) rfl (by kernel_rfl) (by kernel_rfl) (by kernel_rfl) rfl (by rfl) (by kernel_rfl) K2 ?hBs12 ?rBs12
                  case hBs12 =>
                    intro w' hSw
                    have hSb : Below P0 w7 w' := hSw; have x0 := (hSb.cell (p := ⟨w.heap.size + 1, 1, none⟩) fl0).trans f1; have x1 := (hSb.cell (p := ⟨gB, ka, none⟩) ga).trans fk; have x2 := (hSb.cell (p := ⟨gB, ja, none⟩) ga).trans fj; have x3 := (hSb.cell (p := ⟨g1, o1 + qk, none⟩) fl5).trans f5
                    go_simp
                    try with_reducible rfl
                  simp only [List.setIfInBounds_toArray, List.set_cons_zero, List.set_cons_succ]
                  refine hold_take (i := 13) (d := 177) (v := ?vBs13) (listed' := #[true, true, true, true, true, true, true, true, true, true, true, true, true, true, false, false, false, false, false, false, false]) rfl (by kernel_rfl) (by kernel_rfl) (by kernel_rfl) rfl (by rfl) (by kernel_rfl) K2 ?hBs13 ?rBs13
                  case hBs13 =>
                    intro w' hSw
                    have hSb : Below P0 w7 w' := hSw; have x0 := (hSb.cell (p := ⟨w.heap.size + 1, 1, none⟩) fl0).trans f1; have x1 := (hSb.cell (p := ⟨gB, ka, none⟩) ga).trans fk; have x2 := (hSb.cell (p := ⟨gB, ja, none⟩) ga).trans fj; have x3 := (hSb.cell (p := ⟨g1, o1 + qk, none⟩) fl5).trans f5
                    go_simp
                    try with_reducible rfl
                  simp only [List.setIfInBounds_toArray, List.set_cons_zero, List.set_cons_succ]
                  refine hold_take (i := 14) (d := 178) (v := ?vBs14) (listed' := #[true, true, true, true, true, true, true, true, true, true, true, true, true, true, true, false, false, false, false, false, false]) rfl (by kernel_rfl) (by kernel_rfl) (by kernel_rfl) rfl (by rfl) (by kernel_rfl) K2 ?hBs14 ?rBs14
                  case hBs14 =>
                    intro w' hSw
                    have hSb : Below P0 w7 w' := hSw; have x0 := (hSb.cell (p := ⟨w.heap.size + 1, 1, none⟩) fl0).trans f1; have x1 := (hSb.cell (p := ⟨gB, ka, none⟩) ga).trans fk; have x2 := (hSb.cell (p := ⟨gB, ja, none⟩) ga).trans fj; have x3 := (hSb.cell (p := ⟨g1, o1 + qk, none⟩) fl5).trans f5
                    go_simp
                    try with_reducible rfl
                  simp only [List.setIfInBounds_toArray, List.set_cons_zero, List.set_cons_succ]
                  refine hold_take (i := 15) (d := 179) (v := ?vBs15) (listed' := #[true, true, true, true, true, true, true, true, true, true, true, true, true, true, true, true, false, false, false, false, false]) rfl (by kernel_rfl) (by kernel_rfl) (by kernel_rfl) rfl (by rfl) (by kernel_rfl) K2 ?hBs15 ?rBs15
                  case hBs15 =>
                    intro w' hSw
                    have hSb : Below P0 w7 w' := hSw; have x0 := (hSb.cell (p := ⟨w.heap.size + 1, 1, none⟩) fl0).trans f1; have x1 := (hSb.cell (p := ⟨gB, ka, none⟩) ga).trans fk; have x2 := (hSb.cell (p := ⟨gB, ja, none⟩) ga).trans fj; have x3 := (hSb.cell (p := ⟨g1, o1 + qk, none⟩) fl5).trans f5
                    go_simp
                    try with_reducible rfl
                  simp only [List.setIfInBounds_toArray, List.set_cons_zero, List.set_cons_succ]
                  refine hold_take (i := 16) (d := 180) (v := ?vBs16) (listed' := #[true, true, true, true, true, true, true, true, true, true, true, true, true, true, true, true, true, false, false, false, false]) rfl (by kernel_rfl) (by kernel_rfl) (by kernel_rfl) rfl (by rfl) (by kernel_rfl) K2 ?hBs16 ?rBs16
                  case hBs16 =>
                    intro w' hSw
                    have hSb : Below P0 w7 w' := hSw; have x0 := (hSb.cell (p := ⟨w.heap.size + 1, 1, none⟩) fl0).trans f1; have x1 := (hSb.cell (p := ⟨gB, ka, none⟩) ga).trans fk; have x2 := (hSb.cell (p := ⟨gB, ja, none⟩) ga).trans fj; have x3 := (hSb.cell (p := ⟨g1, o1 + qk, none⟩) fl5).trans f5
                    go_simp
                    try with_reducible rfl
                  simp only [List.setIfInBounds_toArray, List.set_cons_zero, List.set_cons_succ]
                  refine hold_take (i := 17) (d := 181) (v := ?vBs17) (listed' := #[true, true, true, true, true, true, true, true, true, true, true, true, true, true, true, true, true, true, false, false, false]) rfl (by kernel_rfl) (by kernel_rfl) (by kernel_rfl) rfl (by rfl) (by kernel_rfl) K2 ?hBs17 ?rBs17
                  case hBs17 =>
                    intro w' hSw
                    have hSb : Below P0 w7 w' := hSw; have x0 := (hSb.cell (p := ⟨w.heap.size + 1, 1, none⟩) fl0).trans f1; have x1 := (hSb.cell (p := ⟨gB, ka, none⟩) ga).trans fk; have x2 := (hSb.cell (p := ⟨gB, ja, none⟩) ga).trans fj; have x3 := (hSb.cell (p := ⟨g1, o1 + qk, none⟩) fl5).trans f5
                    go_simp
                    try with_reducible rfl
                  simp only [List.setIfInBounds_toArray, List.set_cons_zero, List.set_cons_succ]
                  refine hold_take (i := 18) (d := 182) (v := ?vBs18) (listed' := #[true, true, true, true, true, true, true, true, true, true, true, true, true, true, true, true, true, true, true, false, false]) rfl (by kernel_rfl) (by kernel_rfl) (by kernel_rfl) rfl (by rfl) (by kernel_rfl) K2 ?hBs18 ?rBs18
                  case hBs18 =>
                    intro w' hSw
                    have hSb : Below P0 w7 w' := hSw; have x0 := (hSb.cell (p := ⟨w.heap.size + 1, 1, none⟩) fl0).trans f1; have x1 := (hSb.cell (p := ⟨gB, ka, none⟩) ga).trans fk; have x2 := (hSb.cell (p := ⟨gB, ja, none⟩) ga).trans fj; have x3 := (hSb.cell (p := ⟨g1, o1 + qk, none⟩) fl5).trans f5
                    go_simp
                    try with_reducible rfl
                  simp only [List.setIfInBounds_toArray, List.set_cons_zero, List.set_cons_succ]
                  refine hold_take (i := 19) (d := 183) (v := ?vBs19) (listed' := #[true, true, true, true, true, true, true, true, true, true, true, true, true, true, true, true, true, true, true, true, false]) rfl (by kernel_rfl) (by kernel_rfl) (by kernel_rfl) rfl (by rfl) (by kernel_rfl) K2 ?hBs19 ?rBs19
                  case hBs19 =>
                    intro w' hSw
                    have hSb : Below P0 w7 w' := hSw; have x0 := (hSb.cell (p := ⟨w.heap.size + 1, 1, none⟩) fl0).trans f1; have x1 := (hSb.cell (p := ⟨gB, ka, none⟩) ga).trans fk; have x2 := (hSb.cell (p := ⟨gB, ja, none⟩) ga).trans fj; have x3 := (hSb.cell (p := ⟨g1, o1 + qk, none⟩) fl5).trans f5
                    go_simp
                    try with_reducible rfl
                  simp only [List.setIfInBounds_toArray, List.set_cons_zero, List.set_cons_succ]
                  refine hold_take (i := 20) (d := 184) (v := ?vBs20) (listed' := #[true, true, true, true, true, true, true, true, true, true, true, true, true, true, true, true, true, true, true, true, true]) rfl (by kernel_rfl) (by kernel_rfl) (by kernel_rfl) rfl (by rfl) (by kernel_rfl) K2 ?hBs20 ?rBs20
                  case hBs20 =>
                    intro w' hSw
                    have hSb : Below P0 w7 w' := hSw; have x0 := (hSb.cell (p := ⟨w.heap.size + 1, 1, none⟩) fl0).trans f1; have x1 := (hSb.cell (p := ⟨gB, ka, none⟩) ga).trans fk; have x2 := (hSb.cell (p := ⟨gB, ja, none⟩) ga).trans fj; have x3 := (hSb.cell (p := ⟨g1, o1 + qk, none⟩) fl5).trans f5
                    go_simp
                    try with_reducible rfl
                  simp only [List.setIfInBounds_toArray, List.set_cons_zero, List.set_cons_succ]
                  refine hold_done (by kernel_rfl) ?_ _
                  replace HIq : Hid (IntsAt w9.drew wo.heap.size (.slice (some ⟨wo.heap.size, 0, none⟩) N N) N (rowTo (Zg k) N k (j + 1))) := (Chg.drew (fun _ => False) w9).ints HIq.out (fun _ _ h => h)
                  replace HBq : Hid (Below wo.heap.size wo w9.drew) := HBq.out.drew
                  clear f1 fk fj f5 fl0 fl5 ga K2 HKq
                  cases hg : gqB yq qj with
                  | true =>
                    have HNV : Hid (notTo gy N k (j + 1) = j) := notTo_hit (HQ.out.2.1 (by unfold gqB at hg; simpa using hg))
                    go_wp2_with fail
                    go_roundw
                    case rel => exact ⟨j + 1, by omega, by go_num, congrArg (fun x : Nat => Value.int .i64 (x : Int)) HNV.out.symm, HIq.out, HBq.out⟩
                    case measure => simp [intOf]; omega
                  | false =>
                    have HNV : Hid (notTo gy N k (j + 1) = notTo gy N k j) := notTo_keep (.inl fun e => absurd (HQ.out.2.2 e) (by unfold gqB at hg; simpa using hg))
                    go_wp2_with fail
                    go_roundw
                    case rel => exact ⟨j + 1, by omega, by go_num, congrArg (fun x : Nat => Value.int .i64 (x : Int)) HNV.out.symm, HIq.out, HBq.out⟩
                    case measure => simp [intOf]; omega
                · -- another answer
                  have HIq : Hid (IntsAt wr wo.heap.size (.slice (some ⟨wo.heap.size, 0, none⟩) N N) N (rowTo (Zg k) N k (j + 1))) := by
                    show IntsAt _ _ _ _ _
                    rw [rowTo_keep (HL.out.keep k j (by omega) hlt hjt (and_no_left (inA_no (by omega))) (and_no_right (inB_no (by omega))))]
                    exact hI
                  have HBq := Lib.hid hB
                  have HNV : Hid (notTo gy N k (j + 1) = notTo gy N k j) := notTo_keep (HL.out.tK k j hlt (and_no_left (inA_no (by omega))) (and_no_right (inB_no (by omega))))
                  clear hI hB
                  go_wp2_with fail
                  go_at_call 56
                  refine (l1In_not ?hq13 _).mono ?_
                  case hq13 => omega
                  rintro e wx ⟨rfl, rfl⟩
                  go_wp2_with fail
                  go_at_call 56
                  refine (l1In_yes ?hq14 _).mono ?_
                  case hq14 => omega
                  rintro e wx ⟨rfl, rfl⟩
                  go_wp2_with fail
                  go_at_call 56
                  refine (l1In_not ?hq15 _).mono ?_
                  case hq15 => omega
                  rintro e wx ⟨rfl, rfl⟩
                  go_wp2_with fail
                  go_roundw
                  case rel => exact ⟨j + 1, by omega, by go_num, congrArg (fun x : Nat => Value.int .i64 (x : Int)) HNV.out.symm, HIq.out, HBq.out⟩
                  case measure => simp [intOf]; omega
              · -- yes
                have HIq : Hid (IntsAt wr wo.heap.size (.slice (some ⟨wo.heap.size, 0, none⟩) N N) N (rowTo (Zg k) N k (j + 1))) := by
                  show IntsAt _ _ _ _ _
                  rw [rowTo_keep (HL.out.keep k j (by omega) hlt hjt (and_no_left (inA_no (by omega))) (and_no_left (inB_no (by omega))))]
                  exact hI
                have HBq := Lib.hid hB
                have HNV : Hid (notTo gy N k (j + 1) = notTo gy N k j) := notTo_keep (HL.out.tK k j hlt (and_no_left (inA_no (by omega))) (and_no_left (inB_no (by omega))))
                clear hI hB
                go_wp2_with fail
                go_at_call 56
                refine (l1In_not ?hq16 _).mono ?_
                case hq16 => omega
                rintro e wx ⟨rfl, rfl⟩
                go_wp2_with fail
                go_at_call 56
                refine (l1In_not ?hq17 _).mono ?_
                case hq17 => omega
                rintro e wx ⟨rfl, rfl⟩
                go_wp2_with fail
                go_roundw
                case rel => exact ⟨j + 1, by omega, by go_num, congrArg (fun x : Nat => Value.int .i64 (x : Int)) HNV.out.symm, HIq.out, HBq.out⟩
                case measure => simp [intOf]; omega
        · have hjt' : ¬ (j : Int) < (N : Int) := by omega
          have hjn : j = N := by omega
          have hnv : notTo gy N k j = gy k := by rw [hjn]; exact notTo_end (HL.out.lt k hlt)
          have hrow : IntsAt wr wo.heap.size (.slice (some ⟨wo.heap.size, 0, none⟩) N N) N (Zg k) := by
            have e : (List.range N).map (fun c => Value.int .i64 (rowTo (Zg k) N k j c)) = (List.range N).map fun c => .int .i64 (Zg k c) := map_congr_range fun i hi => by
              unfold rowTo
              rw [if_pos (by omega)]
            have := hI
            unfold IntsAt at this
            rw [e] at this
            exact this
          rw [hnv]
          have hM1 := Lib.hid (HM.out.below hB)
          have hq := hM1.out.box.c0
          have hqf := hM1.out.box.f0
          have hbl := Lib.hid (ownsRow_block hM1.out.out.top)
          have HB := Lib.hid hB
          have HR := Lib.hid hrow
          clear hjn hnv hI hB hrow
          go_wp2_with (at_builtin; refine wpList_append_own _ rfl _ _ 23 rfl (P0 + 1) 24 i1 (.slice none 0 0) 1 24 Try.underlying23 HJ.out HY0.out HY1.out HY2.out rfl (by decide) _ _ _ rfl (hM1.out.out.top.alloc _) ⟨wr.heap.size, 0, none⟩ 1 1 [.slice (some ⟨wo.heap.size, 0, none⟩) N N] rfl rfl (cell_one_new _ _ _) ?d2 ?d3 ?d4 ?d5 ?_)
          case d2 => simp [Value.oneCell']
          case d3 => unfold maxLen; omega
          case d4 => omega
          case d5 => first | omega | (simp; omega)
          intro v' w8 hown4 hgrow _
          have HX := HM.out.row' (by omega) HB.out HR.out (fun c hc => HL.out.bit k c hlt hc) hown4 hgrow (by omega)
          have hb4 := (hM1.out.mid (Chg.alloc (fun _ => False) _ _) hgrow hbl.out).2
          obtain ⟨ge, ce, rfl, _⟩ := HX.1.out.topv (by omega)
          have hQ5 := Lib.hid (hQ.trans (HX.2.below (B := P0) (by omega) (fun j hj => by have hj' : j = P0 ∨ P0 + 1 ≤ j := hj; omega)))
          have hM5 := HX.1
          have r0 := hb4.c0
          have r1 := hb4.f0
          clear hown4 hgrow hb4 HX HM HB HR hM1 hqf hbl
          go_upto_region 28 with fail
          clear r0 r1 hq
          generalize hW5 : w8.setCell ⟨P0, 0, none⟩ (.slice (some ⟨ge, 0, none⟩) (k + 1) ce) = w9 at hQ5 hM5 ⊢
          clear hW5
          have hs9 := hQ5.out.size
          have hq := hM5.box.c1
          have HM5 := Lib.hid hM5
          have hint := hM5.ints
          have hbt := Lib.hid (ownsRow_block hM5.ints)
          have hYr : Hid (0 ≤ ((gy k : Nat) : Int) ∧ ((gy k : Nat) : Int) < (N : Int)) := by have := HL.out.lt k hlt; show _ ∧ _; omega
          clear hM5
          go_wp2_with (at_builtin; refine wpList_append_own_at _ rfl _ _ 24 rfl (P0 + 1) 3 i0 (.int .i64 0) 1 8 Try.underlying24 HI.out HZ0.out HZ1.out HZ2.out rfl (by decide) _ _ _ rfl (World.ownsRow.alloc hint _) ⟨w9.heap.size, 0, none⟩ 1 1 [.int .i64 (gy k : Int)] rfl rfl (cell_one_new _ _ _) ?g2 ?g3 ?g4 ?g5 ?_)
          case g2 => simp [Value.oneCell']
          case g3 => unfold maxLen; omega
          case g4 => omega
          case g5 => first | omega | (simp; omega)
          intro v' w10 hown6 hgrow _ hat
          have HZ := Lib.hid (HM5.out.more' (Chg.alloc (fun _ => False) _ _) hYr.out hown6 hgrow (by rw [World.size_alloc]; exact hat))
          have hb6 := (HM5.out.mid (Chg.alloc (fun _ => False) _ _) hgrow hbt.out).2
          obtain ⟨g6, c6, rfl, _⟩ := HZ.out.1.ints.val (by omega)
          have hQ6 := Lib.hid (hQ5.out.trans (HZ.out.2.below (B := P0) (by omega) (fun j hj => by have hj' : j = P0 ∨ P0 + 1 ≤ j := hj; omega)))
          have r0 := hb6.c1
          have r1 := hb6.f1
          clear hown6 hgrow hat hb6 hint hq
          go_wp2_with fail
          go_roundw
          case rel => exact ⟨k + 1, _, _, _, by omega, by go_num, hQ6.out, HZ.out.1⟩
          case measure => simp [intOf]; omega
    · have hlt' : ¬ (k : Int) < (N : Int) := by omega
      have hkn : k = N := by omega
      have hM1 : MakeAt wr P0 (P0 + 1) u t N N N rv Zg (fun c => (gy c : Int)) := by subst hkn; exact hM
      have hL := hM1.made (by omega) (by omega)
      obtain ⟨gu, cu, rfl, _⟩ := hL.out.topv (by omega)
      obtain ⟨gt, ct, rfl, _⟩ := hL.ints.val (by omega)
      have q0 := hM1.box.c0
      have q1 := hM1.box.c1
      have xr := XR.out.below hQ (by omega)
      have p0 := xr.f0
      have p1 := xr.f1
      have p2 := xr.c0
      have p3 := xr.c1
      have HL2 := Lib.hid hL
      have HX := Lib.hid xr
      have HQ := Lib.hid (B7.out.trans (hQ.mono (by omega)))
      clear hkn hM hM1 hL xr hQ
      go_wp2_with fail
      have hfin := (HX.out.set0 (.slice (some ⟨gu, 0, none⟩) N cu)).set1 (.slice (some ⟨gt, 0, none⟩) N ct)
      have t0 := hfin.c0
      have t1 := hfin.c1
      have hon := set2_only wr (w.heap.size + 1 + 1) (.slice (some ⟨gu, 0, none⟩) N cu) (.slice (some ⟨gt, 0, none⟩) N ct)
      refine bodyPost_ret (v := .tuple #[.agg #[.slice (some ⟨gu, 0, none⟩) N cu, .slice (some ⟨gt, 0, none⟩) N ct], .bool true]) (by simp [results, Try.results112, go_sem, t0, t1]) rfl ⟨HQ.out.trans (hon.below fun j hj => by have hj' : j = w.heap.size + 1 + 1 := hj; omega), .inr ⟨rfl, _, _, rv, rfl, ((HL2.out.chg (Chg.of_only hon) fun j hj => ?_).base (by omega))⟩⟩
      have hj' : j = w.heap.size + 1 + 1 := hj
      omega

set_option maxRecDepth 100000 in
set_option maxHeartbeats 2000000 in
theorem spec_GluedOf_noa {w : World} {d0 d1 : LD} {B p r N : Nat} {f0 f1 : Nat → Nat} {Z : Nat → Nat → Int} {y : Nat → Nat} (h0 : d0.At w B) (h1 : d1.At w B) (c0 : InnerIs d0 p f0) (c1 : InnerIs d1 r f1) (hp : p ≤ 1048576) (hr : r ≤ 1048576) (e0 : d0.ok = false) :
    Calls Try.prog 112 #[.agg #[d0.u, d0.t], .agg #[d1.u, d1.t]] w (MadeOk w N Z y false) := by
  obtain ⟨M, hM⟩ : ∃ M : Nat, M = p + r + 2 := ⟨_, rfl⟩
  have eN : (p : Int) + (r : Int) + 2 = (M : Int) := by omega
  have eN1 : IntKind.i64.wrap ((p : Int) + (r : Int)) = (p : Int) + (r : Int) := IntWalk.i64_in _ (by omega)
  have eN2 : IntKind.i64.wrap (M : Int) = (M : Int) := IntWalk.i64_in _ (by omega)
  clear hM
  have xa := TwoAt.new w d0.u d0.t 26
  have ba := (Below.refl w.heap.size w).alloc (Nat.le_refl _) (.cells #[d0.u, d0.t] 26)
  have xb := TwoAt.new (w.alloc (.cells #[d0.u, d0.t] 26)) d1.u d1.t 26
  simp only [World.size_alloc] at xb
  have bb := (Below.refl (w.heap.size + 1) (w.alloc (.cells #[d0.u, d0.t] 26))).alloc (by simp) (.cells #[d1.u, d1.t] 26)
  have bc := (Below.refl (w.heap.size + 1 + 1) ((w.alloc (.cells #[d0.u, d0.t] 26)).alloc (.cells #[d1.u, d1.t] 26))).alloc (by simp) (.cells #[.slice none 0 0, .slice none 0 0] 26)
  have xr := TwoAt.new ((w.alloc (.cells #[d0.u, d0.t] 26)).alloc (.cells #[d1.u, d1.t] 26)) (.slice none 0 0) (.slice none 0 0) 26
  simp only [World.size_alloc] at xr
  replace xa := (xa.below bb (by omega)).below bc (by omega)
  replace xb := xb.below bc (by omega)
  have B0 := (ba.trans (bb.mono (by omega))).trans (bc.mono (by omega))
  have s0 : w.heap.size + 1 + 1 < (((w.alloc (.cells #[d0.u, d0.t] 26)).alloc (.cells #[d1.u, d1.t] 26)).alloc (.cells #[.slice none 0 0, .slice none 0 0] 26)).heap.size := by simp
  have HL0 : Hid (logicB d0.m d0.k d0.z = false) := e0
  skip
  have H0 := Lib.hid h0
  have H1 := Lib.hid h1
  have HC0 := Lib.hid c0
  have HC1 := Lib.hid c1
  clear ba bb bc h0 h1 c0 c1 e0
  go_enter Try.func112, Try.ntmps112
  have q0 := xa.c0
  have q1 := xa.c1
  have q2 := xb.c0
  have q3 := xb.c1
  go_wp2_with fail
  generalize ((w.alloc (.cells #[d0.u, d0.t] 26)).alloc (.cells #[d1.u, d1.t] 26)).alloc (.cells #[.slice none 0 0, .slice none 0 0] 26) = w2 at xa xb xr B0 s0 q0 q1 q2 q3 ⊢
  go_at_call 125
  refine (HC0.out w2 B (LogAt.step H0.out B0)).mono ?_
  rintro e w3 ⟨aA, gA, cA, rfl, hRA, b3⟩
  have s3 := b3.size
  have B3 := B0.trans (b3.mono B0.size)
  replace xa := xa.below b3 (by omega)
  replace xb := xb.below b3 (by omega)
  replace xr := xr.below b3 (by omega)
  clear q0 q1 q2 q3 B0 hRA
  have q2 := xb.c0
  have q3 := xb.c1
  go_wp2_with fail
  go_at_call 125
  refine (HC1.out w3 B (LogAt.step H1.out B3)).mono ?_
  rintro e w4 ⟨aB, gB, cB, rfl, hRB, b4⟩
  have s4 := b4.size
  have B4 := B3.trans (b4.mono B3.size)
  replace xa := xa.below b4 (by omega)
  replace xb := xb.below b4 (by omega)
  replace xr := xr.below b4 (by omega)
  clear q2 q3 B3 b3 b4 hRB
  have q0 := xa.c0
  have q1 := xa.c1
  have q2 := xb.c0
  have q3 := xb.c1
  go_wp2_with fail
  go_at_call 28
  refine (spec_LogicOk (LogAt.step H0.out B4)).mono ?_
  rintro e w5 ⟨rfl, b5⟩
  rw [HL0.out]
  have s5 := b5.size
  replace xa := xa.below b5 (by omega)
  replace xb := xb.below b5 (by omega)
  replace xr := xr.below b5 (by omega)
  have B5 := B4.trans (b5.mono B4.size)
  clear q0 q1 q2 q3 B4
  have t0 := xr.c0
  have t1 := xr.c1
  have t2 := xr.f0
  have t3 := xr.f1
  go_wp2_with fail
  have hfin := (xr.set0 (.slice none 0 0)).set1 (.slice none 0 0)
  have f0 := hfin.c0
  have f1 := hfin.c1
  exact bodyPost_ret (v := .tuple #[noLog, .bool false]) (by simp [results, Try.results112, go_sem, f0, f1, noLog]) rfl (made_no' (by omega) B5 rfl)

set_option maxRecDepth 100000 in
set_option maxHeartbeats 2000000 in
theorem spec_GluedOf_nob {w : World} {d0 d1 : LD} {B p r N : Nat} {f0 f1 : Nat → Nat} {Z : Nat → Nat → Int} {y : Nat → Nat} (h0 : d0.At w B) (h1 : d1.At w B) (c0 : InnerIs d0 p f0) (c1 : InnerIs d1 r f1) (hp : p ≤ 1048576) (hr : r ≤ 1048576) (e0 : d0.ok = true) (e1 : d1.ok = false) :
    Calls Try.prog 112 #[.agg #[d0.u, d0.t], .agg #[d1.u, d1.t]] w (MadeOk w N Z y false) := by
  obtain ⟨M, hM⟩ : ∃ M : Nat, M = p + r + 2 := ⟨_, rfl⟩
  have eN : (p : Int) + (r : Int) + 2 = (M : Int) := by omega
  have eN1 : IntKind.i64.wrap ((p : Int) + (r : Int)) = (p : Int) + (r : Int) := IntWalk.i64_in _ (by omega)
  have eN2 : IntKind.i64.wrap (M : Int) = (M : Int) := IntWalk.i64_in _ (by omega)
  clear hM
  have xa := TwoAt.new w d0.u d0.t 26
  have ba := (Below.refl w.heap.size w).alloc (Nat.le_refl _) (.cells #[d0.u, d0.t] 26)
  have xb := TwoAt.new (w.alloc (.cells #[d0.u, d0.t] 26)) d1.u d1.t 26
  simp only [World.size_alloc] at xb
  have bb := (Below.refl (w.heap.size + 1) (w.alloc (.cells #[d0.u, d0.t] 26))).alloc (by simp) (.cells #[d1.u, d1.t] 26)
  have bc := (Below.refl (w.heap.size + 1 + 1) ((w.alloc (.cells #[d0.u, d0.t] 26)).alloc (.cells #[d1.u, d1.t] 26))).alloc (by simp) (.cells #[.slice none 0 0, .slice none 0 0] 26)
  have xr := TwoAt.new ((w.alloc (.cells #[d0.u, d0.t] 26)).alloc (.cells #[d1.u, d1.t] 26)) (.slice none 0 0) (.slice none 0 0) 26
  simp only [World.size_alloc] at xr
  replace xa := (xa.below bb (by omega)).below bc (by omega)
  replace xb := xb.below bc (by omega)
  have B0 := (ba.trans (bb.mono (by omega))).trans (bc.mono (by omega))
  have s0 : w.heap.size + 1 + 1 < (((w.alloc (.cells #[d0.u, d0.t] 26)).alloc (.cells #[d1.u, d1.t] 26)).alloc (.cells #[.slice none 0 0, .slice none 0 0] 26)).heap.size := by simp
  have HL0 : Hid (logicB d0.m d0.k d0.z = true) := e0
  have HL1 : Hid (logicB d1.m d1.k d1.z = false) := e1
  have H0 := Lib.hid h0
  have H1 := Lib.hid h1
  have HC0 := Lib.hid c0
  have HC1 := Lib.hid c1
  clear ba bb bc h0 h1 c0 c1 e0 e1
  go_enter Try.func112, Try.ntmps112
  have q0 := xa.c0
  have q1 := xa.c1
  have q2 := xb.c0
  have q3 := xb.c1
  go_wp2_with fail
  generalize ((w.alloc (.cells #[d0.u, d0.t] 26)).alloc (.cells #[d1.u, d1.t] 26)).alloc (.cells #[.slice none 0 0, .slice none 0 0] 26) = w2 at xa xb xr B0 s0 q0 q1 q2 q3 ⊢
  go_at_call 125
  refine (HC0.out w2 B (LogAt.step H0.out B0)).mono ?_
  rintro e w3 ⟨aA, gA, cA, rfl, hRA, b3⟩
  have s3 := b3.size
  have B3 := B0.trans (b3.mono B0.size)
  replace xa := xa.below b3 (by omega)
  replace xb := xb.below b3 (by omega)
  replace xr := xr.below b3 (by omega)
  clear q0 q1 q2 q3 B0 hRA
  have q2 := xb.c0
  have q3 := xb.c1
  go_wp2_with fail
  go_at_call 125
  refine (HC1.out w3 B (LogAt.step H1.out B3)).mono ?_
  rintro e w4 ⟨aB, gB, cB, rfl, hRB, b4⟩
  have s4 := b4.size
  have B4 := B3.trans (b4.mono B3.size)
  replace xa := xa.below b4 (by omega)
  replace xb := xb.below b4 (by omega)
  replace xr := xr.below b4 (by omega)
  clear q2 q3 B3 b3 b4 hRB
  have q0 := xa.c0
  have q1 := xa.c1
  have q2 := xb.c0
  have q3 := xb.c1
  go_wp2_with fail
  go_at_call 28
  refine (spec_LogicOk (LogAt.step H0.out B4)).mono ?_
  rintro e w5 ⟨rfl, b5⟩
  rw [HL0.out]
  have s5 := b5.size
  replace xa := xa.below b5 (by omega)
  replace xb := xb.below b5 (by omega)
  replace xr := xr.below b5 (by omega)
  have B5 := B4.trans (b5.mono B4.size)
  clear q0 q1 q2 q3 B4
  have q2 := xb.c0
  have q3 := xb.c1
  go_wp2_with fail
  go_at_call 28
  refine (spec_LogicOk (LogAt.step H1.out B5)).mono ?_
  rintro e w6 ⟨rfl, b6⟩
  rw [HL1.out]
  replace xa := xa.below b6 (by omega)
  replace xb := xb.below b6 (by omega)
  replace xr := xr.below b6 (by omega)
  replace B5 := B5.trans (b6.mono B5.size)
  have q1 := xa.c1
  clear q2 q3
  have q3 := xb.c1
  have t0 := xr.c0
  have t1 := xr.c1
  have t2 := xr.f0
  have t3 := xr.f1
  go_wp2_with fail
  have hfin := (xr.set0 (.slice none 0 0)).set1 (.slice none 0 0)
  have f0 := hfin.c0
  have f1 := hfin.c1
  exact bodyPost_ret (v := .tuple #[noLog, .bool false]) (by simp [results, Try.results112, go_sem, f0, f1, noLog]) rfl (made_no' (by omega) B5 rfl)

set_option maxRecDepth 100000 in
set_option maxHeartbeats 2000000 in
theorem spec_GluedOf_noc {w : World} {d0 d1 : LD} {B p r N : Nat} {f0 f1 : Nat → Nat} {Z : Nat → Nat → Int} {y : Nat → Nat} (h0 : d0.At w B) (h1 : d1.At w B) (c0 : InnerIs d0 p f0) (c1 : InnerIs d1 r f1) (hp : p ≤ 1048576) (hr : r ≤ 1048576) (e0 : d0.ok = true) (e1 : d1.ok = true) (hk : d0.k < 2) :
    Calls Try.prog 112 #[.agg #[d0.u, d0.t], .agg #[d1.u, d1.t]] w (MadeOk w N Z y false) := by
  obtain ⟨M, hM⟩ : ∃ M : Nat, M = p + r + 2 := ⟨_, rfl⟩
  have eN : (p : Int) + (r : Int) + 2 = (M : Int) := by omega
  have eN1 : IntKind.i64.wrap ((p : Int) + (r : Int)) = (p : Int) + (r : Int) := IntWalk.i64_in _ (by omega)
  have eN2 : IntKind.i64.wrap (M : Int) = (M : Int) := IntWalk.i64_in _ (by omega)
  have e2a : (d0.k : Int) < 2 := by omega
  clear hM
  have xa := TwoAt.new w d0.u d0.t 26
  have ba := (Below.refl w.heap.size w).alloc (Nat.le_refl _) (.cells #[d0.u, d0.t] 26)
  have xb := TwoAt.new (w.alloc (.cells #[d0.u, d0.t] 26)) d1.u d1.t 26
  simp only [World.size_alloc] at xb
  have bb := (Below.refl (w.heap.size + 1) (w.alloc (.cells #[d0.u, d0.t] 26))).alloc (by simp) (.cells #[d1.u, d1.t] 26)
  have bc := (Below.refl (w.heap.size + 1 + 1) ((w.alloc (.cells #[d0.u, d0.t] 26)).alloc (.cells #[d1.u, d1.t] 26))).alloc (by simp) (.cells #[.slice none 0 0, .slice none 0 0] 26)
  have xr := TwoAt.new ((w.alloc (.cells #[d0.u, d0.t] 26)).alloc (.cells #[d1.u, d1.t] 26)) (.slice none 0 0) (.slice none 0 0) 26
  simp only [World.size_alloc] at xr
  replace xa := (xa.below bb (by omega)).below bc (by omega)
  replace xb := xb.below bc (by omega)
  have B0 := (ba.trans (bb.mono (by omega))).trans (bc.mono (by omega))
  have s0 : w.heap.size + 1 + 1 < (((w.alloc (.cells #[d0.u, d0.t] 26)).alloc (.cells #[d1.u, d1.t] 26)).alloc (.cells #[.slice none 0 0, .slice none 0 0] 26)).heap.size := by simp
  have HL0 : Hid (logicB d0.m d0.k d0.z = true) := e0
  have HL1 : Hid (logicB d1.m d1.k d1.z = true) := e1
  have H0 := Lib.hid h0
  have H1 := Lib.hid h1
  have HC0 := Lib.hid c0
  have HC1 := Lib.hid c1
  clear ba bb bc h0 h1 c0 c1 e0 e1
  go_enter Try.func112, Try.ntmps112
  have q0 := xa.c0
  have q1 := xa.c1
  have q2 := xb.c0
  have q3 := xb.c1
  go_wp2_with fail
  generalize ((w.alloc (.cells #[d0.u, d0.t] 26)).alloc (.cells #[d1.u, d1.t] 26)).alloc (.cells #[.slice none 0 0, .slice none 0 0] 26) = w2 at xa xb xr B0 s0 q0 q1 q2 q3 ⊢
  go_at_call 125
  refine (HC0.out w2 B (LogAt.step H0.out B0)).mono ?_
  rintro e w3 ⟨aA, gA, cA, rfl, hRA, b3⟩
  have s3 := b3.size
  have B3 := B0.trans (b3.mono B0.size)
  replace xa := xa.below b3 (by omega)
  replace xb := xb.below b3 (by omega)
  replace xr := xr.below b3 (by omega)
  clear q0 q1 q2 q3 B0 hRA
  have q2 := xb.c0
  have q3 := xb.c1
  go_wp2_with fail
  go_at_call 125
  refine (HC1.out w3 B (LogAt.step H1.out B3)).mono ?_
  rintro e w4 ⟨aB, gB, cB, rfl, hRB, b4⟩
  have s4 := b4.size
  have B4 := B3.trans (b4.mono B3.size)
  replace xa := xa.below b4 (by omega)
  replace xb := xb.below b4 (by omega)
  replace xr := xr.below b4 (by omega)
  clear q2 q3 B3 b3 b4 hRB
  have q0 := xa.c0
  have q1 := xa.c1
  have q2 := xb.c0
  have q3 := xb.c1
  go_wp2_with fail
  go_at_call 28
  refine (spec_LogicOk (LogAt.step H0.out B4)).mono ?_
  rintro e w5 ⟨rfl, b5⟩
  rw [HL0.out]
  have s5 := b5.size
  replace xa := xa.below b5 (by omega)
  replace xb := xb.below b5 (by omega)
  replace xr := xr.below b5 (by omega)
  have B5 := B4.trans (b5.mono B4.size)
  clear q0 q1 q2 q3 B4
  have q2 := xb.c0
  have q3 := xb.c1
  go_wp2_with fail
  go_at_call 28
  refine (spec_LogicOk (LogAt.step H1.out B5)).mono ?_
  rintro e w6 ⟨rfl, b6⟩
  rw [HL1.out]
  replace xa := xa.below b6 (by omega)
  replace xb := xb.below b6 (by omega)
  replace xr := xr.below b6 (by omega)
  replace B5 := B5.trans (b6.mono B5.size)
  have q1 := xa.c1
  clear q2 q3
  have q3 := xb.c1
  have t0 := xr.c0
  have t1 := xr.c1
  have t2 := xr.f0
  have t3 := xr.f1
  go_wp2_with fail
  have hfin := (xr.set0 (.slice none 0 0)).set1 (.slice none 0 0)
  have f0 := hfin.c0
  have f1 := hfin.c1
  exact bodyPost_ret (v := .tuple #[noLog, .bool false]) (by simp [results, Try.results112, go_sem, f0, f1, noLog]) rfl (made_no' (by omega) B5 rfl)

set_option maxRecDepth 100000 in
set_option maxHeartbeats 2000000 in
theorem spec_GluedOf_nod {w : World} {d0 d1 : LD} {B p r N : Nat} {f0 f1 : Nat → Nat} {Z : Nat → Nat → Int} {y : Nat → Nat} (h0 : d0.At w B) (h1 : d1.At w B) (c0 : InnerIs d0 p f0) (c1 : InnerIs d1 r f1) (hp : p ≤ 1048576) (hr : r ≤ 1048576) (e0 : d0.ok = true) (e1 : d1.ok = true) (ha : ¬ d0.k < 2) (hk : d1.k < 2) :
    Calls Try.prog 112 #[.agg #[d0.u, d0.t], .agg #[d1.u, d1.t]] w (MadeOk w N Z y false) := by
  obtain ⟨M, hM⟩ : ∃ M : Nat, M = p + r + 2 := ⟨_, rfl⟩
  have eN : (p : Int) + (r : Int) + 2 = (M : Int) := by omega
  have eN1 : IntKind.i64.wrap ((p : Int) + (r : Int)) = (p : Int) + (r : Int) := IntWalk.i64_in _ (by omega)
  have eN2 : IntKind.i64.wrap (M : Int) = (M : Int) := IntWalk.i64_in _ (by omega)
  have e2a : ¬ (d0.k : Int) < 2 := by omega
  have e2b : (d1.k : Int) < 2 := by omega
  clear hM
  have xa := TwoAt.new w d0.u d0.t 26
  have ba := (Below.refl w.heap.size w).alloc (Nat.le_refl _) (.cells #[d0.u, d0.t] 26)
  have xb := TwoAt.new (w.alloc (.cells #[d0.u, d0.t] 26)) d1.u d1.t 26
  simp only [World.size_alloc] at xb
  have bb := (Below.refl (w.heap.size + 1) (w.alloc (.cells #[d0.u, d0.t] 26))).alloc (by simp) (.cells #[d1.u, d1.t] 26)
  have bc := (Below.refl (w.heap.size + 1 + 1) ((w.alloc (.cells #[d0.u, d0.t] 26)).alloc (.cells #[d1.u, d1.t] 26))).alloc (by simp) (.cells #[.slice none 0 0, .slice none 0 0] 26)
  have xr := TwoAt.new ((w.alloc (.cells #[d0.u, d0.t] 26)).alloc (.cells #[d1.u, d1.t] 26)) (.slice none 0 0) (.slice none 0 0) 26
  simp only [World.size_alloc] at xr
  replace xa := (xa.below bb (by omega)).below bc (by omega)
  replace xb := xb.below bc (by omega)
  have B0 := (ba.trans (bb.mono (by omega))).trans (bc.mono (by omega))
  have s0 : w.heap.size + 1 + 1 < (((w.alloc (.cells #[d0.u, d0.t] 26)).alloc (.cells #[d1.u, d1.t] 26)).alloc (.cells #[.slice none 0 0, .slice none 0 0] 26)).heap.size := by simp
  have HL0 : Hid (logicB d0.m d0.k d0.z = true) := e0
  have HL1 : Hid (logicB d1.m d1.k d1.z = true) := e1
  have H0 := Lib.hid h0
  have H1 := Lib.hid h1
  have HC0 := Lib.hid c0
  have HC1 := Lib.hid c1
  clear ba bb bc h0 h1 c0 c1 e0 e1
  go_enter Try.func112, Try.ntmps112
  have q0 := xa.c0
  have q1 := xa.c1
  have q2 := xb.c0
  have q3 := xb.c1
  go_wp2_with fail
  generalize ((w.alloc (.cells #[d0.u, d0.t] 26)).alloc (.cells #[d1.u, d1.t] 26)).alloc (.cells #[.slice none 0 0, .slice none 0 0] 26) = w2 at xa xb xr B0 s0 q0 q1 q2 q3 ⊢
  go_at_call 125
  refine (HC0.out w2 B (LogAt.step H0.out B0)).mono ?_
  rintro e w3 ⟨aA, gA, cA, rfl, hRA, b3⟩
  have s3 := b3.size
  have B3 := B0.trans (b3.mono B0.size)
  replace xa := xa.below b3 (by omega)
  replace xb := xb.below b3 (by omega)
  replace xr := xr.below b3 (by omega)
  clear q0 q1 q2 q3 B0 hRA
  have q2 := xb.c0
  have q3 := xb.c1
  go_wp2_with fail
  go_at_call 125
  refine (HC1.out w3 B (LogAt.step H1.out B3)).mono ?_
  rintro e w4 ⟨aB, gB, cB, rfl, hRB, b4⟩
  have s4 := b4.size
  have B4 := B3.trans (b4.mono B3.size)
  replace xa := xa.below b4 (by omega)
  replace xb := xb.below b4 (by omega)
  replace xr := xr.below b4 (by omega)
  clear q2 q3 B3 b3 b4 hRB
  have q0 := xa.c0
  have q1 := xa.c1
  have q2 := xb.c0
  have q3 := xb.c1
  go_wp2_with fail
  go_at_call 28
  refine (spec_LogicOk (LogAt.step H0.out B4)).mono ?_
  rintro e w5 ⟨rfl, b5⟩
  rw [HL0.out]
  have s5 := b5.size
  replace xa := xa.below b5 (by omega)
  replace xb := xb.below b5 (by omega)
  replace xr := xr.below b5 (by omega)
  have B5 := B4.trans (b5.mono B4.size)
  clear q0 q1 q2 q3 B4
  have q2 := xb.c0
  have q3 := xb.c1
  go_wp2_with fail
  go_at_call 28
  refine (spec_LogicOk (LogAt.step H1.out B5)).mono ?_
  rintro e w6 ⟨rfl, b6⟩
  rw [HL1.out]
  replace xa := xa.below b6 (by omega)
  replace xb := xb.below b6 (by omega)
  replace xr := xr.below b6 (by omega)
  replace B5 := B5.trans (b6.mono B5.size)
  have q1 := xa.c1
  clear q2 q3
  have q3 := xb.c1
  have t0 := xr.c0
  have t1 := xr.c1
  have t2 := xr.f0
  have t3 := xr.f1
  go_wp2_with fail
  have hfin := (xr.set0 (.slice none 0 0)).set1 (.slice none 0 0)
  have f0 := hfin.c0
  have f1 := hfin.c1
  exact bodyPost_ret (v := .tuple #[noLog, .bool false]) (by simp [results, Try.results112, go_sem, f0, f1, noLog]) rfl (made_no' (by omega) B5 rfl)

set_option maxRecDepth 100000 in
set_option maxHeartbeats 2000000 in
theorem spec_GluedOf_noe {w : World} {d0 d1 : LD} {B p r N : Nat} {f0 f1 : Nat → Nat} {Z : Nat → Nat → Int} {y : Nat → Nat} (h0 : d0.At w B) (h1 : d1.At w B) (c0 : InnerIs d0 p f0) (c1 : InnerIs d1 r f1) (hp : p ≤ 1048576) (hr : r ≤ 1048576) (e0 : d0.ok = true) (e1 : d1.ok = true) (ha : ¬ d0.k < 2) (hb : ¬ d1.k < 2) (hN : ¬ p + r + 2 ≤ 12) :
    Calls Try.prog 112 #[.agg #[d0.u, d0.t], .agg #[d1.u, d1.t]] w (MadeOk w N Z y false) := by
  obtain ⟨M, hM⟩ : ∃ M : Nat, M = p + r + 2 := ⟨_, rfl⟩
  have eN : (p : Int) + (r : Int) + 2 = (M : Int) := by omega
  have eN1 : IntKind.i64.wrap ((p : Int) + (r : Int)) = (p : Int) + (r : Int) := IntWalk.i64_in _ (by omega)
  have eN2 : IntKind.i64.wrap (M : Int) = (M : Int) := IntWalk.i64_in _ (by omega)
  have e2a : ¬ (d0.k : Int) < 2 := by omega
  have e2b : ¬ (d1.k : Int) < 2 := by omega
  have e12 : (12 : Int) < (M : Int) := by omega
  clear hM
  have xa := TwoAt.new w d0.u d0.t 26
  have ba := (Below.refl w.heap.size w).alloc (Nat.le_refl _) (.cells #[d0.u, d0.t] 26)
  have xb := TwoAt.new (w.alloc (.cells #[d0.u, d0.t] 26)) d1.u d1.t 26
  simp only [World.size_alloc] at xb
  have bb := (Below.refl (w.heap.size + 1) (w.alloc (.cells #[d0.u, d0.t] 26))).alloc (by simp) (.cells #[d1.u, d1.t] 26)
  have bc := (Below.refl (w.heap.size + 1 + 1) ((w.alloc (.cells #[d0.u, d0.t] 26)).alloc (.cells #[d1.u, d1.t] 26))).alloc (by simp) (.cells #[.slice none 0 0, .slice none 0 0] 26)
  have xr := TwoAt.new ((w.alloc (.cells #[d0.u, d0.t] 26)).alloc (.cells #[d1.u, d1.t] 26)) (.slice none 0 0) (.slice none 0 0) 26
  simp only [World.size_alloc] at xr
  replace xa := (xa.below bb (by omega)).below bc (by omega)
  replace xb := xb.below bc (by omega)
  have B0 := (ba.trans (bb.mono (by omega))).trans (bc.mono (by omega))
  have s0 : w.heap.size + 1 + 1 < (((w.alloc (.cells #[d0.u, d0.t] 26)).alloc (.cells #[d1.u, d1.t] 26)).alloc (.cells #[.slice none 0 0, .slice none 0 0] 26)).heap.size := by simp
  have HL0 : Hid (logicB d0.m d0.k d0.z = true) := e0
  have HL1 : Hid (logicB d1.m d1.k d1.z = true) := e1
  have H0 := Lib.hid h0
  have H1 := Lib.hid h1
  have HC0 := Lib.hid c0
  have HC1 := Lib.hid c1
  clear ba bb bc h0 h1 c0 c1 e0 e1
  go_enter Try.func112, Try.ntmps112
  have q0 := xa.c0
  have q1 := xa.c1
  have q2 := xb.c0
  have q3 := xb.c1
  go_wp2_with fail
  generalize ((w.alloc (.cells #[d0.u, d0.t] 26)).alloc (.cells #[d1.u, d1.t] 26)).alloc (.cells #[.slice none 0 0, .slice none 0 0] 26) = w2 at xa xb xr B0 s0 q0 q1 q2 q3 ⊢
  go_at_call 125
  refine (HC0.out w2 B (LogAt.step H0.out B0)).mono ?_
  rintro e w3 ⟨aA, gA, cA, rfl, hRA, b3⟩
  have s3 := b3.size
  have B3 := B0.trans (b3.mono B0.size)
  replace xa := xa.below b3 (by omega)
  replace xb := xb.below b3 (by omega)
  replace xr := xr.below b3 (by omega)
  clear q0 q1 q2 q3 B0 hRA
  have q2 := xb.c0
  have q3 := xb.c1
  go_wp2_with fail
  go_at_call 125
  refine (HC1.out w3 B (LogAt.step H1.out B3)).mono ?_
  rintro e w4 ⟨aB, gB, cB, rfl, hRB, b4⟩
  have s4 := b4.size
  have B4 := B3.trans (b4.mono B3.size)
  replace xa := xa.below b4 (by omega)
  replace xb := xb.below b4 (by omega)
  replace xr := xr.below b4 (by omega)
  clear q2 q3 B3 b3 b4 hRB
  have q0 := xa.c0
  have q1 := xa.c1
  have q2 := xb.c0
  have q3 := xb.c1
  go_wp2_with fail
  go_at_call 28
  refine (spec_LogicOk (LogAt.step H0.out B4)).mono ?_
  rintro e w5 ⟨rfl, b5⟩
  rw [HL0.out]
  have s5 := b5.size
  replace xa := xa.below b5 (by omega)
  replace xb := xb.below b5 (by omega)
  replace xr := xr.below b5 (by omega)
  have B5 := B4.trans (b5.mono B4.size)
  clear q0 q1 q2 q3 B4
  have q2 := xb.c0
  have q3 := xb.c1
  go_wp2_with fail
  go_at_call 28
  refine (spec_LogicOk (LogAt.step H1.out B5)).mono ?_
  rintro e w6 ⟨rfl, b6⟩
  rw [HL1.out]
  replace xa := xa.below b6 (by omega)
  replace xb := xb.below b6 (by omega)
  replace xr := xr.below b6 (by omega)
  replace B5 := B5.trans (b6.mono B5.size)
  have q1 := xa.c1
  clear q2 q3
  have q3 := xb.c1
  have t0 := xr.c0
  have t1 := xr.c1
  have t2 := xr.f0
  have t3 := xr.f1
  go_wp2_with fail
  have hfin := (xr.set0 (.slice none 0 0)).set1 (.slice none 0 0)
  have f0 := hfin.c0
  have f1 := hfin.c1
  exact bodyPost_ret (v := .tuple #[noLog, .bool false]) (by simp [results, Try.results112, go_sem, f0, f1, noLog]) rfl (made_no' (by omega) B5 rfl)

theorem innerIs_any {d : LD} (hk : d.k ≤ 1048576) : InnerIs d (innerI (noV d.m d.k d.z) (yesV d.m d.k d.z) d.k).length (innerV (noV d.m d.k d.z) (yesV d.m d.k d.z) d.k) := fun _ _ h => spec_l3Inner h hk rfl rfl
theorem innerIs_ok {d : LD} {w : World} {B o : Nat} (h : d.Is w B d.y o) (h2 : 2 ≤ d.m.n) : InnerIs d (d.m.n - 2) (gF d.m d.y) := by
  have n0 := h.hi
  have hl := h.len
  have hok : logicB d.m d.k d.z = true := h.ok
  have e1 : leastI d.m = (o : Int) := h.orth.eq
  have e2 : d.z o = (d.y o : Int) := h.orth.zy o h.orth.ho
  have hlo : noV d.m d.k d.z = (o : Int) := by unfold noV; rw [if_pos hok, e1]
  have hhi : yesV d.m d.k d.z = (d.y o : Int) := by unfold yesV; rw [if_pos hok, e1]; exact e2
  have ei := h.orth.data.ends h2
  have hi := inner_is ei.ho ei.ht ei.ne.symm
  have hq : (innerTo o (d.y o) d.m.n).length = d.m.n - 2 := by have := hi.len; omega
  have hf : gF d.m d.y = innerF o (d.y o) d.m.n := by unfold gF gLo; rw [e1]; rfl
  have key := innerIs_any (d := d) (by omega)
  rw [hlo, hhi, hl, innerI_to, hq] at key
  rw [hf]
  have e3 : innerV (o : Int) (d.y o : Int) d.m.n = innerF o (d.y o) d.m.n := by
    funext i
    unfold innerV innerF
    rw [innerI_to]
  rw [e3] at key
  exact key
theorem spec_GluedOf_any {w : World} {d0 d1 : LD} {B : Nat} (h0 : d0.At w B) (h1 : d1.At w B) (k0 : d0.k ≤ 1048576) (k1 : d1.k ≤ 1048576) :
    Calls Try.prog 112 #[.agg #[d0.u, d0.t], .agg #[d1.u, d1.t]] w (MadeOk w (gN d0.m d1.m) (gZ d0.m d1.m d0.y d1.y) (gY d0.m d1.m d0.y d1.y) (d0.ok && d1.ok && gOk d0.m d1.m && decide (gN d0.m d1.m ≤ 12))) := by
  have c0 := innerIs_any (d := d0) k0
  have c1 := innerIs_any (d := d1) k1
  have q0 := Nat.le_trans (innerI_len (noV d0.m d0.k d0.z) (yesV d0.m d0.k d0.z) d0.k) k0
  have q1 := Nat.le_trans (innerI_len (noV d1.m d1.k d1.z) (yesV d1.m d1.k d1.z) d1.k) k1
  cases e0 : d0.ok with
  | false => exact spec_GluedOf_noa h0 h1 c0 c1 q0 q1 e0
  | true =>
    cases e1 : d1.ok with
    | false => exact spec_GluedOf_nob h0 h1 c0 c1 q0 q1 e0 e1
    | true =>
      obtain ⟨o0, i0⟩ := LD.isY h0 e0
      obtain ⟨o1, i1⟩ := LD.isY h1 e1
      have n0 := i0.hi
      have n1 := i1.hi
      have l0 : d0.k = d0.m.n := i0.len
      have l1 : d1.k = d1.m.n := i1.len
      by_cases a0 : d0.k < 2
      · have : gOk d0.m d1.m = false := by unfold gOk; rw [decide_eq_false (by omega)]; rfl
        rw [this]
        exact spec_GluedOf_noc h0 h1 c0 c1 q0 q1 e0 e1 a0
      · by_cases a1 : d1.k < 2
        · have : gOk d0.m d1.m = false := by unfold gOk; rw [decide_eq_false (p := 2 ≤ d1.m.n) (by omega)]; cases decide (2 ≤ d0.m.n) <;> rfl
          rw [this]
          exact spec_GluedOf_nod h0 h1 c0 c1 q0 q1 e0 e1 a0 a1
        · have : gOk d0.m d1.m = true := by unfold gOk; rw [decide_eq_true (by omega), decide_eq_true (by omega)]; rfl
          rw [this]
          have i0' := innerIs_ok i0 (by omega)
          have i1' := innerIs_ok i1 (by omega)
          by_cases hN : gN d0.m d1.m ≤ 12
          · rw [decide_eq_true hN]
            have g := glue_of i0.orth i1.orth (by omega) (by omega)
            have hN' : gN d0.m d1.m = d0.m.n - 2 + (d1.m.n - 2) + 2 := rfl
            refine spec_GluedOf_yes i0 i1 (by omega) (by omega) hN' hN i0' i1' ⟨fun j => glued_zero j, fun k j hk hj => glued_A hk hj, fun k j hk hj => glued_B hk hj, fun k j h hk hj hA hB => glued_keep h hk hj hA hB, fun k c hk hc => ?_, fun k j hk hj => g.testA hk hj, fun k j hk hj => g.testB hk hj, fun k j hk hA hB => g.keep hk hA hB, fun k hk => g.opp.2.2.2.2.2.2 k hk, fun i hi => g.i0.lt i hi, fun i hi => g.i1.lt i hi⟩
            unfold gZ
            rw [← glued_Z g.a0 g.a1 g.e0 g.e1 g.i0 g.i1 (fun a c ha hc => g.d0.bit a c ha hc) (fun a c ha hc => g.d1.bit a c ha hc) hk hc]
            exact bitZ_rng _ _ _
          · rw [decide_eq_false hN]
            exact spec_GluedOf_noe h0 h1 i0' i1' (by omega) (by omega) e0 e1 a0 a1 hN
end Go.Proofs.Ytojcgmgponnlpaa
