/- Marks on desks: the numbers, and what stays. -/
import Derived.Test.YtojcgmgponnlpaaDkb
import Derived.Test.YtojcgmgponnlpaaDkc
namespace Go.Proofs.Ytojcgmgponnlpaa
open Go.RowKit Go.Deep

structure Lc.Small (c : Lc) : Prop where
  n : c.m.n ≤ 1048576
  L : ∀ r, r < c.m.n → c.m.L r ≤ 1048576
  k : c.k ≤ 1048576
theorem CW.small {w : World} {x : Iv} {c : Lc} (h : CW w x c) : c.Small := by
  obtain ⟨ua, l, na, g, nc, e1, e2, h⟩ := h
  exact ⟨h.hn, h.hL, h.hk⟩
theorem Lc.Is.sm {c : Lc} (h : c.Is) : c.Small := by
  obtain ⟨h1, h2, h3, h4⟩ := h.small
  exact ⟨by omega, fun r _ => by rw [h4]; omega, by omega⟩
def markC (c : Lc) (k0 : Nat) : Lc := ⟨marksOf k0 c.m, c.k, fun i => ((markAt c.m k0 : Nat) : Int) + i⟩
def nextK (c : Lc) (k0 : Nat) : Nat := markAt c.m k0 + c.k
theorem mark_le {c : Lc} (h : c.Small) (k0 : Nat) : markAt c.m k0 ≤ k0 + 1099511627776 := by
  have h1 := h.n
  have h2 := offs_le h.L c.m.n (Nat.le_refl _)
  have : c.m.n * 1048576 ≤ 1048576 * 1048576 := Nat.mul_le_mul_right _ h1
  unfold markAt
  omega
theorem nextK_le {c : Lc} (h : c.Small) (k0 : Nat) : nextK c k0 ≤ k0 + 1099512676352 := by
  have h1 := mark_le h k0
  have h2 := h.k
  unfold nextK
  omega
def atPs (P : List Lc) (k0 : Nat) : Nat → Nat
  | 0 => k0
  | j + 1 => match P[j]? with
    | some c => nextK c (atPs P k0 j)
    | none => atPs P k0 j
theorem atPs_succ {P : List Lc} {k0 j : Nat} {c : Lc} (h : P[j]? = some c) : atPs P k0 (j + 1) = nextK c (atPs P k0 j) := by
  rw [atPs, h]
theorem atPs_le {P : List Lc} {k0 : Nat} (hs : ∀ c ∈ P, c.Small) (j : Nat) : atPs P k0 j ≤ k0 + j * 1099512676352 := by
  induction j with
  | zero => exact Nat.le_add_right _ _
  | succ j ih =>
    cases e : P[j]? with
    | none =>
      have h0 : atPs P k0 (j + 1) = atPs P k0 j := by rw [atPs, e]
      omega
    | some c =>
      rw [atPs_succ e]
      have := nextK_le (hs c (List.mem_of_getElem? e)) (atPs P k0 j)
      omega
/-- The first j hold marks. -/
def markTo (P : List Lc) (k0 j : Nat) : List Lc := P.mapIdx fun i c => if i < j then markC c (atPs P k0 i) else c
theorem markTo_get {P : List Lc} {k0 j i : Nat} : (markTo P k0 j)[i]? = (P[i]?).map fun c => if i < j then markC c (atPs P k0 i) else c := List.getElem?_mapIdx
theorem markTo_len {P : List Lc} {k0 j : Nat} : (markTo P k0 j).length = P.length := List.length_mapIdx
theorem markTo_zero {P : List Lc} {k0 : Nat} : markTo P k0 0 = P := by
  refine List.ext_getElem? fun i => ?_
  rw [markTo_get]
  cases P[i]? with
  | none => rfl
  | some c => exact congrArg some (if_neg (Nat.not_lt_zero _))
def markD (D : Dk Lc) (k0 : Nat) : Dk Lc := ⟨markC D.now k0, markTo D.past (nextK D.now k0) D.past.length⟩
def nextD (D : Dk Lc) (k0 : Nat) : Nat := atPs D.past (nextK D.now k0) D.past.length
structure Dk.Small (D : Dk Lc) : Prop where
  now : D.now.Small
  past : ∀ c ∈ D.past, c.Small
  len : D.past.length ≤ 1048576
theorem Dk.Is.sm {D : Dk Lc} (h : D.Is) : D.Small := ⟨h.1.sm, fun c hc => (h.2.1 c hc).sm, by have := h.2.2; omega⟩
theorem zeroC_small : zeroC.Small := ⟨Nat.zero_le _, fun _ hr => absurd hr (Nat.not_lt_zero _), Nat.zero_le _⟩
theorem zeroD_small : zeroD.Small := ⟨zeroC_small, fun c hc => absurd hc (by simp [zeroD]), Nat.zero_le _⟩
theorem PsW.small {w : World} {a : Option Addr} {g o : Nat} {X : List Iv} {P : List Lc} (h : PsW w a g o X P) : ∀ c ∈ P, c.Small := fun c hc => by
  obtain ⟨i, hi, rfl⟩ := List.getElem_of_mem hc
  have hi' : i < X.length := by rw [h.len]; exact hi
  exact (h.el i X[i] P[i] (List.getElem?_eq_getElem hi') (List.getElem?_eq_getElem hi)).1.small
theorem DeskI.small {w : World} {B base : Nat} {x : Iv} {pa : Option Addr} {pg po : Nat} {X : List Iv} {D : Dk Lc} (h : DeskI w B base x pa pg po X D) : D.Small := ⟨h.now.small, h.past.small, h.len⟩
theorem DeskW.small {w : World} {B base : Nat} {v : Value} {D : Dk Lc} (h : DeskW w B base v D) : D.Small := by
  obtain ⟨x, pa, pg, po, pc, X, rfl, h⟩ := h
  exact h.small
theorem apart_at {X : List Iv} (h : X.Pairwise Iv.Apart) {i j : Nat} {x y : Iv} (hi : X[i]? = some x) (hj : X[j]? = some y) (hne : i ≠ j) : x.Apart y := by
  obtain ⟨h1, e1⟩ := List.getElem?_eq_some_iff.1 hi
  obtain ⟨h2, e2⟩ := List.getElem?_eq_some_iff.1 hj
  rcases Nat.lt_or_gt_of_ne hne with hlt | hlt
  · rw [← e1, ← e2]; exact List.pairwise_iff_getElem.1 h i j h1 h2 hlt
  · rw [← e1, ← e2]; exact (List.pairwise_iff_getElem.1 h j i h2 h1 hlt).symm
/-- One more is marked. -/
theorem PsW.mark {S : Nat → Prop} {w w' : World} {a : Option Addr} {g o k0 j : Nat} {X : List Iv} {P : List Lc} {y : Iv} {c : Lc} (h : PsW w a g o X (markTo P k0 j)) (hc : Chg S w w') (hS : ∀ i, S i → y.lo ≤ i ∧ i < y.hi) (hy : X[j]? = some y) (hP : P[j]? = some c)
    (hw : CW w' y (markC c (atPs P k0 j))) (hap : X.Pairwise Iv.Apart) (ht : ∀ y ∈ X, g < y.lo ∨ y.hi ≤ g) : PsW w' a g o X (markTo P k0 (j + 1)) := by
  refine ⟨by rw [h.len, markTo_len, markTo_len], fun i x d hx hd => ?_⟩
  rw [markTo_get] at hd
  cases e : P[i]? with
  | none => rw [e] at hd; cases hd
  | some c0 =>
    rw [e] at hd
    simp only [Option.map_some] at hd
    have hg : ¬ S g := fun hs => by
      have h1 := hS g hs
      have h2 := ht y (List.mem_of_getElem? hy)
      omega
    obtain ⟨h1, h2, h3, h4, h5⟩ := h.el i x (if i < j then markC c0 (atPs P k0 i) else c0) hx (by rw [markTo_get, e]; rfl)
    have hk : ∀ p : Addr, p.block = g → w'.cell? p = w.cell? p := fun p hp => World.cell?_of_block (hc.block p.block (by rw [hp]; exact h3) (by rw [hp]; exact hg))
    refine ⟨?_, h2, Nat.lt_of_lt_of_le h3 hc.size, (hk _ rfl).trans h4, (hk _ rfl).trans h5⟩
    by_cases hij : i = j
    · subst hij
      obtain rfl : c = c0 := Option.some.inj (hP.symm.trans e)
      obtain rfl : y = x := Option.some.inj (hy.symm.trans hx)
      have hi1 : i < i + 1 := by omega
      rw [if_pos hi1] at hd
      cases hd
      exact hw
    · have he : (if i < j + 1 then markC c0 (atPs P k0 i) else c0) = if i < j then markC c0 (atPs P k0 i) else c0 := by
        by_cases h6 : i < j
        · rw [if_pos h6, if_pos (by omega)]
        · rw [if_neg h6, if_neg (by omega)]
      rw [he] at hd
      cases hd
      refine h1.chg hc fun q hq => ?_
      have h6 := hS q hq
      have h7 := apart_at hap hx hy hij
      unfold Iv.Apart at h7
      omega
end Go.Proofs.Ytojcgmgponnlpaa
