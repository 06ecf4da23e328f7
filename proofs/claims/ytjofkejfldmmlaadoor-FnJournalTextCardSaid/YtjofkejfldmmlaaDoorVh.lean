/- The walk of the reference's l3Inner: the answers other than no and yes. -/
import Derived.Test.YtjofkejfldmmlaaDoorGa
import Derived.Test.YtjofkejfldmmlaaDoorOi
import Derived.Test.YtjofkejfldmmlaaDoorMath
namespace Go.Proofs.YtjofkejfldmmlaaDoor
open Go.RowKit Go.Deep

/-- The numbers that are neither of two. -/
def innerI (lo hi : Int) : Nat → List Nat
  | 0 => []
  | k + 1 => if (k : Int) = lo ∨ (k : Int) = hi then innerI lo hi k else innerI lo hi k ++ [k]
theorem innerI_no {lo hi : Int} {k : Nat} (h : (k : Int) = lo ∨ (k : Int) = hi) : innerI lo hi (k + 1) = innerI lo hi k := by rw [innerI, if_pos h]
theorem innerI_yes {lo hi : Int} {k : Nat} (h : ¬ ((k : Int) = lo ∨ (k : Int) = hi)) : innerI lo hi (k + 1) = innerI lo hi k ++ [k] := by rw [innerI, if_neg h]
theorem innerI_len (lo hi : Int) (k : Nat) : (innerI lo hi k).length ≤ k := by
  induction k with
  | zero => simp [innerI]
  | succ k ih =>
    by_cases h : (k : Int) = lo ∨ (k : Int) = hi
    · rw [innerI_no h]; omega
    · rw [innerI_yes h, List.length_append, List.length_singleton]; omega
theorem innerI_to (lo hi k : Nat) : innerI (lo : Int) (hi : Int) k = innerTo lo hi k := by
  induction k with
  | zero => rfl
  | succ k ih =>
    by_cases h : k = lo ∨ k = hi
    · rw [innerTo_no h, innerI_no (by omega), ih]
    · rw [innerTo_yes h, innerI_yes (by omega), ih]
theorem innerI_pre (lo hi : Int) {k n : Nat} (h : k ≤ n) : ∃ t, innerI lo hi n = innerI lo hi k ++ t := by
  induction n with
  | zero => exact ⟨[], by obtain rfl : k = 0 := by omega
                          simp⟩
  | succ n ih =>
    rcases Nat.lt_or_ge n k with e | e
    · obtain rfl : k = n + 1 := by omega
      exact ⟨[], by simp⟩
    · obtain ⟨t, ht⟩ := ih e
      by_cases hh : (n : Int) = lo ∨ (n : Int) = hi
      · exact ⟨t, by rw [innerI_no hh, ht]⟩
      · exact ⟨t ++ [n], by rw [innerI_yes hh, ht, List.append_assoc]⟩
def innerV (lo hi : Int) (n i : Nat) : Nat := (innerI lo hi n)[i]?.getD 0
theorem innerV_at {lo hi : Int} {k n : Nat} (hk : k < n) (h : ¬ ((k : Int) = lo ∨ (k : Int) = hi)) : innerV lo hi n (innerI lo hi k).length = k := by
  obtain ⟨t, ht⟩ := innerI_pre lo hi (show k + 1 ≤ n from hk)
  unfold innerV
  rw [ht, innerI_yes h, List.append_assoc, List.getElem?_append_right (Nat.le_refl _)]
  simp
theorem IntsAt.shape {w : World} {base : Nat} {t : Value} {k : Nat} {y : Nat → Int} (h : IntsAt w base t k y) : ∃ a c, t = .slice a k c := by
  rcases h.2 with ⟨rfl, rfl⟩ | ⟨g, cap, cur, rfl, _⟩
  · exact ⟨_, _, rfl⟩
  · exact ⟨_, _, rfl⟩
theorem IntsAt.rowAt {w : World} {base : Nat} {a : Option Addr} {k c : Nat} {y : Nat → Int} (h : IntsAt w base (.slice a k c) k y) : ∃ g, RowAt w w.heap.size a g 0 k y := by
  by_cases hk : 0 < k
  · obtain ⟨g, c', e, _, h3, _⟩ := IntsAt.val h hk
    injection e with e1 e2 e3
    subst e1 e3
    exact ⟨g, ⟨fun i hi => ⟨rfl, h3, by rw [Nat.zero_add]; exact IntsAt.cell h hi⟩⟩⟩
  · exact ⟨0, ⟨fun i hi => absurd hi (by omega)⟩⟩
theorem IntsAt.below {w w' : World} {base : Nat} {t : Value} {k : Nat} {y : Nat → Int} (h : IntsAt w base t k y) (hb : Below w.heap.size w w') : IntsAt w' base t k y := ownsRow_below h hb (Nat.le_refl _)

/-- What l3Inner hands back: so many numbers. -/
def InnerRes (w : World) (p : Nat) (f : Nat → Nat) (e : Ending) (w' : World) : Prop :=
  ∃ a g c, e = .returned (.slice a p c) ∧ RowAt w' w'.heap.size a g 0 p (fun i => (f i : Int)) ∧ Below w.heap.size w w'

end Go.Proofs.YtjofkejfldmmlaaDoor
