/- The numbers of the centre as one sum of powers; the walk of hasInt. -/
import Derived.Test.YtnbglbhfclohjaaDoorAa
import Derived.Test.YtnbglbhfclohjaaDoorMathN
namespace Go.Proofs.YtnbglbhfclohjaaDoor
open Go.RowKit Go.Deep

def sumL (xs : List Int) : Nat := (xs.map fun x => 2 ^ x.toNat).sum
theorem sumL_snoc (xs : List Int) (x : Int) : sumL (xs ++ [x]) = sumL xs + 2 ^ x.toNat := by unfold sumL; simp
theorem sumL_take {xs : List Int} {j : Nat} (h : j < xs.length) : sumL (xs.take (j + 1)) = sumL (xs.take j) + 2 ^ (xs[j]?.getD 0).toNat := by
  rw [List.take_succ_eq_append_getElem h, sumL_snoc]
  simp [h]
theorem sumL_le (xs : List Int) (j : Nat) : sumL (xs.take j) ≤ sumL xs := by
  have e : sumL xs = sumL (xs.take j) + sumL (xs.drop j) := by
    unfold sumL
    rw [← List.sum_append, ← List.map_append, List.take_append_drop]
  omega
theorem sumL_mid (m : Mx) (y : Nat → Nat) (k : Nat) : sumL (midTo m y k) = bitS (midB m y) k := by
  induction k with
  | zero => rfl
  | succ k ih =>
    cases hk : midB m y k with
    | true =>
      rw [midTo_yes hk, sumL_snoc, ih]
      show _ = (if _ then _ else _)
      rw [if_pos hk]; simp
    | false =>
      rw [midTo_no hk, ih]
      show _ = (if _ then _ else _)
      rw [if_neg (by rw [hk]; exact Bool.false_ne_true)]
theorem midTo_in (m : Mx) (y : Nat → Nat) (k : Nat) : ∀ x ∈ midTo m y k, ∃ c : Nat, x = (c : Int) ∧ c < k ∧ midB m y c = true := by
  induction k with
  | zero => intro x hx; cases hx
  | succ k ih =>
    intro x hx
    cases hk : midB m y k with
    | true =>
      rw [midTo_yes hk] at hx
      rcases List.mem_append.1 hx with h | h
      · obtain ⟨c, e, h1, h2⟩ := ih x h
        exact ⟨c, e, by omega, h2⟩
      · exact ⟨k, by simpa using h, by omega, hk⟩
    | false =>
      rw [midTo_no hk] at hx
      obtain ⟨c, e, h1, h2⟩ := ih x hx
      exact ⟨c, e, by omega, h2⟩
theorem midTo_has {m : Mx} {y : Nat → Nat} {k c : Nat} (hc : c < k) (h : midB m y c = true) : (c : Int) ∈ midTo m y k := by
  induction k with
  | zero => omega
  | succ k ih =>
    by_cases e : c = k
    · subst e; rw [midTo_yes h]; simp
    · have := ih (by omega)
      cases hk : midB m y k with
      | true => rw [midTo_yes hk]; exact List.mem_append_left _ this
      | false => rw [midTo_no hk]; exact this
/-- An element of a list stands somewhere. -/
theorem at_some {xs : List Int} {x : Int} (h : x ∈ xs) : ∃ j, j < xs.length ∧ xs[j]?.getD 0 = x := by
  obtain ⟨j, hj, e⟩ := List.getElem_of_mem h
  exact ⟨j, hj, by simp [hj, e]⟩
theorem get_in {xs : List Int} {j : Nat} (h : j < xs.length) : xs[j]?.getD 0 ∈ xs := by simp [h]
set_option maxRecDepth 100000 in
set_option maxHeartbeats 1000000 in
theorem hasInt_any {w : World} {base n j0 : Nat} {v : Value} {z : Nat → Int} {x : Int} (hn : n ≤ 1048576) (h : w.ownsRow base 3 1 v n ((List.range n).map fun i => .int .i64 (z i))) (hj : j0 < n) (hx : z j0 = x) :
    Calls Tryd.prog 20 #[v, .int .i64 x] w fun e w' => e = .returned (.bool true) ∧ w = w' := by
  rcases owns_ways h with ⟨rfl, rfl⟩ | ⟨g, cap, rfl, hc⟩
  · omega
  · have HC := Lib.hid hc
    have HX := Lib.hid hx
    clear hc hx h
    go_enter Tryd.func20, Tryd.ntmps20
    go_wp2_with fail
    go_loopw [5] (fun i wr => ∃ k : Nat, k ≤ j0 ∧ i = .int .i64 k ∧ wr = w) (fun i _ => n - (intOf i).toNat)
    case atStart => exact ⟨0, Nat.zero_le _, rfl, rfl⟩
    case round =>
      obtain ⟨k, hk, rfl, rfl⟩ := hrel
      have hkn : (k : Int) < n := by omega
      have hcell := HC.out k (by omega)
      by_cases e : z k = x
      · have e1 : (z k == x) = true := by simp [e]
        go_wp2_with fail
        go_ret
        exact ⟨rfl, rfl⟩
      · have e1 : (z k == x) = false := by simp [e]
        have hne : k ≠ j0 := fun e2 => e (by rw [e2]; exact HX.out)
        clear e
        go_wp2_with fail
        go_roundw
        case rel => exact ⟨k + 1, by omega, by go_num, trivial⟩
        case measure => simp [intOf]; omega
end Go.Proofs.YtnbglbhfclohjaaDoor
