/- How sums of powers of two read in the program's numbers: shifts, remainders, unions. -/
import Derived.Test.YtijcacibofpnpaaDoorZMathK
import Derived.Test.YtijcacibofpnpaaDoorZDa
import Derived.Test.YtijcacibofpnpaaDoorZAb
namespace Go.Proofs.YtijcacibofpnpaaDoor
open Go.RowKit Go.Deep

theorem pow_le_12 {k : Nat} (h : k ≤ 12) : 2 ^ k ≤ 4096 := by
  have := Nat.pow_le_pow_right (n := 2) (by omega) h
  exact this
theorem i64_or_nat (a b : Nat) (ha : a < 9223372036854775808) (hb : b < 9223372036854775808) : bits .or .i64 (a : Int) (b : Int) = ((a ||| b : Nat) : Int) := by
  have hx : a ||| b < 2 ^ 63 := Nat.or_lt_two_pow (by omega) (by omega)
  show IntKind.i64.wrap ((BitVec.ofInt 64 (a : Int) ||| BitVec.ofInt 64 (b : Int)).toNat : Int) = _
  rw [BitVec.toNat_or, ofInt_i64 a ha, ofInt_i64 b hb, IntKind.wrap_i64]
  omega
theorem i64_and_nat (a b : Nat) (ha : a < 9223372036854775808) (hb : b < 9223372036854775808) : bits .and .i64 (a : Int) (b : Int) = ((a &&& b : Nat) : Int) := by
  have hx : a &&& b < 2 ^ 63 := Nat.and_lt_two_pow _ (by omega)
  show IntKind.i64.wrap ((BitVec.ofInt 64 (a : Int) &&& BitVec.ofInt 64 (b : Int)).toNat : Int) = _
  rw [BitVec.toNat_and, ofInt_i64 a ha, ofInt_i64 b hb, IntKind.wrap_i64]
  omega
theorem one_wrap {k : Nat} (h : k ≤ 12) : IntKind.i64.wrap (2 ^ k) = ((2 ^ k : Nat) : Int) := by
  have := pow_le_12 h
  have e : ((2 : Int) ^ k) = ((2 ^ k : Nat) : Int) := by push_cast; rfl
  rw [e]
  generalize 2 ^ k = q at this
  exact IntWalk.i64_in _ (by omega)
end Go.Proofs.YtijcacibofpnpaaDoor

/- The numbers of the centre as one sum of powers; the walk of hasInt. -/
namespace Go.Proofs.YtijcacibofpnpaaDoor
open Go.RowKit Go.Deep

def sumL (xs : List Int) : Nat := (xs.map fun x => 2 ^ x.toNat).sum
theorem sumL_snoc (xs : List Int) (x : Int) : sumL (xs ++ [x]) = sumL xs + 2 ^ x.toNat := by unfold sumL; simp
theorem sumL_take {xs : List Int} {j : Nat} (h : j < xs.length) : sumL (xs.take (j + 1)) = sumL (xs.take j) + 2 ^ (xs[j]?.getD 0).toNat := by
  rw [List.take_succ_eq_append_getElem h, sumL_snoc]
  simp [h]
theorem sumL_le (xs : List Int) (j : Nat) : sumL (xs.take j) ≤ sumL xs := by
  have e : sumL xs = sumL (xs.take j) + sumL (xs.drop j) := by
    unfold sumL
    rw [← List.sum_append, ← List.map_append, List.take_append_drop]
  omega
/-- Bits set where a test holds, below a number. -/
def bitS (p : Nat → Bool) : Nat → Nat
  | 0 => 0
  | k + 1 => if p k = true then bitS p k + 2 ^ k else bitS p k
theorem bitS_is (p : Nat → Bool) (k : Nat) : bitS p k < 2 ^ k ∧ ∀ a, (bitS p k).testBit a = (decide (a < k) && p a) := by
  induction k with
  | zero => exact ⟨by show (0 : Nat) < 1; omega, fun a => by simp [bitS]⟩
  | succ k ih =>
    obtain ⟨h1, h2⟩ := ih
    have hp : 2 ^ (k + 1) = 2 ^ k + 2 ^ k := by rw [Nat.pow_succ]; omega
    cases hk : p k with
    | true =>
      have e : bitS p (k + 1) = bitS p k + 2 ^ k := by show (if _ then _ else _) = _; rw [if_pos hk]
      have e2 : bitS p k + 2 ^ k = 2 ^ k ||| bitS p k := by
        have h := Nat.two_pow_add_eq_or_of_lt h1 1
        rw [Nat.mul_one] at h
        rw [Nat.add_comm]; exact h
      refine ⟨by rw [e]; omega, fun a => ?_⟩
      rw [e, e2, Nat.testBit_or, Nat.testBit_two_pow, h2]
      by_cases ha : a = k
      · subst ha; simp [hk]
      · have : (k = a) = False := by simp; omega
        simp only [this, decide_false, Bool.false_or]
        rw [Bool.eq_iff_iff]
        simp only [Bool.and_eq_true, decide_eq_true_iff]
        constructor
        · rintro ⟨q1, q2⟩; exact ⟨by omega, q2⟩
        · rintro ⟨q1, q2⟩; exact ⟨by omega, q2⟩
    | false =>
      have e : bitS p (k + 1) = bitS p k := by show (if _ then _ else _) = _; rw [if_neg (by rw [hk]; exact Bool.false_ne_true)]
      refine ⟨by rw [e]; omega, fun a => ?_⟩
      rw [e, h2]
      by_cases ha : a = k
      · subst ha; simp [hk]
      · rw [Bool.eq_iff_iff]
        simp only [Bool.and_eq_true, decide_eq_true_iff]
        constructor
        · rintro ⟨q1, q2⟩; exact ⟨by omega, q2⟩
        · rintro ⟨q1, q2⟩; exact ⟨by omega, q2⟩
theorem sumL_mid (m : Mx) (y : Nat → Nat) (k : Nat) : sumL (midTo m y k) = bitS (midB m y) k := by
  induction k with
  | zero => rfl
  | succ k ih =>
    cases hk : midB m y k with
    | true =>
      rw [midTo_yes hk, sumL_snoc, ih]
      show _ = (if _ then _ else _)
      rw [if_pos hk]; simp
    | false =>
      rw [midTo_no hk, ih]
      show _ = (if _ then _ else _)
      rw [if_neg (by rw [hk]; exact Bool.false_ne_true)]
theorem midTo_in (m : Mx) (y : Nat → Nat) (k : Nat) : ∀ x ∈ midTo m y k, ∃ c : Nat, x = (c : Int) ∧ c < k ∧ midB m y c = true := by
  induction k with
  | zero => intro x hx; cases hx
  | succ k ih =>
    intro x hx
    cases hk : midB m y k with
    | true =>
      rw [midTo_yes hk] at hx
      rcases List.mem_append.1 hx with h | h
      · obtain ⟨c, e, h1, h2⟩ := ih x h
        exact ⟨c, e, by omega, h2⟩
      · exact ⟨k, by simpa using h, by omega, hk⟩
    | false =>
      rw [midTo_no hk] at hx
      obtain ⟨c, e, h1, h2⟩ := ih x hx
      exact ⟨c, e, by omega, h2⟩
theorem midTo_has {m : Mx} {y : Nat → Nat} {k c : Nat} (hc : c < k) (h : midB m y c = true) : (c : Int) ∈ midTo m y k := by
  induction k with
  | zero => omega
  | succ k ih =>
    by_cases e : c = k
    · subst e; rw [midTo_yes h]; simp
    · have := ih (by omega)
      cases hk : midB m y k with
      | true => rw [midTo_yes hk]; exact List.mem_append_left _ this
      | false => rw [midTo_no hk]; exact this
/-- An element of a list stands somewhere. -/
theorem at_some {xs : List Int} {x : Int} (h : x ∈ xs) : ∃ j, j < xs.length ∧ xs[j]?.getD 0 = x := by
  obtain ⟨j, hj, e⟩ := List.getElem_of_mem h
  exact ⟨j, hj, by simp [hj, e]⟩
theorem get_in {xs : List Int} {j : Nat} (h : j < xs.length) : xs[j]?.getD 0 ∈ xs := by simp [h]
set_option maxRecDepth 100000 in
set_option maxHeartbeats 1000000 in
theorem hasInt_any {w : World} {base n j0 : Nat} {v : Value} {z : Nat → Int} {x : Int} (hn : n ≤ 1048576) (h : w.ownsRow base 3 1 v n ((List.range n).map fun i => .int .i64 (z i))) (hj : j0 < n) (hx : z j0 = x) :
    Calls Tryd.prog 13 #[v, .int .i64 x] w fun e w' => e = .returned (.bool true) ∧ w = w' := by
  rcases owns_ways h with ⟨rfl, rfl⟩ | ⟨g, cap, rfl, hc⟩
  · omega
  · have HC := Lib.hid hc
    have HX := Lib.hid hx
    clear hc hx h
    go_enter Tryd.func13, Tryd.ntmps13
    go_wp2_with fail
    go_loopw [5] (fun i wr => ∃ k : Nat, k ≤ j0 ∧ i = .int .i64 k ∧ wr = w) (fun i _ => n - (intOf i).toNat)
    case atStart => exact ⟨0, Nat.zero_le _, rfl, rfl⟩
    case round =>
      obtain ⟨k, hk, rfl, rfl⟩ := hrel
      have hkn : (k : Int) < n := by omega
      have hcell := HC.out k (by omega)
      by_cases e : z k = x
      · have e1 : (z k == x) = true := by simp [e]
        go_wp2_with fail
        go_ret
        exact ⟨rfl, rfl⟩
      · have e1 : (z k == x) = false := by simp [e]
        have hne : k ≠ j0 := fun e2 => e (by rw [e2]; exact HX.out)
        clear e
        go_wp2_with fail
        go_roundw
        case rel => exact ⟨k + 1, by omega, by go_num, trivial⟩
        case measure => simp [intOf]; omega
end Go.Proofs.YtijcacibofpnpaaDoor
