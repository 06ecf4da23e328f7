/- The walks of the reference's tests of modular logics: ModularOk, PentagonOf, HighOf, AddsUpOk; what they answer. -/
import Derived.Test.YtjmhhjdkemicbaaSl
import Derived.Test.YtjmhhjdkemicbaaMathP
import Derived.Test.YtjmhhjdkemicbaaMathS
namespace Go.Proofs.Ytjmhhjdkemicbaa
open Go.RowKit Go.Deep

/-- Something holds of each three answers. -/
def all3B (n : Nat) (p : Nat → Nat → Nat → Bool) : Bool := allB n fun a => allB n fun b => allB n fun d => p a b d
theorem all3_iff {n : Nat} {p : Nat → Nat → Nat → Bool} : all3B n p = true ↔ ∀ a b d, a < n → b < n → d < n → p a b d = true :=
  ⟨fun h a b d ha hb hd => allB_is (allB_is (allB_is h a ha) b hb) d hd, fun h => allB_true fun a ha => allB_true fun b hb => allB_true fun d hd => h a b d ha hb hd⟩
theorem all3_fails {n : Nat} {p : Nat → Nat → Nat → Bool} {a b d : Nat} (ha : a < n) (hb : b < n) (hd : d < n) (h : p a b d = false) : all3B n p = false := by
  cases e : all3B n p with
  | false => rfl
  | true => rw [all3_iff.1 e a b d ha hb hd] at h; cases h
theorem all3_mod (m : Mx) : all3B m.n (modP m) = modB m := rfl
theorem all3_bool (m : Mx) : all3B m.n (splitB m) = boolB m := by
  rw [Bool.eq_iff_iff, all3_iff, bool_iff]
/-- The number that three numbers are. -/
theorem num_lt {n a b d : Nat} (ha : a < n) (hb : b < n) (hd : d < n) : (a * n + b) * n + d < n * n * n := by
  have h2 : a * n + b < n * n := by
    have : (a + 1) * n ≤ n * n := Nat.mul_le_mul_right _ ha
    rw [Nat.add_mul, Nat.one_mul] at this
    omega
  have : (a * n + b + 1) * n ≤ n * n * n := Nat.mul_le_mul_right _ h2
  rw [Nat.add_mul, Nat.one_mul] at this
  omega
theorem num_parts {n a b d : Nat} (hb : b < n) (hd : d < n) : ((a * n + b) * n + d) / n / n = a ∧ ((a * n + b) * n + d) / n % n = b ∧ ((a * n + b) * n + d) % n = d := by
  have hp : 0 < n := by omega
  have e1 : ((a * n + b) * n + d) / n = a * n + b := by
    rw [Nat.add_comm, Nat.add_mul_div_right _ _ hp, Nat.div_eq_of_lt hd, Nat.zero_add]
  rw [e1]
  refine ⟨?_, ?_, ?_⟩
  · rw [Nat.add_comm, Nat.add_mul_div_right _ _ hp, Nat.div_eq_of_lt hb, Nat.zero_add]
  · rw [Nat.add_comm, Nat.add_mul_mod_self_right, Nat.mod_eq_of_lt hb]
  · rw [Nat.add_comm, Nat.add_mul_mod_self_right, Nat.mod_eq_of_lt hd]
theorem num_of (k n : Nat) : k = (k / n / n * n + k / n % n) * n + k % n := by
  have e1 := Nat.div_add_mod k n
  have e2 := Nat.div_add_mod (k / n) n
  rw [Nat.mul_comm (k / n / n) n, e2, Nat.mul_comm (k / n) n]
  omega
theorem all3_trip {n : Nat} {p : Nat → Nat → Nat → Bool} (hp : 0 < n) : all3B n p = true ↔ ∀ k, k < n * n * n → p (k / n / n) (k / n % n) (k % n) = true := by
  rw [all3_iff]
  constructor
  · intro h k hk
    have h1 : k / n < n * n := (Nat.div_lt_iff_lt_mul hp).2 hk
    exact h _ _ _ ((Nat.div_lt_iff_lt_mul hp).2 h1) (Nat.mod_lt _ hp) (Nat.mod_lt _ hp)
  · intro h a b d ha hb hd
    have h3 := h _ (num_lt ha hb hd)
    obtain ⟨e1, e2, e3⟩ := num_parts (a := a) hb hd
    rw [e1, e2, e3] at h3
    exact h3
/-- Of two numbers of three digits the lower one has the lower digits. -/
theorem num_lex {n a b d i : Nat} (hb : b < n) (hd : d < n) (h : i < (a * n + b) * n + d) : i / n / n < a ∨ (i / n / n = a ∧ i / n % n < b) ∨ (i / n / n = a ∧ i / n % n = b ∧ i % n < d) := by
  have hp : 0 < n := by omega
  have e := num_of i n
  have hC := Nat.mod_lt (i / n) hp
  have hE := Nat.mod_lt i hp
  obtain ⟨A, hA⟩ : ∃ A, A = i / n / n := ⟨_, rfl⟩
  obtain ⟨C, hCe⟩ : ∃ C, C = i / n % n := ⟨_, rfl⟩
  obtain ⟨E, hEe⟩ : ∃ E, E = i % n := ⟨_, rfl⟩
  rw [← hA, ← hCe, ← hEe] at e
  rw [← hCe] at hC
  rw [← hEe] at hE
  rw [← hA, ← hCe, ← hEe]
  clear hA hCe hEe
  apply Classical.byContradiction
  intro hn
  by_cases h1 : A = a
  · subst h1
    by_cases h2 : C = b
    · subst h2; omega
    · have h3 : b + 1 ≤ C := by omega
      have h4 : (A * n + b + 1) * n ≤ (A * n + C) * n := Nat.mul_le_mul_right _ (by omega)
      rw [Nat.add_mul (A * n + b), Nat.one_mul] at h4
      omega
  · have h3 : a + 1 ≤ A := by omega
    have h4 : (a + 1) * n ≤ A * n := Nat.mul_le_mul_right _ h3
    rw [Nat.add_mul, Nat.one_mul] at h4
    have h5 : (a * n + b + 1) * n ≤ (A * n + C) * n := Nat.mul_le_mul_right _ (by omega)
    rw [Nat.add_mul (a * n + b), Nat.one_mul] at h5
    omega

noncomputable def modV (m : Mx) (k : Nat) (z : Nat → Int) : Bool := logicB m k z && modB m
/-- The first pentagon's number, -1 if there is none. -/
def pentI (m : Mx) : Int := firstI (m.n * m.n * m.n) fun k => pentP m (k / m.n / m.n) (k / m.n % m.n) (k % m.n)
noncomputable def pentOk (m : Mx) (k : Nat) (z : Nat → Int) : Bool := logicB m k z && decide (0 ≤ pentI m)
noncomputable def pentA (m : Mx) (k : Nat) (z : Nat → Int) : Int := if pentOk m k z = true then (((pentI m).toNat / m.n / m.n : Nat) : Int) else -1
noncomputable def pentC (m : Mx) (k : Nat) (z : Nat → Int) : Int := if pentOk m k z = true then (((pentI m).toNat / m.n % m.n : Nat) : Int) else -1
noncomputable def pentB (m : Mx) (k : Nat) (z : Nat → Int) : Int := if pentOk m k z = true then (((pentI m).toNat % m.n : Nat) : Int) else -1
noncomputable def pentV (m : Mx) (k : Nat) (z : Nat → Int) : Value := .tuple #[.int .i64 (pentA m k z), .int .i64 (pentC m k z), .int .i64 (pentB m k z), .bool (pentOk m k z)]
theorem pent_no_logic {m : Mx} {k : Nat} {z : Nat → Int} (h : logicB m k z = false) : pentV m k z = .tuple #[.int .i64 (-1), .int .i64 (-1), .int .i64 (-1), .bool false] := by
  have e : pentOk m k z = false := by unfold pentOk; rw [h]; rfl
  unfold pentV pentA pentC pentB
  rw [e]; rfl
theorem pent_none {m : Mx} {k : Nat} {z : Nat → Int} (h : ∀ i, i < m.n * m.n * m.n → pentP m (i / m.n / m.n) (i / m.n % m.n) (i % m.n) = false) : pentV m k z = .tuple #[.int .i64 (-1), .int .i64 (-1), .int .i64 (-1), .bool false] := by
  have e0 : pentI m = -1 := firstI_none h
  have e : pentOk m k z = false := by unfold pentOk; rw [e0]; simp
  unfold pentV pentA pentC pentB
  rw [e]; rfl
theorem pent_hit {m : Mx} {k : Nat} {z : Nat → Int} {i : Nat} (hl : logicB m k z = true) (hi : i < m.n * m.n * m.n) (h : ∀ j, j < i → pentP m (j / m.n / m.n) (j / m.n % m.n) (j % m.n) = false) (hp : pentP m (i / m.n / m.n) (i / m.n % m.n) (i % m.n) = true) :
    pentV m k z = .tuple #[.int .i64 ((i / m.n / m.n : Nat) : Int), .int .i64 ((i / m.n % m.n : Nat) : Int), .int .i64 ((i % m.n : Nat) : Int), .bool true] := by
  have e0 : pentI m = (i : Int) := firstI_hit hi h hp
  have e : pentOk m k z = true := by unfold pentOk; rw [hl, e0]; simp
  unfold pentV pentA pentC pentB
  rw [if_pos e, if_pos e, if_pos e, e, e0, Int.toNat_natCast]
noncomputable def highV (m : Mx) (k : Nat) (z : Nat → Int) (x : Int) : Int := if (logicB m k z && goodB m.n 1 (lone1 x)) = true then ((highN m x.toNat : Nat) : Int) else -1
noncomputable def addsV (m : Mx) (k : Nat) (z : Nat → Int) : Bool := logicB m k z && addsB m
theorem one_parts {m : Mx} {k : Nat} {z : Nat → Int} {x : Int} (h : (logicB m k z && goodB m.n 1 (lone1 x)) = true) : ∃ (a o : Nat), x = (a : Int) ∧ a < m.n ∧ k = m.n ∧ logicB m k z = true ∧ leastI m = (o : Int) ∧ Ortho m z (fun c => (z c).toNat) o := by
  rw [Bool.and_eq_true] at h
  obtain ⟨x0, x1⟩ := good_lone h.2
  obtain ⟨a, rfl⟩ := Int.eq_ofNat_of_zero_le x0
  obtain ⟨y, o, hO⟩ := (logicB_is h.1).ortho
  exact ⟨a, o, rfl, by omega, (logicB_is h.1).pair.len, h.1, hO.own.eq, hO.own⟩
theorem hN_le (m : Mx) : ∀ (s a : Nat), hN m s a ≤ s := by
  intro s
  induction s with
  | zero => intro a; exact Nat.le_refl _
  | succ s ih =>
    intro a
    have key : ∀ n, maxTo (fun k => if (k != a && leB m k a) = true then hN m s k + 1 else 0) n ≤ s + 1 := by
      intro n
      induction n with
      | zero => exact Nat.zero_le _
      | succ n in_ =>
        have e : maxTo (fun k => if (k != a && leB m k a) = true then hN m s k + 1 else 0) (n + 1) = max (maxTo (fun k => if (k != a && leB m k a) = true then hN m s k + 1 else 0) n) (if (n != a && leB m n a) = true then hN m s n + 1 else 0) := rfl
        rw [e]
        have := ih n
        split <;> omega
    exact key m.n
theorem high_le (m : Mx) (a : Nat) : highN m a ≤ m.n := hN_le m m.n a

end Go.Proofs.Ytjmhhjdkemicbaa
