/- Other names: a row of all numbers, each once; the walk of the program's eachOnce. -/
import Derived.Test.YtgjacinolenheaaZVa
import Derived.Test.YtgjacinolenheaaZMathI
namespace Go.Proofs.Ytgjacinolenheaa
open Go.RowKit Go.Deep

/-- As many numbers in as few places: each place is met. -/
theorem pigeon : ∀ (n : Nat) (f : Nat → Nat), (∀ i, i < n → f i < n) → (∀ i j, i < n → j < n → f i = f j → i = j) → ∀ c, c < n → ∃ i, i < n ∧ f i = c
  | 0, _, _, _, _, h => absurd h (Nat.not_lt_zero _)
  | n + 1, f, hf, hi, c, hc => by
    have ht := hf n (by omega)
    have ih := pigeon n (fun i => if f i = n then f n else f i) (fun i hl => by
      show (if f i = n then f n else f i) < n
      have h1 := hf i (by omega)
      by_cases e : f i = n
      · rw [if_pos e]
        have h2 : f n ≠ n := fun e2 => by have := hi i n (by omega) (by omega) (by omega); omega
        omega
      · rw [if_neg e]; omega) (fun i j hl hj e => by
      have e' : (if f i = n then f n else f i) = (if f j = n then f n else f j) := e
      by_cases e1 : f i = n
      · by_cases e2 : f j = n
        · exact hi i j (by omega) (by omega) (by omega)
        · rw [if_pos e1, if_neg e2] at e'
          have := hi n j (by omega) (by omega) e'
          omega
      · by_cases e2 : f j = n
        · rw [if_neg e1, if_pos e2] at e'
          have := hi i n (by omega) (by omega) e'
          omega
        · rw [if_neg e1, if_neg e2] at e'
          exact hi i j (by omega) (by omega) e')
    by_cases e : c = f n
    · exact ⟨n, by omega, e.symm⟩
    · by_cases e1 : c = n
      · obtain ⟨i, hl, e2⟩ := ih (f n) (by omega)
        have e3 : (if f i = n then f n else f i) = f n := e2
        by_cases e4 : f i = n
        · exact ⟨i, by omega, by omega⟩
        · rw [if_neg e4] at e3
          have := hi i n (by omega) (by omega) e3
          omega
      · obtain ⟨i, hl, e2⟩ := ih c (by omega)
        have e3 : (if f i = n then f n else f i) = c := e2
        by_cases e4 : f i = n
        · rw [if_pos e4] at e3
          exact absurd e3.symm e
        · rw [if_neg e4] at e3
          exact ⟨i, by omega, e3⟩
/-- So many numbers stand in the row, each of them, and it is as long. -/
def eachB (n len : Nat) (z : Nat → Int) : Bool := allB n (fun a => hasI (firstI len (fun c => (a : Int) == z c))) && decide (len = n)
def placeN (n : Nat) (z : Nat → Int) (a : Nat) : Nat := (firstI n (fun c => (a : Int) == z c)).toNat
structure Each (n : Nat) (z : Nat → Int) : Prop where
  perm : Perm n (fun c => (z c).toNat) (placeN n z)
  nat : ∀ c, c < n → z c = ((z c).toNat : Int)
  at_ : ∀ a, a < n → firstI n (fun c => (a : Int) == z c) = (placeN n z a : Int)
theorem each_of {n : Nat} {z : Nat → Int} (h : ∀ a, a < n → ∃ c, c < n ∧ z c = (a : Int)) : Each n z := by
  have hb : ∀ a, a < n → placeN n z a < n ∧ z (placeN n z a) = (a : Int) ∧ firstI n (fun c => (a : Int) == z c) = (placeN n z a : Int) := fun a ha => by
    rcases firstI_ways n (fun c => (a : Int) == z c) with ⟨_, h0⟩ | ⟨k, hk, e, h1, _⟩
    · obtain ⟨c, hc, e⟩ := h a ha
      have := h0 c hc
      simp [e] at this
    · have e1 : placeN n z a = k := by unfold placeN; rw [e]; rfl
      rw [e1]
      exact ⟨hk, by simpa using (beq_iff_eq.1 h1).symm, e⟩
  have hs := pigeon n (placeN n z) (fun a ha => (hb a ha).1) (fun a a' ha ha' e => by
    have h1 := (hb a ha).2.1
    have h2 := (hb a' ha').2.1
    rw [e] at h1
    omega)
  refine ⟨⟨fun c hc => ?_, fun a ha => (hb a ha).1, fun a ha => ?_, fun c hc => ?_⟩, fun c hc => ?_, fun a ha => (hb a ha).2.2⟩
  · obtain ⟨a, ha, rfl⟩ := hs c hc
    have := (hb a ha).2.1
    show (z (placeN n z a)).toNat < n
    omega
  · show (z (placeN n z a)).toNat = a
    have := (hb a ha).2.1
    omega
  · obtain ⟨a, ha, rfl⟩ := hs c hc
    show placeN n z (z (placeN n z a)).toNat = placeN n z a
    rw [(hb a ha).2.1]
    rfl
  · obtain ⟨a, ha, rfl⟩ := hs c hc
    have := (hb a ha).2.1
    omega
theorem eachB_is {n len : Nat} {z : Nat → Int} (h : eachB n len z = true) : len = n ∧ Each n z := by
  unfold eachB at h
  simp only [Bool.and_eq_true, decide_eq_true_eq] at h
  obtain ⟨h1, h2⟩ := h
  subst h2
  refine ⟨rfl, each_of fun a ha => ?_⟩
  have h3 := allB_is h1 a ha
  rcases firstI_ways len (fun c => (a : Int) == z c) with ⟨e, _⟩ | ⟨k, hk, _, h4, _⟩
  · rw [e] at h3; cases h3
  · exact ⟨k, hk, (beq_iff_eq.1 h4).symm⟩
theorem eachB_mk {n : Nat} {z : Nat → Int} (h : ∀ a, a < n → ∃ c, c < n ∧ z c = (a : Int)) : eachB n n z = true := by
  unfold eachB
  rw [allB_true fun a ha => by rw [(each_of h).at_ a ha]; exact hasI_nat _, decide_eq_true rfl]
  rfl
theorem eachB_len {n len : Nat} {z : Nat → Int} (h : len ≠ n) : eachB n len z = false := by
  unfold eachB
  rw [decide_eq_false h]
  cases allB n _ <;> rfl

set_option maxRecDepth 100000 in
set_option maxHeartbeats 1000000 in
theorem eachOnce_any {B : Nat} {a : Option Addr} {g o len cap n : Nat} {z : Nat → Int} {w : World} (hl : len ≤ 9223372036854775807) (hn : n ≤ 9223372036854775807) (h : RowAt w B a g o len z) :
    Calls Try.prog 113 #[.slice a len cap, .int .i64 (n : Int)] w fun e w' => e = .returned (.bool (eachB n len z)) ∧ w = w' := by
  have H := Lib.hid h
  clear h
  go_enter Try.func113, Try.ntmps113
  go_wp2_with fail
  go_loopw [5, 7] (fun _ i wr => ∃ k : Nat, k ≤ n ∧ i = .int .i64 k ∧ w = wr ∧ Hid (∀ a, a < k → hasI (firstI len (fun c => (a : Int) == z c)) = true)) (fun _ i _ => n - (intOf i).toNat)
  case atStart => exact ⟨0, Nat.zero_le _, rfl, rfl, fun a ha => absurd ha (Nat.not_lt_zero _)⟩
  case round =>
    obtain ⟨k, hk, rfl, rfl, hH⟩ := hrel
    by_cases hlt : k < n
    · have hlt' : (k : Int) < (n : Int) := by omega
      go_wp2_with fail
      go_at_call 121
      refine (Contains_any hl H.out).mono ?_
      rintro e w1 ⟨rfl, rfl⟩
      cases hf : hasI (firstI len (fun c => (k : Int) == z c)) with
      | true =>
        have HN : Hid (∀ a, a < k + 1 → hasI (firstI len (fun c => (a : Int) == z c)) = true) := fun a ha => by
          by_cases e : a = k
          · rw [e]; exact hf
          · exact hH.out a (by omega)
        clear hf
        go_wp2_with fail
        go_roundw
        case rel => exact ⟨k + 1, by omega, by go_num, by trivial, HN⟩
        case measure => simp [intOf]; omega
      | false =>
        have HE : Hid (eachB n len z = false) := by
          show _ = _
          unfold eachB
          rw [allB_false hlt hf]
          rfl
        clear hf
        go_wp2_with fail
        go_ret
        exact ⟨ret_bool HE.out.symm, rfl⟩
    · have hlt' : ¬ (k : Int) < (n : Int) := by omega
      have HE : Hid (eachB n len z = ((len : Int) == (n : Int))) := by
        show _ = _
        unfold eachB
        rw [allB_true fun a ha => hH.out a (by omega), Bool.true_and, Bool.eq_iff_iff]
        simp
        omega
      clear hH
      go_wp2_with fail
      go_ret
      exact ⟨ret_bool HE.out.symm, rfl⟩

end Go.Proofs.Ytgjacinolenheaa
