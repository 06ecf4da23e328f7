/- The plain mathematics of reading a deed as the program does: the numbers behind the first word, of each kind the one deed that has them, of which one has the text, or none; decimal numbers as the library reads and writes them. -/
import Derived.Test.YtjofkejfldmmlaaDoorMathY
import Derived.Lib.AtoiAll
import Derived.Lib.ItoaNum
import Derived.Lib.Bytealg
namespace Go.Proofs.YtjofkejfldmmlaaDoor

/-- Where a byte stands first. -/
theorem byte_cases (s : List UInt8) (c : UInt8) : (c ∉ s ∧ Lib.indexByte s c = -1) ∨ ∃ l r, s = l ++ c :: r ∧ c ∉ l ∧ Lib.indexByte s c = (l.length : Int) := by
  induction s with
  | nil => exact .inl ⟨List.not_mem_nil, rfl⟩
  | cons b t ih =>
    unfold Lib.indexByte
    by_cases hb : b = c
    · subst hb
      exact .inr ⟨[], t, rfl, List.not_mem_nil, by rw [if_pos (by simp)]; rfl⟩
    · rw [if_neg (by simpa using hb)]
      rcases ih with ⟨h1, h2⟩ | ⟨l, r, h1, h2, h3⟩
      · refine .inl ⟨fun h => ?_, by rw [h2]; rfl⟩
        rcases List.mem_cons.1 h with h | h
        · exact hb h.symm
        · exact h1 h
      · refine .inr ⟨b :: l, r, by rw [h1]; rfl, fun h => ?_, ?_⟩
        · rcases List.mem_cons.1 h with h | h
          · exact hb h.symm
          · exact h2 h
        · rw [h3, if_neg (by simp), List.length_cons]; rfl
theorem dec_num (n : Nat) : Lib.decDigits n = numL n := by
  induction n using Nat.strongRecOn with
  | _ n ih =>
    by_cases h : n < 10
    · rw [numL_one h, Lib.decDigits, dif_pos h]
    · rw [numL_two h, Lib.decDigits, dif_neg h, ih _ (by omega)]
theorem atoi_one : ∀ n : Fin 10, Lib.atoiAll [UInt8.ofNat (48 + n.val)] = .ok (n.val : Int) := by decide +kernel
theorem atoi_two : ∀ a b : Fin 10, a.val ≠ 0 → Lib.atoiAll [UInt8.ofNat (48 + a.val), UInt8.ofNat (48 + b.val)] = .ok ((10 * a.val + b.val : Nat) : Int) := by decide +kernel
theorem atoi_num {n : Nat} (h : n ≤ 99) : Lib.atoiAll (numL n) = .ok (n : Int) := by
  by_cases h1 : n < 10
  · rw [numL_one h1]; exact atoi_one ⟨n, h1⟩
  · rw [numL_two h1, numL_one (show n / 10 < 10 by omega)]
    have := atoi_two ⟨n / 10, by omega⟩ ⟨n % 10, Nat.mod_lt _ (by omega)⟩ (by show n / 10 ≠ 0; omega)
    have e : 10 * (n / 10) + n % 10 = n := by omega
    rw [e] at this
    exact this
/-- A text is a number of one or two digits just if the library reads one up to 99 and writes it so. -/
theorem digI_atoi {s : List UInt8} (h : digI s < 0) : ∀ v : Nat, v ≤ 99 → Lib.decDigits v ≠ s := fun v hv e => by
  rw [dec_num] at e
  rw [← e, digI_num hv] at h
  omega
theorem digI_yes {s : List UInt8} (h : ¬ digI s < 0) : ∃ n : Nat, n ≤ 99 ∧ s = numL n ∧ digI s = (n : Int) := by
  obtain ⟨n, hn⟩ : ∃ n : Nat, digI s = (n : Int) := ⟨(digI s).toNat, by omega⟩
  obtain ⟨h1, h2⟩ := digI_is hn
  exact ⟨n, h1, h2, hn⟩
/-- All words as numbers. -/
def numsO : List (List UInt8) → Option (List Int)
  | [] => some []
  | w :: ws => if digI w < 0 then none else (numsO ws).map (digI w :: ·)
/-- The numbers behind the first word of a text; none if there is anything else. -/
def numsL (s : List UInt8) : List Int := (numsO (cutL 32 s).tail).getD []
def numA (s : List UInt8) : Int := (numsL s ++ [0, 0])[0]?.getD 0
def numB (s : List UInt8) : Int := (numsL s ++ [0, 0])[1]?.getD 0
theorem nums_at {s : List UInt8} (d : Dd) (h : deedL d = s) (hs : s ≠ []) : (0 ≤ d.k ∧ d.k ≤ 4) ∧ d.a = numA s ∧ d.b = numB s := by
  have hd1 : ∀ {n : Nat}, n ≤ 99 → ¬ digI (numL n) < 0 := fun {n} hn => by rw [digI_num hn]; omega
  rcases deed_cases d with h0 | ⟨a, ha, rfl, hd⟩ | ⟨a, ha, rfl, hd⟩ | ⟨rfl, hd⟩ | ⟨a, b, ha, hb, rfl, hd⟩ | ⟨rfl, hd⟩
  · exact absurd (h.symm.trans h0) hs
  · have e : numsL s = [(a : Int)] := by
      rw [← h, hd]; unfold numsL
      rw [show ([103, 108, 117, 101, 32] : List UInt8) = [103, 108, 117, 101] ++ [32] from rfl, cut_two (by decide)]
      show (numsO [numL a]).getD [] = _
      unfold numsO; rw [if_neg (hd1 (by omega)), digI_num (by omega)]; rfl
    unfold numA numB; rw [e]
    exact ⟨⟨Int.le_refl _, by show (0 : Int) ≤ 4; omega⟩, rfl, rfl⟩
  · have e : numsL s = [(a : Int)] := by
      rw [← h, hd]; unfold numsL
      rw [show ([116, 105, 109, 101, 115, 32] : List UInt8) = [116, 105, 109, 101, 115] ++ [32] from rfl, cut_two (by decide)]
      show (numsO [numL a]).getD [] = _
      unfold numsO; rw [if_neg (hd1 (by omega)), digI_num (by omega)]; rfl
    unfold numA numB; rw [e]
    exact ⟨⟨by show (0 : Int) ≤ 1; omega, by show (1 : Int) ≤ 4; omega⟩, rfl, rfl⟩
  · have e : numsL s = [] := by
      rw [← h, hd]; unfold numsL
      rw [cutL_none (by decide)]; rfl
    unfold numA numB; rw [e]
    exact ⟨⟨by show (0 : Int) ≤ 2; omega, by show (2 : Int) ≤ 4; omega⟩, rfl, rfl⟩
  · have e : numsL s = [(a : Int), (b : Int)] := by
      rw [← h, hd]; unfold numsL
      rw [show ([112, 97, 114, 116, 32] : List UInt8) = [112, 97, 114, 116] ++ [32] from rfl, cut_three (by decide)]
      show (numsO [numL a, numL b]).getD [] = _
      unfold numsO; rw [if_neg (hd1 (by omega)), digI_num (by omega)]
      unfold numsO; rw [if_neg (hd1 (by omega)), digI_num (by omega)]; rfl
    unfold numA numB; rw [e]
    exact ⟨⟨by show (0 : Int) ≤ 3; omega, by show (3 : Int) ≤ 4; omega⟩, rfl, rfl⟩
  · have e : numsL s = [] := by
      rw [← h, hd]; unfold numsL
      rw [cutL_none (by decide)]; rfl
    unfold numA numB; rw [e]
    exact ⟨⟨by show (0 : Int) ≤ 4; omega, by show (4 : Int) ≤ 4; omega⟩, rfl, rfl⟩
/-- One deed of each kind may have the text. -/
theorem readD_hit {s : List UInt8} {k : Int} (h0 : 0 ≤ k) (h4 : k ≤ 4) (h : deedL ⟨k, numA s, numB s⟩ = s) : readD s = some ⟨k, numA s, numB s⟩ := by
  have hs : s ≠ [] := fun e => by
    subst e
    have hc : numA [] = 0 ∧ numB [] = 0 := ⟨rfl, rfl⟩
    rw [hc.1, hc.2] at h
    obtain rfl | rfl | rfl | rfl | rfl : k = 0 ∨ k = 1 ∨ k = 2 ∨ k = 3 ∨ k = 4 := by omega
    · have e := deed_glue (a := 0) (by omega)
      rw [numL_one (by omega)] at e
      have := h.symm.trans e
      cases this
    · have e := deed_times (a := 0) (by omega)
      rw [numL_one (by omega)] at e
      have := h.symm.trans e
      cases this
    · cases h.symm.trans deed_ring
    · have e := deed_part (a := 0) (b := 0) (by omega) (by omega)
      rw [numL_one (by omega)] at e
      have := h.symm.trans e
      cases this
    · cases h.symm.trans deed_back
  have e := readD_text (d := ⟨k, numA s, numB s⟩) (by rw [h]; exact hs)
  rw [h] at e
  exact e
theorem readD_miss {s : List UInt8} (h : ∀ k : Int, 0 ≤ k → k ≤ 4 → deedL ⟨k, numA s, numB s⟩ ≠ s) : readD s = none := by
  cases e : readD s with
  | none => rfl
  | some d =>
    exfalso
    obtain ⟨h0, h1⟩ := readD_is e
    obtain ⟨⟨h2, h3⟩, h4, h5⟩ := nums_at d h1 h0
    refine h d.k h2 h3 ?_
    rw [← h4, ← h5]; exact h1
end Go.Proofs.YtjofkejfldmmlaaDoor
