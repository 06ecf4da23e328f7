/- The plain mathematics of deeds and their journals: numbers in decimal, texts of deeds, which are told apart by them, words between spaces, lines of a journal. -/
import Derived.Test.YtojcgmgponnlpaaMath
namespace Go.Proofs.Ytojcgmgponnlpaa

/-! ### numbers -/
/-- A number in decimal. -/
def numL (n : Nat) : List UInt8 := if n < 10 then [UInt8.ofNat (48 + n)] else numL (n / 10) ++ [UInt8.ofNat (48 + n % 10)]
termination_by n
decreasing_by omega
theorem numL_one {n : Nat} (h : n < 10) : numL n = [UInt8.ofNat (48 + n)] := by rw [numL, if_pos h]
theorem numL_two {n : Nat} (h : ¬ n < 10) : numL n = numL (n / 10) ++ [UInt8.ofNat (48 + n % 10)] := by rw [numL, if_neg h]
/-- One sign of a number. -/
def isDig (c : UInt8) : Bool := decide (48 ≤ c.toNat) && decide (c.toNat ≤ 57)
theorem dig_toNat {d : Nat} (h : d < 10) : (UInt8.ofNat (48 + d)).toNat = 48 + d := by
  rw [UInt8.toNat_ofNat']
  exact Nat.mod_eq_of_lt (by omega)
theorem isDig_of {d : Nat} (h : d < 10) : isDig (UInt8.ofNat (48 + d)) = true := by
  unfold isDig
  rw [dig_toNat h, decide_eq_true (by omega), decide_eq_true (by omega)]; rfl
theorem numL_dig (n : Nat) : ∀ c ∈ numL n, isDig c = true := by
  induction n using Nat.strongRecOn with
  | _ n ih =>
    by_cases h : n < 10
    · rw [numL_one h]
      intro c hc
      rw [List.mem_singleton] at hc
      rw [hc]; exact isDig_of h
    · rw [numL_two h]
      intro c hc
      rcases List.mem_append.1 hc with hc | hc
      · exact ih (n / 10) (by omega) c hc
      · rw [List.mem_singleton] at hc
        rw [hc]; exact isDig_of (Nat.mod_lt _ (by omega))
theorem numL_pos (n : Nat) : 1 ≤ (numL n).length := by
  by_cases h : n < 10
  · rw [numL_one h]; simp
  · rw [numL_two h]; simp
/-- What signs of a number say. -/
def valL (s : List UInt8) : Nat := s.foldl (fun a c => 10 * a + (c.toNat - 48)) 0
theorem valL_snoc (s : List UInt8) (c : UInt8) : valL (s ++ [c]) = 10 * valL s + (c.toNat - 48) := by
  unfold valL
  rw [List.foldl_append]; rfl
theorem valL_num (n : Nat) : valL (numL n) = n := by
  induction n using Nat.strongRecOn with
  | _ n ih =>
    by_cases h : n < 10
    · rw [numL_one h]
      show 10 * 0 + ((UInt8.ofNat (48 + n)).toNat - 48) = n
      rw [dig_toNat h]; omega
    · rw [numL_two h, valL_snoc, ih (n / 10) (by omega), dig_toNat (Nat.mod_lt _ (by omega))]
      omega
theorem numL_inj {a b : Nat} (h : numL a = numL b) : a = b := by
  have := congrArg valL h
  rw [valL_num, valL_num] at this
  exact this
/-- A text of one or two digits, without leading zeros, as its number; -1 for others. -/
def digI (s : List UInt8) : Int :=
  match s with
  | [c] => if isDig c = true then ((c.toNat - 48 : Nat) : Int) else -1
  | [c, d] => if isDig c = true ∧ isDig d = true ∧ c ≠ 48 then ((10 * (c.toNat - 48) + (d.toNat - 48) : Nat) : Int) else -1
  | _ => -1
theorem dig_eq {c : UInt8} (h : isDig c = true) : c = UInt8.ofNat (48 + (c.toNat - 48)) ∧ c.toNat - 48 < 10 := by
  unfold isDig at h
  rw [Bool.and_eq_true, decide_eq_true_iff, decide_eq_true_iff] at h
  refine ⟨?_, by omega⟩
  rw [show 48 + (c.toNat - 48) = c.toNat by omega]
  exact (UInt8.ofNat_toNat).symm
theorem digI_num {n : Nat} (h : n ≤ 99) : digI (numL n) = (n : Int) := by
  by_cases h1 : n < 10
  · rw [numL_one h1]
    show (if isDig (UInt8.ofNat (48 + n)) = true then (((UInt8.ofNat (48 + n)).toNat - 48 : Nat) : Int) else -1) = _
    rw [if_pos (isDig_of h1), dig_toNat h1]
    omega
  · rw [numL_two h1, numL_one (show n / 10 < 10 by omega)]
    show (if isDig (UInt8.ofNat (48 + n / 10)) = true ∧ isDig (UInt8.ofNat (48 + n % 10)) = true ∧ UInt8.ofNat (48 + n / 10) ≠ 48 then ((10 * ((UInt8.ofNat (48 + n / 10)).toNat - 48) + ((UInt8.ofNat (48 + n % 10)).toNat - 48) : Nat) : Int) else -1) = _
    have h2 : n % 10 < 10 := Nat.mod_lt _ (by omega)
    have h3 : n / 10 < 10 := by omega
    rw [if_pos ⟨isDig_of h3, isDig_of h2, fun e => by have := congrArg UInt8.toNat e; rw [dig_toNat h3] at this; have e48 : (48 : UInt8).toNat = 48 := rfl; omega⟩, dig_toNat h3, dig_toNat h2]
    omega
theorem digI_is {s : List UInt8} {n : Nat} (h : digI s = (n : Int)) : n ≤ 99 ∧ s = numL n := by
  unfold digI at h
  split at h
  · next c =>
    split at h
    · next hc =>
      obtain ⟨e1, e2⟩ := dig_eq hc
      obtain rfl : c.toNat - 48 = n := by omega
      exact ⟨by omega, by rw [numL_one e2, ← e1]⟩
    · omega
  · next c d =>
    split at h
    · next hc =>
      obtain ⟨h1, h2, h3⟩ := hc
      obtain ⟨e1, e2⟩ := dig_eq h1
      obtain ⟨e3, e4⟩ := dig_eq h2
      have hn : 10 * (c.toNat - 48) + (d.toNat - 48) = n := by omega
      have hc0 : 1 ≤ c.toNat - 48 := by
        apply Classical.byContradiction
        intro hno
        have : c.toNat - 48 = 0 := by omega
        rw [this] at e1
        exact h3 e1
      have hq : n / 10 = c.toNat - 48 := by omega
      have hr : n % 10 = d.toNat - 48 := by omega
      refine ⟨by omega, ?_⟩
      rw [numL_two (by omega), hq, hr, numL_one e2, ← e1, ← e3]; rfl
    · omega
  · omega
theorem digI_ge (s : List UInt8) : -1 ≤ digI s := by
  unfold digI
  split
  · split <;> omega
  · split <;> omega
  · omega

/-! ### deeds -/
structure Dd where
  k : Int
  a : Int
  b : Int
/-- The text of a deed. -/
def deedL (d : Dd) : List UInt8 :=
  if d.k = 0 ∧ (0 ≤ d.a ∧ d.a ≤ 9) ∧ d.b = 0 then [103, 108, 117, 101, 32] ++ numL d.a.toNat
  else if d.k = 1 ∧ (0 ≤ d.a ∧ d.a ≤ 9) ∧ d.b = 0 then [116, 105, 109, 101, 115, 32] ++ numL d.a.toNat
  else if d.k = 2 ∧ d.a = 0 ∧ d.b = 0 then [114, 105, 110, 103]
  else if d.k = 3 ∧ (0 ≤ d.a ∧ d.a ≤ 99) ∧ (0 ≤ d.b ∧ d.b ≤ 99) then [112, 97, 114, 116, 32] ++ (numL d.a.toNat ++ 32 :: numL d.b.toNat)
  else if d.k = 4 ∧ d.a = 0 ∧ d.b = 0 then [98, 97, 99, 107]
  else []
/-- The five kinds of texts. -/
theorem deed_cases (d : Dd) : (deedL d = []) ∨ (∃ a : Nat, a ≤ 9 ∧ d = ⟨0, a, 0⟩ ∧ deedL d = [103, 108, 117, 101, 32] ++ numL a) ∨ (∃ a : Nat, a ≤ 9 ∧ d = ⟨1, a, 0⟩ ∧ deedL d = [116, 105, 109, 101, 115, 32] ++ numL a) ∨
    (d = ⟨2, 0, 0⟩ ∧ deedL d = [114, 105, 110, 103]) ∨ (∃ a b : Nat, a ≤ 99 ∧ b ≤ 99 ∧ d = ⟨3, a, b⟩ ∧ deedL d = [112, 97, 114, 116, 32] ++ (numL a ++ 32 :: numL b)) ∨ (d = ⟨4, 0, 0⟩ ∧ deedL d = [98, 97, 99, 107]) := by
  obtain ⟨k, a, b⟩ := d
  unfold deedL
  dsimp only
  split
  · next h =>
    obtain ⟨rfl, ⟨h1, h2⟩, rfl⟩ := h
    exact .inr (.inl ⟨a.toNat, by omega, by rw [Int.toNat_of_nonneg h1], rfl⟩)
  split
  · next h =>
    obtain ⟨rfl, ⟨h1, h2⟩, rfl⟩ := h
    exact .inr (.inr (.inl ⟨a.toNat, by omega, by rw [Int.toNat_of_nonneg h1], rfl⟩))
  split
  · next h =>
    obtain ⟨rfl, rfl, rfl⟩ := h
    exact .inr (.inr (.inr (.inl ⟨rfl, rfl⟩)))
  split
  · next h =>
    obtain ⟨rfl, ⟨h1, h2⟩, h3, h4⟩ := h
    exact .inr (.inr (.inr (.inr (.inl ⟨a.toNat, b.toNat, by omega, by omega, by rw [Int.toNat_of_nonneg h1, Int.toNat_of_nonneg h3], rfl⟩))))
  split
  · next h =>
    obtain ⟨rfl, rfl, rfl⟩ := h
    exact .inr (.inr (.inr (.inr (.inr ⟨rfl, rfl⟩))))
  · exact .inl rfl
theorem deed_glue {a : Nat} (h : a ≤ 9) : deedL ⟨0, a, 0⟩ = [103, 108, 117, 101, 32] ++ numL a := by
  unfold deedL; rw [if_pos ⟨rfl, ⟨by show (0 : Int) ≤ a; omega, by show (a : Int) ≤ 9; omega⟩, rfl⟩]; rfl
theorem deed_times {a : Nat} (h : a ≤ 9) : deedL ⟨1, a, 0⟩ = [116, 105, 109, 101, 115, 32] ++ numL a := by
  unfold deedL; rw [if_neg (fun e => by have := e.1; simp at this), if_pos ⟨rfl, ⟨by show (0 : Int) ≤ a; omega, by show (a : Int) ≤ 9; omega⟩, rfl⟩]; rfl
theorem deed_ring : deedL ⟨2, 0, 0⟩ = [114, 105, 110, 103] := rfl
theorem deed_part {a b : Nat} (h : a ≤ 99) (h2 : b ≤ 99) : deedL ⟨3, a, b⟩ = [112, 97, 114, 116, 32] ++ (numL a ++ 32 :: numL b) := by
  unfold deedL
  rw [if_neg (fun e => by have := e.1; simp at this), if_neg (fun e => by have := e.1; simp at this), if_neg (fun e => by have := e.1; simp at this),
    if_pos ⟨rfl, ⟨by show (0 : Int) ≤ a; omega, by show (a : Int) ≤ 99; omega⟩, by show (0 : Int) ≤ b; omega, by show (b : Int) ≤ 99; omega⟩]; rfl
theorem deed_back : deedL ⟨4, 0, 0⟩ = [98, 97, 99, 107] := rfl
theorem no_space (n : Nat) : (32 : UInt8) ∉ numL n := fun h => by
  have := numL_dig n 32 h
  revert this; decide
theorem split_space {x y x' y' : List UInt8} (h1 : (32 : UInt8) ∉ x) (h2 : (32 : UInt8) ∉ x') (h : x ++ 32 :: y = x' ++ 32 :: y') : x = x' ∧ y = y' := by
  induction x generalizing x' with
  | nil =>
    cases x' with
    | nil => simp at h; exact ⟨rfl, h⟩
    | cons c t =>
      simp at h
      exact absurd (by rw [h.1]; exact List.mem_cons_self) h2
  | cons c t ih =>
    cases x' with
    | nil =>
      simp at h
      exact absurd (by rw [h.1]; exact List.mem_cons_self) h1
    | cons c' t' =>
      simp at h
      obtain ⟨e1, e2⟩ := ih (fun hm => h1 (List.mem_cons_of_mem _ hm)) (fun hm => h2 (List.mem_cons_of_mem _ hm)) h.2
      exact ⟨by rw [h.1, e1], e2⟩
/-- Deeds that have a text are told apart by it. -/
theorem deed_inj {d e : Dd} (h : deedL d = deedL e) (hn : deedL d ≠ []) : d = e := by
  rcases deed_cases d with h0 | ⟨a, ha, rfl, hd⟩ | ⟨a, ha, rfl, hd⟩ | ⟨rfl, hd⟩ | ⟨a, b, ha, hb, rfl, hd⟩ | ⟨rfl, hd⟩
  · exact absurd h0 hn
  all_goals
    rcases deed_cases e with h0' | ⟨a', ha', rfl, he⟩ | ⟨a', ha', rfl, he⟩ | ⟨rfl, he⟩ | ⟨a', b', ha', hb', rfl, he⟩ | ⟨rfl, he⟩
    · exact absurd (h.trans h0') hn
    all_goals
      have h := hd.symm.trans (h.trans he)
      first
        | rfl
        | (simp at h; done)
        | (have e1 := numL_inj (List.append_cancel_left h); rw [e1])
        | (obtain ⟨e1, e2⟩ := split_space (no_space _) (no_space _) (List.append_cancel_left h); rw [numL_inj e1, numL_inj e2])
/-- The deed that a text tells. -/
noncomputable def readD (s : List UInt8) : Option Dd := by
  classical exact if h : s ≠ [] ∧ ∃ d, deedL d = s then some h.2.choose else none
theorem readD_text {d : Dd} (h : deedL d ≠ []) : readD (deedL d) = some d := by
  unfold readD
  have hh : deedL d ≠ [] ∧ ∃ e, deedL e = deedL d := ⟨h, d, rfl⟩
  rw [dif_pos hh]
  exact congrArg some (deed_inj hh.2.choose_spec (by rw [hh.2.choose_spec]; exact h))
theorem readD_is {s : List UInt8} {d : Dd} (h : readD s = some d) : s ≠ [] ∧ deedL d = s := by
  unfold readD at h
  split at h
  · next hh =>
    cases h
    exact ⟨hh.1, hh.2.choose_spec⟩
  · cases h
theorem readD_none {s : List UInt8} (h : readD s = none) (d : Dd) (hs : s ≠ []) : deedL d ≠ s := fun e => by
  unfold readD at h
  rw [dif_pos ⟨hs, d, e⟩] at h
  cases h
theorem readD_nil : readD [] = none := by unfold readD; rw [dif_neg (fun h => h.1 rfl)]
theorem deed_no_nl (d : Dd) : (10 : UInt8) ∉ deedL d := by
  have hn : ∀ n, (10 : UInt8) ∉ numL n := fun n h => by have := numL_dig n 10 h; revert this; decide
  rcases deed_cases d with h0 | ⟨a, ha, rfl, hd⟩ | ⟨a, ha, rfl, hd⟩ | ⟨rfl, hd⟩ | ⟨a, b, ha, hb, rfl, hd⟩ | ⟨rfl, hd⟩
  · rw [h0]; exact List.not_mem_nil
  all_goals rw [hd]; simp [hn]
theorem last_app (l1 : List UInt8) {l2 : List UInt8} (h : l2 ≠ []) : (l1 ++ l2).getLast? = l2.getLast? := by
  rw [List.getLast?_append]
  cases e : l2.getLast? with
  | none => exact absurd (List.getLast?_eq_none_iff.1 e) h
  | some x => rfl
/-- With a space behind it a text is refused. -/
theorem readD_space {s : List UInt8} {d : Dd} (h : readD s = some d) : readD (s ++ [32]) = none := by
  obtain ⟨h0, h1⟩ := readD_is h
  cases e : readD (s ++ [32]) with
  | none => rfl
  | some d' =>
    exfalso
    obtain ⟨_, h3⟩ := readD_is e
    have hlast : ∀ n, (numL n).getLast? ≠ some 32 := fun n hh => no_space n (List.mem_of_getLast? hh)
    have hne : ∀ n, numL n ≠ [] := fun n hh => by have := numL_pos n; rw [hh] at this; simp at this
    have hl : (deedL d').getLast? = some 32 := by rw [h3]; simp
    rcases deed_cases d' with h0 | ⟨a, ha, rfl, hd⟩ | ⟨a, ha, rfl, hd⟩ | ⟨rfl, hd⟩ | ⟨a, b, ha, hb, rfl, hd⟩ | ⟨rfl, hd⟩
    · rw [h0] at hl; cases hl
    · rw [hd, last_app _ (hne a)] at hl; exact hlast a hl
    · rw [hd, last_app _ (hne a)] at hl; exact hlast a hl
    · rw [hd] at hl; revert hl; decide
    · rw [hd, last_app _ (by simp), last_app _ (by simp)] at hl
      have hl : ([32] ++ numL b).getLast? = some 32 := hl
      rw [last_app _ (hne b)] at hl
      exact hlast b hl
    · rw [hd] at hl; revert hl; decide
end Go.Proofs.Ytojcgmgponnlpaa
