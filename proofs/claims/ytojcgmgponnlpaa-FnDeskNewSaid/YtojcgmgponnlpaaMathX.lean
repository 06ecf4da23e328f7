/- The plain mathematics of journals: lines, the text of deeds, the deeds of a text; words between spaces. -/
import Derived.Test.YtojcgmgponnlpaaMathW
namespace Go.Proofs.Ytojcgmgponnlpaa

/-! ### lines -/
/-- The first line of a text, and what is behind it. -/
def lineOf (s : List UInt8) : Option (List UInt8 × List UInt8) :=
  match s with
  | [] => none
  | c :: t => if c = 10 then some ([], t) else (lineOf t).map fun x => (c :: x.1, x.2)
theorem line_at {l r : List UInt8} (h : (10 : UInt8) ∉ l) : lineOf (l ++ 10 :: r) = some (l, r) := by
  induction l with
  | nil => rfl
  | cons c t ih =>
    have hc : ¬ c = 10 := fun e => h (by rw [e]; exact List.mem_cons_self)
    show (if c = 10 then _ else (lineOf (t ++ 10 :: r)).map _) = _
    rw [if_neg hc, ih (fun hm => h (List.mem_cons_of_mem _ hm))]; rfl
theorem line_none {s : List UInt8} (h : (10 : UInt8) ∉ s) : lineOf s = none := by
  induction s with
  | nil => rfl
  | cons c t ih =>
    have hc : ¬ c = 10 := fun e => h (by rw [e]; exact List.mem_cons_self)
    show (if c = 10 then _ else _) = _
    rw [if_neg hc, ih (fun hm => h (List.mem_cons_of_mem _ hm))]; rfl
theorem line_is {s l r : List UInt8} (h : lineOf s = some (l, r)) : s = l ++ 10 :: r ∧ (10 : UInt8) ∉ l := by
  induction s generalizing l with
  | nil => cases h
  | cons c t ih =>
    have h : (if c = 10 then some ([], t) else (lineOf t).map fun x => (c :: x.1, x.2)) = some (l, r) := h
    split at h
    · next hc => cases h; rw [hc]; exact ⟨rfl, List.not_mem_nil⟩
    · next hc =>
      rw [Option.map_eq_some_iff] at h
      obtain ⟨⟨l1, r1⟩, h1, h2⟩ := h
      cases h2
      obtain ⟨e1, e2⟩ := ih h1
      refine ⟨by rw [e1]; rfl, fun hm => ?_⟩
      rcases List.mem_cons.1 hm with h3 | h3
      · exact hc h3.symm
      · exact e2 h3
/-! ### journals -/
def hasText (d : Dd) : Bool := !(deedL d).isEmpty
theorem hasText_iff {d : Dd} : hasText d = true ↔ deedL d ≠ [] := by
  unfold hasText
  cases deedL d <;> simp
/-- The lines of deeds, one after the other. -/
def linesL (ds : List Dd) : List UInt8 := ds.flatMap fun d => deedL d ++ [10]
theorem linesL_snoc (ds : List Dd) (d : Dd) : linesL (ds ++ [d]) = linesL ds ++ (deedL d ++ [10]) := by
  unfold linesL
  rw [List.flatMap_append]; simp
/-- The text of a journal. -/
def jourL (ds : List Dd) : List UInt8 := if ds.all hasText = true then linesL ds else []
theorem jour_yes {ds : List Dd} (h : ∀ d ∈ ds, deedL d ≠ []) : jourL ds = linesL ds := by
  unfold jourL
  rw [if_pos (List.all_eq_true.2 fun d hd => hasText_iff.2 (h d hd))]
theorem jour_no {ds : List Dd} {d : Dd} (hd : d ∈ ds) (h : deedL d = []) : jourL ds = [] := by
  unfold jourL
  rw [if_neg fun e => hasText_iff.1 (List.all_eq_true.1 e d hd) h]
/-- The deeds of the lines with which a text begins, and how many bytes they have. -/
noncomputable def readN : Nat → List UInt8 → List Dd × Nat
  | 0, _ => ([], 0)
  | n + 1, s => match lineOf s with
    | none => ([], 0)
    | some (l, r) => match readD l with
      | none => ([], 0)
      | some d => (d :: (readN n r).1, l.length + 1 + (readN n r).2)
theorem readN_same : ∀ (n n' : Nat) (s : List UInt8), s.length ≤ n → s.length ≤ n' → readN n s = readN n' s := by
  intro n
  induction n with
  | zero =>
    intro n' s h _
    have : s = [] := List.eq_nil_of_length_eq_zero (by omega)
    subst this
    cases n' <;> rfl
  | succ n ih =>
    intro n' s h h'
    cases n' with
    | zero =>
      have : s = [] := List.eq_nil_of_length_eq_zero (by omega)
      subst this; rfl
    | succ n' =>
      unfold readN
      cases e : lineOf s with
      | none => rfl
      | some x =>
        obtain ⟨l, r⟩ := x
        have hs := (line_is e).1
        have hl : r.length < s.length := by rw [hs, List.length_append, List.length_cons]; omega
        dsimp only
        rw [ih n' r (by omega) (by omega)]
noncomputable def readJ (s : List UInt8) : List Dd × Nat := readN s.length s
theorem readJ_none {s : List UInt8} (h : lineOf s = none) : readJ s = ([], 0) := by
  unfold readJ
  cases hs : s.length with
  | zero => rfl
  | succ n =>
    unfold readN
    rw [h]
theorem readJ_bad {s l r : List UInt8} (h : lineOf s = some (l, r)) (hd : readD l = none) : readJ s = ([], 0) := by
  unfold readJ
  cases hs : s.length with
  | zero => rfl
  | succ n =>
    unfold readN
    rw [h]
    dsimp only
    rw [hd]
theorem readJ_cons {s l r : List UInt8} {d : Dd} (h : lineOf s = some (l, r)) (hd : readD l = some d) : readJ s = (d :: (readJ r).1, l.length + 1 + (readJ r).2) := by
  have hs := (line_is h).1
  have hl : r.length < s.length := by rw [hs, List.length_append, List.length_cons]; omega
  unfold readJ
  cases hn : s.length with
  | zero => omega
  | succ n =>
    rw [readN, h]
    dsimp only
    rw [hd]
    dsimp only
    rw [readN_same n r.length r (by omega) (Nat.le_refl _)]
/-- Journals are read. -/
theorem readJ_lines {ds : List Dd} (h : ∀ d ∈ ds, deedL d ≠ []) : readJ (linesL ds) = (ds, (linesL ds).length) := by
  induction ds with
  | nil => rfl
  | cons d ds ih =>
    have hd := h d List.mem_cons_self
    have e0 : linesL (d :: ds) = deedL d ++ 10 :: linesL ds := by
      unfold linesL
      rw [List.flatMap_cons, List.append_assoc]; rfl
    rw [e0, readJ_cons (line_at (deed_no_nl d)) (readD_text hd), ih fun x hx => h x (List.mem_cons_of_mem _ hx)]
    rw [List.length_append, List.length_cons]
    show (d :: ds, _) = (d :: ds, _)
    congr 1; omega
/-- What was read is written so. -/
theorem readJ_take : ∀ (n : Nat) (s : List UInt8), s.length ≤ n → s.take (readJ s).2 = linesL (readJ s).1 ∧ (∀ d ∈ (readJ s).1, deedL d ≠ []) ∧ (readJ s).2 ≤ s.length := by
  intro n
  induction n with
  | zero =>
    intro s h
    have : s = [] := List.eq_nil_of_length_eq_zero (by omega)
    subst this
    exact ⟨rfl, fun d hd => absurd hd List.not_mem_nil, Nat.le_refl _⟩
  | succ n ih =>
    intro s h
    cases e : lineOf s with
    | none => rw [readJ_none e]; exact ⟨rfl, fun d hd => absurd hd List.not_mem_nil, Nat.zero_le _⟩
    | some x =>
      obtain ⟨l, r⟩ := x
      have hs := (line_is e).1
      have hl : s.length = l.length + 1 + r.length := by rw [hs, List.length_append, List.length_cons]; omega
      cases hd : readD l with
      | none => rw [readJ_bad e hd]; exact ⟨rfl, fun d hd => absurd hd List.not_mem_nil, Nat.zero_le _⟩
      | some d =>
        obtain ⟨h1, h2, h3⟩ := ih r (by omega)
        obtain ⟨h4, h5⟩ := readD_is hd
        rw [readJ_cons e hd]
        refine ⟨?_, ?_, by show l.length + 1 + _ ≤ _; omega⟩
        · show s.take (l.length + 1 + (readJ r).2) = linesL (d :: (readJ r).1)
          have e0 : linesL (d :: (readJ r).1) = l ++ 10 :: linesL (readJ r).1 := by
            unfold linesL
            rw [List.flatMap_cons, List.append_assoc, h5]; rfl
          rw [e0, ← h1, hs, show l.length + 1 + (readJ r).2 = l.length + (1 + (readJ r).2) by omega, List.take_length_add_append, Nat.add_comm, List.take_succ_cons]
        · intro x hx
          rcases List.mem_cons.1 hx with rfl | hx
          · rw [h5]; exact h4
          · exact h2 x hx

/-! ### words -/
/-- What stands between the bytes c of a text. -/
def cutL (c : UInt8) (s : List UInt8) : List (List UInt8) :=
  match s with
  | [] => [[]]
  | x :: t => if x = c then [] :: cutL c t else match cutL c t with
    | w :: ws => (x :: w) :: ws
    | [] => [[x]]
theorem cutL_ne (c : UInt8) (s : List UInt8) : cutL c s ≠ [] := by
  cases s with
  | nil => simp [cutL]
  | cons x t =>
    unfold cutL
    split
    · simp
    · split <;> simp
theorem cutL_none {c : UInt8} {s : List UInt8} (h : c ∉ s) : cutL c s = [s] := by
  induction s with
  | nil => rfl
  | cons x t ih =>
    have hx : ¬ x = c := fun e => h (by rw [e]; exact List.mem_cons_self)
    unfold cutL
    rw [if_neg hx, ih (fun hm => h (List.mem_cons_of_mem _ hm))]
theorem cutL_app {c : UInt8} {l r : List UInt8} (h : c ∉ l) : cutL c (l ++ c :: r) = l :: cutL c r := by
  induction l with
  | nil => show (if c = c then _ else _) = _; rw [if_pos rfl]
  | cons x t ih =>
    have hx : ¬ x = c := fun e => h (by rw [e]; exact List.mem_cons_self)
    rw [List.cons_append, cutL, if_neg hx, ih (fun hm => h (List.mem_cons_of_mem _ hm))]
end Go.Proofs.Ytojcgmgponnlpaa
