/- The plain mathematics of reading a deed as the reference does: the deeds that its words may mean, of which one has the text, or none. Desks of before: what is put behind all, of which the first one may go; one deed after the other. -/
import Derived.Test.YtojcgmgponnlpaaMathX
namespace Go.Proofs.Ytojcgmgponnlpaa

/-- The deeds that the words of a text may mean. -/
def candL (s : List UInt8) : List Dd := ⟨2, 0, 0⟩ :: ⟨4, 0, 0⟩ :: (match cutL 32 s with
  | [_, v] => [⟨0, digI v, 0⟩, ⟨1, digI v, 0⟩]
  | [_, v, t] => [⟨3, digI v, digI t⟩]
  | _ => [])
theorem cut_two {x : List UInt8} {n : Nat} (h : (32 : UInt8) ∉ x) : cutL 32 ((x ++ [32]) ++ numL n) = [x, numL n] := by
  rw [List.append_assoc, List.singleton_append, cutL_app h, cutL_none (no_space n)]
theorem cut_three {x : List UInt8} {n k : Nat} (h : (32 : UInt8) ∉ x) : cutL 32 ((x ++ [32]) ++ (numL n ++ 32 :: numL k)) = [x, numL n, numL k] := by
  rw [List.append_assoc, List.singleton_append, cutL_app h, cutL_app (no_space n), cutL_none (no_space k)]
theorem cand_has {d : Dd} (h : deedL d ≠ []) : d ∈ candL (deedL d) := by
  rcases deed_cases d with h0 | ⟨a, ha, rfl, hd⟩ | ⟨a, ha, rfl, hd⟩ | ⟨rfl, hd⟩ | ⟨a, b, ha, hb, rfl, hd⟩ | ⟨rfl, hd⟩
  · exact absurd h0 h
  · rw [hd]
    unfold candL
    rw [show ([103, 108, 117, 101, 32] : List UInt8) = [103, 108, 117, 101] ++ [32] from rfl, cut_two (by decide)]
    dsimp only
    rw [digI_num (by omega)]
    exact List.mem_cons_of_mem _ (List.mem_cons_of_mem _ List.mem_cons_self)
  · rw [hd]
    unfold candL
    rw [show ([116, 105, 109, 101, 115, 32] : List UInt8) = [116, 105, 109, 101, 115] ++ [32] from rfl, cut_two (by decide)]
    dsimp only
    rw [digI_num (by omega)]
    exact List.mem_cons_of_mem _ (List.mem_cons_of_mem _ (List.mem_cons_of_mem _ List.mem_cons_self))
  · exact List.mem_cons_self
  · rw [hd]
    unfold candL
    rw [show ([112, 97, 114, 116, 32] : List UInt8) = [112, 97, 114, 116] ++ [32] from rfl, cut_three (by decide)]
    dsimp only
    rw [digI_num ha, digI_num hb]
    exact List.mem_cons_of_mem _ (List.mem_cons_of_mem _ List.mem_cons_self)
  · exact List.mem_cons_of_mem _ List.mem_cons_self
/-- A deed has just this text, which is none of no bytes. -/
def hitD (s : List UInt8) (d : Dd) : Bool := !s.isEmpty && decide (deedL d = s)
theorem hit_iff {s : List UInt8} {d : Dd} : hitD s d = true ↔ s ≠ [] ∧ deedL d = s := by
  unfold hitD
  rw [Bool.and_eq_true, decide_eq_true_iff]
  cases s <;> simp
/-- The first of them that has the text is the deed that is read. -/
theorem cand_read (s : List UInt8) : (candL s).find? (hitD s) = readD s := by
  cases h : readD s with
  | none =>
    rw [List.find?_eq_none]
    intro d _ hd
    obtain ⟨h1, h2⟩ := hit_iff.1 hd
    exact readD_none h d h1 h2
  | some d =>
    obtain ⟨h0, h1⟩ := readD_is h
    have hm : d ∈ candL s := by rw [← h1]; exact cand_has (by rw [h1]; exact h0)
    cases e : (candL s).find? (hitD s) with
    | none => exact absurd (hit_iff.2 ⟨h0, h1⟩) (by have := List.find?_eq_none.1 e d hm; simpa using this)
    | some d' =>
      have h2 := List.find?_some e
      obtain ⟨_, h3⟩ := hit_iff.1 h2
      rw [deed_inj (h3.trans h1.symm) (by rw [h3]; exact h0)]
theorem cand_len (s : List UInt8) : (candL s).length ≤ 4 := by
  unfold candL
  split <;> simp

/-! ### desks -/
/-- A desk of whatever lies on it. -/
structure Dk (α : Type) where
  now : α
  past : List α
/-- Something new on it: what was there is behind all of before, of which the first goes if they are more than eight. -/
def Dk.put {α : Type} (d : Dk α) (x : α) : Dk α := ⟨x, if 8 < d.past.length + 1 then (d.past ++ [d.now]).drop 1 else d.past ++ [d.now]⟩
/-- The last one of before back. -/
def Dk.back {α : Type} (d : Dk α) : Option (Dk α) := match d.past.getLast? with
  | some x => some ⟨x, d.past.dropLast⟩
  | none => none
theorem Dk.back_put {α : Type} {d : Dk α} {x : α} (h : d.past.length < 8) : (d.put x).back = some d := by
  obtain ⟨now, past⟩ := d
  unfold Dk.put Dk.back
  rw [if_neg (by show ¬ 8 < past.length + 1; have h : past.length < 8 := h; omega)]
  dsimp only
  rw [List.getLast?_append]
  simp
theorem Dk.put_len {α : Type} {d : Dk α} {x : α} (h : d.past.length ≤ 8) : (d.put x).past.length ≤ 8 := by
  unfold Dk.put
  dsimp only
  split
  · rw [List.length_drop, List.length_append]; simp; omega
  · rw [List.length_append]; simp; omega
/-- What is done with a desk: what a deed makes of what lies on it, unless it is the same. -/
def Dk.step {α : Type} (mk : α → Dd → Option α) (same : α → α → Bool) (d : Dk α) (a : Dd) : Option (Dk α) :=
  if a.k = 4 ∧ a.a = 0 ∧ a.b = 0 ∧ d.past ≠ [] then d.back else
  match mk d.now a with
  | some x => if same x d.now = true then none else some (d.put x)
  | none => none
/-- One deed after the other, and how many were done. -/
def Dk.run {α : Type} (mk : α → Dd → Option α) (same : α → α → Bool) (d : Dk α) : List Dd → Dk α × Nat
  | [] => (d, 0)
  | a :: as => match d.step mk same a with
    | some x => ((x.run mk same as).1, (x.run mk same as).2 + 1)
    | none => d.run mk same as
section
variable {α : Type} {mk : α → Dd → Option α} {same : α → α → Bool} {d : Dk α}
theorem Dk.run_nil : d.run mk same [] = (d, 0) := rfl
theorem Dk.run_none {a : Dd} {as : List Dd} (e : d.step mk same a = none) : d.run mk same (a :: as) = d.run mk same as := by rw [Dk.run, e]
theorem Dk.run_some {a : Dd} {as : List Dd} {x : Dk α} (e : d.step mk same a = some x) : d.run mk same (a :: as) = ((x.run mk same as).1, (x.run mk same as).2 + 1) := by rw [Dk.run, e]
end
theorem Dk.run_append {α : Type} {mk : α → Dd → Option α} {same : α → α → Bool} (as bs : List Dd) (d : Dk α) : d.run mk same (as ++ bs) = (((d.run mk same as).1.run mk same bs).1, (d.run mk same as).2 + ((d.run mk same as).1.run mk same bs).2) := by
  induction as generalizing d with
  | nil => rw [List.nil_append, Dk.run_nil, Nat.zero_add]
  | cons a as ih =>
    rw [List.cons_append]
    cases e : d.step mk same a with
    | none => rw [Dk.run_none e, Dk.run_none e]; exact ih d
    | some x =>
      rw [Dk.run_some e, Dk.run_some e, ih x]
      refine Prod.ext rfl ?_
      show (x.run mk same as).2 + ((x.run mk same as).1.run mk same bs).2 + 1 = (x.run mk same as).2 + 1 + ((x.run mk same as).1.run mk same bs).2
      omega
theorem Dk.run_snoc {α : Type} {mk : α → Dd → Option α} {same : α → α → Bool} (as : List Dd) (a : Dd) (d : Dk α) : d.run mk same (as ++ [a]) = match (d.run mk same as).1.step mk same a with
    | some x => (x, (d.run mk same as).2 + 1)
    | none => d.run mk same as := by
  rw [Dk.run_append]
  cases e : (d.run mk same as).1.step mk same a with
  | none => rw [Dk.run_none e, Dk.run_nil]; rfl
  | some x => rw [Dk.run_some e, Dk.run_nil]
/-- What holds of all on a desk, and is kept by what deeds make, holds behind any deeds. -/
def Dk.All {α : Type} (p : α → Prop) (d : Dk α) : Prop := p d.now ∧ (∀ x ∈ d.past, p x) ∧ d.past.length ≤ 8
theorem Dk.put_all {α : Type} {p : α → Prop} {d : Dk α} {x : α} (h : d.All p) (hx : p x) : (d.put x).All p := by
  refine ⟨hx, fun q hq => ?_, Dk.put_len h.2.2⟩
  have hq2 : q ∈ d.past ++ [d.now] := by
    unfold Dk.put at hq
    dsimp only at hq
    split at hq
    · exact List.mem_of_mem_drop hq
    · exact hq
  rcases List.mem_append.1 hq2 with h1 | h1
  · exact h.2.1 q h1
  · rw [List.mem_singleton] at h1
    rw [h1]; exact h.1
theorem Dk.back_all {α : Type} {p : α → Prop} {d e : Dk α} (h : d.All p) (hb : d.back = some e) : e.All p := by
  unfold Dk.back at hb
  cases hl : d.past.getLast? with
  | none => rw [hl] at hb; cases hb
  | some x =>
    rw [hl] at hb
    cases hb
    exact ⟨h.2.1 x (List.mem_of_getLast? hl), fun q hq => h.2.1 q (List.dropLast_subset _ hq), by show d.past.dropLast.length ≤ 8; rw [List.length_dropLast]; have := h.2.2; omega⟩
theorem Dk.step_all {α : Type} {p : α → Prop} {mk : α → Dd → Option α} {same : α → α → Bool} {d e : Dk α} {a : Dd} (hm : ∀ x y, p x → mk x a = some y → p y) (h : d.All p) (hs : d.step mk same a = some e) : e.All p := by
  unfold Dk.step at hs
  split at hs
  · exact Dk.back_all h hs
  · cases hk : mk d.now a with
    | none => rw [hk] at hs; cases hs
    | some x =>
      rw [hk] at hs
      dsimp only at hs
      split at hs
      · cases hs
      · cases hs
        exact Dk.put_all h (hm _ _ h.1 hk)
theorem Dk.run_all {α : Type} {p : α → Prop} {mk : α → Dd → Option α} {same : α → α → Bool} (hm : ∀ a x y, p x → mk x a = some y → p y) : ∀ (as : List Dd) (d : Dk α), d.All p → (d.run mk same as).1.All p
  | [], d, h => h
  | a :: as, d, h => by
    cases e : d.step mk same a with
    | none => rw [Dk.run_none e]; exact Dk.run_all hm as d h
    | some x => rw [Dk.run_some e]; exact Dk.run_all hm as x (Dk.step_all (hm a) h e)
end Go.Proofs.Ytojcgmgponnlpaa
