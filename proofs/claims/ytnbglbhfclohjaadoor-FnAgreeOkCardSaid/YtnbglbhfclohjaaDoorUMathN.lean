import Derived.Test.YtnbglbhfclohjaaDoorUMath
import Derived.Test.YtnbglbhfclohjaaDoorUBb
namespace Go.Proofs.YtnbglbhfclohjaaDoor

namespace OL
variable {α : Type} {L : OL α}
/-- Each three answers may be taken apart. -/
def Dist (L : OL α) : Prop := ∀ a b d, L.m a (L.j b d) = L.j (L.m a b) (L.m a d)
theorem Dist.ag (h : L.Dist) (a b : α) : L.Ag a b := by
  unfold Ag
  rw [← h, j_c]
  exact m_le (top a)
theorem Dist.keeps (h : L.Dist) : L.Keeps := keeps_of fun _ _ _ => h.ag _ _
end OL

/-- Two answers agree both ways. -/
def adjB (m : Mx) (y : Nat → Nat) (a b : Nat) : Bool := agB m y a b && agB m y b a
theorem adjB_comm (m : Mx) (y : Nat → Nat) (a b : Nat) : adjB m y a b = adjB m y b a := by unfold adjB; rw [Bool.and_comm]
/-- A set of answers that agree: told as the reference tests it. -/
def cliqB (m : Mx) (y : Nat → Nat) (s : Nat) : Bool := allB m.n fun a => allB a fun b => !(s.testBit a && s.testBit b) || adjB m y a b
/-- It agrees with all of the set. -/
def nbB (m : Mx) (y : Nat → Nat) (s x : Nat) : Bool := allB m.n fun a => !s.testBit a || adjB m y x a
/-- The set is just what agrees with all of it. -/
def blockB (m : Mx) (y : Nat → Nat) (s : Nat) : Bool := allB m.n fun x => s.testBit x == nbB m y s x
theorem nb_iff {m : Mx} {y : Nat → Nat} {s x : Nat} : nbB m y s x = true ↔ ∀ a, a < m.n → s.testBit a = true → adjB m y x a = true := by
  constructor
  · intro h a ha hs
    have := allB_is h a ha
    rw [hs] at this
    simpa using this
  · intro h
    refine allB_true fun a ha => ?_
    cases hs : s.testBit a with
    | false => rfl
    | true => rw [h a ha hs]; rfl
def Clique (m : Mx) (y : Nat → Nat) (s : Nat) : Prop := ∀ a b, a < m.n → b < m.n → s.testBit a = true → s.testBit b = true → adjB m y a b = true
structure Block (m : Mx) (y : Nat → Nat) (s : Nat) : Prop where
  lt : s < 2 ^ m.n
  iff : ∀ x, x < m.n → (s.testBit x = true ↔ ∀ a, a < m.n → s.testBit a = true → adjB m y x a = true)
theorem block_iff {m : Mx} {y : Nat → Nat} {s : Nat} (hs : s < 2 ^ m.n) : blockB m y s = true ↔ Block m y s := by
  constructor
  · intro h
    refine ⟨hs, fun x hx => ?_⟩
    have e := allB_is h x hx
    rw [beq_iff_eq] at e
    rw [e]
    exact nb_iff
  · intro h
    refine allB_true fun x hx => ?_
    rw [beq_iff_eq, Bool.eq_iff_iff, h.iff x hx]
    exact nb_iff.symm
/-- A bit of a number stands below its bound. -/
theorem bit_under {s n a : Nat} (hs : s < 2 ^ n) (h : s.testBit a = true) : a < n := by
  apply Classical.byContradiction
  intro hn
  have h2 : 2 ^ n ≤ 2 ^ a := Nat.pow_le_pow_right (by omega) (by omega)
  have := Nat.testBit_lt_two_pow (x := s) (i := a) (by omega)
  rw [h] at this
  exact Bool.false_ne_true this.symm
section
variable {m : Mx} {z : Nat → Int} {y : Nat → Nat} {o : Nat}
theorem Ortho.adj_self (h : Ortho m z y o) {a : Nat} (ha : a < m.n) : adjB m y a a = true := by
  unfold adjB
  rw [(h.ag_facts ha ha).1]; rfl
theorem Ortho.adj_no (h : Ortho m z y o) {a : Nat} (ha : a < m.n) : adjB m y o a = true := by
  have := allB_is h.mid_ends.1 a ha
  exact this
theorem Ortho.cliq_iff (h : Ortho m z y o) {s : Nat} : cliqB m y s = true ↔ Clique m y s := by
  constructor
  · intro e a b ha hb ga gb
    have key : ∀ a b, a < m.n → b < a → s.testBit a = true → s.testBit b = true → adjB m y a b = true := fun a b ha hb ga gb => by
      have := allB_is (allB_is e a ha) b hb
      rw [ga, gb] at this
      simpa using this
    rcases Nat.lt_trichotomy a b with hlt | heq | hgt
    · rw [adjB_comm]; exact key b a hb hlt gb ga
    · subst heq; exact h.adj_self ha
    · exact key a b ha hgt ga gb
  · intro e
    refine allB_true fun a ha => allB_true fun b hb => ?_
    cases ga : s.testBit a with
    | false => rfl
    | true =>
      cases gb : s.testBit b with
      | false => rfl
      | true => rw [e a b ha (by omega) ga gb]; rfl
/-- A set of answers that agree, made larger one answer after the other. -/
def extC (m : Mx) (y : Nat → Nat) (s : Nat) : Nat → Nat
  | 0 => s
  | k + 1 => if nbB m y (extC m y s k) k = true then extC m y s k ||| 2 ^ k else extC m y s k
theorem extC_mono (m : Mx) (y : Nat → Nat) (s : Nat) {k j : Nat} (h : k ≤ j) : Sub (extC m y s k) (extC m y s j) := by
  induction j with
  | zero => have : k = 0 := by omega
            subst this; exact Sub.refl _
  | succ j ih =>
    by_cases e : k = j + 1
    · subst e; exact Sub.refl _
    · refine (ih (by omega)).trans ?_
      show Sub _ (if _ then _ else _)
      split
      · intro a ha; rw [Nat.testBit_or, ha]; rfl
      · exact Sub.refl _
theorem pow_bit (a b : Nat) : (2 ^ a).testBit b = true ↔ a = b := by rw [Nat.testBit_two_pow, decide_eq_true_iff]
theorem Ortho.ext_clique (h : Ortho m z y o) {s : Nat} (hs : s < 2 ^ m.n) (hc : Clique m y s) (k : Nat) (hk : k ≤ m.n) : Clique m y (extC m y s k) ∧ extC m y s k < 2 ^ m.n := by
  induction k with
  | zero => exact ⟨hc, hs⟩
  | succ k ih =>
    obtain ⟨h1, h2⟩ := ih (by omega)
    by_cases hn : nbB m y (extC m y s k) k = true
    · have e : extC m y s (k + 1) = extC m y s k ||| 2 ^ k := by show (if _ then _ else _) = _; rw [if_pos hn]
      rw [e]
      have hnb := nb_iff.1 hn
      refine ⟨fun a b ha hb ga gb => ?_, Nat.or_lt_two_pow h2 (Nat.pow_lt_pow_right (by omega) (by omega))⟩
      rw [Nat.testBit_or, Bool.or_eq_true, pow_bit] at ga gb
      rcases ga with ga | ga
      · rcases gb with gb | gb
        · exact h1 a b ha hb ga gb
        · subst gb; rw [adjB_comm]; exact hnb a ha ga
      · subst ga
        rcases gb with gb | gb
        · exact hnb b hb gb
        · subst gb; exact h.adj_self ha
    · have e : extC m y s (k + 1) = extC m y s k := by show (if _ then _ else _) = _; rw [if_neg hn]
      rw [e]; exact ⟨h1, h2⟩
/-- Each set of answers that agree is within a block. -/
theorem Ortho.in_block (h : Ortho m z y o) {s : Nat} (hs : s < 2 ^ m.n) (hc : Clique m y s) : ∃ t, Block m y t ∧ Sub s t := by
  obtain ⟨h1, h2⟩ := h.ext_clique hs hc m.n (Nat.le_refl _)
  refine ⟨extC m y s m.n, ⟨h2, fun x hx => ⟨fun g a ha ga => h1 x a hx ha g ga, fun g => ?_⟩⟩, extC_mono m y s (Nat.zero_le _)⟩
  have hn : nbB m y (extC m y s x) x = true := nb_iff.2 fun a ha ga => g a ha (extC_mono m y s (by omega) a ga)
  refine extC_mono m y s (k := x + 1) (by omega) x ?_
  show (if _ then _ else _ : Nat).testBit x = true
  rw [if_pos hn, Nat.testBit_or, (pow_bit x x).2 rfl, Bool.or_true]
theorem Block.clique {s : Nat} (h : Block m y s) : Clique m y s := fun a b ha hb ga gb => (h.iff a ha).1 ga b hb gb
theorem Ortho.block_no (h : Ortho m z y o) {s : Nat} (hb : Block m y s) : s.testBit o = true := (hb.iff o h.ho).2 fun _ ha _ => h.adj_no ha
theorem Ortho.block_pos (h : Ortho m z y o) {s : Nat} (hb : Block m y s) : 1 ≤ s := by
  have := h.block_no hb
  rcases Nat.eq_zero_or_pos s with e | e
  · rw [e] at this; simp at this
  · exact e
/-- A set agrees exactly if it is within a block. -/
theorem Ortho.clique_iff (h : Ortho m z y o) {s : Nat} (hs : s < 2 ^ m.n) : Clique m y s ↔ ∃ t, Block m y t ∧ Sub s t :=
  ⟨fun g => h.in_block hs g, fun ⟨_, h1, h2⟩ a b ha hb ga gb => h1.clique a b ha hb (h2 a ga) (h2 b gb)⟩
/-- The block of all answers. -/
theorem full_bits {n a : Nat} : (2 ^ n - 1).testBit a = decide (a < n) := Nat.testBit_two_pow_sub_one n a
def listTo (p : Nat → Bool) : Nat → List Int
  | 0 => []
  | k + 1 => if p k = true then listTo p k ++ [(k : Int)] else listTo p k
theorem listTo_yes {p : Nat → Bool} {k : Nat} (h : p k = true) : listTo p (k + 1) = listTo p k ++ [(k : Int)] := if_pos h
theorem listTo_no {p : Nat → Bool} {k : Nat} (h : p k = false) : listTo p (k + 1) = listTo p k := if_neg (by rw [h]; exact Bool.false_ne_true)
theorem listTo_len (p : Nat → Bool) (k : Nat) : (listTo p k).length ≤ k := by
  induction k with
  | zero => exact Nat.le_refl _
  | succ k ih =>
    cases h : p k with
    | true => rw [listTo_yes h, List.length_append]; simp; omega
    | false => rw [listTo_no h]; omega
theorem listTo_in {p : Nat → Bool} {k : Nat} {x : Int} (hx : x ∈ listTo p k) : ∃ c : Nat, x = (c : Int) ∧ c < k ∧ p c = true := by
  induction k with
  | zero => cases hx
  | succ k ih =>
    cases hk : p k with
    | true =>
      rw [listTo_yes hk] at hx
      rcases List.mem_append.1 hx with h | h
      · obtain ⟨c, e, h1, h2⟩ := ih h
        exact ⟨c, e, by omega, h2⟩
      · exact ⟨k, by simpa using h, by omega, hk⟩
    | false =>
      rw [listTo_no hk] at hx
      obtain ⟨c, e, h1, h2⟩ := ih hx
      exact ⟨c, e, by omega, h2⟩
theorem listTo_has {p : Nat → Bool} {k c : Nat} (hc : c < k) (h : p c = true) : (c : Int) ∈ listTo p k := by
  induction k with
  | zero => omega
  | succ k ih =>
    by_cases e : c = k
    · subst e; rw [listTo_yes h]; simp
    · have := ih (by omega)
      cases hk : p k with
      | true => rw [listTo_yes hk]; exact List.mem_append_left _ this
      | false => rw [listTo_no hk]; exact this
theorem listTo_up (p : Nat → Bool) (k : Nat) : (listTo p k).Pairwise (· < ·) := by
  induction k with
  | zero => exact List.Pairwise.nil
  | succ k ih =>
    cases hk : p k with
    | true =>
      rw [listTo_yes hk, List.pairwise_append]
      refine ⟨ih, List.pairwise_singleton _ _, fun a ha b hb => ?_⟩
      obtain ⟨c, rfl, h1, _⟩ := listTo_in ha
      have : b = (k : Int) := by simpa using hb
      omega
    | false => rw [listTo_no hk]; exact ih
def blockL (m : Mx) (y : Nat → Nat) : List Int := listTo (blockB m y) (2 ^ m.n)
theorem blockL_in {x : Int} (h : x ∈ blockL m y) : ∃ s : Nat, x = (s : Int) ∧ Block m y s := by
  obtain ⟨c, e, h1, h2⟩ := listTo_in h
  exact ⟨c, e, (block_iff h1).1 h2⟩
theorem blockL_has {s : Nat} (h : Block m y s) : (s : Int) ∈ blockL m y := listTo_has h.lt ((block_iff h.lt).2 h)
end

/-- Different numbers below n go to different numbers below N: n is at most N. -/
theorem inj_le : ∀ (n N : Nat) (f : Nat → Nat), (∀ i, i < n → f i < N) → (∀ i j, i < n → j < n → f i = f j → i = j) → n ≤ N := by
  intro n
  induction n with
  | zero => intro N f _ _; exact Nat.zero_le _
  | succ n ih =>
    intro N f hf hi
    have hN : f n < N := hf n (Nat.lt_succ_self n)
    have := ih (N - 1) (fun i => if f i = N - 1 then f n else f i) (fun i hin => by
      have h1 := hf i (by omega)
      split
      · next e =>
        have : f n ≠ N - 1 := fun e2 => by have := hi i n (by omega) (by omega) (e.trans e2.symm); omega
        omega
      · omega) (fun i j hin hjn e => by
      have h1 : f i = f n → False := fun e2 => by have := hi i n (by omega) (by omega) e2; omega
      have h2 : f j = f n → False := fun e2 => by have := hi j n (by omega) (by omega) e2; omega
      split at e
      · next e1 =>
        split at e
        · next e2 => exact hi i j (by omega) (by omega) (e1.trans e2.symm)
        · exact absurd e.symm h2
      · split at e
        · exact absurd e h1
        · exact hi i j (by omega) (by omega) e)
    omega
/-- Bits set where a test holds, below a number. -/
def bitS (p : Nat → Bool) : Nat → Nat
  | 0 => 0
  | k + 1 => if p k = true then bitS p k + 2 ^ k else bitS p k
theorem bitS_is (p : Nat → Bool) (k : Nat) : bitS p k < 2 ^ k ∧ ∀ a, (bitS p k).testBit a = (decide (a < k) && p a) := by
  induction k with
  | zero => exact ⟨by show (0 : Nat) < 1; omega, fun a => by simp [bitS]⟩
  | succ k ih =>
    obtain ⟨h1, h2⟩ := ih
    have hp : 2 ^ (k + 1) = 2 ^ k + 2 ^ k := by rw [Nat.pow_succ]; omega
    cases hk : p k with
    | true =>
      have e : bitS p (k + 1) = bitS p k + 2 ^ k := by show (if _ then _ else _) = _; rw [if_pos hk]
      have e2 : bitS p k + 2 ^ k = 2 ^ k ||| bitS p k := by
        have h := Nat.two_pow_add_eq_or_of_lt h1 1
        rw [Nat.mul_one] at h
        rw [Nat.add_comm]; exact h
      refine ⟨by rw [e]; omega, fun a => ?_⟩
      rw [e, e2, Nat.testBit_or, Nat.testBit_two_pow, h2]
      by_cases ha : a = k
      · subst ha; simp [hk]
      · have : (k = a) = False := by simp; omega
        simp only [this, decide_false, Bool.false_or]
        rw [Bool.eq_iff_iff]
        simp only [Bool.and_eq_true, decide_eq_true_iff]
        constructor
        · rintro ⟨q1, q2⟩; exact ⟨by omega, q2⟩
        · rintro ⟨q1, q2⟩; exact ⟨by omega, q2⟩
    | false =>
      have e : bitS p (k + 1) = bitS p k := by show (if _ then _ else _) = _; rw [if_neg (by rw [hk]; exact Bool.false_ne_true)]
      refine ⟨by rw [e]; omega, fun a => ?_⟩
      rw [e, h2]
      by_cases ha : a = k
      · subst ha; simp [hk]
      · rw [Bool.eq_iff_iff]
        simp only [Bool.and_eq_true, decide_eq_true_iff]
        constructor
        · rintro ⟨q1, q2⟩; exact ⟨by omega, q2⟩
        · rintro ⟨q1, q2⟩; exact ⟨by omega, q2⟩
section
variable {m : Mx} {z : Nat → Int} {y : Nat → Nat} {o : Nat}
end
end Go.Proofs.YtnbglbhfclohjaaDoor
