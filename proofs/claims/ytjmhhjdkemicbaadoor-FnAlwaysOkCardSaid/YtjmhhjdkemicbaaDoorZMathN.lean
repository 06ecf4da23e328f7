import Derived.Test.YtjmhhjdkemicbaaDoorZMath
import Derived.Test.YtjmhhjdkemicbaaDoorZDa
namespace Go.Proofs.YtjmhhjdkemicbaaDoor
open Go.RowKit Go.Deep

theorem pow_le_12 {k : Nat} (h : k ≤ 12) : 2 ^ k ≤ 4096 := by
  have := Nat.pow_le_pow_right (n := 2) (by omega) h
  exact this
theorem i64_or_nat (a b : Nat) (ha : a < 9223372036854775808) (hb : b < 9223372036854775808) : bits .or .i64 (a : Int) (b : Int) = ((a ||| b : Nat) : Int) := by
  have hx : a ||| b < 2 ^ 63 := Nat.or_lt_two_pow (by omega) (by omega)
  show IntKind.i64.wrap ((BitVec.ofInt 64 (a : Int) ||| BitVec.ofInt 64 (b : Int)).toNat : Int) = _
  rw [BitVec.toNat_or, ofInt_i64 a ha, ofInt_i64 b hb, IntKind.wrap_i64]
  omega
theorem i64_and_nat (a b : Nat) (ha : a < 9223372036854775808) (hb : b < 9223372036854775808) : bits .and .i64 (a : Int) (b : Int) = ((a &&& b : Nat) : Int) := by
  have hx : a &&& b < 2 ^ 63 := Nat.and_lt_two_pow _ (by omega)
  show IntKind.i64.wrap ((BitVec.ofInt 64 (a : Int) &&& BitVec.ofInt 64 (b : Int)).toNat : Int) = _
  rw [BitVec.toNat_and, ofInt_i64 a ha, ofInt_i64 b hb, IntKind.wrap_i64]
  omega
theorem one_wrap {k : Nat} (h : k ≤ 12) : IntKind.i64.wrap (2 ^ k) = ((2 ^ k : Nat) : Int) := by
  have := pow_le_12 h
  have e : ((2 : Int) ^ k) = ((2 ^ k : Nat) : Int) := by push_cast; rfl
  rw [e]
  generalize 2 ^ k = q at this
  exact IntWalk.i64_in _ (by omega)
end Go.Proofs.YtjmhhjdkemicbaaDoor
namespace Go.Proofs.YtjmhhjdkemicbaaDoor

namespace OL
variable {α : Type} {L : OL α}
/-- Each three answers may be taken apart. -/
def Dist (L : OL α) : Prop := ∀ a b d, L.m a (L.j b d) = L.j (L.m a b) (L.m a d)
theorem Dist.ag (h : L.Dist) (a b : α) : L.Ag a b := by
  unfold Ag
  rw [← h, j_c]
  exact m_le (top a)
theorem Dist.keeps (h : L.Dist) : L.Keeps := keeps_of fun _ _ _ => h.ag _ _
end OL

/-- Two answers agree both ways. -/
def adjB (m : Mx) (y : Nat → Nat) (a b : Nat) : Bool := agB m y a b && agB m y b a
theorem adjB_comm (m : Mx) (y : Nat → Nat) (a b : Nat) : adjB m y a b = adjB m y b a := by unfold adjB; rw [Bool.and_comm]
/-- It agrees with all of the set. -/
def nbB (m : Mx) (y : Nat → Nat) (s x : Nat) : Bool := allB m.n fun a => !s.testBit a || adjB m y x a
/-- The set is just what agrees with all of it. -/
def blockB (m : Mx) (y : Nat → Nat) (s : Nat) : Bool := allB m.n fun x => s.testBit x == nbB m y s x
theorem nb_iff {m : Mx} {y : Nat → Nat} {s x : Nat} : nbB m y s x = true ↔ ∀ a, a < m.n → s.testBit a = true → adjB m y x a = true := by
  constructor
  · intro h a ha hs
    have := allB_is h a ha
    rw [hs] at this
    simpa using this
  · intro h
    refine allB_true fun a ha => ?_
    cases hs : s.testBit a with
    | false => rfl
    | true => rw [h a ha hs]; rfl
def Clique (m : Mx) (y : Nat → Nat) (s : Nat) : Prop := ∀ a b, a < m.n → b < m.n → s.testBit a = true → s.testBit b = true → adjB m y a b = true
structure Block (m : Mx) (y : Nat → Nat) (s : Nat) : Prop where
  lt : s < 2 ^ m.n
  iff : ∀ x, x < m.n → (s.testBit x = true ↔ ∀ a, a < m.n → s.testBit a = true → adjB m y x a = true)
theorem block_iff {m : Mx} {y : Nat → Nat} {s : Nat} (hs : s < 2 ^ m.n) : blockB m y s = true ↔ Block m y s := by
  constructor
  · intro h
    refine ⟨hs, fun x hx => ?_⟩
    have e := allB_is h x hx
    rw [beq_iff_eq] at e
    rw [e]
    exact nb_iff
  · intro h
    refine allB_true fun x hx => ?_
    rw [beq_iff_eq, Bool.eq_iff_iff, h.iff x hx]
    exact nb_iff.symm
/-- A bit of a number stands below its bound. -/
theorem bit_under {s n a : Nat} (hs : s < 2 ^ n) (h : s.testBit a = true) : a < n := by
  apply Classical.byContradiction
  intro hn
  have h2 : 2 ^ n ≤ 2 ^ a := Nat.pow_le_pow_right (by omega) (by omega)
  have := Nat.testBit_lt_two_pow (x := s) (i := a) (by omega)
  rw [h] at this
  exact Bool.false_ne_true this.symm
section
variable {m : Mx} {z : Nat → Int} {y : Nat → Nat} {o : Nat}
theorem Ortho.adj_self (h : Ortho m z y o) {a : Nat} (ha : a < m.n) : adjB m y a a = true := by
  unfold adjB
  rw [(h.ag_facts ha ha).1]; rfl
/-- A set of answers that agree, made larger one answer after the other. -/
def extC (m : Mx) (y : Nat → Nat) (s : Nat) : Nat → Nat
  | 0 => s
  | k + 1 => if nbB m y (extC m y s k) k = true then extC m y s k ||| 2 ^ k else extC m y s k
theorem extC_mono (m : Mx) (y : Nat → Nat) (s : Nat) {k j : Nat} (h : k ≤ j) : Sub (extC m y s k) (extC m y s j) := by
  induction j with
  | zero => have : k = 0 := by omega
            subst this; exact Sub.refl _
  | succ j ih =>
    by_cases e : k = j + 1
    · subst e; exact Sub.refl _
    · refine (ih (by omega)).trans ?_
      show Sub _ (if _ then _ else _)
      split
      · intro a ha; rw [Nat.testBit_or, ha]; rfl
      · exact Sub.refl _
theorem pow_bit (a b : Nat) : (2 ^ a).testBit b = true ↔ a = b := by rw [Nat.testBit_two_pow, decide_eq_true_iff]
theorem Ortho.ext_clique (h : Ortho m z y o) {s : Nat} (hs : s < 2 ^ m.n) (hc : Clique m y s) (k : Nat) (hk : k ≤ m.n) : Clique m y (extC m y s k) ∧ extC m y s k < 2 ^ m.n := by
  induction k with
  | zero => exact ⟨hc, hs⟩
  | succ k ih =>
    obtain ⟨h1, h2⟩ := ih (by omega)
    by_cases hn : nbB m y (extC m y s k) k = true
    · have e : extC m y s (k + 1) = extC m y s k ||| 2 ^ k := by show (if _ then _ else _) = _; rw [if_pos hn]
      rw [e]
      have hnb := nb_iff.1 hn
      refine ⟨fun a b ha hb ga gb => ?_, Nat.or_lt_two_pow h2 (Nat.pow_lt_pow_right (by omega) (by omega))⟩
      rw [Nat.testBit_or, Bool.or_eq_true, pow_bit] at ga gb
      rcases ga with ga | ga
      · rcases gb with gb | gb
        · exact h1 a b ha hb ga gb
        · subst gb; rw [adjB_comm]; exact hnb a ha ga
      · subst ga
        rcases gb with gb | gb
        · exact hnb b hb gb
        · subst gb; exact h.adj_self ha
    · have e : extC m y s (k + 1) = extC m y s k := by show (if _ then _ else _) = _; rw [if_neg hn]
      rw [e]; exact ⟨h1, h2⟩
/-- Each set of answers that agree is within a block. -/
theorem Ortho.in_block (h : Ortho m z y o) {s : Nat} (hs : s < 2 ^ m.n) (hc : Clique m y s) : ∃ t, Block m y t ∧ Sub s t := by
  obtain ⟨h1, h2⟩ := h.ext_clique hs hc m.n (Nat.le_refl _)
  refine ⟨extC m y s m.n, ⟨h2, fun x hx => ⟨fun g a ha ga => h1 x a hx ha g ga, fun g => ?_⟩⟩, extC_mono m y s (Nat.zero_le _)⟩
  have hn : nbB m y (extC m y s x) x = true := nb_iff.2 fun a ha ga => g a ha (extC_mono m y s (by omega) a ga)
  refine extC_mono m y s (k := x + 1) (by omega) x ?_
  show (if _ then _ else _ : Nat).testBit x = true
  rw [if_pos hn, Nat.testBit_or, (pow_bit x x).2 rfl, Bool.or_true]
theorem Block.clique {s : Nat} (h : Block m y s) : Clique m y s := fun a b ha hb ga gb => (h.iff a ha).1 ga b hb gb
theorem Ortho.one_clique (h : Ortho m z y o) {a : Nat} : Clique m y (2 ^ a) := fun b d hb _ gb gd => by
  rw [pow_bit] at gb gd
  subst gb; subst gd; exact h.adj_self hb
/-- All blocks together are all answers. -/
theorem Ortho.cover (h : Ortho m z y o) {a : Nat} (ha : a < m.n) : ∃ t, Block m y t ∧ t.testBit a = true := by
  obtain ⟨t, h1, h2⟩ := h.in_block (Nat.pow_lt_pow_right (by omega) ha) h.one_clique
  exact ⟨t, h1, h2 a ((pow_bit a a).2 rfl)⟩
theorem Ortho.adj_keeps (h : Ortho m z y o) (hk : keepsB m y = true) {a b : Nat} (ha : a < m.n) (hb : b < m.n) : adjB m y a b = true ↔ h.ol.Ag ⟨a, ha⟩ ⟨b, hb⟩ := by
  unfold adjB
  rw [Bool.and_eq_true, h.ag_iff ha hb, h.ag_iff hb ha]
  exact ⟨fun g => g.1, fun g => ⟨g, (h.keeps_iff.1 hk).ag g⟩⟩
/-- Where the law is kept, each three answers of a block may be taken apart. -/
theorem Ortho.block_split (h : Ortho m z y o) (hk : keepsB m y = true) {s : Nat} (hb : Block m y s) {a b d : Nat} (ha : a < m.n) (hbn : b < m.n) (hd : d < m.n) (ga : s.testBit a = true) (gb : s.testBit b = true) (gd : s.testBit d = true) : splitB m a b d = true :=
  (h.fh hk ha hbn hd (by have := hb.clique a b ha hbn ga gb; unfold adjB at this; rw [Bool.and_eq_true] at this; exact this.1) (by have := hb.clique a d ha hd ga gd; unfold adjB at this; rw [Bool.and_eq_true] at this; exact this.1)).1

def boolB (m : Mx) : Bool := allB m.n fun a => allB m.n fun b => allB m.n fun d => splitB m a b d
theorem bool_iff {m : Mx} : boolB m = true ↔ ∀ a b d, a < m.n → b < m.n → d < m.n → splitB m a b d = true :=
  ⟨fun h a b d ha hb hd => allB_is (allB_is (allB_is h a ha) b hb) d hd, fun h => allB_true fun a ha => allB_true fun b hb => allB_true fun d hd => h a b d ha hb hd⟩
theorem Ortho.bool_dist (h : Ortho m z y o) : boolB m = true ↔ h.ol.Dist := by
  rw [bool_iff]
  constructor
  · intro e a b d
    exact Fin.ext (of_decide_eq_true (e a b d a.2 b.2 d.2))
  · intro e a b d ha hb hd
    exact decide_eq_true (congrArg Fin.val (e ⟨a, ha⟩ ⟨b, hb⟩ ⟨d, hd⟩))
/-- The block of all answers. -/
theorem full_bits {n a : Nat} : (2 ^ n - 1).testBit a = decide (a < n) := Nat.testBit_two_pow_sub_one n a
theorem Ortho.bool_keeps (h : Ortho m z y o) (hb : boolB m = true) : keepsB m y = true := h.keeps_iff.2 (h.bool_dist.1 hb).keeps
theorem Ortho.bool_adj (h : Ortho m z y o) (hb : boolB m = true) {a b : Nat} (ha : a < m.n) (hbn : b < m.n) : adjB m y a b = true :=
  (h.adj_keeps (h.bool_keeps hb) ha hbn).2 ((h.bool_dist.1 hb).ag _ _)
/-- Where each three may be taken apart, the only block is that of all. -/
theorem Ortho.bool_block (h : Ortho m z y o) (hb : boolB m = true) {s : Nat} : Block m y s ↔ s = 2 ^ m.n - 1 := by
  have hp : 1 ≤ 2 ^ m.n := Nat.one_le_two_pow
  constructor
  · intro g
    refine Nat.eq_of_testBit_eq fun i => ?_
    rw [full_bits]
    by_cases hi : i < m.n
    · rw [(g.iff i hi).2 fun a ha _ => h.bool_adj hb hi ha]; simp [hi]
    · cases e : s.testBit i with
      | true => exact absurd (bit_under g.lt e) hi
      | false => simp [hi]
  · rintro rfl
    refine ⟨by omega, fun x hx => ⟨fun _ a ha _ => h.bool_adj hb hx ha, fun _ => by rw [full_bits]; simp [hx]⟩⟩
/-- Where the law is kept and there is one block, each three may be taken apart. -/
theorem Ortho.one_bool (h : Ortho m z y o) (hk : keepsB m y = true) {t : Nat} (h1 : ∀ s, Block m y s → s = t) : boolB m = true := by
  have hall : ∀ a, a < m.n → ∃ s, Block m y s ∧ s = t ∧ t.testBit a = true := fun a ha => by
    obtain ⟨s, hs, ga⟩ := h.cover ha
    have e := h1 s hs
    subst e
    exact ⟨s, hs, rfl, ga⟩
  refine bool_iff.2 fun a b d ha hb hd => ?_
  obtain ⟨s, hs, e, ga⟩ := hall a ha
  obtain ⟨_, _, _, gb⟩ := hall b hb
  obtain ⟨_, _, _, gd⟩ := hall d hd
  rw [e] at hs
  exact h.block_split hk hs ha hb hd ga gb gd
def listTo (p : Nat → Bool) : Nat → List Int
  | 0 => []
  | k + 1 => if p k = true then listTo p k ++ [(k : Int)] else listTo p k
theorem listTo_yes {p : Nat → Bool} {k : Nat} (h : p k = true) : listTo p (k + 1) = listTo p k ++ [(k : Int)] := if_pos h
theorem listTo_no {p : Nat → Bool} {k : Nat} (h : p k = false) : listTo p (k + 1) = listTo p k := if_neg (by rw [h]; exact Bool.false_ne_true)
theorem listTo_len (p : Nat → Bool) (k : Nat) : (listTo p k).length ≤ k := by
  induction k with
  | zero => exact Nat.le_refl _
  | succ k ih =>
    cases h : p k with
    | true => rw [listTo_yes h, List.length_append]; simp; omega
    | false => rw [listTo_no h]; omega
theorem listTo_in {p : Nat → Bool} {k : Nat} {x : Int} (hx : x ∈ listTo p k) : ∃ c : Nat, x = (c : Int) ∧ c < k ∧ p c = true := by
  induction k with
  | zero => cases hx
  | succ k ih =>
    cases hk : p k with
    | true =>
      rw [listTo_yes hk] at hx
      rcases List.mem_append.1 hx with h | h
      · obtain ⟨c, e, h1, h2⟩ := ih h
        exact ⟨c, e, by omega, h2⟩
      · exact ⟨k, by simpa using h, by omega, hk⟩
    | false =>
      rw [listTo_no hk] at hx
      obtain ⟨c, e, h1, h2⟩ := ih hx
      exact ⟨c, e, by omega, h2⟩
theorem listTo_has {p : Nat → Bool} {k c : Nat} (hc : c < k) (h : p c = true) : (c : Int) ∈ listTo p k := by
  induction k with
  | zero => omega
  | succ k ih =>
    by_cases e : c = k
    · subst e; rw [listTo_yes h]; simp
    · have := ih (by omega)
      cases hk : p k with
      | true => rw [listTo_yes hk]; exact List.mem_append_left _ this
      | false => rw [listTo_no hk]; exact this
theorem listTo_up (p : Nat → Bool) (k : Nat) : (listTo p k).Pairwise (· < ·) := by
  induction k with
  | zero => exact List.Pairwise.nil
  | succ k ih =>
    cases hk : p k with
    | true =>
      rw [listTo_yes hk, List.pairwise_append]
      refine ⟨ih, List.pairwise_singleton _ _, fun a ha b hb => ?_⟩
      obtain ⟨c, rfl, h1, _⟩ := listTo_in ha
      have : b = (k : Int) := by simpa using hb
      omega
    | false => rw [listTo_no hk]; exact ih
theorem listTo_one {p : Nat → Bool} {k t : Nat} (ht : t < k) (h : ∀ s, s < k → (p s = true ↔ s = t)) : listTo p k = [(t : Int)] := by
  have none : ∀ j, j ≤ t → listTo p j = [] := fun j hj => by
    induction j with
    | zero => rfl
    | succ j ih =>
      have : p j = false := by
        cases e : p j with
        | false => rfl
        | true => have := (h j (by omega)).1 e; omega
      rw [listTo_no this]; exact ih (by omega)
  have some : ∀ j, t < j → j ≤ k → listTo p j = [(t : Int)] := fun j => by
    induction j with
    | zero => intro h0; omega
    | succ j ih =>
      intro h1 h2
      by_cases e : j = t
      · subst e; rw [listTo_yes ((h j ht).2 rfl), none j (Nat.le_refl _)]; rfl
      · have : p j = false := by
          cases e2 : p j with
          | false => rfl
          | true => have := (h j (by omega)).1 e2; omega
        rw [listTo_no this]; exact ih (by omega) (by omega)
  exact some k ht (Nat.le_refl _)
theorem listTo_single {p : Nat → Bool} {k : Nat} (h : (listTo p k).length = 1) : ∃ t, t < k ∧ p t = true ∧ ∀ s, s < k → p s = true → s = t := by
  obtain ⟨x, hx⟩ : ∃ x, listTo p k = [x] := by
    match hl : listTo p k with
    | [] => rw [hl] at h; simp at h
    | [x] => exact ⟨x, rfl⟩
    | x :: x' :: r => rw [hl] at h; simp at h
  obtain ⟨t, rfl, h1, h2⟩ := listTo_in (p := p) (k := k) (x := x) (by rw [hx]; simp)
  refine ⟨t, h1, h2, fun s hs hp => ?_⟩
  have := listTo_has hs hp
  rw [hx] at this
  have e : (s : Int) = (t : Int) := by simpa using this
  omega

def blockL (m : Mx) (y : Nat → Nat) : List Int := listTo (blockB m y) (2 ^ m.n)
theorem blockL_in {x : Int} (h : x ∈ blockL m y) : ∃ s : Nat, x = (s : Int) ∧ Block m y s := by
  obtain ⟨c, e, h1, h2⟩ := listTo_in h
  exact ⟨c, e, (block_iff h1).1 h2⟩
theorem blockL_has {s : Nat} (h : Block m y s) : (s : Int) ∈ blockL m y := listTo_has h.lt ((block_iff h.lt).2 h)
theorem Ortho.bool_one (h : Ortho m z y o) : boolB m = (keepsB m y && decide ((blockL m y).length = 1)) := by
  have hp : 1 ≤ 2 ^ m.n := Nat.one_le_two_pow
  rw [Bool.eq_iff_iff, Bool.and_eq_true, decide_eq_true_iff]
  constructor
  · intro hb
    refine ⟨h.bool_keeps hb, ?_⟩
    have e : blockL m y = [((2 ^ m.n - 1 : Nat) : Int)] := listTo_one (by omega) fun s hs => (block_iff hs).trans (h.bool_block hb)
    rw [e]; rfl
  · rintro ⟨hk, h1⟩
    obtain ⟨t, ht, _, hu⟩ := listTo_single h1
    exact h.one_bool hk (t := t) fun s hs => hu s hs.lt ((block_iff hs.lt).2 hs)
end

/-- Different numbers below n go to different numbers below N: n is at most N. -/
theorem inj_le : ∀ (n N : Nat) (f : Nat → Nat), (∀ i, i < n → f i < N) → (∀ i j, i < n → j < n → f i = f j → i = j) → n ≤ N := by
  intro n
  induction n with
  | zero => intro N f _ _; exact Nat.zero_le _
  | succ n ih =>
    intro N f hf hi
    have hN : f n < N := hf n (Nat.lt_succ_self n)
    have := ih (N - 1) (fun i => if f i = N - 1 then f n else f i) (fun i hin => by
      have h1 := hf i (by omega)
      split
      · next e =>
        have : f n ≠ N - 1 := fun e2 => by have := hi i n (by omega) (by omega) (e.trans e2.symm); omega
        omega
      · omega) (fun i j hin hjn e => by
      have h1 : f i = f n → False := fun e2 => by have := hi i n (by omega) (by omega) e2; omega
      have h2 : f j = f n → False := fun e2 => by have := hi j n (by omega) (by omega) e2; omega
      split at e
      · next e1 =>
        split at e
        · next e2 => exact hi i j (by omega) (by omega) (e1.trans e2.symm)
        · exact absurd e.symm h2
      · split at e
        · exact absurd e h1
        · exact hi i j (by omega) (by omega) e)
    omega
/-- Bits set where a test holds, below a number. -/
def bitS (p : Nat → Bool) : Nat → Nat
  | 0 => 0
  | k + 1 => if p k = true then bitS p k + 2 ^ k else bitS p k
theorem bitS_is (p : Nat → Bool) (k : Nat) : bitS p k < 2 ^ k ∧ ∀ a, (bitS p k).testBit a = (decide (a < k) && p a) := by
  induction k with
  | zero => exact ⟨by show (0 : Nat) < 1; omega, fun a => by simp [bitS]⟩
  | succ k ih =>
    obtain ⟨h1, h2⟩ := ih
    have hp : 2 ^ (k + 1) = 2 ^ k + 2 ^ k := by rw [Nat.pow_succ]; omega
    cases hk : p k with
    | true =>
      have e : bitS p (k + 1) = bitS p k + 2 ^ k := by show (if _ then _ else _) = _; rw [if_pos hk]
      have e2 : bitS p k + 2 ^ k = 2 ^ k ||| bitS p k := by
        have h := Nat.two_pow_add_eq_or_of_lt h1 1
        rw [Nat.mul_one] at h
        rw [Nat.add_comm]; exact h
      refine ⟨by rw [e]; omega, fun a => ?_⟩
      rw [e, e2, Nat.testBit_or, Nat.testBit_two_pow, h2]
      by_cases ha : a = k
      · subst ha; simp [hk]
      · have : (k = a) = False := by simp; omega
        simp only [this, decide_false, Bool.false_or]
        rw [Bool.eq_iff_iff]
        simp only [Bool.and_eq_true, decide_eq_true_iff]
        constructor
        · rintro ⟨q1, q2⟩; exact ⟨by omega, q2⟩
        · rintro ⟨q1, q2⟩; exact ⟨by omega, q2⟩
    | false =>
      have e : bitS p (k + 1) = bitS p k := by show (if _ then _ else _) = _; rw [if_neg (by rw [hk]; exact Bool.false_ne_true)]
      refine ⟨by rw [e]; omega, fun a => ?_⟩
      rw [e, h2]
      by_cases ha : a = k
      · subst ha; simp [hk]
      · rw [Bool.eq_iff_iff]
        simp only [Bool.and_eq_true, decide_eq_true_iff]
        constructor
        · rintro ⟨q1, q2⟩; exact ⟨by omega, q2⟩
        · rintro ⟨q1, q2⟩; exact ⟨by omega, q2⟩
section
variable {m : Mx} {z : Nat → Int} {y : Nat → Nat} {o : Nat}
end
end Go.Proofs.YtjmhhjdkemicbaaDoor
