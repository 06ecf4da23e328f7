/- The plain mathematics of blocks: largest sets of answers that agree, what they cover and have in common; where the law is kept they are parts, and as sets are; one block. -/
import Derived.Test.YtjofkejfldmmlaaDoorMath
import Derived.Test.YtjofkejfldmmlaaDoorMathL
namespace Go.Proofs.YtjofkejfldmmlaaDoor

namespace OL
variable {α : Type} {L : OL α}
theorem Keeps.ag_join {a b d : α} (hk : L.Keeps) (h1 : L.Ag b a) (h2 : L.Ag b d) : L.Ag b (L.j a d) := by
  refine hk.ag ?_
  have e1 := hk.fh h1 h2
  have e2 := hk.fh (hk.not h1) (hk.not h2)
  have a1 := hk.ag h1
  have a2 := hk.ag h2
  unfold Ag at *
  rw [m_comm (L.j a d) b, m_comm (L.j a d) (L.c b), e1, e2]
  refine L.anti (j4 (L.trans (L.mr _ _) (L.jl _ _)) (L.trans (L.mr _ _) (L.jr _ _)) (L.trans (L.mr _ _) (L.jl _ _)) (L.trans (L.mr _ _) (L.jr _ _))) (L.jg ?_ ?_)
  · have g : L.le (L.j (L.m a b) (L.m a (L.c b))) (L.j (L.j (L.m b a) (L.m b d)) (L.j (L.m (L.c b) a) (L.m (L.c b) d))) := by
      rw [m_comm a b, m_comm a (L.c b)]
      exact L.jg (L.trans (L.jl _ _) (L.jl _ _)) (L.trans (L.jl _ _) (L.jr _ _))
    rw [a1] at g
    exact g
  · have g : L.le (L.j (L.m d b) (L.m d (L.c b))) (L.j (L.j (L.m b a) (L.m b d)) (L.j (L.m (L.c b) a) (L.m (L.c b) d))) := by
      rw [m_comm d b, m_comm d (L.c b)]
      exact L.jg (L.trans (L.jr _ _) (L.jl _ _)) (L.trans (L.jr _ _) (L.jr _ _))
    rw [a2] at g
    exact g
theorem Keeps.ag_meet {a b d : α} (hk : L.Keeps) (h1 : L.Ag b a) (h2 : L.Ag b d) : L.Ag b (L.m a d) := by
  have h := (hk.ag_join h1.c h2.c).c
  rw [c_j, L.cc, L.cc] at h
  exact h
/-- Each three answers may be taken apart. -/
def Dist (L : OL α) : Prop := ∀ a b d, L.m a (L.j b d) = L.j (L.m a b) (L.m a d)
theorem Dist.ag (h : L.Dist) (a b : α) : L.Ag a b := by
  unfold Ag
  rw [← h, j_c]
  exact m_le (top a)
theorem Dist.keeps (h : L.Dist) : L.Keeps := keeps_of fun _ _ _ => h.ag _ _
theorem Keeps.dist (hk : L.Keeps) (h : ∀ a b, L.Ag a b) : L.Dist := fun _ _ _ => hk.fh (h _ _) (h _ _)
end OL

/-- Two answers agree both ways. -/
def adjB (m : Mx) (y : Nat → Nat) (a b : Nat) : Bool := agB m y a b && agB m y b a
theorem adjB_comm (m : Mx) (y : Nat → Nat) (a b : Nat) : adjB m y a b = adjB m y b a := by unfold adjB; rw [Bool.and_comm]
/-- A set of answers that agree: told as the reference tests it. -/
def cliqB (m : Mx) (y : Nat → Nat) (s : Nat) : Bool := allB m.n fun a => allB a fun b => !(s.testBit a && s.testBit b) || adjB m y a b
/-- It agrees with all of the set. -/
def nbB (m : Mx) (y : Nat → Nat) (s x : Nat) : Bool := allB m.n fun a => !s.testBit a || adjB m y x a
/-- The set is just what agrees with all of it. -/
def blockB (m : Mx) (y : Nat → Nat) (s : Nat) : Bool := allB m.n fun x => s.testBit x == nbB m y s x
theorem nb_iff {m : Mx} {y : Nat → Nat} {s x : Nat} : nbB m y s x = true ↔ ∀ a, a < m.n → s.testBit a = true → adjB m y x a = true := by
  constructor
  · intro h a ha hs
    have := allB_is h a ha
    rw [hs] at this
    simpa using this
  · intro h
    refine allB_true fun a ha => ?_
    cases hs : s.testBit a with
    | false => rfl
    | true => rw [h a ha hs]; rfl
def Clique (m : Mx) (y : Nat → Nat) (s : Nat) : Prop := ∀ a b, a < m.n → b < m.n → s.testBit a = true → s.testBit b = true → adjB m y a b = true
structure Block (m : Mx) (y : Nat → Nat) (s : Nat) : Prop where
  lt : s < 2 ^ m.n
  iff : ∀ x, x < m.n → (s.testBit x = true ↔ ∀ a, a < m.n → s.testBit a = true → adjB m y x a = true)
theorem block_iff {m : Mx} {y : Nat → Nat} {s : Nat} (hs : s < 2 ^ m.n) : blockB m y s = true ↔ Block m y s := by
  constructor
  · intro h
    refine ⟨hs, fun x hx => ?_⟩
    have e := allB_is h x hx
    rw [beq_iff_eq] at e
    rw [e]
    exact nb_iff
  · intro h
    refine allB_true fun x hx => ?_
    rw [beq_iff_eq, Bool.eq_iff_iff, h.iff x hx]
    exact nb_iff.symm
/-- A bit of a number stands below its bound. -/
theorem bit_under {s n a : Nat} (hs : s < 2 ^ n) (h : s.testBit a = true) : a < n := by
  apply Classical.byContradiction
  intro hn
  have h2 : 2 ^ n ≤ 2 ^ a := Nat.pow_le_pow_right (by omega) (by omega)
  have := Nat.testBit_lt_two_pow (x := s) (i := a) (by omega)
  rw [h] at this
  exact Bool.false_ne_true this.symm
section
variable {m : Mx} {z : Nat → Int} {y : Nat → Nat} {o : Nat}
theorem Ortho.adj_self (h : Ortho m z y o) {a : Nat} (ha : a < m.n) : adjB m y a a = true := by
  unfold adjB
  rw [(h.ag_facts ha ha).1]; rfl
theorem Ortho.adj_no (h : Ortho m z y o) {a : Nat} (ha : a < m.n) : adjB m y o a = true := by
  have := allB_is h.mid_ends.1 a ha
  exact this
theorem Ortho.cliq_iff (h : Ortho m z y o) {s : Nat} : cliqB m y s = true ↔ Clique m y s := by
  constructor
  · intro e a b ha hb ga gb
    have key : ∀ a b, a < m.n → b < a → s.testBit a = true → s.testBit b = true → adjB m y a b = true := fun a b ha hb ga gb => by
      have := allB_is (allB_is e a ha) b hb
      rw [ga, gb] at this
      simpa using this
    rcases Nat.lt_trichotomy a b with hlt | heq | hgt
    · rw [adjB_comm]; exact key b a hb hlt gb ga
    · subst heq; exact h.adj_self ha
    · exact key a b ha hgt ga gb
  · intro e
    refine allB_true fun a ha => allB_true fun b hb => ?_
    cases ga : s.testBit a with
    | false => rfl
    | true =>
      cases gb : s.testBit b with
      | false => rfl
      | true => rw [e a b ha (by omega) ga gb]; rfl
/-- A set of answers that agree, made larger one answer after the other. -/
def extC (m : Mx) (y : Nat → Nat) (s : Nat) : Nat → Nat
  | 0 => s
  | k + 1 => if nbB m y (extC m y s k) k = true then extC m y s k ||| 2 ^ k else extC m y s k
theorem extC_mono (m : Mx) (y : Nat → Nat) (s : Nat) {k j : Nat} (h : k ≤ j) : Sub (extC m y s k) (extC m y s j) := by
  induction j with
  | zero => have : k = 0 := by omega
            subst this; exact Sub.refl _
  | succ j ih =>
    by_cases e : k = j + 1
    · subst e; exact Sub.refl _
    · refine (ih (by omega)).trans ?_
      show Sub _ (if _ then _ else _)
      split
      · intro a ha; rw [Nat.testBit_or, ha]; rfl
      · exact Sub.refl _
theorem pow_bit (a b : Nat) : (2 ^ a).testBit b = true ↔ a = b := by rw [Nat.testBit_two_pow, decide_eq_true_iff]
theorem Ortho.ext_clique (h : Ortho m z y o) {s : Nat} (hs : s < 2 ^ m.n) (hc : Clique m y s) (k : Nat) (hk : k ≤ m.n) : Clique m y (extC m y s k) ∧ extC m y s k < 2 ^ m.n := by
  induction k with
  | zero => exact ⟨hc, hs⟩
  | succ k ih =>
    obtain ⟨h1, h2⟩ := ih (by omega)
    by_cases hn : nbB m y (extC m y s k) k = true
    · have e : extC m y s (k + 1) = extC m y s k ||| 2 ^ k := by show (if _ then _ else _) = _; rw [if_pos hn]
      rw [e]
      have hnb := nb_iff.1 hn
      refine ⟨fun a b ha hb ga gb => ?_, Nat.or_lt_two_pow h2 (Nat.pow_lt_pow_right (by omega) (by omega))⟩
      rw [Nat.testBit_or, Bool.or_eq_true, pow_bit] at ga gb
      rcases ga with ga | ga
      · rcases gb with gb | gb
        · exact h1 a b ha hb ga gb
        · subst gb; rw [adjB_comm]; exact hnb a ha ga
      · subst ga
        rcases gb with gb | gb
        · exact hnb b hb gb
        · subst gb; exact h.adj_self ha
    · have e : extC m y s (k + 1) = extC m y s k := by show (if _ then _ else _) = _; rw [if_neg hn]
      rw [e]; exact ⟨h1, h2⟩
/-- Each set of answers that agree is within a block. -/
theorem Ortho.in_block (h : Ortho m z y o) {s : Nat} (hs : s < 2 ^ m.n) (hc : Clique m y s) : ∃ t, Block m y t ∧ Sub s t := by
  obtain ⟨h1, h2⟩ := h.ext_clique hs hc m.n (Nat.le_refl _)
  refine ⟨extC m y s m.n, ⟨h2, fun x hx => ⟨fun g a ha ga => h1 x a hx ha g ga, fun g => ?_⟩⟩, extC_mono m y s (Nat.zero_le _)⟩
  have hn : nbB m y (extC m y s x) x = true := nb_iff.2 fun a ha ga => g a ha (extC_mono m y s (by omega) a ga)
  refine extC_mono m y s (k := x + 1) (by omega) x ?_
  show (if _ then _ else _ : Nat).testBit x = true
  rw [if_pos hn, Nat.testBit_or, (pow_bit x x).2 rfl, Bool.or_true]
theorem Block.clique {s : Nat} (h : Block m y s) : Clique m y s := fun a b ha hb ga gb => (h.iff a ha).1 ga b hb gb
theorem Ortho.block_no (h : Ortho m z y o) {s : Nat} (hb : Block m y s) : s.testBit o = true := (hb.iff o h.ho).2 fun _ ha _ => h.adj_no ha
theorem Ortho.block_pos (h : Ortho m z y o) {s : Nat} (hb : Block m y s) : 1 ≤ s := by
  have := h.block_no hb
  rcases Nat.eq_zero_or_pos s with e | e
  · rw [e] at this; simp at this
  · exact e
theorem Ortho.one_clique (h : Ortho m z y o) {a : Nat} : Clique m y (2 ^ a) := fun b d hb _ gb gd => by
  rw [pow_bit] at gb gd
  subst gb; subst gd; exact h.adj_self hb
/-- All blocks together are all answers. -/
theorem Ortho.cover (h : Ortho m z y o) {a : Nat} (ha : a < m.n) : ∃ t, Block m y t ∧ t.testBit a = true := by
  obtain ⟨t, h1, h2⟩ := h.in_block (Nat.pow_lt_pow_right (by omega) ha) h.one_clique
  exact ⟨t, h1, h2 a ((pow_bit a a).2 rfl)⟩
/-- What all blocks have in common is the centre. -/
theorem Ortho.common (h : Ortho m z y o) {a : Nat} (ha : a < m.n) : (∀ t, Block m y t → t.testBit a = true) ↔ midB m y a = true := by
  constructor
  · intro g
    refine allB_true fun b hb => ?_
    obtain ⟨t, h1, h2⟩ := h.cover hb
    exact h1.clique a b ha hb (g t h1) h2
  · intro g t ht
    exact (ht.iff a ha).2 fun b hb _ => allB_is g b hb
/-- A set agrees exactly if it is within a block. -/
theorem Ortho.clique_iff (h : Ortho m z y o) {s : Nat} (hs : s < 2 ^ m.n) : Clique m y s ↔ ∃ t, Block m y t ∧ Sub s t :=
  ⟨fun g => h.in_block hs g, fun ⟨_, h1, h2⟩ a b ha hb ga gb => h1.clique a b ha hb (h2 a ga) (h2 b gb)⟩
theorem Ortho.adj_keeps (h : Ortho m z y o) (hk : keepsB m y = true) {a b : Nat} (ha : a < m.n) (hb : b < m.n) : adjB m y a b = true ↔ h.ol.Ag ⟨a, ha⟩ ⟨b, hb⟩ := by
  unfold adjB
  rw [Bool.and_eq_true, h.ag_iff ha hb, h.ag_iff hb ha]
  exact ⟨fun g => g.1, fun g => ⟨g, (h.keeps_iff.1 hk).ag g⟩⟩
/-- Where the law is kept, blocks are parts. -/
theorem Ortho.block_closed (h : Ortho m z y o) (hk : keepsB m y = true) {s : Nat} (hb : Block m y s) : Closed m y s := by
  have hK := h.keeps_iff.1 hk
  refine ⟨fun a b ha hbn ga gb => ?_, fun a ha ga => ?_⟩
  · have hm := (h.mG ha hbn).lt
    refine (hb.iff _ hm).2 fun d hd gd => ?_
    rw [adjB_comm]
    have e1 := (h.adj_keeps hk hd ha).1 (hb.clique d a hd ha gd ga)
    have e2 := (h.adj_keeps hk hd hbn).1 (hb.clique d b hd hbn gd gb)
    have e3 : h.ol.Ag ⟨d, hd⟩ (h.ol.m ⟨a, ha⟩ ⟨b, hbn⟩) := hK.ag_meet e1 e2
    exact (h.adj_keeps hk hd hm).2 e3
  · have hl := h.lt a ha
    refine (hb.iff _ hl).2 fun d hd gd => ?_
    rw [adjB_comm]
    have e1 := (h.adj_keeps hk hd ha).1 (hb.clique d a hd ha gd ga)
    have e3 : h.ol.Ag ⟨d, hd⟩ (h.ol.c ⟨a, ha⟩) := e1.c
    exact (h.adj_keeps hk hd hl).2 e3
theorem Ortho.block_not (h : Ortho m z y o) (hk : keepsB m y = true) {s : Nat} (hb : Block m y s) {a : Nat} (ha : a < m.n) : s.testBit (y a) = s.testBit a := by
  have hc := h.block_closed hk hb
  rw [Bool.eq_iff_iff]
  exact ⟨fun g => by have := hc.not _ (h.lt a ha) g; rw [h.inv a ha] at this; exact this, hc.not a ha⟩
/-- Where the law is kept, each three answers of a block may be taken apart. -/
theorem Ortho.block_split (h : Ortho m z y o) (hk : keepsB m y = true) {s : Nat} (hb : Block m y s) {a b d : Nat} (ha : a < m.n) (hbn : b < m.n) (hd : d < m.n) (ga : s.testBit a = true) (gb : s.testBit b = true) (gd : s.testBit d = true) : splitB m a b d = true :=
  (h.fh hk ha hbn hd (by have := hb.clique a b ha hbn ga gb; unfold adjB at this; rw [Bool.and_eq_true] at this; exact this.1) (by have := hb.clique a d ha hd ga gd; unfold adjB at this; rw [Bool.and_eq_true] at this; exact this.1)).1

/-! ### Each three answers may be taken apart -/
def boolB (m : Mx) : Bool := allB m.n fun a => allB m.n fun b => allB m.n fun d => splitB m a b d
theorem bool_iff {m : Mx} : boolB m = true ↔ ∀ a b d, a < m.n → b < m.n → d < m.n → splitB m a b d = true :=
  ⟨fun h a b d ha hb hd => allB_is (allB_is (allB_is h a ha) b hb) d hd, fun h => allB_true fun a ha => allB_true fun b hb => allB_true fun d hd => h a b d ha hb hd⟩
theorem Ortho.bool_dist (h : Ortho m z y o) : boolB m = true ↔ h.ol.Dist := by
  rw [bool_iff]
  constructor
  · intro e a b d
    exact Fin.ext (of_decide_eq_true (e a b d a.2 b.2 d.2))
  · intro e a b d ha hb hd
    exact decide_eq_true (congrArg Fin.val (e ⟨a, ha⟩ ⟨b, hb⟩ ⟨d, hd⟩))
/-- The block of all answers. -/
theorem full_bits {n a : Nat} : (2 ^ n - 1).testBit a = decide (a < n) := Nat.testBit_two_pow_sub_one n a
theorem Ortho.bool_keeps (h : Ortho m z y o) (hb : boolB m = true) : keepsB m y = true := h.keeps_iff.2 (h.bool_dist.1 hb).keeps
theorem Ortho.bool_adj (h : Ortho m z y o) (hb : boolB m = true) {a b : Nat} (ha : a < m.n) (hbn : b < m.n) : adjB m y a b = true :=
  (h.adj_keeps (h.bool_keeps hb) ha hbn).2 ((h.bool_dist.1 hb).ag _ _)
/-- Where each three may be taken apart, the only block is that of all. -/
theorem Ortho.bool_block (h : Ortho m z y o) (hb : boolB m = true) {s : Nat} : Block m y s ↔ s = 2 ^ m.n - 1 := by
  have hp : 1 ≤ 2 ^ m.n := Nat.one_le_two_pow
  constructor
  · intro g
    refine Nat.eq_of_testBit_eq fun i => ?_
    rw [full_bits]
    by_cases hi : i < m.n
    · rw [(g.iff i hi).2 fun a ha _ => h.bool_adj hb hi ha]; simp [hi]
    · cases e : s.testBit i with
      | true => exact absurd (bit_under g.lt e) hi
      | false => simp [hi]
  · rintro rfl
    refine ⟨by omega, fun x hx => ⟨fun _ a ha _ => h.bool_adj hb hx ha, fun _ => by rw [full_bits]; simp [hx]⟩⟩
/-- Where the law is kept and there is one block, each three may be taken apart. -/
theorem Ortho.one_bool (h : Ortho m z y o) (hk : keepsB m y = true) {t : Nat} (h1 : ∀ s, Block m y s → s = t) : boolB m = true := by
  have hall : ∀ a, a < m.n → ∃ s, Block m y s ∧ s = t ∧ t.testBit a = true := fun a ha => by
    obtain ⟨s, hs, ga⟩ := h.cover ha
    have e := h1 s hs
    subst e
    exact ⟨s, hs, rfl, ga⟩
  refine bool_iff.2 fun a b d ha hb hd => ?_
  obtain ⟨s, hs, e, ga⟩ := hall a ha
  obtain ⟨_, _, _, gb⟩ := hall b hb
  obtain ⟨_, _, _, gd⟩ := hall d hd
  rw [e] at hs
  exact h.block_split hk hs ha hb hd ga gb gd
/-! ### The numbers that pass a test, in ascending order -/
def listTo (p : Nat → Bool) : Nat → List Int
  | 0 => []
  | k + 1 => if p k = true then listTo p k ++ [(k : Int)] else listTo p k
theorem listTo_yes {p : Nat → Bool} {k : Nat} (h : p k = true) : listTo p (k + 1) = listTo p k ++ [(k : Int)] := if_pos h
theorem listTo_no {p : Nat → Bool} {k : Nat} (h : p k = false) : listTo p (k + 1) = listTo p k := if_neg (by rw [h]; exact Bool.false_ne_true)
theorem listTo_len (p : Nat → Bool) (k : Nat) : (listTo p k).length ≤ k := by
  induction k with
  | zero => exact Nat.le_refl _
  | succ k ih =>
    cases h : p k with
    | true => rw [listTo_yes h, List.length_append]; simp; omega
    | false => rw [listTo_no h]; omega
theorem listTo_in {p : Nat → Bool} {k : Nat} {x : Int} (hx : x ∈ listTo p k) : ∃ c : Nat, x = (c : Int) ∧ c < k ∧ p c = true := by
  induction k with
  | zero => cases hx
  | succ k ih =>
    cases hk : p k with
    | true =>
      rw [listTo_yes hk] at hx
      rcases List.mem_append.1 hx with h | h
      · obtain ⟨c, e, h1, h2⟩ := ih h
        exact ⟨c, e, by omega, h2⟩
      · exact ⟨k, by simpa using h, by omega, hk⟩
    | false =>
      rw [listTo_no hk] at hx
      obtain ⟨c, e, h1, h2⟩ := ih hx
      exact ⟨c, e, by omega, h2⟩
theorem listTo_has {p : Nat → Bool} {k c : Nat} (hc : c < k) (h : p c = true) : (c : Int) ∈ listTo p k := by
  induction k with
  | zero => omega
  | succ k ih =>
    by_cases e : c = k
    · subst e; rw [listTo_yes h]; simp
    · have := ih (by omega)
      cases hk : p k with
      | true => rw [listTo_yes hk]; exact List.mem_append_left _ this
      | false => rw [listTo_no hk]; exact this
theorem listTo_up (p : Nat → Bool) (k : Nat) : (listTo p k).Pairwise (· < ·) := by
  induction k with
  | zero => exact List.Pairwise.nil
  | succ k ih =>
    cases hk : p k with
    | true =>
      rw [listTo_yes hk, List.pairwise_append]
      refine ⟨ih, List.pairwise_singleton _ _, fun a ha b hb => ?_⟩
      obtain ⟨c, rfl, h1, _⟩ := listTo_in ha
      have : b = (k : Int) := by simpa using hb
      omega
    | false => rw [listTo_no hk]; exact ih
theorem listTo_one {p : Nat → Bool} {k t : Nat} (ht : t < k) (h : ∀ s, s < k → (p s = true ↔ s = t)) : listTo p k = [(t : Int)] := by
  have none : ∀ j, j ≤ t → listTo p j = [] := fun j hj => by
    induction j with
    | zero => rfl
    | succ j ih =>
      have : p j = false := by
        cases e : p j with
        | false => rfl
        | true => have := (h j (by omega)).1 e; omega
      rw [listTo_no this]; exact ih (by omega)
  have some : ∀ j, t < j → j ≤ k → listTo p j = [(t : Int)] := fun j => by
    induction j with
    | zero => intro h0; omega
    | succ j ih =>
      intro h1 h2
      by_cases e : j = t
      · subst e; rw [listTo_yes ((h j ht).2 rfl), none j (Nat.le_refl _)]; rfl
      · have : p j = false := by
          cases e2 : p j with
          | false => rfl
          | true => have := (h j (by omega)).1 e2; omega
        rw [listTo_no this]; exact ih (by omega) (by omega)
  exact some k ht (Nat.le_refl _)
theorem listTo_single {p : Nat → Bool} {k : Nat} (h : (listTo p k).length = 1) : ∃ t, t < k ∧ p t = true ∧ ∀ s, s < k → p s = true → s = t := by
  obtain ⟨x, hx⟩ : ∃ x, listTo p k = [x] := by
    match hl : listTo p k with
    | [] => rw [hl] at h; simp at h
    | [x] => exact ⟨x, rfl⟩
    | x :: x' :: r => rw [hl] at h; simp at h
  obtain ⟨t, rfl, h1, h2⟩ := listTo_in (p := p) (k := k) (x := x) (by rw [hx]; simp)
  refine ⟨t, h1, h2, fun s hs hp => ?_⟩
  have := listTo_has hs hp
  rw [hx] at this
  have e : (s : Int) = (t : Int) := by simpa using this
  omega

/-! ### Blocks in a list -/
def blockL (m : Mx) (y : Nat → Nat) : List Int := listTo (blockB m y) (2 ^ m.n)
theorem blockL_in {x : Int} (h : x ∈ blockL m y) : ∃ s : Nat, x = (s : Int) ∧ Block m y s := by
  obtain ⟨c, e, h1, h2⟩ := listTo_in h
  exact ⟨c, e, (block_iff h1).1 h2⟩
theorem blockL_has {s : Nat} (h : Block m y s) : (s : Int) ∈ blockL m y := listTo_has h.lt ((block_iff h.lt).2 h)
theorem Ortho.bool_one (h : Ortho m z y o) : boolB m = (keepsB m y && decide ((blockL m y).length = 1)) := by
  have hp : 1 ≤ 2 ^ m.n := Nat.one_le_two_pow
  rw [Bool.eq_iff_iff, Bool.and_eq_true, decide_eq_true_iff]
  constructor
  · intro hb
    refine ⟨h.bool_keeps hb, ?_⟩
    have e : blockL m y = [((2 ^ m.n - 1 : Nat) : Int)] := listTo_one (by omega) fun s hs => (block_iff hs).trans (h.bool_block hb)
    rw [e]; rfl
  · rintro ⟨hk, h1⟩
    obtain ⟨t, ht, _, hu⟩ := listTo_single h1
    exact h.one_bool hk (t := t) fun s hs => hu s hs.lt ((block_iff hs.lt).2 hs)
/-- In how many of the sets an answer is. -/
def withN (xs : List Int) (a : Nat) : Nat := (xs.map fun s => if s.toNat.testBit a = true then 1 else 0).sum
theorem withN_congr {xs : List Int} {a b : Nat} (h : ∀ x ∈ xs, x.toNat.testBit a = x.toNat.testBit b) : withN xs a = withN xs b := by
  unfold withN
  congr 1
  exact List.map_congr_left fun x hx => by rw [h x hx]
theorem withN_all {xs : List Int} {a : Nat} (h : ∀ x ∈ xs, x.toNat.testBit a = true) : withN xs a = xs.length := by
  induction xs with
  | nil => rfl
  | cons x r ih =>
    have e : withN (x :: r) a = 1 + withN r a := by
      unfold withN
      rw [List.map_cons, List.sum_cons, if_pos (h x List.mem_cons_self)]
    rw [e, ih fun q hq => h q (List.mem_cons_of_mem _ hq), List.length_cons]
    omega
theorem withN_pos {xs : List Int} {a : Nat} {x : Int} (hx : x ∈ xs) (h : x.toNat.testBit a = true) : 1 ≤ withN xs a := by
  induction xs with
  | nil => cases hx
  | cons q r ih =>
    have e : withN (q :: r) a = (if q.toNat.testBit a = true then 1 else 0) + withN r a := by
      unfold withN
      rw [List.map_cons, List.sum_cons]
    rw [e]
    rcases List.mem_cons.1 hx with rfl | hr
    · rw [if_pos h]; omega
    · have := ih hr; omega
theorem withN_le (xs : List Int) (a : Nat) : withN xs a ≤ xs.length := by
  induction xs with
  | nil => exact Nat.le_refl _
  | cons q r ih =>
    have e : withN (q :: r) a = (if q.toNat.testBit a = true then 1 else 0) + withN r a := by
      unfold withN
      rw [List.map_cons, List.sum_cons]
    rw [e, List.length_cons]
    split <;> omega
theorem withN_snoc (xs : List Int) (x : Int) (a : Nat) : withN (xs ++ [x]) a = withN xs a + (if x.toNat.testBit a = true then 1 else 0) := by
  unfold withN
  simp
theorem Ortho.with_not (h : Ortho m z y o) (hk : keepsB m y = true) {a : Nat} (ha : a < m.n) : withN (blockL m y) (y a) = withN (blockL m y) a :=
  withN_congr fun x hx => by
    obtain ⟨s, rfl, hs⟩ := blockL_in hx
    rw [Int.toNat_natCast]
    exact h.block_not hk hs ha
theorem Ortho.with_no (h : Ortho m z y o) : withN (blockL m y) o = (blockL m y).length :=
  withN_all fun x hx => by
    obtain ⟨s, rfl, hs⟩ := blockL_in hx
    rw [Int.toNat_natCast]
    exact h.block_no hs
theorem Ortho.with_pos (h : Ortho m z y o) {a : Nat} (ha : a < m.n) : 1 ≤ withN (blockL m y) a := by
  obtain ⟨t, h1, h2⟩ := h.cover ha
  exact withN_pos (blockL_has h1) (by rw [Int.toNat_natCast]; exact h2)
end

/-! ### A block as a logic of its own -/
theorem part_join {n o k s : Nat} {Z : Nat → Nat → Int} {y q b : Nat → Nat} (h : LogicData n Z y o) (hs : Closed ⟨n, fun _ => n, Z⟩ y s) (ho : s.testBit o = true) (hp : Emb n k s q b) (hk : k ≤ 12) {i j : Nat} (hi : i < k) (hj : j < k) :
    q (jN ⟨k, fun _ => k, nameZ Z q⟩ i j) = jN ⟨n, fun _ => n, Z⟩ (q i) (q j) := by
  have hO := h.ortho
  have hP := (part_data h hs ho hp hk).ortho
  have hyy : ∀ j, j < k → partY y q b j < k ∧ q (partY y q b j) = y (q j) := fun j hj => by
    have h1 := hs.not _ (hp.lt j hj) (hp.has j hj)
    have h2 := h.lt _ (hp.lt j hj)
    exact ⟨hp.blt _ h2 h1, hp.qb _ h2 h1⟩
  have key : ∀ {m : Mx} {z : Nat → Int} {y : Nat → Nat} {o : Nat} (hO : Ortho m z y o) {a c : Nat}, a < m.n → c < m.n → jN m a c = y (mN m (y a) (y c)) := fun {m z y o} hO {a c} ha hc => by
    have e := congrArg Fin.val (congrArg hO.ol.c (OL.c_j (L := hO.ol) ⟨a, ha⟩ ⟨c, hc⟩))
    rw [OL.cc] at e
    exact e
  obtain ⟨i1, i2⟩ := hyy i hi
  obtain ⟨j1, j2⟩ := hyy j hj
  have hm : mN ⟨k, fun _ => k, nameZ Z q⟩ (partY y q b i) (partY y q b j) < k := (hP.mG (a := partY y q b i) (b := partY y q b j) i1 j1).lt
  rw [key hP (a := i) (c := j) hi hj, (hyy _ hm).2, part_meet h hs ho hp hk i1 j1, i2, j2, key hO (a := q i) (c := q j) (hp.lt i hi) (hp.lt j hj)]
theorem part_bool {n o k s : Nat} {Z : Nat → Nat → Int} {y q b : Nat → Nat} (h : LogicData n Z y o) (hs : Closed ⟨n, fun _ => n, Z⟩ y s) (ho : s.testBit o = true) (hp : Emb n k s q b) (hk : k ≤ 12)
    (hsp : ∀ a c d, a < n → c < n → d < n → s.testBit a = true → s.testBit c = true → s.testBit d = true → splitB ⟨n, fun _ => n, Z⟩ a c d = true) : boolB ⟨k, fun _ => k, nameZ Z q⟩ = true := by
  have hP := (part_data h hs ho hp hk).ortho
  refine bool_iff.2 fun i j l hi hj hl => decide_eq_true ?_
  have hi' : i < k := hi
  have hj' : j < k := hj
  have hl' : l < k := hl
  have hjl : jN ⟨k, fun _ => k, nameZ Z q⟩ j l < k := (hP.jG (a := j) (b := l) hj hl).lt
  have hij : mN ⟨k, fun _ => k, nameZ Z q⟩ i j < k := (hP.mG (a := i) (b := j) hi hj).lt
  have hil : mN ⟨k, fun _ => k, nameZ Z q⟩ i l < k := (hP.mG (a := i) (b := l) hi hl).lt
  have h1 : mN ⟨k, fun _ => k, nameZ Z q⟩ i (jN ⟨k, fun _ => k, nameZ Z q⟩ j l) < k := (hP.mG (a := i) (b := jN ⟨k, fun _ => k, nameZ Z q⟩ j l) hi hjl).lt
  have h2 : jN ⟨k, fun _ => k, nameZ Z q⟩ (mN ⟨k, fun _ => k, nameZ Z q⟩ i j) (mN ⟨k, fun _ => k, nameZ Z q⟩ i l) < k := (hP.jG (a := mN ⟨k, fun _ => k, nameZ Z q⟩ i j) (b := mN ⟨k, fun _ => k, nameZ Z q⟩ i l) hij hil).lt
  have e : q (mN ⟨k, fun _ => k, nameZ Z q⟩ i (jN ⟨k, fun _ => k, nameZ Z q⟩ j l)) = q (jN ⟨k, fun _ => k, nameZ Z q⟩ (mN ⟨k, fun _ => k, nameZ Z q⟩ i j) (mN ⟨k, fun _ => k, nameZ Z q⟩ i l)) := by
    rw [part_meet h hs ho hp hk hi' hjl, part_join h hs ho hp hk hj' hl', part_join h hs ho hp hk hij hil, part_meet h hs ho hp hk hi' hj', part_meet h hs ho hp hk hi' hl']
    exact of_decide_eq_true (hsp _ _ _ (hp.lt i hi') (hp.lt j hj') (hp.lt l hl') (hp.has i hi') (hp.has j hj') (hp.has l hl'))
  rw [← hp.bq _ h1, ← hp.bq _ h2, e]

/-! ### Two to the power of the atoms -/
/-- Different numbers below n go to different numbers below N: n is at most N. -/
theorem inj_le : ∀ (n N : Nat) (f : Nat → Nat), (∀ i, i < n → f i < N) → (∀ i j, i < n → j < n → f i = f j → i = j) → n ≤ N := by
  intro n
  induction n with
  | zero => intro N f _ _; exact Nat.zero_le _
  | succ n ih =>
    intro N f hf hi
    have hN : f n < N := hf n (Nat.lt_succ_self n)
    have := ih (N - 1) (fun i => if f i = N - 1 then f n else f i) (fun i hin => by
      have h1 := hf i (by omega)
      split
      · next e =>
        have : f n ≠ N - 1 := fun e2 => by have := hi i n (by omega) (by omega) (e.trans e2.symm); omega
        omega
      · omega) (fun i j hin hjn e => by
      have h1 : f i = f n → False := fun e2 => by have := hi i n (by omega) (by omega) e2; omega
      have h2 : f j = f n → False := fun e2 => by have := hi j n (by omega) (by omega) e2; omega
      split at e
      · next e1 =>
        split at e
        · next e2 => exact hi i j (by omega) (by omega) (e1.trans e2.symm)
        · exact absurd e.symm h2
      · split at e
        · exact absurd e h1
        · exact hi i j (by omega) (by omega) e)
    omega
/-- Bits set where a test holds, below a number. -/
def bitS (p : Nat → Bool) : Nat → Nat
  | 0 => 0
  | k + 1 => if p k = true then bitS p k + 2 ^ k else bitS p k
theorem bitS_is (p : Nat → Bool) (k : Nat) : bitS p k < 2 ^ k ∧ ∀ a, (bitS p k).testBit a = (decide (a < k) && p a) := by
  induction k with
  | zero => exact ⟨by show (0 : Nat) < 1; omega, fun a => by simp [bitS]⟩
  | succ k ih =>
    obtain ⟨h1, h2⟩ := ih
    have hp : 2 ^ (k + 1) = 2 ^ k + 2 ^ k := by rw [Nat.pow_succ]; omega
    cases hk : p k with
    | true =>
      have e : bitS p (k + 1) = bitS p k + 2 ^ k := by show (if _ then _ else _) = _; rw [if_pos hk]
      have e2 : bitS p k + 2 ^ k = 2 ^ k ||| bitS p k := by
        have h := Nat.two_pow_add_eq_or_of_lt h1 1
        rw [Nat.mul_one] at h
        rw [Nat.add_comm]; exact h
      refine ⟨by rw [e]; omega, fun a => ?_⟩
      rw [e, e2, Nat.testBit_or, Nat.testBit_two_pow, h2]
      by_cases ha : a = k
      · subst ha; simp [hk]
      · have : (k = a) = False := by simp; omega
        simp only [this, decide_false, Bool.false_or]
        rw [Bool.eq_iff_iff]
        simp only [Bool.and_eq_true, decide_eq_true_iff]
        constructor
        · rintro ⟨q1, q2⟩; exact ⟨by omega, q2⟩
        · rintro ⟨q1, q2⟩; exact ⟨by omega, q2⟩
    | false =>
      have e : bitS p (k + 1) = bitS p k := by show (if _ then _ else _) = _; rw [if_neg (by rw [hk]; exact Bool.false_ne_true)]
      refine ⟨by rw [e]; omega, fun a => ?_⟩
      rw [e, h2]
      by_cases ha : a = k
      · subst ha; simp [hk]
      · rw [Bool.eq_iff_iff]
        simp only [Bool.and_eq_true, decide_eq_true_iff]
        constructor
        · rintro ⟨q1, q2⟩; exact ⟨by omega, q2⟩
        · rintro ⟨q1, q2⟩; exact ⟨by omega, q2⟩
section
variable {m : Mx} {z : Nat → Int} {y : Nat → Nat} {o : Nat}
theorem OL.Dist.le_of {α : Type} {L : OL α} (h : L.Dist) {x t : α} (e : L.m x (L.c t) = L.o) : L.le x t := by
  have e1 := h x t (L.c t)
  rw [OL.j_c, OL.m_le (OL.top x), e, OL.j_le' (L.low _)] at e1
  rw [e1]
  exact L.mr x t
theorem atomY_lt {m : Mx} {i j : Nat} (h : i < j) (hj : j < (atomsTo m m.n).length) : atomY m i < atomY m j := by
  induction j with
  | zero => omega
  | succ j ih =>
    have h1 := atomY_up (m := m) hj
    by_cases e : i = j
    · rw [e]; exact h1
    · exact Nat.lt_trans (ih (by omega) (by omega)) h1
theorem atomY_inj {m : Mx} {i j : Nat} (hi : i < (atomsTo m m.n).length) (hj : j < (atomsTo m m.n).length) (e : atomY m i = atomY m j) : i = j := by
  rcases Nat.lt_trichotomy i j with h | h | h
  · have := atomY_lt h hj; omega
  · exact h
  · have := atomY_lt h hi; omega
def maskA (m : Mx) (x : Nat) : Nat := bitS (fun j => leB m (atomY m j) x) (atomsTo m m.n).length
def joinAs (m : Mx) (o T : Nat) : Nat → Nat
  | 0 => o
  | j + 1 => if T.testBit j = true then jN m (joinAs m o T j) (atomY m j) else joinAs m o T j
theorem Ortho.joinAs_lt (h : Ortho m z y o) (T : Nat) : ∀ j, j ≤ (atomsTo m m.n).length → joinAs m o T j < m.n := by
  intro j
  induction j with
  | zero => intro _; exact h.ho
  | succ j ih =>
    intro hj
    show (if _ then _ else _ : Nat) < _
    split
    · exact (h.jG (ih (by omega)) (atomY_is (by omega)).1).lt
    · exact ih (by omega)
theorem Ortho.joinAs_bit (h : Ortho m z y o) (hb : boolB m = true) (T : Nat) {i : Nat} (hi : i < (atomsTo m m.n).length) : ∀ j, j ≤ (atomsTo m m.n).length → (leB m (atomY m i) (joinAs m o T j) = true ↔ i < j ∧ T.testBit i = true) := by
  have hord := h.lat.order
  obtain ⟨pn, p2⟩ := atomY_is hi
  have po : atomY m i ≠ o := atom_not hord h.ho h.least p2
  have hD := h.bool_dist.1 hb
  have low : ∀ x, x < m.n → m.Z x o = 1 → x = o := fun x hx e => le_eq hord hx h.ho e (h.least x hx)
  intro j
  induction j with
  | zero =>
    intro _
    constructor
    · intro e
      exact absurd (low _ pn (leB_is e)) po
    · rintro ⟨h1, _⟩; omega
  | succ j ih =>
    intro hj
    have ih' := ih (by omega)
    have ha := h.joinAs_lt T j (by omega)
    obtain ⟨qn, q2⟩ := atomY_is (m := m) (j := j) (by omega)
    cases hT : T.testBit j with
    | false =>
      have e : joinAs m o T (j + 1) = joinAs m o T j := by show (if _ then _ else _) = _; rw [hT]; rfl
      rw [e, ih']
      constructor
      · rintro ⟨h1, h2⟩; exact ⟨by omega, h2⟩
      · rintro ⟨h1, h2⟩
        refine ⟨?_, h2⟩
        by_cases e2 : i = j
        · subst e2; rw [hT] at h2; cases h2
        · omega
    | true =>
      have e : joinAs m o T (j + 1) = jN m (joinAs m o T j) (atomY m j) := by show (if _ then _ else _) = _; rw [if_pos hT]
      rw [e]
      have hjn := (h.jG ha qn).lt
      constructor
      · intro g
        have g1 : h.ol.le ⟨atomY m i, pn⟩ (h.ol.j ⟨joinAs m o T j, ha⟩ ⟨atomY m j, qn⟩) := leB_is g
        have g2 := hD ⟨atomY m i, pn⟩ ⟨joinAs m o T j, ha⟩ ⟨atomY m j, qn⟩
        rw [OL.m_le g1] at g2
        have w1 : (h.ol.m ⟨atomY m i, pn⟩ ⟨joinAs m o T j, ha⟩).val = o ∨ (h.ol.m ⟨atomY m i, pn⟩ ⟨joinAs m o T j, ha⟩).val = atomY m i :=
          atom_below hord h.ho h.least pn p2 (h.ol.m _ _).2 (h.ol.ml _ _)
        have w2 : (h.ol.m ⟨atomY m i, pn⟩ ⟨atomY m j, qn⟩).val = o ∨ (h.ol.m ⟨atomY m i, pn⟩ ⟨atomY m j, qn⟩).val = atomY m i :=
          atom_below hord h.ho h.least pn p2 (h.ol.m _ _).2 (h.ol.ml _ _)
        rcases w1 with w1 | w1
        · rcases w2 with w2 | w2
          · exfalso
            have e1 : h.ol.m ⟨atomY m i, pn⟩ ⟨joinAs m o T j, ha⟩ = h.ol.o := Fin.ext w1
            have e2 : h.ol.m ⟨atomY m i, pn⟩ ⟨atomY m j, qn⟩ = h.ol.o := Fin.ext w2
            rw [e1, e2, OL.j_le (h.ol.refl _)] at g2
            exact po (congrArg Fin.val g2)
          · have hq : m.Z (atomY m i) (atomY m j) = 1 := by
              have := h.ol.mr ⟨atomY m i, pn⟩ ⟨atomY m j, qn⟩
              have e2 : h.ol.m ⟨atomY m i, pn⟩ ⟨atomY m j, qn⟩ = ⟨atomY m i, pn⟩ := Fin.ext w2
              rw [e2] at this
              exact this
            rcases atom_below hord h.ho h.least qn q2 pn hq with e3 | e3
            · exact absurd e3 po
            · have := atomY_inj hi (by omega) e3
              subst this
              exact ⟨by omega, hT⟩
        · have hq : m.Z (atomY m i) (joinAs m o T j) = 1 := by
            have := h.ol.mr ⟨atomY m i, pn⟩ ⟨joinAs m o T j, ha⟩
            have e2 : h.ol.m ⟨atomY m i, pn⟩ ⟨joinAs m o T j, ha⟩ = ⟨atomY m i, pn⟩ := Fin.ext w1
            rw [e2] at this
            exact this
          obtain ⟨h1, h2⟩ := ih'.1 (leB_mk hq)
          exact ⟨by omega, h2⟩
      · rintro ⟨h1, h2⟩
        by_cases e2 : i = j
        · subst e2
          exact leB_mk (h.jG ha qn).r
        · have := leB_is (ih'.2 ⟨by omega, h2⟩)
          exact leB_mk (hord.trans _ _ _ pn ha hjn this (h.jG ha qn).l)
/-- Where each three answers may be taken apart, there are as many as 2 to the power of the atoms. -/
theorem Ortho.bool_count (h : Ortho m z y o) (hb : boolB m = true) : m.n = 2 ^ (atomsTo m m.n).length := by
  have hord := h.lat.order
  have hD := h.bool_dist.1 hb
  have low : ∀ x, x < m.n → m.Z x o = 1 → x = o := fun x hx e => le_eq hord hx h.ho e (h.least x hx)
  have mb : ∀ x j, (maskA m x).testBit j = (decide (j < (atomsTo m m.n).length) && leB m (atomY m j) x) := fun x j => (bitS_is _ _).2 j
  have mle : ∀ x t, x < m.n → t < m.n → maskA m x = maskA m t → m.Z x t = 1 := fun x t hx ht e => by
    have g : h.ol.le ⟨x, hx⟩ ⟨t, ht⟩ := hD.le_of <| by
      apply Classical.byContradiction
      intro hne
      have hlt := (h.ol.m ⟨x, hx⟩ (h.ol.c ⟨t, ht⟩)).2
      obtain ⟨p, hp, p2, pz⟩ := atom_under hord h.ho h.least (countI m (h.ol.m ⟨x, hx⟩ (h.ol.c ⟨t, ht⟩)).val).toNat _ hlt (fun e => hne (Fin.ext e)) (by omega)
      have px : h.ol.le ⟨p, hp⟩ ⟨x, hx⟩ := h.ol.trans (b := h.ol.m ⟨x, hx⟩ (h.ol.c ⟨t, ht⟩)) pz (h.ol.ml _ _)
      have pt : h.ol.le ⟨p, hp⟩ (h.ol.c ⟨t, ht⟩) := h.ol.trans (b := h.ol.m ⟨x, hx⟩ (h.ol.c ⟨t, ht⟩)) pz (h.ol.mr _ _)
      obtain ⟨j, hj, ej⟩ := atomY_all hp p2
      have b1 : (maskA m x).testBit j = true := by rw [mb, ej, leB_mk (show m.Z p x = 1 from px)]; simp [hj]
      rw [e, mb, ej, Bool.and_eq_true] at b1
      have pt' : h.ol.le ⟨p, hp⟩ ⟨t, ht⟩ := leB_is b1.2
      have := low p hp (OL.zero pt' pt)
      exact atom_not hord h.ho h.least p2 this
    exact g
  have h1 : m.n ≤ 2 ^ (atomsTo m m.n).length := inj_le _ _ (maskA m) (fun x _ => (bitS_is _ _).1) fun x t hx ht e => le_eq hord hx ht (mle x t hx ht e) (mle t x ht hx e.symm)
  have hK : ∀ T, joinAs m o T (atomsTo m m.n).length < m.n := fun T => h.joinAs_lt T _ (Nat.le_refl _)
  have back : ∀ T, T < 2 ^ (atomsTo m m.n).length → maskA m (joinAs m o T (atomsTo m m.n).length) = T := fun T hT => Nat.eq_of_testBit_eq fun i => by
    rw [mb]
    by_cases hi : i < (atomsTo m m.n).length
    · rw [Bool.eq_iff_iff, Bool.and_eq_true, h.joinAs_bit hb T hi _ (Nat.le_refl _), decide_eq_true_iff]
      exact ⟨fun g => g.2.2, fun g => ⟨hi, hi, g⟩⟩
    · cases e : T.testBit i with
      | true => exact absurd (bit_lt hT e) hi
      | false => simp [hi]
  have h2 : 2 ^ (atomsTo m m.n).length ≤ m.n := inj_le _ _ (fun T => joinAs m o T (atomsTo m m.n).length) (fun T _ => hK T) fun T U hT hU e => by
    rw [← back T hT, ← back U hU]
    exact congrArg (maskA m) e
  omega
end
end Go.Proofs.YtjofkejfldmmlaaDoor
