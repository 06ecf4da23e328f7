import Derived.Test.YtnbglbhfclohjaaDoorZMath
import Derived.Test.YtnbglbhfclohjaaDoorZBb
namespace Go.Proofs.YtnbglbhfclohjaaDoor

namespace OL
variable {α : Type} {L : OL α}
theorem Keeps.ag_join {a b d : α} (hk : L.Keeps) (h1 : L.Ag b a) (h2 : L.Ag b d) : L.Ag b (L.j a d) := by
  refine hk.ag ?_
  have e1 := hk.fh h1 h2
  have e2 := hk.fh (hk.not h1) (hk.not h2)
  have a1 := hk.ag h1
  have a2 := hk.ag h2
  unfold Ag at *
  rw [m_comm (L.j a d) b, m_comm (L.j a d) (L.c b), e1, e2]
  refine L.anti (j4 (L.trans (L.mr _ _) (L.jl _ _)) (L.trans (L.mr _ _) (L.jr _ _)) (L.trans (L.mr _ _) (L.jl _ _)) (L.trans (L.mr _ _) (L.jr _ _))) (L.jg ?_ ?_)
  · have g : L.le (L.j (L.m a b) (L.m a (L.c b))) (L.j (L.j (L.m b a) (L.m b d)) (L.j (L.m (L.c b) a) (L.m (L.c b) d))) := by
      rw [m_comm a b, m_comm a (L.c b)]
      exact L.jg (L.trans (L.jl _ _) (L.jl _ _)) (L.trans (L.jl _ _) (L.jr _ _))
    rw [a1] at g
    exact g
  · have g : L.le (L.j (L.m d b) (L.m d (L.c b))) (L.j (L.j (L.m b a) (L.m b d)) (L.j (L.m (L.c b) a) (L.m (L.c b) d))) := by
      rw [m_comm d b, m_comm d (L.c b)]
      exact L.jg (L.trans (L.jr _ _) (L.jl _ _)) (L.trans (L.jr _ _) (L.jr _ _))
    rw [a2] at g
    exact g
theorem Keeps.ag_meet {a b d : α} (hk : L.Keeps) (h1 : L.Ag b a) (h2 : L.Ag b d) : L.Ag b (L.m a d) := by
  have h := (hk.ag_join h1.c h2.c).c
  rw [c_j, L.cc, L.cc] at h
  exact h
/-- Each three answers may be taken apart. -/
def Dist (L : OL α) : Prop := ∀ a b d, L.m a (L.j b d) = L.j (L.m a b) (L.m a d)
theorem Dist.ag (h : L.Dist) (a b : α) : L.Ag a b := by
  unfold Ag
  rw [← h, j_c]
  exact m_le (top a)
theorem Dist.keeps (h : L.Dist) : L.Keeps := keeps_of fun _ _ _ => h.ag _ _
end OL

/-- Two answers agree both ways. -/
def adjB (m : Mx) (y : Nat → Nat) (a b : Nat) : Bool := agB m y a b && agB m y b a
theorem adjB_comm (m : Mx) (y : Nat → Nat) (a b : Nat) : adjB m y a b = adjB m y b a := by unfold adjB; rw [Bool.and_comm]
/-- It agrees with all of the set. -/
def nbB (m : Mx) (y : Nat → Nat) (s x : Nat) : Bool := allB m.n fun a => !s.testBit a || adjB m y x a
/-- The set is just what agrees with all of it. -/
def blockB (m : Mx) (y : Nat → Nat) (s : Nat) : Bool := allB m.n fun x => s.testBit x == nbB m y s x
theorem nb_iff {m : Mx} {y : Nat → Nat} {s x : Nat} : nbB m y s x = true ↔ ∀ a, a < m.n → s.testBit a = true → adjB m y x a = true := by
  constructor
  · intro h a ha hs
    have := allB_is h a ha
    rw [hs] at this
    simpa using this
  · intro h
    refine allB_true fun a ha => ?_
    cases hs : s.testBit a with
    | false => rfl
    | true => rw [h a ha hs]; rfl
def Clique (m : Mx) (y : Nat → Nat) (s : Nat) : Prop := ∀ a b, a < m.n → b < m.n → s.testBit a = true → s.testBit b = true → adjB m y a b = true
structure Block (m : Mx) (y : Nat → Nat) (s : Nat) : Prop where
  lt : s < 2 ^ m.n
  iff : ∀ x, x < m.n → (s.testBit x = true ↔ ∀ a, a < m.n → s.testBit a = true → adjB m y x a = true)
theorem block_iff {m : Mx} {y : Nat → Nat} {s : Nat} (hs : s < 2 ^ m.n) : blockB m y s = true ↔ Block m y s := by
  constructor
  · intro h
    refine ⟨hs, fun x hx => ?_⟩
    have e := allB_is h x hx
    rw [beq_iff_eq] at e
    rw [e]
    exact nb_iff
  · intro h
    refine allB_true fun x hx => ?_
    rw [beq_iff_eq, Bool.eq_iff_iff, h.iff x hx]
    exact nb_iff.symm
/-- A bit of a number stands below its bound. -/
theorem bit_under {s n a : Nat} (hs : s < 2 ^ n) (h : s.testBit a = true) : a < n := by
  apply Classical.byContradiction
  intro hn
  have h2 : 2 ^ n ≤ 2 ^ a := Nat.pow_le_pow_right (by omega) (by omega)
  have := Nat.testBit_lt_two_pow (x := s) (i := a) (by omega)
  rw [h] at this
  exact Bool.false_ne_true this.symm
section
variable {m : Mx} {z : Nat → Int} {y : Nat → Nat} {o : Nat}
theorem Ortho.adj_self (h : Ortho m z y o) {a : Nat} (ha : a < m.n) : adjB m y a a = true := by
  unfold adjB
  rw [(h.ag_facts ha ha).1]; rfl
theorem Ortho.adj_no (h : Ortho m z y o) {a : Nat} (ha : a < m.n) : adjB m y o a = true := by
  have := allB_is h.mid_ends.1 a ha
  exact this
/-- A set of answers that agree, made larger one answer after the other. -/
def extC (m : Mx) (y : Nat → Nat) (s : Nat) : Nat → Nat
  | 0 => s
  | k + 1 => if nbB m y (extC m y s k) k = true then extC m y s k ||| 2 ^ k else extC m y s k
theorem extC_mono (m : Mx) (y : Nat → Nat) (s : Nat) {k j : Nat} (h : k ≤ j) : Sub (extC m y s k) (extC m y s j) := by
  induction j with
  | zero => have : k = 0 := by omega
            subst this; exact Sub.refl _
  | succ j ih =>
    by_cases e : k = j + 1
    · subst e; exact Sub.refl _
    · refine (ih (by omega)).trans ?_
      show Sub _ (if _ then _ else _)
      split
      · intro a ha; rw [Nat.testBit_or, ha]; rfl
      · exact Sub.refl _
theorem pow_bit (a b : Nat) : (2 ^ a).testBit b = true ↔ a = b := by rw [Nat.testBit_two_pow, decide_eq_true_iff]
theorem Ortho.ext_clique (h : Ortho m z y o) {s : Nat} (hs : s < 2 ^ m.n) (hc : Clique m y s) (k : Nat) (hk : k ≤ m.n) : Clique m y (extC m y s k) ∧ extC m y s k < 2 ^ m.n := by
  induction k with
  | zero => exact ⟨hc, hs⟩
  | succ k ih =>
    obtain ⟨h1, h2⟩ := ih (by omega)
    by_cases hn : nbB m y (extC m y s k) k = true
    · have e : extC m y s (k + 1) = extC m y s k ||| 2 ^ k := by show (if _ then _ else _) = _; rw [if_pos hn]
      rw [e]
      have hnb := nb_iff.1 hn
      refine ⟨fun a b ha hb ga gb => ?_, Nat.or_lt_two_pow h2 (Nat.pow_lt_pow_right (by omega) (by omega))⟩
      rw [Nat.testBit_or, Bool.or_eq_true, pow_bit] at ga gb
      rcases ga with ga | ga
      · rcases gb with gb | gb
        · exact h1 a b ha hb ga gb
        · subst gb; rw [adjB_comm]; exact hnb a ha ga
      · subst ga
        rcases gb with gb | gb
        · exact hnb b hb gb
        · subst gb; exact h.adj_self ha
    · have e : extC m y s (k + 1) = extC m y s k := by show (if _ then _ else _) = _; rw [if_neg hn]
      rw [e]; exact ⟨h1, h2⟩
/-- Each set of answers that agree is within a block. -/
theorem Ortho.in_block (h : Ortho m z y o) {s : Nat} (hs : s < 2 ^ m.n) (hc : Clique m y s) : ∃ t, Block m y t ∧ Sub s t := by
  obtain ⟨h1, h2⟩ := h.ext_clique hs hc m.n (Nat.le_refl _)
  refine ⟨extC m y s m.n, ⟨h2, fun x hx => ⟨fun g a ha ga => h1 x a hx ha g ga, fun g => ?_⟩⟩, extC_mono m y s (Nat.zero_le _)⟩
  have hn : nbB m y (extC m y s x) x = true := nb_iff.2 fun a ha ga => g a ha (extC_mono m y s (by omega) a ga)
  refine extC_mono m y s (k := x + 1) (by omega) x ?_
  show (if _ then _ else _ : Nat).testBit x = true
  rw [if_pos hn, Nat.testBit_or, (pow_bit x x).2 rfl, Bool.or_true]
theorem Block.clique {s : Nat} (h : Block m y s) : Clique m y s := fun a b ha hb ga gb => (h.iff a ha).1 ga b hb gb
theorem Ortho.block_no (h : Ortho m z y o) {s : Nat} (hb : Block m y s) : s.testBit o = true := (hb.iff o h.ho).2 fun _ ha _ => h.adj_no ha
theorem Ortho.block_pos (h : Ortho m z y o) {s : Nat} (hb : Block m y s) : 1 ≤ s := by
  have := h.block_no hb
  rcases Nat.eq_zero_or_pos s with e | e
  · rw [e] at this; simp at this
  · exact e
theorem Ortho.one_clique (h : Ortho m z y o) {a : Nat} : Clique m y (2 ^ a) := fun b d hb _ gb gd => by
  rw [pow_bit] at gb gd
  subst gb; subst gd; exact h.adj_self hb
/-- All blocks together are all answers. -/
theorem Ortho.cover (h : Ortho m z y o) {a : Nat} (ha : a < m.n) : ∃ t, Block m y t ∧ t.testBit a = true := by
  obtain ⟨t, h1, h2⟩ := h.in_block (Nat.pow_lt_pow_right (by omega) ha) h.one_clique
  exact ⟨t, h1, h2 a ((pow_bit a a).2 rfl)⟩
theorem Ortho.adj_keeps (h : Ortho m z y o) (hk : keepsB m y = true) {a b : Nat} (ha : a < m.n) (hb : b < m.n) : adjB m y a b = true ↔ h.ol.Ag ⟨a, ha⟩ ⟨b, hb⟩ := by
  unfold adjB
  rw [Bool.and_eq_true, h.ag_iff ha hb, h.ag_iff hb ha]
  exact ⟨fun g => g.1, fun g => ⟨g, (h.keeps_iff.1 hk).ag g⟩⟩
/-- Where the law is kept, blocks are parts. -/
theorem Ortho.block_closed (h : Ortho m z y o) (hk : keepsB m y = true) {s : Nat} (hb : Block m y s) : Closed m y s := by
  have hK := h.keeps_iff.1 hk
  refine ⟨fun a b ha hbn ga gb => ?_, fun a ha ga => ?_⟩
  · have hm := (h.mG ha hbn).lt
    refine (hb.iff _ hm).2 fun d hd gd => ?_
    rw [adjB_comm]
    have e1 := (h.adj_keeps hk hd ha).1 (hb.clique d a hd ha gd ga)
    have e2 := (h.adj_keeps hk hd hbn).1 (hb.clique d b hd hbn gd gb)
    have e3 : h.ol.Ag ⟨d, hd⟩ (h.ol.m ⟨a, ha⟩ ⟨b, hbn⟩) := hK.ag_meet e1 e2
    exact (h.adj_keeps hk hd hm).2 e3
  · have hl := h.lt a ha
    refine (hb.iff _ hl).2 fun d hd gd => ?_
    rw [adjB_comm]
    have e1 := (h.adj_keeps hk hd ha).1 (hb.clique d a hd ha gd ga)
    have e3 : h.ol.Ag ⟨d, hd⟩ (h.ol.c ⟨a, ha⟩) := e1.c
    exact (h.adj_keeps hk hd hl).2 e3
theorem Ortho.block_not (h : Ortho m z y o) (hk : keepsB m y = true) {s : Nat} (hb : Block m y s) {a : Nat} (ha : a < m.n) : s.testBit (y a) = s.testBit a := by
  have hc := h.block_closed hk hb
  rw [Bool.eq_iff_iff]
  exact ⟨fun g => by have := hc.not _ (h.lt a ha) g; rw [h.inv a ha] at this; exact this, hc.not a ha⟩
/-- The block of all answers. -/
theorem full_bits {n a : Nat} : (2 ^ n - 1).testBit a = decide (a < n) := Nat.testBit_two_pow_sub_one n a
def listTo (p : Nat → Bool) : Nat → List Int
  | 0 => []
  | k + 1 => if p k = true then listTo p k ++ [(k : Int)] else listTo p k
theorem listTo_yes {p : Nat → Bool} {k : Nat} (h : p k = true) : listTo p (k + 1) = listTo p k ++ [(k : Int)] := if_pos h
theorem listTo_no {p : Nat → Bool} {k : Nat} (h : p k = false) : listTo p (k + 1) = listTo p k := if_neg (by rw [h]; exact Bool.false_ne_true)
theorem listTo_len (p : Nat → Bool) (k : Nat) : (listTo p k).length ≤ k := by
  induction k with
  | zero => exact Nat.le_refl _
  | succ k ih =>
    cases h : p k with
    | true => rw [listTo_yes h, List.length_append]; simp; omega
    | false => rw [listTo_no h]; omega
theorem listTo_in {p : Nat → Bool} {k : Nat} {x : Int} (hx : x ∈ listTo p k) : ∃ c : Nat, x = (c : Int) ∧ c < k ∧ p c = true := by
  induction k with
  | zero => cases hx
  | succ k ih =>
    cases hk : p k with
    | true =>
      rw [listTo_yes hk] at hx
      rcases List.mem_append.1 hx with h | h
      · obtain ⟨c, e, h1, h2⟩ := ih h
        exact ⟨c, e, by omega, h2⟩
      · exact ⟨k, by simpa using h, by omega, hk⟩
    | false =>
      rw [listTo_no hk] at hx
      obtain ⟨c, e, h1, h2⟩ := ih hx
      exact ⟨c, e, by omega, h2⟩
theorem listTo_has {p : Nat → Bool} {k c : Nat} (hc : c < k) (h : p c = true) : (c : Int) ∈ listTo p k := by
  induction k with
  | zero => omega
  | succ k ih =>
    by_cases e : c = k
    · subst e; rw [listTo_yes h]; simp
    · have := ih (by omega)
      cases hk : p k with
      | true => rw [listTo_yes hk]; exact List.mem_append_left _ this
      | false => rw [listTo_no hk]; exact this
theorem listTo_up (p : Nat → Bool) (k : Nat) : (listTo p k).Pairwise (· < ·) := by
  induction k with
  | zero => exact List.Pairwise.nil
  | succ k ih =>
    cases hk : p k with
    | true =>
      rw [listTo_yes hk, List.pairwise_append]
      refine ⟨ih, List.pairwise_singleton _ _, fun a ha b hb => ?_⟩
      obtain ⟨c, rfl, h1, _⟩ := listTo_in ha
      have : b = (k : Int) := by simpa using hb
      omega
    | false => rw [listTo_no hk]; exact ih
def blockL (m : Mx) (y : Nat → Nat) : List Int := listTo (blockB m y) (2 ^ m.n)
theorem blockL_in {x : Int} (h : x ∈ blockL m y) : ∃ s : Nat, x = (s : Int) ∧ Block m y s := by
  obtain ⟨c, e, h1, h2⟩ := listTo_in h
  exact ⟨c, e, (block_iff h1).1 h2⟩
theorem blockL_has {s : Nat} (h : Block m y s) : (s : Int) ∈ blockL m y := listTo_has h.lt ((block_iff h.lt).2 h)
/-- In how many of the sets an answer is. -/
def withN (xs : List Int) (a : Nat) : Nat := (xs.map fun s => if s.toNat.testBit a = true then 1 else 0).sum
theorem withN_congr {xs : List Int} {a b : Nat} (h : ∀ x ∈ xs, x.toNat.testBit a = x.toNat.testBit b) : withN xs a = withN xs b := by
  unfold withN
  congr 1
  exact List.map_congr_left fun x hx => by rw [h x hx]
theorem withN_all {xs : List Int} {a : Nat} (h : ∀ x ∈ xs, x.toNat.testBit a = true) : withN xs a = xs.length := by
  induction xs with
  | nil => rfl
  | cons x r ih =>
    have e : withN (x :: r) a = 1 + withN r a := by
      unfold withN
      rw [List.map_cons, List.sum_cons, if_pos (h x List.mem_cons_self)]
    rw [e, ih fun q hq => h q (List.mem_cons_of_mem _ hq), List.length_cons]
    omega
theorem withN_pos {xs : List Int} {a : Nat} {x : Int} (hx : x ∈ xs) (h : x.toNat.testBit a = true) : 1 ≤ withN xs a := by
  induction xs with
  | nil => cases hx
  | cons q r ih =>
    have e : withN (q :: r) a = (if q.toNat.testBit a = true then 1 else 0) + withN r a := by
      unfold withN
      rw [List.map_cons, List.sum_cons]
    rw [e]
    rcases List.mem_cons.1 hx with rfl | hr
    · rw [if_pos h]; omega
    · have := ih hr; omega
theorem withN_le (xs : List Int) (a : Nat) : withN xs a ≤ xs.length := by
  induction xs with
  | nil => exact Nat.le_refl _
  | cons q r ih =>
    have e : withN (q :: r) a = (if q.toNat.testBit a = true then 1 else 0) + withN r a := by
      unfold withN
      rw [List.map_cons, List.sum_cons]
    rw [e, List.length_cons]
    split <;> omega
theorem withN_snoc (xs : List Int) (x : Int) (a : Nat) : withN (xs ++ [x]) a = withN xs a + (if x.toNat.testBit a = true then 1 else 0) := by
  unfold withN
  simp
theorem Ortho.with_not (h : Ortho m z y o) (hk : keepsB m y = true) {a : Nat} (ha : a < m.n) : withN (blockL m y) (y a) = withN (blockL m y) a :=
  withN_congr fun x hx => by
    obtain ⟨s, rfl, hs⟩ := blockL_in hx
    rw [Int.toNat_natCast]
    exact h.block_not hk hs ha
theorem Ortho.with_no (h : Ortho m z y o) : withN (blockL m y) o = (blockL m y).length :=
  withN_all fun x hx => by
    obtain ⟨s, rfl, hs⟩ := blockL_in hx
    rw [Int.toNat_natCast]
    exact h.block_no hs
theorem Ortho.with_pos (h : Ortho m z y o) {a : Nat} (ha : a < m.n) : 1 ≤ withN (blockL m y) a := by
  obtain ⟨t, h1, h2⟩ := h.cover ha
  exact withN_pos (blockL_has h1) (by rw [Int.toNat_natCast]; exact h2)
end

/-- Different numbers below n go to different numbers below N: n is at most N. -/
theorem inj_le : ∀ (n N : Nat) (f : Nat → Nat), (∀ i, i < n → f i < N) → (∀ i j, i < n → j < n → f i = f j → i = j) → n ≤ N := by
  intro n
  induction n with
  | zero => intro N f _ _; exact Nat.zero_le _
  | succ n ih =>
    intro N f hf hi
    have hN : f n < N := hf n (Nat.lt_succ_self n)
    have := ih (N - 1) (fun i => if f i = N - 1 then f n else f i) (fun i hin => by
      have h1 := hf i (by omega)
      split
      · next e =>
        have : f n ≠ N - 1 := fun e2 => by have := hi i n (by omega) (by omega) (e.trans e2.symm); omega
        omega
      · omega) (fun i j hin hjn e => by
      have h1 : f i = f n → False := fun e2 => by have := hi i n (by omega) (by omega) e2; omega
      have h2 : f j = f n → False := fun e2 => by have := hi j n (by omega) (by omega) e2; omega
      split at e
      · next e1 =>
        split at e
        · next e2 => exact hi i j (by omega) (by omega) (e1.trans e2.symm)
        · exact absurd e.symm h2
      · split at e
        · exact absurd e h1
        · exact hi i j (by omega) (by omega) e)
    omega
/-- Bits set where a test holds, below a number. -/
def bitS (p : Nat → Bool) : Nat → Nat
  | 0 => 0
  | k + 1 => if p k = true then bitS p k + 2 ^ k else bitS p k
theorem bitS_is (p : Nat → Bool) (k : Nat) : bitS p k < 2 ^ k ∧ ∀ a, (bitS p k).testBit a = (decide (a < k) && p a) := by
  induction k with
  | zero => exact ⟨by show (0 : Nat) < 1; omega, fun a => by simp [bitS]⟩
  | succ k ih =>
    obtain ⟨h1, h2⟩ := ih
    have hp : 2 ^ (k + 1) = 2 ^ k + 2 ^ k := by rw [Nat.pow_succ]; omega
    cases hk : p k with
    | true =>
      have e : bitS p (k + 1) = bitS p k + 2 ^ k := by show (if _ then _ else _) = _; rw [if_pos hk]
      have e2 : bitS p k + 2 ^ k = 2 ^ k ||| bitS p k := by
        have h := Nat.two_pow_add_eq_or_of_lt h1 1
        rw [Nat.mul_one] at h
        rw [Nat.add_comm]; exact h
      refine ⟨by rw [e]; omega, fun a => ?_⟩
      rw [e, e2, Nat.testBit_or, Nat.testBit_two_pow, h2]
      by_cases ha : a = k
      · subst ha; simp [hk]
      · have : (k = a) = False := by simp; omega
        simp only [this, decide_false, Bool.false_or]
        rw [Bool.eq_iff_iff]
        simp only [Bool.and_eq_true, decide_eq_true_iff]
        constructor
        · rintro ⟨q1, q2⟩; exact ⟨by omega, q2⟩
        · rintro ⟨q1, q2⟩; exact ⟨by omega, q2⟩
    | false =>
      have e : bitS p (k + 1) = bitS p k := by show (if _ then _ else _) = _; rw [if_neg (by rw [hk]; exact Bool.false_ne_true)]
      refine ⟨by rw [e]; omega, fun a => ?_⟩
      rw [e, h2]
      by_cases ha : a = k
      · subst ha; simp [hk]
      · rw [Bool.eq_iff_iff]
        simp only [Bool.and_eq_true, decide_eq_true_iff]
        constructor
        · rintro ⟨q1, q2⟩; exact ⟨by omega, q2⟩
        · rintro ⟨q1, q2⟩; exact ⟨by omega, q2⟩
section
variable {m : Mx} {z : Nat → Int} {y : Nat → Nat} {o : Nat}
end
end Go.Proofs.YtnbglbhfclohjaaDoor
