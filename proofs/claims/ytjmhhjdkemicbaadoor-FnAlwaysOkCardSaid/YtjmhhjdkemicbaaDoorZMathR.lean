import Derived.Test.YtjmhhjdkemicbaaDoorZMathN
namespace Go.Proofs.YtjmhhjdkemicbaaDoor

theorem least_of {P : Nat → Prop} (h : ∃ n, P n) : ∃ n, P n ∧ ∀ k, k < n → ¬ P k := by
  obtain ⟨n, hn⟩ := h
  have key : ∀ n, P n → ∃ n, P n ∧ ∀ k, k < n → ¬ P k := by
    intro n
    induction n using Nat.strongRecOn with
    | _ n ih =>
      intro hp
      by_cases g : ∃ k, k < n ∧ P k
      · obtain ⟨k, hk, hpk⟩ := g
        exact ih k hk hpk
      · exact ⟨n, hp, fun k hk hpk => g ⟨k, hk, hpk⟩⟩
  exact key n hn

/-- What agrees with all of a set: as a set. -/
def shN (m : Mx) (y : Nat → Nat) (s : Nat) : Nat := bitS (nbB m y s) m.n
/-- What agrees with all of a set and is none of it. -/
def moreN (m : Mx) (y : Nat → Nat) (s : Nat) : Nat := bitS (fun x => nbB m y s x && !s.testBit x) m.n
/-- A set without what stands ahead of a number. -/
def cutN (r f : Nat) : Nat := r / 2 ^ f * 2 ^ f
theorem cutN_bit (r f i : Nat) : (cutN r f).testBit i = (decide (f ≤ i) && r.testBit i) := by
  unfold cutN
  rw [← Nat.shiftRight_eq_div_pow, ← Nat.shiftLeft_eq, Nat.testBit_shiftLeft, Nat.testBit_shiftRight]
  by_cases h : f ≤ i
  · rw [show f + (i - f) = i by omega]
  · simp [h]
theorem cutN_le (r f : Nat) : cutN r f ≤ r := Nat.div_mul_le_self r (2 ^ f)
theorem moreN_bit (m : Mx) (y : Nat → Nat) (s a : Nat) : (moreN m y s).testBit a = true ↔ a < m.n ∧ nbB m y s a = true ∧ s.testBit a = false := by
  unfold moreN
  rw [(bitS_is _ _).2 a]
  simp only [Bool.and_eq_true, decide_eq_true_iff, Bool.not_eq_true']
theorem moreN_lt (m : Mx) (y : Nat → Nat) (s : Nat) : moreN m y s < 2 ^ m.n := (bitS_is _ _).1
theorem shN_lt (m : Mx) (y : Nat → Nat) (s : Nat) : shN m y s < 2 ^ m.n := (bitS_is _ _).1
theorem shN_bit (m : Mx) (y : Nat → Nat) (s a : Nat) : (shN m y s).testBit a = (decide (a < m.n) && nbB m y s a) := (bitS_is _ _).2 a
theorem zero_bits {s : Nat} (h : ∀ i, s.testBit i = false) : s = 0 := Nat.eq_of_testBit_eq fun i => by rw [h i]; simp

/-- All blocks that have a set, and besides it none ahead of a number, in the order in which they are reached. -/
def blocksL (m : Mx) (y : Nat → Nat) : Nat → Nat → Nat → List Nat
  | 0, _, _ => []
  | f + 1, s, r => if moreN m y s = 0 then [s] else ((memsTo (cutN (moreN m y s) r) 12).map fun a => blocksL m y f (s ||| 2 ^ a) (a + 1)).flatten
theorem blocksL_end {m : Mx} {y : Nat → Nat} {f s r : Nat} (h : moreN m y s = 0) : blocksL m y (f + 1) s r = [s] := if_pos h
theorem blocksL_on {m : Mx} {y : Nat → Nat} {f s r : Nat} (h : moreN m y s ≠ 0) : blocksL m y (f + 1) s r = ((memsTo (cutN (moreN m y s) r) 12).map fun a => blocksL m y f (s ||| 2 ^ a) (a + 1)).flatten := if_neg h
theorem or_bit (s a i : Nat) : (s ||| 2 ^ a).testBit i = true ↔ s.testBit i = true ∨ a = i := by
  rw [Nat.testBit_or, Bool.or_eq_true, pow_bit]
section
variable {m : Mx} {z : Nat → Int} {y : Nat → Nat} {o : Nat}
/-- One answer put to a set of answers that agree, that agrees with all of it. -/
theorem Ortho.clique_put (h : Ortho m z y o) {s a : Nat} (hs : s < 2 ^ m.n) (hc : Clique m y s) (ha : (moreN m y s).testBit a = true) : s ||| 2 ^ a < 2 ^ m.n ∧ Clique m y (s ||| 2 ^ a) := by
  obtain ⟨h1, h2, h3⟩ := (moreN_bit m y s a).1 ha
  have hnb := nb_iff.1 h2
  refine ⟨Nat.or_lt_two_pow hs (Nat.pow_lt_pow_right (by omega) h1), fun b d hb hd gb gd => ?_⟩
  rw [or_bit] at gb gd
  rcases gb with gb | gb
  · rcases gd with gd | gd
    · exact hc b d hb hd gb gd
    · subst gd; rw [adjB_comm]; exact hnb b hb gb
  · subst gb
    rcases gd with gd | gd
    · exact hnb d hd gd
    · subst gd; exact h.adj_self hd
theorem block_of_none {s : Nat} (hs : s < 2 ^ m.n) (hc : Clique m y s) (h0 : moreN m y s = 0) : Block m y s := by
  refine ⟨hs, fun x hx => ⟨fun g a ha ga => hc x a hx ha g ga, fun g => ?_⟩⟩
  cases e : s.testBit x with
  | true => rfl
  | false =>
    have := (moreN_bit m y s x).2 ⟨hx, nb_iff.2 fun a ha ga => g a ha ga, e⟩
    rw [h0, Nat.zero_testBit] at this
    exact this
theorem block_none {s : Nat} (hb : Block m y s) : moreN m y s = 0 := zero_bits fun i => by
  cases e : (moreN m y s).testBit i with
  | false => rfl
  | true =>
    obtain ⟨h1, h2, h3⟩ := (moreN_bit m y s i).1 e
    have := (hb.iff i h1).2 (nb_iff.1 h2)
    rw [h3] at this
    exact this.symm
theorem block_same {s t : Nat} (hs : Block m y s) (ht : Block m y t) (h : Sub s t) : t = s := by
  refine Nat.eq_of_testBit_eq fun i => ?_
  rw [Bool.eq_iff_iff]
  refine ⟨fun g => ?_, h i⟩
  have hi := bit_under ht.lt g
  exact (hs.iff i hi).2 fun a ha ga => ht.clique i a hi ha g (h a ga)
theorem Ortho.blocksL_mem (h : Ortho m z y o) (hn : m.n ≤ 12) (t : Nat) : ∀ f s r, s < 2 ^ m.n → Clique m y s → r ≤ m.n → m.n < r + f → (t ∈ blocksL m y f s r ↔ Block m y t ∧ Sub s t ∧ ∀ i, t.testBit i = true → s.testBit i = false → r ≤ i) := by
  intro f
  induction f with
  | zero => intro s r _ _ h1 h2; omega
  | succ f ih =>
    intro s r hs hc hr hf
    by_cases h0 : moreN m y s = 0
    · rw [blocksL_end h0]
      have hb := block_of_none hs hc h0
      constructor
      · intro e
        have e : t = s := by simpa using e
        subst e
        exact ⟨hb, Sub.refl _, fun i g g' => by rw [g] at g'; cases g'⟩
      · rintro ⟨h1, h2, _⟩
        rw [block_same hb h1 h2]; simp
    · rw [blocksL_on h0, List.mem_flatten]
      have hmem : ∀ a, a ∈ memsTo (cutN (moreN m y s) r) 12 ↔ a < 12 ∧ r ≤ a ∧ (moreN m y s).testBit a = true := fun a => by
        rw [memsTo_mem, cutN_bit, Bool.and_eq_true, decide_eq_true_iff]
      constructor
      · rintro ⟨l, hl, ht⟩
        obtain ⟨a, ha, rfl⟩ := List.mem_map.1 hl
        obtain ⟨_, h2, h3⟩ := (hmem a).1 ha
        obtain ⟨h4, h5, h6⟩ := (moreN_bit m y s a).1 h3
        obtain ⟨p1, p2⟩ := h.clique_put hs hc h3
        obtain ⟨q1, q2, q3⟩ := (ih _ _ p1 p2 (by omega) (by omega)).1 ht
        refine ⟨q1, fun i g => q2 i ((or_bit _ _ _).2 (.inl g)), fun i g g' => ?_⟩
        by_cases e : a = i
        · omega
        · have := q3 i g (by
            cases e2 : (s ||| 2 ^ a).testBit i with
            | false => rfl
            | true =>
              rcases (or_bit _ _ _).1 e2 with e3 | e3
              · rw [g'] at e3; cases e3
              · exact absurd e3 e)
          omega
      · rintro ⟨h1, h2, h3⟩
        have hex : ∃ a, t.testBit a = true ∧ s.testBit a = false := by
          apply Classical.byContradiction
          intro g
          have hs2 : Sub t s := fun i gi => by
            cases e : s.testBit i with
            | true => rfl
            | false => exact absurd ⟨i, gi, e⟩ g
          have est : t = s := Nat.eq_of_testBit_eq fun i => by
            rw [Bool.eq_iff_iff]
            exact ⟨hs2 i, h2 i⟩
          rw [← est] at h0
          exact h0 (block_none h1)
        obtain ⟨a, ⟨ga, gs⟩, hl⟩ := least_of hex
        have han := bit_under h1.lt ga
        have hm : (moreN m y s).testBit a = true := (moreN_bit m y s a).2 ⟨han, nb_iff.2 fun b hb gb => h1.clique a b han hb ga (h2 b gb), gs⟩
        refine ⟨_, List.mem_map.2 ⟨a, (hmem a).2 ⟨by omega, h3 a ga gs, hm⟩, rfl⟩, ?_⟩
        obtain ⟨p1, p2⟩ := h.clique_put hs hc hm
        refine (ih _ _ p1 p2 (by omega) (by have := h3 a ga gs; omega)).2 ⟨h1, fun i g => ?_, fun i g g' => ?_⟩
        · rcases (or_bit _ _ _).1 g with g | g
          · exact h2 i g
          · subst g; exact ga
        · have n1 : s.testBit i = false := by
            cases e : s.testBit i with
            | false => rfl
            | true => rw [(or_bit _ _ _).2 (.inl e)] at g'; cases g'
          have n2 : a ≠ i := fun e => by rw [(or_bit _ _ _).2 (.inr e)] at g'; cases g'
          have n3 : ¬ i < a := fun e => hl i e ⟨g, n1⟩
          omega
theorem Ortho.blocksL_nodup (h : Ortho m z y o) (hn : m.n ≤ 12) : ∀ f s r, s < 2 ^ m.n → Clique m y s → r ≤ m.n → m.n < r + f → (blocksL m y f s r).Pairwise (· ≠ ·) := by
  intro f
  induction f with
  | zero => intro s r _ _ h1 h2; omega
  | succ f ih =>
    intro s r hs hc hr hf
    by_cases h0 : moreN m y s = 0
    · rw [blocksL_end h0]; exact List.pairwise_singleton _ _
    · rw [blocksL_on h0, List.pairwise_flatten]
      have hmem : ∀ a, a ∈ memsTo (cutN (moreN m y s) r) 12 → r ≤ a ∧ (moreN m y s).testBit a = true ∧ a < m.n ∧ s.testBit a = false := fun a ha => by
        rw [memsTo_mem, cutN_bit, Bool.and_eq_true, decide_eq_true_iff] at ha
        obtain ⟨h4, h5, h6⟩ := (moreN_bit m y s a).1 ha.2.2
        exact ⟨ha.2.1, ha.2.2, h4, h6⟩
      constructor
      · intro l hl
        obtain ⟨a, ha, rfl⟩ := List.mem_map.1 hl
        obtain ⟨h2, h3, h4, _⟩ := hmem a ha
        obtain ⟨p1, p2⟩ := h.clique_put hs hc h3
        exact ih _ _ p1 p2 (by omega) (by omega)
      · rw [List.pairwise_map]
        refine (memsTo_up 12).imp_of_mem fun {a b} ha hb hab => ?_
        intro t ht t' ht' e
        subst e
        obtain ⟨a2, a3, a4, a5⟩ := hmem a ha
        obtain ⟨b2, b3, b4, b5⟩ := hmem b hb
        obtain ⟨p1, p2⟩ := h.clique_put hs hc a3
        obtain ⟨q1, q2⟩ := h.clique_put hs hc b3
        obtain ⟨_, u2, _⟩ := (h.blocksL_mem hn t _ _ _ p1 p2 (by omega) (by omega)).1 ht
        obtain ⟨_, _, v3⟩ := (h.blocksL_mem hn t _ _ _ q1 q2 (by omega) (by omega)).1 ht'
        have := v3 a (u2 a ((or_bit _ _ _).2 (.inr rfl))) (by
          cases e2 : (s ||| 2 ^ b).testBit a with
          | false => rfl
          | true =>
            rcases (or_bit _ _ _).1 e2 with e3 | e3
            · rw [a5] at e3; cases e3
            · omega)
        omega
/-- All blocks, each once. -/
def allL (m : Mx) (y : Nat → Nat) : List Nat := blocksL m y 13 0 0
theorem none_clique : Clique m y 0 := fun a b _ _ ga _ => by rw [Nat.zero_testBit] at ga; cases ga
theorem Ortho.allL_mem (h : Ortho m z y o) (hn : m.n ≤ 12) (t : Nat) : t ∈ allL m y ↔ Block m y t := by
  unfold allL
  rw [h.blocksL_mem hn t 13 0 0 (Nat.two_pow_pos _) none_clique (Nat.zero_le _) (by omega)]
  exact ⟨fun g => g.1, fun g => ⟨g, (fun i e => by rw [Nat.zero_testBit] at e; cases e), fun i _ _ => Nat.zero_le _⟩⟩
theorem Ortho.allL_nodup (h : Ortho m z y o) (hn : m.n ≤ 12) : (allL m y).Pairwise (· ≠ ·) := h.blocksL_nodup hn 13 0 0 (Nat.two_pow_pos _) none_clique (Nat.zero_le _) (by omega)
theorem Ortho.allL_lt (h : Ortho m z y o) (hn : m.n ≤ 12) {t : Nat} (ht : t ∈ allL m y) : t < 4096 := by
  have h1 := ((h.allL_mem hn t).1 ht).lt
  have h2 : 2 ^ m.n ≤ 2 ^ 12 := Nat.pow_le_pow_right (by omega) hn
  omega
theorem nodup_len {xs : List Nat} {N : Nat} (h : xs.Pairwise (· ≠ ·)) (hl : ∀ x ∈ xs, x < N) : xs.length ≤ N := by
  refine inj_le xs.length N (fun i => xs[i]?.getD 0) (fun i hi => ?_) (fun i j hi hj e => ?_)
  · rw [List.getElem?_eq_getElem hi]; exact hl _ (List.getElem_mem hi)
  · rw [List.getElem?_eq_getElem hi, List.getElem?_eq_getElem hj] at e
    have e : xs[i] = xs[j] := e
    rw [List.pairwise_iff_getElem] at h
    rcases Nat.lt_trichotomy i j with g | g | g
    · exact absurd e (h i j hi hj g)
    · exact g
    · exact absurd e.symm (h j i hj hi g)
theorem Ortho.allL_len (h : Ortho m z y o) (hn : m.n ≤ 12) : (allL m y).length ≤ 4096 := nodup_len (h.allL_nodup hn) fun _ hx => h.allL_lt hn hx
end

def placeN (xs : List Nat) (x : Nat) : Nat := xs.countP (fun q => decide (q < x))
def insN (xs : List Nat) (x : Nat) : List Nat := xs.take (placeN xs x) ++ x :: xs.drop (placeN xs x)
def sortN (xs : List Nat) : List Nat := xs.foldl insN []
theorem sortN_snoc (xs : List Nat) (x : Nat) : sortN (xs ++ [x]) = insN (sortN xs) x := by unfold sortN; rw [List.foldl_append]; rfl
theorem placeN_le (xs : List Nat) (x : Nat) : placeN xs x ≤ xs.length := List.countP_le_length
theorem insN_len (xs : List Nat) (x : Nat) : (insN xs x).length = xs.length + 1 := by
  have := placeN_le xs x
  unfold insN
  rw [List.length_append, List.length_cons, List.length_take, List.length_drop]
  omega
theorem sortN_len (xs : List Nat) : (sortN xs).length = xs.length := by
  have key : ∀ (ys zs : List Nat), (ys.foldl insN zs).length = zs.length + ys.length := by
    intro ys
    induction ys with
    | nil => intro zs; rfl
    | cons q r ih => intro zs; rw [List.foldl_cons, ih, insN_len, List.length_cons]; omega
  unfold sortN
  rw [key]; simp
theorem insN_mem {xs : List Nat} {x t : Nat} : t ∈ insN xs x ↔ t = x ∨ t ∈ xs := by
  unfold insN
  rw [List.mem_append, List.mem_cons]
  constructor
  · rintro (h | h | h)
    · exact .inr (List.mem_of_mem_take h)
    · exact .inl h
    · exact .inr (List.mem_of_mem_drop h)
  · rintro (h | h)
    · exact .inr (.inl h)
    · rw [← List.take_append_drop (placeN xs x) xs, List.mem_append] at h
      rcases h with h | h
      · exact .inl h
      · exact .inr (.inr h)
theorem placeN_zero {xs : List Nat} {x : Nat} (h : ∀ t ∈ xs, x ≤ t) : placeN xs x = 0 := by
  unfold placeN
  rw [List.countP_eq_zero]
  intro t ht
  have := h t ht
  simp; omega
theorem insN_up {xs : List Nat} {x : Nat} (h : xs.Pairwise (· < ·)) (hx : x ∉ xs) : (insN xs x).Pairwise (· < ·) := by
  induction xs with
  | nil => exact List.pairwise_singleton _ _
  | cons q r ih =>
    rw [List.pairwise_cons] at h
    have hq : q ≠ x := fun e => hx (by rw [e]; exact List.mem_cons_self)
    have hr : x ∉ r := fun e => hx (List.mem_cons_of_mem _ e)
    by_cases hlt : q < x
    · have e1 : placeN (q :: r) x = placeN r x + 1 := by
        unfold placeN
        rw [List.countP_cons_of_pos (by simpa using hlt)]
      have e2 : insN (q :: r) x = q :: insN r x := by
        unfold insN
        rw [e1, List.take_succ_cons, List.drop_succ_cons]; rfl
      rw [e2, List.pairwise_cons]
      refine ⟨fun t ht => ?_, ih h.2 hr⟩
      rcases insN_mem.1 ht with e | e
      · omega
      · exact h.1 t e
    · have e1 : placeN (q :: r) x = 0 := placeN_zero fun t ht => by
        rcases List.mem_cons.1 ht with e | e
        · omega
        · have := h.1 t e; omega
      have e2 : insN (q :: r) x = x :: q :: r := by
        unfold insN
        rw [e1]; rfl
      rw [e2, List.pairwise_cons]
      refine ⟨fun t ht => ?_, List.pairwise_cons.2 h⟩
      rcases List.mem_cons.1 ht with e | e
      · omega
      · have := h.1 t e; omega
theorem sortN_is : ∀ (xs : List Nat), xs.Pairwise (· ≠ ·) → (sortN xs).Pairwise (· < ·) ∧ ∀ t, t ∈ sortN xs ↔ t ∈ xs := by
  have key : ∀ (ys zs : List Nat), zs.Pairwise (· < ·) → ys.Pairwise (· ≠ ·) → (∀ t, t ∈ zs → t ∉ ys) → (ys.foldl insN zs).Pairwise (· < ·) ∧ ∀ t, t ∈ ys.foldl insN zs ↔ t ∈ zs ∨ t ∈ ys := by
    intro ys
    induction ys with
    | nil => intro zs h _ _; exact ⟨h, fun t => by simp⟩
    | cons q r ih =>
      intro zs h1 h2 h3
      rw [List.pairwise_cons] at h2
      have hq : q ∉ zs := fun e => h3 q e List.mem_cons_self
      obtain ⟨a1, a2⟩ := ih (insN zs q) (insN_up h1 hq) h2.2 (fun t ht e => by
        rcases insN_mem.1 ht with e2 | e2
        · exact h2.1 t e e2.symm
        · exact h3 t e2 (List.mem_cons_of_mem _ e))
      refine ⟨a1, fun t => ?_⟩
      rw [List.foldl_cons, a2, insN_mem, List.mem_cons]
      constructor
      · rintro ((e | e) | e)
        · exact .inr (.inl e)
        · exact .inl e
        · exact .inr (.inr e)
      · rintro (e | e | e)
        · exact .inl (.inr e)
        · exact .inl (.inl e)
        · exact .inr e
  intro xs h
  obtain ⟨a1, a2⟩ := key xs [] List.Pairwise.nil h (fun t ht => by cases ht)
  exact ⟨a1, fun t => (a2 t).trans (by simp)⟩
theorem asc_same : ∀ (xs ys : List Int), xs.Pairwise (· < ·) → ys.Pairwise (· < ·) → (∀ t, t ∈ xs ↔ t ∈ ys) → xs = ys := by
  intro xs
  induction xs with
  | nil =>
    intro ys _ _ h
    cases ys with
    | nil => rfl
    | cons q r => have := (h q).2 List.mem_cons_self; cases this
  | cons q r ih =>
    intro ys h1 h2 h
    cases ys with
    | nil => have := (h q).1 List.mem_cons_self; cases this
    | cons q' r' =>
      rw [List.pairwise_cons] at h1 h2
      have e : q = q' := by
        have g1 := (h q).1 List.mem_cons_self
        have g2 := (h q').2 List.mem_cons_self
        rcases List.mem_cons.1 g1 with e | e
        · exact e
        · rcases List.mem_cons.1 g2 with e' | e'
          · exact e'.symm
          · have := h2.1 q e; have := h1.1 q' e'; omega
      subst e
      rw [ih r' h1.2 h2.2 fun t => ?_]
      constructor
      · intro ht
        have := h1.1 t ht
        rcases List.mem_cons.1 ((h t).1 (List.mem_cons_of_mem _ ht)) with e | e
        · omega
        · exact e
      · intro ht
        have := h2.1 t ht
        rcases List.mem_cons.1 ((h t).2 (List.mem_cons_of_mem _ ht)) with e | e
        · omega
        · exact e
section
variable {m : Mx} {z : Nat → Int} {y : Nat → Nat} {o : Nat}
/-- All that have come, in their places, are the reference's blocks. -/
theorem Ortho.sort_all (h : Ortho m z y o) (hn : m.n ≤ 12) : (sortN (allL m y)).map (fun c => ((c : Nat) : Int)) = blockL m y := by
  obtain ⟨h1, h2⟩ := sortN_is _ (h.allL_nodup hn)
  refine asc_same _ _ ?_ (listTo_up _ _) fun t => ?_
  · rw [List.pairwise_map]
    exact h1.imp fun hab => by omega
  · rw [List.mem_map]
    constructor
    · rintro ⟨c, hc, rfl⟩
      exact blockL_has ((h.allL_mem hn c).1 ((h2 c).1 hc))
    · intro ht
      obtain ⟨c, e, hb⟩ := blockL_in ht
      exact ⟨c, (h2 c).2 ((h.allL_mem hn c).2 hb), e.symm⟩
end
end Go.Proofs.YtjmhhjdkemicbaaDoor
