/- The plain mathematics of two-valued states: they go up, what they tell; enough of them force the law; of logics of one block there are as many as atoms. -/
import Derived.Test.YtnbglbhfclohjaaMathP
namespace Go.Proofs.Ytnbglbhfclohjaa

def bitN (s a : Nat) : Nat := if s.testBit a = true then 1 else 0
/-- The test of one pair of answers that are apart. -/
def stateP (m : Mx) (y : Nat → Nat) (s a b : Nat) : Bool := !leB m a (y b) || decide (bitN s a + bitN s b = bitN s (jN m a b))
/-- A number is a state, as the reference tests it. -/
def stateB (m : Mx) (y : Nat → Nat) (o s : Nat) : Bool := s.testBit (y o) && allB m.n fun a => decide (bitN s a + bitN s (y a) = 1) && allB a fun b => stateP m y s a b
structure State (m : Mx) (y : Nat → Nat) (o s : Nat) : Prop where
  yes : s.testBit (y o) = true
  one : ∀ a, a < m.n → bitN s a + bitN s (y a) = 1
  add : ∀ a b, a < m.n → b < m.n → a ≠ b → m.Z a (y b) = 1 → bitN s a + bitN s b = bitN s (jN m a b)
theorem bitN_le (s a : Nat) : bitN s a ≤ 1 := by unfold bitN; split <;> omega
theorem bitN_yes {s a : Nat} : bitN s a = 1 ↔ s.testBit a = true := by
  unfold bitN
  split
  · next h => simp [h]
  · next h => simp [h]
theorem bitN_no {s a : Nat} : bitN s a = 0 ↔ s.testBit a = false := by
  unfold bitN
  split
  · next h => simp [h]
  · next h => simpa using h
section
variable {m : Mx} {z : Nat → Int} {y : Nat → Nat} {o : Nat}
theorem Ortho.j_comm (h : Ortho m z y o) {a b : Nat} (ha : a < m.n) (hb : b < m.n) : jN m a b = jN m b a := congrArg Fin.val (OL.j_comm (L := h.ol) ⟨a, ha⟩ ⟨b, hb⟩)
theorem Ortho.apart_comm (h : Ortho m z y o) {a b : Nat} (ha : a < m.n) (hb : b < m.n) (e : m.Z a (y b) = 1) : m.Z b (y a) = 1 := by
  have g : h.ol.le ⟨a, ha⟩ (h.ol.c ⟨b, hb⟩) := e
  exact OL.turn' g
theorem Ortho.state_iff (h : Ortho m z y o) {s : Nat} : stateB m y o s = true ↔ State m y o s := by
  unfold stateB
  rw [Bool.and_eq_true]
  constructor
  · rintro ⟨e1, e2⟩
    have key : ∀ a, a < m.n → bitN s a + bitN s (y a) = 1 ∧ allB a (fun b => stateP m y s a b) = true := fun a ha => by
      have := allB_is e2 a ha
      rw [Bool.and_eq_true, decide_eq_true_iff] at this
      exact this
    have down : ∀ a b, a < m.n → b < a → m.Z a (y b) = 1 → bitN s a + bitN s b = bitN s (jN m a b) := fun a b ha hb e => by
      have := allB_is (key a ha).2 b hb
      unfold stateP at this
      rw [leB_mk e] at this
      simpa using this
    refine ⟨e1, fun a ha => (key a ha).1, fun a b ha hb hne e => ?_⟩
    rcases Nat.lt_trichotomy a b with g | g | g
    · have := down b a hb g (h.apart_comm ha hb e)
      rw [h.j_comm ha hb]; omega
    · exact absurd g hne
    · exact down a b ha g e
  · intro g
    refine ⟨g.yes, allB_true fun a ha => ?_⟩
    rw [Bool.and_eq_true, decide_eq_true_iff]
    refine ⟨g.one a ha, allB_true fun b hb => ?_⟩
    unfold stateP
    cases hl : leB m a (y b) with
    | false => rfl
    | true => simpa using g.add a b ha (by omega) (by omega) (leB_is hl)
theorem Ortho.state_no (h : Ortho m z y o) {s : Nat} (g : State m y o s) : bitN s o = 0 := by
  have h1 := g.one o h.ho
  have h2 := bitN_yes.2 g.yes
  omega
/-- An answer that is apart from itself is no. -/
theorem Ortho.apart_self_no (h : Ortho m z y o) {a : Nat} (ha : a < m.n) (e : m.Z a (y a) = 1) : a = o := by
  have g : h.ol.le ⟨a, ha⟩ (h.ol.c ⟨a, ha⟩) := e
  have := OL.is_o (OL.zero (h.ol.refl ⟨a, ha⟩) g)
  exact congrArg Fin.val this
/-- Of two answers that are apart not both are told yes. -/
theorem Ortho.state_apart (h : Ortho m z y o) {s a b : Nat} (g : State m y o s) (ha : a < m.n) (hb : b < m.n) (e : m.Z a (y b) = 1) : bitN s a + bitN s b ≤ 1 := by
  by_cases q : a = b
  · subst q
    have := h.apart_self_no ha e
    subst this
    have := h.state_no g
    omega
  · have := g.add a b ha hb q e
    have := bitN_le s (jN m a b)
    omega
theorem Ortho.state_add (h : Ortho m z y o) {s a b : Nat} (g : State m y o s) (ha : a < m.n) (hb : b < m.n) (e : m.Z a (y b) = 1) : bitN s a + bitN s b = bitN s (jN m a b) := by
  by_cases q : a = b
  · subst q
    have := h.apart_self_no ha e
    subst this
    have e2 : jN m a a = a := by
      have := OL.j_le (h.ol.refl ⟨a, ha⟩)
      exact congrArg Fin.val this
    rw [e2, h.state_no g]
  · exact g.add a b ha hb q e
/-- Where the law is kept, states go up. -/
theorem Ortho.state_up (h : Ortho m z y o) (hk : keepsB m y = true) {s a b : Nat} (g : State m y o s) (ha : a < m.n) (hb : b < m.n) (hab : m.Z a b = 1) (e : bitN s a = 1) : bitN s b = 1 := by
  have hK := h.keeps_iff.1 hk
  have e1 := hK ⟨a, ha⟩ ⟨b, hb⟩ hab
  have hc := (h.ol.m ⟨b, hb⟩ (h.ol.c ⟨a, ha⟩)).2
  have hap : h.ol.le ⟨a, ha⟩ (h.ol.c (h.ol.m ⟨b, hb⟩ (h.ol.c ⟨a, ha⟩))) := OL.turn' (h.ol.mr _ _)
  have e2 := h.state_add g ha hc hap
  have e3 : jN m a (h.ol.m ⟨b, hb⟩ (h.ol.c ⟨a, ha⟩)).val = b := congrArg Fin.val e1
  rw [e3] at e2
  have := bitN_le s b
  omega
/-- Enough states are the law. -/
theorem Ortho.full_keeps (h : Ortho m z y o) (hf : ∀ a b, a < m.n → b < m.n → leB m a b = false → ∃ s, State m y o s ∧ bitN s a = 1 ∧ bitN s b = 0) : keepsB m y = true := by
  refine h.keeps_iff.2 fun a b hab => h.ol.anti (h.ol.jg hab (h.ol.ml _ _)) ?_
  apply Classical.byContradiction
  intro hno
  have hno' : leB m b.val (h.ol.j a (h.ol.m b (h.ol.c a))).val = false := by
    cases e : leB m b.val (h.ol.j a (h.ol.m b (h.ol.c a))).val with
    | false => rfl
    | true => exact absurd (leB_is e) hno
  obtain ⟨s, g, s1, s2⟩ := hf _ _ b.2 (h.ol.j a (h.ol.m b (h.ol.c a))).2 hno'
  have hap : h.ol.le a (h.ol.c (h.ol.m b (h.ol.c a))) := OL.turn' (h.ol.mr _ _)
  have e1 := h.state_add g a.2 (h.ol.m b (h.ol.c a)).2 hap
  have e1' : bitN s a.val + bitN s (h.ol.m b (h.ol.c a)).val = bitN s (h.ol.j a (h.ol.m b (h.ol.c a))).val := e1
  have hab2 : h.ol.le a (h.ol.c (h.ol.c b)) := by rw [h.ol.cc]; exact hab
  have e2 : bitN s a.val + bitN s (h.ol.c b).val = bitN s (h.ol.j a (h.ol.c b)).val := h.state_add g a.2 (h.ol.c b).2 hab2
  have e3 := g.one b.val b.2
  have e4 := g.one (h.ol.m b (h.ol.c a)).val (h.ol.m b (h.ol.c a)).2
  have e5 : h.ol.c (h.ol.m b (h.ol.c a)) = h.ol.j a (h.ol.c b) := by rw [OL.c_m, h.ol.cc, OL.j_comm]
  have e6 : bitN s (y (h.ol.m b (h.ol.c a)).val) = bitN s (h.ol.j a (h.ol.c b)).val := congrArg (bitN s) (congrArg Fin.val e5)
  have e7 : bitN s (y b.val) = bitN s (h.ol.c b).val := rfl
  omega

/-! ### Logics of one block -/
/-- The answers above an atom. -/
def upS (m : Mx) (p : Nat) : Nat := bitS (fun x => leB m p x) m.n
theorem upS_bit {m : Mx} {p x : Nat} (hx : x < m.n) : (upS m p).testBit x = leB m p x := by
  have := (bitS_is (fun x => leB m p x) m.n).2 x
  unfold upS
  rw [this]; simp [hx]
theorem Ortho.up_state (h : Ortho m z y o) (hb : boolB m = true) {p : Nat} (hp : p < m.n) (p2 : countI m p = 2) : State m y o (upS m p) := by
  have hord := h.lat.order
  have hD := h.bool_dist.1 hb
  have po := atom_not hord h.ho h.least p2
  have low : ∀ x, x < m.n → m.Z x o = 1 → x = o := fun x hx e => le_eq hord hx h.ho e (h.least x hx)
  have two : ∀ a b, a < m.n → b < m.n → m.Z p (jN m a b) = 1 → m.Z p a = 1 ∨ m.Z p b = 1 := fun a b ha hbn e => by
    have g2 := hD ⟨p, hp⟩ ⟨a, ha⟩ ⟨b, hbn⟩
    have e' : h.ol.le ⟨p, hp⟩ (h.ol.j ⟨a, ha⟩ ⟨b, hbn⟩) := e
    rw [OL.m_le e'] at g2
    have w : ∀ x : Fin m.n, h.ol.m ⟨p, hp⟩ x = h.ol.o ∨ h.ol.le ⟨p, hp⟩ x := fun x => by
      rcases atom_below hord h.ho h.least hp p2 (h.ol.m ⟨p, hp⟩ x).2 (h.ol.ml _ _) with q | q
      · exact .inl (Fin.ext q)
      · right
        have e2 : h.ol.m ⟨p, hp⟩ x = ⟨p, hp⟩ := Fin.ext q
        have := h.ol.mr ⟨p, hp⟩ x
        rw [e2] at this
        exact this
    rcases w ⟨a, ha⟩ with q | q
    · rcases w ⟨b, hbn⟩ with q2 | q2
      · rw [q, q2, OL.j_le (h.ol.refl _)] at g2
        exact absurd (congrArg Fin.val g2) po
      · exact .inr q2
    · exact .inl q
  have notboth : ∀ a b, a < m.n → b < m.n → m.Z a (y b) = 1 → m.Z p a = 1 → m.Z p b = 1 → False := fun a b ha hbn e q1 q2 => by
    have q1' : h.ol.le ⟨p, hp⟩ ⟨a, ha⟩ := q1
    have e' : h.ol.le ⟨a, ha⟩ (h.ol.c ⟨b, hbn⟩) := e
    have q2' : h.ol.le ⟨p, hp⟩ ⟨b, hbn⟩ := q2
    exact po (congrArg Fin.val (OL.is_o (OL.zero q2' (h.ol.trans q1' e'))))
  have bit : ∀ x, x < m.n → bitN (upS m p) x = if m.Z p x = 1 then 1 else 0 := fun x hx => by
    unfold bitN
    rw [upS_bit hx]
    by_cases e : m.Z p x = 1
    · rw [leB_mk e, if_pos e]; rfl
    · have : leB m p x = false := by
        cases g : leB m p x with
        | false => rfl
        | true => exact absurd (leB_is g) e
      rw [this, if_neg e]; rfl
  have jc : ∀ a, a < m.n → jN m a (y a) = y o := fun a ha => congrArg Fin.val (OL.j_c (L := h.ol) ⟨a, ha⟩)
  have hyes : m.Z p (y o) = 1 := OL.top (L := h.ol) ⟨p, hp⟩
  refine ⟨by rw [upS_bit (h.lt o h.ho)]; exact leB_mk hyes, fun a ha => ?_, fun a b ha hbn _ e => ?_⟩
  · have hl := h.lt a ha
    rw [bit a ha, bit _ hl]
    have haa : m.Z a (y (y a)) = 1 := by rw [h.inv a ha]; exact hord.refl a ha
    by_cases q1 : m.Z p a = 1
    · by_cases q2 : m.Z p (y a) = 1
      · exact (notboth a (y a) ha hl haa q1 q2).elim
      · rw [if_pos q1, if_neg q2]
    · rcases two a (y a) ha hl (by rw [jc a ha]; exact hyes) with q | q
      · exact absurd q q1
      · rw [if_neg q1, if_pos q]
  · have hj := (h.jG ha hbn).lt
    rw [bit a ha, bit b hbn, bit _ hj]
    by_cases q1 : m.Z p a = 1
    · by_cases q2 : m.Z p b = 1
      · exact (notboth a b ha hbn e q1 q2).elim
      · rw [if_pos q1, if_neg q2, if_pos (hord.trans _ _ _ hp ha hj q1 (h.jG ha hbn).l)]
    · by_cases q2 : m.Z p b = 1
      · rw [if_neg q1, if_pos q2, if_pos (hord.trans _ _ _ hp hbn hj q2 (h.jG ha hbn).r)]
      · rw [if_neg q1, if_neg q2, if_neg fun q => (two a b ha hbn q).elim q1 q2]
/-- Each state of a logic of one block tells yes just what is above one atom. -/
theorem Ortho.state_atom (h : Ortho m z y o) (hb : boolB m = true) {s : Nat} (hs : s < 2 ^ m.n) (g : State m y o s) : ∃ p, p < m.n ∧ countI m p = 2 ∧ s = upS m p := by
  have hord := h.lat.order
  have hk := h.bool_keeps hb
  have hK := h.keeps_iff.1 hk
  have hD := h.bool_dist.1 hb
  -- the lowest answer that is told yes
  have find : ∀ (n x : Nat), x < m.n → bitN s x = 1 → highN m x ≤ n → ∃ p, p < m.n ∧ bitN s p = 1 ∧ ∀ c, c < m.n → m.Z c p = 1 → bitN s c = 1 → c = p := by
    intro n
    induction n with
    | zero =>
      intro x hx e hn
      have hxo := (h.high_no hx).1 (by omega)
      subst hxo
      rw [h.state_no g] at e; omega
    | succ n ih =>
      intro x hx e hn
      by_cases q : ∃ c, c < m.n ∧ m.Z c x = 1 ∧ bitN s c = 1 ∧ c ≠ x
      · obtain ⟨c, c1, c2, c3, c4⟩ := q
        have := h.high_lt c1 hx c2 c4
        exact ih c c1 c3 (by omega)
      · refine ⟨x, hx, e, fun c c1 c2 c3 => ?_⟩
        apply Classical.byContradiction
        intro hne
        exact q ⟨c, c1, c2, c3, hne⟩
  obtain ⟨p, hp, hpb, hmin⟩ := find _ (y o) (h.lt o h.ho) (bitN_yes.2 g.yes) (Nat.le_refl _)
  have po : p ≠ o := fun e => by rw [e, h.state_no g] at hpb; omega
  obtain ⟨q, hq, q2, qz⟩ := atom_under hord h.ho h.least (countI m p).toNat p hp po (by omega)
  have hqo := atom_not hord h.ho h.least q2
  -- p is told as the join of q and of what is left
  have e1 := hK ⟨q, hq⟩ ⟨p, hp⟩ qz
  have hc := (h.ol.m ⟨p, hp⟩ (h.ol.c ⟨q, hq⟩)).2
  have hap : h.ol.le ⟨q, hq⟩ (h.ol.c (h.ol.m ⟨p, hp⟩ (h.ol.c ⟨q, hq⟩))) := OL.turn' (h.ol.mr _ _)
  have e2 := h.state_add g hq hc hap
  have e3 : jN m q (h.ol.m ⟨p, hp⟩ (h.ol.c ⟨q, hq⟩)).val = p := congrArg Fin.val e1
  rw [e3, hpb] at e2
  have hbq : bitN s q = 1 := by
    have h1 := bitN_le s q
    by_cases e : bitN s q = 1
    · exact e
    · exfalso
      have e4 : bitN s (h.ol.m ⟨p, hp⟩ (h.ol.c ⟨q, hq⟩)).val = 1 := by omega
      have e5 := hmin _ hc (h.ol.ml _ _) e4
      have e6 : h.ol.m ⟨p, hp⟩ (h.ol.c ⟨q, hq⟩) = ⟨p, hp⟩ := Fin.ext e5
      have e7 : h.ol.le ⟨p, hp⟩ (h.ol.c ⟨q, hq⟩) := by
        have := h.ol.mr ⟨p, hp⟩ (h.ol.c ⟨q, hq⟩)
        rw [e6] at this
        exact this
      have e8 : h.ol.le ⟨q, hq⟩ ⟨p, hp⟩ := qz
      exact hqo (congrArg Fin.val (OL.is_o (OL.zero (h.ol.refl ⟨q, hq⟩) (h.ol.trans e8 e7))))
  have hqp := hmin q hq qz hbq
  subst hqp
  refine ⟨q, hq, q2, Nat.eq_of_testBit_eq fun x => ?_⟩
  by_cases hx : x < m.n
  · rw [upS_bit hx]
    have hl := h.lt x hx
    have hU := h.up_state hb hq q2
    have o1 := hU.one x hx
    have o2 := g.one x hx
    cases hle : leB m q x with
    | true =>
      have := h.state_up hk g hq hx (leB_is hle) hbq
      exact bitN_yes.1 this
    | false =>
      have b1 : bitN (upS m q) x = 0 := bitN_no.2 (by rw [upS_bit hx]; exact hle)
      have b2 : bitN (upS m q) (y x) = 1 := by omega
      have b3 := bitN_yes.1 b2
      rw [upS_bit hl] at b3
      have := h.state_up hk g hq hl (leB_is b3) hbq
      exact bitN_no.1 (by omega)
  · cases e : s.testBit x with
    | true => exact absurd (bit_lt hs e) hx
    | false =>
      cases e2 : (upS m q).testBit x with
      | false => rfl
      | true => exact absurd (bit_lt (bitS_is _ _).1 e2) hx
/-- The states in a list. -/
def stateL (m : Mx) (y : Nat → Nat) (o : Nat) : List Int := listTo (stateB m y o) (2 ^ m.n)
theorem Ortho.stateL_in (h : Ortho m z y o) {x : Int} (e : x ∈ stateL m y o) : ∃ s : Nat, x = (s : Int) ∧ s < 2 ^ m.n ∧ State m y o s := by
  obtain ⟨c, e1, h1, h2⟩ := listTo_in e
  exact ⟨c, e1, h1, h.state_iff.1 h2⟩
theorem Ortho.stateL_has (h : Ortho m z y o) {s : Nat} (hs : s < 2 ^ m.n) (g : State m y o s) : (s : Int) ∈ stateL m y o := listTo_has hs (h.state_iff.2 g)
/-- Of an answer and its opposite there are together as many as states. -/
theorem Ortho.told_all (h : Ortho m z y o) {a : Nat} (ha : a < m.n) : withN (stateL m y o) a + withN (stateL m y o) (y a) = (stateL m y o).length := by
  have key : ∀ xs : List Int, (∀ x ∈ xs, ∃ s : Nat, x = (s : Int) ∧ State m y o s) → withN xs a + withN xs (y a) = xs.length := by
    intro xs
    induction xs with
    | nil => intro _; rfl
    | cons q r ih =>
      intro hh
      have e : ∀ a, withN (q :: r) a = (if q.toNat.testBit a = true then 1 else 0) + withN r a := fun a => by
        unfold withN
        rw [List.map_cons, List.sum_cons]
      have i1 := ih fun x hx => hh x (List.mem_cons_of_mem _ hx)
      obtain ⟨s, rfl, g⟩ := hh q List.mem_cons_self
      have o1 := g.one a ha
      unfold bitN at o1
      rw [e, e, List.length_cons, Int.toNat_natCast]
      omega
  exact key _ fun x hx => by
    obtain ⟨s, e, _, g⟩ := h.stateL_in hx
    exact ⟨s, e, g⟩
theorem withN_none {xs : List Int} {a : Nat} (h : ∀ x ∈ xs, x.toNat.testBit a = false) : withN xs a = 0 := by
  induction xs with
  | nil => rfl
  | cons q r ih =>
    have e : withN (q :: r) a = (if q.toNat.testBit a = true then 1 else 0) + withN r a := by
      unfold withN
      rw [List.map_cons, List.sum_cons]
    rw [e, h q List.mem_cons_self, ih fun x hx => h x (List.mem_cons_of_mem _ hx)]
    rfl
theorem Ortho.told_no (h : Ortho m z y o) : withN (stateL m y o) o = 0 := withN_none fun x hx => by
  obtain ⟨s, rfl, _, g⟩ := h.stateL_in hx
  rw [Int.toNat_natCast]
  exact bitN_no.1 (h.state_no g)
/-- A logic of one block has as many states as atoms. -/
theorem Ortho.state_count (h : Ortho m z y o) (hb : boolB m = true) : (stateL m y o).length = (atomsTo m m.n).length := by
  have hord := h.lat.order
  have get : ∀ i, i < (stateL m y o).length → ∃ s : Nat, (stateL m y o)[i]?.getD 0 = (s : Int) ∧ s < 2 ^ m.n ∧ State m y o s := fun i hi => by
    have : (stateL m y o)[i]?.getD 0 ∈ stateL m y o := by simp [hi]
    exact h.stateL_in this
  have at' : ∀ i, ∃ j, i < (stateL m y o).length → j < (atomsTo m m.n).length ∧ (stateL m y o)[i]?.getD 0 = ((upS m (atomY m j) : Nat) : Int) := fun i => by
    by_cases hi : i < (stateL m y o).length
    · obtain ⟨s, e, hs, g⟩ := get i hi
      obtain ⟨p, hp, p2, rfl⟩ := h.state_atom hb hs g
      obtain ⟨j, hj, ej⟩ := atomY_all hp p2
      exact ⟨j, fun _ => ⟨hj, by rw [e, ej]⟩⟩
    · exact ⟨0, fun q => absurd q hi⟩
  have le1 : (stateL m y o).length ≤ (atomsTo m m.n).length := inj_le _ _ (fun i => Classical.choose (at' i)) (fun i hi => (Classical.choose_spec (at' i) hi).1) fun i j hi hj e => by
    have e1 := (Classical.choose_spec (at' i) hi).2
    have e2 := (Classical.choose_spec (at' j) hj).2
    have e' : Classical.choose (at' i) = Classical.choose (at' j) := e
    rw [e', ← e2] at e1
    have hp := listTo_up (stateB m y o) (2 ^ m.n)
    have hpw : ∀ i j, i < j → j < (stateL m y o).length → (stateL m y o)[i]?.getD 0 < (stateL m y o)[j]?.getD 0 := fun i j hij hj => by
      have hi : i < (stateL m y o).length := by omega
      have := List.pairwise_iff_getElem.1 hp i j hi hj hij
      rw [List.getElem?_eq_getElem hi, List.getElem?_eq_getElem hj]
      exact this
    rcases Nat.lt_trichotomy i j with g | g | g
    · have := hpw i j g hj; omega
    · exact g
    · have := hpw j i g hi; omega
  have bt : ∀ j, ∃ i, j < (atomsTo m m.n).length → i < (stateL m y o).length ∧ (stateL m y o)[i]?.getD 0 = ((upS m (atomY m j) : Nat) : Int) := fun j => by
    by_cases hj : j < (atomsTo m m.n).length
    · obtain ⟨pn, p2⟩ := atomY_is hj
      have := h.stateL_has (bitS_is _ _).1 (h.up_state hb pn p2)
      obtain ⟨i, hi, e⟩ := List.getElem_of_mem this
      exact ⟨i, fun _ => ⟨hi, by rw [List.getElem?_eq_getElem hi]; exact e⟩⟩
    · exact ⟨0, fun q => absurd q hj⟩
  have le2 : (atomsTo m m.n).length ≤ (stateL m y o).length := inj_le _ _ (fun j => Classical.choose (bt j)) (fun j hj => (Classical.choose_spec (bt j) hj).1) fun i j hi hj e => by
    have e1 := (Classical.choose_spec (bt i) hi).2
    have e2 := (Classical.choose_spec (bt j) hj).2
    have e' : Classical.choose (bt i) = Classical.choose (bt j) := e
    rw [e'] at e1
    have e3 : upS m (atomY m i) = upS m (atomY m j) := by have := e1.symm.trans e2; omega
    obtain ⟨pi, pi2⟩ := atomY_is hi
    obtain ⟨pj, pj2⟩ := atomY_is hj
    have l1 : leB m (atomY m i) (atomY m j) = true := by
      rw [← upS_bit pj, e3, upS_bit pj]; exact leB_mk (hord.refl _ pj)
    have l2 : leB m (atomY m j) (atomY m i) = true := by
      rw [← upS_bit pi, ← e3, upS_bit pi]; exact leB_mk (hord.refl _ pi)
    exact atomY_inj hi hj (le_eq hord pi pj (leB_is l1) (leB_is l2))
  omega
/-- A logic of one block has enough states. -/
theorem Ortho.bool_full (h : Ortho m z y o) (hb : boolB m = true) {a b : Nat} (ha : a < m.n) (hbn : b < m.n) (hl : leB m a b = false) : ∃ s, s < 2 ^ m.n ∧ State m y o s ∧ bitN s a = 1 ∧ bitN s b = 0 := by
  have hord := h.lat.order
  have hD := h.bool_dist.1 hb
  have hne : h.ol.m ⟨a, ha⟩ (h.ol.c ⟨b, hbn⟩) ≠ h.ol.o := fun e => by
    have : h.ol.le ⟨a, ha⟩ ⟨b, hbn⟩ := hD.le_of e
    rw [leB_mk (show m.Z a b = 1 from this)] at hl
    cases hl
  obtain ⟨p, hp, p2, pz⟩ := atom_under hord h.ho h.least (countI m (h.ol.m ⟨a, ha⟩ (h.ol.c ⟨b, hbn⟩)).val).toNat _ (h.ol.m ⟨a, ha⟩ (h.ol.c ⟨b, hbn⟩)).2 (fun e => hne (Fin.ext e)) (by omega)
  have pz' : h.ol.le ⟨p, hp⟩ (h.ol.m ⟨a, ha⟩ (h.ol.c ⟨b, hbn⟩)) := pz
  have g := h.up_state hb hp p2
  have pa : m.Z p a = 1 := h.ol.trans pz' (h.ol.ml _ _)
  have pb : m.Z p (y b) = 1 := h.ol.trans pz' (h.ol.mr _ _)
  have b1 : bitN (upS m p) a = 1 := bitN_yes.2 (by rw [upS_bit ha]; exact leB_mk pa)
  have b2 : bitN (upS m p) (y b) = 1 := bitN_yes.2 (by rw [upS_bit (h.lt b hbn)]; exact leB_mk pb)
  have := g.one b hbn
  exact ⟨upS m p, (bitS_is _ _).1, g, b1, by omega⟩
end
end Go.Proofs.Ytnbglbhfclohjaa
