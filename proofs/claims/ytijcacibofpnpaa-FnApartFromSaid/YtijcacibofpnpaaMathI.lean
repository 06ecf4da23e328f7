/- The plain mathematics of logics that are made: products, glued logics, logics under other names. The plain mathematics of glued logics. -/
import Derived.Test.YtijcacibofpnpaaMath
namespace Go.Proofs.Ytijcacibofpnpaa

/-- What makes rows and opposites a logic: meetings alone, since joins are opposites of meetings of opposites. -/
structure LogicData (n : Nat) (Z : Nat → Nat → Int) (y : Nat → Nat) (o : Nat) : Prop where
  pos : 1 ≤ n
  top : n ≤ 12
  bit : ∀ a b, a < n → b < n → Z a b = 0 ∨ Z a b = 1
  refl : ∀ a, a < n → Z a a = 1
  anti : ∀ a b, a < n → b < n → Z a b = 1 → Z b a = 1 → a = b
  trans : ∀ a b c, a < n → b < n → c < n → Z a b = 1 → Z b c = 1 → Z a c = 1
  lt : ∀ a, a < n → y a < n
  inv : ∀ a, a < n → y (y a) = a
  turn : ∀ a b, a < n → b < n → Z a b = 1 → Z (y b) (y a) = 1
  meet : ∀ a b, a < n → b < n → ∃ x, x < n ∧ Z x a = 1 ∧ Z x b = 1 ∧ ∀ c, c < n → Z c a = 1 → Z c b = 1 → Z c x = 1
  ho : o < n
  least : ∀ a, a < n → Z o a = 1
  kept : ∀ a c, a < n → c < n → Z c a = 1 → Z c (y a) = 1 → c = o
theorem LogicData.order {n : Nat} {Z : Nat → Nat → Int} {y : Nat → Nat} {o : Nat} (h : LogicData n Z y o) : IsOrder ⟨n, fun _ => n, Z⟩ :=
  ⟨h.pos, h.top, ⟨fun _ _ => rfl, fun r hr c hc => h.bit r c hr hc⟩, h.refl, fun a b ha hb hne hab => by
    rcases h.bit b a hb ha with e | e
    · exact e
    · exact absurd (h.anti a b ha hb hab e) hne, h.trans⟩
theorem hasI_of {m : Mx} (h : IsOrder m) {a b x : Nat} (hx : x < m.n) (h1 : m.Z x a = 1) (h2 : m.Z x b = 1) (h3 : ∀ c, c < m.n → m.Z c a = 1 → m.Z c b = 1 → m.Z c x = 1) : meetI m a b = (x : Int) :=
  meetI_of h hx (isMeet_mk (by unfold bothB; rw [leB_mk h1, leB_mk h2]; rfl) fun c hc hb => by
    unfold bothB at hb
    rw [Bool.and_eq_true] at hb
    exact leB_mk (h3 c hc (leB_is hb.1) (leB_is hb.2)))
theorem LogicData.lattice {n : Nat} {Z : Nat → Nat → Int} {y : Nat → Nat} {o : Nat} (h : LogicData n Z y o) : IsLattice ⟨n, fun _ => n, Z⟩ := by
  refine ⟨h.order, fun a b ha hb => ⟨?_, ?_⟩⟩
  · obtain ⟨x, hx, h1, h2, h3⟩ := h.meet a b ha hb
    rw [hasI_of h.order (x := x) hx h1 h2 h3]
    exact hasI_nat x
  · have ha' : a < n := ha
    have hb' : b < n := hb
    obtain ⟨x, hx, h1, h2, h3⟩ := h.meet (y a) (y b) (h.lt a ha') (h.lt b hb')
    have k1 : Z a (y x) = 1 := by
      have := h.turn x (y a) hx (h.lt a ha') h1
      rwa [h.inv a ha'] at this
    have k2 : Z b (y x) = 1 := by
      have := h.turn x (y b) hx (h.lt b hb') h2
      rwa [h.inv b hb'] at this
    have e := hasI_of (m := tr ⟨n, fun _ => n, Z⟩) (tr_order h.order) (a := a) (b := b) (x := y x) (h.lt x hx) k1 k2 fun c hc g1 g2 => by
      have hc' : c < n := hc
      have t1 : Z a c = 1 := g1
      have t2 : Z b c = 1 := g2
      have := h.turn (y c) x (h.lt c hc') hx (h3 (y c) (h.lt c hc') (h.turn a c ha' hc' t1) (h.turn b c hb' hc' t2))
      rw [h.inv c hc'] at this
      exact this
    rw [e]
    exact hasI_nat _
theorem LogicData.ortho {n : Nat} {Z : Nat → Nat → Int} {y : Nat → Nat} {o : Nat} (h : LogicData n Z y o) : Ortho ⟨n, fun _ => n, Z⟩ (fun a => (y a : Int)) y o :=
  ⟨h.lattice, fun _ _ => rfl, h.lt, h.inv, h.turn, h.ho, h.least, leastI_of h.order h.ho h.least, fun a ha =>
    hasI_of h.order (x := o) h.ho (h.least a ha) (h.least _ (h.lt a ha)) fun c hc g1 g2 => by
      rw [h.kept a c ha hc g1 g2]
      exact h.refl o h.ho⟩
theorem Ortho.logic {m : Mx} {z : Nat → Int} {y : Nat → Nat} {o : Nat} (h : Ortho m z y o) : IsLogic m m.n z := by
  have e : ∀ a, a < m.n → (z a).toNat = y a := fun a ha => by rw [h.zy a ha]; simp
  refine ⟨h.lat, ⟨rfl, fun a ha => by rw [h.zy a ha]; omega, fun a ha => by rw [h.zy a ha]; have := h.lt a ha; omega, fun a ha => by rw [e a ha, h.zy _ (h.lt a ha), h.inv a ha]⟩, ?_, ?_⟩
  · refine (turnB_congr e).trans (allB_true fun a ha => allB_true fun b hb => ?_)
    unfold turnPB
    cases hl : leB m a b with
    | false => rfl
    | true => rw [leB_mk (h.turn a b ha hb (leB_is hl))]; rfl
  · refine (keptB_congr e).trans (allB_true fun a ha => ?_)
    unfold keptPB
    rw [h.kept a ha, h.eq]
    simp
theorem LogicData.logic {n : Nat} {Z : Nat → Nat → Int} {y : Nat → Nat} {o : Nat} (h : LogicData n Z y o) : IsLogic ⟨n, fun _ => n, Z⟩ n (fun a => (y a : Int)) := h.ortho.logic
/-- A logic is such data. -/
theorem Ortho.data {m : Mx} {z : Nat → Int} {y : Nat → Nat} {o : Nat} (h : Ortho m z y o) : LogicData m.n m.Z y o :=
  ⟨h.lat.order.pos, h.lat.order.top, fun a b ha hb => h.lat.order.sq.bit a ha b hb, h.lat.order.refl, fun a b ha hb h1 h2 => le_anti h.lat.order ha hb (leB_mk h1) (leB_mk h2), h.lat.order.trans, h.lt, h.inv, h.turn,
   fun a b ha hb => by
     obtain ⟨x, hx, _, h1, h2, h3⟩ := meetI_parts (h.lat.both a b ha hb).meets
     exact ⟨x, hx, h1, h2, h3⟩, h.ho, fun a ha => h.least a ha, fun a c ha hc g1 g2 => h.under hc ha g1 g2⟩

/-! ### Products -/
def timesZ (n : Nat) (Z1 Z2 : Nat → Nat → Int) (k j : Nat) : Int := Z1 (k / n) (j / n) * Z2 (k % n) (j % n)
def timesY (n : Nat) (y1 y2 : Nat → Nat) (k : Nat) : Nat := y1 (k / n) * n + y2 (k % n)
theorem div_pair {n a b : Nat} (hb : b < n) : (a * n + b) / n = a := by
  rw [Nat.mul_comm, Nat.mul_add_div (by omega), Nat.div_eq_of_lt hb, Nat.add_zero]
theorem mod_pair {n a b : Nat} (hb : b < n) : (a * n + b) % n = b := by
  rw [Nat.mul_comm, Nat.mul_add_mod, Nat.mod_eq_of_lt hb]
theorem pair_lt {n n1 a b : Nat} (ha : a < n1) (hb : b < n) : a * n + b < n1 * n := by
  have h1 : (a + 1) * n ≤ n1 * n := Nat.mul_le_mul_right n ha
  rw [Nat.add_mul] at h1
  omega
theorem pair_parts {n n1 k : Nat} (h : k < n1 * n) : k / n < n1 ∧ k % n < n ∧ k = k / n * n + k % n := by
  have hn : 0 < n := by
    rcases Nat.eq_zero_or_pos n with e | e
    · rw [e] at h; omega
    · exact e
  exact ⟨(Nat.div_lt_iff_lt_mul hn).2 h, Nat.mod_lt k hn, by rw [Nat.mul_comm]; exact (Nat.div_add_mod k n).symm⟩
theorem bits_mul {a b : Int} (h1 : a = 0 ∨ a = 1) (h2 : b = 0 ∨ b = 1) : (a * b = 0 ∨ a * b = 1) ∧ (a * b = 1 ↔ a = 1 ∧ b = 1) := by
  rcases h1 with rfl | rfl <;> rcases h2 with rfl | rfl <;> simp
theorem times_data {n1 n2 o1 o2 : Nat} {Z1 Z2 : Nat → Nat → Int} {y1 y2 : Nat → Nat} (h1 : LogicData n1 Z1 y1 o1) (h2 : LogicData n2 Z2 y2 o2) (hn : n1 * n2 ≤ 12) : LogicData (n1 * n2) (timesZ n2 Z1 Z2) (timesY n2 y1 y2) (o1 * n2 + o2) := by
  have one : ∀ k j, k < n1 * n2 → j < n1 * n2 → (timesZ n2 Z1 Z2 k j = 1 ↔ Z1 (k / n2) (j / n2) = 1 ∧ Z2 (k % n2) (j % n2) = 1) := fun k j hk hj => by
    obtain ⟨a1, a2, _⟩ := pair_parts hk
    obtain ⟨b1, b2, _⟩ := pair_parts hj
    exact (bits_mul (h1.bit _ _ a1 b1) (h2.bit _ _ a2 b2)).2
  have ypair : ∀ k, k < n1 * n2 → timesY n2 y1 y2 k < n1 * n2 ∧ timesY n2 y1 y2 k / n2 = y1 (k / n2) ∧ timesY n2 y1 y2 k % n2 = y2 (k % n2) := fun k hk => by
    obtain ⟨a1, a2, _⟩ := pair_parts hk
    exact ⟨pair_lt (h1.lt _ a1) (h2.lt _ a2), div_pair (h2.lt _ a2), mod_pair (h2.lt _ a2)⟩
  refine ⟨?_, hn, fun k j hk hj => ?_, fun k hk => ?_, fun k j hk hj e1 e2 => ?_, fun k j c hk hj hc e1 e2 => ?_, fun k hk => (ypair k hk).1, fun k hk => ?_, fun k j hk hj e => ?_, fun k j hk hj => ?_, ?_, fun k hk => ?_, fun k c hk hc e1 e2 => ?_⟩
  · exact Nat.mul_pos h1.pos h2.pos
  · obtain ⟨a1, a2, _⟩ := pair_parts hk
    obtain ⟨b1, b2, _⟩ := pair_parts hj
    exact (bits_mul (h1.bit _ _ a1 b1) (h2.bit _ _ a2 b2)).1
  · obtain ⟨a1, a2, _⟩ := pair_parts hk
    exact (one k k hk hk).2 ⟨h1.refl _ a1, h2.refl _ a2⟩
  · obtain ⟨a1, a2, a3⟩ := pair_parts hk
    obtain ⟨b1, b2, b3⟩ := pair_parts hj
    obtain ⟨f1, f2⟩ := (one k j hk hj).1 e1
    obtain ⟨g1, g2⟩ := (one j k hj hk).1 e2
    rw [a3, b3, h1.anti _ _ a1 b1 f1 g1, h2.anti _ _ a2 b2 f2 g2]
  · obtain ⟨a1, a2, _⟩ := pair_parts hk
    obtain ⟨b1, b2, _⟩ := pair_parts hj
    obtain ⟨c1, c2, _⟩ := pair_parts hc
    obtain ⟨f1, f2⟩ := (one k j hk hj).1 e1
    obtain ⟨g1, g2⟩ := (one j c hj hc).1 e2
    exact (one k c hk hc).2 ⟨h1.trans _ _ _ a1 b1 c1 f1 g1, h2.trans _ _ _ a2 b2 c2 f2 g2⟩
  · obtain ⟨a1, a2, a3⟩ := pair_parts hk
    obtain ⟨_, p1, p2⟩ := ypair k hk
    show y1 (timesY n2 y1 y2 k / n2) * n2 + y2 (timesY n2 y1 y2 k % n2) = k
    rw [p1, p2, h1.inv _ a1, h2.inv _ a2, ← a3]
  · obtain ⟨a1, a2, _⟩ := pair_parts hk
    obtain ⟨b1, b2, _⟩ := pair_parts hj
    obtain ⟨p0, p1, p2⟩ := ypair k hk
    obtain ⟨q0, q1, q2⟩ := ypair j hj
    obtain ⟨f1, f2⟩ := (one k j hk hj).1 e
    refine (one _ _ q0 p0).2 ?_
    rw [p1, p2, q1, q2]
    exact ⟨h1.turn _ _ a1 b1 f1, h2.turn _ _ a2 b2 f2⟩
  · obtain ⟨a1, a2, _⟩ := pair_parts hk
    obtain ⟨b1, b2, _⟩ := pair_parts hj
    obtain ⟨x1, hx1, u1, u2, u3⟩ := h1.meet _ _ a1 b1
    obtain ⟨x2, hx2, v1, v2, v3⟩ := h2.meet _ _ a2 b2
    have hx : x1 * n2 + x2 < n1 * n2 := pair_lt hx1 hx2
    refine ⟨x1 * n2 + x2, hx, (one _ _ hx hk).2 ?_, (one _ _ hx hj).2 ?_, fun c hc e1 e2 => (one _ _ hc hx).2 ?_⟩
    · rw [div_pair hx2, mod_pair hx2]; exact ⟨u1, v1⟩
    · rw [div_pair hx2, mod_pair hx2]; exact ⟨u2, v2⟩
    · obtain ⟨c1, c2, _⟩ := pair_parts hc
      obtain ⟨f1, f2⟩ := (one c k hc hk).1 e1
      obtain ⟨g1, g2⟩ := (one c j hc hj).1 e2
      rw [div_pair hx2, mod_pair hx2]
      exact ⟨u3 _ c1 f1 g1, v3 _ c2 f2 g2⟩
  · exact pair_lt h1.ho h2.ho
  · obtain ⟨a1, a2, _⟩ := pair_parts hk
    refine (one _ _ (pair_lt h1.ho h2.ho) hk).2 ?_
    rw [div_pair h2.ho, mod_pair h2.ho]
    exact ⟨h1.least _ a1, h2.least _ a2⟩
  · obtain ⟨a1, a2, _⟩ := pair_parts hk
    obtain ⟨c1, c2, c3⟩ := pair_parts hc
    obtain ⟨p0, p1, p2⟩ := ypair k hk
    obtain ⟨f1, f2⟩ := (one c k hc hk).1 e1
    obtain ⟨g1, g2⟩ := (one c _ hc p0).1 e2
    rw [p1] at g1
    rw [p2] at g2
    rw [c3, h1.kept _ _ a1 c1 f1 g1, h2.kept _ _ a2 c2 f2 g2]

/-! ### Other names -/
/-- A row of all numbers below n, each once, and its reverse. -/
structure Perm (n : Nat) (q b : Nat → Nat) : Prop where
  lt : ∀ k, k < n → q k < n
  blt : ∀ k, k < n → b k < n
  qb : ∀ k, k < n → q (b k) = k
  bq : ∀ k, k < n → b (q k) = k
def nameZ (Z : Nat → Nat → Int) (q : Nat → Nat) (k j : Nat) : Int := Z (q k) (q j)
theorem name_data {n o : Nat} {Z : Nat → Nat → Int} {y q b : Nat → Nat} (h : LogicData n Z y o) (hp : Perm n q b) : LogicData n (nameZ Z q) (fun k => b (y (q k))) (b o) := by
  have inj : ∀ k j, k < n → j < n → q k = q j → k = j := fun k j hk hj e => by rw [← hp.bq k hk, e, hp.bq j hj]
  refine ⟨h.pos, h.top, fun k j hk hj => h.bit _ _ (hp.lt k hk) (hp.lt j hj), fun k hk => h.refl _ (hp.lt k hk), fun k j hk hj e1 e2 => inj k j hk hj (h.anti _ _ (hp.lt k hk) (hp.lt j hj) e1 e2), fun k j c hk hj hc e1 e2 => h.trans _ _ _ (hp.lt k hk) (hp.lt j hj) (hp.lt c hc) e1 e2, fun k hk => hp.blt _ (h.lt _ (hp.lt k hk)), fun k hk => ?_, fun k j hk hj e => ?_, fun k j hk hj => ?_, hp.blt o h.ho, fun k hk => ?_, fun k c hk hc e1 e2 => ?_⟩
  · show b (y (q (b (y (q k))))) = k
    rw [hp.qb _ (h.lt _ (hp.lt k hk)), h.inv _ (hp.lt k hk), hp.bq k hk]
  · show Z (q (b (y (q j)))) (q (b (y (q k)))) = 1
    rw [hp.qb _ (h.lt _ (hp.lt k hk)), hp.qb _ (h.lt _ (hp.lt j hj))]
    exact h.turn _ _ (hp.lt k hk) (hp.lt j hj) e
  · obtain ⟨x, hx, u1, u2, u3⟩ := h.meet _ _ (hp.lt k hk) (hp.lt j hj)
    refine ⟨b x, hp.blt x hx, ?_, ?_, fun c hc e1 e2 => ?_⟩
    · show Z (q (b x)) (q k) = 1; rw [hp.qb x hx]; exact u1
    · show Z (q (b x)) (q j) = 1; rw [hp.qb x hx]; exact u2
    · show Z (q c) (q (b x)) = 1; rw [hp.qb x hx]; exact u3 _ (hp.lt c hc) e1 e2
  · show Z (q (b o)) (q k) = 1
    rw [hp.qb o h.ho]
    exact h.least _ (hp.lt k hk)
  · have e2' : Z (q c) (q (b (y (q k)))) = 1 := e2
    rw [hp.qb _ (h.lt _ (hp.lt k hk))] at e2'
    rw [← h.kept _ _ (hp.lt k hk) (hp.lt c hc) e1 e2', hp.bq c hc]
theorem name_meet {n o : Nat} {Z : Nat → Nat → Int} {y q b : Nat → Nat} (h : LogicData n Z y o) (hp : Perm n q b) {k j x : Nat} (hk : k < n) (hj : j < n) (hx : x < n) (hm : meetI ⟨n, fun _ => n, nameZ Z q⟩ k j = (x : Int)) : meetI ⟨n, fun _ => n, Z⟩ (q k) (q j) = (q x : Int) := by
  obtain ⟨x', hx', e, h1, h2, h3⟩ := meetI_parts ((name_data h hp).lattice.both k j hk hj).meets
  have : x' = x := by omega
  subst this
  refine hasI_of h.order (hp.lt x' hx) h1 h2 fun c hc g1 g2 => ?_
  have hc' : c < n := hc
  have h4 := h3 (b c) (hp.blt c hc') (by show Z (q (b c)) (q k) = 1; rw [hp.qb c hc']; exact g1) (by show Z (q (b c)) (q j) = 1; rw [hp.qb c hc']; exact g2)
  have h5 : Z (q (b c)) (q x') = 1 := h4
  rwa [hp.qb c hc'] at h5
/-- A sum over all numbers is the sum over them under other names. -/
theorem sum_perm {n : Nat} {q b : Nat → Nat} (hp : Perm n q b) (f : Nat → Int) : sumTo n (fun r => f (q r)) = sumTo n f := by
  have e1 : ∀ r, r < n → f (q r) = sumTo n (fun i => if q r = i then f i else 0) := fun r hr => by
    have key : ∀ k, sumTo k (fun i => if q r = i then f i else 0) = if q r < k then f (q r) else 0 := fun k => by
      induction k with
      | zero => rfl
      | succ k ih =>
        simp only [sumTo, ih]
        by_cases e : q r = k
        · rw [if_neg (by omega), if_pos e, if_pos (by omega), ← e]; omega
        · rw [if_neg e]
          by_cases e2 : q r < k
          · rw [if_pos e2, if_pos (by omega)]; omega
          · rw [if_neg e2, if_neg (by omega)]; omega
    rw [key n, if_pos (hp.lt r hr)]
  rw [sumTo_congr n e1, sumTo_swap]
  refine sumTo_congr n fun i hi => ?_
  have key : ∀ k, sumTo k (fun r => if q r = i then f i else 0) = if b i < k ∧ k ≤ n then f i else sumTo k (fun r => if q r = i then f i else 0) := fun k => by
    by_cases hc : b i < k ∧ k ≤ n
    · rw [if_pos hc]
      obtain ⟨h1, h2⟩ := hc
      clear e1
      induction k with
      | zero => omega
      | succ k ih =>
        simp only [sumTo]
        by_cases e : b i = k
        · have hz : ∀ j, j ≤ k → sumTo j (fun r => if q r = i then f i else 0) = 0 := fun j => by
            induction j with
            | zero => intro _; rfl
            | succ j ihj =>
              intro hj
              simp only [sumTo]
              rw [ihj (by omega), if_neg fun e2 => by
                have := hp.bq j (by omega)
                rw [e2] at this
                omega]
              rfl
          rw [hz k (Nat.le_refl k), if_pos (by rw [← e]; exact hp.qb i hi)]
          omega
        · rw [ih (by omega) (by omega), if_neg fun e2 => by
            have := hp.bq k (by omega)
            rw [e2] at this
            omega]
          omega
    · rw [if_neg hc]
  rw [key n, if_pos ⟨hp.blt i hi, Nat.le_refl n⟩]
theorem atoms_len (m : Mx) (k : Nat) : ((atomsTo m k).length : Int) = sumTo k (fun c => if countI m c = 2 then 1 else 0) := by
  induction k with
  | zero => rfl
  | succ k ih =>
    by_cases e : countI m k = 2
    · rw [atomsTo_yes e, List.length_append]
      simp only [sumTo, if_pos e, ← ih]
      simp
    · rw [atomsTo_no e]
      simp only [sumTo, if_neg e, ← ih]
      omega
theorem name_atoms {n : Nat} {Z : Nat → Nat → Int} {q b : Nat → Nat} (hp : Perm n q b) : (atomsTo ⟨n, fun _ => n, nameZ Z q⟩ n).length = (atomsTo ⟨n, fun _ => n, Z⟩ n).length := by
  have hc : ∀ k, countI ⟨n, fun _ => n, nameZ Z q⟩ k = countI ⟨n, fun _ => n, Z⟩ (q k) := fun k => sum_perm hp (fun i => Z i (q k))
  have h1 := atoms_len ⟨n, fun _ => n, nameZ Z q⟩ n
  have h2 := atoms_len ⟨n, fun _ => n, Z⟩ n
  have h3 := sum_perm hp (fun c => if countI ⟨n, fun _ => n, Z⟩ c = 2 then (1 : Int) else 0)
  rw [sumTo_congr n (fun k _ => by rw [hc k])] at h1
  omega
end Go.Proofs.Ytijcacibofpnpaa
namespace Go.Proofs.Ytijcacibofpnpaa

/-- So many numbers below n, none of them lo or hi, each other number once. -/
structure Inner (n lo hi p : Nat) (f : Nat → Nat) : Prop where
  len : p + 2 = n
  lt : ∀ i, i < p → f i < n
  nlo : ∀ i, i < p → f i ≠ lo
  nhi : ∀ i, i < p → f i ≠ hi
  inj : ∀ i j, i < p → j < p → f i = f j → i = j
  all : ∀ c, c < n → c ≠ lo → c ≠ hi → ∃ i, i < p ∧ f i = c

/-- One side of what is glued: the logic's inner answers at s + 1 .. s + p. -/
def sideZ (Z : Nat → Nat → Int) (f : Nat → Nat) (s k j : Nat) : Int := Z (f (k - s - 1)) (f (j - s - 1))
def gluedZ (p r : Nat) (Z1 Z2 : Nat → Nat → Int) (f1 f2 : Nat → Nat) (k j : Nat) : Int :=
  if k = 0 ∨ j = p + r + 1 then 1
  else if 1 ≤ k ∧ k ≤ p ∧ 1 ≤ j ∧ j ≤ p then sideZ Z1 f1 0 k j
  else if p + 1 ≤ k ∧ k ≤ p + r ∧ p + 1 ≤ j ∧ j ≤ p + r then sideZ Z2 f2 p k j
  else if k = j then 1 else 0
/-- Where a number stands: at the bottom, at the top, on the first side, on the second one. -/
theorem stands (p r k : Nat) (h : k < p + r + 2) : k = 0 ∨ k = p + r + 1 ∨ (∃ i, i < p ∧ k = i + 1) ∨ (∃ i, i < r ∧ k = p + i + 1) := by
  by_cases h0 : k = 0
  · exact .inl h0
  · by_cases h1 : k = p + r + 1
    · exact .inr (.inl h1)
    · by_cases h2 : k ≤ p
      · exact .inr (.inr (.inl ⟨k - 1, by omega, by omega⟩))
      · exact .inr (.inr (.inr ⟨k - p - 1, by omega, by omega⟩))
section
variable {p r : Nat} {Z1 Z2 : Nat → Nat → Int} {f1 f2 : Nat → Nat}
theorem gz_bot (j : Nat) : gluedZ p r Z1 Z2 f1 f2 0 j = 1 := by unfold gluedZ; rw [if_pos (.inl rfl)]
theorem gz_top (k : Nat) : gluedZ p r Z1 Z2 f1 f2 k (p + r + 1) = 1 := by unfold gluedZ; rw [if_pos (.inr rfl)]
theorem gz_AA {i j : Nat} (hi : i < p) (hj : j < p) : gluedZ p r Z1 Z2 f1 f2 (i + 1) (j + 1) = Z1 (f1 i) (f1 j) := by
  unfold gluedZ sideZ
  rw [if_neg (by omega), if_pos (by omega)]
  rw [show i + 1 - 0 - 1 = i by omega, show j + 1 - 0 - 1 = j by omega]
theorem gz_BB {i j : Nat} (hi : i < r) (hj : j < r) : gluedZ p r Z1 Z2 f1 f2 (p + i + 1) (p + j + 1) = Z2 (f2 i) (f2 j) := by
  unfold gluedZ sideZ
  rw [if_neg (by omega), if_neg (by omega), if_pos (by omega)]
  rw [show p + i + 1 - p - 1 = i by omega, show p + j + 1 - p - 1 = j by omega]
theorem gz_AB {i j : Nat} (hi : i < p) (hj : j < r) : gluedZ p r Z1 Z2 f1 f2 (i + 1) (p + j + 1) = 0 := by
  unfold gluedZ
  rw [if_neg (by omega), if_neg (by omega), if_neg (by omega), if_neg (by omega)]
theorem gz_BA {i j : Nat} (_ : i < r) (_ : j < p) : gluedZ p r Z1 Z2 f1 f2 (p + i + 1) (j + 1) = 0 := by
  unfold gluedZ
  rw [if_neg (by omega), if_neg (by omega), if_neg (by omega), if_neg (by omega)]
theorem gz_A0 {i : Nat} (hi : i < p) : gluedZ p r Z1 Z2 f1 f2 (i + 1) 0 = 0 := by
  unfold gluedZ
  rw [if_neg (by omega), if_neg (by omega), if_neg (by omega), if_neg (by omega)]
theorem gz_B0 {i : Nat} (_ : i < r) : gluedZ p r Z1 Z2 f1 f2 (p + i + 1) 0 = 0 := by
  unfold gluedZ
  rw [if_neg (by omega), if_neg (by omega), if_neg (by omega), if_neg (by omega)]
theorem gz_T0 : gluedZ p r Z1 Z2 f1 f2 (p + r + 1) 0 = 0 := by
  unfold gluedZ
  rw [if_neg (by omega), if_neg (by omega), if_neg (by omega), if_neg (by omega)]
theorem gz_TA {j : Nat} (hj : j < p) : gluedZ p r Z1 Z2 f1 f2 (p + r + 1) (j + 1) = 0 := by
  unfold gluedZ
  rw [if_neg (by omega), if_neg (by omega), if_neg (by omega), if_neg (by omega)]
theorem gz_TB {j : Nat} (hj : j < r) : gluedZ p r Z1 Z2 f1 f2 (p + r + 1) (p + j + 1) = 0 := by
  unfold gluedZ
  rw [if_neg (by omega), if_neg (by omega), if_neg (by omega), if_neg (by omega)]
end

/-- The opposites of a side: the place of the opposite. -/
structure SideY (p s : Nat) (f y : Nat → Nat) (g : Nat → Nat) : Prop where
  at_ : ∀ i, i < p → ∃ j, j < p ∧ g (s + i + 1) = s + j + 1 ∧ f j = y (f i)

theorem glued_data {n1 n2 o1 o2 p r : Nat} {Z1 Z2 : Nat → Nat → Int} {y1 y2 f1 f2 g : Nat → Nat} (h1 : LogicData n1 Z1 y1 o1) (h2 : LogicData n2 Z2 y2 o2) (i1 : Inner n1 o1 (y1 o1) p f1) (i2 : Inner n2 o2 (y2 o2) r f2) (hn : p + r + 2 ≤ 12)
    (g0 : g 0 = p + r + 1) (gT : g (p + r + 1) = 0) (gA : SideY p 0 f1 y1 g) (gB : SideY r p f2 y2 g) : LogicData (p + r + 2) (gluedZ p r Z1 Z2 f1 f2) g 0 := by
  have up1 : ∀ c, c < n1 → Z1 c (y1 o1) = 1 := fun c hc => by
    have := h1.turn o1 (y1 c) h1.ho (h1.lt c hc) (h1.least _ (h1.lt c hc))
    rwa [h1.inv c hc] at this
  have up2 : ∀ c, c < n2 → Z2 c (y2 o2) = 1 := fun c hc => by
    have := h2.turn o2 (y2 c) h2.ho (h2.lt c hc) (h2.least _ (h2.lt c hc))
    rwa [h2.inv c hc] at this
  have notT1 : ∀ i c, i < p → c < n1 → Z1 c (f1 i) = 1 → c ≠ y1 o1 := fun i c hi hc e e2 => by
    rw [e2] at e
    exact i1.nhi i hi (h1.anti _ _ (i1.lt i hi) (h1.lt _ h1.ho) (up1 _ (i1.lt i hi)) e)
  have notT2 : ∀ i c, i < r → c < n2 → Z2 c (f2 i) = 1 → c ≠ y2 o2 := fun i c hi hc e e2 => by
    rw [e2] at e
    exact i2.nhi i hi (h2.anti _ _ (i2.lt i hi) (h2.lt _ h2.ho) (up2 _ (i2.lt i hi)) e)
  have yinv1 : ∀ i j, i < p → j < p → f1 j = y1 (f1 i) → f1 i = y1 (f1 j) := fun i j hi hj e => by rw [e, h1.inv _ (i1.lt i hi)]
  have yinv2 : ∀ i j, i < r → j < r → f2 j = y2 (f2 i) → f2 i = y2 (f2 j) := fun i j hi hj e => by rw [e, h2.inv _ (i2.lt i hi)]
  refine ⟨by omega, hn, fun k j hk hj => ?_, fun k hk => ?_, fun k j hk hj e1 e2 => ?_, fun k j c hk hj hc e1 e2 => ?_, fun k hk => ?_, fun k hk => ?_, fun k j hk hj e => ?_, fun k j hk hj => ?_, by omega, fun k hk => gz_bot k, fun k c hk hc e1 e2 => ?_⟩
  · unfold gluedZ
    split
    · exact .inr rfl
    · split
      · rename_i _ h
        exact h1.bit _ _ (i1.lt _ (by omega)) (i1.lt _ (by omega))
      · split
        · rename_i _ _ h
          exact h2.bit _ _ (i2.lt _ (by omega)) (i2.lt _ (by omega))
        · split
          · exact .inr rfl
          · exact .inl rfl
  · rcases stands p r k hk with rfl | rfl | ⟨i, hi, rfl⟩ | ⟨i, hi, rfl⟩
    · exact gz_bot _
    · exact gz_top _
    · rw [gz_AA hi hi]; exact h1.refl _ (i1.lt i hi)
    · rw [gz_BB hi hi]; exact h2.refl _ (i2.lt i hi)
  · rcases stands p r k hk with rfl | rfl | ⟨i, hi, rfl⟩ | ⟨i, hi, rfl⟩ <;> rcases stands p r j hj with rfl | rfl | ⟨i', hi', rfl⟩ | ⟨i', hi', rfl⟩
    · rfl
    · rw [gz_T0] at e2; omega
    · rw [gz_A0 hi'] at e2; omega
    · rw [gz_B0 hi'] at e2; omega
    · rw [gz_T0] at e1; omega
    · rfl
    · rw [gz_TA hi'] at e1; omega
    · rw [gz_TB hi'] at e1; omega
    · rw [gz_A0 hi] at e1; omega
    · rw [gz_TA hi] at e2; omega
    · rw [gz_AA hi hi'] at e1
      rw [gz_AA hi' hi] at e2
      rw [i1.inj i i' hi hi' (h1.anti _ _ (i1.lt i hi) (i1.lt i' hi') e1 e2)]
    · rw [gz_AB hi hi'] at e1; omega
    · rw [gz_B0 hi] at e1; omega
    · rw [gz_TB hi] at e2; omega
    · rw [gz_BA hi hi'] at e1; omega
    · rw [gz_BB hi hi'] at e1
      rw [gz_BB hi' hi] at e2
      rw [i2.inj i i' hi hi' (h2.anti _ _ (i2.lt i hi) (i2.lt i' hi') e1 e2)]
  · rcases stands p r k hk with rfl | rfl | ⟨i, hi, rfl⟩ | ⟨i, hi, rfl⟩
    · exact gz_bot _
    · rcases stands p r j hj with rfl | rfl | ⟨i', hi', rfl⟩ | ⟨i', hi', rfl⟩
      · rw [gz_T0] at e1; omega
      · exact e2
      · rw [gz_TA hi'] at e1; omega
      · rw [gz_TB hi'] at e1; omega
    · rcases stands p r c hc with rfl | rfl | ⟨i'', hi'', rfl⟩ | ⟨i'', hi'', rfl⟩
      · rcases stands p r j hj with rfl | rfl | ⟨i', hi', rfl⟩ | ⟨i', hi', rfl⟩
        · exact e1
        · rw [gz_T0] at e2; omega
        · rw [gz_A0 hi'] at e2; omega
        · rw [gz_B0 hi'] at e2; omega
      · exact gz_top _
      · rcases stands p r j hj with rfl | rfl | ⟨i', hi', rfl⟩ | ⟨i', hi', rfl⟩
        · rw [gz_A0 hi] at e1; omega
        · rw [gz_TA hi''] at e2; omega
        · rw [gz_AA hi hi'] at e1
          rw [gz_AA hi' hi''] at e2
          rw [gz_AA hi hi'']
          exact h1.trans _ _ _ (i1.lt i hi) (i1.lt i' hi') (i1.lt i'' hi'') e1 e2
        · rw [gz_AB hi hi'] at e1; omega
      · rcases stands p r j hj with rfl | rfl | ⟨i', hi', rfl⟩ | ⟨i', hi', rfl⟩
        · rw [gz_A0 hi] at e1; omega
        · rw [gz_TB hi''] at e2; omega
        · rw [gz_AB hi' hi''] at e2; omega
        · rw [gz_AB hi hi'] at e1; omega
    · rcases stands p r c hc with rfl | rfl | ⟨i'', hi'', rfl⟩ | ⟨i'', hi'', rfl⟩
      · rcases stands p r j hj with rfl | rfl | ⟨i', hi', rfl⟩ | ⟨i', hi', rfl⟩
        · exact e1
        · rw [gz_T0] at e2; omega
        · rw [gz_A0 hi'] at e2; omega
        · rw [gz_B0 hi'] at e2; omega
      · exact gz_top _
      · rcases stands p r j hj with rfl | rfl | ⟨i', hi', rfl⟩ | ⟨i', hi', rfl⟩
        · rw [gz_B0 hi] at e1; omega
        · rw [gz_TA hi''] at e2; omega
        · rw [gz_BA hi hi'] at e1; omega
        · rw [gz_BA hi' hi''] at e2; omega
      · rcases stands p r j hj with rfl | rfl | ⟨i', hi', rfl⟩ | ⟨i', hi', rfl⟩
        · rw [gz_B0 hi] at e1; omega
        · rw [gz_TB hi''] at e2; omega
        · rw [gz_BA hi hi'] at e1; omega
        · rw [gz_BB hi hi'] at e1
          rw [gz_BB hi' hi''] at e2
          rw [gz_BB hi hi'']
          exact h2.trans _ _ _ (i2.lt i hi) (i2.lt i' hi') (i2.lt i'' hi'') e1 e2
  · rcases stands p r k hk with rfl | rfl | ⟨i, hi, rfl⟩ | ⟨i, hi, rfl⟩
    · omega
    · omega
    · obtain ⟨j, hj, e, _⟩ := gA.at_ i hi
      rw [Nat.zero_add] at e
      omega
    · obtain ⟨j, hj, e, _⟩ := gB.at_ i hi
      omega
  · rcases stands p r k hk with rfl | rfl | ⟨i, hi, rfl⟩ | ⟨i, hi, rfl⟩
    · rw [g0, gT]
    · rw [gT, g0]
    · obtain ⟨j, hj, e, ej⟩ := gA.at_ i hi
      obtain ⟨j', hj', e', ej'⟩ := gA.at_ j hj
      rw [Nat.zero_add, Nat.zero_add] at e e'
      rw [e, e', i1.inj j' i hj' hi (by rw [ej', ej, h1.inv _ (i1.lt i hi)])]
    · obtain ⟨j, hj, e, ej⟩ := gB.at_ i hi
      obtain ⟨j', hj', e', ej'⟩ := gB.at_ j hj
      rw [e, e', i2.inj j' i hj' hi (by rw [ej', ej, h2.inv _ (i2.lt i hi)])]
  · rcases stands p r k hk with rfl | rfl | ⟨i, hi, rfl⟩ | ⟨i, hi, rfl⟩
    · rw [g0]; exact gz_top _
    · rcases stands p r j hj with rfl | rfl | ⟨i', hi', rfl⟩ | ⟨i', hi', rfl⟩
      · rw [gz_T0] at e; omega
      · rw [gT]; exact gz_bot _
      · rw [gz_TA hi'] at e; omega
      · rw [gz_TB hi'] at e; omega
    · rcases stands p r j hj with rfl | rfl | ⟨i', hi', rfl⟩ | ⟨i', hi', rfl⟩
      · rw [gz_A0 hi] at e; omega
      · rw [gT]; exact gz_bot _
      · obtain ⟨a, ha, ea, ea'⟩ := gA.at_ i hi
        obtain ⟨b, hb, eb, eb'⟩ := gA.at_ i' hi'
        rw [Nat.zero_add, Nat.zero_add] at ea eb
        rw [gz_AA hi hi'] at e
        rw [ea, eb, gz_AA hb ha, ea', eb']
        exact h1.turn _ _ (i1.lt i hi) (i1.lt i' hi') e
      · rw [gz_AB hi hi'] at e; omega
    · rcases stands p r j hj with rfl | rfl | ⟨i', hi', rfl⟩ | ⟨i', hi', rfl⟩
      · rw [gz_B0 hi] at e; omega
      · rw [gT]; exact gz_bot _
      · rw [gz_BA hi hi'] at e; omega
      · obtain ⟨a, ha, ea, ea'⟩ := gB.at_ i hi
        obtain ⟨b, hb, eb, eb'⟩ := gB.at_ i' hi'
        rw [gz_BB hi hi'] at e
        rw [ea, eb, gz_BB hb ha, ea', eb']
        exact h2.turn _ _ (i2.lt i hi) (i2.lt i' hi') e
  · have bot : ∀ (u v : Nat), (∀ c, c < p + r + 2 → gluedZ p r Z1 Z2 f1 f2 c u = 1 → gluedZ p r Z1 Z2 f1 f2 c v = 1 → c = 0) → ∃ x, x < p + r + 2 ∧ gluedZ p r Z1 Z2 f1 f2 x u = 1 ∧ gluedZ p r Z1 Z2 f1 f2 x v = 1 ∧ ∀ c, c < p + r + 2 → gluedZ p r Z1 Z2 f1 f2 c u = 1 → gluedZ p r Z1 Z2 f1 f2 c v = 1 → gluedZ p r Z1 Z2 f1 f2 c x = 1 := fun u v hb => ⟨0, by omega, gz_bot u, gz_bot v, fun c hc e1 e2 => by rw [hb c hc e1 e2]; exact gz_bot 0⟩
    have zero : ∀ c, c < p + r + 2 → gluedZ p r Z1 Z2 f1 f2 c 0 = 1 → c = 0 := fun c hc e => by
      rcases stands p r c hc with rfl | rfl | ⟨i, hi, rfl⟩ | ⟨i, hi, rfl⟩
      · rfl
      · rw [gz_T0] at e; omega
      · rw [gz_A0 hi] at e; omega
      · rw [gz_B0 hi] at e; omega
    have refl_ : ∀ k, k < p + r + 2 → gluedZ p r Z1 Z2 f1 f2 k k = 1 := fun k hk => by
      rcases stands p r k hk with rfl | rfl | ⟨i, hi, rfl⟩ | ⟨i, hi, rfl⟩
      · exact gz_bot _
      · exact gz_top _
      · rw [gz_AA hi hi]; exact h1.refl _ (i1.lt i hi)
      · rw [gz_BB hi hi]; exact h2.refl _ (i2.lt i hi)
    rcases stands p r k hk with rfl | rfl | ⟨i, hi, rfl⟩ | ⟨i, hi, rfl⟩
    · exact bot _ _ fun c hc e _ => zero c hc e
    · exact ⟨j, hj, gz_top j, refl_ j hj, fun c _ _ e => e⟩
    · rcases stands p r j hj with rfl | rfl | ⟨i', hi', rfl⟩ | ⟨i', hi', rfl⟩
      · exact bot _ _ fun c hc _ e => zero c hc e
      · exact ⟨i + 1, by omega, refl_ _ (by omega), gz_top _, fun c _ e _ => e⟩
      · obtain ⟨x, hx, u1, u2, u3⟩ := h1.meet _ _ (i1.lt i hi) (i1.lt i' hi')
        by_cases ex : x = o1
        · refine bot _ _ fun c hc e1 e2 => ?_
          rcases stands p r c hc with rfl | rfl | ⟨a, ha, rfl⟩ | ⟨a, ha, rfl⟩
          · rfl
          · rw [gz_TA hi] at e1; omega
          · rw [gz_AA ha hi] at e1
            rw [gz_AA ha hi'] at e2
            have := u3 _ (i1.lt a ha) e1 e2
            rw [ex] at this
            exact absurd (h1.anti _ _ (i1.lt a ha) h1.ho this (h1.least _ (i1.lt a ha))) (i1.nlo a ha)
          · rw [gz_BA ha hi] at e1; omega
        · obtain ⟨a, ha, rfl⟩ := i1.all x hx ex (notT1 i x hi hx u1)
          refine ⟨a + 1, by omega, by rw [gz_AA ha hi]; exact u1, by rw [gz_AA ha hi']; exact u2, fun c hc e1 e2 => ?_⟩
          rcases stands p r c hc with rfl | rfl | ⟨b, hb, rfl⟩ | ⟨b, hb, rfl⟩
          · exact gz_bot _
          · rw [gz_TA hi] at e1; omega
          · rw [gz_AA hb hi] at e1
            rw [gz_AA hb hi'] at e2
            rw [gz_AA hb ha]
            exact u3 _ (i1.lt b hb) e1 e2
          · rw [gz_BA hb hi] at e1; omega
      · refine bot _ _ fun c hc e1 e2 => ?_
        rcases stands p r c hc with rfl | rfl | ⟨a, ha, rfl⟩ | ⟨a, ha, rfl⟩
        · rfl
        · rw [gz_TA hi] at e1; omega
        · rw [gz_AB ha hi'] at e2; omega
        · rw [gz_BA ha hi] at e1; omega
    · rcases stands p r j hj with rfl | rfl | ⟨i', hi', rfl⟩ | ⟨i', hi', rfl⟩
      · exact bot _ _ fun c hc _ e => zero c hc e
      · exact ⟨p + i + 1, by omega, refl_ _ (by omega), gz_top _, fun c _ e _ => e⟩
      · refine bot _ _ fun c hc e1 e2 => ?_
        rcases stands p r c hc with rfl | rfl | ⟨a, ha, rfl⟩ | ⟨a, ha, rfl⟩
        · rfl
        · rw [gz_TB hi] at e1; omega
        · rw [gz_AB ha hi] at e1; omega
        · rw [gz_BA ha hi'] at e2; omega
      · obtain ⟨x, hx, u1, u2, u3⟩ := h2.meet _ _ (i2.lt i hi) (i2.lt i' hi')
        by_cases ex : x = o2
        · refine bot _ _ fun c hc e1 e2 => ?_
          rcases stands p r c hc with rfl | rfl | ⟨a, ha, rfl⟩ | ⟨a, ha, rfl⟩
          · rfl
          · rw [gz_TB hi] at e1; omega
          · rw [gz_AB ha hi] at e1; omega
          · rw [gz_BB ha hi] at e1
            rw [gz_BB ha hi'] at e2
            have := u3 _ (i2.lt a ha) e1 e2
            rw [ex] at this
            exact absurd (h2.anti _ _ (i2.lt a ha) h2.ho this (h2.least _ (i2.lt a ha))) (i2.nlo a ha)
        · obtain ⟨a, ha, rfl⟩ := i2.all x hx ex (notT2 i x hi hx u1)
          refine ⟨p + a + 1, by omega, by rw [gz_BB ha hi]; exact u1, by rw [gz_BB ha hi']; exact u2, fun c hc e1 e2 => ?_⟩
          rcases stands p r c hc with rfl | rfl | ⟨b, hb, rfl⟩ | ⟨b, hb, rfl⟩
          · exact gz_bot _
          · rw [gz_TB hi] at e1; omega
          · rw [gz_AB hb hi] at e1; omega
          · rw [gz_BB hb hi] at e1
            rw [gz_BB hb hi'] at e2
            rw [gz_BB hb ha]
            exact u3 _ (i2.lt b hb) e1 e2
  · rcases stands p r k hk with rfl | rfl | ⟨i, hi, rfl⟩ | ⟨i, hi, rfl⟩
    · rcases stands p r c hc with rfl | rfl | ⟨a, ha, rfl⟩ | ⟨a, ha, rfl⟩
      · rfl
      · rw [gz_T0] at e1; omega
      · rw [gz_A0 ha] at e1; omega
      · rw [gz_B0 ha] at e1; omega
    · rw [gT] at e2
      rcases stands p r c hc with rfl | rfl | ⟨a, ha, rfl⟩ | ⟨a, ha, rfl⟩
      · rfl
      · rw [gz_T0] at e2; omega
      · rw [gz_A0 ha] at e2; omega
      · rw [gz_B0 ha] at e2; omega
    · obtain ⟨j, hj, e, ej⟩ := gA.at_ i hi
      rw [Nat.zero_add, Nat.zero_add] at e
      rw [e] at e2
      rcases stands p r c hc with rfl | rfl | ⟨a, ha, rfl⟩ | ⟨a, ha, rfl⟩
      · rfl
      · rw [gz_TA hi] at e1; omega
      · rw [gz_AA ha hi] at e1
        rw [gz_AA ha hj, ej] at e2
        exact absurd (h1.kept _ _ (i1.lt i hi) (i1.lt a ha) e1 e2) (i1.nlo a ha)
      · rw [gz_BA ha hi] at e1; omega
    · obtain ⟨j, hj, e, ej⟩ := gB.at_ i hi
      rw [e] at e2
      rcases stands p r c hc with rfl | rfl | ⟨a, ha, rfl⟩ | ⟨a, ha, rfl⟩
      · rfl
      · rw [gz_TB hi] at e1; omega
      · rw [gz_AB ha hi] at e1; omega
      · rw [gz_BB ha hi] at e1
        rw [gz_BB ha hj, ej] at e2
        exact absurd (h2.kept _ _ (i2.lt i hi) (i2.lt a ha) e1 e2) (i2.nlo a ha)

/-! ### The inner answers, in ascending order -/
def innerTo (lo hi : Nat) : Nat → List Nat
  | 0 => []
  | k + 1 => if k = lo ∨ k = hi then innerTo lo hi k else innerTo lo hi k ++ [k]
theorem innerTo_no {lo hi k : Nat} (h : k = lo ∨ k = hi) : innerTo lo hi (k + 1) = innerTo lo hi k := by rw [innerTo, if_pos h]
theorem innerTo_yes {lo hi k : Nat} (h : ¬ (k = lo ∨ k = hi)) : innerTo lo hi (k + 1) = innerTo lo hi k ++ [k] := by rw [innerTo, if_neg h]
theorem innerTo_mem {lo hi c : Nat} (k : Nat) : c ∈ innerTo lo hi k ↔ c < k ∧ c ≠ lo ∧ c ≠ hi := by
  induction k with
  | zero => simp [innerTo]
  | succ k ih =>
    by_cases e : k = lo ∨ k = hi
    · rw [innerTo_no e, ih]
      omega
    · rw [innerTo_yes e, List.mem_append, ih, List.mem_singleton]
      omega
theorem innerTo_up {lo hi : Nat} (k : Nat) : (innerTo lo hi k).Pairwise (· < ·) := by
  induction k with
  | zero => exact List.Pairwise.nil
  | succ k ih =>
    by_cases e : k = lo ∨ k = hi
    · rw [innerTo_no e]; exact ih
    · rw [innerTo_yes e]
      refine List.pairwise_append.2 ⟨ih, List.pairwise_singleton _ _, fun a ha b hb => ?_⟩
      rw [List.mem_singleton] at hb
      rw [hb]
      exact ((innerTo_mem k).1 ha).1
theorem innerTo_len {lo hi : Nat} (hne : lo ≠ hi) (k : Nat) : (innerTo lo hi k).length + ((if lo < k then 1 else 0) + if hi < k then 1 else 0) = k := by
  induction k with
  | zero => simp [innerTo]
  | succ k ih =>
    by_cases e : k = lo ∨ k = hi
    · rw [innerTo_no e]
      rcases e with rfl | rfl
      · rw [if_neg (by omega)] at ih
        rw [if_pos (by omega)]
        by_cases h2 : hi < k
        · rw [if_pos h2] at ih
          rw [if_pos (by omega)]
          omega
        · rw [if_neg h2] at ih
          rw [if_neg (by omega)]
          omega
      · rw [if_neg (Nat.lt_irrefl k)] at ih
        rw [if_pos (Nat.lt_succ_self k)]
        by_cases h2 : lo < k
        · rw [if_pos h2] at ih
          rw [if_pos (by omega)]
          omega
        · rw [if_neg h2] at ih
          rw [if_neg (by omega)]
          omega
    · rw [innerTo_yes e, List.length_append, List.length_singleton]
      have e1 : (lo < k + 1) ↔ lo < k := by omega
      have e2 : (hi < k + 1) ↔ hi < k := by omega
      simp only [e1, e2]
      omega
def innerF (lo hi n i : Nat) : Nat := (innerTo lo hi n)[i]?.getD 0
theorem inner_is {n lo hi : Nat} (hlo : lo < n) (hhi : hi < n) (hne : lo ≠ hi) : Inner n lo hi (innerTo lo hi n).length (innerF lo hi n) := by
  have hlen := innerTo_len (lo := lo) (hi := hi) hne n
  rw [if_pos hlo, if_pos hhi] at hlen
  have get : ∀ i, i < (innerTo lo hi n).length → ∃ h : i < (innerTo lo hi n).length, innerF lo hi n i = (innerTo lo hi n)[i] := fun i hi => ⟨hi, by unfold innerF; rw [List.getElem?_eq_getElem hi]; rfl⟩
  have mem : ∀ i, i < (innerTo lo hi n).length → innerF lo hi n i ∈ innerTo lo hi n := fun i hi => by
    obtain ⟨h, e⟩ := get i hi
    rw [e]
    exact List.getElem_mem h
  refine ⟨by omega, fun i hi => ((innerTo_mem n).1 (mem i hi)).1, fun i hi => ((innerTo_mem n).1 (mem i hi)).2.1, fun i hi => ((innerTo_mem n).1 (mem i hi)).2.2, fun i j gi gj e => ?_, fun c hc h1 h2 => ?_⟩
  · obtain ⟨h1, e1⟩ := get i gi
    obtain ⟨h2, e2⟩ := get j gj
    rw [e1, e2] at e
    have hp := List.pairwise_iff_getElem.1 (innerTo_up (lo := lo) (hi := hi) n)
    rcases Nat.lt_trichotomy i j with h | h | h
    · have := hp i j h1 h2 h; omega
    · exact h
    · have := hp j i h2 h1 h; omega
  · obtain ⟨i, gi, e⟩ := List.getElem_of_mem ((innerTo_mem n).2 ⟨hc, h1, h2⟩)
    exact ⟨i, gi, by unfold innerF; rw [List.getElem?_eq_getElem gi]; exact e⟩

/-! ### Whether rows and opposites are a logic, reckoned -/
def anyB (n : Nat) (f : Nat → Bool) : Bool := (List.range n).any f
theorem anyB_is {n : Nat} {f : Nat → Bool} (h : anyB n f = true) : ∃ i, i < n ∧ f i = true := by
  unfold anyB at h
  rw [List.any_eq_true] at h
  obtain ⟨x, hx, hf⟩ := h
  exact ⟨x, List.mem_range.1 hx, hf⟩
def checkL (n : Nat) (Z : Nat → Nat → Int) (y : Nat → Nat) (o : Nat) : Bool :=
  decide (1 ≤ n) && decide (n ≤ 12) && decide (o < n) &&
  allB n (fun a => decide (Z a a = 1) && decide (Z o a = 1) && decide (y a < n) && decide (y (y a) = a)) &&
  allB n (fun a => allB n fun b => (decide (Z a b = 0) || decide (Z a b = 1)) && (!(decide (Z a b = 1) && decide (Z b a = 1)) || decide (a = b)) && (!decide (Z a b = 1) || decide (Z (y b) (y a) = 1)) && (!(decide (Z b a = 1) && decide (Z b (y a) = 1)) || decide (b = o))) &&
  allB n (fun a => allB n fun b => allB n fun c => !(decide (Z a b = 1) && decide (Z b c = 1)) || decide (Z a c = 1)) &&
  allB n (fun a => allB n fun b => anyB n fun x => decide (Z x a = 1) && decide (Z x b = 1) && allB n fun c => !(decide (Z c a = 1) && decide (Z c b = 1)) || decide (Z c x = 1))
theorem imp_of {p q : Prop} [Decidable p] [Decidable q] (h : (!decide p || decide q) = true) (hp : p) : q := by
  rw [decide_eq_true hp] at h
  exact of_decide_eq_true (by simpa using h)
theorem imp2_of {p p' q : Prop} [Decidable p] [Decidable p'] [Decidable q] (h : (!(decide p && decide p') || decide q) = true) (hp : p) (hp' : p') : q := by
  rw [decide_eq_true hp, decide_eq_true hp'] at h
  exact of_decide_eq_true (by simpa using h)
theorem checkL_is {n o : Nat} {Z : Nat → Nat → Int} {y : Nat → Nat} (h : checkL n Z y o = true) : LogicData n Z y o := by
  unfold checkL at h
  simp only [Bool.and_eq_true] at h
  obtain ⟨⟨⟨⟨⟨⟨c1, c2⟩, c3⟩, c4⟩, c5⟩, c6⟩, c7⟩ := h
  have d4 := fun a (ha : a < n) => allB_is c4 a ha
  have d5 := fun a (ha : a < n) b (hb : b < n) => allB_is (allB_is c5 a ha) b hb
  simp only [Bool.and_eq_true] at d4 d5
  refine ⟨of_decide_eq_true c1, of_decide_eq_true c2, fun a b ha hb => ?_, fun a ha => of_decide_eq_true (d4 a ha).1.1.1, fun a b ha hb => imp2_of (d5 a ha b hb).1.1.2, fun a b c ha hb hc => imp2_of (allB_is (allB_is (allB_is c6 a ha) b hb) c hc), fun a ha => of_decide_eq_true (d4 a ha).1.2, fun a ha => of_decide_eq_true (d4 a ha).2, fun a b ha hb => imp_of (d5 a ha b hb).1.2, fun a b ha hb => ?_, of_decide_eq_true c3, fun a ha => of_decide_eq_true (d4 a ha).1.1.2, fun a c ha hc => imp2_of (d5 a ha c hc).2⟩
  · have := (d5 a ha b hb).1.1.1
    rw [Bool.or_eq_true] at this
    exact this.imp of_decide_eq_true of_decide_eq_true
  · obtain ⟨x, hx, h⟩ := anyB_is (allB_is (allB_is c7 a ha) b hb)
    simp only [Bool.and_eq_true] at h
    exact ⟨x, hx, of_decide_eq_true h.1.1, of_decide_eq_true h.1.2, fun c hc => imp2_of (allB_is h.2 c hc)⟩

/-! ### Sets, and the ring -/
def setsZ (k j : Nat) : Int := if k &&& j = k then 1 else 0
def setsY (n k : Nat) : Nat := n - 1 - k
theorem sets_data (t : Nat) (h : t ≤ 3) : LogicData (2 ^ t) setsZ (setsY (2 ^ t)) 0 := by
  have ht : t = 0 ∨ t = 1 ∨ t = 2 ∨ t = 3 := by omega
  rcases ht with rfl | rfl | rfl | rfl
  · exact checkL_is (by decide +kernel)
  · exact checkL_is (by decide +kernel)
  · exact checkL_is (by decide +kernel)
  · exact checkL_is (by decide +kernel)
theorem sets_atoms (t : Nat) (h : t ≤ 3) : (atomsTo ⟨2 ^ t, fun _ => 2 ^ t, setsZ⟩ (2 ^ t)).length = t := by
  have ht : t = 0 ∨ t = 1 ∨ t = 2 ∨ t = 3 := by omega
  rcases ht with rfl | rfl | rfl | rfl <;> decide +kernel
def ringZ (r c : Nat) : Int := (([[1, 1, 1, 1, 1, 1], [0, 1, 1, 0, 0, 1], [0, 0, 1, 0, 0, 1], [0, 0, 0, 1, 1, 1], [0, 0, 0, 0, 1, 1], [0, 0, 0, 0, 0, 1]] : List (List Int))[r]?.getD [])[c]?.getD 0
def ringY (c : Nat) : Nat := 5 - c
theorem ring_data : LogicData 6 ringZ ringY 0 := checkL_is (by decide +kernel)
theorem ring_atoms : (atomsTo ⟨6, fun _ => 6, ringZ⟩ 6).length = 2 := by decide +kernel
end Go.Proofs.Ytijcacibofpnpaa
