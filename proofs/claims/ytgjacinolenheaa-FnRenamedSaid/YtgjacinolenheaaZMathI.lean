/- The plain mathematics of logics that are made: products, glued logics, logics under other names. The plain mathematics of glued logics. -/
import Derived.Test.YtgjacinolenheaaZMath
namespace Go.Proofs.Ytgjacinolenheaa

/-- What makes rows and opposites a logic: meetings alone, since joins are opposites of meetings of opposites. -/
structure LogicData (n : Nat) (Z : Nat → Nat → Int) (y : Nat → Nat) (o : Nat) : Prop where
  pos : 1 ≤ n
  top : n ≤ 12
  bit : ∀ a b, a < n → b < n → Z a b = 0 ∨ Z a b = 1
  refl : ∀ a, a < n → Z a a = 1
  anti : ∀ a b, a < n → b < n → Z a b = 1 → Z b a = 1 → a = b
  trans : ∀ a b c, a < n → b < n → c < n → Z a b = 1 → Z b c = 1 → Z a c = 1
  lt : ∀ a, a < n → y a < n
  inv : ∀ a, a < n → y (y a) = a
  turn : ∀ a b, a < n → b < n → Z a b = 1 → Z (y b) (y a) = 1
  meet : ∀ a b, a < n → b < n → ∃ x, x < n ∧ Z x a = 1 ∧ Z x b = 1 ∧ ∀ c, c < n → Z c a = 1 → Z c b = 1 → Z c x = 1
  ho : o < n
  least : ∀ a, a < n → Z o a = 1
  kept : ∀ a c, a < n → c < n → Z c a = 1 → Z c (y a) = 1 → c = o
theorem LogicData.order {n : Nat} {Z : Nat → Nat → Int} {y : Nat → Nat} {o : Nat} (h : LogicData n Z y o) : IsOrder ⟨n, fun _ => n, Z⟩ :=
  ⟨h.pos, h.top, ⟨fun _ _ => rfl, fun r hr c hc => h.bit r c hr hc⟩, h.refl, fun a b ha hb hne hab => by
    rcases h.bit b a hb ha with e | e
    · exact e
    · exact absurd (h.anti a b ha hb hab e) hne, h.trans⟩
theorem hasI_of {m : Mx} (h : IsOrder m) {a b x : Nat} (hx : x < m.n) (h1 : m.Z x a = 1) (h2 : m.Z x b = 1) (h3 : ∀ c, c < m.n → m.Z c a = 1 → m.Z c b = 1 → m.Z c x = 1) : meetI m a b = (x : Int) :=
  meetI_of h hx (isMeet_mk (by unfold bothB; rw [leB_mk h1, leB_mk h2]; rfl) fun c hc hb => by
    unfold bothB at hb
    rw [Bool.and_eq_true] at hb
    exact leB_mk (h3 c hc (leB_is hb.1) (leB_is hb.2)))
theorem LogicData.lattice {n : Nat} {Z : Nat → Nat → Int} {y : Nat → Nat} {o : Nat} (h : LogicData n Z y o) : IsLattice ⟨n, fun _ => n, Z⟩ := by
  refine ⟨h.order, fun a b ha hb => ⟨?_, ?_⟩⟩
  · obtain ⟨x, hx, h1, h2, h3⟩ := h.meet a b ha hb
    rw [hasI_of h.order (x := x) hx h1 h2 h3]
    exact hasI_nat x
  · have ha' : a < n := ha
    have hb' : b < n := hb
    obtain ⟨x, hx, h1, h2, h3⟩ := h.meet (y a) (y b) (h.lt a ha') (h.lt b hb')
    have k1 : Z a (y x) = 1 := by
      have := h.turn x (y a) hx (h.lt a ha') h1
      rwa [h.inv a ha'] at this
    have k2 : Z b (y x) = 1 := by
      have := h.turn x (y b) hx (h.lt b hb') h2
      rwa [h.inv b hb'] at this
    have e := hasI_of (m := tr ⟨n, fun _ => n, Z⟩) (tr_order h.order) (a := a) (b := b) (x := y x) (h.lt x hx) k1 k2 fun c hc g1 g2 => by
      have hc' : c < n := hc
      have t1 : Z a c = 1 := g1
      have t2 : Z b c = 1 := g2
      have := h.turn (y c) x (h.lt c hc') hx (h3 (y c) (h.lt c hc') (h.turn a c ha' hc' t1) (h.turn b c hb' hc' t2))
      rw [h.inv c hc'] at this
      exact this
    rw [e]
    exact hasI_nat _
theorem LogicData.ortho {n : Nat} {Z : Nat → Nat → Int} {y : Nat → Nat} {o : Nat} (h : LogicData n Z y o) : Ortho ⟨n, fun _ => n, Z⟩ (fun a => (y a : Int)) y o :=
  ⟨h.lattice, fun _ _ => rfl, h.lt, h.inv, h.turn, h.ho, h.least, leastI_of h.order h.ho h.least, fun a ha =>
    hasI_of h.order (x := o) h.ho (h.least a ha) (h.least _ (h.lt a ha)) fun c hc g1 g2 => by
      rw [h.kept a c ha hc g1 g2]
      exact h.refl o h.ho⟩
theorem Ortho.logic {m : Mx} {z : Nat → Int} {y : Nat → Nat} {o : Nat} (h : Ortho m z y o) : IsLogic m m.n z := by
  have e : ∀ a, a < m.n → (z a).toNat = y a := fun a ha => by rw [h.zy a ha]; simp
  refine ⟨h.lat, ⟨rfl, fun a ha => by rw [h.zy a ha]; omega, fun a ha => by rw [h.zy a ha]; have := h.lt a ha; omega, fun a ha => by rw [e a ha, h.zy _ (h.lt a ha), h.inv a ha]⟩, ?_, ?_⟩
  · refine (turnB_congr e).trans (allB_true fun a ha => allB_true fun b hb => ?_)
    unfold turnPB
    cases hl : leB m a b with
    | false => rfl
    | true => rw [leB_mk (h.turn a b ha hb (leB_is hl))]; rfl
  · refine (keptB_congr e).trans (allB_true fun a ha => ?_)
    unfold keptPB
    rw [h.kept a ha, h.eq]
    simp
theorem LogicData.logic {n : Nat} {Z : Nat → Nat → Int} {y : Nat → Nat} {o : Nat} (h : LogicData n Z y o) : IsLogic ⟨n, fun _ => n, Z⟩ n (fun a => (y a : Int)) := h.ortho.logic
/-- A logic is such data. -/
theorem Ortho.data {m : Mx} {z : Nat → Int} {y : Nat → Nat} {o : Nat} (h : Ortho m z y o) : LogicData m.n m.Z y o :=
  ⟨h.lat.order.pos, h.lat.order.top, fun a b ha hb => h.lat.order.sq.bit a ha b hb, h.lat.order.refl, fun a b ha hb h1 h2 => le_anti h.lat.order ha hb (leB_mk h1) (leB_mk h2), h.lat.order.trans, h.lt, h.inv, h.turn,
   fun a b ha hb => by
     obtain ⟨x, hx, _, h1, h2, h3⟩ := meetI_parts (h.lat.both a b ha hb).meets
     exact ⟨x, hx, h1, h2, h3⟩, h.ho, fun a ha => h.least a ha, fun a c ha hc g1 g2 => h.under hc ha g1 g2⟩

/-! ### Products -/
/-! ### Other names -/
/-- A row of all numbers below n, each once, and its reverse. -/
structure Perm (n : Nat) (q b : Nat → Nat) : Prop where
  lt : ∀ k, k < n → q k < n
  blt : ∀ k, k < n → b k < n
  qb : ∀ k, k < n → q (b k) = k
  bq : ∀ k, k < n → b (q k) = k
def nameZ (Z : Nat → Nat → Int) (q : Nat → Nat) (k j : Nat) : Int := Z (q k) (q j)
theorem name_data {n o : Nat} {Z : Nat → Nat → Int} {y q b : Nat → Nat} (h : LogicData n Z y o) (hp : Perm n q b) : LogicData n (nameZ Z q) (fun k => b (y (q k))) (b o) := by
  have inj : ∀ k j, k < n → j < n → q k = q j → k = j := fun k j hk hj e => by rw [← hp.bq k hk, e, hp.bq j hj]
  refine ⟨h.pos, h.top, fun k j hk hj => h.bit _ _ (hp.lt k hk) (hp.lt j hj), fun k hk => h.refl _ (hp.lt k hk), fun k j hk hj e1 e2 => inj k j hk hj (h.anti _ _ (hp.lt k hk) (hp.lt j hj) e1 e2), fun k j c hk hj hc e1 e2 => h.trans _ _ _ (hp.lt k hk) (hp.lt j hj) (hp.lt c hc) e1 e2, fun k hk => hp.blt _ (h.lt _ (hp.lt k hk)), fun k hk => ?_, fun k j hk hj e => ?_, fun k j hk hj => ?_, hp.blt o h.ho, fun k hk => ?_, fun k c hk hc e1 e2 => ?_⟩
  · show b (y (q (b (y (q k))))) = k
    rw [hp.qb _ (h.lt _ (hp.lt k hk)), h.inv _ (hp.lt k hk), hp.bq k hk]
  · show Z (q (b (y (q j)))) (q (b (y (q k)))) = 1
    rw [hp.qb _ (h.lt _ (hp.lt k hk)), hp.qb _ (h.lt _ (hp.lt j hj))]
    exact h.turn _ _ (hp.lt k hk) (hp.lt j hj) e
  · obtain ⟨x, hx, u1, u2, u3⟩ := h.meet _ _ (hp.lt k hk) (hp.lt j hj)
    refine ⟨b x, hp.blt x hx, ?_, ?_, fun c hc e1 e2 => ?_⟩
    · show Z (q (b x)) (q k) = 1; rw [hp.qb x hx]; exact u1
    · show Z (q (b x)) (q j) = 1; rw [hp.qb x hx]; exact u2
    · show Z (q c) (q (b x)) = 1; rw [hp.qb x hx]; exact u3 _ (hp.lt c hc) e1 e2
  · show Z (q (b o)) (q k) = 1
    rw [hp.qb o h.ho]
    exact h.least _ (hp.lt k hk)
  · have e2' : Z (q c) (q (b (y (q k)))) = 1 := e2
    rw [hp.qb _ (h.lt _ (hp.lt k hk))] at e2'
    rw [← h.kept _ _ (hp.lt k hk) (hp.lt c hc) e1 e2', hp.bq c hc]
theorem name_meet {n o : Nat} {Z : Nat → Nat → Int} {y q b : Nat → Nat} (h : LogicData n Z y o) (hp : Perm n q b) {k j x : Nat} (hk : k < n) (hj : j < n) (hx : x < n) (hm : meetI ⟨n, fun _ => n, nameZ Z q⟩ k j = (x : Int)) : meetI ⟨n, fun _ => n, Z⟩ (q k) (q j) = (q x : Int) := by
  obtain ⟨x', hx', e, h1, h2, h3⟩ := meetI_parts ((name_data h hp).lattice.both k j hk hj).meets
  have : x' = x := by omega
  subst this
  refine hasI_of h.order (hp.lt x' hx) h1 h2 fun c hc g1 g2 => ?_
  have hc' : c < n := hc
  have h4 := h3 (b c) (hp.blt c hc') (by show Z (q (b c)) (q k) = 1; rw [hp.qb c hc']; exact g1) (by show Z (q (b c)) (q j) = 1; rw [hp.qb c hc']; exact g2)
  have h5 : Z (q (b c)) (q x') = 1 := h4
  rwa [hp.qb c hc'] at h5
/-- A sum over all numbers is the sum over them under other names. -/
theorem sum_perm {n : Nat} {q b : Nat → Nat} (hp : Perm n q b) (f : Nat → Int) : sumTo n (fun r => f (q r)) = sumTo n f := by
  have e1 : ∀ r, r < n → f (q r) = sumTo n (fun i => if q r = i then f i else 0) := fun r hr => by
    have key : ∀ k, sumTo k (fun i => if q r = i then f i else 0) = if q r < k then f (q r) else 0 := fun k => by
      induction k with
      | zero => rfl
      | succ k ih =>
        simp only [sumTo, ih]
        by_cases e : q r = k
        · rw [if_neg (by omega), if_pos e, if_pos (by omega), ← e]; omega
        · rw [if_neg e]
          by_cases e2 : q r < k
          · rw [if_pos e2, if_pos (by omega)]; omega
          · rw [if_neg e2, if_neg (by omega)]; omega
    rw [key n, if_pos (hp.lt r hr)]
  rw [sumTo_congr n e1, sumTo_swap]
  refine sumTo_congr n fun i hi => ?_
  have key : ∀ k, sumTo k (fun r => if q r = i then f i else 0) = if b i < k ∧ k ≤ n then f i else sumTo k (fun r => if q r = i then f i else 0) := fun k => by
    by_cases hc : b i < k ∧ k ≤ n
    · rw [if_pos hc]
      obtain ⟨h1, h2⟩ := hc
      clear e1
      induction k with
      | zero => omega
      | succ k ih =>
        simp only [sumTo]
        by_cases e : b i = k
        · have hz : ∀ j, j ≤ k → sumTo j (fun r => if q r = i then f i else 0) = 0 := fun j => by
            induction j with
            | zero => intro _; rfl
            | succ j ihj =>
              intro hj
              simp only [sumTo]
              rw [ihj (by omega), if_neg fun e2 => by
                have := hp.bq j (by omega)
                rw [e2] at this
                omega]
              rfl
          rw [hz k (Nat.le_refl k), if_pos (by rw [← e]; exact hp.qb i hi)]
          omega
        · rw [ih (by omega) (by omega), if_neg fun e2 => by
            have := hp.bq k (by omega)
            rw [e2] at this
            omega]
          omega
    · rw [if_neg hc]
  rw [key n, if_pos ⟨hp.blt i hi, Nat.le_refl n⟩]
theorem atoms_len (m : Mx) (k : Nat) : ((atomsTo m k).length : Int) = sumTo k (fun c => if countI m c = 2 then 1 else 0) := by
  induction k with
  | zero => rfl
  | succ k ih =>
    by_cases e : countI m k = 2
    · rw [atomsTo_yes e, List.length_append]
      simp only [sumTo, if_pos e, ← ih]
      simp
    · rw [atomsTo_no e]
      simp only [sumTo, if_neg e, ← ih]
      omega
theorem name_atoms {n : Nat} {Z : Nat → Nat → Int} {q b : Nat → Nat} (hp : Perm n q b) : (atomsTo ⟨n, fun _ => n, nameZ Z q⟩ n).length = (atomsTo ⟨n, fun _ => n, Z⟩ n).length := by
  have hc : ∀ k, countI ⟨n, fun _ => n, nameZ Z q⟩ k = countI ⟨n, fun _ => n, Z⟩ (q k) := fun k => sum_perm hp (fun i => Z i (q k))
  have h1 := atoms_len ⟨n, fun _ => n, nameZ Z q⟩ n
  have h2 := atoms_len ⟨n, fun _ => n, Z⟩ n
  have h3 := sum_perm hp (fun c => if countI ⟨n, fun _ => n, Z⟩ c = 2 then (1 : Int) else 0)
  rw [sumTo_congr n (fun k _ => by rw [hc k])] at h1
  omega
end Go.Proofs.Ytgjacinolenheaa
namespace Go.Proofs.Ytgjacinolenheaa

section
variable {p r : Nat} {Z1 Z2 : Nat → Nat → Int} {f1 f2 : Nat → Nat}
end

/-! ### The inner answers, in ascending order -/
/-! ### Whether rows and opposites are a logic, reckoned -/
/-! ### Sets, and the ring -/
end Go.Proofs.Ytgjacinolenheaa
