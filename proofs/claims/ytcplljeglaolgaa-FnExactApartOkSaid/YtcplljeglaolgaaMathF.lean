/- Atoms of an order with a least answer: all answers but that are above one, and two of them meet in it; lattices have a least answer, and joins take meetings in. -/
import Derived.Test.YtcplljeglaolgaaMathE
namespace Go.Proofs.Ytcplljeglaolgaa

/-! ### Sums of noughts and ones -/
theorem sumTo_le {f g : Nat → Int} (k : Nat) (h : ∀ i, i < k → f i ≤ g i) : sumTo k f ≤ sumTo k g := by
  induction k with
  | zero => simp [sumTo]
  | succ k ih =>
    have h1 := ih fun i hi => h i (by omega)
    have h2 := h k (by omega)
    simp only [sumTo]
    omega
theorem sumTo_lt {f g : Nat → Int} {j : Nat} (k : Nat) (h : ∀ i, i < k → f i ≤ g i) (hj : j < k) (hs : f j < g j) : sumTo k f < sumTo k g := by
  induction k with
  | zero => omega
  | succ k ih =>
    have h2 := h k (by omega)
    simp only [sumTo]
    by_cases e : j = k
    · subst e
      have h1 := sumTo_le j fun i hi => h i (by omega)
      omega
    · have h1 := ih (fun i hi => h i (by omega)) (by omega)
      omega
theorem sumTo_add {f g : Nat → Int} (k : Nat) : sumTo k (fun i => f i + g i) = sumTo k f + sumTo k g := by
  induction k with
  | zero => rfl
  | succ k ih => simp only [sumTo, ih]; omega
/-- One at x, nought elsewhere. -/
def one (x i : Nat) : Int := if i = x then 1 else 0
theorem one_self (x : Nat) : one x x = 1 := if_pos rfl
theorem one_other {x i : Nat} (h : i ≠ x) : one x i = 0 := if_neg h
theorem sumTo_oneAt {x k : Nat} (h : x < k) : sumTo k (one x) = 1 := by
  rw [sumTo_one (x := x) k (fun i _ hne => one_other hne) (one_self x), if_pos h]
theorem one_bit (x i : Nat) : 0 ≤ one x i ∧ one x i ≤ 1 := by
  by_cases e : i = x
  · subst e; rw [one_self]; omega
  · rw [one_other e]; omega
/-- Two numbers at which there are ones are all if the sum is two. -/
theorem sum_two {f : Nat → Int} {n x y c : Nat} (hb : ∀ i, i < n → f i = 0 ∨ f i = 1) (hx : x < n) (hy : y < n) (hc : c < n) (hxy : x ≠ y) (hcx : c ≠ x) (hcy : c ≠ y) (h1 : f x = 1) (h2 : f y = 1) (h3 : f c = 1) : sumTo n f ≠ 2 := by
  have hle : sumTo n (fun i => (one x i + one y i) + one c i) ≤ sumTo n f := sumTo_le n fun i hi => by
    have hbi := hb i hi
    by_cases e1 : i = x
    · subst e1; rw [one_self, one_other hxy, one_other (Ne.symm hcx)]; omega
    · by_cases e2 : i = y
      · subst e2; rw [one_self, one_other e1, one_other (Ne.symm hcy)]; omega
      · by_cases e3 : i = c
        · subst e3; rw [one_self, one_other e1, one_other e2]; omega
        · rw [one_other e1, one_other e2, one_other e3]; omega
  rw [sumTo_add, sumTo_add, sumTo_oneAt hx, sumTo_oneAt hy, sumTo_oneAt hc] at hle
  omega
/-- If there are ones at two places and nowhere else the sum is two. -/
theorem sum_is_two {f : Nat → Int} {n x y : Nat} (hx : x < n) (hy : y < n) (hxy : x ≠ y) (h1 : f x = 1) (h2 : f y = 1) (h3 : ∀ c, c < n → c ≠ x → c ≠ y → f c = 0) : sumTo n f = 2 := by
  have ha : sumTo n f ≤ sumTo n (fun i => one x i + one y i) := sumTo_le n fun i hi => by
    by_cases e1 : i = x
    · subst e1; rw [one_self, one_other hxy]; omega
    · by_cases e2 : i = y
      · subst e2; rw [one_self, one_other e1]; omega
      · rw [one_other e1, one_other e2, h3 i hi e1 e2]; omega
  have hb : sumTo n (fun i => one x i + one y i) ≤ sumTo n f := sumTo_le n fun i hi => by
    by_cases e1 : i = x
    · subst e1; rw [one_self, one_other hxy]; omega
    · by_cases e2 : i = y
      · subst e2; rw [one_self, one_other e1]; omega
      · rw [one_other e1, one_other e2, h3 i hi e1 e2]; omega
  rw [sumTo_add, sumTo_oneAt hx, sumTo_oneAt hy] at ha hb
  omega

/-! ### Atoms -/
/-- The atoms' numbers. -/
def atomsN (m : Mx) : Nat → List Nat
  | 0 => []
  | k + 1 => if countI m k = 2 then atomsN m k ++ [k] else atomsN m k
theorem atomsTo_nat (m : Mx) (k : Nat) : atomsTo m k = (atomsN m k).map (fun c : Nat => (c : Int)) := by
  induction k with
  | zero => rfl
  | succ k ih =>
    by_cases h : countI m k = 2
    · rw [atomsTo_yes h, atomsN, if_pos h, ih]; simp
    · rw [atomsTo_no h, atomsN, if_neg h, ih]
theorem atomsN_mem {m : Mx} {c : Nat} (k : Nat) : c ∈ atomsN m k ↔ c < k ∧ countI m c = 2 := by
  induction k with
  | zero => simp [atomsN]
  | succ k ih =>
    by_cases h : countI m k = 2
    · rw [atomsN, if_pos h]
      simp only [List.mem_append, List.mem_singleton, ih]
      constructor
      · rintro (⟨h1, h2⟩ | rfl)
        · exact ⟨by omega, h2⟩
        · exact ⟨by omega, h⟩
      · rintro ⟨h1, h2⟩
        by_cases e : c = k
        · exact .inr e
        · exact .inl ⟨by omega, h2⟩
    · rw [atomsN, if_neg h, ih]
      constructor
      · rintro ⟨h1, h2⟩; exact ⟨by omega, h2⟩
      · rintro ⟨h1, h2⟩
        refine ⟨?_, h2⟩
        by_cases e : c = k
        · subst e; exact absurd h2 h
        · omega
theorem atomsN_up {m : Mx} (k : Nat) : (atomsN m k).Pairwise (· < ·) := by
  induction k with
  | zero => exact List.Pairwise.nil
  | succ k ih =>
    by_cases h : countI m k = 2
    · rw [atomsN, if_pos h, List.pairwise_append]
      exact ⟨ih, List.pairwise_singleton _ _, fun a ha b hb => by
        rw [List.mem_singleton] at hb
        subst hb
        exact ((atomsN_mem _).1 ha).1⟩
    · rw [atomsN, if_neg h]; exact ih
/-- The atom at place j. -/
def atomY (m : Mx) (j : Nat) : Nat := (atomsN m m.n)[j]?.getD 0
theorem atomY_get {m : Mx} {j : Nat} (h : j < (atomsTo m m.n).length) : (atomsTo m m.n)[j]?.getD 0 = (atomY m j : Int) := by
  have h' : j < (atomsN m m.n).length := by rw [atomsTo_nat, List.length_map] at h; exact h
  unfold atomY
  rw [atomsTo_nat]
  simp [h']
theorem atomY_is {m : Mx} {j : Nat} (h : j < (atomsTo m m.n).length) : atomY m j < m.n ∧ countI m (atomY m j) = 2 := by
  have h' : j < (atomsN m m.n).length := by rw [atomsTo_nat, List.length_map] at h; exact h
  have hm : atomY m j ∈ atomsN m m.n := by
    unfold atomY
    rw [List.getElem?_eq_getElem h']
    exact List.getElem_mem h'
  exact (atomsN_mem _).1 hm
theorem atomY_up {m : Mx} {j : Nat} (h : j + 1 < (atomsTo m m.n).length) : atomY m j < atomY m (j + 1) := by
  have h' : j + 1 < (atomsN m m.n).length := by rw [atomsTo_nat, List.length_map] at h; exact h
  have hp := List.pairwise_iff_getElem.1 (atomsN_up (m := m) m.n) j (j + 1) (by omega) h' (by omega)
  unfold atomY
  rw [List.getElem?_eq_getElem h', List.getElem?_eq_getElem (by omega)]
  exact hp
theorem atomY_all {m : Mx} {c : Nat} (hc : c < m.n) (h : countI m c = 2) : ∃ j, j < (atomsTo m m.n).length ∧ atomY m j = c := by
  have hm : c ∈ atomsN m m.n := (atomsN_mem _).2 ⟨hc, h⟩
  obtain ⟨j, hj, he⟩ := List.getElem_of_mem hm
  refine ⟨j, by rw [atomsTo_nat, List.length_map]; exact hj, ?_⟩
  unfold atomY
  rw [List.getElem?_eq_getElem hj]
  exact he

/-- Below all. -/
def BelowAll (m : Mx) (x : Nat) : Prop := ∀ k, k < m.n → m.Z x k = 1
theorem atom_below {m : Mx} (h : IsOrder m) {x y c : Nat} (hx : x < m.n) (hl : BelowAll m x) (hy : y < m.n) (h2 : countI m y = 2) (hc : c < m.n) (hcy : m.Z c y = 1) : c = x ∨ c = y := by
  by_cases e1 : c = x
  · exact .inl e1
  · by_cases e2 : c = y
    · exact .inr e2
    · by_cases e3 : x = y
      · subst e3
        have := h.anti x c hx hc (Ne.symm e1) (hl c hc)
        omega
      · exact absurd h2 (sum_two (f := fun r => m.Z r y) (fun i hi => h.sq.bit i hi y hy) hx hy hc e3 e1 e2 (hl y hy) (h.refl y hy) hcy)
theorem atom_not {m : Mx} (h : IsOrder m) {x y : Nat} (hx : x < m.n) (hl : BelowAll m x) (h2 : countI m y = 2) : y ≠ x := by
  rintro rfl
  have hz : ∀ r, r < m.n → r ≠ y → m.Z r y = 0 := fun r hr hne => h.anti y r hx hr (Ne.symm hne) (hl r hr)
  have : countI m y = 1 := by
    unfold countI
    rw [sumTo_one m.n hz (h.refl y hx), if_pos hx]
  omega
/-- Above an atom is each answer but the least. -/
theorem atom_under {m : Mx} (h : IsOrder m) {x : Nat} (hx : x < m.n) (hl : BelowAll m x) : ∀ (s k : Nat), k < m.n → k ≠ x → countI m k ≤ (s : Int) → ∃ y, y < m.n ∧ countI m y = 2 ∧ m.Z y k = 1 := by
  intro s
  induction s with
  | zero =>
    intro k hk hne hs
    have hle : sumTo m.n (one k) ≤ countI m k := sumTo_le m.n fun i hi => by
      have := h.sq.bit i hi k hk
      by_cases e : i = k
      · subst e; rw [one_self, h.refl i hi]; omega
      · rw [one_other e]; omega
    rw [sumTo_oneAt hk] at hle
    omega
  | succ s ih =>
    intro k hk hne hs
    by_cases h2 : countI m k = 2
    · exact ⟨k, hk, h2, h.refl k hk⟩
    · by_cases hex : ∃ c, c < m.n ∧ c ≠ x ∧ c ≠ k ∧ m.Z c k = 1
      · obtain ⟨c, hc, hcx, hck, hz⟩ := hex
        have hlt : countI m c < countI m k := by
          refine sumTo_lt (j := k) m.n (fun i hi => ?_) hk ?_
          · have b1 := h.sq.bit i hi c hc
            have b2 := h.sq.bit i hi k hk
            rcases b1 with b1 | b1
            · rw [b1]; omega
            · have := h.trans i c k hi hc hk b1 hz
              omega
          · have h1 := h.anti c k hc hk hck hz
            have h3 := h.refl k hk
            show m.Z k c < m.Z k k
            omega
        obtain ⟨y, hy, hy2, hyc⟩ := ih c hc hcx (by omega)
        exact ⟨y, hy, hy2, h.trans y c k hy hc hk hyc hz⟩
      · refine absurd (sum_is_two (f := fun r => m.Z r k) hx hk (Ne.symm hne) (hl k hk) (h.refl k hk) fun c hc h1 h3 => ?_) h2
        have hb := h.sq.bit c hc k hk
        rcases hb with hb | hb
        · exact hb
        · exact absurd ⟨c, hc, h1, h3, hb⟩ hex
theorem atoms_meet {m : Mx} (h : IsOrder m) {x a b : Nat} (hx : x < m.n) (hl : BelowAll m x) (ha : a < m.n) (hb : b < m.n) (h1 : countI m a = 2) (h2 : countI m b = 2) (hne : a ≠ b) : meetI m a b = (x : Int) := by
  refine meetI_of h hx (isMeet_mk ?_ fun c hc hcb => ?_)
  · unfold bothB
    rw [leB_mk (hl a ha), leB_mk (hl b hb)]; rfl
  · unfold bothB at hcb
    rw [Bool.and_eq_true] at hcb
    rcases atom_below h hx hl ha h1 hc (leB_is hcb.1) with e | e
    · subst e; exact leB_mk (hl c hc)
    · rcases atom_below h hx hl hb h2 hc (leB_is hcb.2) with e' | e'
      · subst e'; exact leB_mk (hl c hc)
      · exact absurd (e.symm.trans e') hne
/-- Whether answer k is x, or above one of the first j atoms. -/
def hitB (m : Mx) (x k : Nat) : Nat → Bool
  | 0 => decide (k = x)
  | j + 1 => hitB m x k j || leB m (atomY m j) k
theorem hitB_mk {m : Mx} {x k j n : Nat} (hj : j < n) (h : leB m (atomY m j) k = true) : hitB m x k n = true := by
  induction n with
  | zero => omega
  | succ n ih =>
    by_cases e : j = n
    · subst e; simp [hitB, h]
    · simp [hitB, ih (by omega)]
theorem hitB_self {m : Mx} {x k : Nat} (n : Nat) (h : k = x) : hitB m x k n = true := by
  induction n with
  | zero => simp [hitB, h]
  | succ n ih => simp [hitB, ih]
theorem hitB_all {m : Mx} (h : IsOrder m) {x k : Nat} (hx : x < m.n) (hl : BelowAll m x) (hk : k < m.n) : hitB m x k (atomsTo m m.n).length = true := by
  by_cases e : k = x
  · exact hitB_self _ e
  · obtain ⟨y, hy, hy2, hyk⟩ := atom_under h hx hl (countI m k).toNat k hk e (by omega)
    obtain ⟨j, hj, rfl⟩ := atomY_all hy hy2
    exact hitB_mk hj (leB_mk hyk)

/-! ### Lattices -/
theorem lattice_tr {m : Mx} (h : IsLattice m) : IsLattice (tr m) :=
  ⟨tr_order h.order, fun a b ha hb => ⟨(h.both a b ha hb).joins, (h.both a b ha hb).meets⟩⟩
theorem lattice_of_tr {m : Mx} (ho : IsOrder m) (h : IsLattice (tr m)) : IsLattice m :=
  ⟨ho, fun a b ha hb => ⟨(h.both a b ha hb).joins, (h.both a b ha hb).meets⟩⟩
theorem latticeB_tr {m : Mx} (ho : IsOrder m) : latticeB (tr m) = latticeB m := by
  cases h : latticeB m with
  | true => exact latticeB_true (lattice_tr (latticeB_is h))
  | false => exact latticeB_false fun h' => by rw [latticeB_true (lattice_of_tr ho h')] at h; cases h
theorem lattice_least {m : Mx} (h : IsLattice m) : ∃ x, x < m.n ∧ BelowAll m x := by
  have key : ∀ k, 1 ≤ k → k ≤ m.n → ∃ x, x < m.n ∧ ∀ i, i < k → m.Z x i = 1 := by
    intro k
    induction k with
    | zero => intro h1; omega
    | succ k ih =>
      intro _ hk
      by_cases e : k = 0
      · subst e
        exact ⟨0, by omega, fun i hi => by
          obtain rfl : i = 0 := by omega
          exact h.order.refl 0 (by omega)⟩
      · obtain ⟨x, hx, hxi⟩ := ih (by omega) (by omega)
        obtain ⟨y, hy, _, hyx, hyk, _⟩ := meetI_parts (h.both x k hx (by omega)).meets
        refine ⟨y, hy, fun i hi => ?_⟩
        by_cases e' : i = k
        · subst e'; exact hyk
        · exact h.order.trans y x i hy hx (by omega) hyx (hxi i (by omega))
  obtain ⟨x, hx, hxa⟩ := key m.n h.order.pos (Nat.le_refl _)
  exact ⟨x, hx, hxa⟩
theorem lattice_hasLeast {m : Mx} (h : IsLattice m) : hasI (leastI m) = true := by
  obtain ⟨x, hx, hl⟩ := lattice_least h
  rcases firstI_ways m.n (belowAllB m) with ⟨_, hno⟩ | ⟨k, _, he, _, _⟩
  · have h1 : belowAllB m x = true := allB_true fun k hk => leB_mk (hl k hk)
    rw [hno x hx] at h1; cases h1
  · have he' : leastI m = (k : Int) := he
    rw [he']; exact hasI_nat k
/-- The meeting of an answer and its join with another one is the answer. -/
theorem absorb {m : Mx} (h : IsLattice m) {a b : Nat} (ha : a < m.n) (hb : b < m.n) : ∃ y, y < m.n ∧ meetI (tr m) a b = (y : Int) ∧ meetI m a y = (a : Int) := by
  obtain ⟨y, hy, he, h1, _, _⟩ := meetI_parts (h.both a b ha hb).joins
  have h1' : m.Z a y = 1 := h1
  exact ⟨y, hy, he, meetI_of h.order ha (isMeet_mk (by unfold bothB; rw [leB_mk (h.order.refl a ha), leB_mk h1']; rfl) fun c _ hc => by
    unfold bothB at hc
    rw [Bool.and_eq_true] at hc
    exact hc.1)⟩
end Go.Proofs.Ytcplljeglaolgaa
