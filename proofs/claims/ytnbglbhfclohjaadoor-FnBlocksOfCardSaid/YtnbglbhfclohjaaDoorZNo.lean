import Derived.Test.YtnbglbhfclohjaaDoorZAa
import Derived.Test.YtnbglbhfclohjaaDoorZMathN
import Derived.Test.YtnbglbhfclohjaaDoorZWv
import Derived.Test.YtnbglbhfclohjaaDoorZNn
import Derived.Test.YtnbglbhfclohjaaDoorZOa
import Derived.Test.YtnbglbhfclohjaaDoorZMath
import Derived.Test.YtnbglbhfclohjaaDoorZYl
import Derived.Test.YtnbglbhfclohjaaDoorZGa
import Derived.Test.YtnbglbhfclohjaaDoorZSi
import Derived.Test.YtnbglbhfclohjaaDoorZSm
import Derived.Test.YtnbglbhfclohjaaDoorZSl
import Derived.BigQuiet
import Derived.Test.YtnbglbhfclohjaaDoorZCf
namespace Go.Proofs.YtnbglbhfclohjaaDoor
open Go.RowKit Go.Deep

def sumL (xs : List Int) : Nat := (xs.map fun x => 2 ^ x.toNat).sum
theorem sumL_snoc (xs : List Int) (x : Int) : sumL (xs ++ [x]) = sumL xs + 2 ^ x.toNat := by unfold sumL; simp
theorem sumL_take {xs : List Int} {j : Nat} (h : j < xs.length) : sumL (xs.take (j + 1)) = sumL (xs.take j) + 2 ^ (xs[j]?.getD 0).toNat := by
  rw [List.take_succ_eq_append_getElem h, sumL_snoc]
  simp [h]
theorem sumL_le (xs : List Int) (j : Nat) : sumL (xs.take j) ≤ sumL xs := by
  have e : sumL xs = sumL (xs.take j) + sumL (xs.drop j) := by
    unfold sumL
    rw [← List.sum_append, ← List.map_append, List.take_append_drop]
  omega
theorem sumL_mid (m : Mx) (y : Nat → Nat) (k : Nat) : sumL (midTo m y k) = bitS (midB m y) k := by
  induction k with
  | zero => rfl
  | succ k ih =>
    cases hk : midB m y k with
    | true =>
      rw [midTo_yes hk, sumL_snoc, ih]
      show _ = (if _ then _ else _)
      rw [if_pos hk]; simp
    | false =>
      rw [midTo_no hk, ih]
      show _ = (if _ then _ else _)
      rw [if_neg (by rw [hk]; exact Bool.false_ne_true)]
theorem midTo_in (m : Mx) (y : Nat → Nat) (k : Nat) : ∀ x ∈ midTo m y k, ∃ c : Nat, x = (c : Int) ∧ c < k ∧ midB m y c = true := by
  induction k with
  | zero => intro x hx; cases hx
  | succ k ih =>
    intro x hx
    cases hk : midB m y k with
    | true =>
      rw [midTo_yes hk] at hx
      rcases List.mem_append.1 hx with h | h
      · obtain ⟨c, e, h1, h2⟩ := ih x h
        exact ⟨c, e, by omega, h2⟩
      · exact ⟨k, by simpa using h, by omega, hk⟩
    | false =>
      rw [midTo_no hk] at hx
      obtain ⟨c, e, h1, h2⟩ := ih x hx
      exact ⟨c, e, by omega, h2⟩
theorem get_in {xs : List Int} {j : Nat} (h : j < xs.length) : xs[j]?.getD 0 ∈ xs := by simp [h]
end Go.Proofs.YtnbglbhfclohjaaDoor
namespace Go.Proofs.YtnbglbhfclohjaaDoor
open Go.RowKit Go.Deep

end Go.Proofs.YtnbglbhfclohjaaDoor
namespace Go.Proofs.YtnbglbhfclohjaaDoor
open Go.RowKit Go.Deep

theorem OwnMat.step {w w' : World} {b : Nat} {G : Nat → Nat} {m : Mx} (h : OwnMat w b G m) (hb : Below w.heap.size w w') : OwnMat w' b G m :=
  h.below hb h.top.lt fun r hr => (h.row r hr).lt
end Go.Proofs.YtnbglbhfclohjaaDoor
namespace Go.Proofs.YtnbglbhfclohjaaDoor
open Go.RowKit Go.Deep

end Go.Proofs.YtnbglbhfclohjaaDoor
namespace Go.Proofs.YtnbglbhfclohjaaDoor
open Go.RowKit Go.Deep

end Go.Proofs.YtnbglbhfclohjaaDoor
namespace Go.Proofs.YtnbglbhfclohjaaDoor
open Go.RowKit Go.Deep

/-- A list of numbers in memory of the call's own: as a slice value, entry by entry. -/
theorem list_row {w : World} {base : Nat} {v : Value} {n : Nat} {f : Nat → Value} {z : Nat → Int} (h : w.ownsRow base 3 1 v n ((List.range n).map f)) (hz : ∀ i, i < n → f i = .int .i64 (z i)) :
    ∃ a g cap, v = .slice a n cap ∧ RowAt w w.heap.size a g 0 n z := by
  rcases owns_ways h with ⟨rfl, rfl⟩ | ⟨g, cap, rfl, hc⟩
  · exact ⟨none, 0, 0, rfl, ⟨fun c hc => absurd hc (Nat.not_lt_zero _)⟩⟩
  · exact ⟨some ⟨g, 0, none⟩, g, cap, rfl, ⟨fun c hcn => ⟨rfl, World.block_lt_of_cell? _ _ (hc c hcn), by rw [← hz c hcn]; simpa using hc c hcn⟩⟩⟩
theorem RowAt.more {w : World} {B B' : Nat} {a : Option Addr} {g o n : Nat} {z : Nat → Int} (h : RowAt w B a g o n z) (hB : B ≤ B') : RowAt w B' a g o n z :=
  ⟨fun c hc => by obtain ⟨h1, h2, h3⟩ := h.row c hc; exact ⟨h1, by omega, h3⟩⟩

end Go.Proofs.YtnbglbhfclohjaaDoor
namespace Go.Proofs.YtnbglbhfclohjaaDoor
open Go.RowKit Go.Deep

/-- A logic under way, and a row of it under way beside. -/
structure RowIn (wi : World) (p base : Nat) (u t v : Value) (k kt N : Nat) (rv : Nat → Value) (Z : Nat → Nat → Int) (y : Nat → Int) (j : Nat) (z : Nat → Int) : Prop where
  made : MakeAt wi p base u t k kt N rv Z y
  row : IntsAt wi base v j z
  sepT : ∀ g, v.ownBlock = some g → t.ownBlock ≠ some g
  sepR : ∀ r, r < k → ∀ g, v.ownBlock = some g → (rv r).ownBlock ≠ some g
theorem RowIn.start {wo : World} {p base : Nat} {u t : Value} {k kt N : Nat} {rv : Nat → Value} {Z : Nat → Nat → Int} {y z : Nat → Int} (h : MakeAt wo p base u t k kt N rv Z y) (hb : base ≤ wo.heap.size) :
    RowIn (wo.alloc (.cells #[] 3)) p base u t (.slice (some ⟨wo.heap.size, 0, none⟩) 0 0) k kt N rv Z y 0 z := by
  have hrow0 : IntsAt (wo.alloc (.cells #[] 3)) wo.heap.size (.slice (some ⟨wo.heap.size, 0, none⟩) 0 0) 0 z := World.ownsRow_lit (base := wo.heap.size) (e := 3) (size := 1) wo #[] 0 (Nat.le_refl _) (Nat.zero_le _) rfl
  refine ⟨h.below ((Below.refl wo.heap.size wo).alloc (Nat.le_refl _) _), ownsRow_base hrow0 hb, fun g hg e => ?_, fun r hr g hg e => ?_⟩
  · have e' : wo.heap.size = g := by simpa [Value.ownBlock] using hg
    have := own_lt h.ints g e
    omega
  · have e' : wo.heap.size = g := by simpa [Value.ownBlock] using hg
    have := own_lt (h.out.row r hr) g e
    omega
theorem RowIn.still {wi wa : World} {p base : Nat} {u t v : Value} {k kt N j : Nat} {rv : Nat → Value} {Z : Nat → Nat → Int} {y z : Nat → Int} (h : RowIn wi p base u t v k kt N rv Z y j z) (ha : Chg (fun _ => False) wi wa) : RowIn wa p base u t v k kt N rv Z y j z :=
  ⟨h.made.chg ha fun _ e => e.elim, ha.ints h.row fun _ _ e => e, h.sepT, h.sepR⟩
theorem apart_of {v t : Value} (h : ∀ g, v.ownBlock = some g → t.ownBlock ≠ some g) : t.ownBlock = none ∨ t.ownBlock ≠ v.ownBlock := by
  cases e : t.ownBlock with
  | none => exact .inl rfl
  | some g => exact .inr fun e2 => h g e2.symm e
theorem apart_of' {v t : Value} (h : ∀ g, v.ownBlock = some g → t.ownBlock ≠ some g) : v.ownBlock = none ∨ v.ownBlock ≠ t.ownBlock := by
  cases e : v.ownBlock with
  | none => exact .inl rfl
  | some g => exact .inr fun e2 => h g e e2.symm
theorem RowIn.append {wi wa w4 : World} {p base : Nat} {u t v v' : Value} {k kt N j : Nat} {rv : Nat → Value} {Z : Nat → Nat → Int} {y z : Nat → Int} (h : RowIn wi p base u t v k kt N rv Z y j z) (ha : Chg (fun _ => False) wi wa)
    (hown : w4.ownsRow base 3 1 v' (j + 1) ((List.range j).map (fun c => .int .i64 (z c)) ++ [.int .i64 (z j)])) (hg : wa.grownBy w4 v.ownBlock) (hat : v'.ownBlock = v.ownBlock ∨ v'.ownBlock = some wa.heap.size) :
    RowIn w4 p base u t v' k kt N rv Z y (j + 1) z ∧ Chg (fun x => base ≤ x) wi w4 := by
  have h' := h.still ha
  have hc : Chg (fun x => base ≤ x) wa w4 := Chg.of_grown hg (ownsRow_block h'.row)
  have hp := h.made.pb
  refine ⟨⟨⟨hp, hc.two h'.made.box (by show ¬ base ≤ p; omega), ⟨owns_not h'.made.out.top hg (owns_apart h'.made.out.top h'.row (by decide)), fun r hr => owns_not (h'.made.out.row r hr) hg (apart_of (h'.sepR r hr)), h'.made.out.apart, h'.made.out.bit⟩,
    owns_not h'.made.ints hg (apart_of h'.sepT), h'.made.sep, h'.made.rng⟩, IntsAt.told hown, fun g hg' e => ?_, fun r hr g hg' e => ?_⟩, (ha.mono fun _ e => e.elim).trans hc⟩
  · rcases hat with e2 | e2
    · exact h.sepT g (by rw [← e2]; exact hg') e
    · have := own_lt h'.made.ints g e
      rw [e2] at hg'
      have : wa.heap.size = g := by simpa using hg'
      omega
  · rcases hat with e2 | e2
    · exact h.sepR r hr g (by rw [← e2]; exact hg') e
    · have := own_lt (h'.made.out.row r hr) g e
      rw [e2] at hg'
      have : wa.heap.size = g := by simpa using hg'
      omega
theorem RowIn.opp {wi wa w4 : World} {p base : Nat} {u t t' v : Value} {k kt N j : Nat} {rv : Nat → Value} {Z : Nat → Nat → Int} {y z : Nat → Int} (h : RowIn wi p base u t v k kt N rv Z y j z) (ha : Chg (fun _ => False) wi wa)
    (hx : 0 ≤ y kt ∧ y kt < (N : Int)) (hown : w4.ownsRow base 3 1 t' (kt + 1) ((List.range kt).map (fun c => .int .i64 (y c)) ++ [.int .i64 (y kt)])) (hg : wa.grownBy w4 t.ownBlock) (hat : t'.ownBlock = t.ownBlock ∨ t'.ownBlock = some wa.heap.size) :
    RowIn (w4.setCell ⟨p, 1, none⟩ t') p base u t' v k (kt + 1) N rv Z y j z ∧ Chg (fun x => x = p ∨ base ≤ x) wi (w4.setCell ⟨p, 1, none⟩ t') := by
  have hm := h.made.more' ha hx hown hg hat
  have h' := h.still ha
  have hp := h.made.pb
  have hr4 : w4.ownsRow base 3 1 v j ((List.range j).map fun c => .int .i64 (z c)) := owns_not h'.row hg (apart_of' h'.sepT)
  refine ⟨⟨hm.1, (Chg.set (S := fun x => x = p) (w := w4) (i := 1) rfl t').own hr4 (fun g hg' e => by
    have h1 := ownsRow_block hr4 g hg'
    have e' : g = p := e
    omega), fun g hg' e => ?_, h.sepR⟩, hm.2⟩
  rcases hat with e2 | e2
  · exact h.sepT g hg' (by rw [← e2]; exact e)
  · have := own_lt h'.row g hg'
    rw [e2] at e
    have : wa.heap.size = g := by simpa using e
    omega
/-- The row is done: it is appended to the rows. -/
theorem RowIn.last {wi w4 : World} {p base : Nat} {u t u' v : Value} {k kt N : Nat} {rv : Nat → Value} {Z : Nat → Nat → Int} {y : Nat → Int} {o : Obj} (h : RowIn wi p base u t v k kt N rv Z y N (Z k)) (hz : ∀ c, c < N → 0 ≤ Z k c ∧ Z k c ≤ 2)
    (hown : w4.ownsRow base 24 1 u' (k + 1) ((List.range k).map rv ++ [v])) (hg : (wi.alloc o).grownBy w4 u.ownBlock) (hN : 0 < N) :
    MakeAt (w4.setCell ⟨p, 0, none⟩ u') p base u' t (k + 1) kt N (fun r => if r = k then v else rv r) Z y ∧ Chg (fun j => j = p ∨ base ≤ j) wi (w4.setCell ⟨p, 0, none⟩ u') := by
  have hm := h.made
  have hp := hm.pb
  obtain ⟨gk, ck, rfl, hgk, hgl, _⟩ := h.row.val hN
  have hb : (Value.slice (some ⟨gk, 0, none⟩) N ck).ownBlock = some gk := rfl
  have hne : ∀ r, r < k → (rv r).ownBlock ≠ (Value.slice (some ⟨gk, 0, none⟩) N ck).ownBlock := fun r hr e => h.sepR r hr gk hb (by rw [e, hb])
  have hO := hm.out.append h.row hz hne hown hg
  have eZ : (fun r c => if r = k then Z k c else Z r c) = Z := by
    funext r c
    by_cases e : r = k
    · rw [if_pos e, e]
    · rw [if_neg e]
  rw [eZ] at hO
  have ha := Chg.alloc (fun _ => False) wi o
  obtain ⟨hc, hb4⟩ := hm.mid ha hg (ownsRow_block hm.out.top)
  have hit := ha.own hm.ints fun _ _ e => e
  have hot := ha.own hm.out.top fun _ _ e => e
  have hi4 : w4.ownsRow base 3 1 t kt ((List.range kt).map fun c => .int .i64 (y c)) := owns_not hit hg (owns_apart hit hot (by decide))
  have hs := Chg.set (S := fun j => j = p) (w := w4) (i := 0) rfl u'
  have nob : ∀ {e : TypeId} {n : Nat} {v : Value} {xs : List Value}, w4.ownsRow base e 1 v n xs → ∀ g, v.ownBlock = some g → ¬ (fun j => j = p) g := fun ho g hg e => by
    have h1 := ownsRow_block ho g hg
    have e' : g = p := e
    omega
  refine ⟨⟨hp, hb4.set0 u', hs.out hO (nob hO.top) (fun r hr => nob (hO.row r hr)), hs.own hi4 (nob hi4), fun r hr => ?_, hm.rng⟩, (hc.mono fun j hj => .inr hj).trans (hs.mono fun j hj => .inl hj)⟩
  by_cases e : r = k
  · simp only [if_pos e]
    left
    intro e2
    exact h.sepT gk hb (by rw [← e2]; exact hb)
  · simp only [if_neg e]
    exact hm.sep r (by omega)

end Go.Proofs.YtnbglbhfclohjaaDoor
namespace Go.Proofs.YtnbglbhfclohjaaDoor
open Go.RowKit Go.Deep

def orL (xs : List Int) : Nat := xs.foldl (fun a x => a ||| x.toNat) 0
def andL (n : Nat) (xs : List Int) : Nat := xs.foldl (fun a x => a &&& x.toNat) (2 ^ n - 1)
theorem orL_snoc (xs : List Int) (x : Int) : orL (xs ++ [x]) = orL xs ||| x.toNat := by unfold orL; rw [List.foldl_append]; rfl
theorem andL_snoc (n : Nat) (xs : List Int) (x : Int) : andL n (xs ++ [x]) = andL n xs &&& x.toNat := by unfold andL; rw [List.foldl_append]; rfl
theorem orL_take {xs : List Int} {j s : Nat} (hj : j < xs.length) (hs : xs[j]?.getD 0 = (s : Int)) : orL (xs.take (j + 1)) = orL (xs.take j) ||| s := by
  rw [List.take_succ_eq_append_getElem hj, orL_snoc]
  rw [List.getElem?_eq_getElem hj] at hs
  have hs : xs[j] = (s : Int) := hs
  rw [hs, Int.toNat_natCast]
theorem andL_take {n : Nat} {xs : List Int} {j s : Nat} (hj : j < xs.length) (hs : xs[j]?.getD 0 = (s : Int)) : andL n (xs.take (j + 1)) = andL n (xs.take j) &&& s := by
  rw [List.take_succ_eq_append_getElem hj, andL_snoc]
  rw [List.getElem?_eq_getElem hj] at hs
  have hs : xs[j] = (s : Int) := hs
  rw [hs, Int.toNat_natCast]
theorem orL_bit (xs : List Int) (i : Nat) : (orL xs).testBit i = true ↔ ∃ x ∈ xs, x.toNat.testBit i = true := by
  have key : ∀ (xs : List Int) (a : Nat), (xs.foldl (fun a x => a ||| x.toNat) a).testBit i = true ↔ a.testBit i = true ∨ ∃ x ∈ xs, x.toNat.testBit i = true := by
    intro xs
    induction xs with
    | nil => intro a; simp
    | cons q r ih =>
      intro a
      rw [List.foldl_cons, ih, Nat.testBit_or, Bool.or_eq_true]
      simp only [List.mem_cons]
      constructor
      · rintro ((h | h) | ⟨x, h1, h2⟩)
        · exact .inl h
        · exact .inr ⟨q, .inl rfl, h⟩
        · exact .inr ⟨x, .inr h1, h2⟩
      · rintro (h | ⟨x, h1 | h1, h2⟩)
        · exact .inl (.inl h)
        · subst h1; exact .inl (.inr h2)
        · exact .inr ⟨x, h1, h2⟩
  unfold orL
  rw [key]
  simp
theorem andL_bit (n : Nat) (xs : List Int) (i : Nat) : (andL n xs).testBit i = true ↔ i < n ∧ ∀ x ∈ xs, x.toNat.testBit i = true := by
  have key : ∀ (xs : List Int) (a : Nat), (xs.foldl (fun a x => a &&& x.toNat) a).testBit i = true ↔ a.testBit i = true ∧ ∀ x ∈ xs, x.toNat.testBit i = true := by
    intro xs
    induction xs with
    | nil => intro a; simp
    | cons q r ih =>
      intro a
      rw [List.foldl_cons, ih, Nat.testBit_and, Bool.and_eq_true]
      simp only [List.mem_cons]
      constructor
      · rintro ⟨⟨h1, h2⟩, h3⟩
        exact ⟨h1, fun x hx => hx.elim (fun e => by subst e; exact h2) (h3 x)⟩
      · rintro ⟨h1, h2⟩
        exact ⟨⟨h1, h2 q (.inl rfl)⟩, fun x hx => h2 x (.inr hx)⟩
  unfold andL
  rw [key, full_bits, decide_eq_true_iff]
theorem andL_lt (n : Nat) (xs : List Int) : andL n xs < 2 ^ n := by
  have hp := Nat.two_pow_pos n
  have key : ∀ (xs : List Int) (a : Nat), a < 2 ^ n → xs.foldl (fun a x => a &&& x.toNat) a < 2 ^ n := by
    intro xs
    induction xs with
    | nil => intro a h; exact h
    | cons q r ih => intro a h; exact ih _ (Nat.lt_of_le_of_lt Nat.and_le_left h)
  exact key xs _ (by omega)
theorem orL_lt {n : Nat} {xs : List Int} (h : ∀ x ∈ xs, x.toNat < 2 ^ n) : orL xs < 2 ^ n := by
  have key : ∀ (xs : List Int) (a : Nat), (∀ x ∈ xs, x.toNat < 2 ^ n) → a < 2 ^ n → xs.foldl (fun a x => a ||| x.toNat) a < 2 ^ n := by
    intro xs
    induction xs with
    | nil => intro a _ h; exact h
    | cons q r ih => intro a h ha; exact ih _ (fun x hx => h x (List.mem_cons_of_mem _ hx)) (Nat.or_lt_two_pow ha (h q List.mem_cons_self))
  exact key xs 0 h (Nat.two_pow_pos n)
section
variable {m : Mx} {z : Nat → Int} {y : Nat → Nat} {o : Nat}
theorem Ortho.or_all (h : Ortho m z y o) : orL (blockL m y) = 2 ^ m.n - 1 := by
  refine Nat.eq_of_testBit_eq fun i => ?_
  rw [full_bits, Bool.eq_iff_iff, orL_bit, decide_eq_true_iff]
  constructor
  · rintro ⟨x, hx, hb⟩
    obtain ⟨s, rfl, hs⟩ := blockL_in hx
    rw [Int.toNat_natCast] at hb
    exact bit_under hs.lt hb
  · intro hi
    obtain ⟨t, h1, h2⟩ := h.cover hi
    exact ⟨_, blockL_has h1, by rw [Int.toNat_natCast]; exact h2⟩
theorem Ortho.and_all (h : Ortho m z y o) : andL m.n (blockL m y) = bitS (midB m y) m.n := by
  refine Nat.eq_of_testBit_eq fun i => ?_
  rw [Bool.eq_iff_iff, andL_bit, (bitS_is _ _).2, Bool.and_eq_true, decide_eq_true_iff]
  constructor
  · rintro ⟨h1, h2⟩
    exact ⟨h1, (h.common h1).1 fun t ht => by have := h2 _ (blockL_has ht); rw [Int.toNat_natCast] at this; exact this⟩
  · rintro ⟨h1, h2⟩
    refine ⟨h1, fun x hx => ?_⟩
    obtain ⟨s, rfl, hs⟩ := blockL_in hx
    rw [Int.toNat_natCast]
    exact (h.common h1).2 h2 s hs
/-- Where the law is kept, a block is a part, and as sets are. -/
theorem Ortho.block_part (h : Ortho m z y o) (hk : keepsB m y = true) {s : Nat} (hs : Block m y s) :
    subV m m.n z (s : Int) = true ∧ boolV ⟨memK s 12, fun _ => memK s 12, nameZ m.Z (memF s 12)⟩ (memK s 12) (fun c => (partY (fun a => (z a).toNat) (memF s 12) (memB s 12) c : Int)) = true := by
  have hown := h.own
  have hyy : ∀ a, a < m.n → (z a).toNat = y a := fun a ha => by rw [h.zy a ha, Int.toNat_natCast]
  have hkB : keepsB m (fun a => (z a).toNat) = true := by
    have e1 := keepsV_is (m := m) h
    have e2 := keepsV_is (m := m) hown
    rw [← e2, e1]; exact hk
  have hsO : Block m (fun a => (z a).toNat) s := by
    have key : ∀ a b, a < m.n → b < m.n → adjB m (fun a => (z a).toNat) a b = adjB m y a b := fun a b ha hb => by
      unfold adjB agB
      simp only [hyy a ha, hyy b hb]
    refine ⟨hs.lt, fun x hx => (hs.iff x hx).trans ?_⟩
    constructor
    · intro g a ha ga; rw [key x a hx ha]; exact g a ha ga
    · intro g a ha ga; rw [← key x a hx ha]; exact g a ha ga
  have hcl := hown.block_closed hkB hsO
  have h1 := hown.block_pos hsO
  have hsub : subV m m.n z (s : Int) = true := by
    rw [subV_is hown h1 hs.lt]
    exact closedB_mk hcl
  refine ⟨hsub, ?_⟩
  have hE : Emb m.n (memK s 12) s (memF s 12) (memB s 12) := Emb.down hown.lat.order.top hs.lt
  have ho := hcl.no hown hs.lt h1
  have hk12 : memK s 12 ≤ 12 := memsTo_len s 12
  have hc2 : Closed ⟨m.n, fun _ => m.n, m.Z⟩ (fun a => (z a).toNat) s := ⟨hcl.meet, hcl.not⟩
  have hD := part_data hown.data hc2 ho hE hk12
  unfold boolV
  rw [logicB_true hD.logic, Bool.true_and]
  exact part_bool hown.data hc2 ho hE hk12 fun a c d ha hc hd ga gc gd => hown.block_split hkB hsO ha hc hd ga gc gd
end
theorem pow_wraps {n P : Nat} (hP : P = 2 ^ n) (h1 : 1 ≤ P) (h2 : P ≤ 4096) : (2 : Int) ^ n = (P : Int) ∧ wrap64 ((2 : Int) ^ n) = (P : Int) ∧ wrap64 ((P : Int) - 1) = (P : Int) - 1 ∧ wrap64 ((2 : Int) ^ n - 1) = (P : Int) - 1 := by
  have e0 : (2 : Int) ^ n = (P : Int) := by rw [hP]; push_cast; rfl
  have e2 : wrap64 ((P : Int) - 1) = (P : Int) - 1 := IntWalk.wrap64_in _ (by omega)
  exact ⟨e0, by rw [e0]; exact IntWalk.wrap64_in _ (by omega), e2, by rw [e0]; exact e2⟩
theorem blocks_empty {m : Mx} {k : Nat} {z : Nat → Int} (h : (blocksV m k z).length = 0) : logicB m k z = false := by
  cases hl : logicB m k z with
  | false => rfl
  | true =>
    exfalso
    obtain ⟨y, o, hO⟩ := (logicB_is hl).ortho
    unfold blocksV at h
    rw [if_pos hl] at h
    obtain ⟨t, h1, _⟩ := hO.own.cover hO.own.ho
    have := blockL_has h1
    rw [List.eq_nil_of_length_eq_zero h] at this
    cases this
theorem blocks_some {m : Mx} {k : Nat} {z : Nat → Int} (h : ¬ (blocksV m k z).length = 0) : logicB m k z = true := by
  cases hl : logicB m k z with
  | true => rfl
  | false =>
    exfalso
    apply h
    unfold blocksV
    rw [hl]; rfl

set_option maxHeartbeats 400000 in
theorem ascend_list {base : Nat} {v : Value} {L : List Int} {w : World} (hn : L.length ≤ 5000) (h : w.ownsRow base 3 1 v L.length ((List.range L.length).map fun i => .int .i64 (L[i]?.getD 0))) (hup : L.Pairwise (· < ·)) :
    Calls Tryd.prog 33 #[v] w fun e w' => e = .returned (.bool true) ∧ Drew w w' := by
  obtain ⟨a, g, cap, rfl, hR⟩ := list_row (z := fun i => L[i]?.getD 0) h fun i _ => rfl
  have HU : Hid (∀ j, j + 1 < L.length → L[j]?.getD 0 < L[j + 1]?.getD 0) := fun j hj => by
    rw [List.getElem?_eq_getElem (by omega), List.getElem?_eq_getElem hj]
    exact List.pairwise_iff_getElem.1 hup j (j + 1) (by omega) hj (by omega)
  clear hup h
  generalize hN : L.length = N at hn hR HU
  clear hN
  go_enter Tryd.func33, Tryd.ntmps33
  go_wp2_with fail
  go_loopw [3] (fun i wr => ∃ k : Nat, 1 ≤ k ∧ i = .int .i64 k ∧ Drew w wr) (fun i _ => N + 1 - (intOf i).toNat)
  case atStart => exact ⟨1, Nat.le_refl _, rfl, Drew.refl _⟩
  case round =>
    obtain ⟨k, hk, rfl, hW⟩ := hrel
    by_cases hlt : k < N
    · have hlt' : (k : Int) < N := by omega
      obtain ⟨k', rfl⟩ : ∃ k', k = k' + 1 := ⟨k - 1, by omega⟩
      obtain ⟨_, _, c1⟩ := (hW.row hR).row k' (by omega)
      obtain ⟨rfl, _, c2⟩ := (hW.row hR).row (k' + 1) hlt
      rw [Nat.zero_add] at c1 c2
      have e1 : ((k' + 1 : Nat) : Int) - 1 = (k' : Int) := by omega
      have hu := HU.out k' hlt
      obtain ⟨A1, hA1⟩ : ∃ A1, L[k']?.getD 0 = A1 := ⟨_, rfl⟩
      obtain ⟨A2, hA2⟩ : ∃ A2, L[k' + 1]?.getD 0 = A2 := ⟨_, rfl⟩
      rw [hA1, hA2] at hu
      rw [hA1] at c1
      rw [hA2] at c2
      have hu' : ¬ A2 ≤ A1 := by omega
      clear hR hA1 hA2
      go_wp2
      go_quiet (fail)
      go_wp2
      go_roundw
      case rel => exact ⟨k' + 2, by omega, by congr 1, hW.drewN _⟩
      case measure => simp [intOf]; omega
    · have hlt' : ¬ (k : Int) < N := by omega
      go_wp2_with fail
      go_ret
      exact ⟨rfl, hW⟩

set_option maxRecDepth 100000 in
set_option maxHeartbeats 4000000 in
theorem law_BlocksOf {A : Option Addr} {b o n cap : Nat} {z : Nat → Nat} {w : World} (h : CodeAt w A b o n cap z) (hT : TabOk w) :
    Calls Tryd.prog 5 #[.slice A n cap] w fun e w' => e = .returned (.bool true) ∧ Below w.heap.size w w' := by
  have hn := h.hn
  have hc := h.hc
  by_cases hbig : 1048576 < n
  · have hbig' : (1048576 : Int) < n := by omega
    clear h hT
    go_enter Tryd.func5, Tryd.ntmps5
    go_wp2_with fail
    go_ret
    exact ⟨rfl, Below.refl _ _⟩
  · have hbig' : ¬ (1048576 : Int) < n := by omega
    have HT := Lib.hid hT
    clear hT
    go_enter Tryd.func5, Tryd.ntmps5
    go_wp2_with fail
    go_at_call 28
    refine (draw_BlocksOf h).mono ?_
    rintro e w1 ⟨ua, l, m, na, g, o2, k, nc, zz, rfl, hF⟩
    have H1 := Held.start hF nc
    clear h hF
    have q0 := H1.box.c0
    have q1 := H1.box.c1
    go_wp2_with fail
    go_at_call 27
    refine (BlocksOf_any H1.log (HT.out.step H1.old HT.out.size)).mono ?_
    rintro e w2 ⟨v, rfl, hv, b2⟩
    have H2 := H1.step b2
    have HR := Lib.hid (map_range (blocksV m k zz))
    clear H1 q0 q1 b2
    have q0 := H2.box.c0
    have q1 := H2.box.c1
    go_wp2_with fail
    go_at_call 29
    refine (spec_BlocksOf H2.log).mono ?_
    rintro e w3 ⟨v', rfl, hv', b3⟩
    have H3 := H2.step b3
    have hv3 := ownsRow_below hv b3 (Nat.le_refl _)
    rw [HR.out] at hv3 hv'
    clear H2 q0 q1 b3 hv
    have hlen : (blocksV m k zz).length ≤ 4096 := by
      unfold blocksV
      split
      · next hl0 =>
        obtain ⟨_, _, hO9⟩ := (logicB_is hl0).ortho
        exact Nat.le_trans (listTo_len _ _) (pow_le_12 hO9.lat.order.top)
      · exact Nat.zero_le _
    go_wp2_with fail
    go_at_call 13
    refine (sameList (by omega) hv3 hv').mono ?_
    rintro e w4 ⟨rfl, d4⟩
    have b4 : Below w3.heap.size w3 w4 := d4.below _
    have H4 := H3.step b4
    have hv4 := ownsRow_below hv3 b4 (Nat.le_refl _)
    clear H3 b4 d4 hv3 hv'
    have q0 := H4.box.c0
    have q1 := H4.box.c1
    by_cases h0 : (blocksV m k zz).length = 0
    · have HL := Lib.hid (blocks_empty h0)
      obtain ⟨cv, rfl⟩ : ∃ (a : Option Addr × Nat), v = .slice a.1 0 a.2 := by
        rcases owns_ways hv4 with ⟨rfl, _⟩ | ⟨g, cap, rfl, _⟩
        · exact ⟨(none, 0), rfl⟩
        · rw [h0]; exact ⟨(_, cap), rfl⟩
      obtain ⟨av, nv⟩ := cv
      clear h0 hv4 HR hlen
      go_wp2_with fail
      go_at_call 15
      refine (LogicOk_any H4.log).mono ?_
      rintro e w5 ⟨rfl, b5⟩
      rw [HL.out]
      have H5 := H4.step b5
      clear H4 q0 q1 b5
      go_wp2_with fail
      go_at_call 16
      refine (alive_any _).mono ?_
      rintro e w6 ⟨rfl, b6⟩
      have H6 := H5.step b6
      go_wp2_with fail
      go_ret
      exact ⟨rfl, H6.old⟩
    · have hl := blocks_some h0
      obtain ⟨y0, o3, hO0⟩ := (logicB_is hl).ortho
      have hkn : k = m.n := (logicB_is hl).pair.len
      subst hkn
      have hO := hO0.own
      obtain ⟨y, hy⟩ : ∃ y : Nat → Nat, y = fun c => (zz c).toNat := ⟨_, rfl⟩
      rw [← hy] at hO
      have hm : blocksV m m.n zz = blockL m y := by unfold blocksV; rw [if_pos hl, hy]
      have hmid : midV m m.n zz = midTo m y m.n := by unfold midV; rw [if_pos hl, hy]
      have h12 := hO.lat.order.top
      have hpos := hO.lat.order.pos
      rw [hm] at hv4 h0 hlen HR
      obtain ⟨L, hL⟩ : ∃ L, blockL m y = L := ⟨_, rfl⟩
      have hin : ∀ j, j < L.length → ∃ s : Nat, L[j]?.getD 0 = (s : Int) ∧ Block m y s := fun j hj => by
        rw [← hL] at hj ⊢
        exact blockL_in (get_in hj)
      have hor : orL L = 2 ^ m.n - 1 := by rw [← hL]; exact hO.or_all
      have hand : andL m.n L = bitS (midB m y) m.n := by rw [← hL]; exact hO.and_all
      have hup : L.Pairwise (· < ·) := by rw [← hL]; exact listTo_up _ _
      have htl : ∀ x ∈ L, x.toNat < 2 ^ m.n := fun x hx => by
        rw [← hL] at hx
        obtain ⟨s, rfl, hs⟩ := blockL_in hx
        rw [Int.toNat_natCast]; exact hs.lt
      rw [hL] at hv4 h0 hlen HR
      obtain ⟨kv, hkv⟩ : ∃ kv, keepsV m m.n zz = kv := ⟨_, rfl⟩
      have hpart : kv = true → ∀ s, Block m y s → subV m m.n zz (s : Int) = true ∧ boolV ⟨memK s 12, fun _ => memK s 12, nameZ m.Z (memF s 12)⟩ (memK s 12) (fun c => (partY (fun a => (zz a).toNat) (memF s 12) (memB s 12) c : Int)) = true := fun e s hs => by
        have hk9 : keepsB m y = true := by rw [← keepsV_is hO, hkv]; exact e
        exact hO.block_part hk9 hs
      have HK := Lib.hid hkv
      have HPt := Lib.hid hpart
      have HIN := Lib.hid hin
      have HOr := Lib.hid hor
      have HAnd := Lib.hid hand
      have HUp := Lib.hid hup
      have HTl := Lib.hid htl
      have HMid := Lib.hid hmid
      rcases owns_ways hv4 with ⟨_, e0⟩ | ⟨gl, cl, rfl, hcell⟩
      · exact absurd e0 h0
      have HC := Lib.hid hcell
      have HV4 := Lib.hid hv4
      have hl1 : (((L.length : Nat) : Int) == 0) = false := by rw [beq_eq_false_iff_ne]; omega
      have hp12 := pow_le_12 h12
      obtain ⟨P, hP⟩ : ∃ P, P = 2 ^ m.n := ⟨_, rfl⟩
      have hPp : 1 ≤ P := by rw [hP]; exact Nat.one_le_two_pow
      rw [← hP] at hp12
      have HPe := Lib.hid hP
      obtain ⟨e0, e1, e2, e3⟩ := pow_wraps hP hPp hp12
      clear hl hO0 hy hm hL hin hor hand hup htl hkv hpart hmid hcell hP h0 hv4
      have HO := Lib.hid hO
      clear hO
      go_wp2_with fail
      go_loopw [5, 6, 7] (fun a c i wr => ∃ j : Nat, j ≤ L.length ∧ i = .int .i64 j ∧ a = .int .i64 ((orL (L.take j) : Nat) : Int) ∧ c = .int .i64 ((andL m.n (L.take j) : Nat) : Int) ∧ Below w4.heap.size w4 wr) (fun _ _ i _ => L.length - (intOf i).toNat)
      case atStart =>
        refine ⟨0, Nat.zero_le _, rfl, rfl, ?_, Below.refl _ _⟩
        have h9 : ((andL m.n (L.take 0) : Nat) : Int) = (P : Int) - 1 := by show ((2 ^ m.n - 1 : Nat) : Int) = _; rw [← HPe.out]; omega
        rw [h9]
      case round =>
        obtain ⟨j, hj, rfl, rfl, rfl, hD⟩ := hrel
        clear q0 q1
        by_cases hlt : j < L.length
        · have hlt' : (j : Int) < L.length := by omega
          obtain ⟨s, hs1, hs2⟩ := HIN.out j hlt
          have hs4 : s < P := by rw [HPe.out]; exact hs2.lt
          have hor9 := orL_take hlt hs1
          have hand9 := andL_take (n := m.n) hlt hs1
          have hol : orL (L.take j) < P := by rw [HPe.out]; exact orL_lt fun x hx => HTl.out x (List.mem_of_mem_take hx)
          have hal : andL m.n (L.take j) < P := by rw [HPe.out]; exact andL_lt _ _
          have ho : bits .or .i64 ((orL (L.take j) : Nat) : Int) (s : Int) = ((orL (L.take (j + 1)) : Nat) : Int) := by rw [hor9]; exact i64_or_nat _ _ (by omega) (by omega)
          have ha : bits .and .i64 ((andL m.n (L.take j) : Nat) : Int) (s : Int) = ((andL m.n (L.take (j + 1)) : Nat) : Int) := by rw [hand9]; exact i64_and_nat _ _ (by omega) (by omega)
          have hc4 := HC.out j hlt
          rw [hs1] at hc4
          have hcj := (hD.cell (World.block_lt_of_cell? _ _ hc4)).trans hc4
          have Hr := H4.step hD
          have HBk := Lib.hid hs2
          have HOr9 := Lib.hid ho
          have HAnd9 := Lib.hid ha
          have q0 := Hr.box.c0
          have q1 := Hr.box.c1
          clear hs1 hs2 hor9 hand9 hc4
          go_wp2_with fail
          have Hd0 := Lib.hid (Hr.step (Below.refl _ wr).drew)
          have hcj0 : wr.drew.cell? ⟨gl, j, none⟩ = some (.int .i64 (s : Int)) := hcj
          have K0 : (fun w' => (w'.cell? ⟨w1.heap.size, 0, none⟩ = some (.slice ua m.n l.cap) ∧ w'.cell? ⟨w1.heap.size, 1, none⟩ = some (.slice na m.n nc)) ∧ w'.cell? ⟨gl, j, none⟩ = some (.int .i64 (s : Int))) wr.drew := ⟨⟨Hd0.out.box.c0, Hd0.out.box.c1⟩, hcj0⟩
          have D0 := hD.trans ((Below.refl _ wr).drew.mono hD.size)
          clear Hr q0 q1 ho ha hcj hcj0
          cases kv with
          | false =>
            refine region_plain (fuel := 21) (listed := #[false, false, false, false, false, false, false, false, false, false, false, false, false, false, false, false, false, false, false, false, false]) (fun w' => (w'.cell? ⟨w1.heap.size, 0, none⟩ = some (.slice ua m.n l.cap) ∧ w'.cell? ⟨w1.heap.size, 1, none⟩ = some (.slice na m.n nc)) ∧ w'.cell? ⟨gl, j, none⟩ = some (.int .i64 (s : Int))) (by kernel_rfl) (by kernel_rfl) (by kernel_rfl) ?_
            refine hold_take (i := 0) (d := 55) (v := ?vrf0) (listed' := #[true, false, false, false, false, false, false, false, false, false, false, false, false, false, false, false, false, false, false, false, false]) rfl (by kernel_rfl) (by kernel_rfl) (by kernel_rfl) rfl (by rfl) (by kernel_rfl) K0 ?hrf0 ?rrf0
            case hrf0 =>
              intro w' hSw
              obtain ⟨⟨k0, k1⟩, k2⟩ := hSw
              go_simp
              try with_reducible rfl
            simp only [List.setIfInBounds_toArray, List.set_cons_zero, List.set_cons_succ]
            refine hold_call (i := 1) (d := 56) (listed' := #[true, true, false, false, false, false, false, false, false, false, false, false, false, false, false, false, false, false, false, false, false]) rfl (by kernel_rfl) rfl (by rfl) (by kernel_rfl) ?herf1 (spec_KeepsOk (nc := nc) Hd0.out.log) ?hcrf1
            case herf1 => go_simp
            rintro e x1 ⟨rfl, bb1⟩
            rw [HK.out]
            have Hd1 := Lib.hid (Hd0.out.step bb1)
            have K1 : (fun w' => (w'.cell? ⟨w1.heap.size, 0, none⟩ = some (.slice ua m.n l.cap) ∧ w'.cell? ⟨w1.heap.size, 1, none⟩ = some (.slice na m.n nc)) ∧ w'.cell? ⟨gl, j, none⟩ = some (.int .i64 (s : Int))) x1 := ⟨⟨Hd1.out.box.c0, Hd1.out.box.c1⟩, (bb1.cell (World.block_lt_of_cell? _ _ K0.2)).trans K0.2⟩
            have D1 := D0.trans (bb1.mono D0.size)
            clear Hd0 K0 bb1 D0
            refine ⟨_, rfl, K1, ?_⟩
            simp only [List.setIfInBounds_toArray, List.set_cons_zero, List.set_cons_succ]
            refine hold_take (i := 2) (d := 57) (v := ?vrf2) (listed' := #[true, true, true, false, false, false, false, false, false, false, false, false, false, false, false, false, false, false, false, false, false]) rfl (by kernel_rfl) (by kernel_rfl) (by kernel_rfl) rfl (by rfl) (by kernel_rfl) K1 ?hrf2 ?rrf2
            case hrf2 =>
              intro w' hSw
              obtain ⟨⟨k0, k1⟩, k2⟩ := hSw
              go_simp
              try with_reducible rfl
            simp only [List.setIfInBounds_toArray, List.set_cons_zero, List.set_cons_succ]
            refine hold_skip (i := 3) (d := 58) (listed' := #[true, true, true, true, false, false, false, false, false, false, false, false, false, false, false, false, false, false, false, false, false]) rfl (by kernel_rfl) (by kernel_rfl) (by kernel_rfl) rfl (by rfl) (by kernel_rfl) K1 ?_
            simp only [List.setIfInBounds_toArray, List.set_cons_zero, List.set_cons_succ]
            refine hold_skip (i := 4) (d := 59) (listed' := #[true, true, true, true, true, false, false, false, false, false, false, false, false, false, false, false, false, false, false, false, false]) rfl (by kernel_rfl) (by kernel_rfl) (by kernel_rfl) rfl (by rfl) (by kernel_rfl) K1 ?_
            simp only [List.setIfInBounds_toArray, List.set_cons_zero, List.set_cons_succ]
            refine hold_skip (i := 5) (d := 60) (listed' := #[true, true, true, true, true, true, false, false, false, false, false, false, false, false, false, false, false, false, false, false, false]) rfl (by kernel_rfl) (by kernel_rfl) (by kernel_rfl) rfl (by rfl) (by kernel_rfl) K1 ?_
            simp only [List.setIfInBounds_toArray, List.set_cons_zero, List.set_cons_succ]
            refine hold_skip (i := 6) (d := 61) (listed' := #[true, true, true, true, true, true, true, false, false, false, false, false, false, false, false, false, false, false, false, false, false]) rfl (by kernel_rfl) (by kernel_rfl) (by kernel_rfl) rfl (by rfl) (by kernel_rfl) K1 ?_
            simp only [List.setIfInBounds_toArray, List.set_cons_zero, List.set_cons_succ]
            refine hold_skip (i := 7) (d := 62) (listed' := #[true, true, true, true, true, true, true, true, false, false, false, false, false, false, false, false, false, false, false, false, false]) rfl (by kernel_rfl) (by kernel_rfl) (by kernel_rfl) rfl (by rfl) (by kernel_rfl) K1 ?_
            simp only [List.setIfInBounds_toArray, List.set_cons_zero, List.set_cons_succ]
            refine hold_skip (i := 8) (d := 63) (listed' := #[true, true, true, true, true, true, true, true, true, false, false, false, false, false, false, false, false, false, false, false, false]) rfl (by kernel_rfl) (by kernel_rfl) (by kernel_rfl) rfl (by rfl) (by kernel_rfl) K1 ?_
            simp only [List.setIfInBounds_toArray, List.set_cons_zero, List.set_cons_succ]
            refine hold_skip (i := 9) (d := 64) (listed' := #[true, true, true, true, true, true, true, true, true, true, false, false, false, false, false, false, false, false, false, false, false]) rfl (by kernel_rfl) (by kernel_rfl) (by kernel_rfl) rfl (by rfl) (by kernel_rfl) K1 ?_
            simp only [List.setIfInBounds_toArray, List.set_cons_zero, List.set_cons_succ]
            refine hold_skip (i := 10) (d := 65) (listed' := #[true, true, true, true, true, true, true, true, true, true, true, false, false, false, false, false, false, false, false, false, false]) rfl (by kernel_rfl) (by kernel_rfl) (by kernel_rfl) rfl (by rfl) (by kernel_rfl) K1 ?_
            simp only [List.setIfInBounds_toArray, List.set_cons_zero, List.set_cons_succ]
            refine hold_skip (i := 11) (d := 66) (listed' := #[true, true, true, true, true, true, true, true, true, true, true, true, false, false, false, false, false, false, false, false, false]) rfl (by kernel_rfl) (by kernel_rfl) (by kernel_rfl) rfl (by rfl) (by kernel_rfl) K1 ?_
            simp only [List.setIfInBounds_toArray, List.set_cons_zero, List.set_cons_succ]
            refine hold_skip (i := 12) (d := 67) (listed' := #[true, true, true, true, true, true, true, true, true, true, true, true, true, false, false, false, false, false, false, false, false]) rfl (by kernel_rfl) (by kernel_rfl) (by kernel_rfl) rfl (by rfl) (by kernel_rfl) K1 ?_
            simp only [List.setIfInBounds_toArray, List.set_cons_zero, List.set_cons_succ]
            refine hold_skip (i := 13) (d := 68) (listed' := #[true, true, true, true, true, true, true, true, true, true, true, true, true, true, false, false, false, false, false, false, false]) rfl (by kernel_rfl) (by kernel_rfl) (by kernel_rfl) rfl (by rfl) (by kernel_rfl) K1 ?_
            simp only [List.setIfInBounds_toArray, List.set_cons_zero, List.set_cons_succ]
            refine hold_skip (i := 14) (d := 69) (listed' := #[true, true, true, true, true, true, true, true, true, true, true, true, true, true, true, false, false, false, false, false, false]) rfl (by kernel_rfl) (by kernel_rfl) (by kernel_rfl) rfl (by rfl) (by kernel_rfl) K1 ?_
            simp only [List.setIfInBounds_toArray, List.set_cons_zero, List.set_cons_succ]
            refine hold_skip (i := 15) (d := 70) (listed' := #[true, true, true, true, true, true, true, true, true, true, true, true, true, true, true, true, false, false, false, false, false]) rfl (by kernel_rfl) (by kernel_rfl) (by kernel_rfl) rfl (by rfl) (by kernel_rfl) K1 ?_
            simp only [List.setIfInBounds_toArray, List.set_cons_zero, List.set_cons_succ]
            refine hold_skip (i := 16) (d := 71) (listed' := #[true, true, true, true, true, true, true, true, true, true, true, true, true, true, true, true, true, false, false, false, false]) rfl (by kernel_rfl) (by kernel_rfl) (by kernel_rfl) rfl (by rfl) (by kernel_rfl) K1 ?_
            simp only [List.setIfInBounds_toArray, List.set_cons_zero, List.set_cons_succ]
            refine hold_skip (i := 17) (d := 72) (listed' := #[true, true, true, true, true, true, true, true, true, true, true, true, true, true, true, true, true, true, false, false, false]) rfl (by kernel_rfl) (by kernel_rfl) (by kernel_rfl) rfl (by rfl) (by kernel_rfl) K1 ?_
            simp only [List.setIfInBounds_toArray, List.set_cons_zero, List.set_cons_succ]
            refine hold_skip (i := 18) (d := 73) (listed' := #[true, true, true, true, true, true, true, true, true, true, true, true, true, true, true, true, true, true, true, false, false]) rfl (by kernel_rfl) (by kernel_rfl) (by kernel_rfl) rfl (by rfl) (by kernel_rfl) K1 ?_
            simp only [List.setIfInBounds_toArray, List.set_cons_zero, List.set_cons_succ]
            refine hold_skip (i := 19) (d := 74) (listed' := #[true, true, true, true, true, true, true, true, true, true, true, true, true, true, true, true, true, true, true, true, false]) rfl (by kernel_rfl) (by kernel_rfl) (by kernel_rfl) rfl (by rfl) (by kernel_rfl) K1 ?_
            simp only [List.setIfInBounds_toArray, List.set_cons_zero, List.set_cons_succ]
            refine hold_take (i := 20) (d := 75) (v := ?vrf20) (listed' := #[true, true, true, true, true, true, true, true, true, true, true, true, true, true, true, true, true, true, true, true, true]) rfl (by kernel_rfl) (by kernel_rfl) (by kernel_rfl) rfl (by rfl) (by kernel_rfl) K1 ?hrf20 ?rrf20
            case hrf20 =>
              intro w' hSw
              obtain ⟨⟨k0, k1⟩, k2⟩ := hSw
              go_simp
              try with_reducible rfl
            simp only [List.setIfInBounds_toArray, List.set_cons_zero, List.set_cons_succ]
            refine hold_done (by kernel_rfl) ?_ _
            go_wp2_with fail
            go_roundw
            case rel => exact ⟨j + 1, by omega, by go_num, by first | rfl | exact congrArg (Value.int .i64) HOr9.out, by first | rfl | exact congrArg (Value.int .i64) HAnd9.out, D1⟩
            case measure => simp [intOf]; omega
          | true =>
            obtain ⟨hsu, hbo⟩ := HPt.out rfl s HBk.out
            have HPP : Hid (∀ (W : World) (B : Nat), LogAt W B ua l m na g o2 m.n zz → TabOk W → Calls Tryd.prog 32 #[.agg #[.slice ua m.n l.cap, .slice na m.n nc], .int .i64 (s : Int)] W (fun e w' => ∃ (uaP : Option Addr) (lP : Lay) (naP : Option Addr) (gP ncP : Nat), e = .returned (.agg #[.slice uaP (memK s 12) lP.cap, .slice naP (memK s 12) ncP]) ∧ LogAt w' w'.heap.size uaP lP ⟨memK s 12, fun _ => memK s 12, nameZ m.Z (memF s 12)⟩ naP gP 0 (memK s 12) (fun c => (partY (fun a => (zz a).toNat) (memF s 12) (memB s 12) c : Int)) ∧ Below W.heap.size W w')) := by
              intro W B c0 c1
              refine (PartOf_any (x := (s : Int)) c0 c1).mono fun _ _ h9 => ?_
              rw [hsu] at h9
              obtain ⟨hb, (⟨h7, _⟩ | ⟨_, u, t, rv, rfl, hL9⟩)⟩ := h9
              · cases h7
              · obtain ⟨ua9, l9, g9, nc9, rfl, rfl, hl9, _, _⟩ := hL9.at_
                exact ⟨ua9, l9, _, g9, nc9, rfl, hl9, hb⟩
            have HSu := Lib.hid hsu
            have HBo := Lib.hid hbo
            clear hsu hbo
            refine region_plain (fuel := 21) (listed := #[false, false, false, false, false, false, false, false, false, false, false, false, false, false, false, false, false, false, false, false, false]) (fun w' => (w'.cell? ⟨w1.heap.size, 0, none⟩ = some (.slice ua m.n l.cap) ∧ w'.cell? ⟨w1.heap.size, 1, none⟩ = some (.slice na m.n nc)) ∧ w'.cell? ⟨gl, j, none⟩ = some (.int .i64 (s : Int))) (by kernel_rfl) (by kernel_rfl) (by kernel_rfl) ?_
            refine hold_take (i := 0) (d := 55) (v := ?vrt0) (listed' := #[true, false, false, false, false, false, false, false, false, false, false, false, false, false, false, false, false, false, false, false, false]) rfl (by kernel_rfl) (by kernel_rfl) (by kernel_rfl) rfl (by rfl) (by kernel_rfl) K0 ?hrt0 ?rrt0
            case hrt0 =>
              intro w' hSw
              obtain ⟨⟨k0, k1⟩, k2⟩ := hSw
              go_simp
              try with_reducible rfl
            simp only [List.setIfInBounds_toArray, List.set_cons_zero, List.set_cons_succ]
            refine hold_call (i := 1) (d := 56) (listed' := #[true, true, false, false, false, false, false, false, false, false, false, false, false, false, false, false, false, false, false, false, false]) rfl (by kernel_rfl) rfl (by rfl) (by kernel_rfl) ?hert1 (spec_KeepsOk (nc := nc) Hd0.out.log) ?hcrt1
            case hert1 => go_simp
            rintro e x1 ⟨rfl, bb1⟩
            rw [HK.out]
            have Hd1 := Lib.hid (Hd0.out.step bb1)
            have K1 : (fun w' => (w'.cell? ⟨w1.heap.size, 0, none⟩ = some (.slice ua m.n l.cap) ∧ w'.cell? ⟨w1.heap.size, 1, none⟩ = some (.slice na m.n nc)) ∧ w'.cell? ⟨gl, j, none⟩ = some (.int .i64 (s : Int))) x1 := ⟨⟨Hd1.out.box.c0, Hd1.out.box.c1⟩, (bb1.cell (World.block_lt_of_cell? _ _ K0.2)).trans K0.2⟩
            have D1 := D0.trans (bb1.mono D0.size)
            clear Hd0 K0 bb1 D0
            refine ⟨_, rfl, K1, ?_⟩
            simp only [List.setIfInBounds_toArray, List.set_cons_zero, List.set_cons_succ]
            refine hold_take (i := 2) (d := 57) (v := ?vrt2) (listed' := #[true, true, true, false, false, false, false, false, false, false, false, false, false, false, false, false, false, false, false, false, false]) rfl (by kernel_rfl) (by kernel_rfl) (by kernel_rfl) rfl (by rfl) (by kernel_rfl) K1 ?hrt2 ?rrt2
            case hrt2 =>
              intro w' hSw
              obtain ⟨⟨k0, k1⟩, k2⟩ := hSw
              go_simp
              try with_reducible rfl
            simp only [List.setIfInBounds_toArray, List.set_cons_zero, List.set_cons_succ]
            refine hold_take (i := 3) (d := 58) (v := ?vrt3) (listed' := #[true, true, true, true, false, false, false, false, false, false, false, false, false, false, false, false, false, false, false, false, false]) rfl (by kernel_rfl) (by kernel_rfl) (by kernel_rfl) rfl (by rfl) (by kernel_rfl) K1 ?hrt3 ?rrt3
            case hrt3 =>
              intro w' hSw
              obtain ⟨⟨k0, k1⟩, k2⟩ := hSw
              go_simp
              try with_reducible rfl
            simp only [List.setIfInBounds_toArray, List.set_cons_zero, List.set_cons_succ]
            refine hold_take (i := 4) (d := 59) (v := ?vrt4) (listed' := #[true, true, true, true, true, false, false, false, false, false, false, false, false, false, false, false, false, false, false, false, false]) rfl (by kernel_rfl) (by kernel_rfl) (by kernel_rfl) rfl (by rfl) (by kernel_rfl) K1 ?hrt4 ?rrt4
            case hrt4 =>
              intro w' hSw
              obtain ⟨⟨k0, k1⟩, k2⟩ := hSw
              go_simp
              try with_reducible rfl
            simp only [List.setIfInBounds_toArray, List.set_cons_zero, List.set_cons_succ]
            refine hold_take (i := 5) (d := 60) (v := ?vrt5) (listed' := #[true, true, true, true, true, true, false, false, false, false, false, false, false, false, false, false, false, false, false, false, false]) rfl (by kernel_rfl) (by kernel_rfl) (by kernel_rfl) rfl (by rfl) (by kernel_rfl) K1 ?hrt5 ?rrt5
            case hrt5 =>
              intro w' hSw
              obtain ⟨⟨k0, k1⟩, k2⟩ := hSw
              go_simp
              try with_reducible rfl
            simp only [List.setIfInBounds_toArray, List.set_cons_zero, List.set_cons_succ]
            refine hold_take (i := 6) (d := 61) (v := ?vrt6) (listed' := #[true, true, true, true, true, true, true, false, false, false, false, false, false, false, false, false, false, false, false, false, false]) rfl (by kernel_rfl) (by kernel_rfl) (by kernel_rfl) rfl (by rfl) (by kernel_rfl) K1 ?hrt6 ?rrt6
            case hrt6 =>
              intro w' hSw
              obtain ⟨⟨k0, k1⟩, k2⟩ := hSw
              go_simp
              try with_reducible rfl
            simp only [List.setIfInBounds_toArray, List.set_cons_zero, List.set_cons_succ]
            refine hold_take (i := 7) (d := 62) (v := ?vrt7) (listed' := #[true, true, true, true, true, true, true, true, false, false, false, false, false, false, false, false, false, false, false, false, false]) rfl (by kernel_rfl) (by kernel_rfl) (by kernel_rfl) rfl (by rfl) (by kernel_rfl) K1 ?hrt7 ?rrt7
            case hrt7 =>
              intro w' hSw
              obtain ⟨⟨k0, k1⟩, k2⟩ := hSw
              go_simp
              try with_reducible rfl
            simp only [List.setIfInBounds_toArray, List.set_cons_zero, List.set_cons_succ]
            refine hold_call (i := 8) (d := 63) (listed' := #[true, true, true, true, true, true, true, true, true, false, false, false, false, false, false, false, false, false, false, false, false]) rfl (by kernel_rfl) rfl (by rfl) (by kernel_rfl) ?hert8 (SubOk_any (nc := nc) (x := (s : Int)) Hd1.out.log (HT.out.step Hd1.out.old HT.out.size)) ?hcrt8
            case hert8 => go_simp
            rintro e x2 ⟨rfl, bb2⟩
            rw [HSu.out]
            have Hd2 := Lib.hid (Hd1.out.step bb2)
            have K2 : (fun w' => (w'.cell? ⟨w1.heap.size, 0, none⟩ = some (.slice ua m.n l.cap) ∧ w'.cell? ⟨w1.heap.size, 1, none⟩ = some (.slice na m.n nc)) ∧ w'.cell? ⟨gl, j, none⟩ = some (.int .i64 (s : Int))) x2 := ⟨⟨Hd2.out.box.c0, Hd2.out.box.c1⟩, (bb2.cell (World.block_lt_of_cell? _ _ K1.2)).trans K1.2⟩
            have D2 := D1.trans (bb2.mono D1.size)
            clear Hd1 K1 bb2 D1
            refine ⟨_, rfl, K2, ?_⟩
            simp only [List.setIfInBounds_toArray, List.set_cons_zero, List.set_cons_succ]
            refine hold_take (i := 9) (d := 64) (v := ?vrt9) (listed' := #[true, true, true, true, true, true, true, true, true, true, false, false, false, false, false, false, false, false, false, false, false]) rfl (by kernel_rfl) (by kernel_rfl) (by kernel_rfl) rfl (by rfl) (by kernel_rfl) K2 ?hrt9 ?rrt9
            case hrt9 =>
              intro w' hSw
              obtain ⟨⟨k0, k1⟩, k2⟩ := hSw
              go_simp
              try with_reducible rfl
            simp only [List.setIfInBounds_toArray, List.set_cons_zero, List.set_cons_succ]
            refine hold_take (i := 10) (d := 65) (v := ?vrt10) (listed' := #[true, true, true, true, true, true, true, true, true, true, true, false, false, false, false, false, false, false, false, false, false]) rfl (by kernel_rfl) (by kernel_rfl) (by kernel_rfl) rfl (by rfl) (by kernel_rfl) K2 ?hrt10 ?rrt10
            case hrt10 =>
              intro w' hSw
              obtain ⟨⟨k0, k1⟩, k2⟩ := hSw
              go_simp
              try with_reducible rfl
            simp only [List.setIfInBounds_toArray, List.set_cons_zero, List.set_cons_succ]
            refine hold_take (i := 11) (d := 66) (v := ?vrt11) (listed' := #[true, true, true, true, true, true, true, true, true, true, true, true, false, false, false, false, false, false, false, false, false]) rfl (by kernel_rfl) (by kernel_rfl) (by kernel_rfl) rfl (by rfl) (by kernel_rfl) K2 ?hrt11 ?rrt11
            case hrt11 =>
              intro w' hSw
              obtain ⟨⟨k0, k1⟩, k2⟩ := hSw
              go_simp
              try with_reducible rfl
            simp only [List.setIfInBounds_toArray, List.set_cons_zero, List.set_cons_succ]
            refine hold_take (i := 12) (d := 67) (v := ?vrt12) (listed' := #[true, true, true, true, true, true, true, true, true, true, true, true, true, false, false, false, false, false, false, false, false]) rfl (by kernel_rfl) (by kernel_rfl) (by kernel_rfl) rfl (by rfl) (by kernel_rfl) K2 ?hrt12 ?rrt12
            case hrt12 =>
              intro w' hSw
              obtain ⟨⟨k0, k1⟩, k2⟩ := hSw
              go_simp
              try with_reducible rfl
            simp only [List.setIfInBounds_toArray, List.set_cons_zero, List.set_cons_succ]
            refine hold_take (i := 13) (d := 68) (v := ?vrt13) (listed' := #[true, true, true, true, true, true, true, true, true, true, true, true, true, true, false, false, false, false, false, false, false]) rfl (by kernel_rfl) (by kernel_rfl) (by kernel_rfl) rfl (by rfl) (by kernel_rfl) K2 ?hrt13 ?rrt13
            case hrt13 =>
              intro w' hSw
              obtain ⟨⟨k0, k1⟩, k2⟩ := hSw
              go_simp
              try with_reducible rfl
            simp only [List.setIfInBounds_toArray, List.set_cons_zero, List.set_cons_succ]
            refine hold_take (i := 14) (d := 69) (v := ?vrt14) (listed' := #[true, true, true, true, true, true, true, true, true, true, true, true, true, true, true, false, false, false, false, false, false]) rfl (by kernel_rfl) (by kernel_rfl) (by kernel_rfl) rfl (by rfl) (by kernel_rfl) K2 ?hrt14 ?rrt14
            case hrt14 =>
              intro w' hSw
              obtain ⟨⟨k0, k1⟩, k2⟩ := hSw
              go_simp
              try with_reducible rfl
            simp only [List.setIfInBounds_toArray, List.set_cons_zero, List.set_cons_succ]
            refine hold_take (i := 15) (d := 70) (v := ?vrt15) (listed' := #[true, true, true, true, true, true, true, true, true, true, true, true, true, true, true, true, false, false, false, false, false]) rfl (by kernel_rfl) (by kernel_rfl) (by kernel_rfl) rfl (by rfl) (by kernel_rfl) K2 ?hrt15 ?rrt15
            case hrt15 =>
              intro w' hSw
              obtain ⟨⟨k0, k1⟩, k2⟩ := hSw
              go_simp
              try with_reducible rfl
            simp only [List.setIfInBounds_toArray, List.set_cons_zero, List.set_cons_succ]
            refine hold_call (i := 16) (d := 71) (listed' := #[true, true, true, true, true, true, true, true, true, true, true, true, true, true, true, true, true, false, false, false, false]) rfl (by kernel_rfl) rfl (by rfl) (by kernel_rfl) ?hert16 (HPP.out _ _ Hd2.out.log (HT.out.step Hd2.out.old HT.out.size)) ?hcrt16
            case hert16 => go_simp
            rintro e x3 ⟨uaP, lP, naP, gP, ncP, rfl, hP9, bb3⟩
            have Hd3 := Lib.hid (Hd2.out.step bb3)
            have K3 : (fun w' => (w'.cell? ⟨w1.heap.size, 0, none⟩ = some (.slice ua m.n l.cap) ∧ w'.cell? ⟨w1.heap.size, 1, none⟩ = some (.slice na m.n nc)) ∧ w'.cell? ⟨gl, j, none⟩ = some (.int .i64 (s : Int))) x3 := ⟨⟨Hd3.out.box.c0, Hd3.out.box.c1⟩, (bb3.cell (World.block_lt_of_cell? _ _ K2.2)).trans K2.2⟩
            have D3 := D2.trans (bb3.mono D2.size)
            clear Hd2 K2 bb3 D2
            refine ⟨_, rfl, K3, ?_⟩
            simp only [List.setIfInBounds_toArray, List.set_cons_zero, List.set_cons_succ]
            refine hold_call (i := 17) (d := 72) (listed' := #[true, true, true, true, true, true, true, true, true, true, true, true, true, true, true, true, true, true, false, false, false]) rfl (by kernel_rfl) rfl (by rfl) (by kernel_rfl) ?hert17 (BooleanOk_any (nc := ncP) (m := ⟨memK s 12, fun _ => memK s 12, nameZ m.Z (memF s 12)⟩) hP9) ?hcrt17
            case hert17 => go_simp
            rintro e x4 ⟨rfl, bb4⟩
            rw [HBo.out]
            have Hd4 := Lib.hid (Hd3.out.step bb4)
            have K4 : (fun w' => (w'.cell? ⟨w1.heap.size, 0, none⟩ = some (.slice ua m.n l.cap) ∧ w'.cell? ⟨w1.heap.size, 1, none⟩ = some (.slice na m.n nc)) ∧ w'.cell? ⟨gl, j, none⟩ = some (.int .i64 (s : Int))) x4 := ⟨⟨Hd4.out.box.c0, Hd4.out.box.c1⟩, (bb4.cell (World.block_lt_of_cell? _ _ K3.2)).trans K3.2⟩
            have D4 := D3.trans (bb4.mono D3.size)
            clear Hd3 K3 bb4 D3
            refine ⟨_, rfl, K4, ?_⟩
            simp only [List.setIfInBounds_toArray, List.set_cons_zero, List.set_cons_succ]
            refine hold_take (i := 18) (d := 73) (v := ?vrt18) (listed' := #[true, true, true, true, true, true, true, true, true, true, true, true, true, true, true, true, true, true, true, false, false]) rfl (by kernel_rfl) (by kernel_rfl) (by kernel_rfl) rfl (by rfl) (by kernel_rfl) K4 ?hrt18 ?rrt18
            case hrt18 =>
              intro w' hSw
              obtain ⟨⟨k0, k1⟩, k2⟩ := hSw
              go_simp
              try with_reducible rfl
            simp only [List.setIfInBounds_toArray, List.set_cons_zero, List.set_cons_succ]
            refine hold_take (i := 19) (d := 74) (v := ?vrt19) (listed' := #[true, true, true, true, true, true, true, true, true, true, true, true, true, true, true, true, true, true, true, true, false]) rfl (by kernel_rfl) (by kernel_rfl) (by kernel_rfl) rfl (by rfl) (by kernel_rfl) K4 ?hrt19 ?rrt19
            case hrt19 =>
              intro w' hSw
              obtain ⟨⟨k0, k1⟩, k2⟩ := hSw
              go_simp
              try with_reducible rfl
            simp only [List.setIfInBounds_toArray, List.set_cons_zero, List.set_cons_succ]
            refine hold_take (i := 20) (d := 75) (v := ?vrt20) (listed' := #[true, true, true, true, true, true, true, true, true, true, true, true, true, true, true, true, true, true, true, true, true]) rfl (by kernel_rfl) (by kernel_rfl) (by kernel_rfl) rfl (by rfl) (by kernel_rfl) K4 ?hrt20 ?rrt20
            case hrt20 =>
              intro w' hSw
              obtain ⟨⟨k0, k1⟩, k2⟩ := hSw
              go_simp
              try with_reducible rfl
            simp only [List.setIfInBounds_toArray, List.set_cons_zero, List.set_cons_succ]
            refine hold_done (by kernel_rfl) ?_ _
            go_wp2_with fail
            go_roundw
            case rel => exact ⟨j + 1, by omega, by go_num, by first | rfl | exact congrArg (Value.int .i64) HOr9.out, by first | rfl | exact congrArg (Value.int .i64) HAnd9.out, D4⟩
            case measure => simp [intOf]; omega
        · have hlt' : ¬ (j : Int) < L.length := by omega
          have ej : L.take j = L := List.take_of_length_le (by omega)
          have H5 := H4.step hD
          have hv5 := Lib.hid (ownsRow_below HV4.out hD (Nat.le_refl _))
          rw [ej, HOr.out, HAnd.out]
          have q0 := H5.box.c0
          have q1 := H5.box.c1
          clear ej H4 HV4 HC HIN HPt hD
          go_wp2_with fail
          go_at_call 14
          refine (spec_CentreOf (nc := nc) H5.log).mono ?_
          rintro e w6 ⟨vm, rfl, hvm, b6⟩
          have H6 := H5.step b6
          have hv6 := Lib.hid (ownsRow_below hv5.out b6 (Nat.le_refl _))
          rw [HMid.out] at hvm
          obtain ⟨xs, hxs⟩ : ∃ xs, midTo m y m.n = xs := ⟨_, rfl⟩
          have hin : ∀ j, j < xs.length → ∃ c : Nat, xs[j]?.getD 0 = (c : Int) ∧ c < 12 := fun j hj => by
            rw [← hxs] at hj ⊢
            obtain ⟨c, e1, e2, _⟩ := midTo_in m y m.n _ (get_in hj)
            exact ⟨c, e1, by omega⟩
          have hsum : sumL xs = bitS (midB m y) m.n := by rw [← hxs]; exact sumL_mid m y m.n
          have hs4 : sumL xs < 4096 := by rw [hsum]; exact bitS_lt12 h12
          have hxl : xs.length ≤ 12 := by rw [← hxs]; exact Nat.le_trans (midTo_len m y m.n) h12
          rw [hxs, map_range xs] at hvm
          rw [← hsum]
          have HIN2 := Lib.hid hin
          clear H5 hv5 b6 q0 q1 hin hsum hxs
          have hcx : ∃ a c, vm = .slice a xs.length c ∧ ∀ j, j < xs.length → ∃ g9, a = some ⟨g9, 0, none⟩ ∧ w6.cell? ⟨g9, j, none⟩ = some (.int .i64 (xs[j]?.getD 0)) := by
            rcases owns_ways hvm with ⟨rfl, e9⟩ | ⟨g9, c9, rfl, hc9⟩
            · exact ⟨none, 0, by rw [e9], fun j hj => by omega⟩
            · exact ⟨_, c9, rfl, fun j hj => ⟨g9, rfl, hc9 j hj⟩⟩
          obtain ⟨am, cm, rfl, hcm⟩ := hcx
          have HCM := Lib.hid hcm
          clear hcm hvm
          go_wp2_with fail
          go_loopw [8, 10] (fun s i wr => ∃ j : Nat, j ≤ xs.length ∧ i = .int .i64 j ∧ s = .int .i64 ((sumL (xs.take j) : Nat) : Int) ∧ wr = w6) (fun _ i _ => xs.length - (intOf i).toNat)
          case atStart => exact ⟨0, Nat.zero_le _, rfl, rfl, rfl⟩
          case round =>
            obtain ⟨j, hj, rfl, rfl, rfl⟩ := hrel
            by_cases hlt : j < xs.length
            · have hlt' : (j : Int) < xs.length := by omega
              obtain ⟨c, hc1, hc2⟩ := HIN2.out j hlt
              obtain ⟨g9, rfl, hcell⟩ := HCM.out j hlt
              rw [hc1] at hcell
              have HS : Hid (sumL (xs.take (j + 1)) = sumL (xs.take j) + 2 ^ c) := by
                show _ = _
                rw [sumL_take hlt, hc1]; simp
              have hle : sumL (xs.take (j + 1)) ≤ sumL xs := sumL_le xs (j + 1)
              rw [HS.out] at hle
              obtain ⟨S, hS⟩ : ∃ S, sumL (xs.take j) = S := ⟨_, rfl⟩
              rw [hS] at HS hle ⊢
              have hc64 : (c : Int) ≤ 64 := by omega
              have hc63 : (c : Int) < 64 := by omega
              have hp1 : 1 ≤ 2 ^ c := Nat.one_le_two_pow
              have es : IntKind.i64.wrap ((S : Int) + ((2 ^ c : Nat) : Int)) = ((S + 2 ^ c : Nat) : Int) := by
                rw [← Int.natCast_add]; exact IntWalk.i64_in _ (by omega)
              have ew : IntKind.i64.wrap (2 ^ c) = ((2 ^ c : Nat) : Int) := one_wrap (by omega)
              have E9 : Hid (wrap64 ((S : Int) + 2 ^ c) = ((S + 2 ^ c : Nat) : Int)) := by
                show _ = _
                rw [show ((2 ^ c : Nat) : Int) = (2 : Int) ^ c from by simp] at es
                rw [← IntWalk.i64_left]; exact es
              clear hS hle hc1 es
              go_wp2_with fail
              go_roundw
              case rel => exact ⟨j + 1, by omega, by go_num, by rw [HS.out]; exact congrArg (Value.int .i64) E9.out, trivial⟩
              case measure => simp [intOf]; omega
            · have hlt' : ¬ (j : Int) < xs.length := by omega
              have ej : xs.take j = xs := List.take_of_length_le (by omega)
              have q0 := H6.box.c0
              have q1 := H6.box.c1
              have e9 : (((2 ^ m.n - 1 : Nat) : Int)) = (P : Int) - 1 := by rw [← HPe.out]; omega
              rw [ej, e9]
              clear ej e9
              go_wp2_with fail
              go_at_call 33
              refine (ascend_list (by omega) hv6.out HUp.out).mono ?_
              rintro e w7 ⟨rfl, d7⟩
              have H7 := H6.step (d7.below _)
              go_wp2_with fail
              go_ret
              exact ⟨rfl, H7.old⟩
end Go.Proofs.YtnbglbhfclohjaaDoor
