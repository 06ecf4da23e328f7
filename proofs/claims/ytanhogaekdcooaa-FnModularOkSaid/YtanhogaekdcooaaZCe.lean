import Derived.Test.YtanhogaekdcooaaZAa
import Derived.Test.YtanhogaekdcooaaZYi
import Derived.Test.YtanhogaekdcooaaZFa
import Derived.RangeFuncNested
import Derived.RangeFuncLeaves
import Derived.Test.YtanhogaekdcooaaZMath
namespace Go.Proofs.Ytanhogaekdcooaa
open Go.RowKit Go.Deep Go.Shelf

attribute [local go_sem] Oper.semAt_some

/-- One block lies as it lay. -/
def KeptB (k : Nat) (A B : World) : Prop := B.heap[k]? = A.heap[k]?
theorem KeptB.trans {k : Nat} {A B C : World} (h : KeptB k A B) (h' : KeptB k B C) : KeptB k A C := Eq.trans h' h
theorem KeptB.put {k : Nat} {w : World} (hk : k < w.heap.size) (W : World) (l : Nat) (o o' : Obj) (hl : w.heap.size ≤ l) (_ : W.heap[l]? = some o) (_ : o.isCells = false) (_ : o.isWalk = false) : KeptB k W (W.putObj l o') :=
  World.putObj_heap_other (by omega)

/-- The rows under way: the bits of the pairs so far that agree. -/
structure RB (m : Mx) (y : Nat → Nat) (mb bx : Nat) (pre : List (Fin m.n × Fin m.n)) (W : World) : Prop where
  top : W.cell? ⟨bx, 0, none⟩ = some (.slice (some ⟨mb, 0, none⟩) m.n m.n)
  row : ∀ a, a < m.n → ∃ s : Nat, s < 4096 ∧ W.cell? ⟨mb, a, none⟩ = some (.int .i64 (s : Int)) ∧ W.frozen? ⟨mb, a, none⟩ = false ∧ ∀ b, b < m.n → (s.testBit b = true ↔ agB m y a b = true ∧ ∃ x ∈ pre, x.1.val = a ∧ x.2.val = b)
theorem RB.keep {m : Mx} {y : Nat → Nat} {mb bx : Nat} {pre : List (Fin m.n × Fin m.n)} {W W' : World} (h : RB m y mb bx pre W) (h1 : ∀ p : Addr, (W.cell? p).isSome = true → p.block = mb ∨ p.block = bx → W'.cell? p = W.cell? p ∧ W'.frozen? p = W.frozen? p) : RB m y mb bx pre W' :=
  ⟨(h1 _ (by rw [h.top]; rfl) (.inr rfl)).1.trans h.top, fun a ha => by
    obtain ⟨s, hs, hc, hf, hb⟩ := h.row a ha
    obtain ⟨k1, k2⟩ := h1 ⟨mb, a, none⟩ (by rw [hc]; rfl) (.inl rfl)
    exact ⟨s, hs, k1.trans hc, k2.trans hf, hb⟩⟩
theorem RB.below {m : Mx} {y : Nat → Nat} {mb bx : Nat} {pre : List (Fin m.n × Fin m.n)} {W W' : World} (h : RB m y mb bx pre W) (hb : Below W.heap.size W W') : RB m y mb bx pre W' :=
  h.keep fun p hp _ => by
    obtain ⟨v, hv⟩ := Option.isSome_iff_exists.1 hp
    have := World.block_lt_of_cell? _ _ hv
    exact ⟨hb.cell this, hb.frozen this⟩
theorem RB.own (m : Mx) (y : Nat → Nat) (mb bx : Nat) : Own (fun (pre : List (Fin m.n × Fin m.n)) W => RB m y mb bx pre W) := fun s A B row hs hg hr => hs.keep fun p hp _ => by
  obtain ⟨v, hv⟩ := Option.isSome_iff_exists.1 hp
  exact ⟨(cell_kept hv hg hr).trans hv.symm, frozen_kept hv hg hr⟩
theorem RB.skip {m : Mx} {y : Nat → Nat} {mb bx : Nat} {pre : List (Fin m.n × Fin m.n)} {W : World} (h : RB m y mb bx pre W) {x : Fin m.n × Fin m.n} (hx : agB m y x.1.val x.2.val = false) : RB m y mb bx (pre ++ [x]) W :=
  ⟨h.top, fun a ha => by
    obtain ⟨s, hs, hc, hf, hb⟩ := h.row a ha
    refine ⟨s, hs, hc, hf, fun b hbn => (hb b hbn).trans ?_⟩
    constructor
    · rintro ⟨e, p, hp, e1, e2⟩
      exact ⟨e, p, List.mem_append_left _ hp, e1, e2⟩
    · rintro ⟨e, p, hp, e1, e2⟩
      rcases List.mem_append.1 hp with hp | hp
      · exact ⟨e, p, hp, e1, e2⟩
      · exfalso
        have e3 : p = x := by simpa using hp
        rw [← e1, ← e2, e3, hx] at e
        exact Bool.false_ne_true e⟩
theorem or_lt12 {s b : Nat} (hs : s < 4096) (hb : b < 12) : s ||| 2 ^ b < 4096 := by
  have h1 : 2 ^ b < 2 ^ 12 := Nat.pow_lt_pow_right (by omega) hb
  exact Nat.or_lt_two_pow (n := 12) hs h1
theorem RB.set {m : Mx} {y : Nat → Nat} {mb bx : Nat} {pre : List (Fin m.n × Fin m.n)} {W : World} (h : RB m y mb bx pre W) (hne : bx ≠ mb) (hn : m.n ≤ 12) {a b s : Nat} (ha : a < m.n) (hb : b < m.n) (hx : agB m y a b = true) (hs : W.cell? ⟨mb, a, none⟩ = some (.int .i64 (s : Int))) :
    RB m y mb bx (pre ++ [(⟨a, ha⟩, ⟨b, hb⟩)]) (W.setCell ⟨mb, a, none⟩ (.int .i64 ((s ||| 2 ^ b : Nat) : Int))) :=
  ⟨(World.cell?_setCell_other _ _ _ _ (by intro e; exact hne (congrArg Addr.block e).symm)).trans h.top, fun c hc => by
    obtain ⟨t, ht, hct, hf, hbt⟩ := h.row c hc
    by_cases e : c = a
    · subst e
      have est : s = t := by
        rw [hs] at hct
        have e9 : (s : Int) = (t : Int) := by simpa using hct
        omega
      subst est
      refine ⟨s ||| 2 ^ b, or_lt12 ht (by omega), World.cell?_setCell_same' _ _ _ (by rw [hs]; rfl), by rw [World.frozen?_setCell]; exact hf, fun d hd => ?_⟩
      rw [Nat.testBit_or, Bool.or_eq_true, hbt d hd, Nat.testBit_two_pow, decide_eq_true_iff]
      constructor
      · rintro (⟨e1, p, hp, e2, e3⟩ | e1)
        · exact ⟨e1, p, List.mem_append_left _ hp, e2, e3⟩
        · subst e1
          exact ⟨hx, _, List.mem_append_right _ (List.mem_singleton.2 rfl), rfl, rfl⟩
      · rintro ⟨e1, p, hp, e2, e3⟩
        rcases List.mem_append.1 hp with hp | hp
        · exact .inl ⟨e1, p, hp, e2, e3⟩
        · right
          have e4 : p = (⟨c, ha⟩, ⟨b, hb⟩) := by simpa using hp
          rw [e4] at e3
          exact e3
    · refine ⟨t, ht, (World.cell?_setCell_other _ _ _ _ (by intro e2; exact e (congrArg Addr.off e2).symm)).trans hct, by rw [World.frozen?_setCell]; exact hf, fun d hd => (hbt d hd).trans ?_⟩
      constructor
      · rintro ⟨e1, p, hp, e2, e3⟩
        exact ⟨e1, p, List.mem_append_left _ hp, e2, e3⟩
      · rintro ⟨e1, p, hp, e2, e3⟩
        rcases List.mem_append.1 hp with hp | hp
        · exact ⟨e1, p, hp, e2, e3⟩
        · exfalso
          have e4 : p = (⟨a, ha⟩, ⟨b, hb⟩) := by simpa using hp
          rw [e4] at e2
          exact e e2.symm⟩

/-- What agreeing hands back: a function value over rows of bits. -/
structure AgAt (m : Mx) (y : Nat → Nat) (mb bx : Nat) (W : World) : Prop where
  top : W.cell? ⟨bx, 0, none⟩ = some (.slice (some ⟨mb, 0, none⟩) m.n m.n)
  row : ∀ a, a < m.n → ∃ s : Nat, s < 4096 ∧ W.cell? ⟨mb, a, none⟩ = some (.int .i64 (s : Int)) ∧ ∀ b, b < m.n → s.testBit b = agB m y a b
theorem AgAt.step {m : Mx} {y : Nat → Nat} {mb bx : Nat} {W W' : World} (h : AgAt m y mb bx W) (hb : Below W.heap.size W W') : AgAt m y mb bx W' :=
  ⟨(hb.cell (World.block_lt_of_cell? _ _ h.top)).trans h.top, fun a ha => by
    obtain ⟨s, hs, hc, hr⟩ := h.row a ha
    exact ⟨s, hs, (hb.cell (World.block_lt_of_cell? _ _ hc)).trans hc, hr⟩⟩
theorem AgAt.put {m : Mx} {y : Nat → Nat} {mb bx D : Nat} {W : World} (h : AgAt m y mb bx W) {o : Obj} (hl : W.heap[D]? = some o) (ho : o.isCells = false) (o' : Obj) : AgAt m y mb bx (W.putObj D o') :=
  ⟨cell_kept h.top (grownBy_putObj' _ D o') (fun r e => by cases e; exact ⟨_, hl, ho⟩), fun a ha => by
    obtain ⟨s, hs, hc, hr⟩ := h.row a ha
    exact ⟨s, hs, cell_kept hc (grownBy_putObj' _ D o') (fun r e => by cases e; exact ⟨_, hl, ho⟩), hr⟩⟩
theorem RB.all {m : Mx} {y : Nat → Nat} {mb bx : Nat} {pre : List (Fin m.n × Fin m.n)} {W : World} (h : RB m y mb bx pre W) (hall : ∀ a b : Fin m.n, (a, b) ∈ pre) : AgAt m y mb bx W :=
  ⟨h.top, fun a ha => by
    obtain ⟨s, hs, hc, _, hb⟩ := h.row a ha
    refine ⟨s, hs, hc, fun b hbn => ?_⟩
    rw [Bool.eq_iff_iff, hb b hbn]
    exact ⟨fun e => e.1, fun e => ⟨e, (⟨a, ha⟩, ⟨b, hbn⟩), hall _ _, rfl, rfl⟩⟩⟩
end Go.Proofs.Ytanhogaekdcooaa
namespace Go.Proofs.Ytanhogaekdcooaa
open Go.RowKit Go.Deep Go.Shelf

attribute [local go_sem] Oper.semAt_some

def bothPB (m : Mx) (y : Nat → Nat) (a b : Nat) : Bool := !agB m y a b || agB m y b a
/-- Nothing speaks against the pairs of the list. -/
def AllBoth (m : Mx) (y : Nat → Nat) (pre : List (Fin m.n × Fin m.n)) : Prop := ∀ p ∈ pre, bothPB m y p.1.val p.2.val = true
theorem AllBoth.snoc {m : Mx} {y : Nat → Nat} {pre : List (Fin m.n × Fin m.n)} (h : AllBoth m y pre) {x : Fin m.n × Fin m.n} (hx : bothPB m y x.1.val x.2.val = true) : AllBoth m y (pre ++ [x]) := fun p hp => by
  rcases List.mem_append.1 hp with e | e
  · exact h p e
  · have e' : p = x := by simpa using e
    rw [e']; exact hx
theorem AllBoth.all {m : Mx} {y : Nat → Nat} {pre : List (Fin m.n × Fin m.n)} (h : AllBoth m y pre) (hall : ∀ a b : Fin m.n, (a, b) ∈ pre) : twoWaysB m y = true := by
  unfold twoWaysB
  refine allB_true fun a ha => allB_true fun b hb => ?_
  have h1 := h (⟨a, ha⟩, ⟨b, hb⟩) (hall _ _)
  unfold bothPB at h1
  exact h1

end Go.Proofs.Ytanhogaekdcooaa
namespace Go.Proofs.Ytanhogaekdcooaa
open Go.RowKit Go.Deep Go.Shelf

/-- Cells of blocks that are not the caller's lie as they lay, and are not the caller's behind it. -/
structure KeepO (own : World → Nat → Prop) (W W' : World) : Prop where
  size : W.heap.size ≤ W'.heap.size
  same : ∀ (p : Addr) (v : Value), W.cell? p = some v → ¬ own W p.block → W'.cell? p = some v ∧ ¬ own W' p.block
theorem KeepO.refl (own : World → Nat → Prop) (W : World) : KeepO own W W := ⟨Nat.le_refl _, fun _ _ h h' => ⟨h, h'⟩⟩
theorem KeepO.trans {own : World → Nat → Prop} {A B C : World} (h : KeepO own A B) (k : KeepO own B C) : KeepO own A C :=
  ⟨Nat.le_trans h.size k.size, fun p v e e' => let ⟨g, g'⟩ := h.same p v e e'; k.same p v g g'⟩
/-- Which blocks are the caller's hangs on nothing that an iterator turns. -/
structure Ow (own : World → Nat → Prop) (B : Nat) : Prop where
  step : ∀ (W W' : World) (row : Option Nat), B ≤ W.heap.size → W.grownBy W' row → (∀ r, row = some r → B ≤ r ∧ ∃ o : Obj, W.heap[r]? = some o ∧ o.isCells = false) → ∀ k, own W' k → own W k
theorem Ow.up {own : World → Nat → Prop} {B B' : Nat} (h : Ow own B) (hB : B ≤ B') : Ow own B' :=
  ⟨fun W W' row hs hg hr k => h.step W W' row (Nat.le_trans hB hs) hg (fun r e => ⟨Nat.le_trans hB (hr r e).1, (hr r e).2⟩) k⟩
theorem Ow.grown {own : World → Nat → Prop} {B : Nat} (h : Ow own B) {W W' : World} {row : Option Nat} (hB : B ≤ W.heap.size) (hg : W.grownBy W' row) (hr : ∀ r, row = some r → B ≤ r ∧ ∃ o : Obj, W.heap[r]? = some o ∧ o.isCells = false) : KeepO own W W' :=
  ⟨hg.size, fun _ _ e e' => ⟨cell_kept e hg (fun r er => (hr r er).2), fun g => e' (h.step W W' row hB hg hr _ g)⟩⟩
theorem Ow.put {own : World → Nat → Prop} {B : Nat} (h : Ow own B) {W : World} {l : Nat} {o : Obj} (o' : Obj) (hB : B ≤ W.heap.size) (hl : B ≤ l) (hx : W.heap[l]? = some o) (ho : o.isCells = false) : KeepO own W (W.putObj l o') :=
  h.grown hB (grownBy_putObj' W l o') (fun r e => by cases e; exact ⟨hl, o, hx, ho⟩)
theorem grown_below {W W' : World} (h : Below W.heap.size W W') : W.grownBy W' none := ⟨h.os, h.tape, h.output, h.size, fun k hk _ => h.block k hk⟩
theorem Ow.below {own : World → Nat → Prop} {B : Nat} (h : Ow own B) {W W' : World} (hB : B ≤ W.heap.size) (hb : Below W.heap.size W W') : KeepO own W W' :=
  h.grown hB (grown_below hb) (fun r e => by cases e)
theorem OwnFrom.up {β : Type} {B B' : Nat} {I : β → World → Prop} (h : OwnFrom B I) (hB : B ≤ B') : OwnFrom B' I :=
  fun s W W' row hs hg hr => h s W W' row hs hg (fun r e => ⟨Nat.le_trans hB (hr r e).1, (hr r e).2⟩)
theorem OwnFrom.below {β : Type} {B : Nat} {I : β → World → Prop} (h : OwnFrom B I) {s : β} {W W' : World} (hs : I s W) (hb : Below W.heap.size W W') : I s W' :=
  h s W W' none hs (grown_below hb) (fun r e => by cases e)
end Go.Proofs.Ytanhogaekdcooaa
namespace Go.Proofs.Ytanhogaekdcooaa

namespace OL
variable {α : Type} {L : OL α}
/-- Each three answers may be taken apart. -/
def Dist (L : OL α) : Prop := ∀ a b d, L.m a (L.j b d) = L.j (L.m a b) (L.m a d)
theorem Dist.ag (h : L.Dist) (a b : α) : L.Ag a b := by
  unfold Ag
  rw [← h, j_c]
  exact m_le (top a)
theorem Dist.keeps (h : L.Dist) : L.Keeps := keeps_of fun _ _ _ => h.ag _ _
end OL

/-- Two answers agree both ways. -/
def adjB (m : Mx) (y : Nat → Nat) (a b : Nat) : Bool := agB m y a b && agB m y b a
theorem adjB_comm (m : Mx) (y : Nat → Nat) (a b : Nat) : adjB m y a b = adjB m y b a := by unfold adjB; rw [Bool.and_comm]
/-- It agrees with all of the set. -/
def nbB (m : Mx) (y : Nat → Nat) (s x : Nat) : Bool := allB m.n fun a => !s.testBit a || adjB m y x a
theorem nb_iff {m : Mx} {y : Nat → Nat} {s x : Nat} : nbB m y s x = true ↔ ∀ a, a < m.n → s.testBit a = true → adjB m y x a = true := by
  constructor
  · intro h a ha hs
    have := allB_is h a ha
    rw [hs] at this
    simpa using this
  · intro h
    refine allB_true fun a ha => ?_
    cases hs : s.testBit a with
    | false => rfl
    | true => rw [h a ha hs]; rfl
/-- A bit of a number stands below its bound. -/
theorem bit_under {s n a : Nat} (hs : s < 2 ^ n) (h : s.testBit a = true) : a < n := by
  apply Classical.byContradiction
  intro hn
  have h2 : 2 ^ n ≤ 2 ^ a := Nat.pow_le_pow_right (by omega) (by omega)
  have := Nat.testBit_lt_two_pow (x := s) (i := a) (by omega)
  rw [h] at this
  exact Bool.false_ne_true this.symm
section
variable {m : Mx} {z : Nat → Int} {y : Nat → Nat} {o : Nat}
def boolB (m : Mx) : Bool := allB m.n fun a => allB m.n fun b => allB m.n fun d => splitB m a b d
theorem bool_iff {m : Mx} : boolB m = true ↔ ∀ a b d, a < m.n → b < m.n → d < m.n → splitB m a b d = true :=
  ⟨fun h a b d ha hb hd => allB_is (allB_is (allB_is h a ha) b hb) d hd, fun h => allB_true fun a ha => allB_true fun b hb => allB_true fun d hd => h a b d ha hb hd⟩
theorem Ortho.bool_dist (h : Ortho m z y o) : boolB m = true ↔ h.ol.Dist := by
  rw [bool_iff]
  constructor
  · intro e a b d
    exact Fin.ext (of_decide_eq_true (e a b d a.2 b.2 d.2))
  · intro e a b d ha hb hd
    exact decide_eq_true (congrArg Fin.val (e ⟨a, ha⟩ ⟨b, hb⟩ ⟨d, hd⟩))
/-- The block of all answers. -/
theorem full_bits {n a : Nat} : (2 ^ n - 1).testBit a = decide (a < n) := Nat.testBit_two_pow_sub_one n a
end

/-- Bits set where a test holds, below a number. -/
def bitS (p : Nat → Bool) : Nat → Nat
  | 0 => 0
  | k + 1 => if p k = true then bitS p k + 2 ^ k else bitS p k
theorem bitS_is (p : Nat → Bool) (k : Nat) : bitS p k < 2 ^ k ∧ ∀ a, (bitS p k).testBit a = (decide (a < k) && p a) := by
  induction k with
  | zero => exact ⟨by show (0 : Nat) < 1; omega, fun a => by simp [bitS]⟩
  | succ k ih =>
    obtain ⟨h1, h2⟩ := ih
    have hp : 2 ^ (k + 1) = 2 ^ k + 2 ^ k := by rw [Nat.pow_succ]; omega
    cases hk : p k with
    | true =>
      have e : bitS p (k + 1) = bitS p k + 2 ^ k := by show (if _ then _ else _) = _; rw [if_pos hk]
      have e2 : bitS p k + 2 ^ k = 2 ^ k ||| bitS p k := by
        have h := Nat.two_pow_add_eq_or_of_lt h1 1
        rw [Nat.mul_one] at h
        rw [Nat.add_comm]; exact h
      refine ⟨by rw [e]; omega, fun a => ?_⟩
      rw [e, e2, Nat.testBit_or, Nat.testBit_two_pow, h2]
      by_cases ha : a = k
      · subst ha; simp [hk]
      · have : (k = a) = False := by simp; omega
        simp only [this, decide_false, Bool.false_or]
        rw [Bool.eq_iff_iff]
        simp only [Bool.and_eq_true, decide_eq_true_iff]
        constructor
        · rintro ⟨q1, q2⟩; exact ⟨by omega, q2⟩
        · rintro ⟨q1, q2⟩; exact ⟨by omega, q2⟩
    | false =>
      have e : bitS p (k + 1) = bitS p k := by show (if _ then _ else _) = _; rw [if_neg (by rw [hk]; exact Bool.false_ne_true)]
      refine ⟨by rw [e]; omega, fun a => ?_⟩
      rw [e, h2]
      by_cases ha : a = k
      · subst ha; simp [hk]
      · rw [Bool.eq_iff_iff]
        simp only [Bool.and_eq_true, decide_eq_true_iff]
        constructor
        · rintro ⟨q1, q2⟩; exact ⟨by omega, q2⟩
        · rintro ⟨q1, q2⟩; exact ⟨by omega, q2⟩
section
variable {m : Mx} {z : Nat → Int} {y : Nat → Nat} {o : Nat}
end
end Go.Proofs.Ytanhogaekdcooaa
namespace Go.Proofs.Ytanhogaekdcooaa

/-- What agrees with all of a set: as a set. -/
def shN (m : Mx) (y : Nat → Nat) (s : Nat) : Nat := bitS (nbB m y s) m.n
theorem shN_bit (m : Mx) (y : Nat → Nat) (s a : Nat) : (shN m y s).testBit a = (decide (a < m.n) && nbB m y s a) := (bitS_is _ _).2 a
section
variable {m : Mx} {z : Nat → Int} {y : Nat → Nat} {o : Nat}
end

section
variable {m : Mx} {z : Nat → Int} {y : Nat → Nat} {o : Nat}
end
end Go.Proofs.Ytanhogaekdcooaa
namespace Go.Proofs.Ytanhogaekdcooaa
open Go.RowKit Go.Deep Go.Shelf

attribute [local go_sem] Oper.semAt_some

theorem or_ltN {s b n : Nat} (hs : s < 2 ^ n) (hb : b < n) : s ||| 2 ^ b < 2 ^ n := Nat.or_lt_two_pow hs (Nat.pow_lt_pow_right (by omega) hb)
/-- Rows of bits under way: the pairs so far that pass a test. -/
structure RG (n : Nat) (p : Nat → Nat → Bool) (mb : Nat) (pre : List (Fin n × Fin n)) (W : World) : Prop where
  row : ∀ a, a < n → ∃ s : Nat, s < 2 ^ n ∧ W.cell? ⟨mb, a, none⟩ = some (.int .i64 (s : Int)) ∧ W.frozen? ⟨mb, a, none⟩ = false ∧ ∀ b, b < n → (s.testBit b = true ↔ p a b = true ∧ ∃ x ∈ pre, x.1.val = a ∧ x.2.val = b)
section
variable {n : Nat} {p : Nat → Nat → Bool} {mb : Nat} {pre : List (Fin n × Fin n)} {W W' : World}
theorem RG.keep (h : RG n p mb pre W) (h1 : ∀ q : Addr, (W.cell? q).isSome = true → q.block = mb → W'.cell? q = W.cell? q ∧ W'.frozen? q = W.frozen? q) : RG n p mb pre W' :=
  ⟨fun a ha => by
    obtain ⟨s, hs, hc, hf, hb⟩ := h.row a ha
    obtain ⟨k1, k2⟩ := h1 ⟨mb, a, none⟩ (by rw [hc]; rfl) rfl
    exact ⟨s, hs, k1.trans hc, k2.trans hf, hb⟩⟩
theorem RG.below (h : RG n p mb pre W) (hb : Below W.heap.size W W') : RG n p mb pre W' :=
  h.keep fun q hq _ => by
    obtain ⟨v, hv⟩ := Option.isSome_iff_exists.1 hq
    have := World.block_lt_of_cell? _ _ hv
    exact ⟨hb.cell this, hb.frozen this⟩
theorem RG.own (n : Nat) (p : Nat → Nat → Bool) (mb : Nat) : Own (fun (pre : List (Fin n × Fin n)) W => RG n p mb pre W) := fun _ _ _ _ hs hg hr => hs.keep fun q hq _ => by
  obtain ⟨v, hv⟩ := Option.isSome_iff_exists.1 hq
  exact ⟨(cell_kept hv hg hr).trans hv.symm, frozen_kept hv hg hr⟩
theorem RG.skip (h : RG n p mb pre W) {x : Fin n × Fin n} (hx : p x.1.val x.2.val = false) : RG n p mb (pre ++ [x]) W :=
  ⟨fun a ha => by
    obtain ⟨s, hs, hc, hf, hb⟩ := h.row a ha
    refine ⟨s, hs, hc, hf, fun b hbn => (hb b hbn).trans ?_⟩
    constructor
    · rintro ⟨e, q, hq, e1, e2⟩
      exact ⟨e, q, List.mem_append_left _ hq, e1, e2⟩
    · rintro ⟨e, q, hq, e1, e2⟩
      rcases List.mem_append.1 hq with hq | hq
      · exact ⟨e, q, hq, e1, e2⟩
      · exfalso
        have e3 : q = x := by simpa using hq
        rw [← e1, ← e2, e3, hx] at e
        exact Bool.false_ne_true e⟩
theorem RG.set (h : RG n p mb pre W) {a b s : Nat} (ha : a < n) (hb : b < n) (hx : p a b = true) (hs : W.cell? ⟨mb, a, none⟩ = some (.int .i64 (s : Int))) :
    RG n p mb (pre ++ [(⟨a, ha⟩, ⟨b, hb⟩)]) (W.setCell ⟨mb, a, none⟩ (.int .i64 ((s ||| 2 ^ b : Nat) : Int))) :=
  ⟨fun c hc => by
    obtain ⟨t, ht, hct, hf, hbt⟩ := h.row c hc
    by_cases e : c = a
    · subst e
      have est : s = t := by
        rw [hs] at hct
        have e9 : (s : Int) = (t : Int) := by simpa using hct
        omega
      subst est
      refine ⟨s ||| 2 ^ b, or_ltN ht hb, World.cell?_setCell_same' _ _ _ (by rw [hs]; rfl), by rw [World.frozen?_setCell]; exact hf, fun d hd => ?_⟩
      rw [Nat.testBit_or, Bool.or_eq_true, hbt d hd, Nat.testBit_two_pow, decide_eq_true_iff]
      constructor
      · rintro (⟨e1, q, hq, e2, e3⟩ | e1)
        · exact ⟨e1, q, List.mem_append_left _ hq, e2, e3⟩
        · subst e1
          exact ⟨hx, _, List.mem_append_right _ (List.mem_singleton.2 rfl), rfl, rfl⟩
      · rintro ⟨e1, q, hq, e2, e3⟩
        rcases List.mem_append.1 hq with hq | hq
        · exact .inl ⟨e1, q, hq, e2, e3⟩
        · right
          have e4 : q = (⟨c, ha⟩, ⟨b, hb⟩) := by simpa using hq
          rw [e4] at e3
          exact e3
    · refine ⟨t, ht, (World.cell?_setCell_other _ _ _ _ (by intro e2; exact e (congrArg Addr.off e2).symm)).trans hct, by rw [World.frozen?_setCell]; exact hf, fun d hd => (hbt d hd).trans ?_⟩
      constructor
      · rintro ⟨e1, q, hq, e2, e3⟩
        exact ⟨e1, q, List.mem_append_left _ hq, e2, e3⟩
      · rintro ⟨e1, q, hq, e2, e3⟩
        rcases List.mem_append.1 hq with hq | hq
        · exact ⟨e1, q, hq, e2, e3⟩
        · exfalso
          have e4 : q = (⟨a, ha⟩, ⟨b, hb⟩) := by simpa using hq
          rw [e4] at e2
          exact e e2.symm⟩
end
/-- For each answer the set of those with which it agrees both ways. -/
structure CompAt (m : Mx) (y : Nat → Nat) (mb : Nat) (W : World) : Prop where
  row : ∀ a, a < m.n → ∃ s : Nat, s < 2 ^ m.n ∧ W.cell? ⟨mb, a, none⟩ = some (.int .i64 (s : Int)) ∧ ∀ b, b < m.n → s.testBit b = adjB m y a b
theorem CompAt.step {m : Mx} {y : Nat → Nat} {mb : Nat} {W W' : World} (h : CompAt m y mb W) (hb : Below W.heap.size W W') : CompAt m y mb W' :=
  ⟨fun a ha => by
    obtain ⟨s, hs, hc, hr⟩ := h.row a ha
    exact ⟨s, hs, (hb.cell (World.block_lt_of_cell? _ _ hc)).trans hc, hr⟩⟩
theorem CompAt.put {m : Mx} {y : Nat → Nat} {mb D : Nat} {W : World} (h : CompAt m y mb W) {o : Obj} (hl : W.heap[D]? = some o) (ho : o.isCells = false) (o' : Obj) : CompAt m y mb (W.putObj D o') :=
  ⟨fun a ha => by
    obtain ⟨s, hs, hc, hr⟩ := h.row a ha
    exact ⟨s, hs, cell_kept hc (grownBy_putObj' _ D o') (fun r e => by cases e; exact ⟨_, hl, ho⟩), hr⟩⟩
theorem RG.all {m : Mx} {y : Nat → Nat} {mb : Nat} {pre : List (Fin m.n × Fin m.n)} {W : World} (h : RG m.n (adjB m y) mb pre W) (hall : ∀ a b : Fin m.n, (a, b) ∈ pre) : CompAt m y mb W :=
  ⟨fun a ha => by
    obtain ⟨s, hs, hc, _, hb⟩ := h.row a ha
    refine ⟨s, hs, hc, fun b hbn => ?_⟩
    rw [Bool.eq_iff_iff, hb b hbn]
    exact ⟨fun e => e.1, fun e => ⟨e, (⟨a, ha⟩, ⟨b, hbn⟩), hall _ _, rfl, rfl⟩⟩⟩
end Go.Proofs.Ytanhogaekdcooaa
namespace Go.Proofs.Ytanhogaekdcooaa
open Go.RowKit Go.Deep Go.Shelf

/-- What agrees with the first of the listed. -/
structure ShTo (m : Mx) (y q : Nat → Nat) (j v : Nat) : Prop where
  lt : v < 2 ^ m.n
  bit : ∀ x, x < m.n → (v.testBit x = true ↔ ∀ i, i < j → adjB m y x (q i) = true)
theorem ShTo.zero (m : Mx) (y q : Nat → Nat) : ShTo m y q 0 (2 ^ m.n - 1) :=
  ⟨by have := Nat.two_pow_pos m.n; omega, fun x hx => by rw [full_bits]; simp [hx]⟩
theorem ShTo.next {m : Mx} {y q : Nat → Nat} {j v r : Nat} (h : ShTo m y q j v) (hr : ∀ b, b < m.n → r.testBit b = adjB m y (q j) b) : ShTo m y q (j + 1) (v &&& r) :=
  ⟨Nat.lt_of_le_of_lt Nat.and_le_left h.lt, fun x hx => by
    rw [Nat.testBit_and, Bool.and_eq_true, h.bit x hx, hr x hx, adjB_comm]
    constructor
    · rintro ⟨h1, h2⟩ i hi
      by_cases e : i = j
      · subst e; exact h2
      · exact h1 i (by omega)
    · intro h1
      exact ⟨fun i hi => h1 i (by omega), h1 j (by omega)⟩⟩
theorem ShTo.all {m : Mx} {y : Nat → Nat} {s v : Nat} (hn : m.n ≤ 12) (hs : s < 2 ^ m.n) (h : ShTo m y (memF s 12) (memK s 12) v) : v = shN m y s := by
  have hE := mem_emb s 12
  refine Nat.eq_of_testBit_eq fun x => ?_
  rw [shN_bit]
  by_cases hx : x < m.n
  · rw [Bool.eq_iff_iff, h.bit x hx, Bool.and_eq_true, decide_eq_true_iff, nb_iff]
    constructor
    · intro g
      refine ⟨hx, fun a ha ga => ?_⟩
      have := g _ (hE.blt a (by omega) ga)
      rw [hE.qb a (by omega) ga] at this
      exact this
    · rintro ⟨_, g⟩ i hi
      exact g _ (bit_under hs (hE.has i hi)) (hE.has i hi)
  · cases e : v.testBit x with
    | true => exact absurd (bit_under h.lt e) hx
    | false => simp [hx]

end Go.Proofs.Ytanhogaekdcooaa
namespace Go.Proofs.Ytanhogaekdcooaa
open Go.RowKit Go.Deep Go.Shelf

attribute [local go_sem] Oper.semAt_some

end Go.Proofs.Ytanhogaekdcooaa
namespace Go.Proofs.Ytanhogaekdcooaa
open Go.RowKit Go.Deep Go.Shelf

attribute [local go_sem] Oper.semAt_some

end Go.Proofs.Ytanhogaekdcooaa
namespace Go.Proofs.Ytanhogaekdcooaa
open Go.RowKit Go.Deep

end Go.Proofs.Ytanhogaekdcooaa
namespace Go.Proofs.Ytanhogaekdcooaa
open Go.RowKit Go.Deep

end Go.Proofs.Ytanhogaekdcooaa
namespace Go.Proofs.Ytanhogaekdcooaa
open Go.RowKit Go.Deep

noncomputable def boolV (m : Mx) (k : Nat) (z : Nat → Int) : Bool := logicB m k z && boolB m
theorem div_wrap {j n : Nat} (hj : j ≤ 100000) : IntKind.i64.wrap ((j : Int) / (n : Int)) = (j : Int) / (n : Int) := by
  rw [← Int.natCast_ediv]
  have h := Nat.div_le_self j n
  generalize j / n = q at h
  rw [IntKind.wrap_i64]
  omega
end Go.Proofs.Ytanhogaekdcooaa
namespace Go.Proofs.Ytanhogaekdcooaa

namespace OL
variable {α : Type} {L : OL α}
def hk (L : OL α) (a b : α) : α := L.j (L.c a) (L.m a b)
theorem j_mono {a b d e : α} (h1 : L.le a b) (h2 : L.le d e) : L.le (L.j a d) (L.j b e) := L.jg (L.trans h1 (L.jl _ _)) (L.trans h2 (L.jr _ _))
theorem m_mono {a b d e : α} (h1 : L.le a b) (h2 : L.le d e) : L.le (L.m a d) (L.m b e) := L.mg (L.trans (L.ml _ _) h1) (L.trans (L.mr _ _) h2)
def Mod (L : OL α) : Prop := ∀ a b d, L.le a d → L.j a (L.m b d) = L.m (L.j a b) d
theorem Dist.mod (h : L.Dist) : L.Mod := fun a b d had => by
  rw [m_comm (L.j a b) d, h d a b, m_le' had, m_comm b d]
theorem Mod.keeps (h : L.Mod) : L.Keeps := fun a b hab => by
  rw [m_comm b (L.c a), h a (L.c a) b hab, j_c]
  exact m_le' (top b)
/-- Three answers of a pentagon: a below c, and both meet, and join, b in the same answers. -/
def Pent (L : OL α) (a d b : α) : Prop := a ≠ d ∧ L.le a d ∧ L.m a b = L.m d b ∧ L.j a b = L.j d b
theorem pent_of {a b d : α} (hd : L.le a d) (hne : L.j a (L.m b d) ≠ L.m (L.j a b) d) : L.Pent (L.j a (L.m b d)) (L.m (L.j a b) d) b := by
  have hle : L.le (L.j a (L.m b d)) (L.m (L.j a b) d) := L.jg (L.mg (L.jl _ _) hd) (L.mg (L.trans (L.ml _ _) (L.jr _ _)) (L.mr _ _))
  refine ⟨hne, hle, L.anti (m_mono hle (L.refl _)) ?_, L.anti (j_mono hle (L.refl _)) ?_⟩
  · refine L.mg ?_ (L.mr _ _)
    exact L.trans (L.mg (L.mr _ _) (L.trans (L.ml _ _) (L.mr _ _))) (L.jr _ _)
  · refine L.jg (L.trans (L.ml _ _) (j_mono (L.jl _ _) (L.refl _))) (L.jr _ _)
/-- One answer stands just below another one. -/
def Cov (L : OL α) (a b : α) : Prop := L.le a b ∧ a ≠ b ∧ ∀ w, L.le a w → L.le w b → w = a ∨ w = b
theorem Mod.cov_down (h : L.Mod) {a b : α} (k : L.Cov b (L.j a b)) : L.Cov (L.m a b) a := by
  obtain ⟨_, k1, k2⟩ := k
  refine ⟨L.ml _ _, fun e => ?_, fun w h1 h2 => ?_⟩
  · have : L.le a b := by rw [← e]; exact L.mr _ _
    exact k1 (j_le this).symm
  · have e := h w b a h2
    rw [m_comm b a, j_le' h1] at e
    rcases k2 (L.j w b) (L.jr _ _) (j_mono h2 (L.refl _)) with g | g
    · rw [g, m_comm] at e
      exact .inl e
    · rw [g, m_comm, m_le (L.jl a b)] at e
      exact .inr e
/-- A height: longest rows from below. -/
structure High (L : OL α) (f : α → Nat) : Prop where
  up : ∀ a b, L.le a b → a ≠ b → f a < f b
  step : ∀ b, f b ≠ 0 → ∃ a, L.le a b ∧ a ≠ b ∧ f a + 1 = f b
theorem High.cov {f : α → Nat} (h : L.High f) {b : α} (hb : f b ≠ 0) : ∃ a, L.Cov a b ∧ f a + 1 = f b := by
  obtain ⟨a, h1, h2, h3⟩ := h.step b hb
  refine ⟨a, ⟨h1, h2, fun w k1 k2 => ?_⟩, h3⟩
  apply Classical.byContradiction
  intro hn
  have e1 : a ≠ w := fun e => hn (.inl e.symm)
  have e2 : w ≠ b := fun e => hn (.inr e)
  have := h.up a w k1 e1
  have := h.up w b k2 e2
  omega
theorem High.one {f : α → Nat} (h : L.High f) (k : L.Mod) : ∀ (n : Nat) (a b : α), f b ≤ n → L.Cov a b → f a + 1 = f b := by
  intro n
  induction n with
  | zero =>
    intro a b hn c
    have := h.up a b c.1 c.2.1
    omega
  | succ n ih =>
    intro a b hn c
    have hab := h.up a b c.1 c.2.1
    obtain ⟨d, cd, hd⟩ := h.cov (b := b) (by omega)
    by_cases e : a = d
    · rw [e]; exact hd
    · have hj : L.j d a = b := by
        rcases c.2.2 (L.j d a) (L.jr _ _) (L.jg cd.1 c.1) with g | g
        · exfalso
          have hda : L.le d a := by rw [← g]; exact L.jl _ _
          rcases cd.2.2 a hda c.1 with g2 | g2
          · exact e g2
          · exact c.2.1 g2
        · exact g
      have c1 : L.Cov (L.m d a) d := k.cov_down (by rw [hj]; exact c)
      have c2 : L.Cov (L.m a d) a := k.cov_down (by rw [j_comm, hj]; exact cd)
      rw [m_comm] at c2
      have f1 := ih _ _ (by omega) c1
      have f2 := ih _ _ (by omega) c2
      omega
/-- Where heights add up there is no pentagon. -/
theorem High.mod {f : α → Nat} (h : L.High f) (k : ∀ a b, f a + f b = f (L.m a b) + f (L.j a b)) : L.Mod := fun a b d had => by
  apply Classical.byContradiction
  intro hne
  obtain ⟨p1, p2, p3, p4⟩ := pent_of had hne
  have h1 := k (L.j a (L.m b d)) b
  have h2 := k (L.m (L.j a b) d) b
  have h3 := h.up _ _ p2 p1
  rw [p3, p4] at h1
  omega
end OL

section
variable {m : Mx} {z : Nat → Int} {y : Nat → Nat} {o : Nat}
def modP (m : Mx) (a b d : Nat) : Bool := !leB m a d || decide (jN m a (mN m b d) = mN m (jN m a b) d)
def modB (m : Mx) : Bool := allB m.n fun a => allB m.n fun b => allB m.n fun d => modP m a b d
theorem Ortho.mod_iff (h : Ortho m z y o) : modB m = true ↔ h.ol.Mod := by
  constructor
  · intro e a b d had
    have := allB_is (allB_is (allB_is e a a.2) b b.2) d d.2
    unfold modP at this
    rw [leB_mk had] at this
    have e2 : jN m a.val (mN m b.val d.val) = mN m (jN m a.val b.val) d.val := by simpa using this
    exact Fin.ext e2
  · intro e
    refine allB_true fun a ha => allB_true fun b hb => allB_true fun d hd => ?_
    unfold modP
    cases hl : leB m a d with
    | false => rfl
    | true =>
      have := congrArg Fin.val (e ⟨a, ha⟩ ⟨b, hb⟩ ⟨d, hd⟩ (leB_is hl))
      have e2 : jN m a (mN m b d) = mN m (jN m a b) d := this
      simpa using e2
theorem Ortho.bool_mod (h : Ortho m z y o) (hb : boolB m = true) : modB m = true := h.mod_iff.2 (h.bool_dist.1 hb).mod
theorem Ortho.mod_keeps (h : Ortho m z y o) (hm : modB m = true) : keepsB m y = true := h.keeps_iff.2 (h.mod_iff.1 hm).keeps
end

def maxTo (f : Nat → Nat) : Nat → Nat
  | 0 => 0
  | k + 1 => max (maxTo f k) (f k)
def hN (m : Mx) : Nat → Nat → Nat
  | 0, _ => 0
  | s + 1, a => maxTo (fun k => if (k != a && leB m k a) = true then hN m s k + 1 else 0) m.n
section
variable {m : Mx} {z : Nat → Int} {y : Nat → Nat} {o : Nat}
end
end Go.Proofs.Ytanhogaekdcooaa
namespace Go.Proofs.Ytanhogaekdcooaa

section
variable {m : Mx} {z : Nat → Int} {y : Nat → Nat} {o : Nat}
end
end Go.Proofs.Ytanhogaekdcooaa
namespace Go.Proofs.Ytanhogaekdcooaa
open Go.RowKit Go.Deep

/-- Something holds of each three answers. -/
def all3B (n : Nat) (p : Nat → Nat → Nat → Bool) : Bool := allB n fun a => allB n fun b => allB n fun d => p a b d
theorem all3_iff {n : Nat} {p : Nat → Nat → Nat → Bool} : all3B n p = true ↔ ∀ a b d, a < n → b < n → d < n → p a b d = true :=
  ⟨fun h a b d ha hb hd => allB_is (allB_is (allB_is h a ha) b hb) d hd, fun h => allB_true fun a ha => allB_true fun b hb => allB_true fun d hd => h a b d ha hb hd⟩
theorem all3_fails {n : Nat} {p : Nat → Nat → Nat → Bool} {a b d : Nat} (ha : a < n) (hb : b < n) (hd : d < n) (h : p a b d = false) : all3B n p = false := by
  cases e : all3B n p with
  | false => rfl
  | true => rw [all3_iff.1 e a b d ha hb hd] at h; cases h
theorem all3_mod (m : Mx) : all3B m.n (modP m) = modB m := rfl
theorem all3_bool (m : Mx) : all3B m.n (splitB m) = boolB m := by
  rw [Bool.eq_iff_iff, all3_iff, bool_iff]
/-- The number that three numbers are. -/
theorem num_lt {n a b d : Nat} (ha : a < n) (hb : b < n) (hd : d < n) : (a * n + b) * n + d < n * n * n := by
  have h2 : a * n + b < n * n := by
    have : (a + 1) * n ≤ n * n := Nat.mul_le_mul_right _ ha
    rw [Nat.add_mul, Nat.one_mul] at this
    omega
  have : (a * n + b + 1) * n ≤ n * n * n := Nat.mul_le_mul_right _ h2
  rw [Nat.add_mul, Nat.one_mul] at this
  omega
theorem num_parts {n a b d : Nat} (hb : b < n) (hd : d < n) : ((a * n + b) * n + d) / n / n = a ∧ ((a * n + b) * n + d) / n % n = b ∧ ((a * n + b) * n + d) % n = d := by
  have hp : 0 < n := by omega
  have e1 : ((a * n + b) * n + d) / n = a * n + b := by
    rw [Nat.add_comm, Nat.add_mul_div_right _ _ hp, Nat.div_eq_of_lt hd, Nat.zero_add]
  rw [e1]
  refine ⟨?_, ?_, ?_⟩
  · rw [Nat.add_comm, Nat.add_mul_div_right _ _ hp, Nat.div_eq_of_lt hb, Nat.zero_add]
  · rw [Nat.add_comm, Nat.add_mul_mod_self_right, Nat.mod_eq_of_lt hb]
  · rw [Nat.add_comm, Nat.add_mul_mod_self_right, Nat.mod_eq_of_lt hd]
theorem all3_trip {n : Nat} {p : Nat → Nat → Nat → Bool} (hp : 0 < n) : all3B n p = true ↔ ∀ k, k < n * n * n → p (k / n / n) (k / n % n) (k % n) = true := by
  rw [all3_iff]
  constructor
  · intro h k hk
    have h1 : k / n < n * n := (Nat.div_lt_iff_lt_mul hp).2 hk
    exact h _ _ _ ((Nat.div_lt_iff_lt_mul hp).2 h1) (Nat.mod_lt _ hp) (Nat.mod_lt _ hp)
  · intro h a b d ha hb hd
    have h3 := h _ (num_lt ha hb hd)
    obtain ⟨e1, e2, e3⟩ := num_parts (a := a) hb hd
    rw [e1, e2, e3] at h3
    exact h3
noncomputable def modV (m : Mx) (k : Nat) (z : Nat → Int) : Bool := logicB m k z && modB m
set_option maxRecDepth 100000 in
set_option maxHeartbeats 4000000 in
theorem spec_ModularOk {w : World} {B : Nat} {ua : Option Addr} {l : Lay} {m : Mx} {na : Option Addr} {g o k nc : Nat} {z : Nat → Int} (h : LogAt w B ua l m na g o k z) :
    Calls Try.prog 14 #[.agg #[.slice ua m.n l.cap, .slice na k nc]] w fun e w' => e = .returned (.bool (modV m k z)) ∧ Below w.heap.size w w' := by
  have hX := BoxN.start w #[.slice ua m.n l.cap, .slice na k nc] 26
  have h1 := Lib.hid (h.alloc (.cells #[.slice ua m.n l.cap, .slice na k nc] 26))
  have q0 := hX.cell 0 rfl
  have q1 := hX.cell 1 rfl
  have hkk := h.hk
  clear h
  cases hl : logicB m k z with
  | false =>
    have HL := Lib.hid hl
    have HF : Hid (modV m k z = false) := by show _ = _; unfold modV; rw [hl]; rfl
    clear hl
    go_enter Try.func14, Try.ntmps14
    go_wp2_with fail
    generalize hW : w.alloc (.cells #[.slice ua m.n l.cap, .slice na k nc] 26) = W at h1 hX q0 q1 ⊢
    clear hW
    go_at_call 22
    refine (spec_LogicOk h1.out).mono ?_
    rintro e w3 ⟨rfl, b3⟩
    rw [HL.out]
    have hX3 := hX.step b3
    clear q0 q1
    go_wp2_with fail
    go_ret
    exact ⟨ret_bool HF.out.symm, hX3.below⟩
  | true =>
    have hlog := logicB_is hl
    obtain ⟨y0, o', hO0⟩ := hlog.ortho
    have hkn : k = m.n := hlog.pair.len
    subst hkn
    have hO := hO0.own
    have hn := hO.lat.order.top
    have hpos : 0 < m.n := hO.lat.order.pos
    have HO := Lib.hid hO
    have HL := Lib.hid hl
    have HS := Lib.hid hO.lat.order.sq
    obtain ⟨e0, _, _⟩ := h1.out.mat.sq HS.out hpos hpos
    obtain rfl := e0
    have hn3 : m.n * m.n * m.n ≤ 1728 := by
      have h9 : m.n * m.n ≤ 12 * 12 := Nat.mul_le_mul hn hn
      have h8 : m.n * m.n * m.n ≤ 144 * 12 := Nat.mul_le_mul h9 hn
      omega
    have hn2 : m.n * m.n ≤ 144 := Nat.mul_le_mul hn hn
    obtain ⟨N3, hN3⟩ : ∃ N3, N3 = m.n * m.n * m.n := ⟨_, rfl⟩
    rw [← hN3] at hn3
    have em2 : wrap64 ((m.n : Int) * (m.n : Int)) = (m.n : Int) * (m.n : Int) := by
      have e : (m.n : Int) * (m.n : Int) = ((m.n * m.n : Nat) : Int) := by simp
      rw [e]; exact IntWalk.wrap64_in _ (by omega)
    have em3 : wrap64 ((m.n : Int) * (m.n : Int) * (m.n : Int)) = (N3 : Int) := by
      have e : (m.n : Int) * (m.n : Int) * (m.n : Int) = (N3 : Int) := by rw [hN3]; simp
      rw [e]; exact IntWalk.wrap64_in _ (by omega)
    have HN3 := Lib.hid hN3
    clear hN3 hn2
    clear hl hO hlog hO0
    go_enter Try.func14, Try.ntmps14
    go_wp2_with fail
    generalize hW : w.alloc (.cells #[.slice (some ⟨l.b, l.o, none⟩) m.n l.cap, .slice na m.n nc] 26) = W at h1 hX q0 q1 ⊢
    clear hW
    go_at_call 22
    refine (spec_LogicOk h1.out).mono ?_
    rintro e w3 ⟨rfl, b3⟩
    rw [HL.out]
    have hX3 := hX.step b3
    have h3 := Lib.hid (h1.out.step b3)
    clear q0 q1 h1 hX
    go_wp2_with fail
    go_loopw [4] (fun i wr => ∃ j : Nat, j ≤ N3 ∧ i = .int .i64 j ∧ Below w3.heap.size w3 wr ∧ Hid (∀ c, c < j → modP m (c / m.n / m.n) (c / m.n % m.n) (c % m.n) = true)) (fun i _ => N3 - (intOf i).toNat)
    case atStart => exact ⟨0, Nat.zero_le _, rfl, Below.refl _ _, fun c hc => absurd hc (Nat.not_lt_zero _)⟩
    case round =>
      obtain ⟨j, hj, rfl, hD, hR⟩ := hrel
      by_cases hlt : j < N3
      · have hlt' : (j : Int) < (N3 : Int) := by omega
        have hXr := hX3.step hD
        have hLr := Lib.hid (h3.out.step hD)
        have q0 := hXr.cell 0 rfl
        have q1 := hXr.cell 1 rfl
        have hnz : ¬ m.n = 0 := by omega
        have hj3 : j < m.n * m.n * m.n := by have := HN3.out; omega
        have ha0 : j / m.n / m.n < m.n := (Nat.div_lt_iff_lt_mul hpos).2 ((Nat.div_lt_iff_lt_mul hpos).2 hj3)
        have hb0 : j / m.n % m.n < m.n := Nat.mod_lt _ hpos
        have hd0 : j % m.n < m.n := Nat.mod_lt _ hpos
        have HJ3 := Lib.hid hj3
        have hQ0 := Nat.div_le_self j m.n
        have D1 : IntKind.i64.wrap ((j : Int) / (m.n : Int)) = ((j / m.n : Nat) : Int) := by rw [div_wrap (show j ≤ 100000 by omega), Int.natCast_ediv]
        have D2 : IntKind.i64.wrap (((j / m.n : Nat) : Int) / (m.n : Int)) = ((j / m.n / m.n : Nat) : Int) := by rw [div_wrap (show j / m.n ≤ 100000 by omega), ← Int.natCast_ediv]
        have R1 : (((j / m.n : Nat) : Int)).tmod (m.n : Int) = ((j / m.n % m.n : Nat) : Int) := by rw [Int.tmod_eq_emod_of_nonneg (Int.natCast_nonneg _), Int.natCast_emod]
        have R2 : (j : Int).tmod (m.n : Int) = ((j % m.n : Nat) : Int) := by rw [Int.tmod_eq_emod_of_nonneg (by omega), Int.natCast_emod]
        clear hj3 hQ0
        have hall := hR.out
        obtain ⟨Q, hQ⟩ : ∃ Q : Nat, Q = j / m.n := ⟨_, rfl⟩
        rw [← hQ] at D1 D2 R1 ha0 hb0
        obtain ⟨a, hae⟩ : ∃ a : Nat, a = Q / m.n := ⟨_, rfl⟩
        obtain ⟨b, hbe⟩ : ∃ b : Nat, b = Q % m.n := ⟨_, rfl⟩
        obtain ⟨d, hde⟩ : ∃ d : Nat, d = j % m.n := ⟨_, rfl⟩
        rw [← hae] at D2 ha0
        rw [← hbe] at R1 hb0
        rw [← hde] at R2 hd0
        have HT : Hid (modP m (j / m.n / m.n) (j / m.n % m.n) (j % m.n) = modP m a b d) := by show _ = _; rw [hae, hbe, hde, hQ]
        have HA : Hid (a = j / m.n / m.n ∧ b = j / m.n % m.n ∧ d = j % m.n) := ⟨by rw [hae, hQ], by rw [hbe, hQ], hde⟩
        clear hae hbe hde hQ hall
        have ha' : (a : Int) < m.n := by omega
        have hb' : (b : Int) < m.n := by omega
        have hd' : (d : Int) < m.n := by omega
        have hmat := Lib.hid hLr.out.mat
        have m1 := (HO.out.mG hb0 hd0).lt
        have j1 := (HO.out.jG ha0 hb0).lt
        obtain ⟨_, c1, c2⟩ := hLr.out.mat.sq HS.out ha0 hd0
        rcases leB_cases HS.out ha0 hd0 with ⟨l1, z1⟩ | ⟨l1, z1⟩
        · by_cases heq : jN m a (mN m b d) = mN m (jN m a b) d
          · have n1 : (((jN m a (mN m b d) : Nat) : Int) != ((mN m (jN m a b) d : Nat) : Int)) = false := by rw [heq]; simp
            have HP : Hid (modP m a b d = true) := by show _ = _; unfold modP; rw [l1, decide_eq_true heq]; rfl
            rw [z1] at c2
            clear l1 z1 heq hLr
            go_wp2_with fail
            go_quiet (first | (go_at_call 46; exact meetQ hmat.out HO.out hb0 hd0) | (go_at_call 45; exact joinQ hmat.out HO.out ha0 m1) | (go_at_call 45; exact joinQ hmat.out HO.out ha0 hb0) | (go_at_call 46; exact meetQ hmat.out HO.out j1 hd0))
            go_wp2_with fail
            go_roundw
            case rel => exact ⟨j + 1, by omega, by go_num, Below.drewN' hD _, fun c hc => by
              by_cases e : c = j
              · subst e; exact HT.out.trans HP.out
              · exact hR.out c (by omega)⟩
            case measure => simp [intOf]; omega
          · have n1 : (((jN m a (mN m b d) : Nat) : Int) != ((mN m (jN m a b) d : Nat) : Int)) = true := by rw [bne_iff_ne]; omega
            have HP : Hid (modP m a b d = false) := by show _ = _; unfold modP; rw [l1, decide_eq_false heq]; rfl
            have HF : Hid (modV m m.n z = false) := by
              show _ = _
              unfold modV
              rw [HL.out, ← all3_mod, all3_fails ha0 hb0 hd0 HP.out]; rfl
            rw [z1] at c2
            clear l1 z1 heq hLr
            go_wp2_with fail
            go_quiet (first | (go_at_call 46; exact meetQ hmat.out HO.out hb0 hd0) | (go_at_call 45; exact joinQ hmat.out HO.out ha0 m1) | (go_at_call 45; exact joinQ hmat.out HO.out ha0 hb0) | (go_at_call 46; exact meetQ hmat.out HO.out j1 hd0))
            go_wp2_with fail
            go_ret
            exact ⟨ret_bool HF.out.symm, hX3.below.trans ((Below.drewN' hD _).mono hX3.below.size)⟩
        · have HP : Hid (modP m a b d = true) := by show _ = _; unfold modP; rw [l1]; rfl
          rw [z1] at c2
          clear l1 z1 hLr
          go_wp2_with fail
          go_quiet (first | (go_at_call 46; exact meetQ hmat.out HO.out hb0 hd0) | (go_at_call 45; exact joinQ hmat.out HO.out ha0 m1) | (go_at_call 45; exact joinQ hmat.out HO.out ha0 hb0) | (go_at_call 46; exact meetQ hmat.out HO.out j1 hd0))
          go_wp2_with fail
          go_roundw
          case rel => exact ⟨j + 1, by omega, by go_num, Below.drewN' hD _, fun c hc => by
            by_cases e : c = j
            · subst e; exact HT.out.trans HP.out
            · exact hR.out c (by omega)⟩
          case measure => simp [intOf]; omega
      · have hlt' : ¬ (j : Int) < (N3 : Int) := by omega
        have HT : Hid (modV m m.n z = true) := by show _ = _; unfold modV; rw [HL.out, ← all3_mod, (all3_trip hpos).2 fun c hc => hR.out c (by have := HN3.out; omega)]; rfl
        go_wp2_with fail
        go_ret
        exact ⟨ret_bool HT.out.symm, hX3.below.trans (hD.mono hX3.below.size)⟩

end Go.Proofs.Ytanhogaekdcooaa
