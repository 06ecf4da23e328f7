import Derived.Test.YtmchgclaeipoeaaZMathT
import Derived.Test.YtmchgclaeipoeaaZAa
import Derived.Test.YtmchgclaeipoeaaZKe
import Derived.RangeFuncNested
import Derived.RangeFuncLeaves
import Derived.Test.YtmchgclaeipoeaaZYi
namespace Go.Proofs.Ytmchgclaeipoeaa
open Go.RowKit Go.Deep

end Go.Proofs.Ytmchgclaeipoeaa
namespace Go.Proofs.Ytmchgclaeipoeaa
open Go.RowKit Go.Deep Go.Shelf

attribute [local go_sem] Oper.semAt_some

/-- One block lies as it lay. -/
def KeptB (k : Nat) (A B : World) : Prop := B.heap[k]? = A.heap[k]?
theorem KeptB.trans {k : Nat} {A B C : World} (h : KeptB k A B) (h' : KeptB k B C) : KeptB k A C := Eq.trans h' h
theorem KeptB.put {k : Nat} {w : World} (hk : k < w.heap.size) (W : World) (l : Nat) (o o' : Obj) (hl : w.heap.size ≤ l) (_ : W.heap[l]? = some o) (_ : o.isCells = false) (_ : o.isWalk = false) : KeptB k W (W.putObj l o') :=
  World.putObj_heap_other (by omega)

/-- The rows under way: the bits of the pairs so far that agree. -/
structure RB (m : Mx) (y : Nat → Nat) (mb bx : Nat) (pre : List (Fin m.n × Fin m.n)) (W : World) : Prop where
  top : W.cell? ⟨bx, 0, none⟩ = some (.slice (some ⟨mb, 0, none⟩) m.n m.n)
  row : ∀ a, a < m.n → ∃ s : Nat, s < 4096 ∧ W.cell? ⟨mb, a, none⟩ = some (.int .i64 (s : Int)) ∧ W.frozen? ⟨mb, a, none⟩ = false ∧ ∀ b, b < m.n → (s.testBit b = true ↔ agB m y a b = true ∧ ∃ x ∈ pre, x.1.val = a ∧ x.2.val = b)
theorem RB.keep {m : Mx} {y : Nat → Nat} {mb bx : Nat} {pre : List (Fin m.n × Fin m.n)} {W W' : World} (h : RB m y mb bx pre W) (h1 : ∀ p : Addr, (W.cell? p).isSome = true → p.block = mb ∨ p.block = bx → W'.cell? p = W.cell? p ∧ W'.frozen? p = W.frozen? p) : RB m y mb bx pre W' :=
  ⟨(h1 _ (by rw [h.top]; rfl) (.inr rfl)).1.trans h.top, fun a ha => by
    obtain ⟨s, hs, hc, hf, hb⟩ := h.row a ha
    obtain ⟨k1, k2⟩ := h1 ⟨mb, a, none⟩ (by rw [hc]; rfl) (.inl rfl)
    exact ⟨s, hs, k1.trans hc, k2.trans hf, hb⟩⟩
theorem RB.below {m : Mx} {y : Nat → Nat} {mb bx : Nat} {pre : List (Fin m.n × Fin m.n)} {W W' : World} (h : RB m y mb bx pre W) (hb : Below W.heap.size W W') : RB m y mb bx pre W' :=
  h.keep fun p hp _ => by
    obtain ⟨v, hv⟩ := Option.isSome_iff_exists.1 hp
    have := World.block_lt_of_cell? _ _ hv
    exact ⟨hb.cell this, hb.frozen this⟩
theorem RB.own (m : Mx) (y : Nat → Nat) (mb bx : Nat) : Own (fun (pre : List (Fin m.n × Fin m.n)) W => RB m y mb bx pre W) := fun s A B row hs hg hr => hs.keep fun p hp _ => by
  obtain ⟨v, hv⟩ := Option.isSome_iff_exists.1 hp
  exact ⟨(cell_kept hv hg hr).trans hv.symm, frozen_kept hv hg hr⟩
theorem RB.skip {m : Mx} {y : Nat → Nat} {mb bx : Nat} {pre : List (Fin m.n × Fin m.n)} {W : World} (h : RB m y mb bx pre W) {x : Fin m.n × Fin m.n} (hx : agB m y x.1.val x.2.val = false) : RB m y mb bx (pre ++ [x]) W :=
  ⟨h.top, fun a ha => by
    obtain ⟨s, hs, hc, hf, hb⟩ := h.row a ha
    refine ⟨s, hs, hc, hf, fun b hbn => (hb b hbn).trans ?_⟩
    constructor
    · rintro ⟨e, p, hp, e1, e2⟩
      exact ⟨e, p, List.mem_append_left _ hp, e1, e2⟩
    · rintro ⟨e, p, hp, e1, e2⟩
      rcases List.mem_append.1 hp with hp | hp
      · exact ⟨e, p, hp, e1, e2⟩
      · exfalso
        have e3 : p = x := by simpa using hp
        rw [← e1, ← e2, e3, hx] at e
        exact Bool.false_ne_true e⟩
theorem or_lt12 {s b : Nat} (hs : s < 4096) (hb : b < 12) : s ||| 2 ^ b < 4096 := by
  have h1 : 2 ^ b < 2 ^ 12 := Nat.pow_lt_pow_right (by omega) hb
  exact Nat.or_lt_two_pow (n := 12) hs h1
theorem RB.set {m : Mx} {y : Nat → Nat} {mb bx : Nat} {pre : List (Fin m.n × Fin m.n)} {W : World} (h : RB m y mb bx pre W) (hne : bx ≠ mb) (hn : m.n ≤ 12) {a b s : Nat} (ha : a < m.n) (hb : b < m.n) (hx : agB m y a b = true) (hs : W.cell? ⟨mb, a, none⟩ = some (.int .i64 (s : Int))) :
    RB m y mb bx (pre ++ [(⟨a, ha⟩, ⟨b, hb⟩)]) (W.setCell ⟨mb, a, none⟩ (.int .i64 ((s ||| 2 ^ b : Nat) : Int))) :=
  ⟨(World.cell?_setCell_other _ _ _ _ (by intro e; exact hne (congrArg Addr.block e).symm)).trans h.top, fun c hc => by
    obtain ⟨t, ht, hct, hf, hbt⟩ := h.row c hc
    by_cases e : c = a
    · subst e
      have est : s = t := by
        rw [hs] at hct
        have e9 : (s : Int) = (t : Int) := by simpa using hct
        omega
      subst est
      refine ⟨s ||| 2 ^ b, or_lt12 ht (by omega), World.cell?_setCell_same' _ _ _ (by rw [hs]; rfl), by rw [World.frozen?_setCell]; exact hf, fun d hd => ?_⟩
      rw [Nat.testBit_or, Bool.or_eq_true, hbt d hd, Nat.testBit_two_pow, decide_eq_true_iff]
      constructor
      · rintro (⟨e1, p, hp, e2, e3⟩ | e1)
        · exact ⟨e1, p, List.mem_append_left _ hp, e2, e3⟩
        · subst e1
          exact ⟨hx, _, List.mem_append_right _ (List.mem_singleton.2 rfl), rfl, rfl⟩
      · rintro ⟨e1, p, hp, e2, e3⟩
        rcases List.mem_append.1 hp with hp | hp
        · exact .inl ⟨e1, p, hp, e2, e3⟩
        · right
          have e4 : p = (⟨c, ha⟩, ⟨b, hb⟩) := by simpa using hp
          rw [e4] at e3
          exact e3
    · refine ⟨t, ht, (World.cell?_setCell_other _ _ _ _ (by intro e2; exact e (congrArg Addr.off e2).symm)).trans hct, by rw [World.frozen?_setCell]; exact hf, fun d hd => (hbt d hd).trans ?_⟩
      constructor
      · rintro ⟨e1, p, hp, e2, e3⟩
        exact ⟨e1, p, List.mem_append_left _ hp, e2, e3⟩
      · rintro ⟨e1, p, hp, e2, e3⟩
        rcases List.mem_append.1 hp with hp | hp
        · exact ⟨e1, p, hp, e2, e3⟩
        · exfalso
          have e4 : p = (⟨a, ha⟩, ⟨b, hb⟩) := by simpa using hp
          rw [e4] at e2
          exact e e2.symm⟩

/-- What agreeing hands back: a function value over rows of bits. -/
structure AgAt (m : Mx) (y : Nat → Nat) (mb bx : Nat) (W : World) : Prop where
  top : W.cell? ⟨bx, 0, none⟩ = some (.slice (some ⟨mb, 0, none⟩) m.n m.n)
  row : ∀ a, a < m.n → ∃ s : Nat, s < 4096 ∧ W.cell? ⟨mb, a, none⟩ = some (.int .i64 (s : Int)) ∧ ∀ b, b < m.n → s.testBit b = agB m y a b
theorem AgAt.step {m : Mx} {y : Nat → Nat} {mb bx : Nat} {W W' : World} (h : AgAt m y mb bx W) (hb : Below W.heap.size W W') : AgAt m y mb bx W' :=
  ⟨(hb.cell (World.block_lt_of_cell? _ _ h.top)).trans h.top, fun a ha => by
    obtain ⟨s, hs, hc, hr⟩ := h.row a ha
    exact ⟨s, hs, (hb.cell (World.block_lt_of_cell? _ _ hc)).trans hc, hr⟩⟩
theorem AgAt.put {m : Mx} {y : Nat → Nat} {mb bx D : Nat} {W : World} (h : AgAt m y mb bx W) {o : Obj} (hl : W.heap[D]? = some o) (ho : o.isCells = false) (o' : Obj) : AgAt m y mb bx (W.putObj D o') :=
  ⟨cell_kept h.top (grownBy_putObj' _ D o') (fun r e => by cases e; exact ⟨_, hl, ho⟩), fun a ha => by
    obtain ⟨s, hs, hc, hr⟩ := h.row a ha
    exact ⟨s, hs, cell_kept hc (grownBy_putObj' _ D o') (fun r e => by cases e; exact ⟨_, hl, ho⟩), hr⟩⟩
theorem RB.all {m : Mx} {y : Nat → Nat} {mb bx : Nat} {pre : List (Fin m.n × Fin m.n)} {W : World} (h : RB m y mb bx pre W) (hall : ∀ a b : Fin m.n, (a, b) ∈ pre) : AgAt m y mb bx W :=
  ⟨h.top, fun a ha => by
    obtain ⟨s, hs, hc, _, hb⟩ := h.row a ha
    refine ⟨s, hs, hc, fun b hbn => ?_⟩
    rw [Bool.eq_iff_iff, hb b hbn]
    exact ⟨fun e => e.1, fun e => ⟨e, (⟨a, ha⟩, ⟨b, hbn⟩), hall _ _, rfl, rfl⟩⟩⟩
end Go.Proofs.Ytmchgclaeipoeaa
namespace Go.Proofs.Ytmchgclaeipoeaa
open Go.RowKit Go.Deep Go.Shelf

attribute [local go_sem] Oper.semAt_some

def bothPB (m : Mx) (y : Nat → Nat) (a b : Nat) : Bool := !agB m y a b || agB m y b a
/-- Nothing speaks against the pairs of the list. -/
def AllBoth (m : Mx) (y : Nat → Nat) (pre : List (Fin m.n × Fin m.n)) : Prop := ∀ p ∈ pre, bothPB m y p.1.val p.2.val = true
theorem AllBoth.snoc {m : Mx} {y : Nat → Nat} {pre : List (Fin m.n × Fin m.n)} (h : AllBoth m y pre) {x : Fin m.n × Fin m.n} (hx : bothPB m y x.1.val x.2.val = true) : AllBoth m y (pre ++ [x]) := fun p hp => by
  rcases List.mem_append.1 hp with e | e
  · exact h p e
  · have e' : p = x := by simpa using e
    rw [e']; exact hx
theorem AllBoth.all {m : Mx} {y : Nat → Nat} {pre : List (Fin m.n × Fin m.n)} (h : AllBoth m y pre) (hall : ∀ a b : Fin m.n, (a, b) ∈ pre) : twoWaysB m y = true := by
  unfold twoWaysB
  refine allB_true fun a ha => allB_true fun b hb => ?_
  have h1 := h (⟨a, ha⟩, ⟨b, hb⟩) (hall _ _)
  unfold bothPB at h1
  exact h1

end Go.Proofs.Ytmchgclaeipoeaa
namespace Go.Proofs.Ytmchgclaeipoeaa
open Go.RowKit Go.Deep Go.Shelf

/-- Cells of blocks that are not the caller's lie as they lay, and are not the caller's behind it. -/
structure KeepO (own : World → Nat → Prop) (W W' : World) : Prop where
  size : W.heap.size ≤ W'.heap.size
  same : ∀ (p : Addr) (v : Value), W.cell? p = some v → ¬ own W p.block → W'.cell? p = some v ∧ ¬ own W' p.block
theorem KeepO.refl (own : World → Nat → Prop) (W : World) : KeepO own W W := ⟨Nat.le_refl _, fun _ _ h h' => ⟨h, h'⟩⟩
theorem KeepO.trans {own : World → Nat → Prop} {A B C : World} (h : KeepO own A B) (k : KeepO own B C) : KeepO own A C :=
  ⟨Nat.le_trans h.size k.size, fun p v e e' => let ⟨g, g'⟩ := h.same p v e e'; k.same p v g g'⟩
/-- Which blocks are the caller's hangs on nothing that an iterator turns. -/
structure Ow (own : World → Nat → Prop) (B : Nat) : Prop where
  step : ∀ (W W' : World) (row : Option Nat), B ≤ W.heap.size → W.grownBy W' row → (∀ r, row = some r → B ≤ r ∧ ∃ o : Obj, W.heap[r]? = some o ∧ o.isCells = false) → ∀ k, own W' k → own W k
theorem Ow.up {own : World → Nat → Prop} {B B' : Nat} (h : Ow own B) (hB : B ≤ B') : Ow own B' :=
  ⟨fun W W' row hs hg hr k => h.step W W' row (Nat.le_trans hB hs) hg (fun r e => ⟨Nat.le_trans hB (hr r e).1, (hr r e).2⟩) k⟩
theorem Ow.grown {own : World → Nat → Prop} {B : Nat} (h : Ow own B) {W W' : World} {row : Option Nat} (hB : B ≤ W.heap.size) (hg : W.grownBy W' row) (hr : ∀ r, row = some r → B ≤ r ∧ ∃ o : Obj, W.heap[r]? = some o ∧ o.isCells = false) : KeepO own W W' :=
  ⟨hg.size, fun _ _ e e' => ⟨cell_kept e hg (fun r er => (hr r er).2), fun g => e' (h.step W W' row hB hg hr _ g)⟩⟩
theorem Ow.put {own : World → Nat → Prop} {B : Nat} (h : Ow own B) {W : World} {l : Nat} {o : Obj} (o' : Obj) (hB : B ≤ W.heap.size) (hl : B ≤ l) (hx : W.heap[l]? = some o) (ho : o.isCells = false) : KeepO own W (W.putObj l o') :=
  h.grown hB (grownBy_putObj' W l o') (fun r e => by cases e; exact ⟨hl, o, hx, ho⟩)
theorem grown_below {W W' : World} (h : Below W.heap.size W W') : W.grownBy W' none := ⟨h.os, h.tape, h.output, h.size, fun k hk _ => h.block k hk⟩
theorem Ow.below {own : World → Nat → Prop} {B : Nat} (h : Ow own B) {W W' : World} (hB : B ≤ W.heap.size) (hb : Below W.heap.size W W') : KeepO own W W' :=
  h.grown hB (grown_below hb) (fun r e => by cases e)
theorem OwnFrom.up {β : Type} {B B' : Nat} {I : β → World → Prop} (h : OwnFrom B I) (hB : B ≤ B') : OwnFrom B' I :=
  fun s W W' row hs hg hr => h s W W' row hs hg (fun r e => ⟨Nat.le_trans hB (hr r e).1, (hr r e).2⟩)
theorem OwnFrom.below {β : Type} {B : Nat} {I : β → World → Prop} (h : OwnFrom B I) {s : β} {W W' : World} (hs : I s W) (hb : Below W.heap.size W W') : I s W' :=
  h s W W' none hs (grown_below hb) (fun r e => by cases e)
end Go.Proofs.Ytmchgclaeipoeaa
namespace Go.Proofs.Ytmchgclaeipoeaa

/-- What agrees with all of a set: as a set. -/
def shN (m : Mx) (y : Nat → Nat) (s : Nat) : Nat := bitS (nbB m y s) m.n
theorem shN_bit (m : Mx) (y : Nat → Nat) (s a : Nat) : (shN m y s).testBit a = (decide (a < m.n) && nbB m y s a) := (bitS_is _ _).2 a
section
variable {m : Mx} {z : Nat → Int} {y : Nat → Nat} {o : Nat}
end

section
variable {m : Mx} {z : Nat → Int} {y : Nat → Nat} {o : Nat}
end
end Go.Proofs.Ytmchgclaeipoeaa
namespace Go.Proofs.Ytmchgclaeipoeaa
open Go.RowKit Go.Deep Go.Shelf

attribute [local go_sem] Oper.semAt_some

theorem or_ltN {s b n : Nat} (hs : s < 2 ^ n) (hb : b < n) : s ||| 2 ^ b < 2 ^ n := Nat.or_lt_two_pow hs (Nat.pow_lt_pow_right (by omega) hb)
/-- Rows of bits under way: the pairs so far that pass a test. -/
structure RG (n : Nat) (p : Nat → Nat → Bool) (mb : Nat) (pre : List (Fin n × Fin n)) (W : World) : Prop where
  row : ∀ a, a < n → ∃ s : Nat, s < 2 ^ n ∧ W.cell? ⟨mb, a, none⟩ = some (.int .i64 (s : Int)) ∧ W.frozen? ⟨mb, a, none⟩ = false ∧ ∀ b, b < n → (s.testBit b = true ↔ p a b = true ∧ ∃ x ∈ pre, x.1.val = a ∧ x.2.val = b)
section
variable {n : Nat} {p : Nat → Nat → Bool} {mb : Nat} {pre : List (Fin n × Fin n)} {W W' : World}
theorem RG.keep (h : RG n p mb pre W) (h1 : ∀ q : Addr, (W.cell? q).isSome = true → q.block = mb → W'.cell? q = W.cell? q ∧ W'.frozen? q = W.frozen? q) : RG n p mb pre W' :=
  ⟨fun a ha => by
    obtain ⟨s, hs, hc, hf, hb⟩ := h.row a ha
    obtain ⟨k1, k2⟩ := h1 ⟨mb, a, none⟩ (by rw [hc]; rfl) rfl
    exact ⟨s, hs, k1.trans hc, k2.trans hf, hb⟩⟩
theorem RG.below (h : RG n p mb pre W) (hb : Below W.heap.size W W') : RG n p mb pre W' :=
  h.keep fun q hq _ => by
    obtain ⟨v, hv⟩ := Option.isSome_iff_exists.1 hq
    have := World.block_lt_of_cell? _ _ hv
    exact ⟨hb.cell this, hb.frozen this⟩
theorem RG.own (n : Nat) (p : Nat → Nat → Bool) (mb : Nat) : Own (fun (pre : List (Fin n × Fin n)) W => RG n p mb pre W) := fun _ _ _ _ hs hg hr => hs.keep fun q hq _ => by
  obtain ⟨v, hv⟩ := Option.isSome_iff_exists.1 hq
  exact ⟨(cell_kept hv hg hr).trans hv.symm, frozen_kept hv hg hr⟩
theorem RG.skip (h : RG n p mb pre W) {x : Fin n × Fin n} (hx : p x.1.val x.2.val = false) : RG n p mb (pre ++ [x]) W :=
  ⟨fun a ha => by
    obtain ⟨s, hs, hc, hf, hb⟩ := h.row a ha
    refine ⟨s, hs, hc, hf, fun b hbn => (hb b hbn).trans ?_⟩
    constructor
    · rintro ⟨e, q, hq, e1, e2⟩
      exact ⟨e, q, List.mem_append_left _ hq, e1, e2⟩
    · rintro ⟨e, q, hq, e1, e2⟩
      rcases List.mem_append.1 hq with hq | hq
      · exact ⟨e, q, hq, e1, e2⟩
      · exfalso
        have e3 : q = x := by simpa using hq
        rw [← e1, ← e2, e3, hx] at e
        exact Bool.false_ne_true e⟩
theorem RG.set (h : RG n p mb pre W) {a b s : Nat} (ha : a < n) (hb : b < n) (hx : p a b = true) (hs : W.cell? ⟨mb, a, none⟩ = some (.int .i64 (s : Int))) :
    RG n p mb (pre ++ [(⟨a, ha⟩, ⟨b, hb⟩)]) (W.setCell ⟨mb, a, none⟩ (.int .i64 ((s ||| 2 ^ b : Nat) : Int))) :=
  ⟨fun c hc => by
    obtain ⟨t, ht, hct, hf, hbt⟩ := h.row c hc
    by_cases e : c = a
    · subst e
      have est : s = t := by
        rw [hs] at hct
        have e9 : (s : Int) = (t : Int) := by simpa using hct
        omega
      subst est
      refine ⟨s ||| 2 ^ b, or_ltN ht hb, World.cell?_setCell_same' _ _ _ (by rw [hs]; rfl), by rw [World.frozen?_setCell]; exact hf, fun d hd => ?_⟩
      rw [Nat.testBit_or, Bool.or_eq_true, hbt d hd, Nat.testBit_two_pow, decide_eq_true_iff]
      constructor
      · rintro (⟨e1, q, hq, e2, e3⟩ | e1)
        · exact ⟨e1, q, List.mem_append_left _ hq, e2, e3⟩
        · subst e1
          exact ⟨hx, _, List.mem_append_right _ (List.mem_singleton.2 rfl), rfl, rfl⟩
      · rintro ⟨e1, q, hq, e2, e3⟩
        rcases List.mem_append.1 hq with hq | hq
        · exact .inl ⟨e1, q, hq, e2, e3⟩
        · right
          have e4 : q = (⟨c, ha⟩, ⟨b, hb⟩) := by simpa using hq
          rw [e4] at e3
          exact e3
    · refine ⟨t, ht, (World.cell?_setCell_other _ _ _ _ (by intro e2; exact e (congrArg Addr.off e2).symm)).trans hct, by rw [World.frozen?_setCell]; exact hf, fun d hd => (hbt d hd).trans ?_⟩
      constructor
      · rintro ⟨e1, q, hq, e2, e3⟩
        exact ⟨e1, q, List.mem_append_left _ hq, e2, e3⟩
      · rintro ⟨e1, q, hq, e2, e3⟩
        rcases List.mem_append.1 hq with hq | hq
        · exact ⟨e1, q, hq, e2, e3⟩
        · exfalso
          have e4 : q = (⟨a, ha⟩, ⟨b, hb⟩) := by simpa using hq
          rw [e4] at e2
          exact e e2.symm⟩
end
/-- For each answer the set of those with which it agrees both ways. -/
structure CompAt (m : Mx) (y : Nat → Nat) (mb : Nat) (W : World) : Prop where
  row : ∀ a, a < m.n → ∃ s : Nat, s < 2 ^ m.n ∧ W.cell? ⟨mb, a, none⟩ = some (.int .i64 (s : Int)) ∧ ∀ b, b < m.n → s.testBit b = adjB m y a b
theorem CompAt.step {m : Mx} {y : Nat → Nat} {mb : Nat} {W W' : World} (h : CompAt m y mb W) (hb : Below W.heap.size W W') : CompAt m y mb W' :=
  ⟨fun a ha => by
    obtain ⟨s, hs, hc, hr⟩ := h.row a ha
    exact ⟨s, hs, (hb.cell (World.block_lt_of_cell? _ _ hc)).trans hc, hr⟩⟩
theorem CompAt.put {m : Mx} {y : Nat → Nat} {mb D : Nat} {W : World} (h : CompAt m y mb W) {o : Obj} (hl : W.heap[D]? = some o) (ho : o.isCells = false) (o' : Obj) : CompAt m y mb (W.putObj D o') :=
  ⟨fun a ha => by
    obtain ⟨s, hs, hc, hr⟩ := h.row a ha
    exact ⟨s, hs, cell_kept hc (grownBy_putObj' _ D o') (fun r e => by cases e; exact ⟨_, hl, ho⟩), hr⟩⟩
theorem RG.all {m : Mx} {y : Nat → Nat} {mb : Nat} {pre : List (Fin m.n × Fin m.n)} {W : World} (h : RG m.n (adjB m y) mb pre W) (hall : ∀ a b : Fin m.n, (a, b) ∈ pre) : CompAt m y mb W :=
  ⟨fun a ha => by
    obtain ⟨s, hs, hc, _, hb⟩ := h.row a ha
    refine ⟨s, hs, hc, fun b hbn => ?_⟩
    rw [Bool.eq_iff_iff, hb b hbn]
    exact ⟨fun e => e.1, fun e => ⟨e, (⟨a, ha⟩, ⟨b, hbn⟩), hall _ _, rfl, rfl⟩⟩⟩
end Go.Proofs.Ytmchgclaeipoeaa
namespace Go.Proofs.Ytmchgclaeipoeaa
open Go.RowKit Go.Deep Go.Shelf

/-- What agrees with the first of the listed. -/
structure ShTo (m : Mx) (y q : Nat → Nat) (j v : Nat) : Prop where
  lt : v < 2 ^ m.n
  bit : ∀ x, x < m.n → (v.testBit x = true ↔ ∀ i, i < j → adjB m y x (q i) = true)
theorem ShTo.zero (m : Mx) (y q : Nat → Nat) : ShTo m y q 0 (2 ^ m.n - 1) :=
  ⟨by have := Nat.two_pow_pos m.n; omega, fun x hx => by rw [full_bits]; simp [hx]⟩
theorem ShTo.next {m : Mx} {y q : Nat → Nat} {j v r : Nat} (h : ShTo m y q j v) (hr : ∀ b, b < m.n → r.testBit b = adjB m y (q j) b) : ShTo m y q (j + 1) (v &&& r) :=
  ⟨Nat.lt_of_le_of_lt Nat.and_le_left h.lt, fun x hx => by
    rw [Nat.testBit_and, Bool.and_eq_true, h.bit x hx, hr x hx, adjB_comm]
    constructor
    · rintro ⟨h1, h2⟩ i hi
      by_cases e : i = j
      · subst e; exact h2
      · exact h1 i (by omega)
    · intro h1
      exact ⟨fun i hi => h1 i (by omega), h1 j (by omega)⟩⟩
theorem ShTo.all {m : Mx} {y : Nat → Nat} {s v : Nat} (hn : m.n ≤ 12) (hs : s < 2 ^ m.n) (h : ShTo m y (memF s 12) (memK s 12) v) : v = shN m y s := by
  have hE := mem_emb s 12
  refine Nat.eq_of_testBit_eq fun x => ?_
  rw [shN_bit]
  by_cases hx : x < m.n
  · rw [Bool.eq_iff_iff, h.bit x hx, Bool.and_eq_true, decide_eq_true_iff, nb_iff]
    constructor
    · intro g
      refine ⟨hx, fun a ha ga => ?_⟩
      have := g _ (hE.blt a (by omega) ga)
      rw [hE.qb a (by omega) ga] at this
      exact this
    · rintro ⟨_, g⟩ i hi
      exact g _ (bit_under hs (hE.has i hi)) (hE.has i hi)
  · cases e : v.testBit x with
    | true => exact absurd (bit_under h.lt e) hx
    | false => simp [hx]

end Go.Proofs.Ytmchgclaeipoeaa
namespace Go.Proofs.Ytmchgclaeipoeaa
open Go.RowKit Go.Deep Go.Shelf

attribute [local go_sem] Oper.semAt_some

end Go.Proofs.Ytmchgclaeipoeaa
namespace Go.Proofs.Ytmchgclaeipoeaa
open Go.RowKit Go.Deep Go.Shelf

attribute [local go_sem] Oper.semAt_some

end Go.Proofs.Ytmchgclaeipoeaa
namespace Go.Proofs.Ytmchgclaeipoeaa
open Go.RowKit Go.Deep

end Go.Proofs.Ytmchgclaeipoeaa
namespace Go.Proofs.Ytmchgclaeipoeaa
open Go.RowKit Go.Deep

end Go.Proofs.Ytmchgclaeipoeaa
namespace Go.Proofs.Ytmchgclaeipoeaa
open Go.RowKit Go.Deep

noncomputable def boolV (m : Mx) (k : Nat) (z : Nat → Int) : Bool := logicB m k z && boolB m
end Go.Proofs.Ytmchgclaeipoeaa
namespace Go.Proofs.Ytmchgclaeipoeaa

section
variable {m : Mx} {z : Nat → Int} {y : Nat → Nat} {o : Nat}
end
end Go.Proofs.Ytmchgclaeipoeaa
namespace Go.Proofs.Ytmchgclaeipoeaa
open Go.RowKit Go.Deep

/-- Something holds of each three answers. -/
def all3B (n : Nat) (p : Nat → Nat → Nat → Bool) : Bool := allB n fun a => allB n fun b => allB n fun d => p a b d
theorem all3_iff {n : Nat} {p : Nat → Nat → Nat → Bool} : all3B n p = true ↔ ∀ a b d, a < n → b < n → d < n → p a b d = true :=
  ⟨fun h a b d ha hb hd => allB_is (allB_is (allB_is h a ha) b hb) d hd, fun h => allB_true fun a ha => allB_true fun b hb => allB_true fun d hd => h a b d ha hb hd⟩
theorem all3_fails {n : Nat} {p : Nat → Nat → Nat → Bool} {a b d : Nat} (ha : a < n) (hb : b < n) (hd : d < n) (h : p a b d = false) : all3B n p = false := by
  cases e : all3B n p with
  | false => rfl
  | true => rw [all3_iff.1 e a b d ha hb hd] at h; cases h
theorem all3_bool (m : Mx) : all3B m.n (splitB m) = boolB m := by
  rw [Bool.eq_iff_iff, all3_iff, bool_iff]
end Go.Proofs.Ytmchgclaeipoeaa
namespace Go.Proofs.Ytmchgclaeipoeaa
open Go.RowKit Go.Deep Go.Shelf

attribute [local go_sem] Oper.semAt_some

def All3 (n : Nat) (p : Nat → Nat → Nat → Bool) (pre : List (Fin n × Fin n)) : Prop := ∀ q ∈ pre, ∀ d, d < n → p q.1.val q.2.val d = true
theorem All3.snoc {n : Nat} {p : Nat → Nat → Nat → Bool} {pre : List (Fin n × Fin n)} (h : All3 n p pre) {x : Fin n × Fin n} (hx : ∀ d, d < n → p x.1.val x.2.val d = true) : All3 n p (pre ++ [x]) := fun q hq => by
  rcases List.mem_append.1 hq with hq | hq
  · exact h q hq
  · have e : q = x := by simpa using hq
    rw [e]; exact hx
theorem All3.all {n : Nat} {p : Nat → Nat → Nat → Bool} {pre : List (Fin n × Fin n)} (h : All3 n p pre) (hall : ∀ a b : Fin n, (a, b) ∈ pre) : all3B n p = true :=
  all3_iff.2 fun a b d ha hb hd => h _ (hall ⟨a, ha⟩ ⟨b, hb⟩) d hd
set_option maxRecDepth 100000 in
set_option maxHeartbeats 4000000 in
theorem allThree_split {w : World} {B ob tb g o nc n0 : Nat} {tG : Nat → Nat} {ua : Option Addr} {l : Lay} {m : Mx} {z : Nat → Int} {y : Nat → Nat} (h : AL w B ob tb tG ua l m g o z y n0) :
    Calls Try.prog 17 #[.agg #[.slice ua m.n l.cap, .slice (some ⟨g, o, none⟩) m.n nc, .slice (some ⟨ob, 0, none⟩) 2 2], .func (.func 31) #[.agg #[.slice ua m.n l.cap, .slice (some ⟨g, o, none⟩) m.n nc, .slice (some ⟨ob, 0, none⟩) 2 2]] #[]] w fun e w' => e = .returned (.bool (all3B m.n (splitB m))) ∧ Below w.heap.size w w' := by
  have hn := h.O.lat.order.top
  have hpos := h.O.lat.order.pos
  have hX := BoxN.start w #[.slice ua m.n l.cap, .slice (some ⟨g, o, none⟩) m.n nc, .slice (some ⟨ob, 0, none⟩) 2 2] 42
  have e1 : (w.alloc (.cells #[.slice ua m.n l.cap, .slice (some ⟨g, o, none⟩) m.n nc, .slice (some ⟨ob, 0, none⟩) 2 2] 42)).heap.size = w.heap.size + 1 := World.size_alloc _ _
  have hF := Boxd.start (w.alloc (.cells #[.slice ua m.n l.cap, .slice (some ⟨g, o, none⟩) m.n nc, .slice (some ⟨ob, 0, none⟩) 2 2] 42)) (.func (.func 31) #[.agg #[.slice ua m.n l.cap, .slice (some ⟨g, o, none⟩) m.n nc, .slice (some ⟨ob, 0, none⟩) 2 2]] #[]) 52
  have e2 : ((w.alloc (.cells #[.slice ua m.n l.cap, .slice (some ⟨g, o, none⟩) m.n nc, .slice (some ⟨ob, 0, none⟩) 2 2] 42)).alloc (.cells #[.func (.func 31) #[.agg #[.slice ua m.n l.cap, .slice (some ⟨g, o, none⟩) m.n nc, .slice (some ⟨ob, 0, none⟩) 2 2]] #[]] 52)).heap.size = w.heap.size + 1 + 1 := by rw [World.size_alloc, e1]
  have hV := Boxd.start ((w.alloc (.cells #[.slice ua m.n l.cap, .slice (some ⟨g, o, none⟩) m.n nc, .slice (some ⟨ob, 0, none⟩) 2 2] 42)).alloc (.cells #[.func (.func 31) #[.agg #[.slice ua m.n l.cap, .slice (some ⟨g, o, none⟩) m.n nc, .slice (some ⟨ob, 0, none⟩) 2 2]] #[]] 52)) (.bool false) 4
  have e3 : (((w.alloc (.cells #[.slice ua m.n l.cap, .slice (some ⟨g, o, none⟩) m.n nc, .slice (some ⟨ob, 0, none⟩) 2 2] 42)).alloc (.cells #[.func (.func 31) #[.agg #[.slice ua m.n l.cap, .slice (some ⟨g, o, none⟩) m.n nc, .slice (some ⟨ob, 0, none⟩) 2 2]] #[]] 52)).alloc (.cells #[.bool false] 4)).heap.size = w.heap.size + 1 + 1 + 1 := by rw [World.size_alloc, e2]
  have hP := Boxd.start (((w.alloc (.cells #[.slice ua m.n l.cap, .slice (some ⟨g, o, none⟩) m.n nc, .slice (some ⟨ob, 0, none⟩) 2 2] 42)).alloc (.cells #[.func (.func 31) #[.agg #[.slice ua m.n l.cap, .slice (some ⟨g, o, none⟩) m.n nc, .slice (some ⟨ob, 0, none⟩) 2 2]] #[]] 52)).alloc (.cells #[.bool false] 4)) (.slice ua m.n l.cap) 39
  have hFc := (hF.step (hV.below.trans (hP.below.mono hV.below.size))).cell
  have hVc := (hV.step hP.below).cell
  have hVf := (hV.step hP.below).frozen
  have hP0 := hP.cell
  have hPs := hP.size
  rw [e1] at hFc
  rw [e2] at hVc hVf
  rw [e3] at hP0 hPs
  have hYP := (hX.step (hF.below.mono (by rw [e1]; omega))).step (hV.below.trans (hP.below.mono hV.below.size))
  have hL2 := Lib.hid (h.step hYP.below)
  have BW := hYP.below
  have q0 := hX.cell 0 rfl
  have hX3 := (hX.step (hF.below.mono (by rw [e1]; omega))).step hV.below
  have r0 := hX3.cell 0 rfl
  clear hX hF hV hP h e1 e2 hX3
  refine (callsIn_wide (n := 9)).1 ?_
  refine callsIn_of_wp_marks Try.func17 rfl trivial ?_ rfl
  simp only [Try.ntmps17, List.size_toArray, List.length_cons, List.length_nil, Nat.reduceAdd, Nat.reduceSub, Array.replicate_succ, Array.replicate_zero, List.push_toArray, List.append_toArray, List.nil_append, List.cons_append]
  gi_wp2_with fail
  refine ⟨trivial, ?_⟩
  refine (pairs_any _ _ _).mono ?_
  rintro e w' ⟨rfl, rfl⟩
  gi_wp2_with fail
  generalize hW0 : ((((w.alloc (.cells #[.slice ua m.n l.cap, .slice (some ⟨g, o, none⟩) m.n nc, .slice (some ⟨ob, 0, none⟩) 2 2] 42)).alloc (.cells #[.func (.func 31) #[.agg #[.slice ua m.n l.cap, .slice (some ⟨g, o, none⟩) m.n nc, .slice (some ⟨ob, 0, none⟩) 2 2]] #[]] 52)).alloc (.cells #[.bool false] 4)).alloc (.cells #[.slice ua m.n l.cap] 39)) = W2 at hP0 hPs hYP hL2 hVc hVf hFc BW ⊢
  clear hW0 q0 r0 e3
  refine wpIn_rangeFunc_ownG rfl (by omega) (gf := 49) (lb := #[.pointer (some ⟨w.heap.size + 1 + 1 + 1, 0, none⟩)]) rfl trivial (enters_of Try.func49 (by kernel_rfl) rfl)
    (pairs_stops _ m.n (by omega) hn (w.heap.size + 1 + 1 + 1) W2.heap.size l.cap ua W2 (by omega) (Nat.le_refl _) hP0) belowK_t (belowK_b (Nat.le_refl _)) (Below.refl _ _) (fun _ => rfl)
    (fun pre W => All3 m.n (splitB m) pre ∧ Below W2.heap.size W2 W)
    (fun c _ W => (c = .ret ∧ all3B m.n (splitB m) = false) ∧ W.cell? ⟨w.heap.size + 1 + 1, 0, none⟩ = some (.bool false) ∧ Below w.heap.size w W)
    (OwnFrom.and (ownFrom_pure _ _) (ownFrom_below (Nat.le_refl _) (Nat.le_refl _)))
    (fun c => OwnFrom.and (ownFrom_pure _ _) (OwnFrom.and (Own.from (fun s A B row hs hg hr => cell_kept hs hg hr) _) (ownFrom_below (Nat.le_refl _) BW.size)))
    ⟨fun p hp => absurd hp (by simp), Below.refl _ _⟩
    (fun x => { tmps := #[.agg #[.slice ua m.n l.cap, .slice (some ⟨g, o, none⟩) m.n nc, .slice (some ⟨ob, 0, none⟩) 2 2], .func (.func 31) #[.agg #[.slice ua m.n l.cap, .slice (some ⟨g, o, none⟩) m.n nc, .slice (some ⟨ob, 0, none⟩) 2 2]] #[], .pointer (some ⟨w.heap.size, 0, none⟩), .pointer (some ⟨w.heap.size + 1, 0, none⟩), .pointer (some ⟨w.heap.size + 1 + 1, 0, none⟩), .int .i64 ((x.1.val : Nat) : Int), .int .i64 ((x.2.val : Nat) : Int), undef,
        .pointer (some ⟨w.heap.size, 0, none⟩), .agg #[.slice ua m.n l.cap], .func (.func 49) #[] #[.pointer (some ⟨w.heap.size + 1 + 1 + 1, 0, none⟩)],
        .int .i64 ((x.1.val : Nat) : Int), .int .i64 ((x.2.val : Nat) : Int), undef, undef, undef, undef, undef, undef, undef, undef, undef, undef, undef, undef, undef], defers := [] }) ?assign ?body ?done ?stop
  case assign =>
    intro lr x W K hK
    dsimp only
    clear hP0 hPs hYP hL2 hVc hVf hFc BW hpos hn
    gi_wp2
    exact hK
  case body =>
    rintro lr pre ⟨⟨a, ha⟩, ⟨b, hb⟩⟩ W ⟨hp0, hB⟩ _
    have hp := Lib.hid hp0
    have hs := hB.size
    have hYW := hYP.step hB
    have r1 := hYW.cell 1 rfl
    clear hp0 hP0
    dsimp only
    gi_wp2_with fail
    gi_loopw [16] (fun i wi => ∃ c : Nat, c ≤ m.n ∧ i = .int .i64 c ∧ Below W.heap.size W wi ∧ Hid (∀ d, d < c → splitB m a b d = true)) (fun i _ => m.n - (intOf i).toNat)
    case atStart => exact ⟨0, Nat.zero_le _, rfl, Below.refl _ _, fun d hd => absurd hd (Nat.not_lt_zero _)⟩
    case round =>
      obtain ⟨c, hc, rfl, hD, hR⟩ := hrel
      clear r1
      have hBi := hB.trans (hD.mono hs)
      by_cases hct : c < m.n
      · have hct' : (c : Int) < m.n := by omega
        have hLi := Lib.hid (hL2.out.step hBi)
        have f0 := (hBi.cell (p := ⟨w.heap.size + 1, 0, none⟩) (by show w.heap.size + 1 < _; omega)).trans hFc
        have v5 := (hBi.cell (p := ⟨w.heap.size + 1 + 1, 0, none⟩) (by show w.heap.size + 1 + 1 < _; omega)).trans hVc
        have f5 := (hBi.frozen (p := ⟨w.heap.size + 1 + 1, 0, none⟩) (by show w.heap.size + 1 + 1 < _; omega)).trans hVf
        cases hsp : splitB m a b c with
        | true =>
          have HS := Lib.hid hsp
          clear hsp
          gi_wp2_with fail
          refine ⟨trivial, ?_⟩
          refine (CallsIn.inRound lr (callsIn_wide.2 (splits_any (nc := nc) hLi.out ha hb hct))).mono ?_
          rintro e w5 ⟨rfl, b5⟩
          rw [HS.out]
          have hD5 := hD.trans (b5.mono hD.size)
          clear f0 v5 f5
          gi_wp2_with fail
          go_roundw
          case rel => exact ⟨c + 1, by omega, by go_num, hD5, fun d hd => by
            by_cases e : d = c
            · subst e; exact HS.out
            · exact hR.out d (by omega)⟩
          case measure => simp [intOf]; omega
        | false =>
          have HS := Lib.hid hsp
          have HF : Hid (all3B m.n (splitB m) = false) := all3_fails ha hb hct hsp
          clear hsp
          gi_wp2_with fail
          refine ⟨trivial, ?_⟩
          refine (CallsIn.inRound lr (callsIn_wide.2 (splits_any (nc := nc) hLi.out ha hb hct))).mono ?_
          rintro e w5 ⟨rfl, b5⟩
          rw [HS.out]
          have hD5 := hD.trans (b5.mono hD.size)
          have hB5 := hBi.trans (b5.mono hBi.size)
          have s5 := hB5.size
          have v6 := (b5.cell (p := ⟨w.heap.size + 1 + 1, 0, none⟩) (by show w.heap.size + 1 + 1 < _; have := hD.size; omega)).trans v5
          have f6 := (b5.frozen (p := ⟨w.heap.size + 1 + 1, 0, none⟩) (by show w.heap.size + 1 + 1 < _; have := hD.size; omega)).trans f5
          clear f0 v5 f5
          gi_wp2_with fail
          exact ⟨(keepsFrom_below hD5).trans ((KeepsOthers.setCell _ _ _).from _), ⟨rfl, HF.out⟩, World.cell?_setCell_same' _ _ _ (by rw [v6]; rfl), (BW.trans (hB5.mono BW.size)).setCell (p := ⟨w.heap.size + 1 + 1, 0, none⟩) (by show w.heap.size ≤ w.heap.size + 1 + 1; omega) _⟩
      · have hct' : ¬ (c : Int) < m.n := by omega
        gi_wp2_with fail
        exact ⟨keepsFrom_below hD, hD.mono hs, hp.out.snoc (fun d hd => hR.out d (by show d < c; have hd : d < m.n := hd; omega)), hBi⟩
  case done =>
    rintro D ys W hD hys ⟨hp0, hB⟩ hK
    have HO' := Lib.hid (hp0.all hys)
    clear hp0
    have v0 := (hB.cell (p := ⟨w.heap.size + 1 + 1, 0, none⟩) (by show w.heap.size + 1 + 1 < _; omega)).trans hVc
    have vf := (hB.frozen (p := ⟨w.heap.size + 1 + 1, 0, none⟩) (by show w.heap.size + 1 + 1 < _; omega)).trans hVf
    have hbW := BW.trans (hB.mono BW.size)
    have hDs : w.heap.size ≤ D := Nat.le_trans BW.size hD
    gi_wp2
    have hK' := (KeepsOthers.setCell W ⟨w.heap.size + 1 + 1, 0, none⟩ (.bool true)).same D _ hK rfl
    refine ⟨by simp, .inl ⟨_, _, rfl, run_takeDeferred hK', ?_⟩⟩
    have hc5 := cell_kept (World.cell?_setCell_same' W ⟨w.heap.size + 1 + 1, 0, none⟩ (.bool true) (by rw [v0]; rfl)) (grownBy_putObj' _ D (.deferred none)) (fun r e => by cases e; exact ⟨_, hK', rfl⟩)
    refine ⟨.bool true, ?_, ret_bool HO'.out.symm, (hbW.setCell (p := ⟨w.heap.size + 1 + 1, 0, none⟩) (by show w.heap.size ≤ w.heap.size + 1 + 1; omega) _).trans (belowK_b (w := w) (Nat.le_refl _) _ D _ _ hDs hK' rfl rfl)⟩
    simp [results, Try.f17, go_sem, hc5]
  case stop =>
    rintro D c pre W hD _ ⟨⟨rfl, hbad⟩, hcr, hB⟩ hK
    have hDs : w.heap.size ≤ D := Nat.le_trans BW.size hD
    gi_wp2
    refine ⟨by simp, .inl ⟨_, _, rfl, run_takeDeferred hK, ?_⟩⟩
    have hc5 := cell_kept hcr (grownBy_putObj' _ D (.deferred none)) (fun r e => by cases e; exact ⟨_, hK, rfl⟩)
    refine ⟨.bool false, ?_, ret_bool hbad.symm, hB.trans (belowK_b (w := w) (Nat.le_refl _) W D _ _ hDs hK rfl rfl)⟩
    simp [results, Try.f17, go_sem, hc5]

set_option maxRecDepth 100000 in
set_option maxHeartbeats 4000000 in
theorem BooleanOk_any {w : World} {B : Nat} {ua : Option Addr} {l : Lay} {m : Mx} {na : Option Addr} {g o k nc : Nat} {z : Nat → Int} (h : LogAt w B ua l m na g o k z) :
    Calls Try.prog 10 #[.agg #[.slice ua m.n l.cap, .slice na k nc]] w fun e w' => e = .returned (.bool (boolV m k z)) ∧ Below w.heap.size w w' := by
  have hX := BoxN.start w #[.slice ua m.n l.cap, .slice na k nc] 26
  have q0 := hX.cell 0 rfl
  have q1 := hX.cell 1 rfl
  have bw := hX.below
  have h2 := Lib.hid (h.step bw)
  have hsz : (w.alloc (.cells #[.slice ua m.n l.cap, .slice na k nc] 26)).heap.size ≥ w.heap.size + 1 := by simp
  have hrow2 : Hid (RowAt (w.alloc (.cells #[.slice ua m.n l.cap, .slice na k nc] 26)) (w.alloc (.cells #[.slice ua m.n l.cap, .slice na k nc] 26)).heap.size none 0 0 0 (fun _ => 0)) := ⟨fun c hc => absurd hc (Nat.not_lt_zero _)⟩
  clear h
  go_enter Try.func10, Try.ntmps10
  go_wp2_with fail
  generalize hW : w.alloc (.cells #[.slice ua m.n l.cap, .slice na k nc] 26) = W at hX bw hsz h2 hrow2 q0 q1 ⊢
  clear hW
  go_at_call 15
  refine (algebraWith_any h2.out hrow2.out (by omega)).mono ?_
  rintro e w1 ⟨b1, (⟨hg, ob, tb, tG, rfl, hA⟩ | ⟨hg, rfl⟩)⟩
  · clear q0 q1 hrow2
    have B1 := bw.trans (b1.mono bw.size)
    have h3 := h2.out.step b1
    clear h2 hX bw hsz
    have hl : logicB m k z = true := by rw [good_nil, Bool.and_true] at hg; exact hg
    obtain ⟨y0, o', hO0⟩ := (logicB_is hl).ortho
    have hkn : k = m.n := (logicB_is hl).pair.len
    subst hkn
    have hO := hO0.own
    obtain ⟨y, hy⟩ : ∃ y : Nat → Nat, y = fun c => (z c).toNat := ⟨_, rfl⟩
    rw [← hy] at hO
    obtain ⟨rfl, hL1⟩ := AL.of hA h3 hO
    have HV : Hid (boolB m = boolV m m.n z) := by
      show _ = _
      unfold boolV
      rw [hl]; rfl
    clear hg hl hy hA h3 hO hO0
    have hY := BoxN.start w1 #[.slice ua m.n l.cap, .slice (some ⟨g, o, none⟩) m.n nc, .slice (some ⟨ob, 0, none⟩) 2 2] 42
    have BY := B1.trans (hY.below.mono B1.size)
    have hL := Lib.hid (hL1.step hY.below)
    clear hL1
    have r0 := hY.cell 0 rfl
    have r1 := hY.cell 1 rfl
    have r2 := hY.cell 2 rfl
    unfold algV
    go_wp2_with fail
    go_at_call 17
    refine (allThree_split (nc := nc) hL.out).mono ?_
    rintro e w2 ⟨rfl, b2⟩
    rw [all3_bool]
    have B2 := BY.trans (b2.mono BY.size)
    clear hY r0 r1 r2 hL
    go_wp2_with fail
    go_ret
    exact ⟨ret_bool HV.out, B2⟩
  · clear q0 q1 hrow2
    have hl : logicB m k z = false := by rw [good_nil, Bool.and_true] at hg; exact hg
    have HV : Hid (false = boolV m k z) := by show _ = _; unfold boolV; rw [hl]; rfl
    clear hg hl
    have B1 := bw.trans (b1.mono bw.size)
    have B2 := B1.alloc B1.size (.cells #[.slice none 0 0, .slice none 0 0, .slice none 0 0] 42)
    unfold noAlg
    go_wp2_with fail
    go_ret
    exact ⟨ret_bool HV.out, B2⟩

end Go.Proofs.Ytmchgclaeipoeaa
