import Derived.Test.YtnbglbhfclohjaaZOi
import Derived.Test.YtnbglbhfclohjaaZMath
import Derived.Test.YtnbglbhfclohjaaZWv
import Derived.Test.YtnbglbhfclohjaaZYi
import Derived.Test.YtnbglbhfclohjaaZGa
import Derived.RangeFuncNested
import Derived.RangeFuncLeaves
namespace Go.Proofs.Ytnbglbhfclohjaa
open Go.RowKit Go.Deep

end Go.Proofs.Ytnbglbhfclohjaa
namespace Go.Proofs.Ytnbglbhfclohjaa
open Go.RowKit Go.Deep

end Go.Proofs.Ytnbglbhfclohjaa
namespace Go.Proofs.Ytnbglbhfclohjaa
open Go.RowKit Go.Deep

/-- The algebra of a logic lies in memory, and its rows and opposites. -/
structure AL (w : World) (B ob tb : Nat) (tG : Nat → Nat) (ua : Option Addr) (l : Lay) (m : Mx) (g o : Nat) (z : Nat → Int) (y : Nat → Nat) (n0 : Nat) : Prop where
  A : Alg w ob tb tG ua l m
  S : SqAt w B ua l m
  R : RowAt w B (some ⟨g, o, none⟩) g o m.n z
  O : Ortho m z y n0
theorem AL.step {w w' : World} {B ob tb g o n0 : Nat} {tG : Nat → Nat} {ua : Option Addr} {l : Lay} {m : Mx} {z : Nat → Int} {y : Nat → Nat} (h : AL w B ob tb tG ua l m g o z y n0) (hb : Below w.heap.size w w') : AL w' B ob tb tG ua l m g o z y n0 :=
  ⟨h.A.step hb, h.S.step hb, h.R.below (hb.mono h.S.hB), h.O⟩
theorem AL.notAt {w : World} {B ob tb g o n0 b : Nat} {tG : Nat → Nat} {ua : Option Addr} {l : Lay} {m : Mx} {z : Nat → Int} {y : Nat → Nat} (h : AL w B ob tb tG ua l m g o z y n0) (hb : b < m.n) : w.cell? ⟨g, o + b, none⟩ = some (.int .i64 ((y b : Nat) : Int)) := by
  have := (h.R.row b hb).2.2
  rw [h.O.zy b hb] at this
  exact this
theorem AL.of {w : World} {B ob tb g o n0 : Nat} {tG : Nat → Nat} {ua na : Option Addr} {l : Lay} {m : Mx} {z : Nat → Int} {y : Nat → Nat} (hA : Alg w ob tb tG ua l m) (h : LogAt w B ua l m na g o m.n z) (hO : Ortho m z y n0) :
    na = some ⟨g, o, none⟩ ∧ AL w B ob tb tG ua l m g o z y n0 := by
  have hp := hO.lat.order.pos
  obtain ⟨rfl, _, _⟩ := h.row.row 0 (by omega)
  exact ⟨rfl, hA, h.sq hO.lat.order, h.row, hO⟩
theorem joinA {w : World} {B ob tb g o nc n0 a b : Nat} {tG : Nat → Nat} {ua : Option Addr} {l : Lay} {m : Mx} {z : Nat → Int} {y : Nat → Nat} (h : AL w B ob tb tG ua l m g o z y n0) (ha : a < m.n) (hb : b < m.n) :
    Calls Try.prog 37 #[.agg #[.slice ua m.n l.cap, .slice (some ⟨g, o, none⟩) m.n nc, .slice (some ⟨ob, 0, none⟩) 2 2], .int .i64 1, .int .i64 a, .int .i64 b] w fun e w' => e = .returned (.int .i64 ((jN m a b : Nat) : Int)) ∧ Below w.heap.size w w' := by
  have e := made_join (na := some ⟨g, o, none⟩) (k := m.n) (nc := nc) h.A h.S ha hb
  unfold algV at e
  rw [h.O.jI ha hb] at e
  exact e
def three (a b c : Int) : Nat → Int := fun i => if i = 0 then a else if i = 1 then b else c
end Go.Proofs.Ytnbglbhfclohjaa
namespace Go.Proofs.Ytnbglbhfclohjaa
open Go.RowKit Go.Deep

end Go.Proofs.Ytnbglbhfclohjaa
namespace Go.Proofs.Ytnbglbhfclohjaa
open Go.RowKit Go.Deep

/-- 1 if a set has an answer, 0 if it has not. -/
def hasN (s a : Nat) : Nat := if s.testBit a = true then 1 else 0
theorem hasN_le (s a : Nat) : hasN s a ≤ 1 := by unfold hasN; split <;> omega
theorem hasN_value {s b : Nat} (hs : s < 4096) : bits .and .i64 ((s : Int) / 2 ^ b) 1 = ((hasN s b : Nat) : Int) := by
  have e : ((s : Int) / 2 ^ b) = ((s / 2 ^ b : Nat) : Int) := by
    rw [Int.natCast_ediv]; simp
  have hl : s / 2 ^ b < 4096 := Nat.lt_of_le_of_lt (Nat.div_le_self _ _) hs
  unfold hasN
  rw [e, show (1 : Int) = ((1 : Nat) : Int) from rfl, i64_and_nat _ _ (by omega) (by omega), Nat.and_one_is_mod, Nat.testBit_eq_decide_div_mod_eq]
  by_cases h : s / 2 ^ b % 2 = 1
  · rw [h]; simp
  · have h0 : s / 2 ^ b % 2 = 0 := by omega
    rw [h0]; simp

set_option maxRecDepth 100000 in
set_option maxHeartbeats 2000000 in
theorem has_any {s a : Nat} (hs : s < 4096) (ha : a < 64) (w : World) :
    Calls Try.prog 70 #[.int .i64 s, .int .i64 a] w fun e w' => e = .returned (.int .i64 ((hasN s a : Nat) : Int)) ∧ w = w' := by
  have HV := Lib.hid (hasN_value (b := a) hs)
  have ha1 : (a : Int) < 64 := by omega
  have ha2 : (a : Int) ≤ 64 := by omega
  go_enter Try.func70, Try.ntmps70
  go_wp2_with fail
  go_ret
  exact ⟨ret_int HV.out, rfl⟩
end Go.Proofs.Ytnbglbhfclohjaa
namespace Go.Proofs.Ytnbglbhfclohjaa
open Go.RowKit Go.Deep Go.Shelf

attribute [local go_sem] Oper.semAt_some

/-- One block lies as it lay. -/
def KeptB (k : Nat) (A B : World) : Prop := B.heap[k]? = A.heap[k]?
theorem KeptB.trans {k : Nat} {A B C : World} (h : KeptB k A B) (h' : KeptB k B C) : KeptB k A C := Eq.trans h' h
theorem KeptB.put {k : Nat} {w : World} (hk : k < w.heap.size) (W : World) (l : Nat) (o o' : Obj) (hl : w.heap.size ≤ l) (_ : W.heap[l]? = some o) (_ : o.isCells = false) (_ : o.isWalk = false) : KeptB k W (W.putObj l o') :=
  World.putObj_heap_other (by omega)

/-- The rows under way: the bits of the pairs so far that agree. -/
structure RB (m : Mx) (y : Nat → Nat) (mb bx : Nat) (pre : List (Fin m.n × Fin m.n)) (W : World) : Prop where
  top : W.cell? ⟨bx, 0, none⟩ = some (.slice (some ⟨mb, 0, none⟩) m.n m.n)
  row : ∀ a, a < m.n → ∃ s : Nat, s < 4096 ∧ W.cell? ⟨mb, a, none⟩ = some (.int .i64 (s : Int)) ∧ W.frozen? ⟨mb, a, none⟩ = false ∧ ∀ b, b < m.n → (s.testBit b = true ↔ agB m y a b = true ∧ ∃ x ∈ pre, x.1.val = a ∧ x.2.val = b)
theorem RB.keep {m : Mx} {y : Nat → Nat} {mb bx : Nat} {pre : List (Fin m.n × Fin m.n)} {W W' : World} (h : RB m y mb bx pre W) (h1 : ∀ p : Addr, (W.cell? p).isSome = true → p.block = mb ∨ p.block = bx → W'.cell? p = W.cell? p ∧ W'.frozen? p = W.frozen? p) : RB m y mb bx pre W' :=
  ⟨(h1 _ (by rw [h.top]; rfl) (.inr rfl)).1.trans h.top, fun a ha => by
    obtain ⟨s, hs, hc, hf, hb⟩ := h.row a ha
    obtain ⟨k1, k2⟩ := h1 ⟨mb, a, none⟩ (by rw [hc]; rfl) (.inl rfl)
    exact ⟨s, hs, k1.trans hc, k2.trans hf, hb⟩⟩
theorem RB.below {m : Mx} {y : Nat → Nat} {mb bx : Nat} {pre : List (Fin m.n × Fin m.n)} {W W' : World} (h : RB m y mb bx pre W) (hb : Below W.heap.size W W') : RB m y mb bx pre W' :=
  h.keep fun p hp _ => by
    obtain ⟨v, hv⟩ := Option.isSome_iff_exists.1 hp
    have := World.block_lt_of_cell? _ _ hv
    exact ⟨hb.cell this, hb.frozen this⟩
theorem RB.own (m : Mx) (y : Nat → Nat) (mb bx : Nat) : Own (fun (pre : List (Fin m.n × Fin m.n)) W => RB m y mb bx pre W) := fun s A B row hs hg hr => hs.keep fun p hp _ => by
  obtain ⟨v, hv⟩ := Option.isSome_iff_exists.1 hp
  exact ⟨(cell_kept hv hg hr).trans hv.symm, frozen_kept hv hg hr⟩
theorem RB.skip {m : Mx} {y : Nat → Nat} {mb bx : Nat} {pre : List (Fin m.n × Fin m.n)} {W : World} (h : RB m y mb bx pre W) {x : Fin m.n × Fin m.n} (hx : agB m y x.1.val x.2.val = false) : RB m y mb bx (pre ++ [x]) W :=
  ⟨h.top, fun a ha => by
    obtain ⟨s, hs, hc, hf, hb⟩ := h.row a ha
    refine ⟨s, hs, hc, hf, fun b hbn => (hb b hbn).trans ?_⟩
    constructor
    · rintro ⟨e, p, hp, e1, e2⟩
      exact ⟨e, p, List.mem_append_left _ hp, e1, e2⟩
    · rintro ⟨e, p, hp, e1, e2⟩
      rcases List.mem_append.1 hp with hp | hp
      · exact ⟨e, p, hp, e1, e2⟩
      · exfalso
        have e3 : p = x := by simpa using hp
        rw [← e1, ← e2, e3, hx] at e
        exact Bool.false_ne_true e⟩
theorem or_lt12 {s b : Nat} (hs : s < 4096) (hb : b < 12) : s ||| 2 ^ b < 4096 := by
  have h1 : 2 ^ b < 2 ^ 12 := Nat.pow_lt_pow_right (by omega) hb
  exact Nat.or_lt_two_pow (n := 12) hs h1
theorem RB.set {m : Mx} {y : Nat → Nat} {mb bx : Nat} {pre : List (Fin m.n × Fin m.n)} {W : World} (h : RB m y mb bx pre W) (hne : bx ≠ mb) (hn : m.n ≤ 12) {a b s : Nat} (ha : a < m.n) (hb : b < m.n) (hx : agB m y a b = true) (hs : W.cell? ⟨mb, a, none⟩ = some (.int .i64 (s : Int))) :
    RB m y mb bx (pre ++ [(⟨a, ha⟩, ⟨b, hb⟩)]) (W.setCell ⟨mb, a, none⟩ (.int .i64 ((s ||| 2 ^ b : Nat) : Int))) :=
  ⟨(World.cell?_setCell_other _ _ _ _ (by intro e; exact hne (congrArg Addr.block e).symm)).trans h.top, fun c hc => by
    obtain ⟨t, ht, hct, hf, hbt⟩ := h.row c hc
    by_cases e : c = a
    · subst e
      have est : s = t := by
        rw [hs] at hct
        have e9 : (s : Int) = (t : Int) := by simpa using hct
        omega
      subst est
      refine ⟨s ||| 2 ^ b, or_lt12 ht (by omega), World.cell?_setCell_same' _ _ _ (by rw [hs]; rfl), by rw [World.frozen?_setCell]; exact hf, fun d hd => ?_⟩
      rw [Nat.testBit_or, Bool.or_eq_true, hbt d hd, Nat.testBit_two_pow, decide_eq_true_iff]
      constructor
      · rintro (⟨e1, p, hp, e2, e3⟩ | e1)
        · exact ⟨e1, p, List.mem_append_left _ hp, e2, e3⟩
        · subst e1
          exact ⟨hx, _, List.mem_append_right _ (List.mem_singleton.2 rfl), rfl, rfl⟩
      · rintro ⟨e1, p, hp, e2, e3⟩
        rcases List.mem_append.1 hp with hp | hp
        · exact .inl ⟨e1, p, hp, e2, e3⟩
        · right
          have e4 : p = (⟨c, ha⟩, ⟨b, hb⟩) := by simpa using hp
          rw [e4] at e3
          exact e3
    · refine ⟨t, ht, (World.cell?_setCell_other _ _ _ _ (by intro e2; exact e (congrArg Addr.off e2).symm)).trans hct, by rw [World.frozen?_setCell]; exact hf, fun d hd => (hbt d hd).trans ?_⟩
      constructor
      · rintro ⟨e1, p, hp, e2, e3⟩
        exact ⟨e1, p, List.mem_append_left _ hp, e2, e3⟩
      · rintro ⟨e1, p, hp, e2, e3⟩
        rcases List.mem_append.1 hp with hp | hp
        · exact ⟨e1, p, hp, e2, e3⟩
        · exfalso
          have e4 : p = (⟨a, ha⟩, ⟨b, hb⟩) := by simpa using hp
          rw [e4] at e2
          exact e e2.symm⟩

/-- What agreeing hands back: a function value over rows of bits. -/
structure AgAt (m : Mx) (y : Nat → Nat) (mb bx : Nat) (W : World) : Prop where
  top : W.cell? ⟨bx, 0, none⟩ = some (.slice (some ⟨mb, 0, none⟩) m.n m.n)
  row : ∀ a, a < m.n → ∃ s : Nat, s < 4096 ∧ W.cell? ⟨mb, a, none⟩ = some (.int .i64 (s : Int)) ∧ ∀ b, b < m.n → s.testBit b = agB m y a b
theorem AgAt.step {m : Mx} {y : Nat → Nat} {mb bx : Nat} {W W' : World} (h : AgAt m y mb bx W) (hb : Below W.heap.size W W') : AgAt m y mb bx W' :=
  ⟨(hb.cell (World.block_lt_of_cell? _ _ h.top)).trans h.top, fun a ha => by
    obtain ⟨s, hs, hc, hr⟩ := h.row a ha
    exact ⟨s, hs, (hb.cell (World.block_lt_of_cell? _ _ hc)).trans hc, hr⟩⟩
theorem AgAt.put {m : Mx} {y : Nat → Nat} {mb bx D : Nat} {W : World} (h : AgAt m y mb bx W) {o : Obj} (hl : W.heap[D]? = some o) (ho : o.isCells = false) (o' : Obj) : AgAt m y mb bx (W.putObj D o') :=
  ⟨cell_kept h.top (grownBy_putObj' _ D o') (fun r e => by cases e; exact ⟨_, hl, ho⟩), fun a ha => by
    obtain ⟨s, hs, hc, hr⟩ := h.row a ha
    exact ⟨s, hs, cell_kept hc (grownBy_putObj' _ D o') (fun r e => by cases e; exact ⟨_, hl, ho⟩), hr⟩⟩
theorem RB.all {m : Mx} {y : Nat → Nat} {mb bx : Nat} {pre : List (Fin m.n × Fin m.n)} {W : World} (h : RB m y mb bx pre W) (hall : ∀ a b : Fin m.n, (a, b) ∈ pre) : AgAt m y mb bx W :=
  ⟨h.top, fun a ha => by
    obtain ⟨s, hs, hc, _, hb⟩ := h.row a ha
    refine ⟨s, hs, hc, fun b hbn => ?_⟩
    rw [Bool.eq_iff_iff, hb b hbn]
    exact ⟨fun e => e.1, fun e => ⟨e, (⟨a, ha⟩, ⟨b, hbn⟩), hall _ _, rfl, rfl⟩⟩⟩
end Go.Proofs.Ytnbglbhfclohjaa
namespace Go.Proofs.Ytnbglbhfclohjaa
open Go.RowKit Go.Deep Go.Shelf

attribute [local go_sem] Oper.semAt_some

def bothPB (m : Mx) (y : Nat → Nat) (a b : Nat) : Bool := !agB m y a b || agB m y b a
/-- Nothing speaks against the pairs of the list. -/
def AllBoth (m : Mx) (y : Nat → Nat) (pre : List (Fin m.n × Fin m.n)) : Prop := ∀ p ∈ pre, bothPB m y p.1.val p.2.val = true
theorem AllBoth.snoc {m : Mx} {y : Nat → Nat} {pre : List (Fin m.n × Fin m.n)} (h : AllBoth m y pre) {x : Fin m.n × Fin m.n} (hx : bothPB m y x.1.val x.2.val = true) : AllBoth m y (pre ++ [x]) := fun p hp => by
  rcases List.mem_append.1 hp with e | e
  · exact h p e
  · have e' : p = x := by simpa using e
    rw [e']; exact hx
theorem AllBoth.all {m : Mx} {y : Nat → Nat} {pre : List (Fin m.n × Fin m.n)} (h : AllBoth m y pre) (hall : ∀ a b : Fin m.n, (a, b) ∈ pre) : twoWaysB m y = true := by
  unfold twoWaysB
  refine allB_true fun a ha => allB_true fun b hb => ?_
  have h1 := h (⟨a, ha⟩, ⟨b, hb⟩) (hall _ _)
  unfold bothPB at h1
  exact h1

end Go.Proofs.Ytnbglbhfclohjaa
namespace Go.Proofs.Ytnbglbhfclohjaa
open Go.RowKit Go.Deep Go.Shelf

/-- Cells of blocks that are not the caller's lie as they lay, and are not the caller's behind it. -/
structure KeepO (own : World → Nat → Prop) (W W' : World) : Prop where
  size : W.heap.size ≤ W'.heap.size
  same : ∀ (p : Addr) (v : Value), W.cell? p = some v → ¬ own W p.block → W'.cell? p = some v ∧ ¬ own W' p.block
theorem KeepO.refl (own : World → Nat → Prop) (W : World) : KeepO own W W := ⟨Nat.le_refl _, fun _ _ h h' => ⟨h, h'⟩⟩
theorem KeepO.trans {own : World → Nat → Prop} {A B C : World} (h : KeepO own A B) (k : KeepO own B C) : KeepO own A C :=
  ⟨Nat.le_trans h.size k.size, fun p v e e' => let ⟨g, g'⟩ := h.same p v e e'; k.same p v g g'⟩
/-- Which blocks are the caller's hangs on nothing that an iterator turns. -/
structure Ow (own : World → Nat → Prop) (B : Nat) : Prop where
  step : ∀ (W W' : World) (row : Option Nat), B ≤ W.heap.size → W.grownBy W' row → (∀ r, row = some r → B ≤ r ∧ ∃ o : Obj, W.heap[r]? = some o ∧ o.isCells = false) → ∀ k, own W' k → own W k
theorem Ow.up {own : World → Nat → Prop} {B B' : Nat} (h : Ow own B) (hB : B ≤ B') : Ow own B' :=
  ⟨fun W W' row hs hg hr k => h.step W W' row (Nat.le_trans hB hs) hg (fun r e => ⟨Nat.le_trans hB (hr r e).1, (hr r e).2⟩) k⟩
theorem Ow.grown {own : World → Nat → Prop} {B : Nat} (h : Ow own B) {W W' : World} {row : Option Nat} (hB : B ≤ W.heap.size) (hg : W.grownBy W' row) (hr : ∀ r, row = some r → B ≤ r ∧ ∃ o : Obj, W.heap[r]? = some o ∧ o.isCells = false) : KeepO own W W' :=
  ⟨hg.size, fun _ _ e e' => ⟨cell_kept e hg (fun r er => (hr r er).2), fun g => e' (h.step W W' row hB hg hr _ g)⟩⟩
theorem Ow.put {own : World → Nat → Prop} {B : Nat} (h : Ow own B) {W : World} {l : Nat} {o : Obj} (o' : Obj) (hB : B ≤ W.heap.size) (hl : B ≤ l) (hx : W.heap[l]? = some o) (ho : o.isCells = false) : KeepO own W (W.putObj l o') :=
  h.grown hB (grownBy_putObj' W l o') (fun r e => by cases e; exact ⟨hl, o, hx, ho⟩)
theorem grown_below {W W' : World} (h : Below W.heap.size W W') : W.grownBy W' none := ⟨h.os, h.tape, h.output, h.size, fun k hk _ => h.block k hk⟩
theorem Ow.below {own : World → Nat → Prop} {B : Nat} (h : Ow own B) {W W' : World} (hB : B ≤ W.heap.size) (hb : Below W.heap.size W W') : KeepO own W W' :=
  h.grown hB (grown_below hb) (fun r e => by cases e)
theorem OwnFrom.up {β : Type} {B B' : Nat} {I : β → World → Prop} (h : OwnFrom B I) (hB : B ≤ B') : OwnFrom B' I :=
  fun s W W' row hs hg hr => h s W W' row hs hg (fun r e => ⟨Nat.le_trans hB (hr r e).1, (hr r e).2⟩)
theorem OwnFrom.below {β : Type} {B : Nat} {I : β → World → Prop} (h : OwnFrom B I) {s : β} {W W' : World} (hs : I s W) (hb : Below W.heap.size W W') : I s W' :=
  h s W W' none hs (grown_below hb) (fun r e => by cases e)
end Go.Proofs.Ytnbglbhfclohjaa
namespace Go.Proofs.Ytnbglbhfclohjaa

namespace OL
variable {α : Type} {L : OL α}
/-- Each three answers may be taken apart. -/
def Dist (L : OL α) : Prop := ∀ a b d, L.m a (L.j b d) = L.j (L.m a b) (L.m a d)
theorem Dist.ag (h : L.Dist) (a b : α) : L.Ag a b := by
  unfold Ag
  rw [← h, j_c]
  exact m_le (top a)
theorem Dist.keeps (h : L.Dist) : L.Keeps := keeps_of fun _ _ _ => h.ag _ _
end OL

/-- Two answers agree both ways. -/
def adjB (m : Mx) (y : Nat → Nat) (a b : Nat) : Bool := agB m y a b && agB m y b a
theorem adjB_comm (m : Mx) (y : Nat → Nat) (a b : Nat) : adjB m y a b = adjB m y b a := by unfold adjB; rw [Bool.and_comm]
/-- It agrees with all of the set. -/
def nbB (m : Mx) (y : Nat → Nat) (s x : Nat) : Bool := allB m.n fun a => !s.testBit a || adjB m y x a
theorem nb_iff {m : Mx} {y : Nat → Nat} {s x : Nat} : nbB m y s x = true ↔ ∀ a, a < m.n → s.testBit a = true → adjB m y x a = true := by
  constructor
  · intro h a ha hs
    have := allB_is h a ha
    rw [hs] at this
    simpa using this
  · intro h
    refine allB_true fun a ha => ?_
    cases hs : s.testBit a with
    | false => rfl
    | true => rw [h a ha hs]; rfl
/-- A bit of a number stands below its bound. -/
theorem bit_under {s n a : Nat} (hs : s < 2 ^ n) (h : s.testBit a = true) : a < n := by
  apply Classical.byContradiction
  intro hn
  have h2 : 2 ^ n ≤ 2 ^ a := Nat.pow_le_pow_right (by omega) (by omega)
  have := Nat.testBit_lt_two_pow (x := s) (i := a) (by omega)
  rw [h] at this
  exact Bool.false_ne_true this.symm
section
variable {m : Mx} {z : Nat → Int} {y : Nat → Nat} {o : Nat}
/-- The block of all answers. -/
theorem full_bits {n a : Nat} : (2 ^ n - 1).testBit a = decide (a < n) := Nat.testBit_two_pow_sub_one n a
def listTo (p : Nat → Bool) : Nat → List Int
  | 0 => []
  | k + 1 => if p k = true then listTo p k ++ [(k : Int)] else listTo p k
theorem listTo_yes {p : Nat → Bool} {k : Nat} (h : p k = true) : listTo p (k + 1) = listTo p k ++ [(k : Int)] := if_pos h
theorem listTo_no {p : Nat → Bool} {k : Nat} (h : p k = false) : listTo p (k + 1) = listTo p k := if_neg (by rw [h]; exact Bool.false_ne_true)
theorem listTo_len (p : Nat → Bool) (k : Nat) : (listTo p k).length ≤ k := by
  induction k with
  | zero => exact Nat.le_refl _
  | succ k ih =>
    cases h : p k with
    | true => rw [listTo_yes h, List.length_append]; simp; omega
    | false => rw [listTo_no h]; omega
end

/-- Bits set where a test holds, below a number. -/
def bitS (p : Nat → Bool) : Nat → Nat
  | 0 => 0
  | k + 1 => if p k = true then bitS p k + 2 ^ k else bitS p k
theorem bitS_is (p : Nat → Bool) (k : Nat) : bitS p k < 2 ^ k ∧ ∀ a, (bitS p k).testBit a = (decide (a < k) && p a) := by
  induction k with
  | zero => exact ⟨by show (0 : Nat) < 1; omega, fun a => by simp [bitS]⟩
  | succ k ih =>
    obtain ⟨h1, h2⟩ := ih
    have hp : 2 ^ (k + 1) = 2 ^ k + 2 ^ k := by rw [Nat.pow_succ]; omega
    cases hk : p k with
    | true =>
      have e : bitS p (k + 1) = bitS p k + 2 ^ k := by show (if _ then _ else _) = _; rw [if_pos hk]
      have e2 : bitS p k + 2 ^ k = 2 ^ k ||| bitS p k := by
        have h := Nat.two_pow_add_eq_or_of_lt h1 1
        rw [Nat.mul_one] at h
        rw [Nat.add_comm]; exact h
      refine ⟨by rw [e]; omega, fun a => ?_⟩
      rw [e, e2, Nat.testBit_or, Nat.testBit_two_pow, h2]
      by_cases ha : a = k
      · subst ha; simp [hk]
      · have : (k = a) = False := by simp; omega
        simp only [this, decide_false, Bool.false_or]
        rw [Bool.eq_iff_iff]
        simp only [Bool.and_eq_true, decide_eq_true_iff]
        constructor
        · rintro ⟨q1, q2⟩; exact ⟨by omega, q2⟩
        · rintro ⟨q1, q2⟩; exact ⟨by omega, q2⟩
    | false =>
      have e : bitS p (k + 1) = bitS p k := by show (if _ then _ else _) = _; rw [if_neg (by rw [hk]; exact Bool.false_ne_true)]
      refine ⟨by rw [e]; omega, fun a => ?_⟩
      rw [e, h2]
      by_cases ha : a = k
      · subst ha; simp [hk]
      · rw [Bool.eq_iff_iff]
        simp only [Bool.and_eq_true, decide_eq_true_iff]
        constructor
        · rintro ⟨q1, q2⟩; exact ⟨by omega, q2⟩
        · rintro ⟨q1, q2⟩; exact ⟨by omega, q2⟩
section
variable {m : Mx} {z : Nat → Int} {y : Nat → Nat} {o : Nat}
end
end Go.Proofs.Ytnbglbhfclohjaa
namespace Go.Proofs.Ytnbglbhfclohjaa

/-- What agrees with all of a set: as a set. -/
def shN (m : Mx) (y : Nat → Nat) (s : Nat) : Nat := bitS (nbB m y s) m.n
theorem shN_bit (m : Mx) (y : Nat → Nat) (s a : Nat) : (shN m y s).testBit a = (decide (a < m.n) && nbB m y s a) := (bitS_is _ _).2 a
section
variable {m : Mx} {z : Nat → Int} {y : Nat → Nat} {o : Nat}
end

section
variable {m : Mx} {z : Nat → Int} {y : Nat → Nat} {o : Nat}
end
end Go.Proofs.Ytnbglbhfclohjaa
namespace Go.Proofs.Ytnbglbhfclohjaa
open Go.RowKit Go.Deep Go.Shelf

attribute [local go_sem] Oper.semAt_some

theorem or_ltN {s b n : Nat} (hs : s < 2 ^ n) (hb : b < n) : s ||| 2 ^ b < 2 ^ n := Nat.or_lt_two_pow hs (Nat.pow_lt_pow_right (by omega) hb)
/-- Rows of bits under way: the pairs so far that pass a test. -/
structure RG (n : Nat) (p : Nat → Nat → Bool) (mb : Nat) (pre : List (Fin n × Fin n)) (W : World) : Prop where
  row : ∀ a, a < n → ∃ s : Nat, s < 2 ^ n ∧ W.cell? ⟨mb, a, none⟩ = some (.int .i64 (s : Int)) ∧ W.frozen? ⟨mb, a, none⟩ = false ∧ ∀ b, b < n → (s.testBit b = true ↔ p a b = true ∧ ∃ x ∈ pre, x.1.val = a ∧ x.2.val = b)
section
variable {n : Nat} {p : Nat → Nat → Bool} {mb : Nat} {pre : List (Fin n × Fin n)} {W W' : World}
theorem RG.keep (h : RG n p mb pre W) (h1 : ∀ q : Addr, (W.cell? q).isSome = true → q.block = mb → W'.cell? q = W.cell? q ∧ W'.frozen? q = W.frozen? q) : RG n p mb pre W' :=
  ⟨fun a ha => by
    obtain ⟨s, hs, hc, hf, hb⟩ := h.row a ha
    obtain ⟨k1, k2⟩ := h1 ⟨mb, a, none⟩ (by rw [hc]; rfl) rfl
    exact ⟨s, hs, k1.trans hc, k2.trans hf, hb⟩⟩
theorem RG.below (h : RG n p mb pre W) (hb : Below W.heap.size W W') : RG n p mb pre W' :=
  h.keep fun q hq _ => by
    obtain ⟨v, hv⟩ := Option.isSome_iff_exists.1 hq
    have := World.block_lt_of_cell? _ _ hv
    exact ⟨hb.cell this, hb.frozen this⟩
theorem RG.own (n : Nat) (p : Nat → Nat → Bool) (mb : Nat) : Own (fun (pre : List (Fin n × Fin n)) W => RG n p mb pre W) := fun _ _ _ _ hs hg hr => hs.keep fun q hq _ => by
  obtain ⟨v, hv⟩ := Option.isSome_iff_exists.1 hq
  exact ⟨(cell_kept hv hg hr).trans hv.symm, frozen_kept hv hg hr⟩
theorem RG.skip (h : RG n p mb pre W) {x : Fin n × Fin n} (hx : p x.1.val x.2.val = false) : RG n p mb (pre ++ [x]) W :=
  ⟨fun a ha => by
    obtain ⟨s, hs, hc, hf, hb⟩ := h.row a ha
    refine ⟨s, hs, hc, hf, fun b hbn => (hb b hbn).trans ?_⟩
    constructor
    · rintro ⟨e, q, hq, e1, e2⟩
      exact ⟨e, q, List.mem_append_left _ hq, e1, e2⟩
    · rintro ⟨e, q, hq, e1, e2⟩
      rcases List.mem_append.1 hq with hq | hq
      · exact ⟨e, q, hq, e1, e2⟩
      · exfalso
        have e3 : q = x := by simpa using hq
        rw [← e1, ← e2, e3, hx] at e
        exact Bool.false_ne_true e⟩
theorem RG.set (h : RG n p mb pre W) {a b s : Nat} (ha : a < n) (hb : b < n) (hx : p a b = true) (hs : W.cell? ⟨mb, a, none⟩ = some (.int .i64 (s : Int))) :
    RG n p mb (pre ++ [(⟨a, ha⟩, ⟨b, hb⟩)]) (W.setCell ⟨mb, a, none⟩ (.int .i64 ((s ||| 2 ^ b : Nat) : Int))) :=
  ⟨fun c hc => by
    obtain ⟨t, ht, hct, hf, hbt⟩ := h.row c hc
    by_cases e : c = a
    · subst e
      have est : s = t := by
        rw [hs] at hct
        have e9 : (s : Int) = (t : Int) := by simpa using hct
        omega
      subst est
      refine ⟨s ||| 2 ^ b, or_ltN ht hb, World.cell?_setCell_same' _ _ _ (by rw [hs]; rfl), by rw [World.frozen?_setCell]; exact hf, fun d hd => ?_⟩
      rw [Nat.testBit_or, Bool.or_eq_true, hbt d hd, Nat.testBit_two_pow, decide_eq_true_iff]
      constructor
      · rintro (⟨e1, q, hq, e2, e3⟩ | e1)
        · exact ⟨e1, q, List.mem_append_left _ hq, e2, e3⟩
        · subst e1
          exact ⟨hx, _, List.mem_append_right _ (List.mem_singleton.2 rfl), rfl, rfl⟩
      · rintro ⟨e1, q, hq, e2, e3⟩
        rcases List.mem_append.1 hq with hq | hq
        · exact .inl ⟨e1, q, hq, e2, e3⟩
        · right
          have e4 : q = (⟨c, ha⟩, ⟨b, hb⟩) := by simpa using hq
          rw [e4] at e3
          exact e3
    · refine ⟨t, ht, (World.cell?_setCell_other _ _ _ _ (by intro e2; exact e (congrArg Addr.off e2).symm)).trans hct, by rw [World.frozen?_setCell]; exact hf, fun d hd => (hbt d hd).trans ?_⟩
      constructor
      · rintro ⟨e1, q, hq, e2, e3⟩
        exact ⟨e1, q, List.mem_append_left _ hq, e2, e3⟩
      · rintro ⟨e1, q, hq, e2, e3⟩
        rcases List.mem_append.1 hq with hq | hq
        · exact ⟨e1, q, hq, e2, e3⟩
        · exfalso
          have e4 : q = (⟨a, ha⟩, ⟨b, hb⟩) := by simpa using hq
          rw [e4] at e2
          exact e e2.symm⟩
end
/-- For each answer the set of those with which it agrees both ways. -/
structure CompAt (m : Mx) (y : Nat → Nat) (mb : Nat) (W : World) : Prop where
  row : ∀ a, a < m.n → ∃ s : Nat, s < 2 ^ m.n ∧ W.cell? ⟨mb, a, none⟩ = some (.int .i64 (s : Int)) ∧ ∀ b, b < m.n → s.testBit b = adjB m y a b
theorem CompAt.step {m : Mx} {y : Nat → Nat} {mb : Nat} {W W' : World} (h : CompAt m y mb W) (hb : Below W.heap.size W W') : CompAt m y mb W' :=
  ⟨fun a ha => by
    obtain ⟨s, hs, hc, hr⟩ := h.row a ha
    exact ⟨s, hs, (hb.cell (World.block_lt_of_cell? _ _ hc)).trans hc, hr⟩⟩
theorem CompAt.put {m : Mx} {y : Nat → Nat} {mb D : Nat} {W : World} (h : CompAt m y mb W) {o : Obj} (hl : W.heap[D]? = some o) (ho : o.isCells = false) (o' : Obj) : CompAt m y mb (W.putObj D o') :=
  ⟨fun a ha => by
    obtain ⟨s, hs, hc, hr⟩ := h.row a ha
    exact ⟨s, hs, cell_kept hc (grownBy_putObj' _ D o') (fun r e => by cases e; exact ⟨_, hl, ho⟩), hr⟩⟩
theorem RG.all {m : Mx} {y : Nat → Nat} {mb : Nat} {pre : List (Fin m.n × Fin m.n)} {W : World} (h : RG m.n (adjB m y) mb pre W) (hall : ∀ a b : Fin m.n, (a, b) ∈ pre) : CompAt m y mb W :=
  ⟨fun a ha => by
    obtain ⟨s, hs, hc, _, hb⟩ := h.row a ha
    refine ⟨s, hs, hc, fun b hbn => ?_⟩
    rw [Bool.eq_iff_iff, hb b hbn]
    exact ⟨fun e => e.1, fun e => ⟨e, (⟨a, ha⟩, ⟨b, hbn⟩), hall _ _, rfl, rfl⟩⟩⟩
end Go.Proofs.Ytnbglbhfclohjaa
namespace Go.Proofs.Ytnbglbhfclohjaa
open Go.RowKit Go.Deep Go.Shelf

/-- What agrees with the first of the listed. -/
structure ShTo (m : Mx) (y q : Nat → Nat) (j v : Nat) : Prop where
  lt : v < 2 ^ m.n
  bit : ∀ x, x < m.n → (v.testBit x = true ↔ ∀ i, i < j → adjB m y x (q i) = true)
theorem ShTo.zero (m : Mx) (y q : Nat → Nat) : ShTo m y q 0 (2 ^ m.n - 1) :=
  ⟨by have := Nat.two_pow_pos m.n; omega, fun x hx => by rw [full_bits]; simp [hx]⟩
theorem ShTo.next {m : Mx} {y q : Nat → Nat} {j v r : Nat} (h : ShTo m y q j v) (hr : ∀ b, b < m.n → r.testBit b = adjB m y (q j) b) : ShTo m y q (j + 1) (v &&& r) :=
  ⟨Nat.lt_of_le_of_lt Nat.and_le_left h.lt, fun x hx => by
    rw [Nat.testBit_and, Bool.and_eq_true, h.bit x hx, hr x hx, adjB_comm]
    constructor
    · rintro ⟨h1, h2⟩ i hi
      by_cases e : i = j
      · subst e; exact h2
      · exact h1 i (by omega)
    · intro h1
      exact ⟨fun i hi => h1 i (by omega), h1 j (by omega)⟩⟩
theorem ShTo.all {m : Mx} {y : Nat → Nat} {s v : Nat} (hn : m.n ≤ 12) (hs : s < 2 ^ m.n) (h : ShTo m y (memF s 12) (memK s 12) v) : v = shN m y s := by
  have hE := mem_emb s 12
  refine Nat.eq_of_testBit_eq fun x => ?_
  rw [shN_bit]
  by_cases hx : x < m.n
  · rw [Bool.eq_iff_iff, h.bit x hx, Bool.and_eq_true, decide_eq_true_iff, nb_iff]
    constructor
    · intro g
      refine ⟨hx, fun a ha ga => ?_⟩
      have := g _ (hE.blt a (by omega) ga)
      rw [hE.qb a (by omega) ga] at this
      exact this
    · rintro ⟨_, g⟩ i hi
      exact g _ (bit_under hs (hE.has i hi)) (hE.has i hi)
  · cases e : v.testBit x with
    | true => exact absurd (bit_under h.lt e) hx
    | false => simp [hx]

end Go.Proofs.Ytnbglbhfclohjaa
namespace Go.Proofs.Ytnbglbhfclohjaa
open Go.RowKit Go.Deep Go.Shelf

attribute [local go_sem] Oper.semAt_some

end Go.Proofs.Ytnbglbhfclohjaa
namespace Go.Proofs.Ytnbglbhfclohjaa
open Go.RowKit Go.Deep Go.Shelf

attribute [local go_sem] Oper.semAt_some

end Go.Proofs.Ytnbglbhfclohjaa
namespace Go.Proofs.Ytnbglbhfclohjaa
open Go.RowKit Go.Deep

end Go.Proofs.Ytnbglbhfclohjaa
namespace Go.Proofs.Ytnbglbhfclohjaa
open Go.RowKit Go.Deep

end Go.Proofs.Ytnbglbhfclohjaa
namespace Go.Proofs.Ytnbglbhfclohjaa
open Go.RowKit Go.Deep

end Go.Proofs.Ytnbglbhfclohjaa
namespace Go.Proofs.Ytnbglbhfclohjaa

namespace OL
variable {α : Type} {L : OL α}
def hk (L : OL α) (a b : α) : α := L.j (L.c a) (L.m a b)
theorem j_mono {a b d e : α} (h1 : L.le a b) (h2 : L.le d e) : L.le (L.j a d) (L.j b e) := L.jg (L.trans h1 (L.jl _ _)) (L.trans h2 (L.jr _ _))
def Mod (L : OL α) : Prop := ∀ a b d, L.le a d → L.j a (L.m b d) = L.m (L.j a b) d
theorem Mod.keeps (h : L.Mod) : L.Keeps := fun a b hab => by
  rw [m_comm b (L.c a), h a (L.c a) b hab, j_c]
  exact m_le' (top b)
/-- One answer stands just below another one. -/
def Cov (L : OL α) (a b : α) : Prop := L.le a b ∧ a ≠ b ∧ ∀ w, L.le a w → L.le w b → w = a ∨ w = b
theorem Mod.cov_down (h : L.Mod) {a b : α} (k : L.Cov b (L.j a b)) : L.Cov (L.m a b) a := by
  obtain ⟨_, k1, k2⟩ := k
  refine ⟨L.ml _ _, fun e => ?_, fun w h1 h2 => ?_⟩
  · have : L.le a b := by rw [← e]; exact L.mr _ _
    exact k1 (j_le this).symm
  · have e := h w b a h2
    rw [m_comm b a, j_le' h1] at e
    rcases k2 (L.j w b) (L.jr _ _) (j_mono h2 (L.refl _)) with g | g
    · rw [g, m_comm] at e
      exact .inl e
    · rw [g, m_comm, m_le (L.jl a b)] at e
      exact .inr e
/-- A height: longest rows from below. -/
structure High (L : OL α) (f : α → Nat) : Prop where
  up : ∀ a b, L.le a b → a ≠ b → f a < f b
  step : ∀ b, f b ≠ 0 → ∃ a, L.le a b ∧ a ≠ b ∧ f a + 1 = f b
theorem High.cov {f : α → Nat} (h : L.High f) {b : α} (hb : f b ≠ 0) : ∃ a, L.Cov a b ∧ f a + 1 = f b := by
  obtain ⟨a, h1, h2, h3⟩ := h.step b hb
  refine ⟨a, ⟨h1, h2, fun w k1 k2 => ?_⟩, h3⟩
  apply Classical.byContradiction
  intro hn
  have e1 : a ≠ w := fun e => hn (.inl e.symm)
  have e2 : w ≠ b := fun e => hn (.inr e)
  have := h.up a w k1 e1
  have := h.up w b k2 e2
  omega
theorem High.one {f : α → Nat} (h : L.High f) (k : L.Mod) : ∀ (n : Nat) (a b : α), f b ≤ n → L.Cov a b → f a + 1 = f b := by
  intro n
  induction n with
  | zero =>
    intro a b hn c
    have := h.up a b c.1 c.2.1
    omega
  | succ n ih =>
    intro a b hn c
    have hab := h.up a b c.1 c.2.1
    obtain ⟨d, cd, hd⟩ := h.cov (b := b) (by omega)
    by_cases e : a = d
    · rw [e]; exact hd
    · have hj : L.j d a = b := by
        rcases c.2.2 (L.j d a) (L.jr _ _) (L.jg cd.1 c.1) with g | g
        · exfalso
          have hda : L.le d a := by rw [← g]; exact L.jl _ _
          rcases cd.2.2 a hda c.1 with g2 | g2
          · exact e g2
          · exact c.2.1 g2
        · exact g
      have c1 : L.Cov (L.m d a) d := k.cov_down (by rw [hj]; exact c)
      have c2 : L.Cov (L.m a d) a := k.cov_down (by rw [j_comm, hj]; exact cd)
      rw [m_comm] at c2
      have f1 := ih _ _ (by omega) c1
      have f2 := ih _ _ (by omega) c2
      omega
end OL

section
variable {m : Mx} {z : Nat → Int} {y : Nat → Nat} {o : Nat}
end

def maxTo (f : Nat → Nat) : Nat → Nat
  | 0 => 0
  | k + 1 => max (maxTo f k) (f k)
def hN (m : Mx) : Nat → Nat → Nat
  | 0, _ => 0
  | s + 1, a => maxTo (fun k => if (k != a && leB m k a) = true then hN m s k + 1 else 0) m.n
section
variable {m : Mx} {z : Nat → Int} {y : Nat → Nat} {o : Nat}
end
end Go.Proofs.Ytnbglbhfclohjaa
namespace Go.Proofs.Ytnbglbhfclohjaa

def bitN (s a : Nat) : Nat := if s.testBit a = true then 1 else 0
/-- The test of one pair of answers that are apart. -/
def stateP (m : Mx) (y : Nat → Nat) (s a b : Nat) : Bool := !leB m a (y b) || decide (bitN s a + bitN s b = bitN s (jN m a b))
/-- A number is a state, as the reference tests it. -/
def stateB (m : Mx) (y : Nat → Nat) (o s : Nat) : Bool := s.testBit (y o) && allB m.n fun a => decide (bitN s a + bitN s (y a) = 1) && allB a fun b => stateP m y s a b
structure State (m : Mx) (y : Nat → Nat) (o s : Nat) : Prop where
  yes : s.testBit (y o) = true
  one : ∀ a, a < m.n → bitN s a + bitN s (y a) = 1
  add : ∀ a b, a < m.n → b < m.n → a ≠ b → m.Z a (y b) = 1 → bitN s a + bitN s b = bitN s (jN m a b)
theorem bitN_le (s a : Nat) : bitN s a ≤ 1 := by unfold bitN; split <;> omega
theorem bitN_yes {s a : Nat} : bitN s a = 1 ↔ s.testBit a = true := by
  unfold bitN
  split
  · next h => simp [h]
  · next h => simp [h]
section
variable {m : Mx} {z : Nat → Int} {y : Nat → Nat} {o : Nat}
theorem Ortho.j_comm (h : Ortho m z y o) {a b : Nat} (ha : a < m.n) (hb : b < m.n) : jN m a b = jN m b a := congrArg Fin.val (OL.j_comm (L := h.ol) ⟨a, ha⟩ ⟨b, hb⟩)
theorem Ortho.apart_comm (h : Ortho m z y o) {a b : Nat} (ha : a < m.n) (hb : b < m.n) (e : m.Z a (y b) = 1) : m.Z b (y a) = 1 := by
  have g : h.ol.le ⟨a, ha⟩ (h.ol.c ⟨b, hb⟩) := e
  exact OL.turn' g
theorem Ortho.state_iff (h : Ortho m z y o) {s : Nat} : stateB m y o s = true ↔ State m y o s := by
  unfold stateB
  rw [Bool.and_eq_true]
  constructor
  · rintro ⟨e1, e2⟩
    have key : ∀ a, a < m.n → bitN s a + bitN s (y a) = 1 ∧ allB a (fun b => stateP m y s a b) = true := fun a ha => by
      have := allB_is e2 a ha
      rw [Bool.and_eq_true, decide_eq_true_iff] at this
      exact this
    have down : ∀ a b, a < m.n → b < a → m.Z a (y b) = 1 → bitN s a + bitN s b = bitN s (jN m a b) := fun a b ha hb e => by
      have := allB_is (key a ha).2 b hb
      unfold stateP at this
      rw [leB_mk e] at this
      simpa using this
    refine ⟨e1, fun a ha => (key a ha).1, fun a b ha hb hne e => ?_⟩
    rcases Nat.lt_trichotomy a b with g | g | g
    · have := down b a hb g (h.apart_comm ha hb e)
      rw [h.j_comm ha hb]; omega
    · exact absurd g hne
    · exact down a b ha g e
  · intro g
    refine ⟨g.yes, allB_true fun a ha => ?_⟩
    rw [Bool.and_eq_true, decide_eq_true_iff]
    refine ⟨g.one a ha, allB_true fun b hb => ?_⟩
    unfold stateP
    cases hl : leB m a (y b) with
    | false => rfl
    | true => simpa using g.add a b ha (by omega) (by omega) (leB_is hl)
theorem Ortho.state_no (h : Ortho m z y o) {s : Nat} (g : State m y o s) : bitN s o = 0 := by
  have h1 := g.one o h.ho
  have h2 := bitN_yes.2 g.yes
  omega
/-- An answer that is apart from itself is no. -/
theorem Ortho.apart_self_no (h : Ortho m z y o) {a : Nat} (ha : a < m.n) (e : m.Z a (y a) = 1) : a = o := by
  have g : h.ol.le ⟨a, ha⟩ (h.ol.c ⟨a, ha⟩) := e
  have := OL.is_o (OL.zero (h.ol.refl ⟨a, ha⟩) g)
  exact congrArg Fin.val this
/-- Of two answers that are apart not both are told yes. -/
theorem Ortho.state_apart (h : Ortho m z y o) {s a b : Nat} (g : State m y o s) (ha : a < m.n) (hb : b < m.n) (e : m.Z a (y b) = 1) : bitN s a + bitN s b ≤ 1 := by
  by_cases q : a = b
  · subst q
    have := h.apart_self_no ha e
    subst this
    have := h.state_no g
    omega
  · have := g.add a b ha hb q e
    have := bitN_le s (jN m a b)
    omega
theorem Ortho.state_add (h : Ortho m z y o) {s a b : Nat} (g : State m y o s) (ha : a < m.n) (hb : b < m.n) (e : m.Z a (y b) = 1) : bitN s a + bitN s b = bitN s (jN m a b) := by
  by_cases q : a = b
  · subst q
    have := h.apart_self_no ha e
    subst this
    have e2 : jN m a a = a := by
      have := OL.j_le (h.ol.refl ⟨a, ha⟩)
      exact congrArg Fin.val this
    rw [e2, h.state_no g]
  · exact g.add a b ha hb q e
/-- Where the law is kept, states go up. -/
theorem Ortho.state_up (h : Ortho m z y o) (hk : keepsB m y = true) {s a b : Nat} (g : State m y o s) (ha : a < m.n) (hb : b < m.n) (hab : m.Z a b = 1) (e : bitN s a = 1) : bitN s b = 1 := by
  have hK := h.keeps_iff.1 hk
  have e1 := hK ⟨a, ha⟩ ⟨b, hb⟩ hab
  have hc := (h.ol.m ⟨b, hb⟩ (h.ol.c ⟨a, ha⟩)).2
  have hap : h.ol.le ⟨a, ha⟩ (h.ol.c (h.ol.m ⟨b, hb⟩ (h.ol.c ⟨a, ha⟩))) := OL.turn' (h.ol.mr _ _)
  have e2 := h.state_add g ha hc hap
  have e3 : jN m a (h.ol.m ⟨b, hb⟩ (h.ol.c ⟨a, ha⟩)).val = b := congrArg Fin.val e1
  rw [e3] at e2
  have := bitN_le s b
  omega
/-- The states in a list. -/
def stateL (m : Mx) (y : Nat → Nat) (o : Nat) : List Int := listTo (stateB m y o) (2 ^ m.n)
end
end Go.Proofs.Ytnbglbhfclohjaa
namespace Go.Proofs.Ytnbglbhfclohjaa

section
variable {m : Mx} {z : Nat → Int} {y : Nat → Nat} {o : Nat}
end
end Go.Proofs.Ytnbglbhfclohjaa
namespace Go.Proofs.Ytnbglbhfclohjaa
open Go.RowKit Go.Deep

end Go.Proofs.Ytnbglbhfclohjaa
namespace Go.Proofs.Ytnbglbhfclohjaa
open Go.RowKit Go.Deep

theorem joinW8 {B : Nat} {sa : Option Addr} {l : Lay} {m : Mx} {a b : Nat} {w : World} {z : Nat → Int} {y : Nat → Nat} {o : Nat} (h : MatAt w B sa l m) (hO : Ortho m z y o) (ha : a < m.n) (hb : b < m.n) :
    Calls Try.prog 49 #[.slice sa m.n l.cap, .int .i64 a, .int .i64 b] w fun e w' => e = .returned (.int .i64 ((jN m a b : Nat) : Int)) ∧ w = w' :=
  (l1Join_any h hO.lat.order ha hb).mono fun _ _ ⟨he, hw⟩ => ⟨by rw [he, hO.jI ha hb], hw⟩
end Go.Proofs.Ytnbglbhfclohjaa
namespace Go.Proofs.Ytnbglbhfclohjaa
open Go.RowKit Go.Deep

theorem bit_num (s k : Nat) : ((s : Int) / 2 ^ k).tmod 2 = ((bitN s k : Nat) : Int) := by
  rw [bit_is]; unfold bitN; split <;> rfl
def inS (n : Nat) (x : Int) : Bool := decide (0 ≤ x ∧ x < ((2 ^ n : Nat) : Int))
noncomputable def stateV (m : Mx) (k : Nat) (z : Nat → Int) (x : Int) : Bool := logicB m k z && (inS m.n x && stateB m (fun c => (z c).toNat) (leastI m).toNat x.toNat)
noncomputable def statesV (m : Mx) (k : Nat) (z : Nat → Int) : List Int := if logicB m k z = true then stateL m (fun c => (z c).toNat) (leastI m).toNat else []
/-- What the reference asks of one answer. -/
def stR (m : Mx) (y : Nat → Nat) (s a : Nat) : Bool := decide (bitN s a + bitN s (y a) = 1) && allB a fun b => stateP m y s a b
theorem stateB_is (m : Mx) (y : Nat → Nat) (o s : Nat) : stateB m y o s = (s.testBit (y o) && allB m.n (stR m y s)) := rfl
theorem Ortho.yesV9 {m : Mx} {k : Nat} {z : Nat → Int} {y : Nat → Nat} {o : Nat} (h : Ortho m z y o) (hl : logicB m k z = true) : yesV m k z = (y o : Int) := by
  unfold Proofs.Ytnbglbhfclohjaa.yesV
  rw [if_pos hl, h.eq]
  exact h.zy o h.ho
theorem Ortho.stateV {m : Mx} {k s : Nat} {z : Nat → Int} {y : Nat → Nat} {o : Nat} (h : Ortho m z y o) (hl : logicB m k z = true) (hy : y = fun c => (z c).toNat) (hs : s < 2 ^ m.n) : Proofs.Ytnbglbhfclohjaa.stateV m k z (s : Int) = stateB m y o s := by
  have e : inS m.n (s : Int) = true := decide_eq_true ⟨by omega, by omega⟩
  unfold Proofs.Ytnbglbhfclohjaa.stateV
  rw [hl, e, h.eq, ← hy]; simp
theorem Ortho.statesV {m : Mx} {k : Nat} {z : Nat → Int} {y : Nat → Nat} {o : Nat} (h : Ortho m z y o) (hl : logicB m k z = true) (hy : y = fun c => (z c).toNat) : Proofs.Ytnbglbhfclohjaa.statesV m k z = stateL m y o := by
  unfold Proofs.Ytnbglbhfclohjaa.statesV
  rw [if_pos hl, h.eq, ← hy]; rfl
theorem state_zero (m : Mx) (y : Nat → Nat) (o : Nat) : stateB m y o 0 = false := by unfold stateB; simp

set_option maxRecDepth 100000 in
set_option maxHeartbeats 4000000 in
theorem l9State_any {w : World} {B : Nat} {ua : Option Addr} {l : Lay} {m : Mx} {na : Option Addr} {g o nc s o' : Nat} {z : Nat → Int} {y : Nat → Nat} (h : LogAt w B ua l m na g o m.n z) (hO : Ortho m z y o') (_ : s < 4096) :
    Calls Try.prog 47 #[.agg #[.slice ua m.n l.cap, .slice na m.n nc], .int .i64 s, .int .i64 ((y o' : Nat) : Int)] w fun e w' => e = .returned (.bool (stateB m y o' s)) ∧ Below w.heap.size w w' := by
  have hX := BoxN.start w #[.slice ua m.n l.cap, .slice na m.n nc] 26
  have hL := Lib.hid (h.alloc (.cells #[.slice ua m.n l.cap, .slice na m.n nc] 26))
  have q0 := hX.cell 0 rfl
  have q1 := hX.cell 1 rfl
  have hn := hO.lat.order.top
  have hpos := hO.lat.order.pos
  have HO := Lib.hid hO
  have HS := Lib.hid hO.lat.order.sq
  have hy0 := hO.lt o' hO.ho
  obtain ⟨rfl, _, _⟩ := hL.out.row.row 0 (by omega)
  obtain ⟨rfl, _, _⟩ := hL.out.mat.top 0 (by omega)
  obtain ⟨t, ht⟩ : ∃ t, y o' = t := ⟨_, rfl⟩
  rw [ht] at hy0
  have HB := Lib.hid (stateB_is m y o' s)
  rw [ht] at HB ⊢
  have HT := Lib.hid ht
  clear h hO ht
  cases hbt : s.testBit t with
  | false =>
    have HF : Hid (false = stateB m y o' s) := by show _ = _; rw [HB.out, hbt]; rfl
    have t1 := bit_no hbt
    clear hbt
    go_enter Try.func47, Try.ntmps47
    go_wp2_with fail
    go_ret
    exact ⟨ret_bool HF.out, hX.below⟩
  | true =>
  have HV : Hid (stateB m y o' s = allB m.n (stR m y s)) := by show _ = _; rw [HB.out, hbt]; rfl
  have t1 := bit_yes hbt
  clear hbt HB
  go_enter Try.func47, Try.ntmps47
  go_wp2_with fail
  clear t1
  generalize hW : w.alloc (.cells #[.slice (some ⟨l.b, l.o, none⟩) m.n l.cap, .slice (some ⟨g, o, none⟩) m.n nc] 26) = W at hX hL q0 q1 ⊢
  clear hW q0 q1
  go_loopw [7] (fun i wr => ∃ j : Nat, j ≤ m.n ∧ i = .int .i64 j ∧ Below W.heap.size W wr ∧ Hid (∀ a, a < j → stR m y s a = true)) (fun i _ => m.n - (intOf i).toNat)
  case atStart => exact ⟨0, Nat.zero_le _, rfl, Below.refl _ _, fun c hc => absurd hc (Nat.not_lt_zero _)⟩
  case round =>
    obtain ⟨j, hj, rfl, hD, hR⟩ := hrel
    have hXr := hX.step hD
    have q0 := hXr.cell 0 rfl
    have q1 := hXr.cell 1 rfl
    by_cases hlt : j < m.n
    · have hlt' : (j : Int) < m.n := by omega
      have hDd := hD.drew
      have hXd := hX.step hDd
      have p0 := hXd.cell 0 rfl
      have p1 := hXd.cell 1 rfl
      obtain ⟨_, _, c1⟩ := (hL.out.step hDd).row.row j hlt
      rw [HO.out.zy j hlt] at c1
      have hyj := HO.out.lt j hlt
      obtain ⟨v, hv⟩ : ∃ v, y j = v := ⟨_, rfl⟩
      rw [hv] at c1 hyj
      have t1 := bit_num s j
      have t2 := bit_num s v
      have HP0 : Hid (stR m y s j = (decide (bitN s j + bitN s v = 1) && allB j fun b => stateP m y s j b)) := by show _ = _; rw [← hv]; rfl
      have b1 := bitN_le s j
      have b2 := bitN_le s v
      obtain ⟨P, hP⟩ : ∃ P, bitN s j = P := ⟨_, rfl⟩
      obtain ⟨Q, hQ⟩ : ∃ Q, bitN s v = Q := ⟨_, rfl⟩
      rw [hP] at t1 HP0 b1
      rw [hQ] at t2 HP0 b2
      have S1 : Hid (IntKind.i64.wrap ((P : Int) + (Q : Int)) = (P : Int) + (Q : Int)) := IntWalk.i64_in _ (by omega)
      have HPj := Lib.hid hP
      have hS0 := (show _ ∧ _ ∧ _ from ⟨p0, p1, c1⟩)
      clear p0 p1 c1 hv hP hQ hXd b1 b2
      by_cases heq : P + Q = 1
      · have N2 := Lib.hid heq
        have HP : Hid (stR m y s j = allB j fun b => stateP m y s j b) := by show _ = _; rw [HP0.out, decide_eq_true heq]; rfl
        clear heq HP0
        go_wp2_with fail
        refine region_plain (fuel := 14) (listed := #[false, false, false, false, false, false, false, false, false, false, false, false, false, false]) (fun w' => w'.cell? ⟨w.heap.size, 0, none⟩ = some (.slice (some ⟨l.b, l.o, none⟩) m.n l.cap) ∧ w'.cell? ⟨w.heap.size, 1, none⟩ = some (.slice (some ⟨g, o, none⟩) m.n nc) ∧ w'.cell? ⟨g, o + j, none⟩ = some (.int .i64 (v : Int))) (by kernel_rfl) (by kernel_rfl) (by kernel_rfl) ?_
        refine hold_take (i := 0) (d := 21) (v := ?va0) (listed' := #[true, false, false, false, false, false, false, false, false, false, false, false, false, false]) rfl (by kernel_rfl) (by kernel_rfl) (by kernel_rfl) rfl (by rfl) (by kernel_rfl) hS0 ?ha0 ?ra0
        case ha0 =>
          intro w' hSw
          obtain ⟨k0, k1, k2⟩ := hSw
          go_simp
          try with_reducible rfl
        simp only [List.setIfInBounds_toArray, List.set_cons_zero, List.set_cons_succ]
        refine hold_take (i := 1) (d := 22) (v := ?va1) (listed' := #[true, true, false, false, false, false, false, false, false, false, false, false, false, false]) rfl (by kernel_rfl) (by kernel_rfl) (by kernel_rfl) rfl (by rfl) (by kernel_rfl) hS0 ?ha1 ?ra1
        case ha1 =>
          intro w' hSw
          obtain ⟨k0, k1, k2⟩ := hSw
          go_simp
          try with_reducible rfl
        simp only [List.setIfInBounds_toArray, List.set_cons_zero, List.set_cons_succ]
        refine hold_take (i := 2) (d := 23) (v := ?va2) (listed' := #[true, true, true, false, false, false, false, false, false, false, false, false, false, false]) rfl (by kernel_rfl) (by kernel_rfl) (by kernel_rfl) rfl (by rfl) (by kernel_rfl) hS0 ?ha2 ?ra2
        case ha2 =>
          intro w' hSw
          obtain ⟨k0, k1, k2⟩ := hSw
          go_simp
          try with_reducible rfl
        simp only [List.setIfInBounds_toArray, List.set_cons_zero, List.set_cons_succ]
        refine hold_take (i := 3) (d := 24) (v := ?va3) (listed' := #[true, true, true, true, false, false, false, false, false, false, false, false, false, false]) rfl (by kernel_rfl) (by kernel_rfl) (by kernel_rfl) rfl (by rfl) (by kernel_rfl) hS0 ?ha3 ?ra3
        case ha3 =>
          intro w' hSw
          obtain ⟨k0, k1, k2⟩ := hSw
          go_simp
          try with_reducible rfl
        simp only [List.setIfInBounds_toArray, List.set_cons_zero, List.set_cons_succ]
        refine hold_take (i := 4) (d := 25) (v := ?va4) (listed' := #[true, true, true, true, true, false, false, false, false, false, false, false, false, false]) rfl (by kernel_rfl) (by kernel_rfl) (by kernel_rfl) rfl (by rfl) (by kernel_rfl) hS0 ?ha4 ?ra4
        case ha4 =>
          intro w' hSw
          obtain ⟨k0, k1, k2⟩ := hSw
          go_simp
          try with_reducible rfl
        simp only [List.setIfInBounds_toArray, List.set_cons_zero, List.set_cons_succ]
        refine hold_take (i := 5) (d := 26) (v := ?va5) (listed' := #[true, true, true, true, true, true, false, false, false, false, false, false, false, false]) rfl (by kernel_rfl) (by kernel_rfl) (by kernel_rfl) rfl (by rfl) (by kernel_rfl) hS0 ?ha5 ?ra5
        case ha5 =>
          intro w' hSw
          obtain ⟨k0, k1, k2⟩ := hSw
          go_simp
          try with_reducible rfl
        simp only [List.setIfInBounds_toArray, List.set_cons_zero, List.set_cons_succ]
        refine hold_take (i := 6) (d := 27) (v := ?va6) (listed' := #[true, true, true, true, true, true, true, false, false, false, false, false, false, false]) rfl (by kernel_rfl) (by kernel_rfl) (by kernel_rfl) rfl (by rfl) (by kernel_rfl) hS0 ?ha6 ?ra6
        case ha6 =>
          intro w' hSw
          obtain ⟨k0, k1, k2⟩ := hSw
          go_simp
          try with_reducible rfl
        simp only [List.setIfInBounds_toArray, List.set_cons_zero, List.set_cons_succ]
        refine hold_take (i := 7) (d := 28) (v := ?va7) (listed' := #[true, true, true, true, true, true, true, true, false, false, false, false, false, false]) rfl (by kernel_rfl) (by kernel_rfl) (by kernel_rfl) rfl (by rfl) (by kernel_rfl) hS0 ?ha7 ?ra7
        case ha7 =>
          intro w' hSw
          obtain ⟨k0, k1, k2⟩ := hSw
          go_simp
          try with_reducible rfl
        simp only [List.setIfInBounds_toArray, List.set_cons_zero, List.set_cons_succ]
        refine hold_take (i := 8) (d := 29) (v := ?va8) (listed' := #[true, true, true, true, true, true, true, true, true, false, false, false, false, false]) rfl (by kernel_rfl) (by kernel_rfl) (by kernel_rfl) rfl (by rfl) (by kernel_rfl) hS0 ?ha8 ?ra8
        case ha8 =>
          intro w' hSw
          obtain ⟨k0, k1, k2⟩ := hSw
          go_simp
          try with_reducible rfl
        simp only [List.setIfInBounds_toArray, List.set_cons_zero, List.set_cons_succ]
        refine hold_take (i := 9) (d := 30) (v := ?va9) (listed' := #[true, true, true, true, true, true, true, true, true, true, false, false, false, false]) rfl (by kernel_rfl) (by kernel_rfl) (by kernel_rfl) rfl (by rfl) (by kernel_rfl) hS0 ?ha9 ?ra9
        case ha9 =>
          intro w' hSw
          obtain ⟨k0, k1, k2⟩ := hSw
          go_simp
          try with_reducible rfl
        simp only [List.setIfInBounds_toArray, List.set_cons_zero, List.set_cons_succ]
        refine hold_take (i := 10) (d := 31) (v := ?va10) (listed' := #[true, true, true, true, true, true, true, true, true, true, true, false, false, false]) rfl (by kernel_rfl) (by kernel_rfl) (by kernel_rfl) rfl (by rfl) (by kernel_rfl) hS0 ?ha10 ?ra10
        case ha10 =>
          intro w' hSw
          obtain ⟨k0, k1, k2⟩ := hSw
          go_simp
          try with_reducible rfl
        simp only [List.setIfInBounds_toArray, List.set_cons_zero, List.set_cons_succ]
        refine hold_take (i := 11) (d := 32) (v := ?va11) (listed' := #[true, true, true, true, true, true, true, true, true, true, true, true, false, false]) rfl (by kernel_rfl) (by kernel_rfl) (by kernel_rfl) rfl (by rfl) (by kernel_rfl) hS0 ?ha11 ?ra11
        case ha11 =>
          intro w' hSw
          obtain ⟨k0, k1, k2⟩ := hSw
          go_simp
          try with_reducible rfl
        simp only [List.setIfInBounds_toArray, List.set_cons_zero, List.set_cons_succ]
        refine hold_take (i := 12) (d := 33) (v := .int .i64 ((P : Int) + (Q : Int))) (listed' := #[true, true, true, true, true, true, true, true, true, true, true, true, true, false]) rfl (by kernel_rfl) (by kernel_rfl) (by kernel_rfl) rfl (by rfl) (by kernel_rfl) hS0 ?ha12 ?ra12
        case ha12 =>
          intro w' hSw
          obtain ⟨k0, k1, k2⟩ := hSw
          go_simp
          simp only [S1.out]
        simp only [List.setIfInBounds_toArray, List.set_cons_zero, List.set_cons_succ]
        refine hold_take (i := 13) (d := 34) (v := .bool false) (listed' := #[true, true, true, true, true, true, true, true, true, true, true, true, true, true]) rfl (by kernel_rfl) (by kernel_rfl) (by kernel_rfl) rfl (by rfl) (by kernel_rfl) hS0 ?ha13 ?ra13
        case ha13 =>
          intro w' hSw
          obtain ⟨k0, k1, k2⟩ := hSw
          go_simp
          have h9 := N2.out
          first | omega | (simp; omega)
        simp only [List.setIfInBounds_toArray, List.set_cons_zero, List.set_cons_succ]
        refine hold_done (by kernel_rfl) ?_ _
        go_wp2_with fail
        clear t1 t2 q0 q1 hXr
        clear hS0 S1 HPj N2
        go_loopw [8] (fun i wi => ∃ b : Nat, b ≤ j ∧ i = .int .i64 b ∧ Below W.heap.size W wi ∧ Hid (∀ c, c < b → stateP m y s j c = true)) (fun i _ => j - (intOf i).toNat)
        case atStart => exact ⟨0, Nat.zero_le _, rfl, hDd, fun c hc => absurd hc (Nat.not_lt_zero _)⟩
        case round =>
          obtain ⟨b, hb, rfl, hD2, hT⟩ := hrel
          by_cases hbt : b < j
          · have hbt' : (b : Int) < j := by omega
            have hbn : b < m.n := by omega
            have hbn' : (b : Int) < m.n := by omega
            have hD2d := hD2.drew
            have hXd := hX.step hD2d
            have p0 := hXd.cell 0 rfl
            have p1 := hXd.cell 1 rfl
            have hLd := Lib.hid (hL.out.step hD2d)
            have hmat := Lib.hid hLd.out.mat
            obtain ⟨_, _, c1⟩ := hLd.out.row.row b hbn
            rw [HO.out.zy b hbn] at c1
            have hyb := HO.out.lt b hbn
            obtain ⟨_, c2, c3⟩ := hmat.out.sq HS.out hlt hyb
            have HSP : Hid (stateP m y s j b = (!leB m j (y b) || decide (bitN s j + bitN s b = bitN s (jN m j b)))) := rfl
            have hzc := leB_cases HS.out hlt hyb
            obtain ⟨u, hu⟩ : ∃ u, y b = u := ⟨_, rfl⟩
            rw [hu] at c1 c3 hyb HSP hzc
            have hyb' : (u : Int) < m.n := by omega
            have t1 := bit_num s j
            have t2 := bit_num s b
            have b1 := bitN_le s j
            have b2 := bitN_le s b
            obtain ⟨P, hP⟩ : ∃ P, bitN s j = P := ⟨_, rfl⟩
            obtain ⟨Q, hQ⟩ : ∃ Q, bitN s b = Q := ⟨_, rfl⟩
            obtain ⟨J, hJ⟩ : ∃ J, jN m j b = J := ⟨_, rfl⟩
            have t3 := bit_num s J
            obtain ⟨R, hR'⟩ : ∃ R, bitN s J = R := ⟨_, rfl⟩
            rw [hP] at t1 HSP b1
            rw [hQ] at t2 HSP b2
            rw [hJ, hR'] at HSP
            rw [hR'] at t3
            have HJ := Lib.hid hJ
            have hJn : J < m.n := by rw [← hJ]; exact (HO.out.jG hlt hbn).lt
            have hJ' : (J : Int) < m.n := by omega
            have hJ64 : (J : Int) ≤ 64 := by omega
            have S1 : Hid (IntKind.i64.wrap ((P : Int) + (Q : Int)) = (P : Int) + (Q : Int)) := IntWalk.i64_in _ (by omega)
            clear hu hP hQ hR' hXd b1 b2 hLd hJ
            rcases hzc with ⟨l1, z1⟩ | ⟨l1, z1⟩
            · rw [z1] at c3
              have hS0 := (show _ ∧ _ ∧ _ ∧ _ ∧ _ from ⟨p0, p1, c1, c2, c3⟩)
              clear p0 p1 c1 c2 c3 z1
              by_cases heq : P + Q = R
              · have N2 := Lib.hid heq
                have HQ : Hid (stateP m y s j b = true) := by show _ = _; rw [HSP.out, decide_eq_true heq, Bool.or_true]
                clear heq HSP l1
                go_wp2_with fail
                refine region_plain (fuel := 33) (listed := #[false, false, false, false, false, false, false, false, false, false, false, false, false, false, false, false, false, false, false, false, false, false, false, false, false, false, false, false, false, false, false, false, false]) (fun w' => w'.cell? ⟨w.heap.size, 0, none⟩ = some (.slice (some ⟨l.b, l.o, none⟩) m.n l.cap) ∧ w'.cell? ⟨w.heap.size, 1, none⟩ = some (.slice (some ⟨g, o, none⟩) m.n nc) ∧ w'.cell? ⟨g, o + b, none⟩ = some (.int .i64 (u : Int)) ∧ w'.cell? ⟨l.b, l.o + j, none⟩ = some (.slice (some ⟨l.G j, l.O j, none⟩) m.n (l.C j)) ∧ w'.cell? ⟨l.G j, l.O j + u, none⟩ = some (.int .i64 1)) (by kernel_rfl) (by kernel_rfl) (by kernel_rfl) ?_
                refine hold_take (i := 0) (d := 40) (v := ?vb0) (listed' := #[true, false, false, false, false, false, false, false, false, false, false, false, false, false, false, false, false, false, false, false, false, false, false, false, false, false, false, false, false, false, false, false, false]) rfl (by kernel_rfl) (by kernel_rfl) (by kernel_rfl) rfl (by rfl) (by kernel_rfl) hS0 ?hb0 ?rb0
                case hb0 =>
                  intro w' hSw
                  obtain ⟨k0, k1, k2, k3, k4⟩ := hSw
                  go_simp
                  try with_reducible rfl
                simp only [List.setIfInBounds_toArray, List.set_cons_zero, List.set_cons_succ]
                refine hold_take (i := 1) (d := 41) (v := ?vb1) (listed' := #[true, true, false, false, false, false, false, false, false, false, false, false, false, false, false, false, false, false, false, false, false, false, false, false, false, false, false, false, false, false, false, false, false]) rfl (by kernel_rfl) (by kernel_rfl) (by kernel_rfl) rfl (by rfl) (by kernel_rfl) hS0 ?hb1 ?rb1
                case hb1 =>
                  intro w' hSw
                  obtain ⟨k0, k1, k2, k3, k4⟩ := hSw
                  go_simp
                  try with_reducible rfl
                simp only [List.setIfInBounds_toArray, List.set_cons_zero, List.set_cons_succ]
                refine hold_take (i := 2) (d := 42) (v := ?vb2) (listed' := #[true, true, true, false, false, false, false, false, false, false, false, false, false, false, false, false, false, false, false, false, false, false, false, false, false, false, false, false, false, false, false, false, false]) rfl (by kernel_rfl) (by kernel_rfl) (by kernel_rfl) rfl (by rfl) (by kernel_rfl) hS0 ?hb2 ?rb2
                case hb2 =>
                  intro w' hSw
                  obtain ⟨k0, k1, k2, k3, k4⟩ := hSw
                  go_simp
                  try with_reducible rfl
                simp only [List.setIfInBounds_toArray, List.set_cons_zero, List.set_cons_succ]
                refine hold_take (i := 3) (d := 43) (v := ?vb3) (listed' := #[true, true, true, true, false, false, false, false, false, false, false, false, false, false, false, false, false, false, false, false, false, false, false, false, false, false, false, false, false, false, false, false, false]) rfl (by kernel_rfl) (by kernel_rfl) (by kernel_rfl) rfl (by rfl) (by kernel_rfl) hS0 ?hb3 ?rb3
                case hb3 =>
                  intro w' hSw
                  obtain ⟨k0, k1, k2, k3, k4⟩ := hSw
                  go_simp
                  try with_reducible rfl
                simp only [List.setIfInBounds_toArray, List.set_cons_zero, List.set_cons_succ]
                refine hold_take (i := 4) (d := 44) (v := ?vb4) (listed' := #[true, true, true, true, true, false, false, false, false, false, false, false, false, false, false, false, false, false, false, false, false, false, false, false, false, false, false, false, false, false, false, false, false]) rfl (by kernel_rfl) (by kernel_rfl) (by kernel_rfl) rfl (by rfl) (by kernel_rfl) hS0 ?hb4 ?rb4
                case hb4 =>
                  intro w' hSw
                  obtain ⟨k0, k1, k2, k3, k4⟩ := hSw
                  go_simp
                  try with_reducible rfl
                simp only [List.setIfInBounds_toArray, List.set_cons_zero, List.set_cons_succ]
                refine hold_take (i := 5) (d := 45) (v := ?vb5) (listed' := #[true, true, true, true, true, true, false, false, false, false, false, false, false, false, false, false, false, false, false, false, false, false, false, false, false, false, false, false, false, false, false, false, false]) rfl (by kernel_rfl) (by kernel_rfl) (by kernel_rfl) rfl (by rfl) (by kernel_rfl) hS0 ?hb5 ?rb5
                case hb5 =>
                  intro w' hSw
                  obtain ⟨k0, k1, k2, k3, k4⟩ := hSw
                  go_simp
                  try with_reducible rfl
                simp only [List.setIfInBounds_toArray, List.set_cons_zero, List.set_cons_succ]
                refine hold_take (i := 6) (d := 46) (v := ?vb6) (listed' := #[true, true, true, true, true, true, true, false, false, false, false, false, false, false, false, false, false, false, false, false, false, false, false, false, false, false, false, false, false, false, false, false, false]) rfl (by kernel_rfl) (by kernel_rfl) (by kernel_rfl) rfl (by rfl) (by kernel_rfl) hS0 ?hb6 ?rb6
                case hb6 =>
                  intro w' hSw
                  obtain ⟨k0, k1, k2, k3, k4⟩ := hSw
                  go_simp
                  try with_reducible rfl
                simp only [List.setIfInBounds_toArray, List.set_cons_zero, List.set_cons_succ]
                refine hold_take (i := 7) (d := 47) (v := ?vb7) (listed' := #[true, true, true, true, true, true, true, true, false, false, false, false, false, false, false, false, false, false, false, false, false, false, false, false, false, false, false, false, false, false, false, false, false]) rfl (by kernel_rfl) (by kernel_rfl) (by kernel_rfl) rfl (by rfl) (by kernel_rfl) hS0 ?hb7 ?rb7
                case hb7 =>
                  intro w' hSw
                  obtain ⟨k0, k1, k2, k3, k4⟩ := hSw
                  go_simp
                  try with_reducible rfl
                simp only [List.setIfInBounds_toArray, List.set_cons_zero, List.set_cons_succ]
                refine hold_take (i := 8) (d := 48) (v := ?vb8) (listed' := #[true, true, true, true, true, true, true, true, true, false, false, false, false, false, false, false, false, false, false, false, false, false, false, false, false, false, false, false, false, false, false, false, false]) rfl (by kernel_rfl) (by kernel_rfl) (by kernel_rfl) rfl (by rfl) (by kernel_rfl) hS0 ?hb8 ?rb8
                case hb8 =>
                  intro w' hSw
                  obtain ⟨k0, k1, k2, k3, k4⟩ := hSw
                  go_simp
                  try with_reducible rfl
                simp only [List.setIfInBounds_toArray, List.set_cons_zero, List.set_cons_succ]
                refine hold_take (i := 9) (d := 49) (v := ?vb9) (listed' := #[true, true, true, true, true, true, true, true, true, true, false, false, false, false, false, false, false, false, false, false, false, false, false, false, false, false, false, false, false, false, false, false, false]) rfl (by kernel_rfl) (by kernel_rfl) (by kernel_rfl) rfl (by rfl) (by kernel_rfl) hS0 ?hb9 ?rb9
                case hb9 =>
                  intro w' hSw
                  obtain ⟨k0, k1, k2, k3, k4⟩ := hSw
                  go_simp
                  try with_reducible rfl
                simp only [List.setIfInBounds_toArray, List.set_cons_zero, List.set_cons_succ]
                refine hold_take (i := 10) (d := 50) (v := ?vb10) (listed' := #[true, true, true, true, true, true, true, true, true, true, true, false, false, false, false, false, false, false, false, false, false, false, false, false, false, false, false, false, false, false, false, false, false]) rfl (by kernel_rfl) (by kernel_rfl) (by kernel_rfl) rfl (by rfl) (by kernel_rfl) hS0 ?hb10 ?rb10
                case hb10 =>
                  intro w' hSw
                  obtain ⟨k0, k1, k2, k3, k4⟩ := hSw
                  go_simp
                  try with_reducible rfl
                simp only [List.setIfInBounds_toArray, List.set_cons_zero, List.set_cons_succ]
                refine hold_take (i := 11) (d := 51) (v := ?vb11) (listed' := #[true, true, true, true, true, true, true, true, true, true, true, true, false, false, false, false, false, false, false, false, false, false, false, false, false, false, false, false, false, false, false, false, false]) rfl (by kernel_rfl) (by kernel_rfl) (by kernel_rfl) rfl (by rfl) (by kernel_rfl) hS0 ?hb11 ?rb11
                case hb11 =>
                  intro w' hSw
                  obtain ⟨k0, k1, k2, k3, k4⟩ := hSw
                  go_simp
                  try with_reducible rfl
                simp only [List.setIfInBounds_toArray, List.set_cons_zero, List.set_cons_succ]
                refine hold_take (i := 12) (d := 52) (v := ?vb12) (listed' := #[true, true, true, true, true, true, true, true, true, true, true, true, true, false, false, false, false, false, false, false, false, false, false, false, false, false, false, false, false, false, false, false, false]) rfl (by kernel_rfl) (by kernel_rfl) (by kernel_rfl) rfl (by rfl) (by kernel_rfl) hS0 ?hb12 ?rb12
                case hb12 =>
                  intro w' hSw
                  obtain ⟨k0, k1, k2, k3, k4⟩ := hSw
                  go_simp
                  try with_reducible rfl
                simp only [List.setIfInBounds_toArray, List.set_cons_zero, List.set_cons_succ]
                refine hold_take (i := 13) (d := 53) (v := ?vb13) (listed' := #[true, true, true, true, true, true, true, true, true, true, true, true, true, true, false, false, false, false, false, false, false, false, false, false, false, false, false, false, false, false, false, false, false]) rfl (by kernel_rfl) (by kernel_rfl) (by kernel_rfl) rfl (by rfl) (by kernel_rfl) hS0 ?hb13 ?rb13
                case hb13 =>
                  intro w' hSw
                  obtain ⟨k0, k1, k2, k3, k4⟩ := hSw
                  go_simp
                  try with_reducible rfl
                simp only [List.setIfInBounds_toArray, List.set_cons_zero, List.set_cons_succ]
                refine hold_take (i := 14) (d := 54) (v := ?vb14) (listed' := #[true, true, true, true, true, true, true, true, true, true, true, true, true, true, true, false, false, false, false, false, false, false, false, false, false, false, false, false, false, false, false, false, false]) rfl (by kernel_rfl) (by kernel_rfl) (by kernel_rfl) rfl (by rfl) (by kernel_rfl) hS0 ?hb14 ?rb14
                case hb14 =>
                  intro w' hSw
                  obtain ⟨k0, k1, k2, k3, k4⟩ := hSw
                  go_simp
                  try with_reducible rfl
                simp only [List.setIfInBounds_toArray, List.set_cons_zero, List.set_cons_succ]
                refine hold_take (i := 15) (d := 55) (v := ?vb15) (listed' := #[true, true, true, true, true, true, true, true, true, true, true, true, true, true, true, true, false, false, false, false, false, false, false, false, false, false, false, false, false, false, false, false, false]) rfl (by kernel_rfl) (by kernel_rfl) (by kernel_rfl) rfl (by rfl) (by kernel_rfl) hS0 ?hb15 ?rb15
                case hb15 =>
                  intro w' hSw
                  obtain ⟨k0, k1, k2, k3, k4⟩ := hSw
                  go_simp
                  try with_reducible rfl
                simp only [List.setIfInBounds_toArray, List.set_cons_zero, List.set_cons_succ]
                refine hold_take (i := 16) (d := 56) (v := ?vb16) (listed' := #[true, true, true, true, true, true, true, true, true, true, true, true, true, true, true, true, true, false, false, false, false, false, false, false, false, false, false, false, false, false, false, false, false]) rfl (by kernel_rfl) (by kernel_rfl) (by kernel_rfl) rfl (by rfl) (by kernel_rfl) hS0 ?hb16 ?rb16
                case hb16 =>
                  intro w' hSw
                  obtain ⟨k0, k1, k2, k3, k4⟩ := hSw
                  go_simp
                  try with_reducible rfl
                simp only [List.setIfInBounds_toArray, List.set_cons_zero, List.set_cons_succ]
                refine hold_take (i := 17) (d := 57) (v := ?vb17) (listed' := #[true, true, true, true, true, true, true, true, true, true, true, true, true, true, true, true, true, true, false, false, false, false, false, false, false, false, false, false, false, false, false, false, false]) rfl (by kernel_rfl) (by kernel_rfl) (by kernel_rfl) rfl (by rfl) (by kernel_rfl) hS0 ?hb17 ?rb17
                case hb17 =>
                  intro w' hSw
                  obtain ⟨k0, k1, k2, k3, k4⟩ := hSw
                  go_simp
                  try with_reducible rfl
                simp only [List.setIfInBounds_toArray, List.set_cons_zero, List.set_cons_succ]
                refine hold_take (i := 18) (d := 58) (v := ?vb18) (listed' := #[true, true, true, true, true, true, true, true, true, true, true, true, true, true, true, true, true, true, true, false, false, false, false, false, false, false, false, false, false, false, false, false, false]) rfl (by kernel_rfl) (by kernel_rfl) (by kernel_rfl) rfl (by rfl) (by kernel_rfl) hS0 ?hb18 ?rb18
                case hb18 =>
                  intro w' hSw
                  obtain ⟨k0, k1, k2, k3, k4⟩ := hSw
                  go_simp
                  try with_reducible rfl
                simp only [List.setIfInBounds_toArray, List.set_cons_zero, List.set_cons_succ]
                refine hold_take (i := 19) (d := 59) (v := ?vb19) (listed' := #[true, true, true, true, true, true, true, true, true, true, true, true, true, true, true, true, true, true, true, true, false, false, false, false, false, false, false, false, false, false, false, false, false]) rfl (by kernel_rfl) (by kernel_rfl) (by kernel_rfl) rfl (by rfl) (by kernel_rfl) hS0 ?hb19 ?rb19
                case hb19 =>
                  intro w' hSw
                  obtain ⟨k0, k1, k2, k3, k4⟩ := hSw
                  go_simp
                  try with_reducible rfl
                simp only [List.setIfInBounds_toArray, List.set_cons_zero, List.set_cons_succ]
                refine hold_take (i := 20) (d := 60) (v := ?vb20) (listed' := #[true, true, true, true, true, true, true, true, true, true, true, true, true, true, true, true, true, true, true, true, true, false, false, false, false, false, false, false, false, false, false, false, false]) rfl (by kernel_rfl) (by kernel_rfl) (by kernel_rfl) rfl (by rfl) (by kernel_rfl) hS0 ?hb20 ?rb20
                case hb20 =>
                  intro w' hSw
                  obtain ⟨k0, k1, k2, k3, k4⟩ := hSw
                  go_simp
                  try with_reducible rfl
                simp only [List.setIfInBounds_toArray, List.set_cons_zero, List.set_cons_succ]
                refine hold_take (i := 21) (d := 61) (v := ?vb21) (listed' := #[true, true, true, true, true, true, true, true, true, true, true, true, true, true, true, true, true, true, true, true, true, true, false, false, false, false, false, false, false, false, false, false, false]) rfl (by kernel_rfl) (by kernel_rfl) (by kernel_rfl) rfl (by rfl) (by kernel_rfl) hS0 ?hb21 ?rb21
                case hb21 =>
                  intro w' hSw
                  obtain ⟨k0, k1, k2, k3, k4⟩ := hSw
                  go_simp
                  try with_reducible rfl
                simp only [List.setIfInBounds_toArray, List.set_cons_zero, List.set_cons_succ]
                refine hold_take (i := 22) (d := 62) (v := .int .i64 ((P : Int) + (Q : Int))) (listed' := #[true, true, true, true, true, true, true, true, true, true, true, true, true, true, true, true, true, true, true, true, true, true, true, false, false, false, false, false, false, false, false, false, false]) rfl (by kernel_rfl) (by kernel_rfl) (by kernel_rfl) rfl (by rfl) (by kernel_rfl) hS0 ?hb22 ?rb22
                case hb22 =>
                  intro w' hSw
                  obtain ⟨k0, k1, k2, k3, k4⟩ := hSw
                  go_simp
                  simp only [S1.out]
                simp only [List.setIfInBounds_toArray, List.set_cons_zero, List.set_cons_succ]
                refine hold_take (i := 23) (d := 63) (v := ?vb23) (listed' := #[true, true, true, true, true, true, true, true, true, true, true, true, true, true, true, true, true, true, true, true, true, true, true, true, false, false, false, false, false, false, false, false, false]) rfl (by kernel_rfl) (by kernel_rfl) (by kernel_rfl) rfl (by rfl) (by kernel_rfl) hS0 ?hb23 ?rb23
                case hb23 =>
                  intro w' hSw
                  obtain ⟨k0, k1, k2, k3, k4⟩ := hSw
                  go_simp
                  try with_reducible rfl
                simp only [List.setIfInBounds_toArray, List.set_cons_zero, List.set_cons_succ]
                refine hold_take (i := 24) (d := 64) (v := ?vb24) (listed' := #[true, true, true, true, true, true, true, true, true, true, true, true, true, true, true, true, true, true, true, true, true, true, true, true, true, false, false, false, false, false, false, false, false]) rfl (by kernel_rfl) (by kernel_rfl) (by kernel_rfl) rfl (by rfl) (by kernel_rfl) hS0 ?hb24 ?rb24
                case hb24 =>
                  intro w' hSw
                  obtain ⟨k0, k1, k2, k3, k4⟩ := hSw
                  go_simp
                  try with_reducible rfl
                simp only [List.setIfInBounds_toArray, List.set_cons_zero, List.set_cons_succ]
                refine hold_take (i := 25) (d := 65) (v := ?vb25) (listed' := #[true, true, true, true, true, true, true, true, true, true, true, true, true, true, true, true, true, true, true, true, true, true, true, true, true, true, false, false, false, false, false, false, false]) rfl (by kernel_rfl) (by kernel_rfl) (by kernel_rfl) rfl (by rfl) (by kernel_rfl) hS0 ?hb25 ?rb25
                case hb25 =>
                  intro w' hSw
                  obtain ⟨k0, k1, k2, k3, k4⟩ := hSw
                  go_simp
                  try with_reducible rfl
                simp only [List.setIfInBounds_toArray, List.set_cons_zero, List.set_cons_succ]
                refine hold_take (i := 26) (d := 66) (v := ?vb26) (listed' := #[true, true, true, true, true, true, true, true, true, true, true, true, true, true, true, true, true, true, true, true, true, true, true, true, true, true, true, false, false, false, false, false, false]) rfl (by kernel_rfl) (by kernel_rfl) (by kernel_rfl) rfl (by rfl) (by kernel_rfl) hS0 ?hb26 ?rb26
                case hb26 =>
                  intro w' hSw
                  obtain ⟨k0, k1, k2, k3, k4⟩ := hSw
                  go_simp
                  try with_reducible rfl
                simp only [List.setIfInBounds_toArray, List.set_cons_zero, List.set_cons_succ]
                refine hold_take (i := 27) (d := 67) (v := ?vb27) (listed' := #[true, true, true, true, true, true, true, true, true, true, true, true, true, true, true, true, true, true, true, true, true, true, true, true, true, true, true, true, false, false, false, false, false]) rfl (by kernel_rfl) (by kernel_rfl) (by kernel_rfl) rfl (by rfl) (by kernel_rfl) hS0 ?hb27 ?rb27
                case hb27 =>
                  intro w' hSw
                  obtain ⟨k0, k1, k2, k3, k4⟩ := hSw
                  go_simp
                  try with_reducible rfl
                simp only [List.setIfInBounds_toArray, List.set_cons_zero, List.set_cons_succ]
                refine hold_call (i := 28) (d := 68) (listed' := #[true, true, true, true, true, true, true, true, true, true, true, true, true, true, true, true, true, true, true, true, true, true, true, true, true, true, true, true, true, false, false, false, false]) rfl (by kernel_rfl) rfl (by rfl) (by kernel_rfl) ?heb28 (joinW8 hmat.out HO.out hlt hbn) ?hcb28
                case heb28 => go_simp
                rintro e xq ⟨rfl, hx⟩
                subst hx
                rw [HJ.out]
                refine ⟨_, rfl, hS0, ?_⟩
                simp only [List.setIfInBounds_toArray, List.set_cons_zero, List.set_cons_succ]
                refine hold_take (i := 29) (d := 69) (v := ?vb29) (listed' := #[true, true, true, true, true, true, true, true, true, true, true, true, true, true, true, true, true, true, true, true, true, true, true, true, true, true, true, true, true, true, false, false, false]) rfl (by kernel_rfl) (by kernel_rfl) (by kernel_rfl) rfl (by rfl) (by kernel_rfl) hS0 ?hb29 ?rb29
                case hb29 =>
                  intro w' hSw
                  obtain ⟨k0, k1, k2, k3, k4⟩ := hSw
                  go_simp
                  try with_reducible rfl
                simp only [List.setIfInBounds_toArray, List.set_cons_zero, List.set_cons_succ]
                refine hold_take (i := 30) (d := 70) (v := ?vb30) (listed' := #[true, true, true, true, true, true, true, true, true, true, true, true, true, true, true, true, true, true, true, true, true, true, true, true, true, true, true, true, true, true, true, false, false]) rfl (by kernel_rfl) (by kernel_rfl) (by kernel_rfl) rfl (by rfl) (by kernel_rfl) hS0 ?hb30 ?rb30
                case hb30 =>
                  intro w' hSw
                  obtain ⟨k0, k1, k2, k3, k4⟩ := hSw
                  go_simp
                  try with_reducible rfl
                simp only [List.setIfInBounds_toArray, List.set_cons_zero, List.set_cons_succ]
                refine hold_take (i := 31) (d := 71) (v := .bool false) (listed' := #[true, true, true, true, true, true, true, true, true, true, true, true, true, true, true, true, true, true, true, true, true, true, true, true, true, true, true, true, true, true, true, true, false]) rfl (by kernel_rfl) (by kernel_rfl) (by kernel_rfl) rfl (by rfl) (by kernel_rfl) hS0 ?hb31 ?rb31
                case hb31 =>
                  intro w' hSw
                  obtain ⟨k0, k1, k2, k3, k4⟩ := hSw
                  go_simp
                  have h9 := N2.out
                  first | omega | (simp; omega)
                simp only [List.setIfInBounds_toArray, List.set_cons_zero, List.set_cons_succ]
                refine hold_take (i := 32) (d := 72) (v := ?vb32) (listed' := #[true, true, true, true, true, true, true, true, true, true, true, true, true, true, true, true, true, true, true, true, true, true, true, true, true, true, true, true, true, true, true, true, true]) rfl (by kernel_rfl) (by kernel_rfl) (by kernel_rfl) rfl (by rfl) (by kernel_rfl) hS0 ?hb32 ?rb32
                case hb32 =>
                  intro w' hSw
                  obtain ⟨k0, k1, k2, k3, k4⟩ := hSw
                  go_simp
                  try with_reducible rfl
                simp only [List.setIfInBounds_toArray, List.set_cons_zero, List.set_cons_succ]
                refine hold_done (by kernel_rfl) ?_ _
                go_wp2_with fail
                go_roundw
                case rel => exact ⟨b + 1, by omega, by go_num, hD2d, fun c hc => by
                  by_cases e : c = b
                  · subst e; exact HQ.out
                  · exact hT.out c (by omega)⟩
                case measure => simp [intOf]; omega
              · have N2 : Hid (¬ P + Q = R) := heq
                have HQ : Hid (stateP m y s j b = false) := by show _ = _; rw [HSP.out, l1, decide_eq_false heq]; rfl
                have HF : Hid (false = stateB m y o' s) := by
                  show _ = _
                  rw [HV.out]
                  exact (allB_false hlt (by rw [HP.out]; exact allB_false hbt HQ.out)).symm
                clear heq HSP l1
                go_wp2_with fail
                refine region_plain (fuel := 33) (listed := #[false, false, false, false, false, false, false, false, false, false, false, false, false, false, false, false, false, false, false, false, false, false, false, false, false, false, false, false, false, false, false, false, false]) (fun w' => w'.cell? ⟨w.heap.size, 0, none⟩ = some (.slice (some ⟨l.b, l.o, none⟩) m.n l.cap) ∧ w'.cell? ⟨w.heap.size, 1, none⟩ = some (.slice (some ⟨g, o, none⟩) m.n nc) ∧ w'.cell? ⟨g, o + b, none⟩ = some (.int .i64 (u : Int)) ∧ w'.cell? ⟨l.b, l.o + j, none⟩ = some (.slice (some ⟨l.G j, l.O j, none⟩) m.n (l.C j)) ∧ w'.cell? ⟨l.G j, l.O j + u, none⟩ = some (.int .i64 1)) (by kernel_rfl) (by kernel_rfl) (by kernel_rfl) ?_
                refine hold_take (i := 0) (d := 40) (v := ?vc0) (listed' := #[true, false, false, false, false, false, false, false, false, false, false, false, false, false, false, false, false, false, false, false, false, false, false, false, false, false, false, false, false, false, false, false, false]) rfl (by kernel_rfl) (by kernel_rfl) (by kernel_rfl) rfl (by rfl) (by kernel_rfl) hS0 ?hc0 ?rc0
                case hc0 =>
                  intro w' hSw
                  obtain ⟨k0, k1, k2, k3, k4⟩ := hSw
                  go_simp
                  try with_reducible rfl
                simp only [List.setIfInBounds_toArray, List.set_cons_zero, List.set_cons_succ]
                refine hold_take (i := 1) (d := 41) (v := ?vc1) (listed' := #[true, true, false, false, false, false, false, false, false, false, false, false, false, false, false, false, false, false, false, false, false, false, false, false, false, false, false, false, false, false, false, false, false]) rfl (by kernel_rfl) (by kernel_rfl) (by kernel_rfl) rfl (by rfl) (by kernel_rfl) hS0 ?hc1 ?rc1
                case hc1 =>
                  intro w' hSw
                  obtain ⟨k0, k1, k2, k3, k4⟩ := hSw
                  go_simp
                  try with_reducible rfl
                simp only [List.setIfInBounds_toArray, List.set_cons_zero, List.set_cons_succ]
                refine hold_take (i := 2) (d := 42) (v := ?vc2) (listed' := #[true, true, true, false, false, false, false, false, false, false, false, false, false, false, false, false, false, false, false, false, false, false, false, false, false, false, false, false, false, false, false, false, false]) rfl (by kernel_rfl) (by kernel_rfl) (by kernel_rfl) rfl (by rfl) (by kernel_rfl) hS0 ?hc2 ?rc2
                case hc2 =>
                  intro w' hSw
                  obtain ⟨k0, k1, k2, k3, k4⟩ := hSw
                  go_simp
                  try with_reducible rfl
                simp only [List.setIfInBounds_toArray, List.set_cons_zero, List.set_cons_succ]
                refine hold_take (i := 3) (d := 43) (v := ?vc3) (listed' := #[true, true, true, true, false, false, false, false, false, false, false, false, false, false, false, false, false, false, false, false, false, false, false, false, false, false, false, false, false, false, false, false, false]) rfl (by kernel_rfl) (by kernel_rfl) (by kernel_rfl) rfl (by rfl) (by kernel_rfl) hS0 ?hc3 ?rc3
                case hc3 =>
                  intro w' hSw
                  obtain ⟨k0, k1, k2, k3, k4⟩ := hSw
                  go_simp
                  try with_reducible rfl
                simp only [List.setIfInBounds_toArray, List.set_cons_zero, List.set_cons_succ]
                refine hold_take (i := 4) (d := 44) (v := ?vc4) (listed' := #[true, true, true, true, true, false, false, false, false, false, false, false, false, false, false, false, false, false, false, false, false, false, false, false, false, false, false, false, false, false, false, false, false]) rfl (by kernel_rfl) (by kernel_rfl) (by kernel_rfl) rfl (by rfl) (by kernel_rfl) hS0 ?hc4 ?rc4
                case hc4 =>
                  intro w' hSw
                  obtain ⟨k0, k1, k2, k3, k4⟩ := hSw
                  go_simp
                  try with_reducible rfl
                simp only [List.setIfInBounds_toArray, List.set_cons_zero, List.set_cons_succ]
                refine hold_take (i := 5) (d := 45) (v := ?vc5) (listed' := #[true, true, true, true, true, true, false, false, false, false, false, false, false, false, false, false, false, false, false, false, false, false, false, false, false, false, false, false, false, false, false, false, false]) rfl (by kernel_rfl) (by kernel_rfl) (by kernel_rfl) rfl (by rfl) (by kernel_rfl) hS0 ?hc5 ?rc5
                case hc5 =>
                  intro w' hSw
                  obtain ⟨k0, k1, k2, k3, k4⟩ := hSw
                  go_simp
                  try with_reducible rfl
                simp only [List.setIfInBounds_toArray, List.set_cons_zero, List.set_cons_succ]
                refine hold_take (i := 6) (d := 46) (v := ?vc6) (listed' := #[true, true, true, true, true, true, true, false, false, false, false, false, false, false, false, false, false, false, false, false, false, false, false, false, false, false, false, false, false, false, false, false, false]) rfl (by kernel_rfl) (by kernel_rfl) (by kernel_rfl) rfl (by rfl) (by kernel_rfl) hS0 ?hc6 ?rc6
                case hc6 =>
                  intro w' hSw
                  obtain ⟨k0, k1, k2, k3, k4⟩ := hSw
                  go_simp
                  try with_reducible rfl
                simp only [List.setIfInBounds_toArray, List.set_cons_zero, List.set_cons_succ]
                refine hold_take (i := 7) (d := 47) (v := ?vc7) (listed' := #[true, true, true, true, true, true, true, true, false, false, false, false, false, false, false, false, false, false, false, false, false, false, false, false, false, false, false, false, false, false, false, false, false]) rfl (by kernel_rfl) (by kernel_rfl) (by kernel_rfl) rfl (by rfl) (by kernel_rfl) hS0 ?hc7 ?rc7
                case hc7 =>
                  intro w' hSw
                  obtain ⟨k0, k1, k2, k3, k4⟩ := hSw
                  go_simp
                  try with_reducible rfl
                simp only [List.setIfInBounds_toArray, List.set_cons_zero, List.set_cons_succ]
                refine hold_take (i := 8) (d := 48) (v := ?vc8) (listed' := #[true, true, true, true, true, true, true, true, true, false, false, false, false, false, false, false, false, false, false, false, false, false, false, false, false, false, false, false, false, false, false, false, false]) rfl (by kernel_rfl) (by kernel_rfl) (by kernel_rfl) rfl (by rfl) (by kernel_rfl) hS0 ?hc8 ?rc8
                case hc8 =>
                  intro w' hSw
                  obtain ⟨k0, k1, k2, k3, k4⟩ := hSw
                  go_simp
                  try with_reducible rfl
                simp only [List.setIfInBounds_toArray, List.set_cons_zero, List.set_cons_succ]
                refine hold_take (i := 9) (d := 49) (v := ?vc9) (listed' := #[true, true, true, true, true, true, true, true, true, true, false, false, false, false, false, false, false, false, false, false, false, false, false, false, false, false, false, false, false, false, false, false, false]) rfl (by kernel_rfl) (by kernel_rfl) (by kernel_rfl) rfl (by rfl) (by kernel_rfl) hS0 ?hc9 ?rc9
                case hc9 =>
                  intro w' hSw
                  obtain ⟨k0, k1, k2, k3, k4⟩ := hSw
                  go_simp
                  try with_reducible rfl
                simp only [List.setIfInBounds_toArray, List.set_cons_zero, List.set_cons_succ]
                refine hold_take (i := 10) (d := 50) (v := ?vc10) (listed' := #[true, true, true, true, true, true, true, true, true, true, true, false, false, false, false, false, false, false, false, false, false, false, false, false, false, false, false, false, false, false, false, false, false]) rfl (by kernel_rfl) (by kernel_rfl) (by kernel_rfl) rfl (by rfl) (by kernel_rfl) hS0 ?hc10 ?rc10
                case hc10 =>
                  intro w' hSw
                  obtain ⟨k0, k1, k2, k3, k4⟩ := hSw
                  go_simp
                  try with_reducible rfl
                simp only [List.setIfInBounds_toArray, List.set_cons_zero, List.set_cons_succ]
                refine hold_take (i := 11) (d := 51) (v := ?vc11) (listed' := #[true, true, true, true, true, true, true, true, true, true, true, true, false, false, false, false, false, false, false, false, false, false, false, false, false, false, false, false, false, false, false, false, false]) rfl (by kernel_rfl) (by kernel_rfl) (by kernel_rfl) rfl (by rfl) (by kernel_rfl) hS0 ?hc11 ?rc11
                case hc11 =>
                  intro w' hSw
                  obtain ⟨k0, k1, k2, k3, k4⟩ := hSw
                  go_simp
                  try with_reducible rfl
                simp only [List.setIfInBounds_toArray, List.set_cons_zero, List.set_cons_succ]
                refine hold_take (i := 12) (d := 52) (v := ?vc12) (listed' := #[true, true, true, true, true, true, true, true, true, true, true, true, true, false, false, false, false, false, false, false, false, false, false, false, false, false, false, false, false, false, false, false, false]) rfl (by kernel_rfl) (by kernel_rfl) (by kernel_rfl) rfl (by rfl) (by kernel_rfl) hS0 ?hc12 ?rc12
                case hc12 =>
                  intro w' hSw
                  obtain ⟨k0, k1, k2, k3, k4⟩ := hSw
                  go_simp
                  try with_reducible rfl
                simp only [List.setIfInBounds_toArray, List.set_cons_zero, List.set_cons_succ]
                refine hold_take (i := 13) (d := 53) (v := ?vc13) (listed' := #[true, true, true, true, true, true, true, true, true, true, true, true, true, true, false, false, false, false, false, false, false, false, false, false, false, false, false, false, false, false, false, false, false]) rfl (by kernel_rfl) (by kernel_rfl) (by kernel_rfl) rfl (by rfl) (by kernel_rfl) hS0 ?hc13 ?rc13
                case hc13 =>
                  intro w' hSw
                  obtain ⟨k0, k1, k2, k3, k4⟩ := hSw
                  go_simp
                  try with_reducible rfl
                simp only [List.setIfInBounds_toArray, List.set_cons_zero, List.set_cons_succ]
                refine hold_take (i := 14) (d := 54) (v := ?vc14) (listed' := #[true, true, true, true, true, true, true, true, true, true, true, true, true, true, true, false, false, false, false, false, false, false, false, false, false, false, false, false, false, false, false, false, false]) rfl (by kernel_rfl) (by kernel_rfl) (by kernel_rfl) rfl (by rfl) (by kernel_rfl) hS0 ?hc14 ?rc14
                case hc14 =>
                  intro w' hSw
                  obtain ⟨k0, k1, k2, k3, k4⟩ := hSw
                  go_simp
                  try with_reducible rfl
                simp only [List.setIfInBounds_toArray, List.set_cons_zero, List.set_cons_succ]
                refine hold_take (i := 15) (d := 55) (v := ?vc15) (listed' := #[true, true, true, true, true, true, true, true, true, true, true, true, true, true, true, true, false, false, false, false, false, false, false, false, false, false, false, false, false, false, false, false, false]) rfl (by kernel_rfl) (by kernel_rfl) (by kernel_rfl) rfl (by rfl) (by kernel_rfl) hS0 ?hc15 ?rc15
                case hc15 =>
                  intro w' hSw
                  obtain ⟨k0, k1, k2, k3, k4⟩ := hSw
                  go_simp
                  try with_reducible rfl
                simp only [List.setIfInBounds_toArray, List.set_cons_zero, List.set_cons_succ]
                refine hold_take (i := 16) (d := 56) (v := ?vc16) (listed' := #[true, true, true, true, true, true, true, true, true, true, true, true, true, true, true, true, true, false, false, false, false, false, false, false, false, false, false, false, false, false, false, false, false]) rfl (by kernel_rfl) (by kernel_rfl) (by kernel_rfl) rfl (by rfl) (by kernel_rfl) hS0 ?hc16 ?rc16
                case hc16 =>
                  intro w' hSw
                  obtain ⟨k0, k1, k2, k3, k4⟩ := hSw
                  go_simp
                  try with_reducible rfl
                simp only [List.setIfInBounds_toArray, List.set_cons_zero, List.set_cons_succ]
                refine hold_take (i := 17) (d := 57) (v := ?vc17) (listed' := #[true, true, true, true, true, true, true, true, true, true, true, true, true, true, true, true, true, true, false, false, false, false, false, false, false, false, false, false, false, false, false, false, false]) rfl (by kernel_rfl) (by kernel_rfl) (by kernel_rfl) rfl (by rfl) (by kernel_rfl) hS0 ?hc17 ?rc17
                case hc17 =>
                  intro w' hSw
                  obtain ⟨k0, k1, k2, k3, k4⟩ := hSw
                  go_simp
                  try with_reducible rfl
                simp only [List.setIfInBounds_toArray, List.set_cons_zero, List.set_cons_succ]
                refine hold_take (i := 18) (d := 58) (v := ?vc18) (listed' := #[true, true, true, true, true, true, true, true, true, true, true, true, true, true, true, true, true, true, true, false, false, false, false, false, false, false, false, false, false, false, false, false, false]) rfl (by kernel_rfl) (by kernel_rfl) (by kernel_rfl) rfl (by rfl) (by kernel_rfl) hS0 ?hc18 ?rc18
                case hc18 =>
                  intro w' hSw
                  obtain ⟨k0, k1, k2, k3, k4⟩ := hSw
                  go_simp
                  try with_reducible rfl
                simp only [List.setIfInBounds_toArray, List.set_cons_zero, List.set_cons_succ]
                refine hold_take (i := 19) (d := 59) (v := ?vc19) (listed' := #[true, true, true, true, true, true, true, true, true, true, true, true, true, true, true, true, true, true, true, true, false, false, false, false, false, false, false, false, false, false, false, false, false]) rfl (by kernel_rfl) (by kernel_rfl) (by kernel_rfl) rfl (by rfl) (by kernel_rfl) hS0 ?hc19 ?rc19
                case hc19 =>
                  intro w' hSw
                  obtain ⟨k0, k1, k2, k3, k4⟩ := hSw
                  go_simp
                  try with_reducible rfl
                simp only [List.setIfInBounds_toArray, List.set_cons_zero, List.set_cons_succ]
                refine hold_take (i := 20) (d := 60) (v := ?vc20) (listed' := #[true, true, true, true, true, true, true, true, true, true, true, true, true, true, true, true, true, true, true, true, true, false, false, false, false, false, false, false, false, false, false, false, false]) rfl (by kernel_rfl) (by kernel_rfl) (by kernel_rfl) rfl (by rfl) (by kernel_rfl) hS0 ?hc20 ?rc20
                case hc20 =>
                  intro w' hSw
                  obtain ⟨k0, k1, k2, k3, k4⟩ := hSw
                  go_simp
                  try with_reducible rfl
                simp only [List.setIfInBounds_toArray, List.set_cons_zero, List.set_cons_succ]
                refine hold_take (i := 21) (d := 61) (v := ?vc21) (listed' := #[true, true, true, true, true, true, true, true, true, true, true, true, true, true, true, true, true, true, true, true, true, true, false, false, false, false, false, false, false, false, false, false, false]) rfl (by kernel_rfl) (by kernel_rfl) (by kernel_rfl) rfl (by rfl) (by kernel_rfl) hS0 ?hc21 ?rc21
                case hc21 =>
                  intro w' hSw
                  obtain ⟨k0, k1, k2, k3, k4⟩ := hSw
                  go_simp
                  try with_reducible rfl
                simp only [List.setIfInBounds_toArray, List.set_cons_zero, List.set_cons_succ]
                refine hold_take (i := 22) (d := 62) (v := .int .i64 ((P : Int) + (Q : Int))) (listed' := #[true, true, true, true, true, true, true, true, true, true, true, true, true, true, true, true, true, true, true, true, true, true, true, false, false, false, false, false, false, false, false, false, false]) rfl (by kernel_rfl) (by kernel_rfl) (by kernel_rfl) rfl (by rfl) (by kernel_rfl) hS0 ?hc22 ?rc22
                case hc22 =>
                  intro w' hSw
                  obtain ⟨k0, k1, k2, k3, k4⟩ := hSw
                  go_simp
                  simp only [S1.out]
                simp only [List.setIfInBounds_toArray, List.set_cons_zero, List.set_cons_succ]
                refine hold_take (i := 23) (d := 63) (v := ?vc23) (listed' := #[true, true, true, true, true, true, true, true, true, true, true, true, true, true, true, true, true, true, true, true, true, true, true, true, false, false, false, false, false, false, false, false, false]) rfl (by kernel_rfl) (by kernel_rfl) (by kernel_rfl) rfl (by rfl) (by kernel_rfl) hS0 ?hc23 ?rc23
                case hc23 =>
                  intro w' hSw
                  obtain ⟨k0, k1, k2, k3, k4⟩ := hSw
                  go_simp
                  try with_reducible rfl
                simp only [List.setIfInBounds_toArray, List.set_cons_zero, List.set_cons_succ]
                refine hold_take (i := 24) (d := 64) (v := ?vc24) (listed' := #[true, true, true, true, true, true, true, true, true, true, true, true, true, true, true, true, true, true, true, true, true, true, true, true, true, false, false, false, false, false, false, false, false]) rfl (by kernel_rfl) (by kernel_rfl) (by kernel_rfl) rfl (by rfl) (by kernel_rfl) hS0 ?hc24 ?rc24
                case hc24 =>
                  intro w' hSw
                  obtain ⟨k0, k1, k2, k3, k4⟩ := hSw
                  go_simp
                  try with_reducible rfl
                simp only [List.setIfInBounds_toArray, List.set_cons_zero, List.set_cons_succ]
                refine hold_take (i := 25) (d := 65) (v := ?vc25) (listed' := #[true, true, true, true, true, true, true, true, true, true, true, true, true, true, true, true, true, true, true, true, true, true, true, true, true, true, false, false, false, false, false, false, false]) rfl (by kernel_rfl) (by kernel_rfl) (by kernel_rfl) rfl (by rfl) (by kernel_rfl) hS0 ?hc25 ?rc25
                case hc25 =>
                  intro w' hSw
                  obtain ⟨k0, k1, k2, k3, k4⟩ := hSw
                  go_simp
                  try with_reducible rfl
                simp only [List.setIfInBounds_toArray, List.set_cons_zero, List.set_cons_succ]
                refine hold_take (i := 26) (d := 66) (v := ?vc26) (listed' := #[true, true, true, true, true, true, true, true, true, true, true, true, true, true, true, true, true, true, true, true, true, true, true, true, true, true, true, false, false, false, false, false, false]) rfl (by kernel_rfl) (by kernel_rfl) (by kernel_rfl) rfl (by rfl) (by kernel_rfl) hS0 ?hc26 ?rc26
                case hc26 =>
                  intro w' hSw
                  obtain ⟨k0, k1, k2, k3, k4⟩ := hSw
                  go_simp
                  try with_reducible rfl
                simp only [List.setIfInBounds_toArray, List.set_cons_zero, List.set_cons_succ]
                refine hold_take (i := 27) (d := 67) (v := ?vc27) (listed' := #[true, true, true, true, true, true, true, true, true, true, true, true, true, true, true, true, true, true, true, true, true, true, true, true, true, true, true, true, false, false, false, false, false]) rfl (by kernel_rfl) (by kernel_rfl) (by kernel_rfl) rfl (by rfl) (by kernel_rfl) hS0 ?hc27 ?rc27
                case hc27 =>
                  intro w' hSw
                  obtain ⟨k0, k1, k2, k3, k4⟩ := hSw
                  go_simp
                  try with_reducible rfl
                simp only [List.setIfInBounds_toArray, List.set_cons_zero, List.set_cons_succ]
                refine hold_call (i := 28) (d := 68) (listed' := #[true, true, true, true, true, true, true, true, true, true, true, true, true, true, true, true, true, true, true, true, true, true, true, true, true, true, true, true, true, false, false, false, false]) rfl (by kernel_rfl) rfl (by rfl) (by kernel_rfl) ?hec28 (joinW8 hmat.out HO.out hlt hbn) ?hcc28
                case hec28 => go_simp
                rintro e xq ⟨rfl, hx⟩
                subst hx
                rw [HJ.out]
                refine ⟨_, rfl, hS0, ?_⟩
                simp only [List.setIfInBounds_toArray, List.set_cons_zero, List.set_cons_succ]
                refine hold_take (i := 29) (d := 69) (v := ?vc29) (listed' := #[true, true, true, true, true, true, true, true, true, true, true, true, true, true, true, true, true, true, true, true, true, true, true, true, true, true, true, true, true, true, false, false, false]) rfl (by kernel_rfl) (by kernel_rfl) (by kernel_rfl) rfl (by rfl) (by kernel_rfl) hS0 ?hc29 ?rc29
                case hc29 =>
                  intro w' hSw
                  obtain ⟨k0, k1, k2, k3, k4⟩ := hSw
                  go_simp
                  try with_reducible rfl
                simp only [List.setIfInBounds_toArray, List.set_cons_zero, List.set_cons_succ]
                refine hold_take (i := 30) (d := 70) (v := ?vc30) (listed' := #[true, true, true, true, true, true, true, true, true, true, true, true, true, true, true, true, true, true, true, true, true, true, true, true, true, true, true, true, true, true, true, false, false]) rfl (by kernel_rfl) (by kernel_rfl) (by kernel_rfl) rfl (by rfl) (by kernel_rfl) hS0 ?hc30 ?rc30
                case hc30 =>
                  intro w' hSw
                  obtain ⟨k0, k1, k2, k3, k4⟩ := hSw
                  go_simp
                  try with_reducible rfl
                simp only [List.setIfInBounds_toArray, List.set_cons_zero, List.set_cons_succ]
                refine hold_take (i := 31) (d := 71) (v := .bool true) (listed' := #[true, true, true, true, true, true, true, true, true, true, true, true, true, true, true, true, true, true, true, true, true, true, true, true, true, true, true, true, true, true, true, true, false]) rfl (by kernel_rfl) (by kernel_rfl) (by kernel_rfl) rfl (by rfl) (by kernel_rfl) hS0 ?hc31 ?rc31
                case hc31 =>
                  intro w' hSw
                  obtain ⟨k0, k1, k2, k3, k4⟩ := hSw
                  go_simp
                  have h9 := N2.out
                  first | omega | (simp; omega)
                simp only [List.setIfInBounds_toArray, List.set_cons_zero, List.set_cons_succ]
                refine hold_take (i := 32) (d := 72) (v := ?vc32) (listed' := #[true, true, true, true, true, true, true, true, true, true, true, true, true, true, true, true, true, true, true, true, true, true, true, true, true, true, true, true, true, true, true, true, true]) rfl (by kernel_rfl) (by kernel_rfl) (by kernel_rfl) rfl (by rfl) (by kernel_rfl) hS0 ?hc32 ?rc32
                case hc32 =>
                  intro w' hSw
                  obtain ⟨k0, k1, k2, k3, k4⟩ := hSw
                  go_simp
                  try with_reducible rfl
                simp only [List.setIfInBounds_toArray, List.set_cons_zero, List.set_cons_succ]
                refine hold_done (by kernel_rfl) ?_ _
                go_wp2_with fail
                go_ret
                exact ⟨ret_bool HF.out, hX.below.trans (hD2d.mono hX.below.size)⟩
            · rw [z1] at c3
              have hS0 := (show _ ∧ _ ∧ _ ∧ _ ∧ _ from ⟨p0, p1, c1, c2, c3⟩)
              have HQ : Hid (stateP m y s j b = true) := by show _ = _; rw [HSP.out, l1]; rfl
              clear p0 p1 c1 c2 c3 z1 HSP l1
              go_wp2_with fail
              refine region_plain (fuel := 33) (listed := #[false, false, false, false, false, false, false, false, false, false, false, false, false, false, false, false, false, false, false, false, false, false, false, false, false, false, false, false, false, false, false, false, false]) (fun w' => w'.cell? ⟨w.heap.size, 0, none⟩ = some (.slice (some ⟨l.b, l.o, none⟩) m.n l.cap) ∧ w'.cell? ⟨w.heap.size, 1, none⟩ = some (.slice (some ⟨g, o, none⟩) m.n nc) ∧ w'.cell? ⟨g, o + b, none⟩ = some (.int .i64 (u : Int)) ∧ w'.cell? ⟨l.b, l.o + j, none⟩ = some (.slice (some ⟨l.G j, l.O j, none⟩) m.n (l.C j)) ∧ w'.cell? ⟨l.G j, l.O j + u, none⟩ = some (.int .i64 0)) (by kernel_rfl) (by kernel_rfl) (by kernel_rfl) ?_
              refine hold_take (i := 0) (d := 40) (v := ?vd0) (listed' := #[true, false, false, false, false, false, false, false, false, false, false, false, false, false, false, false, false, false, false, false, false, false, false, false, false, false, false, false, false, false, false, false, false]) rfl (by kernel_rfl) (by kernel_rfl) (by kernel_rfl) rfl (by rfl) (by kernel_rfl) hS0 ?hd0 ?rd0
              case hd0 =>
                intro w' hSw
                obtain ⟨k0, k1, k2, k3, k4⟩ := hSw
                go_simp
                try with_reducible rfl
              simp only [List.setIfInBounds_toArray, List.set_cons_zero, List.set_cons_succ]
              refine hold_take (i := 1) (d := 41) (v := ?vd1) (listed' := #[true, true, false, false, false, false, false, false, false, false, false, false, false, false, false, false, false, false, false, false, false, false, false, false, false, false, false, false, false, false, false, false, false]) rfl (by kernel_rfl) (by kernel_rfl) (by kernel_rfl) rfl (by rfl) (by kernel_rfl) hS0 ?hd1 ?rd1
              case hd1 =>
                intro w' hSw
                obtain ⟨k0, k1, k2, k3, k4⟩ := hSw
                go_simp
                try with_reducible rfl
              simp only [List.setIfInBounds_toArray, List.set_cons_zero, List.set_cons_succ]
              refine hold_take (i := 2) (d := 42) (v := ?vd2) (listed' := #[true, true, true, false, false, false, false, false, false, false, false, false, false, false, false, false, false, false, false, false, false, false, false, false, false, false, false, false, false, false, false, false, false]) rfl (by kernel_rfl) (by kernel_rfl) (by kernel_rfl) rfl (by rfl) (by kernel_rfl) hS0 ?hd2 ?rd2
              case hd2 =>
                intro w' hSw
                obtain ⟨k0, k1, k2, k3, k4⟩ := hSw
                go_simp
                try with_reducible rfl
              simp only [List.setIfInBounds_toArray, List.set_cons_zero, List.set_cons_succ]
              refine hold_take (i := 3) (d := 43) (v := ?vd3) (listed' := #[true, true, true, true, false, false, false, false, false, false, false, false, false, false, false, false, false, false, false, false, false, false, false, false, false, false, false, false, false, false, false, false, false]) rfl (by kernel_rfl) (by kernel_rfl) (by kernel_rfl) rfl (by rfl) (by kernel_rfl) hS0 ?hd3 ?rd3
              case hd3 =>
                intro w' hSw
                obtain ⟨k0, k1, k2, k3, k4⟩ := hSw
                go_simp
                try with_reducible rfl
              simp only [List.setIfInBounds_toArray, List.set_cons_zero, List.set_cons_succ]
              refine hold_take (i := 4) (d := 44) (v := ?vd4) (listed' := #[true, true, true, true, true, false, false, false, false, false, false, false, false, false, false, false, false, false, false, false, false, false, false, false, false, false, false, false, false, false, false, false, false]) rfl (by kernel_rfl) (by kernel_rfl) (by kernel_rfl) rfl (by rfl) (by kernel_rfl) hS0 ?hd4 ?rd4
              case hd4 =>
                intro w' hSw
                obtain ⟨k0, k1, k2, k3, k4⟩ := hSw
                go_simp
                try with_reducible rfl
              simp only [List.setIfInBounds_toArray, List.set_cons_zero, List.set_cons_succ]
              refine hold_take (i := 5) (d := 45) (v := ?vd5) (listed' := #[true, true, true, true, true, true, false, false, false, false, false, false, false, false, false, false, false, false, false, false, false, false, false, false, false, false, false, false, false, false, false, false, false]) rfl (by kernel_rfl) (by kernel_rfl) (by kernel_rfl) rfl (by rfl) (by kernel_rfl) hS0 ?hd5 ?rd5
              case hd5 =>
                intro w' hSw
                obtain ⟨k0, k1, k2, k3, k4⟩ := hSw
                go_simp
                try with_reducible rfl
              simp only [List.setIfInBounds_toArray, List.set_cons_zero, List.set_cons_succ]
              refine hold_take (i := 6) (d := 46) (v := ?vd6) (listed' := #[true, true, true, true, true, true, true, false, false, false, false, false, false, false, false, false, false, false, false, false, false, false, false, false, false, false, false, false, false, false, false, false, false]) rfl (by kernel_rfl) (by kernel_rfl) (by kernel_rfl) rfl (by rfl) (by kernel_rfl) hS0 ?hd6 ?rd6
              case hd6 =>
                intro w' hSw
                obtain ⟨k0, k1, k2, k3, k4⟩ := hSw
                go_simp
                try with_reducible rfl
              simp only [List.setIfInBounds_toArray, List.set_cons_zero, List.set_cons_succ]
              refine hold_take (i := 7) (d := 47) (v := ?vd7) (listed' := #[true, true, true, true, true, true, true, true, false, false, false, false, false, false, false, false, false, false, false, false, false, false, false, false, false, false, false, false, false, false, false, false, false]) rfl (by kernel_rfl) (by kernel_rfl) (by kernel_rfl) rfl (by rfl) (by kernel_rfl) hS0 ?hd7 ?rd7
              case hd7 =>
                intro w' hSw
                obtain ⟨k0, k1, k2, k3, k4⟩ := hSw
                go_simp
                try with_reducible rfl
              simp only [List.setIfInBounds_toArray, List.set_cons_zero, List.set_cons_succ]
              refine hold_take (i := 8) (d := 48) (v := ?vd8) (listed' := #[true, true, true, true, true, true, true, true, true, false, false, false, false, false, false, false, false, false, false, false, false, false, false, false, false, false, false, false, false, false, false, false, false]) rfl (by kernel_rfl) (by kernel_rfl) (by kernel_rfl) rfl (by rfl) (by kernel_rfl) hS0 ?hd8 ?rd8
              case hd8 =>
                intro w' hSw
                obtain ⟨k0, k1, k2, k3, k4⟩ := hSw
                go_simp
                try with_reducible rfl
              simp only [List.setIfInBounds_toArray, List.set_cons_zero, List.set_cons_succ]
              refine hold_take (i := 9) (d := 49) (v := ?vd9) (listed' := #[true, true, true, true, true, true, true, true, true, true, false, false, false, false, false, false, false, false, false, false, false, false, false, false, false, false, false, false, false, false, false, false, false]) rfl (by kernel_rfl) (by kernel_rfl) (by kernel_rfl) rfl (by rfl) (by kernel_rfl) hS0 ?hd9 ?rd9
              case hd9 =>
                intro w' hSw
                obtain ⟨k0, k1, k2, k3, k4⟩ := hSw
                go_simp
                try with_reducible rfl
              simp only [List.setIfInBounds_toArray, List.set_cons_zero, List.set_cons_succ]
              refine hold_take (i := 10) (d := 50) (v := ?vd10) (listed' := #[true, true, true, true, true, true, true, true, true, true, true, false, false, false, false, false, false, false, false, false, false, false, false, false, false, false, false, false, false, false, false, false, false]) rfl (by kernel_rfl) (by kernel_rfl) (by kernel_rfl) rfl (by rfl) (by kernel_rfl) hS0 ?hd10 ?rd10
              case hd10 =>
                intro w' hSw
                obtain ⟨k0, k1, k2, k3, k4⟩ := hSw
                go_simp
                try with_reducible rfl
              simp only [List.setIfInBounds_toArray, List.set_cons_zero, List.set_cons_succ]
              refine hold_take (i := 11) (d := 51) (v := ?vd11) (listed' := #[true, true, true, true, true, true, true, true, true, true, true, true, false, false, false, false, false, false, false, false, false, false, false, false, false, false, false, false, false, false, false, false, false]) rfl (by kernel_rfl) (by kernel_rfl) (by kernel_rfl) rfl (by rfl) (by kernel_rfl) hS0 ?hd11 ?rd11
              case hd11 =>
                intro w' hSw
                obtain ⟨k0, k1, k2, k3, k4⟩ := hSw
                go_simp
                try with_reducible rfl
              simp only [List.setIfInBounds_toArray, List.set_cons_zero, List.set_cons_succ]
              refine hold_take (i := 12) (d := 52) (v := ?vd12) (listed' := #[true, true, true, true, true, true, true, true, true, true, true, true, true, false, false, false, false, false, false, false, false, false, false, false, false, false, false, false, false, false, false, false, false]) rfl (by kernel_rfl) (by kernel_rfl) (by kernel_rfl) rfl (by rfl) (by kernel_rfl) hS0 ?hd12 ?rd12
              case hd12 =>
                intro w' hSw
                obtain ⟨k0, k1, k2, k3, k4⟩ := hSw
                go_simp
                try with_reducible rfl
              simp only [List.setIfInBounds_toArray, List.set_cons_zero, List.set_cons_succ]
              refine hold_take (i := 13) (d := 53) (v := ?vd13) (listed' := #[true, true, true, true, true, true, true, true, true, true, true, true, true, true, false, false, false, false, false, false, false, false, false, false, false, false, false, false, false, false, false, false, false]) rfl (by kernel_rfl) (by kernel_rfl) (by kernel_rfl) rfl (by rfl) (by kernel_rfl) hS0 ?hd13 ?rd13
              case hd13 =>
                intro w' hSw
                obtain ⟨k0, k1, k2, k3, k4⟩ := hSw
                go_simp
                try with_reducible rfl
              simp only [List.setIfInBounds_toArray, List.set_cons_zero, List.set_cons_succ]
              refine hold_skip (i := 14) (d := 54) (listed' := #[true, true, true, true, true, true, true, true, true, true, true, true, true, true, true, false, false, false, false, false, false, false, false, false, false, false, false, false, false, false, false, false, false]) rfl (by kernel_rfl) (by kernel_rfl) (by kernel_rfl) rfl (by rfl) (by kernel_rfl) hS0 ?_
              simp only [List.setIfInBounds_toArray, List.set_cons_zero, List.set_cons_succ]
              refine hold_skip (i := 15) (d := 55) (listed' := #[true, true, true, true, true, true, true, true, true, true, true, true, true, true, true, true, false, false, false, false, false, false, false, false, false, false, false, false, false, false, false, false, false]) rfl (by kernel_rfl) (by kernel_rfl) (by kernel_rfl) rfl (by rfl) (by kernel_rfl) hS0 ?_
              simp only [List.setIfInBounds_toArray, List.set_cons_zero, List.set_cons_succ]
              refine hold_skip (i := 16) (d := 56) (listed' := #[true, true, true, true, true, true, true, true, true, true, true, true, true, true, true, true, true, false, false, false, false, false, false, false, false, false, false, false, false, false, false, false, false]) rfl (by kernel_rfl) (by kernel_rfl) (by kernel_rfl) rfl (by rfl) (by kernel_rfl) hS0 ?_
              simp only [List.setIfInBounds_toArray, List.set_cons_zero, List.set_cons_succ]
              refine hold_skip (i := 17) (d := 57) (listed' := #[true, true, true, true, true, true, true, true, true, true, true, true, true, true, true, true, true, true, false, false, false, false, false, false, false, false, false, false, false, false, false, false, false]) rfl (by kernel_rfl) (by kernel_rfl) (by kernel_rfl) rfl (by rfl) (by kernel_rfl) hS0 ?_
              simp only [List.setIfInBounds_toArray, List.set_cons_zero, List.set_cons_succ]
              refine hold_skip (i := 18) (d := 58) (listed' := #[true, true, true, true, true, true, true, true, true, true, true, true, true, true, true, true, true, true, true, false, false, false, false, false, false, false, false, false, false, false, false, false, false]) rfl (by kernel_rfl) (by kernel_rfl) (by kernel_rfl) rfl (by rfl) (by kernel_rfl) hS0 ?_
              simp only [List.setIfInBounds_toArray, List.set_cons_zero, List.set_cons_succ]
              refine hold_skip (i := 19) (d := 59) (listed' := #[true, true, true, true, true, true, true, true, true, true, true, true, true, true, true, true, true, true, true, true, false, false, false, false, false, false, false, false, false, false, false, false, false]) rfl (by kernel_rfl) (by kernel_rfl) (by kernel_rfl) rfl (by rfl) (by kernel_rfl) hS0 ?_
              simp only [List.setIfInBounds_toArray, List.set_cons_zero, List.set_cons_succ]
              refine hold_skip (i := 20) (d := 60) (listed' := #[true, true, true, true, true, true, true, true, true, true, true, true, true, true, true, true, true, true, true, true, true, false, false, false, false, false, false, false, false, false, false, false, false]) rfl (by kernel_rfl) (by kernel_rfl) (by kernel_rfl) rfl (by rfl) (by kernel_rfl) hS0 ?_
              simp only [List.setIfInBounds_toArray, List.set_cons_zero, List.set_cons_succ]
              refine hold_skip (i := 21) (d := 61) (listed' := #[true, true, true, true, true, true, true, true, true, true, true, true, true, true, true, true, true, true, true, true, true, true, false, false, false, false, false, false, false, false, false, false, false]) rfl (by kernel_rfl) (by kernel_rfl) (by kernel_rfl) rfl (by rfl) (by kernel_rfl) hS0 ?_
              simp only [List.setIfInBounds_toArray, List.set_cons_zero, List.set_cons_succ]
              refine hold_skip (i := 22) (d := 62) (listed' := #[true, true, true, true, true, true, true, true, true, true, true, true, true, true, true, true, true, true, true, true, true, true, true, false, false, false, false, false, false, false, false, false, false]) rfl (by kernel_rfl) (by kernel_rfl) (by kernel_rfl) rfl (by rfl) (by kernel_rfl) hS0 ?_
              simp only [List.setIfInBounds_toArray, List.set_cons_zero, List.set_cons_succ]
              refine hold_skip (i := 23) (d := 63) (listed' := #[true, true, true, true, true, true, true, true, true, true, true, true, true, true, true, true, true, true, true, true, true, true, true, true, false, false, false, false, false, false, false, false, false]) rfl (by kernel_rfl) (by kernel_rfl) (by kernel_rfl) rfl (by rfl) (by kernel_rfl) hS0 ?_
              simp only [List.setIfInBounds_toArray, List.set_cons_zero, List.set_cons_succ]
              refine hold_skip (i := 24) (d := 64) (listed' := #[true, true, true, true, true, true, true, true, true, true, true, true, true, true, true, true, true, true, true, true, true, true, true, true, true, false, false, false, false, false, false, false, false]) rfl (by kernel_rfl) (by kernel_rfl) (by kernel_rfl) rfl (by rfl) (by kernel_rfl) hS0 ?_
              simp only [List.setIfInBounds_toArray, List.set_cons_zero, List.set_cons_succ]
              refine hold_skip (i := 25) (d := 65) (listed' := #[true, true, true, true, true, true, true, true, true, true, true, true, true, true, true, true, true, true, true, true, true, true, true, true, true, true, false, false, false, false, false, false, false]) rfl (by kernel_rfl) (by kernel_rfl) (by kernel_rfl) rfl (by rfl) (by kernel_rfl) hS0 ?_
              simp only [List.setIfInBounds_toArray, List.set_cons_zero, List.set_cons_succ]
              refine hold_skip (i := 26) (d := 66) (listed' := #[true, true, true, true, true, true, true, true, true, true, true, true, true, true, true, true, true, true, true, true, true, true, true, true, true, true, true, false, false, false, false, false, false]) rfl (by kernel_rfl) (by kernel_rfl) (by kernel_rfl) rfl (by rfl) (by kernel_rfl) hS0 ?_
              simp only [List.setIfInBounds_toArray, List.set_cons_zero, List.set_cons_succ]
              refine hold_skip (i := 27) (d := 67) (listed' := #[true, true, true, true, true, true, true, true, true, true, true, true, true, true, true, true, true, true, true, true, true, true, true, true, true, true, true, true, false, false, false, false, false]) rfl (by kernel_rfl) (by kernel_rfl) (by kernel_rfl) rfl (by rfl) (by kernel_rfl) hS0 ?_
              simp only [List.setIfInBounds_toArray, List.set_cons_zero, List.set_cons_succ]
              refine hold_skip (i := 28) (d := 68) (listed' := #[true, true, true, true, true, true, true, true, true, true, true, true, true, true, true, true, true, true, true, true, true, true, true, true, true, true, true, true, true, false, false, false, false]) rfl (by kernel_rfl) (by kernel_rfl) (by kernel_rfl) rfl (by rfl) (by kernel_rfl) hS0 ?_
              simp only [List.setIfInBounds_toArray, List.set_cons_zero, List.set_cons_succ]
              refine hold_skip (i := 29) (d := 69) (listed' := #[true, true, true, true, true, true, true, true, true, true, true, true, true, true, true, true, true, true, true, true, true, true, true, true, true, true, true, true, true, true, false, false, false]) rfl (by kernel_rfl) (by kernel_rfl) (by kernel_rfl) rfl (by rfl) (by kernel_rfl) hS0 ?_
              simp only [List.setIfInBounds_toArray, List.set_cons_zero, List.set_cons_succ]
              refine hold_skip (i := 30) (d := 70) (listed' := #[true, true, true, true, true, true, true, true, true, true, true, true, true, true, true, true, true, true, true, true, true, true, true, true, true, true, true, true, true, true, true, false, false]) rfl (by kernel_rfl) (by kernel_rfl) (by kernel_rfl) rfl (by rfl) (by kernel_rfl) hS0 ?_
              simp only [List.setIfInBounds_toArray, List.set_cons_zero, List.set_cons_succ]
              refine hold_skip (i := 31) (d := 71) (listed' := #[true, true, true, true, true, true, true, true, true, true, true, true, true, true, true, true, true, true, true, true, true, true, true, true, true, true, true, true, true, true, true, true, false]) rfl (by kernel_rfl) (by kernel_rfl) (by kernel_rfl) rfl (by rfl) (by kernel_rfl) hS0 ?_
              simp only [List.setIfInBounds_toArray, List.set_cons_zero, List.set_cons_succ]
              refine hold_take (i := 32) (d := 72) (v := ?vd32) (listed' := #[true, true, true, true, true, true, true, true, true, true, true, true, true, true, true, true, true, true, true, true, true, true, true, true, true, true, true, true, true, true, true, true, true]) rfl (by kernel_rfl) (by kernel_rfl) (by kernel_rfl) rfl (by rfl) (by kernel_rfl) hS0 ?hd32 ?rd32
              case hd32 =>
                intro w' hSw
                obtain ⟨k0, k1, k2, k3, k4⟩ := hSw
                go_simp
                try with_reducible rfl
              simp only [List.setIfInBounds_toArray, List.set_cons_zero, List.set_cons_succ]
              refine hold_done (by kernel_rfl) ?_ _
              go_wp2_with fail
              go_roundw
              case rel => exact ⟨b + 1, by omega, by go_num, hD2d, fun c hc => by
                by_cases e : c = b
                · subst e; exact HQ.out
                · exact hT.out c (by omega)⟩
              case measure => simp [intOf]; omega
          · have hbt' : ¬ (b : Int) < j := by omega
            have HQ : Hid (stR m y s j = true) := by show _ = _; rw [HP.out]; exact allB_true fun c hc => hT.out c (by omega)
            go_wp2_with fail
            go_roundw
            case rel => exact ⟨j + 1, by omega, by go_num, hD2, fun c hc => by
              by_cases e : c = j
              · subst e; exact HQ.out
              · exact hR.out c (by omega)⟩
            case measure => simp [intOf]; omega
      · have N2 : Hid (¬ P + Q = 1) := heq
        have HF : Hid (false = stateB m y o' s) := by
          show _ = _
          rw [HV.out]
          exact (allB_false hlt (by rw [HP0.out, decide_eq_false heq]; rfl)).symm
        clear heq HP0
        go_wp2_with fail
        refine region_plain (fuel := 14) (listed := #[false, false, false, false, false, false, false, false, false, false, false, false, false, false]) (fun w' => w'.cell? ⟨w.heap.size, 0, none⟩ = some (.slice (some ⟨l.b, l.o, none⟩) m.n l.cap) ∧ w'.cell? ⟨w.heap.size, 1, none⟩ = some (.slice (some ⟨g, o, none⟩) m.n nc) ∧ w'.cell? ⟨g, o + j, none⟩ = some (.int .i64 (v : Int))) (by kernel_rfl) (by kernel_rfl) (by kernel_rfl) ?_
        refine hold_take (i := 0) (d := 21) (v := ?ve0) (listed' := #[true, false, false, false, false, false, false, false, false, false, false, false, false, false]) rfl (by kernel_rfl) (by kernel_rfl) (by kernel_rfl) rfl (by rfl) (by kernel_rfl) hS0 ?he0 ?re0
        case he0 =>
          intro w' hSw
          obtain ⟨k0, k1, k2⟩ := hSw
          go_simp
          try with_reducible rfl
        simp only [List.setIfInBounds_toArray, List.set_cons_zero, List.set_cons_succ]
        refine hold_take (i := 1) (d := 22) (v := ?ve1) (listed' := #[true, true, false, false, false, false, false, false, false, false, false, false, false, false]) rfl (by kernel_rfl) (by kernel_rfl) (by kernel_rfl) rfl (by rfl) (by kernel_rfl) hS0 ?he1 ?re1
        case he1 =>
          intro w' hSw
          obtain ⟨k0, k1, k2⟩ := hSw
          go_simp
          try with_reducible rfl
        simp only [List.setIfInBounds_toArray, List.set_cons_zero, List.set_cons_succ]
        refine hold_take (i := 2) (d := 23) (v := ?ve2) (listed' := #[true, true, true, false, false, false, false, false, false, false, false, false, false, false]) rfl (by kernel_rfl) (by kernel_rfl) (by kernel_rfl) rfl (by rfl) (by kernel_rfl) hS0 ?he2 ?re2
        case he2 =>
          intro w' hSw
          obtain ⟨k0, k1, k2⟩ := hSw
          go_simp
          try with_reducible rfl
        simp only [List.setIfInBounds_toArray, List.set_cons_zero, List.set_cons_succ]
        refine hold_take (i := 3) (d := 24) (v := ?ve3) (listed' := #[true, true, true, true, false, false, false, false, false, false, false, false, false, false]) rfl (by kernel_rfl) (by kernel_rfl) (by kernel_rfl) rfl (by rfl) (by kernel_rfl) hS0 ?he3 ?re3
        case he3 =>
          intro w' hSw
          obtain ⟨k0, k1, k2⟩ := hSw
          go_simp
          try with_reducible rfl
        simp only [List.setIfInBounds_toArray, List.set_cons_zero, List.set_cons_succ]
        refine hold_take (i := 4) (d := 25) (v := ?ve4) (listed' := #[true, true, true, true, true, false, false, false, false, false, false, false, false, false]) rfl (by kernel_rfl) (by kernel_rfl) (by kernel_rfl) rfl (by rfl) (by kernel_rfl) hS0 ?he4 ?re4
        case he4 =>
          intro w' hSw
          obtain ⟨k0, k1, k2⟩ := hSw
          go_simp
          try with_reducible rfl
        simp only [List.setIfInBounds_toArray, List.set_cons_zero, List.set_cons_succ]
        refine hold_take (i := 5) (d := 26) (v := ?ve5) (listed' := #[true, true, true, true, true, true, false, false, false, false, false, false, false, false]) rfl (by kernel_rfl) (by kernel_rfl) (by kernel_rfl) rfl (by rfl) (by kernel_rfl) hS0 ?he5 ?re5
        case he5 =>
          intro w' hSw
          obtain ⟨k0, k1, k2⟩ := hSw
          go_simp
          try with_reducible rfl
        simp only [List.setIfInBounds_toArray, List.set_cons_zero, List.set_cons_succ]
        refine hold_take (i := 6) (d := 27) (v := ?ve6) (listed' := #[true, true, true, true, true, true, true, false, false, false, false, false, false, false]) rfl (by kernel_rfl) (by kernel_rfl) (by kernel_rfl) rfl (by rfl) (by kernel_rfl) hS0 ?he6 ?re6
        case he6 =>
          intro w' hSw
          obtain ⟨k0, k1, k2⟩ := hSw
          go_simp
          try with_reducible rfl
        simp only [List.setIfInBounds_toArray, List.set_cons_zero, List.set_cons_succ]
        refine hold_take (i := 7) (d := 28) (v := ?ve7) (listed' := #[true, true, true, true, true, true, true, true, false, false, false, false, false, false]) rfl (by kernel_rfl) (by kernel_rfl) (by kernel_rfl) rfl (by rfl) (by kernel_rfl) hS0 ?he7 ?re7
        case he7 =>
          intro w' hSw
          obtain ⟨k0, k1, k2⟩ := hSw
          go_simp
          try with_reducible rfl
        simp only [List.setIfInBounds_toArray, List.set_cons_zero, List.set_cons_succ]
        refine hold_take (i := 8) (d := 29) (v := ?ve8) (listed' := #[true, true, true, true, true, true, true, true, true, false, false, false, false, false]) rfl (by kernel_rfl) (by kernel_rfl) (by kernel_rfl) rfl (by rfl) (by kernel_rfl) hS0 ?he8 ?re8
        case he8 =>
          intro w' hSw
          obtain ⟨k0, k1, k2⟩ := hSw
          go_simp
          try with_reducible rfl
        simp only [List.setIfInBounds_toArray, List.set_cons_zero, List.set_cons_succ]
        refine hold_take (i := 9) (d := 30) (v := ?ve9) (listed' := #[true, true, true, true, true, true, true, true, true, true, false, false, false, false]) rfl (by kernel_rfl) (by kernel_rfl) (by kernel_rfl) rfl (by rfl) (by kernel_rfl) hS0 ?he9 ?re9
        case he9 =>
          intro w' hSw
          obtain ⟨k0, k1, k2⟩ := hSw
          go_simp
          try with_reducible rfl
        simp only [List.setIfInBounds_toArray, List.set_cons_zero, List.set_cons_succ]
        refine hold_take (i := 10) (d := 31) (v := ?ve10) (listed' := #[true, true, true, true, true, true, true, true, true, true, true, false, false, false]) rfl (by kernel_rfl) (by kernel_rfl) (by kernel_rfl) rfl (by rfl) (by kernel_rfl) hS0 ?he10 ?re10
        case he10 =>
          intro w' hSw
          obtain ⟨k0, k1, k2⟩ := hSw
          go_simp
          try with_reducible rfl
        simp only [List.setIfInBounds_toArray, List.set_cons_zero, List.set_cons_succ]
        refine hold_take (i := 11) (d := 32) (v := ?ve11) (listed' := #[true, true, true, true, true, true, true, true, true, true, true, true, false, false]) rfl (by kernel_rfl) (by kernel_rfl) (by kernel_rfl) rfl (by rfl) (by kernel_rfl) hS0 ?he11 ?re11
        case he11 =>
          intro w' hSw
          obtain ⟨k0, k1, k2⟩ := hSw
          go_simp
          try with_reducible rfl
        simp only [List.setIfInBounds_toArray, List.set_cons_zero, List.set_cons_succ]
        refine hold_take (i := 12) (d := 33) (v := .int .i64 ((P : Int) + (Q : Int))) (listed' := #[true, true, true, true, true, true, true, true, true, true, true, true, true, false]) rfl (by kernel_rfl) (by kernel_rfl) (by kernel_rfl) rfl (by rfl) (by kernel_rfl) hS0 ?he12 ?re12
        case he12 =>
          intro w' hSw
          obtain ⟨k0, k1, k2⟩ := hSw
          go_simp
          simp only [S1.out]
        simp only [List.setIfInBounds_toArray, List.set_cons_zero, List.set_cons_succ]
        refine hold_take (i := 13) (d := 34) (v := .bool true) (listed' := #[true, true, true, true, true, true, true, true, true, true, true, true, true, true]) rfl (by kernel_rfl) (by kernel_rfl) (by kernel_rfl) rfl (by rfl) (by kernel_rfl) hS0 ?he13 ?re13
        case he13 =>
          intro w' hSw
          obtain ⟨k0, k1, k2⟩ := hSw
          go_simp
          have h9 := N2.out
          first | omega | (simp; omega)
        simp only [List.setIfInBounds_toArray, List.set_cons_zero, List.set_cons_succ]
        refine hold_done (by kernel_rfl) ?_ _
        go_wp2_with fail
        go_ret
        exact ⟨ret_bool HF.out, hX.below.trans (hDd.mono hX.below.size)⟩
    · have hlt' : ¬ (j : Int) < m.n := by omega
      have HF : Hid (true = stateB m y o' s) := by
        show _ = _
        rw [HV.out]
        exact (allB_true fun c hc => hR.out c (by omega)).symm
      go_wp2_with fail
      go_ret
      exact ⟨ret_bool HF.out, hX.below.trans (hD.mono hX.below.size)⟩

set_option maxRecDepth 100000 in
set_option maxHeartbeats 4000000 in
theorem spec_StateOk {w : World} {B : Nat} {ua : Option Addr} {l : Lay} {m : Mx} {na : Option Addr} {g o k nc : Nat} {x : Int} {z : Nat → Int} (h : LogAt w B ua l m na g o k z) :
    Calls Try.prog 16 #[.agg #[.slice ua m.n l.cap, .slice na k nc], .int .i64 x] w fun e w' => e = .returned (.bool (stateV m k z x)) ∧ Below w.heap.size w w' := by
  have hX := BoxN.start w #[.slice ua m.n l.cap, .slice na k nc] 26
  have hL := Lib.hid (h.alloc (.cells #[.slice ua m.n l.cap, .slice na k nc] 26))
  have q0 := hX.cell 0 rfl
  have q1 := hX.cell 1 rfl
  have hkk := h.hk
  clear h
  cases hl : logicB m k z with
  | false =>
    have HL := Lib.hid hl
    have HF : Hid (false = stateV m k z x) := by show _ = _; unfold stateV; rw [hl]; rfl
    clear hl
    go_enter Try.func16, Try.ntmps16
    go_wp2_with fail
    go_at_call 34
    refine (spec_LogicOk hL.out).mono ?_
    rintro e w1 ⟨rfl, b1⟩
    rw [HL.out]
    have hX1 := hX.step b1
    go_wp2_with fail
    go_ret
    exact ⟨ret_bool HF.out, hX1.below⟩
  | true =>
    obtain ⟨y0, o', hO0⟩ := (logicB_is hl).ortho
    have hkn : k = m.n := (logicB_is hl).pair.len
    subst hkn
    have hO := hO0.own
    obtain ⟨y, hyy⟩ : ∃ y : Nat → Nat, y = fun a => (z a).toNat := ⟨_, rfl⟩
    rw [← hyy] at hO
    have hn := hO.lat.order.top
    have HL := Lib.hid hl
    have HY := Lib.hid (hO.yesV9 hl)
    have HO := Lib.hid hO
    have hp := pow_le_12 hn
    obtain ⟨P, hP⟩ : ∃ P, P = 2 ^ m.n := ⟨_, rfl⟩
    rw [← hP] at hp
    have e0 : ((2 : Int) ^ m.n) = (P : Int) := by rw [hP]; push_cast; rfl
    have e1 : wrap64 ((2 : Int) ^ m.n) = (P : Int) := by rw [e0]; exact IntWalk.wrap64_in _ (by omega)
    have e2 : wrap64 ((P : Int) - 1) = (P : Int) - 1 := IntWalk.wrap64_in _ (by omega)
    by_cases hi : 0 ≤ x ∧ x < (P : Int)
    · obtain ⟨s, rfl⟩ := Int.eq_ofNat_of_zero_le hi.1
      have hs : s < 2 ^ m.n := by rw [← hP]; omega
      have hs12 : s < 4096 := by omega
      have HV := Lib.hid (hO.stateV hl hyy hs).symm
      have hf : (decide ((0 : Int) ≤ (s : Int)) && decide ((s : Int) ≤ (P : Int) - 1)) = true := by
        rw [Bool.and_eq_true]; simp; omega
      have H1 : Hid ((decide ((0 : Int) ≤ (s : Int)) && decide ((s : Int) ≤ wrap64 (2 ^ m.n - 1))) = true) := by show _ = _; rw [e0, e2]; exact hf
      have H1' : Hid ((decide ((0 : Int) ≤ (s : Int)) && decide ((s : Int) ≤ wrap64 (wrap64 (2 ^ m.n) - 1))) = true) := by show _ = _; rw [e1, e2]; exact hf
      clear e0 e1 e2 hf hl hi hP hp hO hO0 hyy hs
      go_enter Try.func16, Try.ntmps16
      go_wp2_with fail
      generalize hW : w.alloc (.cells #[.slice ua m.n l.cap, .slice na m.n nc] 26) = W at hX hL q0 q1 ⊢
      clear hW
      go_at_call 34
      refine (spec_LogicOk hL.out).mono ?_
      rintro e w1 ⟨rfl, b1⟩
      rw [HL.out]
      have hX0 := hX.step b1
      have hL0 := Lib.hid (hL.out.step b1)
      clear q0 q1 hL hX
      go_wp2_with fail
      go_at_call 46
      refine (l1In_any _ _ _ _).mono ?_
      rintro e w2 ⟨rfl, rfl⟩
      first | rw [H1.out] | rw [H1'.out]
      go_wp2_with fail
      have hX1 := hX0.step (Below.refl _ w1).drew
      have hL1 := Lib.hid (hL0.out.step (Below.refl _ w1).drew)
      have hS0 := (show _ ∧ _ from ⟨hX1.cell 0 rfl, hX1.cell 1 rfl⟩)
      refine region_plain (fuel := 6) (listed := #[false, false, false, false, false, false]) (fun w' => w'.cell? ⟨w.heap.size, 0, none⟩ = some (.slice ua m.n l.cap) ∧ w'.cell? ⟨w.heap.size, 1, none⟩ = some (.slice na m.n nc)) (by kernel_rfl) (by kernel_rfl) (by kernel_rfl) ?_
      refine hold_take (i := 0) (d := 20) (v := ?va0) (listed' := #[true, false, false, false, false, false]) rfl (by kernel_rfl) (by kernel_rfl) (by kernel_rfl) rfl (by rfl) (by kernel_rfl) hS0 ?ha0 ?ra0
      case ha0 =>
        intro w' hSw
        obtain ⟨k0, k1⟩ := hSw
        go_simp
        try with_reducible rfl
      simp only [List.setIfInBounds_toArray, List.set_cons_zero, List.set_cons_succ]
      refine hold_take (i := 1) (d := 21) (v := ?va1) (listed' := #[true, true, false, false, false, false]) rfl (by kernel_rfl) (by kernel_rfl) (by kernel_rfl) rfl (by rfl) (by kernel_rfl) hS0 ?ha1 ?ra1
      case ha1 =>
        intro w' hSw
        obtain ⟨k0, k1⟩ := hSw
        go_simp
        try with_reducible rfl
      simp only [List.setIfInBounds_toArray, List.set_cons_zero, List.set_cons_succ]
      refine hold_take (i := 2) (d := 22) (v := ?va2) (listed' := #[true, true, true, false, false, false]) rfl (by kernel_rfl) (by kernel_rfl) (by kernel_rfl) rfl (by rfl) (by kernel_rfl) hS0 ?ha2 ?ra2
      case ha2 =>
        intro w' hSw
        obtain ⟨k0, k1⟩ := hSw
        go_simp
        try with_reducible rfl
      simp only [List.setIfInBounds_toArray, List.set_cons_zero, List.set_cons_succ]
      refine hold_call (i := 3) (d := 23) (listed' := #[true, true, true, true, false, false]) rfl (by kernel_rfl) rfl (by rfl) (by kernel_rfl) ?hea3 (spec_YesOf (nc := nc) hL1.out) ?hca3
      case hea3 => go_simp
      rintro e x1 ⟨rfl, b2⟩
      rw [HY.out]
      have hX2 := hX1.step b2
      have hL2 := Lib.hid (hL1.out.step b2)
      have hS2 := (show _ ∧ _ from ⟨hX2.cell 0 rfl, hX2.cell 1 rfl⟩)
      refine ⟨_, rfl, hS2, ?_⟩
      simp only [List.setIfInBounds_toArray, List.set_cons_zero, List.set_cons_succ]
      refine hold_call (i := 4) (d := 24) (listed' := #[true, true, true, true, true, false]) rfl (by kernel_rfl) rfl (by rfl) (by kernel_rfl) ?hea4 (l9State_any (nc := nc) hL2.out HO.out hs12) ?hca4
      case hea4 => go_simp
      rintro e x2 ⟨rfl, b3⟩
      rw [HV.out]
      have hX3 := hX2.step b3
      have hS3 := (show _ ∧ _ from ⟨hX3.cell 0 rfl, hX3.cell 1 rfl⟩)
      refine ⟨_, rfl, hS3, ?_⟩
      simp only [List.setIfInBounds_toArray, List.set_cons_zero, List.set_cons_succ]
      refine hold_take (i := 5) (d := 4) (v := ?va5) (listed' := #[true, true, true, true, true, true]) rfl (by kernel_rfl) (by kernel_rfl) (by kernel_rfl) rfl (by rfl) (by kernel_rfl) hS3 ?ha5 ?ra5
      case ha5 =>
        intro w' hSw
        obtain ⟨k0, k1⟩ := hSw
        go_simp
        try with_reducible rfl
      simp only [List.setIfInBounds_toArray, List.set_cons_zero, List.set_cons_succ]
      refine hold_done (by kernel_rfl) ?_ _
      go_wp2_with fail
      go_ret
      exact ⟨rfl, hX3.below⟩
    · have HF : Hid (false = stateV m m.n z x) := by
        show _ = _
        unfold stateV inS
        rw [hl, decide_eq_false (by rw [← hP]; exact hi)]; rfl
      have hf : (decide ((0 : Int) ≤ x) && decide (x ≤ (P : Int) - 1)) = false := by
        rw [Bool.and_eq_false_iff]; simp; omega
      have H1 : Hid ((decide ((0 : Int) ≤ x) && decide (x ≤ wrap64 (2 ^ m.n - 1))) = false) := by show _ = _; rw [e0, e2]; exact hf
      have H1' : Hid ((decide ((0 : Int) ≤ x) && decide (x ≤ wrap64 (wrap64 (2 ^ m.n) - 1))) = false) := by show _ = _; rw [e1, e2]; exact hf
      clear e0 e1 e2 hf hl hi hP hp hO hO0 hyy
      go_enter Try.func16, Try.ntmps16
      go_wp2_with fail
      go_at_call 34
      refine (spec_LogicOk hL.out).mono ?_
      rintro e w1 ⟨rfl, b1⟩
      rw [HL.out]
      have hX1 := hX.step b1
      clear q0 q1
      go_wp2_with fail
      go_at_call 46
      refine (l1In_any _ _ _ _).mono ?_
      rintro e w2 ⟨rfl, rfl⟩
      first | rw [H1.out] | rw [H1'.out]
      go_wp2_with fail
      go_ret
      exact ⟨ret_bool HF.out, hX1.below⟩

set_option maxRecDepth 100000 in
set_option maxHeartbeats 4000000 in
theorem spec_StatesOf {w : World} {B : Nat} {ua : Option Addr} {l : Lay} {m : Mx} {na : Option Addr} {g o k nc : Nat} {z : Nat → Int} (h : LogAt w B ua l m na g o k z) :
    Calls Try.prog 41 #[.agg #[.slice ua m.n l.cap, .slice na k nc]] w (ListRes w (statesV m k z)) := by
  have hX := BoxN.start w #[.slice ua m.n l.cap, .slice na k nc] 26
  have h1 := Lib.hid (h.alloc (.cells #[.slice ua m.n l.cap, .slice na k nc] 26))
  have q0 := hX.cell 0 rfl
  have q1 := hX.cell 1 rfl
  have hkk := h.hk
  have hsz : (w.alloc (.cells #[.slice ua m.n l.cap, .slice na k nc] 26)).heap.size = w.heap.size + 1 := by simp
  clear h
  cases hl : logicB m k z with
  | false =>
    have HL := Lib.hid hl
    have HF : Hid (statesV m k z = []) := by show _ = _; unfold statesV; rw [hl]; rfl
    clear hl
    go_enter Try.func41, Try.ntmps41
    have hown0 : ((w.alloc (.cells #[.slice ua m.n l.cap, .slice na k nc] 26)).alloc (.cells #[] 3)).ownsRow (w.heap.size + 1) 3 1 (.slice (some ⟨w.heap.size + 1, 0, none⟩) 0 0) 0 [] := by
      rw [← hsz]
      exact World.ownsRow_lit (base := (w.alloc (.cells #[.slice ua m.n l.cap, .slice na k nc] 26)).heap.size) (e := 3) (size := 1) _ #[] 0 (Nat.le_refl _) (Nat.zero_le _) rfl
    have hb1 := (Below.refl (w.alloc (.cells #[.slice ua m.n l.cap, .slice na k nc] 26)).heap.size (w.alloc (.cells #[.slice ua m.n l.cap, .slice na k nc] 26))).alloc (Nat.le_refl _) (.cells #[] 3)
    have hX1 := hX.step hb1
    have h2 := Lib.hid (h1.out.step hb1)
    have p0 := hX1.cell 0 rfl
    have p1 := hX1.cell 1 rfl
    clear q0 q1 h1 hX
    go_wp2_with fail
    generalize hW1 : (w.alloc (.cells #[.slice ua m.n l.cap, .slice na k nc] 26)).alloc (.cells #[] 3) = W1 at hown0 hX1 h2 p0 p1 ⊢
    clear hW1 hb1
    go_at_call 34
    refine (spec_LogicOk h2.out).mono ?_
    rintro e w2 ⟨rfl, b2⟩
    rw [HL.out]
    have hX2 := hX1.step b2
    have ho := ownsRow_below hown0 b2 (Nat.le_refl _)
    clear p0 p1 hown0
    go_wp2_with fail
    go_ret
    exact ⟨_, rfl, by rw [HF.out]; exact ownsRow_base ho (Nat.le_succ _), hX2.below⟩
  | true =>
    obtain ⟨y0, o', hO0⟩ := (logicB_is hl).ortho
    have hkn : k = m.n := (logicB_is hl).pair.len
    subst hkn
    have hO := hO0.own
    obtain ⟨y, hyy⟩ : ∃ y : Nat → Nat, y = fun a => (z a).toNat := ⟨_, rfl⟩
    rw [← hyy] at hO
    have hn := hO.lat.order.top
    have HL := Lib.hid hl
    have HY := Lib.hid (hO.yesV9 hl)
    have HO := Lib.hid hO
    have h12 := pow_le_12 hn
    obtain ⟨P, hP⟩ : ∃ P, P = 2 ^ m.n := ⟨_, rfl⟩
    have hPp : 1 ≤ P := by rw [hP]; exact Nat.one_le_two_pow
    have HV : Hid (statesV m m.n z = listTo (stateB m y o') P) := by show _ = _; rw [hO.statesV hl hyy, hP]; rfl
    have H0 := Lib.hid (state_zero m y o')
    have HPe := Lib.hid hP
    rw [← hP] at h12
    have e0 : ((2 : Int) ^ m.n) = (P : Int) := by rw [hP]; push_cast; rfl
    have e1 : wrap64 ((2 : Int) ^ m.n) = (P : Int) := by rw [e0]; exact IntWalk.wrap64_in _ (by omega)
    clear hl hO hO0 hyy hP
    obtain ⟨i0, hi, hz0, hz1, hz2⟩ := info_parts infoInt
    have HI := Lib.hid hi
    have HZ0 := Lib.hid hz0
    have HZ1 := Lib.hid hz1
    have HZ2 := Lib.hid hz2
    clear hi hz0 hz1 hz2
    go_enter Try.func41, Try.ntmps41
    have hown0 : ((w.alloc (.cells #[.slice ua m.n l.cap, .slice na m.n nc] 26)).alloc (.cells #[] 3)).ownsRow (w.heap.size + 1) 3 1 (.slice (some ⟨w.heap.size + 1, 0, none⟩) 0 0) 0 [] := by
      rw [← hsz]
      exact World.ownsRow_lit (base := (w.alloc (.cells #[.slice ua m.n l.cap, .slice na m.n nc] 26)).heap.size) (e := 3) (size := 1) _ #[] 0 (Nat.le_refl _) (Nat.zero_le _) rfl
    have hb1 := (Below.refl (w.alloc (.cells #[.slice ua m.n l.cap, .slice na m.n nc] 26)).heap.size (w.alloc (.cells #[.slice ua m.n l.cap, .slice na m.n nc] 26))).alloc (Nat.le_refl _) (.cells #[] 3)
    have HK : Hid (∀ wi, Below (w.heap.size + 1) ((w.alloc (.cells #[.slice ua m.n l.cap, .slice na m.n nc] 26)).alloc (.cells #[] 3)) wi → (wi.cell? ⟨w.heap.size, 0, none⟩ = some (.slice ua m.n l.cap) ∧ wi.cell? ⟨w.heap.size, 1, none⟩ = some (.slice na m.n nc)) ∧ LogAt wi B ua l m na g o m.n z ∧ Below w.heap.size w wi) := fun wi hb => by
      have b9 : Below (w.alloc (.cells #[.slice ua m.n l.cap, .slice na m.n nc] 26)).heap.size (w.alloc (.cells #[.slice ua m.n l.cap, .slice na m.n nc] 26)) wi := hb1.trans (by rw [hsz]; exact hb)
      exact ⟨⟨(hX.step b9).cell 0 rfl, (hX.step b9).cell 1 rfl⟩, h1.out.step b9, (hX.step b9).below⟩
    have hs1 : ((w.alloc (.cells #[.slice ua m.n l.cap, .slice na m.n nc] 26)).alloc (.cells #[] 3)).heap.size = w.heap.size + 2 := by simp
    clear q0 q1 h1 hX hb1
    obtain ⟨⟨p0, p1⟩, h20, _⟩ := HK.out _ (Below.refl _ _)
    have h2 := Lib.hid h20
    clear h20
    go_wp2_with fail
    generalize hW1 : (w.alloc (.cells #[.slice ua m.n l.cap, .slice na m.n nc] 26)).alloc (.cells #[] 3) = W1 at hown0 HK h2 p0 p1 hs1 ⊢
    clear hW1
    go_at_call 34
    refine (spec_LogicOk h2.out).mono ?_
    rintro e w3 ⟨rfl, b3⟩
    rw [HL.out]
    have D3 : Below (w.heap.size + 1) W1 w3 := b3.mono (by omega)
    have hown3 := ownsRow_below hown0 b3 (Nat.le_refl _)
    obtain ⟨⟨r0, r1⟩, h30, _⟩ := HK.out _ D3
    have h3 := Lib.hid h30
    clear p0 p1 hown0 h2 h30
    go_wp2_with fail
    go_at_call 48
    refine (spec_YesOf h3.out).mono ?_
    rintro e w4 ⟨rfl, b4⟩
    rw [HY.out]
    have D4 : Below (w.heap.size + 1) W1 w4 := D3.trans (b4.mono (by have := D3.size; omega))
    have HOut := Lib.hid (ownsRow_below hown3 b4 (Nat.le_refl _))
    clear r0 r1 hown3 h3 D3 b3 b4
    go_wp2_with fail
    go_loopw [3, 5] (fun t i wi => ∃ s : Nat, 1 ≤ s ∧ s ≤ P ∧ i = .int .i64 s ∧ wi.ownsRow (w.heap.size + 1) 3 1 t (listTo (stateB m y o') s).length ((listTo (stateB m y o') s).map (Value.int .i64)) ∧ Below (w.heap.size + 1) W1 wi) (fun _ i _ => P - (intOf i).toNat)
    case atStart =>
      refine ⟨1, Nat.le_refl _, hPp, rfl, ?_, D4⟩
      rw [show listTo (stateB m y o') 1 = [] from (listTo_no H0.out).trans rfl]
      exact HOut.out
    case round =>
      clear HOut D4
      obtain ⟨s, hs1', hsP, rfl, hown, hD⟩ := hrel
      obtain ⟨⟨q0, q1⟩, hr0, BZ⟩ := HK.out _ hD
      have hr := Lib.hid hr0
      have hm64 : (m.n : Int) ≤ 64 := by omega
      have hm63 : (m.n : Int) < 64 := by omega
      have hBs : w.heap.size + 2 ≤ wr.heap.size := by have := hD.size; omega
      clear hr0
      by_cases hst : s < P
      · have hst' : (s : Int) < (P : Int) := by omega
        have hst2 : (s : Int) < 2 ^ m.n := by rw [e0]; exact hst'
        cases hb : stateB m y o' s with
        | false =>
          have HBs := Lib.hid hb
          have HN := Lib.hid (listTo_no hb)
          clear hb
          go_wp2_with fail
          go_at_call 47
          refine (l9State_any (nc := nc) (s := s) hr.out HO.out (by omega)).mono ?_
          rintro e w5 ⟨rfl, b5⟩
          rw [HBs.out]
          have hD5 := hD.trans (b5.mono (by omega))
          have hown5 := ownsRow_below hown b5 (Nat.le_refl _)
          clear q0 q1 hr hown
          go_wp2_with fail
          go_roundw
          case rel => exact ⟨s + 1, by omega, by omega, by go_num, by rw [HN.out]; exact hown5, hD5⟩
          case measure => simp [intOf]; omega
        | true =>
          have HBs := Lib.hid hb
          have HN := Lib.hid (listTo_yes hb)
          have hlen := listTo_len (stateB m y o') s
          clear hb
          go_wp2_with fail
          go_at_call 47
          refine (l9State_any (nc := nc) (s := s) hr.out HO.out (by omega)).mono ?_
          rintro e w5 ⟨rfl, b5⟩
          rw [HBs.out]
          have hD5 := hD.trans (b5.mono (by omega))
          have hown5 := ownsRow_below hown b5 (Nat.le_refl _)
          have hs5 : w.heap.size + 1 ≤ w5.heap.size := by have := b5.size; omega
          clear q0 q1 hr hown
          go_wp2_with (at_builtin; refine wpList_append_own _ rfl _ _ 24 rfl (w.heap.size + 1) 3 i0 (.int .i64 0) 1 8 Try.underlying24 HI.out HZ0.out HZ1.out HZ2.out rfl (by decide) _ _ _ rfl (World.ownsRow.alloc hown5 _) ⟨w5.heap.size, 0, none⟩ 1 1 [.int .i64 (s : Int)] rfl rfl (cell_one_new _ _ _) ?ac2 ?ac3 ?ac4 ?ac5 ?_)
          case ac2 => simp [Value.oneCell']
          case ac3 => unfold maxLen; omega
          case ac4 => omega
          try (case ac5 => first | omega | (simp; omega))
          intro v' w6 hown6 hgrow _
          have HO6 : Hid (w6.ownsRow (w.heap.size + 1) 3 1 v' (listTo (stateB m y o') (s + 1)).length ((listTo (stateB m y o') (s + 1)).map (Value.int .i64))) := by
            show World.ownsRow _ _ _ _ _ _ _
            rw [HN.out, List.length_append, List.map_append]
            exact hown6
          have HD6 := Lib.hid ((hD5.alloc hs5 (.cells #[.int .i64 (s : Int)] 3)).grown hgrow (by simp; omega) (fun c hc => by have := ownsRow_block hown5 c hc; omega))
          clear hown6 hgrow hown5 hD5
          go_wp2_with fail
          go_roundw
          case rel => exact ⟨s + 1, by omega, by omega, by go_num, HO6.out, HD6.out⟩
          case measure => simp [intOf]; omega
      · have hst' : ¬ (s : Int) < (P : Int) := by omega
        have hst2 : ¬ (s : Int) < 2 ^ m.n := by rw [e0]; exact hst'
        have es : s = P := by omega
        have HF : Hid (statesV m m.n z = listTo (stateB m y o') s) := by show _ = _; rw [HV.out, es]
        go_wp2_with fail
        go_ret
        exact ⟨_, rfl, by rw [HF.out]; exact ownsRow_base hown (Nat.le_succ _), BZ⟩
end Go.Proofs.Ytnbglbhfclohjaa
