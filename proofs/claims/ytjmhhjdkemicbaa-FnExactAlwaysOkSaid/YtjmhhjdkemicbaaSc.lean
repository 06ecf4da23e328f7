/- The walks of the program's company (for each answer the set of those with which it agrees both ways) and shared (what agrees with all of a set). -/
import Derived.Test.YtjmhhjdkemicbaaBb
import Derived.Test.YtjmhhjdkemicbaaYi
import Derived.Test.YtjmhhjdkemicbaaSb
import Derived.Test.YtjmhhjdkemicbaaMathR
namespace Go.Proofs.Ytjmhhjdkemicbaa
open Go.RowKit Go.Deep Go.Shelf

attribute [local go_sem] Oper.semAt_some

theorem or_ltN {s b n : Nat} (hs : s < 2 ^ n) (hb : b < n) : s ||| 2 ^ b < 2 ^ n := Nat.or_lt_two_pow hs (Nat.pow_lt_pow_right (by omega) hb)
/-- Rows of bits under way: the pairs so far that pass a test. -/
structure RG (n : Nat) (p : Nat → Nat → Bool) (mb : Nat) (pre : List (Fin n × Fin n)) (W : World) : Prop where
  row : ∀ a, a < n → ∃ s : Nat, s < 2 ^ n ∧ W.cell? ⟨mb, a, none⟩ = some (.int .i64 (s : Int)) ∧ W.frozen? ⟨mb, a, none⟩ = false ∧ ∀ b, b < n → (s.testBit b = true ↔ p a b = true ∧ ∃ x ∈ pre, x.1.val = a ∧ x.2.val = b)
section
variable {n : Nat} {p : Nat → Nat → Bool} {mb : Nat} {pre : List (Fin n × Fin n)} {W W' : World}
theorem RG.keep (h : RG n p mb pre W) (h1 : ∀ q : Addr, (W.cell? q).isSome = true → q.block = mb → W'.cell? q = W.cell? q ∧ W'.frozen? q = W.frozen? q) : RG n p mb pre W' :=
  ⟨fun a ha => by
    obtain ⟨s, hs, hc, hf, hb⟩ := h.row a ha
    obtain ⟨k1, k2⟩ := h1 ⟨mb, a, none⟩ (by rw [hc]; rfl) rfl
    exact ⟨s, hs, k1.trans hc, k2.trans hf, hb⟩⟩
theorem RG.below (h : RG n p mb pre W) (hb : Below W.heap.size W W') : RG n p mb pre W' :=
  h.keep fun q hq _ => by
    obtain ⟨v, hv⟩ := Option.isSome_iff_exists.1 hq
    have := World.block_lt_of_cell? _ _ hv
    exact ⟨hb.cell this, hb.frozen this⟩
theorem RG.own (n : Nat) (p : Nat → Nat → Bool) (mb : Nat) : Own (fun (pre : List (Fin n × Fin n)) W => RG n p mb pre W) := fun _ _ _ _ hs hg hr => hs.keep fun q hq _ => by
  obtain ⟨v, hv⟩ := Option.isSome_iff_exists.1 hq
  exact ⟨(cell_kept hv hg hr).trans hv.symm, frozen_kept hv hg hr⟩
theorem RG.skip (h : RG n p mb pre W) {x : Fin n × Fin n} (hx : p x.1.val x.2.val = false) : RG n p mb (pre ++ [x]) W :=
  ⟨fun a ha => by
    obtain ⟨s, hs, hc, hf, hb⟩ := h.row a ha
    refine ⟨s, hs, hc, hf, fun b hbn => (hb b hbn).trans ?_⟩
    constructor
    · rintro ⟨e, q, hq, e1, e2⟩
      exact ⟨e, q, List.mem_append_left _ hq, e1, e2⟩
    · rintro ⟨e, q, hq, e1, e2⟩
      rcases List.mem_append.1 hq with hq | hq
      · exact ⟨e, q, hq, e1, e2⟩
      · exfalso
        have e3 : q = x := by simpa using hq
        rw [← e1, ← e2, e3, hx] at e
        exact Bool.false_ne_true e⟩
theorem RG.set (h : RG n p mb pre W) {a b s : Nat} (ha : a < n) (hb : b < n) (hx : p a b = true) (hs : W.cell? ⟨mb, a, none⟩ = some (.int .i64 (s : Int))) :
    RG n p mb (pre ++ [(⟨a, ha⟩, ⟨b, hb⟩)]) (W.setCell ⟨mb, a, none⟩ (.int .i64 ((s ||| 2 ^ b : Nat) : Int))) :=
  ⟨fun c hc => by
    obtain ⟨t, ht, hct, hf, hbt⟩ := h.row c hc
    by_cases e : c = a
    · subst e
      have est : s = t := by
        rw [hs] at hct
        have e9 : (s : Int) = (t : Int) := by simpa using hct
        omega
      subst est
      refine ⟨s ||| 2 ^ b, or_ltN ht hb, World.cell?_setCell_same' _ _ _ (by rw [hs]; rfl), by rw [World.frozen?_setCell]; exact hf, fun d hd => ?_⟩
      rw [Nat.testBit_or, Bool.or_eq_true, hbt d hd, Nat.testBit_two_pow, decide_eq_true_iff]
      constructor
      · rintro (⟨e1, q, hq, e2, e3⟩ | e1)
        · exact ⟨e1, q, List.mem_append_left _ hq, e2, e3⟩
        · subst e1
          exact ⟨hx, _, List.mem_append_right _ (List.mem_singleton.2 rfl), rfl, rfl⟩
      · rintro ⟨e1, q, hq, e2, e3⟩
        rcases List.mem_append.1 hq with hq | hq
        · exact .inl ⟨e1, q, hq, e2, e3⟩
        · right
          have e4 : q = (⟨c, ha⟩, ⟨b, hb⟩) := by simpa using hq
          rw [e4] at e3
          exact e3
    · refine ⟨t, ht, (World.cell?_setCell_other _ _ _ _ (by intro e2; exact e (congrArg Addr.off e2).symm)).trans hct, by rw [World.frozen?_setCell]; exact hf, fun d hd => (hbt d hd).trans ?_⟩
      constructor
      · rintro ⟨e1, q, hq, e2, e3⟩
        exact ⟨e1, q, List.mem_append_left _ hq, e2, e3⟩
      · rintro ⟨e1, q, hq, e2, e3⟩
        rcases List.mem_append.1 hq with hq | hq
        · exact ⟨e1, q, hq, e2, e3⟩
        · exfalso
          have e4 : q = (⟨a, ha⟩, ⟨b, hb⟩) := by simpa using hq
          rw [e4] at e2
          exact e e2.symm⟩
theorem RG.none_yet (hrow : ∀ a, a < n → W.cell? ⟨mb, a, none⟩ = some (.int .i64 0) ∧ W.frozen? ⟨mb, a, none⟩ = false) : RG n p mb [] W :=
  ⟨fun a ha => ⟨0, Nat.two_pow_pos _, (hrow a ha).1, (hrow a ha).2, fun b hb => by simp⟩⟩
end
/-- For each answer the set of those with which it agrees both ways. -/
structure CompAt (m : Mx) (y : Nat → Nat) (mb : Nat) (W : World) : Prop where
  row : ∀ a, a < m.n → ∃ s : Nat, s < 2 ^ m.n ∧ W.cell? ⟨mb, a, none⟩ = some (.int .i64 (s : Int)) ∧ ∀ b, b < m.n → s.testBit b = adjB m y a b
theorem CompAt.step {m : Mx} {y : Nat → Nat} {mb : Nat} {W W' : World} (h : CompAt m y mb W) (hb : Below W.heap.size W W') : CompAt m y mb W' :=
  ⟨fun a ha => by
    obtain ⟨s, hs, hc, hr⟩ := h.row a ha
    exact ⟨s, hs, (hb.cell (World.block_lt_of_cell? _ _ hc)).trans hc, hr⟩⟩
theorem CompAt.put {m : Mx} {y : Nat → Nat} {mb D : Nat} {W : World} (h : CompAt m y mb W) {o : Obj} (hl : W.heap[D]? = some o) (ho : o.isCells = false) (o' : Obj) : CompAt m y mb (W.putObj D o') :=
  ⟨fun a ha => by
    obtain ⟨s, hs, hc, hr⟩ := h.row a ha
    exact ⟨s, hs, cell_kept hc (grownBy_putObj' _ D o') (fun r e => by cases e; exact ⟨_, hl, ho⟩), hr⟩⟩
theorem RG.all {m : Mx} {y : Nat → Nat} {mb : Nat} {pre : List (Fin m.n × Fin m.n)} {W : World} (h : RG m.n (adjB m y) mb pre W) (hall : ∀ a b : Fin m.n, (a, b) ∈ pre) : CompAt m y mb W :=
  ⟨fun a ha => by
    obtain ⟨s, hs, hc, _, hb⟩ := h.row a ha
    refine ⟨s, hs, hc, fun b hbn => ?_⟩
    rw [Bool.eq_iff_iff, hb b hbn]
    exact ⟨fun e => e.1, fun e => ⟨e, (⟨a, ha⟩, ⟨b, hbn⟩), hall _ _, rfl, rfl⟩⟩⟩
def CompRes (w : World) (m : Mx) (y : Nat → Nat) (e : Ending) (w' : World) : Prop := ∃ mb : Nat, e = .returned (.slice (some ⟨mb, 0, none⟩) m.n m.n) ∧ CompAt m y mb w' ∧ Below w.heap.size w w' ∧ w.heap.size ≤ mb

end Go.Proofs.Ytjmhhjdkemicbaa
