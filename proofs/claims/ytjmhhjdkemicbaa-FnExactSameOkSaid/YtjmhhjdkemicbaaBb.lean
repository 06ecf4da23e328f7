/- The walks of the program's agreeing and of the closure that it hands back. The walks of the program's allAgree, CentreOf and BothWaysOk. -/
import Derived.Test.YtjmhhjdkemicbaaAa
import Derived.Test.YtjmhhjdkemicbaaMathL
import Derived.Test.YtjmhhjdkemicbaaHb
import Derived.Test.YtjmhhjdkemicbaaFa
namespace Go.Proofs.Ytjmhhjdkemicbaa
open Go.RowKit Go.Deep Go.Shelf

attribute [local go_sem] Oper.semAt_some

/-! ### The iterator over pairs, where the body may write into memory of its own -/
/-- One block lies as it lay. -/
def KeptB (k : Nat) (A B : World) : Prop := B.heap[k]? = A.heap[k]?
theorem KeptB.trans {k : Nat} {A B C : World} (h : KeptB k A B) (h' : KeptB k B C) : KeptB k A C := Eq.trans h' h
theorem KeptB.put {k : Nat} {w : World} (hk : k < w.heap.size) (W : World) (l : Nat) (o o' : Obj) (hl : w.heap.size ≤ l) (_ : W.heap[l]? = some o) (_ : o.isCells = false) (_ : o.isWalk = false) : KeptB k W (W.putObj l o') :=
  World.putObj_heap_other (by omega)

set_option maxRecDepth 100000 in
set_option maxHeartbeats 2000000 in
theorem pairs_stopsK (d n : Nat) (hd : 1 ≤ d) (hn : n ≤ 12) (Bx cap : Nat) (sa : Option Addr) (w : World) (hB : Bx < w.heap.size) (hc : w.cell? ⟨Bx, 0, none⟩ = some (.slice sa n cap)) :
    SeqStopsK Fence.wide d Try.prog 72 #[.pointer (some ⟨Bx, 0, none⟩)] (encP (n := n)) (KeptB Bx) (fun ys => ∀ a b : Fin n, (a, b) ∈ ys) (fun _ => True) (n * n) w := fun l J Jx W hW _ _ hY h0 => by
  have hcW : W.cell? ⟨Bx, 0, none⟩ = some (.slice sa n cap) := (hW.cell (p := ⟨Bx, 0, none⟩) (by show Bx < _; omega)).trans hc
  have hY := Lib.hid hY
  clear hc hW
  refine callsIn_of_wp Try.func72 rfl trivial ?_ rfl
  simp only [Try.ntmps72, List.size_toArray, List.length_cons, List.length_nil, Nat.reduceAdd, Nat.reduceSub, Array.replicate_succ, Array.replicate_zero, List.push_toArray, List.append_toArray, List.nil_append, List.cons_append]
  gi_wp2
  gi_loopw [8] (fun i wr => ∃ (k : Nat) (pre : List (Fin n × Fin n)), k ≤ n ∧ i = .int .i64 k ∧ J pre wr ∧ Hid (KeptB Bx W wr) ∧ Hid (pre.length = k * n) ∧ Hid (∀ a b : Fin n, a.val < k → (a, b) ∈ pre))
    (fun i _ => n - (intOf i).toNat)
  case atStart => exact ⟨0, [], Nat.zero_le _, rfl, h0, rfl, by show _ = _; simp, fun a b h => absurd h (Nat.not_lt_zero _)⟩
  case round =>
    obtain ⟨k, pre, hk, rfl, hJ, hX, hlen, hin⟩ := hrel
    have hcx : wr.cell? ⟨Bx, 0, none⟩ = some (.slice sa n cap) := (World.cell?_of_block (show wr.heap[Bx]? = W.heap[Bx]? from hX.out)).trans hcW
    clear hcW
    by_cases hlt : k < n
    · have hlt' : (k : Int) < n := by omega
      gi_wp2
      gi_loopw [14] (fun i wi => ∃ (j : Nat) (pre' : List (Fin n × Fin n)), j ≤ n ∧ i = .int .i64 j ∧ J pre' wi ∧ Hid (KeptB Bx wr wi) ∧ Hid (pre'.length = k * n + j) ∧ Hid (∀ a b : Fin n, a.val < k ∨ (a.val = k ∧ b.val < j) → (a, b) ∈ pre'))
        (fun i _ => n - (intOf i).toNat)
      case atStart => exact ⟨0, pre, Nat.zero_le _, rfl, hJ, rfl, by show _ = _; rw [hlen.out]; simp, fun a b h => by
        rcases h with h | ⟨_, h⟩
        · exact hin.out a b h
        · exact absurd h (Nat.not_lt_zero _)⟩
      case round =>
        obtain ⟨j, pre', hj, rfl, hJ', hX', hlen', hin'⟩ := hrel
        have hcx' : wr.cell? ⟨Bx, 0, none⟩ = some (.slice sa n cap) := (World.cell?_of_block (show wr.heap[Bx]? = _ from hX'.out)).trans hcx
        clear hcx
        by_cases hjt : j < n
        · have hjt' : (j : Int) < n := by omega
          obtain ⟨fn, tmps, assign, body, hy, hR⟩ := hY.out pre' (⟨k, hlt⟩, ⟨j, hjt⟩) wr hJ' (by rw [hlen'.out]; exact room_pairs hlt hjt)
          dsimp only [encP] at hy
          gi_wp2
          refine hR.mono ?_
          rintro e W3 (⟨rfl, hJ3, hk3⟩ | ⟨rfl, hJx3⟩)
          · have hk4 := Lib.hid (KeptB.trans hX'.out hk3)
            clear hk3
            gi_wp2
            go_roundw
            case rel => exact ⟨j + 1, _, by omega, by go_num, hJ3, hk4, by show _ = _; rw [List.length_append, hlen'.out]; simp; omega, fun a b h => by
              rw [List.mem_append]
              by_cases e : a.val = k ∧ b.val = j
              · right
                obtain ⟨e1, e2⟩ := e
                have ea : a = ⟨k, hlt⟩ := Fin.ext e1
                have eb : b = ⟨j, hjt⟩ := Fin.ext e2
                rw [ea, eb]; simp
              · left
                exact hin'.out a b (by omega)⟩
            case measure => simp [intOf]; omega
          · gi_wp2
            refine bodyPost_ret (results_none rfl _ _ _) rfl ?_
            exact ⟨⟨_, rfl⟩, .inr ⟨_, trivial, hJx3⟩⟩
        · have hjt' : ¬ (j : Int) < n := by omega
          have hk4 := Lib.hid (KeptB.trans hX.out hX'.out)
          gi_wp2
          go_roundw
          case rel => exact ⟨k + 1, pre', by omega, by go_num, hJ', hk4, by show _ = _; rw [hlen'.out, Nat.succ_mul]; omega, fun a b h => hin'.out a b (by have := b.isLt; omega)⟩
          case measure => simp [intOf]; omega
    · have hlt' : ¬ (k : Int) < n := by omega
      gi_wp2
      go_end0
      exact ⟨⟨_, rfl⟩, .inl ⟨pre, fun a b => hin.out a b (by have := a.isLt; omega), hJ⟩⟩

/-! ### Rows of bits -/
/-- The rows under way: the bits of the pairs so far that agree. -/
structure RB (m : Mx) (y : Nat → Nat) (mb bx : Nat) (pre : List (Fin m.n × Fin m.n)) (W : World) : Prop where
  top : W.cell? ⟨bx, 0, none⟩ = some (.slice (some ⟨mb, 0, none⟩) m.n m.n)
  row : ∀ a, a < m.n → ∃ s : Nat, s < 4096 ∧ W.cell? ⟨mb, a, none⟩ = some (.int .i64 (s : Int)) ∧ W.frozen? ⟨mb, a, none⟩ = false ∧ ∀ b, b < m.n → (s.testBit b = true ↔ agB m y a b = true ∧ ∃ x ∈ pre, x.1.val = a ∧ x.2.val = b)
theorem RB.keep {m : Mx} {y : Nat → Nat} {mb bx : Nat} {pre : List (Fin m.n × Fin m.n)} {W W' : World} (h : RB m y mb bx pre W) (h1 : ∀ p : Addr, (W.cell? p).isSome = true → p.block = mb ∨ p.block = bx → W'.cell? p = W.cell? p ∧ W'.frozen? p = W.frozen? p) : RB m y mb bx pre W' :=
  ⟨(h1 _ (by rw [h.top]; rfl) (.inr rfl)).1.trans h.top, fun a ha => by
    obtain ⟨s, hs, hc, hf, hb⟩ := h.row a ha
    obtain ⟨k1, k2⟩ := h1 ⟨mb, a, none⟩ (by rw [hc]; rfl) (.inl rfl)
    exact ⟨s, hs, k1.trans hc, k2.trans hf, hb⟩⟩
theorem RB.below {m : Mx} {y : Nat → Nat} {mb bx : Nat} {pre : List (Fin m.n × Fin m.n)} {W W' : World} (h : RB m y mb bx pre W) (hb : Below W.heap.size W W') : RB m y mb bx pre W' :=
  h.keep fun p hp _ => by
    obtain ⟨v, hv⟩ := Option.isSome_iff_exists.1 hp
    have := World.block_lt_of_cell? _ _ hv
    exact ⟨hb.cell this, hb.frozen this⟩
theorem RB.own (m : Mx) (y : Nat → Nat) (mb bx : Nat) : Own (fun (pre : List (Fin m.n × Fin m.n)) W => RB m y mb bx pre W) := fun s A B row hs hg hr => hs.keep fun p hp _ => by
  obtain ⟨v, hv⟩ := Option.isSome_iff_exists.1 hp
  exact ⟨(cell_kept hv hg hr).trans hv.symm, frozen_kept hv hg hr⟩
theorem RB.skip {m : Mx} {y : Nat → Nat} {mb bx : Nat} {pre : List (Fin m.n × Fin m.n)} {W : World} (h : RB m y mb bx pre W) {x : Fin m.n × Fin m.n} (hx : agB m y x.1.val x.2.val = false) : RB m y mb bx (pre ++ [x]) W :=
  ⟨h.top, fun a ha => by
    obtain ⟨s, hs, hc, hf, hb⟩ := h.row a ha
    refine ⟨s, hs, hc, hf, fun b hbn => (hb b hbn).trans ?_⟩
    constructor
    · rintro ⟨e, p, hp, e1, e2⟩
      exact ⟨e, p, List.mem_append_left _ hp, e1, e2⟩
    · rintro ⟨e, p, hp, e1, e2⟩
      rcases List.mem_append.1 hp with hp | hp
      · exact ⟨e, p, hp, e1, e2⟩
      · exfalso
        have e3 : p = x := by simpa using hp
        rw [← e1, ← e2, e3, hx] at e
        exact Bool.false_ne_true e⟩
theorem or_lt12 {s b : Nat} (hs : s < 4096) (hb : b < 12) : s ||| 2 ^ b < 4096 := by
  have h1 : 2 ^ b < 2 ^ 12 := Nat.pow_lt_pow_right (by omega) hb
  exact Nat.or_lt_two_pow (n := 12) hs h1
theorem RB.set {m : Mx} {y : Nat → Nat} {mb bx : Nat} {pre : List (Fin m.n × Fin m.n)} {W : World} (h : RB m y mb bx pre W) (hne : bx ≠ mb) (hn : m.n ≤ 12) {a b s : Nat} (ha : a < m.n) (hb : b < m.n) (hx : agB m y a b = true) (hs : W.cell? ⟨mb, a, none⟩ = some (.int .i64 (s : Int))) :
    RB m y mb bx (pre ++ [(⟨a, ha⟩, ⟨b, hb⟩)]) (W.setCell ⟨mb, a, none⟩ (.int .i64 ((s ||| 2 ^ b : Nat) : Int))) :=
  ⟨(World.cell?_setCell_other _ _ _ _ (by intro e; exact hne (congrArg Addr.block e).symm)).trans h.top, fun c hc => by
    obtain ⟨t, ht, hct, hf, hbt⟩ := h.row c hc
    by_cases e : c = a
    · subst e
      have est : s = t := by
        rw [hs] at hct
        have e9 : (s : Int) = (t : Int) := by simpa using hct
        omega
      subst est
      refine ⟨s ||| 2 ^ b, or_lt12 ht (by omega), World.cell?_setCell_same' _ _ _ (by rw [hs]; rfl), by rw [World.frozen?_setCell]; exact hf, fun d hd => ?_⟩
      rw [Nat.testBit_or, Bool.or_eq_true, hbt d hd, Nat.testBit_two_pow, decide_eq_true_iff]
      constructor
      · rintro (⟨e1, p, hp, e2, e3⟩ | e1)
        · exact ⟨e1, p, List.mem_append_left _ hp, e2, e3⟩
        · subst e1
          exact ⟨hx, _, List.mem_append_right _ (List.mem_singleton.2 rfl), rfl, rfl⟩
      · rintro ⟨e1, p, hp, e2, e3⟩
        rcases List.mem_append.1 hp with hp | hp
        · exact .inl ⟨e1, p, hp, e2, e3⟩
        · right
          have e4 : p = (⟨c, ha⟩, ⟨b, hb⟩) := by simpa using hp
          rw [e4] at e3
          exact e3
    · refine ⟨t, ht, (World.cell?_setCell_other _ _ _ _ (by intro e2; exact e (congrArg Addr.off e2).symm)).trans hct, by rw [World.frozen?_setCell]; exact hf, fun d hd => (hbt d hd).trans ?_⟩
      constructor
      · rintro ⟨e1, p, hp, e2, e3⟩
        exact ⟨e1, p, List.mem_append_left _ hp, e2, e3⟩
      · rintro ⟨e1, p, hp, e2, e3⟩
        rcases List.mem_append.1 hp with hp | hp
        · exact ⟨e1, p, hp, e2, e3⟩
        · exfalso
          have e4 : p = (⟨a, ha⟩, ⟨b, hb⟩) := by simpa using hp
          rw [e4] at e2
          exact e e2.symm⟩

theorem made_rep (c : Nat) : madeCells #[Value.int .i64 0] c = Array.replicate c (Value.int .i64 0) := by rw [← List.toArray_replicate, ← toList_madeCells_one]
/-- What agreeing hands back: a function value over rows of bits. -/
structure AgAt (m : Mx) (y : Nat → Nat) (mb bx : Nat) (W : World) : Prop where
  top : W.cell? ⟨bx, 0, none⟩ = some (.slice (some ⟨mb, 0, none⟩) m.n m.n)
  row : ∀ a, a < m.n → ∃ s : Nat, s < 4096 ∧ W.cell? ⟨mb, a, none⟩ = some (.int .i64 (s : Int)) ∧ ∀ b, b < m.n → s.testBit b = agB m y a b
theorem AgAt.step {m : Mx} {y : Nat → Nat} {mb bx : Nat} {W W' : World} (h : AgAt m y mb bx W) (hb : Below W.heap.size W W') : AgAt m y mb bx W' :=
  ⟨(hb.cell (World.block_lt_of_cell? _ _ h.top)).trans h.top, fun a ha => by
    obtain ⟨s, hs, hc, hr⟩ := h.row a ha
    exact ⟨s, hs, (hb.cell (World.block_lt_of_cell? _ _ hc)).trans hc, hr⟩⟩
theorem AgAt.put {m : Mx} {y : Nat → Nat} {mb bx D : Nat} {W : World} (h : AgAt m y mb bx W) {o : Obj} (hl : W.heap[D]? = some o) (ho : o.isCells = false) (o' : Obj) : AgAt m y mb bx (W.putObj D o') :=
  ⟨cell_kept h.top (grownBy_putObj' _ D o') (fun r e => by cases e; exact ⟨_, hl, ho⟩), fun a ha => by
    obtain ⟨s, hs, hc, hr⟩ := h.row a ha
    exact ⟨s, hs, cell_kept hc (grownBy_putObj' _ D o') (fun r e => by cases e; exact ⟨_, hl, ho⟩), hr⟩⟩
theorem RB.all {m : Mx} {y : Nat → Nat} {mb bx : Nat} {pre : List (Fin m.n × Fin m.n)} {W : World} (h : RB m y mb bx pre W) (hall : ∀ a b : Fin m.n, (a, b) ∈ pre) : AgAt m y mb bx W :=
  ⟨h.top, fun a ha => by
    obtain ⟨s, hs, hc, _, hb⟩ := h.row a ha
    refine ⟨s, hs, hc, fun b hbn => ?_⟩
    rw [Bool.eq_iff_iff, hb b hbn]
    exact ⟨fun e => e.1, fun e => ⟨e, (⟨a, ha⟩, ⟨b, hbn⟩), hall _ _, rfl, rfl⟩⟩⟩
theorem RB.none_yet {m : Mx} {y : Nat → Nat} {mb bx : Nat} {W : World} (htop : W.cell? ⟨bx, 0, none⟩ = some (.slice (some ⟨mb, 0, none⟩) m.n m.n)) (hrow : ∀ a, a < m.n → W.cell? ⟨mb, a, none⟩ = some (.int .i64 0) ∧ W.frozen? ⟨mb, a, none⟩ = false) : RB m y mb bx [] W :=
  ⟨htop, fun a ha => ⟨0, by omega, (hrow a ha).1, (hrow a ha).2, fun b hb => by simp⟩⟩
end Go.Proofs.Ytjmhhjdkemicbaa
namespace Go.Proofs.Ytjmhhjdkemicbaa
open Go.RowKit Go.Deep Go.Shelf

attribute [local go_sem] Oper.semAt_some

def bothPB (m : Mx) (y : Nat → Nat) (a b : Nat) : Bool := !agB m y a b || agB m y b a
/-- Nothing speaks against the pairs of the list. -/
def AllBoth (m : Mx) (y : Nat → Nat) (pre : List (Fin m.n × Fin m.n)) : Prop := ∀ p ∈ pre, bothPB m y p.1.val p.2.val = true
theorem AllBoth.snoc {m : Mx} {y : Nat → Nat} {pre : List (Fin m.n × Fin m.n)} (h : AllBoth m y pre) {x : Fin m.n × Fin m.n} (hx : bothPB m y x.1.val x.2.val = true) : AllBoth m y (pre ++ [x]) := fun p hp => by
  rcases List.mem_append.1 hp with e | e
  · exact h p e
  · have e' : p = x := by simpa using e
    rw [e']; exact hx
theorem AllBoth.all {m : Mx} {y : Nat → Nat} {pre : List (Fin m.n × Fin m.n)} (h : AllBoth m y pre) (hall : ∀ a b : Fin m.n, (a, b) ∈ pre) : twoWaysB m y = true := by
  unfold twoWaysB
  refine allB_true fun a ha => allB_true fun b hb => ?_
  have h1 := h (⟨a, ha⟩, ⟨b, hb⟩) (hall _ _)
  unfold bothPB at h1
  exact h1

end Go.Proofs.Ytjmhhjdkemicbaa
