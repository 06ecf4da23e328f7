/- The walks of the program's agreeing and of the closure that it hands back. The walks of the program's allAgree, CentreOf and BothWaysOk. -/
import Derived.Test.YtnbglbhfclohjaaDoorAa
import Derived.Test.YtnbglbhfclohjaaDoorMathL
import Derived.Test.YtnbglbhfclohjaaDoorHb
import Derived.Test.YtnbglbhfclohjaaDoorFa
namespace Go.Proofs.YtnbglbhfclohjaaDoor
open Go.RowKit Go.Deep Go.Shelf

attribute [local go_sem] Oper.semAt_some

/-! ### The iterator over pairs, where the body may write into memory of its own -/
/-- One block lies as it lay. -/
def KeptB (k : Nat) (A B : World) : Prop := B.heap[k]? = A.heap[k]?
theorem KeptB.trans {k : Nat} {A B C : World} (h : KeptB k A B) (h' : KeptB k B C) : KeptB k A C := Eq.trans h' h
theorem KeptB.put {k : Nat} {w : World} (hk : k < w.heap.size) (W : World) (l : Nat) (o o' : Obj) (hl : w.heap.size ≤ l) (_ : W.heap[l]? = some o) (_ : o.isCells = false) (_ : o.isWalk = false) : KeptB k W (W.putObj l o') :=
  World.putObj_heap_other (by omega)

set_option maxRecDepth 100000 in
set_option maxHeartbeats 2000000 in
theorem pairs_stopsK (d n : Nat) (hd : 1 ≤ d) (hn : n ≤ 12) (Bx cap : Nat) (sa : Option Addr) (w : World) (hB : Bx < w.heap.size) (hc : w.cell? ⟨Bx, 0, none⟩ = some (.slice sa n cap)) :
    SeqStopsK Fence.wide d Tryd.prog 116 #[.pointer (some ⟨Bx, 0, none⟩)] (encP (n := n)) (KeptB Bx) (fun ys => ∀ a b : Fin n, (a, b) ∈ ys) (fun _ => True) (n * n) w := fun l J Jx W hW _ _ hY h0 => by
  have hcW : W.cell? ⟨Bx, 0, none⟩ = some (.slice sa n cap) := (hW.cell (p := ⟨Bx, 0, none⟩) (by show Bx < _; omega)).trans hc
  have hY := Lib.hid hY
  clear hc hW
  refine callsIn_of_wp Tryd.func116 rfl trivial ?_ rfl
  simp only [Tryd.ntmps116, List.size_toArray, List.length_cons, List.length_nil, Nat.reduceAdd, Nat.reduceSub, Array.replicate_succ, Array.replicate_zero, List.push_toArray, List.append_toArray, List.nil_append, List.cons_append]
  gi_wp2
  gi_loopw [8] (fun i wr => ∃ (k : Nat) (pre : List (Fin n × Fin n)), k ≤ n ∧ i = .int .i64 k ∧ J pre wr ∧ Hid (KeptB Bx W wr) ∧ Hid (pre.length = k * n) ∧ Hid (∀ a b : Fin n, a.val < k → (a, b) ∈ pre))
    (fun i _ => n - (intOf i).toNat)
  case atStart => exact ⟨0, [], Nat.zero_le _, rfl, h0, rfl, by show _ = _; simp, fun a b h => absurd h (Nat.not_lt_zero _)⟩
  case round =>
    obtain ⟨k, pre, hk, rfl, hJ, hX, hlen, hin⟩ := hrel
    have hcx : wr.cell? ⟨Bx, 0, none⟩ = some (.slice sa n cap) := (World.cell?_of_block (show wr.heap[Bx]? = W.heap[Bx]? from hX.out)).trans hcW
    clear hcW
    by_cases hlt : k < n
    · have hlt' : (k : Int) < n := by omega
      gi_wp2
      gi_loopw [14] (fun i wi => ∃ (j : Nat) (pre' : List (Fin n × Fin n)), j ≤ n ∧ i = .int .i64 j ∧ J pre' wi ∧ Hid (KeptB Bx wr wi) ∧ Hid (pre'.length = k * n + j) ∧ Hid (∀ a b : Fin n, a.val < k ∨ (a.val = k ∧ b.val < j) → (a, b) ∈ pre'))
        (fun i _ => n - (intOf i).toNat)
      case atStart => exact ⟨0, pre, Nat.zero_le _, rfl, hJ, rfl, by show _ = _; rw [hlen.out]; simp, fun a b h => by
        rcases h with h | ⟨_, h⟩
        · exact hin.out a b h
        · exact absurd h (Nat.not_lt_zero _)⟩
      case round =>
        obtain ⟨j, pre', hj, rfl, hJ', hX', hlen', hin'⟩ := hrel
        have hcx' : wr.cell? ⟨Bx, 0, none⟩ = some (.slice sa n cap) := (World.cell?_of_block (show wr.heap[Bx]? = _ from hX'.out)).trans hcx
        clear hcx
        by_cases hjt : j < n
        · have hjt' : (j : Int) < n := by omega
          obtain ⟨fn, tmps, assign, body, hy, hR⟩ := hY.out pre' (⟨k, hlt⟩, ⟨j, hjt⟩) wr hJ' (by rw [hlen'.out]; exact room_pairs hlt hjt)
          dsimp only [encP] at hy
          gi_wp2
          refine hR.mono ?_
          rintro e W3 (⟨rfl, hJ3, hk3⟩ | ⟨rfl, hJx3⟩)
          · have hk4 := Lib.hid (KeptB.trans hX'.out hk3)
            clear hk3
            gi_wp2
            go_roundw
            case rel => exact ⟨j + 1, _, by omega, by go_num, hJ3, hk4, by show _ = _; rw [List.length_append, hlen'.out]; simp; omega, fun a b h => by
              rw [List.mem_append]
              by_cases e : a.val = k ∧ b.val = j
              · right
                obtain ⟨e1, e2⟩ := e
                have ea : a = ⟨k, hlt⟩ := Fin.ext e1
                have eb : b = ⟨j, hjt⟩ := Fin.ext e2
                rw [ea, eb]; simp
              · left
                exact hin'.out a b (by omega)⟩
            case measure => simp [intOf]; omega
          · gi_wp2
            refine bodyPost_ret (results_none rfl _ _ _) rfl ?_
            exact ⟨⟨_, rfl⟩, .inr ⟨_, trivial, hJx3⟩⟩
        · have hjt' : ¬ (j : Int) < n := by omega
          have hk4 := Lib.hid (KeptB.trans hX.out hX'.out)
          gi_wp2
          go_roundw
          case rel => exact ⟨k + 1, pre', by omega, by go_num, hJ', hk4, by show _ = _; rw [hlen'.out, Nat.succ_mul]; omega, fun a b h => hin'.out a b (by have := b.isLt; omega)⟩
          case measure => simp [intOf]; omega
    · have hlt' : ¬ (k : Int) < n := by omega
      gi_wp2
      go_end0
      exact ⟨⟨_, rfl⟩, .inl ⟨pre, fun a b => hin.out a b (by have := a.isLt; omega), hJ⟩⟩

/-! ### Rows of bits -/
/-- The rows under way: the bits of the pairs so far that agree. -/
structure RB (m : Mx) (y : Nat → Nat) (mb bx : Nat) (pre : List (Fin m.n × Fin m.n)) (W : World) : Prop where
  top : W.cell? ⟨bx, 0, none⟩ = some (.slice (some ⟨mb, 0, none⟩) m.n m.n)
  row : ∀ a, a < m.n → ∃ s : Nat, s < 4096 ∧ W.cell? ⟨mb, a, none⟩ = some (.int .i64 (s : Int)) ∧ W.frozen? ⟨mb, a, none⟩ = false ∧ ∀ b, b < m.n → (s.testBit b = true ↔ agB m y a b = true ∧ ∃ x ∈ pre, x.1.val = a ∧ x.2.val = b)
theorem RB.keep {m : Mx} {y : Nat → Nat} {mb bx : Nat} {pre : List (Fin m.n × Fin m.n)} {W W' : World} (h : RB m y mb bx pre W) (h1 : ∀ p : Addr, (W.cell? p).isSome = true → p.block = mb ∨ p.block = bx → W'.cell? p = W.cell? p ∧ W'.frozen? p = W.frozen? p) : RB m y mb bx pre W' :=
  ⟨(h1 _ (by rw [h.top]; rfl) (.inr rfl)).1.trans h.top, fun a ha => by
    obtain ⟨s, hs, hc, hf, hb⟩ := h.row a ha
    obtain ⟨k1, k2⟩ := h1 ⟨mb, a, none⟩ (by rw [hc]; rfl) (.inl rfl)
    exact ⟨s, hs, k1.trans hc, k2.trans hf, hb⟩⟩
theorem RB.below {m : Mx} {y : Nat → Nat} {mb bx : Nat} {pre : List (Fin m.n × Fin m.n)} {W W' : World} (h : RB m y mb bx pre W) (hb : Below W.heap.size W W') : RB m y mb bx pre W' :=
  h.keep fun p hp _ => by
    obtain ⟨v, hv⟩ := Option.isSome_iff_exists.1 hp
    have := World.block_lt_of_cell? _ _ hv
    exact ⟨hb.cell this, hb.frozen this⟩
theorem RB.own (m : Mx) (y : Nat → Nat) (mb bx : Nat) : Own (fun (pre : List (Fin m.n × Fin m.n)) W => RB m y mb bx pre W) := fun s A B row hs hg hr => hs.keep fun p hp _ => by
  obtain ⟨v, hv⟩ := Option.isSome_iff_exists.1 hp
  exact ⟨(cell_kept hv hg hr).trans hv.symm, frozen_kept hv hg hr⟩
theorem RB.skip {m : Mx} {y : Nat → Nat} {mb bx : Nat} {pre : List (Fin m.n × Fin m.n)} {W : World} (h : RB m y mb bx pre W) {x : Fin m.n × Fin m.n} (hx : agB m y x.1.val x.2.val = false) : RB m y mb bx (pre ++ [x]) W :=
  ⟨h.top, fun a ha => by
    obtain ⟨s, hs, hc, hf, hb⟩ := h.row a ha
    refine ⟨s, hs, hc, hf, fun b hbn => (hb b hbn).trans ?_⟩
    constructor
    · rintro ⟨e, p, hp, e1, e2⟩
      exact ⟨e, p, List.mem_append_left _ hp, e1, e2⟩
    · rintro ⟨e, p, hp, e1, e2⟩
      rcases List.mem_append.1 hp with hp | hp
      · exact ⟨e, p, hp, e1, e2⟩
      · exfalso
        have e3 : p = x := by simpa using hp
        rw [← e1, ← e2, e3, hx] at e
        exact Bool.false_ne_true e⟩
theorem or_lt12 {s b : Nat} (hs : s < 4096) (hb : b < 12) : s ||| 2 ^ b < 4096 := by
  have h1 : 2 ^ b < 2 ^ 12 := Nat.pow_lt_pow_right (by omega) hb
  exact Nat.or_lt_two_pow (n := 12) hs h1
theorem RB.set {m : Mx} {y : Nat → Nat} {mb bx : Nat} {pre : List (Fin m.n × Fin m.n)} {W : World} (h : RB m y mb bx pre W) (hne : bx ≠ mb) (hn : m.n ≤ 12) {a b s : Nat} (ha : a < m.n) (hb : b < m.n) (hx : agB m y a b = true) (hs : W.cell? ⟨mb, a, none⟩ = some (.int .i64 (s : Int))) :
    RB m y mb bx (pre ++ [(⟨a, ha⟩, ⟨b, hb⟩)]) (W.setCell ⟨mb, a, none⟩ (.int .i64 ((s ||| 2 ^ b : Nat) : Int))) :=
  ⟨(World.cell?_setCell_other _ _ _ _ (by intro e; exact hne (congrArg Addr.block e).symm)).trans h.top, fun c hc => by
    obtain ⟨t, ht, hct, hf, hbt⟩ := h.row c hc
    by_cases e : c = a
    · subst e
      have est : s = t := by
        rw [hs] at hct
        have e9 : (s : Int) = (t : Int) := by simpa using hct
        omega
      subst est
      refine ⟨s ||| 2 ^ b, or_lt12 ht (by omega), World.cell?_setCell_same' _ _ _ (by rw [hs]; rfl), by rw [World.frozen?_setCell]; exact hf, fun d hd => ?_⟩
      rw [Nat.testBit_or, Bool.or_eq_true, hbt d hd, Nat.testBit_two_pow, decide_eq_true_iff]
      constructor
      · rintro (⟨e1, p, hp, e2, e3⟩ | e1)
        · exact ⟨e1, p, List.mem_append_left _ hp, e2, e3⟩
        · subst e1
          exact ⟨hx, _, List.mem_append_right _ (List.mem_singleton.2 rfl), rfl, rfl⟩
      · rintro ⟨e1, p, hp, e2, e3⟩
        rcases List.mem_append.1 hp with hp | hp
        · exact .inl ⟨e1, p, hp, e2, e3⟩
        · right
          have e4 : p = (⟨c, ha⟩, ⟨b, hb⟩) := by simpa using hp
          rw [e4] at e3
          exact e3
    · refine ⟨t, ht, (World.cell?_setCell_other _ _ _ _ (by intro e2; exact e (congrArg Addr.off e2).symm)).trans hct, by rw [World.frozen?_setCell]; exact hf, fun d hd => (hbt d hd).trans ?_⟩
      constructor
      · rintro ⟨e1, p, hp, e2, e3⟩
        exact ⟨e1, p, List.mem_append_left _ hp, e2, e3⟩
      · rintro ⟨e1, p, hp, e2, e3⟩
        rcases List.mem_append.1 hp with hp | hp
        · exact ⟨e1, p, hp, e2, e3⟩
        · exfalso
          have e4 : p = (⟨a, ha⟩, ⟨b, hb⟩) := by simpa using hp
          rw [e4] at e2
          exact e e2.symm⟩

theorem made_rep (c : Nat) : madeCells #[Value.int .i64 0] c = Array.replicate c (Value.int .i64 0) := by rw [← List.toArray_replicate, ← toList_madeCells_one]
/-- What agreeing hands back: a function value over rows of bits. -/
structure AgAt (m : Mx) (y : Nat → Nat) (mb bx : Nat) (W : World) : Prop where
  top : W.cell? ⟨bx, 0, none⟩ = some (.slice (some ⟨mb, 0, none⟩) m.n m.n)
  row : ∀ a, a < m.n → ∃ s : Nat, s < 4096 ∧ W.cell? ⟨mb, a, none⟩ = some (.int .i64 (s : Int)) ∧ ∀ b, b < m.n → s.testBit b = agB m y a b
theorem AgAt.step {m : Mx} {y : Nat → Nat} {mb bx : Nat} {W W' : World} (h : AgAt m y mb bx W) (hb : Below W.heap.size W W') : AgAt m y mb bx W' :=
  ⟨(hb.cell (World.block_lt_of_cell? _ _ h.top)).trans h.top, fun a ha => by
    obtain ⟨s, hs, hc, hr⟩ := h.row a ha
    exact ⟨s, hs, (hb.cell (World.block_lt_of_cell? _ _ hc)).trans hc, hr⟩⟩
theorem AgAt.put {m : Mx} {y : Nat → Nat} {mb bx D : Nat} {W : World} (h : AgAt m y mb bx W) {o : Obj} (hl : W.heap[D]? = some o) (ho : o.isCells = false) (o' : Obj) : AgAt m y mb bx (W.putObj D o') :=
  ⟨cell_kept h.top (grownBy_putObj' _ D o') (fun r e => by cases e; exact ⟨_, hl, ho⟩), fun a ha => by
    obtain ⟨s, hs, hc, hr⟩ := h.row a ha
    exact ⟨s, hs, cell_kept hc (grownBy_putObj' _ D o') (fun r e => by cases e; exact ⟨_, hl, ho⟩), hr⟩⟩
theorem RB.all {m : Mx} {y : Nat → Nat} {mb bx : Nat} {pre : List (Fin m.n × Fin m.n)} {W : World} (h : RB m y mb bx pre W) (hall : ∀ a b : Fin m.n, (a, b) ∈ pre) : AgAt m y mb bx W :=
  ⟨h.top, fun a ha => by
    obtain ⟨s, hs, hc, _, hb⟩ := h.row a ha
    refine ⟨s, hs, hc, fun b hbn => ?_⟩
    rw [Bool.eq_iff_iff, hb b hbn]
    exact ⟨fun e => e.1, fun e => ⟨e, (⟨a, ha⟩, ⟨b, hbn⟩), hall _ _, rfl, rfl⟩⟩⟩
theorem RB.none_yet {m : Mx} {y : Nat → Nat} {mb bx : Nat} {W : World} (htop : W.cell? ⟨bx, 0, none⟩ = some (.slice (some ⟨mb, 0, none⟩) m.n m.n)) (hrow : ∀ a, a < m.n → W.cell? ⟨mb, a, none⟩ = some (.int .i64 0) ∧ W.frozen? ⟨mb, a, none⟩ = false) : RB m y mb bx [] W :=
  ⟨htop, fun a ha => ⟨0, by omega, (hrow a ha).1, (hrow a ha).2, fun b hb => by simp⟩⟩
abbrev agF (bx : Nat) : Value := .func (.func 105) #[] #[.pointer (some ⟨bx, 0, none⟩)]
set_option maxRecDepth 100000 in
set_option maxHeartbeats 2000000 in
theorem agrees_any {m : Mx} {y : Nat → Nat} {mb bx a b : Nat} {w : World} (h : AgAt m y mb bx w) (hn : m.n ≤ 12) (ha : a < m.n) (hb : b < m.n) :
    Calls Tryd.prog 105 #[.int .i64 a, .int .i64 b, .pointer (some ⟨bx, 0, none⟩)] w fun e w' => e = .returned (.bool (agB m y a b)) ∧ w = w' := by
  obtain ⟨s, hs, hc, hr⟩ := h.row a ha
  have hb2 := hr b hb
  rw [← hasN_asked] at hb2
  have HB := Lib.hid hb2
  have HS := Lib.hid hs
  have htop := h.top
  have ha' : (a : Int) < m.n := by omega
  clear h hr hb2 hs
  go_enter Tryd.func105, Tryd.ntmps105
  go_wp2_with fail
  go_at_call 106
  refine (has_any HS.out (by omega) _).mono ?_
  rintro e w' ⟨rfl, rfl⟩
  go_wp2_with fail
  go_ret
  exact ⟨ret_bool HB.out, rfl⟩
def AgRes (w : World) (m : Mx) (y : Nat → Nat) (e : Ending) (w' : World) : Prop := ∃ bx mb : Nat, e = .returned (agF bx) ∧ AgAt m y mb bx w' ∧ Below w.heap.size w w'

set_option maxRecDepth 100000 in
set_option maxHeartbeats 2000000 in
theorem agreeing_any {w : World} {B ob tb g o nc n0 : Nat} {tG : Nat → Nat} {ua : Option Addr} {l : Lay} {m : Mx} {z : Nat → Int} {y : Nat → Nat} (h : AL w B ob tb tG ua l m g o z y n0) :
    Calls Tryd.prog 51 #[.agg #[.slice ua m.n l.cap, .slice (some ⟨g, o, none⟩) m.n nc, .slice (some ⟨ob, 0, none⟩) 2 2]] w (AgRes w m y) := by
  have hn := h.O.lat.order.top
  have hpos := h.O.lat.order.pos
  have hX := BoxN.start w #[.slice ua m.n l.cap, .slice (some ⟨g, o, none⟩) m.n nc, .slice (some ⟨ob, 0, none⟩) 2 2] 58
  have HL := Lib.hid (h.step hX.below)
  have q0 := hX.cell 0 rfl
  have q1 := hX.cell 1 rfl
  have e1 : (w.alloc (.cells #[.slice ua m.n l.cap, .slice (some ⟨g, o, none⟩) m.n nc, .slice (some ⟨ob, 0, none⟩) 2 2] 58)).heap.size = w.heap.size + 1 := World.size_alloc _ _
  obtain ⟨i0, hi, hz0, hz1, hz2⟩ := info_parts infoInt
  have hmk : (Instr.makeSlice 24 (.int .i64 (m.n : Int)) (.int .i64 (m.n : Int))).run Tryd.prog (w.alloc (.cells #[.slice ua m.n l.cap, .slice (some ⟨g, o, none⟩) m.n nc, .slice (some ⟨ob, 0, none⟩) 2 2] 58)) = .ok (.slice (some ⟨w.heap.size + 1, 0, none⟩) m.n m.n) ((w.alloc (.cells #[.slice ua m.n l.cap, .slice (some ⟨g, o, none⟩) m.n nc, .slice (some ⟨ob, 0, none⟩) 2 2] 58)).alloc (.cells (Array.replicate m.n (Value.int .i64 0)) 3)) := by
    have hb8 : (i0.bytes : Int) * (m.n : Int) ≤ 281474976710656 := by
      rw [hz2]
      omega
    have h0 := run_make (P := Tryd.prog) (w.alloc (.cells #[.slice ua m.n l.cap, .slice (some ⟨g, o, none⟩) m.n nc, .slice (some ⟨ob, 0, none⟩) 2 2] 58)) 24 3 i0 (.int .i64 0) Tryd.underlying24 hi hz0 .i64 .i64 (m.n : Int) (m.n : Int) (by omega) (Int.le_refl _) hb8 (by omega)
    rw [hz1] at h0
    rw [e1] at h0
    simp only [Int.toNat_natCast, Nat.mul_one] at h0
    rw [h0]
    show Result.ok _ (World.alloc _ (.cells (madeCells #[Value.int .i64 0] m.n) _)) = _
    rw [made_rep]
  have hz : ∀ a, a < m.n → ((w.alloc (.cells #[.slice ua m.n l.cap, .slice (some ⟨g, o, none⟩) m.n nc, .slice (some ⟨ob, 0, none⟩) 2 2] 58)).alloc (.cells (Array.replicate m.n (Value.int .i64 0)) 3)).cell? ⟨w.heap.size + 1, a, none⟩ = some (.int .i64 0) ∧ ((w.alloc (.cells #[.slice ua m.n l.cap, .slice (some ⟨g, o, none⟩) m.n nc, .slice (some ⟨ob, 0, none⟩) 2 2] 58)).alloc (.cells (Array.replicate m.n (Value.int .i64 0)) 3)).frozen? ⟨w.heap.size + 1, a, none⟩ = false := fun a ha => by
    rw [← e1]
    constructor
    · simp [ha]
    · simp
  have HZ := Lib.hid hz
  have hb1 := (Below.refl (w.heap.size + 1) (w.alloc (.cells #[.slice ua m.n l.cap, .slice (some ⟨g, o, none⟩) m.n nc, .slice (some ⟨ob, 0, none⟩) 2 2] 58))).alloc (by simp) (.cells (Array.replicate m.n (Value.int .i64 0)) 3)
  have H0 := Lib.hid h
  clear hz hi hz0 hz1 hz2 h
  refine (callsIn_wide (n := 9)).1 ?_
  refine callsIn_of_wp_marks Tryd.func51 rfl trivial ?_ rfl
  simp only [Tryd.ntmps51, List.size_toArray, List.length_cons, List.length_nil, Nat.reduceAdd, Nat.reduceSub, Array.replicate_succ, Array.replicate_zero, List.push_toArray, List.append_toArray, List.nil_append, List.cons_append]
  gi_wp2_with fail
  refine ⟨trivial, ?_⟩
  refine (pairs_any _ _ _).mono ?_
  rintro e w' ⟨rfl, rfl⟩
  gi_wp2_with fail
  have e2 : (((w.alloc (.cells #[.slice ua m.n l.cap, .slice (some ⟨g, o, none⟩) m.n nc, .slice (some ⟨ob, 0, none⟩) 2 2] 58)).alloc (.cells (Array.replicate m.n (Value.int .i64 0)) 3))).heap.size = w.heap.size + 1 + 1 := by rw [World.size_alloc, e1]
  have hV := Boxd.start (((w.alloc (.cells #[.slice ua m.n l.cap, .slice (some ⟨g, o, none⟩) m.n nc, .slice (some ⟨ob, 0, none⟩) 2 2] 58)).alloc (.cells (Array.replicate m.n (Value.int .i64 0)) 3))) (.slice (some ⟨w.heap.size + 1, 0, none⟩) m.n m.n) 24
  have hV0 := hV.cell
  rw [e2] at hV0
  have e3 : ((((w.alloc (.cells #[.slice ua m.n l.cap, .slice (some ⟨g, o, none⟩) m.n nc, .slice (some ⟨ob, 0, none⟩) 2 2] 58)).alloc (.cells (Array.replicate m.n (Value.int .i64 0)) 3))).alloc (.cells #[.slice (some ⟨w.heap.size + 1, 0, none⟩) m.n m.n] 24)).heap.size = w.heap.size + 1 + 1 + 1 := by rw [World.size_alloc, e2]
  have hP := Boxd.start ((((w.alloc (.cells #[.slice ua m.n l.cap, .slice (some ⟨g, o, none⟩) m.n nc, .slice (some ⟨ob, 0, none⟩) 2 2] 58)).alloc (.cells (Array.replicate m.n (Value.int .i64 0)) 3))).alloc (.cells #[.slice (some ⟨w.heap.size + 1, 0, none⟩) m.n m.n] 24)) (.slice ua m.n l.cap) 55
  have hP0 := hP.cell
  have hPs := hP.size
  rw [e3] at hP0 hPs
  have hX2 : BoxN w #[.slice ua m.n l.cap, .slice (some ⟨g, o, none⟩) m.n nc, .slice (some ⟨ob, 0, none⟩) 2 2] 58 (((((w.alloc (.cells #[.slice ua m.n l.cap, .slice (some ⟨g, o, none⟩) m.n nc, .slice (some ⟨ob, 0, none⟩) 2 2] 58)).alloc (.cells (Array.replicate m.n (Value.int .i64 0)) 3))).alloc (.cells #[.slice (some ⟨w.heap.size + 1, 0, none⟩) m.n m.n] 24)).alloc (.cells #[.slice ua m.n l.cap] 55)) := ⟨(hb1.alloc (by omega) _).alloc (by omega) _⟩
  have b3 := hP.below
  rw [e3] at b3
  have b2 := hV.below
  rw [e2] at b2
  have hRB : RB m y (w.heap.size + 1) (w.heap.size + 1 + 1) [] (((((w.alloc (.cells #[.slice ua m.n l.cap, .slice (some ⟨g, o, none⟩) m.n nc, .slice (some ⟨ob, 0, none⟩) 2 2] 58)).alloc (.cells (Array.replicate m.n (Value.int .i64 0)) 3))).alloc (.cells #[.slice (some ⟨w.heap.size + 1, 0, none⟩) m.n m.n] 24)).alloc (.cells #[.slice ua m.n l.cap] 55)) := RB.none_yet ((b3.cell (p := ⟨w.heap.size + 1 + 1, 0, none⟩) (by show w.heap.size + 1 + 1 < _; omega)).trans hV0) fun a ha => by
    have c1 := b2.cell (p := ⟨w.heap.size + 1, a, none⟩) (by show w.heap.size + 1 < _; omega)
    have c2 := b3.cell (p := ⟨w.heap.size + 1, a, none⟩) (by show w.heap.size + 1 < _; omega)
    have f1 := b2.frozen (p := ⟨w.heap.size + 1, a, none⟩) (by show w.heap.size + 1 < _; omega)
    have f2 := b3.frozen (p := ⟨w.heap.size + 1, a, none⟩) (by show w.heap.size + 1 < _; omega)
    exact ⟨c2.trans (c1.trans (HZ.out a ha).1), f2.trans (f1.trans (HZ.out a ha).2)⟩
  clear b2 b3 hV0 hV hP hX HL HZ hb1 hmk q0 q1
  generalize hW : ((((w.alloc (.cells #[.slice ua m.n l.cap, .slice (some ⟨g, o, none⟩) m.n nc, .slice (some ⟨ob, 0, none⟩) 2 2] 58)).alloc (.cells (Array.replicate m.n (Value.int .i64 0)) 3))).alloc (.cells #[.slice (some ⟨w.heap.size + 1, 0, none⟩) m.n m.n] 24)).alloc (.cells #[.slice ua m.n l.cap] 55) = W2 at hP0 hPs hX2 hRB ⊢
  clear hW e1 e2 e3
  refine wpIn_rangeFunc_ownG rfl (by omega) (gf := 116) (lb := #[.pointer (some ⟨w.heap.size + 1 + 1 + 1, 0, none⟩)]) rfl trivial (enters_of Tryd.func116 (by kernel_rfl) rfl)
    (pairs_stopsK _ m.n (by omega) hn (w.heap.size + 1 + 1 + 1) l.cap ua W2 (by omega) hP0) KeptB.trans (KeptB.put (by omega)) (Below.refl _ _) (fun _ => rfl)
    (fun pre W => RB m y (w.heap.size + 1) (w.heap.size + 1 + 1) pre W ∧ BoxN w #[.slice ua m.n l.cap, .slice (some ⟨g, o, none⟩) m.n nc, .slice (some ⟨ob, 0, none⟩) 2 2] 58 W ∧ w.heap.size + 1 + 1 + 1 + 1 ≤ W.heap.size)
    (fun _ _ _ => False)
    (OwnFrom.and (Own.from (RB.own m y _ _) _) (OwnFrom.and (fun s A B row hs hg hr => ⟨ownFrom_below (B := W2.heap.size) (by simp) (by omega) s A B row hs.since hg hr⟩) (fun s A B row hs hg hr => Nat.le_trans hs hg.size)))
    (fun c => ownFrom_pure _ _)
    ⟨hRB, hX2, hPs⟩
    (fun x => { tmps := #[.agg #[.slice ua m.n l.cap, .slice (some ⟨g, o, none⟩) m.n nc, .slice (some ⟨ob, 0, none⟩) 2 2], .pointer (some ⟨w.heap.size, 0, none⟩), .nilFunc, .pointer (some ⟨w.heap.size + 1 + 1, 0, none⟩), .int .i64 ((x.1.val : Nat) : Int), .int .i64 ((x.2.val : Nat) : Int),
        .pointer (some ⟨w.heap.size, 1, none⟩), .slice (some ⟨g, o, none⟩) m.n nc, .int .i64 (m.n : Int), .slice (some ⟨w.heap.size + 1, 0, none⟩) m.n m.n, .pointer (some ⟨w.heap.size, 0, none⟩), .agg #[.slice ua m.n l.cap], .func (.func 116) #[] #[.pointer (some ⟨w.heap.size + 1 + 1 + 1, 0, none⟩)],
        .int .i64 ((x.1.val : Nat) : Int), .int .i64 ((x.2.val : Nat) : Int), undef, undef, undef, undef, undef, undef, undef, undef, undef, undef, undef, undef, undef, undef, undef], defers := [] }) ?assign ?body ?done ?stop
  case assign =>
    intro lr x W K hK
    dsimp only
    clear hP0 hPs hX2 hRB H0 hn hpos
    gi_wp2
    exact hK
  case body =>
    rintro lr pre ⟨⟨a, ha⟩, ⟨b, hb⟩⟩ W ⟨hrb, hXW, hsz⟩ _
    have HRB := Lib.hid hrb
    clear hrb hRB hX2 hP0
    have hL := Lib.hid (H0.out.step hXW.below)
    have q0 := hXW.cell 0 rfl
    have q1 := hXW.cell 1 rfl
    have q2 := hXW.cell 2 rfl
    dsimp only
    cases hk : agB m y a b with
    | false =>
      have n1 : (((takN m y a b : Nat) : Int) == (a : Int)) = false := by have := of_decide_eq_false hk; rw [beq_eq_false_iff_ne]; intro e; exact this (by show takN m y a b = a; omega)
      have HK := Lib.hid hk
      clear hk
      gi_wp2_with fail
      refine ⟨trivial, ?_⟩
      refine (CallsIn.inRound lr (callsIn_wide.2 (takenApart_any (nc := nc) hL.out ha hb))).mono ?_
      rintro e w3 ⟨rfl, b3⟩
      gi_wp2_with fail
      have s3 := b3.size
      exact ⟨keepsFrom_below b3, b3.block _ (by omega), (HRB.out.below b3).skip HK.out, hXW.step b3, by omega⟩
    | true =>
      have n1 : (((takN m y a b : Nat) : Int) == (a : Int)) = true := by have e : takN m y a b = a := of_decide_eq_true hk; rw [e]; simp
      have HK := Lib.hid hk
      clear hk
      gi_wp2_with fail
      refine ⟨trivial, ?_⟩
      refine (CallsIn.inRound lr (callsIn_wide.2 (takenApart_any (nc := nc) hL.out ha hb))).mono ?_
      rintro e w3 ⟨rfl, b3⟩
      clear q0 q1 q2
      gi_wp2_with fail
      have bd : Below W.heap.size W w3.drew := b3.drew
      have HRB3 := Lib.hid (HRB.out.below bd)
      have hXd := hXW.step bd
      have s3 : W.heap.size ≤ w3.drew.heap.size := bd.size
      obtain ⟨s, hs, cs, fs, _⟩ := HRB3.out.row a ha
      have ct := HRB3.out.top
      have Hs := Lib.hid hs
      have ha' : (a : Int) < m.n := by omega
      have hb' : (b : Int) ≤ 64 := by omega
      have hb'' : (b : Int) < 64 := by omega
      have ho : bits .or .i64 (s : Int) (IntKind.i64.wrap (2 ^ b)) = ((s ||| 2 ^ b : Nat) : Int) := by
        have hp := pow_le_12 (k := b) (by omega)
        rw [one_wrap (by omega), i64_or_nat _ _ (by omega) (by omega)]
      have HO := Lib.hid ho
      have hT : (fun _ : World => True) w3.drew := trivial
      clear hs ho HRB
      refine region_hold (fuel := 9) (listed := #[false, false, false, false, false, false, false, false, false]) (fun _ => True) (by kernel_rfl) (by kernel_rfl) (by kernel_rfl) (by kernel_rfl) ?_
      generalize w3.drew = wd at bd HRB3 hXd s3 cs fs ct hT ⊢
      refine hold_take (i := 1) (d := 22) (v := ?va1) (listed' := #[false, true, false, false, false, false, false, false, false]) rfl (by kernel_rfl) (by kernel_rfl) (by kernel_rfl) rfl (by rfl) (by kernel_rfl) hT ?ha1 ?ra1
      case ha1 =>
        intro w' hSw
        skip
        go_simp
        try with_reducible rfl
      simp only [List.setIfInBounds_toArray, List.set_cons_zero, List.set_cons_succ]
      refine hold_take (i := 4) (d := 25) (v := ?va4) (listed' := #[false, true, false, false, true, false, false, false, false]) rfl (by kernel_rfl) (by kernel_rfl) (by kernel_rfl) rfl (by rfl) (by kernel_rfl) hT ?ha4 ?ra4
      case ha4 =>
        intro w' hSw
        skip
        go_simp
        try with_reducible rfl
      simp only [List.setIfInBounds_toArray, List.set_cons_zero, List.set_cons_succ]
      refine hold_take (i := 5) (d := 26) (v := ?va5) (listed' := #[false, true, false, false, true, true, false, false, false]) rfl (by kernel_rfl) (by kernel_rfl) (by kernel_rfl) rfl (by rfl) (by kernel_rfl) hT ?ha5 ?ra5
      case ha5 =>
        intro w' hSw
        skip
        go_simp
        try with_reducible rfl
      simp only [List.setIfInBounds_toArray, List.set_cons_zero, List.set_cons_succ]
      refine hold_value (i := 0) (d := 21) (listed' := #[true, true, false, false, true, true, false, false, false]) rfl (by kernel_rfl) rfl (by rfl) (by kernel_rfl) (v := .slice (some ⟨w.heap.size + 1, 0, none⟩) m.n m.n) (w' := wd) ?hva0 hT ?_
      case hva0 =>
        go_simp
        try with_reducible rfl
      simp only [List.setIfInBounds_toArray, List.set_cons_zero, List.set_cons_succ]
      refine hold_value (i := 2) (d := 23) (listed' := #[true, true, true, false, true, true, false, false, false]) rfl (by kernel_rfl) rfl (by rfl) (by kernel_rfl) (v := .pointer (some ⟨w.heap.size + 1, a, none⟩)) (w' := wd) ?hva2 hT ?_
      case hva2 =>
        go_simp
        try with_reducible rfl
      simp only [List.setIfInBounds_toArray, List.set_cons_zero, List.set_cons_succ]
      refine hold_value (i := 3) (d := 24) (listed' := #[true, true, true, true, true, true, false, false, false]) rfl (by kernel_rfl) rfl (by rfl) (by kernel_rfl) (v := .int .i64 (s : Int)) (w' := wd) ?hva3 hT ?_
      case hva3 =>
        go_simp
        try with_reducible rfl
      simp only [List.setIfInBounds_toArray, List.set_cons_zero, List.set_cons_succ]
      refine hold_value (i := 6) (d := 27) (listed' := #[true, true, true, true, true, true, true, false, false]) rfl (by kernel_rfl) rfl (by rfl) (by kernel_rfl) (v := .int .i64 (bits .or .i64 (s : Int) (IntKind.i64.wrap (2 ^ b)))) (w' := wd) ?hva6 hT ?_
      case hva6 =>
        go_simp
        try with_reducible rfl
      simp only [List.setIfInBounds_toArray, List.set_cons_zero, List.set_cons_succ]
      refine hold_value (i := 7) (d := 28) (listed' := #[true, true, true, true, true, true, true, true, false]) rfl (by kernel_rfl) rfl (by rfl) (by kernel_rfl) (v := .pointer (some ⟨w.heap.size + 1, a, none⟩)) (w' := wd) ?hva7 hT ?_
      case hva7 =>
        go_simp
        try with_reducible rfl
      simp only [List.setIfInBounds_toArray, List.set_cons_zero, List.set_cons_succ]
      refine hold_store (i := 8) (w' := wd.setCell ⟨w.heap.size + 1, a, none⟩ (.int .i64 (bits .or .i64 (s : Int) (IntKind.i64.wrap (2 ^ b))))) (listed' := #[true, true, true, true, true, true, true, true, true]) rfl (by kernel_rfl) rfl (by rfl) (by kernel_rfl) ?hsa8 trivial ?hka8
      case hsa8 => go_simp
      refine hold_done (by kernel_rfl) ?_ _
      gi_wp2_with fail
      rw [HO.out]
      have hset := HRB3.out.set (by omega) hn ha hb HK.out cs
      have hch := Chg.set (S := fun k => k = w.heap.size + 1) (w := wd) rfl (i := a) (.int .i64 ((s ||| 2 ^ b : Nat) : Int))
      exact ⟨(keepsFrom_below bd).trans ((KeepsOthers.setCell _ _ _).from _), (hch.block _ (by omega) (by show ¬ _ = _; omega)).trans (bd.block _ (by omega)), hset, ⟨hXd.since.setCell (p := ⟨w.heap.size + 1, a, none⟩) (by show _ ≤ w.heap.size + 1; omega) _⟩, by have := hch.size; omega⟩
  case done =>
    rintro D ys W hD hys ⟨hrb, hXW, hsz⟩ hK
    have hAg := Lib.hid ((hrb.all hys).put hK rfl (.deferred none))
    have hDs : w.heap.size ≤ D := by omega
    clear hrb hRB hX2 hP0
    gi_wp2
    refine ⟨by simp, .inl ⟨_, _, rfl, run_takeDeferred hK, ?_⟩⟩
    refine ⟨agF (w.heap.size + 1 + 1), ?_, ⟨_, _, rfl, hAg.out, hXW.below.trans (belowK_b (w := w) (Nat.le_refl _) W D _ _ hDs hK rfl rfl)⟩⟩
    simp [results, Tryd.f51, go_sem]
  case stop =>
    rintro D c pre W hD _ hF hK
    exact hF.elim
end Go.Proofs.YtnbglbhfclohjaaDoor
namespace Go.Proofs.YtnbglbhfclohjaaDoor
open Go.RowKit Go.Deep Go.Shelf

attribute [local go_sem] Oper.semAt_some

set_option maxRecDepth 100000 in
set_option maxHeartbeats 2000000 in
theorem allAgree_any {w : World} {B ob tb g o nc n0 bx mb a : Nat} {tG : Nat → Nat} {ua : Option Addr} {l : Lay} {m : Mx} {z : Nat → Int} {y : Nat → Nat} (h : AL w B ob tb tG ua l m g o z y n0) (hG : AgAt m y mb bx w) (ha : a < m.n) :
    Calls Tryd.prog 52 #[.agg #[.slice ua m.n l.cap, .slice (some ⟨g, o, none⟩) m.n nc, .slice (some ⟨ob, 0, none⟩) 2 2], .int .i64 a, agF bx] w fun e w' => e = .returned (.bool (midB m y a)) ∧ Below w.heap.size w w' := by
  have hn := h.O.lat.order.top
  have hX := BoxN.start w #[.slice ua m.n l.cap, .slice (some ⟨g, o, none⟩) m.n nc, .slice (some ⟨ob, 0, none⟩) 2 2] 58
  have q1 := hX.cell 1 rfl
  have hG1 := Lib.hid (hG.step hX.below)
  have hB := hX.below
  clear h hG hX
  go_enter Tryd.func52, Tryd.ntmps52
  go_wp2_with fail
  generalize w.alloc (.cells #[.slice ua m.n l.cap, .slice (some ⟨g, o, none⟩) m.n nc, .slice (some ⟨ob, 0, none⟩) 2 2] 58) = W at q1 hG1 hB ⊢
  go_loopw [11] (fun i wr => ∃ b : Nat, b ≤ m.n ∧ i = .int .i64 b ∧ wr = W ∧ Hid (midP m y a b = true)) (fun i _ => m.n - (intOf i).toNat)
  case atStart => exact ⟨0, Nat.zero_le _, rfl, rfl, rfl⟩
  case round =>
    obtain ⟨b, hbn, rfl, rfl, hP⟩ := hrel
    by_cases hbt : b < m.n
    · have hbt' : (b : Int) < m.n := by omega
      cases g1 : agB m y a b with
      | false =>
        have HF : Hid (false = midB m y a) := (allB_false hbt (by rw [g1]; rfl)).symm
        have G1 := Lib.hid g1
        clear g1
        go_wp2_with fail
        go_at_call 105
        refine (agrees_any hG1.out hn ha hbt).mono ?_
        rintro e w' ⟨rfl, rfl⟩
        rw [G1.out]
        go_wp2_with fail
        go_ret
        exact ⟨ret_bool HF.out, hB⟩
      | true =>
        have G1 := Lib.hid g1
        go_wp2_with fail
        go_at_call 105
        refine (agrees_any hG1.out hn ha hbt).mono ?_
        rintro e w' ⟨rfl, rfl⟩
        rw [G1.out]
        cases g2 : agB m y b a with
        | false =>
          have HF : Hid (false = midB m y a) := (allB_false hbt (by rw [g1, g2]; rfl)).symm
          have G2 := Lib.hid g2
          clear g1 g2
          go_wp2_with fail
          go_at_call 105
          refine (agrees_any hG1.out hn hbt ha).mono ?_
          rintro e w' ⟨rfl, rfl⟩
          rw [G2.out]
          go_wp2_with fail
          go_ret
          exact ⟨ret_bool HF.out, hB⟩
        | true =>
          have G2 := Lib.hid g2
          have HP : Hid (midP m y a (b + 1) = true) := by
            show allB _ _ = _
            rw [allB_step, g1, g2]
            exact (Bool.and_true _).trans hP.out
          clear g1 g2
          go_wp2_with fail
          go_at_call 105
          refine (agrees_any hG1.out hn hbt ha).mono ?_
          rintro e w' ⟨rfl, rfl⟩
          rw [G2.out]
          go_wp2_with fail
          go_roundw
          case rel => exact ⟨b + 1, by omega, by go_num, trivial, HP⟩
          case measure => simp [intOf]; omega
    · have hbt' : ¬ (b : Int) < m.n := by omega
      have HF : Hid (true = midB m y a) := by
        have e : b = m.n := by omega
        have h1 := hP.out
        rw [e] at h1
        exact h1.symm
      go_wp2_with fail
      go_ret
      exact ⟨ret_bool HF.out, hB⟩

set_option maxRecDepth 100000 in
set_option maxHeartbeats 4000000 in
theorem CentreOf_any {w : World} {B : Nat} {ua : Option Addr} {l : Lay} {m : Mx} {na : Option Addr} {g o k nc : Nat} {z : Nat → Int} (h : LogAt w B ua l m na g o k z) :
    Calls Tryd.prog 12 #[.agg #[.slice ua m.n l.cap, .slice na k nc]] w (ListRes w (midV m k z)) := by
  have hX := BoxN.start w #[.slice ua m.n l.cap, .slice na k nc] 26
  have q0 := hX.cell 0 rfl
  have q1 := hX.cell 1 rfl
  have bw := hX.below
  have h2 := Lib.hid (h.step bw)
  clear h hX
  go_enter Tryd.func12, Tryd.ntmps12
  have hrow2 : Hid (RowAt (w.alloc (.cells #[.slice ua m.n l.cap, .slice na k nc] 26)) (w.alloc (.cells #[.slice ua m.n l.cap, .slice na k nc] 26)).heap.size none 0 0 0 (fun _ => 0)) := ⟨fun c hc => absurd hc (Nat.not_lt_zero _)⟩
  go_wp2_with fail
  generalize w.alloc (.cells #[.slice ua m.n l.cap, .slice na k nc] 26) = W0 at bw h2 hrow2 q0 q1 ⊢
  go_at_call 50
  refine (algebraWith_any h2.out hrow2.out (by omega)).mono ?_
  rintro e w1 ⟨b1, (⟨hg, ob, tb, tG, rfl, hA⟩ | ⟨hg, rfl⟩)⟩
  · have hlog : logicB m k z = true := by rw [good_nil, Bool.and_true] at hg; exact hg
    have B1 := bw.trans (b1.mono bw.size)
    have h3 := h2.out.step b1
    clear h2 hrow2 q0 q1 bw hg
    obtain ⟨y0, n0, hO0⟩ := (logicB_is hlog).ortho
    have hkn : k = m.n := (logicB_is hlog).pair.len
    subst hkn
    have hO := hO0.own
    obtain ⟨y, hy⟩ : ∃ y : Nat → Nat, y = fun c => (z c).toNat := ⟨_, rfl⟩
    rw [← hy] at hO
    obtain ⟨rfl, hL1⟩ := AL.of hA h3 hO
    have HV : Hid (midV m m.n z = midTo m y m.n) := by show _ = _; unfold midV; rw [if_pos hlog, hy]
    have hn := hO.lat.order.top
    clear hlog hy hA h3 hO hO0
    have hY := BoxN.start w1 #[.slice ua m.n l.cap, .slice (some ⟨g, o, none⟩) m.n nc, .slice (some ⟨ob, 0, none⟩) 2 2] 58
    have BY := B1.trans (hY.below.mono B1.size)
    have hL := Lib.hid (hL1.step hY.below)
    have r0 := hY.cell 0 rfl
    have r1 := hY.cell 1 rfl
    have r2 := hY.cell 2 rfl
    clear hL1
    obtain ⟨i0, hi, hz0, hz1, hz2⟩ := info_parts infoInt
    have HI := Lib.hid hi
    have HZ0 := Lib.hid hz0
    have HZ1 := Lib.hid hz1
    have HZ2 := Lib.hid hz2
    clear hi hz0 hz1 hz2
    unfold algV
    go_wp2_with fail
    generalize w1.alloc (.cells #[.slice ua m.n l.cap, .slice (some ⟨g, o, none⟩) m.n nc, .slice (some ⟨ob, 0, none⟩) 2 2] 58) = W at hY hL BY r0 r1 r2 ⊢
    go_at_call 51
    refine (agreeing_any (nc := nc) hL.out).mono ?_
    rintro e w3 ⟨bx, mb, rfl, hG, b3⟩
    have hY3 := hY.step b3
    have hL3 := Lib.hid (hL.out.step b3)
    have HG := Lib.hid hG
    have B3 := BY.trans (b3.mono BY.size)
    have p1 := hY3.cell 1 rfl
    clear r0 r1 r2 hY hL hG
    go_wp2_with fail
    go_loopw [6, 20] (fun v i wr => ∃ j : Nat, j ≤ m.n ∧ i = .int .i64 j ∧ wr.ownsRow w3.heap.size 3 1 v (midTo m y j).length ((midTo m y j).map (Value.int .i64)) ∧ Below w3.heap.size w3 wr) (fun _ i _ => m.n - (intOf i).toNat)
    case atStart => exact ⟨0, Nat.zero_le _, rfl, World.ownsRow_nil _ _ _ _, Below.refl _ _⟩
    case round =>
      obtain ⟨j, hj, rfl, hown, hD⟩ := hrel
      have hYr := hY3.step hD
      by_cases hlt : j < m.n
      · have hlt' : (j : Int) < m.n := by omega
        have hLr := Lib.hid (hL3.out.step hD)
        have hGr := Lib.hid (HG.out.step hD)
        have r0 := hYr.cell 0 rfl
        have r1 := hYr.cell 1 rfl
        have r2 := hYr.cell 2 rfl
        have hs := hD.size
        have hlen := midTo_len m y j
        go_wp2_with fail
        go_at_call 52
        refine (allAgree_any (nc := nc) hLr.out hGr.out hlt).mono ?_
        rintro e w4 ⟨rfl, b4⟩
        have hD4 := hD.trans (b4.mono hD.size)
        have hown4 := ownsRow_below hown b4 (Nat.le_refl _)
        have hs4 := hD4.size
        clear r0 r1 r2 hD hown hLr hGr
        cases g0 : midB m y j with
        | false =>
          have HN := Lib.hid (midTo_no g0)
          clear g0
          go_wp2_with fail
          go_roundw
          case rel => exact ⟨j + 1, by omega, by go_num, by rw [HN.out]; exact hown4, hD4⟩
          case measure => simp [intOf]; omega
        | true =>
          have HN := Lib.hid (midTo_yes g0)
          clear g0
          go_wp2_with (at_builtin; refine wpList_append_own _ rfl _ _ 24 rfl w3.heap.size 3 i0 (.int .i64 0) 1 8 Tryd.underlying24 HI.out HZ0.out HZ1.out HZ2.out rfl (by decide) _ _ _ rfl (hown4.alloc _) ⟨w4.heap.size, 0, none⟩ 1 1 [.int .i64 j] rfl rfl (cell_one_new _ _ _) ?c2 ?c3 ?c4 ?c5 ?_)
          case c2 => simp [Value.oneCell']
          case c3 => unfold maxLen; omega
          case c4 => omega
          case c5 => first | omega | (simp; omega)
          intro v' w5 hown5 hgrow _
          have HO5 : Hid (w5.ownsRow w3.heap.size 3 1 v' (midTo m y (j + 1)).length ((midTo m y (j + 1)).map (Value.int .i64))) := by
            show World.ownsRow _ _ _ _ _ _ _
            rw [HN.out, List.length_append, List.map_append]
            exact hown5
          have hW5 := (hD4.alloc hs4 (.cells #[.int .i64 j] 3)).grown hgrow (by simp; omega) (fun c hc => by have := ownsRow_block hown4 c hc; omega)
          clear hown5 hgrow hown4 hD4
          go_wp2_with fail
          go_roundw
          case rel => exact ⟨j + 1, by omega, by go_num, HO5.out, hW5⟩
          case measure => simp [intOf]; omega
      · have hlt' : ¬ (j : Int) < m.n := by omega
        have HK : Hid (j = m.n) := by show _ = _; omega
        go_wp2_with fail
        go_ret
        exact ⟨_, rfl, by rw [HV.out, ← HK.out]; exact ownsRow_base hown B3.size, B3.trans (hD.mono B3.size)⟩
  · have HV : Hid (midV m k z = []) := by show _ = _; unfold midV; rw [good_nil, Bool.and_true] at hg; rw [hg]; rfl
    clear q0 q1 hrow2 hg h2
    have B1 := bw.trans (b1.mono bw.size)
    have B2 := B1.alloc B1.size (.cells #[.slice none 0 0, .slice none 0 0, .slice none 0 0] 58)
    unfold noAlg
    go_wp2_with fail
    go_ret
    exact ⟨_, rfl, by rw [HV.out]; exact World.ownsRow_nil _ _ _ _, B2⟩

def bothPB (m : Mx) (y : Nat → Nat) (a b : Nat) : Bool := !agB m y a b || agB m y b a
/-- Nothing speaks against the pairs of the list. -/
def AllBoth (m : Mx) (y : Nat → Nat) (pre : List (Fin m.n × Fin m.n)) : Prop := ∀ p ∈ pre, bothPB m y p.1.val p.2.val = true
theorem AllBoth.snoc {m : Mx} {y : Nat → Nat} {pre : List (Fin m.n × Fin m.n)} (h : AllBoth m y pre) {x : Fin m.n × Fin m.n} (hx : bothPB m y x.1.val x.2.val = true) : AllBoth m y (pre ++ [x]) := fun p hp => by
  rcases List.mem_append.1 hp with e | e
  · exact h p e
  · have e' : p = x := by simpa using e
    rw [e']; exact hx
theorem AllBoth.all {m : Mx} {y : Nat → Nat} {pre : List (Fin m.n × Fin m.n)} (h : AllBoth m y pre) (hall : ∀ a b : Fin m.n, (a, b) ∈ pre) : twoWaysB m y = true := by
  unfold twoWaysB
  refine allB_true fun a ha => allB_true fun b hb => ?_
  have h1 := h (⟨a, ha⟩, ⟨b, hb⟩) (hall _ _)
  unfold bothPB at h1
  exact h1

end Go.Proofs.YtnbglbhfclohjaaDoor
