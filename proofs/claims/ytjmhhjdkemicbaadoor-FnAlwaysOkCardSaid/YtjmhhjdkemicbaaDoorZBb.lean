import Derived.Test.YtjmhhjdkemicbaaDoorZMathN
import Derived.Test.YtjmhhjdkemicbaaDoorZDg
import Derived.RangeFuncNested
import Derived.RangeFuncBound
import Derived.RangeFuncCalls
import Derived.RangeFuncLeaves
import Derived.RangeFuncBox
import Derived.Test.YtjmhhjdkemicbaaDoorZOa
import Derived.Test.YtjmhhjdkemicbaaDoorZMath
import Derived.Laws.EntriesVeiled
import Derived.BigQuiet
import Derived.Test.YtjmhhjdkemicbaaDoorZAa
namespace Go.Proofs.YtjmhhjdkemicbaaDoor
open Go.RowKit Go.Deep

/-- 1 if a set has an answer, 0 if it has not. -/
def hasN (s a : Nat) : Nat := if s.testBit a = true then 1 else 0
theorem hasN_asked (s a : Nat) : (((hasN s a : Nat) : Int) == 1) = s.testBit a := by
  unfold hasN
  cases s.testBit a <;> simp
theorem hasN_value {s b : Nat} (hs : s < 4096) : bits .and .i64 ((s : Int) / 2 ^ b) 1 = ((hasN s b : Nat) : Int) := by
  have e : ((s : Int) / 2 ^ b) = ((s / 2 ^ b : Nat) : Int) := by
    rw [Int.natCast_ediv]; simp
  have hl : s / 2 ^ b < 4096 := Nat.lt_of_le_of_lt (Nat.div_le_self _ _) hs
  unfold hasN
  rw [e, show (1 : Int) = ((1 : Nat) : Int) from rfl, i64_and_nat _ _ (by omega) (by omega), Nat.and_one_is_mod, Nat.testBit_eq_decide_div_mod_eq]
  by_cases h : s / 2 ^ b % 2 = 1
  · rw [h]; simp
  · have h0 : s / 2 ^ b % 2 = 0 := by omega
    rw [h0]; simp

set_option maxRecDepth 100000 in
set_option maxHeartbeats 2000000 in
theorem has_any {s a : Nat} (hs : s < 4096) (ha : a < 64) (w : World) :
    Calls Tryd.prog 75 #[.int .i64 s, .int .i64 a] w fun e w' => e = .returned (.int .i64 ((hasN s a : Nat) : Int)) ∧ w = w' := by
  have HV := Lib.hid (hasN_value (b := a) hs)
  have ha1 : (a : Int) < 64 := by omega
  have ha2 : (a : Int) ≤ 64 := by omega
  go_enter Tryd.func75, Tryd.ntmps75
  go_wp2_with fail
  go_ret
  exact ⟨ret_int HV.out, rfl⟩
end Go.Proofs.YtjmhhjdkemicbaaDoor
namespace Go.Proofs.YtjmhhjdkemicbaaDoor
open Go.RowKit Go.Deep

theorem Chg.put {W : World} {l : Nat} {o : Obj} : Chg (fun j => j = l) W (W.putObj l o) :=
  ⟨rfl, rfl, rfl, by simp, fun _ _ hs => World.putObj_heap_other hs⟩

end Go.Proofs.YtjmhhjdkemicbaaDoor
namespace Go.Proofs.YtjmhhjdkemicbaaDoor
open Go.RowKit Go.Deep Go.Shelf

attribute [local go_sem] Oper.semAt_some

/-- A function value of two numbers, as the walk meets it: wherever what lay in w lies unturned it answers so, and makes memory alone. -/
structure Fun2At (w : World) (g : Nat) (f c : Array Value) (N : Nat) (b : Nat → Nat → Bool) : Prop where
  enters : ∀ args w, (callFunc g args).run Tryd.prog w = .ok (.enter g args) w
  gives : ∀ (W : World) (x y : Nat), Below w.heap.size w W → x < N → y < N → Calls Tryd.prog g (f ++ (#[.int .i64 (x : Int), .int .i64 (y : Int)] ++ c)) W fun e W' => e = .returned (.bool (b x y)) ∧ Below W.heap.size W W'
structure Fun1At (w : World) (g : Nat) (f c : Array Value) (N : Nat) (y : Nat → Nat) : Prop where
  enters : ∀ args w, (callFunc g args).run Tryd.prog w = .ok (.enter g args) w
  gives : ∀ (W : World) (x : Nat), Below w.heap.size w W → x < N → Calls Tryd.prog g (f ++ (#[.int .i64 (x : Int)] ++ c)) W fun e W' => e = .returned (.int .i64 (y x : Int)) ∧ Below W.heap.size W W'
def bitZ (b : Nat → Nat → Bool) (x y : Nat) : Int := if b x y = true then 1 else 0
end Go.Proofs.YtjmhhjdkemicbaaDoor
namespace Go.Proofs.YtjmhhjdkemicbaaDoor
open Go.RowKit Go.Deep Go.Shelf

attribute [local go_sem] Oper.semAt_some

/-- Blocks between the box and the base may turn. -/
theorem MakeAt.mids {S : Nat → Prop} {wr w' : World} {p base : Nat} {u t : Value} {k kt N : Nat} {rv : Nat → Value} {Z : Nat → Nat → Int} {y : Nat → Int} (h : MakeAt wr p base u t k kt N rv Z y) (hc : Chg S wr w') (hp : ¬ S p) (hs : ∀ j, base ≤ j → ¬ S j) : MakeAt w' p base u t k kt N rv Z y :=
  ⟨h.pb, hc.two h.box hp, hc.out h.out (fun g hg => hs g (ownsRow_block h.out.top g hg)) (fun r hr g hg => hs g (ownsRow_block (h.out.row r hr) g hg)), hc.ints h.ints (fun g hg => hs g (ownsRow_block h.ints g hg)), h.sep, h.rng⟩
theorem MakeAt.more' {wr wa w4 : World} {p base : Nat} {u t v' : Value} {k kt N : Nat} {rv : Nat → Value} {Z : Nat → Nat → Int} {y : Nat → Int} (h : MakeAt wr p base u t k kt N rv Z y) (ha : Chg (fun _ => False) wr wa)
    (hx : 0 ≤ y kt ∧ y kt < (N : Int)) (hown : w4.ownsRow base 3 1 v' (kt + 1) ((List.range kt).map (fun c => .int .i64 (y c)) ++ [.int .i64 (y kt)])) (hg : wa.grownBy w4 t.ownBlock) (hat : v'.ownBlock = t.ownBlock ∨ v'.ownBlock = some wa.heap.size) :
    MakeAt (w4.setCell ⟨p, 1, none⟩ v') p base u v' k (kt + 1) N rv Z y ∧ Chg (fun j => j = p ∨ base ≤ j) wr (w4.setCell ⟨p, 1, none⟩ v') := by
  have := h.more ha hx hown hg hat
  have e : (fun c => if c = kt then y kt else y c) = y := by
    funext c
    by_cases e1 : c = kt
    · rw [if_pos e1, e1]
    · rw [if_neg e1]
  rw [e] at this
  exact this
/-- The logic under way, the plan's box and the result's beside it. -/
structure Making (w : World) (N : Nat) (b : Nat → Nat → Bool) (y : Nat → Nat) (fv : Value) (k : Nat) (W : World) (u t : Value) (rv : Nat → Value) : Prop where
  make : MakeAt W (w.heap.size + 1 + 1) (w.heap.size + 6) u t k k N rv (bitZ b) (fun c => (y c : Int))
  res : TwoAt W (w.heap.size + 1) (.slice none 0 0) (.slice none 0 0)
  fn : W.cell? ⟨w.heap.size, 2, none⟩ = some fv
  old : Below w.heap.size w W
theorem Making.chg {S : Nat → Prop} {w W W' : World} {N k : Nat} {b : Nat → Nat → Bool} {y : Nat → Nat} {fv u t : Value} {rv : Nat → Value} (h : Making w N b y fv k W u t rv) (hc : Chg S W W') (hs : ∀ j, S j → w.heap.size + 3 ≤ j ∧ j < w.heap.size + 6) : Making w N b y fv k W' u t rv := by
  have hl := World.block_lt_of_cell? W ⟨w.heap.size, 2, none⟩ h.fn
  have no : ∀ j, j < w.heap.size + 3 → ¬ S j := fun j hj e => by have := (hs j e).1; omega
  exact ⟨h.make.mids hc (no _ (by omega)) (fun j hj e => by have := (hs j e).2; omega), hc.two h.res (no _ (by omega)), (World.cell?_of_block (a := ⟨w.heap.size, 2, none⟩) (hc.block _ hl (no _ (by show w.heap.size < _; omega)))).trans h.fn, h.old.trans (hc.below h.old.size fun j hj => by have := (hs j hj).1; omega)⟩

/-- One operation that hands over a value, whatever else may come up. -/
theorem opH_value {P : Program} {md : Region.Mode} {ops : Array Oper} {Q : Exit → Act → World → Prop} {S : World → Prop} {i d fuel : Nat} {v : Value} {listed listed' : Array Bool} {a : Act} {w w' : World} {o : Oper} {rest : List Oper} (hi : ops.toList.drop i = o :: rest)
    (hd : o.dst = some d) (hw : Region.wanted o (yielded ops a.tmps) = true) (hl : listed.setIfInBounds i true = listed') (he : (execOp a.eval o).run P w = .ok (.value v) w') (hS : S w')
    (h : wpAnyH P md ops Q S fuel listed' { tmps := a.tmps.setIfInBounds d v, defers := a.defers } w') : wpOp P ops Q i (fun a' w' => S w' ∧ wpAnyH P md ops Q S fuel (listed.setIfInBounds i true) a' w') a w := by
  unfold wpOp
  rw [at_drop hi]
  simp only
  rw [if_pos hw, hl]
  refine .inl ?_
  unfold Oper.wp
  rw [he, Oper.upon_value, hd]
  exact ⟨hS, h⟩
theorem opH_call {P : Program} {md : Region.Mode} {ops : Array Oper} {Q : Exit → Act → World → Prop} {S : World → Prop} {i d fuel : Nat} {listed listed' : Array Bool} {a : Act} {w : World} {o : Oper} {rest : List Oper} {f : FuncId} {args : Array Value} {R : Ending → World → Prop} (hi : ops.toList.drop i = o :: rest)
    (hd : o.dst = some d) (hw : Region.wanted o (yielded ops a.tmps) = true) (hl : listed.setIfInBounds i true = listed')
    (he : (execOp a.eval o).run P w = .ok (.enter f args) w) (hc : Calls P f args w R)
    (h : ∀ e w', R e w' → ∃ v, e = .returned v ∧ S w' ∧ wpAnyH P md ops Q S fuel listed' { tmps := a.tmps.setIfInBounds d v, defers := a.defers } w') : wpOp P ops Q i (fun a' w' => S w' ∧ wpAnyH P md ops Q S fuel (listed.setIfInBounds i true) a' w') a w := by
  unfold wpOp
  rw [at_drop hi]
  simp only
  rw [if_pos hw, hl]
  refine .inl ?_
  unfold Oper.wp
  rw [he, Oper.upon_enter]
  refine hc.mono fun e w' hR => ?_
  obtain ⟨v, rfl, hS, hA⟩ := h e w' hR
  rw [hd]
  exact ⟨hS, hA⟩
theorem hold_value {P : Program} {md : Region.Mode} {ops : Array Oper} {Q : Exit → Act → World → Prop} {S : World → Prop} {i d fuel : Nat} {v : Value} {listed listed' : Array Bool} {a : Act} {w w' : World} {o : Oper} {rest : List Oper} (hi : ops.toList.drop i = o :: rest)
    (hr : Region.ready md ops listed = [i]) (hd : o.dst = some d) (hw : Region.wanted o (yielded ops a.tmps) = true) (hl : listed.setIfInBounds i true = listed') (he : (execOp a.eval o).run P w = .ok (.value v) w') (hS : S w')
    (h : wpAnyH P md ops Q S fuel listed' { tmps := a.tmps.setIfInBounds d v, defers := a.defers } w') : wpAnyH P md ops Q S (fuel + 1) listed a w := by
  refine wpAnyH_all hr (by simp) fun j hj => ?_
  obtain rfl : j = i := by simpa using hj
  exact opH_value hi hd hw hl he hS h
/-- Two that may come up. -/
theorem hold_two {P : Program} {md : Region.Mode} {ops : Array Oper} {Q : Exit → Act → World → Prop} {S : World → Prop} {i j fuel : Nat} {listed : Array Bool} {a : Act} {w : World} (hr : Region.ready md ops listed = [i, j])
    (h1 : wpOp P ops Q i (fun a' w' => S w' ∧ wpAnyH P md ops Q S fuel (listed.setIfInBounds i true) a' w') a w) (h2 : wpOp P ops Q j (fun a' w' => S w' ∧ wpAnyH P md ops Q S fuel (listed.setIfInBounds j true) a' w') a w) : wpAnyH P md ops Q S (fuel + 1) listed a w := by
  refine wpAnyH_all hr (by simp) fun k hk => ?_
  rcases (by simpa using hk : k = i ∨ k = j) with rfl | rfl
  · exact h1
  · exact h2
end Go.Proofs.YtjmhhjdkemicbaaDoor
namespace Go.Proofs.YtjmhhjdkemicbaaDoor
open Go.RowKit Go.Deep

end Go.Proofs.YtjmhhjdkemicbaaDoor
namespace Go.Proofs.YtjmhhjdkemicbaaDoor
open Go.RowKit Go.Deep Go.Shelf

attribute [local go_sem] Oper.semAt_some

/-- One block lies as it lay. -/
def KeptB (k : Nat) (A B : World) : Prop := B.heap[k]? = A.heap[k]?
theorem KeptB.trans {k : Nat} {A B C : World} (h : KeptB k A B) (h' : KeptB k B C) : KeptB k A C := Eq.trans h' h
theorem KeptB.put {k : Nat} {w : World} (hk : k < w.heap.size) (W : World) (l : Nat) (o o' : Obj) (hl : w.heap.size ≤ l) (_ : W.heap[l]? = some o) (_ : o.isCells = false) (_ : o.isWalk = false) : KeptB k W (W.putObj l o') :=
  World.putObj_heap_other (by omega)

set_option maxRecDepth 100000 in
set_option maxHeartbeats 2000000 in
theorem pairs_stopsK (d n : Nat) (hd : 1 ≤ d) (hn : n ≤ 12) (Bx cap : Nat) (sa : Option Addr) (w : World) (hB : Bx < w.heap.size) (hc : w.cell? ⟨Bx, 0, none⟩ = some (.slice sa n cap)) :
    SeqStopsK Fence.wide d Tryd.prog 64 #[.pointer (some ⟨Bx, 0, none⟩)] (encP (n := n)) (KeptB Bx) (fun ys => ∀ a b : Fin n, (a, b) ∈ ys) (fun _ => True) (n * n) w := fun l J Jx W hW _ _ hY h0 => by
  have hcW : W.cell? ⟨Bx, 0, none⟩ = some (.slice sa n cap) := (hW.cell (p := ⟨Bx, 0, none⟩) (by show Bx < _; omega)).trans hc
  have hY := Lib.hid hY
  clear hc hW
  refine callsIn_of_wp Tryd.func64 rfl trivial ?_ rfl
  simp only [Tryd.ntmps64, List.size_toArray, List.length_cons, List.length_nil, Nat.reduceAdd, Nat.reduceSub, Array.replicate_succ, Array.replicate_zero, List.push_toArray, List.append_toArray, List.nil_append, List.cons_append]
  gi_wp2
  gi_loopw [8] (fun i wr => ∃ (k : Nat) (pre : List (Fin n × Fin n)), k ≤ n ∧ i = .int .i64 k ∧ J pre wr ∧ Hid (KeptB Bx W wr) ∧ Hid (pre.length = k * n) ∧ Hid (∀ a b : Fin n, a.val < k → (a, b) ∈ pre))
    (fun i _ => n - (intOf i).toNat)
  case atStart => exact ⟨0, [], Nat.zero_le _, rfl, h0, rfl, by show _ = _; simp, fun a b h => absurd h (Nat.not_lt_zero _)⟩
  case round =>
    obtain ⟨k, pre, hk, rfl, hJ, hX, hlen, hin⟩ := hrel
    have hcx : wr.cell? ⟨Bx, 0, none⟩ = some (.slice sa n cap) := (World.cell?_of_block (show wr.heap[Bx]? = W.heap[Bx]? from hX.out)).trans hcW
    clear hcW
    by_cases hlt : k < n
    · have hlt' : (k : Int) < n := by omega
      gi_wp2
      gi_loopw [14] (fun i wi => ∃ (j : Nat) (pre' : List (Fin n × Fin n)), j ≤ n ∧ i = .int .i64 j ∧ J pre' wi ∧ Hid (KeptB Bx wr wi) ∧ Hid (pre'.length = k * n + j) ∧ Hid (∀ a b : Fin n, a.val < k ∨ (a.val = k ∧ b.val < j) → (a, b) ∈ pre'))
        (fun i _ => n - (intOf i).toNat)
      case atStart => exact ⟨0, pre, Nat.zero_le _, rfl, hJ, rfl, by show _ = _; rw [hlen.out]; simp, fun a b h => by
        rcases h with h | ⟨_, h⟩
        · exact hin.out a b h
        · exact absurd h (Nat.not_lt_zero _)⟩
      case round =>
        obtain ⟨j, pre', hj, rfl, hJ', hX', hlen', hin'⟩ := hrel
        have hcx' : wr.cell? ⟨Bx, 0, none⟩ = some (.slice sa n cap) := (World.cell?_of_block (show wr.heap[Bx]? = _ from hX'.out)).trans hcx
        clear hcx
        by_cases hjt : j < n
        · have hjt' : (j : Int) < n := by omega
          obtain ⟨fn, tmps, assign, body, hy, hR⟩ := hY.out pre' (⟨k, hlt⟩, ⟨j, hjt⟩) wr hJ' (by rw [hlen'.out]; exact room_pairs hlt hjt)
          dsimp only [encP] at hy
          gi_wp2
          refine hR.mono ?_
          rintro e W3 (⟨rfl, hJ3, hk3⟩ | ⟨rfl, hJx3⟩)
          · have hk4 := Lib.hid (KeptB.trans hX'.out hk3)
            clear hk3
            gi_wp2
            go_roundw
            case rel => exact ⟨j + 1, _, by omega, by go_num, hJ3, hk4, by show _ = _; rw [List.length_append, hlen'.out]; simp; omega, fun a b h => by
              rw [List.mem_append]
              by_cases e : a.val = k ∧ b.val = j
              · right
                obtain ⟨e1, e2⟩ := e
                have ea : a = ⟨k, hlt⟩ := Fin.ext e1
                have eb : b = ⟨j, hjt⟩ := Fin.ext e2
                rw [ea, eb]; simp
              · left
                exact hin'.out a b (by omega)⟩
            case measure => simp [intOf]; omega
          · gi_wp2
            refine bodyPost_ret (results_none rfl _ _ _) rfl ?_
            exact ⟨⟨_, rfl⟩, .inr ⟨_, trivial, hJx3⟩⟩
        · have hjt' : ¬ (j : Int) < n := by omega
          have hk4 := Lib.hid (KeptB.trans hX.out hX'.out)
          gi_wp2
          go_roundw
          case rel => exact ⟨k + 1, pre', by omega, by go_num, hJ', hk4, by show _ = _; rw [hlen'.out, Nat.succ_mul]; omega, fun a b h => hin'.out a b (by have := b.isLt; omega)⟩
          case measure => simp [intOf]; omega
    · have hlt' : ¬ (k : Int) < n := by omega
      gi_wp2
      go_end0
      exact ⟨⟨_, rfl⟩, .inl ⟨pre, fun a b => hin.out a b (by have := a.isLt; omega), hJ⟩⟩

/-- The rows under way: the bits of the pairs so far that agree. -/
structure RB (m : Mx) (y : Nat → Nat) (mb bx : Nat) (pre : List (Fin m.n × Fin m.n)) (W : World) : Prop where
  top : W.cell? ⟨bx, 0, none⟩ = some (.slice (some ⟨mb, 0, none⟩) m.n m.n)
  row : ∀ a, a < m.n → ∃ s : Nat, s < 4096 ∧ W.cell? ⟨mb, a, none⟩ = some (.int .i64 (s : Int)) ∧ W.frozen? ⟨mb, a, none⟩ = false ∧ ∀ b, b < m.n → (s.testBit b = true ↔ agB m y a b = true ∧ ∃ x ∈ pre, x.1.val = a ∧ x.2.val = b)
theorem RB.keep {m : Mx} {y : Nat → Nat} {mb bx : Nat} {pre : List (Fin m.n × Fin m.n)} {W W' : World} (h : RB m y mb bx pre W) (h1 : ∀ p : Addr, (W.cell? p).isSome = true → p.block = mb ∨ p.block = bx → W'.cell? p = W.cell? p ∧ W'.frozen? p = W.frozen? p) : RB m y mb bx pre W' :=
  ⟨(h1 _ (by rw [h.top]; rfl) (.inr rfl)).1.trans h.top, fun a ha => by
    obtain ⟨s, hs, hc, hf, hb⟩ := h.row a ha
    obtain ⟨k1, k2⟩ := h1 ⟨mb, a, none⟩ (by rw [hc]; rfl) (.inl rfl)
    exact ⟨s, hs, k1.trans hc, k2.trans hf, hb⟩⟩
theorem RB.below {m : Mx} {y : Nat → Nat} {mb bx : Nat} {pre : List (Fin m.n × Fin m.n)} {W W' : World} (h : RB m y mb bx pre W) (hb : Below W.heap.size W W') : RB m y mb bx pre W' :=
  h.keep fun p hp _ => by
    obtain ⟨v, hv⟩ := Option.isSome_iff_exists.1 hp
    have := World.block_lt_of_cell? _ _ hv
    exact ⟨hb.cell this, hb.frozen this⟩
theorem RB.own (m : Mx) (y : Nat → Nat) (mb bx : Nat) : Own (fun (pre : List (Fin m.n × Fin m.n)) W => RB m y mb bx pre W) := fun s A B row hs hg hr => hs.keep fun p hp _ => by
  obtain ⟨v, hv⟩ := Option.isSome_iff_exists.1 hp
  exact ⟨(cell_kept hv hg hr).trans hv.symm, frozen_kept hv hg hr⟩
theorem RB.skip {m : Mx} {y : Nat → Nat} {mb bx : Nat} {pre : List (Fin m.n × Fin m.n)} {W : World} (h : RB m y mb bx pre W) {x : Fin m.n × Fin m.n} (hx : agB m y x.1.val x.2.val = false) : RB m y mb bx (pre ++ [x]) W :=
  ⟨h.top, fun a ha => by
    obtain ⟨s, hs, hc, hf, hb⟩ := h.row a ha
    refine ⟨s, hs, hc, hf, fun b hbn => (hb b hbn).trans ?_⟩
    constructor
    · rintro ⟨e, p, hp, e1, e2⟩
      exact ⟨e, p, List.mem_append_left _ hp, e1, e2⟩
    · rintro ⟨e, p, hp, e1, e2⟩
      rcases List.mem_append.1 hp with hp | hp
      · exact ⟨e, p, hp, e1, e2⟩
      · exfalso
        have e3 : p = x := by simpa using hp
        rw [← e1, ← e2, e3, hx] at e
        exact Bool.false_ne_true e⟩
theorem or_lt12 {s b : Nat} (hs : s < 4096) (hb : b < 12) : s ||| 2 ^ b < 4096 := by
  have h1 : 2 ^ b < 2 ^ 12 := Nat.pow_lt_pow_right (by omega) hb
  exact Nat.or_lt_two_pow (n := 12) hs h1
theorem RB.set {m : Mx} {y : Nat → Nat} {mb bx : Nat} {pre : List (Fin m.n × Fin m.n)} {W : World} (h : RB m y mb bx pre W) (hne : bx ≠ mb) (hn : m.n ≤ 12) {a b s : Nat} (ha : a < m.n) (hb : b < m.n) (hx : agB m y a b = true) (hs : W.cell? ⟨mb, a, none⟩ = some (.int .i64 (s : Int))) :
    RB m y mb bx (pre ++ [(⟨a, ha⟩, ⟨b, hb⟩)]) (W.setCell ⟨mb, a, none⟩ (.int .i64 ((s ||| 2 ^ b : Nat) : Int))) :=
  ⟨(World.cell?_setCell_other _ _ _ _ (by intro e; exact hne (congrArg Addr.block e).symm)).trans h.top, fun c hc => by
    obtain ⟨t, ht, hct, hf, hbt⟩ := h.row c hc
    by_cases e : c = a
    · subst e
      have est : s = t := by
        rw [hs] at hct
        have e9 : (s : Int) = (t : Int) := by simpa using hct
        omega
      subst est
      refine ⟨s ||| 2 ^ b, or_lt12 ht (by omega), World.cell?_setCell_same' _ _ _ (by rw [hs]; rfl), by rw [World.frozen?_setCell]; exact hf, fun d hd => ?_⟩
      rw [Nat.testBit_or, Bool.or_eq_true, hbt d hd, Nat.testBit_two_pow, decide_eq_true_iff]
      constructor
      · rintro (⟨e1, p, hp, e2, e3⟩ | e1)
        · exact ⟨e1, p, List.mem_append_left _ hp, e2, e3⟩
        · subst e1
          exact ⟨hx, _, List.mem_append_right _ (List.mem_singleton.2 rfl), rfl, rfl⟩
      · rintro ⟨e1, p, hp, e2, e3⟩
        rcases List.mem_append.1 hp with hp | hp
        · exact .inl ⟨e1, p, hp, e2, e3⟩
        · right
          have e4 : p = (⟨c, ha⟩, ⟨b, hb⟩) := by simpa using hp
          rw [e4] at e3
          exact e3
    · refine ⟨t, ht, (World.cell?_setCell_other _ _ _ _ (by intro e2; exact e (congrArg Addr.off e2).symm)).trans hct, by rw [World.frozen?_setCell]; exact hf, fun d hd => (hbt d hd).trans ?_⟩
      constructor
      · rintro ⟨e1, p, hp, e2, e3⟩
        exact ⟨e1, p, List.mem_append_left _ hp, e2, e3⟩
      · rintro ⟨e1, p, hp, e2, e3⟩
        rcases List.mem_append.1 hp with hp | hp
        · exact ⟨e1, p, hp, e2, e3⟩
        · exfalso
          have e4 : p = (⟨a, ha⟩, ⟨b, hb⟩) := by simpa using hp
          rw [e4] at e2
          exact e e2.symm⟩

theorem made_rep (c : Nat) : madeCells #[Value.int .i64 0] c = Array.replicate c (Value.int .i64 0) := by rw [← List.toArray_replicate, ← toList_madeCells_one]
/-- What agreeing hands back: a function value over rows of bits. -/
structure AgAt (m : Mx) (y : Nat → Nat) (mb bx : Nat) (W : World) : Prop where
  top : W.cell? ⟨bx, 0, none⟩ = some (.slice (some ⟨mb, 0, none⟩) m.n m.n)
  row : ∀ a, a < m.n → ∃ s : Nat, s < 4096 ∧ W.cell? ⟨mb, a, none⟩ = some (.int .i64 (s : Int)) ∧ ∀ b, b < m.n → s.testBit b = agB m y a b
theorem AgAt.step {m : Mx} {y : Nat → Nat} {mb bx : Nat} {W W' : World} (h : AgAt m y mb bx W) (hb : Below W.heap.size W W') : AgAt m y mb bx W' :=
  ⟨(hb.cell (World.block_lt_of_cell? _ _ h.top)).trans h.top, fun a ha => by
    obtain ⟨s, hs, hc, hr⟩ := h.row a ha
    exact ⟨s, hs, (hb.cell (World.block_lt_of_cell? _ _ hc)).trans hc, hr⟩⟩
theorem AgAt.put {m : Mx} {y : Nat → Nat} {mb bx D : Nat} {W : World} (h : AgAt m y mb bx W) {o : Obj} (hl : W.heap[D]? = some o) (ho : o.isCells = false) (o' : Obj) : AgAt m y mb bx (W.putObj D o') :=
  ⟨cell_kept h.top (grownBy_putObj' _ D o') (fun r e => by cases e; exact ⟨_, hl, ho⟩), fun a ha => by
    obtain ⟨s, hs, hc, hr⟩ := h.row a ha
    exact ⟨s, hs, cell_kept hc (grownBy_putObj' _ D o') (fun r e => by cases e; exact ⟨_, hl, ho⟩), hr⟩⟩
theorem RB.all {m : Mx} {y : Nat → Nat} {mb bx : Nat} {pre : List (Fin m.n × Fin m.n)} {W : World} (h : RB m y mb bx pre W) (hall : ∀ a b : Fin m.n, (a, b) ∈ pre) : AgAt m y mb bx W :=
  ⟨h.top, fun a ha => by
    obtain ⟨s, hs, hc, _, hb⟩ := h.row a ha
    refine ⟨s, hs, hc, fun b hbn => ?_⟩
    rw [Bool.eq_iff_iff, hb b hbn]
    exact ⟨fun e => e.1, fun e => ⟨e, (⟨a, ha⟩, ⟨b, hbn⟩), hall _ _, rfl, rfl⟩⟩⟩
theorem RB.none_yet {m : Mx} {y : Nat → Nat} {mb bx : Nat} {W : World} (htop : W.cell? ⟨bx, 0, none⟩ = some (.slice (some ⟨mb, 0, none⟩) m.n m.n)) (hrow : ∀ a, a < m.n → W.cell? ⟨mb, a, none⟩ = some (.int .i64 0) ∧ W.frozen? ⟨mb, a, none⟩ = false) : RB m y mb bx [] W :=
  ⟨htop, fun a ha => ⟨0, by omega, (hrow a ha).1, (hrow a ha).2, fun b hb => by simp⟩⟩
abbrev agF (bx : Nat) : Value := .func (.func 74) #[] #[.pointer (some ⟨bx, 0, none⟩)]
set_option maxRecDepth 100000 in
set_option maxHeartbeats 2000000 in
theorem agrees_any {m : Mx} {y : Nat → Nat} {mb bx a b : Nat} {w : World} (h : AgAt m y mb bx w) (hn : m.n ≤ 12) (ha : a < m.n) (hb : b < m.n) :
    Calls Tryd.prog 74 #[.int .i64 a, .int .i64 b, .pointer (some ⟨bx, 0, none⟩)] w fun e w' => e = .returned (.bool (agB m y a b)) ∧ w = w' := by
  obtain ⟨s, hs, hc, hr⟩ := h.row a ha
  have hb2 := hr b hb
  rw [← hasN_asked] at hb2
  have HB := Lib.hid hb2
  have HS := Lib.hid hs
  have htop := h.top
  have ha' : (a : Int) < m.n := by omega
  clear h hr hb2 hs
  go_enter Tryd.func74, Tryd.ntmps74
  go_wp2_with fail
  go_at_call 75
  refine (has_any HS.out (by omega) _).mono ?_
  rintro e w' ⟨rfl, rfl⟩
  go_wp2_with fail
  go_ret
  exact ⟨ret_bool HB.out, rfl⟩
def AgRes (w : World) (m : Mx) (y : Nat → Nat) (e : Ending) (w' : World) : Prop := ∃ bx mb : Nat, e = .returned (agF bx) ∧ AgAt m y mb bx w' ∧ Below w.heap.size w w'

set_option maxRecDepth 100000 in
set_option maxHeartbeats 2000000 in
theorem agreeing_any {w : World} {B ob tb g o nc n0 : Nat} {tG : Nat → Nat} {ua : Option Addr} {l : Lay} {m : Mx} {z : Nat → Int} {y : Nat → Nat} (h : AL w B ob tb tG ua l m g o z y n0) :
    Calls Tryd.prog 57 #[.agg #[.slice ua m.n l.cap, .slice (some ⟨g, o, none⟩) m.n nc, .slice (some ⟨ob, 0, none⟩) 2 2]] w (AgRes w m y) := by
  have hn := h.O.lat.order.top
  have hpos := h.O.lat.order.pos
  have hX := BoxN.start w #[.slice ua m.n l.cap, .slice (some ⟨g, o, none⟩) m.n nc, .slice (some ⟨ob, 0, none⟩) 2 2] 52
  have HL := Lib.hid (h.step hX.below)
  have q0 := hX.cell 0 rfl
  have q1 := hX.cell 1 rfl
  have e1 : (w.alloc (.cells #[.slice ua m.n l.cap, .slice (some ⟨g, o, none⟩) m.n nc, .slice (some ⟨ob, 0, none⟩) 2 2] 52)).heap.size = w.heap.size + 1 := World.size_alloc _ _
  obtain ⟨i0, hi, hz0, hz1, hz2⟩ := info_parts infoInt
  have hmk : (Instr.makeSlice 24 (.int .i64 (m.n : Int)) (.int .i64 (m.n : Int))).run Tryd.prog (w.alloc (.cells #[.slice ua m.n l.cap, .slice (some ⟨g, o, none⟩) m.n nc, .slice (some ⟨ob, 0, none⟩) 2 2] 52)) = .ok (.slice (some ⟨w.heap.size + 1, 0, none⟩) m.n m.n) ((w.alloc (.cells #[.slice ua m.n l.cap, .slice (some ⟨g, o, none⟩) m.n nc, .slice (some ⟨ob, 0, none⟩) 2 2] 52)).alloc (.cells (Array.replicate m.n (Value.int .i64 0)) 3)) := by
    have hb8 : (i0.bytes : Int) * (m.n : Int) ≤ 281474976710656 := by
      rw [hz2]
      omega
    have h0 := run_make (P := Tryd.prog) (w.alloc (.cells #[.slice ua m.n l.cap, .slice (some ⟨g, o, none⟩) m.n nc, .slice (some ⟨ob, 0, none⟩) 2 2] 52)) 24 3 i0 (.int .i64 0) Tryd.underlying24 hi hz0 .i64 .i64 (m.n : Int) (m.n : Int) (by omega) (Int.le_refl _) hb8 (by omega)
    rw [hz1] at h0
    rw [e1] at h0
    simp only [Int.toNat_natCast, Nat.mul_one] at h0
    rw [h0]
    show Result.ok _ (World.alloc _ (.cells (madeCells #[Value.int .i64 0] m.n) _)) = _
    rw [made_rep]
  have hz : ∀ a, a < m.n → ((w.alloc (.cells #[.slice ua m.n l.cap, .slice (some ⟨g, o, none⟩) m.n nc, .slice (some ⟨ob, 0, none⟩) 2 2] 52)).alloc (.cells (Array.replicate m.n (Value.int .i64 0)) 3)).cell? ⟨w.heap.size + 1, a, none⟩ = some (.int .i64 0) ∧ ((w.alloc (.cells #[.slice ua m.n l.cap, .slice (some ⟨g, o, none⟩) m.n nc, .slice (some ⟨ob, 0, none⟩) 2 2] 52)).alloc (.cells (Array.replicate m.n (Value.int .i64 0)) 3)).frozen? ⟨w.heap.size + 1, a, none⟩ = false := fun a ha => by
    rw [← e1]
    constructor
    · simp [ha]
    · simp
  have HZ := Lib.hid hz
  have hb1 := (Below.refl (w.heap.size + 1) (w.alloc (.cells #[.slice ua m.n l.cap, .slice (some ⟨g, o, none⟩) m.n nc, .slice (some ⟨ob, 0, none⟩) 2 2] 52))).alloc (by simp) (.cells (Array.replicate m.n (Value.int .i64 0)) 3)
  have H0 := Lib.hid h
  clear hz hi hz0 hz1 hz2 h
  refine (callsIn_wide (n := 9)).1 ?_
  refine callsIn_of_wp_marks Tryd.func57 rfl trivial ?_ rfl
  simp only [Tryd.ntmps57, List.size_toArray, List.length_cons, List.length_nil, Nat.reduceAdd, Nat.reduceSub, Array.replicate_succ, Array.replicate_zero, List.push_toArray, List.append_toArray, List.nil_append, List.cons_append]
  gi_wp2_with fail
  refine ⟨trivial, ?_⟩
  refine (pairs_any _ _ _).mono ?_
  rintro e w' ⟨rfl, rfl⟩
  gi_wp2_with fail
  have e2 : (((w.alloc (.cells #[.slice ua m.n l.cap, .slice (some ⟨g, o, none⟩) m.n nc, .slice (some ⟨ob, 0, none⟩) 2 2] 52)).alloc (.cells (Array.replicate m.n (Value.int .i64 0)) 3))).heap.size = w.heap.size + 1 + 1 := by rw [World.size_alloc, e1]
  have hV := Boxd.start (((w.alloc (.cells #[.slice ua m.n l.cap, .slice (some ⟨g, o, none⟩) m.n nc, .slice (some ⟨ob, 0, none⟩) 2 2] 52)).alloc (.cells (Array.replicate m.n (Value.int .i64 0)) 3))) (.slice (some ⟨w.heap.size + 1, 0, none⟩) m.n m.n) 24
  have hV0 := hV.cell
  rw [e2] at hV0
  have e3 : ((((w.alloc (.cells #[.slice ua m.n l.cap, .slice (some ⟨g, o, none⟩) m.n nc, .slice (some ⟨ob, 0, none⟩) 2 2] 52)).alloc (.cells (Array.replicate m.n (Value.int .i64 0)) 3))).alloc (.cells #[.slice (some ⟨w.heap.size + 1, 0, none⟩) m.n m.n] 24)).heap.size = w.heap.size + 1 + 1 + 1 := by rw [World.size_alloc, e2]
  have hP := Boxd.start ((((w.alloc (.cells #[.slice ua m.n l.cap, .slice (some ⟨g, o, none⟩) m.n nc, .slice (some ⟨ob, 0, none⟩) 2 2] 52)).alloc (.cells (Array.replicate m.n (Value.int .i64 0)) 3))).alloc (.cells #[.slice (some ⟨w.heap.size + 1, 0, none⟩) m.n m.n] 24)) (.slice ua m.n l.cap) 49
  have hP0 := hP.cell
  have hPs := hP.size
  rw [e3] at hP0 hPs
  have hX2 : BoxN w #[.slice ua m.n l.cap, .slice (some ⟨g, o, none⟩) m.n nc, .slice (some ⟨ob, 0, none⟩) 2 2] 52 (((((w.alloc (.cells #[.slice ua m.n l.cap, .slice (some ⟨g, o, none⟩) m.n nc, .slice (some ⟨ob, 0, none⟩) 2 2] 52)).alloc (.cells (Array.replicate m.n (Value.int .i64 0)) 3))).alloc (.cells #[.slice (some ⟨w.heap.size + 1, 0, none⟩) m.n m.n] 24)).alloc (.cells #[.slice ua m.n l.cap] 49)) := ⟨(hb1.alloc (by omega) _).alloc (by omega) _⟩
  have b3 := hP.below
  rw [e3] at b3
  have b2 := hV.below
  rw [e2] at b2
  have hRB : RB m y (w.heap.size + 1) (w.heap.size + 1 + 1) [] (((((w.alloc (.cells #[.slice ua m.n l.cap, .slice (some ⟨g, o, none⟩) m.n nc, .slice (some ⟨ob, 0, none⟩) 2 2] 52)).alloc (.cells (Array.replicate m.n (Value.int .i64 0)) 3))).alloc (.cells #[.slice (some ⟨w.heap.size + 1, 0, none⟩) m.n m.n] 24)).alloc (.cells #[.slice ua m.n l.cap] 49)) := RB.none_yet ((b3.cell (p := ⟨w.heap.size + 1 + 1, 0, none⟩) (by show w.heap.size + 1 + 1 < _; omega)).trans hV0) fun a ha => by
    have c1 := b2.cell (p := ⟨w.heap.size + 1, a, none⟩) (by show w.heap.size + 1 < _; omega)
    have c2 := b3.cell (p := ⟨w.heap.size + 1, a, none⟩) (by show w.heap.size + 1 < _; omega)
    have f1 := b2.frozen (p := ⟨w.heap.size + 1, a, none⟩) (by show w.heap.size + 1 < _; omega)
    have f2 := b3.frozen (p := ⟨w.heap.size + 1, a, none⟩) (by show w.heap.size + 1 < _; omega)
    exact ⟨c2.trans (c1.trans (HZ.out a ha).1), f2.trans (f1.trans (HZ.out a ha).2)⟩
  clear b2 b3 hV0 hV hP hX HL HZ hb1 hmk q0 q1
  generalize hW : ((((w.alloc (.cells #[.slice ua m.n l.cap, .slice (some ⟨g, o, none⟩) m.n nc, .slice (some ⟨ob, 0, none⟩) 2 2] 52)).alloc (.cells (Array.replicate m.n (Value.int .i64 0)) 3))).alloc (.cells #[.slice (some ⟨w.heap.size + 1, 0, none⟩) m.n m.n] 24)).alloc (.cells #[.slice ua m.n l.cap] 49) = W2 at hP0 hPs hX2 hRB ⊢
  clear hW e1 e2 e3
  refine wpIn_rangeFunc_ownG rfl (by omega) (gf := 64) (lb := #[.pointer (some ⟨w.heap.size + 1 + 1 + 1, 0, none⟩)]) rfl trivial (enters_of Tryd.func64 (by kernel_rfl) rfl)
    (pairs_stopsK _ m.n (by omega) hn (w.heap.size + 1 + 1 + 1) l.cap ua W2 (by omega) hP0) KeptB.trans (KeptB.put (by omega)) (Below.refl _ _) (fun _ => rfl)
    (fun pre W => RB m y (w.heap.size + 1) (w.heap.size + 1 + 1) pre W ∧ BoxN w #[.slice ua m.n l.cap, .slice (some ⟨g, o, none⟩) m.n nc, .slice (some ⟨ob, 0, none⟩) 2 2] 52 W ∧ w.heap.size + 1 + 1 + 1 + 1 ≤ W.heap.size)
    (fun _ _ _ => False)
    (OwnFrom.and (Own.from (RB.own m y _ _) _) (OwnFrom.and (fun s A B row hs hg hr => ⟨ownFrom_below (B := W2.heap.size) (by simp) (by omega) s A B row hs.since hg hr⟩) (fun s A B row hs hg hr => Nat.le_trans hs hg.size)))
    (fun c => ownFrom_pure _ _)
    ⟨hRB, hX2, hPs⟩
    (fun x => { tmps := #[.agg #[.slice ua m.n l.cap, .slice (some ⟨g, o, none⟩) m.n nc, .slice (some ⟨ob, 0, none⟩) 2 2], .pointer (some ⟨w.heap.size, 0, none⟩), .nilFunc, .pointer (some ⟨w.heap.size + 1 + 1, 0, none⟩), .int .i64 ((x.1.val : Nat) : Int), .int .i64 ((x.2.val : Nat) : Int),
        .pointer (some ⟨w.heap.size, 1, none⟩), .slice (some ⟨g, o, none⟩) m.n nc, .int .i64 (m.n : Int), .slice (some ⟨w.heap.size + 1, 0, none⟩) m.n m.n, .pointer (some ⟨w.heap.size, 0, none⟩), .agg #[.slice ua m.n l.cap], .func (.func 64) #[] #[.pointer (some ⟨w.heap.size + 1 + 1 + 1, 0, none⟩)],
        .int .i64 ((x.1.val : Nat) : Int), .int .i64 ((x.2.val : Nat) : Int), undef, undef, undef, undef, undef, undef, undef, undef, undef, undef, undef, undef, undef, undef, undef], defers := [] }) ?assign ?body ?done ?stop
  case assign =>
    intro lr x W K hK
    dsimp only
    clear hP0 hPs hX2 hRB H0 hn hpos
    gi_wp2
    exact hK
  case body =>
    rintro lr pre ⟨⟨a, ha⟩, ⟨b, hb⟩⟩ W ⟨hrb, hXW, hsz⟩ _
    have HRB := Lib.hid hrb
    clear hrb hRB hX2 hP0
    have hL := Lib.hid (H0.out.step hXW.below)
    have q0 := hXW.cell 0 rfl
    have q1 := hXW.cell 1 rfl
    have q2 := hXW.cell 2 rfl
    dsimp only
    cases hk : agB m y a b with
    | false =>
      have n1 : (((takN m y a b : Nat) : Int) == (a : Int)) = false := by have := of_decide_eq_false hk; rw [beq_eq_false_iff_ne]; intro e; exact this (by show takN m y a b = a; omega)
      have HK := Lib.hid hk
      clear hk
      gi_wp2_with fail
      refine ⟨trivial, ?_⟩
      refine (CallsIn.inRound lr (callsIn_wide.2 (takenApart_any (nc := nc) hL.out ha hb))).mono ?_
      rintro e w3 ⟨rfl, b3⟩
      gi_wp2_with fail
      have s3 := b3.size
      exact ⟨keepsFrom_below b3, b3.block _ (by omega), (HRB.out.below b3).skip HK.out, hXW.step b3, by omega⟩
    | true =>
      have n1 : (((takN m y a b : Nat) : Int) == (a : Int)) = true := by have e : takN m y a b = a := of_decide_eq_true hk; rw [e]; simp
      have HK := Lib.hid hk
      clear hk
      gi_wp2_with fail
      refine ⟨trivial, ?_⟩
      refine (CallsIn.inRound lr (callsIn_wide.2 (takenApart_any (nc := nc) hL.out ha hb))).mono ?_
      rintro e w3 ⟨rfl, b3⟩
      clear q0 q1 q2
      gi_wp2_with fail
      have bd : Below W.heap.size W w3.drew := b3.drew
      have HRB3 := Lib.hid (HRB.out.below bd)
      have hXd := hXW.step bd
      have s3 : W.heap.size ≤ w3.drew.heap.size := bd.size
      obtain ⟨s, hs, cs, fs, _⟩ := HRB3.out.row a ha
      have ct := HRB3.out.top
      have Hs := Lib.hid hs
      have ha' : (a : Int) < m.n := by omega
      have hb' : (b : Int) ≤ 64 := by omega
      have hb'' : (b : Int) < 64 := by omega
      have ho : bits .or .i64 (s : Int) (IntKind.i64.wrap (2 ^ b)) = ((s ||| 2 ^ b : Nat) : Int) := by
        have hp := pow_le_12 (k := b) (by omega)
        rw [one_wrap (by omega), i64_or_nat _ _ (by omega) (by omega)]
      have HO := Lib.hid ho
      have hT : (fun _ : World => True) w3.drew := trivial
      clear hs ho HRB
      refine region_hold (fuel := 9) (listed := #[false, false, false, false, false, false, false, false, false]) (fun _ => True) (by kernel_rfl) (by kernel_rfl) (by kernel_rfl) (by kernel_rfl) ?_
      generalize w3.drew = wd at bd HRB3 hXd s3 cs fs ct hT ⊢
      refine hold_take (i := 1) (d := 22) (v := ?va1) (listed' := #[false, true, false, false, false, false, false, false, false]) rfl (by kernel_rfl) (by kernel_rfl) (by kernel_rfl) rfl (by rfl) (by kernel_rfl) hT ?ha1 ?ra1
      case ha1 =>
        intro w' hSw
        skip
        go_simp
        try with_reducible rfl
      simp only [List.setIfInBounds_toArray, List.set_cons_zero, List.set_cons_succ]
      refine hold_take (i := 4) (d := 25) (v := ?va4) (listed' := #[false, true, false, false, true, false, false, false, false]) rfl (by kernel_rfl) (by kernel_rfl) (by kernel_rfl) rfl (by rfl) (by kernel_rfl) hT ?ha4 ?ra4
      case ha4 =>
        intro w' hSw
        skip
        go_simp
        try with_reducible rfl
      simp only [List.setIfInBounds_toArray, List.set_cons_zero, List.set_cons_succ]
      refine hold_take (i := 5) (d := 26) (v := ?va5) (listed' := #[false, true, false, false, true, true, false, false, false]) rfl (by kernel_rfl) (by kernel_rfl) (by kernel_rfl) rfl (by rfl) (by kernel_rfl) hT ?ha5 ?ra5
      case ha5 =>
        intro w' hSw
        skip
        go_simp
        try with_reducible rfl
      simp only [List.setIfInBounds_toArray, List.set_cons_zero, List.set_cons_succ]
      refine hold_value (i := 0) (d := 21) (listed' := #[true, true, false, false, true, true, false, false, false]) rfl (by kernel_rfl) rfl (by rfl) (by kernel_rfl) (v := .slice (some ⟨w.heap.size + 1, 0, none⟩) m.n m.n) (w' := wd) ?hva0 hT ?_
      case hva0 =>
        go_simp
        try with_reducible rfl
      simp only [List.setIfInBounds_toArray, List.set_cons_zero, List.set_cons_succ]
      refine hold_value (i := 2) (d := 23) (listed' := #[true, true, true, false, true, true, false, false, false]) rfl (by kernel_rfl) rfl (by rfl) (by kernel_rfl) (v := .pointer (some ⟨w.heap.size + 1, a, none⟩)) (w' := wd) ?hva2 hT ?_
      case hva2 =>
        go_simp
        try with_reducible rfl
      simp only [List.setIfInBounds_toArray, List.set_cons_zero, List.set_cons_succ]
      refine hold_value (i := 3) (d := 24) (listed' := #[true, true, true, true, true, true, false, false, false]) rfl (by kernel_rfl) rfl (by rfl) (by kernel_rfl) (v := .int .i64 (s : Int)) (w' := wd) ?hva3 hT ?_
      case hva3 =>
        go_simp
        try with_reducible rfl
      simp only [List.setIfInBounds_toArray, List.set_cons_zero, List.set_cons_succ]
      refine hold_value (i := 6) (d := 27) (listed' := #[true, true, true, true, true, true, true, false, false]) rfl (by kernel_rfl) rfl (by rfl) (by kernel_rfl) (v := .int .i64 (bits .or .i64 (s : Int) (IntKind.i64.wrap (2 ^ b)))) (w' := wd) ?hva6 hT ?_
      case hva6 =>
        go_simp
        try with_reducible rfl
      simp only [List.setIfInBounds_toArray, List.set_cons_zero, List.set_cons_succ]
      refine hold_value (i := 7) (d := 28) (listed' := #[true, true, true, true, true, true, true, true, false]) rfl (by kernel_rfl) rfl (by rfl) (by kernel_rfl) (v := .pointer (some ⟨w.heap.size + 1, a, none⟩)) (w' := wd) ?hva7 hT ?_
      case hva7 =>
        go_simp
        try with_reducible rfl
      simp only [List.setIfInBounds_toArray, List.set_cons_zero, List.set_cons_succ]
      refine hold_store (i := 8) (w' := wd.setCell ⟨w.heap.size + 1, a, none⟩ (.int .i64 (bits .or .i64 (s : Int) (IntKind.i64.wrap (2 ^ b))))) (listed' := #[true, true, true, true, true, true, true, true, true]) rfl (by kernel_rfl) rfl (by rfl) (by kernel_rfl) ?hsa8 trivial ?hka8
      case hsa8 => go_simp
      refine hold_done (by kernel_rfl) ?_ _
      gi_wp2_with fail
      rw [HO.out]
      have hset := HRB3.out.set (by omega) hn ha hb HK.out cs
      have hch := Chg.set (S := fun k => k = w.heap.size + 1) (w := wd) rfl (i := a) (.int .i64 ((s ||| 2 ^ b : Nat) : Int))
      exact ⟨(keepsFrom_below bd).trans ((KeepsOthers.setCell _ _ _).from _), (hch.block _ (by omega) (by show ¬ _ = _; omega)).trans (bd.block _ (by omega)), hset, ⟨hXd.since.setCell (p := ⟨w.heap.size + 1, a, none⟩) (by show _ ≤ w.heap.size + 1; omega) _⟩, by have := hch.size; omega⟩
  case done =>
    rintro D ys W hD hys ⟨hrb, hXW, hsz⟩ hK
    have hAg := Lib.hid ((hrb.all hys).put hK rfl (.deferred none))
    have hDs : w.heap.size ≤ D := by omega
    clear hrb hRB hX2 hP0
    gi_wp2
    refine ⟨by simp, .inl ⟨_, _, rfl, run_takeDeferred hK, ?_⟩⟩
    refine ⟨agF (w.heap.size + 1 + 1), ?_, ⟨_, _, rfl, hAg.out, hXW.below.trans (belowK_b (w := w) (Nat.le_refl _) W D _ _ hDs hK rfl rfl)⟩⟩
    simp [results, Tryd.f57, go_sem]
  case stop =>
    rintro D c pre W hD _ hF hK
    exact hF.elim
end Go.Proofs.YtjmhhjdkemicbaaDoor
namespace Go.Proofs.YtjmhhjdkemicbaaDoor
open Go.RowKit Go.Deep Go.Shelf

attribute [local go_sem] Oper.semAt_some

def bothPB (m : Mx) (y : Nat → Nat) (a b : Nat) : Bool := !agB m y a b || agB m y b a
/-- Nothing speaks against the pairs of the list. -/
def AllBoth (m : Mx) (y : Nat → Nat) (pre : List (Fin m.n × Fin m.n)) : Prop := ∀ p ∈ pre, bothPB m y p.1.val p.2.val = true
theorem AllBoth.snoc {m : Mx} {y : Nat → Nat} {pre : List (Fin m.n × Fin m.n)} (h : AllBoth m y pre) {x : Fin m.n × Fin m.n} (hx : bothPB m y x.1.val x.2.val = true) : AllBoth m y (pre ++ [x]) := fun p hp => by
  rcases List.mem_append.1 hp with e | e
  · exact h p e
  · have e' : p = x := by simpa using e
    rw [e']; exact hx
theorem AllBoth.all {m : Mx} {y : Nat → Nat} {pre : List (Fin m.n × Fin m.n)} (h : AllBoth m y pre) (hall : ∀ a b : Fin m.n, (a, b) ∈ pre) : twoWaysB m y = true := by
  unfold twoWaysB
  refine allB_true fun a ha => allB_true fun b hb => ?_
  have h1 := h (⟨a, ha⟩, ⟨b, hb⟩) (hall _ _)
  unfold bothPB at h1
  exact h1

end Go.Proofs.YtjmhhjdkemicbaaDoor
