/- The walk of the program's test whether numbers are opposites of each other; what its algebra of a logic is, in memory. The walks of the algebra's operations, and of the test whether each answer meets its opposite in the least one. A region that draws its order, within a round of a range over a function: it is enough to walk it as everywhere, under a condition that all its operations keep. The walk of the test whether what is below is above among the opposites. The walk of the program's LogicOk. The walk of the reference's LogicOk. The walks of the laws' helpers on logics: how large one is, its copy, whether two are equal. The walks of the program's functions on logics. -/
import Derived.Test.YtjofkejfldmmlaaDoorWv
import Derived.Test.YtjofkejfldmmlaaDoorMath
import Derived.Deep.RegionHeld3
import Derived.OrdersHeld
import Derived.OrdersIn
import Derived.BigQuiet
import Derived.Test.YtjofkejfldmmlaaDoorLa
import Derived.Test.YtjofkejfldmmlaaDoorDa
namespace Go.Proofs.YtjofkejfldmmlaaDoor
open Go.RowKit Go.Deep

theorem later1 {w w2 : World} {v : Value} {x : Obj} (hb : Below (w.heap.size + 2) (((w.alloc (.cells #[v] 92)).alloc x).drew) w2) (o : Obj) :
    w2.cell? ⟨w.heap.size, 0, none⟩ = some v ∧ (w2.alloc o).cell? ⟨w.heap.size, 0, none⟩ = some v := by
  have hs' : w.heap.size + 2 ≤ w2.heap.size := by simpa using hb.size
  have h1 : w2.cell? ⟨w.heap.size, 0, none⟩ = some v := by
    rw [hb.cell (p := ⟨w.heap.size, 0, none⟩) (by show w.heap.size < _; omega)]
    exact ((Boxed.new w 92 v).alloc x).cell
  exact ⟨h1, by rw [World.cell?_alloc_lt _ _ _ (by show w.heap.size < _; omega)]; exact h1⟩

theorem past3 {w w1 : World} {v : Value} (h : w1.cell? ⟨w.heap.size, 0, none⟩ = some v) (x y z : Value) :
    (((w1.setCell ⟨w.heap.size + 1, 0, none⟩ x).setCell ⟨w.heap.size + 1, 1, none⟩ y).setCell ⟨w.heap.size + 1, 2, none⟩ z).cell? ⟨w.heap.size, 0, none⟩ = some v := by
  rw [World.cell?_setCell_other _ _ _ _ (fun e => by injection e with e1; omega), World.cell?_setCell_other _ _ _ _ (fun e => by injection e with e1; omega), World.cell?_setCell_other _ _ _ _ (fun e => by injection e with e1; omega)]
  exact h

def algV (sa : Option Addr) (l : Lay) (m : Mx) (na : Option Addr) (k nc ob : Nat) : Value := .agg #[.slice sa m.n l.cap, .slice na k nc, .slice (some ⟨ob, 0, none⟩) 2 2]
theorem told3 {w1 : World} {p : Nat} {x y z u0 u1 u2 : Value} (h0 : w1.cell? ⟨p, 0, none⟩ = some u0) (h1 : w1.cell? ⟨p, 1, none⟩ = some u1) (h2 : w1.cell? ⟨p, 2, none⟩ = some u2) :
    (((w1.setCell ⟨p, 0, none⟩ x).setCell ⟨p, 1, none⟩ y).setCell ⟨p, 2, none⟩ z).cell? ⟨p, 0, none⟩ = some x ∧
    (((w1.setCell ⟨p, 0, none⟩ x).setCell ⟨p, 1, none⟩ y).setCell ⟨p, 2, none⟩ z).cell? ⟨p, 1, none⟩ = some y ∧
    (((w1.setCell ⟨p, 0, none⟩ x).setCell ⟨p, 1, none⟩ y).setCell ⟨p, 2, none⟩ z).cell? ⟨p, 2, none⟩ = some z := by
  have a01 : (⟨p, 0, none⟩ : Addr) ≠ ⟨p, 1, none⟩ := fun e => by injection e with _ e1; omega
  have a02 : (⟨p, 0, none⟩ : Addr) ≠ ⟨p, 2, none⟩ := fun e => by injection e with _ e1; omega
  have a12 : (⟨p, 1, none⟩ : Addr) ≠ ⟨p, 2, none⟩ := fun e => by injection e with _ e1; omega
  refine ⟨?_, ?_, ?_⟩
  · rw [World.cell?_setCell_other _ _ _ _ (by first | exact a02 | exact Ne.symm a02), World.cell?_setCell_other _ _ _ _ (by first | exact a01 | exact Ne.symm a01)]
    exact World.cell?_setCell_same _ _ _ h0
  · rw [World.cell?_setCell_other _ _ _ _ (by first | exact a12 | exact Ne.symm a12)]
    exact World.cell?_setCell_same (u := u1) _ _ _ (by rw [World.cell?_setCell_other _ _ _ _ (by first | exact a01 | exact Ne.symm a01)]; exact h1)
  · exact World.cell?_setCell_same (u := u2) _ _ _ (by rw [World.cell?_setCell_other _ _ _ _ (by first | exact a12 | exact Ne.symm a12), World.cell?_setCell_other _ _ _ _ (by first | exact a02 | exact Ne.symm a02)]; exact h2)

end Go.Proofs.YtjofkejfldmmlaaDoor
namespace Go.Proofs.YtjofkejfldmmlaaDoor
open Go.RowKit Go.Deep

/-- A struct was boxed in world w, in a block of its own; since then the call has only made memory. -/
structure BoxN (w : World) (cs : Array Value) (t : TypeId) (wr : World) : Prop where
  since : Below (w.heap.size + 1) (w.alloc (.cells cs t)) wr
theorem BoxN.start (w : World) (cs : Array Value) (t : TypeId) : BoxN w cs t (w.alloc (.cells cs t)) := ⟨Below.refl _ _⟩
theorem BoxN.size {w wr : World} {cs : Array Value} {t : TypeId} (h : BoxN w cs t wr) : w.heap.size + 1 ≤ wr.heap.size := by
  have := h.since.size
  rwa [World.size_alloc] at this
theorem BoxN.step {w wr w1 : World} {cs : Array Value} {t : TypeId} (h : BoxN w cs t wr) (k : Below wr.heap.size wr w1) : BoxN w cs t w1 := ⟨h.since.trans (k.mono h.size)⟩
theorem BoxN.cell {w wr : World} {cs : Array Value} {t : TypeId} (h : BoxN w cs t wr) (i : Nat) {v : Value} (hv : cs[i]? = some v) : wr.cell? ⟨w.heap.size, i, none⟩ = some v :=
  (h.since.cell (p := ⟨w.heap.size, i, none⟩) (Nat.lt_succ_self _)).trans (by
    have e := World.alloc_heap_new w (.cells cs t)
    simp only [World.cell?, e]
    exact hv)
theorem BoxN.below {w wr : World} {cs : Array Value} {t : TypeId} (h : BoxN w cs t wr) : Below w.heap.size w wr :=
  ((Below.refl _ w).alloc (Nat.le_refl _) _).trans (h.since.mono (Nat.le_succ _))

end Go.Proofs.YtjofkejfldmmlaaDoor
namespace Go.Proofs.YtjofkejfldmmlaaDoor
open Go.RowKit Go.Deep Go.Shelf

theorem rows_round {l n : Nat} {P : Program} {row : String} {args : Array Value} {w : World} {R : Value → World → Prop} (h : Rows P row args w R) : RowsIn (Fence.wide.inRound l) n P row args w R :=
  fun c cs _ => let ⟨v, w', r, s⟩ := h c cs; ⟨v, w', r, stepsIn_wide.2 s⟩
theorem opIn_of_op {l n : Nat} {P : Program} {o : Oper} {a : Act} {w : World} {K : Act → World → Prop} {Q : Exit → Act → World → Prop} (hd : ∀ c, o.op ≠ .defer c) (h : o.wp P a w K Q) : o.wpIn (Fence.wide.inRound l) n P a w K Q := by
  refine ⟨fun _ _ => trivial, ?_⟩
  rw [Oper.semAt_eq _ _ _ hd]
  unfold Oper.wp at h
  generalize (execOp a.eval o).run P w = r at h ⊢
  cases r with
  | ok x w' =>
    cases x <;> first
      | exact h
      | exact ⟨fun e => by simp [Fence.inRound, Fence.wide] at e, CallsIn.inRound l (callsIn_wide.2 h)⟩
      | exact ⟨fun e => by simp [Fence.inRound, Fence.wide] at e, rows_round h⟩
      | exact False.elim h
  | halt x w' => cases x <;> first | exact h | exact False.elim h

theorem anyIn_of_any {l n : Nat} {P : Program} {md : Region.Mode} {ops : Array Oper} {Q : Exit → Act → World → Prop} (hd : ∀ (i : Nat) (o : Oper) c, ops[i]? = some o → o.op ≠ .defer c) (hL : ¬ LetsOut Q) :
    ∀ (fuel : Nat) (listed : Array Bool) (a : Act) (w : World), wpAny P md ops Q fuel listed a w → wpAnyIn (Fence.wide.inRound l) n P md ops Q fuel listed a w
  | 0, _, _, _, h => h
  | fuel + 1, listed, a, w, h => ⟨h.1, fun i hi => by
    have h1 := h.2 i hi
    unfold wpOp at h1
    unfold wpOpIn
    cases ho : ops[i]? with
    | none =>
      rw [ho] at h1
      exact anyIn_of_any hd hL fuel _ _ _ h1
    | some o =>
      rw [ho] at h1
      simp only at h1 ⊢
      by_cases hw : Region.wanted o (yielded ops a.tmps) = true
      · rw [if_pos hw] at h1 ⊢
        rcases h1 with h1 | ⟨_, h1⟩
        · exact opIn_of_op (fun c => hd i o c ho) (Oper.wp_mono (fun a' w' => anyIn_of_any hd hL fuel _ a' w') h1)
        · exact absurd h1 hL
      · rw [if_neg hw] at h1 ⊢
        exact ⟨fun _ _ => trivial, anyIn_of_any hd hL fuel _ _ _ h1⟩⟩

def noDefer (o : Oper) : Bool := match o.op with
  | .defer _ => false
  | _ => true
theorem region_round {l n id : Nat} {P : Program} {ops : Array Oper} {Q : Exit → Act → World → Prop} {a : Act} {w : World} (S : World → Prop) (hm : P.follows .mixedOrders = true) (hd : ops.all noDefer = true)
    (h : wpAnyH P .any ops (fun e a w => e = .normal ∧ Q .normal a w) S ops.size (Array.replicate ops.size false) a w.drew) : (Code.region id ops true).wpIn (Fence.wide.inRound l) n P Q a w := by
  refine Go.wpIn_mono (Q := fun e a w => e = .normal ∧ Q .normal a w) (wpIn_region_any hm (anyIn_of_any (fun i o c hi he => ?_) (fun hl => by obtain ⟨_, _, he, _⟩ := hl; cases he) _ _ _ _ (wpAny_of_held _ _ _ _ h))) fun e a w ⟨he, hq⟩ => by subst he; exact hq
  rw [Array.all_eq_true_iff_forall_mem] at hd
  have := hd o (Array.mem_of_getElem? hi)
  unfold noDefer at this
  rw [he] at this
  cases this
theorem at_drop {ops : Array Oper} {i : Nat} {o : Oper} {rest : List Oper} (h : ops.toList.drop i = o :: rest) : ops[i]? = some o := by
  have h1 : (ops.toList.drop i)[0]? = some o := by rw [h]; rfl
  rw [List.getElem?_drop, Nat.add_zero, Array.getElem?_toList] at h1
  exact h1
/-- An operation that is wanted is taken first. -/
theorem hold_take {P : Program} {md : Region.Mode} {ops : Array Oper} {Q : Act → World → Prop} {S : World → Prop} {i d fuel : Nat} {v : Value} {listed listed' : Array Bool} {a : Act} {w : World} {o : Oper} {rest : List Oper} (hi : ops.toList.drop i = o :: rest)
    (hs : Region.noSelect ops = true) (hf : Region.free md ops listed i = true) (hr : (Region.ready md ops listed).contains i = true) (hd : o.dst = some d) (hw : Region.wanted o (yielded ops a.tmps) = true) (hl : listed.setIfInBounds i true = listed')
    (hS : S w) (hv : ∀ w, S w → (execOp a.eval o).run P w = .ok (.value v) w)
    (h : wpAnyH P md ops (fun e a w => e = .normal ∧ Q a w) S fuel listed' { tmps := a.tmps.setIfInBounds d v, defers := a.defers } w) : wpAnyH P md ops (fun e a w => e = .normal ∧ Q a w) S (fuel + 1) listed a w := by
  refine wpAnyH_take (v := v) (at_drop hi) hs hf hr (fun _ _ _ h => by cases h.1) (.inl ⟨hw, hv⟩) hS ?_
  rw [hl, hd]
  exact h
/-- An operation that is not wanted is taken first. -/
theorem hold_skip {P : Program} {md : Region.Mode} {ops : Array Oper} {Q : Act → World → Prop} {S : World → Prop} {i d fuel : Nat} {listed listed' : Array Bool} {a : Act} {w : World} {o : Oper} {rest : List Oper} (hi : ops.toList.drop i = o :: rest)
    (hs : Region.noSelect ops = true) (hf : Region.free md ops listed i = true) (hr : (Region.ready md ops listed).contains i = true) (hd : o.dst = some d) (hw : Region.wanted o (yielded ops a.tmps) = false) (hl : listed.setIfInBounds i true = listed')
    (hS : S w)
    (h : wpAnyH P md ops (fun e a w => e = .normal ∧ Q a w) S fuel listed' { tmps := a.tmps.setIfInBounds d undef, defers := a.defers } w) : wpAnyH P md ops (fun e a w => e = .normal ∧ Q a w) S (fuel + 1) listed a w := by
  refine wpAnyH_take (v := undef) (at_drop hi) hs hf hr (fun _ _ _ h => by cases h.1) (.inr ⟨hw, rfl⟩) hS ?_
  rw [hl, hd]
  exact h
/-- A call that alone may come up: its contract, and S behind it. -/
theorem hold_call {P : Program} {md : Region.Mode} {ops : Array Oper} {Q : Act → World → Prop} {S : World → Prop} {i d fuel : Nat} {listed listed' : Array Bool} {a : Act} {w : World} {o : Oper} {rest : List Oper} {f : FuncId} {args : Array Value} {R : Ending → World → Prop} (hi : ops.toList.drop i = o :: rest)
    (hr : Region.ready md ops listed = [i]) (hd : o.dst = some d) (hw : Region.wanted o (yielded ops a.tmps) = true) (hl : listed.setIfInBounds i true = listed')
    (he : (execOp a.eval o).run P w = .ok (.enter f args) w) (hc : Calls P f args w R)
    (h : ∀ e w', R e w' → ∃ v, e = .returned v ∧ S w' ∧ wpAnyH P md ops (fun e a w => e = .normal ∧ Q a w) S fuel listed' { tmps := a.tmps.setIfInBounds d v, defers := a.defers } w') : wpAnyH P md ops (fun e a w => e = .normal ∧ Q a w) S (fuel + 1) listed a w := by
  refine wpAnyH_all hr (by simp) fun j hj => ?_
  obtain rfl : j = i := by simpa using hj
  unfold wpOp
  rw [at_drop hi]
  simp only
  rw [if_pos hw, hl]
  refine .inl ?_
  unfold Oper.wp
  rw [he, Oper.upon_enter]
  refine hc.mono fun e w' hR => ?_
  obtain ⟨v, rfl, hS, hA⟩ := h e w' hR
  rw [hd]
  exact ⟨hS, hA⟩
theorem region_hold {l n id fuel : Nat} {P : Program} {ops : Array Oper} {listed : Array Bool} {Q : Exit → Act → World → Prop} {a : Act} {w : World} (S : World → Prop) (hm : P.follows .mixedOrders = true) (hd : ops.all noDefer = true) (hf : ops.size = fuel) (hl : Array.replicate ops.size false = listed)
    (h : wpAnyH P .any ops (fun e a w => e = .normal ∧ Q .normal a w) S fuel listed a w.drew) : (Code.region id ops true).wpIn (Fence.wide.inRound l) n P Q a w :=
  region_round S hm hd (by rw [hl, hf]; exact h)
theorem hold_done {P : Program} {md : Region.Mode} {ops : Array Oper} {Q : Act → World → Prop} {S : World → Prop} {listed : Array Bool} {a : Act} {w : World} (hr : Region.ready md ops listed = []) (h : Q a w) :
    ∀ fuel, wpAnyH P md ops (fun e a w => e = .normal ∧ Q a w) S fuel listed a w := wpAnyH_done hr ⟨rfl, h⟩
theorem region_plain {id fuel : Nat} {P : Program} {ops : Array Oper} {listed : Array Bool} {Q : Exit → Act → World → Prop} {a : Act} {w : World} (S : World → Prop) (hm : P.follows .mixedOrders = true) (hf : ops.size = fuel) (hl : Array.replicate ops.size false = listed)
    (h : wpAnyH P .any ops (fun e a w => e = .normal ∧ Q .normal a w) S fuel listed a w.drew) : (Code.region id ops true).wp P Q a w := by
  refine Go.wp_mono (Q := fun e a w => e = .normal ∧ Q .normal a w) (wp_region_held (S := S) hm (by rw [hl, hf]; exact h)) fun e a w hq => ?_
  obtain ⟨he, hq⟩ := hq
  subst he
  exact hq
/-- A store that alone may come up. -/
theorem hold_store {P : Program} {md : Region.Mode} {ops : Array Oper} {Q : Act → World → Prop} {S : World → Prop} {i fuel : Nat} {listed listed' : Array Bool} {a : Act} {w w' : World} {o : Oper} {rest : List Oper} (hi : ops.toList.drop i = o :: rest)
    (hr : Region.ready md ops listed = [i]) (hd : o.dst = none) (hw : Region.wanted o (yielded ops a.tmps) = true) (hl : listed.setIfInBounds i true = listed')
    (he : (execOp a.eval o).run P w = .ok .skip w') (hS : S w')
    (h : wpAnyH P md ops (fun e a w => e = .normal ∧ Q a w) S fuel listed' a w') : wpAnyH P md ops (fun e a w => e = .normal ∧ Q a w) S (fuel + 1) listed a w := by
  refine wpAnyH_all hr (by simp) fun j hj => ?_
  obtain rfl : j = i := by simpa using hj
  unfold wpOp
  rw [at_drop hi]
  simp only
  rw [if_pos hw, hl]
  refine .inl ?_
  unfold Oper.wp
  rw [he, Oper.upon_skip, hd]
  exact ⟨hS, h⟩
end Go.Proofs.YtjofkejfldmmlaaDoor
namespace Go.Proofs.YtjofkejfldmmlaaDoor
open Go.RowKit Go.Deep Go.Shelf

attribute [local go_sem] Oper.semAt_some

/-- Nothing speaks against the pairs of the list. -/
def AllTurn (m : Mx) (y : Nat → Nat) (pre : List (Fin m.n × Fin m.n)) : Prop := ∀ p ∈ pre, turnPB m y p.1.val p.2.val = true
theorem AllTurn.snoc {m : Mx} {y : Nat → Nat} {pre : List (Fin m.n × Fin m.n)} (h : AllTurn m y pre) {x : Fin m.n × Fin m.n} (hx : turnPB m y x.1.val x.2.val = true) : AllTurn m y (pre ++ [x]) := fun p hp => by
  rcases List.mem_append.1 hp with e | e
  · exact h p e
  · have e' : p = x := by simpa using e
    rw [e']; exact hx

end Go.Proofs.YtjofkejfldmmlaaDoor
namespace Go.Proofs.YtjofkejfldmmlaaDoor
open Go.RowKit Go.Deep

/-- A logic as it lies in memory: rows, and a list of numbers. -/
structure LogAt (w : World) (B : Nat) (ua : Option Addr) (l : Lay) (m : Mx) (na : Option Addr) (g o k : Nat) (z : Nat → Int) : Prop where
  mat : MatAt w B ua l m
  row : RowAt w B na g o k z
  hn : m.n ≤ 9223372036854775807
  hL : ∀ r, r < m.n → m.L r ≤ 9223372036854775807
  hk : k ≤ 9223372036854775807
  hB : B ≤ w.heap.size
theorem LogAt.step {w w' : World} {B : Nat} {ua : Option Addr} {l : Lay} {m : Mx} {na : Option Addr} {g o k : Nat} {z : Nat → Int} (h : LogAt w B ua l m na g o k z) (hb : Below w.heap.size w w') : LogAt w' B ua l m na g o k z :=
  ⟨h.mat.below (hb.mono h.hB), h.row.below (hb.mono h.hB), h.hn, h.hL, h.hk, Nat.le_trans h.hB hb.size⟩
theorem LogAt.alloc {w : World} {B : Nat} {ua : Option Addr} {l : Lay} {m : Mx} {na : Option Addr} {g o k : Nat} {z : Nat → Int} (h : LogAt w B ua l m na g o k z) (x : Obj) : LogAt (w.alloc x) B ua l m na g o k z :=
  h.step ((Below.refl _ _).alloc (Nat.le_refl _) _)
theorem LogAt.sq {w : World} {B : Nat} {ua : Option Addr} {l : Lay} {m : Mx} {na : Option Addr} {g o k : Nat} {z : Nat → Int} (h : LogAt w B ua l m na g o k z) (ho : IsOrder m) : SqAt w B ua l m := ⟨h.mat, ho.sq, ho.top, h.hB⟩

end Go.Proofs.YtjofkejfldmmlaaDoor
namespace Go.Proofs.YtjofkejfldmmlaaDoor
open Go.RowKit Go.Deep

/-- What the reference has told of one answer. -/
structure OneOk (m : Mx) (y : Nat → Nat) (c : Nat) : Prop where
  back : y (y c) = c
  kept : keptPB m y c = true
  turn : ∀ b, b < m.n → turnPB m y c b = true
theorem logic_of_ones {m : Mx} {z : Nat → Int} {y : Nat → Nat} (hl : IsLattice m) (hy : ∀ a, a < m.n → z a = (y a : Int) ∧ y a < m.n) (h : ∀ c, c < m.n → OneOk m y c) : logicB m m.n z = true := by
  have hp : IsPair m.n m.n z := ⟨rfl, fun a ha => by rw [(hy a ha).1]; omega, fun a ha => by have := hy a ha; omega, fun a ha => by
    obtain ⟨h1, h2⟩ := hy a ha
    rw [h1]
    show z (y a) = (a : Int)
    rw [(hy (y a) h2).1, (h a ha).back]⟩
  rw [logic_is hl hp fun a ha => (hy a ha).1, Bool.and_eq_true]
  exact ⟨allB_true fun a ha => allB_true fun b hb => (h a ha).turn b hb, allB_true fun a ha => (h a ha).kept⟩
theorem logic_not_back {m : Mx} {z : Nat → Int} {y : Nat → Nat} {c : Nat} (hy : ∀ a, a < m.n → z a = (y a : Int) ∧ y a < m.n) (hc : c < m.n) (h : y (y c) ≠ c) : logicB m m.n z = false := logicB_false fun hl => by
  have h1 := hl.pair.inv c hc
  obtain ⟨h2, h3⟩ := hy c hc
  rw [h2] at h1
  have h4 : z (y c) = (c : Int) := h1
  rw [(hy (y c) h3).1] at h4
  omega
theorem logic_not_kept {m : Mx} {z : Nat → Int} {y : Nat → Nat} {c : Nat} (hy : ∀ a, a < m.n → z a = (y a : Int) ∧ y a < m.n) (hc : c < m.n) (h : meetI m c (y c) ≠ leastI m) : logicB m m.n z = false := logicB_false fun hl => by
  have h1 := logic_is hl.lat hl.pair fun a ha => (hy a ha).1
  rw [logicB_true hl] at h1
  have h1' := h1.symm
  rw [Bool.and_eq_true] at h1'
  have h2 : keptB m y = true := h1'.2
  exact h (of_decide_eq_true (allB_is h2 c hc))
theorem logic_not_turn {m : Mx} {z : Nat → Int} {y : Nat → Nat} {c b : Nat} (hy : ∀ a, a < m.n → z a = (y a : Int) ∧ y a < m.n) (hc : c < m.n) (hb : b < m.n) (h : turnPB m y c b = false) : logicB m m.n z = false := logicB_false fun hl => by
  have h1 := logic_is hl.lat hl.pair fun a ha => (hy a ha).1
  rw [logicB_true hl] at h1
  have h1' := h1.symm
  rw [Bool.and_eq_true] at h1'
  have h2 : turnB m y = true := h1'.1
  rw [allB_is (allB_is h2 c hc) b hb] at h
  cases h

end Go.Proofs.YtjofkejfldmmlaaDoor
namespace Go.Proofs.YtjofkejfldmmlaaDoor
open Go.RowKit Go.Deep

/-- A variable of two cells. -/
structure TwoAt (w : World) (p : Nat) (u v : Value) : Prop where
  c0 : w.cell? ⟨p, 0, none⟩ = some u
  c1 : w.cell? ⟨p, 1, none⟩ = some v
  f0 : w.frozen? ⟨p, 0, none⟩ = false
  f1 : w.frozen? ⟨p, 1, none⟩ = false
theorem TwoAt.new (w : World) (x y : Value) (t : TypeId) : TwoAt (w.alloc (.cells #[x, y] t)) w.heap.size x y := by
  have h := World.alloc_heap_new w (.cells #[x, y] t)
  exact ⟨by simp only [World.cell?, h]; rfl, by simp only [World.cell?, h]; rfl, by simp only [World.frozen?, h]; rfl, by simp only [World.frozen?, h]; rfl⟩
theorem TwoAt.below {w w' : World} {p B : Nat} {u v : Value} (h : TwoAt w p u v) (hb : Below B w w') (hp : p < B) : TwoAt w' p u v :=
  ⟨(hb.cell (p := ⟨p, 0, none⟩) hp).trans h.c0, (hb.cell (p := ⟨p, 1, none⟩) hp).trans h.c1, (hb.frozen (p := ⟨p, 0, none⟩) hp).trans h.f0, (hb.frozen (p := ⟨p, 1, none⟩) hp).trans h.f1⟩
theorem TwoAt.other {w : World} {p q i : Nat} {u v x : Value} (h : TwoAt w p u v) (hne : p ≠ q) : TwoAt (w.setCell ⟨q, i, none⟩ x) p u v :=
  ⟨by rw [World.cell?_setCell_other _ _ _ _ (fun e => by injection e with e1; omega)]; exact h.c0, by rw [World.cell?_setCell_other _ _ _ _ (fun e => by injection e with e1; omega)]; exact h.c1,
   by rw [World.frozen?_setCell]; exact h.f0, by rw [World.frozen?_setCell]; exact h.f1⟩
theorem TwoAt.set0 {w : World} {p : Nat} {u v : Value} (h : TwoAt w p u v) (x : Value) : TwoAt (w.setCell ⟨p, 0, none⟩ x) p x v :=
  ⟨World.cell?_setCell_same _ _ _ h.c0, by rw [World.cell?_setCell_other _ _ _ _ (fun e => by injection e with _ e1; omega)]; exact h.c1, by rw [World.frozen?_setCell]; exact h.f0, by rw [World.frozen?_setCell]; exact h.f1⟩
theorem TwoAt.set1 {w : World} {p : Nat} {u v : Value} (h : TwoAt w p u v) (x : Value) : TwoAt (w.setCell ⟨p, 1, none⟩ x) p u x :=
  ⟨by rw [World.cell?_setCell_other _ _ _ _ (fun e => by injection e with _ e1; omega)]; exact h.c0, World.cell?_setCell_same _ _ _ h.c1, by rw [World.frozen?_setCell]; exact h.f0, by rw [World.frozen?_setCell]; exact h.f1⟩

/-- What the size's reckoning leaves. -/
def SzL (m : Mx) (k : Nat) (e : Ending) : Prop := ∃ v : Int, e = .returned (.int .i64 v) ∧ (v < 0 ∨ (m.n ≤ 1048576 ∧ (∀ r, r < m.n → m.L r ≤ 1048576) ∧ k ≤ 1048576 ∧ 0 ≤ v ∧ v ≤ 1048576))
/-- What a copy is. -/
def CopyL (w : World) (m : Mx) (k : Nat) (z : Nat → Int) (e : Ending) (w' : World) : Prop :=
  ∃ N q : Nat, e = .returned (.agg #[.slice (some ⟨N, 0, none⟩) m.n m.n, .slice (some ⟨q, 0, none⟩) k k]) ∧ LogAt w' w'.heap.size (some ⟨N, 0, none⟩) (freshLay N m) m (some ⟨q, 0, none⟩) q 0 k z ∧ Below w.heap.size w w'
theorem fresh_from (N : Nat) (m : Mx) : LayFrom N (freshLay N m) m := ⟨fun _ _ => Nat.le_refl _, fun r _ _ _ => by show N ≤ N + 1 + r; omega⟩
theorem CopyS.rowAt {w w' : World} {n : Nat} {z : Nat → Int} (h : CopyS w w' n n z) : RowAt w' w'.heap.size (some ⟨w.heap.size, 0, none⟩) w.heap.size 0 n z :=
  ⟨fun c hc => ⟨rfl, by rw [h.size]; omega, by
    have := h.row.cell hc
    rw [if_pos hc] at this
    rw [Nat.zero_add]
    exact this⟩⟩
theorem RowAt.only {S : Nat → Prop} {w w' : World} {B : Nat} {a : Option Addr} {g o n : Nat} {z : Nat → Int} (h : RowAt w B a g o n z) (ho : OnlyIn S w w') (hS : ¬ S g) : RowAt w' B a g o n z :=
  ⟨fun c hc => by
    obtain ⟨h1, h2, h3⟩ := h.row c hc
    refine ⟨h1, h2, ?_⟩
    rw [World.cell?_of_block (w := w) (ho.block g hS)]
    exact h3⟩

end Go.Proofs.YtjofkejfldmmlaaDoor
namespace Go.Proofs.YtjofkejfldmmlaaDoor
open Go.RowKit Go.Deep

/-- A variable of three cells. -/
structure ThreeAt (w : World) (p : Nat) (u v x : Value) : Prop where
  c0 : w.cell? ⟨p, 0, none⟩ = some u
  c1 : w.cell? ⟨p, 1, none⟩ = some v
  c2 : w.cell? ⟨p, 2, none⟩ = some x
  f0 : w.frozen? ⟨p, 0, none⟩ = false
  f1 : w.frozen? ⟨p, 1, none⟩ = false
  f2 : w.frozen? ⟨p, 2, none⟩ = false
theorem ThreeAt.new (w : World) (x y z : Value) (t : TypeId) : ThreeAt (w.alloc (.cells #[x, y, z] t)) w.heap.size x y z := by
  have h := World.alloc_heap_new w (.cells #[x, y, z] t)
  exact ⟨by simp only [World.cell?, h]; rfl, by simp only [World.cell?, h]; rfl, by simp only [World.cell?, h]; rfl, by simp only [World.frozen?, h]; rfl, by simp only [World.frozen?, h]; rfl, by simp only [World.frozen?, h]; rfl⟩
theorem ThreeAt.below {w w' : World} {p B : Nat} {u v x : Value} (h : ThreeAt w p u v x) (hb : Below B w w') (hp : p < B) : ThreeAt w' p u v x :=
  ⟨(hb.cell (p := ⟨p, 0, none⟩) hp).trans h.c0, (hb.cell (p := ⟨p, 1, none⟩) hp).trans h.c1, (hb.cell (p := ⟨p, 2, none⟩) hp).trans h.c2, (hb.frozen (p := ⟨p, 0, none⟩) hp).trans h.f0, (hb.frozen (p := ⟨p, 1, none⟩) hp).trans h.f1, (hb.frozen (p := ⟨p, 2, none⟩) hp).trans h.f2⟩
def noAlg : Value := .agg #[.slice none 0 0, .slice none 0 0, .slice none 0 0]
theorem set3_only (v : World) (p : Nat) (x y z : Value) : OnlyIn (fun q => q = p) v (((v.setCell ⟨p, 0, none⟩ x).setCell ⟨p, 1, none⟩ y).setCell ⟨p, 2, none⟩ z) :=
  (((OnlyIn.refl (fun q => q = p) v).set (b := p) rfl 0 x).set (b := p) rfl 1 y).set (b := p) rfl 2 z

end Go.Proofs.YtjofkejfldmmlaaDoor
