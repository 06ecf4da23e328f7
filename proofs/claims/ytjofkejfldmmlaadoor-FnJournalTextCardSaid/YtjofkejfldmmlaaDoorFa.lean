/- A range over a function that hands over numbers and rows of its own make: what the function owes, and the statement's law where its body goes on to the end. The walk of the program's iterator over a plan's rows. The walk that makes a logic of a plan. The walks of the plans of sets and of the ring. -/
import Derived.Test.YtjofkejfldmmlaaDoorDg
import Derived.RangeFuncNested
import Derived.RangeFuncBound
import Derived.RangeFuncCalls
import Derived.RangeFuncLeaves
import Derived.RangeFuncBox
import Derived.Test.YtjofkejfldmmlaaDoorOa
import Derived.Test.YtjofkejfldmmlaaDoorMath
import Derived.Laws.EntriesVeiled
import Derived.BigQuiet
namespace Go.Proofs.YtjofkejfldmmlaaDoor
open Go.RowKit Go.Deep

abbrev rowV (b N : Nat) : Value := .slice (some ⟨b, 0, none⟩) N N
abbrev encR (k b N : Nat) : Array Value := #[.int .i64 (k : Int), rowV b N]

theorem Chg.put {W : World} {l : Nat} {o : Obj} : Chg (fun j => j = l) W (W.putObj l o) :=
  ⟨rfl, rfl, rfl, by simp, fun _ _ hs => World.putObj_heap_other hs⟩

/-- One number and one row after the other, each row made since the round before, of a block of its own. -/
def GivesRows (F : Fence) (n : Nat) (P : Program) (g : Nat) (lb : Array Value) (N : Nat) (Z : Nat → Nat → Int) (S : Nat → Prop) (w0 : World) : Prop :=
  ∀ (l : Nat) (J : Nat → World → Prop) (W : World), Below w0.heap.size w0 W →
    (∀ k b A W1, k < N → J k A → Below A.heap.size A W1 → IntsAt W1 A.heap.size (rowV b N) N (Z k) →
      YieldAt F (n - 1) P l (encR k b N) W1 fun e W' => e = .returned (.bool true) ∧ J (k + 1) W' ∧ Chg S W1 W') →
    J 0 W →
    CallsIn F n P g (#[.func (.yield l) #[] #[]] ++ lb) W fun e W' => (∃ v, e = .returned v) ∧ ∃ A, J N A ∧ Below A.heap.size A W'

theorem wpIn_rows {F : Fence} {n : Nat} {P : Program} {g : Operand} {ps : Array Tmp} {assign body : Code} {Q : Exit → Act → World → Prop} {a : Act} {w : World}
    (hro : F.round = none) (h1 : 1 ≤ n) {gf : Nat} {lb : Array Value} (hg : a.eval g = .func (.func gf) #[] lb) (hFg : F.fn gf) (eg : ∀ args w, (callFunc gf args).run P w = .ok (.enter gf args) w)
    {N : Nat} {Z : Nat → Nat → Int} {S T : Nat → Prop} {w0 : World} (hseq : GivesRows F (n - 1) P gf lb N Z S w0) (hb0 : Below w0.heap.size w0 w) (hps : ps.size = 2)
    (hT : ∀ j, T j → S j) (hS : S (w.heap.size + 1)) (hTD : ¬ T w.heap.size) (hTl : ¬ T (w.heap.size + 1))
    (I : Nat → World → Prop) (hI : ∀ k W W', I k W → Chg (fun j => j = w.heap.size + 1) W W' → I k W') (h0 : I 0 w) (a₁ : Nat → Nat → Act)
    (hassign : ∀ (l k b : Nat) (W : World) (K : Act → World → Prop), K (a₁ k b) W →
      assign.wpIn (F.inRound l) (n - 1 - 1) P (Exit.then K (fun _ _ _ => False)) { tmps := (ps.zip (encR k b N)).foldl (fun t (p, v) => t.setIfInBounds p v) a.tmps, defers := [] } W)
    (hbody : ∀ (l k b : Nat) (A W1 : World), k < N → I k A → w.heap.size + 2 ≤ A.heap.size → Below A.heap.size A W1 → IntsAt W1 A.heap.size (rowV b N) N (Z k) →
      body.wpIn (F.inRound l) (n - 1 - 1) P (fun e _ W' => e = .normal ∧ Chg T W1 W' ∧ I (k + 1) W') (a₁ k b) W1)
    (hdone : ∀ (W : World), I N W → W.heap[w.heap.size]? = some (.deferred (some [])) → Q .normal { a with defers := { target := .collected w.heap.size, args := #[] } :: a.defers } W) :
    (Code.rangeFunc g ps assign body).wpIn F n P Q a w := by
  refine wpIn_rangeFunc fun fn hfn => ?_
  rw [hro]
  obtain ⟨R, hR⟩ : ∃ R : Loop, R = { state := .ready, pending := none, fn := fn, tmps := a.tmps, params := ps, assign := assign, body := body, defers := w.heap.size } := ⟨_, rfl⟩
  obtain ⟨U, hU⟩ : ∃ U, U = (w.alloc (.deferred (some []))).alloc (.loop R) := ⟨_, rfl⟩
  have uL : U.heap[w.heap.size + 1]? = some (.loop R) := by
    have := World.alloc_heap_new (w.alloc (.deferred (some []))) (.loop R)
    rw [World.size_alloc] at this
    rw [hU]
    exact this
  have uD : U.heap[w.heap.size]? = some (.deferred (some [])) := by
    rw [hU]
    exact (((Below.refl (w.heap.size + 1) (w.alloc (.deferred (some [])))).alloc (by simp) (.loop R)).block w.heap.size (Nat.lt_succ_self _)).trans (World.alloc_heap_new w _)
  have uB : Below w.heap.size w U := by
    rw [hU]
    exact ((Below.refl w.heap.size w).alloc (Nat.le_refl _) _).alloc (by simp) _
  have uC : Chg (fun j => j = w.heap.size + 1) w U := Chg.of_below uB fun j h1 h2 => by omega
  have back : ∀ {A W1 : World}, Below A.heap.size A W1 → A.heap[w.heap.size + 1]? = some (.loop R) → A.heap[w.heap.size]? = some (.deferred (some [])) → W1.heap[w.heap.size + 1]? = some (.loop R) ∧ W1.heap[w.heap.size]? = some (.deferred (some [])) := fun hb e1 e2 =>
    ⟨(hb.block _ (Array.getElem?_eq_some_iff.1 e1).1).trans e1, (hb.block _ (Array.getElem?_eq_some_iff.1 e2).1).trans e2⟩
  refine ⟨w.heap.size + 1, [{ target := .collected w.heap.size, args := #[] }], U, { target := .fn (.func gf) lb, args := #[.func (.yield (w.heap.size + 1)) #[] #[]] }, U, gf, #[.func (.yield (w.heap.size + 1)) #[] #[]] ++ lb, U, ?_, ?_, ?_, ?_, fun _ => h1, ?_⟩
  · rw [hU, hR]
    exact run_enterLoop_outer _ _ _ _ _
  · simp only [resolve, hg]
    simp [go_sem]
  · intro f' hf'
    simp [Target.leads] at hf'
    rw [← hf']
    exact hFg
  · simp [invoke, go_sem, eg]
  · refine (hseq (w.heap.size + 1) (fun k W => I k W ∧ W.heap[w.heap.size + 1]? = some (.loop R) ∧ W.heap[w.heap.size]? = some (.deferred (some []))) U (hb0.trans (uB.mono hb0.size)) ?_ ⟨hI _ _ _ h0 uC, uL, uD⟩).mono ?_
    · rintro k b A W1 hk ⟨hi, aL, aD⟩ hAW hrow
      obtain ⟨bL, bD⟩ := back hAW aL aD
      have hlA := (Array.getElem?_eq_some_iff.1 aL).1
      have hlW := (Array.getElem?_eq_some_iff.1 bL).1
      have hy := run_yield (P := P) (args := encR k b N) bL (by rw [hR]; exact hps.symm)
      rw [hR] at hy
      refine ⟨fn, _, assign, body, hy, roundIn_of_wpIn hfn (hassign _ k b W1 _ ⟨_, run_beginRound bL (by rw [hR]), ?_⟩)⟩
      clear hy
      obtain ⟨R', hR'⟩ : ∃ R' : Loop, R' = { R with state := .busy } := ⟨_, rfl⟩
      rw [← hR']
      have hA1 : I k (A.putObj (w.heap.size + 1) (.loop R')) := hI _ _ _ hi Chg.put
      have hAW1 : Below (A.putObj (w.heap.size + 1) (.loop R')).heap.size (A.putObj (w.heap.size + 1) (.loop R')) (W1.putObj (w.heap.size + 1) (.loop R')) := by
        refine ⟨hAW.os, hAW.tape, hAW.output, by simpa using hAW.size, fun j hj => ?_⟩
        rw [World.putObj_size] at hj
        by_cases e : j = w.heap.size + 1
        · rw [e, World.putObj_heap_same hlW, World.putObj_heap_same hlA]
        · rw [World.putObj_heap_other e, World.putObj_heap_other e]
          exact hAW.block j hj
      have hrow1 : IntsAt (W1.putObj (w.heap.size + 1) (.loop R')) (A.putObj (w.heap.size + 1) (.loop R')).heap.size (rowV b N) N (Z k) := by
        rw [World.putObj_size]
        exact Chg.put.ints hrow fun g hg e => by
          have := ownsRow_block hrow g hg
          have e' : g = w.heap.size + 1 := e
          omega
      refine Go.wpIn_mono (hbody _ k b _ _ hk hA1 (by rw [World.putObj_size]; omega) hAW1 hrow1) ?_
      rintro e a3 W3 ⟨rfl, hc, hi3⟩
      have cL : W3.heap[w.heap.size + 1]? = some (.loop R') := (hc.block _ (by rw [World.putObj_size]; exact hlW) hTl).trans (World.putObj_heap_same hlW)
      have cD : W3.heap[w.heap.size]? = some (.deferred (some [])) := (hc.block _ (by rw [World.putObj_size]; omega) hTD).trans ((World.putObj_heap_other (by omega)).trans bD)
      have hend := run_endRound (P := P) none cL
      have hRR : ({ R' with state := if (none : Option Code).isNone then LoopState.ready else LoopState.done, pending := none } : Loop) = R := by rw [hR', hR]; rfl
      rw [hRR] at hend
      refine ⟨_, _, hend, rfl, ⟨hI _ _ _ hi3 Chg.put, World.putObj_heap_same (Array.getElem?_eq_some_iff.1 cL).1, (World.putObj_heap_other (by omega)).trans cD⟩, ?_⟩
      have toS : ∀ {X : World} {o : Obj}, Chg S X (X.putObj (w.heap.size + 1) o) := Chg.put.mono fun j e => by
        have e' : j = w.heap.size + 1 := e
        rw [e']; exact hS
      exact (toS.trans (hc.mono hT)).trans toS
    · rintro e W2 ⟨⟨v, rfl⟩, A, ⟨hi, aL, aD⟩, hb⟩
      obtain ⟨bL, bD⟩ := back hb aL aD
      have hi2 : I N W2 := hI _ _ _ hi ((Chg.of_below (S := fun _ => False) hb fun j h1 h2 => by omega).mono fun _ h => h.elim)
      have hend := run_endLoop (P := P) bL (by rw [hR]; simp)
      have hp : R.pending = none := by rw [hR]
      rw [hp] at hend
      exact ⟨none, _, hend, hdone _ (hI _ _ _ hi2 Chg.put) ((World.putObj_heap_other (by omega)).trans bD)⟩
end Go.Proofs.YtjofkejfldmmlaaDoor
namespace Go.Proofs.YtjofkejfldmmlaaDoor
open Go.RowKit Go.Deep Go.Shelf

attribute [local go_sem] Oper.semAt_some

/-- A function value of two numbers, as the walk meets it: wherever what lay in w lies unturned it answers so, and makes memory alone. -/
structure Fun2At (w : World) (g : Nat) (f c : Array Value) (N : Nat) (b : Nat → Nat → Bool) : Prop where
  enters : ∀ args w, (callFunc g args).run Tryd.prog w = .ok (.enter g args) w
  gives : ∀ (W : World) (x y : Nat), Below w.heap.size w W → x < N → y < N → Calls Tryd.prog g (f ++ (#[.int .i64 (x : Int), .int .i64 (y : Int)] ++ c)) W fun e W' => e = .returned (.bool (b x y)) ∧ Below W.heap.size W W'
structure Fun1At (w : World) (g : Nat) (f c : Array Value) (N : Nat) (y : Nat → Nat) : Prop where
  enters : ∀ args w, (callFunc g args).run Tryd.prog w = .ok (.enter g args) w
  gives : ∀ (W : World) (x : Nat), Below w.heap.size w W → x < N → Calls Tryd.prog g (f ++ (#[.int .i64 (x : Int)] ++ c)) W fun e W' => e = .returned (.int .i64 (y x : Int)) ∧ Below W.heap.size W W'
def bitZ (b : Nat → Nat → Bool) (x y : Nat) : Int := if b x y = true then 1 else 0
theorem bitZ_rng (b : Nat → Nat → Bool) (x y : Nat) : 0 ≤ bitZ b x y ∧ bitZ b x y ≤ 2 := by
  unfold bitZ
  split <;> omega



end Go.Proofs.YtjofkejfldmmlaaDoor
namespace Go.Proofs.YtjofkejfldmmlaaDoor
open Go.RowKit Go.Deep Go.Shelf

attribute [local go_sem] Oper.semAt_some

theorem MakeAt.begin {wr : World} {p base N : Nat} (Z : Nat → Nat → Int) (y : Nat → Int) (hp : p < base) (hb : TwoAt wr p (.slice none 0 0) (.slice none 0 0)) : MakeAt wr p base (.slice none 0 0) (.slice none 0 0) 0 0 N (fun _ => .slice none 0 0) Z y :=
  ⟨hp, hb, ⟨World.ownsRow_nil _ _ _ 1, fun _ hr => absurd hr (Nat.not_lt_zero _), fun _ _ hr => absurd hr (Nat.not_lt_zero _), fun _ _ hr => absurd hr (Nat.not_lt_zero _)⟩, IntsAt.nil _ _ _, fun _ hr => absurd hr (Nat.not_lt_zero _), fun _ hc => absurd hc (Nat.not_lt_zero _)⟩
/-- Blocks between the box and the base may turn. -/
theorem MakeAt.mids {S : Nat → Prop} {wr w' : World} {p base : Nat} {u t : Value} {k kt N : Nat} {rv : Nat → Value} {Z : Nat → Nat → Int} {y : Nat → Int} (h : MakeAt wr p base u t k kt N rv Z y) (hc : Chg S wr w') (hp : ¬ S p) (hs : ∀ j, base ≤ j → ¬ S j) : MakeAt w' p base u t k kt N rv Z y :=
  ⟨h.pb, hc.two h.box hp, hc.out h.out (fun g hg => hs g (ownsRow_block h.out.top g hg)) (fun r hr g hg => hs g (ownsRow_block (h.out.row r hr) g hg)), hc.ints h.ints (fun g hg => hs g (ownsRow_block h.ints g hg)), h.sep, h.rng⟩
theorem MakeAt.more' {wr wa w4 : World} {p base : Nat} {u t v' : Value} {k kt N : Nat} {rv : Nat → Value} {Z : Nat → Nat → Int} {y : Nat → Int} (h : MakeAt wr p base u t k kt N rv Z y) (ha : Chg (fun _ => False) wr wa)
    (hx : 0 ≤ y kt ∧ y kt < (N : Int)) (hown : w4.ownsRow base 3 1 v' (kt + 1) ((List.range kt).map (fun c => .int .i64 (y c)) ++ [.int .i64 (y kt)])) (hg : wa.grownBy w4 t.ownBlock) (hat : v'.ownBlock = t.ownBlock ∨ v'.ownBlock = some wa.heap.size) :
    MakeAt (w4.setCell ⟨p, 1, none⟩ v') p base u v' k (kt + 1) N rv Z y ∧ Chg (fun j => j = p ∨ base ≤ j) wr (w4.setCell ⟨p, 1, none⟩ v') := by
  have := h.more ha hx hown hg hat
  have e : (fun c => if c = kt then y kt else y c) = y := by
    funext c
    by_cases e1 : c = kt
    · rw [if_pos e1, e1]
    · rw [if_neg e1]
  rw [e] at this
  exact this
theorem MakeAt.row' {wo wi w4 : World} {p base : Nat} {u t v' u5 : Value} {k kt N : Nat} {rv : Nat → Value} {Z : Nat → Nat → Int} {y : Nat → Int} {o : Obj} (h : MakeAt wo p base u t k kt N rv Z y) (hbs : base ≤ wo.heap.size) (hi : Below wo.heap.size wo wi)
    (hu : IntsAt wi wo.heap.size u5 N (Z k)) (hz : ∀ c, c < N → 0 ≤ Z k c ∧ Z k c ≤ 2) (hown : w4.ownsRow base 52 1 v' (k + 1) ((List.range k).map rv ++ [u5])) (hg : (wi.alloc o).grownBy w4 u.ownBlock) (hN : 0 < N) :
    MakeAt (w4.setCell ⟨p, 0, none⟩ v') p base v' t (k + 1) kt N (fun r => if r = k then u5 else rv r) Z y ∧ Chg (fun j => j = p ∨ base ≤ j) wo (w4.setCell ⟨p, 0, none⟩ v') := by
  have := h.row hbs hi hu hz hown hg hN
  have e : (fun r c => if r = k then Z k c else Z r c) = Z := by
    funext r c
    by_cases e1 : r = k
    · rw [if_pos e1, e1]
    · rw [if_neg e1]
  rw [e] at this
  exact this

/-- What a plan is: how many answers, and two function values. -/
structure PlanAt (w : World) (v : Value) (N : Nat) (b : Nat → Nat → Bool) (y : Nat → Nat) where
  g1 : Nat
  f1 : Array Value
  c1 : Array Value
  g2 : Nat
  f2 : Array Value
  c2 : Array Value
  val : v = .agg #[.int .i64 (N : Int), .func (.func g1) f1 c1, .func (.func g2) f2 c2]
  below : Fun2At w g1 f1 c1 N b
  opp : Fun1At w g2 f2 c2 N y

/-- The logic under way, the plan's box and the result's beside it. -/
structure Making (w : World) (N : Nat) (b : Nat → Nat → Bool) (y : Nat → Nat) (fv : Value) (k : Nat) (W : World) (u t : Value) (rv : Nat → Value) : Prop where
  make : MakeAt W (w.heap.size + 1 + 1) (w.heap.size + 6) u t k k N rv (bitZ b) (fun c => (y c : Int))
  res : TwoAt W (w.heap.size + 1) (.slice none 0 0) (.slice none 0 0)
  fn : W.cell? ⟨w.heap.size, 2, none⟩ = some fv
  old : Below w.heap.size w W
def MkI (w : World) (N : Nat) (b : Nat → Nat → Bool) (y : Nat → Nat) (fv : Value) (k : Nat) (W : World) : Prop := ∃ u t rv, Making w N b y fv k W u t rv
theorem Making.chg {S : Nat → Prop} {w W W' : World} {N k : Nat} {b : Nat → Nat → Bool} {y : Nat → Nat} {fv u t : Value} {rv : Nat → Value} (h : Making w N b y fv k W u t rv) (hc : Chg S W W') (hs : ∀ j, S j → w.heap.size + 3 ≤ j ∧ j < w.heap.size + 6) : Making w N b y fv k W' u t rv := by
  have hl := World.block_lt_of_cell? W ⟨w.heap.size, 2, none⟩ h.fn
  have no : ∀ j, j < w.heap.size + 3 → ¬ S j := fun j hj e => by have := (hs j e).1; omega
  exact ⟨h.make.mids hc (no _ (by omega)) (fun j hj e => by have := (hs j e).2; omega), hc.two h.res (no _ (by omega)), (World.cell?_of_block (a := ⟨w.heap.size, 2, none⟩) (hc.block _ hl (no _ (by show w.heap.size < _; omega)))).trans h.fn, h.old.trans (hc.below h.old.size fun j hj => by have := (hs j hj).1; omega)⟩

def PlanMade (w : World) (N : Nat) (b : Nat → Nat → Bool) (y : Nat → Nat) (e : Ending) (w' : World) : Prop :=
  ∃ u t rv, e = .returned (.agg #[u, t]) ∧ LogO w' w.heap.size u t N rv (bitZ b) (fun c => (y c : Int)) ∧ Below w.heap.size w w'

/-- One operation that hands over a value, whatever else may come up. -/
theorem opH_value {P : Program} {md : Region.Mode} {ops : Array Oper} {Q : Exit → Act → World → Prop} {S : World → Prop} {i d fuel : Nat} {v : Value} {listed listed' : Array Bool} {a : Act} {w w' : World} {o : Oper} {rest : List Oper} (hi : ops.toList.drop i = o :: rest)
    (hd : o.dst = some d) (hw : Region.wanted o (yielded ops a.tmps) = true) (hl : listed.setIfInBounds i true = listed') (he : (execOp a.eval o).run P w = .ok (.value v) w') (hS : S w')
    (h : wpAnyH P md ops Q S fuel listed' { tmps := a.tmps.setIfInBounds d v, defers := a.defers } w') : wpOp P ops Q i (fun a' w' => S w' ∧ wpAnyH P md ops Q S fuel (listed.setIfInBounds i true) a' w') a w := by
  unfold wpOp
  rw [at_drop hi]
  simp only
  rw [if_pos hw, hl]
  refine .inl ?_
  unfold Oper.wp
  rw [he, Oper.upon_value, hd]
  exact ⟨hS, h⟩
theorem opH_call {P : Program} {md : Region.Mode} {ops : Array Oper} {Q : Exit → Act → World → Prop} {S : World → Prop} {i d fuel : Nat} {listed listed' : Array Bool} {a : Act} {w : World} {o : Oper} {rest : List Oper} {f : FuncId} {args : Array Value} {R : Ending → World → Prop} (hi : ops.toList.drop i = o :: rest)
    (hd : o.dst = some d) (hw : Region.wanted o (yielded ops a.tmps) = true) (hl : listed.setIfInBounds i true = listed')
    (he : (execOp a.eval o).run P w = .ok (.enter f args) w) (hc : Calls P f args w R)
    (h : ∀ e w', R e w' → ∃ v, e = .returned v ∧ S w' ∧ wpAnyH P md ops Q S fuel listed' { tmps := a.tmps.setIfInBounds d v, defers := a.defers } w') : wpOp P ops Q i (fun a' w' => S w' ∧ wpAnyH P md ops Q S fuel (listed.setIfInBounds i true) a' w') a w := by
  unfold wpOp
  rw [at_drop hi]
  simp only
  rw [if_pos hw, hl]
  refine .inl ?_
  unfold Oper.wp
  rw [he, Oper.upon_enter]
  refine hc.mono fun e w' hR => ?_
  obtain ⟨v, rfl, hS, hA⟩ := h e w' hR
  rw [hd]
  exact ⟨hS, hA⟩
theorem hold_value {P : Program} {md : Region.Mode} {ops : Array Oper} {Q : Exit → Act → World → Prop} {S : World → Prop} {i d fuel : Nat} {v : Value} {listed listed' : Array Bool} {a : Act} {w w' : World} {o : Oper} {rest : List Oper} (hi : ops.toList.drop i = o :: rest)
    (hr : Region.ready md ops listed = [i]) (hd : o.dst = some d) (hw : Region.wanted o (yielded ops a.tmps) = true) (hl : listed.setIfInBounds i true = listed') (he : (execOp a.eval o).run P w = .ok (.value v) w') (hS : S w')
    (h : wpAnyH P md ops Q S fuel listed' { tmps := a.tmps.setIfInBounds d v, defers := a.defers } w') : wpAnyH P md ops Q S (fuel + 1) listed a w := by
  refine wpAnyH_all hr (by simp) fun j hj => ?_
  obtain rfl : j = i := by simpa using hj
  exact opH_value hi hd hw hl he hS h
/-- Two that may come up. -/
theorem hold_two {P : Program} {md : Region.Mode} {ops : Array Oper} {Q : Exit → Act → World → Prop} {S : World → Prop} {i j fuel : Nat} {listed : Array Bool} {a : Act} {w : World} (hr : Region.ready md ops listed = [i, j])
    (h1 : wpOp P ops Q i (fun a' w' => S w' ∧ wpAnyH P md ops Q S fuel (listed.setIfInBounds i true) a' w') a w) (h2 : wpOp P ops Q j (fun a' w' => S w' ∧ wpAnyH P md ops Q S fuel (listed.setIfInBounds j true) a' w') a w) : wpAnyH P md ops Q S (fuel + 1) listed a w := by
  refine wpAnyH_all hr (by simp) fun k hk => ?_
  rcases (by simpa using hk : k = i ∨ k = j) with rfl | rfl
  · exact h1
  · exact h2
/-- An append of the call's own that alone may come up. -/
theorem hold_append {P : Program} {md : Region.Mode} {ops : Array Oper} {Q : Exit → Act → World → Prop} {S : World → Prop} {k d fuel : Nat} {listed listed' : Array Bool} {a : Act} {w : World} {o : Oper} {rest : List Oper} (hi : ops.toList.drop k = o :: rest)
    (hr : Region.ready md ops listed = [k]) (hd : o.dst = some d) (hl : listed.setIfInBounds k true = listed')
    (hg : o.guard = none) (s x : Operand) (t : TypeId) (hop : o.op = Op.call { callee := Callee.builtin Builtin.append, args := #[s, x], argTypes := #[t, t] })
    (base : Nat) (e : TypeId) (i : TypeInfo) (z : Value) (size bytes : Nat) (ht : P.underlying t = some (.slice e)) (hinf : P.info? e = some i) (hz : i.zero = some z)
    (hsize : i.size = size) (hby : i.bytes = bytes) (hzs : z.cells.size = size) (hsz : 0 < size)
    (v : Value) (n : Nat) (xs : List Value) (hs : a.eval s = v) (hown : w.ownsRow base e size v n xs)
    (ad : Addr) (m c : Nat) (news : List Value) (hx : a.eval x = .slice (some ad) m c) (hlen : news.length = m * size) (hnews : ∀ j u, news[j]? = some u → w.cell? (ad.add j) = some u) (h1 : ∀ u ∈ news, u.oneCell' = true)
    (h63 : n + m ≤ maxLen) (hbytes : (n + m) * bytes ≤ 140737488355328) (hbase : base ≤ w.heap.size)
    (h : ∀ v' w', w'.ownsRow base e size v' (n + m) (xs ++ news) → w.grownBy w' v.ownBlock → (v'.ownBlock = v.ownBlock ∨ v'.ownBlock = some w.heap.size) → S w' ∧ wpAnyH P md ops Q S fuel listed' { tmps := a.tmps.setIfInBounds d v', defers := a.defers } w') : wpAnyH P md ops Q S (fuel + 1) listed a w := by
  refine wpAnyH_all hr (by simp) fun j hj => ?_
  obtain rfl : j = k := by simpa using hj
  unfold wpOp
  rw [at_drop hi]
  simp only
  have hw : Region.wanted o (yielded ops a.tmps) = true := by simp [Region.wanted, hg]
  rw [if_pos hw, hl]
  refine .inl ?_
  have := step_append_own (P := P) (ops := ops) (K := fun a' w' => S w' ∧ wpAnyH P md ops Q S fuel listed' a' w') (Q := Q) (E := True) hg s x t hop base e i z size bytes ht hinf hz hsize hby hzs hsz v n xs hs hown ad m c news hx hlen hnews h1 h63 hbytes hbase
    (fun v' w' e1 e2 e3 => by rw [hd]; exact h v' w' e1 e2 e3)
  rw [if_pos hw] at this
  exact this

end Go.Proofs.YtjofkejfldmmlaaDoor
namespace Go.Proofs.YtjofkejfldmmlaaDoor
open Go.RowKit Go.Deep

def setsB (x y : Nat) : Bool := decide (x &&& y = x)
def ringB (x y : Nat) : Bool := decide (x = y) || decide (x = 0) || decide (y = 5) || (decide (x = 1) && decide (y = 2)) || (decide (x = 3) && decide (y = 4))
theorem setsB_Z : bitZ setsB = setsZ := by
  funext x y
  unfold bitZ setsB setsZ
  simp
theorem ringB_Z : ∀ x, x < 6 → ∀ y, y < 6 → bitZ ringB x y = ringZ x y := by decide +kernel

theorem sets_bits : ∀ x : Nat, x < 8 → ∀ y : Nat, y < 8 → (bits BinOp.and IntKind.i64 (x : Int) (y : Int) == (x : Int)) = setsB x y := by decide +kernel

def planV (N g1 : Nat) (f1 c1 : Array Value) (g2 : Nat) (f2 c2 : Array Value) : Value := .agg #[.int .i64 (N : Int), .func (.func g1) f1 c1, .func (.func g2) f2 c2]
def noPlan : Value := .agg #[.int .i64 0, .nilFunc, .nilFunc]
/-- What a maker hands back: a plan of so many answers, or none. -/
def Planned (w : World) (N : Nat) (b : Nat → Nat → Bool) (y : Nat → Nat) (ok : Bool) (e : Ending) (w' : World) : Prop :=
  Below w.heap.size w w' ∧ ((ok = false ∧ (e = .returned (.tuple #[noPlan, .bool false]) ∨ ∃ N' g1 f1 c1 g2 f2 c2, e = .returned (.tuple #[planV N' g1 f1 c1 g2 f2 c2, .bool false]))) ∨ (ok = true ∧ ∃ v, e = .returned (.tuple #[v, .bool true]) ∧ Nonempty (PlanAt w' v N b y)))
def setsOkB (t : Int) : Bool := decide (0 ≤ t) && decide (t ≤ 3)

end Go.Proofs.YtjofkejfldmmlaaDoor
