/- A range over a function that hands over numbers and rows of its own make: what the function owes, and the statement's law where its body goes on to the end. -/
import Derived.Test.YtgjacinolenheaaDo
import Derived.RangeFuncNested
import Derived.RangeFuncBound
import Derived.RangeFuncCalls
import Derived.RangeFuncLeaves
import Derived.RangeFuncBox
namespace Go.Proofs.Ytgjacinolenheaa
open Go.RowKit Go.Deep

abbrev rowV (b N : Nat) : Value := .slice (some ⟨b, 0, none⟩) N N
abbrev encR (k b N : Nat) : Array Value := #[.int .i64 (k : Int), rowV b N]

theorem Chg.put {W : World} {l : Nat} {o : Obj} : Chg (fun j => j = l) W (W.putObj l o) :=
  ⟨rfl, rfl, rfl, by simp, fun _ _ hs => World.putObj_heap_other hs⟩

/-- One number and one row after the other, each row made since the round before, of a block of its own. -/
def GivesRows (F : Fence) (n : Nat) (P : Program) (g : Nat) (lb : Array Value) (N : Nat) (Z : Nat → Nat → Int) (S : Nat → Prop) (w0 : World) : Prop :=
  ∀ (l : Nat) (J : Nat → World → Prop) (W : World), Below w0.heap.size w0 W →
    (∀ k b A W1, k < N → J k A → Below A.heap.size A W1 → IntsAt W1 A.heap.size (rowV b N) N (Z k) →
      YieldAt F (n - 1) P l (encR k b N) W1 fun e W' => e = .returned (.bool true) ∧ J (k + 1) W' ∧ Chg S W1 W') →
    J 0 W →
    CallsIn F n P g (#[.func (.yield l) #[] #[]] ++ lb) W fun e W' => (∃ v, e = .returned v) ∧ ∃ A, J N A ∧ Below A.heap.size A W'

theorem wpIn_rows {F : Fence} {n : Nat} {P : Program} {g : Operand} {ps : Array Tmp} {assign body : Code} {Q : Exit → Act → World → Prop} {a : Act} {w : World}
    (hro : F.round = none) (h1 : 1 ≤ n) {gf : Nat} {lb : Array Value} (hg : a.eval g = .func (.func gf) #[] lb) (hFg : F.fn gf) (eg : ∀ args w, (callFunc gf args).run P w = .ok (.enter gf args) w)
    {N : Nat} {Z : Nat → Nat → Int} {S T : Nat → Prop} {w0 : World} (hseq : GivesRows F (n - 1) P gf lb N Z S w0) (hb0 : Below w0.heap.size w0 w) (hps : ps.size = 2)
    (hT : ∀ j, T j → S j) (hS : S (w.heap.size + 1)) (hTD : ¬ T w.heap.size) (hTl : ¬ T (w.heap.size + 1))
    (I : Nat → World → Prop) (hI : ∀ k W W', I k W → Chg (fun j => j = w.heap.size + 1) W W' → I k W') (h0 : I 0 w) (a₁ : Nat → Nat → Act)
    (hassign : ∀ (l k b : Nat) (W : World) (K : Act → World → Prop), K (a₁ k b) W →
      assign.wpIn (F.inRound l) (n - 1 - 1) P (Exit.then K (fun _ _ _ => False)) { tmps := (ps.zip (encR k b N)).foldl (fun t (p, v) => t.setIfInBounds p v) a.tmps, defers := [] } W)
    (hbody : ∀ (l k b : Nat) (A W1 : World), k < N → I k A → w.heap.size + 2 ≤ A.heap.size → Below A.heap.size A W1 → IntsAt W1 A.heap.size (rowV b N) N (Z k) →
      body.wpIn (F.inRound l) (n - 1 - 1) P (fun e _ W' => e = .normal ∧ Chg T W1 W' ∧ I (k + 1) W') (a₁ k b) W1)
    (hdone : ∀ (W : World), I N W → W.heap[w.heap.size]? = some (.deferred (some [])) → Q .normal { a with defers := { target := .collected w.heap.size, args := #[] } :: a.defers } W) :
    (Code.rangeFunc g ps assign body).wpIn F n P Q a w := by
  refine wpIn_rangeFunc fun fn hfn => ?_
  rw [hro]
  obtain ⟨R, hR⟩ : ∃ R : Loop, R = { state := .ready, pending := none, fn := fn, tmps := a.tmps, params := ps, assign := assign, body := body, defers := w.heap.size } := ⟨_, rfl⟩
  obtain ⟨U, hU⟩ : ∃ U, U = (w.alloc (.deferred (some []))).alloc (.loop R) := ⟨_, rfl⟩
  have uL : U.heap[w.heap.size + 1]? = some (.loop R) := by
    have := World.alloc_heap_new (w.alloc (.deferred (some []))) (.loop R)
    rw [World.size_alloc] at this
    rw [hU]
    exact this
  have uD : U.heap[w.heap.size]? = some (.deferred (some [])) := by
    rw [hU]
    exact (((Below.refl (w.heap.size + 1) (w.alloc (.deferred (some [])))).alloc (by simp) (.loop R)).block w.heap.size (Nat.lt_succ_self _)).trans (World.alloc_heap_new w _)
  have uB : Below w.heap.size w U := by
    rw [hU]
    exact ((Below.refl w.heap.size w).alloc (Nat.le_refl _) _).alloc (by simp) _
  have uC : Chg (fun j => j = w.heap.size + 1) w U := Chg.of_below uB fun j h1 h2 => by omega
  have back : ∀ {A W1 : World}, Below A.heap.size A W1 → A.heap[w.heap.size + 1]? = some (.loop R) → A.heap[w.heap.size]? = some (.deferred (some [])) → W1.heap[w.heap.size + 1]? = some (.loop R) ∧ W1.heap[w.heap.size]? = some (.deferred (some [])) := fun hb e1 e2 =>
    ⟨(hb.block _ (Array.getElem?_eq_some_iff.1 e1).1).trans e1, (hb.block _ (Array.getElem?_eq_some_iff.1 e2).1).trans e2⟩
  refine ⟨w.heap.size + 1, [{ target := .collected w.heap.size, args := #[] }], U, { target := .fn (.func gf) lb, args := #[.func (.yield (w.heap.size + 1)) #[] #[]] }, U, gf, #[.func (.yield (w.heap.size + 1)) #[] #[]] ++ lb, U, ?_, ?_, ?_, ?_, fun _ => h1, ?_⟩
  · rw [hU, hR]
    exact run_enterLoop_outer _ _ _ _ _
  · simp only [resolve, hg]
    simp [go_sem]
  · intro f' hf'
    simp [Target.leads] at hf'
    rw [← hf']
    exact hFg
  · simp [invoke, go_sem, eg]
  · refine (hseq (w.heap.size + 1) (fun k W => I k W ∧ W.heap[w.heap.size + 1]? = some (.loop R) ∧ W.heap[w.heap.size]? = some (.deferred (some []))) U (hb0.trans (uB.mono hb0.size)) ?_ ⟨hI _ _ _ h0 uC, uL, uD⟩).mono ?_
    · rintro k b A W1 hk ⟨hi, aL, aD⟩ hAW hrow
      obtain ⟨bL, bD⟩ := back hAW aL aD
      have hlA := (Array.getElem?_eq_some_iff.1 aL).1
      have hlW := (Array.getElem?_eq_some_iff.1 bL).1
      have hy := run_yield (P := P) (args := encR k b N) bL (by rw [hR]; exact hps.symm)
      rw [hR] at hy
      refine ⟨fn, _, assign, body, hy, roundIn_of_wpIn hfn (hassign _ k b W1 _ ⟨_, run_beginRound bL (by rw [hR]), ?_⟩)⟩
      clear hy
      obtain ⟨R', hR'⟩ : ∃ R' : Loop, R' = { R with state := .busy } := ⟨_, rfl⟩
      rw [← hR']
      have hA1 : I k (A.putObj (w.heap.size + 1) (.loop R')) := hI _ _ _ hi Chg.put
      have hAW1 : Below (A.putObj (w.heap.size + 1) (.loop R')).heap.size (A.putObj (w.heap.size + 1) (.loop R')) (W1.putObj (w.heap.size + 1) (.loop R')) := by
        refine ⟨hAW.os, hAW.tape, hAW.output, by simpa using hAW.size, fun j hj => ?_⟩
        rw [World.putObj_size] at hj
        by_cases e : j = w.heap.size + 1
        · rw [e, World.putObj_heap_same hlW, World.putObj_heap_same hlA]
        · rw [World.putObj_heap_other e, World.putObj_heap_other e]
          exact hAW.block j hj
      have hrow1 : IntsAt (W1.putObj (w.heap.size + 1) (.loop R')) (A.putObj (w.heap.size + 1) (.loop R')).heap.size (rowV b N) N (Z k) := by
        rw [World.putObj_size]
        exact Chg.put.ints hrow fun g hg e => by
          have := ownsRow_block hrow g hg
          have e' : g = w.heap.size + 1 := e
          omega
      refine Go.wpIn_mono (hbody _ k b _ _ hk hA1 (by rw [World.putObj_size]; omega) hAW1 hrow1) ?_
      rintro e a3 W3 ⟨rfl, hc, hi3⟩
      have cL : W3.heap[w.heap.size + 1]? = some (.loop R') := (hc.block _ (by rw [World.putObj_size]; exact hlW) hTl).trans (World.putObj_heap_same hlW)
      have cD : W3.heap[w.heap.size]? = some (.deferred (some [])) := (hc.block _ (by rw [World.putObj_size]; omega) hTD).trans ((World.putObj_heap_other (by omega)).trans bD)
      have hend := run_endRound (P := P) none cL
      have hRR : ({ R' with state := if (none : Option Code).isNone then LoopState.ready else LoopState.done, pending := none } : Loop) = R := by rw [hR', hR]; rfl
      rw [hRR] at hend
      refine ⟨_, _, hend, rfl, ⟨hI _ _ _ hi3 Chg.put, World.putObj_heap_same (Array.getElem?_eq_some_iff.1 cL).1, (World.putObj_heap_other (by omega)).trans cD⟩, ?_⟩
      have toS : ∀ {X : World} {o : Obj}, Chg S X (X.putObj (w.heap.size + 1) o) := Chg.put.mono fun j e => by
        have e' : j = w.heap.size + 1 := e
        rw [e']; exact hS
      exact (toS.trans (hc.mono hT)).trans toS
    · rintro e W2 ⟨⟨v, rfl⟩, A, ⟨hi, aL, aD⟩, hb⟩
      obtain ⟨bL, bD⟩ := back hb aL aD
      have hi2 : I N W2 := hI _ _ _ hi ((Chg.of_below (S := fun _ => False) hb fun j h1 h2 => by omega).mono fun _ h => h.elim)
      have hend := run_endLoop (P := P) bL (by rw [hR]; simp)
      have hp : R.pending = none := by rw [hR]
      rw [hp] at hend
      exact ⟨none, _, hend, hdone _ (hI _ _ _ hi2 Chg.put) ((World.putObj_heap_other (by omega)).trans bD)⟩
end Go.Proofs.Ytgjacinolenheaa
