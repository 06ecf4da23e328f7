/- A range over a function that hands over numbers and rows of its own make: what the function owes, and the statement's law where its body goes on to the end. The walk of the program's iterator over a plan's rows. The walk that makes a logic of a plan. The walks of the plans of sets and of the ring. -/
import Derived.Test.YtojcgmgponnlpaaDg
import Derived.RangeFuncNested
import Derived.RangeFuncBound
import Derived.RangeFuncCalls
import Derived.RangeFuncLeaves
import Derived.RangeFuncBox
import Derived.Test.YtojcgmgponnlpaaOa
import Derived.Test.YtojcgmgponnlpaaMath
import Derived.Laws.EntriesVeiled
import Derived.BigQuiet
namespace Go.Proofs.Ytojcgmgponnlpaa
open Go.RowKit Go.Deep

abbrev rowV (b N : Nat) : Value := .slice (some ⟨b, 0, none⟩) N N
abbrev encR (k b N : Nat) : Array Value := #[.int .i64 (k : Int), rowV b N]

theorem Chg.put {W : World} {l : Nat} {o : Obj} : Chg (fun j => j = l) W (W.putObj l o) :=
  ⟨rfl, rfl, rfl, by simp, fun _ _ hs => World.putObj_heap_other hs⟩

/-- One number and one row after the other, each row made since the round before, of a block of its own. -/
def GivesRows (F : Fence) (n : Nat) (P : Program) (g : Nat) (lb : Array Value) (N : Nat) (Z : Nat → Nat → Int) (S : Nat → Prop) (w0 : World) : Prop :=
  ∀ (l : Nat) (J : Nat → World → Prop) (W : World), Below w0.heap.size w0 W →
    (∀ k b A W1, k < N → J k A → Below A.heap.size A W1 → IntsAt W1 A.heap.size (rowV b N) N (Z k) →
      YieldAt F (n - 1) P l (encR k b N) W1 fun e W' => e = .returned (.bool true) ∧ J (k + 1) W' ∧ Chg S W1 W') →
    J 0 W →
    CallsIn F n P g (#[.func (.yield l) #[] #[]] ++ lb) W fun e W' => (∃ v, e = .returned v) ∧ ∃ A, J N A ∧ Below A.heap.size A W'

theorem wpIn_rows {F : Fence} {n : Nat} {P : Program} {g : Operand} {ps : Array Tmp} {assign body : Code} {Q : Exit → Act → World → Prop} {a : Act} {w : World}
    (hro : F.round = none) (h1 : 1 ≤ n) {gf : Nat} {lb : Array Value} (hg : a.eval g = .func (.func gf) #[] lb) (hFg : F.fn gf) (eg : ∀ args w, (callFunc gf args).run P w = .ok (.enter gf args) w)
    {N : Nat} {Z : Nat → Nat → Int} {S T : Nat → Prop} {w0 : World} (hseq : GivesRows F (n - 1) P gf lb N Z S w0) (hb0 : Below w0.heap.size w0 w) (hps : ps.size = 2)
    (hT : ∀ j, T j → S j) (hS : S (w.heap.size + 1)) (hTD : ¬ T w.heap.size) (hTl : ¬ T (w.heap.size + 1))
    (I : Nat → World → Prop) (hI : ∀ k W W', I k W → Chg (fun j => j = w.heap.size + 1) W W' → I k W') (h0 : I 0 w) (a₁ : Nat → Nat → Act)
    (hassign : ∀ (l k b : Nat) (W : World) (K : Act → World → Prop), K (a₁ k b) W →
      assign.wpIn (F.inRound l) (n - 1 - 1) P (Exit.then K (fun _ _ _ => False)) { tmps := (ps.zip (encR k b N)).foldl (fun t (p, v) => t.setIfInBounds p v) a.tmps, defers := [] } W)
    (hbody : ∀ (l k b : Nat) (A W1 : World), k < N → I k A → w.heap.size + 2 ≤ A.heap.size → Below A.heap.size A W1 → IntsAt W1 A.heap.size (rowV b N) N (Z k) →
      body.wpIn (F.inRound l) (n - 1 - 1) P (fun e _ W' => e = .normal ∧ Chg T W1 W' ∧ I (k + 1) W') (a₁ k b) W1)
    (hdone : ∀ (W : World), I N W → W.heap[w.heap.size]? = some (.deferred (some [])) → Q .normal { a with defers := { target := .collected w.heap.size, args := #[] } :: a.defers } W) :
    (Code.rangeFunc g ps assign body).wpIn F n P Q a w := by
  refine wpIn_rangeFunc fun fn hfn => ?_
  rw [hro]
  obtain ⟨R, hR⟩ : ∃ R : Loop, R = { state := .ready, pending := none, fn := fn, tmps := a.tmps, params := ps, assign := assign, body := body, defers := w.heap.size } := ⟨_, rfl⟩
  obtain ⟨U, hU⟩ : ∃ U, U = (w.alloc (.deferred (some []))).alloc (.loop R) := ⟨_, rfl⟩
  have uL : U.heap[w.heap.size + 1]? = some (.loop R) := by
    have := World.alloc_heap_new (w.alloc (.deferred (some []))) (.loop R)
    rw [World.size_alloc] at this
    rw [hU]
    exact this
  have uD : U.heap[w.heap.size]? = some (.deferred (some [])) := by
    rw [hU]
    exact (((Below.refl (w.heap.size + 1) (w.alloc (.deferred (some [])))).alloc (by simp) (.loop R)).block w.heap.size (Nat.lt_succ_self _)).trans (World.alloc_heap_new w _)
  have uB : Below w.heap.size w U := by
    rw [hU]
    exact ((Below.refl w.heap.size w).alloc (Nat.le_refl _) _).alloc (by simp) _
  have uC : Chg (fun j => j = w.heap.size + 1) w U := Chg.of_below uB fun j h1 h2 => by omega
  have back : ∀ {A W1 : World}, Below A.heap.size A W1 → A.heap[w.heap.size + 1]? = some (.loop R) → A.heap[w.heap.size]? = some (.deferred (some [])) → W1.heap[w.heap.size + 1]? = some (.loop R) ∧ W1.heap[w.heap.size]? = some (.deferred (some [])) := fun hb e1 e2 =>
    ⟨(hb.block _ (Array.getElem?_eq_some_iff.1 e1).1).trans e1, (hb.block _ (Array.getElem?_eq_some_iff.1 e2).1).trans e2⟩
  refine ⟨w.heap.size + 1, [{ target := .collected w.heap.size, args := #[] }], U, { target := .fn (.func gf) lb, args := #[.func (.yield (w.heap.size + 1)) #[] #[]] }, U, gf, #[.func (.yield (w.heap.size + 1)) #[] #[]] ++ lb, U, ?_, ?_, ?_, ?_, fun _ => h1, ?_⟩
  · rw [hU, hR]
    exact run_enterLoop_outer _ _ _ _ _
  · simp only [resolve, hg]
    simp [go_sem]
  · intro f' hf'
    simp [Target.leads] at hf'
    rw [← hf']
    exact hFg
  · simp [invoke, go_sem, eg]
  · refine (hseq (w.heap.size + 1) (fun k W => I k W ∧ W.heap[w.heap.size + 1]? = some (.loop R) ∧ W.heap[w.heap.size]? = some (.deferred (some []))) U (hb0.trans (uB.mono hb0.size)) ?_ ⟨hI _ _ _ h0 uC, uL, uD⟩).mono ?_
    · rintro k b A W1 hk ⟨hi, aL, aD⟩ hAW hrow
      obtain ⟨bL, bD⟩ := back hAW aL aD
      have hlA := (Array.getElem?_eq_some_iff.1 aL).1
      have hlW := (Array.getElem?_eq_some_iff.1 bL).1
      have hy := run_yield (P := P) (args := encR k b N) bL (by rw [hR]; exact hps.symm)
      rw [hR] at hy
      refine ⟨fn, _, assign, body, hy, roundIn_of_wpIn hfn (hassign _ k b W1 _ ⟨_, run_beginRound bL (by rw [hR]), ?_⟩)⟩
      clear hy
      obtain ⟨R', hR'⟩ : ∃ R' : Loop, R' = { R with state := .busy } := ⟨_, rfl⟩
      rw [← hR']
      have hA1 : I k (A.putObj (w.heap.size + 1) (.loop R')) := hI _ _ _ hi Chg.put
      have hAW1 : Below (A.putObj (w.heap.size + 1) (.loop R')).heap.size (A.putObj (w.heap.size + 1) (.loop R')) (W1.putObj (w.heap.size + 1) (.loop R')) := by
        refine ⟨hAW.os, hAW.tape, hAW.output, by simpa using hAW.size, fun j hj => ?_⟩
        rw [World.putObj_size] at hj
        by_cases e : j = w.heap.size + 1
        · rw [e, World.putObj_heap_same hlW, World.putObj_heap_same hlA]
        · rw [World.putObj_heap_other e, World.putObj_heap_other e]
          exact hAW.block j hj
      have hrow1 : IntsAt (W1.putObj (w.heap.size + 1) (.loop R')) (A.putObj (w.heap.size + 1) (.loop R')).heap.size (rowV b N) N (Z k) := by
        rw [World.putObj_size]
        exact Chg.put.ints hrow fun g hg e => by
          have := ownsRow_block hrow g hg
          have e' : g = w.heap.size + 1 := e
          omega
      refine Go.wpIn_mono (hbody _ k b _ _ hk hA1 (by rw [World.putObj_size]; omega) hAW1 hrow1) ?_
      rintro e a3 W3 ⟨rfl, hc, hi3⟩
      have cL : W3.heap[w.heap.size + 1]? = some (.loop R') := (hc.block _ (by rw [World.putObj_size]; exact hlW) hTl).trans (World.putObj_heap_same hlW)
      have cD : W3.heap[w.heap.size]? = some (.deferred (some [])) := (hc.block _ (by rw [World.putObj_size]; omega) hTD).trans ((World.putObj_heap_other (by omega)).trans bD)
      have hend := run_endRound (P := P) none cL
      have hRR : ({ R' with state := if (none : Option Code).isNone then LoopState.ready else LoopState.done, pending := none } : Loop) = R := by rw [hR', hR]; rfl
      rw [hRR] at hend
      refine ⟨_, _, hend, rfl, ⟨hI _ _ _ hi3 Chg.put, World.putObj_heap_same (Array.getElem?_eq_some_iff.1 cL).1, (World.putObj_heap_other (by omega)).trans cD⟩, ?_⟩
      have toS : ∀ {X : World} {o : Obj}, Chg S X (X.putObj (w.heap.size + 1) o) := Chg.put.mono fun j e => by
        have e' : j = w.heap.size + 1 := e
        rw [e']; exact hS
      exact (toS.trans (hc.mono hT)).trans toS
    · rintro e W2 ⟨⟨v, rfl⟩, A, ⟨hi, aL, aD⟩, hb⟩
      obtain ⟨bL, bD⟩ := back hb aL aD
      have hi2 : I N W2 := hI _ _ _ hi ((Chg.of_below (S := fun _ => False) hb fun j h1 h2 => by omega).mono fun _ h => h.elim)
      have hend := run_endLoop (P := P) bL (by rw [hR]; simp)
      have hp : R.pending = none := by rw [hR]
      rw [hp] at hend
      exact ⟨none, _, hend, hdone _ (hI _ _ _ hi2 Chg.put) ((World.putObj_heap_other (by omega)).trans bD)⟩
end Go.Proofs.Ytojcgmgponnlpaa
namespace Go.Proofs.Ytojcgmgponnlpaa
open Go.RowKit Go.Deep Go.Shelf

attribute [local go_sem] Oper.semAt_some

/-- A function value of two numbers, as the walk meets it: wherever what lay in w lies unturned it answers so, and makes memory alone. -/
structure Fun2At (w : World) (g : Nat) (f c : Array Value) (N : Nat) (b : Nat → Nat → Bool) : Prop where
  enters : ∀ args w, (callFunc g args).run Try.prog w = .ok (.enter g args) w
  gives : ∀ (W : World) (x y : Nat), Below w.heap.size w W → x < N → y < N → Calls Try.prog g (f ++ (#[.int .i64 (x : Int), .int .i64 (y : Int)] ++ c)) W fun e W' => e = .returned (.bool (b x y)) ∧ Below W.heap.size W W'
structure Fun1At (w : World) (g : Nat) (f c : Array Value) (N : Nat) (y : Nat → Nat) : Prop where
  enters : ∀ args w, (callFunc g args).run Try.prog w = .ok (.enter g args) w
  gives : ∀ (W : World) (x : Nat), Below w.heap.size w W → x < N → Calls Try.prog g (f ++ (#[.int .i64 (x : Int)] ++ c)) W fun e W' => e = .returned (.int .i64 (y x : Int)) ∧ Below W.heap.size W W'
def bitZ (b : Nat → Nat → Bool) (x y : Nat) : Int := if b x y = true then 1 else 0
theorem bitZ_rng (b : Nat → Nat → Bool) (x y : Nat) : 0 ≤ bitZ b x y ∧ bitZ b x y ≤ 2 := by
  unfold bitZ
  split <;> omega



set_option maxRecDepth 100000 in
set_option maxHeartbeats 2000000 in
theorem rows_gives {d N g : Nat} {f c : Array Value} {b : Nat → Nat → Bool} {wp w : World} {Bx : Nat} {S : Nat → Prop} (hd : 1 ≤ d) (h1 : 1 ≤ N) (hN : N ≤ 12) (h : Fun2At wp g f c N b) (hwp : Below wp.heap.size wp w) (hBx : Bx < w.heap.size)
    (c0 : w.cell? ⟨Bx, 0, none⟩ = some (.int .i64 (N : Int))) (c1 : w.cell? ⟨Bx, 1, none⟩ = some (.func (.func g) f c)) (hS : ¬ S Bx) (hSw : ∀ j, j < wp.heap.size → ¬ S j) :
    GivesRows Fence.wide d Try.prog 124 #[.pointer (some ⟨Bx, 0, none⟩)] N (bitZ b) S w := fun l J W hW hY h0 => by
  have cW0 : W.cell? ⟨Bx, 0, none⟩ = some (.int .i64 (N : Int)) := (hW.cell (p := ⟨Bx, 0, none⟩) hBx).trans c0
  have cW1 : W.cell? ⟨Bx, 1, none⟩ = some (.func (.func g) f c) := (hW.cell (p := ⟨Bx, 1, none⟩) hBx).trans c1
  have hwW : Below wp.heap.size wp W := hwp.trans (hW.mono hwp.size)
  have hBW : Bx < W.heap.size := by have := hW.size; omega
  have HY := Lib.hid hY
  have eg := h.enters
  have HG := Lib.hid h.gives
  have HS := Lib.hid hS
  have HSw := Lib.hid hSw
  clear c0 c1 hW hwp hBx hY h hS hSw
  refine callsIn_of_wp Try.func124 rfl trivial ?_ rfl
  simp only [Try.ntmps124, List.size_toArray, List.length_cons, List.length_nil, Nat.reduceAdd, Nat.reduceSub, Array.replicate_succ, Array.replicate_zero, List.push_toArray, List.append_toArray, List.nil_append, List.cons_append]
  gi_wp2
  gi_loopw [8] (fun i wr => ∃ (k : Nat) (A : World), k ≤ N ∧ i = .int .i64 k ∧ J k A ∧ Below A.heap.size A wr ∧ Below wp.heap.size wp wr ∧ wr.cell? ⟨Bx, 0, none⟩ = some (.int .i64 (N : Int)) ∧ wr.cell? ⟨Bx, 1, none⟩ = some (.func (.func g) f c) ∧ Bx < wr.heap.size)
    (fun i _ => N - (intOf i).toNat)
  case atStart => exact ⟨0, W, Nat.zero_le _, rfl, h0, Below.refl _ _, hwW, cW0, cW1, hBW⟩
  case round =>
    clear cW0 cW1 hwW hBW h0
    obtain ⟨k, A, hk, rfl, hJ, hA, hwr, k0, k1, hBr⟩ := hrel
    by_cases hlt : k < N
    · have hlt' : (k : Int) < N := by omega
      have hmk := run_make_row' (P := Try.prog) 24 3 (.int .i64 0) 8 Try.underlying24 infoInt rfl .i64 .i64 N (by omega) (by omega)
      have HJ := Lib.hid hJ
      clear hJ
      obtain ⟨wo, rfl⟩ : ∃ wo : World, wo = wr := ⟨_, rfl⟩
      have hrow := World.rowIs_made wo (.int .i64 0) N 3
      have hI0 : IntsAt (wo.alloc (.cells (madeCells #[.int .i64 0] N) 3)) wo.heap.size (rowV wo.heap.size N) N (fun _ => 0) := owns_of_rowIs hrow (Nat.le_refl _) (by omega)
      have hB0 : Below wo.heap.size wo (wo.alloc (.cells (madeCells #[.int .i64 0] N) 3)) := (Below.refl _ wo).alloc (Nat.le_refl _) _
      clear hrow
      gi_wp2
      clear hmk
      gi_loopw [16] (fun i wr => ∃ j : Nat, j ≤ N ∧ i = .int .i64 j ∧ IntsAt wr wo.heap.size (rowV wo.heap.size N) N (fun y => if y < j then bitZ b k y else 0) ∧ Below wo.heap.size wo wr) (fun i _ => N - (intOf i).toNat)
      case atStart => exact ⟨0, Nat.zero_le _, rfl, by simpa using hI0, hB0⟩
      case round =>
        clear hI0 hB0
        obtain ⟨j, hj, rfl, hI, hB⟩ := hrel
        have k0' : wr.cell? ⟨Bx, 0, none⟩ = some (.int .i64 (N : Int)) := (hB.cell (p := ⟨Bx, 0, none⟩) hBr).trans k0
        have k1' : wr.cell? ⟨Bx, 1, none⟩ = some (.func (.func g) f c) := (hB.cell (p := ⟨Bx, 1, none⟩) hBr).trans k1
        clear k0 k1
        by_cases hjt : j < N
        · have hjt' : (j : Int) < N := by omega
          have hwr' := hwr.trans (hB.mono hwr.size)
          have hcall := HG.out wr k j hwr' hlt hjt
          cases hb : b k j with
          | true =>
            rw [hb] at hcall
            have HB := Lib.hid hb
            clear hb
            gi_wp2
            refine ⟨trivial, (callsIn_wide.2 hcall).mono ?_⟩
            rintro e w2 ⟨rfl, h2⟩
            have hI2 := ownsRow_below hI h2 (Nat.le_refl _)
            have hB2 := hB.trans (h2.mono hB.size)
            have c3 := IntsAt.frozen hI2 j
            have c4 := IntsAt.cell hI2 hjt
            have hI3 := IntsAt.store hI2 j 1
            have hB3 := hB2.setCell (p := ⟨wo.heap.size, j, none⟩) (Nat.le_refl _) (.int .i64 1)
            have hI4 : Hid (IntsAt (w2.setCell ⟨wo.heap.size, j, none⟩ (.int .i64 1)) wo.heap.size (rowV wo.heap.size N) N (fun y => if y < j + 1 then bitZ b k y else 0)) := by
              have e : (fun y => if y = j then (1 : Int) else if y < j then bitZ b k y else 0) = fun y => if y < j + 1 then bitZ b k y else 0 := by
                funext y
                by_cases e1 : y = j
                · rw [if_pos e1, if_pos (by omega), e1]; unfold bitZ; rw [if_pos HB.out]
                · rw [if_neg e1]
                  by_cases e2 : y < j
                  · rw [if_pos e2, if_pos (by omega)]
                  · rw [if_neg e2, if_neg (by omega)]
              show IntsAt _ _ _ _ _
              rw [← e]
              exact hI3
            clear hI hI3
            gi_wp2
            go_roundw
            case rel => exact ⟨j + 1, by omega, by go_num, hI4.out, hB3⟩
            case measure => simp [intOf]; omega
          | false =>
            rw [hb] at hcall
            have HB := Lib.hid hb
            clear hb
            gi_wp2
            refine ⟨trivial, (callsIn_wide.2 hcall).mono ?_⟩
            rintro e w2 ⟨rfl, h2⟩
            have hI2 := ownsRow_below hI h2 (Nat.le_refl _)
            have hB2 := hB.trans (h2.mono hB.size)
            have hI4 : Hid (IntsAt w2 wo.heap.size (rowV wo.heap.size N) N (fun y => if y < j + 1 then bitZ b k y else 0)) := by
              have e : (fun y => if y < j then bitZ b k y else 0) = fun y => if y < j + 1 then bitZ b k y else 0 := by
                funext y
                by_cases e1 : y = j
                · rw [if_neg (by omega), if_pos (by omega), e1]; unfold bitZ; rw [HB.out]; rfl
                · by_cases e2 : y < j
                  · rw [if_pos e2, if_pos (by omega)]
                  · rw [if_neg e2, if_neg (by omega)]
              show IntsAt _ _ _ _ _
              rw [← e]
              exact hI2
            clear hI hI2
            gi_wp2
            go_roundw
            case rel => exact ⟨j + 1, by omega, by go_num, hI4.out, hB2⟩
            case measure => simp [intOf]; omega
        · have hjt' : ¬ (j : Int) < N := by omega
          have hjN : j = N := by omega
          have hrow : IntsAt wr A.heap.size (rowV wo.heap.size N) N (bitZ b k) := by
            refine ownsRow_base ?_ hA.size
            have e : (List.range N).map (fun y => Value.int .i64 (if y < j then bitZ b k y else 0)) = (List.range N).map fun y => .int .i64 (bitZ b k y) := map_congr_range fun i hi => by rw [if_pos (by omega)]
            have := hI
            unfold IntsAt at this
            rw [e] at this
            exact this
          obtain ⟨fn, tmps, assign, body, hy, hR⟩ := HY.out k wo.heap.size A wr hlt HJ.out (hA.trans (hB.mono hA.size)) hrow
          dsimp only [encR] at hy
          have hwr' := hwr.trans (hB.mono hwr.size)
          have hBr' : Bx < wr.heap.size := by have := hB.size; omega
          clear hI hrow hjN
          gi_wp2
          refine hR.mono ?_
          rintro e W3 ⟨rfl, hJ3, hk3⟩
          have HJ3 := Lib.hid hJ3
          have k0'' : W3.cell? ⟨Bx, 0, none⟩ = some (.int .i64 (N : Int)) := (World.cell?_of_block (a := ⟨Bx, 0, none⟩) (hk3.block Bx hBr' HS.out)).trans k0'
          have k1'' : W3.cell? ⟨Bx, 1, none⟩ = some (.func (.func g) f c) := (World.cell?_of_block (a := ⟨Bx, 1, none⟩) (hk3.block Bx hBr' HS.out)).trans k1'
          have hwr'' := hwr'.trans (hk3.below hwr'.size fun j hj => by
            rcases Nat.lt_or_ge j wp.heap.size with e | e
            · exact absurd hj (HSw.out j e)
            · exact e)
          have hBr'' : Bx < W3.heap.size := by have := hk3.size; omega
          clear hJ3 hk3 k0' k1'
          gi_wp2
          go_roundw
          case rel => exact ⟨k + 1, W3, by omega, by go_num, HJ3.out, Below.refl _ _, hwr'', k0'', k1'', hBr''⟩
          case measure => simp [intOf]; omega
    · have hlt' : ¬ (k : Int) < N := by omega
      have hkN : k = N := by omega
      have HJ : Hid (J N A) := by subst hkN; exact hJ
      clear hkN hJ
      gi_wp2
      go_end0
      exact ⟨⟨_, rfl⟩, A, HJ.out, hA⟩
end Go.Proofs.Ytojcgmgponnlpaa
namespace Go.Proofs.Ytojcgmgponnlpaa
open Go.RowKit Go.Deep Go.Shelf

attribute [local go_sem] Oper.semAt_some

theorem MakeAt.begin {wr : World} {p base N : Nat} (Z : Nat → Nat → Int) (y : Nat → Int) (hp : p < base) (hb : TwoAt wr p (.slice none 0 0) (.slice none 0 0)) : MakeAt wr p base (.slice none 0 0) (.slice none 0 0) 0 0 N (fun _ => .slice none 0 0) Z y :=
  ⟨hp, hb, ⟨World.ownsRow_nil _ _ _ 1, fun _ hr => absurd hr (Nat.not_lt_zero _), fun _ _ hr => absurd hr (Nat.not_lt_zero _), fun _ _ hr => absurd hr (Nat.not_lt_zero _)⟩, IntsAt.nil _ _ _, fun _ hr => absurd hr (Nat.not_lt_zero _), fun _ hc => absurd hc (Nat.not_lt_zero _)⟩
/-- Blocks between the box and the base may turn. -/
theorem MakeAt.mids {S : Nat → Prop} {wr w' : World} {p base : Nat} {u t : Value} {k kt N : Nat} {rv : Nat → Value} {Z : Nat → Nat → Int} {y : Nat → Int} (h : MakeAt wr p base u t k kt N rv Z y) (hc : Chg S wr w') (hp : ¬ S p) (hs : ∀ j, base ≤ j → ¬ S j) : MakeAt w' p base u t k kt N rv Z y :=
  ⟨h.pb, hc.two h.box hp, hc.out h.out (fun g hg => hs g (ownsRow_block h.out.top g hg)) (fun r hr g hg => hs g (ownsRow_block (h.out.row r hr) g hg)), hc.ints h.ints (fun g hg => hs g (ownsRow_block h.ints g hg)), h.sep, h.rng⟩
theorem MakeAt.more' {wr wa w4 : World} {p base : Nat} {u t v' : Value} {k kt N : Nat} {rv : Nat → Value} {Z : Nat → Nat → Int} {y : Nat → Int} (h : MakeAt wr p base u t k kt N rv Z y) (ha : Chg (fun _ => False) wr wa)
    (hx : 0 ≤ y kt ∧ y kt < (N : Int)) (hown : w4.ownsRow base 3 1 v' (kt + 1) ((List.range kt).map (fun c => .int .i64 (y c)) ++ [.int .i64 (y kt)])) (hg : wa.grownBy w4 t.ownBlock) (hat : v'.ownBlock = t.ownBlock ∨ v'.ownBlock = some wa.heap.size) :
    MakeAt (w4.setCell ⟨p, 1, none⟩ v') p base u v' k (kt + 1) N rv Z y ∧ Chg (fun j => j = p ∨ base ≤ j) wr (w4.setCell ⟨p, 1, none⟩ v') := by
  have := h.more ha hx hown hg hat
  have e : (fun c => if c = kt then y kt else y c) = y := by
    funext c
    by_cases e1 : c = kt
    · rw [if_pos e1, e1]
    · rw [if_neg e1]
  rw [e] at this
  exact this
theorem MakeAt.row' {wo wi w4 : World} {p base : Nat} {u t v' u5 : Value} {k kt N : Nat} {rv : Nat → Value} {Z : Nat → Nat → Int} {y : Nat → Int} {o : Obj} (h : MakeAt wo p base u t k kt N rv Z y) (hbs : base ≤ wo.heap.size) (hi : Below wo.heap.size wo wi)
    (hu : IntsAt wi wo.heap.size u5 N (Z k)) (hz : ∀ c, c < N → 0 ≤ Z k c ∧ Z k c ≤ 2) (hown : w4.ownsRow base 24 1 v' (k + 1) ((List.range k).map rv ++ [u5])) (hg : (wi.alloc o).grownBy w4 u.ownBlock) (hN : 0 < N) :
    MakeAt (w4.setCell ⟨p, 0, none⟩ v') p base v' t (k + 1) kt N (fun r => if r = k then u5 else rv r) Z y ∧ Chg (fun j => j = p ∨ base ≤ j) wo (w4.setCell ⟨p, 0, none⟩ v') := by
  have := h.row hbs hi hu hz hown hg hN
  have e : (fun r c => if r = k then Z k c else Z r c) = Z := by
    funext r c
    by_cases e1 : r = k
    · rw [if_pos e1, e1]
    · rw [if_neg e1]
  rw [e] at this
  exact this

/-- What a plan is: how many answers, and two function values. -/
structure PlanAt (w : World) (v : Value) (N : Nat) (b : Nat → Nat → Bool) (y : Nat → Nat) where
  g1 : Nat
  f1 : Array Value
  c1 : Array Value
  g2 : Nat
  f2 : Array Value
  c2 : Array Value
  val : v = .agg #[.int .i64 (N : Int), .func (.func g1) f1 c1, .func (.func g2) f2 c2]
  below : Fun2At w g1 f1 c1 N b
  opp : Fun1At w g2 f2 c2 N y

/-- The logic under way, the plan's box and the result's beside it. -/
structure Making (w : World) (N : Nat) (b : Nat → Nat → Bool) (y : Nat → Nat) (fv : Value) (k : Nat) (W : World) (u t : Value) (rv : Nat → Value) : Prop where
  make : MakeAt W (w.heap.size + 1 + 1) (w.heap.size + 6) u t k k N rv (bitZ b) (fun c => (y c : Int))
  res : TwoAt W (w.heap.size + 1) (.slice none 0 0) (.slice none 0 0)
  fn : W.cell? ⟨w.heap.size, 2, none⟩ = some fv
  old : Below w.heap.size w W
def MkI (w : World) (N : Nat) (b : Nat → Nat → Bool) (y : Nat → Nat) (fv : Value) (k : Nat) (W : World) : Prop := ∃ u t rv, Making w N b y fv k W u t rv
theorem Making.chg {S : Nat → Prop} {w W W' : World} {N k : Nat} {b : Nat → Nat → Bool} {y : Nat → Nat} {fv u t : Value} {rv : Nat → Value} (h : Making w N b y fv k W u t rv) (hc : Chg S W W') (hs : ∀ j, S j → w.heap.size + 3 ≤ j ∧ j < w.heap.size + 6) : Making w N b y fv k W' u t rv := by
  have hl := World.block_lt_of_cell? W ⟨w.heap.size, 2, none⟩ h.fn
  have no : ∀ j, j < w.heap.size + 3 → ¬ S j := fun j hj e => by have := (hs j e).1; omega
  exact ⟨h.make.mids hc (no _ (by omega)) (fun j hj e => by have := (hs j e).2; omega), hc.two h.res (no _ (by omega)), (World.cell?_of_block (a := ⟨w.heap.size, 2, none⟩) (hc.block _ hl (no _ (by show w.heap.size < _; omega)))).trans h.fn, h.old.trans (hc.below h.old.size fun j hj => by have := (hs j hj).1; omega)⟩

def PlanMade (w : World) (N : Nat) (b : Nat → Nat → Bool) (y : Nat → Nat) (e : Ending) (w' : World) : Prop :=
  ∃ u t rv, e = .returned (.agg #[u, t]) ∧ LogO w' w.heap.size u t N rv (bitZ b) (fun c => (y c : Int)) ∧ Below w.heap.size w w'

theorem rows_any (d : Nat) (v0 v1 v2 : Value) (w : World) :
    CallsIn Fence.wide d Try.prog 109 #[.agg #[v0, v1, v2]] w fun e w' => e = .returned (.func (.func 124) #[] #[.pointer (some ⟨w.heap.size, 0, none⟩)]) ∧ w' = w.alloc (.cells #[v0, v1, v2] 96) := by
  refine callsIn_of_wp Try.func109 rfl trivial ?_ rfl
  simp only [Try.ntmps109, List.size_toArray, List.length_cons, List.length_nil, Nat.reduceAdd, Nat.reduceSub, Array.replicate_succ, Array.replicate_zero, List.push_toArray, List.append_toArray, List.nil_append, List.cons_append]
  gi_wp2
  go_ret
  exact ⟨rfl, rfl⟩

/-- One operation that hands over a value, whatever else may come up. -/
theorem opH_value {P : Program} {md : Region.Mode} {ops : Array Oper} {Q : Exit → Act → World → Prop} {S : World → Prop} {i d fuel : Nat} {v : Value} {listed listed' : Array Bool} {a : Act} {w w' : World} {o : Oper} {rest : List Oper} (hi : ops.toList.drop i = o :: rest)
    (hd : o.dst = some d) (hw : Region.wanted o (yielded ops a.tmps) = true) (hl : listed.setIfInBounds i true = listed') (he : (execOp a.eval o).run P w = .ok (.value v) w') (hS : S w')
    (h : wpAnyH P md ops Q S fuel listed' { tmps := a.tmps.setIfInBounds d v, defers := a.defers } w') : wpOp P ops Q i (fun a' w' => S w' ∧ wpAnyH P md ops Q S fuel (listed.setIfInBounds i true) a' w') a w := by
  unfold wpOp
  rw [at_drop hi]
  simp only
  rw [if_pos hw, hl]
  refine .inl ?_
  unfold Oper.wp
  rw [he, Oper.upon_value, hd]
  exact ⟨hS, h⟩
theorem opH_call {P : Program} {md : Region.Mode} {ops : Array Oper} {Q : Exit → Act → World → Prop} {S : World → Prop} {i d fuel : Nat} {listed listed' : Array Bool} {a : Act} {w : World} {o : Oper} {rest : List Oper} {f : FuncId} {args : Array Value} {R : Ending → World → Prop} (hi : ops.toList.drop i = o :: rest)
    (hd : o.dst = some d) (hw : Region.wanted o (yielded ops a.tmps) = true) (hl : listed.setIfInBounds i true = listed')
    (he : (execOp a.eval o).run P w = .ok (.enter f args) w) (hc : Calls P f args w R)
    (h : ∀ e w', R e w' → ∃ v, e = .returned v ∧ S w' ∧ wpAnyH P md ops Q S fuel listed' { tmps := a.tmps.setIfInBounds d v, defers := a.defers } w') : wpOp P ops Q i (fun a' w' => S w' ∧ wpAnyH P md ops Q S fuel (listed.setIfInBounds i true) a' w') a w := by
  unfold wpOp
  rw [at_drop hi]
  simp only
  rw [if_pos hw, hl]
  refine .inl ?_
  unfold Oper.wp
  rw [he, Oper.upon_enter]
  refine hc.mono fun e w' hR => ?_
  obtain ⟨v, rfl, hS, hA⟩ := h e w' hR
  rw [hd]
  exact ⟨hS, hA⟩
theorem hold_value {P : Program} {md : Region.Mode} {ops : Array Oper} {Q : Exit → Act → World → Prop} {S : World → Prop} {i d fuel : Nat} {v : Value} {listed listed' : Array Bool} {a : Act} {w w' : World} {o : Oper} {rest : List Oper} (hi : ops.toList.drop i = o :: rest)
    (hr : Region.ready md ops listed = [i]) (hd : o.dst = some d) (hw : Region.wanted o (yielded ops a.tmps) = true) (hl : listed.setIfInBounds i true = listed') (he : (execOp a.eval o).run P w = .ok (.value v) w') (hS : S w')
    (h : wpAnyH P md ops Q S fuel listed' { tmps := a.tmps.setIfInBounds d v, defers := a.defers } w') : wpAnyH P md ops Q S (fuel + 1) listed a w := by
  refine wpAnyH_all hr (by simp) fun j hj => ?_
  obtain rfl : j = i := by simpa using hj
  exact opH_value hi hd hw hl he hS h
/-- Two that may come up. -/
theorem hold_two {P : Program} {md : Region.Mode} {ops : Array Oper} {Q : Exit → Act → World → Prop} {S : World → Prop} {i j fuel : Nat} {listed : Array Bool} {a : Act} {w : World} (hr : Region.ready md ops listed = [i, j])
    (h1 : wpOp P ops Q i (fun a' w' => S w' ∧ wpAnyH P md ops Q S fuel (listed.setIfInBounds i true) a' w') a w) (h2 : wpOp P ops Q j (fun a' w' => S w' ∧ wpAnyH P md ops Q S fuel (listed.setIfInBounds j true) a' w') a w) : wpAnyH P md ops Q S (fuel + 1) listed a w := by
  refine wpAnyH_all hr (by simp) fun k hk => ?_
  rcases (by simpa using hk : k = i ∨ k = j) with rfl | rfl
  · exact h1
  · exact h2
/-- An append of the call's own that alone may come up. -/
theorem hold_append {P : Program} {md : Region.Mode} {ops : Array Oper} {Q : Exit → Act → World → Prop} {S : World → Prop} {k d fuel : Nat} {listed listed' : Array Bool} {a : Act} {w : World} {o : Oper} {rest : List Oper} (hi : ops.toList.drop k = o :: rest)
    (hr : Region.ready md ops listed = [k]) (hd : o.dst = some d) (hl : listed.setIfInBounds k true = listed')
    (hg : o.guard = none) (s x : Operand) (t : TypeId) (hop : o.op = Op.call { callee := Callee.builtin Builtin.append, args := #[s, x], argTypes := #[t, t] })
    (base : Nat) (e : TypeId) (i : TypeInfo) (z : Value) (size bytes : Nat) (ht : P.underlying t = some (.slice e)) (hinf : P.info? e = some i) (hz : i.zero = some z)
    (hsize : i.size = size) (hby : i.bytes = bytes) (hzs : z.cells.size = size) (hsz : 0 < size)
    (v : Value) (n : Nat) (xs : List Value) (hs : a.eval s = v) (hown : w.ownsRow base e size v n xs)
    (ad : Addr) (m c : Nat) (news : List Value) (hx : a.eval x = .slice (some ad) m c) (hlen : news.length = m * size) (hnews : ∀ j u, news[j]? = some u → w.cell? (ad.add j) = some u) (h1 : ∀ u ∈ news, u.oneCell' = true)
    (h63 : n + m ≤ maxLen) (hbytes : (n + m) * bytes ≤ 140737488355328) (hbase : base ≤ w.heap.size)
    (h : ∀ v' w', w'.ownsRow base e size v' (n + m) (xs ++ news) → w.grownBy w' v.ownBlock → (v'.ownBlock = v.ownBlock ∨ v'.ownBlock = some w.heap.size) → S w' ∧ wpAnyH P md ops Q S fuel listed' { tmps := a.tmps.setIfInBounds d v', defers := a.defers } w') : wpAnyH P md ops Q S (fuel + 1) listed a w := by
  refine wpAnyH_all hr (by simp) fun j hj => ?_
  obtain rfl : j = k := by simpa using hj
  unfold wpOp
  rw [at_drop hi]
  simp only
  have hw : Region.wanted o (yielded ops a.tmps) = true := by simp [Region.wanted, hg]
  rw [if_pos hw, hl]
  refine .inl ?_
  have := step_append_own (P := P) (ops := ops) (K := fun a' w' => S w' ∧ wpAnyH P md ops Q S fuel listed' a' w') (Q := Q) (E := True) hg s x t hop base e i z size bytes ht hinf hz hsize hby hzs hsz v n xs hs hown ad m c news hx hlen hnews h1 h63 hbytes hbase
    (fun v' w' e1 e2 e3 => by rw [hd]; exact h v' w' e1 e2 e3)
  rw [if_pos hw] at this
  exact this

set_option maxRecDepth 100000 in
set_option maxHeartbeats 4000000 in
theorem logic_any {w : World} {v : Value} {N : Nat} {b : Nat → Nat → Bool} {y : Nat → Nat} (h1 : 1 ≤ N) (hN : N ≤ 12) (h : PlanAt w v N b y) (hy : ∀ a, a < N → y a < N) :
    Calls Try.prog 69 #[v] w (PlanMade w N b y) := by
  obtain ⟨i0, hi, hz0, hz1, hz2⟩ := info_parts infoInt
  have HI := Lib.hid hi
  have HZ0 := Lib.hid hz0
  have HZ1 := Lib.hid hz1
  have HZ2 := Lib.hid hz2
  obtain ⟨i1, hj, hy0, hy1, hy2⟩ := info_parts infoInts
  have HJ := Lib.hid hj
  have HY0 := Lib.hid hy0
  have HY1 := Lib.hid hy1
  have HY2 := Lib.hid hy2
  obtain ⟨g1, f1, c1, g2, f2, c2, rfl, hb, ho⟩ := h
  have e2 := ho.enters
  have HO := Lib.hid ho.gives
  have HB := Lib.hid hb
  have HY := Lib.hid hy
  clear hb ho hy hi hz0 hz1 hz2 hj hy0 hy1 hy2
  refine (callsIn_wide (n := 9)).1 ?_
  refine callsIn_of_wp_marks Try.func69 rfl trivial ?_ rfl
  simp only [Try.ntmps69, List.size_toArray, List.length_cons, List.length_nil, Nat.reduceAdd, Nat.reduceSub, Array.replicate_succ, Array.replicate_zero, List.push_toArray, List.append_toArray, List.nil_append, List.cons_append]
  gi_wp2_with (refine ⟨trivial, ?_⟩; gi_at_call 109; refine (rows_any _ _ _ _ _).mono ?_; rintro e w' ⟨rfl, rfl⟩)
  -- the world where the loop begins
  have X0 := BoxN.start w #[.int .i64 (N : Int), .func (.func g1) f1 c1, .func (.func g2) f2 c2] 96
  have X1 := TwoAt.new (w.alloc (.cells #[.int .i64 (N : Int), .func (.func g1) f1 c1, .func (.func g2) f2 c2] 96)) (.slice none 0 0) (.slice none 0 0) 26
  have X2 := TwoAt.new ((w.alloc (.cells #[.int .i64 (N : Int), .func (.func g1) f1 c1, .func (.func g2) f2 c2] 96)).alloc (.cells #[.slice none 0 0, .slice none 0 0] 26)) (.slice none 0 0) (.slice none 0 0) 26
  have X3 := BoxN.start (((w.alloc (.cells #[.int .i64 (N : Int), .func (.func g1) f1 c1, .func (.func g2) f2 c2] 96)).alloc (.cells #[.slice none 0 0, .slice none 0 0] 26)).alloc (.cells #[.slice none 0 0, .slice none 0 0] 26)) #[.int .i64 (N : Int), .func (.func g1) f1 c1, .func (.func g2) f2 c2] 96
  simp only [World.size_alloc] at X1 X2
  have B1 := (Below.refl (w.heap.size + 1 + 1) ((w.alloc (.cells #[.int .i64 (N : Int), .func (.func g1) f1 c1, .func (.func g2) f2 c2] 96)).alloc (.cells #[.slice none 0 0, .slice none 0 0] 26))).alloc (by simp) (.cells #[.slice none 0 0, .slice none 0 0] 26)
  have B2 := (B1.alloc (by simp) (.cells #[.int .i64 (N : Int), .func (.func g1) f1 c1, .func (.func g2) f2 c2] 96))
  have B3 := (Below.refl (w.heap.size + 1 + 1 + 1) (((w.alloc (.cells #[.int .i64 (N : Int), .func (.func g1) f1 c1, .func (.func g2) f2 c2] 96)).alloc (.cells #[.slice none 0 0, .slice none 0 0] 26)).alloc (.cells #[.slice none 0 0, .slice none 0 0] 26))).alloc (by simp) (.cells #[.int .i64 (N : Int), .func (.func g1) f1 c1, .func (.func g2) f2 c2] 96)
  have X1' := X1.below B2 (by omega)
  have X2' := X2.below B3 (by omega)
  have X0' := X0.step (((Below.refl (w.heap.size + 1) (w.alloc (.cells #[.int .i64 (N : Int), .func (.func g1) f1 c1, .func (.func g2) f2 c2] 96))).alloc (by simp) (.cells #[.slice none 0 0, .slice none 0 0] 26)).trans (B2.mono (by omega)) |>.mono (by simp))
  have q0 := X0'.cell 2 rfl
  have q3 := X3.cell 0 rfl
  have q4 := X3.cell 1 rfl
  simp only [World.size_alloc] at q3 q4
  have bw := X0'.below
  have hsz : ((((w.alloc (.cells #[.int .i64 (N : Int), .func (.func g1) f1 c1, .func (.func g2) f2 c2] 96)).alloc (.cells #[.slice none 0 0, .slice none 0 0] 26)).alloc (.cells #[.slice none 0 0, .slice none 0 0] 26)).alloc (.cells #[.int .i64 (N : Int), .func (.func g1) f1 c1, .func (.func g2) f2 c2] 96)).heap.size = w.heap.size + 4 := by simp
  clear X0 X1 X2 X3 B1 B2 B3 X0'
  generalize ((((w.alloc (.cells #[.int .i64 (N : Int), .func (.func g1) f1 c1, .func (.func g2) f2 c2] 96)).alloc (.cells #[.slice none 0 0, .slice none 0 0] 26)).alloc (.cells #[.slice none 0 0, .slice none 0 0] 26)).alloc (.cells #[.int .i64 (N : Int), .func (.func g1) f1 c1, .func (.func g2) f2 c2] 96)) = W0 at q0 q3 q4 X1' X2' bw hsz ⊢
  have hM0 : MkI w N b y (.func (.func g2) f2 c2) 0 W0 := ⟨_, _, _, MakeAt.begin _ _ (by omega) X2', X1', q0, bw⟩
  refine wpIn_rows (S := fun j => j = w.heap.size + 1 + 1 ∨ w.heap.size + 4 ≤ j) (T := fun j => j = w.heap.size + 1 + 1 ∨ w.heap.size + 6 ≤ j) rfl (by omega) (gf := 124) (lb := #[.pointer (some ⟨w.heap.size + 1 + 1 + 1, 0, none⟩)]) rfl trivial (enters_of Try.func124 (by kernel_rfl) rfl)
    (rows_gives (wp := w) (g := g1) (f := f1) (c := c1) (b := b) (by omega) h1 hN HB.out bw (by omega) q3 q4 (by show ¬ (_ ∨ _); omega) (fun j hj => by show ¬ (_ ∨ _); omega))
    (Below.refl _ _) rfl (fun j hj => hj.imp id fun e => by omega) (by show _ ∨ _; omega) (by show ¬ (_ ∨ _); omega) (by show ¬ (_ ∨ _); omega)
    (MkI w N b y (.func (.func g2) f2 c2)) (fun k W W' ⟨u, t, rv, hM⟩ hc => ⟨u, t, rv, hM.chg hc fun j hj => by have hj' : j = W0.heap.size + 1 := hj; omega⟩) hM0
    (fun k r => { tmps := #[.agg #[.int .i64 (N : Int), .func (.func g1) f1 c1, .func (.func g2) f2 c2], .pointer (some ⟨w.heap.size, 0, none⟩), .pointer (some ⟨w.heap.size + 1, 0, none⟩), .pointer (some ⟨w.heap.size + 1 + 1, 0, none⟩), .int .i64 (k : Int), rowV r N,
      .agg #[.int .i64 (N : Int), .func (.func g1) f1 c1, .func (.func g2) f2 c2], .func (.func 124) #[] #[.pointer (some ⟨w.heap.size + 1 + 1 + 1, 0, none⟩)], .int .i64 (k : Int), rowV r N, undef, undef, undef, undef, undef, undef, undef, undef, undef, undef, undef, undef, undef, undef, undef, undef], defers := [] }) ?assign ?body ?done
  case assign =>
    intro lr k r W K hK
    dsimp only
    clear q0 q3 q4 hM0 X1' X2' bw hsz
    gi_wp2
    exact hK
  case body =>
    rintro lr k r A W1 hk ⟨u, t, rv, hM⟩ hA0 hAW hrow
    clear q0 q3 q4 hM0 X1' X2' bw
    have hAs : w.heap.size + 6 ≤ A.heap.size := by omega
    have HM := Lib.hid hM
    have hm1 := hM.make.below hAW
    have hbx := hm1.box.c0
    have hbf := hm1.box.f0
    have hs1 := hAW.size
    have HM1 := Lib.hid hm1
    have hbl := Lib.hid (ownsRow_block hm1.out.top)
    have HR := Lib.hid hrow
    clear hM hm1 hrow
    gi_wp2_with (gi_at_builtin; refine wpListIn_append_own _ rfl _ _ 23 rfl (w.heap.size + 6) 24 i1 (.slice none 0 0) 1 24 Try.underlying23 HJ.out HY0.out HY1.out HY2.out rfl (by decide) _ _ _ rfl (HM1.out.out.top.alloc _) ⟨W1.heap.size, 0, none⟩ 1 1 [rowV r N] rfl rfl (cell_one_new _ _ _) ?d2 ?d3 ?d4 ?d5 ?_)
    case d2 => simp [Value.oneCell']
    case d3 => unfold maxLen; omega
    case d4 => omega
    case d5 => simp; omega
    intro v' w4 hown4 hgrow _
    have HX := HM.out.make.row' (by omega) hAW HR.out (fun c _ => bitZ_rng b k c) hown4 hgrow (by omega)
    have hb4 := (HM1.out.mid (Chg.alloc (fun _ => False) _ _) hgrow hbl.out).2
    have hC5 : Chg (fun j => j = w.heap.size + 1 + 1 ∨ w.heap.size + 6 ≤ j) W1 (w4.setCell ⟨w.heap.size + 1 + 1, 0, none⟩ v') := ((Chg.alloc _ W1 _).trans (Chg.of_grown hgrow fun g hg => .inr (hbl.out g hg))).trans (Chg.set (.inl rfl) v')
    obtain ⟨g4, c4, rfl, _⟩ := HX.1.out.topv (by omega)
    have hM5 := HX.1
    have r0 := hb4.c0
    have r1 := hb4.f0
    clear hown4 hgrow hb4 HX hbx hbf
    gi_wp2_with fail
    clear r0 r1
    generalize hW5 : w4.setCell ⟨w.heap.size + 1 + 1, 0, none⟩ (.slice (some ⟨g4, 0, none⟩) (k + 1) c4) = w5 at hC5 hM5 ⊢
    clear hW5
    have hF1 : W1.cell? ⟨w.heap.size, 2, none⟩ = some (.func (.func g2) f2 c2) := (hAW.cell (p := ⟨w.heap.size, 2, none⟩) (by show w.heap.size < _; omega)).trans HM.out.fn
    have hF5 : w5.cell? ⟨w.heap.size, 2, none⟩ = some (.func (.func g2) f2 c2) := (World.cell?_of_block (a := ⟨w.heap.size, 2, none⟩) (hC5.block w.heap.size (by omega) (by show ¬ (_ ∨ _); omega))).trans hF1
    have hT1 := HM.out.res.below hAW (by omega)
    have hO1 := HM.out.old.trans (hAW.mono HM.out.old.size)
    have hO5 := hO1.trans (hC5.below hO1.size fun j hj => by
      have hj' : j = w.heap.size + 1 + 1 ∨ w.heap.size + 6 ≤ j := hj
      omega)
    have hs5 := hC5.size
    have hB5 : w.heap.size + 6 ≤ w5.heap.size := by omega
    have HM5 := Lib.hid hM5
    have hq := hM5.box.c1
    have hyk := HY.out k hk
    have hyr : 0 ≤ (y k : Int) ∧ (y k : Int) < (N : Int) := by omega
    have HYR := Lib.hid hyr
    have htb := Lib.hid (ownsRow_block hM5.ints)
    have m1 := Lib.hid (show k + 1 ≤ maxLen by unfold maxLen; omega)
    have m2 := Lib.hid (show (k + 1) * 8 ≤ 140737488355328 by omega)
    have m4 := Lib.hid (show ∀ u ∈ [Value.int .i64 (y k : Int)], u.oneCell' = true by simp [Value.oneCell'])
    have hcall := HO.out w5.drew k (hO5.drew) hk
    have HRES := Lib.hid hT1
    have HO5 := Lib.hid hO5
    have HC5 := Lib.hid hC5
    clear hyk hyr hM5 hF1 hT1 hO1 hO5 hC5
    have hS : (fun W' : World => W'.cell? ⟨w.heap.size, 2, none⟩ = some (.func (.func g2) f2 c2)) w5.drew := hF5
    clear hF5
    refine region_hold (fuel := 10) (listed := #[false, false, false, false, false, false, false, false, false, false]) (fun W' => W'.cell? ⟨w.heap.size, 2, none⟩ = some (.func (.func g2) f2 c2)) (by kernel_rfl) (by kernel_rfl) (by kernel_rfl) (by kernel_rfl) ?_
    refine hold_take (i := 0) (d := 16) (v := ?va0) (listed' := #[true, false, false, false, false, false, false, false, false, false]) rfl (by kernel_rfl) (by kernel_rfl) (by kernel_rfl) rfl (by rfl) (by kernel_rfl) hS ?ha0 ?ra0
    case ha0 =>
      intro w' k0
      go_simp
      try with_reducible rfl
    simp only [List.setIfInBounds_toArray, List.set_cons_zero, List.set_cons_succ]
    refine hold_take (i := 2) (d := 18) (v := ?va2) (listed' := #[true, false, true, false, false, false, false, false, false, false]) rfl (by kernel_rfl) (by kernel_rfl) (by kernel_rfl) rfl (by rfl) (by kernel_rfl) hS ?ha2 ?ra2
    case ha2 =>
      intro w' k0
      go_simp
      try with_reducible rfl
    simp only [List.setIfInBounds_toArray, List.set_cons_zero, List.set_cons_succ]
    refine hold_take (i := 3) (d := 19) (v := ?va3) (listed' := #[true, false, true, true, false, false, false, false, false, false]) rfl (by kernel_rfl) (by kernel_rfl) (by kernel_rfl) rfl (by rfl) (by kernel_rfl) hS ?ha3 ?ra3
    case ha3 =>
      intro w' k0
      go_simp
      try with_reducible rfl
    simp only [List.setIfInBounds_toArray, List.set_cons_zero, List.set_cons_succ]
    refine hold_take (i := 4) (d := 20) (v := ?va4) (listed' := #[true, false, true, true, true, false, false, false, false, false]) rfl (by kernel_rfl) (by kernel_rfl) (by kernel_rfl) rfl (by rfl) (by kernel_rfl) hS ?ha4 ?ra4
    case ha4 =>
      intro w' k0
      go_simp
      try with_reducible rfl
    simp only [List.setIfInBounds_toArray, List.set_cons_zero, List.set_cons_succ]
    refine hold_two (i := 1) (j := 5) (by kernel_rfl) ?ra ?rb
    case ra =>
      refine opH_value (i := 1) (d := 17) (listed' := #[true, true, true, true, true, false, false, false, false, false]) rfl rfl (by rfl) (by kernel_rfl) (v := t) (w' := w5.drew) ?hl1 hS ?_
      case hl1 =>
        go_simp
        try with_reducible rfl
      simp only [List.setIfInBounds_toArray, List.set_cons_zero, List.set_cons_succ]
      refine hold_call (i := 5) (d := 21) (listed' := #[true, true, true, true, true, true, false, false, false, false]) rfl (by kernel_rfl) rfl (by rfl) (by kernel_rfl) ?hc1 hcall ?_
      case hc1 => go_simp
      rintro e w6 ⟨rfl, b6⟩
      have hS6 : (fun W' : World => W'.cell? ⟨w.heap.size, 2, none⟩ = some (.func (.func g2) f2 c2)) w6 := (b6.cell (p := ⟨w.heap.size, 2, none⟩) (by show w.heap.size < w5.heap.size; omega)).trans hS
      have hq6 : w6.cell? ⟨w.heap.size + 1 + 1, 1, none⟩ = some t := (b6.cell (p := ⟨w.heap.size + 1 + 1, 1, none⟩) (by show w.heap.size + 1 + 1 < w5.heap.size; omega)).trans hq
      have hs6 : w5.heap.size ≤ w6.heap.size := b6.size
      refine ⟨_, rfl, hS6, ?_⟩
      simp only [List.setIfInBounds_toArray, List.set_cons_zero, List.set_cons_succ]
      have hS7 : (fun W' : World => W'.cell? ⟨w.heap.size, 2, none⟩ = some (.func (.func g2) f2 c2)) (w6.alloc (.cells #[.int .i64 (y k : Int)] 3)) := (World.cell?_alloc_lt w6 _ ⟨w.heap.size, 2, none⟩ (by show w.heap.size < _; omega)).trans hS6
      have hq7 : (w6.alloc (.cells #[.int .i64 (y k : Int)] 3)).cell? ⟨w.heap.size + 1 + 1, 1, none⟩ = some t := (World.cell?_alloc_lt w6 _ ⟨w.heap.size + 1 + 1, 1, none⟩ (by show w.heap.size + 1 + 1 < _; omega)).trans hq6
      refine hold_value (i := 6) (d := 22) (listed' := #[true, true, true, true, true, true, true, false, false, false]) rfl (by kernel_rfl) rfl (by rfl) (by kernel_rfl) (v := .slice (some ⟨w6.heap.size, 0, none⟩) 1 1) (w' := (w6.alloc (.cells #[.int .i64 (y k : Int)] 3))) ?hb1 hS7 ?_
      case hb1 =>
        go_simp
        try with_reducible rfl
      simp only [List.setIfInBounds_toArray, List.set_cons_zero, List.set_cons_succ]
      have hCH : Chg (fun _ => False) w5 (w6.alloc (.cells #[.int .i64 (y k : Int)] 3)) := ((Chg.drew _ w5).trans (Chg.of_below b6 fun j h1 h2 => by have h3 : w5.heap.size ≤ j := h2; have h4 : j < w5.heap.size := h1; omega)).trans (Chg.alloc _ _ _)
      refine hold_append (k := 7) (d := 23) (listed' := #[true, true, true, true, true, true, true, true, false, false]) rfl (by kernel_rfl) rfl (by kernel_rfl) rfl (.tmp 17) (.tmp 22) 24 rfl (w.heap.size + 6) 3 i0 (.int .i64 0) 1 8 Try.underlying24 HI.out HZ0.out HZ1.out HZ2.out rfl (by decide) t k _ (by simp [Act.eval]) (hCH.own HM5.out.ints (fun _ _ h => h)) ⟨w6.heap.size, 0, none⟩ 1 1 [.int .i64 (y k : Int)] (by simp [Act.eval]) rfl (cell_one_new _ _ _) m4.out m1.out m2.out (by simp; omega) ?_
      intro v8 w8 hown8 hgrow8 hat8
      have hb8 := (HM5.out.mid hCH hgrow8 htb.out).2
      have hC8 : Chg (fun j => j = w.heap.size + 1 + 1 ∨ w.heap.size + 6 ≤ j) w5 w8 := (hCH.mono fun _ h => h.elim).trans (Chg.of_grown hgrow8 fun g hg => .inr (htb.out g hg))
      have HZ := HM5.out.more' hCH HYR.out hown8 hgrow8 hat8
      obtain ⟨g6, c6, rfl, _⟩ := HZ.1.ints.val (by omega)
      have hS8 : (fun W' : World => W'.cell? ⟨w.heap.size, 2, none⟩ = some (.func (.func g2) f2 c2)) w8 := (World.cell?_of_block (a := ⟨w.heap.size, 2, none⟩) (hC8.block w.heap.size (by omega) (by show ¬ (_ ∨ _); omega))).trans hS
      have r0 := hb8.c1
      have r1 := hb8.f1
      have HZ' := Lib.hid HZ
      clear hown8 hgrow8 hat8 hb8 HZ
      refine ⟨hS8, ?_⟩
      simp only [List.setIfInBounds_toArray, List.set_cons_zero, List.set_cons_succ]
      refine hold_value (i := 8) (d := 24) (listed' := #[true, true, true, true, true, true, true, true, true, false]) rfl (by kernel_rfl) rfl (by rfl) (by kernel_rfl) (v := .pointer (some ⟨w.heap.size + 1 + 1, 1, none⟩)) (w' := w8) ?h8t1 hS8 ?_
      case h8t1 =>
        go_simp
        try with_reducible rfl
      simp only [List.setIfInBounds_toArray, List.set_cons_zero, List.set_cons_succ]
      have hS9 : (fun W' : World => W'.cell? ⟨w.heap.size, 2, none⟩ = some (.func (.func g2) f2 c2)) (w8.setCell ⟨w.heap.size + 1 + 1, 1, none⟩ (.slice (some ⟨g6, 0, none⟩) (k + 1) c6)) := (World.cell?_setCell_other _ _ _ _ (fun e => by injection e with e1; omega)).trans hS8
      refine hold_store (i := 9) (listed' := #[true, true, true, true, true, true, true, true, true, true]) rfl (by kernel_rfl) rfl (by rfl) (by kernel_rfl) (w' := w8.setCell ⟨w.heap.size + 1 + 1, 1, none⟩ (.slice (some ⟨g6, 0, none⟩) (k + 1) c6)) ?h9t1 hS9 ?_
      case h9t1 =>
        go_simp
        try with_reducible rfl
      refine hold_done (by kernel_rfl) ?_ _
      have hC9 := hC8.trans (Chg.set (S := fun j => j = w.heap.size + 1 + 1 ∨ w.heap.size + 6 ≤ j) (w := w8) (b := w.heap.size + 1 + 1) (i := 1) (.inl rfl) (.slice (some ⟨g6, 0, none⟩) (k + 1) c6))
      have HC9 := Lib.hid (HC5.out.trans hC9)
      have HO9 := Lib.hid (HO5.out.trans (hC9.below HO5.out.size fun j hj => by have hj' : j = w.heap.size + 1 + 1 ∨ w.heap.size + 6 ≤ j := hj; omega))
      have HF9 := Lib.hid hS9
      clear r0 r1 hS8 hS9 hC8 hC9
      gi_wp2_with fail
      exact ⟨HC9.out, _, _, _, HZ'.out.1, HC9.out.two HRES.out (by show ¬ (_ ∨ _); omega), HF9.out, HO9.out⟩
    case rb =>
      refine opH_call (i := 5) (d := 21) (listed' := #[true, false, true, true, true, true, false, false, false, false]) rfl rfl (by rfl) (by kernel_rfl) ?hc2 hcall ?_
      case hc2 => go_simp
      rintro e w6 ⟨rfl, b6⟩
      have hS6 : (fun W' : World => W'.cell? ⟨w.heap.size, 2, none⟩ = some (.func (.func g2) f2 c2)) w6 := (b6.cell (p := ⟨w.heap.size, 2, none⟩) (by show w.heap.size < w5.heap.size; omega)).trans hS
      have hq6 : w6.cell? ⟨w.heap.size + 1 + 1, 1, none⟩ = some t := (b6.cell (p := ⟨w.heap.size + 1 + 1, 1, none⟩) (by show w.heap.size + 1 + 1 < w5.heap.size; omega)).trans hq
      have hs6 : w5.heap.size ≤ w6.heap.size := b6.size
      refine ⟨_, rfl, hS6, ?_⟩
      simp only [List.setIfInBounds_toArray, List.set_cons_zero, List.set_cons_succ]
      refine hold_two (i := 1) (j := 6) (by kernel_rfl) ?rc ?rd
      case rc =>
        refine opH_value (i := 1) (d := 17) (listed' := #[true, true, true, true, true, true, false, false, false, false]) rfl rfl (by rfl) (by kernel_rfl) (v := t) (w' := w6) ?hl3 hS6 ?_
        case hl3 =>
          go_simp
          try with_reducible rfl
        simp only [List.setIfInBounds_toArray, List.set_cons_zero, List.set_cons_succ]
        have hS7 : (fun W' : World => W'.cell? ⟨w.heap.size, 2, none⟩ = some (.func (.func g2) f2 c2)) (w6.alloc (.cells #[.int .i64 (y k : Int)] 3)) := (World.cell?_alloc_lt w6 _ ⟨w.heap.size, 2, none⟩ (by show w.heap.size < _; omega)).trans hS6
        have hq7 : (w6.alloc (.cells #[.int .i64 (y k : Int)] 3)).cell? ⟨w.heap.size + 1 + 1, 1, none⟩ = some t := (World.cell?_alloc_lt w6 _ ⟨w.heap.size + 1 + 1, 1, none⟩ (by show w.heap.size + 1 + 1 < _; omega)).trans hq6
        refine hold_value (i := 6) (d := 22) (listed' := #[true, true, true, true, true, true, true, false, false, false]) rfl (by kernel_rfl) rfl (by rfl) (by kernel_rfl) (v := .slice (some ⟨w6.heap.size, 0, none⟩) 1 1) (w' := (w6.alloc (.cells #[.int .i64 (y k : Int)] 3))) ?hb3 hS7 ?_
        case hb3 =>
          go_simp
          try with_reducible rfl
        simp only [List.setIfInBounds_toArray, List.set_cons_zero, List.set_cons_succ]
        have hCH : Chg (fun _ => False) w5 (w6.alloc (.cells #[.int .i64 (y k : Int)] 3)) := ((Chg.drew _ w5).trans (Chg.of_below b6 fun j h1 h2 => by have h3 : w5.heap.size ≤ j := h2; have h4 : j < w5.heap.size := h1; omega)).trans (Chg.alloc _ _ _)
        refine hold_append (k := 7) (d := 23) (listed' := #[true, true, true, true, true, true, true, true, false, false]) rfl (by kernel_rfl) rfl (by kernel_rfl) rfl (.tmp 17) (.tmp 22) 24 rfl (w.heap.size + 6) 3 i0 (.int .i64 0) 1 8 Try.underlying24 HI.out HZ0.out HZ1.out HZ2.out rfl (by decide) t k _ (by simp [Act.eval]) (hCH.own HM5.out.ints (fun _ _ h => h)) ⟨w6.heap.size, 0, none⟩ 1 1 [.int .i64 (y k : Int)] (by simp [Act.eval]) rfl (cell_one_new _ _ _) m4.out m1.out m2.out (by simp; omega) ?_
        intro v8 w8 hown8 hgrow8 hat8
        have hb8 := (HM5.out.mid hCH hgrow8 htb.out).2
        have hC8 : Chg (fun j => j = w.heap.size + 1 + 1 ∨ w.heap.size + 6 ≤ j) w5 w8 := (hCH.mono fun _ h => h.elim).trans (Chg.of_grown hgrow8 fun g hg => .inr (htb.out g hg))
        have HZ := HM5.out.more' hCH HYR.out hown8 hgrow8 hat8
        obtain ⟨g6, c6, rfl, _⟩ := HZ.1.ints.val (by omega)
        have hS8 : (fun W' : World => W'.cell? ⟨w.heap.size, 2, none⟩ = some (.func (.func g2) f2 c2)) w8 := (World.cell?_of_block (a := ⟨w.heap.size, 2, none⟩) (hC8.block w.heap.size (by omega) (by show ¬ (_ ∨ _); omega))).trans hS
        have r0 := hb8.c1
        have r1 := hb8.f1
        have HZ' := Lib.hid HZ
        clear hown8 hgrow8 hat8 hb8 HZ
        refine ⟨hS8, ?_⟩
        simp only [List.setIfInBounds_toArray, List.set_cons_zero, List.set_cons_succ]
        refine hold_value (i := 8) (d := 24) (listed' := #[true, true, true, true, true, true, true, true, true, false]) rfl (by kernel_rfl) rfl (by rfl) (by kernel_rfl) (v := .pointer (some ⟨w.heap.size + 1 + 1, 1, none⟩)) (w' := w8) ?h8t3 hS8 ?_
        case h8t3 =>
          go_simp
          try with_reducible rfl
        simp only [List.setIfInBounds_toArray, List.set_cons_zero, List.set_cons_succ]
        have hS9 : (fun W' : World => W'.cell? ⟨w.heap.size, 2, none⟩ = some (.func (.func g2) f2 c2)) (w8.setCell ⟨w.heap.size + 1 + 1, 1, none⟩ (.slice (some ⟨g6, 0, none⟩) (k + 1) c6)) := (World.cell?_setCell_other _ _ _ _ (fun e => by injection e with e1; omega)).trans hS8
        refine hold_store (i := 9) (listed' := #[true, true, true, true, true, true, true, true, true, true]) rfl (by kernel_rfl) rfl (by rfl) (by kernel_rfl) (w' := w8.setCell ⟨w.heap.size + 1 + 1, 1, none⟩ (.slice (some ⟨g6, 0, none⟩) (k + 1) c6)) ?h9t3 hS9 ?_
        case h9t3 =>
          go_simp
          try with_reducible rfl
        refine hold_done (by kernel_rfl) ?_ _
        have hC9 := hC8.trans (Chg.set (S := fun j => j = w.heap.size + 1 + 1 ∨ w.heap.size + 6 ≤ j) (w := w8) (b := w.heap.size + 1 + 1) (i := 1) (.inl rfl) (.slice (some ⟨g6, 0, none⟩) (k + 1) c6))
        have HC9 := Lib.hid (HC5.out.trans hC9)
        have HO9 := Lib.hid (HO5.out.trans (hC9.below HO5.out.size fun j hj => by have hj' : j = w.heap.size + 1 + 1 ∨ w.heap.size + 6 ≤ j := hj; omega))
        have HF9 := Lib.hid hS9
        clear r0 r1 hS8 hS9 hC8 hC9
        gi_wp2_with fail
        exact ⟨HC9.out, _, _, _, HZ'.out.1, HC9.out.two HRES.out (by show ¬ (_ ∨ _); omega), HF9.out, HO9.out⟩
      case rd =>
        have hS7 : (fun W' : World => W'.cell? ⟨w.heap.size, 2, none⟩ = some (.func (.func g2) f2 c2)) (w6.alloc (.cells #[.int .i64 (y k : Int)] 3)) := (World.cell?_alloc_lt w6 _ ⟨w.heap.size, 2, none⟩ (by show w.heap.size < _; omega)).trans hS6
        have hq7 : (w6.alloc (.cells #[.int .i64 (y k : Int)] 3)).cell? ⟨w.heap.size + 1 + 1, 1, none⟩ = some t := (World.cell?_alloc_lt w6 _ ⟨w.heap.size + 1 + 1, 1, none⟩ (by show w.heap.size + 1 + 1 < _; omega)).trans hq6
        refine opH_value (i := 6) (d := 22) (listed' := #[true, false, true, true, true, true, true, false, false, false]) rfl rfl (by rfl) (by kernel_rfl) (v := .slice (some ⟨w6.heap.size, 0, none⟩) 1 1) (w' := (w6.alloc (.cells #[.int .i64 (y k : Int)] 3))) ?hb4 hS7 ?_
        case hb4 =>
          go_simp
          try with_reducible rfl
        simp only [List.setIfInBounds_toArray, List.set_cons_zero, List.set_cons_succ]
        refine hold_value (i := 1) (d := 17) (listed' := #[true, true, true, true, true, true, true, false, false, false]) rfl (by kernel_rfl) rfl (by rfl) (by kernel_rfl) (v := t) (w' := (w6.alloc (.cells #[.int .i64 (y k : Int)] 3))) ?hl4 hS7 ?_
        case hl4 =>
          go_simp
          try with_reducible rfl
        simp only [List.setIfInBounds_toArray, List.set_cons_zero, List.set_cons_succ]
        have hCH : Chg (fun _ => False) w5 (w6.alloc (.cells #[.int .i64 (y k : Int)] 3)) := ((Chg.drew _ w5).trans (Chg.of_below b6 fun j h1 h2 => by have h3 : w5.heap.size ≤ j := h2; have h4 : j < w5.heap.size := h1; omega)).trans (Chg.alloc _ _ _)
        refine hold_append (k := 7) (d := 23) (listed' := #[true, true, true, true, true, true, true, true, false, false]) rfl (by kernel_rfl) rfl (by kernel_rfl) rfl (.tmp 17) (.tmp 22) 24 rfl (w.heap.size + 6) 3 i0 (.int .i64 0) 1 8 Try.underlying24 HI.out HZ0.out HZ1.out HZ2.out rfl (by decide) t k _ (by simp [Act.eval]) (hCH.own HM5.out.ints (fun _ _ h => h)) ⟨w6.heap.size, 0, none⟩ 1 1 [.int .i64 (y k : Int)] (by simp [Act.eval]) rfl (cell_one_new _ _ _) m4.out m1.out m2.out (by simp; omega) ?_
        intro v8 w8 hown8 hgrow8 hat8
        have hb8 := (HM5.out.mid hCH hgrow8 htb.out).2
        have hC8 : Chg (fun j => j = w.heap.size + 1 + 1 ∨ w.heap.size + 6 ≤ j) w5 w8 := (hCH.mono fun _ h => h.elim).trans (Chg.of_grown hgrow8 fun g hg => .inr (htb.out g hg))
        have HZ := HM5.out.more' hCH HYR.out hown8 hgrow8 hat8
        obtain ⟨g6, c6, rfl, _⟩ := HZ.1.ints.val (by omega)
        have hS8 : (fun W' : World => W'.cell? ⟨w.heap.size, 2, none⟩ = some (.func (.func g2) f2 c2)) w8 := (World.cell?_of_block (a := ⟨w.heap.size, 2, none⟩) (hC8.block w.heap.size (by omega) (by show ¬ (_ ∨ _); omega))).trans hS
        have r0 := hb8.c1
        have r1 := hb8.f1
        have HZ' := Lib.hid HZ
        clear hown8 hgrow8 hat8 hb8 HZ
        refine ⟨hS8, ?_⟩
        simp only [List.setIfInBounds_toArray, List.set_cons_zero, List.set_cons_succ]
        refine hold_value (i := 8) (d := 24) (listed' := #[true, true, true, true, true, true, true, true, true, false]) rfl (by kernel_rfl) rfl (by rfl) (by kernel_rfl) (v := .pointer (some ⟨w.heap.size + 1 + 1, 1, none⟩)) (w' := w8) ?h8t4 hS8 ?_
        case h8t4 =>
          go_simp
          try with_reducible rfl
        simp only [List.setIfInBounds_toArray, List.set_cons_zero, List.set_cons_succ]
        have hS9 : (fun W' : World => W'.cell? ⟨w.heap.size, 2, none⟩ = some (.func (.func g2) f2 c2)) (w8.setCell ⟨w.heap.size + 1 + 1, 1, none⟩ (.slice (some ⟨g6, 0, none⟩) (k + 1) c6)) := (World.cell?_setCell_other _ _ _ _ (fun e => by injection e with e1; omega)).trans hS8
        refine hold_store (i := 9) (listed' := #[true, true, true, true, true, true, true, true, true, true]) rfl (by kernel_rfl) rfl (by rfl) (by kernel_rfl) (w' := w8.setCell ⟨w.heap.size + 1 + 1, 1, none⟩ (.slice (some ⟨g6, 0, none⟩) (k + 1) c6)) ?h9t4 hS9 ?_
        case h9t4 =>
          go_simp
          try with_reducible rfl
        refine hold_done (by kernel_rfl) ?_ _
        have hC9 := hC8.trans (Chg.set (S := fun j => j = w.heap.size + 1 + 1 ∨ w.heap.size + 6 ≤ j) (w := w8) (b := w.heap.size + 1 + 1) (i := 1) (.inl rfl) (.slice (some ⟨g6, 0, none⟩) (k + 1) c6))
        have HC9 := Lib.hid (HC5.out.trans hC9)
        have HO9 := Lib.hid (HO5.out.trans (hC9.below HO5.out.size fun j hj => by have hj' : j = w.heap.size + 1 + 1 ∨ w.heap.size + 6 ≤ j := hj; omega))
        have HF9 := Lib.hid hS9
        clear r0 r1 hS8 hS9 hC8 hC9
        gi_wp2_with fail
        exact ⟨HC9.out, _, _, _, HZ'.out.1, HC9.out.two HRES.out (by show ¬ (_ ∨ _); omega), HF9.out, HO9.out⟩
  case done =>
    rintro W ⟨u, t, rv, hM⟩ hD
    clear q0 q3 q4 hM0 X1' X2' bw
    have hL := hM.make.made h1 hN
    obtain ⟨gu, cu, rfl, _⟩ := hL.out.topv (by omega)
    obtain ⟨gt, ct, rfl, _⟩ := hL.ints.val (by omega)
    have q0 := hM.make.box.c0
    have q1 := hM.make.box.c1
    have p0 := hM.res.f0
    have p1 := hM.res.f1
    have p2 := hM.res.c0
    have p3 := hM.res.c1
    have hD' := Lib.hid hD
    have HM := Lib.hid hM
    have HL := Lib.hid hL
    clear hM hL hD
    gi_wp2_with fail
    clear q0 q1 p0 p1 p2 p3
    have hM := HM.out
    have hc : Chg (fun j => j = w.heap.size + 1) W ((W.setCell ⟨w.heap.size + 1, 0, none⟩ (.slice (some ⟨gu, 0, none⟩) N cu)).setCell ⟨w.heap.size + 1, 1, none⟩ (.slice (some ⟨gt, 0, none⟩) N ct)) := (Chg.set (S := fun j => j = w.heap.size + 1) rfl _).trans (Chg.set (S := fun j => j = w.heap.size + 1) rfl _)
    have hfin := (hM.res.set0 (.slice (some ⟨gu, 0, none⟩) N cu)).set1 (.slice (some ⟨gt, 0, none⟩) N ct)
    generalize (W.setCell ⟨w.heap.size + 1, 0, none⟩ (.slice (some ⟨gu, 0, none⟩) N cu)).setCell ⟨w.heap.size + 1, 1, none⟩ (.slice (some ⟨gt, 0, none⟩) N ct) = W2 at hc hfin ⊢
    have hK : W2.heap[W0.heap.size]? = some (.deferred (some [])) := (hc.block _ (Array.getElem?_eq_some_iff.1 hD'.out).1 (by show ¬ (_ = _); omega)).trans hD'.out
    have hc2 : Chg (fun j => j = w.heap.size + 1 ∨ j = W0.heap.size) W (W2.putObj W0.heap.size (.deferred none)) := (hc.mono fun j hj => .inl hj).trans (Chg.put.mono fun j hj => .inr hj)
    refine ⟨by simp, .inl ⟨_, _, rfl, run_takeDeferred hK, ?_⟩⟩
    have hfin2 := (Chg.put (W := W2) (l := W0.heap.size) (o := .deferred none)).two hfin (by show ¬ (_ = _); omega)
    have t0 := hfin2.c0
    have t1 := hfin2.c1
    refine ⟨.agg #[.slice (some ⟨gu, 0, none⟩) N cu, .slice (some ⟨gt, 0, none⟩) N ct], ?_, _, _, rv, rfl, (HL.out.chg hc2 fun j hj => ?_).base (by omega), hM.old.trans (hc2.below hM.old.size fun j hj => ?_)⟩
    · simp [results, Try.f69, go_sem, t0, t1]
    · have hj' : j = w.heap.size + 1 ∨ j = W0.heap.size := hj
      omega
    · have hj' : j = w.heap.size + 1 ∨ j = W0.heap.size := hj
      omega
end Go.Proofs.Ytojcgmgponnlpaa
namespace Go.Proofs.Ytojcgmgponnlpaa
open Go.RowKit Go.Deep

def setsB (x y : Nat) : Bool := decide (x &&& y = x)
def ringB (x y : Nat) : Bool := decide (x = y) || decide (x = 0) || decide (y = 5) || (decide (x = 1) && decide (y = 2)) || (decide (x = 3) && decide (y = 4))
theorem setsB_Z : bitZ setsB = setsZ := by
  funext x y
  unfold bitZ setsB setsZ
  simp
theorem ringB_Z : ∀ x, x < 6 → ∀ y, y < 6 → bitZ ringB x y = ringZ x y := by decide +kernel

theorem sets_bits : ∀ x : Nat, x < 8 → ∀ y : Nat, y < 8 → (bits BinOp.and IntKind.i64 (x : Int) (y : Int) == (x : Int)) = setsB x y := by decide +kernel

set_option maxRecDepth 100000 in
theorem sets_below (w : World) (N : Nat) (hN : N ≤ 8) : Fun2At w 96 #[] #[] N setsB := by
  refine ⟨enters_of Try.func96 (by kernel_rfl) rfl, fun W x y _ hx hy => ?_⟩
  show Calls Try.prog 96 #[.int .i64 (x : Int), .int .i64 (y : Int)] W _
  go_enter Try.func96, Try.ntmps96
  go_wp2_with fail
  go_ret
  exact ⟨ret_bool (sets_bits x (by omega) y (by omega)), Below.refl _ _⟩
set_option maxRecDepth 100000 in
theorem sets_not (w : World) (N Bx : Nat) (hN : N ≤ 8) (hB : Bx < w.heap.size) (hc : w.cell? ⟨Bx, 0, none⟩ = some (.int .i64 (N : Int))) : Fun1At w 97 #[] #[.pointer (some ⟨Bx, 0, none⟩)] N (setsY N) := by
  refine ⟨enters_of Try.func97 (by kernel_rfl) rfl, fun W x hW hx => ?_⟩
  show Calls Try.prog 97 #[.int .i64 (x : Int), .pointer (some ⟨Bx, 0, none⟩)] W _
  have c0 := (hW.cell (p := ⟨Bx, 0, none⟩) hB).trans hc
  go_enter Try.func97, Try.ntmps97
  go_wp2_with fail
  go_ret
  exact ⟨ret_int (by unfold setsY; omega), Below.refl _ _⟩
set_option maxRecDepth 100000 in
theorem ring_below (w : World) (Bx : Nat) (hB : Bx < w.heap.size) (hc : w.cell? ⟨Bx, 0, none⟩ = some (.int .i64 5)) : Fun2At w 98 #[] #[.pointer (some ⟨Bx, 0, none⟩)] 6 ringB := by
  refine ⟨enters_of Try.func98 (by kernel_rfl) rfl, fun W x y hW hx hy => ?_⟩
  show Calls Try.prog 98 #[.int .i64 (x : Int), .int .i64 (y : Int), .pointer (some ⟨Bx, 0, none⟩)] W _
  have c0 := (hW.cell (p := ⟨Bx, 0, none⟩) hB).trans hc
  go_enter Try.func98, Try.ntmps98
  go_wp2_with fail
  all_goals
    go_ret
    exact ⟨ret_bool (by unfold ringB; rw [Bool.eq_iff_iff]; simp; omega), Below.refl _ _⟩
set_option maxRecDepth 100000 in
theorem ring_not (w : World) (Bx : Nat) (hB : Bx < w.heap.size) (hc : w.cell? ⟨Bx, 0, none⟩ = some (.int .i64 5)) : Fun1At w 99 #[] #[.pointer (some ⟨Bx, 0, none⟩)] 6 ringY := by
  refine ⟨enters_of Try.func99 (by kernel_rfl) rfl, fun W x hW hx => ?_⟩
  show Calls Try.prog 99 #[.int .i64 (x : Int), .pointer (some ⟨Bx, 0, none⟩)] W _
  have c0 := (hW.cell (p := ⟨Bx, 0, none⟩) hB).trans hc
  go_enter Try.func99, Try.ntmps99
  go_wp2_with fail
  go_ret
  exact ⟨ret_int (by unfold ringY; omega), Below.refl _ _⟩

def planV (N g1 : Nat) (f1 c1 : Array Value) (g2 : Nat) (f2 c2 : Array Value) : Value := .agg #[.int .i64 (N : Int), .func (.func g1) f1 c1, .func (.func g2) f2 c2]
def noPlan : Value := .agg #[.int .i64 0, .nilFunc, .nilFunc]
/-- What a maker hands back: a plan of so many answers, or none. -/
def Planned (w : World) (N : Nat) (b : Nat → Nat → Bool) (y : Nat → Nat) (ok : Bool) (e : Ending) (w' : World) : Prop :=
  Below w.heap.size w w' ∧ ((ok = false ∧ (e = .returned (.tuple #[noPlan, .bool false]) ∨ ∃ N' g1 f1 c1 g2 f2 c2, e = .returned (.tuple #[planV N' g1 f1 c1 g2 f2 c2, .bool false]))) ∨ (ok = true ∧ ∃ v, e = .returned (.tuple #[v, .bool true]) ∧ Nonempty (PlanAt w' v N b y)))
def setsOkB (t : Int) : Bool := decide (0 ≤ t) && decide (t ≤ 3)

set_option maxRecDepth 100000 in
set_option maxHeartbeats 1000000 in
theorem planSets_any {w : World} {B : Nat} {na : Option Addr} {g o nc : Nat} {t : Int} {pv : Value} (h : RowAt w B na g o 1 (fun _ => t)) (hB : B ≤ w.heap.size) :
    Calls Try.prog 64 #[.slice na 1 nc, pv] w (Planned w (2 ^ t.toNat) setsB (setsY (2 ^ t.toNat)) (setsOkB t)) := by
  obtain ⟨rfl, hg, c0⟩ := h.row 0 (by omega)
  rw [Nat.add_zero] at c0
  have c1 := (World.cell?_alloc_lt w (.cells #[.int .i64 0, .nilFunc, .nilFunc] 96) ⟨g, o, none⟩ (by show g < _; omega)).trans c0
  have B1 := (Below.refl w.heap.size w).alloc (Nat.le_refl _) (.cells #[.int .i64 0, .nilFunc, .nilFunc] 96)
  clear c0 h
  by_cases h0 : t < 0
  · have HF : Hid (setsOkB t = false) := by show _ = _; unfold setsOkB; simp; omega
    go_enter Try.func64, Try.ntmps64
    go_wp2_with fail
    exact bodyPost_ret (v := .tuple #[noPlan, .bool false]) (by simp [results, Try.results64, go_sem, noPlan]) rfl ⟨B1, .inl ⟨HF.out, .inl rfl⟩⟩
  · by_cases h3 : 3 < t
    · have HF : Hid (setsOkB t = false) := by show _ = _; unfold setsOkB; simp; omega
      go_enter Try.func64, Try.ntmps64
      go_wp2_with fail
      exact bodyPost_ret (v := .tuple #[noPlan, .bool false]) (by simp [results, Try.results64, go_sem, noPlan]) rfl ⟨B1, .inl ⟨HF.out, .inl rfl⟩⟩
    · have HF : Hid (setsOkB t = true) := by show _ = _; unfold setsOkB; simp; omega
      have h3' : t ≤ 3 := by omega
      have h0' : 0 ≤ t := by omega
      rcases (show t = 0 ∨ t = 1 ∨ t = 2 ∨ t = 3 by omega) with rfl | rfl | rfl | rfl
      · go_enter Try.func64, Try.ntmps64
        go_wp2_with fail
        refine bodyPost_ret (v := .tuple #[planV (2 ^ 0) 96 #[] #[] 97 #[] #[.pointer (some ⟨w.heap.size + 1, 0, none⟩)], .bool true]) (by simp [results, Try.results64, go_sem, planV]) rfl ⟨?_, .inr ⟨HF.out, _, rfl, ⟨⟨_, _, _, _, _, _, rfl, sets_below _ _ (by omega), sets_not _ _ _ (by omega) (by simp) (by simp)⟩⟩⟩⟩
        exact ((Below.refl w.heap.size w).alloc (Nat.le_refl _) _).alloc (by simp) _
      · go_enter Try.func64, Try.ntmps64
        go_wp2_with fail
        refine bodyPost_ret (v := .tuple #[planV (2 ^ 1) 96 #[] #[] 97 #[] #[.pointer (some ⟨w.heap.size + 1, 0, none⟩)], .bool true]) (by simp [results, Try.results64, go_sem, planV]) rfl ⟨?_, .inr ⟨HF.out, _, rfl, ⟨⟨_, _, _, _, _, _, rfl, sets_below _ _ (by omega), sets_not _ _ _ (by omega) (by simp) (by simp)⟩⟩⟩⟩
        exact ((Below.refl w.heap.size w).alloc (Nat.le_refl _) _).alloc (by simp) _
      · go_enter Try.func64, Try.ntmps64
        go_wp2_with fail
        refine bodyPost_ret (v := .tuple #[planV (2 ^ 2) 96 #[] #[] 97 #[] #[.pointer (some ⟨w.heap.size + 1, 0, none⟩)], .bool true]) (by simp [results, Try.results64, go_sem, planV]) rfl ⟨?_, .inr ⟨HF.out, _, rfl, ⟨⟨_, _, _, _, _, _, rfl, sets_below _ _ (by omega), sets_not _ _ _ (by omega) (by simp) (by simp)⟩⟩⟩⟩
        exact ((Below.refl w.heap.size w).alloc (Nat.le_refl _) _).alloc (by simp) _
      · go_enter Try.func64, Try.ntmps64
        go_wp2_with fail
        refine bodyPost_ret (v := .tuple #[planV (2 ^ 3) 96 #[] #[] 97 #[] #[.pointer (some ⟨w.heap.size + 1, 0, none⟩)], .bool true]) (by simp [results, Try.results64, go_sem, planV]) rfl ⟨?_, .inr ⟨HF.out, _, rfl, ⟨⟨_, _, _, _, _, _, rfl, sets_below _ _ (by omega), sets_not _ _ _ (by omega) (by simp) (by simp)⟩⟩⟩⟩
        exact ((Below.refl w.heap.size w).alloc (Nat.le_refl _) _).alloc (by simp) _

set_option maxRecDepth 100000 in
set_option maxHeartbeats 1000000 in
theorem planRing_any {w : World} {B : Nat} {na : Option Addr} {g o nc : Nat} {t : Int} {pv : Value} (h : RowAt w B na g o 1 (fun _ => t)) (hB : B ≤ w.heap.size) :
    Calls Try.prog 65 #[.slice na 1 nc, pv] w (Planned w 6 ringB ringY (decide (t = 6))) := by
  obtain ⟨rfl, hg, c0⟩ := h.row 0 (by omega)
  rw [Nat.add_zero] at c0
  have c1 := (World.cell?_alloc_lt w (.cells #[.int .i64 0, .nilFunc, .nilFunc] 96) ⟨g, o, none⟩ (by show g < _; omega)).trans c0
  go_enter Try.func65, Try.ntmps65
  go_wp2_with fail
  have c8 : (((w.alloc (.cells #[.int .i64 6, .func (.func 98) #[] #[.pointer (some ⟨w.heap.size + 1, 0, none⟩)], .func (.func 99) #[] #[.pointer (some ⟨w.heap.size + 1, 0, none⟩)]] 96)).alloc (.cells #[.int .i64 5] 3)).drew).cell? ⟨g, o, none⟩ = some (.int .i64 t) := ((World.cell?_alloc_lt _ _ ⟨g, o, none⟩ (by show g < _; simp; omega)).trans (World.cell?_alloc_lt w _ ⟨g, o, none⟩ (by show g < _; omega))).trans c0
  have hS0 : (fun W' : World => W'.cell? ⟨g, o, none⟩ = some (.int .i64 t)) ((w.alloc (.cells #[.int .i64 0, .nilFunc, .nilFunc] 96)).alloc (.cells #[.int .i64 5] 3)).drew := (World.cell?_alloc_lt _ _ ⟨g, o, none⟩ (by show g < _; simp; omega)).trans c1
  refine region_plain (fuel := 9) (listed := #[false, false, false, false, false, false, false, false, false]) (fun W' => W'.cell? ⟨g, o, none⟩ = some (.int .i64 t)) (by kernel_rfl) (by kernel_rfl) (by kernel_rfl) ?_
  refine hold_take (i := 0) (d := 11) (v := ?vp0) (listed' := #[true, false, false, false, false, false, false, false, false]) rfl (by kernel_rfl) (by kernel_rfl) (by kernel_rfl) rfl (by rfl) (by kernel_rfl) hS0 ?hp0 ?rp0
  case hp0 =>
    intro w' hSw
    have k0 : w'.cell? ⟨g, o, none⟩ = some (.int .i64 t) := hSw
    go_simp
    try with_reducible rfl
  simp only [List.setIfInBounds_toArray, List.set_cons_zero, List.set_cons_succ]
  refine hold_take (i := 1) (d := 12) (v := ?vp1) (listed' := #[true, true, false, false, false, false, false, false, false]) rfl (by kernel_rfl) (by kernel_rfl) (by kernel_rfl) rfl (by rfl) (by kernel_rfl) hS0 ?hp1 ?rp1
  case hp1 =>
    intro w' hSw
    have k0 : w'.cell? ⟨g, o, none⟩ = some (.int .i64 t) := hSw
    go_simp
    try with_reducible rfl
  simp only [List.setIfInBounds_toArray, List.set_cons_zero, List.set_cons_succ]
  refine hold_take (i := 2) (d := 13) (v := ?vp2) (listed' := #[true, true, true, false, false, false, false, false, false]) rfl (by kernel_rfl) (by kernel_rfl) (by kernel_rfl) rfl (by rfl) (by kernel_rfl) hS0 ?hp2 ?rp2
  case hp2 =>
    intro w' hSw
    have k0 : w'.cell? ⟨g, o, none⟩ = some (.int .i64 t) := hSw
    go_simp
    try with_reducible rfl
  simp only [List.setIfInBounds_toArray, List.set_cons_zero, List.set_cons_succ]
  refine hold_take (i := 3) (d := 14) (v := ?vp3) (listed' := #[true, true, true, true, false, false, false, false, false]) rfl (by kernel_rfl) (by kernel_rfl) (by kernel_rfl) rfl (by rfl) (by kernel_rfl) hS0 ?hp3 ?rp3
  case hp3 =>
    intro w' hSw
    have k0 : w'.cell? ⟨g, o, none⟩ = some (.int .i64 t) := hSw
    go_simp
    try with_reducible rfl
  simp only [List.setIfInBounds_toArray, List.set_cons_zero, List.set_cons_succ]
  refine hold_take (i := 4) (d := 15) (v := ?vp4) (listed' := #[true, true, true, true, true, false, false, false, false]) rfl (by kernel_rfl) (by kernel_rfl) (by kernel_rfl) rfl (by rfl) (by kernel_rfl) hS0 ?hp4 ?rp4
  case hp4 =>
    intro w' hSw
    have k0 : w'.cell? ⟨g, o, none⟩ = some (.int .i64 t) := hSw
    go_simp
    try with_reducible rfl
  simp only [List.setIfInBounds_toArray, List.set_cons_zero, List.set_cons_succ]
  refine hold_take (i := 5) (d := 16) (v := ?vp5) (listed' := #[true, true, true, true, true, true, false, false, false]) rfl (by kernel_rfl) (by kernel_rfl) (by kernel_rfl) rfl (by rfl) (by kernel_rfl) hS0 ?hp5 ?rp5
  case hp5 =>
    intro w' hSw
    have k0 : w'.cell? ⟨g, o, none⟩ = some (.int .i64 t) := hSw
    go_simp
    try with_reducible rfl
  simp only [List.setIfInBounds_toArray, List.set_cons_zero, List.set_cons_succ]
  refine hold_take (i := 6) (d := 17) (v := ?vp6) (listed' := #[true, true, true, true, true, true, true, false, false]) rfl (by kernel_rfl) (by kernel_rfl) (by kernel_rfl) rfl (by rfl) (by kernel_rfl) hS0 ?hp6 ?rp6
  case hp6 =>
    intro w' hSw
    have k0 : w'.cell? ⟨g, o, none⟩ = some (.int .i64 t) := hSw
    go_simp
    try with_reducible rfl
  simp only [List.setIfInBounds_toArray, List.set_cons_zero, List.set_cons_succ]
  refine hold_store (i := 7) (w' := ?w7) (listed' := #[true, true, true, true, true, true, true, true, false]) rfl (by kernel_rfl) rfl (by rfl) (by kernel_rfl) ?hs7 ?hS7 ?hk7
  case hs7 =>
    go_simp
    rfl
  case hS7 => exact c8
  have hS8 : (fun W' : World => W'.cell? ⟨g, o, none⟩ = some (.int .i64 t)) ((w.alloc (.cells #[.int .i64 6, .func (.func 98) #[] #[.pointer (some ⟨w.heap.size + 1, 0, none⟩)], .func (.func 99) #[] #[.pointer (some ⟨w.heap.size + 1, 0, none⟩)]] 96)).alloc (.cells #[.int .i64 5] 3)).drew := c8
  refine hold_take (i := 8) (d := 5) (v := ?vq8) (listed' := #[true, true, true, true, true, true, true, true, true]) rfl (by kernel_rfl) (by kernel_rfl) (by kernel_rfl) rfl (by rfl) (by kernel_rfl) hS8 ?hq8 ?rq8
  case hq8 =>
    intro w' hSw
    have k0 : w'.cell? ⟨g, o, none⟩ = some (.int .i64 t) := hSw
    go_simp
    try with_reducible rfl
  simp only [List.setIfInBounds_toArray, List.set_cons_zero, List.set_cons_succ]
  refine hold_done (by kernel_rfl) ?_ _
  have HC := Lib.hid (by assumption : ∀ (a : Act) (w_1 : World), Code.wp Try.prog Code.ret (bodyPost Try.prog Try.f65 (Planned w 6 ringB ringY (decide (t = 6)))) a w_1 → _)
  clear c0 c1 hS0 hS8 c8
  go_wp2_with fail
  clear HC
  have hB2 := (((Below.refl w.heap.size w).alloc (Nat.le_refl _) (.cells #[.int .i64 6, .func (.func 98) #[] #[.pointer (some ⟨w.heap.size + 1, 0, none⟩)], .func (.func 99) #[] #[.pointer (some ⟨w.heap.size + 1, 0, none⟩)]] 96)).alloc (by simp) (.cells #[.int .i64 5] 3)).drew
  refine bodyPost_ret (v := .tuple #[planV 6 98 #[] #[.pointer (some ⟨w.heap.size + 1, 0, none⟩)] 99 #[] #[.pointer (some ⟨w.heap.size + 1, 0, none⟩)], .bool (t == 6)]) (by simp [results, Try.results65, go_sem, planV]) rfl ⟨hB2, ?_⟩
  by_cases e : t = 6
  · have e6 : (t == 6) = true := by simp [e]
    rw [e6]
    exact .inr ⟨by simp [e], _, rfl, ⟨⟨_, _, _, _, _, _, rfl, ring_below _ (w.heap.size + 1) (by simp) (by simp), ring_not _ (w.heap.size + 1) (by simp) (by simp)⟩⟩⟩
  · have e6 : (t == 6) = false := by simp [e]
    rw [e6]
    exact .inl ⟨by simp [e], .inr ⟨_, _, _, _, _, _, _, rfl⟩⟩
end Go.Proofs.Ytojcgmgponnlpaa
