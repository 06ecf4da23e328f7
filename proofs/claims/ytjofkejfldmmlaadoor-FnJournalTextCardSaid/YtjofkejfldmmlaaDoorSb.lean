/- A range over a function where the function is itself a loop over functions that hand on to the same yield: what a round may turn is told by 'own' (the blocks that are the caller's), what comes by one list. -/
import Derived.Test.YtjofkejfldmmlaaDoorFa
import Derived.RangeFuncNested
import Derived.RangeFuncLeaves
namespace Go.Proofs.YtjofkejfldmmlaaDoor
open Go.RowKit Go.Deep Go.Shelf

/-- Cells of blocks that are not the caller's lie as they lay, and are not the caller's behind it. -/
structure KeepO (own : World → Nat → Prop) (W W' : World) : Prop where
  size : W.heap.size ≤ W'.heap.size
  same : ∀ (p : Addr) (v : Value), W.cell? p = some v → ¬ own W p.block → W'.cell? p = some v ∧ ¬ own W' p.block
theorem KeepO.refl (own : World → Nat → Prop) (W : World) : KeepO own W W := ⟨Nat.le_refl _, fun _ _ h h' => ⟨h, h'⟩⟩
theorem KeepO.trans {own : World → Nat → Prop} {A B C : World} (h : KeepO own A B) (k : KeepO own B C) : KeepO own A C :=
  ⟨Nat.le_trans h.size k.size, fun p v e e' => let ⟨g, g'⟩ := h.same p v e e'; k.same p v g g'⟩
/-- Which blocks are the caller's hangs on nothing that an iterator turns. -/
structure Ow (own : World → Nat → Prop) (B : Nat) : Prop where
  step : ∀ (W W' : World) (row : Option Nat), B ≤ W.heap.size → W.grownBy W' row → (∀ r, row = some r → B ≤ r ∧ ∃ o : Obj, W.heap[r]? = some o ∧ o.isCells = false) → ∀ k, own W' k → own W k
theorem Ow.up {own : World → Nat → Prop} {B B' : Nat} (h : Ow own B) (hB : B ≤ B') : Ow own B' :=
  ⟨fun W W' row hs hg hr k => h.step W W' row (Nat.le_trans hB hs) hg (fun r e => ⟨Nat.le_trans hB (hr r e).1, (hr r e).2⟩) k⟩
theorem Ow.grown {own : World → Nat → Prop} {B : Nat} (h : Ow own B) {W W' : World} {row : Option Nat} (hB : B ≤ W.heap.size) (hg : W.grownBy W' row) (hr : ∀ r, row = some r → B ≤ r ∧ ∃ o : Obj, W.heap[r]? = some o ∧ o.isCells = false) : KeepO own W W' :=
  ⟨hg.size, fun _ _ e e' => ⟨cell_kept e hg (fun r er => (hr r er).2), fun g => e' (h.step W W' row hB hg hr _ g)⟩⟩
theorem Ow.put {own : World → Nat → Prop} {B : Nat} (h : Ow own B) {W : World} {l : Nat} {o : Obj} (o' : Obj) (hB : B ≤ W.heap.size) (hl : B ≤ l) (hx : W.heap[l]? = some o) (ho : o.isCells = false) : KeepO own W (W.putObj l o') :=
  h.grown hB (grownBy_putObj' W l o') (fun r e => by cases e; exact ⟨hl, o, hx, ho⟩)
theorem grown_below {W W' : World} (h : Below W.heap.size W W') : W.grownBy W' none := ⟨h.os, h.tape, h.output, h.size, fun k hk _ => h.block k hk⟩
theorem Ow.below {own : World → Nat → Prop} {B : Nat} (h : Ow own B) {W W' : World} (hB : B ≤ W.heap.size) (hb : Below W.heap.size W W') : KeepO own W W' :=
  h.grown hB (grown_below hb) (fun r e => by cases e)
theorem OwnFrom.up {β : Type} {B B' : Nat} {I : β → World → Prop} (h : OwnFrom B I) (hB : B ≤ B') : OwnFrom B' I :=
  fun s W W' row hs hg hr => h s W W' row hs hg (fun r e => ⟨Nat.le_trans hB (hr r e).1, (hr r e).2⟩)
theorem OwnFrom.below {β : Type} {B : Nat} {I : β → World → Prop} (h : OwnFrom B I) {s : β} {W W' : World} (hs : I s W) (hb : Below W.heap.size W W') : I s W' :=
  h s W W' none hs (grown_below hb) (fun r e => by cases e)
/-- 'So much was kept since W0' is the caller's own. -/
theorem ownFrom_keepO {β : Type} {own : World → Nat → Prop} {B : Nat} (h : Ow own B) {W0 : World} (hB : B ≤ W0.heap.size) : OwnFrom B (fun (_ : β) W => KeepO own W0 W) :=
  fun _ _ _ _ hs hg hr => hs.trans (h.grown (Nat.le_trans hB hs.size) hg hr)

/-- One round's word: it has been handed the next of L; it goes on, or says 'no more'. -/
def Rounds (own : World → Nat → Prop) (B l : Nat) (J Jx : List Nat → World → Prop) (L : List Nat) : Prop :=
  ∀ (m : Nat) (pre : List Nat) (x : Nat) (W1 : World), J pre W1 → pre ++ [x] <+: L →
    YieldAt Fence.wide m Tryd.prog l #[.int .i64 ((x : Nat) : Int)] W1 fun e W' =>
      (e = .returned (.bool true) ∧ J (pre ++ [x]) W' ∧ KeepO own W1 W' ∧ KeepsFrom B W1 W') ∨ (e = .returned (.bool false) ∧ Jx (pre ++ [x]) W' ∧ KeepsFrom B W1 W')
/-- The function value yields just L, in this order. -/
def SeqL (own : World → Nat → Prop) (g : Nat) (lb : Array Value) (L : List Nat) (w : World) : Prop :=
  ∀ (m l : Nat) (J Jx : List Nat → World → Prop) (W : World), Below w.heap.size w W → OwnFrom W.heap.size J → OwnFrom W.heap.size Jx →
    (∀ pre W1 k, J pre W1 → own W1 k → k < W1.heap.size) → Rounds own W.heap.size l J Jx L → J [] W →
    CallsIn Fence.wide m Tryd.prog g (#[.func (.yield l) #[] #[]] ++ lb) W fun e W' => (∃ v, e = .returned v) ∧ (J L W' ∨ ∃ pre, Jx pre W')

/-- How the body of a round may be left. -/
def postL (own : World → Nat → Prop) (B : Nat) (I : List Nat → World → Prop) (Ix : Code → List Nat → World → Prop) (xs : List Nat) (W : World) : Exit → Act → World → Prop
  | .normal, _, W' => KeepsFrom B W W' ∧ KeepO own W W' ∧ I xs W'
  | .ret, _, W' => KeepsFrom B W W' ∧ Ix .ret xs W'
  | .exit id, _, W' => KeepsFrom B W W' ∧ Ix (.exit id) xs W'
  | .goto t, _, W' => KeepsFrom B W W' ∧ Ix (.goto t) xs W'
  | .panic _, _, _ => False
  | .outgrown, _, _ => False

abbrev markD (D : Nat) : Deferred := { target := .collected D, args := #[] }

set_option maxHeartbeats 1000000 in
theorem wpIn_rangeL {g : Operand} {ps : Array Tmp} {assign body : Code} {Q : Exit → Act → World → Prop} {a : Act} {w : World} {n : Nat} {own : World → Nat → Prop} {L : List Nat}
    {gf : Nat} {lb : Array Value} (hg : a.eval g = .func (.func gf) #[] lb) (eg : ∀ args w, (callFunc gf args).run Tryd.prog w = .ok (.enter gf args) w)
    (how : Ow own w.heap.size) (hseq : SeqL own gf lb L w) (hps : ps.size = 1)
    (I : List Nat → World → Prop) (Ix : Code → List Nat → World → Prop) (hI : OwnFrom w.heap.size I) (hIx : ∀ c, OwnFrom w.heap.size (Ix c)) (hlt : ∀ pre W k, I pre W → own W k → k < W.heap.size) (h0 : I [] w) (a₁ : Nat → Act)
    (hassign : ∀ (m l x : Nat) (W : World) (K : Act → World → Prop), K (a₁ x) W →
      assign.wpIn (Fence.wide.inRound l) m Tryd.prog (Exit.then K (fun _ _ _ => False)) { tmps := (ps.zip #[.int .i64 ((x : Nat) : Int)]).foldl (fun t (p, v) => t.setIfInBounds p v) a.tmps, defers := [] } W)
    (hbody : ∀ (m l : Nat) (pre : List Nat) (x : Nat) (W : World), w.heap.size ≤ l → I pre W → pre ++ [x] <+: L → body.wpIn (Fence.wide.inRound l) m Tryd.prog (postL own w.heap.size I Ix (pre ++ [x]) W) (a₁ x) W)
    (hdone : ∀ (D : Nat) (W : World), w.heap.size ≤ D → I L W → W.heap[D]? = some (.deferred (some [])) → Q .normal { a with defers := markD D :: a.defers } W)
    (hstop : ∀ (D : Nat) (c : Code) (pre : List Nat) (W : World), w.heap.size ≤ D → Ix c pre W → W.heap[D]? = some (.deferred (some [])) → c.wpIn Fence.wide n Tryd.prog Q { a with defers := markD D :: a.defers } W) :
    (Code.rangeFunc g ps assign body).wpIn Fence.wide n Tryd.prog Q a w := by
  refine wpIn_rangeFunc fun fn hfn => ?_
  obtain ⟨rc, hrc⟩ : ∃ rc : LoopState → Option Code → Loop, rc = fun st pe => { state := st, pending := pe, fn, tmps := a.tmps, params := ps, assign, body, defers := w.heap.size } := ⟨_, rfl⟩
  obtain ⟨V, hV⟩ : ∃ V, (w.alloc (.deferred (some []))).alloc (.loop (rc .ready none)) = V := ⟨_, rfl⟩
  have bV : Below w.heap.size w V := by
    rw [← hV]
    exact ((Below.refl _ w).alloc (Nat.le_refl _) _).alloc (by simp) _
  have sV : V.heap.size = w.heap.size + 2 := by rw [← hV]; simp
  have lV : V.heap[w.heap.size + 1]? = some (.loop (rc .ready none)) := by
    have e := World.alloc_heap_new (w.alloc (.deferred (some []))) (.loop (rc .ready none))
    rw [World.size_alloc, hV] at e
    exact e
  have dV : V.heap[w.heap.size]? = some (.deferred (some [])) := by
    rw [← hV]
    exact (Below.heap_alloc _ _ _ (by simp)).trans (World.alloc_heap_new w _)
  have iV : I [] V := OwnFrom.below hI h0 bV
  refine ⟨w.heap.size + 1, [markD w.heap.size], V, { target := .fn (.func gf) lb, args := #[.func (.yield (w.heap.size + 1)) #[] #[]] }, V, gf, #[.func (.yield (w.heap.size + 1)) #[] #[]] ++ lb, V, ?_, ?_, ?_, ?_, ?_, ?_⟩
  · rw [← hV, hrc]; exact run_enterLoop_outer _ _ _ _ _
  · simp only [resolve, hg]
    simp [go_sem]
  · intro f' _; trivial
  · simp [invoke, go_sem, eg]
  · intro h; cases h
  -- rows at or behind V leave both blocks of book-keeping as they lie
  have low : ∀ {A C : World} {row : Option Nat}, (∀ r, row = some r → V.heap.size ≤ r ∧ ∃ o : Obj, A.heap[r]? = some o ∧ o.isCells = false) → (∀ r, row = some r → w.heap.size ≤ r ∧ ∃ o : Obj, A.heap[r]? = some o ∧ o.isCells = false) :=
    fun hr r e => ⟨by have := (hr r e).1; omega, (hr r e).2⟩
  have two : ∀ {A C : World} {row : Option Nat} {k : Nat} {o : Obj}, A.grownBy C row → (∀ r, row = some r → V.heap.size ≤ r ∧ ∃ o : Obj, A.heap[r]? = some o ∧ o.isCells = false) → k < V.heap.size → A.heap[k]? = some o → C.heap[k]? = some o :=
    fun hg hr hk ho => (hg.block _ (Array.getElem?_eq_some_iff.1 ho).1 (fun e => by have := (hr _ e.symm).1; omega)).trans ho
  refine (hseq (n - 1) (w.heap.size + 1)
    (fun pre W => I pre W ∧ W.heap[w.heap.size + 1]? = some (.loop (rc .ready none)) ∧ W.heap[w.heap.size]? = some (.deferred (some [])))
    (fun pre W => ∃ c, Ix c pre W ∧ W.heap[w.heap.size + 1]? = some (.loop (rc .done (some c))) ∧ W.heap[w.heap.size]? = some (.deferred (some [])))
    V bV
    (fun s A C row hs hgr hr => ⟨hI s A C row hs.1 hgr (low (C := C) hr), two hgr hr (by omega) hs.2.1, two hgr hr (by omega) hs.2.2⟩)
    (fun s A C row hs hgr hr => by
      obtain ⟨c, h1, h2, h3⟩ := hs
      exact ⟨c, hIx c s A C row h1 hgr (low (C := C) hr), two hgr hr (by omega) h2, two hgr hr (by omega) h3⟩)
    (fun pre W1 k h => hlt pre W1 k h.1) ?_ ⟨iV, lV, dV⟩).mono ?_
  · -- a round
    rintro m pre x W ⟨hi, hl, hd⟩ hpre
    have hsz : w.heap.size + 1 < W.heap.size := (Array.getElem?_eq_some_iff.1 hl).1
    have hy := run_yield (P := Tryd.prog) (args := #[.int .i64 ((x : Nat) : Int)]) hl (by rw [hrc]; exact hps.symm)
    rw [hrc] at hy
    refine ⟨fn, _, assign, body, hy, roundIn_of_wpIn hfn (hassign _ _ x W _ ?_)⟩
    clear hy
    refine ⟨_, run_beginRound hl (by rw [hrc]), ?_⟩
    have hl2 : (W.putObj (w.heap.size + 1) (.loop { rc .ready none with state := .busy })).heap[w.heap.size + 1]? = some (.loop { rc .ready none with state := .busy }) := World.putObj_heap_same hsz
    have hd2 : (W.putObj (w.heap.size + 1) (.loop { rc .ready none with state := .busy })).heap[w.heap.size]? = some (.deferred (some [])) := (World.putObj_heap_other (by omega)).trans hd
    have hk2 : KeepO own W (W.putObj (w.heap.size + 1) (.loop { rc .ready none with state := .busy })) := how.put _ (by omega) (by omega) hl rfl
    have hf2 : KeepsFrom V.heap.size W (W.putObj (w.heap.size + 1) (.loop { rc .ready none with state := .busy })) :=
      KeepsFrom.of_grownBy (grownBy_putObj' _ _ _) (fun j e => by cases e; omega)
    refine wpIn_mono (hbody _ _ pre x _ (by omega) (hI.putObj _ hi (by omega) hl rfl) hpre) ?_
    have fin : ∀ (jump : Option Code) (W3 : World), KeepsFrom w.heap.size (W.putObj (w.heap.size + 1) (.loop { rc .ready none with state := .busy })) W3 →
        (Instr.endRound (w.heap.size + 1) jump).run Tryd.prog W3 = .ok (.bool jump.isNone) (W3.putObj (w.heap.size + 1) (.loop (rc (if jump.isNone then .ready else .done) jump))) ∧
        W3.heap[w.heap.size + 1]? = some (.loop { rc .ready none with state := .busy }) ∧
        (W3.putObj (w.heap.size + 1) (.loop (rc (if jump.isNone then .ready else .done) jump))).heap[w.heap.size + 1]? = some (.loop (rc (if jump.isNone then .ready else .done) jump)) ∧
        (W3.putObj (w.heap.size + 1) (.loop (rc (if jump.isNone then .ready else .done) jump))).heap[w.heap.size]? = some (.deferred (some [])) ∧
        KeepsFrom V.heap.size W (W3.putObj (w.heap.size + 1) (.loop (rc (if jump.isNone then .ready else .done) jump))) := fun jump W3 h3 => by
      have l3 := h3.same _ _ (by omega) hl2 rfl
      have r5 : KeepsFrom V.heap.size W (W3.putObj (w.heap.size + 1) (.loop (rc (if jump.isNone then .ready else .done) jump))) :=
        (hf2.trans ⟨h3.size, fun k o hk ho hc => h3.same k o (by omega) ho hc⟩).trans (KeepsFrom.of_grownBy (grownBy_putObj' _ _ _) (fun j e => by cases e; omega))
      have e := run_endRound (P := Tryd.prog) jump l3
      refine ⟨?_, l3, World.putObj_heap_same (Array.getElem?_eq_some_iff.1 l3).1, (World.putObj_heap_other (by omega)).trans (h3.same _ _ (Nat.le_refl _) hd2 rfl), r5⟩
      rw [hrc] at e ⊢
      exact e
    rintro e a3 W3 hp
    cases e with
    | normal =>
      obtain ⟨p1, p2, p3⟩ := hp
      obtain ⟨r1, r2, r3, r4, r5⟩ := fin none W3 p1
      exact ⟨_, _, r1, .inl ⟨rfl, ⟨hI.putObj _ p3 (by omega) r2 rfl, r3, r4⟩, (hk2.trans p2).trans (how.put _ (by have := p1.size; simp at this; omega) (by omega) r2 rfl), r5⟩⟩
    | ret =>
      obtain ⟨p1, p3⟩ := hp
      obtain ⟨r1, r2, r3, r4, r5⟩ := fin (some .ret) W3 p1
      exact ⟨_, _, r1, .inr ⟨rfl, ⟨.ret, (hIx _).putObj _ p3 (by omega) r2 rfl, r3, r4⟩, r5⟩⟩
    | exit id =>
      obtain ⟨p1, p3⟩ := hp
      obtain ⟨r1, r2, r3, r4, r5⟩ := fin (some (.exit id)) W3 p1
      exact ⟨_, _, r1, .inr ⟨rfl, ⟨.exit id, (hIx _).putObj _ p3 (by omega) r2 rfl, r3, r4⟩, r5⟩⟩
    | goto t =>
      obtain ⟨p1, p3⟩ := hp
      obtain ⟨r1, r2, r3, r4, r5⟩ := fin (some (.goto t)) W3 p1
      exact ⟨_, _, r1, .inr ⟨rfl, ⟨.goto t, (hIx _).putObj _ p3 (by omega) r2 rfl, r3, r4⟩, r5⟩⟩
    | panic ch => exact hp.elim
    | outgrown => exact hp.elim
  · -- behind the iterator
    rintro e W2 ⟨⟨v, rfl⟩, (⟨hi, hl, hd⟩ | ⟨pre, c, hi, hl, hd⟩)⟩
    · refine ⟨none, _, by have e := run_endLoop (P := Tryd.prog) hl (by rw [hrc]; simp); rw [hrc] at e; exact e, hdone _ _ (Nat.le_refl _) (hI.putObj _ hi (by omega) hl rfl) ((World.putObj_heap_other (by omega)).trans hd)⟩
    · refine ⟨some c, _, by have e := run_endLoop (P := Tryd.prog) hl (by rw [hrc]; simp); rw [hrc] at e; exact e, hstop _ c pre _ (Nat.le_refl _) ((hIx c).putObj _ hi (by omega) hl rfl) ((World.putObj_heap_other (by omega)).trans hd)⟩
end Go.Proofs.YtjofkejfldmmlaaDoor
