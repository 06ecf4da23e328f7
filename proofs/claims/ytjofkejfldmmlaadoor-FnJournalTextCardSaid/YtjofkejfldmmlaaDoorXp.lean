/- A range over a function whose iterator stores into its own captured box: what is left of a text is told by the text. -/
import Derived.Test.YtjofkejfldmmlaaDoorSb
namespace Go.Proofs.YtjofkejfldmmlaaDoor
open Go.RowKit Go.Deep Go.Shelf

/-- Stores into the iterator's own box turn nothing that is said. -/
def Free (Bs : Nat) (I : List UInt8 → World → Prop) : Prop := ∀ s W x, I s W → I s (W.setCell ⟨Bs, 0, none⟩ x)
/-- One round's word: it has been handed the text that T tells of what is left; it goes on with the rest, or says 'no more'. -/
def RoundsS (Bs B l : Nat) (T : List UInt8 → List UInt8 × List UInt8) (J Jx : List UInt8 → World → Prop) : Prop :=
  ∀ (m : Nat) (r : List UInt8) (x : ByteArray) (W1 : World), J r W1 → r ≠ [] → x.data.toList = (T r).1 →
    YieldAt Fence.wide m Tryd.prog l #[.string x] W1 fun e W' =>
      (e = .returned (.bool true) ∧ J (T r).2 W' ∧ W'.heap[Bs]? = W1.heap[Bs]? ∧ KeepsFrom B W1 W') ∨ (e = .returned (.bool false) ∧ Jx r W' ∧ KeepsFrom B W1 W')
/-- The function value yields the texts that T tells, until nothing is left. -/
def SeqS (Bs g : Nat) (lb : Array Value) (T : List UInt8 → List UInt8 × List UInt8) (s : List UInt8) (w : World) : Prop :=
  ∀ (m l : Nat) (J Jx : List UInt8 → World → Prop) (W : World), Below w.heap.size w W → OwnFrom W.heap.size J → OwnFrom W.heap.size Jx → Free Bs J →
    RoundsS Bs W.heap.size l T J Jx → J s W →
    CallsIn Fence.wide m Tryd.prog g (#[.func (.yield l) #[] #[]] ++ lb) W fun e W' => (∃ v, e = .returned v) ∧ (J [] W' ∨ ∃ r, Jx r W')

/-- A region that draws its order, ahead of any round. -/
theorem region_flatS {n id fuel : Nat} {P : Program} {ops : Array Oper} {listed : Array Bool} {Q : Exit → Act → World → Prop} {a : Act} {w : World} (S : World → Prop) (hm : P.follows .mixedOrders = true) (hf : ops.size = fuel) (hl : Array.replicate ops.size false = listed)
    (h : wpAnyH P .any ops (fun e a w => e = .normal ∧ Q .normal a w) S fuel listed a w.drew) : (Code.region id ops true).wpIn Fence.wide n P Q a w := wpIn_wide.2 (region_plain S hm hf hl h)
/-- How the body of a round may be left. -/
def postS (Bs B : Nat) (I : List UInt8 → World → Prop) (Ix : Code → List UInt8 → World → Prop) (r q : List UInt8) (W : World) : Exit → Act → World → Prop
  | .normal, _, W' => KeepsFrom B W W' ∧ W'.heap[Bs]? = W.heap[Bs]? ∧ I q W'
  | .ret, _, W' => KeepsFrom B W W' ∧ Ix .ret r W'
  | .exit id, _, W' => KeepsFrom B W W' ∧ Ix (.exit id) r W'
  | .goto t, _, W' => KeepsFrom B W W' ∧ Ix (.goto t) r W'
  | .panic _, _, _ => False
  | .outgrown, _, _ => False

set_option maxHeartbeats 1000000 in
theorem wpIn_rangeS {g : Operand} {ps : Array Tmp} {assign body : Code} {Q : Exit → Act → World → Prop} {a : Act} {w : World} {n : Nat} {Bs : Nat} {T : List UInt8 → List UInt8 × List UInt8} {s0 : List UInt8}
    {gf : Nat} {lb : Array Value} (hg : a.eval g = .func (.func gf) #[] lb) (eg : ∀ args w, (callFunc gf args).run Tryd.prog w = .ok (.enter gf args) w)
    (hbs : Bs < w.heap.size) (hseq : SeqS Bs gf lb T s0 w) (hps : ps.size = 1)
    (I : List UInt8 → World → Prop) (Ix : Code → List UInt8 → World → Prop) (hI : OwnFrom w.heap.size I) (hIx : ∀ c, OwnFrom w.heap.size (Ix c)) (hfr : Free Bs I) (h0 : I s0 w) (a₁ : ByteArray → Act)
    (hassign : ∀ (m l : Nat) (x : ByteArray) (W : World) (K : Act → World → Prop), K (a₁ x) W →
      assign.wpIn (Fence.wide.inRound l) m Tryd.prog (Exit.then K (fun _ _ _ => False)) { tmps := (ps.zip #[.string x]).foldl (fun t (p, v) => t.setIfInBounds p v) a.tmps, defers := [] } W)
    (hbody : ∀ (m l : Nat) (r : List UInt8) (x : ByteArray) (W : World), w.heap.size ≤ l → I r W → r ≠ [] → x.data.toList = (T r).1 → body.wpIn (Fence.wide.inRound l) m Tryd.prog (postS Bs w.heap.size I Ix r (T r).2 W) (a₁ x) W)
    (hdone : ∀ (D : Nat) (W : World), w.heap.size ≤ D → I [] W → W.heap[D]? = some (.deferred (some [])) → Q .normal { a with defers := markD D :: a.defers } W)
    (hstop : ∀ (D : Nat) (c : Code) (r : List UInt8) (W : World), w.heap.size ≤ D → Ix c r W → W.heap[D]? = some (.deferred (some [])) → c.wpIn Fence.wide n Tryd.prog Q { a with defers := markD D :: a.defers } W) :
    (Code.rangeFunc g ps assign body).wpIn Fence.wide n Tryd.prog Q a w := by
  refine wpIn_rangeFunc fun fn hfn => ?_
  obtain ⟨rc, hrc⟩ : ∃ rc : LoopState → Option Code → Loop, rc = fun st pe => { state := st, pending := pe, fn, tmps := a.tmps, params := ps, assign, body, defers := w.heap.size } := ⟨_, rfl⟩
  obtain ⟨V, hV⟩ : ∃ V, (w.alloc (.deferred (some []))).alloc (.loop (rc .ready none)) = V := ⟨_, rfl⟩
  have bV : Below w.heap.size w V := by
    rw [← hV]
    exact ((Below.refl _ w).alloc (Nat.le_refl _) _).alloc (by simp) _
  have sV : V.heap.size = w.heap.size + 2 := by rw [← hV]; simp
  have lV : V.heap[w.heap.size + 1]? = some (.loop (rc .ready none)) := by
    have e := World.alloc_heap_new (w.alloc (.deferred (some []))) (.loop (rc .ready none))
    rw [World.size_alloc, hV] at e
    exact e
  have dV : V.heap[w.heap.size]? = some (.deferred (some [])) := by
    rw [← hV]
    exact (Below.heap_alloc _ _ _ (by simp)).trans (World.alloc_heap_new w _)
  have iV : I s0 V := OwnFrom.below hI h0 bV
  refine ⟨w.heap.size + 1, [markD w.heap.size], V, { target := .fn (.func gf) lb, args := #[.func (.yield (w.heap.size + 1)) #[] #[]] }, V, gf, #[.func (.yield (w.heap.size + 1)) #[] #[]] ++ lb, V, ?_, ?_, ?_, ?_, ?_, ?_⟩
  · rw [← hV, hrc]; exact run_enterLoop_outer _ _ _ _ _
  · simp only [resolve, hg]
    simp [go_sem]
  · intro f' _; trivial
  · simp [invoke, go_sem, eg]
  · intro h; cases h
  -- rows at or behind V leave both blocks of book-keeping as they lie
  have low : ∀ {A C : World} {row : Option Nat}, (∀ r, row = some r → V.heap.size ≤ r ∧ ∃ o : Obj, A.heap[r]? = some o ∧ o.isCells = false) → (∀ r, row = some r → w.heap.size ≤ r ∧ ∃ o : Obj, A.heap[r]? = some o ∧ o.isCells = false) :=
    fun hr r e => ⟨by have := (hr r e).1; omega, (hr r e).2⟩
  have two : ∀ {A C : World} {row : Option Nat} {k : Nat} {o : Obj}, A.grownBy C row → (∀ r, row = some r → V.heap.size ≤ r ∧ ∃ o : Obj, A.heap[r]? = some o ∧ o.isCells = false) → k < V.heap.size → A.heap[k]? = some o → C.heap[k]? = some o :=
    fun hg hr hk ho => (hg.block _ (Array.getElem?_eq_some_iff.1 ho).1 (fun e => by have := (hr _ e.symm).1; omega)).trans ho
  have far : ∀ (W : World) (k : Nat) (x : Value), k ≠ Bs → (W.setCell ⟨Bs, 0, none⟩ x).heap[k]? = W.heap[k]? := fun W k x hk => Below.heap_setCell _ _ _ k hk
  refine (hseq (n - 1) (w.heap.size + 1)
    (fun r W => I r W ∧ W.heap[w.heap.size + 1]? = some (.loop (rc .ready none)) ∧ W.heap[w.heap.size]? = some (.deferred (some [])))
    (fun r W => ∃ c, Ix c r W ∧ W.heap[w.heap.size + 1]? = some (.loop (rc .done (some c))) ∧ W.heap[w.heap.size]? = some (.deferred (some [])))
    V bV
    (fun s A C row hs hgr hr => ⟨hI s A C row hs.1 hgr (low (C := C) hr), two hgr hr (by omega) hs.2.1, two hgr hr (by omega) hs.2.2⟩)
    (fun s A C row hs hgr hr => by
      obtain ⟨c, h1, h2, h3⟩ := hs
      exact ⟨c, hIx c s A C row h1 hgr (low (C := C) hr), two hgr hr (by omega) h2, two hgr hr (by omega) h3⟩)
    (fun s W x hs => ⟨hfr s W x hs.1, (far W _ x (by omega)).trans hs.2.1, (far W _ x (by omega)).trans hs.2.2⟩) ?_ ⟨iV, lV, dV⟩).mono ?_
  · -- a round
    rintro m r x W ⟨hi, hl, hd⟩ hne hx
    have hsz : w.heap.size + 1 < W.heap.size := (Array.getElem?_eq_some_iff.1 hl).1
    have hy := run_yield (P := Tryd.prog) (args := #[.string x]) hl (by rw [hrc]; exact hps.symm)
    rw [hrc] at hy
    refine ⟨fn, _, assign, body, hy, roundIn_of_wpIn hfn (hassign _ _ x W _ ?_)⟩
    clear hy
    refine ⟨_, run_beginRound hl (by rw [hrc]), ?_⟩
    have hl2 : (W.putObj (w.heap.size + 1) (.loop { rc .ready none with state := .busy })).heap[w.heap.size + 1]? = some (.loop { rc .ready none with state := .busy }) := World.putObj_heap_same hsz
    have hd2 : (W.putObj (w.heap.size + 1) (.loop { rc .ready none with state := .busy })).heap[w.heap.size]? = some (.deferred (some [])) := (World.putObj_heap_other (by omega)).trans hd
    have hk2 : (W.putObj (w.heap.size + 1) (.loop { rc .ready none with state := .busy })).heap[Bs]? = W.heap[Bs]? := World.putObj_heap_other (by omega)
    have hf2 : KeepsFrom V.heap.size W (W.putObj (w.heap.size + 1) (.loop { rc .ready none with state := .busy })) :=
      KeepsFrom.of_grownBy (grownBy_putObj' _ _ _) (fun j e => by cases e; omega)
    refine wpIn_mono (hbody _ _ r x _ (by omega) (hI.putObj _ hi (by omega) hl rfl) hne hx) ?_
    have fin : ∀ (jump : Option Code) (W3 : World), KeepsFrom w.heap.size (W.putObj (w.heap.size + 1) (.loop { rc .ready none with state := .busy })) W3 →
        (Instr.endRound (w.heap.size + 1) jump).run Tryd.prog W3 = .ok (.bool jump.isNone) (W3.putObj (w.heap.size + 1) (.loop (rc (if jump.isNone then .ready else .done) jump))) ∧
        W3.heap[w.heap.size + 1]? = some (.loop { rc .ready none with state := .busy }) ∧
        (W3.putObj (w.heap.size + 1) (.loop (rc (if jump.isNone then .ready else .done) jump))).heap[w.heap.size + 1]? = some (.loop (rc (if jump.isNone then .ready else .done) jump)) ∧
        (W3.putObj (w.heap.size + 1) (.loop (rc (if jump.isNone then .ready else .done) jump))).heap[w.heap.size]? = some (.deferred (some [])) ∧
        KeepsFrom V.heap.size W (W3.putObj (w.heap.size + 1) (.loop (rc (if jump.isNone then .ready else .done) jump))) := fun jump W3 h3 => by
      have l3 := h3.same _ _ (by omega) hl2 rfl
      have r5 : KeepsFrom V.heap.size W (W3.putObj (w.heap.size + 1) (.loop (rc (if jump.isNone then .ready else .done) jump))) :=
        (hf2.trans ⟨h3.size, fun k o hk ho hc => h3.same k o (by omega) ho hc⟩).trans (KeepsFrom.of_grownBy (grownBy_putObj' _ _ _) (fun j e => by cases e; omega))
      have e := run_endRound (P := Tryd.prog) jump l3
      refine ⟨?_, l3, World.putObj_heap_same (Array.getElem?_eq_some_iff.1 l3).1, (World.putObj_heap_other (by omega)).trans (h3.same _ _ (Nat.le_refl _) hd2 rfl), r5⟩
      rw [hrc] at e ⊢
      exact e
    rintro e a3 W3 hp
    cases e with
    | normal =>
      obtain ⟨p1, p2, p3⟩ := hp
      obtain ⟨r1, r2, r3, r4, r5⟩ := fin none W3 p1
      exact ⟨_, _, r1, .inl ⟨rfl, ⟨hI.putObj _ p3 (by omega) r2 rfl, r3, r4⟩, ((World.putObj_heap_other (by omega)).trans p2).trans hk2, r5⟩⟩
    | ret =>
      obtain ⟨p1, p3⟩ := hp
      obtain ⟨r1, r2, r3, r4, r5⟩ := fin (some .ret) W3 p1
      exact ⟨_, _, r1, .inr ⟨rfl, ⟨.ret, (hIx _).putObj _ p3 (by omega) r2 rfl, r3, r4⟩, r5⟩⟩
    | exit id =>
      obtain ⟨p1, p3⟩ := hp
      obtain ⟨r1, r2, r3, r4, r5⟩ := fin (some (.exit id)) W3 p1
      exact ⟨_, _, r1, .inr ⟨rfl, ⟨.exit id, (hIx _).putObj _ p3 (by omega) r2 rfl, r3, r4⟩, r5⟩⟩
    | goto t =>
      obtain ⟨p1, p3⟩ := hp
      obtain ⟨r1, r2, r3, r4, r5⟩ := fin (some (.goto t)) W3 p1
      exact ⟨_, _, r1, .inr ⟨rfl, ⟨.goto t, (hIx _).putObj _ p3 (by omega) r2 rfl, r3, r4⟩, r5⟩⟩
    | panic ch => exact hp.elim
    | outgrown => exact hp.elim
  · -- behind the iterator
    rintro e W2 ⟨⟨v, rfl⟩, (⟨hi, hl, hd⟩ | ⟨r, c, hi, hl, hd⟩)⟩
    · refine ⟨none, _, by have e := run_endLoop (P := Tryd.prog) hl (by rw [hrc]; simp); rw [hrc] at e; exact e, hdone _ _ (Nat.le_refl _) (hI.putObj _ hi (by omega) hl rfl) ((World.putObj_heap_other (by omega)).trans hd)⟩
    · refine ⟨some c, _, by have e := run_endLoop (P := Tryd.prog) hl (by rw [hrc]; simp); rw [hrc] at e; exact e, hstop _ c r _ (Nat.le_refl _) ((hIx c).putObj _ hi (by omega) hl rfl) ((World.putObj_heap_other (by omega)).trans hd)⟩
end Go.Proofs.YtjofkejfldmmlaaDoor
