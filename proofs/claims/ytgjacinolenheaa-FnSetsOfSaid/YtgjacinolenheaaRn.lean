/- A region that draws its order, within a round of a range over a function: it is enough to walk it as everywhere, under a condition that all its operations keep. -/
import Derived.Test.YtgjacinolenheaaOb
import Derived.OrdersHeld
import Derived.OrdersIn
namespace Go.Proofs.Ytgjacinolenheaa
open Go.RowKit Go.Deep Go.Shelf

theorem rows_round {l n : Nat} {P : Program} {row : String} {args : Array Value} {w : World} {R : Value → World → Prop} (h : Rows P row args w R) : RowsIn (Fence.wide.inRound l) n P row args w R :=
  fun c cs _ => let ⟨v, w', r, s⟩ := h c cs; ⟨v, w', r, stepsIn_wide.2 s⟩
theorem opIn_of_op {l n : Nat} {P : Program} {o : Oper} {a : Act} {w : World} {K : Act → World → Prop} {Q : Exit → Act → World → Prop} (hd : ∀ c, o.op ≠ .defer c) (h : o.wp P a w K Q) : o.wpIn (Fence.wide.inRound l) n P a w K Q := by
  refine ⟨fun _ _ => trivial, ?_⟩
  rw [Oper.semAt_eq _ _ _ hd]
  unfold Oper.wp at h
  generalize (execOp a.eval o).run P w = r at h ⊢
  cases r with
  | ok x w' =>
    cases x <;> first
      | exact h
      | exact ⟨fun e => by simp [Fence.inRound, Fence.wide] at e, CallsIn.inRound l (callsIn_wide.2 h)⟩
      | exact ⟨fun e => by simp [Fence.inRound, Fence.wide] at e, rows_round h⟩
      | exact False.elim h
  | halt x w' => cases x <;> first | exact h | exact False.elim h

theorem anyIn_of_any {l n : Nat} {P : Program} {md : Region.Mode} {ops : Array Oper} {Q : Exit → Act → World → Prop} (hd : ∀ (i : Nat) (o : Oper) c, ops[i]? = some o → o.op ≠ .defer c) (hL : ¬ LetsOut Q) :
    ∀ (fuel : Nat) (listed : Array Bool) (a : Act) (w : World), wpAny P md ops Q fuel listed a w → wpAnyIn (Fence.wide.inRound l) n P md ops Q fuel listed a w
  | 0, _, _, _, h => h
  | fuel + 1, listed, a, w, h => ⟨h.1, fun i hi => by
    have h1 := h.2 i hi
    unfold wpOp at h1
    unfold wpOpIn
    cases ho : ops[i]? with
    | none =>
      rw [ho] at h1
      exact anyIn_of_any hd hL fuel _ _ _ h1
    | some o =>
      rw [ho] at h1
      simp only at h1 ⊢
      by_cases hw : Region.wanted o (yielded ops a.tmps) = true
      · rw [if_pos hw] at h1 ⊢
        rcases h1 with h1 | ⟨_, h1⟩
        · exact opIn_of_op (fun c => hd i o c ho) (Oper.wp_mono (fun a' w' => anyIn_of_any hd hL fuel _ a' w') h1)
        · exact absurd h1 hL
      · rw [if_neg hw] at h1 ⊢
        exact ⟨fun _ _ => trivial, anyIn_of_any hd hL fuel _ _ _ h1⟩⟩

def noDefer (o : Oper) : Bool := match o.op with
  | .defer _ => false
  | _ => true
theorem region_round {l n id : Nat} {P : Program} {ops : Array Oper} {Q : Exit → Act → World → Prop} {a : Act} {w : World} (S : World → Prop) (hm : P.follows .mixedOrders = true) (hd : ops.all noDefer = true)
    (h : wpAnyH P .any ops (fun e a w => e = .normal ∧ Q .normal a w) S ops.size (Array.replicate ops.size false) a w.drew) : (Code.region id ops true).wpIn (Fence.wide.inRound l) n P Q a w := by
  refine Go.wpIn_mono (Q := fun e a w => e = .normal ∧ Q .normal a w) (wpIn_region_any hm (anyIn_of_any (fun i o c hi he => ?_) (fun hl => by obtain ⟨_, _, he, _⟩ := hl; cases he) _ _ _ _ (wpAny_of_held _ _ _ _ h))) fun e a w ⟨he, hq⟩ => by subst he; exact hq
  rw [Array.all_eq_true_iff_forall_mem] at hd
  have := hd o (Array.mem_of_getElem? hi)
  unfold noDefer at this
  rw [he] at this
  cases this
theorem at_drop {ops : Array Oper} {i : Nat} {o : Oper} {rest : List Oper} (h : ops.toList.drop i = o :: rest) : ops[i]? = some o := by
  have h1 : (ops.toList.drop i)[0]? = some o := by rw [h]; rfl
  rw [List.getElem?_drop, Nat.add_zero, Array.getElem?_toList] at h1
  exact h1
/-- An operation that is wanted is taken first. -/
theorem hold_take {P : Program} {md : Region.Mode} {ops : Array Oper} {Q : Act → World → Prop} {S : World → Prop} {i d fuel : Nat} {v : Value} {listed listed' : Array Bool} {a : Act} {w : World} {o : Oper} {rest : List Oper} (hi : ops.toList.drop i = o :: rest)
    (hs : Region.noSelect ops = true) (hf : Region.free md ops listed i = true) (hr : (Region.ready md ops listed).contains i = true) (hd : o.dst = some d) (hw : Region.wanted o (yielded ops a.tmps) = true) (hl : listed.setIfInBounds i true = listed')
    (hS : S w) (hv : ∀ w, S w → (execOp a.eval o).run P w = .ok (.value v) w)
    (h : wpAnyH P md ops (fun e a w => e = .normal ∧ Q a w) S fuel listed' { tmps := a.tmps.setIfInBounds d v, defers := a.defers } w) : wpAnyH P md ops (fun e a w => e = .normal ∧ Q a w) S (fuel + 1) listed a w := by
  refine wpAnyH_take (v := v) (at_drop hi) hs hf hr (fun _ _ _ h => by cases h.1) (.inl ⟨hw, hv⟩) hS ?_
  rw [hl, hd]
  exact h
/-- An operation that is not wanted is taken first. -/
theorem hold_skip {P : Program} {md : Region.Mode} {ops : Array Oper} {Q : Act → World → Prop} {S : World → Prop} {i d fuel : Nat} {listed listed' : Array Bool} {a : Act} {w : World} {o : Oper} {rest : List Oper} (hi : ops.toList.drop i = o :: rest)
    (hs : Region.noSelect ops = true) (hf : Region.free md ops listed i = true) (hr : (Region.ready md ops listed).contains i = true) (hd : o.dst = some d) (hw : Region.wanted o (yielded ops a.tmps) = false) (hl : listed.setIfInBounds i true = listed')
    (hS : S w)
    (h : wpAnyH P md ops (fun e a w => e = .normal ∧ Q a w) S fuel listed' { tmps := a.tmps.setIfInBounds d undef, defers := a.defers } w) : wpAnyH P md ops (fun e a w => e = .normal ∧ Q a w) S (fuel + 1) listed a w := by
  refine wpAnyH_take (v := undef) (at_drop hi) hs hf hr (fun _ _ _ h => by cases h.1) (.inr ⟨hw, rfl⟩) hS ?_
  rw [hl, hd]
  exact h
/-- A call that alone may come up: its contract, and S behind it. -/
theorem hold_call {P : Program} {md : Region.Mode} {ops : Array Oper} {Q : Act → World → Prop} {S : World → Prop} {i d fuel : Nat} {listed listed' : Array Bool} {a : Act} {w : World} {o : Oper} {rest : List Oper} {f : FuncId} {args : Array Value} {R : Ending → World → Prop} (hi : ops.toList.drop i = o :: rest)
    (hr : Region.ready md ops listed = [i]) (hd : o.dst = some d) (hw : Region.wanted o (yielded ops a.tmps) = true) (hl : listed.setIfInBounds i true = listed')
    (he : (execOp a.eval o).run P w = .ok (.enter f args) w) (hc : Calls P f args w R)
    (h : ∀ e w', R e w' → ∃ v, e = .returned v ∧ S w' ∧ wpAnyH P md ops (fun e a w => e = .normal ∧ Q a w) S fuel listed' { tmps := a.tmps.setIfInBounds d v, defers := a.defers } w') : wpAnyH P md ops (fun e a w => e = .normal ∧ Q a w) S (fuel + 1) listed a w := by
  refine wpAnyH_all hr (by simp) fun j hj => ?_
  obtain rfl : j = i := by simpa using hj
  unfold wpOp
  rw [at_drop hi]
  simp only
  rw [if_pos hw, hl]
  refine .inl ?_
  unfold Oper.wp
  rw [he, Oper.upon_enter]
  refine hc.mono fun e w' hR => ?_
  obtain ⟨v, rfl, hS, hA⟩ := h e w' hR
  rw [hd]
  exact ⟨hS, hA⟩
theorem region_hold {l n id fuel : Nat} {P : Program} {ops : Array Oper} {listed : Array Bool} {Q : Exit → Act → World → Prop} {a : Act} {w : World} (S : World → Prop) (hm : P.follows .mixedOrders = true) (hd : ops.all noDefer = true) (hf : ops.size = fuel) (hl : Array.replicate ops.size false = listed)
    (h : wpAnyH P .any ops (fun e a w => e = .normal ∧ Q .normal a w) S fuel listed a w.drew) : (Code.region id ops true).wpIn (Fence.wide.inRound l) n P Q a w :=
  region_round S hm hd (by rw [hl, hf]; exact h)
theorem hold_done {P : Program} {md : Region.Mode} {ops : Array Oper} {Q : Act → World → Prop} {S : World → Prop} {listed : Array Bool} {a : Act} {w : World} (hr : Region.ready md ops listed = []) (h : Q a w) :
    ∀ fuel, wpAnyH P md ops (fun e a w => e = .normal ∧ Q a w) S fuel listed a w := wpAnyH_done hr ⟨rfl, h⟩
theorem region_plain {id fuel : Nat} {P : Program} {ops : Array Oper} {listed : Array Bool} {Q : Exit → Act → World → Prop} {a : Act} {w : World} (S : World → Prop) (hm : P.follows .mixedOrders = true) (hf : ops.size = fuel) (hl : Array.replicate ops.size false = listed)
    (h : wpAnyH P .any ops (fun e a w => e = .normal ∧ Q .normal a w) S fuel listed a w.drew) : (Code.region id ops true).wp P Q a w := by
  refine Go.wp_mono (Q := fun e a w => e = .normal ∧ Q .normal a w) (wp_region_held (S := S) hm (by rw [hl, hf]; exact h)) fun e a w hq => ?_
  obtain ⟨he, hq⟩ := hq
  subst he
  exact hq
/-- A store that alone may come up. -/
theorem hold_store {P : Program} {md : Region.Mode} {ops : Array Oper} {Q : Act → World → Prop} {S : World → Prop} {i fuel : Nat} {listed listed' : Array Bool} {a : Act} {w w' : World} {o : Oper} {rest : List Oper} (hi : ops.toList.drop i = o :: rest)
    (hr : Region.ready md ops listed = [i]) (hd : o.dst = none) (hw : Region.wanted o (yielded ops a.tmps) = true) (hl : listed.setIfInBounds i true = listed')
    (he : (execOp a.eval o).run P w = .ok .skip w') (hS : S w')
    (h : wpAnyH P md ops (fun e a w => e = .normal ∧ Q a w) S fuel listed' a w') : wpAnyH P md ops (fun e a w => e = .normal ∧ Q a w) S (fuel + 1) listed a w := by
  refine wpAnyH_all hr (by simp) fun j hj => ?_
  obtain rfl : j = i := by simpa using hj
  unfold wpOp
  rw [at_drop hi]
  simp only
  rw [if_pos hw, hl]
  refine .inl ?_
  unfold Oper.wp
  rw [he, Oper.upon_skip, hd]
  exact ⟨hS, h⟩
end Go.Proofs.Ytgjacinolenheaa
