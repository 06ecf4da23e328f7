import Derived.Test.YtojcgmgponnlpaaZOa
import Derived.Test.YtojcgmgponnlpaaZGa
namespace Go.Proofs.Ytojcgmgponnlpaa
open Go.RowKit Go.Deep

section
variable {P : Program} {ops : Array Oper} {md : Region.Mode} {S : World → Prop} {st : Nat}
/-- All that a listed operation waits for is listed. -/
def Downs (md : Region.Mode) (ops : Array Oper) (listed : Array Bool) : Prop := ∀ j oj, ops[j]? = some oj → listed.getD j false = true → ∀ e ∈ oj.after, Region.binds md e = true → listed.getD e.on false = true
def downsB (md : Region.Mode) (ops : Array Oper) (listed : Array Bool) : Bool := (List.range ops.size).all fun j => !(listed.getD j false) || ((ops[j]?).map fun o => o.after.all fun e => !Region.binds md e || listed.getD e.on false).getD true
theorem downs_of {listed : Array Bool} (h : downsB md ops listed = true) : Downs md ops listed := fun j oj hj hl e he hb => by
  have hlt : j < ops.size := (Array.getElem?_eq_some_iff.1 hj).1
  have h1 := List.all_eq_true.1 h j (List.mem_range.2 hlt)
  rw [hj, hl] at h1
  simp only [Bool.not_true, Bool.false_or, Option.map_some, Option.getD_some] at h1
  have h2 := (Array.all_eq_true_iff_forall_mem.1 h1) e he
  rw [hb] at h2
  simpa using h2
theorem listed_more {listed : Array Bool} {j k : Nat} (h : listed.getD k false = true) : (listed.setIfInBounds j true).getD k false = true := by
  by_cases e : j = k
  · subst e
    have hlt : j < listed.size := by
      apply Classical.byContradiction
      intro hn
      rw [Array.getD_eq_getD_getElem?, Array.getElem?_eq_none (by omega)] at h
      cases h
    rw [Array.getD_eq_getD_getElem?, Array.getElem?_setIfInBounds_self_of_lt hlt]
    rfl
  · rw [Array.getD_eq_getD_getElem?, Array.getElem?_setIfInBounds_ne e, ← Array.getD_eq_getD_getElem?]
    exact h
theorem Downs.set {listed : Array Bool} {j : Nat} (h : Downs md ops listed) (hj : j ∈ Region.ready md ops listed) : Downs md ops (listed.setIfInBounds j true) := fun k ok hk hl e he hb => by
  by_cases ejk : j = k
  · subst ejk
    obtain ⟨_, o, ho, hall⟩ := mem_ready.1 hj
    obtain rfl : o = ok := Option.some.inj (ho.symm.trans hk)
    exact listed_more (hall e he hb)
  · rw [Array.getD_eq_getD_getElem?, Array.getElem?_setIfInBounds_ne ejk, ← Array.getD_eq_getD_getElem?] at hl
    exact listed_more (h k ok hk hl e he hb)
/-- A chain of operations, each of which waits for the next one. -/
def depB (md : Region.Mode) (ops : Array Oper) (j i : Nat) : Bool := ((ops[j]?).map fun o => o.after.any fun e => Region.binds md e && e.on == i).getD false
def chainB (md : Region.Mode) (ops : Array Oper) : Nat → List Nat → Bool
  | _, [] => true
  | j, i :: r => depB md ops j i && chainB md ops i r
theorem depB_is {j i : Nat} (h : depB md ops j i = true) : ∃ o, ops[j]? = some o ∧ ∃ e ∈ o.after, Region.binds md e = true ∧ e.on = i := by
  unfold depB at h
  cases ho : ops[j]? with
  | none => rw [ho] at h; cases h
  | some o =>
    rw [ho] at h
    simp only [Option.map_some, Option.getD_some] at h
    rw [← Array.any_toList, List.any_eq_true] at h
    obtain ⟨e, he, h2⟩ := h
    rw [Bool.and_eq_true] at h2
    exact ⟨o, rfl, e, by simpa using he, h2.1, by simpa using h2.2⟩
theorem chain_listed {listed : Array Bool} (hd : Downs md ops listed) : ∀ (r : List Nat) (j : Nat), chainB md ops j r = true → listed.getD j false = true → ∀ x ∈ r, listed.getD x false = true
  | [], _, _, _, x, hx => absurd hx (by simp)
  | i :: r, j, hc, hl, x, hx => by
    unfold chainB at hc
    rw [Bool.and_eq_true] at hc
    obtain ⟨o, ho, e, he, hb, rfl⟩ := depB_is hc.1
    have h1 := hd j o ho hl e he hb
    rcases List.mem_cons.1 hx with rfl | hx
    · exact h1
    · exact chain_listed hd r e.on hc.2 h1 x hx
theorem chain_ready {listed : Array Bool} (hd : Downs md ops listed) {i j : Nat} {r : List Nat} (hc : chainB md ops j r = true) (hi : i ∈ r) (hj : j ∈ Region.ready md ops listed) : listed.getD i false = true := by
  cases r with
  | nil => exact absurd hi (by simp)
  | cons k r =>
    unfold chainB at hc
    rw [Bool.and_eq_true] at hc
    obtain ⟨o, ho, e, he, hb, rfl⟩ := depB_is hc.1
    obtain ⟨_, o', ho', hall⟩ := mem_ready.1 hj
    obtain rfl : o = o' := Option.some.inj (ho.symm.trans ho')
    have h1 := hall e he hb
    rcases List.mem_cons.1 hi with rfl | hi
    · exact h1
    · exact chain_listed hd r e.on hc.2 h1 i hi
/-- Whatever order is picked from here on, and S holds behind every operation but the store st. -/
def wpAnyL (P : Program) (md : Region.Mode) (ops : Array Oper) (Q : Exit → Act → World → Prop) (S : World → Prop) (st : Nat) : Nat → Array Bool → Act → World → Prop
  | 0, listed, a, w => Region.ready md ops listed = [] ∧ Q .normal a w
  | fuel + 1, listed, a, w =>
    (Region.ready md ops listed = [] → Q .normal a w) ∧
    ∀ i ∈ Region.ready md ops listed, wpOp P ops Q i (fun a' w' => (i ≠ st → S w') ∧ wpAnyL P md ops Q S st fuel (listed.setIfInBounds i true) a' w') a w
theorem any_of_last {Q : Exit → Act → World → Prop} : ∀ (fuel : Nat) (listed : Array Bool) (a : Act) (w : World), wpAnyL P md ops Q S st fuel listed a w → wpAny P md ops Q fuel listed a w
  | 0, _, _, _, h => h
  | fuel + 1, _, _, _, h => ⟨h.1, fun i hi => wpOp_mono (fun a' w' h' => any_of_last fuel _ a' w' h'.2) (h.2 i hi)⟩
theorem last_first {Q : Exit → Act → World → Prop} {i : Nat} {oi : Oper} {v : Value} {r : List Nat} (hi : ops[i]? = some oi) (hsel : ∀ (j : Nat) (o : Oper) cs b, ops[j]? = some o → o.op ≠ .select cs b)
    (hQ : ∀ c a w, Q (.panic c) (a.put oi.dst v) w → Q (.panic c) a w) (hch : chainB md ops st r = true) (hir : i ∈ r) :
    ∀ (fuel : Nat) (listed : Array Bool) (a : Act) (w : World), Downs md ops listed →
      (∀ j oj, ops[j]? = some oj → j ≠ i → listed.getD j true = false → (∀ e ∈ oj.after, Region.binds md e = true → e.on ≠ i) → oi.apart ops oj = true) →
      i ∈ Region.ready md ops listed → YieldsIf P ops S oi v a → S w →
      wpAnyL P md ops Q S st fuel (listed.setIfInBounds i true) (a.put oi.dst v) w → wpAnyL P md ops Q S st (fuel + 1) listed a w := by
  intro fuel
  induction fuel with
  | zero =>
    intro listed a w _ _ hr hy hS H
    refine ⟨fun h => (by rw [h] at hr; cases hr), fun j hj => ?_⟩
    by_cases hji : j = i
    · subst hji; exact hy.wpOp hi hS ⟨fun _ => hS, H⟩
    · have := ready_mono hj hji
      rw [H.1] at this
      cases this
  | succ fuel ih =>
    intro listed a w hdn hfree hr hy hS H
    refine ⟨fun h => (by rw [h] at hr; cases hr), fun j hj => ?_⟩
    by_cases hji : j = i
    · subst hji; exact hy.wpOp hi hS ⟨fun _ => hS, H⟩
    · have h1 := H.2 j (ready_mono hj hji)
      obtain ⟨hjun, oj, hoj, hall⟩ := mem_ready.1 hj
      have hun := (mem_ready.1 hr).1
      have hif : listed.getD i false = false := by
        rcases Nat.lt_or_ge i listed.size with h' | h'
        · rw [Array.getD_eq_getD_getElem?, Array.getElem?_eq_getElem h'] at hun ⊢
          exact hun
        · rw [Array.getD_eq_getD_getElem?, Array.getElem?_eq_none h'] at hun
          cases hun
      have hjst : j ≠ st := fun e => by
        subst e
        have := chain_ready hdn hch hir hj
        rw [hif] at this
        cases this
      have hnot : ∀ e ∈ oj.after, Region.binds md e = true → e.on ≠ i := fun e he hb heq => by
        have h1 := hall e he hb
        rw [heq, hif] at h1
        cases h1
      have h2 := wpOp_putIf hoj (hfree j oj hoj hji hjun hnot) (fun cs b => hsel i oi cs b hi) (fun cs b => hsel j oj cs b hoj) hQ hy h1
      have hfree' : ∀ k ok, ops[k]? = some ok → k ≠ i → (listed.setIfInBounds j true).getD k true = false →
          (∀ e ∈ ok.after, Region.binds md e = true → e.on ≠ i) → oi.apart ops ok = true := fun k ok hk hki hun hno => by
        refine hfree k ok hk hki ?_ hno
        by_cases hjk : j = k
        · subst hjk; exact hjun
        · rw [getD_set_ne true hjk] at hun; exact hun
      refine wpOp_mono (fun a' w' h3 => ⟨h3.2.1, ih (listed.setIfInBounds j true) a' w' (hdn.set hj) hfree' (ready_mono hr (Ne.symm hji)) h3.1 (h3.2.1 hjst) ?_⟩) h2
      rw [Array.setIfInBounds_comm _ _ hji]
      exact h3.2.2
theorem last_all {Q : Exit → Act → World → Prop} {i fuel : Nat} {listed : Array Bool} {a : Act} {w : World} (hr : Region.ready md ops listed = [i])
    (h : wpOp P ops Q i (fun a' w' => (i ≠ st → S w') ∧ wpAnyL P md ops Q S st fuel (listed.setIfInBounds i true) a' w') a w) : wpAnyL P md ops Q S st (fuel + 1) listed a w :=
  ⟨fun h0 => (by rw [h0] at hr; cases hr), fun j hj => by
    rw [hr] at hj
    obtain rfl : j = i := by simpa using hj
    exact h⟩
theorem region_last {id fuel : Nat} {listed : Array Bool} {Q : Exit → Act → World → Prop} {a : Act} {w : World} (S : World → Prop) (st : Nat) (hm : P.follows .mixedOrders = true) (hf : ops.size = fuel) (hl : Array.replicate ops.size false = listed)
    (h : wpAnyL P .any ops (fun e a w => e = .normal ∧ Q .normal a w) S st fuel listed a w.drew) : (Code.region id ops true).wp P Q a w := by
  refine Go.wp_mono (Q := fun e a w => e = .normal ∧ Q .normal a w) (wp_region_any hm (any_of_last (S := S) (st := st) _ _ _ _ (by rw [hl, hf]; exact h))) fun e a w hq => ?_
  obtain ⟨he, hq⟩ := hq
  subst he
  exact hq
theorem last_take {Q : Act → World → Prop} {i d fuel : Nat} {v : Value} {listed listed' : Array Bool} {a : Act} {w : World} {o : Oper} {rest : List Oper} (r : List Nat) (hi : ops.toList.drop i = o :: rest)
    (hs : Region.noSelect ops = true) (hf : Region.free md ops listed i = true) (hr : (Region.ready md ops listed).contains i = true) (hd : o.dst = some d) (hw : Region.wanted o (yielded ops a.tmps) = true) (hl : listed.setIfInBounds i true = listed')
    (hdn : (downsB md ops listed && chainB md ops st r && r.contains i) = true) (hS : S w) (hv : ∀ w, S w → (execOp a.eval o).run P w = .ok (.value v) w)
    (h : wpAnyL P md ops (fun e a w => e = .normal ∧ Q a w) S st fuel listed' { tmps := a.tmps.setIfInBounds d v, defers := a.defers } w) : wpAnyL P md ops (fun e a w => e = .normal ∧ Q a w) S st (fuel + 1) listed a w := by
  rw [Bool.and_eq_true, Bool.and_eq_true] at hdn
  refine last_first (v := v) (r := r) (at_drop hi) (Region.noSelect_spec hs) (fun _ _ _ h => by cases h.1) hdn.1.2 (by simpa using hdn.2) fuel listed a w (downs_of hdn.1.1) (Region.free_spec (at_drop hi) hf) (by simpa using hr) (.inl ⟨hw, hv⟩) hS ?_
  rw [hl, hd]
  exact h
theorem last_call {Q : Act → World → Prop} {i d fuel : Nat} {listed listed' : Array Bool} {a : Act} {w : World} {o : Oper} {rest : List Oper} {f : FuncId} {args : Array Value} {R : Ending → World → Prop} (hi : ops.toList.drop i = o :: rest)
    (hr : Region.ready md ops listed = [i]) (hd : o.dst = some d) (hw : Region.wanted o (yielded ops a.tmps) = true) (hl : listed.setIfInBounds i true = listed')
    (he : (execOp a.eval o).run P w = .ok (.enter f args) w) (hc : Calls P f args w R)
    (h : ∀ e w', R e w' → ∃ v, e = .returned v ∧ S w' ∧ wpAnyL P md ops (fun e a w => e = .normal ∧ Q a w) S st fuel listed' { tmps := a.tmps.setIfInBounds d v, defers := a.defers } w') : wpAnyL P md ops (fun e a w => e = .normal ∧ Q a w) S st (fuel + 1) listed a w := by
  refine last_all hr ?_
  unfold wpOp
  rw [at_drop hi]
  simp only
  rw [if_pos hw, hl]
  refine .inl ?_
  unfold Oper.wp
  rw [he, Oper.upon_enter]
  refine hc.mono fun e w' hR => ?_
  obtain ⟨v, rfl, hS, hA⟩ := h e w' hR
  rw [hd]
  exact ⟨fun _ => hS, hA⟩
theorem last_value {Q : Act → World → Prop} {i d fuel : Nat} {v : Value} {listed listed' : Array Bool} {a : Act} {w w' : World} {o : Oper} {rest : List Oper} (hi : ops.toList.drop i = o :: rest)
    (hr : Region.ready md ops listed = [i]) (hd : o.dst = some d) (hw : Region.wanted o (yielded ops a.tmps) = true) (hl : listed.setIfInBounds i true = listed') (he : (execOp a.eval o).run P w = .ok (.value v) w') (hS : S w')
    (h : wpAnyL P md ops (fun e a w => e = .normal ∧ Q a w) S st fuel listed' { tmps := a.tmps.setIfInBounds d v, defers := a.defers } w') : wpAnyL P md ops (fun e a w => e = .normal ∧ Q a w) S st (fuel + 1) listed a w := by
  refine last_all hr ?_
  unfold wpOp
  rw [at_drop hi]
  simp only
  rw [if_pos hw, hl]
  refine .inl ?_
  unfold Oper.wp
  rw [he, Oper.upon_value, hd]
  exact ⟨fun _ => hS, h⟩
theorem last_append {Q : Act → World → Prop} {k d fuel : Nat} {listed listed' : Array Bool} {a : Act} {w : World} {o : Oper} {rest : List Oper} (hi : ops.toList.drop k = o :: rest)
    (hr : Region.ready md ops listed = [k]) (hd : o.dst = some d) (hl : listed.setIfInBounds k true = listed')
    (hg : o.guard = none) (s x : Operand) (t : TypeId) (hop : o.op = Op.call { callee := Callee.builtin Builtin.append, args := #[s, x], argTypes := #[t, t] })
    (base : Nat) (e : TypeId) (i : TypeInfo) (z : Value) (size bytes : Nat) (ht : P.underlying t = some (.slice e)) (hinf : P.info? e = some i) (hz : i.zero = some z)
    (hsize : i.size = size) (hby : i.bytes = bytes) (hzs : z.cells.size = size) (hsz : 0 < size)
    (v : Value) (n : Nat) (xs : List Value) (hs : a.eval s = v) (hown : w.ownsRow base e size v n xs)
    (ad : Addr) (m c : Nat) (news : List Value) (hx : a.eval x = .slice (some ad) m c) (hlen : news.length = m * size) (hnews : ∀ j u, news[j]? = some u → w.cell? (ad.add j) = some u) (h1 : ∀ u ∈ news, u.oneCell' = true)
    (h63 : n + m ≤ maxLen) (hbytes : (n + m) * bytes ≤ 140737488355328) (hbase : base ≤ w.heap.size)
    (h : ∀ v' w', w'.ownsRow base e size v' (n + m) (xs ++ news) → w.grownBy w' v.ownBlock → (v'.ownBlock = v.ownBlock ∨ v'.ownBlock = some w.heap.size) → S w' ∧ wpAnyL P md ops (fun e a w => e = .normal ∧ Q a w) S st fuel listed' { tmps := a.tmps.setIfInBounds d v', defers := a.defers } w') : wpAnyL P md ops (fun e a w => e = .normal ∧ Q a w) S st (fuel + 1) listed a w := by
  refine last_all hr ?_
  unfold wpOp
  rw [at_drop hi]
  simp only
  have hw : Region.wanted o (yielded ops a.tmps) = true := by simp [Region.wanted, hg]
  rw [if_pos hw, hl]
  refine .inl ?_
  have := step_append_own (P := P) (ops := ops) (K := fun a' w' => (k ≠ st → S w') ∧ wpAnyL P md ops (fun e a w => e = .normal ∧ Q a w) S st fuel listed' a' w') (Q := fun e a w => e = .normal ∧ Q a w) (E := True) hg s x t hop base e i z size bytes ht hinf hz hsize hby hzs hsz v n xs hs hown ad m c news hx hlen hnews h1 h63 hbytes hbase
    (fun v' w' e1 e2 e3 => by rw [hd]; exact ⟨fun _ => (h v' w' e1 e2 e3).1, (h v' w' e1 e2 e3).2⟩)
  rw [if_pos hw] at this
  exact this
theorem last_store {Q : Act → World → Prop} {fuel : Nat} {listed listed' : Array Bool} {a : Act} {w w' : World} {o : Oper} {rest : List Oper} (hi : ops.toList.drop st = o :: rest)
    (hr : Region.ready md ops listed = [st]) (hd : o.dst = none) (hw : Region.wanted o (yielded ops a.tmps) = true) (hl : listed.setIfInBounds st true = listed')
    (he : (execOp a.eval o).run P w = .ok .skip w')
    (h : wpAnyL P md ops (fun e a w => e = .normal ∧ Q a w) S st fuel listed' a w') : wpAnyL P md ops (fun e a w => e = .normal ∧ Q a w) S st (fuel + 1) listed a w := by
  refine last_all hr ?_
  unfold wpOp
  rw [at_drop hi]
  simp only
  rw [if_pos hw, hl]
  refine .inl ?_
  unfold Oper.wp
  rw [he, Oper.upon_skip, hd]
  exact ⟨fun h0 => absurd rfl h0, h⟩
theorem last_done {Q : Act → World → Prop} {listed : Array Bool} {a : Act} {w : World} (hr : Region.ready md ops listed = []) (h : Q a w) :
    ∀ fuel, wpAnyL P md ops (fun e a w => e = .normal ∧ Q a w) S st fuel listed a w
  | 0 => ⟨hr, rfl, h⟩
  | _ + 1 => ⟨fun _ => ⟨rfl, h⟩, by rw [hr]; simp⟩
end
end Go.Proofs.Ytojcgmgponnlpaa
