/- Proved: whatever logic is handed over, the law that CentreOf answers as its reference does, and leaves its argument alone, returns true; the arguments read behind the call as before. No condition. -/
import Derived.Test.YtnbglbhfclohjaaKl
import Derived.Test.YtnbglbhfclohjaaMp
import Derived.Carry
namespace Go.Proofs.Ytnbglbhfclohjaa
open Go.ChangeShapes Go.WideShapes Go.ChangeAt Go.RowKit Go.Deep

theorem paramsCentreOf : Try.f6.params = #[38] := by kernel_rfl
theorem resultsCentreOf : Try.f6.resultTypes = #[4] := by kernel_rfl

set_option maxRecDepth 100000 in
theorem exactCentreOf_lifted (os : Os) (started : os.Started) (H : Type) (enc : TypeId × Value → H) :
    ReturnsInHanded {} Try.checked os 6 .any (Rows.fnExactCentreOfSpec.pre6 enc Try.prog Try.f6 Rows.fnExactCentreOfRow.domain false) (Rows.fnExactCentreOfSpec.post enc Try.prog Try.f6 false true false false) := by
  refine returnsInHanded_of_change (C := Try.checked) progOwn started (by kernel_rfl) Try.func6
    (ChangeSpec.witness6 (enc := enc) (C := Try.checked) false ⟨#[], #[.agg #[.slice none 0 0, .slice none 0 0]], []⟩ 8 (by kernel_rfl) (by kernel_rfl) (by kernel_rfl) (by kernel_rfl)) ?_
  intro W base args ds gs before hval0 hW hcnd _
  have hval : ∀ (j : Nat) t v, Try.f6.params[j]? = some t → args[j]? = some v → Value.okWide Try.prog W .any base t v := hval0
  have hW' := hW
  obtain ⟨p, q, hA0, hV, rfl, hfz, hnd⟩ := hW
  have hA : DataW.TrodAll enc Try.prog W 0 (fun _ => true) true Try.f6.params.toList args.toList ds p := hA0
  rw [paramsCentreOf] at hA hval
  obtain ⟨v0, d0, rfl, rfl, h0⟩ := trodAll_one hA
  obtain ⟨rfl, rfl⟩ := trodVars_none hV
  have h0k := h0
  obtain ⟨ua, l, m, na, g, o, k, nc, z, rfl, hm⟩ := open_logic (hval 0 38 v0 rfl rfl) h0
  clear hA0 hval0
  simp only [List.append_nil] at hW'
  have hlt : ∀ x ∈ p, x.block < W.heap.size := fun x hx => hW'.lt x hx
  refine (law_ExactCentreOf hm).mono fun e W' ⟨he, hb⟩ => ?_
  subst he
  exact ⟨_, rfl, post_of_below (pa := p) (pv := []) hW' (fun _ _ _ => by rw [resultsCentreOf]; exact trodAll_mk1 (shut_bool Try.underlying4 true))
    (fun sp hsp => by rw [paramsCentreOf]; exact trodAll_mk1 (WideElems.Trod_stays progLaid (by kernel_rfl) (of_decide_eq_true (by kernel_rfl)) h0k (fun x hx => hb.same (hlt x hx)) (fun x hx => hsp x hx)))
    (fun _ _ => rfl) (by simp) hb (ok_one resultsCentreOf rfl (okWide_bool_mk Try.underlying4 true))⟩

set_option maxRecDepth 100000 in
theorem closedCentreOf : joinedFacts Try.checked.prog 6 Try.f6 Rows.fnExactCentreOfSpec Rows.fnExactCentreOfRow = true := by
  delta joinedFacts
  rw [may_enter, lifts_final, make_cut]
  kernel_rfl

theorem exactCentreOf_holds : Rows.FnExactCentreOfSaid :=
  OpenClaim.holds_of_wide 6 Try.f6 rfl rfl rfl rfl rfl rfl rfl ⟨rfl, rfl, rfl, rfl, rfl⟩ rfl rfl rfl rfl rfl (by kernel_rfl) Try.func6 closedCentreOf
    (of_decide_eq_true (by kernel_rfl)) (by unfold Func.isWrapper; rw [if_neg (by decide +kernel)]; exact ⟨rfl, rfl⟩)
    (fun os started H enc _ => exactCentreOf_lifted os started H enc)
end Go.Proofs.Ytnbglbhfclohjaa
