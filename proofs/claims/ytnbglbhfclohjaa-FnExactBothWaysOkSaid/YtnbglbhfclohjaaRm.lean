/- Proved: whatever logic is handed over, the law that BothWaysOk answers as its reference does, and leaves its argument alone, returns true; the arguments read behind the call as before. No condition. -/
import Derived.Test.YtnbglbhfclohjaaKl
import Derived.Test.YtnbglbhfclohjaaMm
import Derived.Carry
namespace Go.Proofs.Ytnbglbhfclohjaa
open Go.ChangeShapes Go.WideShapes Go.ChangeAt Go.RowKit Go.Deep

theorem paramsBothWaysOk : Try.f5.params = #[38] := by kernel_rfl
theorem resultsBothWaysOk : Try.f5.resultTypes = #[4] := by kernel_rfl

set_option maxRecDepth 100000 in
theorem exactBothWaysOk_lifted (os : Os) (started : os.Started) (H : Type) (enc : TypeId × Value → H) :
    ReturnsInHanded {} Try.checked os 5 .any (Rows.fnExactBothWaysOkSpec.pre6 enc Try.prog Try.f5 Rows.fnExactBothWaysOkRow.domain false) (Rows.fnExactBothWaysOkSpec.post enc Try.prog Try.f5 false true false false) := by
  refine returnsInHanded_of_change (C := Try.checked) progOwn started (by kernel_rfl) Try.func5
    (ChangeSpec.witness6 (enc := enc) (C := Try.checked) false ⟨#[], #[.agg #[.slice none 0 0, .slice none 0 0]], []⟩ 8 (by kernel_rfl) (by kernel_rfl) (by kernel_rfl) (by kernel_rfl)) ?_
  intro W base args ds gs before hval0 hW hcnd _
  have hval : ∀ (j : Nat) t v, Try.f5.params[j]? = some t → args[j]? = some v → Value.okWide Try.prog W .any base t v := hval0
  have hW' := hW
  obtain ⟨p, q, hA0, hV, rfl, hfz, hnd⟩ := hW
  have hA : DataW.TrodAll enc Try.prog W 0 (fun _ => true) true Try.f5.params.toList args.toList ds p := hA0
  rw [paramsBothWaysOk] at hA hval
  obtain ⟨v0, d0, rfl, rfl, h0⟩ := trodAll_one hA
  obtain ⟨rfl, rfl⟩ := trodVars_none hV
  have h0k := h0
  obtain ⟨ua, l, m, na, g, o, k, nc, z, rfl, hm⟩ := open_logic (hval 0 38 v0 rfl rfl) h0
  clear hA0 hval0
  simp only [List.append_nil] at hW'
  have hlt : ∀ x ∈ p, x.block < W.heap.size := fun x hx => hW'.lt x hx
  refine (law_ExactBothWaysOk hm).mono fun e W' ⟨he, hb⟩ => ?_
  subst he
  exact ⟨_, rfl, post_of_below (pa := p) (pv := []) hW' (fun _ _ _ => by rw [resultsBothWaysOk]; exact trodAll_mk1 (shut_bool Try.underlying4 true))
    (fun sp hsp => by rw [paramsBothWaysOk]; exact trodAll_mk1 (WideElems.Trod_stays progLaid (by kernel_rfl) (of_decide_eq_true (by kernel_rfl)) h0k (fun x hx => hb.same (hlt x hx)) (fun x hx => hsp x hx)))
    (fun _ _ => rfl) (by simp) hb (ok_one resultsBothWaysOk rfl (okWide_bool_mk Try.underlying4 true))⟩

set_option maxRecDepth 100000 in
theorem closedBothWaysOk : joinedFacts Try.checked.prog 5 Try.f5 Rows.fnExactBothWaysOkSpec Rows.fnExactBothWaysOkRow = true := by
  delta joinedFacts
  rw [may_enter, lifts_final, make_cut]
  kernel_rfl

theorem exactBothWaysOk_holds : Rows.FnExactBothWaysOkSaid :=
  OpenClaim.holds_of_wide 5 Try.f5 rfl rfl rfl rfl rfl rfl rfl ⟨rfl, rfl, rfl, rfl, rfl⟩ rfl rfl rfl rfl rfl (by kernel_rfl) Try.func5 closedBothWaysOk
    (of_decide_eq_true (by kernel_rfl)) (by unfold Func.isWrapper; rw [if_neg (by decide +kernel)]; exact ⟨rfl, rfl⟩)
    (fun os started H enc _ => exactBothWaysOk_lifted os started H enc)
end Go.Proofs.Ytnbglbhfclohjaa
