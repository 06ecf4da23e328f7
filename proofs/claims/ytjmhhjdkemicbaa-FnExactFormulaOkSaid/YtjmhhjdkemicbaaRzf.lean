/- Proved: whatever text: the law that FormulaOk answers as its reference does, and leaves its arguments alone, returns true; the arguments read behind the call as before. No condition. -/
import Derived.Test.YtjmhhjdkemicbaaKl
import Derived.Test.YtjmhhjdkemicbaaMzf
import Derived.Carry
import Derived.ChangeMaps5
namespace Go.Proofs.Ytjmhhjdkemicbaa
open Go.ChangeShapes Go.WideShapes Go.ChangeAt Go.RowKit Go.Deep

theorem paramsFormulaOk : Try.f6.params = #[9] := by kernel_rfl
theorem resultsFormulaOk : Try.f6.resultTypes = #[4] := by kernel_rfl

set_option maxRecDepth 100000 in
theorem exactFormulaOk_lifted (os : Os) (started : os.Started) (H : Type) (enc : TypeId × Value → H) :
    ReturnsInHanded {} Try.checked os 6 .any (Rows.fnExactFormulaOkSpec.pre6 enc Try.prog Try.f6 Rows.fnExactFormulaOkRow.domain false) (Rows.fnExactFormulaOkSpec.post enc Try.prog Try.f6 false true false false) := by
  refine returnsInHanded_of_change (C := Try.checked) progOwn started (by kernel_rfl) Try.func6
    (ChangeSpec.witness6 (enc := enc) (C := Try.checked) false ⟨#[], #[.string ⟨#[]⟩], []⟩ 8 (by kernel_rfl) (by kernel_rfl) (by kernel_rfl) (by kernel_rfl)) ?_
  intro W base args ds gs before hval0 hW hcnd _
  have hval : ∀ (j : Nat) t v, Try.f6.params[j]? = some t → args[j]? = some v → Value.okWide Try.prog W .any base t v := hval0
  have hW' := hW
  obtain ⟨p, q, hA0, hV, rfl, hfz, hnd⟩ := hW
  have hA : DataW.TrodAll enc Try.prog W 0 (fun _ => true) true Try.f6.params.toList args.toList ds p := hA0
  rw [paramsFormulaOk] at hA hval
  obtain ⟨v0, d0, rfl, rfl, h0⟩ := trodAll_one hA
  obtain ⟨rfl, rfl⟩ := trodVars_none hV
  obtain ⟨s0, rfl, rfl, hp0, ws0⟩ := Go.ChangeMaps.open_string Try.underlying9 (hval 0 9 v0 rfl rfl) h0
  clear hA0 hval0
  subst hp0
  simp only [List.append_nil] at hW'
  refine (law_ExactFormulaOk ws0).mono fun e W' ⟨he, hb⟩ => ?_
  subst he
  exact ⟨_, rfl, post_of_below (pa := []) (pv := []) hW' (fun _ _ _ => by rw [resultsFormulaOk]; exact trodAll_mk1 (shut_bool Try.underlying4 true))
    (fun sp hsp => by rw [paramsFormulaOk]; exact trodAll_mk1 (Go.ChangeMaps.shut_string Try.underlying9 ws0))
    (fun _ _ => rfl) (by simp) hb (ok_one resultsFormulaOk rfl (okWide_bool_mk Try.underlying4 true))⟩

set_option maxRecDepth 100000 in
theorem closedFormulaOk : joinedFacts Try.checked.prog 6 Try.f6 Rows.fnExactFormulaOkSpec Rows.fnExactFormulaOkRow = true := by
  delta joinedFacts
  rw [may_enter, lifts_final, make_cut]
  kernel_rfl

theorem exactFormulaOk_holds : Rows.FnExactFormulaOkSaid :=
  OpenClaim.holds_of_wide 6 Try.f6 rfl rfl rfl rfl rfl rfl rfl ⟨rfl, rfl, rfl, rfl, rfl⟩ rfl rfl rfl rfl rfl (by kernel_rfl) Try.func6 closedFormulaOk
    (of_decide_eq_true (by kernel_rfl)) (by unfold Func.isWrapper; rw [if_neg (by decide +kernel)]; exact ⟨rfl, rfl⟩)
    (fun os started H enc _ => exactFormulaOk_lifted os started H enc)
end Go.Proofs.Ytjmhhjdkemicbaa
