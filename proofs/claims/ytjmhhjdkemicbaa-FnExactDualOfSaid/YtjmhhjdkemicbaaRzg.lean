/- Proved: whatever text: the law that DualOf answers as its reference does, and leaves its arguments alone, returns true; the arguments read behind the call as before. No condition. -/
import Derived.Test.YtjmhhjdkemicbaaKl
import Derived.Test.YtjmhhjdkemicbaaMzg
import Derived.Carry
import Derived.ChangeMaps5
namespace Go.Proofs.Ytjmhhjdkemicbaa
open Go.ChangeShapes Go.WideShapes Go.ChangeAt Go.RowKit Go.Deep

theorem paramsDualOf : Try.f10.params = #[9] := by kernel_rfl
theorem resultsDualOf : Try.f10.resultTypes = #[4] := by kernel_rfl

set_option maxRecDepth 100000 in
theorem exactDualOf_lifted (os : Os) (started : os.Started) (H : Type) (enc : TypeId × Value → H) :
    ReturnsInHanded {} Try.checked os 10 .any (Rows.fnExactDualOfSpec.pre6 enc Try.prog Try.f10 Rows.fnExactDualOfRow.domain false) (Rows.fnExactDualOfSpec.post enc Try.prog Try.f10 false true false false) := by
  refine returnsInHanded_of_change (C := Try.checked) progOwn started (by kernel_rfl) Try.func10
    (ChangeSpec.witness6 (enc := enc) (C := Try.checked) false ⟨#[], #[.string ⟨#[]⟩], []⟩ 8 (by kernel_rfl) (by kernel_rfl) (by kernel_rfl) (by kernel_rfl)) ?_
  intro W base args ds gs before hval0 hW hcnd _
  have hval : ∀ (j : Nat) t v, Try.f10.params[j]? = some t → args[j]? = some v → Value.okWide Try.prog W .any base t v := hval0
  have hW' := hW
  obtain ⟨p, q, hA0, hV, rfl, hfz, hnd⟩ := hW
  have hA : DataW.TrodAll enc Try.prog W 0 (fun _ => true) true Try.f10.params.toList args.toList ds p := hA0
  rw [paramsDualOf] at hA hval
  obtain ⟨v0, d0, rfl, rfl, h0⟩ := trodAll_one hA
  obtain ⟨rfl, rfl⟩ := trodVars_none hV
  obtain ⟨s0, rfl, rfl, hp0, ws0⟩ := Go.ChangeMaps.open_string Try.underlying9 (hval 0 9 v0 rfl rfl) h0
  clear hA0 hval0
  subst hp0
  simp only [List.append_nil] at hW'
  refine (law_ExactDualOf ws0).mono fun e W' ⟨he, hb⟩ => ?_
  subst he
  exact ⟨_, rfl, post_of_below (pa := []) (pv := []) hW' (fun _ _ _ => by rw [resultsDualOf]; exact trodAll_mk1 (shut_bool Try.underlying4 true))
    (fun sp hsp => by rw [paramsDualOf]; exact trodAll_mk1 (Go.ChangeMaps.shut_string Try.underlying9 ws0))
    (fun _ _ => rfl) (by simp) hb (ok_one resultsDualOf rfl (okWide_bool_mk Try.underlying4 true))⟩

set_option maxRecDepth 100000 in
theorem closedDualOf : joinedFacts Try.checked.prog 10 Try.f10 Rows.fnExactDualOfSpec Rows.fnExactDualOfRow = true := by
  delta joinedFacts
  rw [may_enter, lifts_final, make_cut]
  kernel_rfl

theorem exactDualOf_holds : Rows.FnExactDualOfSaid :=
  OpenClaim.holds_of_wide 10 Try.f10 rfl rfl rfl rfl rfl rfl rfl ⟨rfl, rfl, rfl, rfl, rfl⟩ rfl rfl rfl rfl rfl (by kernel_rfl) Try.func10 closedDualOf
    (of_decide_eq_true (by kernel_rfl)) (by unfold Func.isWrapper; rw [if_neg (by decide +kernel)]; exact ⟨rfl, rfl⟩)
    (fun os started H enc _ => exactDualOf_lifted os started H enc)
end Go.Proofs.Ytjmhhjdkemicbaa
