/- Proved: whatever logic is handed over, the law that AddsUpOk answers as its reference does, and leaves its argument alone, returns true; the arguments read behind the call as before. No condition. -/
import Derived.Test.YtanhogaekdcooaaKl
import Derived.Test.YtanhogaekdcooaaMzd
import Derived.Carry
namespace Go.Proofs.Ytanhogaekdcooaa
open Go.ChangeShapes Go.WideShapes Go.ChangeAt Go.RowKit Go.Deep

theorem paramsAddsUpOk : Try.f11.params = #[43] := by kernel_rfl
theorem resultsAddsUpOk : Try.f11.resultTypes = #[4] := by kernel_rfl

set_option maxRecDepth 100000 in
theorem exactAddsUpOk_lifted (os : Os) (started : os.Started) (H : Type) (enc : TypeId × Value → H) :
    ReturnsInHanded {} Try.checked os 11 .any (Rows.fnExactAddsUpOkSpec.pre6 enc Try.prog Try.f11 Rows.fnExactAddsUpOkRow.domain false) (Rows.fnExactAddsUpOkSpec.post enc Try.prog Try.f11 false true false false) := by
  refine returnsInHanded_of_change (C := Try.checked) progOwn started (by kernel_rfl) Try.func11
    (ChangeSpec.witness6 (enc := enc) (C := Try.checked) false ⟨#[], #[.agg #[.slice none 0 0, .slice none 0 0]], []⟩ 8 (by kernel_rfl) (by kernel_rfl) (by kernel_rfl) (by kernel_rfl)) ?_
  intro W base args ds gs before hval0 hW hcnd _
  have hval : ∀ (j : Nat) t v, Try.f11.params[j]? = some t → args[j]? = some v → Value.okWide Try.prog W .any base t v := hval0
  have hW' := hW
  obtain ⟨p, q, hA0, hV, rfl, hfz, hnd⟩ := hW
  have hA : DataW.TrodAll enc Try.prog W 0 (fun _ => true) true Try.f11.params.toList args.toList ds p := hA0
  rw [paramsAddsUpOk] at hA hval
  obtain ⟨v0, d0, rfl, rfl, h0⟩ := trodAll_one hA
  obtain ⟨rfl, rfl⟩ := trodVars_none hV
  have h0k := h0
  obtain ⟨ua, l, m, na, g, o, k, nc, z, rfl, hm⟩ := open_logic (hval 0 43 v0 rfl rfl) h0
  clear hA0 hval0
  simp only [List.append_nil] at hW'
  have hlt : ∀ x ∈ p, x.block < W.heap.size := fun x hx => hW'.lt x hx
  refine (law_ExactAddsUpOk hm).mono fun e W' ⟨he, hb⟩ => ?_
  subst he
  exact ⟨_, rfl, post_of_below (pa := p) (pv := []) hW' (fun _ _ _ => by rw [resultsAddsUpOk]; exact trodAll_mk1 (shut_bool Try.underlying4 true))
    (fun sp hsp => by rw [paramsAddsUpOk]; exact trodAll_mk1 (WideElems.Trod_stays progLaid (by kernel_rfl) (of_decide_eq_true (by kernel_rfl)) h0k (fun x hx => hb.same (hlt x hx)) (fun x hx => hsp x hx)))
    (fun _ _ => rfl) (by simp) hb (ok_one resultsAddsUpOk rfl (okWide_bool_mk Try.underlying4 true))⟩

set_option maxRecDepth 100000 in
theorem closedAddsUpOk : joinedFacts Try.checked.prog 11 Try.f11 Rows.fnExactAddsUpOkSpec Rows.fnExactAddsUpOkRow = true := by
  delta joinedFacts
  rw [may_enter, lifts_final, make_cut]
  kernel_rfl

theorem exactAddsUpOk_holds : Rows.FnExactAddsUpOkSaid :=
  OpenClaim.holds_of_wide 11 Try.f11 rfl rfl rfl rfl rfl rfl rfl ⟨rfl, rfl, rfl, rfl, rfl⟩ rfl rfl rfl rfl rfl (by kernel_rfl) Try.func11 closedAddsUpOk
    (of_decide_eq_true (by kernel_rfl)) (by unfold Func.isWrapper; rw [if_neg (by decide +kernel)]; exact ⟨rfl, rfl⟩)
    (fun os started H enc _ => exactAddsUpOk_lifted os started H enc)
end Go.Proofs.Ytanhogaekdcooaa
