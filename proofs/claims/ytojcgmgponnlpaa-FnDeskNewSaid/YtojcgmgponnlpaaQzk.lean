/- Proved: whatever code comes in, the law DeskNew over what is drawn from it returns true; the code reads behind the call as before. No condition. -/
import Derived.Test.YtojcgmgponnlpaaKl
import Derived.Test.YtojcgmgponnlpaaDkk
namespace Go.Proofs.Ytojcgmgponnlpaa
open Go.ChangeShapes Go.WideShapes Go.ChangeAt Go.RowKit Go.Deep

theorem paramsQzk : Try.f4.params = #[22] := by kernel_rfl
theorem resultsQzk : Try.f4.resultTypes = #[4] := by kernel_rfl

set_option maxRecDepth 100000 in
theorem codeDeskNew_lifted (os : Os) (started : os.Started) (H : Type) (enc : TypeId × Value → H) :
    ReturnsInHanded {} Try.checked os 4 .any (Rows.fnDeskNewSpec.pre6 enc Try.prog Try.f4 Rows.fnDeskNewRow.domain false) (Rows.fnDeskNewSpec.post enc Try.prog Try.f4 false true false false) := by
  refine returnsInHanded_of_change (C := Try.checked) progOwn started (by kernel_rfl) Try.func4
    (ChangeSpec.witness6 (enc := enc) (C := Try.checked) false ⟨#[], #[.slice none 0 0], []⟩ 8 (by kernel_rfl) (by kernel_rfl) (by kernel_rfl) (by kernel_rfl)) ?_
  intro W base args ds gs before hval0 hW hcnd _
  have hval : ∀ (j : Nat) t v, Try.f4.params[j]? = some t → args[j]? = some v → Value.okWide Try.prog W .any base t v := hval0
  have hW' := hW
  obtain ⟨p, q, hA0, hV, rfl, hfz, hnd⟩ := hW
  have hA : DataW.TrodAll enc Try.prog W 0 (fun _ => true) true Try.f4.params.toList args.toList ds p := hA0
  rw [paramsQzk] at hA hval
  obtain ⟨v0, d0, rfl, rfl, h0⟩ := trodAll_one hA
  obtain ⟨rfl, rfl⟩ := trodVars_none hV
  obtain ⟨a0, len, cap, rfl⟩ := okWide_slice Try.underlying22 (hval 0 22 v0 rfl rfl)
  have h0k := h0
  obtain ⟨fuel, hf⟩ := h0
  obtain ⟨b, o, z, hm⟩ := open_code (H := H) (enc := enc) hf
  clear hA0 hval0
  simp only [List.append_nil] at hW'
  have hlt : ∀ x ∈ p, x.block < W.heap.size := fun x hx => hW'.lt x hx
  refine (law_DeskNew hm).mono fun e W' ⟨he, hb⟩ => ?_
  subst he
  exact ⟨_, rfl, post_of_below (pa := p) (pv := []) hW' (fun _ _ _ => by rw [resultsQzk]; exact trodAll_mk1 (shut_bool Try.underlying4 true))
    (fun sp hsp => by rw [paramsQzk]; exact trodAll_mk1 (WideElems.Trod_stays progLaid (by kernel_rfl) (of_decide_eq_true (by kernel_rfl)) h0k (fun x hx => hb.same (hlt x hx)) (fun x hx => hsp x hx)))
    (fun _ _ => rfl) (by simp) hb (ok_one resultsQzk rfl (okWide_bool_mk Try.underlying4 true))⟩

set_option maxRecDepth 100000 in
theorem closedQzk : joinedFacts Try.checked.prog 4 Try.f4 Rows.fnDeskNewSpec Rows.fnDeskNewRow = true := by
  delta joinedFacts
  rw [may_enter, lifts_final, make_cut]
  kernel_rfl

theorem codeDeskNew_holds : Rows.FnDeskNewSaid :=
  OpenClaim.holds_of_wide 4 Try.f4 rfl rfl rfl rfl rfl rfl rfl ⟨rfl, rfl, rfl, rfl, rfl⟩ rfl rfl rfl rfl rfl (by kernel_rfl) Try.func4 closedQzk
    (of_decide_eq_true (by kernel_rfl)) (by unfold Func.isWrapper; rw [if_neg (by decide +kernel)]; exact ⟨rfl, rfl⟩)
    (fun os started H enc _ => codeDeskNew_lifted os started H enc)
end Go.Proofs.Ytojcgmgponnlpaa
