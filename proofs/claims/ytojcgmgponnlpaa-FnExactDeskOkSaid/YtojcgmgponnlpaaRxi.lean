/- Proved: whatever desk: the law that DeskOk answers as its reference does, and leaves its arguments alone, returns true; the arguments read behind the call as before. No condition. -/
import Derived.Test.YtojcgmgponnlpaaKl
import Derived.Test.YtojcgmgponnlpaaDki
import Derived.Test.YtojcgmgponnlpaaDki
import Derived.Carry
import Derived.ChangeMaps5
namespace Go.Proofs.Ytojcgmgponnlpaa
open Go.ChangeShapes Go.WideShapes Go.ChangeAt Go.RowKit Go.Deep

theorem paramsDeskOk : Try.f5.params = #[44] := by kernel_rfl
theorem resultsDeskOk : Try.f5.resultTypes = #[4] := by kernel_rfl

set_option maxRecDepth 100000 in
theorem exactDeskOk_lifted (os : Os) (started : os.Started) (H : Type) (enc : TypeId × Value → H) :
    ReturnsInHanded {} Try.checked os 5 .any (Rows.fnExactDeskOkSpec.pre6 enc Try.prog Try.f5 Rows.fnExactDeskOkRow.domain false) (Rows.fnExactDeskOkSpec.post enc Try.prog Try.f5 false true false false) := by
  refine returnsInHanded_of_change (C := Try.checked) progOwn started (by kernel_rfl) Try.func5
    (ChangeSpec.witness6 (enc := enc) (C := Try.checked) false ⟨#[], #[.agg #[.slice none 0 0, .slice none 0 0, .slice none 0 0]], []⟩ 8 (by kernel_rfl) (by kernel_rfl) (by kernel_rfl) (by kernel_rfl)) ?_
  intro W base args ds gs before hval0 hW hcnd _
  have hval : ∀ (j : Nat) t v, Try.f5.params[j]? = some t → args[j]? = some v → Value.okWide Try.prog W .any base t v := hval0
  have hW' := hW
  obtain ⟨p, q, hA0, hV, rfl, hfz, hnd⟩ := hW
  have hA : DataW.TrodAll enc Try.prog W 0 (fun _ => true) true Try.f5.params.toList args.toList ds p := hA0
  rw [paramsDeskOk] at hA hval
  obtain ⟨v0, d0, rfl, rfl, h0⟩ := trodAll_one hA
  obtain ⟨rfl, rfl⟩ := trodVars_none hV
  have h0k := h0
  obtain ⟨D0, hm0⟩ := open_desk (hval 0 44 v0 rfl rfl) h0
  clear hA0 hval0
  simp only [List.append_nil] at hW'
  have hlt0 : ∀ x ∈ p, x.block < W.heap.size := fun x hx => hW'.lt x (by exact hx)
  refine (law_ExactDeskOk hm0).mono fun e W' ⟨he, hb⟩ => ?_
  subst he
  exact ⟨_, rfl, post_of_below (pa := p) (pv := []) hW' (fun _ _ _ => by rw [resultsDeskOk]; exact trodAll_mk1 (shut_bool Try.underlying4 true))
    (fun sp hsp => by
      have hr0 := WideElems.Trod_stays (P := Try.prog) progLaid (by kernel_rfl) (of_decide_eq_true (by kernel_rfl)) h0k (fun x hx => hb.same (hlt0 x hx)) (fun x hx => hsp x (by exact hx))
      rw [paramsDeskOk]
      have hh := trodAll_mk1 hr0
      exact hh)
    (fun _ _ => rfl) (by simp) hb (ok_one resultsDeskOk rfl (okWide_bool_mk Try.underlying4 true))⟩

set_option maxRecDepth 100000 in
theorem closedDeskOk : joinedFacts Try.checked.prog 5 Try.f5 Rows.fnExactDeskOkSpec Rows.fnExactDeskOkRow = true := by
  delta joinedFacts
  rw [may_enter, lifts_final, make_cut]
  kernel_rfl

theorem exactDeskOk_holds : Rows.FnExactDeskOkSaid :=
  OpenClaim.holds_of_wide 5 Try.f5 rfl rfl rfl rfl rfl rfl rfl ⟨rfl, rfl, rfl, rfl, rfl⟩ rfl rfl rfl rfl rfl (by kernel_rfl) Try.func5 closedDeskOk
    (of_decide_eq_true (by kernel_rfl)) (by unfold Func.isWrapper; rw [if_neg (by decide +kernel)]; exact ⟨rfl, rfl⟩)
    (fun os started H enc _ => exactDeskOk_lifted os started H enc)
end Go.Proofs.Ytojcgmgponnlpaa
