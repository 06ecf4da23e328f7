/- Proved: whatever rows are handed over, the law that TurnedOf answers as its reference does, and leaves its argument alone, returns true; the arguments read behind the call as before. No condition. -/
import Derived.Test.YtmgcgkfjmkgfeaaKit
import Derived.Test.YtmgcgkfjmkgfeaaLd
namespace Go.Proofs.Ytmgcgkfjmkgfeaa
open Go.ChangeShapes Go.WideShapes Go.ChangeAt Go.RowKit Go.Deep

theorem paramsTurnedOf : Try.f15.params = #[23] := by kernel_rfl
theorem resultsTurnedOf : Try.f15.resultTypes = #[4] := by kernel_rfl

set_option maxRecDepth 100000 in
theorem exactTurnedOf_lifted (os : Os) (started : os.Started) (H : Type) (enc : TypeId × Value → H) :
    ReturnsInHanded {} Try.checked os 15 .any (Rows.fnExactTurnedOfSpec.pre6 enc Try.prog Try.f15 Rows.fnExactTurnedOfRow.domain false) (Rows.fnExactTurnedOfSpec.post enc Try.prog Try.f15 false true false false) := by
  refine returnsInHanded_of_change (C := Try.checked) progOwn started (by kernel_rfl) Try.func15
    (ChangeSpec.witness6 (enc := enc) (C := Try.checked) false ⟨#[], #[.slice none 0 0], []⟩ 8 (by kernel_rfl) (by kernel_rfl) (by kernel_rfl) (by kernel_rfl)) ?_
  intro W base args ds gs before hval0 hW hcnd _
  have hval : ∀ (j : Nat) t v, Try.f15.params[j]? = some t → args[j]? = some v → Value.okWide Try.prog W .any base t v := hval0
  have hW' := hW
  obtain ⟨p, q, hA0, hV, rfl, hfz, hnd⟩ := hW
  have hA : DataW.TrodAll enc Try.prog W 0 (fun _ => true) true Try.f15.params.toList args.toList ds p := hA0
  rw [paramsTurnedOf] at hA hval
  obtain ⟨v0, d0, rfl, rfl, h0⟩ := trodAll_one hA
  obtain ⟨rfl, rfl⟩ := trodVars_none hV
  obtain ⟨a0, len, cap, rfl⟩ := okWide_slice Try.underlying23 (hval 0 23 v0 rfl rfl)
  have h0k := h0
  obtain ⟨fuel, hf⟩ := h0
  obtain ⟨l, m, rfl, rfl, hm⟩ := open_mx (H := H) (enc := enc) hf
  clear hA0 hval0
  simp only [List.append_nil] at hW'
  have hlt : ∀ x ∈ p, x.block < W.heap.size := fun x hx => hW'.lt x (by simpa using hx)
  refine (law_ExactTurnedOf hm).mono fun e W' ⟨he, hb⟩ => ?_
  subst he
  exact ⟨_, rfl, post_of_below (pa := p) (pv := []) hW' (fun _ _ _ => by rw [resultsTurnedOf]; exact trodAll_mk1 (shut_bool Try.underlying4 true))
    (fun sp hsp => by
      have hr := WideElems.Trod_stays (P := Try.prog) progLaid (by kernel_rfl) (of_decide_eq_true (by kernel_rfl)) h0k (fun x hx => hb.same (hlt x hx)) (fun x hx => hsp x (by simpa using hx))
      rw [paramsTurnedOf]
      exact trodAll_mk1 hr)
    (fun _ _ => rfl) (by simp) hb (ok_one resultsTurnedOf rfl (okWide_bool_mk Try.underlying4 true))⟩

theorem exactTurnedOf_holds : Rows.FnExactTurnedOfSaid :=
  OpenClaim.holds_of_wide 15 Try.f15 rfl rfl rfl rfl rfl rfl rfl ⟨rfl, rfl, rfl, rfl, rfl⟩ rfl rfl rfl rfl rfl (by kernel_rfl) Try.func15 (by kernel_rfl)
    (of_decide_eq_true (by kernel_rfl)) (by unfold Func.isWrapper; rw [if_neg (by decide +kernel)]; exact ⟨rfl, rfl⟩)
    (fun os started H enc _ => exactTurnedOf_lifted os started H enc)
end Go.Proofs.Ytmgcgkfjmkgfeaa
