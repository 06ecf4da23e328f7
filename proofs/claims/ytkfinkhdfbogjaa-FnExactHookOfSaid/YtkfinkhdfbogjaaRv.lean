/- Proved: whatever logic is handed over, and whatever two numbers, the law that HookOf answers as its reference does, and leaves its argument alone, returns true; the arguments read behind the call as before. No condition. -/
import Derived.Test.YtkfinkhdfbogjaaKl
import Derived.Test.YtkfinkhdfbogjaaMv
import Derived.Carry
namespace Go.Proofs.Ytkfinkhdfbogjaa
open Go.ChangeShapes Go.WideShapes Go.ChangeAt Go.RowKit Go.Deep

theorem paramsHookOf : Try.f8.params = #[45, 3, 3] := by kernel_rfl
theorem resultsHookOf : Try.f8.resultTypes = #[4] := by kernel_rfl

set_option maxRecDepth 100000 in
theorem exactHookOf_lifted (os : Os) (started : os.Started) (H : Type) (enc : TypeId × Value → H) :
    ReturnsInHanded {} Try.checked os 8 .any (Rows.fnExactHookOfSpec.pre6 enc Try.prog Try.f8 Rows.fnExactHookOfRow.domain false) (Rows.fnExactHookOfSpec.post enc Try.prog Try.f8 false true false false) := by
  refine returnsInHanded_of_change (C := Try.checked) progOwn started (by kernel_rfl) Try.func8
    (ChangeSpec.witness6 (enc := enc) (C := Try.checked) false ⟨#[], #[.agg #[.slice none 0 0, .slice none 0 0], .int .i64 0, .int .i64 0], []⟩ 8 (by kernel_rfl) (by kernel_rfl) (by kernel_rfl) (by kernel_rfl)) ?_
  intro W base args ds gs before hval0 hW hcnd _
  have hval : ∀ (j : Nat) t v, Try.f8.params[j]? = some t → args[j]? = some v → Value.okWide Try.prog W .any base t v := hval0
  have hW' := hW
  obtain ⟨p, q, hA0, hV, rfl, hfz, hnd⟩ := hW
  have hA : DataW.TrodAll enc Try.prog W 0 (fun _ => true) true Try.f8.params.toList args.toList ds p := hA0
  rw [paramsHookOf] at hA hval
  obtain ⟨v0, v1, v2, d0, d1, d2, p0, p1, p2, rfl, rfl, rfl, h0, h1, h2⟩ := trodAll_three hA
  obtain ⟨rfl, rfl⟩ := trodVars_none hV
  obtain ⟨x, rfl, rfl, rfl, wx⟩ := open_int Try.underlying3 (hval 1 3 v1 rfl rfl) h1
  obtain ⟨y, rfl, rfl, rfl, wy⟩ := open_int Try.underlying3 (hval 2 3 v2 rfl rfl) h2
  have h0k := h0
  obtain ⟨ua, l, m, na, g, o, k, nc, z, rfl, hm⟩ := open_logic (hval 0 45 v0 rfl rfl) h0
  clear hA0 hval0
  simp only [List.append_nil] at hW'
  have hlt : ∀ x ∈ p0, x.block < W.heap.size := fun x hx => hW'.lt x (by simpa using hx)
  refine (law_ExactHookOf hm).mono fun e W' ⟨he, hb⟩ => ?_
  subst he
  exact ⟨_, rfl, post_of_below (pa := p0) (pv := []) hW' (fun _ _ _ => by rw [resultsHookOf]; exact trodAll_mk1 (shut_bool Try.underlying4 true))
    (fun sp hsp => by
      have hr := WideElems.Trod_stays (P := Try.prog) progLaid (by kernel_rfl) (of_decide_eq_true (by kernel_rfl)) h0k (fun x hx => hb.same (hlt x hx)) (fun x hx => hsp x (by simpa using hx))
      rw [paramsHookOf]
      have hh := trodAll_mk3 hr (shut_int Try.underlying3 wx) (shut_int Try.underlying3 wy)
      simp only [List.append_nil] at hh
      exact hh)
    (fun _ _ => rfl) (by simp) hb (ok_one resultsHookOf rfl (okWide_bool_mk Try.underlying4 true))⟩

set_option maxRecDepth 100000 in
theorem closedHookOf : joinedFacts Try.checked.prog 8 Try.f8 Rows.fnExactHookOfSpec Rows.fnExactHookOfRow = true := by
  delta joinedFacts
  rw [may_enter, lifts_final, make_cut]
  kernel_rfl

theorem exactHookOf_holds : Rows.FnExactHookOfSaid :=
  OpenClaim.holds_of_wide 8 Try.f8 rfl rfl rfl rfl rfl rfl rfl ⟨rfl, rfl, rfl, rfl, rfl⟩ rfl rfl rfl rfl rfl (by kernel_rfl) Try.func8 closedHookOf
    (of_decide_eq_true (by kernel_rfl)) (by unfold Func.isWrapper; rw [if_neg (by decide +kernel)]; exact ⟨rfl, rfl⟩)
    (fun os started H enc _ => exactHookOf_lifted os started H enc)
end Go.Proofs.Ytkfinkhdfbogjaa
