/- Proved: whatever logic is handed over, and whatever number, the law that BlocksWith answers as its reference does, and leaves its argument alone, returns true; the arguments read behind the call as before. Condition: the library table of math/bits reads as the program lays it (tied by the card). -/
import Derived.Test.YtnbglbhfclohjaaDoorKl
import Derived.Test.YtnbglbhfclohjaaDoorMs
import Derived.Carry
import Derived.Test.YtnbglbhfclohjaaDoorYt
import Derived.Test.YtnbglbhfclohjaaDoorCards
import Derived.Test.YtnbglbhfclohjaaDoorTie
namespace Go.Proofs.YtnbglbhfclohjaaDoor
open Go.ChangeShapes Go.WideShapes Go.ChangeAt Go.RowKit Go.Deep

theorem paramsBlocksWith : Tryd.f10.params = #[44, 3] := by kernel_rfl
theorem resultsBlocksWith : Tryd.f10.resultTypes = #[4] := by kernel_rfl

set_option maxRecDepth 100000 in
theorem exactBlocksWith_lifted (os : Os) (started : os.Started) (H : Type) (enc : TypeId × Value → H) :
    ReturnsInHanded {} Tryd.checked os 10 .any (fun w args => (Rows.fnExactBlocksWithSpec.pre enc Tryd.prog Tryd.f10 [] false w args ∧ laidMetH Tryd.prog laidTabs w) ∧ sizedMet enc Tryd.prog Tryd.f10 (OpenSpec.ofChange Rows.fnExactBlocksWithSpec) false w args) (Rows.fnExactBlocksWithSpec.post enc Tryd.prog Tryd.f10 false true false false) := by
  refine returnsInHanded_of_change_and (C := Tryd.checked) (X := fun w _ => laidMetH Tryd.prog laidTabs w) (fun _ _ _ hh h => h.of_heap hh) progOwn started (by kernel_rfl) Tryd.func10
    (ChangeSpec.witness_shaped (enc := enc) (C := Tryd.checked) (os := os) (X := fun w _ => laidMetH Tryd.prog laidTabs w) false (World.doorLaid Tryd.prog 19 os) #[.agg #[.slice none 0 0, .slice none 0 0], .int .i64 0] 8 rfl (World.shaped_of_RefB (by kernel_rfl) (by kernel_rfl)) (by kernel_rfl) (by kernel_rfl) (by kernel_rfl) (door_met os _)) ?_
  intro W base args ds gs before hval0 hW _ _ hL _
  have hval : ∀ (j : Nat) t v, Tryd.f10.params[j]? = some t → args[j]? = some v → Value.okWide Tryd.prog W .any base t v := hval0
  have hW' := hW
  obtain ⟨p, q, hA0, hV, rfl, hfz, hnd⟩ := hW
  have hA : DataW.TrodAll enc Tryd.prog W 0 (fun _ => true) true Tryd.f10.params.toList args.toList ds p := hA0
  rw [paramsBlocksWith] at hA hval
  obtain ⟨v0, v1, d0, d1, p0, p1, rfl, rfl, rfl, h0, h1⟩ := trodAll_two hA
  obtain ⟨rfl, rfl⟩ := trodVars_none hV
  obtain ⟨x, rfl, rfl, rfl, wx⟩ := open_int Tryd.underlying3 (hval 1 3 v1 rfl rfl) h1
  have h0k := h0
  obtain ⟨ua, l, m, na, g, o, k, nc, z, rfl, hm⟩ := open_logic (hval 0 44 v0 rfl rfl) h0
  clear hA0 hval0
  simp only [List.append_nil] at hW'
  have hlt : ∀ x ∈ p0, x.block < W.heap.size := fun x hx => hW'.lt x (by simpa using hx)
  refine (law_ExactBlocksWith hm (tab_of_laid hL)).mono fun e W' ⟨he, hb⟩ => ?_
  subst he
  exact ⟨_, rfl, post_of_below (pa := p0) (pv := []) hW' (fun _ _ _ => by rw [resultsBlocksWith]; exact trodAll_mk1 (shut_bool Tryd.underlying4 true))
    (fun sp hsp => by
      have hr := WideElems.Trod_stays (P := Tryd.prog) progLaid (by kernel_rfl) (of_decide_eq_true (by kernel_rfl)) h0k (fun x hx => hb.same (hlt x hx)) (fun x hx => hsp x (by simpa using hx))
      rw [paramsBlocksWith]
      have hh := trodAll_mk2 hr (shut_int Tryd.underlying3 wx)
      simp only [List.append_nil] at hh
      exact hh)
    (fun _ _ => rfl) (by simp) hb (ok_one resultsBlocksWith rfl (okWide_bool_mk Tryd.underlying4 true))⟩

set_option maxRecDepth 100000 in
theorem closedBlocksWith : joinedFacts Tryd.checked.prog 10 Tryd.f10 Rows.fnExactBlocksWithSpec Rows.fnExactBlocksWithRow = true := by
  delta joinedFacts
  rw [may_enter, lifts_final, make_cut]
  kernel_rfl

theorem exactBlocksWith_holds : Rows.FnExactBlocksWithSaid :=
  OpenClaim.holds_of_wide 10 Tryd.f10 rfl rfl rfl rfl rfl rfl rfl ⟨rfl, rfl, rfl, rfl, rfl⟩ rfl rfl rfl rfl rfl (by kernel_rfl) Tryd.func10 closedBlocksWith
    (of_decide_eq_true (by kernel_rfl)) (by unfold Func.isWrapper; rw [if_neg (by decide +kernel)]; exact ⟨rfl, rfl⟩)
    (fun os started H enc _ => exactBlocksWith_lifted os started H enc)

theorem exactBlocksWith_card : Rows.FnExactBlocksWithCardSaid :=
  Claim7.holds_tied_plain_at .later [] [.data, .data] true _ false
    exactBlocksWith_holds (fun _ h => by cases h) (by kernel_rfl) (fun _ h => by cases h) fnExactBlocksWith_row_tie rfl ⟨rfl, rfl⟩ (by kernel_rfl) rfl
    (fun f fn hf hfn => by
      obtain rfl : f = 10 := Option.some.inj ((show Tryd.prog.funcNamed "loop.example/orthologics/laws.FnExactBlocksWith" = some 10 by kernel_rfl).symm.trans hf) |>.symm
      obtain rfl : fn = Tryd.f10 := (Option.some.inj (Tryd.func10.symm.trans hfn)).symm
      exact ⟨by kernel_rfl, fun j t ht => by
        rw [paramsBlocksWith] at ht
        have hm : t ∈ [44, 3] := by simpa using Array.mem_of_getElem? ht
        have hall : ([44, 3].all fun u => !Tryd.prog.wantsStandIn u) = true := by kernel_rfl
        exact (show Tryd.prog.wantsStandIn t = false by simpa using List.all_eq_true.1 hall t hm)⟩)
    (by kernel_rfl)
end Go.Proofs.YtnbglbhfclohjaaDoor
