import Derived.Test.YtojcgmgponnlpaaZWv
import Derived.Test.YtojcgmgponnlpaaZDa
import Derived.Test.YtojcgmgponnlpaaZWc
import Derived.Test.YtojcgmgponnlpaaZGa
import Derived.Test.YtojcgmgponnlpaaZDko
import Derived.Test.YtojcgmgponnlpaaZDkf
import Derived.Test.YtojcgmgponnlpaaZDla
import Derived.Test.YtojcgmgponnlpaaZKl
namespace Go.Proofs.Ytojcgmgponnlpaa
open Go.RowKit Go.Deep

end Go.Proofs.Ytojcgmgponnlpaa
namespace Go.Proofs.Ytojcgmgponnlpaa
open Go.RowKit Go.Deep

def oneM (x : Int) : Mx := ⟨1, fun _ => 1, fun _ _ => x⟩
def oneLay (N : Nat) : Lay := ⟨N + 1, 0, 1, fun _ => some ⟨N, 0, none⟩, fun _ => 1, fun _ => N, fun _ => 0⟩
theorem one_at (w : World) (x : Int) : MatAt ((w.alloc (.cells #[.int .i64 x] 3)).alloc (.cells #[.slice (some ⟨w.heap.size, 0, none⟩) 1 1] 24)) (w.heap.size + 2) (some ⟨w.heap.size + 1, 0, none⟩) (oneLay w.heap.size) (oneM x) := by
  have b0 := (Boxed.new w 3 (.int .i64 x)).alloc (.cells #[.slice (some ⟨w.heap.size, 0, none⟩) 1 1] 24)
  have b1 := Boxed.new (w.alloc (.cells #[.int .i64 x] 3)) 24 (.slice (some ⟨w.heap.size, 0, none⟩) 1 1)
  rw [World.size_alloc] at b1
  refine ⟨fun r hr => ?_, fun r hr c hc => ?_⟩
  · have hr' : r < 1 := hr
    obtain rfl : r = 0 := by omega
    exact ⟨rfl, by show w.heap.size + 1 < _; omega, b1.cell⟩
  · have hc' : c < 1 := hc
    obtain rfl : c = 0 := by omega
    exact ⟨rfl, by show w.heap.size < _; omega, b0.cell⟩
theorem one_order : orderB (oneM 1) = true := orderB_true ⟨Nat.le_refl 1, by show 1 ≤ 12; omega, ⟨fun _ _ => rfl, fun _ _ _ _ => .inr rfl⟩, fun _ _ => rfl, fun a b ha hb hne => by
  have ha' : a < 1 := ha
  have hb' : b < 1 := hb
  exact absurd (by omega) hne, fun _ _ _ _ _ _ _ _ => rfl⟩
theorem zero_order : orderB (oneM 0) = false := orderB_false fun h => by
  have : (0 : Int) = 1 := h.refl 0 (by show 0 < 1; omega)
  omega
theorem OrderOk_one (w : World) (x : Int) : Calls Try.prog 29 #[.slice (some ⟨w.heap.size + 1, 0, none⟩) 1 1] ((w.alloc (.cells #[.int .i64 x] 3)).alloc (.cells #[.slice (some ⟨w.heap.size, 0, none⟩) 1 1] 24)) fun e w' =>
    e = .returned (.bool (orderB (oneM x))) ∧ Below (w.heap.size + 2) ((w.alloc (.cells #[.int .i64 x] 3)).alloc (.cells #[.slice (some ⟨w.heap.size, 0, none⟩) 1 1] 24)) w' :=
  (OrderOk_any (m := oneM x) (l := oneLay w.heap.size) (by show 1 ≤ _; omega) (fun _ _ => by show 1 ≤ _; omega) (one_at w x) (by simp)).mono fun _ _ ⟨he, hb⟩ => ⟨he, hb.mono (by simp)⟩

set_option maxHeartbeats 400000 in
theorem alive_any (w : World) : Calls Try.prog 10 #[] w fun e w' => e = .returned (.bool true) ∧ Below w.heap.size w w' := by
  go_enter Try.func10, Try.ntmps10
  go_wp2_with fail
  go_at_call 29
  refine (OrderOk_one w 1).mono ?_
  rintro e w1 ⟨rfl, hb1⟩
  rw [one_order]
  have B1 : Below w.heap.size w w1 := (((Below.refl w.heap.size w).alloc (Nat.le_refl _) _).alloc (by simp) _).trans (hb1.mono (by omega))
  clear hb1
  go_wp2_with fail
  go_at_call 29
  refine (OrderOk_one w1 0).mono ?_
  rintro e w2 ⟨rfl, hb2⟩
  rw [zero_order]
  have B2 : Below w.heap.size w w2 := ((B1.alloc B1.size _).alloc (by have := B1.size; simp; omega) _).trans (hb2.mono (by have := B1.size; omega))
  clear hb2
  go_wp2_with fail
  go_ret
  exact ⟨rfl, B2⟩

end Go.Proofs.Ytojcgmgponnlpaa
namespace Go.Proofs.Ytojcgmgponnlpaa
open Go.RowKit Go.Deep

end Go.Proofs.Ytojcgmgponnlpaa
namespace Go.Proofs.Ytojcgmgponnlpaa
open Go.RowKit Go.Deep Go.Joins

end Go.Proofs.Ytojcgmgponnlpaa
namespace Go.Proofs.Ytojcgmgponnlpaa
open Go.RowKit Go.Deep Go.Joins

/-- A desk drawn, in memory of the call's own. -/
def DrewD (w : World) (e : Ending) (w' : World) : Prop := ∃ (v : Value) (D : Dk Lc), e = .returned v ∧ DeskAt w' w'.heap.size v D ∧ Below w.heap.size w w'
set_option maxRecDepth 100000 in
set_option maxHeartbeats 400000 in
theorem draw_DeskOk {A : Option Addr} {b o n cap : Nat} {z : Nat → Nat} {w : World} (h : CodeAt w A b o n cap z) :
    Calls Try.prog 7 #[.slice A n cap] w (DrewD w) := by
  have hT := ThreeAt.new w (.slice none 0 0) (.slice none 0 0) (.slice none 0 0) 29
  have hbA := (Below.refl w.heap.size w).alloc (Nat.le_refl _) (.cells #[.slice none 0 0, .slice none 0 0, .slice none 0 0] 29)
  have hc := h.alloc (.cells #[.slice none 0 0, .slice none 0 0, .slice none 0 0] 29)
  have hsA : (w.alloc (.cells #[.slice none 0 0, .slice none 0 0, .slice none 0 0] 29)).heap.size = w.heap.size + 1 := by simp
  clear h
  go_enter Try.func7, Try.ntmps7
  go_wp2_with fail
  generalize w.alloc (.cells #[.slice none 0 0, .slice none 0 0, .slice none 0 0] 29) = w0 at hT hbA hc hsA ⊢
  go_at_call 24
  refine (l20Open_any hc).mono ?_
  rintro e w1 ⟨A1, b1, o1, n1, c1, z1, rfl, hn1, hR, hz, hb, hs⟩
  have hT1 := hT.below hb (by omega)
  rw [hsA] at hR hz
  have hs' : w.heap.size + 1 < w1.heap.size := by omega
  clear hc hT hs
  go_wp2_with fail
  go_at_call 23
  refine (l20Desk_any (p := 0) (by omega) (by omega) (by omega) hn1 hR hz (Nat.le_refl _) hs').mono ?_
  rintro e w2 ⟨v, D, p', rfl, hst, hk, hR2, hp, hC⟩
  have hT2 := hC.three hT1 (by show ¬ (w.heap.size = w.heap.size + 1); omega)
  obtain ⟨ua, l, na, g, o2, nc, pa, pg, po, pc, rfl, _⟩ := id (hst w2 (Chg.refl _ _))
  have hc3 := Chg.set3 w2 w.heap.size (.slice ua D.now.m.n l.cap) (.slice na D.now.k nc) (.slice pa D.past.length pc)
  have hall : Hid (DrewD w (.returned (.agg #[.slice ua D.now.m.n l.cap, .slice na D.now.k nc, .slice pa D.past.length pc])) (((w2.setCell ⟨w.heap.size, 0, none⟩ (.slice ua D.now.m.n l.cap)).setCell ⟨w.heap.size, 1, none⟩ (.slice na D.now.k nc)).setCell ⟨w.heap.size, 2, none⟩ (.slice pa D.past.length pc))) := ⟨_, D, rfl, hst _ (hc3.mono fun j hj => (by have hj' : j = w.heap.size := hj; show j < w1.heap.size; omega)), ((hbA.trans (hb.mono (by omega))).trans (hC.below (B := w.heap.size) (by omega) fun j hj => (by have hj' : j = w.heap.size + 1 := hj; omega))).trans (hc3.below (B := w.heap.size) (by have := hC.size; omega) fun j hj => (by have hj' : j = w.heap.size := hj; omega))⟩
  have hfin := ((hT2.put0 (.slice ua D.now.m.n l.cap)).put1 (.slice na D.now.k nc)).put2 (.slice pa D.past.length pc)
  have t0 := hfin.c0
  have t1 := hfin.c1
  have t2 := hfin.c2
  have e0 := hT2.c0
  have e1 := hT2.c1
  have e2 := hT2.c2
  have e3 := hT2.f0
  have e4 := hT2.f1
  have e5 := hT2.f2
  clear hT1 hT2 hfin hst hR hz hR2 hC hc3
  go_wp2_with fail
  exact bodyPost_ret (v := .agg #[.slice ua D.now.m.n l.cap, .slice na D.now.k nc, .slice pa D.past.length pc]) (by simp [results, Try.results7, go_sem, t0, t1, t2]) rfl hall.out

theorem okB_alone {D : Dk Lc} (h : D.okB = true) : (⟨D.now, []⟩ : Dk Lc).okB = true := by
  unfold Dk.okB at h ⊢
  rw [Bool.and_eq_true, Bool.and_eq_true] at h
  rw [Bool.and_eq_true, Bool.and_eq_true]
  exact ⟨⟨rfl, h.1.2⟩, rfl⟩
set_option maxRecDepth 100000 in
set_option maxHeartbeats 4000000 in
theorem law_DeskOk {A : Option Addr} {b o n cap : Nat} {z : Nat → Nat} {w : World} (h : CodeAt w A b o n cap z) :
    Calls Try.prog 3 #[.slice A n cap] w fun e w' => e = .returned (.bool true) ∧ Below w.heap.size w w' := by
  have hn := h.hn
  have hc := h.hc
  by_cases hbig : 1048576 < n
  · have hbig' : (1048576 : Int) < n := by omega
    clear h
    go_enter Try.func3, Try.ntmps3
    go_wp2_with fail
    go_ret
    exact ⟨rfl, Below.refl _ _⟩
  · have hbig' : ¬ (1048576 : Int) < n := by omega
    go_enter Try.func3, Try.ntmps3
    go_wp2_with fail
    go_at_call 7
    refine (draw_DeskOk h).mono ?_
    rintro e w1 ⟨v, D, rfl, hA, b1⟩
    clear h
    obtain ⟨ua, l, na, g, o', nc, pa, pg, po, pc, rfl, hL, hP, h63⟩ := id hA
    have Y := BoxN.start w1 #[.slice ua D.now.m.n l.cap, .slice na D.now.k nc, .slice pa D.past.length pc] 29
    have A2 := Lib.hid (hA.step Y.below)
    have N2 : Hid (DeskAt (w1.alloc (.cells #[.slice ua D.now.m.n l.cap, .slice na D.now.k nc, .slice pa D.past.length pc] 29)) w1.heap.size (.agg #[.slice ua D.now.m.n l.cap, .slice na D.now.k nc, .slice none 0 0]) ⟨D.now, []⟩) := DeskAt.step ⟨ua, l, na, g, o', nc, none, 0, 0, 0, rfl, hL, PsAt.nil w1 w1.heap.size none 0 0, Nat.zero_le _⟩ Y.below
    have B2 := b1.trans (Y.below.mono b1.size)
    obtain ⟨ok, eok⟩ : ∃ ok, D.okB = ok := ⟨_, rfl⟩
    have HA : Hid (ok = true → (⟨D.now, []⟩ : Dk Lc).okB = true) := fun h => okB_alone (by rw [eok]; exact h)
    have HOK := Lib.hid eok
    clear hA hL hP eok
    go_wp2_with fail
    generalize w1.alloc (.cells #[.slice ua D.now.m.n l.cap, .slice na D.now.k nc, .slice pa D.past.length pc] 29) = w2 at Y A2 N2 B2 ⊢
    have q0 := Y.cell 0 rfl
    have q1 := Y.cell 1 rfl
    have q2 := Y.cell 2 rfl
    go_wp2_with fail
    go_at_call 8
    refine (DeskOk_any A2.out).mono ?_
    rintro e w3 ⟨rfl, b3⟩
    rw [HOK.out]
    have Y3 := Y.step b3
    have A3 := Lib.hid (A2.out.step b3)
    have N3 := Lib.hid (N2.out.step b3)
    have B3 := B2.trans (b3.mono B2.size)
    clear q0 q1 q2 Y A2 N2
    have q0 := Y3.cell 0 rfl
    have q1 := Y3.cell 1 rfl
    have q2 := Y3.cell 2 rfl
    go_wp2_with fail
    go_at_call 9
    refine (spec_DeskOk A3.out).mono ?_
    rintro e w4 ⟨rfl, b4⟩
    rw [HOK.out]
    have Y4 := Y3.step b4
    have N4 := Lib.hid (N3.out.step b4)
    have B4 := B3.trans (b4.mono B3.size)
    clear q0 q1 q2 Y3 A3 N3
    have q0 := Y4.cell 0 rfl
    have q1 := Y4.cell 1 rfl
    have q2 := Y4.cell 2 rfl
    have HZN : ∀ w : World, Hid (DeskAt w w.heap.size (.agg #[.slice none 0 0, .slice none 0 0, .slice none 0 0]) zeroD) := fun w => (zeroO w w.heap.size (Nat.le_refl _)).at_
    cases ok with
    | true =>
      have HAL := Lib.hid (HA.out rfl)
      clear HA
      go_wp2_with fail
      go_at_call 8
      refine (DeskOk_any N4.out).mono ?_
      rintro e w5 ⟨rfl, b5⟩
      rw [HAL.out]
      have B5 := B4.trans (b5.mono B4.size)
      clear q0 q1 q2 Y4 N4
      go_wp2_with fail
      go_at_call 8
      refine (DeskOk_any (HZN _).out).mono ?_
      rintro e w6 ⟨rfl, b6⟩
      rw [zeroD_no]
      have B6 := B5.trans (b6.mono B5.size)
      go_wp2_with fail
      go_at_call 10
      refine (alive_any _).mono ?_
      rintro e w7 ⟨rfl, b7⟩
      go_wp2_with fail
      go_ret
      exact ⟨rfl, B6.trans (b7.mono B6.size)⟩
    | false =>
      clear HA
      go_wp2_with fail
      go_at_call 8
      refine (DeskOk_any (HZN _).out).mono ?_
      rintro e w6 ⟨rfl, b6⟩
      rw [zeroD_no]
      have B6 := B4.trans (b6.mono B4.size)
      clear q0 q1 q2 Y4 N4
      go_wp2_with fail
      go_at_call 10
      refine (alive_any _).mono ?_
      rintro e w7 ⟨rfl, b7⟩
      go_wp2_with fail
      go_ret
      exact ⟨rfl, B6.trans (b7.mono B6.size)⟩
end Go.Proofs.Ytojcgmgponnlpaa
namespace Go.Proofs.Ytojcgmgponnlpaa
open Go.ChangeShapes Go.WideShapes Go.ChangeAt Go.RowKit Go.Deep

theorem paramsQzl : Try.f3.params = #[22] := by kernel_rfl
theorem resultsQzl : Try.f3.resultTypes = #[4] := by kernel_rfl

set_option maxRecDepth 100000 in
theorem codeDeskOk_lifted (os : Os) (started : os.Started) (H : Type) (enc : TypeId × Value → H) :
    ReturnsInHanded {} Try.checked os 3 .any (Rows.fnDeskOkSpec.pre6 enc Try.prog Try.f3 Rows.fnDeskOkRow.domain false) (Rows.fnDeskOkSpec.post enc Try.prog Try.f3 false true false false) := by
  refine returnsInHanded_of_change (C := Try.checked) progOwn started (by kernel_rfl) Try.func3
    (ChangeSpec.witness6 (enc := enc) (C := Try.checked) false ⟨#[], #[.slice none 0 0], []⟩ 8 (by kernel_rfl) (by kernel_rfl) (by kernel_rfl) (by kernel_rfl)) ?_
  intro W base args ds gs before hval0 hW hcnd _
  have hval : ∀ (j : Nat) t v, Try.f3.params[j]? = some t → args[j]? = some v → Value.okWide Try.prog W .any base t v := hval0
  have hW' := hW
  obtain ⟨p, q, hA0, hV, rfl, hfz, hnd⟩ := hW
  have hA : DataW.TrodAll enc Try.prog W 0 (fun _ => true) true Try.f3.params.toList args.toList ds p := hA0
  rw [paramsQzl] at hA hval
  obtain ⟨v0, d0, rfl, rfl, h0⟩ := trodAll_one hA
  obtain ⟨rfl, rfl⟩ := trodVars_none hV
  obtain ⟨a0, len, cap, rfl⟩ := okWide_slice Try.underlying22 (hval 0 22 v0 rfl rfl)
  have h0k := h0
  obtain ⟨fuel, hf⟩ := h0
  obtain ⟨b, o, z, hm⟩ := open_code (H := H) (enc := enc) hf
  clear hA0 hval0
  simp only [List.append_nil] at hW'
  have hlt : ∀ x ∈ p, x.block < W.heap.size := fun x hx => hW'.lt x hx
  refine (law_DeskOk hm).mono fun e W' ⟨he, hb⟩ => ?_
  subst he
  exact ⟨_, rfl, post_of_below (pa := p) (pv := []) hW' (fun _ _ _ => by rw [resultsQzl]; exact trodAll_mk1 (shut_bool Try.underlying4 true))
    (fun sp hsp => by rw [paramsQzl]; exact trodAll_mk1 (WideElems.Trod_stays progLaid (by kernel_rfl) (of_decide_eq_true (by kernel_rfl)) h0k (fun x hx => hb.same (hlt x hx)) (fun x hx => hsp x hx)))
    (fun _ _ => rfl) (by simp) hb (ok_one resultsQzl rfl (okWide_bool_mk Try.underlying4 true))⟩

set_option maxRecDepth 100000 in
theorem closedQzl : joinedFacts Try.checked.prog 3 Try.f3 Rows.fnDeskOkSpec Rows.fnDeskOkRow = true := by
  delta joinedFacts
  rw [may_enter, lifts_final, make_cut]
  kernel_rfl

theorem codeDeskOk_holds : Rows.FnDeskOkSaid :=
  OpenClaim.holds_of_wide 3 Try.f3 rfl rfl rfl rfl rfl rfl rfl ⟨rfl, rfl, rfl, rfl, rfl⟩ rfl rfl rfl rfl rfl (by kernel_rfl) Try.func3 closedQzl
    (of_decide_eq_true (by kernel_rfl)) (by unfold Func.isWrapper; rw [if_neg (by decide +kernel)]; exact ⟨rfl, rfl⟩)
    (fun os started H enc _ => codeDeskOk_lifted os started H enc)
end Go.Proofs.Ytojcgmgponnlpaa
