/- The walk of the program's LatticeOk: it ranges over all pairs. -/
import Derived.Test.YtgjacinolenheaaWr
namespace Go.Proofs.Ytgjacinolenheaa
open Go.RowKit Go.Deep Go.Shelf

attribute [local go_sem] Oper.semAt_some

set_option maxRecDepth 100000 in
set_option maxHeartbeats 1000000 in
theorem LatticeOk_no {B : Nat} {sa : Option Addr} {l : Lay} {m : Mx} {w : World} (hn : m.n ≤ 9223372036854775807) (hL : ∀ r, r < m.n → m.L r ≤ 9223372036854775807) (h : MatAt w B sa l m) (hB : B ≤ w.heap.size) (ho : orderB m = false) :
    Calls Try.prog 53 #[.slice sa m.n l.cap] w fun e w' => e = .returned (.bool (latticeB m)) ∧ Below w.heap.size w w' := by
  have HL := Lib.hid hL
  have HR : Hid (false = latticeB m) := (latticeB_false fun h => orderB_not ho h.order).symm
  have HO := Lib.hid ho
  have h1 := h.alloc hB (.cells #[.bool false] 4)
  have hX := Boxd.start w (.bool false) 4
  clear hL ho h
  go_enter Try.func53, Try.ntmps53
  go_wp2_with fail
  go_at_call 58
  refine (orderWith_no hn HL.out h1 (by simp; omega) HO.out).mono ?_
  rintro e w1 ⟨rfl, hw1⟩
  have hX1 := (hX.step hw1).step ((Below.refl _ _).alloc (Nat.le_refl _) (.cells #[.slice none 0 0] 62))
  have c1 := hX1.cell
  have f1 := hX1.frozen
  have hb := hX1.below
  go_wp2_with fail
  exact bodyPost_ret (v := .bool false) (by simp [results, Try.results53, go_sem, c1]) rfl ⟨ret_bool HR.out, hb.setCell (p := ⟨w.heap.size, 0, none⟩) (Nat.le_refl _) _⟩

set_option maxRecDepth 100000 in
set_option maxHeartbeats 2000000 in
theorem LatticeOk_yes {B : Nat} {sa : Option Addr} {l : Lay} {m : Mx} {w : World} (hn : m.n ≤ 9223372036854775807) (hL : ∀ r, r < m.n → m.L r ≤ 9223372036854775807) (h : MatAt w B sa l m) (hB : B ≤ w.heap.size) (ho : orderB m = true) :
    Calls Try.prog 53 #[.slice sa m.n l.cap] w fun e w' => e = .returned (.bool (latticeB m)) ∧ Below w.heap.size w w' := by
  have HL := Lib.hid hL
  have HO := Lib.hid ho
  have hord := orderB_is ho
  have hhi := hord.top
  have HORD := Lib.hid hord
  have hS : SqAt w B sa l m := ⟨h, hord.sq, hord.top, hB⟩
  have h1 := h.alloc hB (.cells #[.bool false] 4)
  have hX := Boxd.start w (.bool false) 4
  clear hL ho hord h
  refine (callsIn_wide (n := 9)).1 ?_
  refine callsIn_of_wp_marks Try.func53 rfl trivial ?_ rfl
  simp only [Try.ntmps53, List.size_toArray, List.length_cons, List.length_nil, Nat.reduceAdd, Nat.reduceSub, Array.replicate_succ, Array.replicate_zero, List.push_toArray, List.append_toArray, List.nil_append, List.cons_append]
  gi_wp2_with fail
  refine ⟨trivial, ?_⟩
  refine (callsIn_wide.2 (orderWith_ok (g := 0) (o := 0) (z := fun _ => 0) hn HL.out h1 (by simp; omega) (by omega) ⟨fun c hc => absurd hc (Nat.not_lt_zero _)⟩ HO.out)).mono ?_
  rintro e w1 ⟨(⟨hg, rfl⟩ | ⟨hg, rfl⟩), hw1⟩
  · have hX1 := hX.step hw1
    have hX2 := hX1.step ((Below.refl _ _).alloc (Nat.le_refl _) (.cells #[.slice sa m.n l.cap] 62))
    have hD := Boxd.start w1 (.slice sa m.n l.cap) 62
    have hS1 := (hS.step hX1.below).alloc (.cells #[.slice sa m.n l.cap] 62)
    clear hg hX
    gi_wp2_with fail
    refine ⟨trivial, ?_⟩
    refine (callsIn_wide.2 (turned_ex hS1)).mono ?_
    rintro e w2 ⟨tb, tG, rfl, hw2, hO2, _, _⟩
    have hX3 := hX2.step hw2
    have hD3 := hD.step hw2
    have hc3 := hD3.cell
    have hT2 := sq_turned hS1 hO2
    have hU := Boxd.start w2 (.slice (some ⟨tb, 0, none⟩) m.n m.n) 62
    have b5 := (Below.refl w2.heap.size w2).alloc (Nat.le_refl _) (.cells #[.slice (some ⟨tb, 0, none⟩) m.n m.n] 62)
    have hX4 := hX3.step b5
    have hD4 := hD3.step b5
    have hc4 := hD4.cell
    have hS4 := (hS1.step hw2).step b5
    have hT4 := hT2.step b5
    clear hO2
    gi_wp2_with fail
    refine ⟨trivial, ?_⟩
    refine (pairs_any _ _ _).mono ?_
    rintro e w' ⟨rfl, rfl⟩
    gi_wp2_with fail
    have b6 := (Below.refl (w2.alloc (.cells #[.slice (some ⟨tb, 0, none⟩) m.n m.n] 62)).heap.size (w2.alloc (.cells #[.slice (some ⟨tb, 0, none⟩) m.n m.n] 62))).alloc (Nat.le_refl _) (.cells #[.slice sa m.n l.cap] 62)
    have hX5 := hX4.step b6
    have hD5 := hD4.step b6
    have hU5 := hU.step b6
    have hS5 := hS4.step b6
    have hT5 := hT4.step b6
    have hP := Boxd.start (w2.alloc (.cells #[.slice (some ⟨tb, 0, none⟩) m.n m.n] 62)) (.slice sa m.n l.cap) 62
    have hc2 := hP.cell
    have hlt2 := hP.size
    rw [World.size_alloc] at hc2 hlt2
    clear hP b6 hX4 hD4 hU hS4 hT4 hc4 hX3 hD3 hc3 hT2 hS1 hX2 hX1 hD b5
    generalize ((w2.alloc (.cells #[.slice (some ⟨tb, 0, none⟩) m.n m.n] 62)).alloc (.cells #[.slice sa m.n l.cap] 62)) = W0 at hX5 hD5 hU5 hS5 hT5 hc2 hlt2 ⊢
    have hbw : Below w.heap.size w W0 := hX5.below
    refine wpIn_rangeFunc_ownG rfl (by omega) (gf := 115) (lb := #[.pointer (some ⟨w2.heap.size + 1, 0, none⟩)]) rfl trivial (enters_of Try.func115 (by kernel_rfl) rfl)
      (pairs_stops _ m.n (by omega) hhi (w2.heap.size + 1) W0.heap.size l.cap sa W0 (by omega) (Nat.le_refl _) hc2) belowK_t (belowK_b (Nat.le_refl _)) (Below.refl _ _) (fun _ => rfl)
      (fun pre W => (∀ p ∈ pre, MJ m p.1.val p.2.val) ∧ Below W0.heap.size W0 W)
      (fun c _ W => (c = .ret ∧ ¬ IsLattice m) ∧ W.cell? ⟨w.heap.size, 0, none⟩ = some (.bool false) ∧ Below w.heap.size w W)
      (OwnFrom.and (ownFrom_pure _ _) (ownFrom_below (Nat.le_refl _) (Nat.le_refl _)))
      (fun c => OwnFrom.and (ownFrom_pure _ _) (OwnFrom.and (Own.from (fun s A B row hs hg hr => cell_kept hs hg hr) _) (ownFrom_below (Nat.le_refl _) hbw.size)))
      ⟨fun p hp => absurd hp (by simp), Below.refl _ _⟩
      (fun x => { tmps := #[.slice sa m.n l.cap, undef, .pointer (some ⟨w.heap.size, 0, none⟩), .pointer (some ⟨w1.heap.size, 0, none⟩), .bool true, .pointer (some ⟨w2.heap.size, 0, none⟩),
          .int .i64 ((x.1.val : Nat) : Int), .int .i64 ((x.2.val : Nat) : Int), undef, undef, undef, undef, .tuple #[.agg #[.slice sa m.n l.cap], .bool true], .slice sa m.n l.cap, .tuple #[.agg #[.slice sa m.n l.cap], .bool true], .agg #[.slice sa m.n l.cap],
          .bool true, .bool true, .bool false, .agg #[.slice sa m.n l.cap], .agg #[.slice (some ⟨tb, 0, none⟩) m.n m.n], .agg #[.slice sa m.n l.cap], .func (.func 115) #[] #[.pointer (some ⟨w2.heap.size + 1, 0, none⟩)],
          .int .i64 ((x.1.val : Nat) : Int), .int .i64 ((x.2.val : Nat) : Int), undef, undef, undef, undef, undef, undef, undef, undef, undef, undef, undef, undef, undef, undef, undef, undef, undef, undef, undef, undef], defers := [] }) ?assign ?body ?done ?stop
    case assign =>
      intro lr x W K hK
      gi_wp2
      exact hK
    case body =>
      rintro lr pre ⟨⟨a, ha⟩, ⟨b, hb⟩⟩ W ⟨hp0, hB'⟩ _
      have hp := Lib.hid hp0
      have hXW := hX5.step hB'
      have hDW := hD5.step hB'
      have hUW := hU5.step hB'
      have hSW := hS5.step hB'
      have hTW := hT5.step hB'
      have cD := hDW.cell
      have hn1 : 1 ≤ 9 - 1 - 1 := by omega
      dsimp only
      clear hp0 h1 hc2 hX5 hD5 hU5 hS5 hT5
      cases hm : hasI (meetI m a b) with
      | false =>
        cases hj : hasI (meetI (tr m) a b) with
        | false =>
          have HM := Lib.hid hm
          have HJ := Lib.hid hj
          clear hm hj
          gi_wp2_with fail
          refine ⟨trivial, ?_⟩
          refine (CallsIn.inRound lr (callsIn_wide.2 (meet_sq hSW ha hb))).mono ?_
          rintro e v1 ⟨rfl, hv1⟩
          rw [HM.out]
          have cU := (hUW.step hv1).cell
          gi_wp2_with fail
          refine ⟨trivial, ?_⟩
          refine (CallsIn.inRound lr (callsIn_wide.2 (meet_tr (hTW.step hv1) ha hb))).mono ?_
          rintro e v2 ⟨rfl, hv2⟩
          rw [HJ.out]
          have hall : Below W.heap.size W v2 := hv1.trans (hv2.mono hv1.size)
          have hXv := (hXW.step hv1).step hv2
          have c0 := hXv.cell
          have f0 := hXv.frozen
          have hbv := hXv.below
          gi_wp2_with fail
          exact ⟨(keepsFrom_below hall).trans ((KeepsOthers.setCell _ _ _).from _), ⟨rfl, fun h => by have := (h.both a b ha hb).meets; rw [HM.out] at this; cases this⟩, World.cell?_setCell_same' _ _ _ (by rw [c0]; rfl), hbv.setCell (p := ⟨w.heap.size, 0, none⟩) (Nat.le_refl _) _⟩
        | true =>
          have HM := Lib.hid hm
          have HJ := Lib.hid hj
          clear hm hj
          gi_wp2_with fail
          refine ⟨trivial, ?_⟩
          refine (CallsIn.inRound lr (callsIn_wide.2 (meet_sq hSW ha hb))).mono ?_
          rintro e v1 ⟨rfl, hv1⟩
          rw [HM.out]
          have cU := (hUW.step hv1).cell
          gi_wp2_with fail
          refine ⟨trivial, ?_⟩
          refine (CallsIn.inRound lr (callsIn_wide.2 (meet_tr (hTW.step hv1) ha hb))).mono ?_
          rintro e v2 ⟨rfl, hv2⟩
          rw [HJ.out]
          have hall : Below W.heap.size W v2 := hv1.trans (hv2.mono hv1.size)
          have hXv := (hXW.step hv1).step hv2
          have c0 := hXv.cell
          have f0 := hXv.frozen
          have hbv := hXv.below
          gi_wp2_with fail
          exact ⟨(keepsFrom_below hall).trans ((KeepsOthers.setCell _ _ _).from _), ⟨rfl, fun h => by have := (h.both a b ha hb).meets; rw [HM.out] at this; cases this⟩, World.cell?_setCell_same' _ _ _ (by rw [c0]; rfl), hbv.setCell (p := ⟨w.heap.size, 0, none⟩) (Nat.le_refl _) _⟩
      | true =>
        cases hj : hasI (meetI (tr m) a b) with
        | false =>
          have HM := Lib.hid hm
          have HJ := Lib.hid hj
          clear hm hj
          gi_wp2_with fail
          refine ⟨trivial, ?_⟩
          refine (CallsIn.inRound lr (callsIn_wide.2 (meet_sq hSW ha hb))).mono ?_
          rintro e v1 ⟨rfl, hv1⟩
          rw [HM.out]
          have cU := (hUW.step hv1).cell
          gi_wp2_with fail
          refine ⟨trivial, ?_⟩
          refine (CallsIn.inRound lr (callsIn_wide.2 (meet_tr (hTW.step hv1) ha hb))).mono ?_
          rintro e v2 ⟨rfl, hv2⟩
          rw [HJ.out]
          have hall : Below W.heap.size W v2 := hv1.trans (hv2.mono hv1.size)
          have hXv := (hXW.step hv1).step hv2
          have c0 := hXv.cell
          have f0 := hXv.frozen
          have hbv := hXv.below
          gi_wp2_with fail
          exact ⟨(keepsFrom_below hall).trans ((KeepsOthers.setCell _ _ _).from _), ⟨rfl, fun h => by have := (h.both a b ha hb).joins; rw [HJ.out] at this; cases this⟩, World.cell?_setCell_same' _ _ _ (by rw [c0]; rfl), hbv.setCell (p := ⟨w.heap.size, 0, none⟩) (Nat.le_refl _) _⟩
        | true =>
          have HM := Lib.hid hm
          have HJ := Lib.hid hj
          clear hm hj
          gi_wp2_with fail
          refine ⟨trivial, ?_⟩
          refine (CallsIn.inRound lr (callsIn_wide.2 (meet_sq hSW ha hb))).mono ?_
          rintro e v1 ⟨rfl, hv1⟩
          rw [HM.out]
          have cU := (hUW.step hv1).cell
          gi_wp2_with fail
          refine ⟨trivial, ?_⟩
          refine (CallsIn.inRound lr (callsIn_wide.2 (meet_tr (hTW.step hv1) ha hb))).mono ?_
          rintro e v2 ⟨rfl, hv2⟩
          rw [HJ.out]
          have hall : Below W.heap.size W v2 := hv1.trans (hv2.mono hv1.size)
          have hXv := (hXW.step hv1).step hv2
          have c0 := hXv.cell
          have f0 := hXv.frozen
          have hbv := hXv.below
          gi_wp2_with fail
          exact ⟨keepsFrom_below hall, hall.mono hB'.size, fun p hp' => (List.mem_append.1 hp').elim (hp.out p) (fun e => by simp at e; subst e; exact ⟨HM.out, HJ.out⟩), hB'.trans (hall.mono hB'.size)⟩
    case done =>
      rintro D ys W hD hys ⟨hp0, hB'⟩ hK
      have HO' : Hid (latticeB m = true) := latticeB_true ⟨HORD.out, fun a b ha hb => hp0 _ (hys ⟨a, ha⟩ ⟨b, hb⟩)⟩
      clear hp0
      have hXW := hX5.step hB'
      have hc0 := hXW.cell
      have hf0 := hXW.frozen
      have hbW := hXW.below
      have hDs : w.heap.size ≤ D := Nat.le_trans hbw.size hD
      gi_wp2
      have hK' := (KeepsOthers.setCell W ⟨w.heap.size, 0, none⟩ (.bool true)).same D _ hK rfl
      refine ⟨by simp, .inl ⟨_, _, rfl, run_takeDeferred hK', ?_⟩⟩
      have hc5 := cell_kept (World.cell?_setCell_same' W ⟨w.heap.size, 0, none⟩ (.bool true) (by rw [hc0]; rfl)) (grownBy_putObj' _ D (.deferred none)) (fun r e => by cases e; exact ⟨_, hK', rfl⟩)
      refine ⟨.bool true, ?_, ret_bool HO'.out.symm, (hbW.setCell (p := ⟨w.heap.size, 0, none⟩) (Nat.le_refl _) _).trans (belowK_b (w := w) (Nat.le_refl _) _ D _ _ hDs hK' rfl rfl)⟩
      simp [results, Try.f53, go_sem, hc5]
    case stop =>
      rintro D c pre W hD _ ⟨⟨rfl, hbad⟩, hcr, hB'⟩ hK
      have hDs : w.heap.size ≤ D := Nat.le_trans hbw.size hD
      gi_wp2
      refine ⟨by simp, .inl ⟨_, _, rfl, run_takeDeferred hK, ?_⟩⟩
      have hc5 := cell_kept hcr (grownBy_putObj' _ D (.deferred none)) (fun r e => by cases e; exact ⟨_, hK, rfl⟩)
      refine ⟨.bool false, ?_, ret_bool (latticeB_false hbad).symm, hB'.trans (belowK_b (w := w) (Nat.le_refl _) W D _ _ hDs hK rfl rfl)⟩
      simp [results, Try.f53, go_sem, hc5]
  · rw [good_nil] at hg
    cases hg

theorem LatticeOk_any {B : Nat} {sa : Option Addr} {l : Lay} {m : Mx} {w : World} (hn : m.n ≤ 9223372036854775807) (hL : ∀ r, r < m.n → m.L r ≤ 9223372036854775807) (h : MatAt w B sa l m) (hB : B ≤ w.heap.size) :
    Calls Try.prog 53 #[.slice sa m.n l.cap] w fun e w' => e = .returned (.bool (latticeB m)) ∧ Below w.heap.size w w' := by
  cases ho : orderB m with
  | false => exact LatticeOk_no hn hL h hB ho
  | true => exact LatticeOk_yes hn hL h hB ho
end Go.Proofs.Ytgjacinolenheaa
