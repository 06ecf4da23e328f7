/- The law on BlocksOf against the reference, walked at whatever logic. -/
import Derived.Test.YtnbglbhfclohjaaDoorSm
import Derived.Test.YtnbglbhfclohjaaDoorGa
import Derived.Test.YtnbglbhfclohjaaDoorLa
import Derived.Test.YtnbglbhfclohjaaDoorWv
import Derived.Test.YtnbglbhfclohjaaDoorFa
import Derived.Deep.RegionHeld3
import Derived.Test.YtnbglbhfclohjaaDoorSi
namespace Go.Proofs.YtnbglbhfclohjaaDoor
open Go.RowKit Go.Deep

theorem blocksV_len (m : Mx) (k : Nat) (z : Nat → Int) : (blocksV m k z).length ≤ 1048576 := by
  unfold blocksV
  split
  · next h =>
    obtain ⟨y0, o', hO⟩ := (logicB_is h).ortho
    exact Nat.le_trans (listTo_len _ _) (Nat.le_trans (pow_le_12 hO.lat.order.top) (by omega))
  · exact Nat.zero_le _

set_option maxRecDepth 100000 in
set_option maxHeartbeats 4000000 in
theorem law_ExactBlocksOf_at {w : World} {ua : Option Addr} {l : Lay} {m : Mx} {na : Option Addr} {g o k nc : Nat} {z : Nat → Int} {xs : List Int} (h0 : LogAt w w.heap.size ua l m na g o k z) (hT : TabOk w) (hlen : xs.length ≤ 1048576)
    (hs : ∀ (W : World) (N0 q0 : Nat), LogAt W W.heap.size (some ⟨N0, 0, none⟩) (freshLay N0 m) m (some ⟨q0, 0, none⟩) q0 0 k z → Calls Tryd.prog 29 #[.agg #[.slice (some ⟨N0, 0, none⟩) m.n m.n, .slice (some ⟨q0, 0, none⟩) k k]] W (ListRes W xs))
    (hi : ∀ (W : World) (N0 q0 : Nat), LogAt W W.heap.size (some ⟨N0, 0, none⟩) (freshLay N0 m) m (some ⟨q0, 0, none⟩) q0 0 k z → TabOk W → Calls Tryd.prog 27 #[.agg #[.slice (some ⟨N0, 0, none⟩) m.n m.n, .slice (some ⟨q0, 0, none⟩) k k]] W (ListRes W xs)) :
    Calls Tryd.prog 9 #[.agg #[.slice ua m.n l.cap, .slice na k nc]] w fun e w' => e = .returned (.bool true) ∧ Below w.heap.size w w' := by
  have HS := Lib.hid hs
  have HI := Lib.hid hi
  have H0 := Lib.hid h0
  have HR := Lib.hid (map_range xs)
  have HT := Lib.hid hT
  clear hs hi h0 hT
  have xa := TwoAt.new w (.slice ua m.n l.cap) (.slice na k nc) 44
  have B1 := (Below.refl w.heap.size w).alloc (Nat.le_refl _) (.cells #[.slice ua m.n l.cap, .slice na k nc] 44)
  have s1 : w.heap.size < (w.alloc (.cells #[.slice ua m.n l.cap, .slice na k nc] 44)).heap.size := by simp
  go_enter Tryd.func9, Tryd.ntmps9
  have f0 := xa.c0
  have f1 := xa.c1
  go_wp2_with fail
  generalize w.alloc (.cells #[.slice ua m.n l.cap, .slice na k nc] 44) = w1 at xa B1 s1 f0 f1 ⊢
  go_at_call 41
  refine (szLogic_v (by omega) (by omega) (LogAt.step H0.out B1)).mono ?_
  rintro e w2 ⟨⟨v, rfl, hv⟩, b2⟩
  have s2 := b2.size
  replace xa := xa.below b2 (by omega)
  have BX := B1.trans (b2.mono B1.size)
  clear f0 f1 b2
  by_cases hneg : v < 0
  · go_wp2_with fail
    go_ret
    exact ⟨rfl, BX⟩
  · obtain ⟨hn0, hL0, hk0, hv0, hv1⟩ : m.n ≤ 1048576 ∧ (∀ r, r < m.n → m.L r ≤ 1048576) ∧ k ≤ 1048576 ∧ 0 ≤ v ∧ v ≤ 1048576 := hv.resolve_left hneg
    clear hv B1
    have HL0 := Lib.hid hL0
    clear hL0
    have c0 := xa.c0
    have c1 := xa.c1
    go_wp2_with fail
    go_at_call 42
    refine (toLogic_w (nc := nc) (LogAt.step H0.out BX) hn0 HL0.out hk0).mono ?_
    rintro e wa ⟨NA, QA, rfl, hc, b⟩
    have swa := b.size
    clear c0 c1
    replace xa := xa.below b (by omega)
    replace BX := BX.trans (b.mono BX.size)
    have A0 := Lib.hid hc
    clear hc b
    go_wp2_with fail
    go_at_call 29
    refine (HS.out _ NA QA (A0.out.more (B' := wa.heap.size) (by omega) (Nat.le_refl _)).logAt).mono ?_
    rintro e wb ⟨vW, rfl, hW, b⟩
    have swb := b.size
    have uW : ∀ j, vW.ownBlock = some j → wa.heap.size ≤ j ∧ j < wb.heap.size := fun j hj => hW.lt j hj
    replace xa := xa.below b (by omega)
    replace BX := BX.trans (b.mono BX.size)
    clear b
    rw [HR.out] at hW
    clear A0
    have c0 := xa.c0
    have c1 := xa.c1
    go_wp2_with fail
    go_at_call 42
    refine (toLogic_w (nc := nc) (LogAt.step H0.out BX) hn0 HL0.out hk0).mono ?_
    rintro e wc ⟨N0, q0, rfl, hc, b⟩
    have swc := b.size
    clear c0 c1
    replace xa := xa.below b (by omega)
    replace hW := list_below hW b (fun j hj => by have := uW j hj; omega)
    replace BX := BX.trans (b.mono BX.size)
    have X0 := Lib.hid hc
    clear hc b
    have xx := TwoAt.new wc (.slice (some ⟨N0, 0, none⟩) m.n m.n) (.slice (some ⟨q0, 0, none⟩) k k) 26
    have ba := (Below.refl wc.heap.size wc).alloc (Nat.le_refl _) (.cells #[.slice (some ⟨N0, 0, none⟩) m.n m.n, .slice (some ⟨q0, 0, none⟩) k k] 26)
    replace xa := xa.below ba (by omega)
    replace X0 := Lib.hid (X0.out.below ba (by omega))
    replace hW := list_below hW ba (fun j hj => by have := uW j hj; omega)
    replace BX := BX.trans (ba.mono BX.size)
    have s7 : wc.heap.size + 1 ≤ (wc.alloc (.cells #[.slice (some ⟨N0, 0, none⟩) m.n m.n, .slice (some ⟨q0, 0, none⟩) k k] 26)).heap.size ∧ (wc.alloc (.cells #[.slice (some ⟨N0, 0, none⟩) m.n m.n, .slice (some ⟨q0, 0, none⟩) k k] 26)).heap.size ≤ wc.heap.size + 1 := by simp
    clear ba
    have cx0 := xx.c0
    have cx1 := xx.c1
    go_wp2_with fail
    generalize wc.alloc (.cells #[.slice (some ⟨N0, 0, none⟩) m.n m.n, .slice (some ⟨q0, 0, none⟩) k k] 26) = wd at xa xx X0 hW BX s7 cx0 cx1 ⊢
    go_at_call 27
    refine (HI.out _ N0 q0 (X0.out.more (B' := wd.heap.size) (by omega) (Nat.le_refl _)).logAt (HT.out.step BX HT.out.size)).mono ?_
    rintro e we ⟨vG, rfl, hG, b⟩
    have swe := b.size
    have uG : ∀ j, vG.ownBlock = some j → wd.heap.size ≤ j ∧ j < we.heap.size := fun j hj => hG.lt j hj
    replace xa := xa.below b (by omega)
    replace xx := xx.below b (by omega)
    replace X0 := Lib.hid (X0.out.below b (by omega))
    replace hW := list_below hW b (fun j hj => by have := uW j hj; omega)
    replace BX := BX.trans (b.mono BX.size)
    clear b cx0 cx1
    rw [HR.out] at hG
    go_wp2_with fail
    go_at_call 44
    refine (eqList (by omega) hG hW).mono ?_
    rintro e wf ⟨rfl, d⟩
    have b : Below we.heap.size we wf := d.below _
    have swf := b.size
    replace xa := xa.below b (by omega)
    replace xx := xx.below b (by omega)
    replace X0 := Lib.hid (X0.out.below b (by omega))
    replace hW := list_below hW b (fun j hj => by have := uW j hj; omega)
    replace hG := list_below hG b (fun j hj => by have := uG j hj; omega)
    replace BX := BX.trans (b.mono BX.size)
    clear b d
    have cx0 := xx.c0
    have cx1 := xx.c1
    have c0 := xa.c0
    have c1 := xa.c1
    go_wp2_with fail
    have Kb : Below wf.heap.size wf wf.drew := (Below.refl _ _).drew
    have fl0 : wc.heap.size < wf.heap.size := by omega
    have fl1 : w.heap.size < wf.heap.size := by omega
    refine region_plain (fuel := 5) (listed := #[false, false, false, false, false]) (fun W' => Below wf.heap.size wf W') (by kernel_rfl) (by kernel_rfl) (by kernel_rfl) ?_
    refine hold_take (i := 0) (d := 27) (v := ?vq0) (listed' := #[true, false, false, false, false]) rfl (by kernel_rfl) (by kernel_rfl) (by kernel_rfl) rfl (by rfl) (by kernel_rfl) Kb ?hq0 ?rq0
    case hq0 =>
      intro w' hSw
      have hSb : Below wf.heap.size wf w' := hSw; have y0 := (hSb.cell (p := ⟨wc.heap.size, 0, none⟩) fl0).trans cx0; have y1 := (hSb.cell (p := ⟨wc.heap.size, 1, none⟩) fl0).trans cx1; have y2 := (hSb.cell (p := ⟨w.heap.size, 0, none⟩) fl1).trans c0; have y3 := (hSb.cell (p := ⟨w.heap.size, 1, none⟩) fl1).trans c1
      go_simp
      try with_reducible rfl
    simp only [List.setIfInBounds_toArray, List.set_cons_zero, List.set_cons_succ]
    refine hold_take (i := 1) (d := 28) (v := ?vq1) (listed' := #[true, true, false, false, false]) rfl (by kernel_rfl) (by kernel_rfl) (by kernel_rfl) rfl (by rfl) (by kernel_rfl) Kb ?hq1 ?rq1
    case hq1 =>
      intro w' hSw
      have hSb : Below wf.heap.size wf w' := hSw; have y0 := (hSb.cell (p := ⟨wc.heap.size, 0, none⟩) fl0).trans cx0; have y1 := (hSb.cell (p := ⟨wc.heap.size, 1, none⟩) fl0).trans cx1; have y2 := (hSb.cell (p := ⟨w.heap.size, 0, none⟩) fl1).trans c0; have y3 := (hSb.cell (p := ⟨w.heap.size, 1, none⟩) fl1).trans c1
      go_simp
      try with_reducible rfl
    simp only [List.setIfInBounds_toArray, List.set_cons_zero, List.set_cons_succ]
    refine hold_call (i := 2) (d := 29) (listed' := #[true, true, true, false, false]) rfl (by kernel_rfl) rfl (by rfl) (by kernel_rfl) ?heq2 (toLogic_w (nc := nc) (LogAt.step H0.out (BX.trans (Kb.mono BX.size))) hn0 HL0.out hk0) ?hcq2
    case heq2 => go_simp
    rintro e wh ⟨NN, qq, rfl, hc, b⟩
    have Kc : Below wf.heap.size wf wh := Kb.trans (b.mono Kb.size)
    have Y0 := Lib.hid hc
    clear hc b
    have sk := Kc.size
    refine ⟨_, rfl, Kc, ?_⟩
    simp only [List.setIfInBounds_toArray, List.set_cons_zero, List.set_cons_succ]
    refine hold_call (i := 3) (d := 30) (listed' := #[true, true, true, true, false]) rfl (by kernel_rfl) rfl (by rfl) (by kernel_rfl) ?heq3 (eqLogic_any (nc := k) (nc' := k) (X0.out.below Kc (by omega)).logAt Y0.out.logAt) ?hcq3
    case heq3 =>
      go_simp
      try exact ⟨rfl, rfl⟩
    rintro e wi ⟨rfl, b⟩
    have Kd : Below wf.heap.size wf wi := Kc.trans (b.mono Kc.size)
    clear b Y0 Kc sk
    refine ⟨_, rfl, Kd, ?_⟩
    simp only [List.setIfInBounds_toArray, List.set_cons_zero, List.set_cons_succ]
    refine hold_take (i := 4) (d := 31) (v := ?vq4) (listed' := #[true, true, true, true, true]) rfl (by kernel_rfl) (by kernel_rfl) (by kernel_rfl) rfl (by rfl) (by kernel_rfl) Kd ?hq4 ?rq4
    case hq4 =>
      intro w' hSw
      have hSb : Below wf.heap.size wf w' := hSw; have y0 := (hSb.cell (p := ⟨wc.heap.size, 0, none⟩) fl0).trans cx0; have y1 := (hSb.cell (p := ⟨wc.heap.size, 1, none⟩) fl0).trans cx1; have y2 := (hSb.cell (p := ⟨w.heap.size, 0, none⟩) fl1).trans c0; have y3 := (hSb.cell (p := ⟨w.heap.size, 1, none⟩) fl1).trans c1
      go_simp
      try with_reducible rfl
    simp only [List.setIfInBounds_toArray, List.set_cons_zero, List.set_cons_succ]
    refine hold_done (by kernel_rfl) ?_ _
    clear cx0 cx1 c0 c1
    have swi := Kd.size
    replace xa := xa.below Kd (by omega)
    replace xx := xx.below Kd (by omega)
    replace X0 := Lib.hid (X0.out.below Kd (by omega))
    replace hW := list_below hW Kd (fun j hj => by have := uW j hj; omega)
    replace hG := list_below hG Kd (fun j hj => by have := uG j hj; omega)
    replace BX := BX.trans (Kd.mono BX.size)
    clear Kb Kd fl0 fl1
    have ma0 := markAt_lo (m := m) (k0 := 1) hn0 HL0.out (by omega)
    have cx0 := xx.c0
    have cx1 := xx.c1
    go_wp2_with fail
    go_at_call 45
    refine (markLogic_w (k0 := 1) X0.out (by omega)).mono ?_
    rintro e wj ⟨rfl, c, hX⟩
    have swj := c.size
    clear cx0 cx1
    replace xa := c.two xa (by show ¬ (_ ∧ _); omega)
    replace xx := c.two xx (by show ¬ (_ ∧ _); omega)
    replace hW := c.own hW (fun j hj => by have := uW j hj; show ¬ (_ ∧ _); omega)
    replace hG := c.own hG (fun j hj => by have := uG j hj; show ¬ (_ ∧ _); omega)
    replace BX := BX.trans (c.below (by omega) fun j hj => by have hj' : wb.heap.size ≤ j ∧ j < wc.heap.size := hj; omega)
    clear c hX X0
    go_wp2_with fail
    go_at_call 44
    refine (eqList (by omega) hG hW).mono ?_
    rintro e wk ⟨rfl, d⟩
    have b : Below wj.heap.size wj wk := d.below _
    have swk := b.size
    replace xa := xa.below b (by omega)
    replace xx := xx.below b (by omega)
    replace hW := list_below hW b (fun j hj => by have := uW j hj; omega)
    replace hG := list_below hG b (fun j hj => by have := uG j hj; omega)
    replace BX := BX.trans (b.mono BX.size)
    clear b d
    go_wp2_with fail
    go_at_call 46
    refine (markList hlen (by omega) (by omega) hG).mono ?_
    rintro e wl ⟨rfl, hM, o⟩
    have bo : Below wd.heap.size wk wl := o.below (fun j hj => (uG j hj).1)
    have swl := bo.size
    replace xa := xa.below bo (by omega)
    replace xx := xx.below bo (by omega)
    replace hW := ownsRow_only hW o (fun j hj hj' => by have := uW j hj; have := uG j hj'; omega)
    replace BX := BX.trans (bo.mono (by omega))
    clear hG o bo
    have uM := uG
    go_wp2_with fail
    go_at_call 47
    refine (heldList hlen (by omega) (by omega) hM).mono ?_
    rintro e wl' ⟨rfl, rfl⟩
    have c0 := xa.c0
    have c1 := xa.c1
    go_wp2_with fail
    go_at_call 42
    refine (toLogic_w (nc := nc) (LogAt.step H0.out BX) hn0 HL0.out hk0).mono ?_
    rintro e wn ⟨NB, QB, rfl, hc, b⟩
    have swn := b.size
    clear c0 c1
    replace xa := xa.below b (by omega)
    replace xx := xx.below b (by omega)
    replace hW := list_below hW b (fun j hj => by have := uW j hj; omega)
    replace hM := list_below hM b (fun j hj => by have := uM j hj; omega)
    replace BX := BX.trans (b.mono BX.size)
    have A1 := Lib.hid hc
    clear hc b
    go_wp2_with fail
    go_at_call 27
    refine (HI.out _ NB QB (A1.out.more (B' := wn.heap.size) (by omega) (Nat.le_refl _)).logAt (HT.out.step BX HT.out.size)).mono ?_
    rintro e wo ⟨vQ, rfl, hQ, b⟩
    have swo := b.size
    have uQ : ∀ j, vQ.ownBlock = some j → wn.heap.size ≤ j ∧ j < wo.heap.size := fun j hj => hQ.lt j hj
    replace xa := xa.below b (by omega)
    replace xx := xx.below b (by omega)
    replace hW := list_below hW b (fun j hj => by have := uW j hj; omega)
    replace hM := list_below hM b (fun j hj => by have := uM j hj; omega)
    replace BX := BX.trans (b.mono BX.size)
    clear b
    rw [HR.out] at hQ
    clear A1
    go_wp2_with fail
    go_at_call 44
    refine (eqList (by omega) hQ hW).mono ?_
    rintro e wp ⟨rfl, d⟩
    have b : Below wo.heap.size wo wp := d.below _
    have swp := b.size
    replace xa := xa.below b (by omega)
    replace xx := xx.below b (by omega)
    replace hW := list_below hW b (fun j hj => by have := uW j hj; omega)
    replace hM := list_below hM b (fun j hj => by have := uM j hj; omega)
    replace hQ := list_below hQ b (fun j hj => by have := uQ j hj; omega)
    replace BX := BX.trans (b.mono BX.size)
    clear b d
    go_wp2_with fail
    go_at_call 47
    refine (heldList hlen (by omega) (by omega) hM).mono ?_
    rintro e wq ⟨rfl, rfl⟩
    go_wp2_with fail
    go_ret
    exact ⟨rfl, BX⟩

theorem law_ExactBlocksOf {w : World} {ua : Option Addr} {l : Lay} {m : Mx} {na : Option Addr} {g o k nc : Nat} {z : Nat → Int} (h0 : LogAt w w.heap.size ua l m na g o k z) (hT : TabOk w) :
    Calls Tryd.prog 9 #[.agg #[.slice ua m.n l.cap, .slice na k nc]] w fun e w' => e = .returned (.bool true) ∧ Below w.heap.size w w' :=
  law_ExactBlocksOf_at (xs := blocksV m k z) h0 hT (blocksV_len m k z)
    (fun _ N0 _ a0 => spec_BlocksOf (l := freshLay N0 m) a0)
    (fun _ N0 _ a0 t0 => BlocksOf_any (l := freshLay N0 m) a0 t0)
end Go.Proofs.YtnbglbhfclohjaaDoor
