/- The law on PartOf against the reference, walked at whatever logic and number. -/
import Derived.Test.YthdokmcllppobaaDoorZYl
import Derived.Test.YthdokmcllppobaaDoorZYo
import Derived.Test.YthdokmcllppobaaDoorZVo
namespace Go.Proofs.YthdokmcllppobaaDoor
open Go.RowKit Go.Deep

set_option maxRecDepth 100000 in
set_option maxHeartbeats 8000000 in
theorem law_ExactPartOf_at {w : World} {ua0 na0 : Option Addr} {l0 : Lay} {m0 : Mx} {g0 o0 k0 nc0 nn : Nat} {z0 : Nat → Int} {x : Int} {Z : Nat → Nat → Int} {y : Nat → Nat}
    (h0 : LogAt w w.heap.size ua0 l0 m0 na0 g0 o0 k0 z0) (hT : TabOk w)
    (hs : ∀ (W : World) (N0 q0 : Nat), LogAt W W.heap.size (some ⟨N0, 0, none⟩) (freshLay N0 m0) m0 (some ⟨q0, 0, none⟩) q0 0 k0 z0 → Calls Tryd.prog 22 #[.agg #[.slice (some ⟨N0, 0, none⟩) m0.n m0.n, .slice (some ⟨q0, 0, none⟩) k0 k0], .int .i64 x] W (ResG W nn Z y))
    (hi : ∀ (W : World) (N0 q0 : Nat), LogAt W W.heap.size (some ⟨N0, 0, none⟩) (freshLay N0 m0) m0 (some ⟨q0, 0, none⟩) q0 0 k0 z0 → TabOk W → Calls Tryd.prog 20 #[.agg #[.slice (some ⟨N0, 0, none⟩) m0.n m0.n, .slice (some ⟨q0, 0, none⟩) k0 k0], .int .i64 x] W (ResG W nn Z y)) :
    Calls Tryd.prog 8 #[.agg #[.slice ua0 m0.n l0.cap, .slice na0 k0 nc0], .int .i64 x] w fun e w' => e = .returned (.bool true) ∧ Below w.heap.size w w' := by
  have HS := Lib.hid hs
  have HI := Lib.hid hi
  have H0 := Lib.hid h0
  have HT := Lib.hid hT
  clear hs hi h0 hT
  have xa := TwoAt.new w (.slice ua0 m0.n l0.cap) (.slice na0 k0 nc0) 37
  have B1 := (Below.refl w.heap.size w).alloc (Nat.le_refl _) (.cells #[.slice ua0 m0.n l0.cap, .slice na0 k0 nc0] 37)
  have s1 : w.heap.size < (w.alloc (.cells #[.slice ua0 m0.n l0.cap, .slice na0 k0 nc0] 37)).heap.size := by simp
  go_enter Tryd.func8, Tryd.ntmps8
  have f0 := xa.c0
  have f1 := xa.c1
  go_wp2_with fail
  generalize w.alloc (.cells #[.slice ua0 m0.n l0.cap, .slice na0 k0 nc0] 37) = w1 at xa B1 s1 f0 f1 ⊢
  go_at_call 25
  refine (szLogic_v (by omega) (by omega) (LogAt.step H0.out B1)).mono ?_
  rintro e w2 ⟨⟨v, rfl, hv⟩, b2⟩
  have s2 := b2.size
  replace xa := xa.below b2 (by omega)
  have BX := B1.trans (b2.mono B1.size)
  clear f0 f1 b2
  by_cases hneg : v < 0
  · go_wp2_with fail
    go_ret
    exact ⟨rfl, BX⟩
  · obtain ⟨hn0, hL0, hk0, hv0, hv1⟩ : m0.n ≤ 1048576 ∧ (∀ r, r < m0.n → m0.L r ≤ 1048576) ∧ k0 ≤ 1048576 ∧ 0 ≤ v ∧ v ≤ 1048576 := hv.resolve_left hneg
    clear hv B1
    have HL0 := Lib.hid hL0
    clear hL0
    have cxa0 := xa.c0
    have cxa1 := xa.c1
    go_wp2_with fail
    go_at_call 26
    refine (toLogic_w (nc := nc0) (LogAt.step H0.out BX) hn0 HL0.out hk0).mono ?_
    rintro e wa0 ⟨NA, QA, rfl, hc, b⟩
    have s3 := b.size
    clear cxa0 cxa1
    replace xa := xa.below b (by omega)
    replace BX := BX.trans (b.mono BX.size)
    have A0 := Lib.hid hc
    clear hc b
    go_wp2_with fail
    go_at_call 22
    refine (HS.out _ NA QA (A0.out.more (B' := wa0.heap.size) (by omega) (Nat.le_refl _)).logAt).mono ?_
    rintro e wa2 ⟨uaW, lW, naW, gW, ncW, rfl, hh, b⟩
    have s4 := b.size
    clear A0
    replace xa := xa.below b (by omega)
    replace BX := BX.trans (b.mono BX.size)
    have W := Lib.hid hh
    clear hh b
    have x6 := TwoAt.new wa2 (.slice uaW nn lW.cap) (.slice naW nn ncW) 26
    have ba := (Below.refl wa2.heap.size wa2).alloc (Nat.le_refl _) (.cells #[.slice uaW nn lW.cap, .slice naW nn ncW] 26)
    replace xa := xa.below ba (by omega)
    replace W := Lib.hid (W.out.below ba (by omega))
    replace BX := BX.trans (ba.mono BX.size)
    have s5 : wa2.heap.size + 1 ≤ (wa2.alloc (.cells #[.slice uaW nn lW.cap, .slice naW nn ncW] 26)).heap.size ∧ (wa2.alloc (.cells #[.slice uaW nn lW.cap, .slice naW nn ncW] 26)).heap.size ≤ wa2.heap.size + 1 := by simp
    clear ba
    have cxa0 := xa.c0
    have cxa1 := xa.c1
    go_wp2_with fail
    generalize wa2.alloc (.cells #[.slice uaW nn lW.cap, .slice naW nn ncW] 26) = wa3 at xa x6 W BX s5 cxa0 cxa1 ⊢
    go_at_call 26
    refine (toLogic_w (nc := nc0) (LogAt.step H0.out BX) hn0 HL0.out hk0).mono ?_
    rintro e wb0 ⟨N0, q0, rfl, hc, b⟩
    have s6 := b.size
    clear cxa0 cxa1
    replace xa := xa.below b (by omega)
    replace x6 := x6.below b (by omega)
    replace W := Lib.hid (W.out.below b (by omega))
    replace BX := BX.trans (b.mono BX.size)
    have X0 := Lib.hid hc
    clear hc b
    have xx0 := TwoAt.new wb0 (.slice (some ⟨N0, 0, none⟩) m0.n m0.n) (.slice (some ⟨q0, 0, none⟩) k0 k0) 26
    have ba := (Below.refl wb0.heap.size wb0).alloc (Nat.le_refl _) (.cells #[.slice (some ⟨N0, 0, none⟩) m0.n m0.n, .slice (some ⟨q0, 0, none⟩) k0 k0] 26)
    replace xa := xa.below ba (by omega)
    replace x6 := x6.below ba (by omega)
    replace W := Lib.hid (W.out.below ba (by omega))
    replace X0 := Lib.hid (X0.out.below ba (by omega))
    replace BX := BX.trans (ba.mono BX.size)
    have s7 : wb0.heap.size + 1 ≤ (wb0.alloc (.cells #[.slice (some ⟨N0, 0, none⟩) m0.n m0.n, .slice (some ⟨q0, 0, none⟩) k0 k0] 26)).heap.size ∧ (wb0.alloc (.cells #[.slice (some ⟨N0, 0, none⟩) m0.n m0.n, .slice (some ⟨q0, 0, none⟩) k0 k0] 26)).heap.size ≤ wb0.heap.size + 1 := by simp
    clear ba
    have cxx00 := xx0.c0
    have cxx01 := xx0.c1
    go_wp2_with fail
    generalize wb0.alloc (.cells #[.slice (some ⟨N0, 0, none⟩) m0.n m0.n, .slice (some ⟨q0, 0, none⟩) k0 k0] 26) = wb1 at xa x6 xx0 W X0 BX s7 cxx00 cxx01 ⊢
    go_at_call 20
    refine (HI.out _ N0 q0 (X0.out.more (B' := wb1.heap.size) (by omega) (Nat.le_refl _)).logAt (HT.out.step BX HT.out.size)).mono ?_
    rintro e wb3 ⟨uaG, lG, naG, gG, ncG, rfl, hh, b⟩
    have s8 := b.size
    clear cxx00 cxx01
    replace xa := xa.below b (by omega)
    replace x6 := x6.below b (by omega)
    replace xx0 := xx0.below b (by omega)
    replace W := Lib.hid (W.out.below b (by omega))
    replace X0 := Lib.hid (X0.out.below b (by omega))
    replace BX := BX.trans (b.mono BX.size)
    have G := Lib.hid hh
    clear hh b
    have xg := TwoAt.new wb3 (.slice uaG nn lG.cap) (.slice naG nn ncG) 26
    have ba := (Below.refl wb3.heap.size wb3).alloc (Nat.le_refl _) (.cells #[.slice uaG nn lG.cap, .slice naG nn ncG] 26)
    replace xa := xa.below ba (by omega)
    replace x6 := x6.below ba (by omega)
    replace xx0 := xx0.below ba (by omega)
    replace W := Lib.hid (W.out.below ba (by omega))
    replace X0 := Lib.hid (X0.out.below ba (by omega))
    replace G := Lib.hid (G.out.below ba (by omega))
    replace BX := BX.trans (ba.mono BX.size)
    have s9 : wb3.heap.size + 1 ≤ (wb3.alloc (.cells #[.slice uaG nn lG.cap, .slice naG nn ncG] 26)).heap.size ∧ (wb3.alloc (.cells #[.slice uaG nn lG.cap, .slice naG nn ncG] 26)).heap.size ≤ wb3.heap.size + 1 := by simp
    clear ba
    have cxg0 := xg.c0
    have cxg1 := xg.c1
    have cx60 := x6.c0
    have cx61 := x6.c1
    go_wp2_with fail
    generalize wb3.alloc (.cells #[.slice uaG nn lG.cap, .slice naG nn ncG] 26) = wb4 at xa x6 xx0 xg W X0 G BX s9 cxg0 cxg1 cx60 cx61 ⊢
    go_at_call 27
    refine (eqLogic_any G.out.logAt W.out.logAt).mono ?_
    rintro e wc0 ⟨rfl, b⟩
    have s10 := b.size
    clear cxg0 cxg1 cx60 cx61
    replace xa := xa.below b (by omega)
    replace x6 := x6.below b (by omega)
    replace xx0 := xx0.below b (by omega)
    replace xg := xg.below b (by omega)
    replace W := Lib.hid (W.out.below b (by omega))
    replace X0 := Lib.hid (X0.out.below b (by omega))
    replace G := Lib.hid (G.out.below b (by omega))
    replace BX := BX.trans (b.mono BX.size)
    clear b
    have cxx00 := xx0.c0
    have cxx01 := xx0.c1
    have cxa0 := xa.c0
    have cxa1 := xa.c1
    go_wp2_with fail
    have Kb : Below wc0.heap.size wc0 wc0.drew := (Below.refl _ _).drew
    have fl0 : wb0.heap.size < wc0.heap.size := by omega
    have fl1 : w.heap.size < wc0.heap.size := by omega
    refine region_plain (fuel := 5) (listed := #[false, false, false, false, false]) (fun W' => Below wc0.heap.size wc0 W') (by kernel_rfl) (by kernel_rfl) (by kernel_rfl) ?_
    refine hold_take (i := 0) (d := 31) (v := ?vq0) (listed' := #[true, false, false, false, false]) rfl (by kernel_rfl) (by kernel_rfl) (by kernel_rfl) rfl (by rfl) (by kernel_rfl) Kb ?hq0 ?rq0
    case hq0 =>
      intro w' hSw
      have hSb : Below wc0.heap.size wc0 w' := hSw; have y0 := (hSb.cell (p := ⟨wb0.heap.size, 0, none⟩) fl0).trans cxx00; have y1 := (hSb.cell (p := ⟨wb0.heap.size, 1, none⟩) fl0).trans cxx01; have y2 := (hSb.cell (p := ⟨w.heap.size, 0, none⟩) fl1).trans cxa0; have y3 := (hSb.cell (p := ⟨w.heap.size, 1, none⟩) fl1).trans cxa1
      go_simp
      try with_reducible rfl
    simp only [List.setIfInBounds_toArray, List.set_cons_zero, List.set_cons_succ]
    refine hold_take (i := 1) (d := 32) (v := ?vq1) (listed' := #[true, true, false, false, false]) rfl (by kernel_rfl) (by kernel_rfl) (by kernel_rfl) rfl (by rfl) (by kernel_rfl) Kb ?hq1 ?rq1
    case hq1 =>
      intro w' hSw
      have hSb : Below wc0.heap.size wc0 w' := hSw; have y0 := (hSb.cell (p := ⟨wb0.heap.size, 0, none⟩) fl0).trans cxx00; have y1 := (hSb.cell (p := ⟨wb0.heap.size, 1, none⟩) fl0).trans cxx01; have y2 := (hSb.cell (p := ⟨w.heap.size, 0, none⟩) fl1).trans cxa0; have y3 := (hSb.cell (p := ⟨w.heap.size, 1, none⟩) fl1).trans cxa1
      go_simp
      try with_reducible rfl
    simp only [List.setIfInBounds_toArray, List.set_cons_zero, List.set_cons_succ]
    refine hold_call (i := 2) (d := 33) (listed' := #[true, true, true, false, false]) rfl (by kernel_rfl) rfl (by rfl) (by kernel_rfl) ?heq2 (toLogic_w (nc := nc0) (LogAt.step H0.out (BX.trans (Kb.mono BX.size))) hn0 HL0.out hk0) ?hcq2
    case heq2 => go_simp
    rintro e wh ⟨NN, qq, rfl, hc, b⟩
    have Kc : Below wc0.heap.size wc0 wh := Kb.trans (b.mono Kb.size)
    have Y0 := Lib.hid hc
    clear hc b
    have sk := Kc.size
    refine ⟨_, rfl, Kc, ?_⟩
    simp only [List.setIfInBounds_toArray, List.set_cons_zero, List.set_cons_succ]
    refine hold_call (i := 3) (d := 34) (listed' := #[true, true, true, true, false]) rfl (by kernel_rfl) rfl (by rfl) (by kernel_rfl) ?heq3 (eqLogic_any (nc := k0) (nc' := k0) (X0.out.below Kc (by omega)).logAt Y0.out.logAt) ?hcq3
    case heq3 =>
      go_simp
      try exact ⟨rfl, rfl⟩
    rintro e wi ⟨rfl, b⟩
    have Kd : Below wc0.heap.size wc0 wi := Kc.trans (b.mono Kc.size)
    clear b Y0 Kc sk
    refine ⟨_, rfl, Kd, ?_⟩
    simp only [List.setIfInBounds_toArray, List.set_cons_zero, List.set_cons_succ]
    refine hold_take (i := 4) (d := 35) (v := ?vq4) (listed' := #[true, true, true, true, true]) rfl (by kernel_rfl) (by kernel_rfl) (by kernel_rfl) rfl (by rfl) (by kernel_rfl) Kd ?hq4 ?rq4
    case hq4 =>
      intro w' hSw
      have hSb : Below wc0.heap.size wc0 w' := hSw; have y0 := (hSb.cell (p := ⟨wb0.heap.size, 0, none⟩) fl0).trans cxx00; have y1 := (hSb.cell (p := ⟨wb0.heap.size, 1, none⟩) fl0).trans cxx01; have y2 := (hSb.cell (p := ⟨w.heap.size, 0, none⟩) fl1).trans cxa0; have y3 := (hSb.cell (p := ⟨w.heap.size, 1, none⟩) fl1).trans cxa1
      go_simp
      try with_reducible rfl
    simp only [List.setIfInBounds_toArray, List.set_cons_zero, List.set_cons_succ]
    refine hold_done (by kernel_rfl) ?_ _
    clear cxx00 cxx01 cxa0 cxa1
    have s11 := Kd.size
    replace xa := xa.below Kd (by omega)
    replace x6 := x6.below Kd (by omega)
    replace xx0 := xx0.below Kd (by omega)
    replace xg := xg.below Kd (by omega)
    replace W := Lib.hid (W.out.below Kd (by omega))
    replace X0 := Lib.hid (X0.out.below Kd (by omega))
    replace G := Lib.hid (G.out.below Kd (by omega))
    replace BX := BX.trans (Kd.mono BX.size)
    clear Kb Kd fl0 fl1
    have ma0 := markAt_lo (m := m0) (k0 := 1) hn0 HL0.out (by omega)
    have cxx00 := xx0.c0
    have cxx01 := xx0.c1
    go_wp2_with fail
    go_at_call 28
    refine (markLogic_w (k0 := 1) X0.out (by omega)).mono ?_
    rintro e wk0 ⟨rfl, c, hX⟩
    have s12 := c.size
    clear cxx00 cxx01
    replace xa := c.two xa (by show ¬ (_ ∧ _); omega)
    replace x6 := c.two x6 (by show ¬ (_ ∧ _); omega)
    replace xx0 := c.two xx0 (by show ¬ (_ ∧ _); omega)
    replace xg := c.two xg (by show ¬ (_ ∧ _); omega)
    replace W := Lib.hid (W.out.chg c (fun j hj => by have hj' : wa3.heap.size ≤ j ∧ j < wb0.heap.size := hj; omega))
    replace G := Lib.hid (G.out.chg c (fun j hj => by have hj' : wa3.heap.size ≤ j ∧ j < wb0.heap.size := hj; omega))
    replace BX := BX.trans (c.below (by omega) fun j hj => by have hj' : wa3.heap.size ≤ j ∧ j < wb0.heap.size := hj; omega)
    clear c hX X0
    have cxg0 := xg.c0
    have cxg1 := xg.c1
    have cx60 := x6.c0
    have cx61 := x6.c1
    go_wp2_with fail
    go_at_call 27
    refine (eqLogic_any G.out.logAt W.out.logAt).mono ?_
    rintro e wk2 ⟨rfl, b⟩
    have s13 := b.size
    clear cxg0 cxg1 cx60 cx61
    replace xa := xa.below b (by omega)
    replace x6 := x6.below b (by omega)
    replace xx0 := xx0.below b (by omega)
    replace xg := xg.below b (by omega)
    replace W := Lib.hid (W.out.below b (by omega))
    replace G := Lib.hid (G.out.below b (by omega))
    replace BX := BX.trans (b.mono BX.size)
    clear b
    have hbn := G.out.hn
    have hbk := G.out.hk
    have cxg0 := xg.c0
    have cxg1 := xg.c1
    go_wp2_with fail
    go_at_call 28
    refine (markLogic_w (m := ⟨nn, fun _ => nn, Z⟩) (k0 := 1) G.out (by omega)).mono ?_
    rintro e wl ⟨rfl, c, hg⟩
    have s14 := c.size
    clear cxg0 cxg1
    have ma2 := markAt_lo (m := ⟨nn, fun _ => nn, Z⟩) (k0 := 1) G.out.hn G.out.hL (by omega)
    have GL := Lib.hid G.out.hL
    replace xa := c.two xa (by show ¬ (_ ∧ _); omega)
    replace x6 := c.two x6 (by show ¬ (_ ∧ _); omega)
    replace xx0 := c.two xx0 (by show ¬ (_ ∧ _); omega)
    replace xg := c.two xg (by show ¬ (_ ∧ _); omega)
    replace W := Lib.hid (W.out.chg c (fun j hj => by have hj' : wb1.heap.size ≤ j ∧ j < wb3.heap.size := hj; omega))
    replace BX := BX.trans (c.below (by omega) fun j hj => by have hj' : wb1.heap.size ≤ j ∧ j < wb3.heap.size := hj; omega)
    have M := Lib.hid hg
    clear c hg G
    have cxg0 := xg.c0
    have cxg1 := xg.c1
    go_wp2_with fail
    go_at_call 29
    refine (heldLogic_w (m := ⟨nn, fun _ => nn, Z⟩) (k0 := 1) M.out.mat.mat M.out.row.row M.out.hB hbn GL.out hbk (by omega)).mono ?_
    rintro e wy ⟨rfl, b⟩
    have s15 := b.size
    clear cxg0 cxg1
    replace xa := xa.below b (by omega)
    replace x6 := x6.below b (by omega)
    replace xx0 := xx0.below b (by omega)
    replace xg := xg.below b (by omega)
    replace W := Lib.hid (W.out.below b (by omega))
    replace M := Lib.hid (M.out.below b (by omega))
    replace BX := BX.trans (b.mono BX.size)
    clear b
    have cxa0 := xa.c0
    have cxa1 := xa.c1
    go_wp2_with fail
    go_at_call 26
    refine (toLogic_w (nc := nc0) (LogAt.step H0.out BX) hn0 HL0.out hk0).mono ?_
    rintro e wn0 ⟨NB, QB, rfl, hc, b⟩
    have s16 := b.size
    clear cxa0 cxa1
    replace xa := xa.below b (by omega)
    replace x6 := x6.below b (by omega)
    replace xx0 := xx0.below b (by omega)
    replace xg := xg.below b (by omega)
    replace W := Lib.hid (W.out.below b (by omega))
    replace M := Lib.hid (M.out.below b (by omega))
    replace BX := BX.trans (b.mono BX.size)
    have A1 := Lib.hid hc
    clear hc b
    go_wp2_with fail
    go_at_call 20
    refine (HI.out _ NB QB (A1.out.more (B' := wn0.heap.size) (by omega) (Nat.le_refl _)).logAt (HT.out.step BX HT.out.size)).mono ?_
    rintro e wn2 ⟨uaQ, lQ, naQ, gQ, ncQ, rfl, hh, b⟩
    have s17 := b.size
    clear A1
    replace xa := xa.below b (by omega)
    replace x6 := x6.below b (by omega)
    replace xx0 := xx0.below b (by omega)
    replace xg := xg.below b (by omega)
    replace W := Lib.hid (W.out.below b (by omega))
    replace M := Lib.hid (M.out.below b (by omega))
    replace BX := BX.trans (b.mono BX.size)
    have Q := Lib.hid hh
    clear hh b
    have x15 := TwoAt.new wn2 (.slice uaQ nn lQ.cap) (.slice naQ nn ncQ) 26
    have ba := (Below.refl wn2.heap.size wn2).alloc (Nat.le_refl _) (.cells #[.slice uaQ nn lQ.cap, .slice naQ nn ncQ] 26)
    replace xa := xa.below ba (by omega)
    replace x6 := x6.below ba (by omega)
    replace xx0 := xx0.below ba (by omega)
    replace xg := xg.below ba (by omega)
    replace W := Lib.hid (W.out.below ba (by omega))
    replace M := Lib.hid (M.out.below ba (by omega))
    replace Q := Lib.hid (Q.out.below ba (by omega))
    replace BX := BX.trans (ba.mono BX.size)
    have s18 : wn2.heap.size + 1 ≤ (wn2.alloc (.cells #[.slice uaQ nn lQ.cap, .slice naQ nn ncQ] 26)).heap.size ∧ (wn2.alloc (.cells #[.slice uaQ nn lQ.cap, .slice naQ nn ncQ] 26)).heap.size ≤ wn2.heap.size + 1 := by simp
    clear ba
    have cx150 := x15.c0
    have cx151 := x15.c1
    have cx60 := x6.c0
    have cx61 := x6.c1
    go_wp2_with fail
    generalize wn2.alloc (.cells #[.slice uaQ nn lQ.cap, .slice naQ nn ncQ] 26) = wn3 at xa x6 xx0 xg x15 W M Q BX s18 cx150 cx151 cx60 cx61 ⊢
    go_at_call 27
    refine (eqLogic_any Q.out.logAt W.out.logAt).mono ?_
    rintro e wm ⟨rfl, b⟩
    have s19 := b.size
    clear cx150 cx151 cx60 cx61
    replace xa := xa.below b (by omega)
    replace x6 := x6.below b (by omega)
    replace xx0 := xx0.below b (by omega)
    replace xg := xg.below b (by omega)
    replace x15 := x15.below b (by omega)
    replace W := Lib.hid (W.out.below b (by omega))
    replace M := Lib.hid (M.out.below b (by omega))
    replace Q := Lib.hid (Q.out.below b (by omega))
    replace BX := BX.trans (b.mono BX.size)
    clear b
    have cxg0 := xg.c0
    have cxg1 := xg.c1
    go_wp2_with fail
    go_at_call 29
    refine (heldLogic_w (m := ⟨nn, fun _ => nn, Z⟩) (k0 := 1) M.out.mat.mat M.out.row.row M.out.hB hbn GL.out hbk (by omega)).mono ?_
    rintro e wz ⟨rfl, b⟩
    have s20 := b.size
    clear cxg0 cxg1
    replace xa := xa.below b (by omega)
    replace x6 := x6.below b (by omega)
    replace xx0 := xx0.below b (by omega)
    replace xg := xg.below b (by omega)
    replace x15 := x15.below b (by omega)
    replace W := Lib.hid (W.out.below b (by omega))
    replace M := Lib.hid (M.out.below b (by omega))
    replace Q := Lib.hid (Q.out.below b (by omega))
    replace BX := BX.trans (b.mono BX.size)
    clear b
    go_wp2_with fail
    go_ret
    exact ⟨rfl, BX⟩

theorem law_ExactPartOf {w : World} {ua0 na0 : Option Addr} {l0 : Lay} {m0 : Mx} {g0 o0 k0 nc0 : Nat} {z0 : Nat → Int} {x : Int} (h0 : LogAt w w.heap.size ua0 l0 m0 na0 g0 o0 k0 z0) (hT : TabOk w) :
    Calls Tryd.prog 8 #[.agg #[.slice ua0 m0.n l0.cap, .slice na0 k0 nc0], .int .i64 x] w fun e w' => e = .returned (.bool true) ∧ Below w.heap.size w w' :=
  law_ExactPartOf_at (nn := if subV m0 k0 z0 x = true then memK x.toNat 12 else 0) (Z := nameZ m0.Z (memF x.toNat 12)) (y := partY (fun a => (z0 a).toNat) (memF x.toNat 12) (memB x.toNat 12)) h0 hT
    (fun _ N0 _ a0 => (spec_PartOf (l := freshLay N0 m0) a0).mono fun _ _ h => h.res)
    (fun _ N0 _ a0 t0 => (PartOf_any (l := freshLay N0 m0) a0 t0).mono fun _ _ h => h.res)
end Go.Proofs.YthdokmcllppobaaDoor
