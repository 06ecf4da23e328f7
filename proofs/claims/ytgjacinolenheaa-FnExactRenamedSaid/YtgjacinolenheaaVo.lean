/- The law on Renamed against the reference, walked at whatever logic and list. -/
import Derived.Test.YtgjacinolenheaaHa
import Derived.Test.YtgjacinolenheaaVm
import Derived.Test.YtgjacinolenheaaVn
namespace Go.Proofs.Ytgjacinolenheaa
open Go.RowKit Go.Deep

/-- A logic that comes back, told by its copy's blocks. -/
def ResG (w : World) (n : Nat) (Z : Nat → Nat → Int) (y : Nat → Nat) (e : Ending) (w' : World) : Prop :=
  ∃ (ua : Option Addr) (l : Lay) (na : Option Addr) (g nc : Nat), e = .returned (.agg #[.slice ua n l.cap, .slice na n nc]) ∧ LogW w' w'.heap.size w.heap.size ua l ⟨n, fun _ => n, Z⟩ na g 0 n (fun c => (y c : Int)) ∧ Below w.heap.size w w'
theorem MadeLog.res {w : World} {N : Nat} {Z : Nat → Nat → Int} {y : Nat → Nat} {ok : Bool} {e : Ending} {w' : World} (h : MadeLog w N Z y ok e w') : ResG w (if ok = true then N else 0) Z y e w' := by
  obtain ⟨hb, (⟨rfl, rfl⟩ | ⟨rfl, u, t, rv, rfl, hL⟩)⟩ := h
  · exact ⟨none, noLay, none, 0, 0, rfl, LogW.none w' Z _ _, hb⟩
  · obtain ⟨ua, l, na, g, nc, rfl, rfl, hW⟩ := hL.logW
    exact ⟨ua, l, na, g, nc, rfl, hW, hb⟩
theorem CopyS.all {w wr : World} {n : Nat} {z : Nat → Int} (h : CopyS w wr n n z) : wr.rowIs w.heap.size 3 n (fun i => .int .i64 (z i)) := h.row.congr fun i hi => by rw [if_pos hi]
theorem row_of {w : World} {b n : Nat} {z : Nat → Int} (h : w.rowIs b 3 n (fun i => .int .i64 (z i))) : RowAt w w.heap.size (some ⟨b, 0, none⟩) b 0 n z :=
  ⟨fun c hc => ⟨rfl, h.lt, by rw [Nat.zero_add]; exact h.cell hc⟩⟩
theorem roww_of {w : World} {b n : Nat} {z : Nat → Int} (h : w.rowIs b 3 n (fun i => .int .i64 (z i))) : RowW w w.heap.size (some ⟨b, 0, none⟩) b 0 n z := ⟨row_of h, fun c _ => h.frozen (0 + c)⟩

set_option maxRecDepth 100000 in
set_option maxHeartbeats 8000000 in
theorem law_ExactRenamed_at {w : World} {ua0 na0 a : Option Addr} {l0 : Lay} {m0 : Mx} {g0 o0 k0 nc0 g o n cap nn : Nat} {z0 z : Nat → Int} {Z : Nat → Nat → Int} {y : Nat → Nat}
    (h0 : LogAt w w.heap.size ua0 l0 m0 na0 g0 o0 k0 z0) (hr : RowAt w w.heap.size a g o n z)
    (hs : ∀ (W : World) (N0 q0 c : Nat), LogAt W W.heap.size (some ⟨N0, 0, none⟩) (freshLay N0 m0) m0 (some ⟨q0, 0, none⟩) q0 0 k0 z0 → RowAt W W.heap.size (some ⟨c, 0, none⟩) c 0 n z → Calls Try.prog 36 #[.agg #[.slice (some ⟨N0, 0, none⟩) m0.n m0.n, .slice (some ⟨q0, 0, none⟩) k0 k0], .slice (some ⟨c, 0, none⟩) n n] W (ResG W nn Z y))
    (hi : ∀ (W : World) (N0 q0 c : Nat), LogAt W W.heap.size (some ⟨N0, 0, none⟩) (freshLay N0 m0) m0 (some ⟨q0, 0, none⟩) q0 0 k0 z0 → RowAt W W.heap.size (some ⟨c, 0, none⟩) c 0 n z → Calls Try.prog 35 #[.agg #[.slice (some ⟨N0, 0, none⟩) m0.n m0.n, .slice (some ⟨q0, 0, none⟩) k0 k0], .slice (some ⟨c, 0, none⟩) n n] W (ResG W nn Z y)) :
    Calls Try.prog 12 #[.agg #[.slice ua0 m0.n l0.cap, .slice na0 k0 nc0], .slice a n cap] w fun e w' => e = .returned (.bool true) ∧ Below w.heap.size w w' := by
  have HS := Lib.hid hs
  have HI := Lib.hid hi
  have H0 := Lib.hid h0
  have HR := Lib.hid hr
  clear hs hi h0 hr
  have xa := TwoAt.new w (.slice ua0 m0.n l0.cap) (.slice na0 k0 nc0) 45
  have B1 := (Below.refl w.heap.size w).alloc (Nat.le_refl _) (.cells #[.slice ua0 m0.n l0.cap, .slice na0 k0 nc0] 45)
  have s1 : w.heap.size < (w.alloc (.cells #[.slice ua0 m0.n l0.cap, .slice na0 k0 nc0] 45)).heap.size := by simp
  go_enter Try.func12, Try.ntmps12
  by_cases hbig : 1048576 < n
  · have hbig' : (1048576 : Int) < (n : Int) := by omega
    go_wp2_with fail
    go_ret
    exact ⟨rfl, B1⟩
  · have hbig' : ¬ (1048576 : Int) < (n : Int) := by omega
    have hn1 : n ≤ 1048576 := by omega
    have f0 := xa.c0
    have f1 := xa.c1
    go_wp2_with fail
    generalize w.alloc (.cells #[.slice ua0 m0.n l0.cap, .slice na0 k0 nc0] 45) = w1 at xa B1 s1 f0 f1 ⊢
    go_at_call 41
    refine (szLogic_v (by omega) (by omega) (LogAt.step H0.out B1)).mono ?_
    rintro e w2 ⟨⟨v, rfl, hv⟩, b2⟩
    have s2 := b2.size
    replace xa := xa.below b2 (by omega)
    have BX := B1.trans (b2.mono B1.size)
    clear f0 f1 b2 hbig hbig'
    by_cases hneg : v < 0
    · go_wp2_with fail
      go_ret
      exact ⟨rfl, BX⟩
    · obtain ⟨hn0, hL0, hk0, hv0, hv1⟩ : m0.n ≤ 1048576 ∧ (∀ r, r < m0.n → m0.L r ≤ 1048576) ∧ k0 ≤ 1048576 ∧ 0 ≤ v ∧ v ≤ 1048576 := hv.resolve_left hneg
      clear hv B1
      have HL0 := Lib.hid hL0
      clear hL0
      have cxa0 := xa.c0
      have cxa1 := xa.c1
      go_wp2_with fail
      go_at_call 42
      refine (toLogic_w (nc := nc0) (LogAt.step H0.out BX) hn0 HL0.out hk0).mono ?_
      rintro e wa0 ⟨NA, QA, rfl, hc, b⟩
      have s3 := b.size
      clear cxa0 cxa1
      replace xa := xa.below b (by omega)
      replace BX := BX.trans (b.mono BX.size)
      have A0 := Lib.hid hc
      clear hc b
      go_wp2_with fail
      go_at_call 43
      refine (toIntS_any w.heap.size a g o n cap z _ hn1 (HR.out.below BX) BX.size).mono ?_
      rintro e wa1 ⟨rfl, hS⟩
      have b := hS.old
      have s4 := hS.all.lt
      replace xa := xa.below b (by omega)
      replace A0 := Lib.hid (A0.out.below b (by omega))
      replace BX := BX.trans (b.mono BX.size)
      have RA := Lib.hid hS.all
      clear hS b
      go_wp2_with fail
      go_at_call 36
      refine (HS.out _ NA QA wa0.heap.size (A0.out.more (B' := wa1.heap.size) (by omega) (Nat.le_refl _)).logAt (row_of RA.out)).mono ?_
      rintro e wa2 ⟨uaW, lW, naW, gW, ncW, rfl, hh, b⟩
      have s5 := b.size
      clear A0 RA
      replace xa := xa.below b (by omega)
      replace BX := BX.trans (b.mono BX.size)
      have W := Lib.hid hh
      clear hh b
      have x6 := TwoAt.new wa2 (.slice uaW nn lW.cap) (.slice naW nn ncW) 27
      have ba := (Below.refl wa2.heap.size wa2).alloc (Nat.le_refl _) (.cells #[.slice uaW nn lW.cap, .slice naW nn ncW] 27)
      replace xa := xa.below ba (by omega)
      replace W := Lib.hid (W.out.below ba (by omega))
      replace BX := BX.trans (ba.mono BX.size)
      have s6 : wa2.heap.size + 1 ≤ (wa2.alloc (.cells #[.slice uaW nn lW.cap, .slice naW nn ncW] 27)).heap.size ∧ (wa2.alloc (.cells #[.slice uaW nn lW.cap, .slice naW nn ncW] 27)).heap.size ≤ wa2.heap.size + 1 := by simp
      clear ba
      have cxa0 := xa.c0
      have cxa1 := xa.c1
      go_wp2_with fail
      generalize wa2.alloc (.cells #[.slice uaW nn lW.cap, .slice naW nn ncW] 27) = wa3 at xa x6 W BX s6 cxa0 cxa1 ⊢
      go_at_call 42
      refine (toLogic_w (nc := nc0) (LogAt.step H0.out BX) hn0 HL0.out hk0).mono ?_
      rintro e wb0 ⟨N0, q0, rfl, hc, b⟩
      have s7 := b.size
      clear cxa0 cxa1
      replace xa := xa.below b (by omega)
      replace x6 := x6.below b (by omega)
      replace W := Lib.hid (W.out.below b (by omega))
      replace BX := BX.trans (b.mono BX.size)
      have X0 := Lib.hid hc
      clear hc b
      have xx0 := TwoAt.new wb0 (.slice (some ⟨N0, 0, none⟩) m0.n m0.n) (.slice (some ⟨q0, 0, none⟩) k0 k0) 27
      have ba := (Below.refl wb0.heap.size wb0).alloc (Nat.le_refl _) (.cells #[.slice (some ⟨N0, 0, none⟩) m0.n m0.n, .slice (some ⟨q0, 0, none⟩) k0 k0] 27)
      replace xa := xa.below ba (by omega)
      replace x6 := x6.below ba (by omega)
      replace W := Lib.hid (W.out.below ba (by omega))
      replace X0 := Lib.hid (X0.out.below ba (by omega))
      replace BX := BX.trans (ba.mono BX.size)
      have s8 : wb0.heap.size + 1 ≤ (wb0.alloc (.cells #[.slice (some ⟨N0, 0, none⟩) m0.n m0.n, .slice (some ⟨q0, 0, none⟩) k0 k0] 27)).heap.size ∧ (wb0.alloc (.cells #[.slice (some ⟨N0, 0, none⟩) m0.n m0.n, .slice (some ⟨q0, 0, none⟩) k0 k0] 27)).heap.size ≤ wb0.heap.size + 1 := by simp
      clear ba
      go_wp2_with fail
      generalize wb0.alloc (.cells #[.slice (some ⟨N0, 0, none⟩) m0.n m0.n, .slice (some ⟨q0, 0, none⟩) k0 k0] 27) = wb1 at xa x6 xx0 W X0 BX s8 ⊢
      go_at_call 43
      refine (toIntS_any w.heap.size a g o n cap z _ hn1 (HR.out.below BX) BX.size).mono ?_
      rintro e wb2 ⟨rfl, hS⟩
      have b := hS.old
      have s9 := hS.all.lt
      replace xa := xa.below b (by omega)
      replace x6 := x6.below b (by omega)
      replace xx0 := xx0.below b (by omega)
      replace W := Lib.hid (W.out.below b (by omega))
      replace X0 := Lib.hid (X0.out.below b (by omega))
      replace BX := BX.trans (b.mono BX.size)
      have R1 := Lib.hid hS.all
      clear hS b
      have cxx00 := xx0.c0
      have cxx01 := xx0.c1
      go_wp2_with fail
      go_at_call 35
      refine (HI.out _ N0 q0 wb1.heap.size (X0.out.more (B' := wb2.heap.size) (by omega) (Nat.le_refl _)).logAt (row_of R1.out)).mono ?_
      rintro e wb3 ⟨uaG, lG, naG, gG, ncG, rfl, hh, b⟩
      have s10 := b.size
      clear cxx00 cxx01
      replace R1 := Lib.hid (R1.out.of_block (b.block _ R1.out.lt))
      replace xa := xa.below b (by omega)
      replace x6 := x6.below b (by omega)
      replace xx0 := xx0.below b (by omega)
      replace W := Lib.hid (W.out.below b (by omega))
      replace X0 := Lib.hid (X0.out.below b (by omega))
      replace BX := BX.trans (b.mono BX.size)
      have G := Lib.hid hh
      clear hh b
      have xg := TwoAt.new wb3 (.slice uaG nn lG.cap) (.slice naG nn ncG) 27
      have ba := (Below.refl wb3.heap.size wb3).alloc (Nat.le_refl _) (.cells #[.slice uaG nn lG.cap, .slice naG nn ncG] 27)
      replace R1 := Lib.hid (R1.out.of_block (ba.block _ R1.out.lt))
      replace xa := xa.below ba (by omega)
      replace x6 := x6.below ba (by omega)
      replace xx0 := xx0.below ba (by omega)
      replace W := Lib.hid (W.out.below ba (by omega))
      replace X0 := Lib.hid (X0.out.below ba (by omega))
      replace G := Lib.hid (G.out.below ba (by omega))
      replace BX := BX.trans (ba.mono BX.size)
      have s11 : wb3.heap.size + 1 ≤ (wb3.alloc (.cells #[.slice uaG nn lG.cap, .slice naG nn ncG] 27)).heap.size ∧ (wb3.alloc (.cells #[.slice uaG nn lG.cap, .slice naG nn ncG] 27)).heap.size ≤ wb3.heap.size + 1 := by simp
      clear ba
      have cxg0 := xg.c0
      have cxg1 := xg.c1
      have cx60 := x6.c0
      have cx61 := x6.c1
      go_wp2_with fail
      generalize wb3.alloc (.cells #[.slice uaG nn lG.cap, .slice naG nn ncG] 27) = wb4 at xa x6 xx0 xg W X0 G R1 BX s11 cxg0 cxg1 cx60 cx61 ⊢
      go_at_call 38
      refine (eqLogic_any G.out.logAt W.out.logAt).mono ?_
      rintro e wc0 ⟨rfl, b⟩
      have s12 := b.size
      clear cxg0 cxg1 cx60 cx61
      replace R1 := Lib.hid (R1.out.of_block (b.block _ R1.out.lt))
      replace xa := xa.below b (by omega)
      replace x6 := x6.below b (by omega)
      replace xx0 := xx0.below b (by omega)
      replace xg := xg.below b (by omega)
      replace W := Lib.hid (W.out.below b (by omega))
      replace X0 := Lib.hid (X0.out.below b (by omega))
      replace G := Lib.hid (G.out.below b (by omega))
      replace BX := BX.trans (b.mono BX.size)
      clear b
      have cxx00 := xx0.c0
      have cxx01 := xx0.c1
      have cxa0 := xa.c0
      have cxa1 := xa.c1
      go_wp2_with fail
      have Kb : Below wc0.heap.size wc0 wc0.drew := (Below.refl _ _).drew
      have fl0 : wb0.heap.size < wc0.heap.size := by omega
      have fl1 : w.heap.size < wc0.heap.size := by omega
      refine region_plain (fuel := 5) (listed := #[false, false, false, false, false]) (fun W' => Below wc0.heap.size wc0 W') (by kernel_rfl) (by kernel_rfl) (by kernel_rfl) ?_
      refine hold_take (i := 0) (d := 38) (v := ?vq0) (listed' := #[true, false, false, false, false]) rfl (by kernel_rfl) (by kernel_rfl) (by kernel_rfl) rfl (by rfl) (by kernel_rfl) Kb ?hq0 ?rq0
      case hq0 =>
        intro w' hSw
        have hSb : Below wc0.heap.size wc0 w' := hSw; have y0 := (hSb.cell (p := ⟨wb0.heap.size, 0, none⟩) fl0).trans cxx00; have y1 := (hSb.cell (p := ⟨wb0.heap.size, 1, none⟩) fl0).trans cxx01; have y2 := (hSb.cell (p := ⟨w.heap.size, 0, none⟩) fl1).trans cxa0; have y3 := (hSb.cell (p := ⟨w.heap.size, 1, none⟩) fl1).trans cxa1
        go_simp
        try with_reducible rfl
      simp only [List.setIfInBounds_toArray, List.set_cons_zero, List.set_cons_succ]
      refine hold_take (i := 1) (d := 39) (v := ?vq1) (listed' := #[true, true, false, false, false]) rfl (by kernel_rfl) (by kernel_rfl) (by kernel_rfl) rfl (by rfl) (by kernel_rfl) Kb ?hq1 ?rq1
      case hq1 =>
        intro w' hSw
        have hSb : Below wc0.heap.size wc0 w' := hSw; have y0 := (hSb.cell (p := ⟨wb0.heap.size, 0, none⟩) fl0).trans cxx00; have y1 := (hSb.cell (p := ⟨wb0.heap.size, 1, none⟩) fl0).trans cxx01; have y2 := (hSb.cell (p := ⟨w.heap.size, 0, none⟩) fl1).trans cxa0; have y3 := (hSb.cell (p := ⟨w.heap.size, 1, none⟩) fl1).trans cxa1
        go_simp
        try with_reducible rfl
      simp only [List.setIfInBounds_toArray, List.set_cons_zero, List.set_cons_succ]
      refine hold_call (i := 2) (d := 40) (listed' := #[true, true, true, false, false]) rfl (by kernel_rfl) rfl (by rfl) (by kernel_rfl) ?heq2 (toLogic_w (nc := nc0) (LogAt.step H0.out (BX.trans (Kb.mono BX.size))) hn0 HL0.out hk0) ?hcq2
      case heq2 => go_simp
      rintro e wh ⟨NN, qq, rfl, hc, b⟩
      have Kc : Below wc0.heap.size wc0 wh := Kb.trans (b.mono Kb.size)
      have Y0 := Lib.hid hc
      clear hc b
      have sk := Kc.size
      refine ⟨_, rfl, Kc, ?_⟩
      simp only [List.setIfInBounds_toArray, List.set_cons_zero, List.set_cons_succ]
      refine hold_call (i := 3) (d := 41) (listed' := #[true, true, true, true, false]) rfl (by kernel_rfl) rfl (by rfl) (by kernel_rfl) ?heq3 (eqLogic_any (nc := k0) (nc' := k0) (X0.out.below Kc (by omega)).logAt Y0.out.logAt) ?hcq3
      case heq3 =>
        go_simp
        try exact ⟨rfl, rfl⟩
      rintro e wi ⟨rfl, b⟩
      have Kd : Below wc0.heap.size wc0 wi := Kc.trans (b.mono Kc.size)
      clear b Y0 Kc sk
      refine ⟨_, rfl, Kd, ?_⟩
      simp only [List.setIfInBounds_toArray, List.set_cons_zero, List.set_cons_succ]
      refine hold_take (i := 4) (d := 42) (v := ?vq4) (listed' := #[true, true, true, true, true]) rfl (by kernel_rfl) (by kernel_rfl) (by kernel_rfl) rfl (by rfl) (by kernel_rfl) Kd ?hq4 ?rq4
      case hq4 =>
        intro w' hSw
        have hSb : Below wc0.heap.size wc0 w' := hSw; have y0 := (hSb.cell (p := ⟨wb0.heap.size, 0, none⟩) fl0).trans cxx00; have y1 := (hSb.cell (p := ⟨wb0.heap.size, 1, none⟩) fl0).trans cxx01; have y2 := (hSb.cell (p := ⟨w.heap.size, 0, none⟩) fl1).trans cxa0; have y3 := (hSb.cell (p := ⟨w.heap.size, 1, none⟩) fl1).trans cxa1
        go_simp
        try with_reducible rfl
      simp only [List.setIfInBounds_toArray, List.set_cons_zero, List.set_cons_succ]
      refine hold_done (by kernel_rfl) ?_ _
      clear cxx00 cxx01 cxa0 cxa1
      have s13 := Kd.size
      replace R1 := Lib.hid (R1.out.of_block (Kd.block _ R1.out.lt))
      replace xa := xa.below Kd (by omega)
      replace x6 := x6.below Kd (by omega)
      replace xx0 := xx0.below Kd (by omega)
      replace xg := xg.below Kd (by omega)
      replace W := Lib.hid (W.out.below Kd (by omega))
      replace X0 := Lib.hid (X0.out.below Kd (by omega))
      replace G := Lib.hid (G.out.below Kd (by omega))
      replace BX := BX.trans (Kd.mono BX.size)
      clear Kb Kd fl0 fl1
      go_wp2_with fail
      go_at_call 43
      refine (toIntS_any w.heap.size a g o n cap z _ hn1 (HR.out.below BX) BX.size).mono ?_
      rintro e wj0 ⟨rfl, hS⟩
      have b := hS.old
      have s14 := hS.all.lt
      replace R1 := Lib.hid (R1.out.of_block (b.block _ R1.out.lt))
      replace xa := xa.below b (by omega)
      replace x6 := x6.below b (by omega)
      replace xx0 := xx0.below b (by omega)
      replace xg := xg.below b (by omega)
      replace W := Lib.hid (W.out.below b (by omega))
      replace X0 := Lib.hid (X0.out.below b (by omega))
      replace G := Lib.hid (G.out.below b (by omega))
      replace BX := BX.trans (b.mono BX.size)
      have R2 := Lib.hid hS.all
      clear hS b
      go_wp2_with fail
      go_at_call 44
      refine (eqIntS_same wj0.heap.size _ _ _ _ _ _ n n n z wj0 (by omega) (row_of R1.out) (row_of R2.out)).mono ?_
      rintro e wj1 ⟨rfl, hD⟩
      have b := hD.below wj0.heap.size
      have s15 := b.size
      clear R2
      replace R1 := Lib.hid (R1.out.of_block (b.block _ R1.out.lt))
      replace xa := xa.below b (by omega)
      replace x6 := x6.below b (by omega)
      replace xx0 := xx0.below b (by omega)
      replace xg := xg.below b (by omega)
      replace W := Lib.hid (W.out.below b (by omega))
      replace X0 := Lib.hid (X0.out.below b (by omega))
      replace G := Lib.hid (G.out.below b (by omega))
      replace BX := BX.trans (b.mono BX.size)
      clear hD b
      have ma0 := markAt_lo (m := m0) (k0 := 1) hn0 HL0.out (by omega)
      have cxx00 := xx0.c0
      have cxx01 := xx0.c1
      go_wp2_with fail
      go_at_call 39
      refine (markLogic_w (k0 := 1) X0.out (by omega)).mono ?_
      rintro e wk0 ⟨rfl, c, hX⟩
      have s16 := c.size
      clear cxx00 cxx01
      replace R1 := Lib.hid (R1.out.of_block (c.block _ R1.out.lt (by show ¬ (_ ∧ _); omega)))
      replace xa := c.two xa (by show ¬ (_ ∧ _); omega)
      replace x6 := c.two x6 (by show ¬ (_ ∧ _); omega)
      replace xx0 := c.two xx0 (by show ¬ (_ ∧ _); omega)
      replace xg := c.two xg (by show ¬ (_ ∧ _); omega)
      replace W := Lib.hid (W.out.chg c (fun j hj => by have hj' : wa3.heap.size ≤ j ∧ j < wb0.heap.size := hj; omega))
      replace G := Lib.hid (G.out.chg c (fun j hj => by have hj' : wa3.heap.size ≤ j ∧ j < wb0.heap.size := hj; omega))
      replace BX := BX.trans (c.below (by omega) fun j hj => by have hj' : wa3.heap.size ≤ j ∧ j < wb0.heap.size := hj; omega)
      clear c hX X0
      go_wp2_with fail
      go_at_call 45
      refine (markIntS_w (k0 := ((markAt m0 1 + k0 : Nat) : Int)) hn1 (by omega) (by omega) (roww_of R1.out)).mono ?_
      rintro e wk1 ⟨rfl, hon, hX⟩
      rw [show ((markAt m0 1 + k0 : Nat) : Int) + (n : Int) = ((markAt m0 1 + k0 + n : Nat) : Int) by omega]
      have c := (Chg.of_only hon).mono (T := fun j => wb1.heap.size ≤ j ∧ j < wb1.heap.size + 1) fun j hj => by have hj' : 0 < n ∧ j = wb1.heap.size := hj; show _ ∧ _; omega
      have s17 := c.size
      clear R1 hX hon
      replace xa := c.two xa (by show ¬ (_ ∧ _); omega)
      replace x6 := c.two x6 (by show ¬ (_ ∧ _); omega)
      replace xx0 := c.two xx0 (by show ¬ (_ ∧ _); omega)
      replace xg := c.two xg (by show ¬ (_ ∧ _); omega)
      replace W := Lib.hid (W.out.chg c (fun j hj => by have hj' : wb1.heap.size ≤ j ∧ j < wb1.heap.size + 1 := hj; omega))
      replace G := Lib.hid (G.out.chg c (fun j hj => by have hj' : wb1.heap.size ≤ j ∧ j < wb1.heap.size + 1 := hj; omega))
      replace BX := BX.trans (c.below (by omega) fun j hj => by have hj' : wb1.heap.size ≤ j ∧ j < wb1.heap.size + 1 := hj; omega)
      clear c
      have cxg0 := xg.c0
      have cxg1 := xg.c1
      have cx60 := x6.c0
      have cx61 := x6.c1
      go_wp2_with fail
      go_at_call 38
      refine (eqLogic_any G.out.logAt W.out.logAt).mono ?_
      rintro e wk2 ⟨rfl, b⟩
      have s18 := b.size
      clear cxg0 cxg1 cx60 cx61
      replace xa := xa.below b (by omega)
      replace x6 := x6.below b (by omega)
      replace xx0 := xx0.below b (by omega)
      replace xg := xg.below b (by omega)
      replace W := Lib.hid (W.out.below b (by omega))
      replace G := Lib.hid (G.out.below b (by omega))
      replace BX := BX.trans (b.mono BX.size)
      clear b
      have hbn := G.out.hn
      have hbk := G.out.hk
      have cxg0 := xg.c0
      have cxg1 := xg.c1
      go_wp2_with fail
      go_at_call 39
      refine (markLogic_w (m := ⟨nn, fun _ => nn, Z⟩) (k0 := 1) G.out (by omega)).mono ?_
      rintro e wl ⟨rfl, c, hg⟩
      have s19 := c.size
      clear cxg0 cxg1
      have ma2 := markAt_lo (m := ⟨nn, fun _ => nn, Z⟩) (k0 := 1) G.out.hn G.out.hL (by omega)
      have GL := Lib.hid G.out.hL
      replace xa := c.two xa (by show ¬ (_ ∧ _); omega)
      replace x6 := c.two x6 (by show ¬ (_ ∧ _); omega)
      replace xx0 := c.two xx0 (by show ¬ (_ ∧ _); omega)
      replace xg := c.two xg (by show ¬ (_ ∧ _); omega)
      replace W := Lib.hid (W.out.chg c (fun j hj => by have hj' : wb2.heap.size ≤ j ∧ j < wb3.heap.size := hj; omega))
      replace BX := BX.trans (c.below (by omega) fun j hj => by have hj' : wb2.heap.size ≤ j ∧ j < wb3.heap.size := hj; omega)
      have M := Lib.hid hg
      clear c hg G
      have cxg0 := xg.c0
      have cxg1 := xg.c1
      go_wp2_with fail
      go_at_call 40
      refine (heldLogic_w (m := ⟨nn, fun _ => nn, Z⟩) (k0 := 1) M.out.mat.mat M.out.row.row M.out.hB hbn GL.out hbk (by omega)).mono ?_
      rintro e wy ⟨rfl, b⟩
      have s20 := b.size
      clear cxg0 cxg1
      replace xa := xa.below b (by omega)
      replace x6 := x6.below b (by omega)
      replace xx0 := xx0.below b (by omega)
      replace xg := xg.below b (by omega)
      replace W := Lib.hid (W.out.below b (by omega))
      replace M := Lib.hid (M.out.below b (by omega))
      replace BX := BX.trans (b.mono BX.size)
      clear b
      have cxa0 := xa.c0
      have cxa1 := xa.c1
      go_wp2_with fail
      go_at_call 42
      refine (toLogic_w (nc := nc0) (LogAt.step H0.out BX) hn0 HL0.out hk0).mono ?_
      rintro e wn0 ⟨NB, QB, rfl, hc, b⟩
      have s21 := b.size
      clear cxa0 cxa1
      replace xa := xa.below b (by omega)
      replace x6 := x6.below b (by omega)
      replace xx0 := xx0.below b (by omega)
      replace xg := xg.below b (by omega)
      replace W := Lib.hid (W.out.below b (by omega))
      replace M := Lib.hid (M.out.below b (by omega))
      replace BX := BX.trans (b.mono BX.size)
      have A1 := Lib.hid hc
      clear hc b
      go_wp2_with fail
      go_at_call 43
      refine (toIntS_any w.heap.size a g o n cap z _ hn1 (HR.out.below BX) BX.size).mono ?_
      rintro e wn1 ⟨rfl, hS⟩
      have b := hS.old
      have s22 := hS.all.lt
      replace xa := xa.below b (by omega)
      replace x6 := x6.below b (by omega)
      replace xx0 := xx0.below b (by omega)
      replace xg := xg.below b (by omega)
      replace W := Lib.hid (W.out.below b (by omega))
      replace M := Lib.hid (M.out.below b (by omega))
      replace A1 := Lib.hid (A1.out.below b (by omega))
      replace BX := BX.trans (b.mono BX.size)
      have RB := Lib.hid hS.all
      clear hS b
      go_wp2_with fail
      go_at_call 35
      refine (HI.out _ NB QB wn0.heap.size (A1.out.more (B' := wn1.heap.size) (by omega) (Nat.le_refl _)).logAt (row_of RB.out)).mono ?_
      rintro e wn2 ⟨uaQ, lQ, naQ, gQ, ncQ, rfl, hh, b⟩
      have s23 := b.size
      clear A1 RB
      replace xa := xa.below b (by omega)
      replace x6 := x6.below b (by omega)
      replace xx0 := xx0.below b (by omega)
      replace xg := xg.below b (by omega)
      replace W := Lib.hid (W.out.below b (by omega))
      replace M := Lib.hid (M.out.below b (by omega))
      replace BX := BX.trans (b.mono BX.size)
      have Q := Lib.hid hh
      clear hh b
      have x15 := TwoAt.new wn2 (.slice uaQ nn lQ.cap) (.slice naQ nn ncQ) 27
      have ba := (Below.refl wn2.heap.size wn2).alloc (Nat.le_refl _) (.cells #[.slice uaQ nn lQ.cap, .slice naQ nn ncQ] 27)
      replace xa := xa.below ba (by omega)
      replace x6 := x6.below ba (by omega)
      replace xx0 := xx0.below ba (by omega)
      replace xg := xg.below ba (by omega)
      replace W := Lib.hid (W.out.below ba (by omega))
      replace M := Lib.hid (M.out.below ba (by omega))
      replace Q := Lib.hid (Q.out.below ba (by omega))
      replace BX := BX.trans (ba.mono BX.size)
      have s24 : wn2.heap.size + 1 ≤ (wn2.alloc (.cells #[.slice uaQ nn lQ.cap, .slice naQ nn ncQ] 27)).heap.size ∧ (wn2.alloc (.cells #[.slice uaQ nn lQ.cap, .slice naQ nn ncQ] 27)).heap.size ≤ wn2.heap.size + 1 := by simp
      clear ba
      have cx150 := x15.c0
      have cx151 := x15.c1
      have cx60 := x6.c0
      have cx61 := x6.c1
      go_wp2_with fail
      generalize wn2.alloc (.cells #[.slice uaQ nn lQ.cap, .slice naQ nn ncQ] 27) = wn3 at xa x6 xx0 xg x15 W M Q BX s24 cx150 cx151 cx60 cx61 ⊢
      go_at_call 38
      refine (eqLogic_any Q.out.logAt W.out.logAt).mono ?_
      rintro e wm ⟨rfl, b⟩
      have s25 := b.size
      clear cx150 cx151 cx60 cx61
      replace xa := xa.below b (by omega)
      replace x6 := x6.below b (by omega)
      replace xx0 := xx0.below b (by omega)
      replace xg := xg.below b (by omega)
      replace x15 := x15.below b (by omega)
      replace W := Lib.hid (W.out.below b (by omega))
      replace M := Lib.hid (M.out.below b (by omega))
      replace Q := Lib.hid (Q.out.below b (by omega))
      replace BX := BX.trans (b.mono BX.size)
      clear b
      have cxg0 := xg.c0
      have cxg1 := xg.c1
      go_wp2_with fail
      go_at_call 40
      refine (heldLogic_w (m := ⟨nn, fun _ => nn, Z⟩) (k0 := 1) M.out.mat.mat M.out.row.row M.out.hB hbn GL.out hbk (by omega)).mono ?_
      rintro e wz ⟨rfl, b⟩
      have s26 := b.size
      clear cxg0 cxg1
      replace xa := xa.below b (by omega)
      replace x6 := x6.below b (by omega)
      replace xx0 := xx0.below b (by omega)
      replace xg := xg.below b (by omega)
      replace x15 := x15.below b (by omega)
      replace W := Lib.hid (W.out.below b (by omega))
      replace M := Lib.hid (M.out.below b (by omega))
      replace Q := Lib.hid (Q.out.below b (by omega))
      replace BX := BX.trans (b.mono BX.size)
      clear b
      go_wp2_with fail
      go_ret
      exact ⟨rfl, BX⟩

def copyR (N : Nat) (m : Mx) (q k : Nat) (z : Nat → Int) : LD := ⟨some ⟨N, 0, none⟩, freshLay N m, m, some ⟨q, 0, none⟩, q, 0, k, k, z⟩
noncomputable def renOk (m0 : Mx) (k0 : Nat) (z0 : Nat → Int) (n : Nat) (z : Nat → Int) : Bool := logicB m0 k0 z0 && eachB m0.n n z
theorem law_ExactRenamed {w : World} {ua0 na0 a : Option Addr} {l0 : Lay} {m0 : Mx} {g0 o0 k0 nc0 g o n cap : Nat} {z0 z : Nat → Int} (h0 : LogAt w w.heap.size ua0 l0 m0 na0 g0 o0 k0 z0) (hn : n ≤ 9223372036854775807) (hr : RowAt w w.heap.size a g o n z) :
    Calls Try.prog 12 #[.agg #[.slice ua0 m0.n l0.cap, .slice na0 k0 nc0], .slice a n cap] w fun e w' => e = .returned (.bool true) ∧ Below w.heap.size w w' :=
  law_ExactRenamed_at (nn := if renOk m0 k0 z0 n z = true then n else 0) (Z := nameZ m0.Z (fun c => (z c).toNat)) (y := fun x => placeN n z ((z0 (z x).toNat).toNat)) h0 hr
    (fun _ N0 q0 _ a0 r0 => (spec_Renamed_any (d0 := copyR N0 m0 q0 k0 z0) a0 r0).mono fun _ _ h => h.res)
    (fun _ N0 q0 _ a0 r0 => (Renamed_any (d0 := copyR N0 m0 q0 k0 z0) a0 r0 hn).mono fun _ _ h => h.res)
end Go.Proofs.Ytgjacinolenheaa
