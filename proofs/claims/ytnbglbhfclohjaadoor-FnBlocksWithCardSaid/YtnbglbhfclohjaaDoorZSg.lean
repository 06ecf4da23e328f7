import Derived.Test.YtnbglbhfclohjaaDoorZSh
import Derived.Test.YtnbglbhfclohjaaDoorZSi
import Derived.Test.YtnbglbhfclohjaaDoorZBb
namespace Go.Proofs.YtnbglbhfclohjaaDoor
open Go.RowKit Go.Deep Go.Shelf

attribute [local go_sem] Oper.semAt_some

theorem cnt_step {pre : List Nat} {x a : Nat} (hp : pre.length ≤ 5000) : IntKind.i64.wrap (((cntN pre a : Nat) : Int) + ((hasN x a : Nat) : Int)) = ((cntN (pre ++ [x]) a : Nat) : Int) := by
  have h1 := cntN_le pre a
  rw [cntN_snoc, IntKind.wrap_i64]
  unfold hasN
  split <;> omega
/-- All blocks, yielded a while later. -/
theorem all_seq_at {m : Mx} {z : Nat → Int} {y : Nat → Nat} {o0 mb : Nat} {w w' W : World} {own : World → Nat → Prop} (hO : Ortho m z y o0) (hC : CompAt m y mb w) (hT : TabOk w)
    (hx : w' = ((w.alloc (.cells #[.slice (some ⟨mb, 0, none⟩) m.n m.n] 78)).alloc (.cells #[.int .i64 0] 3)).alloc (.cells #[.int .i64 0] 3)) (hW : Below w'.heap.size w' W)
    (how : Ow own W.heap.size) (h1 : ¬ own W w.heap.size) (h2 : ¬ own W (w.heap.size + 1)) (h3 : ¬ own W (w.heap.size + 1 + 1)) (h4 : ¬ own W mb) (h5 : ¬ own W 1) :
    SeqL own 145 #[.pointer (some ⟨w.heap.size, 0, none⟩), .pointer (some ⟨w.heap.size + 1, 0, none⟩), .pointer (some ⟨w.heap.size + 1 + 1, 0, none⟩)] (allL m y) W := by
  have hb := blocks_world hx
  obtain ⟨c1, c2, c3⟩ := blocks_cells hx
  have d1 := (hW.cell (World.block_lt_of_cell? _ _ c1)).trans c1
  have d2 := (hW.cell (World.block_lt_of_cell? _ _ c2)).trans c2
  have d3 := (hW.cell (World.block_lt_of_cell? _ _ c3)).trans c3
  have hb' := hb.trans (hW.mono hb.size)
  exact blocks_seq hO 13 0 0 (Nat.two_pow_pos _) none_clique (Nat.zero_le _) (by have := hO.lat.order.top; omega) own mb _ _ _ W how ⟨⟨d1, h1⟩, ⟨d2, h2⟩, ⟨d3, h3⟩, ⟨hC.step hb', h4⟩, ⟨hT.step hb' hT.size, h5⟩⟩

set_option maxRecDepth 100000 in
set_option maxHeartbeats 4000000 in
theorem countWith_any {w : World} {gf a : Nat} {lb : Array Value} {L : List Nat} (eg : ∀ args w, (callFunc gf args).run Tryd.prog w = .ok (.enter gf args) w) (hSeq : SeqL (fun _ k => k = w.heap.size + 1) gf lb L ((w.alloc (.cells #[.int .i64 (a : Int)] 3)).alloc (.cells #[.int .i64 0] 3))) (hL : ∀ t, t ∈ L → t < 4096) (hll : L.length ≤ 5000) (ha : a < 64) :
    Calls Tryd.prog 90 #[.func (.func gf) #[] lb, .int .i64 a] w fun e w' => e = .returned (.int .i64 ((cntN L a : Nat) : Int)) ∧ Below w.heap.size w w' := by
  have e1 : (w.alloc (.cells #[.int .i64 (a : Int)] 3)).heap.size = w.heap.size + 1 := World.size_alloc _ _
  have e2 : ((w.alloc (.cells #[.int .i64 (a : Int)] 3)).alloc (.cells #[.int .i64 0] 3)).heap.size = w.heap.size + 1 + 1 := by rw [World.size_alloc, e1]
  have hA := Boxd.start w (.int .i64 (a : Int)) 3
  have hC := Boxd.start (w.alloc (.cells #[.int .i64 (a : Int)] 3)) (.int .i64 0) 3
  have bw := hA.below.trans (hC.below.mono hA.below.size)
  have ca := (hA.step hC.below).cell
  have cc := hC.cell
  have cf := hC.frozen
  rw [e1] at cc cf
  have HLt := Lib.hid hL
  clear hA hC e1 hL
  refine (callsIn_wide (n := 9)).1 ?_
  refine callsIn_of_wp_marks Tryd.func90 rfl trivial ?_ rfl
  simp only [Tryd.ntmps90, List.size_toArray, List.length_cons, List.length_nil, Nat.reduceAdd, Nat.reduceSub, Array.replicate_succ, Array.replicate_zero, List.push_toArray, List.append_toArray, List.nil_append, List.cons_append]
  gi_wp2_with fail
  generalize hW : ((w.alloc (.cells #[.int .i64 (a : Int)] 3)).alloc (.cells #[.int .i64 0] 3)) = W4 at hSeq bw ca cc cf e2 ⊢
  clear hW
  have how : Ow (fun _ k => k = w.heap.size + 1) W4.heap.size := ⟨fun _ _ _ _ _ _ _ e => e⟩
  refine wpIn_rangeL (own := fun _ k => k = w.heap.size + 1) (L := L) (gf := gf) (lb := lb) rfl eg
    how hSeq rfl
    (fun pre W => ((W.cell? ⟨w.heap.size + 1, 0, none⟩ = some (.int .i64 ((cntN pre a : Nat) : Int)) ∧ W.frozen? ⟨w.heap.size + 1, 0, none⟩ = false) ∧ KeepO (fun _ k => k = w.heap.size + 1) W4 W) ∧ Below w.heap.size w W)
    (fun _ _ _ => False)
    (OwnFrom.and (OwnFrom.and (Own.from (fun s A C row hs hg hr => ⟨cell_kept hs.1 hg hr, (frozen_kept hs.1 hg hr).trans hs.2⟩) _) (ownFrom_keepO how (Nat.le_refl _))) (ownFrom_below (Nat.le_refl _) bw.size))
    (fun c => ownFrom_pure _ _)
    (fun pre W k hI hk => by have := World.block_lt_of_cell? _ _ hI.1.1.1; have hk : k = w.heap.size + 1 := hk; rw [hk]; exact this)
    ⟨⟨⟨cc, cf⟩, KeepO.refl _ _⟩, bw⟩
    (fun x => { tmps := #[.func (.func gf) #[] lb, .int .i64 (a : Int), undef, .pointer (some ⟨w.heap.size, 0, none⟩), .int .i64 0, .pointer (some ⟨w.heap.size + 1, 0, none⟩), .int .i64 ((x : Nat) : Int), .func (.func gf) #[] lb, .int .i64 ((x : Nat) : Int), undef, undef, undef, undef, undef, undef], defers := [] }) ?assign ?body ?done ?stop
  case assign =>
    intro m' l2 x W' K' hK'
    dsimp only
    clear hSeq HLt how cc cf ca bw
    gi_wp2
    exact hK'
  case body =>
    rintro m' l2 pre x W' _ ⟨⟨⟨hc, hf⟩, hK⟩, hB⟩ hpx
    obtain ⟨hx1, hx2⟩ := pre_facts hpx
    have hx := HLt.out x hx1
    have cav := (hK.same _ _ ca (by show ¬ w.heap.size = w.heap.size + 1; omega)).1
    have HCS := Lib.hid (cnt_step (pre := pre) (x := x) (a := a) (by omega))
    have HKK := Lib.hid hK
    have hbW : w.heap.size ≤ W4.heap.size := bw.size
    clear hSeq HLt hK hpx hx1 hx2 cc cf ca bw hll
    try dsimp only
    gi_wp2_with fail
    have bd : Below W'.heap.size W' W'.drew := (Below.refl _ W').drew
    have hS0 : (fun w' => w'.cell? ⟨w.heap.size, 0, none⟩ = some (.int .i64 (a : Int))) W'.drew := cav
    have k0 : W'.drew.cell? ⟨w.heap.size + 1, 0, none⟩ = some (.int .i64 ((cntN pre a : Nat) : Int)) := hc
    have k1 : W'.drew.frozen? ⟨w.heap.size + 1, 0, none⟩ = false := hf
    have hszK := HKK.out.size
    have hKd := HKK.out.trans (how.below HKK.out.size bd)
    have hBd := hB.trans (bd.mono hB.size)
    clear HKK hB hc hf cav
    refine region_hold (fuel := 6) (listed := #[false, false, false, false, false, false]) (fun w' => w'.cell? ⟨w.heap.size, 0, none⟩ = some (.int .i64 (a : Int))) (by kernel_rfl) (by kernel_rfl) (by kernel_rfl) (by kernel_rfl) ?_
    generalize W'.drew = wd at hS0 hKd hBd bd k0 k1 ⊢
    refine hold_take (i := 1) (d := 10) (v := ?va1) (listed' := #[false, true, false, false, false, false]) rfl (by kernel_rfl) (by kernel_rfl) (by kernel_rfl) rfl (by rfl) (by kernel_rfl) hS0 ?ha1 ?ra1
    case ha1 =>
      intro w' hSw
      have k3 := hSw
      go_simp
      try with_reducible rfl
    simp only [List.setIfInBounds_toArray, List.set_cons_zero, List.set_cons_succ]
    refine hold_take (i := 2) (d := 11) (v := ?va2) (listed' := #[false, true, true, false, false, false]) rfl (by kernel_rfl) (by kernel_rfl) (by kernel_rfl) rfl (by rfl) (by kernel_rfl) hS0 ?ha2 ?ra2
    case ha2 =>
      intro w' hSw
      have k3 := hSw
      go_simp
      try with_reducible rfl
    simp only [List.setIfInBounds_toArray, List.set_cons_zero, List.set_cons_succ]
    refine hold_two (i := 0) (j := 3) (by kernel_rfl) (opH_value (d := 9) (listed' := #[true, true, true, false, false, false]) rfl rfl (by rfl) (by kernel_rfl) (v := .int .i64 ((cntN pre a : Nat) : Int)) (w' := wd) ?e0 hS0 ?g1) (opH_call (d := 12) (listed' := #[false, true, true, true, false, false]) rfl rfl (by rfl) (by kernel_rfl) ?f0 (has_any (s := x) (a := a) hx ha _) ?g2)
    case e0 =>
      go_simp
      try with_reducible rfl
    case f0 => go_simp
    case g1 =>
      simp only [List.setIfInBounds_toArray, List.set_cons_zero, List.set_cons_succ]
      refine hold_call (i := 3) (d := 12) (listed' := #[true, true, true, true, false, false]) rfl (by kernel_rfl) rfl (by rfl) (by kernel_rfl) ?heb3 (has_any (s := x) (a := a) hx ha _) ?hcb3
      case heb3 => go_simp
      rintro e xq ⟨rfl, hxq⟩
      subst hxq
      refine ⟨_, rfl, hS0, ?_⟩
      simp only [List.setIfInBounds_toArray, List.set_cons_zero, List.set_cons_succ]
      refine hold_value (i := 4) (d := 13) (listed' := #[true, true, true, true, true, false]) rfl (by kernel_rfl) rfl (by rfl) (by kernel_rfl) (v := .int .i64 ((cntN (pre ++ [x]) a : Nat) : Int)) (w' := wd) ?hvb4 hS0 ?_
      case hvb4 =>
        go_simp
        simp only [HCS.out]
      simp only [List.setIfInBounds_toArray, List.set_cons_zero, List.set_cons_succ]
      refine hold_store (i := 5) (w' := wd.setCell ⟨w.heap.size + 1, 0, none⟩ (.int .i64 ((cntN (pre ++ [x]) a : Nat) : Int))) (listed' := #[true, true, true, true, true, true]) rfl (by kernel_rfl) rfl (by rfl) (by kernel_rfl) ?hsb5 ?hSnb ?hkb5
      case hsb5 => go_simp
      case hSnb => exact (World.cell?_setCell_other _ _ _ _ (by intro e; have := congrArg Addr.block e; simp at this)).trans hS0
      refine hold_done (by kernel_rfl) ?_ _
      gi_wp2_with fail
      have hKs : KeepO (fun _ k => k = w.heap.size + 1) wd (wd.setCell ⟨w.heap.size + 1, 0, none⟩ (.int .i64 ((cntN (pre ++ [x]) a : Nat) : Int))) :=
        ⟨(KeepsOthers.setCell _ _ _).size, fun q v hq hne => ⟨(World.cell?_setCell_other _ _ _ _ (fun e => hne (congrArg Addr.block e).symm)).trans hq, hne⟩⟩
      exact ⟨(keepsFrom_below bd).trans ((KeepsOthers.setCell _ _ _).from _), (how.below hszK bd).trans hKs, ⟨⟨World.cell?_setCell_same' _ _ _ (by rw [k0]; rfl), by rw [World.frozen?_setCell]; exact k1⟩, hKd.trans hKs⟩, hBd.setCell (p := ⟨w.heap.size + 1, 0, none⟩) (by show w.heap.size ≤ w.heap.size + 1; omega) _⟩
    case g2 =>
      rintro e xq ⟨rfl, hxq⟩
      subst hxq
      refine ⟨_, rfl, hS0, ?_⟩
      simp only [List.setIfInBounds_toArray, List.set_cons_zero, List.set_cons_succ]
      refine hold_value (i := 0) (d := 9) (listed' := #[true, true, true, true, false, false]) rfl (by kernel_rfl) rfl (by rfl) (by kernel_rfl) (v := .int .i64 ((cntN pre a : Nat) : Int)) (w' := wd) ?hvc0 hS0 ?_
      case hvc0 =>
        go_simp
        try with_reducible rfl
      simp only [List.setIfInBounds_toArray, List.set_cons_zero, List.set_cons_succ]
      refine hold_value (i := 4) (d := 13) (listed' := #[true, true, true, true, true, false]) rfl (by kernel_rfl) rfl (by rfl) (by kernel_rfl) (v := .int .i64 ((cntN (pre ++ [x]) a : Nat) : Int)) (w' := wd) ?hvc4 hS0 ?_
      case hvc4 =>
        go_simp
        simp only [HCS.out]
      simp only [List.setIfInBounds_toArray, List.set_cons_zero, List.set_cons_succ]
      refine hold_store (i := 5) (w' := wd.setCell ⟨w.heap.size + 1, 0, none⟩ (.int .i64 ((cntN (pre ++ [x]) a : Nat) : Int))) (listed' := #[true, true, true, true, true, true]) rfl (by kernel_rfl) rfl (by rfl) (by kernel_rfl) ?hsc5 ?hSnc ?hkc5
      case hsc5 => go_simp
      case hSnc => exact (World.cell?_setCell_other _ _ _ _ (by intro e; have := congrArg Addr.block e; simp at this)).trans hS0
      refine hold_done (by kernel_rfl) ?_ _
      gi_wp2_with fail
      have hKs : KeepO (fun _ k => k = w.heap.size + 1) wd (wd.setCell ⟨w.heap.size + 1, 0, none⟩ (.int .i64 ((cntN (pre ++ [x]) a : Nat) : Int))) :=
        ⟨(KeepsOthers.setCell _ _ _).size, fun q v hq hne => ⟨(World.cell?_setCell_other _ _ _ _ (fun e => hne (congrArg Addr.block e).symm)).trans hq, hne⟩⟩
      exact ⟨(keepsFrom_below bd).trans ((KeepsOthers.setCell _ _ _).from _), (how.below hszK bd).trans hKs, ⟨⟨World.cell?_setCell_same' _ _ _ (by rw [k0]; rfl), by rw [World.frozen?_setCell]; exact k1⟩, hKd.trans hKs⟩, hBd.setCell (p := ⟨w.heap.size + 1, 0, none⟩) (by show w.heap.size ≤ w.heap.size + 1; omega) _⟩
  case done =>
    rintro D W hD ⟨⟨⟨hc, hf⟩, hK⟩, hB⟩ hDf
    have hDs : w.heap.size ≤ D := Nat.le_trans bw.size hD
    clear hSeq HLt how cc cf ca hll
    gi_wp2_with fail
    refine ⟨by simp, .inl ⟨_, _, rfl, run_takeDeferred hDf, ?_⟩⟩
    refine ⟨.int .i64 ((cntN L a : Nat) : Int), ?_, rfl, hB.trans (belowK_b (w := w) (Nat.le_refl _) W D _ _ hDs hDf rfl rfl)⟩
    simp [results, Tryd.f90, go_sem]
  case stop =>
    rintro D c pre W hD hF hDf
    exact hF.elim

set_option maxRecDepth 100000 in
set_option maxHeartbeats 4000000 in
theorem BlocksWith_any {w : World} {B : Nat} {ua : Option Addr} {l : Lay} {m : Mx} {na : Option Addr} {g o k nc : Nat} {z : Nat → Int} {x : Int} (h : LogAt w B ua l m na g o k z) (hT : TabOk w) :
    Calls Tryd.prog 38 #[.agg #[.slice ua m.n l.cap, .slice na k nc], .int .i64 x] w fun e w' => e = .returned (.int .i64 (withV6 m k z x)) ∧ Below w.heap.size w w' := by
  have hX := BoxN.start w #[.slice ua m.n l.cap, .slice na k nc] 26
  have q0 := hX.cell 0 rfl
  have q1 := hX.cell 1 rfl
  have hrow := lone_at (w.alloc (.cells #[.slice ua m.n l.cap, .slice na k nc] 26)) x
  rw [World.size_alloc] at hrow
  have b2 := (Below.refl (w.heap.size + 1) (w.alloc (.cells #[.slice ua m.n l.cap, .slice na k nc] 26))).alloc (by simp) (.cells #[.int .i64 x] 3)
  have hX2 := hX.step (b2.mono (by simp))
  have bw := hX2.below
  have hsz : ((w.alloc (.cells #[.slice ua m.n l.cap, .slice na k nc] 26)).alloc (.cells #[.int .i64 x] 3)).heap.size ≥ w.heap.size + 1 + 1 := by simp
  have h2 := Lib.hid (h.step bw)
  have HT2 := Lib.hid (hT.step bw hT.size)
  have htz := hT.size
  go_enter Tryd.func38, Tryd.ntmps38
  generalize hW : (w.alloc (.cells #[.slice ua m.n l.cap, .slice na k nc] 26)).alloc (.cells #[.int .i64 x] 3) = W at hrow hX2 bw hsz h2 HT2
  have hrow2 : Hid (RowAt W W.heap.size (some ⟨w.heap.size + 1, 0, none⟩) (w.heap.size + 1) 0 1 (lone1 x)) := ⟨fun c hc => by obtain ⟨a1, a2, a3⟩ := hrow.row c hc; exact ⟨a1, by omega, a3⟩⟩
  clear hX b2 h hrow hT
  go_wp2_with fail
  go_at_call 50
  refine (algebraWith_any h2.out hrow2.out (by omega)).mono ?_
  rintro e w1 ⟨b1, (⟨hg, ob, tb, tG, rfl, hA⟩ | ⟨hg, rfl⟩)⟩
  · clear hW q0 q1 hrow2
    have B1 := bw.trans (b1.mono bw.size)
    have h3 := h2.out.step b1
    have HT3 := Lib.hid (HT2.out.step b1 HT2.out.size)
    have hsw : w.heap.size + 1 + 1 ≤ w1.heap.size := by have := b1.size; omega
    clear h2 hX2 bw hsz
    have hgg := hg
    rw [Bool.and_eq_true] at hg
    have hlog : logicB m k z = true := hg.1
    obtain ⟨y0, n0, hO0⟩ := (logicB_is hlog).ortho
    have hkn : k = m.n := (logicB_is hlog).pair.len
    subst hkn
    have hO := hO0.own
    obtain ⟨x0, x1⟩ := good_lone hg.2
    obtain ⟨a, rfl⟩ := Int.eq_ofNat_of_zero_le x0
    have ha : a < m.n := by omega
    obtain ⟨y, hy⟩ : ∃ y : Nat → Nat, y = fun c => (z c).toNat := ⟨_, rfl⟩
    rw [← hy] at hO
    obtain ⟨rfl, hL1⟩ := AL.of hA h3 hO
    have hn := hO.lat.order.top
    have HV : Hid (((cntN (allL m y) a : Nat) : Int) = withV6 m m.n z (a : Int)) := by
      show _ = _
      unfold withV6
      rw [if_pos hgg, hO.count_all hn, hy, Int.toNat_natCast]
    have HO := Lib.hid hO
    clear hg hgg hlog hA h3 hO hO0 hy x0 x1
    have hY := BoxN.start w1 #[.slice ua m.n l.cap, .slice (some ⟨g, o, none⟩) m.n nc, .slice (some ⟨ob, 0, none⟩) 2 2] 58
    have BY := B1.trans (hY.below.mono B1.size)
    have hL := Lib.hid (hL1.step hY.below)
    have HT4 := Lib.hid (HT3.out.step hY.below HT3.out.size)
    have sY := hY.below.size
    clear hL1 HT3
    have r0 := hY.cell 0 rfl
    have r1 := hY.cell 1 rfl
    have r2 := hY.cell 2 rfl
    unfold algV
    go_wp2_with fail
    go_at_call 69
    refine (company_any (nc := nc) hL.out).mono ?_
    rintro e w3 ⟨mb, rfl, hC, b3, hmb⟩
    have HC := Lib.hid hC
    have HT5 := Lib.hid (HT4.out.step b3 HT4.out.size)
    have BY3 := BY.trans (b3.mono BY.size)
    have s3 := b3.size
    clear r0 r1 r2 hL HT4 hC BY b3 hY
    go_wp2_with fail
    go_at_call 76
    refine (allBlocks_any _ _ _ _).mono ?_
    rintro e w4 ⟨rfl, hw4⟩
    have b4 := blocks_world hw4
    have s4 := b4.size
    have BY4 := BY3.trans (b4.mono BY3.size)
    have z4 : w4.heap.size = w3.heap.size + 3 := by rw [hw4]; simp
    have HW4 := Lib.hid hw4
    have htv : 1 < w.heap.size := htz
    clear BY3 hw4 b4
    have hbx : Below w4.heap.size w4 ((w4.alloc (.cells #[.int .i64 (a : Int)] 3)).alloc (.cells #[.int .i64 0] 3)) := ((Below.refl _ w4).alloc (Nat.le_refl _) _).alloc (by simp) _
    have hmbl : mb < w3.heap.size := by obtain ⟨_, _, hc9, _⟩ := HC.out.row a ha; exact World.block_lt_of_cell? _ _ hc9
    have HSeq := Lib.hid (all_seq_at (own := fun _ k => k = w4.heap.size + 1) HO.out HC.out HT5.out HW4.out hbx ⟨fun _ _ _ _ _ _ _ e => e⟩ (by show ¬ _ = _; omega) (by show ¬ _ = _; omega) (by show ¬ _ = _; omega) (by show ¬ _ = _; omega) (by show ¬ _ = _; omega))
    have hll := HO.out.allL_len hn
    have HLt : Hid (∀ t, t ∈ allL m y → t < 4096) := fun t ht => HO.out.allL_lt hn ht
    clear hbx
    go_wp2_with fail
    go_at_call 90
    refine (countWith_any (enters_of Tryd.func145 (by kernel_rfl) rfl) HSeq.out HLt.out (by omega) (by omega)).mono ?_
    rintro e w5 ⟨rfl, b5⟩
    have B5 := BY4.trans (b5.mono BY4.size)
    clear HSeq HC HT5 HW4
    go_wp2_with fail
    go_ret
    exact ⟨ret_int HV.out, B5⟩
  · have HV : Hid ((-1 : Int) = withV6 m k z x) := by show _ = _; unfold withV6; rw [if_neg (by rw [hg]; decide)]
    clear hW q0 q1 hrow2 hg
    have B1 := bw.trans (b1.mono bw.size)
    have B2 := B1.alloc B1.size (.cells #[.slice none 0 0, .slice none 0 0, .slice none 0 0] 58)
    unfold noAlg
    go_wp2_with fail
    go_ret
    exact ⟨ret_int HV.out, B2⟩

end Go.Proofs.YtnbglbhfclohjaaDoor
