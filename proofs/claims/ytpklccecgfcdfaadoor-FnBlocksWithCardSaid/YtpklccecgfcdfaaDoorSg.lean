/- The walk of the program's BlocksWith. -/
import Derived.Test.YtpklccecgfcdfaaDoorSf
namespace Go.Proofs.YtpklccecgfcdfaaDoor
open Go.RowKit Go.Deep Go.Shelf

attribute [local go_sem] Oper.semAt_some

theorem bit_value {s b : Nat} (hs : s < 4096) : bits .and .i64 ((s : Int) / 2 ^ b) 1 = ((if s.testBit b = true then 1 else 0 : Nat) : Int) := by
  have e : ((s : Int) / 2 ^ b) = ((s / 2 ^ b : Nat) : Int) := by
    rw [Int.natCast_ediv]; simp
  have hl : s / 2 ^ b < 4096 := Nat.lt_of_le_of_lt (Nat.div_le_self _ _) hs
  rw [e, show (1 : Int) = ((1 : Nat) : Int) from rfl, i64_and_nat _ _ (by omega) (by omega), Nat.and_one_is_mod, Nat.testBit_eq_decide_div_mod_eq]
  by_cases h : s / 2 ^ b % 2 = 1
  · rw [h]; simp
  · have h0 : s / 2 ^ b % 2 = 0 := by omega
    rw [h0]; simp
theorem cnt_step {pre : List Nat} {x a : Nat} (hx : x < 4096) (hp : pre.length ≤ 5000) : IntKind.i64.wrap (((cntN pre a : Nat) : Int) + bits .and .i64 ((x : Int) / 2 ^ a) 1) = ((cntN (pre ++ [x]) a : Nat) : Int) := by
  have h1 := cntN_le pre a
  rw [bit_value hx, cntN_snoc, IntKind.wrap_i64]
  split <;> omega
theorem pre_facts {pre L : List Nat} {x : Nat} (h : pre ++ [x] <+: L) : x ∈ L ∧ pre.length < L.length := by
  have h1 := h.length_le
  rw [List.length_append, List.length_singleton] at h1
  exact ⟨h.subset (by simp), by omega⟩

set_option maxRecDepth 100000 in
set_option maxHeartbeats 4000000 in
theorem BlocksWith_any {w : World} {B : Nat} {ua : Option Addr} {l : Lay} {m : Mx} {na : Option Addr} {g o k nc : Nat} {z : Nat → Int} {x : Int} (h : LogAt w B ua l m na g o k z) (hT : TabOk w) :
    Calls Tryd.prog 31 #[.agg #[.slice ua m.n l.cap, .slice na k nc], .int .i64 x] w fun e w' => e = .returned (.int .i64 (withV6 m k z x)) ∧ Below w.heap.size w w' := by
  have hX := BoxN.start w #[.slice ua m.n l.cap, .slice na k nc] 26
  have e1 : (w.alloc (.cells #[.slice ua m.n l.cap, .slice na k nc] 26)).heap.size = w.heap.size + 1 := World.size_alloc _ _
  have e2 : ((w.alloc (.cells #[.slice ua m.n l.cap, .slice na k nc] 26)).alloc (.cells #[.int .i64 x] 3)).heap.size = w.heap.size + 1 + 1 := by rw [World.size_alloc, e1]
  have bA := (Below.refl (w.alloc (.cells #[.slice ua m.n l.cap, .slice na k nc] 26)).heap.size (w.alloc (.cells #[.slice ua m.n l.cap, .slice na k nc] 26))).alloc (Nat.le_refl _) (.cells #[.int .i64 x] 3)
  have bB := (Below.refl ((w.alloc (.cells #[.slice ua m.n l.cap, .slice na k nc] 26)).alloc (.cells #[.int .i64 x] 3)).heap.size ((w.alloc (.cells #[.slice ua m.n l.cap, .slice na k nc] 26)).alloc (.cells #[.int .i64 x] 3))).alloc (Nat.le_refl _) (.cells #[.int .i64 x] 3)
  have hXA := hX.step bA
  have hXB := hXA.step bB
  have q0 := hXB.cell 0 rfl
  have q1 := hXB.cell 1 rfl
  have bw := hXB.below
  have h2 := Lib.hid (h.step bw)
  have HT2 := Lib.hid (hT.step bw hT.size)
  have hA1 := (Boxd.start (w.alloc (.cells #[.slice ua m.n l.cap, .slice na k nc] 26)) (.int .i64 x) 3).cell
  rw [e1] at hA1
  have ca := (bB.cell (p := ⟨w.heap.size + 1, 0, none⟩) (by rw [e2]; show w.heap.size + 1 < _; omega)).trans hA1
  have qa := hXA.cell 0 rfl
  have qb := hXA.cell 1 rfl
  have hrow := lone_at ((w.alloc (.cells #[.slice ua m.n l.cap, .slice na k nc] 26)).alloc (.cells #[.int .i64 x] 3)) x
  rw [e2] at hrow
  have e3 : (((w.alloc (.cells #[.slice ua m.n l.cap, .slice na k nc] 26)).alloc (.cells #[.int .i64 x] 3)).alloc (.cells #[.int .i64 x] 3)).heap.size = w.heap.size + 1 + 1 + 1 := by rw [World.size_alloc, e2]
  have htz := hT.size
  clear h hT bA bB hX hXA hXB
  refine (callsIn_wide (n := 9)).1 ?_
  refine callsIn_of_wp_marks Tryd.func31 rfl trivial ?_ rfl
  simp only [Tryd.ntmps31, List.size_toArray, List.length_cons, List.length_nil, Nat.reduceAdd, Nat.reduceSub, Array.replicate_succ, Array.replicate_zero, List.push_toArray, List.append_toArray, List.nil_append, List.cons_append]
  gi_wp2_with fail
  generalize hW : (((w.alloc (.cells #[.slice ua m.n l.cap, .slice na k nc] 26)).alloc (.cells #[.int .i64 x] 3)).alloc (.cells #[.int .i64 x] 3)) = W at bw h2 HT2 q0 q1 ca hrow e3 ⊢
  have hrow2 : Hid (RowAt W W.heap.size (some ⟨w.heap.size + 1 + 1, 0, none⟩) (w.heap.size + 1 + 1) 0 1 (lone1 x)) := ⟨fun c hc => by obtain ⟨a1, a2, a3⟩ := hrow.row c hc; exact ⟨a1, by omega, a3⟩⟩
  clear hW e1 e2 hrow hA1 qa qb
  refine ⟨trivial, ?_⟩
  refine (callsIn_wide.2 (algebraWith_any h2.out hrow2.out (by omega))).mono ?_
  rintro e w1 ⟨b1, (⟨hg, ob, tb, tG, rfl, hA⟩ | ⟨hg, rfl⟩)⟩
  · have hgg := hg
    rw [Bool.and_eq_true] at hg
    have hlog : logicB m k z = true := hg.1
    have B1 := bw.trans (b1.mono bw.size)
    have h3 := h2.out.step b1
    have HT3 := Lib.hid (HT2.out.step b1 HT2.out.size)
    have s1 := b1.size
    have ca1 := (b1.cell (p := ⟨w.heap.size + 1, 0, none⟩) (by show w.heap.size + 1 < _; omega)).trans ca
    obtain ⟨y0, n0, hO0⟩ := (logicB_is hlog).ortho
    have hkn : k = m.n := (logicB_is hlog).pair.len
    subst hkn
    have hO := hO0.own
    obtain ⟨x0, x1⟩ := good_lone hg.2
    obtain ⟨a, rfl⟩ := Int.eq_ofNat_of_zero_le x0
    have ha : a < m.n := by omega
    obtain ⟨y, hy⟩ : ∃ y : Nat → Nat, y = fun c => (z c).toNat := ⟨_, rfl⟩
    rw [← hy] at hO
    obtain ⟨rfl, hL1⟩ := AL.of hA h3 hO
    have hn := hO.lat.order.top
    have HV : Hid (((cntN (allL m y) a : Nat) : Int) = withV6 m m.n z (a : Int)) := by
      show _ = _
      unfold withV6
      rw [if_pos hgg, hO.count_all hn, hy, Int.toNat_natCast]
    have HO := Lib.hid hO
    have hY := BoxN.start w1 #[.slice ua m.n l.cap, .slice (some ⟨g, o, none⟩) m.n nc, .slice (some ⟨ob, 0, none⟩) 2 2] 56
    have f1 : (w1.alloc (.cells #[.slice ua m.n l.cap, .slice (some ⟨g, o, none⟩) m.n nc, .slice (some ⟨ob, 0, none⟩) 2 2] 56)).heap.size = w1.heap.size + 1 := World.size_alloc _ _
    have bC := (Below.refl (w1.alloc (.cells #[.slice ua m.n l.cap, .slice (some ⟨g, o, none⟩) m.n nc, .slice (some ⟨ob, 0, none⟩) 2 2] 56)).heap.size (w1.alloc (.cells #[.slice ua m.n l.cap, .slice (some ⟨g, o, none⟩) m.n nc, .slice (some ⟨ob, 0, none⟩) 2 2] 56))).alloc (Nat.le_refl _) (.cells #[.int .i64 0] 3)
    have hYC := hY.step bC
    have hK0 := Boxd.start (w1.alloc (.cells #[.slice ua m.n l.cap, .slice (some ⟨g, o, none⟩) m.n nc, .slice (some ⟨ob, 0, none⟩) 2 2] 56)) (.int .i64 0) 3
    have cc := hK0.cell
    have cf := hK0.frozen
    rw [f1] at cc cf
    have bV : Below w1.heap.size w1 ((w1.alloc (.cells #[.slice ua m.n l.cap, .slice (some ⟨g, o, none⟩) m.n nc, .slice (some ⟨ob, 0, none⟩) 2 2] 56)).alloc (.cells #[.int .i64 0] 3)) := hYC.below
    have BY := B1.trans (bV.mono B1.size)
    have hL := Lib.hid (hL1.step bV)
    have HT4 := Lib.hid (HT3.out.step bV HT3.out.size)
    have ca2 := (bV.cell (p := ⟨w.heap.size + 1, 0, none⟩) (by show w.heap.size + 1 < _; omega)).trans ca1
    have r0 := hYC.cell 0 rfl
    have r1 := hYC.cell 1 rfl
    have r2 := hYC.cell 2 rfl
    have f2 : ((w1.alloc (.cells #[.slice ua m.n l.cap, .slice (some ⟨g, o, none⟩) m.n nc, .slice (some ⟨ob, 0, none⟩) 2 2] 56)).alloc (.cells #[.int .i64 0] 3)).heap.size = w1.heap.size + 1 + 1 := by rw [World.size_alloc, f1]
    clear hg hgg hlog hA h3 hO hO0 hL1 HT3 h2 hrow2 q0 q1 bw HT2 b1 ca ca1 hy x0 x1 hY bC hK0 hYC bV
    unfold algV
    gi_wp2_with fail
    generalize hW : ((w1.alloc (.cells #[.slice ua m.n l.cap, .slice (some ⟨g, o, none⟩) m.n nc, .slice (some ⟨ob, 0, none⟩) 2 2] 56)).alloc (.cells #[.int .i64 0] 3)) = W4 at cc cf BY hL HT4 ca2 r0 r1 r2 f2 ⊢
    clear hW f1
    refine ⟨trivial, ?_⟩
    refine (callsIn_wide.2 (company_any (nc := nc) hL.out)).mono ?_
    rintro e w3 ⟨mb, rfl, hC, b3, hmb⟩
    have s3 := b3.size
    have HC := Lib.hid hC
    have HT5 := Lib.hid (HT4.out.step b3 HT4.out.size)
    have BY3 := BY.trans (b3.mono BY.size)
    have cc3 := (b3.cell (p := ⟨w1.heap.size + 1, 0, none⟩) (by show w1.heap.size + 1 < _; omega)).trans cc
    have cf3 := (b3.frozen (p := ⟨w1.heap.size + 1, 0, none⟩) (by show w1.heap.size + 1 < _; omega)).trans cf
    have ca3 := (b3.cell (p := ⟨w.heap.size + 1, 0, none⟩) (by show w.heap.size + 1 < _; omega)).trans ca2
    clear r0 r1 r2 hL HT4 hC cc cf ca2 BY b3
    gi_wp2_with fail
    refine ⟨trivial, ?_⟩
    refine (callsIn_wide.2 (allBlocks_any _ _ _ _)).mono ?_
    rintro e w4 ⟨rfl, hw4⟩
    have b4 := blocks_world hw4
    have s4 := b4.size
    have BY4 := BY3.trans (b4.mono BY3.size)
    have cc4 := (b4.cell (p := ⟨w1.heap.size + 1, 0, none⟩) (by show w1.heap.size + 1 < _; omega)).trans cc3
    have cf4 := (b4.frozen (p := ⟨w1.heap.size + 1, 0, none⟩) (by show w1.heap.size + 1 < _; omega)).trans cf3
    have ca4 := (b4.cell (p := ⟨w.heap.size + 1, 0, none⟩) (by show w.heap.size + 1 < _; omega)).trans ca3
    have HW4 := Lib.hid hw4
    clear cc3 cf3 ca3 BY3 b4 hw4
    gi_wp2_with fail
    have how : Ow (fun _ k => k = w1.heap.size + 1) w4.heap.size := ⟨fun _ _ _ _ _ _ _ e => e⟩
    have hSeq : SeqL (fun _ k => k = w1.heap.size + 1) 116 #[.pointer (some ⟨w3.heap.size, 0, none⟩), .pointer (some ⟨w3.heap.size + 1, 0, none⟩), .pointer (some ⟨w3.heap.size + 1 + 1, 0, none⟩)] (allL m y) w4 :=
      all_seq HO.out HC.out HT5.out HW4.out how (by show ¬ _ = _; omega) (by show ¬ _ = _; omega) (by show ¬ _ = _; omega) (by show ¬ _ = _; omega) (by show ¬ _ = _; omega)
    have ha64 : (a : Int) ≤ 64 := by omega
    have ha63 : (a : Int) < 64 := by omega
    have hll := HO.out.allL_len hn
    have HLt : Hid (∀ t, t ∈ allL m y → t < 4096) := fun t ht => HO.out.allL_lt hn ht
    clear HC HT5 HW4
    refine wpIn_rangeL (own := fun _ k => k = w1.heap.size + 1) (L := allL m y) (gf := 116) (lb := #[.pointer (some ⟨w3.heap.size, 0, none⟩), .pointer (some ⟨w3.heap.size + 1, 0, none⟩), .pointer (some ⟨w3.heap.size + 1 + 1, 0, none⟩)]) rfl (enters_of Tryd.func116 (by kernel_rfl) rfl)
      how hSeq rfl
      (fun pre W => ((W.cell? ⟨w1.heap.size + 1, 0, none⟩ = some (.int .i64 ((cntN pre a : Nat) : Int)) ∧ W.frozen? ⟨w1.heap.size + 1, 0, none⟩ = false) ∧ KeepO (fun _ k => k = w1.heap.size + 1) w4 W) ∧ Below w.heap.size w W)
      (fun _ _ _ => False)
      (OwnFrom.and (OwnFrom.and (Own.from (fun s A C row hs hg hr => ⟨cell_kept hs.1 hg hr, (frozen_kept hs.1 hg hr).trans hs.2⟩) _) (ownFrom_keepO how (Nat.le_refl _))) (ownFrom_below (Nat.le_refl _) BY4.size))
      (fun c => ownFrom_pure _ _)
      (fun pre W k hI hk => by have := World.block_lt_of_cell? _ _ hI.1.1.1; have hk : k = w1.heap.size + 1 := hk; rw [hk]; exact this)
      ⟨⟨⟨cc4, cf4⟩, KeepO.refl _ _⟩, BY4⟩
      (fun x => { tmps := #[.agg #[.slice ua m.n l.cap, .slice (some ⟨g, o, none⟩) m.n nc], .int .i64 (a : Int), .pointer (some ⟨w.heap.size, 0, none⟩), .pointer (some ⟨w.heap.size + 1, 0, none⟩), .int .i64 0, .pointer (some ⟨w1.heap.size, 0, none⟩), .bool true, .pointer (some ⟨w1.heap.size + 1, 0, none⟩), .int .i64 ((x : Nat) : Int),
        .tuple #[.agg #[.slice ua m.n l.cap, .slice (some ⟨g, o, none⟩) m.n nc, .slice (some ⟨ob, 0, none⟩) 2 2], .bool true], .agg #[.slice ua m.n l.cap, .slice (some ⟨g, o, none⟩) m.n nc], .int .i64 (a : Int), .slice (some ⟨w.heap.size + 1 + 1, 0, none⟩) 1 1, .tuple #[.agg #[.slice ua m.n l.cap, .slice (some ⟨g, o, none⟩) m.n nc, .slice (some ⟨ob, 0, none⟩) 2 2], .bool true], .agg #[.slice ua m.n l.cap, .slice (some ⟨g, o, none⟩) m.n nc, .slice (some ⟨ob, 0, none⟩) 2 2], .bool true, .bool true, .bool false, .agg #[.slice ua m.n l.cap, .slice (some ⟨g, o, none⟩) m.n nc, .slice (some ⟨ob, 0, none⟩) 2 2], .slice (some ⟨mb, 0, none⟩) m.n m.n, blkF w3.heap.size,
        .int .i64 ((x : Nat) : Int), undef, undef, undef, undef, undef, undef, undef], defers := [] }) ?assign ?body ?done ?stop
    case assign =>
      intro m' l2 x W' K' hK'
      dsimp only
      clear hSeq HLt HO HV how cc4 cf4 ca4 BY4
      gi_wp2
      exact hK'
    case body =>
      rintro m' l2 pre x W' _ ⟨⟨⟨hc, hf⟩, hK⟩, hB⟩ hpx
      obtain ⟨hx1, hx2⟩ := pre_facts hpx
      have hx := HLt.out x hx1
      have cav := (hK.same _ _ ca4 (by show ¬ w.heap.size + 1 = w1.heap.size + 1; omega)).1
      have hcs := cnt_step (pre := pre) (a := a) hx (by omega)
      have HCS := Lib.hid hcs
      have HKK := Lib.hid hK
      have hbW : w.heap.size ≤ w4.heap.size := BY4.size
      clear hSeq HLt HO HV hK hcs hpx hx1 hx2 cc4 cf4 ca4 BY4 hll
      try dsimp only
      gi_wp2_with fail
      have bd : Below W'.heap.size W' W'.drew := (Below.refl _ W').drew
      have hS0 : (fun w' => w'.cell? ⟨w.heap.size + 1, 0, none⟩ = some (.int .i64 (a : Int))) W'.drew := cav
      have k0 : W'.drew.cell? ⟨w1.heap.size + 1, 0, none⟩ = some (.int .i64 ((cntN pre a : Nat) : Int)) := hc
      have k1 : W'.drew.frozen? ⟨w1.heap.size + 1, 0, none⟩ = false := hf
      have hszK := HKK.out.size
      have hKd := HKK.out.trans (how.below HKK.out.size bd)
      have hBd := hB.trans (bd.mono hB.size)
      refine region_hold (fuel := 7) (listed := #[false, false, false, false, false, false, false]) (fun w' => w'.cell? ⟨w.heap.size + 1, 0, none⟩ = some (.int .i64 (a : Int))) (by kernel_rfl) (by kernel_rfl) (by kernel_rfl) (by kernel_rfl) ?_
      clear HKK hB hc hf cav
      generalize W'.drew = wd at hS0 hKd hBd bd k0 k1 ⊢
      refine hold_take (i := 1) (d := 23) (v := ?va1) (listed' := #[false, true, false, false, false, false, false]) rfl (by kernel_rfl) (by kernel_rfl) (by kernel_rfl) rfl (by rfl) (by kernel_rfl) hS0 ?ha1 ?ra1
      case ha1 =>
        intro w' hSw
        have k3 := hSw
        go_simp
        try with_reducible rfl
      simp only [List.setIfInBounds_toArray, List.set_cons_zero, List.set_cons_succ]
      refine hold_take (i := 2) (d := 24) (v := ?va2) (listed' := #[false, true, true, false, false, false, false]) rfl (by kernel_rfl) (by kernel_rfl) (by kernel_rfl) rfl (by rfl) (by kernel_rfl) hS0 ?ha2 ?ra2
      case ha2 =>
        intro w' hSw
        have k3 := hSw
        go_simp
        try with_reducible rfl
      simp only [List.setIfInBounds_toArray, List.set_cons_zero, List.set_cons_succ]
      refine hold_take (i := 3) (d := 25) (v := ?va3) (listed' := #[false, true, true, true, false, false, false]) rfl (by kernel_rfl) (by kernel_rfl) (by kernel_rfl) rfl (by rfl) (by kernel_rfl) hS0 ?ha3 ?ra3
      case ha3 =>
        intro w' hSw
        have k3 := hSw
        go_simp
        try with_reducible rfl
      simp only [List.setIfInBounds_toArray, List.set_cons_zero, List.set_cons_succ]
      refine hold_take (i := 4) (d := 26) (v := ?va4) (listed' := #[false, true, true, true, true, false, false]) rfl (by kernel_rfl) (by kernel_rfl) (by kernel_rfl) rfl (by rfl) (by kernel_rfl) hS0 ?ha4 ?ra4
      case ha4 =>
        intro w' hSw
        have k3 := hSw
        go_simp
        try with_reducible rfl
      simp only [List.setIfInBounds_toArray, List.set_cons_zero, List.set_cons_succ]
      refine hold_value (i := 0) (d := 22) (listed' := #[true, true, true, true, true, false, false]) rfl (by kernel_rfl) rfl (by rfl) (by kernel_rfl) (v := .int .i64 ((cntN pre a : Nat) : Int)) (w' := wd) ?hva0 hS0 ?_
      case hva0 =>
        go_simp
        try with_reducible rfl
      simp only [List.setIfInBounds_toArray, List.set_cons_zero, List.set_cons_succ]
      refine hold_value (i := 5) (d := 27) (listed' := #[true, true, true, true, true, true, false]) rfl (by kernel_rfl) rfl (by rfl) (by kernel_rfl) (v := .int .i64 (IntKind.i64.wrap (((cntN pre a : Nat) : Int) + bits .and .i64 ((x : Int) / 2 ^ a) 1))) (w' := wd) ?hva5 hS0 ?_
      case hva5 =>
        go_simp
        try with_reducible rfl
      simp only [List.setIfInBounds_toArray, List.set_cons_zero, List.set_cons_succ]
      refine hold_store (i := 6) (w' := wd.setCell ⟨w1.heap.size + 1, 0, none⟩ (.int .i64 (IntKind.i64.wrap (((cntN pre a : Nat) : Int) + bits .and .i64 ((x : Int) / 2 ^ a) 1)))) (listed' := #[true, true, true, true, true, true, true]) rfl (by kernel_rfl) rfl (by rfl) (by kernel_rfl) ?hsa6 ?hSn ?hka6
      case hsa6 => go_simp
      case hSn => exact (World.cell?_setCell_other _ _ _ _ (by intro e; have := congrArg Addr.block e; simp at this; omega)).trans hS0
      refine hold_done (by kernel_rfl) ?_ _
      gi_wp2_with fail
      rw [HCS.out]
      have hKs : KeepO (fun _ k => k = w1.heap.size + 1) wd (wd.setCell ⟨w1.heap.size + 1, 0, none⟩ (.int .i64 ((cntN (pre ++ [x]) a : Nat) : Int))) :=
        ⟨(KeepsOthers.setCell _ _ _).size, fun q v hq hne => ⟨(World.cell?_setCell_other _ _ _ _ (fun e => hne (congrArg Addr.block e).symm)).trans hq, hne⟩⟩
      exact ⟨(keepsFrom_below bd).trans ((KeepsOthers.setCell _ _ _).from _), (how.below hszK bd).trans hKs, ⟨⟨World.cell?_setCell_same' _ _ _ (by rw [k0]; rfl), by rw [World.frozen?_setCell]; exact k1⟩, hKd.trans hKs⟩, hBd.setCell (p := ⟨w1.heap.size + 1, 0, none⟩) (by show w.heap.size ≤ w1.heap.size + 1; omega) _⟩
    case done =>
      rintro D W hD ⟨⟨⟨hc, hf⟩, hK⟩, hB⟩ hDf
      have hDs : w.heap.size ≤ D := Nat.le_trans BY4.size hD
      clear hSeq HLt HO how cc4 cf4 ca4 hll
      gi_wp2_with fail
      refine ⟨by simp, .inl ⟨_, _, rfl, run_takeDeferred hDf, ?_⟩⟩
      refine ⟨.int .i64 ((cntN (allL m y) a : Nat) : Int), ?_, ret_int HV.out, hB.trans (belowK_b (w := w) (Nat.le_refl _) W D _ _ hDs hDf rfl rfl)⟩
      simp [results, Tryd.f31, go_sem]
    case stop =>
      rintro D c pre W hD hF hDf
      exact hF.elim
  · have HV : Hid ((-1 : Int) = withV6 m k z x) := by show _ = _; unfold withV6; rw [if_neg (by rw [hg]; decide)]
    have B1 := bw.trans (b1.mono bw.size)
    have B2 := B1.alloc B1.size (.cells #[.slice none 0 0, .slice none 0 0, .slice none 0 0] 56)
    clear h2 hrow2 q0 q1 bw hg HT2 ca
    unfold noAlg
    gi_wp2_with fail
    refine ⟨.int .i64 (-1), ?_, ret_int HV.out, B2⟩
    simp [results, Tryd.f31, go_sem]
end Go.Proofs.YtpklccecgfcdfaaDoor
