/- The laws on sets that are parts, and on least parts, walked at whatever code. -/
import Derived.Test.YthdokmcllppobaaDoorZNa
import Derived.Test.YthdokmcllppobaaDoorZYi
import Derived.Test.YthdokmcllppobaaDoorZYj
namespace Go.Proofs.YthdokmcllppobaaDoor
open Go.RowKit Go.Deep

theorem IsMade.swap {m : Mx} {y : Nat → Nat} {j j' t : Nat} (h : IsMade m y (2 ^ j) t) (hj : j < m.n) (e : y j = j') (hj' : j' < m.n) (e' : y j' = j) : IsMade m y (2 ^ j') t :=
  ⟨sub_one (by rw [← e]; exact h.closed.not j hj (h.has j (has_one j))), h.lt, h.closed, fun u hu hs => h.least u hu (sub_one (by rw [← e']; exact hu.not j' hj' (hs j' (has_one j'))))⟩
theorem madeV_of {m : Mx} {z : Nat → Int} {y : Nat → Nat} {o s : Nat} (h : Ortho m z y o) (h1 : 1 ≤ s) (h2 : s < 2 ^ m.n) : (∃ t, IsMade m y s t ∧ madeV m m.n z (s : Int) = (t : Int)) ∨ ((∀ t, ¬ IsMade m y s t) ∧ madeV m m.n z (s : Int) = -1) := by
  by_cases hx : ∃ t, IsMade m y s t
  · obtain ⟨t, ht⟩ := hx
    exact .inl ⟨t, ht, madeV_is h h1 h2 ht⟩
  · refine .inr ⟨fun t ht => hx ⟨t, ht⟩, ?_⟩
    unfold madeV
    rw [dif_neg]
    rintro ⟨_, _, t, ht⟩
    exact hx ⟨t, ht.congr fun a ha => h.toNat ha⟩
theorem madeV_swap {m : Mx} {z : Nat → Int} {y : Nat → Nat} {o j : Nat} (h : Ortho m z y o) (hj : j < m.n) : madeV m m.n z ((2 ^ j : Nat) : Int) = madeV m m.n z ((2 ^ y j : Nat) : Int) := by
  have hy := h.lt j hj
  rcases madeV_of h (Nat.one_le_two_pow) (one_lt hj) with ⟨t, ht, e1⟩ | ⟨hn, e1⟩
  · rw [e1, madeV_is h (Nat.one_le_two_pow) (one_lt hy) (ht.swap hj rfl hy (h.inv j hj))]
  · rcases madeV_of h (Nat.one_le_two_pow) (one_lt hy) with ⟨t, ht, _⟩ | ⟨_, e2⟩
    · exact absurd (ht.swap hy (h.inv j hj) hj rfl) (hn t)
    · rw [e1, e2]

set_option maxRecDepth 100000 in
set_option maxHeartbeats 4000000 in
theorem law_MadeBy {A : Option Addr} {b o n cap : Nat} {z : Nat → Nat} {w : World} (h : CodeAt w A b o n cap z) (hT : TabOk w) :
    Calls Tryd.prog 4 #[.slice A n cap] w fun e w' => e = .returned (.bool true) ∧ Below w.heap.size w w' := by
  have hn := h.hn
  have hc := h.hc
  by_cases hbig : 1048576 < n
  · have hbig' : (1048576 : Int) < n := by omega
    clear h
    go_enter Tryd.func4, Tryd.ntmps4
    go_wp2_with fail
    go_ret
    exact ⟨rfl, Below.refl _ _⟩
  · have hbig' : ¬ (1048576 : Int) < n := by omega
    have HT := Lib.hid hT
    clear hT
    go_enter Tryd.func4, Tryd.ntmps4
    go_wp2_with fail
    go_at_call 16
    refine (draw_MadeBy h).mono ?_
    rintro e w1 ⟨ua, l, m, na, g, o2, k, nc, zz, x, rfl, hF⟩
    have H1 := Held.start hF nc
    clear h hF
    have q0 := H1.box.c0
    have q1 := H1.box.c1
    go_wp2_with fail
    go_at_call 17
    refine (MadeBy_any H1.log (HT.out.step H1.old HT.out.size)).mono ?_
    rintro e w2 ⟨rfl, b2⟩
    have H2 := H1.step b2
    clear H1 q0 q1 b2
    have q0 := H2.box.c0
    have q1 := H2.box.c1
    go_wp2_with fail
    go_at_call 18
    refine (spec_MadeBy H2.log).mono ?_
    rintro e w3 ⟨rfl, b3⟩
    have H5 := H2.step b3
    clear H2 q0 q1 b3
    have q0 := H5.box.c0
    have q1 := H5.box.c1
    by_cases hm : logicB m k zz = true ∧ inB m.n x = true ∧ ∃ t, IsMade m (fun a => (zz a).toNat) x.toNat t
    · obtain ⟨hl, hi, t, ht0⟩ := hm
      obtain ⟨y, o3, hO⟩ := (logicB_is hl).ortho
      have hkn : k = m.n := (logicB_is hl).pair.len
      subst hkn
      obtain ⟨i1, i2⟩ : 1 ≤ x ∧ x < (2 ^ m.n : Nat) := of_decide_eq_true hi
      obtain ⟨s, rfl⟩ := Int.eq_ofNat_of_zero_le (show 0 ≤ x by omega)
      have j1 : 1 ≤ s := by omega
      have j2 : s < 2 ^ m.n := by omega
      have ht : IsMade m y s t := ht0.congr fun a ha => hO.toNat ha
      rw [madeV_is hO j1 j2 ht]
      have h12 := hO.lat.order.top
      have hpos := hO.lat.order.pos
      obtain ⟨rfl, _, _⟩ := H5.log.row.row 0 (by omega)
      have ht1 : 1 ≤ t := Nat.le_trans j1 ht.has.le
      have M1 : Hid (subV m m.n zz (t : Int) = true) := by
        show _ = _
        rw [subV_is hO ht1 ht.lt]
        exact closedB_mk ht.closed
      have M2 : Hid (madeV m m.n zz (t : Int) = (t : Int)) := madeV_is hO ht1 ht.lt ⟨.refl t, ht.lt, ht.closed, fun _ _ hs => hs⟩
      have hp := pow_le_12 h12
      have hand : t &&& s = s := Nat.eq_of_testBit_eq fun i => by
        rw [Nat.testBit_and]
        cases gi : s.testBit i with
        | false => simp
        | true => rw [ht.has i gi]; rfl
      have M3 : bits .and .i64 (t : Int) (s : Int) = (s : Int) := by
        rw [i64_and_nat t s (Nat.lt_trans (Nat.lt_of_lt_of_le ht.lt hp) (by decide)) (Nat.lt_trans (Nat.lt_of_lt_of_le j2 hp) (by decide)), hand]
      have hneg : ¬ (t : Int) < 0 := by omega
      have e0 : ((t : Int) != (t : Int)) = false := by simp
      have HO := Lib.hid hO
      clear ht0 ht hi i1 i2 hl hO hand hp
      go_wp2_with fail
      clear e0 q0 q1
      go_loopw [6] (fun i wr => ∃ j : Nat, j ≤ m.n ∧ i = .int .i64 j ∧ Hid (Held w ua l m (some ⟨g, o2, none⟩) g o2 m.n nc zz w1.heap.size wr)) (fun i _ => m.n - (intOf i).toNat)
      case atStart => exact ⟨0, Nat.zero_le _, rfl, H5⟩
      case round =>
        clear H5
        obtain ⟨j, hj, rfl, H5'⟩ := hrel
        have H5 := H5'.out
        have q0 := H5.box.c0
        have q1 := H5.box.c1
        by_cases hlt : j < m.n
        · have hlt' : (j : Int) < m.n := by omega
          have hyj := HO.out.lt j hlt
          have hj64 : (j : Int) ≤ 64 := by omega
          have hy64 : ((y j : Nat) : Int) ≤ 64 := by omega
          obtain ⟨V, hV⟩ : ∃ V, V = madeV m m.n zz ((2 ^ j : Nat) : Int) := ⟨_, rfl⟩
          have N1 : Hid (madeV m m.n zz (IntKind.i64.wrap (2 ^ j)) = V) := by show _ = _; rw [one_wrap (by omega), hV]
          have N2 : Hid (madeV m m.n zz (IntKind.i64.wrap (2 ^ y j)) = V) := by show _ = _; rw [one_wrap (by omega), hV]; exact (madeV_swap HO.out hlt).symm
          have e0 : (V != V) = false := by simp
          clear hV
          go_upto_region 12 with fail
          clear q0 q1
          have Hd := H5.step (Below.refl _ wr).drew
          have cy := fun (wx : World) (hx : Held w ua l m (some ⟨g, o2, none⟩) g o2 m.n nc zz w1.heap.size wx) => (show wx.cell? ⟨g, o2 + j, none⟩ = some (.int .i64 (y j)) from by
            obtain ⟨_, _, c⟩ := hx.log.row.row j hlt
            rw [HO.out.zy j hlt] at c
            exact c)
          have G0 : (fun w' => w'.cell? ⟨w1.heap.size, 0, none⟩ = some (.slice ua m.n l.cap) ∧ w'.cell? ⟨w1.heap.size, 1, none⟩ = some (.slice (some ⟨g, o2, none⟩) m.n nc) ∧ w'.cell? ⟨g, o2 + j, none⟩ = some (.int .i64 (y j))) wr.drew := ⟨Hd.box.c0, Hd.box.c1, cy _ Hd⟩
          refine region_plain (fuel := 13) (listed := #[false, false, false, false, false, false, false, false, false, false, false, false, false]) (fun w' => w'.cell? ⟨w1.heap.size, 0, none⟩ = some (.slice ua m.n l.cap) ∧ w'.cell? ⟨w1.heap.size, 1, none⟩ = some (.slice (some ⟨g, o2, none⟩) m.n nc) ∧ w'.cell? ⟨g, o2 + j, none⟩ = some (.int .i64 (y j))) (by kernel_rfl) (by kernel_rfl) (by kernel_rfl) ?_
          refine hold_take (i := 0) (d := 37) (v := ?vM0) (listed' := #[true, false, false, false, false, false, false, false, false, false, false, false, false]) rfl (by kernel_rfl) (by kernel_rfl) (by kernel_rfl) rfl (by rfl) (by kernel_rfl) G0 ?hM0 ?rM0
          case hM0 =>
            intro w' hSw
            obtain ⟨k0, k1, k2⟩ := hSw
            go_simp
            try with_reducible rfl
          simp only [List.setIfInBounds_toArray, List.set_cons_zero, List.set_cons_succ]
          refine hold_take (i := 1) (d := 38) (v := ?vM1) (listed' := #[true, true, false, false, false, false, false, false, false, false, false, false, false]) rfl (by kernel_rfl) (by kernel_rfl) (by kernel_rfl) rfl (by rfl) (by kernel_rfl) G0 ?hM1 ?rM1
          case hM1 =>
            intro w' hSw
            obtain ⟨k0, k1, k2⟩ := hSw
            go_simp
            try with_reducible rfl
          simp only [List.setIfInBounds_toArray, List.set_cons_zero, List.set_cons_succ]
          refine hold_take (i := 2) (d := 39) (v := ?vM2) (listed' := #[true, true, true, false, false, false, false, false, false, false, false, false, false]) rfl (by kernel_rfl) (by kernel_rfl) (by kernel_rfl) rfl (by rfl) (by kernel_rfl) G0 ?hM2 ?rM2
          case hM2 =>
            intro w' hSw
            obtain ⟨k0, k1, k2⟩ := hSw
            go_simp
            try with_reducible rfl
          simp only [List.setIfInBounds_toArray, List.set_cons_zero, List.set_cons_succ]
          refine hold_take (i := 4) (d := 41) (v := ?vM4) (listed' := #[true, true, true, false, true, false, false, false, false, false, false, false, false]) rfl (by kernel_rfl) (by kernel_rfl) (by kernel_rfl) rfl (by rfl) (by kernel_rfl) G0 ?hM4 ?rM4
          case hM4 =>
            intro w' hSw
            obtain ⟨k0, k1, k2⟩ := hSw
            go_simp
            try with_reducible rfl
          simp only [List.setIfInBounds_toArray, List.set_cons_zero, List.set_cons_succ]
          refine hold_take (i := 5) (d := 42) (v := ?vM5) (listed' := #[true, true, true, false, true, true, false, false, false, false, false, false, false]) rfl (by kernel_rfl) (by kernel_rfl) (by kernel_rfl) rfl (by rfl) (by kernel_rfl) G0 ?hM5 ?rM5
          case hM5 =>
            intro w' hSw
            obtain ⟨k0, k1, k2⟩ := hSw
            go_simp
            try with_reducible rfl
          simp only [List.setIfInBounds_toArray, List.set_cons_zero, List.set_cons_succ]
          refine hold_take (i := 6) (d := 43) (v := ?vM6) (listed' := #[true, true, true, false, true, true, true, false, false, false, false, false, false]) rfl (by kernel_rfl) (by kernel_rfl) (by kernel_rfl) rfl (by rfl) (by kernel_rfl) G0 ?hM6 ?rM6
          case hM6 =>
            intro w' hSw
            obtain ⟨k0, k1, k2⟩ := hSw
            go_simp
            try with_reducible rfl
          simp only [List.setIfInBounds_toArray, List.set_cons_zero, List.set_cons_succ]
          refine hold_take (i := 7) (d := 44) (v := ?vM7) (listed' := #[true, true, true, false, true, true, true, true, false, false, false, false, false]) rfl (by kernel_rfl) (by kernel_rfl) (by kernel_rfl) rfl (by rfl) (by kernel_rfl) G0 ?hM7 ?rM7
          case hM7 =>
            intro w' hSw
            obtain ⟨k0, k1, k2⟩ := hSw
            go_simp
            try with_reducible rfl
          simp only [List.setIfInBounds_toArray, List.set_cons_zero, List.set_cons_succ]
          refine hold_take (i := 8) (d := 45) (v := ?vM8) (listed' := #[true, true, true, false, true, true, true, true, true, false, false, false, false]) rfl (by kernel_rfl) (by kernel_rfl) (by kernel_rfl) rfl (by rfl) (by kernel_rfl) G0 ?hM8 ?rM8
          case hM8 =>
            intro w' hSw
            obtain ⟨k0, k1, k2⟩ := hSw
            go_simp
            try with_reducible rfl
          simp only [List.setIfInBounds_toArray, List.set_cons_zero, List.set_cons_succ]
          refine hold_take (i := 9) (d := 46) (v := ?vM9) (listed' := #[true, true, true, false, true, true, true, true, true, true, false, false, false]) rfl (by kernel_rfl) (by kernel_rfl) (by kernel_rfl) rfl (by rfl) (by kernel_rfl) G0 ?hM9 ?rM9
          case hM9 =>
            intro w' hSw
            obtain ⟨k0, k1, k2⟩ := hSw
            go_simp
            try with_reducible rfl
          simp only [List.setIfInBounds_toArray, List.set_cons_zero, List.set_cons_succ]
          refine hold_take (i := 10) (d := 47) (v := ?vM10) (listed' := #[true, true, true, false, true, true, true, true, true, true, true, false, false]) rfl (by kernel_rfl) (by kernel_rfl) (by kernel_rfl) rfl (by rfl) (by kernel_rfl) G0 ?hM10 ?rM10
          case hM10 =>
            intro w' hSw
            obtain ⟨k0, k1, k2⟩ := hSw
            go_simp
            try with_reducible rfl
          simp only [List.setIfInBounds_toArray, List.set_cons_zero, List.set_cons_succ]
          refine hold_call (i := 3) (d := 40) (listed' := #[true, true, true, true, true, true, true, true, true, true, true, false, false]) rfl (by kernel_rfl) rfl (by rfl) (by kernel_rfl) ?heM3 (MadeBy_any (nc := nc) (x := IntKind.i64.wrap (2 ^ j)) Hd.log (HT.out.step Hd.old HT.out.size)) ?hcM3
          case heM3 => go_simp
          rintro e w6 ⟨rfl, b6⟩
          rw [N1.out]
          have H6 := Hd.step b6
          have G6 : (fun w' => w'.cell? ⟨w1.heap.size, 0, none⟩ = some (.slice ua m.n l.cap) ∧ w'.cell? ⟨w1.heap.size, 1, none⟩ = some (.slice (some ⟨g, o2, none⟩) m.n nc) ∧ w'.cell? ⟨g, o2 + j, none⟩ = some (.int .i64 (y j))) w6 := ⟨H6.box.c0, H6.box.c1, cy _ H6⟩
          refine ⟨_, rfl, G6, ?_⟩
          simp only [List.setIfInBounds_toArray, List.set_cons_zero, List.set_cons_succ]
          refine hold_call (i := 11) (d := 48) (listed' := #[true, true, true, true, true, true, true, true, true, true, true, true, false]) rfl (by kernel_rfl) rfl (by rfl) (by kernel_rfl) ?heM11 (MadeBy_any (nc := nc) (x := IntKind.i64.wrap (2 ^ y j)) H6.log (HT.out.step H6.old HT.out.size)) ?hcM11
          case heM11 => go_simp
          rintro e w7 ⟨rfl, b7⟩
          rw [N2.out]
          have H7 := H6.step b7
          have G7 : (fun w' => w'.cell? ⟨w1.heap.size, 0, none⟩ = some (.slice ua m.n l.cap) ∧ w'.cell? ⟨w1.heap.size, 1, none⟩ = some (.slice (some ⟨g, o2, none⟩) m.n nc) ∧ w'.cell? ⟨g, o2 + j, none⟩ = some (.int .i64 (y j))) w7 := ⟨H7.box.c0, H7.box.c1, cy _ H7⟩
          refine ⟨_, rfl, G7, ?_⟩
          simp only [List.setIfInBounds_toArray, List.set_cons_zero, List.set_cons_succ]
          refine hold_take (i := 12) (d := 49) (v := ?vM12) (listed' := #[true, true, true, true, true, true, true, true, true, true, true, true, true]) rfl (by kernel_rfl) (by kernel_rfl) (by kernel_rfl) rfl (by rfl) (by kernel_rfl) G7 ?hM12 ?rM12
          case hM12 =>
            intro w' hSw
            obtain ⟨k0, k1, k2⟩ := hSw
            go_simp
            try with_reducible rfl
          simp only [List.setIfInBounds_toArray, List.set_cons_zero, List.set_cons_succ]
          refine hold_done (by kernel_rfl) ?_ _
          have H7' := Lib.hid H7
          go_wp2_with fail
          go_roundw
          case rel => exact ⟨j + 1, by omega, by go_num, H7'⟩
          case measure => simp [intOf]; omega
        · have hlt' : ¬ (j : Int) < m.n := by omega
          go_wp2_with fail
          go_at_call 10
          refine (SubOk_any H5.log (HT.out.step H5.old HT.out.size)).mono ?_
          rintro e w6 ⟨rfl, b6⟩
          rw [M1.out]
          have H6 := H5.step b6
          clear q0 q1 b6
          have q0 := H6.box.c0
          have q1 := H6.box.c1
          go_wp2_with fail
          go_at_call 17
          refine (MadeBy_any H6.log (HT.out.step H6.old HT.out.size)).mono ?_
          rintro e w7 ⟨rfl, b7⟩
          rw [M2.out]
          have H7 := H6.step b7
          clear q0 q1 b7
          go_wp2_with fail
          go_ret
          exact ⟨rfl, H7.old⟩
    · have e : madeV m k zz x = -1 := by
        unfold madeV
        rw [dif_neg hm]
      rw [e]
      clear e hm
      go_wp2_with fail
      go_at_call 13
      refine (alive_any _).mono ?_
      rintro e w6 ⟨rfl, b6⟩
      have H6 := H5.step b6
      go_wp2_with fail
      go_ret
      exact ⟨rfl, H6.old⟩
end Go.Proofs.YthdokmcllppobaaDoor
