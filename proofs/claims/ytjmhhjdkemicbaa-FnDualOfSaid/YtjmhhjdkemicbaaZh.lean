/- The law of DualOf, walked at whatever two codes. -/
import Derived.Test.YtjmhhjdkemicbaaKn
import Derived.Test.YtjmhhjdkemicbaaKd
import Derived.Test.YtjmhhjdkemicbaaKm
import Derived.Test.YtjmhhjdkemicbaaZf
namespace Go.Proofs.Ytjmhhjdkemicbaa
open Go.RowKit Go.Deep

theorem CodeAt.step {A : Option Addr} {b o n cap : Nat} {z : Nat → Nat} {w w' : World} (h : CodeAt w A b o n cap z) (hb : Below w.heap.size w w') : CodeAt w' A b o n cap z :=
  ⟨⟨fun j hj => by
    obtain ⟨e1, e2, e3, e4⟩ := (h.bytes.below hb).at_ j hj
    exact ⟨e1, by have := hb.size; omega, e3, e4⟩⟩, h.hn, h.hc⟩
set_option maxRecDepth 100000 in
set_option maxHeartbeats 8000000 in
theorem law_DualOf {A A2 : Option Addr} {b o n cap b2 o2 n2 cap2 : Nat} {z z2 : Nat → Nat} {w : World} (h : CodeAt w A b o n cap z) (h2 : CodeAt w A2 b2 o2 n2 cap2 z2) :
    Calls Try.prog 5 #[.slice A n cap, .slice A2 n2 cap2] w fun e w' => e = .returned (.bool true) ∧ Below w.heap.size w w' := by
  have hn := h.hn
  have hcn := h.hc
  by_cases hbign : 1048576 < n
  · have hbign' : (1048576 : Int) < n := by omega
    clear h h2
    go_enter Try.func5, Try.ntmps5
    go_wp2_with fail
    go_ret
    exact ⟨rfl, Below.refl _ _⟩
  have hbign' : ¬ (1048576 : Int) < n := by omega
  have hn2 := h2.hn
  have hcn2 := h2.hc
  by_cases hbign2 : 1048576 < n2
  · have hbign2' : (1048576 : Int) < n2 := by omega
    clear h h2
    go_enter Try.func5, Try.ntmps5
    go_wp2_with fail
    go_ret
    exact ⟨rfl, Below.refl _ _⟩
  have hbign2' : ¬ (1048576 : Int) < n2 := by omega
  have H2c := Lib.hid h2
  clear h2
  go_enter Try.func5, Try.ntmps5
  go_wp2_with fail
  go_at_call 20
  refine (draw_DualOf h).mono ?_
  rintro e w1 ⟨s, rfl, hs60, b1⟩
  clear h
  go_wp2_with fail
  go_at_call 21
  refine (DualOf_any s w1 (by omega)).mono ?_
  rintro e w2 ⟨rfl, b2⟩
  have B2 := b1.trans (b2.mono b1.size)
  unfold strV
  obtain ⟨D, hD⟩ : ∃ D : ByteArray, (⟨(dualS s.data.toList).toArray⟩ : ByteArray) = D := ⟨_, rfl⟩
  have hDl : D.data.toList = dualS s.data.toList := by rw [← hD]
  rw [hD]
  have HD := Lib.hid hD
  have hb9 : (D.toList != D.toList) = false := by simp
  clear hD b1 b2
  go_wp2_with fail
  go_at_call 22
  refine (spec_DualOf s w2 (by omega)).mono ?_
  rintro e w3 ⟨rfl, rfl⟩
  unfold strV
  rw [HD.out]
  cases hf : formB s.data.toList with
  | false =>
    have hem : D.toList.isEmpty = true := ba_nil (by rw [hDl]; exact dualS_no hf)
    have HF := Lib.hid hf
    clear hf hDl
    go_wp2_with fail
    go_at_call 12
    refine (FormulaOk_any s _ (by omega)).mono ?_
    rintro e w4 ⟨rfl, b4⟩
    rw [HF.out]
    have B4 := B2.trans (b4.mono B2.size)
    go_wp2_with fail
    go_at_call 14
    refine (alive_any _).mono ?_
    rintro e w5 ⟨rfl, b5⟩
    have B5 := B4.trans (b5.mono B4.size)
    go_wp2_with fail
    go_ret
    exact ⟨rfl, B5⟩
  | true =>
    obtain ⟨f, hft, hdt, hdf, hdd, hdn⟩ := dualS_form hf
    have hem : D.toList.isEmpty = false := by
      cases hh : D.data.toList with
      | nil => exact absurd (hDl.symm.trans hh) hdn
      | cons c9 t9 => exact (ba_cons hh).1
    have hDs : D.size ≤ 4611686018427387904 := by
      rw [size_data, hDl, hdt, dual_len, ← hft]
      have : s.data.toList.length = s.size := rfl
      omega
    have HDF : Hid (formB D.data.toList = true) := by show _ = _; rw [hDl]; exact hdf
    have HDD : Hid (strV (dualS D.data.toList) = .string s) := by
      show _ = _
      rw [hDl, hdd]
      unfold strV
      rw [ba_mk]
    have HDT : Hid (D.data.toList = f.dual.text) := by show _ = _; rw [hDl, hdt]
    have HFT := Lib.hid hft
    have hss : (s.toList == s.toList) = true := by simp
    clear hf hft hdt hdf hdd hdn hDl
    have B3 := B2
    have h2 := H2c.out.step B2
    go_wp2_with fail
    clear hem hb9
    go_at_call 15
    refine (draw_ValueOf h2).mono ?_
    rintro e w4 ⟨ua, l, m, na, g, o2, k, nc, zz, sx, x, v, t, rfl, -, hF⟩
    have H4 := Held.start hF nc
    clear h2 hF H2c
    have q0 := H4.box.c0
    have q1 := H4.box.c1
    go_wp2_with fail
    go_at_call 16
    refine (ValueOf_any H4.log s (by omega)).mono ?_
    rintro e w5 ⟨rfl, b5⟩
    have H5 := H4.step b5
    clear H4 q0 q1 b5
    have q0 := H5.box.c0
    have q1 := H5.box.c1
    rcases valueV_cases (m := m) (k := k) (z := zz) (s := s.data.toList) (x := x) (v := v) (t := t) with hc | ⟨a, b', d, n0, v0, f', rfl, rfl, rfl, ha, hb, hd, rfl, hl, hO, h60, hft', hv, hv0, hvlt⟩
    · rw [hc]
      clear hc
      go_wp2_with fail
      have Hd := Lib.hid (H5.step (Below.refl _ w5).drew)
      have K0 : (fun w' => w'.cell? ⟨w4.heap.size, 0, none⟩ = some (.slice ua m.n l.cap) ∧ w'.cell? ⟨w4.heap.size, 1, none⟩ = some (.slice na k nc)) w5.drew := ⟨Hd.out.box.c0, Hd.out.box.c1⟩
      clear H5 q0 q1
      refine region_plain (fuel := 20) (listed := #[false, false, false, false, false, false, false, false, false, false, false, false, false, false, false, false, false, false, false, false]) (fun w' => w'.cell? ⟨w4.heap.size, 0, none⟩ = some (.slice ua m.n l.cap) ∧ w'.cell? ⟨w4.heap.size, 1, none⟩ = some (.slice na k nc)) (by kernel_rfl) (by kernel_rfl) (by kernel_rfl) ?_
      refine hold_take (i := 0) (d := 51) (v := ?vA0) (listed' := #[true, false, false, false, false, false, false, false, false, false, false, false, false, false, false, false, false, false, false, false]) rfl (by kernel_rfl) (by kernel_rfl) (by kernel_rfl) rfl (by rfl) (by kernel_rfl) K0 ?hA0 ?rA0
      case hA0 =>
        intro w' hSw
        obtain ⟨k0, k1⟩ := hSw
        go_simp
        try with_reducible rfl
      simp only [List.setIfInBounds_toArray, List.set_cons_zero, List.set_cons_succ]
      refine hold_take (i := 1) (d := 52) (v := .bool false) (listed' := #[true, true, false, false, false, false, false, false, false, false, false, false, false, false, false, false, false, false, false, false]) rfl (by kernel_rfl) (by kernel_rfl) (by kernel_rfl) rfl (by rfl) (by kernel_rfl) K0 ?hA1 ?rA1
      case hA1 =>
        intro w' hSw
        obtain ⟨k0, k1⟩ := hSw
        go_simp
        first | done | with_reducible rfl | (simp; done) | (simp; omega)
      simp only [List.setIfInBounds_toArray, List.set_cons_zero, List.set_cons_succ]
      refine hold_take (i := 2) (d := 53) (v := ?vA2) (listed' := #[true, true, true, false, false, false, false, false, false, false, false, false, false, false, false, false, false, false, false, false]) rfl (by kernel_rfl) (by kernel_rfl) (by kernel_rfl) rfl (by rfl) (by kernel_rfl) K0 ?hA2 ?rA2
      case hA2 =>
        intro w' hSw
        obtain ⟨k0, k1⟩ := hSw
        go_simp
        try with_reducible rfl
      simp only [List.setIfInBounds_toArray, List.set_cons_zero, List.set_cons_succ]
      refine hold_skip (i := 3) (d := 54) (listed' := #[true, true, true, true, false, false, false, false, false, false, false, false, false, false, false, false, false, false, false, false]) rfl (by kernel_rfl) (by kernel_rfl) (by kernel_rfl) rfl (by rfl) (by kernel_rfl) K0 ?_
      simp only [List.setIfInBounds_toArray, List.set_cons_zero, List.set_cons_succ]
      refine hold_skip (i := 4) (d := 55) (listed' := #[true, true, true, true, true, false, false, false, false, false, false, false, false, false, false, false, false, false, false, false]) rfl (by kernel_rfl) (by kernel_rfl) (by kernel_rfl) rfl (by rfl) (by kernel_rfl) K0 ?_
      simp only [List.setIfInBounds_toArray, List.set_cons_zero, List.set_cons_succ]
      refine hold_skip (i := 5) (d := 56) (listed' := #[true, true, true, true, true, true, false, false, false, false, false, false, false, false, false, false, false, false, false, false]) rfl (by kernel_rfl) (by kernel_rfl) (by kernel_rfl) rfl (by rfl) (by kernel_rfl) K0 ?_
      simp only [List.setIfInBounds_toArray, List.set_cons_zero, List.set_cons_succ]
      refine hold_skip (i := 6) (d := 57) (listed' := #[true, true, true, true, true, true, true, false, false, false, false, false, false, false, false, false, false, false, false, false]) rfl (by kernel_rfl) (by kernel_rfl) (by kernel_rfl) rfl (by rfl) (by kernel_rfl) K0 ?_
      simp only [List.setIfInBounds_toArray, List.set_cons_zero, List.set_cons_succ]
      refine hold_skip (i := 8) (d := 59) (listed' := #[true, true, true, true, true, true, true, false, true, false, false, false, false, false, false, false, false, false, false, false]) rfl (by kernel_rfl) (by kernel_rfl) (by kernel_rfl) rfl (by rfl) (by kernel_rfl) K0 ?_
      simp only [List.setIfInBounds_toArray, List.set_cons_zero, List.set_cons_succ]
      refine hold_skip (i := 9) (d := 60) (listed' := #[true, true, true, true, true, true, true, false, true, true, false, false, false, false, false, false, false, false, false, false]) rfl (by kernel_rfl) (by kernel_rfl) (by kernel_rfl) rfl (by rfl) (by kernel_rfl) K0 ?_
      simp only [List.setIfInBounds_toArray, List.set_cons_zero, List.set_cons_succ]
      refine hold_skip (i := 11) (d := 62) (listed' := #[true, true, true, true, true, true, true, false, true, true, false, true, false, false, false, false, false, false, false, false]) rfl (by kernel_rfl) (by kernel_rfl) (by kernel_rfl) rfl (by rfl) (by kernel_rfl) K0 ?_
      simp only [List.setIfInBounds_toArray, List.set_cons_zero, List.set_cons_succ]
      refine hold_skip (i := 12) (d := 63) (listed' := #[true, true, true, true, true, true, true, false, true, true, false, true, true, false, false, false, false, false, false, false]) rfl (by kernel_rfl) (by kernel_rfl) (by kernel_rfl) rfl (by rfl) (by kernel_rfl) K0 ?_
      simp only [List.setIfInBounds_toArray, List.set_cons_zero, List.set_cons_succ]
      refine hold_skip (i := 15) (d := 66) (listed' := #[true, true, true, true, true, true, true, false, true, true, false, true, true, false, false, true, false, false, false, false]) rfl (by kernel_rfl) (by kernel_rfl) (by kernel_rfl) rfl (by rfl) (by kernel_rfl) K0 ?_
      simp only [List.setIfInBounds_toArray, List.set_cons_zero, List.set_cons_succ]
      refine hold_skip (i := 16) (d := 67) (listed' := #[true, true, true, true, true, true, true, false, true, true, false, true, true, false, false, true, true, false, false, false]) rfl (by kernel_rfl) (by kernel_rfl) (by kernel_rfl) rfl (by rfl) (by kernel_rfl) K0 ?_
      simp only [List.setIfInBounds_toArray, List.set_cons_zero, List.set_cons_succ]
      refine hold_skip (i := 7) (d := 58) (listed' := #[true, true, true, true, true, true, true, true, true, true, false, true, true, false, false, true, true, false, false, false]) rfl (by kernel_rfl) (by kernel_rfl) (by kernel_rfl) rfl (by rfl) (by kernel_rfl) K0 ?_
      simp only [List.setIfInBounds_toArray, List.set_cons_zero, List.set_cons_succ]
      refine hold_skip (i := 10) (d := 61) (listed' := #[true, true, true, true, true, true, true, true, true, true, true, true, true, false, false, true, true, false, false, false]) rfl (by kernel_rfl) (by kernel_rfl) (by kernel_rfl) rfl (by rfl) (by kernel_rfl) K0 ?_
      simp only [List.setIfInBounds_toArray, List.set_cons_zero, List.set_cons_succ]
      refine hold_skip (i := 13) (d := 64) (listed' := #[true, true, true, true, true, true, true, true, true, true, true, true, true, true, false, true, true, false, false, false]) rfl (by kernel_rfl) (by kernel_rfl) (by kernel_rfl) rfl (by rfl) (by kernel_rfl) K0 ?_
      simp only [List.setIfInBounds_toArray, List.set_cons_zero, List.set_cons_succ]
      refine hold_skip (i := 14) (d := 65) (listed' := #[true, true, true, true, true, true, true, true, true, true, true, true, true, true, true, true, true, false, false, false]) rfl (by kernel_rfl) (by kernel_rfl) (by kernel_rfl) rfl (by rfl) (by kernel_rfl) K0 ?_
      simp only [List.setIfInBounds_toArray, List.set_cons_zero, List.set_cons_succ]
      refine hold_skip (i := 17) (d := 68) (listed' := #[true, true, true, true, true, true, true, true, true, true, true, true, true, true, true, true, true, true, false, false]) rfl (by kernel_rfl) (by kernel_rfl) (by kernel_rfl) rfl (by rfl) (by kernel_rfl) K0 ?_
      simp only [List.setIfInBounds_toArray, List.set_cons_zero, List.set_cons_succ]
      refine hold_skip (i := 18) (d := 69) (listed' := #[true, true, true, true, true, true, true, true, true, true, true, true, true, true, true, true, true, true, true, false]) rfl (by kernel_rfl) (by kernel_rfl) (by kernel_rfl) rfl (by rfl) (by kernel_rfl) K0 ?_
      simp only [List.setIfInBounds_toArray, List.set_cons_zero, List.set_cons_succ]
      refine hold_take (i := 19) (d := 70) (v := ?vA19) (listed' := #[true, true, true, true, true, true, true, true, true, true, true, true, true, true, true, true, true, true, true, true]) rfl (by kernel_rfl) (by kernel_rfl) (by kernel_rfl) rfl (by rfl) (by kernel_rfl) K0 ?hA19 ?rA19
      case hA19 =>
        intro w' hSw
        obtain ⟨k0, k1⟩ := hSw
        go_simp
        try with_reducible rfl
      simp only [List.setIfInBounds_toArray, List.set_cons_zero, List.set_cons_succ]
      refine hold_done (by kernel_rfl) ?_ _
      have BG := B3.trans (Hd.out.old.mono B3.size)
      go_wp2_with fail
      go_at_call 21
      refine (DualOf_any D _ hDs).mono ?_
      rintro e w7 ⟨rfl, b7⟩
      have B7 := BG.trans (b7.mono BG.size)
      rw [HDD.out]
      go_wp2_with fail
      go_at_call 12
      refine (FormulaOk_any D _ (by omega)).mono ?_
      rintro e w8 ⟨rfl, b8⟩
      have B8 := B7.trans (b8.mono B7.size)
      rw [HDF.out]
      go_wp2_with fail
      go_at_call 14
      refine (alive_any _).mono ?_
      rintro e w9 ⟨rfl, b9⟩
      have B9 := B8.trans (b9.mono B8.size)
      go_wp2_with fail
      go_ret
      exact ⟨rfl, B9⟩
    · have hff : f = f' := text_inj (HFT.out.symm.trans hft')
      subst hff
      rw [hv]
      have HNa : Hid (notV m m.n zz (a : Int) = (((zz a).toNat : Nat) : Int)) := hO.notV hl ha
      have HNb : Hid (notV m m.n zz (b' : Int) = (((zz b').toNat : Nat) : Int)) := hO.notV hl hb
      have HNd : Hid (notV m m.n zz (d : Int) = (((zz d).toNat : Nat) : Int)) := hO.notV hl hd
      have HNV : Hid (notV m m.n zz (v0 : Int) = (((zz v0).toNat : Nat) : Int)) := hO.notV hl hvlt
      have HVD : Hid (valueV m m.n zz D.data.toList (((zz a).toNat : Nat) : Int) (((zz b').toNat : Nat) : Int) (((zz d).toNat : Nat) : Int) = (((zz v0).toNat : Nat) : Int)) := by
        show _ = _
        rw [HDT.out, value_text f.dual hl hO (hO.lt a ha) (hO.lt b' hb) (hO.lt d hd) (by rw [dual_len, ← HFT.out]; exact h60)]
        rw [hv0]
        exact congrArg Nat.cast (hO.val_dual ha hb hd f)
      clear hv hv0 hl hO h60 hft'
      go_wp2_with fail
      have Hd := Lib.hid (H5.step (Below.refl _ w5).drew)
      have K0 : (fun w' => w'.cell? ⟨w4.heap.size, 0, none⟩ = some (.slice ua m.n l.cap) ∧ w'.cell? ⟨w4.heap.size, 1, none⟩ = some (.slice na m.n nc)) w5.drew := ⟨Hd.out.box.c0, Hd.out.box.c1⟩
      clear H5 q0 q1
      refine region_plain (fuel := 20) (listed := #[false, false, false, false, false, false, false, false, false, false, false, false, false, false, false, false, false, false, false, false]) (fun w' => w'.cell? ⟨w4.heap.size, 0, none⟩ = some (.slice ua m.n l.cap) ∧ w'.cell? ⟨w4.heap.size, 1, none⟩ = some (.slice na m.n nc)) (by kernel_rfl) (by kernel_rfl) (by kernel_rfl) ?_
      refine hold_take (i := 0) (d := 51) (v := ?vB0) (listed' := #[true, false, false, false, false, false, false, false, false, false, false, false, false, false, false, false, false, false, false, false]) rfl (by kernel_rfl) (by kernel_rfl) (by kernel_rfl) rfl (by rfl) (by kernel_rfl) K0 ?hB0 ?rB0
      case hB0 =>
        intro w' hSw
        obtain ⟨k0, k1⟩ := hSw
        go_simp
        try with_reducible rfl
      simp only [List.setIfInBounds_toArray, List.set_cons_zero, List.set_cons_succ]
      refine hold_take (i := 1) (d := 52) (v := .bool true) (listed' := #[true, true, false, false, false, false, false, false, false, false, false, false, false, false, false, false, false, false, false, false]) rfl (by kernel_rfl) (by kernel_rfl) (by kernel_rfl) rfl (by rfl) (by kernel_rfl) K0 ?hB1 ?rB1
      case hB1 =>
        intro w' hSw
        obtain ⟨k0, k1⟩ := hSw
        go_simp
        first | done | with_reducible rfl | (simp; done) | (simp; omega)
      simp only [List.setIfInBounds_toArray, List.set_cons_zero, List.set_cons_succ]
      refine hold_take (i := 2) (d := 53) (v := ?vB2) (listed' := #[true, true, true, false, false, false, false, false, false, false, false, false, false, false, false, false, false, false, false, false]) rfl (by kernel_rfl) (by kernel_rfl) (by kernel_rfl) rfl (by rfl) (by kernel_rfl) K0 ?hB2 ?rB2
      case hB2 =>
        intro w' hSw
        obtain ⟨k0, k1⟩ := hSw
        go_simp
        try with_reducible rfl
      simp only [List.setIfInBounds_toArray, List.set_cons_zero, List.set_cons_succ]
      refine hold_take (i := 3) (d := 54) (v := ?vB3) (listed' := #[true, true, true, true, false, false, false, false, false, false, false, false, false, false, false, false, false, false, false, false]) rfl (by kernel_rfl) (by kernel_rfl) (by kernel_rfl) rfl (by rfl) (by kernel_rfl) K0 ?hB3 ?rB3
      case hB3 =>
        intro w' hSw
        obtain ⟨k0, k1⟩ := hSw
        go_simp
        try with_reducible rfl
      simp only [List.setIfInBounds_toArray, List.set_cons_zero, List.set_cons_succ]
      refine hold_take (i := 4) (d := 55) (v := ?vB4) (listed' := #[true, true, true, true, true, false, false, false, false, false, false, false, false, false, false, false, false, false, false, false]) rfl (by kernel_rfl) (by kernel_rfl) (by kernel_rfl) rfl (by rfl) (by kernel_rfl) K0 ?hB4 ?rB4
      case hB4 =>
        intro w' hSw
        obtain ⟨k0, k1⟩ := hSw
        go_simp
        try with_reducible rfl
      simp only [List.setIfInBounds_toArray, List.set_cons_zero, List.set_cons_succ]
      refine hold_take (i := 5) (d := 56) (v := ?vB5) (listed' := #[true, true, true, true, true, true, false, false, false, false, false, false, false, false, false, false, false, false, false, false]) rfl (by kernel_rfl) (by kernel_rfl) (by kernel_rfl) rfl (by rfl) (by kernel_rfl) K0 ?hB5 ?rB5
      case hB5 =>
        intro w' hSw
        obtain ⟨k0, k1⟩ := hSw
        go_simp
        try with_reducible rfl
      simp only [List.setIfInBounds_toArray, List.set_cons_zero, List.set_cons_succ]
      refine hold_take (i := 6) (d := 57) (v := ?vB6) (listed' := #[true, true, true, true, true, true, true, false, false, false, false, false, false, false, false, false, false, false, false, false]) rfl (by kernel_rfl) (by kernel_rfl) (by kernel_rfl) rfl (by rfl) (by kernel_rfl) K0 ?hB6 ?rB6
      case hB6 =>
        intro w' hSw
        obtain ⟨k0, k1⟩ := hSw
        go_simp
        try with_reducible rfl
      simp only [List.setIfInBounds_toArray, List.set_cons_zero, List.set_cons_succ]
      refine hold_take (i := 8) (d := 59) (v := ?vB8) (listed' := #[true, true, true, true, true, true, true, false, true, false, false, false, false, false, false, false, false, false, false, false]) rfl (by kernel_rfl) (by kernel_rfl) (by kernel_rfl) rfl (by rfl) (by kernel_rfl) K0 ?hB8 ?rB8
      case hB8 =>
        intro w' hSw
        obtain ⟨k0, k1⟩ := hSw
        go_simp
        try with_reducible rfl
      simp only [List.setIfInBounds_toArray, List.set_cons_zero, List.set_cons_succ]
      refine hold_take (i := 9) (d := 60) (v := ?vB9) (listed' := #[true, true, true, true, true, true, true, false, true, true, false, false, false, false, false, false, false, false, false, false]) rfl (by kernel_rfl) (by kernel_rfl) (by kernel_rfl) rfl (by rfl) (by kernel_rfl) K0 ?hB9 ?rB9
      case hB9 =>
        intro w' hSw
        obtain ⟨k0, k1⟩ := hSw
        go_simp
        try with_reducible rfl
      simp only [List.setIfInBounds_toArray, List.set_cons_zero, List.set_cons_succ]
      refine hold_take (i := 11) (d := 62) (v := ?vB11) (listed' := #[true, true, true, true, true, true, true, false, true, true, false, true, false, false, false, false, false, false, false, false]) rfl (by kernel_rfl) (by kernel_rfl) (by kernel_rfl) rfl (by rfl) (by kernel_rfl) K0 ?hB11 ?rB11
      case hB11 =>
        intro w' hSw
        obtain ⟨k0, k1⟩ := hSw
        go_simp
        try with_reducible rfl
      simp only [List.setIfInBounds_toArray, List.set_cons_zero, List.set_cons_succ]
      refine hold_take (i := 12) (d := 63) (v := ?vB12) (listed' := #[true, true, true, true, true, true, true, false, true, true, false, true, true, false, false, false, false, false, false, false]) rfl (by kernel_rfl) (by kernel_rfl) (by kernel_rfl) rfl (by rfl) (by kernel_rfl) K0 ?hB12 ?rB12
      case hB12 =>
        intro w' hSw
        obtain ⟨k0, k1⟩ := hSw
        go_simp
        try with_reducible rfl
      simp only [List.setIfInBounds_toArray, List.set_cons_zero, List.set_cons_succ]
      refine hold_take (i := 15) (d := 66) (v := ?vB15) (listed' := #[true, true, true, true, true, true, true, false, true, true, false, true, true, false, false, true, false, false, false, false]) rfl (by kernel_rfl) (by kernel_rfl) (by kernel_rfl) rfl (by rfl) (by kernel_rfl) K0 ?hB15 ?rB15
      case hB15 =>
        intro w' hSw
        obtain ⟨k0, k1⟩ := hSw
        go_simp
        try with_reducible rfl
      simp only [List.setIfInBounds_toArray, List.set_cons_zero, List.set_cons_succ]
      refine hold_take (i := 16) (d := 67) (v := ?vB16) (listed' := #[true, true, true, true, true, true, true, false, true, true, false, true, true, false, false, true, true, false, false, false]) rfl (by kernel_rfl) (by kernel_rfl) (by kernel_rfl) rfl (by rfl) (by kernel_rfl) K0 ?hB16 ?rB16
      case hB16 =>
        intro w' hSw
        obtain ⟨k0, k1⟩ := hSw
        go_simp
        try with_reducible rfl
      simp only [List.setIfInBounds_toArray, List.set_cons_zero, List.set_cons_succ]
      refine hold_call (i := 7) (d := 58) (listed' := #[true, true, true, true, true, true, true, true, true, true, false, true, true, false, false, true, true, false, false, false]) rfl (by kernel_rfl) rfl (by rfl) (by kernel_rfl) ?heB7 (NotOf_any (nc := nc) (x := (a : Int)) Hd.out.log) ?hcB7
      case heB7 => go_simp
      rintro e y1 ⟨rfl, bb1⟩
      rw [HNa.out]
      have G1 := Lib.hid (Hd.out.step bb1)
      have K1 : (fun w' => w'.cell? ⟨w4.heap.size, 0, none⟩ = some (.slice ua m.n l.cap) ∧ w'.cell? ⟨w4.heap.size, 1, none⟩ = some (.slice na m.n nc)) y1 := ⟨G1.out.box.c0, G1.out.box.c1⟩
      clear K0 bb1
      refine ⟨_, rfl, K1, ?_⟩
      simp only [List.setIfInBounds_toArray, List.set_cons_zero, List.set_cons_succ]
      refine hold_call (i := 10) (d := 61) (listed' := #[true, true, true, true, true, true, true, true, true, true, true, true, true, false, false, true, true, false, false, false]) rfl (by kernel_rfl) rfl (by rfl) (by kernel_rfl) ?heB10 (NotOf_any (nc := nc) (x := (b' : Int)) G1.out.log) ?hcB10
      case heB10 => go_simp
      rintro e y2 ⟨rfl, bb2⟩
      rw [HNb.out]
      have G2 := Lib.hid (G1.out.step bb2)
      have K2 : (fun w' => w'.cell? ⟨w4.heap.size, 0, none⟩ = some (.slice ua m.n l.cap) ∧ w'.cell? ⟨w4.heap.size, 1, none⟩ = some (.slice na m.n nc)) y2 := ⟨G2.out.box.c0, G2.out.box.c1⟩
      clear K1 bb2
      refine ⟨_, rfl, K2, ?_⟩
      simp only [List.setIfInBounds_toArray, List.set_cons_zero, List.set_cons_succ]
      refine hold_call (i := 13) (d := 64) (listed' := #[true, true, true, true, true, true, true, true, true, true, true, true, true, true, false, true, true, false, false, false]) rfl (by kernel_rfl) rfl (by rfl) (by kernel_rfl) ?heB13 (NotOf_any (nc := nc) (x := (d : Int)) G2.out.log) ?hcB13
      case heB13 => go_simp
      rintro e y3 ⟨rfl, bb3⟩
      rw [HNd.out]
      have G3 := Lib.hid (G2.out.step bb3)
      have K3 : (fun w' => w'.cell? ⟨w4.heap.size, 0, none⟩ = some (.slice ua m.n l.cap) ∧ w'.cell? ⟨w4.heap.size, 1, none⟩ = some (.slice na m.n nc)) y3 := ⟨G3.out.box.c0, G3.out.box.c1⟩
      clear K2 bb3
      refine ⟨_, rfl, K3, ?_⟩
      simp only [List.setIfInBounds_toArray, List.set_cons_zero, List.set_cons_succ]
      refine hold_call (i := 14) (d := 65) (listed' := #[true, true, true, true, true, true, true, true, true, true, true, true, true, true, true, true, true, false, false, false]) rfl (by kernel_rfl) rfl (by rfl) (by kernel_rfl) ?heB14 (ValueOf_any (nc := nc) (x := (((zz a).toNat : Nat) : Int)) (v := (((zz b').toNat : Nat) : Int)) (t := (((zz d).toNat : Nat) : Int)) G3.out.log D (by omega)) ?hcB14
      case heB14 => go_simp
      rintro e y4 ⟨rfl, bb4⟩
      rw [HVD.out]
      have G4 := Lib.hid (G3.out.step bb4)
      have K4 : (fun w' => w'.cell? ⟨w4.heap.size, 0, none⟩ = some (.slice ua m.n l.cap) ∧ w'.cell? ⟨w4.heap.size, 1, none⟩ = some (.slice na m.n nc)) y4 := ⟨G4.out.box.c0, G4.out.box.c1⟩
      clear K3 bb4
      refine ⟨_, rfl, K4, ?_⟩
      simp only [List.setIfInBounds_toArray, List.set_cons_zero, List.set_cons_succ]
      refine hold_call (i := 17) (d := 68) (listed' := #[true, true, true, true, true, true, true, true, true, true, true, true, true, true, true, true, true, true, false, false]) rfl (by kernel_rfl) rfl (by rfl) (by kernel_rfl) ?heB17 (NotOf_any (nc := nc) (x := (v0 : Int)) G4.out.log) ?hcB17
      case heB17 => go_simp
      rintro e y5 ⟨rfl, bb5⟩
      rw [HNV.out]
      have G5 := Lib.hid (G4.out.step bb5)
      have K5 : (fun w' => w'.cell? ⟨w4.heap.size, 0, none⟩ = some (.slice ua m.n l.cap) ∧ w'.cell? ⟨w4.heap.size, 1, none⟩ = some (.slice na m.n nc)) y5 := ⟨G5.out.box.c0, G5.out.box.c1⟩
      clear K4 bb5
      refine ⟨_, rfl, K5, ?_⟩
      simp only [List.setIfInBounds_toArray, List.set_cons_zero, List.set_cons_succ]
      refine hold_take (i := 18) (d := 69) (v := .bool false) (listed' := #[true, true, true, true, true, true, true, true, true, true, true, true, true, true, true, true, true, true, true, false]) rfl (by kernel_rfl) (by kernel_rfl) (by kernel_rfl) rfl (by rfl) (by kernel_rfl) K5 ?hB18 ?rB18
      case hB18 =>
        intro w' hSw
        obtain ⟨k0, k1⟩ := hSw
        go_simp
        first | done | with_reducible rfl | (simp; done)
      simp only [List.setIfInBounds_toArray, List.set_cons_zero, List.set_cons_succ]
      refine hold_take (i := 19) (d := 70) (v := ?vB19) (listed' := #[true, true, true, true, true, true, true, true, true, true, true, true, true, true, true, true, true, true, true, true]) rfl (by kernel_rfl) (by kernel_rfl) (by kernel_rfl) rfl (by rfl) (by kernel_rfl) K5 ?hB19 ?rB19
      case hB19 =>
        intro w' hSw
        obtain ⟨k0, k1⟩ := hSw
        go_simp
        try with_reducible rfl
      simp only [List.setIfInBounds_toArray, List.set_cons_zero, List.set_cons_succ]
      refine hold_done (by kernel_rfl) ?_ _
      have BG := B3.trans (G5.out.old.mono B3.size)
      go_wp2_with fail
      go_at_call 21
      refine (DualOf_any D _ hDs).mono ?_
      rintro e w7 ⟨rfl, b7⟩
      have B7 := BG.trans (b7.mono BG.size)
      rw [HDD.out]
      go_wp2_with fail
      go_at_call 12
      refine (FormulaOk_any D _ (by omega)).mono ?_
      rintro e w8 ⟨rfl, b8⟩
      have B8 := B7.trans (b8.mono B7.size)
      rw [HDF.out]
      go_wp2_with fail
      go_at_call 14
      refine (alive_any _).mono ?_
      rintro e w9 ⟨rfl, b9⟩
      have B9 := B8.trans (b9.mono B8.size)
      go_wp2_with fail
      go_ret
      exact ⟨rfl, B9⟩
end Go.Proofs.Ytjmhhjdkemicbaa
