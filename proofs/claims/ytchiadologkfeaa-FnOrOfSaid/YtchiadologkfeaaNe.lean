/- The law on OrOf, walked at whatever code. -/
import Derived.Test.YtchiadologkfeaaNc
namespace Go.Proofs.Ytchiadologkfeaa
open Go.RowKit Go.Deep

set_option maxRecDepth 100000 in
set_option maxHeartbeats 4000000 in
theorem law_OrOf {A : Option Addr} {b o n cap : Nat} {z : Nat → Nat} {w : World} (h : CodeAt w A b o n cap z) :
    Calls Try.prog 5 #[.slice A n cap] w fun e w' => e = .returned (.bool true) ∧ Below w.heap.size w w' := by
  have hn := h.hn
  have hc := h.hc
  by_cases hbig : 1048576 < n
  · have hbig' : (1048576 : Int) < n := by omega
    clear h
    go_enter Try.func5, Try.ntmps5
    go_wp2_with fail
    go_ret
    exact ⟨rfl, Below.refl _ _⟩
  · have hbig' : ¬ (1048576 : Int) < n := by omega
    go_enter Try.func5, Try.ntmps5
    go_wp2_with fail
    go_at_call 19
    refine (draw_OrOf h).mono ?_
    rintro e w1 ⟨ua, l, m, na, g, o2, k, nc, zz, x, y, rfl, hF⟩
    have H1 := Held.start hF nc
    clear h hF
    have q0 := H1.box.c0
    have q1 := H1.box.c1
    go_wp2_with fail
    go_at_call 18
    refine (OrOf_any H1.log).mono ?_
    rintro e w2 ⟨rfl, b2⟩
    have H2 := H1.step b2
    clear H1 q0 q1 b2
    have q0 := H2.box.c0
    have q1 := H2.box.c1
    go_wp2_with fail
    go_at_call 20
    refine (spec_OrOf H2.log).mono ?_
    rintro e w3 ⟨rfl, b3⟩
    have H3 := H2.step b3
    clear H2 q0 q1 b3
    have q0 := H3.box.c0
    have q1 := H3.box.c1
    cases hl : (logicB m k zz && goodB m.n 2 (two x y)) with
    | false =>
      have e : orV m k zz x y = -1 := by unfold orV; rw [hl]; rfl
      rw [e]
      clear e hl
      go_wp2_with fail
      go_at_call 13
      refine (alive_any _).mono ?_
      rintro e w4 ⟨rfl, b4⟩
      have H4 := H3.step b4
      go_wp2_with fail
      go_ret
      exact ⟨rfl, H4.old⟩
    | true =>
      rw [Bool.and_eq_true] at hl
      obtain ⟨hl, hg⟩ := hl
      obtain ⟨a, b, rfl, rfl, ha, hb⟩ := good2 hg
      obtain ⟨y, o3, hO⟩ := (logicB_is hl).ortho
      obtain ⟨c, hc1, hcm⟩ := hO.joins ha hb
      rw [hO.orV hl ha hb, hcm]
      have hla := hO.lt a ha
      have hlb := hO.lt b hb
      have N1 : Hid (notV m k zz (c : Int) = (y c : Int)) := hO.notV hl hc1
      have N2 : Hid (notV m k zz (a : Int) = (y a : Int)) := hO.notV hl ha
      have N3 : Hid (notV m k zz (b : Int) = (y b : Int)) := hO.notV hl hb
      have N4 : Hid (andV m k zz ((y a : Nat) : Int) ((y b : Nat) : Int) = (y c : Int)) := by show _ = _; rw [hO.andV hl hla hlb, hO.join_not ha hb hcm]
      have N5 : Hid (orV m k zz (a : Int) ((y a : Nat) : Int) = (y o3 : Int)) := by show _ = _; rw [hO.orV hl ha hla, hO.join_own ha]
      have N6 : Hid (yesV m k zz = (y o3 : Int)) := hO.yesV hl
      clear hl hg hO hcm hla hlb hc1 ha hb
      go_wp2_with fail
      have Hd0 := Lib.hid (H3.step (Below.refl _ w3).drew)
      have K0 := (show _ ∧ _ from ⟨Hd0.out.box.c0, Hd0.out.box.c1⟩)
      clear H3 q0 q1
      refine region_plain (fuel := 24) (listed := #[false, false, false, false, false, false, false, false, false, false, false, false, false, false, false, false, false, false, false, false, false, false, false, false]) (fun w' => w'.cell? ⟨w1.heap.size, 0, none⟩ = some (.slice ua m.n l.cap) ∧ w'.cell? ⟨w1.heap.size, 1, none⟩ = some (.slice na k nc)) (by kernel_rfl) (by kernel_rfl) (by kernel_rfl) ?_
      refine hold_take (i := 0) (d := 33) (v := ?vA0) (listed' := #[true, false, false, false, false, false, false, false, false, false, false, false, false, false, false, false, false, false, false, false, false, false, false, false]) rfl (by kernel_rfl) (by kernel_rfl) (by kernel_rfl) rfl (by rfl) (by kernel_rfl) K0 ?hA0 ?rA0
      case hA0 =>
        intro w' hSw
        obtain ⟨k0, k1⟩ := hSw
        go_simp
        try with_reducible rfl
      simp only [List.setIfInBounds_toArray, List.set_cons_zero, List.set_cons_succ]
      refine hold_take (i := 1) (d := 34) (v := ?vA1) (listed' := #[true, true, false, false, false, false, false, false, false, false, false, false, false, false, false, false, false, false, false, false, false, false, false, false]) rfl (by kernel_rfl) (by kernel_rfl) (by kernel_rfl) rfl (by rfl) (by kernel_rfl) K0 ?hA1 ?rA1
      case hA1 =>
        intro w' hSw
        obtain ⟨k0, k1⟩ := hSw
        go_simp
        try with_reducible rfl
      simp only [List.setIfInBounds_toArray, List.set_cons_zero, List.set_cons_succ]
      refine hold_take (i := 3) (d := 36) (v := ?vA3) (listed' := #[true, true, false, true, false, false, false, false, false, false, false, false, false, false, false, false, false, false, false, false, false, false, false, false]) rfl (by kernel_rfl) (by kernel_rfl) (by kernel_rfl) rfl (by rfl) (by kernel_rfl) K0 ?hA3 ?rA3
      case hA3 =>
        intro w' hSw
        obtain ⟨k0, k1⟩ := hSw
        go_simp
        try with_reducible rfl
      simp only [List.setIfInBounds_toArray, List.set_cons_zero, List.set_cons_succ]
      refine hold_take (i := 4) (d := 37) (v := ?vA4) (listed' := #[true, true, false, true, true, false, false, false, false, false, false, false, false, false, false, false, false, false, false, false, false, false, false, false]) rfl (by kernel_rfl) (by kernel_rfl) (by kernel_rfl) rfl (by rfl) (by kernel_rfl) K0 ?hA4 ?rA4
      case hA4 =>
        intro w' hSw
        obtain ⟨k0, k1⟩ := hSw
        go_simp
        try with_reducible rfl
      simp only [List.setIfInBounds_toArray, List.set_cons_zero, List.set_cons_succ]
      refine hold_take (i := 5) (d := 38) (v := ?vA5) (listed' := #[true, true, false, true, true, true, false, false, false, false, false, false, false, false, false, false, false, false, false, false, false, false, false, false]) rfl (by kernel_rfl) (by kernel_rfl) (by kernel_rfl) rfl (by rfl) (by kernel_rfl) K0 ?hA5 ?rA5
      case hA5 =>
        intro w' hSw
        obtain ⟨k0, k1⟩ := hSw
        go_simp
        try with_reducible rfl
      simp only [List.setIfInBounds_toArray, List.set_cons_zero, List.set_cons_succ]
      refine hold_take (i := 7) (d := 40) (v := ?vA7) (listed' := #[true, true, false, true, true, true, false, true, false, false, false, false, false, false, false, false, false, false, false, false, false, false, false, false]) rfl (by kernel_rfl) (by kernel_rfl) (by kernel_rfl) rfl (by rfl) (by kernel_rfl) K0 ?hA7 ?rA7
      case hA7 =>
        intro w' hSw
        obtain ⟨k0, k1⟩ := hSw
        go_simp
        try with_reducible rfl
      simp only [List.setIfInBounds_toArray, List.set_cons_zero, List.set_cons_succ]
      refine hold_take (i := 8) (d := 41) (v := ?vA8) (listed' := #[true, true, false, true, true, true, false, true, true, false, false, false, false, false, false, false, false, false, false, false, false, false, false, false]) rfl (by kernel_rfl) (by kernel_rfl) (by kernel_rfl) rfl (by rfl) (by kernel_rfl) K0 ?hA8 ?rA8
      case hA8 =>
        intro w' hSw
        obtain ⟨k0, k1⟩ := hSw
        go_simp
        try with_reducible rfl
      simp only [List.setIfInBounds_toArray, List.set_cons_zero, List.set_cons_succ]
      refine hold_call (i := 2) (d := 35) (listed' := #[true, true, true, true, true, true, false, true, true, false, false, false, false, false, false, false, false, false, false, false, false, false, false, false]) rfl (by kernel_rfl) rfl (by rfl) (by kernel_rfl) ?heA2 (NotOf_any (nc := nc) (x := (c : Int)) Hd0.out.log) ?hcA2
      case heA2 => go_simp
      rintro e x1 ⟨rfl, bb1⟩
      rw [N1.out]
      have Hd1 := Lib.hid (Hd0.out.step bb1)
      have K1 := (show _ ∧ _ from ⟨Hd1.out.box.c0, Hd1.out.box.c1⟩)
      clear Hd0 K0 bb1
      refine ⟨_, rfl, K1, ?_⟩
      simp only [List.setIfInBounds_toArray, List.set_cons_zero, List.set_cons_succ]
      refine hold_call (i := 6) (d := 39) (listed' := #[true, true, true, true, true, true, true, true, true, false, false, false, false, false, false, false, false, false, false, false, false, false, false, false]) rfl (by kernel_rfl) rfl (by rfl) (by kernel_rfl) ?heA6 (NotOf_any (nc := nc) (x := (a : Int)) Hd1.out.log) ?hcA6
      case heA6 => go_simp
      rintro e x2 ⟨rfl, bb2⟩
      rw [N2.out]
      have Hd2 := Lib.hid (Hd1.out.step bb2)
      have K2 := (show _ ∧ _ from ⟨Hd2.out.box.c0, Hd2.out.box.c1⟩)
      clear Hd1 K1 bb2
      refine ⟨_, rfl, K2, ?_⟩
      simp only [List.setIfInBounds_toArray, List.set_cons_zero, List.set_cons_succ]
      refine hold_call (i := 9) (d := 42) (listed' := #[true, true, true, true, true, true, true, true, true, true, false, false, false, false, false, false, false, false, false, false, false, false, false, false]) rfl (by kernel_rfl) rfl (by rfl) (by kernel_rfl) ?heA9 (NotOf_any (nc := nc) (x := (b : Int)) Hd2.out.log) ?hcA9
      case heA9 => go_simp
      rintro e x3 ⟨rfl, bb3⟩
      rw [N3.out]
      have Hd3 := Lib.hid (Hd2.out.step bb3)
      have K3 := (show _ ∧ _ from ⟨Hd3.out.box.c0, Hd3.out.box.c1⟩)
      clear Hd2 K2 bb3
      refine ⟨_, rfl, K3, ?_⟩
      simp only [List.setIfInBounds_toArray, List.set_cons_zero, List.set_cons_succ]
      refine hold_call (i := 10) (d := 43) (listed' := #[true, true, true, true, true, true, true, true, true, true, true, false, false, false, false, false, false, false, false, false, false, false, false, false]) rfl (by kernel_rfl) rfl (by rfl) (by kernel_rfl) ?heA10 (AndOf_any (nc := nc) (x := ((y a : Nat) : Int)) (y := ((y b : Nat) : Int)) Hd3.out.log) ?hcA10
      case heA10 => go_simp
      rintro e x4 ⟨rfl, bb4⟩
      rw [N4.out]
      have Hd4 := Lib.hid (Hd3.out.step bb4)
      have K4 := (show _ ∧ _ from ⟨Hd4.out.box.c0, Hd4.out.box.c1⟩)
      clear Hd3 K3 bb4
      refine ⟨_, rfl, K4, ?_⟩
      simp only [List.setIfInBounds_toArray, List.set_cons_zero, List.set_cons_succ]
      refine hold_take (i := 11) (d := 44) (v := ?vA11) (listed' := #[true, true, true, true, true, true, true, true, true, true, true, true, false, false, false, false, false, false, false, false, false, false, false, false]) rfl (by kernel_rfl) (by kernel_rfl) (by kernel_rfl) rfl (by rfl) (by kernel_rfl) K4 ?hA11 ?rA11
      case hA11 =>
        intro w' hSw
        obtain ⟨k0, k1⟩ := hSw
        go_simp
        try with_reducible rfl
      simp only [List.setIfInBounds_toArray, List.set_cons_zero, List.set_cons_succ]
      refine hold_take (i := 12) (d := 45) (v := ?vA12) (listed' := #[true, true, true, true, true, true, true, true, true, true, true, true, true, false, false, false, false, false, false, false, false, false, false, false]) rfl (by kernel_rfl) (by kernel_rfl) (by kernel_rfl) rfl (by rfl) (by kernel_rfl) K4 ?hA12 ?rA12
      case hA12 =>
        intro w' hSw
        obtain ⟨k0, k1⟩ := hSw
        go_simp
        try with_reducible rfl
      simp only [List.setIfInBounds_toArray, List.set_cons_zero, List.set_cons_succ]
      refine hold_take (i := 13) (d := 46) (v := ?vA13) (listed' := #[true, true, true, true, true, true, true, true, true, true, true, true, true, true, false, false, false, false, false, false, false, false, false, false]) rfl (by kernel_rfl) (by kernel_rfl) (by kernel_rfl) rfl (by rfl) (by kernel_rfl) K4 ?hA13 ?rA13
      case hA13 =>
        intro w' hSw
        obtain ⟨k0, k1⟩ := hSw
        go_simp
        try with_reducible rfl
      simp only [List.setIfInBounds_toArray, List.set_cons_zero, List.set_cons_succ]
      refine hold_take (i := 14) (d := 47) (v := ?vA14) (listed' := #[true, true, true, true, true, true, true, true, true, true, true, true, true, true, true, false, false, false, false, false, false, false, false, false]) rfl (by kernel_rfl) (by kernel_rfl) (by kernel_rfl) rfl (by rfl) (by kernel_rfl) K4 ?hA14 ?rA14
      case hA14 =>
        intro w' hSw
        obtain ⟨k0, k1⟩ := hSw
        go_simp
        try with_reducible rfl
      simp only [List.setIfInBounds_toArray, List.set_cons_zero, List.set_cons_succ]
      refine hold_take (i := 15) (d := 48) (v := ?vA15) (listed' := #[true, true, true, true, true, true, true, true, true, true, true, true, true, true, true, true, false, false, false, false, false, false, false, false]) rfl (by kernel_rfl) (by kernel_rfl) (by kernel_rfl) rfl (by rfl) (by kernel_rfl) K4 ?hA15 ?rA15
      case hA15 =>
        intro w' hSw
        obtain ⟨k0, k1⟩ := hSw
        go_simp
        try with_reducible rfl
      simp only [List.setIfInBounds_toArray, List.set_cons_zero, List.set_cons_succ]
      refine hold_take (i := 16) (d := 49) (v := ?vA16) (listed' := #[true, true, true, true, true, true, true, true, true, true, true, true, true, true, true, true, true, false, false, false, false, false, false, false]) rfl (by kernel_rfl) (by kernel_rfl) (by kernel_rfl) rfl (by rfl) (by kernel_rfl) K4 ?hA16 ?rA16
      case hA16 =>
        intro w' hSw
        obtain ⟨k0, k1⟩ := hSw
        go_simp
        try with_reducible rfl
      simp only [List.setIfInBounds_toArray, List.set_cons_zero, List.set_cons_succ]
      refine hold_take (i := 19) (d := 52) (v := ?vA19) (listed' := #[true, true, true, true, true, true, true, true, true, true, true, true, true, true, true, true, true, false, false, true, false, false, false, false]) rfl (by kernel_rfl) (by kernel_rfl) (by kernel_rfl) rfl (by rfl) (by kernel_rfl) K4 ?hA19 ?rA19
      case hA19 =>
        intro w' hSw
        obtain ⟨k0, k1⟩ := hSw
        go_simp
        try with_reducible rfl
      simp only [List.setIfInBounds_toArray, List.set_cons_zero, List.set_cons_succ]
      refine hold_call (i := 17) (d := 50) (listed' := #[true, true, true, true, true, true, true, true, true, true, true, true, true, true, true, true, true, true, false, true, false, false, false, false]) rfl (by kernel_rfl) rfl (by rfl) (by kernel_rfl) ?heA17 (NotOf_any (nc := nc) (x := (a : Int)) Hd4.out.log) ?hcA17
      case heA17 => go_simp
      rintro e x5 ⟨rfl, bb5⟩
      rw [N2.out]
      have Hd5 := Lib.hid (Hd4.out.step bb5)
      have K5 := (show _ ∧ _ from ⟨Hd5.out.box.c0, Hd5.out.box.c1⟩)
      clear Hd4 K4 bb5
      refine ⟨_, rfl, K5, ?_⟩
      simp only [List.setIfInBounds_toArray, List.set_cons_zero, List.set_cons_succ]
      refine hold_call (i := 18) (d := 51) (listed' := #[true, true, true, true, true, true, true, true, true, true, true, true, true, true, true, true, true, true, true, true, false, false, false, false]) rfl (by kernel_rfl) rfl (by rfl) (by kernel_rfl) ?heA18 (OrOf_any (nc := nc) (x := (a : Int)) (y := ((y a : Nat) : Int)) Hd5.out.log) ?hcA18
      case heA18 => go_simp
      rintro e x6 ⟨rfl, bb6⟩
      rw [N5.out]
      have Hd6 := Lib.hid (Hd5.out.step bb6)
      have K6 := (show _ ∧ _ from ⟨Hd6.out.box.c0, Hd6.out.box.c1⟩)
      clear Hd5 K5 bb6
      refine ⟨_, rfl, K6, ?_⟩
      simp only [List.setIfInBounds_toArray, List.set_cons_zero, List.set_cons_succ]
      refine hold_call (i := 20) (d := 53) (listed' := #[true, true, true, true, true, true, true, true, true, true, true, true, true, true, true, true, true, true, true, true, true, false, false, false]) rfl (by kernel_rfl) rfl (by rfl) (by kernel_rfl) ?heA20 (YesOf_any (nc := nc) Hd6.out.log) ?hcA20
      case heA20 => go_simp
      rintro e x7 ⟨rfl, bb7⟩
      rw [N6.out]
      have Hd7 := Lib.hid (Hd6.out.step bb7)
      have K7 := (show _ ∧ _ from ⟨Hd7.out.box.c0, Hd7.out.box.c1⟩)
      clear Hd6 K6 bb7
      refine ⟨_, rfl, K7, ?_⟩
      simp only [List.setIfInBounds_toArray, List.set_cons_zero, List.set_cons_succ]
      refine hold_take (i := 21) (d := 54) (v := ?vA21) (listed' := #[true, true, true, true, true, true, true, true, true, true, true, true, true, true, true, true, true, true, true, true, true, true, false, false]) rfl (by kernel_rfl) (by kernel_rfl) (by kernel_rfl) rfl (by rfl) (by kernel_rfl) K7 ?hA21 ?rA21
      case hA21 =>
        intro w' hSw
        obtain ⟨k0, k1⟩ := hSw
        go_simp
        try with_reducible rfl
      simp only [List.setIfInBounds_toArray, List.set_cons_zero, List.set_cons_succ]
      refine hold_take (i := 22) (d := 55) (v := ?vA22) (listed' := #[true, true, true, true, true, true, true, true, true, true, true, true, true, true, true, true, true, true, true, true, true, true, true, false]) rfl (by kernel_rfl) (by kernel_rfl) (by kernel_rfl) rfl (by rfl) (by kernel_rfl) K7 ?hA22 ?rA22
      case hA22 =>
        intro w' hSw
        obtain ⟨k0, k1⟩ := hSw
        go_simp
        try with_reducible rfl
      simp only [List.setIfInBounds_toArray, List.set_cons_zero, List.set_cons_succ]
      refine hold_take (i := 23) (d := 2) (v := ?vA23) (listed' := #[true, true, true, true, true, true, true, true, true, true, true, true, true, true, true, true, true, true, true, true, true, true, true, true]) rfl (by kernel_rfl) (by kernel_rfl) (by kernel_rfl) rfl (by rfl) (by kernel_rfl) K7 ?hA23 ?rA23
      case hA23 =>
        intro w' hSw
        obtain ⟨k0, k1⟩ := hSw
        go_simp
        try with_reducible rfl
      simp only [List.setIfInBounds_toArray, List.set_cons_zero, List.set_cons_succ]
      refine hold_done (by kernel_rfl) ?_ _
      go_wp2_with fail
      go_ret
      exact ⟨rfl, Hd7.out.old⟩
end Go.Proofs.Ytchiadologkfeaa
