/- The law on WithOk, walked at whatever code. -/
import Derived.Test.YtijcacibofpnpaaBg
import Derived.Test.YtijcacibofpnpaaAc
namespace Go.Proofs.Ytijcacibofpnpaa
open Go.RowKit Go.Deep

set_option maxRecDepth 100000 in
set_option maxHeartbeats 4000000 in
theorem law_WithOk {A : Option Addr} {b o n cap : Nat} {z : Nat → Nat} {w : World} (h : CodeAt w A b o n cap z) :
    Calls Try.prog 3 #[.slice A n cap] w fun e w' => e = .returned (.bool true) ∧ Below w.heap.size w w' := by
  have hn := h.hn
  have hc := h.hc
  by_cases hbig : 1048576 < n
  · have hbig' : (1048576 : Int) < n := by omega
    clear h
    go_enter Try.func3, Try.ntmps3
    go_wp2_with fail
    go_ret
    exact ⟨rfl, Below.refl _ _⟩
  · have hbig' : ¬ (1048576 : Int) < n := by omega
    go_enter Try.func3, Try.ntmps3
    go_wp2_with fail
    go_at_call 12
    refine (draw_WithOk h).mono ?_
    rintro e w1 ⟨ua, l, m, na, g, o2, k, nc, zz, x, y, rfl, hF⟩
    have H1 := Held.start hF nc
    clear h hF
    have q0 := H1.box.c0
    have q1 := H1.box.c1
    go_wp2_with fail
    go_at_call 13
    refine (WithOk_any H1.log).mono ?_
    rintro e w2 ⟨rfl, b2⟩
    have H2 := H1.step b2
    clear H1 q0 q1 b2
    have q0 := H2.box.c0
    have q1 := H2.box.c1
    go_wp2_with fail
    go_at_call 14
    refine (spec_WithOk H2.log).mono ?_
    rintro e w3 ⟨rfl, b3⟩
    have H3 := H2.step b3
    clear H2 q0 q1 b3
    have q0 := H3.box.c0
    have q1 := H3.box.c1
    cases hl : (logicB m k zz && goodB m.n 2 (two x y)) with
    | false =>
      have e : andV m k zz x y = -1 := by unfold andV; rw [hl]; rfl
      have e2 : withV m k zz x y = false := by unfold withV; rw [hl]; rfl
      have HE := Lib.hid e
      rw [e2]
      clear e e2 hl
      go_wp2_with fail
      go_at_call 15
      refine (spec_AndOf H3.log).mono ?_
      rintro e w4 ⟨rfl, b4⟩
      rw [HE.out]
      have H4 := H3.step b4
      clear H3 q0 q1 b4
      have q0 := H4.box.c0
      have q1 := H4.box.c1
      clear q0 q1
      go_wp2_with fail
      go_at_call 16
      refine (alive_any _).mono ?_
      rintro e w5 ⟨rfl, b5⟩
      have H5 := H4.step b5
      go_wp2_with fail
      go_ret
      exact ⟨rfl, H5.old⟩
    | true =>
      rw [Bool.and_eq_true] at hl
      obtain ⟨hl, hg⟩ := hl
      obtain ⟨a, b, rfl, rfl, ha, hb⟩ := good2 hg
      obtain ⟨y, o3, hO⟩ := (logicB_is hl).ortho
      obtain ⟨c, hc1, hcm⟩ := hO.meets ha hb
      have hla := hO.lt a ha
      have hlb := hO.lt b hb
      obtain ⟨f1, f2, f3, f4, f5, f6⟩ := hO.ag_facts ha hb
      rw [hO.withV hl ha hb]
      have N0 : Hid (andV m k zz (a : Int) (b : Int) = (c : Int)) := by show _ = _; rw [hO.andV hl ha hb, hcm]
      have NA : Hid (notV m k zz (a : Int) = (y a : Int)) := hO.notV hl ha
      have NB : Hid (notV m k zz (b : Int) = (y b : Int)) := hO.notV hl hb
      have NO : Hid (noV m k zz = (o3 : Int)) := hO.noV hl
      have NY : Hid (yesV m k zz = ((y o3 : Nat) : Int)) := hO.yesV hl
      have P1 : Hid (withV m k zz (a : Int) (a : Int) = true) := (hO.withV hl ha ha).trans f1
      have P2 : Hid (withV m k zz (a : Int) ((y a : Nat) : Int) = true) := (hO.withV hl ha hla).trans f2
      have P3 : Hid (withV m k zz (a : Int) (o3 : Int) = true) := (hO.withV hl ha hO.ho).trans f3
      have P4 : Hid (withV m k zz (a : Int) ((y o3 : Nat) : Int) = true) := (hO.withV hl ha (hO.lt o3 hO.ho)).trans f4
      have P6 : withV m k zz (a : Int) ((y b : Nat) : Int) = agB m y a b := (hO.withV hl ha hlb).trans f6
      have HS := Lib.hid hO.lat.order.sq
      obtain ⟨e0, _, _⟩ := H3.log.mat.sq HS.out ha hb
      obtain rfl := e0
      have ha' : (a : Int) < m.n := by omega
      have hb' : (b : Int) < m.n := by omega
      clear hl hg hO hcm hla hlb hc1 f1 f2 f3 f4 f6
      rcases leB_cases HS.out ha hb with ⟨l1, z1⟩ | ⟨l1, z1⟩
      · have HZ := Lib.hid z1
        have hag : agB m y a b = true := f5 z1
        rw [hag]
        clear l1 z1 f5
        have Q6 : Hid (withV m k zz (a : Int) ((y b : Nat) : Int) = true) := by show _ = _; rw [P6, hag]
        clear P6 hag
        go_wp2_with fail
        go_at_call 15
        refine (spec_AndOf H3.log).mono ?_
        rintro e w4 ⟨rfl, b4⟩
        rw [N0.out]
        have H4 := H3.step b4
        clear H3 q0 q1 b4
        have q0 := H4.box.c0
        have q1 := H4.box.c1
        go_wp2_with fail
        have Hd0 := Lib.hid (H4.step (Below.refl _ w4).drew)
        have K0 := (show _ ∧ _ ∧ _ ∧ _ from ⟨Hd0.out.box.c0, Hd0.out.box.c1, (Hd0.out.log.mat.sq HS.out ha hb).2.1, (Hd0.out.log.mat.sq HS.out ha hb).2.2.trans (by rw [HZ.out])⟩)
        clear H4 q0 q1
        refine region_plain (fuel := 51) (listed := #[false, false, false, false, false, false, false, false, false, false, false, false, false, false, false, false, false, false, false, false, false, false, false, false, false, false, false, false, false, false, false, false, false, false, false, false, false, false, false, false, false, false, false, false, false, false, false, false, false, false, false]) (fun w' => w'.cell? ⟨w1.heap.size, 0, none⟩ = some (.slice (some ⟨l.b, l.o, none⟩) m.n l.cap) ∧ w'.cell? ⟨w1.heap.size, 1, none⟩ = some (.slice na k nc) ∧ w'.cell? ⟨l.b, l.o + a, none⟩ = some (.slice (some ⟨l.G a, l.O a, none⟩) m.n (l.C a)) ∧ w'.cell? ⟨l.G a, l.O a + b, none⟩ = some (.int .i64 1)) (by kernel_rfl) (by kernel_rfl) (by kernel_rfl) ?_
        refine hold_take (i := 0) (d := 36) (v := ?vA0) (listed' := #[true, false, false, false, false, false, false, false, false, false, false, false, false, false, false, false, false, false, false, false, false, false, false, false, false, false, false, false, false, false, false, false, false, false, false, false, false, false, false, false, false, false, false, false, false, false, false, false, false, false, false]) rfl (by kernel_rfl) (by kernel_rfl) (by kernel_rfl) rfl (by rfl) (by kernel_rfl) K0 ?hA0 ?rA0
        case hA0 =>
          intro w' hSw
          obtain ⟨k0, k1, k2, k3⟩ := hSw
          go_simp
          try with_reducible rfl
        simp only [List.setIfInBounds_toArray, List.set_cons_zero, List.set_cons_succ]
        refine hold_take (i := 1) (d := 37) (v := ?vA1) (listed' := #[true, true, false, false, false, false, false, false, false, false, false, false, false, false, false, false, false, false, false, false, false, false, false, false, false, false, false, false, false, false, false, false, false, false, false, false, false, false, false, false, false, false, false, false, false, false, false, false, false, false, false]) rfl (by kernel_rfl) (by kernel_rfl) (by kernel_rfl) rfl (by rfl) (by kernel_rfl) K0 ?hA1 ?rA1
        case hA1 =>
          intro w' hSw
          obtain ⟨k0, k1, k2, k3⟩ := hSw
          go_simp
          try with_reducible rfl
        simp only [List.setIfInBounds_toArray, List.set_cons_zero, List.set_cons_succ]
        refine hold_take (i := 2) (d := 38) (v := ?vA2) (listed' := #[true, true, true, false, false, false, false, false, false, false, false, false, false, false, false, false, false, false, false, false, false, false, false, false, false, false, false, false, false, false, false, false, false, false, false, false, false, false, false, false, false, false, false, false, false, false, false, false, false, false, false]) rfl (by kernel_rfl) (by kernel_rfl) (by kernel_rfl) rfl (by rfl) (by kernel_rfl) K0 ?hA2 ?rA2
        case hA2 =>
          intro w' hSw
          obtain ⟨k0, k1, k2, k3⟩ := hSw
          go_simp
          try with_reducible rfl
        simp only [List.setIfInBounds_toArray, List.set_cons_zero, List.set_cons_succ]
        refine hold_call (i := 3) (d := 39) (listed' := #[true, true, true, true, false, false, false, false, false, false, false, false, false, false, false, false, false, false, false, false, false, false, false, false, false, false, false, false, false, false, false, false, false, false, false, false, false, false, false, false, false, false, false, false, false, false, false, false, false, false, false]) rfl (by kernel_rfl) rfl (by rfl) (by kernel_rfl) ?heA3 (WithOk_any (nc := nc) (x := (a : Int)) (v := (a : Int)) Hd0.out.log) ?hcA3
        case heA3 => go_simp
        rintro e x1 ⟨rfl, bb1⟩
        rw [P1.out]
        have Hd1 := Lib.hid (Hd0.out.step bb1)
        have K1 := (show _ ∧ _ ∧ _ ∧ _ from ⟨Hd1.out.box.c0, Hd1.out.box.c1, (Hd1.out.log.mat.sq HS.out ha hb).2.1, (Hd1.out.log.mat.sq HS.out ha hb).2.2.trans (by rw [HZ.out])⟩)
        clear Hd0 K0 bb1
        refine ⟨_, rfl, K1, ?_⟩
        simp only [List.setIfInBounds_toArray, List.set_cons_zero, List.set_cons_succ]
        refine hold_take (i := 4) (d := 40) (v := ?vA4) (listed' := #[true, true, true, true, true, false, false, false, false, false, false, false, false, false, false, false, false, false, false, false, false, false, false, false, false, false, false, false, false, false, false, false, false, false, false, false, false, false, false, false, false, false, false, false, false, false, false, false, false, false, false]) rfl (by kernel_rfl) (by kernel_rfl) (by kernel_rfl) rfl (by rfl) (by kernel_rfl) K1 ?hA4 ?rA4
        case hA4 =>
          intro w' hSw
          obtain ⟨k0, k1, k2, k3⟩ := hSw
          go_simp
          try with_reducible rfl
        simp only [List.setIfInBounds_toArray, List.set_cons_zero, List.set_cons_succ]
        refine hold_take (i := 5) (d := 41) (v := ?vA5) (listed' := #[true, true, true, true, true, true, false, false, false, false, false, false, false, false, false, false, false, false, false, false, false, false, false, false, false, false, false, false, false, false, false, false, false, false, false, false, false, false, false, false, false, false, false, false, false, false, false, false, false, false, false]) rfl (by kernel_rfl) (by kernel_rfl) (by kernel_rfl) rfl (by rfl) (by kernel_rfl) K1 ?hA5 ?rA5
        case hA5 =>
          intro w' hSw
          obtain ⟨k0, k1, k2, k3⟩ := hSw
          go_simp
          try with_reducible rfl
        simp only [List.setIfInBounds_toArray, List.set_cons_zero, List.set_cons_succ]
        refine hold_take (i := 6) (d := 42) (v := ?vA6) (listed' := #[true, true, true, true, true, true, true, false, false, false, false, false, false, false, false, false, false, false, false, false, false, false, false, false, false, false, false, false, false, false, false, false, false, false, false, false, false, false, false, false, false, false, false, false, false, false, false, false, false, false, false]) rfl (by kernel_rfl) (by kernel_rfl) (by kernel_rfl) rfl (by rfl) (by kernel_rfl) K1 ?hA6 ?rA6
        case hA6 =>
          intro w' hSw
          obtain ⟨k0, k1, k2, k3⟩ := hSw
          go_simp
          try with_reducible rfl
        simp only [List.setIfInBounds_toArray, List.set_cons_zero, List.set_cons_succ]
        refine hold_take (i := 7) (d := 43) (v := ?vA7) (listed' := #[true, true, true, true, true, true, true, true, false, false, false, false, false, false, false, false, false, false, false, false, false, false, false, false, false, false, false, false, false, false, false, false, false, false, false, false, false, false, false, false, false, false, false, false, false, false, false, false, false, false, false]) rfl (by kernel_rfl) (by kernel_rfl) (by kernel_rfl) rfl (by rfl) (by kernel_rfl) K1 ?hA7 ?rA7
        case hA7 =>
          intro w' hSw
          obtain ⟨k0, k1, k2, k3⟩ := hSw
          go_simp
          try with_reducible rfl
        simp only [List.setIfInBounds_toArray, List.set_cons_zero, List.set_cons_succ]
        refine hold_take (i := 8) (d := 44) (v := ?vA8) (listed' := #[true, true, true, true, true, true, true, true, true, false, false, false, false, false, false, false, false, false, false, false, false, false, false, false, false, false, false, false, false, false, false, false, false, false, false, false, false, false, false, false, false, false, false, false, false, false, false, false, false, false, false]) rfl (by kernel_rfl) (by kernel_rfl) (by kernel_rfl) rfl (by rfl) (by kernel_rfl) K1 ?hA8 ?rA8
        case hA8 =>
          intro w' hSw
          obtain ⟨k0, k1, k2, k3⟩ := hSw
          go_simp
          try with_reducible rfl
        simp only [List.setIfInBounds_toArray, List.set_cons_zero, List.set_cons_succ]
        refine hold_call (i := 9) (d := 45) (listed' := #[true, true, true, true, true, true, true, true, true, true, false, false, false, false, false, false, false, false, false, false, false, false, false, false, false, false, false, false, false, false, false, false, false, false, false, false, false, false, false, false, false, false, false, false, false, false, false, false, false, false, false]) rfl (by kernel_rfl) rfl (by rfl) (by kernel_rfl) ?heA9 (NotOf_any (nc := nc) (x := (a : Int)) Hd1.out.log) ?hcA9
        case heA9 => go_simp
        rintro e x2 ⟨rfl, bb2⟩
        rw [NA.out]
        have Hd2 := Lib.hid (Hd1.out.step bb2)
        have K2 := (show _ ∧ _ ∧ _ ∧ _ from ⟨Hd2.out.box.c0, Hd2.out.box.c1, (Hd2.out.log.mat.sq HS.out ha hb).2.1, (Hd2.out.log.mat.sq HS.out ha hb).2.2.trans (by rw [HZ.out])⟩)
        clear Hd1 K1 bb2
        refine ⟨_, rfl, K2, ?_⟩
        simp only [List.setIfInBounds_toArray, List.set_cons_zero, List.set_cons_succ]
        refine hold_call (i := 10) (d := 46) (listed' := #[true, true, true, true, true, true, true, true, true, true, true, false, false, false, false, false, false, false, false, false, false, false, false, false, false, false, false, false, false, false, false, false, false, false, false, false, false, false, false, false, false, false, false, false, false, false, false, false, false, false, false]) rfl (by kernel_rfl) rfl (by rfl) (by kernel_rfl) ?heA10 (WithOk_any (nc := nc) (x := (a : Int)) (v := ((y a : Nat) : Int)) Hd2.out.log) ?hcA10
        case heA10 => go_simp
        rintro e x3 ⟨rfl, bb3⟩
        rw [P2.out]
        have Hd3 := Lib.hid (Hd2.out.step bb3)
        have K3 := (show _ ∧ _ ∧ _ ∧ _ from ⟨Hd3.out.box.c0, Hd3.out.box.c1, (Hd3.out.log.mat.sq HS.out ha hb).2.1, (Hd3.out.log.mat.sq HS.out ha hb).2.2.trans (by rw [HZ.out])⟩)
        clear Hd2 K2 bb3
        refine ⟨_, rfl, K3, ?_⟩
        simp only [List.setIfInBounds_toArray, List.set_cons_zero, List.set_cons_succ]
        refine hold_take (i := 11) (d := 47) (v := ?vA11) (listed' := #[true, true, true, true, true, true, true, true, true, true, true, true, false, false, false, false, false, false, false, false, false, false, false, false, false, false, false, false, false, false, false, false, false, false, false, false, false, false, false, false, false, false, false, false, false, false, false, false, false, false, false]) rfl (by kernel_rfl) (by kernel_rfl) (by kernel_rfl) rfl (by rfl) (by kernel_rfl) K3 ?hA11 ?rA11
        case hA11 =>
          intro w' hSw
          obtain ⟨k0, k1, k2, k3⟩ := hSw
          go_simp
          try with_reducible rfl
        simp only [List.setIfInBounds_toArray, List.set_cons_zero, List.set_cons_succ]
        refine hold_take (i := 12) (d := 48) (v := ?vA12) (listed' := #[true, true, true, true, true, true, true, true, true, true, true, true, true, false, false, false, false, false, false, false, false, false, false, false, false, false, false, false, false, false, false, false, false, false, false, false, false, false, false, false, false, false, false, false, false, false, false, false, false, false, false]) rfl (by kernel_rfl) (by kernel_rfl) (by kernel_rfl) rfl (by rfl) (by kernel_rfl) K3 ?hA12 ?rA12
        case hA12 =>
          intro w' hSw
          obtain ⟨k0, k1, k2, k3⟩ := hSw
          go_simp
          try with_reducible rfl
        simp only [List.setIfInBounds_toArray, List.set_cons_zero, List.set_cons_succ]
        refine hold_take (i := 13) (d := 49) (v := ?vA13) (listed' := #[true, true, true, true, true, true, true, true, true, true, true, true, true, true, false, false, false, false, false, false, false, false, false, false, false, false, false, false, false, false, false, false, false, false, false, false, false, false, false, false, false, false, false, false, false, false, false, false, false, false, false]) rfl (by kernel_rfl) (by kernel_rfl) (by kernel_rfl) rfl (by rfl) (by kernel_rfl) K3 ?hA13 ?rA13
        case hA13 =>
          intro w' hSw
          obtain ⟨k0, k1, k2, k3⟩ := hSw
          go_simp
          try with_reducible rfl
        simp only [List.setIfInBounds_toArray, List.set_cons_zero, List.set_cons_succ]
        refine hold_take (i := 14) (d := 50) (v := ?vA14) (listed' := #[true, true, true, true, true, true, true, true, true, true, true, true, true, true, true, false, false, false, false, false, false, false, false, false, false, false, false, false, false, false, false, false, false, false, false, false, false, false, false, false, false, false, false, false, false, false, false, false, false, false, false]) rfl (by kernel_rfl) (by kernel_rfl) (by kernel_rfl) rfl (by rfl) (by kernel_rfl) K3 ?hA14 ?rA14
        case hA14 =>
          intro w' hSw
          obtain ⟨k0, k1, k2, k3⟩ := hSw
          go_simp
          try with_reducible rfl
        simp only [List.setIfInBounds_toArray, List.set_cons_zero, List.set_cons_succ]
        refine hold_take (i := 15) (d := 51) (v := ?vA15) (listed' := #[true, true, true, true, true, true, true, true, true, true, true, true, true, true, true, true, false, false, false, false, false, false, false, false, false, false, false, false, false, false, false, false, false, false, false, false, false, false, false, false, false, false, false, false, false, false, false, false, false, false, false]) rfl (by kernel_rfl) (by kernel_rfl) (by kernel_rfl) rfl (by rfl) (by kernel_rfl) K3 ?hA15 ?rA15
        case hA15 =>
          intro w' hSw
          obtain ⟨k0, k1, k2, k3⟩ := hSw
          go_simp
          try with_reducible rfl
        simp only [List.setIfInBounds_toArray, List.set_cons_zero, List.set_cons_succ]
        refine hold_call (i := 16) (d := 52) (listed' := #[true, true, true, true, true, true, true, true, true, true, true, true, true, true, true, true, true, false, false, false, false, false, false, false, false, false, false, false, false, false, false, false, false, false, false, false, false, false, false, false, false, false, false, false, false, false, false, false, false, false, false]) rfl (by kernel_rfl) rfl (by rfl) (by kernel_rfl) ?heA16 (NoOf_any (nc := nc) Hd3.out.log) ?hcA16
        case heA16 => go_simp
        rintro e x4 ⟨rfl, bb4⟩
        rw [NO.out]
        have Hd4 := Lib.hid (Hd3.out.step bb4)
        have K4 := (show _ ∧ _ ∧ _ ∧ _ from ⟨Hd4.out.box.c0, Hd4.out.box.c1, (Hd4.out.log.mat.sq HS.out ha hb).2.1, (Hd4.out.log.mat.sq HS.out ha hb).2.2.trans (by rw [HZ.out])⟩)
        clear Hd3 K3 bb4
        refine ⟨_, rfl, K4, ?_⟩
        simp only [List.setIfInBounds_toArray, List.set_cons_zero, List.set_cons_succ]
        refine hold_call (i := 17) (d := 53) (listed' := #[true, true, true, true, true, true, true, true, true, true, true, true, true, true, true, true, true, true, false, false, false, false, false, false, false, false, false, false, false, false, false, false, false, false, false, false, false, false, false, false, false, false, false, false, false, false, false, false, false, false, false]) rfl (by kernel_rfl) rfl (by rfl) (by kernel_rfl) ?heA17 (WithOk_any (nc := nc) (x := (a : Int)) (v := (o3 : Int)) Hd4.out.log) ?hcA17
        case heA17 => go_simp
        rintro e x5 ⟨rfl, bb5⟩
        rw [P3.out]
        have Hd5 := Lib.hid (Hd4.out.step bb5)
        have K5 := (show _ ∧ _ ∧ _ ∧ _ from ⟨Hd5.out.box.c0, Hd5.out.box.c1, (Hd5.out.log.mat.sq HS.out ha hb).2.1, (Hd5.out.log.mat.sq HS.out ha hb).2.2.trans (by rw [HZ.out])⟩)
        clear Hd4 K4 bb5
        refine ⟨_, rfl, K5, ?_⟩
        simp only [List.setIfInBounds_toArray, List.set_cons_zero, List.set_cons_succ]
        refine hold_take (i := 18) (d := 54) (v := ?vA18) (listed' := #[true, true, true, true, true, true, true, true, true, true, true, true, true, true, true, true, true, true, true, false, false, false, false, false, false, false, false, false, false, false, false, false, false, false, false, false, false, false, false, false, false, false, false, false, false, false, false, false, false, false, false]) rfl (by kernel_rfl) (by kernel_rfl) (by kernel_rfl) rfl (by rfl) (by kernel_rfl) K5 ?hA18 ?rA18
        case hA18 =>
          intro w' hSw
          obtain ⟨k0, k1, k2, k3⟩ := hSw
          go_simp
          try with_reducible rfl
        simp only [List.setIfInBounds_toArray, List.set_cons_zero, List.set_cons_succ]
        refine hold_take (i := 19) (d := 55) (v := ?vA19) (listed' := #[true, true, true, true, true, true, true, true, true, true, true, true, true, true, true, true, true, true, true, true, false, false, false, false, false, false, false, false, false, false, false, false, false, false, false, false, false, false, false, false, false, false, false, false, false, false, false, false, false, false, false]) rfl (by kernel_rfl) (by kernel_rfl) (by kernel_rfl) rfl (by rfl) (by kernel_rfl) K5 ?hA19 ?rA19
        case hA19 =>
          intro w' hSw
          obtain ⟨k0, k1, k2, k3⟩ := hSw
          go_simp
          try with_reducible rfl
        simp only [List.setIfInBounds_toArray, List.set_cons_zero, List.set_cons_succ]
        refine hold_take (i := 20) (d := 56) (v := ?vA20) (listed' := #[true, true, true, true, true, true, true, true, true, true, true, true, true, true, true, true, true, true, true, true, true, false, false, false, false, false, false, false, false, false, false, false, false, false, false, false, false, false, false, false, false, false, false, false, false, false, false, false, false, false, false]) rfl (by kernel_rfl) (by kernel_rfl) (by kernel_rfl) rfl (by rfl) (by kernel_rfl) K5 ?hA20 ?rA20
        case hA20 =>
          intro w' hSw
          obtain ⟨k0, k1, k2, k3⟩ := hSw
          go_simp
          try with_reducible rfl
        simp only [List.setIfInBounds_toArray, List.set_cons_zero, List.set_cons_succ]
        refine hold_take (i := 21) (d := 57) (v := ?vA21) (listed' := #[true, true, true, true, true, true, true, true, true, true, true, true, true, true, true, true, true, true, true, true, true, true, false, false, false, false, false, false, false, false, false, false, false, false, false, false, false, false, false, false, false, false, false, false, false, false, false, false, false, false, false]) rfl (by kernel_rfl) (by kernel_rfl) (by kernel_rfl) rfl (by rfl) (by kernel_rfl) K5 ?hA21 ?rA21
        case hA21 =>
          intro w' hSw
          obtain ⟨k0, k1, k2, k3⟩ := hSw
          go_simp
          try with_reducible rfl
        simp only [List.setIfInBounds_toArray, List.set_cons_zero, List.set_cons_succ]
        refine hold_take (i := 22) (d := 58) (v := ?vA22) (listed' := #[true, true, true, true, true, true, true, true, true, true, true, true, true, true, true, true, true, true, true, true, true, true, true, false, false, false, false, false, false, false, false, false, false, false, false, false, false, false, false, false, false, false, false, false, false, false, false, false, false, false, false]) rfl (by kernel_rfl) (by kernel_rfl) (by kernel_rfl) rfl (by rfl) (by kernel_rfl) K5 ?hA22 ?rA22
        case hA22 =>
          intro w' hSw
          obtain ⟨k0, k1, k2, k3⟩ := hSw
          go_simp
          try with_reducible rfl
        simp only [List.setIfInBounds_toArray, List.set_cons_zero, List.set_cons_succ]
        refine hold_call (i := 23) (d := 59) (listed' := #[true, true, true, true, true, true, true, true, true, true, true, true, true, true, true, true, true, true, true, true, true, true, true, true, false, false, false, false, false, false, false, false, false, false, false, false, false, false, false, false, false, false, false, false, false, false, false, false, false, false, false]) rfl (by kernel_rfl) rfl (by rfl) (by kernel_rfl) ?heA23 (YesOf_any (nc := nc) Hd5.out.log) ?hcA23
        case heA23 => go_simp
        rintro e x6 ⟨rfl, bb6⟩
        rw [NY.out]
        have Hd6 := Lib.hid (Hd5.out.step bb6)
        have K6 := (show _ ∧ _ ∧ _ ∧ _ from ⟨Hd6.out.box.c0, Hd6.out.box.c1, (Hd6.out.log.mat.sq HS.out ha hb).2.1, (Hd6.out.log.mat.sq HS.out ha hb).2.2.trans (by rw [HZ.out])⟩)
        clear Hd5 K5 bb6
        refine ⟨_, rfl, K6, ?_⟩
        simp only [List.setIfInBounds_toArray, List.set_cons_zero, List.set_cons_succ]
        refine hold_call (i := 24) (d := 60) (listed' := #[true, true, true, true, true, true, true, true, true, true, true, true, true, true, true, true, true, true, true, true, true, true, true, true, true, false, false, false, false, false, false, false, false, false, false, false, false, false, false, false, false, false, false, false, false, false, false, false, false, false, false]) rfl (by kernel_rfl) rfl (by rfl) (by kernel_rfl) ?heA24 (WithOk_any (nc := nc) (x := (a : Int)) (v := ((y o3 : Nat) : Int)) Hd6.out.log) ?hcA24
        case heA24 => go_simp
        rintro e x7 ⟨rfl, bb7⟩
        rw [P4.out]
        have Hd7 := Lib.hid (Hd6.out.step bb7)
        have K7 := (show _ ∧ _ ∧ _ ∧ _ from ⟨Hd7.out.box.c0, Hd7.out.box.c1, (Hd7.out.log.mat.sq HS.out ha hb).2.1, (Hd7.out.log.mat.sq HS.out ha hb).2.2.trans (by rw [HZ.out])⟩)
        clear Hd6 K6 bb7
        refine ⟨_, rfl, K7, ?_⟩
        simp only [List.setIfInBounds_toArray, List.set_cons_zero, List.set_cons_succ]
        refine hold_take (i := 25) (d := 61) (v := ?vA25) (listed' := #[true, true, true, true, true, true, true, true, true, true, true, true, true, true, true, true, true, true, true, true, true, true, true, true, true, true, false, false, false, false, false, false, false, false, false, false, false, false, false, false, false, false, false, false, false, false, false, false, false, false, false]) rfl (by kernel_rfl) (by kernel_rfl) (by kernel_rfl) rfl (by rfl) (by kernel_rfl) K7 ?hA25 ?rA25
        case hA25 =>
          intro w' hSw
          obtain ⟨k0, k1, k2, k3⟩ := hSw
          go_simp
          try with_reducible rfl
        simp only [List.setIfInBounds_toArray, List.set_cons_zero, List.set_cons_succ]
        refine hold_take (i := 26) (d := 62) (v := ?vA26) (listed' := #[true, true, true, true, true, true, true, true, true, true, true, true, true, true, true, true, true, true, true, true, true, true, true, true, true, true, true, false, false, false, false, false, false, false, false, false, false, false, false, false, false, false, false, false, false, false, false, false, false, false, false]) rfl (by kernel_rfl) (by kernel_rfl) (by kernel_rfl) rfl (by rfl) (by kernel_rfl) K7 ?hA26 ?rA26
        case hA26 =>
          intro w' hSw
          obtain ⟨k0, k1, k2, k3⟩ := hSw
          go_simp
          try with_reducible rfl
        simp only [List.setIfInBounds_toArray, List.set_cons_zero, List.set_cons_succ]
        refine hold_take (i := 27) (d := 63) (v := ?vA27) (listed' := #[true, true, true, true, true, true, true, true, true, true, true, true, true, true, true, true, true, true, true, true, true, true, true, true, true, true, true, true, false, false, false, false, false, false, false, false, false, false, false, false, false, false, false, false, false, false, false, false, false, false, false]) rfl (by kernel_rfl) (by kernel_rfl) (by kernel_rfl) rfl (by rfl) (by kernel_rfl) K7 ?hA27 ?rA27
        case hA27 =>
          intro w' hSw
          obtain ⟨k0, k1, k2, k3⟩ := hSw
          go_simp
          try with_reducible rfl
        simp only [List.setIfInBounds_toArray, List.set_cons_zero, List.set_cons_succ]
        refine hold_take (i := 28) (d := 64) (v := ?vA28) (listed' := #[true, true, true, true, true, true, true, true, true, true, true, true, true, true, true, true, true, true, true, true, true, true, true, true, true, true, true, true, true, false, false, false, false, false, false, false, false, false, false, false, false, false, false, false, false, false, false, false, false, false, false]) rfl (by kernel_rfl) (by kernel_rfl) (by kernel_rfl) rfl (by rfl) (by kernel_rfl) K7 ?hA28 ?rA28
        case hA28 =>
          intro w' hSw
          obtain ⟨k0, k1, k2, k3⟩ := hSw
          go_simp
          try with_reducible rfl
        simp only [List.setIfInBounds_toArray, List.set_cons_zero, List.set_cons_succ]
        refine hold_take (i := 29) (d := 65) (v := ?vA29) (listed' := #[true, true, true, true, true, true, true, true, true, true, true, true, true, true, true, true, true, true, true, true, true, true, true, true, true, true, true, true, true, true, false, false, false, false, false, false, false, false, false, false, false, false, false, false, false, false, false, false, false, false, false]) rfl (by kernel_rfl) (by kernel_rfl) (by kernel_rfl) rfl (by rfl) (by kernel_rfl) K7 ?hA29 ?rA29
        case hA29 =>
          intro w' hSw
          obtain ⟨k0, k1, k2, k3⟩ := hSw
          go_simp
          try with_reducible rfl
        simp only [List.setIfInBounds_toArray, List.set_cons_zero, List.set_cons_succ]
        refine hold_take (i := 30) (d := 66) (v := ?vA30) (listed' := #[true, true, true, true, true, true, true, true, true, true, true, true, true, true, true, true, true, true, true, true, true, true, true, true, true, true, true, true, true, true, true, false, false, false, false, false, false, false, false, false, false, false, false, false, false, false, false, false, false, false, false]) rfl (by kernel_rfl) (by kernel_rfl) (by kernel_rfl) rfl (by rfl) (by kernel_rfl) K7 ?hA30 ?rA30
        case hA30 =>
          intro w' hSw
          obtain ⟨k0, k1, k2, k3⟩ := hSw
          go_simp
          try with_reducible rfl
        simp only [List.setIfInBounds_toArray, List.set_cons_zero, List.set_cons_succ]
        refine hold_take (i := 31) (d := 67) (v := ?vA31) (listed' := #[true, true, true, true, true, true, true, true, true, true, true, true, true, true, true, true, true, true, true, true, true, true, true, true, true, true, true, true, true, true, true, true, false, false, false, false, false, false, false, false, false, false, false, false, false, false, false, false, false, false, false]) rfl (by kernel_rfl) (by kernel_rfl) (by kernel_rfl) rfl (by rfl) (by kernel_rfl) K7 ?hA31 ?rA31
        case hA31 =>
          intro w' hSw
          obtain ⟨k0, k1, k2, k3⟩ := hSw
          go_simp
          try with_reducible rfl
        simp only [List.setIfInBounds_toArray, List.set_cons_zero, List.set_cons_succ]
        refine hold_take (i := 32) (d := 68) (v := ?vA32) (listed' := #[true, true, true, true, true, true, true, true, true, true, true, true, true, true, true, true, true, true, true, true, true, true, true, true, true, true, true, true, true, true, true, true, true, false, false, false, false, false, false, false, false, false, false, false, false, false, false, false, false, false, false]) rfl (by kernel_rfl) (by kernel_rfl) (by kernel_rfl) rfl (by rfl) (by kernel_rfl) K7 ?hA32 ?rA32
        case hA32 =>
          intro w' hSw
          obtain ⟨k0, k1, k2, k3⟩ := hSw
          go_simp
          try with_reducible rfl
        simp only [List.setIfInBounds_toArray, List.set_cons_zero, List.set_cons_succ]
        refine hold_take (i := 33) (d := 69) (v := ?vA33) (listed' := #[true, true, true, true, true, true, true, true, true, true, true, true, true, true, true, true, true, true, true, true, true, true, true, true, true, true, true, true, true, true, true, true, true, true, false, false, false, false, false, false, false, false, false, false, false, false, false, false, false, false, false]) rfl (by kernel_rfl) (by kernel_rfl) (by kernel_rfl) rfl (by rfl) (by kernel_rfl) K7 ?hA33 ?rA33
        case hA33 =>
          intro w' hSw
          obtain ⟨k0, k1, k2, k3⟩ := hSw
          go_simp
          try with_reducible rfl
        simp only [List.setIfInBounds_toArray, List.set_cons_zero, List.set_cons_succ]
        refine hold_take (i := 34) (d := 70) (v := ?vA34) (listed' := #[true, true, true, true, true, true, true, true, true, true, true, true, true, true, true, true, true, true, true, true, true, true, true, true, true, true, true, true, true, true, true, true, true, true, true, false, false, false, false, false, false, false, false, false, false, false, false, false, false, false, false]) rfl (by kernel_rfl) (by kernel_rfl) (by kernel_rfl) rfl (by rfl) (by kernel_rfl) K7 ?hA34 ?rA34
        case hA34 =>
          intro w' hSw
          obtain ⟨k0, k1, k2, k3⟩ := hSw
          go_simp
          try with_reducible rfl
        simp only [List.setIfInBounds_toArray, List.set_cons_zero, List.set_cons_succ]
        refine hold_take (i := 35) (d := 71) (v := ?vA35) (listed' := #[true, true, true, true, true, true, true, true, true, true, true, true, true, true, true, true, true, true, true, true, true, true, true, true, true, true, true, true, true, true, true, true, true, true, true, true, false, false, false, false, false, false, false, false, false, false, false, false, false, false, false]) rfl (by kernel_rfl) (by kernel_rfl) (by kernel_rfl) rfl (by rfl) (by kernel_rfl) K7 ?hA35 ?rA35
        case hA35 =>
          intro w' hSw
          obtain ⟨k0, k1, k2, k3⟩ := hSw
          go_simp
          try with_reducible rfl
        simp only [List.setIfInBounds_toArray, List.set_cons_zero, List.set_cons_succ]
        refine hold_take (i := 36) (d := 72) (v := ?vA36) (listed' := #[true, true, true, true, true, true, true, true, true, true, true, true, true, true, true, true, true, true, true, true, true, true, true, true, true, true, true, true, true, true, true, true, true, true, true, true, true, false, false, false, false, false, false, false, false, false, false, false, false, false, false]) rfl (by kernel_rfl) (by kernel_rfl) (by kernel_rfl) rfl (by rfl) (by kernel_rfl) K7 ?hA36 ?rA36
        case hA36 =>
          intro w' hSw
          obtain ⟨k0, k1, k2, k3⟩ := hSw
          go_simp
          try with_reducible rfl
        simp only [List.setIfInBounds_toArray, List.set_cons_zero, List.set_cons_succ]
        refine hold_take (i := 37) (d := 73) (v := ?vA37) (listed' := #[true, true, true, true, true, true, true, true, true, true, true, true, true, true, true, true, true, true, true, true, true, true, true, true, true, true, true, true, true, true, true, true, true, true, true, true, true, true, false, false, false, false, false, false, false, false, false, false, false, false, false]) rfl (by kernel_rfl) (by kernel_rfl) (by kernel_rfl) rfl (by rfl) (by kernel_rfl) K7 ?hA37 ?rA37
        case hA37 =>
          intro w' hSw
          obtain ⟨k0, k1, k2, k3⟩ := hSw
          go_simp
          try with_reducible rfl
        simp only [List.setIfInBounds_toArray, List.set_cons_zero, List.set_cons_succ]
        refine hold_take (i := 38) (d := 74) (v := ?vA38) (listed' := #[true, true, true, true, true, true, true, true, true, true, true, true, true, true, true, true, true, true, true, true, true, true, true, true, true, true, true, true, true, true, true, true, true, true, true, true, true, true, true, false, false, false, false, false, false, false, false, false, false, false, false]) rfl (by kernel_rfl) (by kernel_rfl) (by kernel_rfl) rfl (by rfl) (by kernel_rfl) K7 ?hA38 ?rA38
        case hA38 =>
          intro w' hSw
          obtain ⟨k0, k1, k2, k3⟩ := hSw
          go_simp
          try with_reducible rfl
        simp only [List.setIfInBounds_toArray, List.set_cons_zero, List.set_cons_succ]
        refine hold_take (i := 39) (d := 75) (v := ?vA39) (listed' := #[true, true, true, true, true, true, true, true, true, true, true, true, true, true, true, true, true, true, true, true, true, true, true, true, true, true, true, true, true, true, true, true, true, true, true, true, true, true, true, true, false, false, false, false, false, false, false, false, false, false, false]) rfl (by kernel_rfl) (by kernel_rfl) (by kernel_rfl) rfl (by rfl) (by kernel_rfl) K7 ?hA39 ?rA39
        case hA39 =>
          intro w' hSw
          obtain ⟨k0, k1, k2, k3⟩ := hSw
          go_simp
          try with_reducible rfl
        simp only [List.setIfInBounds_toArray, List.set_cons_zero, List.set_cons_succ]
        refine hold_take (i := 40) (d := 76) (v := ?vA40) (listed' := #[true, true, true, true, true, true, true, true, true, true, true, true, true, true, true, true, true, true, true, true, true, true, true, true, true, true, true, true, true, true, true, true, true, true, true, true, true, true, true, true, true, false, false, false, false, false, false, false, false, false, false]) rfl (by kernel_rfl) (by kernel_rfl) (by kernel_rfl) rfl (by rfl) (by kernel_rfl) K7 ?hA40 ?rA40
        case hA40 =>
          intro w' hSw
          obtain ⟨k0, k1, k2, k3⟩ := hSw
          go_simp
          try with_reducible rfl
        simp only [List.setIfInBounds_toArray, List.set_cons_zero, List.set_cons_succ]
        refine hold_take (i := 41) (d := 77) (v := ?vA41) (listed' := #[true, true, true, true, true, true, true, true, true, true, true, true, true, true, true, true, true, true, true, true, true, true, true, true, true, true, true, true, true, true, true, true, true, true, true, true, true, true, true, true, true, true, false, false, false, false, false, false, false, false, false]) rfl (by kernel_rfl) (by kernel_rfl) (by kernel_rfl) rfl (by rfl) (by kernel_rfl) K7 ?hA41 ?rA41
        case hA41 =>
          intro w' hSw
          obtain ⟨k0, k1, k2, k3⟩ := hSw
          go_simp
          try with_reducible rfl
        simp only [List.setIfInBounds_toArray, List.set_cons_zero, List.set_cons_succ]
        refine hold_take (i := 42) (d := 78) (v := ?vA42) (listed' := #[true, true, true, true, true, true, true, true, true, true, true, true, true, true, true, true, true, true, true, true, true, true, true, true, true, true, true, true, true, true, true, true, true, true, true, true, true, true, true, true, true, true, true, false, false, false, false, false, false, false, false]) rfl (by kernel_rfl) (by kernel_rfl) (by kernel_rfl) rfl (by rfl) (by kernel_rfl) K7 ?hA42 ?rA42
        case hA42 =>
          intro w' hSw
          obtain ⟨k0, k1, k2, k3⟩ := hSw
          go_simp
          try with_reducible rfl
        simp only [List.setIfInBounds_toArray, List.set_cons_zero, List.set_cons_succ]
        refine hold_take (i := 43) (d := 79) (v := ?vA43) (listed' := #[true, true, true, true, true, true, true, true, true, true, true, true, true, true, true, true, true, true, true, true, true, true, true, true, true, true, true, true, true, true, true, true, true, true, true, true, true, true, true, true, true, true, true, true, false, false, false, false, false, false, false]) rfl (by kernel_rfl) (by kernel_rfl) (by kernel_rfl) rfl (by rfl) (by kernel_rfl) K7 ?hA43 ?rA43
        case hA43 =>
          intro w' hSw
          obtain ⟨k0, k1, k2, k3⟩ := hSw
          go_simp
          try with_reducible rfl
        simp only [List.setIfInBounds_toArray, List.set_cons_zero, List.set_cons_succ]
        refine hold_take (i := 44) (d := 80) (v := ?vA44) (listed' := #[true, true, true, true, true, true, true, true, true, true, true, true, true, true, true, true, true, true, true, true, true, true, true, true, true, true, true, true, true, true, true, true, true, true, true, true, true, true, true, true, true, true, true, true, true, false, false, false, false, false, false]) rfl (by kernel_rfl) (by kernel_rfl) (by kernel_rfl) rfl (by rfl) (by kernel_rfl) K7 ?hA44 ?rA44
        case hA44 =>
          intro w' hSw
          obtain ⟨k0, k1, k2, k3⟩ := hSw
          go_simp
          try with_reducible rfl
        simp only [List.setIfInBounds_toArray, List.set_cons_zero, List.set_cons_succ]
        refine hold_take (i := 47) (d := 83) (v := ?vA47) (listed' := #[true, true, true, true, true, true, true, true, true, true, true, true, true, true, true, true, true, true, true, true, true, true, true, true, true, true, true, true, true, true, true, true, true, true, true, true, true, true, true, true, true, true, true, true, true, false, false, true, false, false, false]) rfl (by kernel_rfl) (by kernel_rfl) (by kernel_rfl) rfl (by rfl) (by kernel_rfl) K7 ?hA47 ?rA47
        case hA47 =>
          intro w' hSw
          obtain ⟨k0, k1, k2, k3⟩ := hSw
          go_simp
          try with_reducible rfl
        simp only [List.setIfInBounds_toArray, List.set_cons_zero, List.set_cons_succ]
        refine hold_call (i := 45) (d := 81) (listed' := #[true, true, true, true, true, true, true, true, true, true, true, true, true, true, true, true, true, true, true, true, true, true, true, true, true, true, true, true, true, true, true, true, true, true, true, true, true, true, true, true, true, true, true, true, true, true, false, true, false, false, false]) rfl (by kernel_rfl) rfl (by rfl) (by kernel_rfl) ?heA45 (NotOf_any (nc := nc) (x := (b : Int)) Hd7.out.log) ?hcA45
        case heA45 => go_simp
        rintro e x8 ⟨rfl, bb8⟩
        rw [NB.out]
        have Hd8 := Lib.hid (Hd7.out.step bb8)
        have K8 := (show _ ∧ _ ∧ _ ∧ _ from ⟨Hd8.out.box.c0, Hd8.out.box.c1, (Hd8.out.log.mat.sq HS.out ha hb).2.1, (Hd8.out.log.mat.sq HS.out ha hb).2.2.trans (by rw [HZ.out])⟩)
        clear Hd7 K7 bb8
        refine ⟨_, rfl, K8, ?_⟩
        simp only [List.setIfInBounds_toArray, List.set_cons_zero, List.set_cons_succ]
        refine hold_call (i := 46) (d := 82) (listed' := #[true, true, true, true, true, true, true, true, true, true, true, true, true, true, true, true, true, true, true, true, true, true, true, true, true, true, true, true, true, true, true, true, true, true, true, true, true, true, true, true, true, true, true, true, true, true, true, true, false, false, false]) rfl (by kernel_rfl) rfl (by rfl) (by kernel_rfl) ?heA46 (WithOk_any (nc := nc) (x := (a : Int)) (v := ((y b : Nat) : Int)) Hd8.out.log) ?hcA46
        case heA46 => go_simp
        rintro e x9 ⟨rfl, bb9⟩
        rw [Q6.out]
        have Hd9 := Lib.hid (Hd8.out.step bb9)
        have K9 := (show _ ∧ _ ∧ _ ∧ _ from ⟨Hd9.out.box.c0, Hd9.out.box.c1, (Hd9.out.log.mat.sq HS.out ha hb).2.1, (Hd9.out.log.mat.sq HS.out ha hb).2.2.trans (by rw [HZ.out])⟩)
        clear Hd8 K8 bb9
        refine ⟨_, rfl, K9, ?_⟩
        simp only [List.setIfInBounds_toArray, List.set_cons_zero, List.set_cons_succ]
        refine hold_take (i := 48) (d := 84) (v := ?vA48) (listed' := #[true, true, true, true, true, true, true, true, true, true, true, true, true, true, true, true, true, true, true, true, true, true, true, true, true, true, true, true, true, true, true, true, true, true, true, true, true, true, true, true, true, true, true, true, true, true, true, true, true, false, false]) rfl (by kernel_rfl) (by kernel_rfl) (by kernel_rfl) rfl (by rfl) (by kernel_rfl) K9 ?hA48 ?rA48
        case hA48 =>
          intro w' hSw
          obtain ⟨k0, k1, k2, k3⟩ := hSw
          go_simp
          try with_reducible rfl
        simp only [List.setIfInBounds_toArray, List.set_cons_zero, List.set_cons_succ]
        refine hold_take (i := 49) (d := 85) (v := ?vA49) (listed' := #[true, true, true, true, true, true, true, true, true, true, true, true, true, true, true, true, true, true, true, true, true, true, true, true, true, true, true, true, true, true, true, true, true, true, true, true, true, true, true, true, true, true, true, true, true, true, true, true, true, true, false]) rfl (by kernel_rfl) (by kernel_rfl) (by kernel_rfl) rfl (by rfl) (by kernel_rfl) K9 ?hA49 ?rA49
        case hA49 =>
          intro w' hSw
          obtain ⟨k0, k1, k2, k3⟩ := hSw
          go_simp
          try with_reducible rfl
        simp only [List.setIfInBounds_toArray, List.set_cons_zero, List.set_cons_succ]
        refine hold_take (i := 50) (d := 2) (v := ?vA50) (listed' := #[true, true, true, true, true, true, true, true, true, true, true, true, true, true, true, true, true, true, true, true, true, true, true, true, true, true, true, true, true, true, true, true, true, true, true, true, true, true, true, true, true, true, true, true, true, true, true, true, true, true, true]) rfl (by kernel_rfl) (by kernel_rfl) (by kernel_rfl) rfl (by rfl) (by kernel_rfl) K9 ?hA50 ?rA50
        case hA50 =>
          intro w' hSw
          obtain ⟨k0, k1, k2, k3⟩ := hSw
          go_simp
          try with_reducible rfl
        simp only [List.setIfInBounds_toArray, List.set_cons_zero, List.set_cons_succ]
        refine hold_done (by kernel_rfl) ?_ _
        go_wp2_with fail
        go_ret
        exact ⟨rfl, Hd9.out.old⟩
      · have HZ := Lib.hid z1
        clear l1 z1 f5
        cases hag : agB m y a b with
        | true =>
          have Q6 : Hid (withV m k zz (a : Int) ((y b : Nat) : Int) = true) := by show _ = _; rw [P6, hag]
          clear P6 hag
          go_wp2_with fail
          go_at_call 15
          refine (spec_AndOf H3.log).mono ?_
          rintro e w4 ⟨rfl, b4⟩
          rw [N0.out]
          have H4 := H3.step b4
          clear H3 q0 q1 b4
          have q0 := H4.box.c0
          have q1 := H4.box.c1
          go_wp2_with fail
          have Hd0 := Lib.hid (H4.step (Below.refl _ w4).drew)
          have K0 := (show _ ∧ _ ∧ _ ∧ _ from ⟨Hd0.out.box.c0, Hd0.out.box.c1, (Hd0.out.log.mat.sq HS.out ha hb).2.1, (Hd0.out.log.mat.sq HS.out ha hb).2.2.trans (by rw [HZ.out])⟩)
          clear H4 q0 q1
          refine region_plain (fuel := 51) (listed := #[false, false, false, false, false, false, false, false, false, false, false, false, false, false, false, false, false, false, false, false, false, false, false, false, false, false, false, false, false, false, false, false, false, false, false, false, false, false, false, false, false, false, false, false, false, false, false, false, false, false, false]) (fun w' => w'.cell? ⟨w1.heap.size, 0, none⟩ = some (.slice (some ⟨l.b, l.o, none⟩) m.n l.cap) ∧ w'.cell? ⟨w1.heap.size, 1, none⟩ = some (.slice na k nc) ∧ w'.cell? ⟨l.b, l.o + a, none⟩ = some (.slice (some ⟨l.G a, l.O a, none⟩) m.n (l.C a)) ∧ w'.cell? ⟨l.G a, l.O a + b, none⟩ = some (.int .i64 0)) (by kernel_rfl) (by kernel_rfl) (by kernel_rfl) ?_
          refine hold_take (i := 0) (d := 36) (v := ?vB0) (listed' := #[true, false, false, false, false, false, false, false, false, false, false, false, false, false, false, false, false, false, false, false, false, false, false, false, false, false, false, false, false, false, false, false, false, false, false, false, false, false, false, false, false, false, false, false, false, false, false, false, false, false, false]) rfl (by kernel_rfl) (by kernel_rfl) (by kernel_rfl) rfl (by rfl) (by kernel_rfl) K0 ?hB0 ?rB0
          case hB0 =>
            intro w' hSw
            obtain ⟨k0, k1, k2, k3⟩ := hSw
            go_simp
            try with_reducible rfl
          simp only [List.setIfInBounds_toArray, List.set_cons_zero, List.set_cons_succ]
          refine hold_take (i := 1) (d := 37) (v := ?vB1) (listed' := #[true, true, false, false, false, false, false, false, false, false, false, false, false, false, false, false, false, false, false, false, false, false, false, false, false, false, false, false, false, false, false, false, false, false, false, false, false, false, false, false, false, false, false, false, false, false, false, false, false, false, false]) rfl (by kernel_rfl) (by kernel_rfl) (by kernel_rfl) rfl (by rfl) (by kernel_rfl) K0 ?hB1 ?rB1
          case hB1 =>
            intro w' hSw
            obtain ⟨k0, k1, k2, k3⟩ := hSw
            go_simp
            try with_reducible rfl
          simp only [List.setIfInBounds_toArray, List.set_cons_zero, List.set_cons_succ]
          refine hold_take (i := 2) (d := 38) (v := ?vB2) (listed' := #[true, true, true, false, false, false, false, false, false, false, false, false, false, false, false, false, false, false, false, false, false, false, false, false, false, false, false, false, false, false, false, false, false, false, false, false, false, false, false, false, false, false, false, false, false, false, false, false, false, false, false]) rfl (by kernel_rfl) (by kernel_rfl) (by kernel_rfl) rfl (by rfl) (by kernel_rfl) K0 ?hB2 ?rB2
          case hB2 =>
            intro w' hSw
            obtain ⟨k0, k1, k2, k3⟩ := hSw
            go_simp
            try with_reducible rfl
          simp only [List.setIfInBounds_toArray, List.set_cons_zero, List.set_cons_succ]
          refine hold_call (i := 3) (d := 39) (listed' := #[true, true, true, true, false, false, false, false, false, false, false, false, false, false, false, false, false, false, false, false, false, false, false, false, false, false, false, false, false, false, false, false, false, false, false, false, false, false, false, false, false, false, false, false, false, false, false, false, false, false, false]) rfl (by kernel_rfl) rfl (by rfl) (by kernel_rfl) ?heB3 (WithOk_any (nc := nc) (x := (a : Int)) (v := (a : Int)) Hd0.out.log) ?hcB3
          case heB3 => go_simp
          rintro e x1 ⟨rfl, bb1⟩
          rw [P1.out]
          have Hd1 := Lib.hid (Hd0.out.step bb1)
          have K1 := (show _ ∧ _ ∧ _ ∧ _ from ⟨Hd1.out.box.c0, Hd1.out.box.c1, (Hd1.out.log.mat.sq HS.out ha hb).2.1, (Hd1.out.log.mat.sq HS.out ha hb).2.2.trans (by rw [HZ.out])⟩)
          clear Hd0 K0 bb1
          refine ⟨_, rfl, K1, ?_⟩
          simp only [List.setIfInBounds_toArray, List.set_cons_zero, List.set_cons_succ]
          refine hold_take (i := 4) (d := 40) (v := ?vB4) (listed' := #[true, true, true, true, true, false, false, false, false, false, false, false, false, false, false, false, false, false, false, false, false, false, false, false, false, false, false, false, false, false, false, false, false, false, false, false, false, false, false, false, false, false, false, false, false, false, false, false, false, false, false]) rfl (by kernel_rfl) (by kernel_rfl) (by kernel_rfl) rfl (by rfl) (by kernel_rfl) K1 ?hB4 ?rB4
          case hB4 =>
            intro w' hSw
            obtain ⟨k0, k1, k2, k3⟩ := hSw
            go_simp
            try with_reducible rfl
          simp only [List.setIfInBounds_toArray, List.set_cons_zero, List.set_cons_succ]
          refine hold_take (i := 5) (d := 41) (v := ?vB5) (listed' := #[true, true, true, true, true, true, false, false, false, false, false, false, false, false, false, false, false, false, false, false, false, false, false, false, false, false, false, false, false, false, false, false, false, false, false, false, false, false, false, false, false, false, false, false, false, false, false, false, false, false, false]) rfl (by kernel_rfl) (by kernel_rfl) (by kernel_rfl) rfl (by rfl) (by kernel_rfl) K1 ?hB5 ?rB5
          case hB5 =>
            intro w' hSw
            obtain ⟨k0, k1, k2, k3⟩ := hSw
            go_simp
            try with_reducible rfl
          simp only [List.setIfInBounds_toArray, List.set_cons_zero, List.set_cons_succ]
          refine hold_take (i := 6) (d := 42) (v := ?vB6) (listed' := #[true, true, true, true, true, true, true, false, false, false, false, false, false, false, false, false, false, false, false, false, false, false, false, false, false, false, false, false, false, false, false, false, false, false, false, false, false, false, false, false, false, false, false, false, false, false, false, false, false, false, false]) rfl (by kernel_rfl) (by kernel_rfl) (by kernel_rfl) rfl (by rfl) (by kernel_rfl) K1 ?hB6 ?rB6
          case hB6 =>
            intro w' hSw
            obtain ⟨k0, k1, k2, k3⟩ := hSw
            go_simp
            try with_reducible rfl
          simp only [List.setIfInBounds_toArray, List.set_cons_zero, List.set_cons_succ]
          refine hold_take (i := 7) (d := 43) (v := ?vB7) (listed' := #[true, true, true, true, true, true, true, true, false, false, false, false, false, false, false, false, false, false, false, false, false, false, false, false, false, false, false, false, false, false, false, false, false, false, false, false, false, false, false, false, false, false, false, false, false, false, false, false, false, false, false]) rfl (by kernel_rfl) (by kernel_rfl) (by kernel_rfl) rfl (by rfl) (by kernel_rfl) K1 ?hB7 ?rB7
          case hB7 =>
            intro w' hSw
            obtain ⟨k0, k1, k2, k3⟩ := hSw
            go_simp
            try with_reducible rfl
          simp only [List.setIfInBounds_toArray, List.set_cons_zero, List.set_cons_succ]
          refine hold_take (i := 8) (d := 44) (v := ?vB8) (listed' := #[true, true, true, true, true, true, true, true, true, false, false, false, false, false, false, false, false, false, false, false, false, false, false, false, false, false, false, false, false, false, false, false, false, false, false, false, false, false, false, false, false, false, false, false, false, false, false, false, false, false, false]) rfl (by kernel_rfl) (by kernel_rfl) (by kernel_rfl) rfl (by rfl) (by kernel_rfl) K1 ?hB8 ?rB8
          case hB8 =>
            intro w' hSw
            obtain ⟨k0, k1, k2, k3⟩ := hSw
            go_simp
            try with_reducible rfl
          simp only [List.setIfInBounds_toArray, List.set_cons_zero, List.set_cons_succ]
          refine hold_call (i := 9) (d := 45) (listed' := #[true, true, true, true, true, true, true, true, true, true, false, false, false, false, false, false, false, false, false, false, false, false, false, false, false, false, false, false, false, false, false, false, false, false, false, false, false, false, false, false, false, false, false, false, false, false, false, false, false, false, false]) rfl (by kernel_rfl) rfl (by rfl) (by kernel_rfl) ?heB9 (NotOf_any (nc := nc) (x := (a : Int)) Hd1.out.log) ?hcB9
          case heB9 => go_simp
          rintro e x2 ⟨rfl, bb2⟩
          rw [NA.out]
          have Hd2 := Lib.hid (Hd1.out.step bb2)
          have K2 := (show _ ∧ _ ∧ _ ∧ _ from ⟨Hd2.out.box.c0, Hd2.out.box.c1, (Hd2.out.log.mat.sq HS.out ha hb).2.1, (Hd2.out.log.mat.sq HS.out ha hb).2.2.trans (by rw [HZ.out])⟩)
          clear Hd1 K1 bb2
          refine ⟨_, rfl, K2, ?_⟩
          simp only [List.setIfInBounds_toArray, List.set_cons_zero, List.set_cons_succ]
          refine hold_call (i := 10) (d := 46) (listed' := #[true, true, true, true, true, true, true, true, true, true, true, false, false, false, false, false, false, false, false, false, false, false, false, false, false, false, false, false, false, false, false, false, false, false, false, false, false, false, false, false, false, false, false, false, false, false, false, false, false, false, false]) rfl (by kernel_rfl) rfl (by rfl) (by kernel_rfl) ?heB10 (WithOk_any (nc := nc) (x := (a : Int)) (v := ((y a : Nat) : Int)) Hd2.out.log) ?hcB10
          case heB10 => go_simp
          rintro e x3 ⟨rfl, bb3⟩
          rw [P2.out]
          have Hd3 := Lib.hid (Hd2.out.step bb3)
          have K3 := (show _ ∧ _ ∧ _ ∧ _ from ⟨Hd3.out.box.c0, Hd3.out.box.c1, (Hd3.out.log.mat.sq HS.out ha hb).2.1, (Hd3.out.log.mat.sq HS.out ha hb).2.2.trans (by rw [HZ.out])⟩)
          clear Hd2 K2 bb3
          refine ⟨_, rfl, K3, ?_⟩
          simp only [List.setIfInBounds_toArray, List.set_cons_zero, List.set_cons_succ]
          refine hold_take (i := 11) (d := 47) (v := ?vB11) (listed' := #[true, true, true, true, true, true, true, true, true, true, true, true, false, false, false, false, false, false, false, false, false, false, false, false, false, false, false, false, false, false, false, false, false, false, false, false, false, false, false, false, false, false, false, false, false, false, false, false, false, false, false]) rfl (by kernel_rfl) (by kernel_rfl) (by kernel_rfl) rfl (by rfl) (by kernel_rfl) K3 ?hB11 ?rB11
          case hB11 =>
            intro w' hSw
            obtain ⟨k0, k1, k2, k3⟩ := hSw
            go_simp
            try with_reducible rfl
          simp only [List.setIfInBounds_toArray, List.set_cons_zero, List.set_cons_succ]
          refine hold_take (i := 12) (d := 48) (v := ?vB12) (listed' := #[true, true, true, true, true, true, true, true, true, true, true, true, true, false, false, false, false, false, false, false, false, false, false, false, false, false, false, false, false, false, false, false, false, false, false, false, false, false, false, false, false, false, false, false, false, false, false, false, false, false, false]) rfl (by kernel_rfl) (by kernel_rfl) (by kernel_rfl) rfl (by rfl) (by kernel_rfl) K3 ?hB12 ?rB12
          case hB12 =>
            intro w' hSw
            obtain ⟨k0, k1, k2, k3⟩ := hSw
            go_simp
            try with_reducible rfl
          simp only [List.setIfInBounds_toArray, List.set_cons_zero, List.set_cons_succ]
          refine hold_take (i := 13) (d := 49) (v := ?vB13) (listed' := #[true, true, true, true, true, true, true, true, true, true, true, true, true, true, false, false, false, false, false, false, false, false, false, false, false, false, false, false, false, false, false, false, false, false, false, false, false, false, false, false, false, false, false, false, false, false, false, false, false, false, false]) rfl (by kernel_rfl) (by kernel_rfl) (by kernel_rfl) rfl (by rfl) (by kernel_rfl) K3 ?hB13 ?rB13
          case hB13 =>
            intro w' hSw
            obtain ⟨k0, k1, k2, k3⟩ := hSw
            go_simp
            try with_reducible rfl
          simp only [List.setIfInBounds_toArray, List.set_cons_zero, List.set_cons_succ]
          refine hold_take (i := 14) (d := 50) (v := ?vB14) (listed' := #[true, true, true, true, true, true, true, true, true, true, true, true, true, true, true, false, false, false, false, false, false, false, false, false, false, false, false, false, false, false, false, false, false, false, false, false, false, false, false, false, false, false, false, false, false, false, false, false, false, false, false]) rfl (by kernel_rfl) (by kernel_rfl) (by kernel_rfl) rfl (by rfl) (by kernel_rfl) K3 ?hB14 ?rB14
          case hB14 =>
            intro w' hSw
            obtain ⟨k0, k1, k2, k3⟩ := hSw
            go_simp
            try with_reducible rfl
          simp only [List.setIfInBounds_toArray, List.set_cons_zero, List.set_cons_succ]
          refine hold_take (i := 15) (d := 51) (v := ?vB15) (listed' := #[true, true, true, true, true, true, true, true, true, true, true, true, true, true, true, true, false, false, false, false, false, false, false, false, false, false, false, false, false, false, false, false, false, false, false, false, false, false, false, false, false, false, false, false, false, false, false, false, false, false, false]) rfl (by kernel_rfl) (by kernel_rfl) (by kernel_rfl) rfl (by rfl) (by kernel_rfl) K3 ?hB15 ?rB15
          case hB15 =>
            intro w' hSw
            obtain ⟨k0, k1, k2, k3⟩ := hSw
            go_simp
            try with_reducible rfl
          simp only [List.setIfInBounds_toArray, List.set_cons_zero, List.set_cons_succ]
          refine hold_call (i := 16) (d := 52) (listed' := #[true, true, true, true, true, true, true, true, true, true, true, true, true, true, true, true, true, false, false, false, false, false, false, false, false, false, false, false, false, false, false, false, false, false, false, false, false, false, false, false, false, false, false, false, false, false, false, false, false, false, false]) rfl (by kernel_rfl) rfl (by rfl) (by kernel_rfl) ?heB16 (NoOf_any (nc := nc) Hd3.out.log) ?hcB16
          case heB16 => go_simp
          rintro e x4 ⟨rfl, bb4⟩
          rw [NO.out]
          have Hd4 := Lib.hid (Hd3.out.step bb4)
          have K4 := (show _ ∧ _ ∧ _ ∧ _ from ⟨Hd4.out.box.c0, Hd4.out.box.c1, (Hd4.out.log.mat.sq HS.out ha hb).2.1, (Hd4.out.log.mat.sq HS.out ha hb).2.2.trans (by rw [HZ.out])⟩)
          clear Hd3 K3 bb4
          refine ⟨_, rfl, K4, ?_⟩
          simp only [List.setIfInBounds_toArray, List.set_cons_zero, List.set_cons_succ]
          refine hold_call (i := 17) (d := 53) (listed' := #[true, true, true, true, true, true, true, true, true, true, true, true, true, true, true, true, true, true, false, false, false, false, false, false, false, false, false, false, false, false, false, false, false, false, false, false, false, false, false, false, false, false, false, false, false, false, false, false, false, false, false]) rfl (by kernel_rfl) rfl (by rfl) (by kernel_rfl) ?heB17 (WithOk_any (nc := nc) (x := (a : Int)) (v := (o3 : Int)) Hd4.out.log) ?hcB17
          case heB17 => go_simp
          rintro e x5 ⟨rfl, bb5⟩
          rw [P3.out]
          have Hd5 := Lib.hid (Hd4.out.step bb5)
          have K5 := (show _ ∧ _ ∧ _ ∧ _ from ⟨Hd5.out.box.c0, Hd5.out.box.c1, (Hd5.out.log.mat.sq HS.out ha hb).2.1, (Hd5.out.log.mat.sq HS.out ha hb).2.2.trans (by rw [HZ.out])⟩)
          clear Hd4 K4 bb5
          refine ⟨_, rfl, K5, ?_⟩
          simp only [List.setIfInBounds_toArray, List.set_cons_zero, List.set_cons_succ]
          refine hold_take (i := 18) (d := 54) (v := ?vB18) (listed' := #[true, true, true, true, true, true, true, true, true, true, true, true, true, true, true, true, true, true, true, false, false, false, false, false, false, false, false, false, false, false, false, false, false, false, false, false, false, false, false, false, false, false, false, false, false, false, false, false, false, false, false]) rfl (by kernel_rfl) (by kernel_rfl) (by kernel_rfl) rfl (by rfl) (by kernel_rfl) K5 ?hB18 ?rB18
          case hB18 =>
            intro w' hSw
            obtain ⟨k0, k1, k2, k3⟩ := hSw
            go_simp
            try with_reducible rfl
          simp only [List.setIfInBounds_toArray, List.set_cons_zero, List.set_cons_succ]
          refine hold_take (i := 19) (d := 55) (v := ?vB19) (listed' := #[true, true, true, true, true, true, true, true, true, true, true, true, true, true, true, true, true, true, true, true, false, false, false, false, false, false, false, false, false, false, false, false, false, false, false, false, false, false, false, false, false, false, false, false, false, false, false, false, false, false, false]) rfl (by kernel_rfl) (by kernel_rfl) (by kernel_rfl) rfl (by rfl) (by kernel_rfl) K5 ?hB19 ?rB19
          case hB19 =>
            intro w' hSw
            obtain ⟨k0, k1, k2, k3⟩ := hSw
            go_simp
            try with_reducible rfl
          simp only [List.setIfInBounds_toArray, List.set_cons_zero, List.set_cons_succ]
          refine hold_take (i := 20) (d := 56) (v := ?vB20) (listed' := #[true, true, true, true, true, true, true, true, true, true, true, true, true, true, true, true, true, true, true, true, true, false, false, false, false, false, false, false, false, false, false, false, false, false, false, false, false, false, false, false, false, false, false, false, false, false, false, false, false, false, false]) rfl (by kernel_rfl) (by kernel_rfl) (by kernel_rfl) rfl (by rfl) (by kernel_rfl) K5 ?hB20 ?rB20
          case hB20 =>
            intro w' hSw
            obtain ⟨k0, k1, k2, k3⟩ := hSw
            go_simp
            try with_reducible rfl
          simp only [List.setIfInBounds_toArray, List.set_cons_zero, List.set_cons_succ]
          refine hold_take (i := 21) (d := 57) (v := ?vB21) (listed' := #[true, true, true, true, true, true, true, true, true, true, true, true, true, true, true, true, true, true, true, true, true, true, false, false, false, false, false, false, false, false, false, false, false, false, false, false, false, false, false, false, false, false, false, false, false, false, false, false, false, false, false]) rfl (by kernel_rfl) (by kernel_rfl) (by kernel_rfl) rfl (by rfl) (by kernel_rfl) K5 ?hB21 ?rB21
          case hB21 =>
            intro w' hSw
            obtain ⟨k0, k1, k2, k3⟩ := hSw
            go_simp
            try with_reducible rfl
          simp only [List.setIfInBounds_toArray, List.set_cons_zero, List.set_cons_succ]
          refine hold_take (i := 22) (d := 58) (v := ?vB22) (listed' := #[true, true, true, true, true, true, true, true, true, true, true, true, true, true, true, true, true, true, true, true, true, true, true, false, false, false, false, false, false, false, false, false, false, false, false, false, false, false, false, false, false, false, false, false, false, false, false, false, false, false, false]) rfl (by kernel_rfl) (by kernel_rfl) (by kernel_rfl) rfl (by rfl) (by kernel_rfl) K5 ?hB22 ?rB22
          case hB22 =>
            intro w' hSw
            obtain ⟨k0, k1, k2, k3⟩ := hSw
            go_simp
            try with_reducible rfl
          simp only [List.setIfInBounds_toArray, List.set_cons_zero, List.set_cons_succ]
          refine hold_call (i := 23) (d := 59) (listed' := #[true, true, true, true, true, true, true, true, true, true, true, true, true, true, true, true, true, true, true, true, true, true, true, true, false, false, false, false, false, false, false, false, false, false, false, false, false, false, false, false, false, false, false, false, false, false, false, false, false, false, false]) rfl (by kernel_rfl) rfl (by rfl) (by kernel_rfl) ?heB23 (YesOf_any (nc := nc) Hd5.out.log) ?hcB23
          case heB23 => go_simp
          rintro e x6 ⟨rfl, bb6⟩
          rw [NY.out]
          have Hd6 := Lib.hid (Hd5.out.step bb6)
          have K6 := (show _ ∧ _ ∧ _ ∧ _ from ⟨Hd6.out.box.c0, Hd6.out.box.c1, (Hd6.out.log.mat.sq HS.out ha hb).2.1, (Hd6.out.log.mat.sq HS.out ha hb).2.2.trans (by rw [HZ.out])⟩)
          clear Hd5 K5 bb6
          refine ⟨_, rfl, K6, ?_⟩
          simp only [List.setIfInBounds_toArray, List.set_cons_zero, List.set_cons_succ]
          refine hold_call (i := 24) (d := 60) (listed' := #[true, true, true, true, true, true, true, true, true, true, true, true, true, true, true, true, true, true, true, true, true, true, true, true, true, false, false, false, false, false, false, false, false, false, false, false, false, false, false, false, false, false, false, false, false, false, false, false, false, false, false]) rfl (by kernel_rfl) rfl (by rfl) (by kernel_rfl) ?heB24 (WithOk_any (nc := nc) (x := (a : Int)) (v := ((y o3 : Nat) : Int)) Hd6.out.log) ?hcB24
          case heB24 => go_simp
          rintro e x7 ⟨rfl, bb7⟩
          rw [P4.out]
          have Hd7 := Lib.hid (Hd6.out.step bb7)
          have K7 := (show _ ∧ _ ∧ _ ∧ _ from ⟨Hd7.out.box.c0, Hd7.out.box.c1, (Hd7.out.log.mat.sq HS.out ha hb).2.1, (Hd7.out.log.mat.sq HS.out ha hb).2.2.trans (by rw [HZ.out])⟩)
          clear Hd6 K6 bb7
          refine ⟨_, rfl, K7, ?_⟩
          simp only [List.setIfInBounds_toArray, List.set_cons_zero, List.set_cons_succ]
          refine hold_take (i := 25) (d := 61) (v := ?vB25) (listed' := #[true, true, true, true, true, true, true, true, true, true, true, true, true, true, true, true, true, true, true, true, true, true, true, true, true, true, false, false, false, false, false, false, false, false, false, false, false, false, false, false, false, false, false, false, false, false, false, false, false, false, false]) rfl (by kernel_rfl) (by kernel_rfl) (by kernel_rfl) rfl (by rfl) (by kernel_rfl) K7 ?hB25 ?rB25
          case hB25 =>
            intro w' hSw
            obtain ⟨k0, k1, k2, k3⟩ := hSw
            go_simp
            try with_reducible rfl
          simp only [List.setIfInBounds_toArray, List.set_cons_zero, List.set_cons_succ]
          refine hold_take (i := 26) (d := 62) (v := ?vB26) (listed' := #[true, true, true, true, true, true, true, true, true, true, true, true, true, true, true, true, true, true, true, true, true, true, true, true, true, true, true, false, false, false, false, false, false, false, false, false, false, false, false, false, false, false, false, false, false, false, false, false, false, false, false]) rfl (by kernel_rfl) (by kernel_rfl) (by kernel_rfl) rfl (by rfl) (by kernel_rfl) K7 ?hB26 ?rB26
          case hB26 =>
            intro w' hSw
            obtain ⟨k0, k1, k2, k3⟩ := hSw
            go_simp
            try with_reducible rfl
          simp only [List.setIfInBounds_toArray, List.set_cons_zero, List.set_cons_succ]
          refine hold_take (i := 27) (d := 63) (v := ?vB27) (listed' := #[true, true, true, true, true, true, true, true, true, true, true, true, true, true, true, true, true, true, true, true, true, true, true, true, true, true, true, true, false, false, false, false, false, false, false, false, false, false, false, false, false, false, false, false, false, false, false, false, false, false, false]) rfl (by kernel_rfl) (by kernel_rfl) (by kernel_rfl) rfl (by rfl) (by kernel_rfl) K7 ?hB27 ?rB27
          case hB27 =>
            intro w' hSw
            obtain ⟨k0, k1, k2, k3⟩ := hSw
            go_simp
            try with_reducible rfl
          simp only [List.setIfInBounds_toArray, List.set_cons_zero, List.set_cons_succ]
          refine hold_take (i := 28) (d := 64) (v := ?vB28) (listed' := #[true, true, true, true, true, true, true, true, true, true, true, true, true, true, true, true, true, true, true, true, true, true, true, true, true, true, true, true, true, false, false, false, false, false, false, false, false, false, false, false, false, false, false, false, false, false, false, false, false, false, false]) rfl (by kernel_rfl) (by kernel_rfl) (by kernel_rfl) rfl (by rfl) (by kernel_rfl) K7 ?hB28 ?rB28
          case hB28 =>
            intro w' hSw
            obtain ⟨k0, k1, k2, k3⟩ := hSw
            go_simp
            try with_reducible rfl
          simp only [List.setIfInBounds_toArray, List.set_cons_zero, List.set_cons_succ]
          refine hold_take (i := 29) (d := 65) (v := ?vB29) (listed' := #[true, true, true, true, true, true, true, true, true, true, true, true, true, true, true, true, true, true, true, true, true, true, true, true, true, true, true, true, true, true, false, false, false, false, false, false, false, false, false, false, false, false, false, false, false, false, false, false, false, false, false]) rfl (by kernel_rfl) (by kernel_rfl) (by kernel_rfl) rfl (by rfl) (by kernel_rfl) K7 ?hB29 ?rB29
          case hB29 =>
            intro w' hSw
            obtain ⟨k0, k1, k2, k3⟩ := hSw
            go_simp
            try with_reducible rfl
          simp only [List.setIfInBounds_toArray, List.set_cons_zero, List.set_cons_succ]
          refine hold_take (i := 30) (d := 66) (v := ?vB30) (listed' := #[true, true, true, true, true, true, true, true, true, true, true, true, true, true, true, true, true, true, true, true, true, true, true, true, true, true, true, true, true, true, true, false, false, false, false, false, false, false, false, false, false, false, false, false, false, false, false, false, false, false, false]) rfl (by kernel_rfl) (by kernel_rfl) (by kernel_rfl) rfl (by rfl) (by kernel_rfl) K7 ?hB30 ?rB30
          case hB30 =>
            intro w' hSw
            obtain ⟨k0, k1, k2, k3⟩ := hSw
            go_simp
            try with_reducible rfl
          simp only [List.setIfInBounds_toArray, List.set_cons_zero, List.set_cons_succ]
          refine hold_take (i := 31) (d := 67) (v := ?vB31) (listed' := #[true, true, true, true, true, true, true, true, true, true, true, true, true, true, true, true, true, true, true, true, true, true, true, true, true, true, true, true, true, true, true, true, false, false, false, false, false, false, false, false, false, false, false, false, false, false, false, false, false, false, false]) rfl (by kernel_rfl) (by kernel_rfl) (by kernel_rfl) rfl (by rfl) (by kernel_rfl) K7 ?hB31 ?rB31
          case hB31 =>
            intro w' hSw
            obtain ⟨k0, k1, k2, k3⟩ := hSw
            go_simp
            try with_reducible rfl
          simp only [List.setIfInBounds_toArray, List.set_cons_zero, List.set_cons_succ]
          refine hold_take (i := 32) (d := 68) (v := ?vB32) (listed' := #[true, true, true, true, true, true, true, true, true, true, true, true, true, true, true, true, true, true, true, true, true, true, true, true, true, true, true, true, true, true, true, true, true, false, false, false, false, false, false, false, false, false, false, false, false, false, false, false, false, false, false]) rfl (by kernel_rfl) (by kernel_rfl) (by kernel_rfl) rfl (by rfl) (by kernel_rfl) K7 ?hB32 ?rB32
          case hB32 =>
            intro w' hSw
            obtain ⟨k0, k1, k2, k3⟩ := hSw
            go_simp
            try with_reducible rfl
          simp only [List.setIfInBounds_toArray, List.set_cons_zero, List.set_cons_succ]
          refine hold_take (i := 33) (d := 69) (v := ?vB33) (listed' := #[true, true, true, true, true, true, true, true, true, true, true, true, true, true, true, true, true, true, true, true, true, true, true, true, true, true, true, true, true, true, true, true, true, true, false, false, false, false, false, false, false, false, false, false, false, false, false, false, false, false, false]) rfl (by kernel_rfl) (by kernel_rfl) (by kernel_rfl) rfl (by rfl) (by kernel_rfl) K7 ?hB33 ?rB33
          case hB33 =>
            intro w' hSw
            obtain ⟨k0, k1, k2, k3⟩ := hSw
            go_simp
            try with_reducible rfl
          simp only [List.setIfInBounds_toArray, List.set_cons_zero, List.set_cons_succ]
          refine hold_take (i := 34) (d := 70) (v := ?vB34) (listed' := #[true, true, true, true, true, true, true, true, true, true, true, true, true, true, true, true, true, true, true, true, true, true, true, true, true, true, true, true, true, true, true, true, true, true, true, false, false, false, false, false, false, false, false, false, false, false, false, false, false, false, false]) rfl (by kernel_rfl) (by kernel_rfl) (by kernel_rfl) rfl (by rfl) (by kernel_rfl) K7 ?hB34 ?rB34
          case hB34 =>
            intro w' hSw
            obtain ⟨k0, k1, k2, k3⟩ := hSw
            go_simp
            try with_reducible rfl
          simp only [List.setIfInBounds_toArray, List.set_cons_zero, List.set_cons_succ]
          refine hold_take (i := 35) (d := 71) (v := ?vB35) (listed' := #[true, true, true, true, true, true, true, true, true, true, true, true, true, true, true, true, true, true, true, true, true, true, true, true, true, true, true, true, true, true, true, true, true, true, true, true, false, false, false, false, false, false, false, false, false, false, false, false, false, false, false]) rfl (by kernel_rfl) (by kernel_rfl) (by kernel_rfl) rfl (by rfl) (by kernel_rfl) K7 ?hB35 ?rB35
          case hB35 =>
            intro w' hSw
            obtain ⟨k0, k1, k2, k3⟩ := hSw
            go_simp
            try with_reducible rfl
          simp only [List.setIfInBounds_toArray, List.set_cons_zero, List.set_cons_succ]
          refine hold_take (i := 36) (d := 72) (v := ?vB36) (listed' := #[true, true, true, true, true, true, true, true, true, true, true, true, true, true, true, true, true, true, true, true, true, true, true, true, true, true, true, true, true, true, true, true, true, true, true, true, true, false, false, false, false, false, false, false, false, false, false, false, false, false, false]) rfl (by kernel_rfl) (by kernel_rfl) (by kernel_rfl) rfl (by rfl) (by kernel_rfl) K7 ?hB36 ?rB36
          case hB36 =>
            intro w' hSw
            obtain ⟨k0, k1, k2, k3⟩ := hSw
            go_simp
            try with_reducible rfl
          simp only [List.setIfInBounds_toArray, List.set_cons_zero, List.set_cons_succ]
          refine hold_skip (i := 37) (d := 73) (listed' := #[true, true, true, true, true, true, true, true, true, true, true, true, true, true, true, true, true, true, true, true, true, true, true, true, true, true, true, true, true, true, true, true, true, true, true, true, true, true, false, false, false, false, false, false, false, false, false, false, false, false, false]) rfl (by kernel_rfl) (by kernel_rfl) (by kernel_rfl) rfl (by rfl) (by kernel_rfl) K7 ?_
          simp only [List.setIfInBounds_toArray, List.set_cons_zero, List.set_cons_succ]
          refine hold_take (i := 38) (d := 74) (v := ?vB38) (listed' := #[true, true, true, true, true, true, true, true, true, true, true, true, true, true, true, true, true, true, true, true, true, true, true, true, true, true, true, true, true, true, true, true, true, true, true, true, true, true, true, false, false, false, false, false, false, false, false, false, false, false, false]) rfl (by kernel_rfl) (by kernel_rfl) (by kernel_rfl) rfl (by rfl) (by kernel_rfl) K7 ?hB38 ?rB38
          case hB38 =>
            intro w' hSw
            obtain ⟨k0, k1, k2, k3⟩ := hSw
            go_simp
            try with_reducible rfl
          simp only [List.setIfInBounds_toArray, List.set_cons_zero, List.set_cons_succ]
          refine hold_take (i := 39) (d := 75) (v := ?vB39) (listed' := #[true, true, true, true, true, true, true, true, true, true, true, true, true, true, true, true, true, true, true, true, true, true, true, true, true, true, true, true, true, true, true, true, true, true, true, true, true, true, true, true, false, false, false, false, false, false, false, false, false, false, false]) rfl (by kernel_rfl) (by kernel_rfl) (by kernel_rfl) rfl (by rfl) (by kernel_rfl) K7 ?hB39 ?rB39
          case hB39 =>
            intro w' hSw
            obtain ⟨k0, k1, k2, k3⟩ := hSw
            go_simp
            try with_reducible rfl
          simp only [List.setIfInBounds_toArray, List.set_cons_zero, List.set_cons_succ]
          refine hold_take (i := 40) (d := 76) (v := ?vB40) (listed' := #[true, true, true, true, true, true, true, true, true, true, true, true, true, true, true, true, true, true, true, true, true, true, true, true, true, true, true, true, true, true, true, true, true, true, true, true, true, true, true, true, true, false, false, false, false, false, false, false, false, false, false]) rfl (by kernel_rfl) (by kernel_rfl) (by kernel_rfl) rfl (by rfl) (by kernel_rfl) K7 ?hB40 ?rB40
          case hB40 =>
            intro w' hSw
            obtain ⟨k0, k1, k2, k3⟩ := hSw
            go_simp
            try with_reducible rfl
          simp only [List.setIfInBounds_toArray, List.set_cons_zero, List.set_cons_succ]
          refine hold_take (i := 41) (d := 77) (v := ?vB41) (listed' := #[true, true, true, true, true, true, true, true, true, true, true, true, true, true, true, true, true, true, true, true, true, true, true, true, true, true, true, true, true, true, true, true, true, true, true, true, true, true, true, true, true, true, false, false, false, false, false, false, false, false, false]) rfl (by kernel_rfl) (by kernel_rfl) (by kernel_rfl) rfl (by rfl) (by kernel_rfl) K7 ?hB41 ?rB41
          case hB41 =>
            intro w' hSw
            obtain ⟨k0, k1, k2, k3⟩ := hSw
            go_simp
            try with_reducible rfl
          simp only [List.setIfInBounds_toArray, List.set_cons_zero, List.set_cons_succ]
          refine hold_take (i := 42) (d := 78) (v := ?vB42) (listed' := #[true, true, true, true, true, true, true, true, true, true, true, true, true, true, true, true, true, true, true, true, true, true, true, true, true, true, true, true, true, true, true, true, true, true, true, true, true, true, true, true, true, true, true, false, false, false, false, false, false, false, false]) rfl (by kernel_rfl) (by kernel_rfl) (by kernel_rfl) rfl (by rfl) (by kernel_rfl) K7 ?hB42 ?rB42
          case hB42 =>
            intro w' hSw
            obtain ⟨k0, k1, k2, k3⟩ := hSw
            go_simp
            try with_reducible rfl
          simp only [List.setIfInBounds_toArray, List.set_cons_zero, List.set_cons_succ]
          refine hold_take (i := 43) (d := 79) (v := ?vB43) (listed' := #[true, true, true, true, true, true, true, true, true, true, true, true, true, true, true, true, true, true, true, true, true, true, true, true, true, true, true, true, true, true, true, true, true, true, true, true, true, true, true, true, true, true, true, true, false, false, false, false, false, false, false]) rfl (by kernel_rfl) (by kernel_rfl) (by kernel_rfl) rfl (by rfl) (by kernel_rfl) K7 ?hB43 ?rB43
          case hB43 =>
            intro w' hSw
            obtain ⟨k0, k1, k2, k3⟩ := hSw
            go_simp
            try with_reducible rfl
          simp only [List.setIfInBounds_toArray, List.set_cons_zero, List.set_cons_succ]
          refine hold_take (i := 44) (d := 80) (v := ?vB44) (listed' := #[true, true, true, true, true, true, true, true, true, true, true, true, true, true, true, true, true, true, true, true, true, true, true, true, true, true, true, true, true, true, true, true, true, true, true, true, true, true, true, true, true, true, true, true, true, false, false, false, false, false, false]) rfl (by kernel_rfl) (by kernel_rfl) (by kernel_rfl) rfl (by rfl) (by kernel_rfl) K7 ?hB44 ?rB44
          case hB44 =>
            intro w' hSw
            obtain ⟨k0, k1, k2, k3⟩ := hSw
            go_simp
            try with_reducible rfl
          simp only [List.setIfInBounds_toArray, List.set_cons_zero, List.set_cons_succ]
          refine hold_take (i := 47) (d := 83) (v := ?vB47) (listed' := #[true, true, true, true, true, true, true, true, true, true, true, true, true, true, true, true, true, true, true, true, true, true, true, true, true, true, true, true, true, true, true, true, true, true, true, true, true, true, true, true, true, true, true, true, true, false, false, true, false, false, false]) rfl (by kernel_rfl) (by kernel_rfl) (by kernel_rfl) rfl (by rfl) (by kernel_rfl) K7 ?hB47 ?rB47
          case hB47 =>
            intro w' hSw
            obtain ⟨k0, k1, k2, k3⟩ := hSw
            go_simp
            try with_reducible rfl
          simp only [List.setIfInBounds_toArray, List.set_cons_zero, List.set_cons_succ]
          refine hold_call (i := 45) (d := 81) (listed' := #[true, true, true, true, true, true, true, true, true, true, true, true, true, true, true, true, true, true, true, true, true, true, true, true, true, true, true, true, true, true, true, true, true, true, true, true, true, true, true, true, true, true, true, true, true, true, false, true, false, false, false]) rfl (by kernel_rfl) rfl (by rfl) (by kernel_rfl) ?heB45 (NotOf_any (nc := nc) (x := (b : Int)) Hd7.out.log) ?hcB45
          case heB45 => go_simp
          rintro e x8 ⟨rfl, bb8⟩
          rw [NB.out]
          have Hd8 := Lib.hid (Hd7.out.step bb8)
          have K8 := (show _ ∧ _ ∧ _ ∧ _ from ⟨Hd8.out.box.c0, Hd8.out.box.c1, (Hd8.out.log.mat.sq HS.out ha hb).2.1, (Hd8.out.log.mat.sq HS.out ha hb).2.2.trans (by rw [HZ.out])⟩)
          clear Hd7 K7 bb8
          refine ⟨_, rfl, K8, ?_⟩
          simp only [List.setIfInBounds_toArray, List.set_cons_zero, List.set_cons_succ]
          refine hold_call (i := 46) (d := 82) (listed' := #[true, true, true, true, true, true, true, true, true, true, true, true, true, true, true, true, true, true, true, true, true, true, true, true, true, true, true, true, true, true, true, true, true, true, true, true, true, true, true, true, true, true, true, true, true, true, true, true, false, false, false]) rfl (by kernel_rfl) rfl (by rfl) (by kernel_rfl) ?heB46 (WithOk_any (nc := nc) (x := (a : Int)) (v := ((y b : Nat) : Int)) Hd8.out.log) ?hcB46
          case heB46 => go_simp
          rintro e x9 ⟨rfl, bb9⟩
          rw [Q6.out]
          have Hd9 := Lib.hid (Hd8.out.step bb9)
          have K9 := (show _ ∧ _ ∧ _ ∧ _ from ⟨Hd9.out.box.c0, Hd9.out.box.c1, (Hd9.out.log.mat.sq HS.out ha hb).2.1, (Hd9.out.log.mat.sq HS.out ha hb).2.2.trans (by rw [HZ.out])⟩)
          clear Hd8 K8 bb9
          refine ⟨_, rfl, K9, ?_⟩
          simp only [List.setIfInBounds_toArray, List.set_cons_zero, List.set_cons_succ]
          refine hold_take (i := 48) (d := 84) (v := ?vB48) (listed' := #[true, true, true, true, true, true, true, true, true, true, true, true, true, true, true, true, true, true, true, true, true, true, true, true, true, true, true, true, true, true, true, true, true, true, true, true, true, true, true, true, true, true, true, true, true, true, true, true, true, false, false]) rfl (by kernel_rfl) (by kernel_rfl) (by kernel_rfl) rfl (by rfl) (by kernel_rfl) K9 ?hB48 ?rB48
          case hB48 =>
            intro w' hSw
            obtain ⟨k0, k1, k2, k3⟩ := hSw
            go_simp
            try with_reducible rfl
          simp only [List.setIfInBounds_toArray, List.set_cons_zero, List.set_cons_succ]
          refine hold_take (i := 49) (d := 85) (v := ?vB49) (listed' := #[true, true, true, true, true, true, true, true, true, true, true, true, true, true, true, true, true, true, true, true, true, true, true, true, true, true, true, true, true, true, true, true, true, true, true, true, true, true, true, true, true, true, true, true, true, true, true, true, true, true, false]) rfl (by kernel_rfl) (by kernel_rfl) (by kernel_rfl) rfl (by rfl) (by kernel_rfl) K9 ?hB49 ?rB49
          case hB49 =>
            intro w' hSw
            obtain ⟨k0, k1, k2, k3⟩ := hSw
            go_simp
            try with_reducible rfl
          simp only [List.setIfInBounds_toArray, List.set_cons_zero, List.set_cons_succ]
          refine hold_take (i := 50) (d := 2) (v := ?vB50) (listed' := #[true, true, true, true, true, true, true, true, true, true, true, true, true, true, true, true, true, true, true, true, true, true, true, true, true, true, true, true, true, true, true, true, true, true, true, true, true, true, true, true, true, true, true, true, true, true, true, true, true, true, true]) rfl (by kernel_rfl) (by kernel_rfl) (by kernel_rfl) rfl (by rfl) (by kernel_rfl) K9 ?hB50 ?rB50
          case hB50 =>
            intro w' hSw
            obtain ⟨k0, k1, k2, k3⟩ := hSw
            go_simp
            try with_reducible rfl
          simp only [List.setIfInBounds_toArray, List.set_cons_zero, List.set_cons_succ]
          refine hold_done (by kernel_rfl) ?_ _
          go_wp2_with fail
          go_ret
          exact ⟨rfl, Hd9.out.old⟩
        | false =>
          have Q6 : Hid (withV m k zz (a : Int) ((y b : Nat) : Int) = false) := by show _ = _; rw [P6, hag]
          clear P6 hag
          go_wp2_with fail
          go_at_call 15
          refine (spec_AndOf H3.log).mono ?_
          rintro e w4 ⟨rfl, b4⟩
          rw [N0.out]
          have H4 := H3.step b4
          clear H3 q0 q1 b4
          have q0 := H4.box.c0
          have q1 := H4.box.c1
          go_wp2_with fail
          have Hd0 := Lib.hid (H4.step (Below.refl _ w4).drew)
          have K0 := (show _ ∧ _ ∧ _ ∧ _ from ⟨Hd0.out.box.c0, Hd0.out.box.c1, (Hd0.out.log.mat.sq HS.out ha hb).2.1, (Hd0.out.log.mat.sq HS.out ha hb).2.2.trans (by rw [HZ.out])⟩)
          clear H4 q0 q1
          refine region_plain (fuel := 51) (listed := #[false, false, false, false, false, false, false, false, false, false, false, false, false, false, false, false, false, false, false, false, false, false, false, false, false, false, false, false, false, false, false, false, false, false, false, false, false, false, false, false, false, false, false, false, false, false, false, false, false, false, false]) (fun w' => w'.cell? ⟨w1.heap.size, 0, none⟩ = some (.slice (some ⟨l.b, l.o, none⟩) m.n l.cap) ∧ w'.cell? ⟨w1.heap.size, 1, none⟩ = some (.slice na k nc) ∧ w'.cell? ⟨l.b, l.o + a, none⟩ = some (.slice (some ⟨l.G a, l.O a, none⟩) m.n (l.C a)) ∧ w'.cell? ⟨l.G a, l.O a + b, none⟩ = some (.int .i64 0)) (by kernel_rfl) (by kernel_rfl) (by kernel_rfl) ?_
          refine hold_take (i := 0) (d := 36) (v := ?vC0) (listed' := #[true, false, false, false, false, false, false, false, false, false, false, false, false, false, false, false, false, false, false, false, false, false, false, false, false, false, false, false, false, false, false, false, false, false, false, false, false, false, false, false, false, false, false, false, false, false, false, false, false, false, false]) rfl (by kernel_rfl) (by kernel_rfl) (by kernel_rfl) rfl (by rfl) (by kernel_rfl) K0 ?hC0 ?rC0
          case hC0 =>
            intro w' hSw
            obtain ⟨k0, k1, k2, k3⟩ := hSw
            go_simp
            try with_reducible rfl
          simp only [List.setIfInBounds_toArray, List.set_cons_zero, List.set_cons_succ]
          refine hold_take (i := 1) (d := 37) (v := ?vC1) (listed' := #[true, true, false, false, false, false, false, false, false, false, false, false, false, false, false, false, false, false, false, false, false, false, false, false, false, false, false, false, false, false, false, false, false, false, false, false, false, false, false, false, false, false, false, false, false, false, false, false, false, false, false]) rfl (by kernel_rfl) (by kernel_rfl) (by kernel_rfl) rfl (by rfl) (by kernel_rfl) K0 ?hC1 ?rC1
          case hC1 =>
            intro w' hSw
            obtain ⟨k0, k1, k2, k3⟩ := hSw
            go_simp
            try with_reducible rfl
          simp only [List.setIfInBounds_toArray, List.set_cons_zero, List.set_cons_succ]
          refine hold_take (i := 2) (d := 38) (v := ?vC2) (listed' := #[true, true, true, false, false, false, false, false, false, false, false, false, false, false, false, false, false, false, false, false, false, false, false, false, false, false, false, false, false, false, false, false, false, false, false, false, false, false, false, false, false, false, false, false, false, false, false, false, false, false, false]) rfl (by kernel_rfl) (by kernel_rfl) (by kernel_rfl) rfl (by rfl) (by kernel_rfl) K0 ?hC2 ?rC2
          case hC2 =>
            intro w' hSw
            obtain ⟨k0, k1, k2, k3⟩ := hSw
            go_simp
            try with_reducible rfl
          simp only [List.setIfInBounds_toArray, List.set_cons_zero, List.set_cons_succ]
          refine hold_call (i := 3) (d := 39) (listed' := #[true, true, true, true, false, false, false, false, false, false, false, false, false, false, false, false, false, false, false, false, false, false, false, false, false, false, false, false, false, false, false, false, false, false, false, false, false, false, false, false, false, false, false, false, false, false, false, false, false, false, false]) rfl (by kernel_rfl) rfl (by rfl) (by kernel_rfl) ?heC3 (WithOk_any (nc := nc) (x := (a : Int)) (v := (a : Int)) Hd0.out.log) ?hcC3
          case heC3 => go_simp
          rintro e x1 ⟨rfl, bb1⟩
          rw [P1.out]
          have Hd1 := Lib.hid (Hd0.out.step bb1)
          have K1 := (show _ ∧ _ ∧ _ ∧ _ from ⟨Hd1.out.box.c0, Hd1.out.box.c1, (Hd1.out.log.mat.sq HS.out ha hb).2.1, (Hd1.out.log.mat.sq HS.out ha hb).2.2.trans (by rw [HZ.out])⟩)
          clear Hd0 K0 bb1
          refine ⟨_, rfl, K1, ?_⟩
          simp only [List.setIfInBounds_toArray, List.set_cons_zero, List.set_cons_succ]
          refine hold_take (i := 4) (d := 40) (v := ?vC4) (listed' := #[true, true, true, true, true, false, false, false, false, false, false, false, false, false, false, false, false, false, false, false, false, false, false, false, false, false, false, false, false, false, false, false, false, false, false, false, false, false, false, false, false, false, false, false, false, false, false, false, false, false, false]) rfl (by kernel_rfl) (by kernel_rfl) (by kernel_rfl) rfl (by rfl) (by kernel_rfl) K1 ?hC4 ?rC4
          case hC4 =>
            intro w' hSw
            obtain ⟨k0, k1, k2, k3⟩ := hSw
            go_simp
            try with_reducible rfl
          simp only [List.setIfInBounds_toArray, List.set_cons_zero, List.set_cons_succ]
          refine hold_take (i := 5) (d := 41) (v := ?vC5) (listed' := #[true, true, true, true, true, true, false, false, false, false, false, false, false, false, false, false, false, false, false, false, false, false, false, false, false, false, false, false, false, false, false, false, false, false, false, false, false, false, false, false, false, false, false, false, false, false, false, false, false, false, false]) rfl (by kernel_rfl) (by kernel_rfl) (by kernel_rfl) rfl (by rfl) (by kernel_rfl) K1 ?hC5 ?rC5
          case hC5 =>
            intro w' hSw
            obtain ⟨k0, k1, k2, k3⟩ := hSw
            go_simp
            try with_reducible rfl
          simp only [List.setIfInBounds_toArray, List.set_cons_zero, List.set_cons_succ]
          refine hold_take (i := 6) (d := 42) (v := ?vC6) (listed' := #[true, true, true, true, true, true, true, false, false, false, false, false, false, false, false, false, false, false, false, false, false, false, false, false, false, false, false, false, false, false, false, false, false, false, false, false, false, false, false, false, false, false, false, false, false, false, false, false, false, false, false]) rfl (by kernel_rfl) (by kernel_rfl) (by kernel_rfl) rfl (by rfl) (by kernel_rfl) K1 ?hC6 ?rC6
          case hC6 =>
            intro w' hSw
            obtain ⟨k0, k1, k2, k3⟩ := hSw
            go_simp
            try with_reducible rfl
          simp only [List.setIfInBounds_toArray, List.set_cons_zero, List.set_cons_succ]
          refine hold_take (i := 7) (d := 43) (v := ?vC7) (listed' := #[true, true, true, true, true, true, true, true, false, false, false, false, false, false, false, false, false, false, false, false, false, false, false, false, false, false, false, false, false, false, false, false, false, false, false, false, false, false, false, false, false, false, false, false, false, false, false, false, false, false, false]) rfl (by kernel_rfl) (by kernel_rfl) (by kernel_rfl) rfl (by rfl) (by kernel_rfl) K1 ?hC7 ?rC7
          case hC7 =>
            intro w' hSw
            obtain ⟨k0, k1, k2, k3⟩ := hSw
            go_simp
            try with_reducible rfl
          simp only [List.setIfInBounds_toArray, List.set_cons_zero, List.set_cons_succ]
          refine hold_take (i := 8) (d := 44) (v := ?vC8) (listed' := #[true, true, true, true, true, true, true, true, true, false, false, false, false, false, false, false, false, false, false, false, false, false, false, false, false, false, false, false, false, false, false, false, false, false, false, false, false, false, false, false, false, false, false, false, false, false, false, false, false, false, false]) rfl (by kernel_rfl) (by kernel_rfl) (by kernel_rfl) rfl (by rfl) (by kernel_rfl) K1 ?hC8 ?rC8
          case hC8 =>
            intro w' hSw
            obtain ⟨k0, k1, k2, k3⟩ := hSw
            go_simp
            try with_reducible rfl
          simp only [List.setIfInBounds_toArray, List.set_cons_zero, List.set_cons_succ]
          refine hold_call (i := 9) (d := 45) (listed' := #[true, true, true, true, true, true, true, true, true, true, false, false, false, false, false, false, false, false, false, false, false, false, false, false, false, false, false, false, false, false, false, false, false, false, false, false, false, false, false, false, false, false, false, false, false, false, false, false, false, false, false]) rfl (by kernel_rfl) rfl (by rfl) (by kernel_rfl) ?heC9 (NotOf_any (nc := nc) (x := (a : Int)) Hd1.out.log) ?hcC9
          case heC9 => go_simp
          rintro e x2 ⟨rfl, bb2⟩
          rw [NA.out]
          have Hd2 := Lib.hid (Hd1.out.step bb2)
          have K2 := (show _ ∧ _ ∧ _ ∧ _ from ⟨Hd2.out.box.c0, Hd2.out.box.c1, (Hd2.out.log.mat.sq HS.out ha hb).2.1, (Hd2.out.log.mat.sq HS.out ha hb).2.2.trans (by rw [HZ.out])⟩)
          clear Hd1 K1 bb2
          refine ⟨_, rfl, K2, ?_⟩
          simp only [List.setIfInBounds_toArray, List.set_cons_zero, List.set_cons_succ]
          refine hold_call (i := 10) (d := 46) (listed' := #[true, true, true, true, true, true, true, true, true, true, true, false, false, false, false, false, false, false, false, false, false, false, false, false, false, false, false, false, false, false, false, false, false, false, false, false, false, false, false, false, false, false, false, false, false, false, false, false, false, false, false]) rfl (by kernel_rfl) rfl (by rfl) (by kernel_rfl) ?heC10 (WithOk_any (nc := nc) (x := (a : Int)) (v := ((y a : Nat) : Int)) Hd2.out.log) ?hcC10
          case heC10 => go_simp
          rintro e x3 ⟨rfl, bb3⟩
          rw [P2.out]
          have Hd3 := Lib.hid (Hd2.out.step bb3)
          have K3 := (show _ ∧ _ ∧ _ ∧ _ from ⟨Hd3.out.box.c0, Hd3.out.box.c1, (Hd3.out.log.mat.sq HS.out ha hb).2.1, (Hd3.out.log.mat.sq HS.out ha hb).2.2.trans (by rw [HZ.out])⟩)
          clear Hd2 K2 bb3
          refine ⟨_, rfl, K3, ?_⟩
          simp only [List.setIfInBounds_toArray, List.set_cons_zero, List.set_cons_succ]
          refine hold_take (i := 11) (d := 47) (v := ?vC11) (listed' := #[true, true, true, true, true, true, true, true, true, true, true, true, false, false, false, false, false, false, false, false, false, false, false, false, false, false, false, false, false, false, false, false, false, false, false, false, false, false, false, false, false, false, false, false, false, false, false, false, false, false, false]) rfl (by kernel_rfl) (by kernel_rfl) (by kernel_rfl) rfl (by rfl) (by kernel_rfl) K3 ?hC11 ?rC11
          case hC11 =>
            intro w' hSw
            obtain ⟨k0, k1, k2, k3⟩ := hSw
            go_simp
            try with_reducible rfl
          simp only [List.setIfInBounds_toArray, List.set_cons_zero, List.set_cons_succ]
          refine hold_take (i := 12) (d := 48) (v := ?vC12) (listed' := #[true, true, true, true, true, true, true, true, true, true, true, true, true, false, false, false, false, false, false, false, false, false, false, false, false, false, false, false, false, false, false, false, false, false, false, false, false, false, false, false, false, false, false, false, false, false, false, false, false, false, false]) rfl (by kernel_rfl) (by kernel_rfl) (by kernel_rfl) rfl (by rfl) (by kernel_rfl) K3 ?hC12 ?rC12
          case hC12 =>
            intro w' hSw
            obtain ⟨k0, k1, k2, k3⟩ := hSw
            go_simp
            try with_reducible rfl
          simp only [List.setIfInBounds_toArray, List.set_cons_zero, List.set_cons_succ]
          refine hold_take (i := 13) (d := 49) (v := ?vC13) (listed' := #[true, true, true, true, true, true, true, true, true, true, true, true, true, true, false, false, false, false, false, false, false, false, false, false, false, false, false, false, false, false, false, false, false, false, false, false, false, false, false, false, false, false, false, false, false, false, false, false, false, false, false]) rfl (by kernel_rfl) (by kernel_rfl) (by kernel_rfl) rfl (by rfl) (by kernel_rfl) K3 ?hC13 ?rC13
          case hC13 =>
            intro w' hSw
            obtain ⟨k0, k1, k2, k3⟩ := hSw
            go_simp
            try with_reducible rfl
          simp only [List.setIfInBounds_toArray, List.set_cons_zero, List.set_cons_succ]
          refine hold_take (i := 14) (d := 50) (v := ?vC14) (listed' := #[true, true, true, true, true, true, true, true, true, true, true, true, true, true, true, false, false, false, false, false, false, false, false, false, false, false, false, false, false, false, false, false, false, false, false, false, false, false, false, false, false, false, false, false, false, false, false, false, false, false, false]) rfl (by kernel_rfl) (by kernel_rfl) (by kernel_rfl) rfl (by rfl) (by kernel_rfl) K3 ?hC14 ?rC14
          case hC14 =>
            intro w' hSw
            obtain ⟨k0, k1, k2, k3⟩ := hSw
            go_simp
            try with_reducible rfl
          simp only [List.setIfInBounds_toArray, List.set_cons_zero, List.set_cons_succ]
          refine hold_take (i := 15) (d := 51) (v := ?vC15) (listed' := #[true, true, true, true, true, true, true, true, true, true, true, true, true, true, true, true, false, false, false, false, false, false, false, false, false, false, false, false, false, false, false, false, false, false, false, false, false, false, false, false, false, false, false, false, false, false, false, false, false, false, false]) rfl (by kernel_rfl) (by kernel_rfl) (by kernel_rfl) rfl (by rfl) (by kernel_rfl) K3 ?hC15 ?rC15
          case hC15 =>
            intro w' hSw
            obtain ⟨k0, k1, k2, k3⟩ := hSw
            go_simp
            try with_reducible rfl
          simp only [List.setIfInBounds_toArray, List.set_cons_zero, List.set_cons_succ]
          refine hold_call (i := 16) (d := 52) (listed' := #[true, true, true, true, true, true, true, true, true, true, true, true, true, true, true, true, true, false, false, false, false, false, false, false, false, false, false, false, false, false, false, false, false, false, false, false, false, false, false, false, false, false, false, false, false, false, false, false, false, false, false]) rfl (by kernel_rfl) rfl (by rfl) (by kernel_rfl) ?heC16 (NoOf_any (nc := nc) Hd3.out.log) ?hcC16
          case heC16 => go_simp
          rintro e x4 ⟨rfl, bb4⟩
          rw [NO.out]
          have Hd4 := Lib.hid (Hd3.out.step bb4)
          have K4 := (show _ ∧ _ ∧ _ ∧ _ from ⟨Hd4.out.box.c0, Hd4.out.box.c1, (Hd4.out.log.mat.sq HS.out ha hb).2.1, (Hd4.out.log.mat.sq HS.out ha hb).2.2.trans (by rw [HZ.out])⟩)
          clear Hd3 K3 bb4
          refine ⟨_, rfl, K4, ?_⟩
          simp only [List.setIfInBounds_toArray, List.set_cons_zero, List.set_cons_succ]
          refine hold_call (i := 17) (d := 53) (listed' := #[true, true, true, true, true, true, true, true, true, true, true, true, true, true, true, true, true, true, false, false, false, false, false, false, false, false, false, false, false, false, false, false, false, false, false, false, false, false, false, false, false, false, false, false, false, false, false, false, false, false, false]) rfl (by kernel_rfl) rfl (by rfl) (by kernel_rfl) ?heC17 (WithOk_any (nc := nc) (x := (a : Int)) (v := (o3 : Int)) Hd4.out.log) ?hcC17
          case heC17 => go_simp
          rintro e x5 ⟨rfl, bb5⟩
          rw [P3.out]
          have Hd5 := Lib.hid (Hd4.out.step bb5)
          have K5 := (show _ ∧ _ ∧ _ ∧ _ from ⟨Hd5.out.box.c0, Hd5.out.box.c1, (Hd5.out.log.mat.sq HS.out ha hb).2.1, (Hd5.out.log.mat.sq HS.out ha hb).2.2.trans (by rw [HZ.out])⟩)
          clear Hd4 K4 bb5
          refine ⟨_, rfl, K5, ?_⟩
          simp only [List.setIfInBounds_toArray, List.set_cons_zero, List.set_cons_succ]
          refine hold_take (i := 18) (d := 54) (v := ?vC18) (listed' := #[true, true, true, true, true, true, true, true, true, true, true, true, true, true, true, true, true, true, true, false, false, false, false, false, false, false, false, false, false, false, false, false, false, false, false, false, false, false, false, false, false, false, false, false, false, false, false, false, false, false, false]) rfl (by kernel_rfl) (by kernel_rfl) (by kernel_rfl) rfl (by rfl) (by kernel_rfl) K5 ?hC18 ?rC18
          case hC18 =>
            intro w' hSw
            obtain ⟨k0, k1, k2, k3⟩ := hSw
            go_simp
            try with_reducible rfl
          simp only [List.setIfInBounds_toArray, List.set_cons_zero, List.set_cons_succ]
          refine hold_take (i := 19) (d := 55) (v := ?vC19) (listed' := #[true, true, true, true, true, true, true, true, true, true, true, true, true, true, true, true, true, true, true, true, false, false, false, false, false, false, false, false, false, false, false, false, false, false, false, false, false, false, false, false, false, false, false, false, false, false, false, false, false, false, false]) rfl (by kernel_rfl) (by kernel_rfl) (by kernel_rfl) rfl (by rfl) (by kernel_rfl) K5 ?hC19 ?rC19
          case hC19 =>
            intro w' hSw
            obtain ⟨k0, k1, k2, k3⟩ := hSw
            go_simp
            try with_reducible rfl
          simp only [List.setIfInBounds_toArray, List.set_cons_zero, List.set_cons_succ]
          refine hold_take (i := 20) (d := 56) (v := ?vC20) (listed' := #[true, true, true, true, true, true, true, true, true, true, true, true, true, true, true, true, true, true, true, true, true, false, false, false, false, false, false, false, false, false, false, false, false, false, false, false, false, false, false, false, false, false, false, false, false, false, false, false, false, false, false]) rfl (by kernel_rfl) (by kernel_rfl) (by kernel_rfl) rfl (by rfl) (by kernel_rfl) K5 ?hC20 ?rC20
          case hC20 =>
            intro w' hSw
            obtain ⟨k0, k1, k2, k3⟩ := hSw
            go_simp
            try with_reducible rfl
          simp only [List.setIfInBounds_toArray, List.set_cons_zero, List.set_cons_succ]
          refine hold_take (i := 21) (d := 57) (v := ?vC21) (listed' := #[true, true, true, true, true, true, true, true, true, true, true, true, true, true, true, true, true, true, true, true, true, true, false, false, false, false, false, false, false, false, false, false, false, false, false, false, false, false, false, false, false, false, false, false, false, false, false, false, false, false, false]) rfl (by kernel_rfl) (by kernel_rfl) (by kernel_rfl) rfl (by rfl) (by kernel_rfl) K5 ?hC21 ?rC21
          case hC21 =>
            intro w' hSw
            obtain ⟨k0, k1, k2, k3⟩ := hSw
            go_simp
            try with_reducible rfl
          simp only [List.setIfInBounds_toArray, List.set_cons_zero, List.set_cons_succ]
          refine hold_take (i := 22) (d := 58) (v := ?vC22) (listed' := #[true, true, true, true, true, true, true, true, true, true, true, true, true, true, true, true, true, true, true, true, true, true, true, false, false, false, false, false, false, false, false, false, false, false, false, false, false, false, false, false, false, false, false, false, false, false, false, false, false, false, false]) rfl (by kernel_rfl) (by kernel_rfl) (by kernel_rfl) rfl (by rfl) (by kernel_rfl) K5 ?hC22 ?rC22
          case hC22 =>
            intro w' hSw
            obtain ⟨k0, k1, k2, k3⟩ := hSw
            go_simp
            try with_reducible rfl
          simp only [List.setIfInBounds_toArray, List.set_cons_zero, List.set_cons_succ]
          refine hold_call (i := 23) (d := 59) (listed' := #[true, true, true, true, true, true, true, true, true, true, true, true, true, true, true, true, true, true, true, true, true, true, true, true, false, false, false, false, false, false, false, false, false, false, false, false, false, false, false, false, false, false, false, false, false, false, false, false, false, false, false]) rfl (by kernel_rfl) rfl (by rfl) (by kernel_rfl) ?heC23 (YesOf_any (nc := nc) Hd5.out.log) ?hcC23
          case heC23 => go_simp
          rintro e x6 ⟨rfl, bb6⟩
          rw [NY.out]
          have Hd6 := Lib.hid (Hd5.out.step bb6)
          have K6 := (show _ ∧ _ ∧ _ ∧ _ from ⟨Hd6.out.box.c0, Hd6.out.box.c1, (Hd6.out.log.mat.sq HS.out ha hb).2.1, (Hd6.out.log.mat.sq HS.out ha hb).2.2.trans (by rw [HZ.out])⟩)
          clear Hd5 K5 bb6
          refine ⟨_, rfl, K6, ?_⟩
          simp only [List.setIfInBounds_toArray, List.set_cons_zero, List.set_cons_succ]
          refine hold_call (i := 24) (d := 60) (listed' := #[true, true, true, true, true, true, true, true, true, true, true, true, true, true, true, true, true, true, true, true, true, true, true, true, true, false, false, false, false, false, false, false, false, false, false, false, false, false, false, false, false, false, false, false, false, false, false, false, false, false, false]) rfl (by kernel_rfl) rfl (by rfl) (by kernel_rfl) ?heC24 (WithOk_any (nc := nc) (x := (a : Int)) (v := ((y o3 : Nat) : Int)) Hd6.out.log) ?hcC24
          case heC24 => go_simp
          rintro e x7 ⟨rfl, bb7⟩
          rw [P4.out]
          have Hd7 := Lib.hid (Hd6.out.step bb7)
          have K7 := (show _ ∧ _ ∧ _ ∧ _ from ⟨Hd7.out.box.c0, Hd7.out.box.c1, (Hd7.out.log.mat.sq HS.out ha hb).2.1, (Hd7.out.log.mat.sq HS.out ha hb).2.2.trans (by rw [HZ.out])⟩)
          clear Hd6 K6 bb7
          refine ⟨_, rfl, K7, ?_⟩
          simp only [List.setIfInBounds_toArray, List.set_cons_zero, List.set_cons_succ]
          refine hold_take (i := 25) (d := 61) (v := ?vC25) (listed' := #[true, true, true, true, true, true, true, true, true, true, true, true, true, true, true, true, true, true, true, true, true, true, true, true, true, true, false, false, false, false, false, false, false, false, false, false, false, false, false, false, false, false, false, false, false, false, false, false, false, false, false]) rfl (by kernel_rfl) (by kernel_rfl) (by kernel_rfl) rfl (by rfl) (by kernel_rfl) K7 ?hC25 ?rC25
          case hC25 =>
            intro w' hSw
            obtain ⟨k0, k1, k2, k3⟩ := hSw
            go_simp
            try with_reducible rfl
          simp only [List.setIfInBounds_toArray, List.set_cons_zero, List.set_cons_succ]
          refine hold_take (i := 26) (d := 62) (v := ?vC26) (listed' := #[true, true, true, true, true, true, true, true, true, true, true, true, true, true, true, true, true, true, true, true, true, true, true, true, true, true, true, false, false, false, false, false, false, false, false, false, false, false, false, false, false, false, false, false, false, false, false, false, false, false, false]) rfl (by kernel_rfl) (by kernel_rfl) (by kernel_rfl) rfl (by rfl) (by kernel_rfl) K7 ?hC26 ?rC26
          case hC26 =>
            intro w' hSw
            obtain ⟨k0, k1, k2, k3⟩ := hSw
            go_simp
            try with_reducible rfl
          simp only [List.setIfInBounds_toArray, List.set_cons_zero, List.set_cons_succ]
          refine hold_take (i := 27) (d := 63) (v := ?vC27) (listed' := #[true, true, true, true, true, true, true, true, true, true, true, true, true, true, true, true, true, true, true, true, true, true, true, true, true, true, true, true, false, false, false, false, false, false, false, false, false, false, false, false, false, false, false, false, false, false, false, false, false, false, false]) rfl (by kernel_rfl) (by kernel_rfl) (by kernel_rfl) rfl (by rfl) (by kernel_rfl) K7 ?hC27 ?rC27
          case hC27 =>
            intro w' hSw
            obtain ⟨k0, k1, k2, k3⟩ := hSw
            go_simp
            try with_reducible rfl
          simp only [List.setIfInBounds_toArray, List.set_cons_zero, List.set_cons_succ]
          refine hold_take (i := 28) (d := 64) (v := ?vC28) (listed' := #[true, true, true, true, true, true, true, true, true, true, true, true, true, true, true, true, true, true, true, true, true, true, true, true, true, true, true, true, true, false, false, false, false, false, false, false, false, false, false, false, false, false, false, false, false, false, false, false, false, false, false]) rfl (by kernel_rfl) (by kernel_rfl) (by kernel_rfl) rfl (by rfl) (by kernel_rfl) K7 ?hC28 ?rC28
          case hC28 =>
            intro w' hSw
            obtain ⟨k0, k1, k2, k3⟩ := hSw
            go_simp
            try with_reducible rfl
          simp only [List.setIfInBounds_toArray, List.set_cons_zero, List.set_cons_succ]
          refine hold_take (i := 29) (d := 65) (v := ?vC29) (listed' := #[true, true, true, true, true, true, true, true, true, true, true, true, true, true, true, true, true, true, true, true, true, true, true, true, true, true, true, true, true, true, false, false, false, false, false, false, false, false, false, false, false, false, false, false, false, false, false, false, false, false, false]) rfl (by kernel_rfl) (by kernel_rfl) (by kernel_rfl) rfl (by rfl) (by kernel_rfl) K7 ?hC29 ?rC29
          case hC29 =>
            intro w' hSw
            obtain ⟨k0, k1, k2, k3⟩ := hSw
            go_simp
            try with_reducible rfl
          simp only [List.setIfInBounds_toArray, List.set_cons_zero, List.set_cons_succ]
          refine hold_take (i := 30) (d := 66) (v := ?vC30) (listed' := #[true, true, true, true, true, true, true, true, true, true, true, true, true, true, true, true, true, true, true, true, true, true, true, true, true, true, true, true, true, true, true, false, false, false, false, false, false, false, false, false, false, false, false, false, false, false, false, false, false, false, false]) rfl (by kernel_rfl) (by kernel_rfl) (by kernel_rfl) rfl (by rfl) (by kernel_rfl) K7 ?hC30 ?rC30
          case hC30 =>
            intro w' hSw
            obtain ⟨k0, k1, k2, k3⟩ := hSw
            go_simp
            try with_reducible rfl
          simp only [List.setIfInBounds_toArray, List.set_cons_zero, List.set_cons_succ]
          refine hold_take (i := 31) (d := 67) (v := ?vC31) (listed' := #[true, true, true, true, true, true, true, true, true, true, true, true, true, true, true, true, true, true, true, true, true, true, true, true, true, true, true, true, true, true, true, true, false, false, false, false, false, false, false, false, false, false, false, false, false, false, false, false, false, false, false]) rfl (by kernel_rfl) (by kernel_rfl) (by kernel_rfl) rfl (by rfl) (by kernel_rfl) K7 ?hC31 ?rC31
          case hC31 =>
            intro w' hSw
            obtain ⟨k0, k1, k2, k3⟩ := hSw
            go_simp
            try with_reducible rfl
          simp only [List.setIfInBounds_toArray, List.set_cons_zero, List.set_cons_succ]
          refine hold_take (i := 32) (d := 68) (v := ?vC32) (listed' := #[true, true, true, true, true, true, true, true, true, true, true, true, true, true, true, true, true, true, true, true, true, true, true, true, true, true, true, true, true, true, true, true, true, false, false, false, false, false, false, false, false, false, false, false, false, false, false, false, false, false, false]) rfl (by kernel_rfl) (by kernel_rfl) (by kernel_rfl) rfl (by rfl) (by kernel_rfl) K7 ?hC32 ?rC32
          case hC32 =>
            intro w' hSw
            obtain ⟨k0, k1, k2, k3⟩ := hSw
            go_simp
            try with_reducible rfl
          simp only [List.setIfInBounds_toArray, List.set_cons_zero, List.set_cons_succ]
          refine hold_take (i := 33) (d := 69) (v := ?vC33) (listed' := #[true, true, true, true, true, true, true, true, true, true, true, true, true, true, true, true, true, true, true, true, true, true, true, true, true, true, true, true, true, true, true, true, true, true, false, false, false, false, false, false, false, false, false, false, false, false, false, false, false, false, false]) rfl (by kernel_rfl) (by kernel_rfl) (by kernel_rfl) rfl (by rfl) (by kernel_rfl) K7 ?hC33 ?rC33
          case hC33 =>
            intro w' hSw
            obtain ⟨k0, k1, k2, k3⟩ := hSw
            go_simp
            try with_reducible rfl
          simp only [List.setIfInBounds_toArray, List.set_cons_zero, List.set_cons_succ]
          refine hold_take (i := 34) (d := 70) (v := ?vC34) (listed' := #[true, true, true, true, true, true, true, true, true, true, true, true, true, true, true, true, true, true, true, true, true, true, true, true, true, true, true, true, true, true, true, true, true, true, true, false, false, false, false, false, false, false, false, false, false, false, false, false, false, false, false]) rfl (by kernel_rfl) (by kernel_rfl) (by kernel_rfl) rfl (by rfl) (by kernel_rfl) K7 ?hC34 ?rC34
          case hC34 =>
            intro w' hSw
            obtain ⟨k0, k1, k2, k3⟩ := hSw
            go_simp
            try with_reducible rfl
          simp only [List.setIfInBounds_toArray, List.set_cons_zero, List.set_cons_succ]
          refine hold_take (i := 35) (d := 71) (v := ?vC35) (listed' := #[true, true, true, true, true, true, true, true, true, true, true, true, true, true, true, true, true, true, true, true, true, true, true, true, true, true, true, true, true, true, true, true, true, true, true, true, false, false, false, false, false, false, false, false, false, false, false, false, false, false, false]) rfl (by kernel_rfl) (by kernel_rfl) (by kernel_rfl) rfl (by rfl) (by kernel_rfl) K7 ?hC35 ?rC35
          case hC35 =>
            intro w' hSw
            obtain ⟨k0, k1, k2, k3⟩ := hSw
            go_simp
            try with_reducible rfl
          simp only [List.setIfInBounds_toArray, List.set_cons_zero, List.set_cons_succ]
          refine hold_take (i := 36) (d := 72) (v := ?vC36) (listed' := #[true, true, true, true, true, true, true, true, true, true, true, true, true, true, true, true, true, true, true, true, true, true, true, true, true, true, true, true, true, true, true, true, true, true, true, true, true, false, false, false, false, false, false, false, false, false, false, false, false, false, false]) rfl (by kernel_rfl) (by kernel_rfl) (by kernel_rfl) rfl (by rfl) (by kernel_rfl) K7 ?hC36 ?rC36
          case hC36 =>
            intro w' hSw
            obtain ⟨k0, k1, k2, k3⟩ := hSw
            go_simp
            try with_reducible rfl
          simp only [List.setIfInBounds_toArray, List.set_cons_zero, List.set_cons_succ]
          refine hold_skip (i := 37) (d := 73) (listed' := #[true, true, true, true, true, true, true, true, true, true, true, true, true, true, true, true, true, true, true, true, true, true, true, true, true, true, true, true, true, true, true, true, true, true, true, true, true, true, false, false, false, false, false, false, false, false, false, false, false, false, false]) rfl (by kernel_rfl) (by kernel_rfl) (by kernel_rfl) rfl (by rfl) (by kernel_rfl) K7 ?_
          simp only [List.setIfInBounds_toArray, List.set_cons_zero, List.set_cons_succ]
          refine hold_take (i := 38) (d := 74) (v := ?vC38) (listed' := #[true, true, true, true, true, true, true, true, true, true, true, true, true, true, true, true, true, true, true, true, true, true, true, true, true, true, true, true, true, true, true, true, true, true, true, true, true, true, true, false, false, false, false, false, false, false, false, false, false, false, false]) rfl (by kernel_rfl) (by kernel_rfl) (by kernel_rfl) rfl (by rfl) (by kernel_rfl) K7 ?hC38 ?rC38
          case hC38 =>
            intro w' hSw
            obtain ⟨k0, k1, k2, k3⟩ := hSw
            go_simp
            try with_reducible rfl
          simp only [List.setIfInBounds_toArray, List.set_cons_zero, List.set_cons_succ]
          refine hold_take (i := 39) (d := 75) (v := ?vC39) (listed' := #[true, true, true, true, true, true, true, true, true, true, true, true, true, true, true, true, true, true, true, true, true, true, true, true, true, true, true, true, true, true, true, true, true, true, true, true, true, true, true, true, false, false, false, false, false, false, false, false, false, false, false]) rfl (by kernel_rfl) (by kernel_rfl) (by kernel_rfl) rfl (by rfl) (by kernel_rfl) K7 ?hC39 ?rC39
          case hC39 =>
            intro w' hSw
            obtain ⟨k0, k1, k2, k3⟩ := hSw
            go_simp
            try with_reducible rfl
          simp only [List.setIfInBounds_toArray, List.set_cons_zero, List.set_cons_succ]
          refine hold_take (i := 40) (d := 76) (v := ?vC40) (listed' := #[true, true, true, true, true, true, true, true, true, true, true, true, true, true, true, true, true, true, true, true, true, true, true, true, true, true, true, true, true, true, true, true, true, true, true, true, true, true, true, true, true, false, false, false, false, false, false, false, false, false, false]) rfl (by kernel_rfl) (by kernel_rfl) (by kernel_rfl) rfl (by rfl) (by kernel_rfl) K7 ?hC40 ?rC40
          case hC40 =>
            intro w' hSw
            obtain ⟨k0, k1, k2, k3⟩ := hSw
            go_simp
            try with_reducible rfl
          simp only [List.setIfInBounds_toArray, List.set_cons_zero, List.set_cons_succ]
          refine hold_take (i := 41) (d := 77) (v := ?vC41) (listed' := #[true, true, true, true, true, true, true, true, true, true, true, true, true, true, true, true, true, true, true, true, true, true, true, true, true, true, true, true, true, true, true, true, true, true, true, true, true, true, true, true, true, true, false, false, false, false, false, false, false, false, false]) rfl (by kernel_rfl) (by kernel_rfl) (by kernel_rfl) rfl (by rfl) (by kernel_rfl) K7 ?hC41 ?rC41
          case hC41 =>
            intro w' hSw
            obtain ⟨k0, k1, k2, k3⟩ := hSw
            go_simp
            try with_reducible rfl
          simp only [List.setIfInBounds_toArray, List.set_cons_zero, List.set_cons_succ]
          refine hold_take (i := 42) (d := 78) (v := ?vC42) (listed' := #[true, true, true, true, true, true, true, true, true, true, true, true, true, true, true, true, true, true, true, true, true, true, true, true, true, true, true, true, true, true, true, true, true, true, true, true, true, true, true, true, true, true, true, false, false, false, false, false, false, false, false]) rfl (by kernel_rfl) (by kernel_rfl) (by kernel_rfl) rfl (by rfl) (by kernel_rfl) K7 ?hC42 ?rC42
          case hC42 =>
            intro w' hSw
            obtain ⟨k0, k1, k2, k3⟩ := hSw
            go_simp
            try with_reducible rfl
          simp only [List.setIfInBounds_toArray, List.set_cons_zero, List.set_cons_succ]
          refine hold_take (i := 43) (d := 79) (v := ?vC43) (listed' := #[true, true, true, true, true, true, true, true, true, true, true, true, true, true, true, true, true, true, true, true, true, true, true, true, true, true, true, true, true, true, true, true, true, true, true, true, true, true, true, true, true, true, true, true, false, false, false, false, false, false, false]) rfl (by kernel_rfl) (by kernel_rfl) (by kernel_rfl) rfl (by rfl) (by kernel_rfl) K7 ?hC43 ?rC43
          case hC43 =>
            intro w' hSw
            obtain ⟨k0, k1, k2, k3⟩ := hSw
            go_simp
            try with_reducible rfl
          simp only [List.setIfInBounds_toArray, List.set_cons_zero, List.set_cons_succ]
          refine hold_take (i := 44) (d := 80) (v := ?vC44) (listed' := #[true, true, true, true, true, true, true, true, true, true, true, true, true, true, true, true, true, true, true, true, true, true, true, true, true, true, true, true, true, true, true, true, true, true, true, true, true, true, true, true, true, true, true, true, true, false, false, false, false, false, false]) rfl (by kernel_rfl) (by kernel_rfl) (by kernel_rfl) rfl (by rfl) (by kernel_rfl) K7 ?hC44 ?rC44
          case hC44 =>
            intro w' hSw
            obtain ⟨k0, k1, k2, k3⟩ := hSw
            go_simp
            try with_reducible rfl
          simp only [List.setIfInBounds_toArray, List.set_cons_zero, List.set_cons_succ]
          refine hold_take (i := 47) (d := 83) (v := ?vC47) (listed' := #[true, true, true, true, true, true, true, true, true, true, true, true, true, true, true, true, true, true, true, true, true, true, true, true, true, true, true, true, true, true, true, true, true, true, true, true, true, true, true, true, true, true, true, true, true, false, false, true, false, false, false]) rfl (by kernel_rfl) (by kernel_rfl) (by kernel_rfl) rfl (by rfl) (by kernel_rfl) K7 ?hC47 ?rC47
          case hC47 =>
            intro w' hSw
            obtain ⟨k0, k1, k2, k3⟩ := hSw
            go_simp
            try with_reducible rfl
          simp only [List.setIfInBounds_toArray, List.set_cons_zero, List.set_cons_succ]
          refine hold_call (i := 45) (d := 81) (listed' := #[true, true, true, true, true, true, true, true, true, true, true, true, true, true, true, true, true, true, true, true, true, true, true, true, true, true, true, true, true, true, true, true, true, true, true, true, true, true, true, true, true, true, true, true, true, true, false, true, false, false, false]) rfl (by kernel_rfl) rfl (by rfl) (by kernel_rfl) ?heC45 (NotOf_any (nc := nc) (x := (b : Int)) Hd7.out.log) ?hcC45
          case heC45 => go_simp
          rintro e x8 ⟨rfl, bb8⟩
          rw [NB.out]
          have Hd8 := Lib.hid (Hd7.out.step bb8)
          have K8 := (show _ ∧ _ ∧ _ ∧ _ from ⟨Hd8.out.box.c0, Hd8.out.box.c1, (Hd8.out.log.mat.sq HS.out ha hb).2.1, (Hd8.out.log.mat.sq HS.out ha hb).2.2.trans (by rw [HZ.out])⟩)
          clear Hd7 K7 bb8
          refine ⟨_, rfl, K8, ?_⟩
          simp only [List.setIfInBounds_toArray, List.set_cons_zero, List.set_cons_succ]
          refine hold_call (i := 46) (d := 82) (listed' := #[true, true, true, true, true, true, true, true, true, true, true, true, true, true, true, true, true, true, true, true, true, true, true, true, true, true, true, true, true, true, true, true, true, true, true, true, true, true, true, true, true, true, true, true, true, true, true, true, false, false, false]) rfl (by kernel_rfl) rfl (by rfl) (by kernel_rfl) ?heC46 (WithOk_any (nc := nc) (x := (a : Int)) (v := ((y b : Nat) : Int)) Hd8.out.log) ?hcC46
          case heC46 => go_simp
          rintro e x9 ⟨rfl, bb9⟩
          rw [Q6.out]
          have Hd9 := Lib.hid (Hd8.out.step bb9)
          have K9 := (show _ ∧ _ ∧ _ ∧ _ from ⟨Hd9.out.box.c0, Hd9.out.box.c1, (Hd9.out.log.mat.sq HS.out ha hb).2.1, (Hd9.out.log.mat.sq HS.out ha hb).2.2.trans (by rw [HZ.out])⟩)
          clear Hd8 K8 bb9
          refine ⟨_, rfl, K9, ?_⟩
          simp only [List.setIfInBounds_toArray, List.set_cons_zero, List.set_cons_succ]
          refine hold_take (i := 48) (d := 84) (v := ?vC48) (listed' := #[true, true, true, true, true, true, true, true, true, true, true, true, true, true, true, true, true, true, true, true, true, true, true, true, true, true, true, true, true, true, true, true, true, true, true, true, true, true, true, true, true, true, true, true, true, true, true, true, true, false, false]) rfl (by kernel_rfl) (by kernel_rfl) (by kernel_rfl) rfl (by rfl) (by kernel_rfl) K9 ?hC48 ?rC48
          case hC48 =>
            intro w' hSw
            obtain ⟨k0, k1, k2, k3⟩ := hSw
            go_simp
            try with_reducible rfl
          simp only [List.setIfInBounds_toArray, List.set_cons_zero, List.set_cons_succ]
          refine hold_take (i := 49) (d := 85) (v := ?vC49) (listed' := #[true, true, true, true, true, true, true, true, true, true, true, true, true, true, true, true, true, true, true, true, true, true, true, true, true, true, true, true, true, true, true, true, true, true, true, true, true, true, true, true, true, true, true, true, true, true, true, true, true, true, false]) rfl (by kernel_rfl) (by kernel_rfl) (by kernel_rfl) rfl (by rfl) (by kernel_rfl) K9 ?hC49 ?rC49
          case hC49 =>
            intro w' hSw
            obtain ⟨k0, k1, k2, k3⟩ := hSw
            go_simp
            try with_reducible rfl
          simp only [List.setIfInBounds_toArray, List.set_cons_zero, List.set_cons_succ]
          refine hold_take (i := 50) (d := 2) (v := ?vC50) (listed' := #[true, true, true, true, true, true, true, true, true, true, true, true, true, true, true, true, true, true, true, true, true, true, true, true, true, true, true, true, true, true, true, true, true, true, true, true, true, true, true, true, true, true, true, true, true, true, true, true, true, true, true]) rfl (by kernel_rfl) (by kernel_rfl) (by kernel_rfl) rfl (by rfl) (by kernel_rfl) K9 ?hC50 ?rC50
          case hC50 =>
            intro w' hSw
            obtain ⟨k0, k1, k2, k3⟩ := hSw
            go_simp
            try with_reducible rfl
          simp only [List.setIfInBounds_toArray, List.set_cons_zero, List.set_cons_succ]
          refine hold_done (by kernel_rfl) ?_ _
          go_wp2_with fail
          go_ret
          exact ⟨rfl, Hd9.out.old⟩
end Go.Proofs.Ytijcacibofpnpaa
