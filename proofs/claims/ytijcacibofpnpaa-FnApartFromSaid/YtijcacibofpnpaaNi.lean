/- The law on ApartFrom, walked at whatever code. -/
import Derived.Test.YtijcacibofpnpaaBg
import Derived.Test.YtijcacibofpnpaaAc
namespace Go.Proofs.Ytijcacibofpnpaa
open Go.RowKit Go.Deep

set_option maxRecDepth 100000 in
set_option maxHeartbeats 4000000 in
theorem law_ApartFrom {A : Option Addr} {b o n cap : Nat} {z : Nat → Nat} {w : World} (h : CodeAt w A b o n cap z) :
    Calls Try.prog 5 #[.slice A n cap] w fun e w' => e = .returned (.bool true) ∧ Below w.heap.size w w' := by
  have hn := h.hn
  have hc := h.hc
  by_cases hbig : 1048576 < n
  · have hbig' : (1048576 : Int) < n := by omega
    clear h
    go_enter Try.func5, Try.ntmps5
    go_wp2_with fail
    go_ret
    exact ⟨rfl, Below.refl _ _⟩
  · have hbig' : ¬ (1048576 : Int) < n := by omega
    go_enter Try.func5, Try.ntmps5
    go_wp2_with fail
    go_at_call 26
    refine (draw_ApartFrom h).mono ?_
    rintro e w1 ⟨ua, l, m, na, g, o2, k, nc, zz, x, y, rfl, hF⟩
    have H1 := Held.start hF nc
    clear h hF
    have q0 := H1.box.c0
    have q1 := H1.box.c1
    go_wp2_with fail
    go_at_call 27
    refine (ApartFrom_any H1.log).mono ?_
    rintro e w2 ⟨rfl, b2⟩
    have H2 := H1.step b2
    clear H1 q0 q1 b2
    have q0 := H2.box.c0
    have q1 := H2.box.c1
    go_wp2_with fail
    go_at_call 28
    refine (spec_ApartFrom H2.log).mono ?_
    rintro e w3 ⟨rfl, b3⟩
    have H3 := H2.step b3
    clear H2 q0 q1 b3
    have q0 := H3.box.c0
    have q1 := H3.box.c1
    cases hl : (logicB m k zz && goodB m.n 2 (two x y)) with
    | false =>
      have e2 : apV m k zz x y = -1 := by unfold apV; rw [hl]; rfl
      rw [e2]
      clear e2 hl q0 q1
      go_wp2_with fail
      go_at_call 16
      refine (alive_any _).mono ?_
      rintro e w4 ⟨rfl, b4⟩
      have H4 := H3.step b4
      go_wp2_with fail
      go_ret
      exact ⟨rfl, H4.old⟩
    | true =>
      rw [Bool.and_eq_true] at hl
      obtain ⟨hl, hg⟩ := hl
      obtain ⟨a, b, rfl, rfl, ha, hb⟩ := good2 hg
      obtain ⟨y, o3, hO⟩ := (logicB_is hl).ortho
      have hla := hO.lt a ha
      have hlb := hO.lt b hb
      rw [hO.apV hl ha hb]
      have NA : Hid (notV m k zz (a : Int) = (y a : Int)) := hO.notV hl ha
      have NY : Hid (yesV m k zz = ((y o3 : Nat) : Int)) := hO.yesV hl
      have P1 : Hid (apV m k zz (b : Int) (a : Int) = ((apN m y a b : Nat) : Int)) := by show _ = _; rw [hO.apV hl hb ha, hO.ap_comm ha hb]
      have P2 : Hid (apV m k zz ((y a : Nat) : Int) (b : Int) = ((apN m y a b : Nat) : Int)) := by show _ = _; rw [hO.apV hl hla hb, hO.ap_not ha hb]
      have hk : keepsV m k zz = keepsB m y := hO.keepsV hl
      have hw := hO.withV hl ha hb
      have hiff : keepsB m y = true → (((apN m y a b : Nat) : Int) == ((y o3 : Nat) : Int)) = agB m y a b := fun hkk => by
        rw [← hO.ap_iff hkk ha hb, Bool.eq_iff_iff, beq_iff_eq, decide_eq_true_iff]
        omega
      clear hl hg hO hla hlb
      obtain ⟨N, hN⟩ : ∃ N : Nat, apN m y a b = N := ⟨_, rfl⟩
      rw [hN] at hiff P1 P2 ⊢
      clear hN
      cases hkk : keepsB m y with
      | false =>
        have HK : Hid (keepsV m k zz = false) := hk.trans hkk
        clear hk hkk hw hiff
        go_wp2_with fail
        have Hd0 := Lib.hid (H3.step (Below.refl _ w3).drew)
        have K0 := (show _ ∧ _ from ⟨Hd0.out.box.c0, Hd0.out.box.c1⟩)
        clear H3 q0 q1
        refine region_plain (fuel := 33) (listed := #[false, false, false, false, false, false, false, false, false, false, false, false, false, false, false, false, false, false, false, false, false, false, false, false, false, false, false, false, false, false, false, false, false]) (fun w' => w'.cell? ⟨w1.heap.size, 0, none⟩ = some (.slice ua m.n l.cap) ∧ w'.cell? ⟨w1.heap.size, 1, none⟩ = some (.slice na k nc)) (by kernel_rfl) (by kernel_rfl) (by kernel_rfl) ?_
        refine hold_take (i := 0) (d := 33) (v := ?vA0) (listed' := #[true, false, false, false, false, false, false, false, false, false, false, false, false, false, false, false, false, false, false, false, false, false, false, false, false, false, false, false, false, false, false, false, false]) rfl (by kernel_rfl) (by kernel_rfl) (by kernel_rfl) rfl (by rfl) (by kernel_rfl) K0 ?hA0 ?rA0
        case hA0 =>
          intro w' hSw
          obtain ⟨k0, k1⟩ := hSw
          go_simp
          try with_reducible rfl
        simp only [List.setIfInBounds_toArray, List.set_cons_zero, List.set_cons_succ]
        refine hold_call (i := 1) (d := 34) (listed' := #[true, true, false, false, false, false, false, false, false, false, false, false, false, false, false, false, false, false, false, false, false, false, false, false, false, false, false, false, false, false, false, false, false]) rfl (by kernel_rfl) rfl (by rfl) (by kernel_rfl) ?heA1 (KeepsOk_any (nc := nc) Hd0.out.log) ?hcA1
        case heA1 => go_simp
        rintro e x1 ⟨rfl, bb1⟩
        rw [HK.out]
        have Hd1 := Lib.hid (Hd0.out.step bb1)
        have K1 := (show _ ∧ _ from ⟨Hd1.out.box.c0, Hd1.out.box.c1⟩)
        clear Hd0 K0 bb1
        refine ⟨_, rfl, K1, ?_⟩
        simp only [List.setIfInBounds_toArray, List.set_cons_zero, List.set_cons_succ]
        refine hold_take (i := 2) (d := 35) (v := ?vA2) (listed' := #[true, true, true, false, false, false, false, false, false, false, false, false, false, false, false, false, false, false, false, false, false, false, false, false, false, false, false, false, false, false, false, false, false]) rfl (by kernel_rfl) (by kernel_rfl) (by kernel_rfl) rfl (by rfl) (by kernel_rfl) K1 ?hA2 ?rA2
        case hA2 =>
          intro w' hSw
          obtain ⟨k0, k1⟩ := hSw
          go_simp
          try with_reducible rfl
        simp only [List.setIfInBounds_toArray, List.set_cons_zero, List.set_cons_succ]
        refine hold_take (i := 3) (d := 36) (v := ?vA3) (listed' := #[true, true, true, true, false, false, false, false, false, false, false, false, false, false, false, false, false, false, false, false, false, false, false, false, false, false, false, false, false, false, false, false, false]) rfl (by kernel_rfl) (by kernel_rfl) (by kernel_rfl) rfl (by rfl) (by kernel_rfl) K1 ?hA3 ?rA3
        case hA3 =>
          intro w' hSw
          obtain ⟨k0, k1⟩ := hSw
          go_simp
          try with_reducible rfl
        simp only [List.setIfInBounds_toArray, List.set_cons_zero, List.set_cons_succ]
        refine hold_skip (i := 4) (d := 37) (listed' := #[true, true, true, true, true, false, false, false, false, false, false, false, false, false, false, false, false, false, false, false, false, false, false, false, false, false, false, false, false, false, false, false, false]) rfl (by kernel_rfl) (by kernel_rfl) (by kernel_rfl) rfl (by rfl) (by kernel_rfl) K1 ?_
        simp only [List.setIfInBounds_toArray, List.set_cons_zero, List.set_cons_succ]
        refine hold_skip (i := 5) (d := 38) (listed' := #[true, true, true, true, true, true, false, false, false, false, false, false, false, false, false, false, false, false, false, false, false, false, false, false, false, false, false, false, false, false, false, false, false]) rfl (by kernel_rfl) (by kernel_rfl) (by kernel_rfl) rfl (by rfl) (by kernel_rfl) K1 ?_
        simp only [List.setIfInBounds_toArray, List.set_cons_zero, List.set_cons_succ]
        refine hold_skip (i := 8) (d := 41) (listed' := #[true, true, true, true, true, true, false, false, true, false, false, false, false, false, false, false, false, false, false, false, false, false, false, false, false, false, false, false, false, false, false, false, false]) rfl (by kernel_rfl) (by kernel_rfl) (by kernel_rfl) rfl (by rfl) (by kernel_rfl) K1 ?_
        simp only [List.setIfInBounds_toArray, List.set_cons_zero, List.set_cons_succ]
        refine hold_skip (i := 9) (d := 42) (listed' := #[true, true, true, true, true, true, false, false, true, true, false, false, false, false, false, false, false, false, false, false, false, false, false, false, false, false, false, false, false, false, false, false, false]) rfl (by kernel_rfl) (by kernel_rfl) (by kernel_rfl) rfl (by rfl) (by kernel_rfl) K1 ?_
        simp only [List.setIfInBounds_toArray, List.set_cons_zero, List.set_cons_succ]
        refine hold_skip (i := 10) (d := 43) (listed' := #[true, true, true, true, true, true, false, false, true, true, true, false, false, false, false, false, false, false, false, false, false, false, false, false, false, false, false, false, false, false, false, false, false]) rfl (by kernel_rfl) (by kernel_rfl) (by kernel_rfl) rfl (by rfl) (by kernel_rfl) K1 ?_
        simp only [List.setIfInBounds_toArray, List.set_cons_zero, List.set_cons_succ]
        refine hold_skip (i := 6) (d := 39) (listed' := #[true, true, true, true, true, true, true, false, true, true, true, false, false, false, false, false, false, false, false, false, false, false, false, false, false, false, false, false, false, false, false, false, false]) rfl (by kernel_rfl) (by kernel_rfl) (by kernel_rfl) rfl (by rfl) (by kernel_rfl) K1 ?_
        simp only [List.setIfInBounds_toArray, List.set_cons_zero, List.set_cons_succ]
        refine hold_skip (i := 7) (d := 40) (listed' := #[true, true, true, true, true, true, true, true, true, true, true, false, false, false, false, false, false, false, false, false, false, false, false, false, false, false, false, false, false, false, false, false, false]) rfl (by kernel_rfl) (by kernel_rfl) (by kernel_rfl) rfl (by rfl) (by kernel_rfl) K1 ?_
        simp only [List.setIfInBounds_toArray, List.set_cons_zero, List.set_cons_succ]
        refine hold_skip (i := 11) (d := 44) (listed' := #[true, true, true, true, true, true, true, true, true, true, true, true, false, false, false, false, false, false, false, false, false, false, false, false, false, false, false, false, false, false, false, false, false]) rfl (by kernel_rfl) (by kernel_rfl) (by kernel_rfl) rfl (by rfl) (by kernel_rfl) K1 ?_
        simp only [List.setIfInBounds_toArray, List.set_cons_zero, List.set_cons_succ]
        refine hold_skip (i := 12) (d := 45) (listed' := #[true, true, true, true, true, true, true, true, true, true, true, true, true, false, false, false, false, false, false, false, false, false, false, false, false, false, false, false, false, false, false, false, false]) rfl (by kernel_rfl) (by kernel_rfl) (by kernel_rfl) rfl (by rfl) (by kernel_rfl) K1 ?_
        simp only [List.setIfInBounds_toArray, List.set_cons_zero, List.set_cons_succ]
        refine hold_take (i := 13) (d := 46) (v := ?vA13) (listed' := #[true, true, true, true, true, true, true, true, true, true, true, true, true, true, false, false, false, false, false, false, false, false, false, false, false, false, false, false, false, false, false, false, false]) rfl (by kernel_rfl) (by kernel_rfl) (by kernel_rfl) rfl (by rfl) (by kernel_rfl) K1 ?hA13 ?rA13
        case hA13 =>
          intro w' hSw
          obtain ⟨k0, k1⟩ := hSw
          go_simp
          try with_reducible rfl
        simp only [List.setIfInBounds_toArray, List.set_cons_zero, List.set_cons_succ]
        refine hold_take (i := 14) (d := 47) (v := ?vA14) (listed' := #[true, true, true, true, true, true, true, true, true, true, true, true, true, true, true, false, false, false, false, false, false, false, false, false, false, false, false, false, false, false, false, false, false]) rfl (by kernel_rfl) (by kernel_rfl) (by kernel_rfl) rfl (by rfl) (by kernel_rfl) K1 ?hA14 ?rA14
        case hA14 =>
          intro w' hSw
          obtain ⟨k0, k1⟩ := hSw
          go_simp
          try with_reducible rfl
        simp only [List.setIfInBounds_toArray, List.set_cons_zero, List.set_cons_succ]
        refine hold_take (i := 15) (d := 48) (v := ?vA15) (listed' := #[true, true, true, true, true, true, true, true, true, true, true, true, true, true, true, true, false, false, false, false, false, false, false, false, false, false, false, false, false, false, false, false, false]) rfl (by kernel_rfl) (by kernel_rfl) (by kernel_rfl) rfl (by rfl) (by kernel_rfl) K1 ?hA15 ?rA15
        case hA15 =>
          intro w' hSw
          obtain ⟨k0, k1⟩ := hSw
          go_simp
          try with_reducible rfl
        simp only [List.setIfInBounds_toArray, List.set_cons_zero, List.set_cons_succ]
        refine hold_take (i := 16) (d := 49) (v := ?vA16) (listed' := #[true, true, true, true, true, true, true, true, true, true, true, true, true, true, true, true, true, false, false, false, false, false, false, false, false, false, false, false, false, false, false, false, false]) rfl (by kernel_rfl) (by kernel_rfl) (by kernel_rfl) rfl (by rfl) (by kernel_rfl) K1 ?hA16 ?rA16
        case hA16 =>
          intro w' hSw
          obtain ⟨k0, k1⟩ := hSw
          go_simp
          try with_reducible rfl
        simp only [List.setIfInBounds_toArray, List.set_cons_zero, List.set_cons_succ]
        refine hold_take (i := 17) (d := 50) (v := ?vA17) (listed' := #[true, true, true, true, true, true, true, true, true, true, true, true, true, true, true, true, true, true, false, false, false, false, false, false, false, false, false, false, false, false, false, false, false]) rfl (by kernel_rfl) (by kernel_rfl) (by kernel_rfl) rfl (by rfl) (by kernel_rfl) K1 ?hA17 ?rA17
        case hA17 =>
          intro w' hSw
          obtain ⟨k0, k1⟩ := hSw
          go_simp
          try with_reducible rfl
        simp only [List.setIfInBounds_toArray, List.set_cons_zero, List.set_cons_succ]
        refine hold_take (i := 19) (d := 52) (v := ?vA19) (listed' := #[true, true, true, true, true, true, true, true, true, true, true, true, true, true, true, true, true, true, false, true, false, false, false, false, false, false, false, false, false, false, false, false, false]) rfl (by kernel_rfl) (by kernel_rfl) (by kernel_rfl) rfl (by rfl) (by kernel_rfl) K1 ?hA19 ?rA19
        case hA19 =>
          intro w' hSw
          obtain ⟨k0, k1⟩ := hSw
          go_simp
          try with_reducible rfl
        simp only [List.setIfInBounds_toArray, List.set_cons_zero, List.set_cons_succ]
        refine hold_call (i := 18) (d := 51) (listed' := #[true, true, true, true, true, true, true, true, true, true, true, true, true, true, true, true, true, true, true, true, false, false, false, false, false, false, false, false, false, false, false, false, false]) rfl (by kernel_rfl) rfl (by rfl) (by kernel_rfl) ?heA18 (ApartFrom_any (nc := nc) (x := (b : Int)) (v := (a : Int)) Hd1.out.log) ?hcA18
        case heA18 => go_simp
        rintro e x2 ⟨rfl, bb2⟩
        rw [P1.out]
        have Hd2 := Lib.hid (Hd1.out.step bb2)
        have K2 := (show _ ∧ _ from ⟨Hd2.out.box.c0, Hd2.out.box.c1⟩)
        clear Hd1 K1 bb2
        refine ⟨_, rfl, K2, ?_⟩
        simp only [List.setIfInBounds_toArray, List.set_cons_zero, List.set_cons_succ]
        refine hold_take (i := 20) (d := 53) (v := ?vA20) (listed' := #[true, true, true, true, true, true, true, true, true, true, true, true, true, true, true, true, true, true, true, true, true, false, false, false, false, false, false, false, false, false, false, false, false]) rfl (by kernel_rfl) (by kernel_rfl) (by kernel_rfl) rfl (by rfl) (by kernel_rfl) K2 ?hA20 ?rA20
        case hA20 =>
          intro w' hSw
          obtain ⟨k0, k1⟩ := hSw
          go_simp
          try with_reducible rfl
        simp only [List.setIfInBounds_toArray, List.set_cons_zero, List.set_cons_succ]
        refine hold_take (i := 21) (d := 54) (v := ?vA21) (listed' := #[true, true, true, true, true, true, true, true, true, true, true, true, true, true, true, true, true, true, true, true, true, true, false, false, false, false, false, false, false, false, false, false, false]) rfl (by kernel_rfl) (by kernel_rfl) (by kernel_rfl) rfl (by rfl) (by kernel_rfl) K2 ?hA21 ?rA21
        case hA21 =>
          intro w' hSw
          obtain ⟨k0, k1⟩ := hSw
          go_simp
          try with_reducible rfl
        simp only [List.setIfInBounds_toArray, List.set_cons_zero, List.set_cons_succ]
        refine hold_take (i := 22) (d := 55) (v := ?vA22) (listed' := #[true, true, true, true, true, true, true, true, true, true, true, true, true, true, true, true, true, true, true, true, true, true, true, false, false, false, false, false, false, false, false, false, false]) rfl (by kernel_rfl) (by kernel_rfl) (by kernel_rfl) rfl (by rfl) (by kernel_rfl) K2 ?hA22 ?rA22
        case hA22 =>
          intro w' hSw
          obtain ⟨k0, k1⟩ := hSw
          go_simp
          try with_reducible rfl
        simp only [List.setIfInBounds_toArray, List.set_cons_zero, List.set_cons_succ]
        refine hold_take (i := 23) (d := 56) (v := ?vA23) (listed' := #[true, true, true, true, true, true, true, true, true, true, true, true, true, true, true, true, true, true, true, true, true, true, true, true, false, false, false, false, false, false, false, false, false]) rfl (by kernel_rfl) (by kernel_rfl) (by kernel_rfl) rfl (by rfl) (by kernel_rfl) K2 ?hA23 ?rA23
        case hA23 =>
          intro w' hSw
          obtain ⟨k0, k1⟩ := hSw
          go_simp
          try with_reducible rfl
        simp only [List.setIfInBounds_toArray, List.set_cons_zero, List.set_cons_succ]
        refine hold_take (i := 24) (d := 57) (v := ?vA24) (listed' := #[true, true, true, true, true, true, true, true, true, true, true, true, true, true, true, true, true, true, true, true, true, true, true, true, true, false, false, false, false, false, false, false, false]) rfl (by kernel_rfl) (by kernel_rfl) (by kernel_rfl) rfl (by rfl) (by kernel_rfl) K2 ?hA24 ?rA24
        case hA24 =>
          intro w' hSw
          obtain ⟨k0, k1⟩ := hSw
          go_simp
          try with_reducible rfl
        simp only [List.setIfInBounds_toArray, List.set_cons_zero, List.set_cons_succ]
        refine hold_take (i := 25) (d := 58) (v := ?vA25) (listed' := #[true, true, true, true, true, true, true, true, true, true, true, true, true, true, true, true, true, true, true, true, true, true, true, true, true, true, false, false, false, false, false, false, false]) rfl (by kernel_rfl) (by kernel_rfl) (by kernel_rfl) rfl (by rfl) (by kernel_rfl) K2 ?hA25 ?rA25
        case hA25 =>
          intro w' hSw
          obtain ⟨k0, k1⟩ := hSw
          go_simp
          try with_reducible rfl
        simp only [List.setIfInBounds_toArray, List.set_cons_zero, List.set_cons_succ]
        refine hold_take (i := 27) (d := 60) (v := ?vA27) (listed' := #[true, true, true, true, true, true, true, true, true, true, true, true, true, true, true, true, true, true, true, true, true, true, true, true, true, true, false, true, false, false, false, false, false]) rfl (by kernel_rfl) (by kernel_rfl) (by kernel_rfl) rfl (by rfl) (by kernel_rfl) K2 ?hA27 ?rA27
        case hA27 =>
          intro w' hSw
          obtain ⟨k0, k1⟩ := hSw
          go_simp
          try with_reducible rfl
        simp only [List.setIfInBounds_toArray, List.set_cons_zero, List.set_cons_succ]
        refine hold_take (i := 29) (d := 62) (v := ?vA29) (listed' := #[true, true, true, true, true, true, true, true, true, true, true, true, true, true, true, true, true, true, true, true, true, true, true, true, true, true, false, true, false, true, false, false, false]) rfl (by kernel_rfl) (by kernel_rfl) (by kernel_rfl) rfl (by rfl) (by kernel_rfl) K2 ?hA29 ?rA29
        case hA29 =>
          intro w' hSw
          obtain ⟨k0, k1⟩ := hSw
          go_simp
          try with_reducible rfl
        simp only [List.setIfInBounds_toArray, List.set_cons_zero, List.set_cons_succ]
        refine hold_call (i := 26) (d := 59) (listed' := #[true, true, true, true, true, true, true, true, true, true, true, true, true, true, true, true, true, true, true, true, true, true, true, true, true, true, true, true, false, true, false, false, false]) rfl (by kernel_rfl) rfl (by rfl) (by kernel_rfl) ?heA26 (NotOf_any (nc := nc) (x := (a : Int)) Hd2.out.log) ?hcA26
        case heA26 => go_simp
        rintro e x3 ⟨rfl, bb3⟩
        rw [NA.out]
        have Hd3 := Lib.hid (Hd2.out.step bb3)
        have K3 := (show _ ∧ _ from ⟨Hd3.out.box.c0, Hd3.out.box.c1⟩)
        clear Hd2 K2 bb3
        refine ⟨_, rfl, K3, ?_⟩
        simp only [List.setIfInBounds_toArray, List.set_cons_zero, List.set_cons_succ]
        refine hold_call (i := 28) (d := 61) (listed' := #[true, true, true, true, true, true, true, true, true, true, true, true, true, true, true, true, true, true, true, true, true, true, true, true, true, true, true, true, true, true, false, false, false]) rfl (by kernel_rfl) rfl (by rfl) (by kernel_rfl) ?heA28 (ApartFrom_any (nc := nc) (x := ((y a : Nat) : Int)) (v := (b : Int)) Hd3.out.log) ?hcA28
        case heA28 => go_simp
        rintro e x4 ⟨rfl, bb4⟩
        rw [P2.out]
        have Hd4 := Lib.hid (Hd3.out.step bb4)
        have K4 := (show _ ∧ _ from ⟨Hd4.out.box.c0, Hd4.out.box.c1⟩)
        clear Hd3 K3 bb4
        refine ⟨_, rfl, K4, ?_⟩
        simp only [List.setIfInBounds_toArray, List.set_cons_zero, List.set_cons_succ]
        refine hold_take (i := 30) (d := 63) (v := ?vA30) (listed' := #[true, true, true, true, true, true, true, true, true, true, true, true, true, true, true, true, true, true, true, true, true, true, true, true, true, true, true, true, true, true, true, false, false]) rfl (by kernel_rfl) (by kernel_rfl) (by kernel_rfl) rfl (by rfl) (by kernel_rfl) K4 ?hA30 ?rA30
        case hA30 =>
          intro w' hSw
          obtain ⟨k0, k1⟩ := hSw
          go_simp
          try with_reducible rfl
        simp only [List.setIfInBounds_toArray, List.set_cons_zero, List.set_cons_succ]
        refine hold_take (i := 31) (d := 64) (v := ?vA31) (listed' := #[true, true, true, true, true, true, true, true, true, true, true, true, true, true, true, true, true, true, true, true, true, true, true, true, true, true, true, true, true, true, true, true, false]) rfl (by kernel_rfl) (by kernel_rfl) (by kernel_rfl) rfl (by rfl) (by kernel_rfl) K4 ?hA31 ?rA31
        case hA31 =>
          intro w' hSw
          obtain ⟨k0, k1⟩ := hSw
          go_simp
          try with_reducible rfl
        simp only [List.setIfInBounds_toArray, List.set_cons_zero, List.set_cons_succ]
        refine hold_take (i := 32) (d := 2) (v := ?vA32) (listed' := #[true, true, true, true, true, true, true, true, true, true, true, true, true, true, true, true, true, true, true, true, true, true, true, true, true, true, true, true, true, true, true, true, true]) rfl (by kernel_rfl) (by kernel_rfl) (by kernel_rfl) rfl (by rfl) (by kernel_rfl) K4 ?hA32 ?rA32
        case hA32 =>
          intro w' hSw
          obtain ⟨k0, k1⟩ := hSw
          go_simp
          try with_reducible rfl
        simp only [List.setIfInBounds_toArray, List.set_cons_zero, List.set_cons_succ]
        refine hold_done (by kernel_rfl) ?_ _
        go_wp2_with fail
        go_ret
        exact ⟨rfl, Hd4.out.old⟩
      | true =>
        have HK : Hid (keepsV m k zz = true) := hk.trans hkk
        have hi := hiff hkk
        clear hk hkk hiff
        cases hag : agB m y a b with
        | false =>
          have HW : Hid (withV m k zz (a : Int) (b : Int) = false) := hw.trans hag
          have e1 : (((N : Nat) : Int) == ((y o3 : Nat) : Int)) = false := hi.trans hag
          clear hw hag hi
          go_wp2_with fail
          have Hd0 := Lib.hid (H3.step (Below.refl _ w3).drew)
          have K0 := (show _ ∧ _ from ⟨Hd0.out.box.c0, Hd0.out.box.c1⟩)
          clear H3 q0 q1
          refine region_plain (fuel := 33) (listed := #[false, false, false, false, false, false, false, false, false, false, false, false, false, false, false, false, false, false, false, false, false, false, false, false, false, false, false, false, false, false, false, false, false]) (fun w' => w'.cell? ⟨w1.heap.size, 0, none⟩ = some (.slice ua m.n l.cap) ∧ w'.cell? ⟨w1.heap.size, 1, none⟩ = some (.slice na k nc)) (by kernel_rfl) (by kernel_rfl) (by kernel_rfl) ?_
          refine hold_take (i := 0) (d := 33) (v := ?vBf0) (listed' := #[true, false, false, false, false, false, false, false, false, false, false, false, false, false, false, false, false, false, false, false, false, false, false, false, false, false, false, false, false, false, false, false, false]) rfl (by kernel_rfl) (by kernel_rfl) (by kernel_rfl) rfl (by rfl) (by kernel_rfl) K0 ?hBf0 ?rBf0
          case hBf0 =>
            intro w' hSw
            obtain ⟨k0, k1⟩ := hSw
            go_simp
            try with_reducible rfl
          simp only [List.setIfInBounds_toArray, List.set_cons_zero, List.set_cons_succ]
          refine hold_call (i := 1) (d := 34) (listed' := #[true, true, false, false, false, false, false, false, false, false, false, false, false, false, false, false, false, false, false, false, false, false, false, false, false, false, false, false, false, false, false, false, false]) rfl (by kernel_rfl) rfl (by rfl) (by kernel_rfl) ?heBf1 (KeepsOk_any (nc := nc) Hd0.out.log) ?hcBf1
          case heBf1 => go_simp
          rintro e x1 ⟨rfl, bb1⟩
          rw [HK.out]
          have Hd1 := Lib.hid (Hd0.out.step bb1)
          have K1 := (show _ ∧ _ from ⟨Hd1.out.box.c0, Hd1.out.box.c1⟩)
          clear Hd0 K0 bb1
          refine ⟨_, rfl, K1, ?_⟩
          simp only [List.setIfInBounds_toArray, List.set_cons_zero, List.set_cons_succ]
          refine hold_take (i := 2) (d := 35) (v := ?vBf2) (listed' := #[true, true, true, false, false, false, false, false, false, false, false, false, false, false, false, false, false, false, false, false, false, false, false, false, false, false, false, false, false, false, false, false, false]) rfl (by kernel_rfl) (by kernel_rfl) (by kernel_rfl) rfl (by rfl) (by kernel_rfl) K1 ?hBf2 ?rBf2
          case hBf2 =>
            intro w' hSw
            obtain ⟨k0, k1⟩ := hSw
            go_simp
            try with_reducible rfl
          simp only [List.setIfInBounds_toArray, List.set_cons_zero, List.set_cons_succ]
          refine hold_take (i := 3) (d := 36) (v := ?vBf3) (listed' := #[true, true, true, true, false, false, false, false, false, false, false, false, false, false, false, false, false, false, false, false, false, false, false, false, false, false, false, false, false, false, false, false, false]) rfl (by kernel_rfl) (by kernel_rfl) (by kernel_rfl) rfl (by rfl) (by kernel_rfl) K1 ?hBf3 ?rBf3
          case hBf3 =>
            intro w' hSw
            obtain ⟨k0, k1⟩ := hSw
            go_simp
            try with_reducible rfl
          simp only [List.setIfInBounds_toArray, List.set_cons_zero, List.set_cons_succ]
          refine hold_take (i := 4) (d := 37) (v := ?vBf4) (listed' := #[true, true, true, true, true, false, false, false, false, false, false, false, false, false, false, false, false, false, false, false, false, false, false, false, false, false, false, false, false, false, false, false, false]) rfl (by kernel_rfl) (by kernel_rfl) (by kernel_rfl) rfl (by rfl) (by kernel_rfl) K1 ?hBf4 ?rBf4
          case hBf4 =>
            intro w' hSw
            obtain ⟨k0, k1⟩ := hSw
            go_simp
            try with_reducible rfl
          simp only [List.setIfInBounds_toArray, List.set_cons_zero, List.set_cons_succ]
          refine hold_take (i := 5) (d := 38) (v := ?vBf5) (listed' := #[true, true, true, true, true, true, false, false, false, false, false, false, false, false, false, false, false, false, false, false, false, false, false, false, false, false, false, false, false, false, false, false, false]) rfl (by kernel_rfl) (by kernel_rfl) (by kernel_rfl) rfl (by rfl) (by kernel_rfl) K1 ?hBf5 ?rBf5
          case hBf5 =>
            intro w' hSw
            obtain ⟨k0, k1⟩ := hSw
            go_simp
            try with_reducible rfl
          simp only [List.setIfInBounds_toArray, List.set_cons_zero, List.set_cons_succ]
          refine hold_take (i := 8) (d := 41) (v := ?vBf8) (listed' := #[true, true, true, true, true, true, false, false, true, false, false, false, false, false, false, false, false, false, false, false, false, false, false, false, false, false, false, false, false, false, false, false, false]) rfl (by kernel_rfl) (by kernel_rfl) (by kernel_rfl) rfl (by rfl) (by kernel_rfl) K1 ?hBf8 ?rBf8
          case hBf8 =>
            intro w' hSw
            obtain ⟨k0, k1⟩ := hSw
            go_simp
            try with_reducible rfl
          simp only [List.setIfInBounds_toArray, List.set_cons_zero, List.set_cons_succ]
          refine hold_take (i := 9) (d := 42) (v := ?vBf9) (listed' := #[true, true, true, true, true, true, false, false, true, true, false, false, false, false, false, false, false, false, false, false, false, false, false, false, false, false, false, false, false, false, false, false, false]) rfl (by kernel_rfl) (by kernel_rfl) (by kernel_rfl) rfl (by rfl) (by kernel_rfl) K1 ?hBf9 ?rBf9
          case hBf9 =>
            intro w' hSw
            obtain ⟨k0, k1⟩ := hSw
            go_simp
            try with_reducible rfl
          simp only [List.setIfInBounds_toArray, List.set_cons_zero, List.set_cons_succ]
          refine hold_take (i := 10) (d := 43) (v := ?vBf10) (listed' := #[true, true, true, true, true, true, false, false, true, true, true, false, false, false, false, false, false, false, false, false, false, false, false, false, false, false, false, false, false, false, false, false, false]) rfl (by kernel_rfl) (by kernel_rfl) (by kernel_rfl) rfl (by rfl) (by kernel_rfl) K1 ?hBf10 ?rBf10
          case hBf10 =>
            intro w' hSw
            obtain ⟨k0, k1⟩ := hSw
            go_simp
            try with_reducible rfl
          simp only [List.setIfInBounds_toArray, List.set_cons_zero, List.set_cons_succ]
          refine hold_call (i := 6) (d := 39) (listed' := #[true, true, true, true, true, true, true, false, true, true, true, false, false, false, false, false, false, false, false, false, false, false, false, false, false, false, false, false, false, false, false, false, false]) rfl (by kernel_rfl) rfl (by rfl) (by kernel_rfl) ?heBf6 (YesOf_any (nc := nc) Hd1.out.log) ?hcBf6
          case heBf6 => go_simp
          rintro e x2 ⟨rfl, bb2⟩
          rw [NY.out]
          have Hd2 := Lib.hid (Hd1.out.step bb2)
          have K2 := (show _ ∧ _ from ⟨Hd2.out.box.c0, Hd2.out.box.c1⟩)
          clear Hd1 K1 bb2
          refine ⟨_, rfl, K2, ?_⟩
          simp only [List.setIfInBounds_toArray, List.set_cons_zero, List.set_cons_succ]
          refine hold_take (i := 7) (d := 40) (v := ?vBf7) (listed' := #[true, true, true, true, true, true, true, true, true, true, true, false, false, false, false, false, false, false, false, false, false, false, false, false, false, false, false, false, false, false, false, false, false]) rfl (by kernel_rfl) (by kernel_rfl) (by kernel_rfl) rfl (by rfl) (by kernel_rfl) K2 ?hBf7 ?rBf7
          case hBf7 =>
            intro w' hSw
            obtain ⟨k0, k1⟩ := hSw
            go_simp
            try with_reducible rfl
          simp only [List.setIfInBounds_toArray, List.set_cons_zero, List.set_cons_succ]
          refine hold_call (i := 11) (d := 44) (listed' := #[true, true, true, true, true, true, true, true, true, true, true, true, false, false, false, false, false, false, false, false, false, false, false, false, false, false, false, false, false, false, false, false, false]) rfl (by kernel_rfl) rfl (by rfl) (by kernel_rfl) ?heBf11 (WithOk_any (nc := nc) (x := (a : Int)) (v := (b : Int)) Hd2.out.log) ?hcBf11
          case heBf11 => go_simp
          rintro e x3 ⟨rfl, bb3⟩
          rw [HW.out]
          have Hd3 := Lib.hid (Hd2.out.step bb3)
          have K3 := (show _ ∧ _ from ⟨Hd3.out.box.c0, Hd3.out.box.c1⟩)
          clear Hd2 K2 bb3
          refine ⟨_, rfl, K3, ?_⟩
          simp only [List.setIfInBounds_toArray, List.set_cons_zero, List.set_cons_succ]
          refine hold_take (i := 12) (d := 45) (v := ?vBf12) (listed' := #[true, true, true, true, true, true, true, true, true, true, true, true, true, false, false, false, false, false, false, false, false, false, false, false, false, false, false, false, false, false, false, false, false]) rfl (by kernel_rfl) (by kernel_rfl) (by kernel_rfl) rfl (by rfl) (by kernel_rfl) K3 ?hBf12 ?rBf12
          case hBf12 =>
            intro w' hSw
            obtain ⟨k0, k1⟩ := hSw
            go_simp
            try with_reducible rfl
          simp only [List.setIfInBounds_toArray, List.set_cons_zero, List.set_cons_succ]
          refine hold_take (i := 13) (d := 46) (v := ?vBf13) (listed' := #[true, true, true, true, true, true, true, true, true, true, true, true, true, true, false, false, false, false, false, false, false, false, false, false, false, false, false, false, false, false, false, false, false]) rfl (by kernel_rfl) (by kernel_rfl) (by kernel_rfl) rfl (by rfl) (by kernel_rfl) K3 ?hBf13 ?rBf13
          case hBf13 =>
            intro w' hSw
            obtain ⟨k0, k1⟩ := hSw
            go_simp
            try with_reducible rfl
          simp only [List.setIfInBounds_toArray, List.set_cons_zero, List.set_cons_succ]
          refine hold_take (i := 14) (d := 47) (v := ?vBf14) (listed' := #[true, true, true, true, true, true, true, true, true, true, true, true, true, true, true, false, false, false, false, false, false, false, false, false, false, false, false, false, false, false, false, false, false]) rfl (by kernel_rfl) (by kernel_rfl) (by kernel_rfl) rfl (by rfl) (by kernel_rfl) K3 ?hBf14 ?rBf14
          case hBf14 =>
            intro w' hSw
            obtain ⟨k0, k1⟩ := hSw
            go_simp
            try with_reducible rfl
          simp only [List.setIfInBounds_toArray, List.set_cons_zero, List.set_cons_succ]
          refine hold_take (i := 15) (d := 48) (v := ?vBf15) (listed' := #[true, true, true, true, true, true, true, true, true, true, true, true, true, true, true, true, false, false, false, false, false, false, false, false, false, false, false, false, false, false, false, false, false]) rfl (by kernel_rfl) (by kernel_rfl) (by kernel_rfl) rfl (by rfl) (by kernel_rfl) K3 ?hBf15 ?rBf15
          case hBf15 =>
            intro w' hSw
            obtain ⟨k0, k1⟩ := hSw
            go_simp
            try with_reducible rfl
          simp only [List.setIfInBounds_toArray, List.set_cons_zero, List.set_cons_succ]
          refine hold_take (i := 16) (d := 49) (v := ?vBf16) (listed' := #[true, true, true, true, true, true, true, true, true, true, true, true, true, true, true, true, true, false, false, false, false, false, false, false, false, false, false, false, false, false, false, false, false]) rfl (by kernel_rfl) (by kernel_rfl) (by kernel_rfl) rfl (by rfl) (by kernel_rfl) K3 ?hBf16 ?rBf16
          case hBf16 =>
            intro w' hSw
            obtain ⟨k0, k1⟩ := hSw
            go_simp
            try with_reducible rfl
          simp only [List.setIfInBounds_toArray, List.set_cons_zero, List.set_cons_succ]
          refine hold_take (i := 17) (d := 50) (v := ?vBf17) (listed' := #[true, true, true, true, true, true, true, true, true, true, true, true, true, true, true, true, true, true, false, false, false, false, false, false, false, false, false, false, false, false, false, false, false]) rfl (by kernel_rfl) (by kernel_rfl) (by kernel_rfl) rfl (by rfl) (by kernel_rfl) K3 ?hBf17 ?rBf17
          case hBf17 =>
            intro w' hSw
            obtain ⟨k0, k1⟩ := hSw
            go_simp
            try with_reducible rfl
          simp only [List.setIfInBounds_toArray, List.set_cons_zero, List.set_cons_succ]
          refine hold_take (i := 19) (d := 52) (v := ?vBf19) (listed' := #[true, true, true, true, true, true, true, true, true, true, true, true, true, true, true, true, true, true, false, true, false, false, false, false, false, false, false, false, false, false, false, false, false]) rfl (by kernel_rfl) (by kernel_rfl) (by kernel_rfl) rfl (by rfl) (by kernel_rfl) K3 ?hBf19 ?rBf19
          case hBf19 =>
            intro w' hSw
            obtain ⟨k0, k1⟩ := hSw
            go_simp
            try with_reducible rfl
          simp only [List.setIfInBounds_toArray, List.set_cons_zero, List.set_cons_succ]
          refine hold_call (i := 18) (d := 51) (listed' := #[true, true, true, true, true, true, true, true, true, true, true, true, true, true, true, true, true, true, true, true, false, false, false, false, false, false, false, false, false, false, false, false, false]) rfl (by kernel_rfl) rfl (by rfl) (by kernel_rfl) ?heBf18 (ApartFrom_any (nc := nc) (x := (b : Int)) (v := (a : Int)) Hd3.out.log) ?hcBf18
          case heBf18 => go_simp
          rintro e x4 ⟨rfl, bb4⟩
          rw [P1.out]
          have Hd4 := Lib.hid (Hd3.out.step bb4)
          have K4 := (show _ ∧ _ from ⟨Hd4.out.box.c0, Hd4.out.box.c1⟩)
          clear Hd3 K3 bb4
          refine ⟨_, rfl, K4, ?_⟩
          simp only [List.setIfInBounds_toArray, List.set_cons_zero, List.set_cons_succ]
          refine hold_take (i := 20) (d := 53) (v := ?vBf20) (listed' := #[true, true, true, true, true, true, true, true, true, true, true, true, true, true, true, true, true, true, true, true, true, false, false, false, false, false, false, false, false, false, false, false, false]) rfl (by kernel_rfl) (by kernel_rfl) (by kernel_rfl) rfl (by rfl) (by kernel_rfl) K4 ?hBf20 ?rBf20
          case hBf20 =>
            intro w' hSw
            obtain ⟨k0, k1⟩ := hSw
            go_simp
            try with_reducible rfl
          simp only [List.setIfInBounds_toArray, List.set_cons_zero, List.set_cons_succ]
          refine hold_take (i := 21) (d := 54) (v := ?vBf21) (listed' := #[true, true, true, true, true, true, true, true, true, true, true, true, true, true, true, true, true, true, true, true, true, true, false, false, false, false, false, false, false, false, false, false, false]) rfl (by kernel_rfl) (by kernel_rfl) (by kernel_rfl) rfl (by rfl) (by kernel_rfl) K4 ?hBf21 ?rBf21
          case hBf21 =>
            intro w' hSw
            obtain ⟨k0, k1⟩ := hSw
            go_simp
            try with_reducible rfl
          simp only [List.setIfInBounds_toArray, List.set_cons_zero, List.set_cons_succ]
          refine hold_take (i := 22) (d := 55) (v := ?vBf22) (listed' := #[true, true, true, true, true, true, true, true, true, true, true, true, true, true, true, true, true, true, true, true, true, true, true, false, false, false, false, false, false, false, false, false, false]) rfl (by kernel_rfl) (by kernel_rfl) (by kernel_rfl) rfl (by rfl) (by kernel_rfl) K4 ?hBf22 ?rBf22
          case hBf22 =>
            intro w' hSw
            obtain ⟨k0, k1⟩ := hSw
            go_simp
            try with_reducible rfl
          simp only [List.setIfInBounds_toArray, List.set_cons_zero, List.set_cons_succ]
          refine hold_take (i := 23) (d := 56) (v := ?vBf23) (listed' := #[true, true, true, true, true, true, true, true, true, true, true, true, true, true, true, true, true, true, true, true, true, true, true, true, false, false, false, false, false, false, false, false, false]) rfl (by kernel_rfl) (by kernel_rfl) (by kernel_rfl) rfl (by rfl) (by kernel_rfl) K4 ?hBf23 ?rBf23
          case hBf23 =>
            intro w' hSw
            obtain ⟨k0, k1⟩ := hSw
            go_simp
            try with_reducible rfl
          simp only [List.setIfInBounds_toArray, List.set_cons_zero, List.set_cons_succ]
          refine hold_take (i := 24) (d := 57) (v := ?vBf24) (listed' := #[true, true, true, true, true, true, true, true, true, true, true, true, true, true, true, true, true, true, true, true, true, true, true, true, true, false, false, false, false, false, false, false, false]) rfl (by kernel_rfl) (by kernel_rfl) (by kernel_rfl) rfl (by rfl) (by kernel_rfl) K4 ?hBf24 ?rBf24
          case hBf24 =>
            intro w' hSw
            obtain ⟨k0, k1⟩ := hSw
            go_simp
            try with_reducible rfl
          simp only [List.setIfInBounds_toArray, List.set_cons_zero, List.set_cons_succ]
          refine hold_take (i := 25) (d := 58) (v := ?vBf25) (listed' := #[true, true, true, true, true, true, true, true, true, true, true, true, true, true, true, true, true, true, true, true, true, true, true, true, true, true, false, false, false, false, false, false, false]) rfl (by kernel_rfl) (by kernel_rfl) (by kernel_rfl) rfl (by rfl) (by kernel_rfl) K4 ?hBf25 ?rBf25
          case hBf25 =>
            intro w' hSw
            obtain ⟨k0, k1⟩ := hSw
            go_simp
            try with_reducible rfl
          simp only [List.setIfInBounds_toArray, List.set_cons_zero, List.set_cons_succ]
          refine hold_take (i := 27) (d := 60) (v := ?vBf27) (listed' := #[true, true, true, true, true, true, true, true, true, true, true, true, true, true, true, true, true, true, true, true, true, true, true, true, true, true, false, true, false, false, false, false, false]) rfl (by kernel_rfl) (by kernel_rfl) (by kernel_rfl) rfl (by rfl) (by kernel_rfl) K4 ?hBf27 ?rBf27
          case hBf27 =>
            intro w' hSw
            obtain ⟨k0, k1⟩ := hSw
            go_simp
            try with_reducible rfl
          simp only [List.setIfInBounds_toArray, List.set_cons_zero, List.set_cons_succ]
          refine hold_take (i := 29) (d := 62) (v := ?vBf29) (listed' := #[true, true, true, true, true, true, true, true, true, true, true, true, true, true, true, true, true, true, true, true, true, true, true, true, true, true, false, true, false, true, false, false, false]) rfl (by kernel_rfl) (by kernel_rfl) (by kernel_rfl) rfl (by rfl) (by kernel_rfl) K4 ?hBf29 ?rBf29
          case hBf29 =>
            intro w' hSw
            obtain ⟨k0, k1⟩ := hSw
            go_simp
            try with_reducible rfl
          simp only [List.setIfInBounds_toArray, List.set_cons_zero, List.set_cons_succ]
          refine hold_call (i := 26) (d := 59) (listed' := #[true, true, true, true, true, true, true, true, true, true, true, true, true, true, true, true, true, true, true, true, true, true, true, true, true, true, true, true, false, true, false, false, false]) rfl (by kernel_rfl) rfl (by rfl) (by kernel_rfl) ?heBf26 (NotOf_any (nc := nc) (x := (a : Int)) Hd4.out.log) ?hcBf26
          case heBf26 => go_simp
          rintro e x5 ⟨rfl, bb5⟩
          rw [NA.out]
          have Hd5 := Lib.hid (Hd4.out.step bb5)
          have K5 := (show _ ∧ _ from ⟨Hd5.out.box.c0, Hd5.out.box.c1⟩)
          clear Hd4 K4 bb5
          refine ⟨_, rfl, K5, ?_⟩
          simp only [List.setIfInBounds_toArray, List.set_cons_zero, List.set_cons_succ]
          refine hold_call (i := 28) (d := 61) (listed' := #[true, true, true, true, true, true, true, true, true, true, true, true, true, true, true, true, true, true, true, true, true, true, true, true, true, true, true, true, true, true, false, false, false]) rfl (by kernel_rfl) rfl (by rfl) (by kernel_rfl) ?heBf28 (ApartFrom_any (nc := nc) (x := ((y a : Nat) : Int)) (v := (b : Int)) Hd5.out.log) ?hcBf28
          case heBf28 => go_simp
          rintro e x6 ⟨rfl, bb6⟩
          rw [P2.out]
          have Hd6 := Lib.hid (Hd5.out.step bb6)
          have K6 := (show _ ∧ _ from ⟨Hd6.out.box.c0, Hd6.out.box.c1⟩)
          clear Hd5 K5 bb6
          refine ⟨_, rfl, K6, ?_⟩
          simp only [List.setIfInBounds_toArray, List.set_cons_zero, List.set_cons_succ]
          refine hold_take (i := 30) (d := 63) (v := ?vBf30) (listed' := #[true, true, true, true, true, true, true, true, true, true, true, true, true, true, true, true, true, true, true, true, true, true, true, true, true, true, true, true, true, true, true, false, false]) rfl (by kernel_rfl) (by kernel_rfl) (by kernel_rfl) rfl (by rfl) (by kernel_rfl) K6 ?hBf30 ?rBf30
          case hBf30 =>
            intro w' hSw
            obtain ⟨k0, k1⟩ := hSw
            go_simp
            try with_reducible rfl
          simp only [List.setIfInBounds_toArray, List.set_cons_zero, List.set_cons_succ]
          refine hold_take (i := 31) (d := 64) (v := ?vBf31) (listed' := #[true, true, true, true, true, true, true, true, true, true, true, true, true, true, true, true, true, true, true, true, true, true, true, true, true, true, true, true, true, true, true, true, false]) rfl (by kernel_rfl) (by kernel_rfl) (by kernel_rfl) rfl (by rfl) (by kernel_rfl) K6 ?hBf31 ?rBf31
          case hBf31 =>
            intro w' hSw
            obtain ⟨k0, k1⟩ := hSw
            go_simp
            try with_reducible rfl
          simp only [List.setIfInBounds_toArray, List.set_cons_zero, List.set_cons_succ]
          refine hold_take (i := 32) (d := 2) (v := ?vBf32) (listed' := #[true, true, true, true, true, true, true, true, true, true, true, true, true, true, true, true, true, true, true, true, true, true, true, true, true, true, true, true, true, true, true, true, true]) rfl (by kernel_rfl) (by kernel_rfl) (by kernel_rfl) rfl (by rfl) (by kernel_rfl) K6 ?hBf32 ?rBf32
          case hBf32 =>
            intro w' hSw
            obtain ⟨k0, k1⟩ := hSw
            go_simp
            try with_reducible rfl
          simp only [List.setIfInBounds_toArray, List.set_cons_zero, List.set_cons_succ]
          refine hold_done (by kernel_rfl) ?_ _
          go_wp2_with fail
          go_ret
          exact ⟨rfl, Hd6.out.old⟩
        | true =>
          have HW : Hid (withV m k zz (a : Int) (b : Int) = true) := hw.trans hag
          have e1 : (((N : Nat) : Int) == ((y o3 : Nat) : Int)) = true := hi.trans hag
          clear hw hag hi
          go_wp2_with fail
          have Hd0 := Lib.hid (H3.step (Below.refl _ w3).drew)
          have K0 := (show _ ∧ _ from ⟨Hd0.out.box.c0, Hd0.out.box.c1⟩)
          clear H3 q0 q1
          refine region_plain (fuel := 33) (listed := #[false, false, false, false, false, false, false, false, false, false, false, false, false, false, false, false, false, false, false, false, false, false, false, false, false, false, false, false, false, false, false, false, false]) (fun w' => w'.cell? ⟨w1.heap.size, 0, none⟩ = some (.slice ua m.n l.cap) ∧ w'.cell? ⟨w1.heap.size, 1, none⟩ = some (.slice na k nc)) (by kernel_rfl) (by kernel_rfl) (by kernel_rfl) ?_
          refine hold_take (i := 0) (d := 33) (v := ?vBt0) (listed' := #[true, false, false, false, false, false, false, false, false, false, false, false, false, false, false, false, false, false, false, false, false, false, false, false, false, false, false, false, false, false, false, false, false]) rfl (by kernel_rfl) (by kernel_rfl) (by kernel_rfl) rfl (by rfl) (by kernel_rfl) K0 ?hBt0 ?rBt0
          case hBt0 =>
            intro w' hSw
            obtain ⟨k0, k1⟩ := hSw
            go_simp
            try with_reducible rfl
          simp only [List.setIfInBounds_toArray, List.set_cons_zero, List.set_cons_succ]
          refine hold_call (i := 1) (d := 34) (listed' := #[true, true, false, false, false, false, false, false, false, false, false, false, false, false, false, false, false, false, false, false, false, false, false, false, false, false, false, false, false, false, false, false, false]) rfl (by kernel_rfl) rfl (by rfl) (by kernel_rfl) ?heBt1 (KeepsOk_any (nc := nc) Hd0.out.log) ?hcBt1
          case heBt1 => go_simp
          rintro e x1 ⟨rfl, bb1⟩
          rw [HK.out]
          have Hd1 := Lib.hid (Hd0.out.step bb1)
          have K1 := (show _ ∧ _ from ⟨Hd1.out.box.c0, Hd1.out.box.c1⟩)
          clear Hd0 K0 bb1
          refine ⟨_, rfl, K1, ?_⟩
          simp only [List.setIfInBounds_toArray, List.set_cons_zero, List.set_cons_succ]
          refine hold_take (i := 2) (d := 35) (v := ?vBt2) (listed' := #[true, true, true, false, false, false, false, false, false, false, false, false, false, false, false, false, false, false, false, false, false, false, false, false, false, false, false, false, false, false, false, false, false]) rfl (by kernel_rfl) (by kernel_rfl) (by kernel_rfl) rfl (by rfl) (by kernel_rfl) K1 ?hBt2 ?rBt2
          case hBt2 =>
            intro w' hSw
            obtain ⟨k0, k1⟩ := hSw
            go_simp
            try with_reducible rfl
          simp only [List.setIfInBounds_toArray, List.set_cons_zero, List.set_cons_succ]
          refine hold_take (i := 3) (d := 36) (v := ?vBt3) (listed' := #[true, true, true, true, false, false, false, false, false, false, false, false, false, false, false, false, false, false, false, false, false, false, false, false, false, false, false, false, false, false, false, false, false]) rfl (by kernel_rfl) (by kernel_rfl) (by kernel_rfl) rfl (by rfl) (by kernel_rfl) K1 ?hBt3 ?rBt3
          case hBt3 =>
            intro w' hSw
            obtain ⟨k0, k1⟩ := hSw
            go_simp
            try with_reducible rfl
          simp only [List.setIfInBounds_toArray, List.set_cons_zero, List.set_cons_succ]
          refine hold_take (i := 4) (d := 37) (v := ?vBt4) (listed' := #[true, true, true, true, true, false, false, false, false, false, false, false, false, false, false, false, false, false, false, false, false, false, false, false, false, false, false, false, false, false, false, false, false]) rfl (by kernel_rfl) (by kernel_rfl) (by kernel_rfl) rfl (by rfl) (by kernel_rfl) K1 ?hBt4 ?rBt4
          case hBt4 =>
            intro w' hSw
            obtain ⟨k0, k1⟩ := hSw
            go_simp
            try with_reducible rfl
          simp only [List.setIfInBounds_toArray, List.set_cons_zero, List.set_cons_succ]
          refine hold_take (i := 5) (d := 38) (v := ?vBt5) (listed' := #[true, true, true, true, true, true, false, false, false, false, false, false, false, false, false, false, false, false, false, false, false, false, false, false, false, false, false, false, false, false, false, false, false]) rfl (by kernel_rfl) (by kernel_rfl) (by kernel_rfl) rfl (by rfl) (by kernel_rfl) K1 ?hBt5 ?rBt5
          case hBt5 =>
            intro w' hSw
            obtain ⟨k0, k1⟩ := hSw
            go_simp
            try with_reducible rfl
          simp only [List.setIfInBounds_toArray, List.set_cons_zero, List.set_cons_succ]
          refine hold_take (i := 8) (d := 41) (v := ?vBt8) (listed' := #[true, true, true, true, true, true, false, false, true, false, false, false, false, false, false, false, false, false, false, false, false, false, false, false, false, false, false, false, false, false, false, false, false]) rfl (by kernel_rfl) (by kernel_rfl) (by kernel_rfl) rfl (by rfl) (by kernel_rfl) K1 ?hBt8 ?rBt8
          case hBt8 =>
            intro w' hSw
            obtain ⟨k0, k1⟩ := hSw
            go_simp
            try with_reducible rfl
          simp only [List.setIfInBounds_toArray, List.set_cons_zero, List.set_cons_succ]
          refine hold_take (i := 9) (d := 42) (v := ?vBt9) (listed' := #[true, true, true, true, true, true, false, false, true, true, false, false, false, false, false, false, false, false, false, false, false, false, false, false, false, false, false, false, false, false, false, false, false]) rfl (by kernel_rfl) (by kernel_rfl) (by kernel_rfl) rfl (by rfl) (by kernel_rfl) K1 ?hBt9 ?rBt9
          case hBt9 =>
            intro w' hSw
            obtain ⟨k0, k1⟩ := hSw
            go_simp
            try with_reducible rfl
          simp only [List.setIfInBounds_toArray, List.set_cons_zero, List.set_cons_succ]
          refine hold_take (i := 10) (d := 43) (v := ?vBt10) (listed' := #[true, true, true, true, true, true, false, false, true, true, true, false, false, false, false, false, false, false, false, false, false, false, false, false, false, false, false, false, false, false, false, false, false]) rfl (by kernel_rfl) (by kernel_rfl) (by kernel_rfl) rfl (by rfl) (by kernel_rfl) K1 ?hBt10 ?rBt10
          case hBt10 =>
            intro w' hSw
            obtain ⟨k0, k1⟩ := hSw
            go_simp
            try with_reducible rfl
          simp only [List.setIfInBounds_toArray, List.set_cons_zero, List.set_cons_succ]
          refine hold_call (i := 6) (d := 39) (listed' := #[true, true, true, true, true, true, true, false, true, true, true, false, false, false, false, false, false, false, false, false, false, false, false, false, false, false, false, false, false, false, false, false, false]) rfl (by kernel_rfl) rfl (by rfl) (by kernel_rfl) ?heBt6 (YesOf_any (nc := nc) Hd1.out.log) ?hcBt6
          case heBt6 => go_simp
          rintro e x2 ⟨rfl, bb2⟩
          rw [NY.out]
          have Hd2 := Lib.hid (Hd1.out.step bb2)
          have K2 := (show _ ∧ _ from ⟨Hd2.out.box.c0, Hd2.out.box.c1⟩)
          clear Hd1 K1 bb2
          refine ⟨_, rfl, K2, ?_⟩
          simp only [List.setIfInBounds_toArray, List.set_cons_zero, List.set_cons_succ]
          refine hold_take (i := 7) (d := 40) (v := ?vBt7) (listed' := #[true, true, true, true, true, true, true, true, true, true, true, false, false, false, false, false, false, false, false, false, false, false, false, false, false, false, false, false, false, false, false, false, false]) rfl (by kernel_rfl) (by kernel_rfl) (by kernel_rfl) rfl (by rfl) (by kernel_rfl) K2 ?hBt7 ?rBt7
          case hBt7 =>
            intro w' hSw
            obtain ⟨k0, k1⟩ := hSw
            go_simp
            try with_reducible rfl
          simp only [List.setIfInBounds_toArray, List.set_cons_zero, List.set_cons_succ]
          refine hold_call (i := 11) (d := 44) (listed' := #[true, true, true, true, true, true, true, true, true, true, true, true, false, false, false, false, false, false, false, false, false, false, false, false, false, false, false, false, false, false, false, false, false]) rfl (by kernel_rfl) rfl (by rfl) (by kernel_rfl) ?heBt11 (WithOk_any (nc := nc) (x := (a : Int)) (v := (b : Int)) Hd2.out.log) ?hcBt11
          case heBt11 => go_simp
          rintro e x3 ⟨rfl, bb3⟩
          rw [HW.out]
          have Hd3 := Lib.hid (Hd2.out.step bb3)
          have K3 := (show _ ∧ _ from ⟨Hd3.out.box.c0, Hd3.out.box.c1⟩)
          clear Hd2 K2 bb3
          refine ⟨_, rfl, K3, ?_⟩
          simp only [List.setIfInBounds_toArray, List.set_cons_zero, List.set_cons_succ]
          refine hold_take (i := 12) (d := 45) (v := ?vBt12) (listed' := #[true, true, true, true, true, true, true, true, true, true, true, true, true, false, false, false, false, false, false, false, false, false, false, false, false, false, false, false, false, false, false, false, false]) rfl (by kernel_rfl) (by kernel_rfl) (by kernel_rfl) rfl (by rfl) (by kernel_rfl) K3 ?hBt12 ?rBt12
          case hBt12 =>
            intro w' hSw
            obtain ⟨k0, k1⟩ := hSw
            go_simp
            try with_reducible rfl
          simp only [List.setIfInBounds_toArray, List.set_cons_zero, List.set_cons_succ]
          refine hold_take (i := 13) (d := 46) (v := ?vBt13) (listed' := #[true, true, true, true, true, true, true, true, true, true, true, true, true, true, false, false, false, false, false, false, false, false, false, false, false, false, false, false, false, false, false, false, false]) rfl (by kernel_rfl) (by kernel_rfl) (by kernel_rfl) rfl (by rfl) (by kernel_rfl) K3 ?hBt13 ?rBt13
          case hBt13 =>
            intro w' hSw
            obtain ⟨k0, k1⟩ := hSw
            go_simp
            try with_reducible rfl
          simp only [List.setIfInBounds_toArray, List.set_cons_zero, List.set_cons_succ]
          refine hold_take (i := 14) (d := 47) (v := ?vBt14) (listed' := #[true, true, true, true, true, true, true, true, true, true, true, true, true, true, true, false, false, false, false, false, false, false, false, false, false, false, false, false, false, false, false, false, false]) rfl (by kernel_rfl) (by kernel_rfl) (by kernel_rfl) rfl (by rfl) (by kernel_rfl) K3 ?hBt14 ?rBt14
          case hBt14 =>
            intro w' hSw
            obtain ⟨k0, k1⟩ := hSw
            go_simp
            try with_reducible rfl
          simp only [List.setIfInBounds_toArray, List.set_cons_zero, List.set_cons_succ]
          refine hold_take (i := 15) (d := 48) (v := ?vBt15) (listed' := #[true, true, true, true, true, true, true, true, true, true, true, true, true, true, true, true, false, false, false, false, false, false, false, false, false, false, false, false, false, false, false, false, false]) rfl (by kernel_rfl) (by kernel_rfl) (by kernel_rfl) rfl (by rfl) (by kernel_rfl) K3 ?hBt15 ?rBt15
          case hBt15 =>
            intro w' hSw
            obtain ⟨k0, k1⟩ := hSw
            go_simp
            try with_reducible rfl
          simp only [List.setIfInBounds_toArray, List.set_cons_zero, List.set_cons_succ]
          refine hold_take (i := 16) (d := 49) (v := ?vBt16) (listed' := #[true, true, true, true, true, true, true, true, true, true, true, true, true, true, true, true, true, false, false, false, false, false, false, false, false, false, false, false, false, false, false, false, false]) rfl (by kernel_rfl) (by kernel_rfl) (by kernel_rfl) rfl (by rfl) (by kernel_rfl) K3 ?hBt16 ?rBt16
          case hBt16 =>
            intro w' hSw
            obtain ⟨k0, k1⟩ := hSw
            go_simp
            try with_reducible rfl
          simp only [List.setIfInBounds_toArray, List.set_cons_zero, List.set_cons_succ]
          refine hold_take (i := 17) (d := 50) (v := ?vBt17) (listed' := #[true, true, true, true, true, true, true, true, true, true, true, true, true, true, true, true, true, true, false, false, false, false, false, false, false, false, false, false, false, false, false, false, false]) rfl (by kernel_rfl) (by kernel_rfl) (by kernel_rfl) rfl (by rfl) (by kernel_rfl) K3 ?hBt17 ?rBt17
          case hBt17 =>
            intro w' hSw
            obtain ⟨k0, k1⟩ := hSw
            go_simp
            try with_reducible rfl
          simp only [List.setIfInBounds_toArray, List.set_cons_zero, List.set_cons_succ]
          refine hold_take (i := 19) (d := 52) (v := ?vBt19) (listed' := #[true, true, true, true, true, true, true, true, true, true, true, true, true, true, true, true, true, true, false, true, false, false, false, false, false, false, false, false, false, false, false, false, false]) rfl (by kernel_rfl) (by kernel_rfl) (by kernel_rfl) rfl (by rfl) (by kernel_rfl) K3 ?hBt19 ?rBt19
          case hBt19 =>
            intro w' hSw
            obtain ⟨k0, k1⟩ := hSw
            go_simp
            try with_reducible rfl
          simp only [List.setIfInBounds_toArray, List.set_cons_zero, List.set_cons_succ]
          refine hold_call (i := 18) (d := 51) (listed' := #[true, true, true, true, true, true, true, true, true, true, true, true, true, true, true, true, true, true, true, true, false, false, false, false, false, false, false, false, false, false, false, false, false]) rfl (by kernel_rfl) rfl (by rfl) (by kernel_rfl) ?heBt18 (ApartFrom_any (nc := nc) (x := (b : Int)) (v := (a : Int)) Hd3.out.log) ?hcBt18
          case heBt18 => go_simp
          rintro e x4 ⟨rfl, bb4⟩
          rw [P1.out]
          have Hd4 := Lib.hid (Hd3.out.step bb4)
          have K4 := (show _ ∧ _ from ⟨Hd4.out.box.c0, Hd4.out.box.c1⟩)
          clear Hd3 K3 bb4
          refine ⟨_, rfl, K4, ?_⟩
          simp only [List.setIfInBounds_toArray, List.set_cons_zero, List.set_cons_succ]
          refine hold_take (i := 20) (d := 53) (v := ?vBt20) (listed' := #[true, true, true, true, true, true, true, true, true, true, true, true, true, true, true, true, true, true, true, true, true, false, false, false, false, false, false, false, false, false, false, false, false]) rfl (by kernel_rfl) (by kernel_rfl) (by kernel_rfl) rfl (by rfl) (by kernel_rfl) K4 ?hBt20 ?rBt20
          case hBt20 =>
            intro w' hSw
            obtain ⟨k0, k1⟩ := hSw
            go_simp
            try with_reducible rfl
          simp only [List.setIfInBounds_toArray, List.set_cons_zero, List.set_cons_succ]
          refine hold_take (i := 21) (d := 54) (v := ?vBt21) (listed' := #[true, true, true, true, true, true, true, true, true, true, true, true, true, true, true, true, true, true, true, true, true, true, false, false, false, false, false, false, false, false, false, false, false]) rfl (by kernel_rfl) (by kernel_rfl) (by kernel_rfl) rfl (by rfl) (by kernel_rfl) K4 ?hBt21 ?rBt21
          case hBt21 =>
            intro w' hSw
            obtain ⟨k0, k1⟩ := hSw
            go_simp
            try with_reducible rfl
          simp only [List.setIfInBounds_toArray, List.set_cons_zero, List.set_cons_succ]
          refine hold_take (i := 22) (d := 55) (v := ?vBt22) (listed' := #[true, true, true, true, true, true, true, true, true, true, true, true, true, true, true, true, true, true, true, true, true, true, true, false, false, false, false, false, false, false, false, false, false]) rfl (by kernel_rfl) (by kernel_rfl) (by kernel_rfl) rfl (by rfl) (by kernel_rfl) K4 ?hBt22 ?rBt22
          case hBt22 =>
            intro w' hSw
            obtain ⟨k0, k1⟩ := hSw
            go_simp
            try with_reducible rfl
          simp only [List.setIfInBounds_toArray, List.set_cons_zero, List.set_cons_succ]
          refine hold_take (i := 23) (d := 56) (v := ?vBt23) (listed' := #[true, true, true, true, true, true, true, true, true, true, true, true, true, true, true, true, true, true, true, true, true, true, true, true, false, false, false, false, false, false, false, false, false]) rfl (by kernel_rfl) (by kernel_rfl) (by kernel_rfl) rfl (by rfl) (by kernel_rfl) K4 ?hBt23 ?rBt23
          case hBt23 =>
            intro w' hSw
            obtain ⟨k0, k1⟩ := hSw
            go_simp
            try with_reducible rfl
          simp only [List.setIfInBounds_toArray, List.set_cons_zero, List.set_cons_succ]
          refine hold_take (i := 24) (d := 57) (v := ?vBt24) (listed' := #[true, true, true, true, true, true, true, true, true, true, true, true, true, true, true, true, true, true, true, true, true, true, true, true, true, false, false, false, false, false, false, false, false]) rfl (by kernel_rfl) (by kernel_rfl) (by kernel_rfl) rfl (by rfl) (by kernel_rfl) K4 ?hBt24 ?rBt24
          case hBt24 =>
            intro w' hSw
            obtain ⟨k0, k1⟩ := hSw
            go_simp
            try with_reducible rfl
          simp only [List.setIfInBounds_toArray, List.set_cons_zero, List.set_cons_succ]
          refine hold_take (i := 25) (d := 58) (v := ?vBt25) (listed' := #[true, true, true, true, true, true, true, true, true, true, true, true, true, true, true, true, true, true, true, true, true, true, true, true, true, true, false, false, false, false, false, false, false]) rfl (by kernel_rfl) (by kernel_rfl) (by kernel_rfl) rfl (by rfl) (by kernel_rfl) K4 ?hBt25 ?rBt25
          case hBt25 =>
            intro w' hSw
            obtain ⟨k0, k1⟩ := hSw
            go_simp
            try with_reducible rfl
          simp only [List.setIfInBounds_toArray, List.set_cons_zero, List.set_cons_succ]
          refine hold_take (i := 27) (d := 60) (v := ?vBt27) (listed' := #[true, true, true, true, true, true, true, true, true, true, true, true, true, true, true, true, true, true, true, true, true, true, true, true, true, true, false, true, false, false, false, false, false]) rfl (by kernel_rfl) (by kernel_rfl) (by kernel_rfl) rfl (by rfl) (by kernel_rfl) K4 ?hBt27 ?rBt27
          case hBt27 =>
            intro w' hSw
            obtain ⟨k0, k1⟩ := hSw
            go_simp
            try with_reducible rfl
          simp only [List.setIfInBounds_toArray, List.set_cons_zero, List.set_cons_succ]
          refine hold_take (i := 29) (d := 62) (v := ?vBt29) (listed' := #[true, true, true, true, true, true, true, true, true, true, true, true, true, true, true, true, true, true, true, true, true, true, true, true, true, true, false, true, false, true, false, false, false]) rfl (by kernel_rfl) (by kernel_rfl) (by kernel_rfl) rfl (by rfl) (by kernel_rfl) K4 ?hBt29 ?rBt29
          case hBt29 =>
            intro w' hSw
            obtain ⟨k0, k1⟩ := hSw
            go_simp
            try with_reducible rfl
          simp only [List.setIfInBounds_toArray, List.set_cons_zero, List.set_cons_succ]
          refine hold_call (i := 26) (d := 59) (listed' := #[true, true, true, true, true, true, true, true, true, true, true, true, true, true, true, true, true, true, true, true, true, true, true, true, true, true, true, true, false, true, false, false, false]) rfl (by kernel_rfl) rfl (by rfl) (by kernel_rfl) ?heBt26 (NotOf_any (nc := nc) (x := (a : Int)) Hd4.out.log) ?hcBt26
          case heBt26 => go_simp
          rintro e x5 ⟨rfl, bb5⟩
          rw [NA.out]
          have Hd5 := Lib.hid (Hd4.out.step bb5)
          have K5 := (show _ ∧ _ from ⟨Hd5.out.box.c0, Hd5.out.box.c1⟩)
          clear Hd4 K4 bb5
          refine ⟨_, rfl, K5, ?_⟩
          simp only [List.setIfInBounds_toArray, List.set_cons_zero, List.set_cons_succ]
          refine hold_call (i := 28) (d := 61) (listed' := #[true, true, true, true, true, true, true, true, true, true, true, true, true, true, true, true, true, true, true, true, true, true, true, true, true, true, true, true, true, true, false, false, false]) rfl (by kernel_rfl) rfl (by rfl) (by kernel_rfl) ?heBt28 (ApartFrom_any (nc := nc) (x := ((y a : Nat) : Int)) (v := (b : Int)) Hd5.out.log) ?hcBt28
          case heBt28 => go_simp
          rintro e x6 ⟨rfl, bb6⟩
          rw [P2.out]
          have Hd6 := Lib.hid (Hd5.out.step bb6)
          have K6 := (show _ ∧ _ from ⟨Hd6.out.box.c0, Hd6.out.box.c1⟩)
          clear Hd5 K5 bb6
          refine ⟨_, rfl, K6, ?_⟩
          simp only [List.setIfInBounds_toArray, List.set_cons_zero, List.set_cons_succ]
          refine hold_take (i := 30) (d := 63) (v := ?vBt30) (listed' := #[true, true, true, true, true, true, true, true, true, true, true, true, true, true, true, true, true, true, true, true, true, true, true, true, true, true, true, true, true, true, true, false, false]) rfl (by kernel_rfl) (by kernel_rfl) (by kernel_rfl) rfl (by rfl) (by kernel_rfl) K6 ?hBt30 ?rBt30
          case hBt30 =>
            intro w' hSw
            obtain ⟨k0, k1⟩ := hSw
            go_simp
            try with_reducible rfl
          simp only [List.setIfInBounds_toArray, List.set_cons_zero, List.set_cons_succ]
          refine hold_take (i := 31) (d := 64) (v := ?vBt31) (listed' := #[true, true, true, true, true, true, true, true, true, true, true, true, true, true, true, true, true, true, true, true, true, true, true, true, true, true, true, true, true, true, true, true, false]) rfl (by kernel_rfl) (by kernel_rfl) (by kernel_rfl) rfl (by rfl) (by kernel_rfl) K6 ?hBt31 ?rBt31
          case hBt31 =>
            intro w' hSw
            obtain ⟨k0, k1⟩ := hSw
            go_simp
            try with_reducible rfl
          simp only [List.setIfInBounds_toArray, List.set_cons_zero, List.set_cons_succ]
          refine hold_take (i := 32) (d := 2) (v := ?vBt32) (listed' := #[true, true, true, true, true, true, true, true, true, true, true, true, true, true, true, true, true, true, true, true, true, true, true, true, true, true, true, true, true, true, true, true, true]) rfl (by kernel_rfl) (by kernel_rfl) (by kernel_rfl) rfl (by rfl) (by kernel_rfl) K6 ?hBt32 ?rBt32
          case hBt32 =>
            intro w' hSw
            obtain ⟨k0, k1⟩ := hSw
            go_simp
            try with_reducible rfl
          simp only [List.setIfInBounds_toArray, List.set_cons_zero, List.set_cons_succ]
          refine hold_done (by kernel_rfl) ?_ _
          go_wp2_with fail
          go_ret
          exact ⟨rfl, Hd6.out.old⟩
end Go.Proofs.Ytijcacibofpnpaa
