/- The law on ProjectOf, walked at whatever code. -/
import Derived.Test.YtkfinkhdfbogjaaBg
import Derived.Test.YtkfinkhdfbogjaaDn
import Derived.Test.YtkfinkhdfbogjaaCa
import Derived.Test.YtkfinkhdfbogjaaCw
namespace Go.Proofs.Ytkfinkhdfbogjaa
open Go.RowKit Go.Deep

set_option maxRecDepth 100000 in
set_option maxHeartbeats 4000000 in
theorem law_ProjectOf {A : Option Addr} {b o n cap : Nat} {z : Nat → Nat} {w : World} (h : CodeAt w A b o n cap z) :
    Calls Try.prog 3 #[.slice A n cap] w fun e w' => e = .returned (.bool true) ∧ Below w.heap.size w w' := by
  have hn := h.hn
  have hc := h.hc
  by_cases hbig : 1048576 < n
  · have hbig' : (1048576 : Int) < n := by omega
    clear h
    go_enter Try.func3, Try.ntmps3
    go_wp2_with fail
    go_ret
    exact ⟨rfl, Below.refl _ _⟩
  · have hbig' : ¬ (1048576 : Int) < n := by omega
    go_enter Try.func3, Try.ntmps3
    go_wp2_with fail
    go_at_call 11
    refine (draw_ProjectOf h).mono ?_
    rintro e w1 ⟨ua, l, m, na, g, o2, k, nc, zz, x, y, rfl, hF⟩
    have H1 := Held.start hF nc
    clear h hF
    have q0 := H1.box.c0
    have q1 := H1.box.c1
    go_wp2_with fail
    go_at_call 12
    refine (ProjectOf_any H1.log).mono ?_
    rintro e w2 ⟨rfl, b2⟩
    have H2 := H1.step b2
    clear H1 q0 q1 b2
    have q0 := H2.box.c0
    have q1 := H2.box.c1
    go_wp2_with fail
    go_at_call 13
    refine (spec_ProjectOf H2.log).mono ?_
    rintro e w3 ⟨rfl, b3⟩
    have H3 := H2.step b3
    clear H2 q0 q1 b3
    have q0 := H3.box.c0
    have q1 := H3.box.c1
    cases hl : (logicB m k zz && goodB m.n 2 (two x y)) with
    | false =>
      have e : projV m k zz x y = -1 := by unfold projV; rw [hl]; rfl
      rw [e]
      clear e hl
      go_wp2_with fail
      go_at_call 14
      refine (alive_any _).mono ?_
      rintro e w4 ⟨rfl, b4⟩
      have H4 := H3.step b4
      go_wp2_with fail
      go_ret
      exact ⟨rfl, H4.old⟩
    | true =>
      rw [Bool.and_eq_true] at hl
      obtain ⟨hl, hg⟩ := hl
      obtain ⟨a, b, rfl, rfl, ha, hb⟩ := good2 hg
      obtain ⟨y, o3, hO⟩ := (logicB_is hl).ortho
      obtain ⟨p, hp⟩ : ∃ p, projN m y a b = p := ⟨_, rfl⟩
      have hpn : p < m.n := hp ▸ hO.proj_lt ha hb
      have hpa : m.Z p a = 1 := hp ▸ hO.proj_le ha hb
      rw [hO.projV hl ha hb, hp]
      have hK : keepsV m k zz = keepsB m y := hO.keepsV hl
      have HS := Lib.hid hO.lat.order.sq
      obtain ⟨e0, _, _⟩ := H3.log.mat.sq HS.out ha hb
      obtain rfl := e0
      have ha' : (a : Int) < m.n := by omega
      have hb' : (b : Int) < m.n := by omega
      have hp' : (p : Int) < m.n := by omega
      have HPA := Lib.hid hpa
      have t0 : w3.cell? ⟨l.b, l.o + p, none⟩ = some (.slice (some ⟨l.G p, l.O p, none⟩) m.n (l.C p)) := (H3.log.mat.sq HS.out hpn ha).2.1
      have t1 : w3.cell? ⟨l.G p, l.O p + a, none⟩ = some (.int .i64 1) := (H3.log.mat.sq HS.out hpn ha).2.2.trans (by rw [HPA.out])
      cases hk : keepsB m y with
      | false =>
        have HK : Hid (keepsV m k zz = false) := hK.trans hk
        clear hl hg hO hp hpa hK hk
        go_wp2_with fail
        go_at_call 15
        refine (spec_KeepsOk (nc := nc) H3.log).mono ?_
        rintro e w4 ⟨rfl, b4⟩
        rw [HK.out]
        have H4 := H3.step b4
        clear H3 b4
        have q0 := H4.box.c0
        have q1 := H4.box.c1
        go_wp2_with fail
        go_at_call 14
        refine (alive_any _).mono ?_
        rintro e w5 ⟨rfl, b5⟩
        have H5 := H4.step b5
        go_wp2_with fail
        go_ret
        exact ⟨rfl, H5.old⟩
      | true =>
        have HK : Hid (keepsV m k zz = true) := hK.trans hk
        obtain ⟨c, hcm⟩ : ∃ c, mN m a b = c := ⟨_, rfl⟩
        have hpm := hO.proj_meet hk ha hb
        rw [hp, hcm] at hpm
        have NPP : Hid (projV m k zz (a : Int) (p : Int) = (p : Int)) := by show _ = _; rw [hO.projV hl ha hpn, ← hp, hO.proj_again hk ha hb]
        have NA0 : andV m k zz (a : Int) (b : Int) = (c : Int) := by rw [hO.andV hl ha hb, hO.mI ha hb, hcm]
        have NW0 : withV m k zz (b : Int) (a : Int) = agB m y b a := hO.withV hl hb ha
        have hpb : m.Z b a = 1 → p = b := fun e => hp ▸ hO.proj_below hk ha hb e
        obtain ⟨_, _, _, _, f5, _⟩ := hO.ag_facts hb ha
        have hz := leB_cases HS.out hb ha
        clear hl hg hO hp hpa hK hk hcm
        go_wp2_with fail
        go_at_call 15
        refine (spec_KeepsOk (nc := nc) H3.log).mono ?_
        rintro e w4 ⟨rfl, b4⟩
        rw [HK.out]
        have H4 := H3.step b4
        clear H3 b4
        have q0 := H4.box.c0
        have q1 := H4.box.c1
        clear t0 t1
        rcases hz with ⟨l1, z1⟩ | ⟨l1, z1⟩
        · obtain rfl := hpb z1
          have hag := f5 z1
          rw [hag] at hpm NW0
          obtain rfl : p = c := of_decide_eq_true hpm
          have NA := Lib.hid NA0
          have NW := Lib.hid NW0
          have HZ := Lib.hid z1
          clear f5 hag hpm l1 z1 NA0 NW0 hpb
          go_wp2_with fail
          have Hd0 := Lib.hid (H4.step (Below.refl _ w4).drew)
          have K0 := (show _ ∧ _ ∧ _ ∧ _ from ⟨Hd0.out.box.c0, Hd0.out.box.c1, (Hd0.out.log.mat.sq HS.out hpn ha).2.1, (Hd0.out.log.mat.sq HS.out hpn ha).2.2.trans (by rw [HZ.out])⟩)
          clear H4 q0 q1
          refine region_plain (fuel := 36) (listed := #[false, false, false, false, false, false, false, false, false, false, false, false, false, false, false, false, false, false, false, false, false, false, false, false, false, false, false, false, false, false, false, false, false, false, false, false]) (fun w' => w'.cell? ⟨w1.heap.size, 0, none⟩ = some (.slice (some ⟨l.b, l.o, none⟩) m.n l.cap) ∧ w'.cell? ⟨w1.heap.size, 1, none⟩ = some (.slice na k nc) ∧ w'.cell? ⟨l.b, l.o + p, none⟩ = some (.slice (some ⟨l.G p, l.O p, none⟩) m.n (l.C p)) ∧ w'.cell? ⟨l.G p, l.O p + a, none⟩ = some (.int .i64 1)) (by kernel_rfl) (by kernel_rfl) (by kernel_rfl) ?_
          refine hold_take (i := 0) (d := 46) (v := ?vA0) (listed' := #[true, false, false, false, false, false, false, false, false, false, false, false, false, false, false, false, false, false, false, false, false, false, false, false, false, false, false, false, false, false, false, false, false, false, false, false]) rfl (by kernel_rfl) (by kernel_rfl) (by kernel_rfl) rfl (by rfl) (by kernel_rfl) K0 ?hA0 ?rA0
          case hA0 =>
            intro w' hSw
            obtain ⟨k0, k1, k2, k3⟩ := hSw
            go_simp
            try with_reducible rfl
          simp only [List.setIfInBounds_toArray, List.set_cons_zero, List.set_cons_succ]
          refine hold_take (i := 1) (d := 47) (v := ?vA1) (listed' := #[true, true, false, false, false, false, false, false, false, false, false, false, false, false, false, false, false, false, false, false, false, false, false, false, false, false, false, false, false, false, false, false, false, false, false, false]) rfl (by kernel_rfl) (by kernel_rfl) (by kernel_rfl) rfl (by rfl) (by kernel_rfl) K0 ?hA1 ?rA1
          case hA1 =>
            intro w' hSw
            obtain ⟨k0, k1, k2, k3⟩ := hSw
            go_simp
            try with_reducible rfl
          simp only [List.setIfInBounds_toArray, List.set_cons_zero, List.set_cons_succ]
          refine hold_take (i := 2) (d := 48) (v := ?vA2) (listed' := #[true, true, true, false, false, false, false, false, false, false, false, false, false, false, false, false, false, false, false, false, false, false, false, false, false, false, false, false, false, false, false, false, false, false, false, false]) rfl (by kernel_rfl) (by kernel_rfl) (by kernel_rfl) rfl (by rfl) (by kernel_rfl) K0 ?hA2 ?rA2
          case hA2 =>
            intro w' hSw
            obtain ⟨k0, k1, k2, k3⟩ := hSw
            go_simp
            try with_reducible rfl
          simp only [List.setIfInBounds_toArray, List.set_cons_zero, List.set_cons_succ]
          refine hold_take (i := 4) (d := 50) (v := ?vA4) (listed' := #[true, true, true, false, true, false, false, false, false, false, false, false, false, false, false, false, false, false, false, false, false, false, false, false, false, false, false, false, false, false, false, false, false, false, false, false]) rfl (by kernel_rfl) (by kernel_rfl) (by kernel_rfl) rfl (by rfl) (by kernel_rfl) K0 ?hA4 ?rA4
          case hA4 =>
            intro w' hSw
            obtain ⟨k0, k1, k2, k3⟩ := hSw
            go_simp
            try with_reducible rfl
          simp only [List.setIfInBounds_toArray, List.set_cons_zero, List.set_cons_succ]
          refine hold_call (i := 3) (d := 49) (listed' := #[true, true, true, true, true, false, false, false, false, false, false, false, false, false, false, false, false, false, false, false, false, false, false, false, false, false, false, false, false, false, false, false, false, false, false, false]) rfl (by kernel_rfl) rfl (by rfl) (by kernel_rfl) ?heA3 (ProjectOf_any (nc := nc) (x := (a : Int)) (v := (p : Int)) Hd0.out.log) ?hcA3
          case heA3 => go_simp
          rintro e x1 ⟨rfl, bb1⟩
          rw [NPP.out]
          have Hd1 := Lib.hid (Hd0.out.step bb1)
          have K1 := (show _ ∧ _ ∧ _ ∧ _ from ⟨Hd1.out.box.c0, Hd1.out.box.c1, (Hd1.out.log.mat.sq HS.out hpn ha).2.1, (Hd1.out.log.mat.sq HS.out hpn ha).2.2.trans (by rw [HZ.out])⟩)
          clear Hd0 K0 bb1
          refine ⟨_, rfl, K1, ?_⟩
          simp only [List.setIfInBounds_toArray, List.set_cons_zero, List.set_cons_succ]
          refine hold_take (i := 5) (d := 51) (v := ?vA5) (listed' := #[true, true, true, true, true, true, false, false, false, false, false, false, false, false, false, false, false, false, false, false, false, false, false, false, false, false, false, false, false, false, false, false, false, false, false, false]) rfl (by kernel_rfl) (by kernel_rfl) (by kernel_rfl) rfl (by rfl) (by kernel_rfl) K1 ?hA5 ?rA5
          case hA5 =>
            intro w' hSw
            obtain ⟨k0, k1, k2, k3⟩ := hSw
            go_simp
            try with_reducible rfl
          simp only [List.setIfInBounds_toArray, List.set_cons_zero, List.set_cons_succ]
          refine hold_take (i := 6) (d := 52) (v := ?vA6) (listed' := #[true, true, true, true, true, true, true, false, false, false, false, false, false, false, false, false, false, false, false, false, false, false, false, false, false, false, false, false, false, false, false, false, false, false, false, false]) rfl (by kernel_rfl) (by kernel_rfl) (by kernel_rfl) rfl (by rfl) (by kernel_rfl) K1 ?hA6 ?rA6
          case hA6 =>
            intro w' hSw
            obtain ⟨k0, k1, k2, k3⟩ := hSw
            go_simp
            try with_reducible rfl
          simp only [List.setIfInBounds_toArray, List.set_cons_zero, List.set_cons_succ]
          refine hold_take (i := 7) (d := 53) (v := ?vA7) (listed' := #[true, true, true, true, true, true, true, true, false, false, false, false, false, false, false, false, false, false, false, false, false, false, false, false, false, false, false, false, false, false, false, false, false, false, false, false]) rfl (by kernel_rfl) (by kernel_rfl) (by kernel_rfl) rfl (by rfl) (by kernel_rfl) K1 ?hA7 ?rA7
          case hA7 =>
            intro w' hSw
            obtain ⟨k0, k1, k2, k3⟩ := hSw
            go_simp
            try with_reducible rfl
          simp only [List.setIfInBounds_toArray, List.set_cons_zero, List.set_cons_succ]
          refine hold_take (i := 8) (d := 54) (v := ?vA8) (listed' := #[true, true, true, true, true, true, true, true, true, false, false, false, false, false, false, false, false, false, false, false, false, false, false, false, false, false, false, false, false, false, false, false, false, false, false, false]) rfl (by kernel_rfl) (by kernel_rfl) (by kernel_rfl) rfl (by rfl) (by kernel_rfl) K1 ?hA8 ?rA8
          case hA8 =>
            intro w' hSw
            obtain ⟨k0, k1, k2, k3⟩ := hSw
            go_simp
            try with_reducible rfl
          simp only [List.setIfInBounds_toArray, List.set_cons_zero, List.set_cons_succ]
          refine hold_take (i := 9) (d := 55) (v := ?vA9) (listed' := #[true, true, true, true, true, true, true, true, true, true, false, false, false, false, false, false, false, false, false, false, false, false, false, false, false, false, false, false, false, false, false, false, false, false, false, false]) rfl (by kernel_rfl) (by kernel_rfl) (by kernel_rfl) rfl (by rfl) (by kernel_rfl) K1 ?hA9 ?rA9
          case hA9 =>
            intro w' hSw
            obtain ⟨k0, k1, k2, k3⟩ := hSw
            go_simp
            try with_reducible rfl
          simp only [List.setIfInBounds_toArray, List.set_cons_zero, List.set_cons_succ]
          refine hold_take (i := 10) (d := 56) (v := ?vA10) (listed' := #[true, true, true, true, true, true, true, true, true, true, true, false, false, false, false, false, false, false, false, false, false, false, false, false, false, false, false, false, false, false, false, false, false, false, false, false]) rfl (by kernel_rfl) (by kernel_rfl) (by kernel_rfl) rfl (by rfl) (by kernel_rfl) K1 ?hA10 ?rA10
          case hA10 =>
            intro w' hSw
            obtain ⟨k0, k1, k2, k3⟩ := hSw
            go_simp
            try with_reducible rfl
          simp only [List.setIfInBounds_toArray, List.set_cons_zero, List.set_cons_succ]
          refine hold_take (i := 11) (d := 57) (v := ?vA11) (listed' := #[true, true, true, true, true, true, true, true, true, true, true, true, false, false, false, false, false, false, false, false, false, false, false, false, false, false, false, false, false, false, false, false, false, false, false, false]) rfl (by kernel_rfl) (by kernel_rfl) (by kernel_rfl) rfl (by rfl) (by kernel_rfl) K1 ?hA11 ?rA11
          case hA11 =>
            intro w' hSw
            obtain ⟨k0, k1, k2, k3⟩ := hSw
            go_simp
            try with_reducible rfl
          simp only [List.setIfInBounds_toArray, List.set_cons_zero, List.set_cons_succ]
          refine hold_take (i := 12) (d := 58) (v := ?vA12) (listed' := #[true, true, true, true, true, true, true, true, true, true, true, true, true, false, false, false, false, false, false, false, false, false, false, false, false, false, false, false, false, false, false, false, false, false, false, false]) rfl (by kernel_rfl) (by kernel_rfl) (by kernel_rfl) rfl (by rfl) (by kernel_rfl) K1 ?hA12 ?rA12
          case hA12 =>
            intro w' hSw
            obtain ⟨k0, k1, k2, k3⟩ := hSw
            go_simp
            try with_reducible rfl
          simp only [List.setIfInBounds_toArray, List.set_cons_zero, List.set_cons_succ]
          refine hold_take (i := 13) (d := 59) (v := ?vA13) (listed' := #[true, true, true, true, true, true, true, true, true, true, true, true, true, true, false, false, false, false, false, false, false, false, false, false, false, false, false, false, false, false, false, false, false, false, false, false]) rfl (by kernel_rfl) (by kernel_rfl) (by kernel_rfl) rfl (by rfl) (by kernel_rfl) K1 ?hA13 ?rA13
          case hA13 =>
            intro w' hSw
            obtain ⟨k0, k1, k2, k3⟩ := hSw
            go_simp
            try with_reducible rfl
          simp only [List.setIfInBounds_toArray, List.set_cons_zero, List.set_cons_succ]
          refine hold_take (i := 14) (d := 60) (v := ?vA14) (listed' := #[true, true, true, true, true, true, true, true, true, true, true, true, true, true, true, false, false, false, false, false, false, false, false, false, false, false, false, false, false, false, false, false, false, false, false, false]) rfl (by kernel_rfl) (by kernel_rfl) (by kernel_rfl) rfl (by rfl) (by kernel_rfl) K1 ?hA14 ?rA14
          case hA14 =>
            intro w' hSw
            obtain ⟨k0, k1, k2, k3⟩ := hSw
            go_simp
            try with_reducible rfl
          simp only [List.setIfInBounds_toArray, List.set_cons_zero, List.set_cons_succ]
          refine hold_take (i := 15) (d := 61) (v := ?vA15) (listed' := #[true, true, true, true, true, true, true, true, true, true, true, true, true, true, true, true, false, false, false, false, false, false, false, false, false, false, false, false, false, false, false, false, false, false, false, false]) rfl (by kernel_rfl) (by kernel_rfl) (by kernel_rfl) rfl (by rfl) (by kernel_rfl) K1 ?hA15 ?rA15
          case hA15 =>
            intro w' hSw
            obtain ⟨k0, k1, k2, k3⟩ := hSw
            go_simp
            try with_reducible rfl
          simp only [List.setIfInBounds_toArray, List.set_cons_zero, List.set_cons_succ]
          refine hold_take (i := 16) (d := 62) (v := ?vA16) (listed' := #[true, true, true, true, true, true, true, true, true, true, true, true, true, true, true, true, true, false, false, false, false, false, false, false, false, false, false, false, false, false, false, false, false, false, false, false]) rfl (by kernel_rfl) (by kernel_rfl) (by kernel_rfl) rfl (by rfl) (by kernel_rfl) K1 ?hA16 ?rA16
          case hA16 =>
            intro w' hSw
            obtain ⟨k0, k1, k2, k3⟩ := hSw
            go_simp
            try with_reducible rfl
          simp only [List.setIfInBounds_toArray, List.set_cons_zero, List.set_cons_succ]
          refine hold_take (i := 17) (d := 63) (v := ?vA17) (listed' := #[true, true, true, true, true, true, true, true, true, true, true, true, true, true, true, true, true, true, false, false, false, false, false, false, false, false, false, false, false, false, false, false, false, false, false, false]) rfl (by kernel_rfl) (by kernel_rfl) (by kernel_rfl) rfl (by rfl) (by kernel_rfl) K1 ?hA17 ?rA17
          case hA17 =>
            intro w' hSw
            obtain ⟨k0, k1, k2, k3⟩ := hSw
            go_simp
            try with_reducible rfl
          simp only [List.setIfInBounds_toArray, List.set_cons_zero, List.set_cons_succ]
          refine hold_take (i := 18) (d := 64) (v := ?vA18) (listed' := #[true, true, true, true, true, true, true, true, true, true, true, true, true, true, true, true, true, true, true, false, false, false, false, false, false, false, false, false, false, false, false, false, false, false, false, false]) rfl (by kernel_rfl) (by kernel_rfl) (by kernel_rfl) rfl (by rfl) (by kernel_rfl) K1 ?hA18 ?rA18
          case hA18 =>
            intro w' hSw
            obtain ⟨k0, k1, k2, k3⟩ := hSw
            go_simp
            try with_reducible rfl
          simp only [List.setIfInBounds_toArray, List.set_cons_zero, List.set_cons_succ]
          refine hold_take (i := 19) (d := 65) (v := ?vA19) (listed' := #[true, true, true, true, true, true, true, true, true, true, true, true, true, true, true, true, true, true, true, true, false, false, false, false, false, false, false, false, false, false, false, false, false, false, false, false]) rfl (by kernel_rfl) (by kernel_rfl) (by kernel_rfl) rfl (by rfl) (by kernel_rfl) K1 ?hA19 ?rA19
          case hA19 =>
            intro w' hSw
            obtain ⟨k0, k1, k2, k3⟩ := hSw
            go_simp
            try with_reducible rfl
          simp only [List.setIfInBounds_toArray, List.set_cons_zero, List.set_cons_succ]
          refine hold_take (i := 20) (d := 66) (v := ?vA20) (listed' := #[true, true, true, true, true, true, true, true, true, true, true, true, true, true, true, true, true, true, true, true, true, false, false, false, false, false, false, false, false, false, false, false, false, false, false, false]) rfl (by kernel_rfl) (by kernel_rfl) (by kernel_rfl) rfl (by rfl) (by kernel_rfl) K1 ?hA20 ?rA20
          case hA20 =>
            intro w' hSw
            obtain ⟨k0, k1, k2, k3⟩ := hSw
            go_simp
            try with_reducible rfl
          simp only [List.setIfInBounds_toArray, List.set_cons_zero, List.set_cons_succ]
          refine hold_take (i := 21) (d := 67) (v := ?vA21) (listed' := #[true, true, true, true, true, true, true, true, true, true, true, true, true, true, true, true, true, true, true, true, true, true, false, false, false, false, false, false, false, false, false, false, false, false, false, false]) rfl (by kernel_rfl) (by kernel_rfl) (by kernel_rfl) rfl (by rfl) (by kernel_rfl) K1 ?hA21 ?rA21
          case hA21 =>
            intro w' hSw
            obtain ⟨k0, k1, k2, k3⟩ := hSw
            go_simp
            try with_reducible rfl
          simp only [List.setIfInBounds_toArray, List.set_cons_zero, List.set_cons_succ]
          refine hold_take (i := 22) (d := 68) (v := ?vA22) (listed' := #[true, true, true, true, true, true, true, true, true, true, true, true, true, true, true, true, true, true, true, true, true, true, true, false, false, false, false, false, false, false, false, false, false, false, false, false]) rfl (by kernel_rfl) (by kernel_rfl) (by kernel_rfl) rfl (by rfl) (by kernel_rfl) K1 ?hA22 ?rA22
          case hA22 =>
            intro w' hSw
            obtain ⟨k0, k1, k2, k3⟩ := hSw
            go_simp
            try with_reducible rfl
          simp only [List.setIfInBounds_toArray, List.set_cons_zero, List.set_cons_succ]
          refine hold_take (i := 23) (d := 69) (v := ?vA23) (listed' := #[true, true, true, true, true, true, true, true, true, true, true, true, true, true, true, true, true, true, true, true, true, true, true, true, false, false, false, false, false, false, false, false, false, false, false, false]) rfl (by kernel_rfl) (by kernel_rfl) (by kernel_rfl) rfl (by rfl) (by kernel_rfl) K1 ?hA23 ?rA23
          case hA23 =>
            intro w' hSw
            obtain ⟨k0, k1, k2, k3⟩ := hSw
            go_simp
            try with_reducible rfl
          simp only [List.setIfInBounds_toArray, List.set_cons_zero, List.set_cons_succ]
          refine hold_take (i := 24) (d := 70) (v := ?vA24) (listed' := #[true, true, true, true, true, true, true, true, true, true, true, true, true, true, true, true, true, true, true, true, true, true, true, true, true, false, false, false, false, false, false, false, false, false, false, false]) rfl (by kernel_rfl) (by kernel_rfl) (by kernel_rfl) rfl (by rfl) (by kernel_rfl) K1 ?hA24 ?rA24
          case hA24 =>
            intro w' hSw
            obtain ⟨k0, k1, k2, k3⟩ := hSw
            go_simp
            try with_reducible rfl
          simp only [List.setIfInBounds_toArray, List.set_cons_zero, List.set_cons_succ]
          refine hold_take (i := 25) (d := 71) (v := ?vA25) (listed' := #[true, true, true, true, true, true, true, true, true, true, true, true, true, true, true, true, true, true, true, true, true, true, true, true, true, true, false, false, false, false, false, false, false, false, false, false]) rfl (by kernel_rfl) (by kernel_rfl) (by kernel_rfl) rfl (by rfl) (by kernel_rfl) K1 ?hA25 ?rA25
          case hA25 =>
            intro w' hSw
            obtain ⟨k0, k1, k2, k3⟩ := hSw
            go_simp
            try with_reducible rfl
          simp only [List.setIfInBounds_toArray, List.set_cons_zero, List.set_cons_succ]
          refine hold_take (i := 26) (d := 72) (v := ?vA26) (listed' := #[true, true, true, true, true, true, true, true, true, true, true, true, true, true, true, true, true, true, true, true, true, true, true, true, true, true, true, false, false, false, false, false, false, false, false, false]) rfl (by kernel_rfl) (by kernel_rfl) (by kernel_rfl) rfl (by rfl) (by kernel_rfl) K1 ?hA26 ?rA26
          case hA26 =>
            intro w' hSw
            obtain ⟨k0, k1, k2, k3⟩ := hSw
            go_simp
            try with_reducible rfl
          simp only [List.setIfInBounds_toArray, List.set_cons_zero, List.set_cons_succ]
          refine hold_take (i := 29) (d := 75) (v := ?vA29) (listed' := #[true, true, true, true, true, true, true, true, true, true, true, true, true, true, true, true, true, true, true, true, true, true, true, true, true, true, true, false, false, true, false, false, false, false, false, false]) rfl (by kernel_rfl) (by kernel_rfl) (by kernel_rfl) rfl (by rfl) (by kernel_rfl) K1 ?hA29 ?rA29
          case hA29 =>
            intro w' hSw
            obtain ⟨k0, k1, k2, k3⟩ := hSw
            go_simp
            try with_reducible rfl
          simp only [List.setIfInBounds_toArray, List.set_cons_zero, List.set_cons_succ]
          refine hold_take (i := 30) (d := 76) (v := ?vA30) (listed' := #[true, true, true, true, true, true, true, true, true, true, true, true, true, true, true, true, true, true, true, true, true, true, true, true, true, true, true, false, false, true, true, false, false, false, false, false]) rfl (by kernel_rfl) (by kernel_rfl) (by kernel_rfl) rfl (by rfl) (by kernel_rfl) K1 ?hA30 ?rA30
          case hA30 =>
            intro w' hSw
            obtain ⟨k0, k1, k2, k3⟩ := hSw
            go_simp
            try with_reducible rfl
          simp only [List.setIfInBounds_toArray, List.set_cons_zero, List.set_cons_succ]
          refine hold_take (i := 31) (d := 77) (v := ?vA31) (listed' := #[true, true, true, true, true, true, true, true, true, true, true, true, true, true, true, true, true, true, true, true, true, true, true, true, true, true, true, false, false, true, true, true, false, false, false, false]) rfl (by kernel_rfl) (by kernel_rfl) (by kernel_rfl) rfl (by rfl) (by kernel_rfl) K1 ?hA31 ?rA31
          case hA31 =>
            intro w' hSw
            obtain ⟨k0, k1, k2, k3⟩ := hSw
            go_simp
            try with_reducible rfl
          simp only [List.setIfInBounds_toArray, List.set_cons_zero, List.set_cons_succ]
          refine hold_call (i := 27) (d := 73) (listed' := #[true, true, true, true, true, true, true, true, true, true, true, true, true, true, true, true, true, true, true, true, true, true, true, true, true, true, true, true, false, true, true, true, false, false, false, false]) rfl (by kernel_rfl) rfl (by rfl) (by kernel_rfl) ?heA27 (AndOf_any (nc := nc) (x := (a : Int)) (y := (p : Int)) Hd1.out.log) ?hcA27
          case heA27 => go_simp
          rintro e x2 ⟨rfl, bb2⟩
          rw [NA.out]
          have Hd2 := Lib.hid (Hd1.out.step bb2)
          have K2 := (show _ ∧ _ ∧ _ ∧ _ from ⟨Hd2.out.box.c0, Hd2.out.box.c1, (Hd2.out.log.mat.sq HS.out hpn ha).2.1, (Hd2.out.log.mat.sq HS.out hpn ha).2.2.trans (by rw [HZ.out])⟩)
          clear Hd1 K1 bb2
          refine ⟨_, rfl, K2, ?_⟩
          simp only [List.setIfInBounds_toArray, List.set_cons_zero, List.set_cons_succ]
          refine hold_take (i := 28) (d := 74) (v := ?vA28) (listed' := #[true, true, true, true, true, true, true, true, true, true, true, true, true, true, true, true, true, true, true, true, true, true, true, true, true, true, true, true, true, true, true, true, false, false, false, false]) rfl (by kernel_rfl) (by kernel_rfl) (by kernel_rfl) rfl (by rfl) (by kernel_rfl) K2 ?hA28 ?rA28
          case hA28 =>
            intro w' hSw
            obtain ⟨k0, k1, k2, k3⟩ := hSw
            go_simp
            try with_reducible rfl
          simp only [List.setIfInBounds_toArray, List.set_cons_zero, List.set_cons_succ]
          refine hold_call (i := 32) (d := 78) (listed' := #[true, true, true, true, true, true, true, true, true, true, true, true, true, true, true, true, true, true, true, true, true, true, true, true, true, true, true, true, true, true, true, true, true, false, false, false]) rfl (by kernel_rfl) rfl (by rfl) (by kernel_rfl) ?heA32 (WithOk_any (nc := nc) (x := (p : Int)) (v := (a : Int)) Hd2.out.log) ?hcA32
          case heA32 => go_simp
          rintro e x3 ⟨rfl, bb3⟩
          rw [NW.out]
          have Hd3 := Lib.hid (Hd2.out.step bb3)
          have K3 := (show _ ∧ _ ∧ _ ∧ _ from ⟨Hd3.out.box.c0, Hd3.out.box.c1, (Hd3.out.log.mat.sq HS.out hpn ha).2.1, (Hd3.out.log.mat.sq HS.out hpn ha).2.2.trans (by rw [HZ.out])⟩)
          clear Hd2 K2 bb3
          refine ⟨_, rfl, K3, ?_⟩
          simp only [List.setIfInBounds_toArray, List.set_cons_zero, List.set_cons_succ]
          refine hold_take (i := 33) (d := 79) (v := ?vA33) (listed' := #[true, true, true, true, true, true, true, true, true, true, true, true, true, true, true, true, true, true, true, true, true, true, true, true, true, true, true, true, true, true, true, true, true, true, false, false]) rfl (by kernel_rfl) (by kernel_rfl) (by kernel_rfl) rfl (by rfl) (by kernel_rfl) K3 ?hA33 ?rA33
          case hA33 =>
            intro w' hSw
            obtain ⟨k0, k1, k2, k3⟩ := hSw
            go_simp
            try with_reducible rfl
          simp only [List.setIfInBounds_toArray, List.set_cons_zero, List.set_cons_succ]
          refine hold_take (i := 34) (d := 80) (v := ?vA34) (listed' := #[true, true, true, true, true, true, true, true, true, true, true, true, true, true, true, true, true, true, true, true, true, true, true, true, true, true, true, true, true, true, true, true, true, true, true, false]) rfl (by kernel_rfl) (by kernel_rfl) (by kernel_rfl) rfl (by rfl) (by kernel_rfl) K3 ?hA34 ?rA34
          case hA34 =>
            intro w' hSw
            obtain ⟨k0, k1, k2, k3⟩ := hSw
            go_simp
            try with_reducible rfl
          simp only [List.setIfInBounds_toArray, List.set_cons_zero, List.set_cons_succ]
          refine hold_take (i := 35) (d := 2) (v := ?vA35) (listed' := #[true, true, true, true, true, true, true, true, true, true, true, true, true, true, true, true, true, true, true, true, true, true, true, true, true, true, true, true, true, true, true, true, true, true, true, true]) rfl (by kernel_rfl) (by kernel_rfl) (by kernel_rfl) rfl (by rfl) (by kernel_rfl) K3 ?hA35 ?rA35
          case hA35 =>
            intro w' hSw
            obtain ⟨k0, k1, k2, k3⟩ := hSw
            go_simp
            try with_reducible rfl
          simp only [List.setIfInBounds_toArray, List.set_cons_zero, List.set_cons_succ]
          refine hold_done (by kernel_rfl) ?_ _
          go_wp2_with fail
          go_ret
          exact ⟨rfl, Hd3.out.old⟩
        · cases hag : agB m y b a with
          | true =>
            rw [hag] at hpm NW0
            obtain rfl : p = c := of_decide_eq_true hpm
            have NA := Lib.hid NA0
            have NW := Lib.hid NW0
            have HZ := Lib.hid z1
            clear f5 hag hpm l1 z1 NA0 NW0 hpb
            go_wp2_with fail
            have Hd0 := Lib.hid (H4.step (Below.refl _ w4).drew)
            have K0 := (show _ ∧ _ ∧ _ ∧ _ from ⟨Hd0.out.box.c0, Hd0.out.box.c1, (Hd0.out.log.mat.sq HS.out hb ha).2.1, (Hd0.out.log.mat.sq HS.out hb ha).2.2.trans (by rw [HZ.out])⟩)
            clear H4 q0 q1
            refine region_plain (fuel := 36) (listed := #[false, false, false, false, false, false, false, false, false, false, false, false, false, false, false, false, false, false, false, false, false, false, false, false, false, false, false, false, false, false, false, false, false, false, false, false]) (fun w' => w'.cell? ⟨w1.heap.size, 0, none⟩ = some (.slice (some ⟨l.b, l.o, none⟩) m.n l.cap) ∧ w'.cell? ⟨w1.heap.size, 1, none⟩ = some (.slice na k nc) ∧ w'.cell? ⟨l.b, l.o + b, none⟩ = some (.slice (some ⟨l.G b, l.O b, none⟩) m.n (l.C b)) ∧ w'.cell? ⟨l.G b, l.O b + a, none⟩ = some (.int .i64 0)) (by kernel_rfl) (by kernel_rfl) (by kernel_rfl) ?_
            refine hold_take (i := 0) (d := 46) (v := ?vB0) (listed' := #[true, false, false, false, false, false, false, false, false, false, false, false, false, false, false, false, false, false, false, false, false, false, false, false, false, false, false, false, false, false, false, false, false, false, false, false]) rfl (by kernel_rfl) (by kernel_rfl) (by kernel_rfl) rfl (by rfl) (by kernel_rfl) K0 ?hB0 ?rB0
            case hB0 =>
              intro w' hSw
              obtain ⟨k0, k1, k2, k3⟩ := hSw
              go_simp
              try with_reducible rfl
            simp only [List.setIfInBounds_toArray, List.set_cons_zero, List.set_cons_succ]
            refine hold_take (i := 1) (d := 47) (v := ?vB1) (listed' := #[true, true, false, false, false, false, false, false, false, false, false, false, false, false, false, false, false, false, false, false, false, false, false, false, false, false, false, false, false, false, false, false, false, false, false, false]) rfl (by kernel_rfl) (by kernel_rfl) (by kernel_rfl) rfl (by rfl) (by kernel_rfl) K0 ?hB1 ?rB1
            case hB1 =>
              intro w' hSw
              obtain ⟨k0, k1, k2, k3⟩ := hSw
              go_simp
              try with_reducible rfl
            simp only [List.setIfInBounds_toArray, List.set_cons_zero, List.set_cons_succ]
            refine hold_take (i := 2) (d := 48) (v := ?vB2) (listed' := #[true, true, true, false, false, false, false, false, false, false, false, false, false, false, false, false, false, false, false, false, false, false, false, false, false, false, false, false, false, false, false, false, false, false, false, false]) rfl (by kernel_rfl) (by kernel_rfl) (by kernel_rfl) rfl (by rfl) (by kernel_rfl) K0 ?hB2 ?rB2
            case hB2 =>
              intro w' hSw
              obtain ⟨k0, k1, k2, k3⟩ := hSw
              go_simp
              try with_reducible rfl
            simp only [List.setIfInBounds_toArray, List.set_cons_zero, List.set_cons_succ]
            refine hold_take (i := 4) (d := 50) (v := ?vB4) (listed' := #[true, true, true, false, true, false, false, false, false, false, false, false, false, false, false, false, false, false, false, false, false, false, false, false, false, false, false, false, false, false, false, false, false, false, false, false]) rfl (by kernel_rfl) (by kernel_rfl) (by kernel_rfl) rfl (by rfl) (by kernel_rfl) K0 ?hB4 ?rB4
            case hB4 =>
              intro w' hSw
              obtain ⟨k0, k1, k2, k3⟩ := hSw
              go_simp
              try with_reducible rfl
            simp only [List.setIfInBounds_toArray, List.set_cons_zero, List.set_cons_succ]
            refine hold_call (i := 3) (d := 49) (listed' := #[true, true, true, true, true, false, false, false, false, false, false, false, false, false, false, false, false, false, false, false, false, false, false, false, false, false, false, false, false, false, false, false, false, false, false, false]) rfl (by kernel_rfl) rfl (by rfl) (by kernel_rfl) ?heB3 (ProjectOf_any (nc := nc) (x := (a : Int)) (v := (p : Int)) Hd0.out.log) ?hcB3
            case heB3 => go_simp
            rintro e x1 ⟨rfl, bb1⟩
            rw [NPP.out]
            have Hd1 := Lib.hid (Hd0.out.step bb1)
            have K1 := (show _ ∧ _ ∧ _ ∧ _ from ⟨Hd1.out.box.c0, Hd1.out.box.c1, (Hd1.out.log.mat.sq HS.out hb ha).2.1, (Hd1.out.log.mat.sq HS.out hb ha).2.2.trans (by rw [HZ.out])⟩)
            clear Hd0 K0 bb1
            refine ⟨_, rfl, K1, ?_⟩
            simp only [List.setIfInBounds_toArray, List.set_cons_zero, List.set_cons_succ]
            refine hold_take (i := 5) (d := 51) (v := ?vB5) (listed' := #[true, true, true, true, true, true, false, false, false, false, false, false, false, false, false, false, false, false, false, false, false, false, false, false, false, false, false, false, false, false, false, false, false, false, false, false]) rfl (by kernel_rfl) (by kernel_rfl) (by kernel_rfl) rfl (by rfl) (by kernel_rfl) K1 ?hB5 ?rB5
            case hB5 =>
              intro w' hSw
              obtain ⟨k0, k1, k2, k3⟩ := hSw
              go_simp
              try with_reducible rfl
            simp only [List.setIfInBounds_toArray, List.set_cons_zero, List.set_cons_succ]
            refine hold_take (i := 6) (d := 52) (v := ?vB6) (listed' := #[true, true, true, true, true, true, true, false, false, false, false, false, false, false, false, false, false, false, false, false, false, false, false, false, false, false, false, false, false, false, false, false, false, false, false, false]) rfl (by kernel_rfl) (by kernel_rfl) (by kernel_rfl) rfl (by rfl) (by kernel_rfl) K1 ?hB6 ?rB6
            case hB6 =>
              intro w' hSw
              obtain ⟨k0, k1, k2, k3⟩ := hSw
              go_simp
              try with_reducible rfl
            simp only [List.setIfInBounds_toArray, List.set_cons_zero, List.set_cons_succ]
            refine hold_take (i := 7) (d := 53) (v := ?vB7) (listed' := #[true, true, true, true, true, true, true, true, false, false, false, false, false, false, false, false, false, false, false, false, false, false, false, false, false, false, false, false, false, false, false, false, false, false, false, false]) rfl (by kernel_rfl) (by kernel_rfl) (by kernel_rfl) rfl (by rfl) (by kernel_rfl) K1 ?hB7 ?rB7
            case hB7 =>
              intro w' hSw
              obtain ⟨k0, k1, k2, k3⟩ := hSw
              go_simp
              try with_reducible rfl
            simp only [List.setIfInBounds_toArray, List.set_cons_zero, List.set_cons_succ]
            refine hold_take (i := 8) (d := 54) (v := ?vB8) (listed' := #[true, true, true, true, true, true, true, true, true, false, false, false, false, false, false, false, false, false, false, false, false, false, false, false, false, false, false, false, false, false, false, false, false, false, false, false]) rfl (by kernel_rfl) (by kernel_rfl) (by kernel_rfl) rfl (by rfl) (by kernel_rfl) K1 ?hB8 ?rB8
            case hB8 =>
              intro w' hSw
              obtain ⟨k0, k1, k2, k3⟩ := hSw
              go_simp
              try with_reducible rfl
            simp only [List.setIfInBounds_toArray, List.set_cons_zero, List.set_cons_succ]
            refine hold_take (i := 9) (d := 55) (v := ?vB9) (listed' := #[true, true, true, true, true, true, true, true, true, true, false, false, false, false, false, false, false, false, false, false, false, false, false, false, false, false, false, false, false, false, false, false, false, false, false, false]) rfl (by kernel_rfl) (by kernel_rfl) (by kernel_rfl) rfl (by rfl) (by kernel_rfl) K1 ?hB9 ?rB9
            case hB9 =>
              intro w' hSw
              obtain ⟨k0, k1, k2, k3⟩ := hSw
              go_simp
              try with_reducible rfl
            simp only [List.setIfInBounds_toArray, List.set_cons_zero, List.set_cons_succ]
            refine hold_take (i := 10) (d := 56) (v := ?vB10) (listed' := #[true, true, true, true, true, true, true, true, true, true, true, false, false, false, false, false, false, false, false, false, false, false, false, false, false, false, false, false, false, false, false, false, false, false, false, false]) rfl (by kernel_rfl) (by kernel_rfl) (by kernel_rfl) rfl (by rfl) (by kernel_rfl) K1 ?hB10 ?rB10
            case hB10 =>
              intro w' hSw
              obtain ⟨k0, k1, k2, k3⟩ := hSw
              go_simp
              try with_reducible rfl
            simp only [List.setIfInBounds_toArray, List.set_cons_zero, List.set_cons_succ]
            refine hold_take (i := 11) (d := 57) (v := ?vB11) (listed' := #[true, true, true, true, true, true, true, true, true, true, true, true, false, false, false, false, false, false, false, false, false, false, false, false, false, false, false, false, false, false, false, false, false, false, false, false]) rfl (by kernel_rfl) (by kernel_rfl) (by kernel_rfl) rfl (by rfl) (by kernel_rfl) K1 ?hB11 ?rB11
            case hB11 =>
              intro w' hSw
              obtain ⟨k0, k1, k2, k3⟩ := hSw
              go_simp
              try with_reducible rfl
            simp only [List.setIfInBounds_toArray, List.set_cons_zero, List.set_cons_succ]
            refine hold_take (i := 12) (d := 58) (v := ?vB12) (listed' := #[true, true, true, true, true, true, true, true, true, true, true, true, true, false, false, false, false, false, false, false, false, false, false, false, false, false, false, false, false, false, false, false, false, false, false, false]) rfl (by kernel_rfl) (by kernel_rfl) (by kernel_rfl) rfl (by rfl) (by kernel_rfl) K1 ?hB12 ?rB12
            case hB12 =>
              intro w' hSw
              obtain ⟨k0, k1, k2, k3⟩ := hSw
              go_simp
              try with_reducible rfl
            simp only [List.setIfInBounds_toArray, List.set_cons_zero, List.set_cons_succ]
            refine hold_take (i := 13) (d := 59) (v := ?vB13) (listed' := #[true, true, true, true, true, true, true, true, true, true, true, true, true, true, false, false, false, false, false, false, false, false, false, false, false, false, false, false, false, false, false, false, false, false, false, false]) rfl (by kernel_rfl) (by kernel_rfl) (by kernel_rfl) rfl (by rfl) (by kernel_rfl) K1 ?hB13 ?rB13
            case hB13 =>
              intro w' hSw
              obtain ⟨k0, k1, k2, k3⟩ := hSw
              go_simp
              try with_reducible rfl
            simp only [List.setIfInBounds_toArray, List.set_cons_zero, List.set_cons_succ]
            refine hold_take (i := 14) (d := 60) (v := ?vB14) (listed' := #[true, true, true, true, true, true, true, true, true, true, true, true, true, true, true, false, false, false, false, false, false, false, false, false, false, false, false, false, false, false, false, false, false, false, false, false]) rfl (by kernel_rfl) (by kernel_rfl) (by kernel_rfl) rfl (by rfl) (by kernel_rfl) K1 ?hB14 ?rB14
            case hB14 =>
              intro w' hSw
              obtain ⟨k0, k1, k2, k3⟩ := hSw
              go_simp
              try with_reducible rfl
            simp only [List.setIfInBounds_toArray, List.set_cons_zero, List.set_cons_succ]
            refine hold_take (i := 15) (d := 61) (v := ?vB15) (listed' := #[true, true, true, true, true, true, true, true, true, true, true, true, true, true, true, true, false, false, false, false, false, false, false, false, false, false, false, false, false, false, false, false, false, false, false, false]) rfl (by kernel_rfl) (by kernel_rfl) (by kernel_rfl) rfl (by rfl) (by kernel_rfl) K1 ?hB15 ?rB15
            case hB15 =>
              intro w' hSw
              obtain ⟨k0, k1, k2, k3⟩ := hSw
              go_simp
              try with_reducible rfl
            simp only [List.setIfInBounds_toArray, List.set_cons_zero, List.set_cons_succ]
            refine hold_take (i := 16) (d := 62) (v := ?vB16) (listed' := #[true, true, true, true, true, true, true, true, true, true, true, true, true, true, true, true, true, false, false, false, false, false, false, false, false, false, false, false, false, false, false, false, false, false, false, false]) rfl (by kernel_rfl) (by kernel_rfl) (by kernel_rfl) rfl (by rfl) (by kernel_rfl) K1 ?hB16 ?rB16
            case hB16 =>
              intro w' hSw
              obtain ⟨k0, k1, k2, k3⟩ := hSw
              go_simp
              try with_reducible rfl
            simp only [List.setIfInBounds_toArray, List.set_cons_zero, List.set_cons_succ]
            refine hold_skip (i := 17) (d := 63) (listed' := #[true, true, true, true, true, true, true, true, true, true, true, true, true, true, true, true, true, true, false, false, false, false, false, false, false, false, false, false, false, false, false, false, false, false, false, false]) rfl (by kernel_rfl) (by kernel_rfl) (by kernel_rfl) rfl (by rfl) (by kernel_rfl) K1 ?_
            simp only [List.setIfInBounds_toArray, List.set_cons_zero, List.set_cons_succ]
            refine hold_skip (i := 18) (d := 64) (listed' := #[true, true, true, true, true, true, true, true, true, true, true, true, true, true, true, true, true, true, true, false, false, false, false, false, false, false, false, false, false, false, false, false, false, false, false, false]) rfl (by kernel_rfl) (by kernel_rfl) (by kernel_rfl) rfl (by rfl) (by kernel_rfl) K1 ?_
            simp only [List.setIfInBounds_toArray, List.set_cons_zero, List.set_cons_succ]
            refine hold_skip (i := 19) (d := 65) (listed' := #[true, true, true, true, true, true, true, true, true, true, true, true, true, true, true, true, true, true, true, true, false, false, false, false, false, false, false, false, false, false, false, false, false, false, false, false]) rfl (by kernel_rfl) (by kernel_rfl) (by kernel_rfl) rfl (by rfl) (by kernel_rfl) K1 ?_
            simp only [List.setIfInBounds_toArray, List.set_cons_zero, List.set_cons_succ]
            refine hold_take (i := 20) (d := 66) (v := ?vB20) (listed' := #[true, true, true, true, true, true, true, true, true, true, true, true, true, true, true, true, true, true, true, true, true, false, false, false, false, false, false, false, false, false, false, false, false, false, false, false]) rfl (by kernel_rfl) (by kernel_rfl) (by kernel_rfl) rfl (by rfl) (by kernel_rfl) K1 ?hB20 ?rB20
            case hB20 =>
              intro w' hSw
              obtain ⟨k0, k1, k2, k3⟩ := hSw
              go_simp
              try with_reducible rfl
            simp only [List.setIfInBounds_toArray, List.set_cons_zero, List.set_cons_succ]
            refine hold_take (i := 21) (d := 67) (v := ?vB21) (listed' := #[true, true, true, true, true, true, true, true, true, true, true, true, true, true, true, true, true, true, true, true, true, true, false, false, false, false, false, false, false, false, false, false, false, false, false, false]) rfl (by kernel_rfl) (by kernel_rfl) (by kernel_rfl) rfl (by rfl) (by kernel_rfl) K1 ?hB21 ?rB21
            case hB21 =>
              intro w' hSw
              obtain ⟨k0, k1, k2, k3⟩ := hSw
              go_simp
              try with_reducible rfl
            simp only [List.setIfInBounds_toArray, List.set_cons_zero, List.set_cons_succ]
            refine hold_take (i := 22) (d := 68) (v := ?vB22) (listed' := #[true, true, true, true, true, true, true, true, true, true, true, true, true, true, true, true, true, true, true, true, true, true, true, false, false, false, false, false, false, false, false, false, false, false, false, false]) rfl (by kernel_rfl) (by kernel_rfl) (by kernel_rfl) rfl (by rfl) (by kernel_rfl) K1 ?hB22 ?rB22
            case hB22 =>
              intro w' hSw
              obtain ⟨k0, k1, k2, k3⟩ := hSw
              go_simp
              try with_reducible rfl
            simp only [List.setIfInBounds_toArray, List.set_cons_zero, List.set_cons_succ]
            refine hold_take (i := 23) (d := 69) (v := ?vB23) (listed' := #[true, true, true, true, true, true, true, true, true, true, true, true, true, true, true, true, true, true, true, true, true, true, true, true, false, false, false, false, false, false, false, false, false, false, false, false]) rfl (by kernel_rfl) (by kernel_rfl) (by kernel_rfl) rfl (by rfl) (by kernel_rfl) K1 ?hB23 ?rB23
            case hB23 =>
              intro w' hSw
              obtain ⟨k0, k1, k2, k3⟩ := hSw
              go_simp
              try with_reducible rfl
            simp only [List.setIfInBounds_toArray, List.set_cons_zero, List.set_cons_succ]
            refine hold_take (i := 24) (d := 70) (v := ?vB24) (listed' := #[true, true, true, true, true, true, true, true, true, true, true, true, true, true, true, true, true, true, true, true, true, true, true, true, true, false, false, false, false, false, false, false, false, false, false, false]) rfl (by kernel_rfl) (by kernel_rfl) (by kernel_rfl) rfl (by rfl) (by kernel_rfl) K1 ?hB24 ?rB24
            case hB24 =>
              intro w' hSw
              obtain ⟨k0, k1, k2, k3⟩ := hSw
              go_simp
              try with_reducible rfl
            simp only [List.setIfInBounds_toArray, List.set_cons_zero, List.set_cons_succ]
            refine hold_take (i := 25) (d := 71) (v := ?vB25) (listed' := #[true, true, true, true, true, true, true, true, true, true, true, true, true, true, true, true, true, true, true, true, true, true, true, true, true, true, false, false, false, false, false, false, false, false, false, false]) rfl (by kernel_rfl) (by kernel_rfl) (by kernel_rfl) rfl (by rfl) (by kernel_rfl) K1 ?hB25 ?rB25
            case hB25 =>
              intro w' hSw
              obtain ⟨k0, k1, k2, k3⟩ := hSw
              go_simp
              try with_reducible rfl
            simp only [List.setIfInBounds_toArray, List.set_cons_zero, List.set_cons_succ]
            refine hold_take (i := 26) (d := 72) (v := ?vB26) (listed' := #[true, true, true, true, true, true, true, true, true, true, true, true, true, true, true, true, true, true, true, true, true, true, true, true, true, true, true, false, false, false, false, false, false, false, false, false]) rfl (by kernel_rfl) (by kernel_rfl) (by kernel_rfl) rfl (by rfl) (by kernel_rfl) K1 ?hB26 ?rB26
            case hB26 =>
              intro w' hSw
              obtain ⟨k0, k1, k2, k3⟩ := hSw
              go_simp
              try with_reducible rfl
            simp only [List.setIfInBounds_toArray, List.set_cons_zero, List.set_cons_succ]
            refine hold_take (i := 29) (d := 75) (v := ?vB29) (listed' := #[true, true, true, true, true, true, true, true, true, true, true, true, true, true, true, true, true, true, true, true, true, true, true, true, true, true, true, false, false, true, false, false, false, false, false, false]) rfl (by kernel_rfl) (by kernel_rfl) (by kernel_rfl) rfl (by rfl) (by kernel_rfl) K1 ?hB29 ?rB29
            case hB29 =>
              intro w' hSw
              obtain ⟨k0, k1, k2, k3⟩ := hSw
              go_simp
              try with_reducible rfl
            simp only [List.setIfInBounds_toArray, List.set_cons_zero, List.set_cons_succ]
            refine hold_take (i := 30) (d := 76) (v := ?vB30) (listed' := #[true, true, true, true, true, true, true, true, true, true, true, true, true, true, true, true, true, true, true, true, true, true, true, true, true, true, true, false, false, true, true, false, false, false, false, false]) rfl (by kernel_rfl) (by kernel_rfl) (by kernel_rfl) rfl (by rfl) (by kernel_rfl) K1 ?hB30 ?rB30
            case hB30 =>
              intro w' hSw
              obtain ⟨k0, k1, k2, k3⟩ := hSw
              go_simp
              try with_reducible rfl
            simp only [List.setIfInBounds_toArray, List.set_cons_zero, List.set_cons_succ]
            refine hold_take (i := 31) (d := 77) (v := ?vB31) (listed' := #[true, true, true, true, true, true, true, true, true, true, true, true, true, true, true, true, true, true, true, true, true, true, true, true, true, true, true, false, false, true, true, true, false, false, false, false]) rfl (by kernel_rfl) (by kernel_rfl) (by kernel_rfl) rfl (by rfl) (by kernel_rfl) K1 ?hB31 ?rB31
            case hB31 =>
              intro w' hSw
              obtain ⟨k0, k1, k2, k3⟩ := hSw
              go_simp
              try with_reducible rfl
            simp only [List.setIfInBounds_toArray, List.set_cons_zero, List.set_cons_succ]
            refine hold_call (i := 27) (d := 73) (listed' := #[true, true, true, true, true, true, true, true, true, true, true, true, true, true, true, true, true, true, true, true, true, true, true, true, true, true, true, true, false, true, true, true, false, false, false, false]) rfl (by kernel_rfl) rfl (by rfl) (by kernel_rfl) ?heB27 (AndOf_any (nc := nc) (x := (a : Int)) (y := (b : Int)) Hd1.out.log) ?hcB27
            case heB27 => go_simp
            rintro e x2 ⟨rfl, bb2⟩
            rw [NA.out]
            have Hd2 := Lib.hid (Hd1.out.step bb2)
            have K2 := (show _ ∧ _ ∧ _ ∧ _ from ⟨Hd2.out.box.c0, Hd2.out.box.c1, (Hd2.out.log.mat.sq HS.out hb ha).2.1, (Hd2.out.log.mat.sq HS.out hb ha).2.2.trans (by rw [HZ.out])⟩)
            clear Hd1 K1 bb2
            refine ⟨_, rfl, K2, ?_⟩
            simp only [List.setIfInBounds_toArray, List.set_cons_zero, List.set_cons_succ]
            refine hold_take (i := 28) (d := 74) (v := ?vB28) (listed' := #[true, true, true, true, true, true, true, true, true, true, true, true, true, true, true, true, true, true, true, true, true, true, true, true, true, true, true, true, true, true, true, true, false, false, false, false]) rfl (by kernel_rfl) (by kernel_rfl) (by kernel_rfl) rfl (by rfl) (by kernel_rfl) K2 ?hB28 ?rB28
            case hB28 =>
              intro w' hSw
              obtain ⟨k0, k1, k2, k3⟩ := hSw
              go_simp
              try with_reducible rfl
            simp only [List.setIfInBounds_toArray, List.set_cons_zero, List.set_cons_succ]
            refine hold_call (i := 32) (d := 78) (listed' := #[true, true, true, true, true, true, true, true, true, true, true, true, true, true, true, true, true, true, true, true, true, true, true, true, true, true, true, true, true, true, true, true, true, false, false, false]) rfl (by kernel_rfl) rfl (by rfl) (by kernel_rfl) ?heB32 (WithOk_any (nc := nc) (x := (b : Int)) (v := (a : Int)) Hd2.out.log) ?hcB32
            case heB32 => go_simp
            rintro e x3 ⟨rfl, bb3⟩
            rw [NW.out]
            have Hd3 := Lib.hid (Hd2.out.step bb3)
            have K3 := (show _ ∧ _ ∧ _ ∧ _ from ⟨Hd3.out.box.c0, Hd3.out.box.c1, (Hd3.out.log.mat.sq HS.out hb ha).2.1, (Hd3.out.log.mat.sq HS.out hb ha).2.2.trans (by rw [HZ.out])⟩)
            clear Hd2 K2 bb3
            refine ⟨_, rfl, K3, ?_⟩
            simp only [List.setIfInBounds_toArray, List.set_cons_zero, List.set_cons_succ]
            refine hold_take (i := 33) (d := 79) (v := ?vB33) (listed' := #[true, true, true, true, true, true, true, true, true, true, true, true, true, true, true, true, true, true, true, true, true, true, true, true, true, true, true, true, true, true, true, true, true, true, false, false]) rfl (by kernel_rfl) (by kernel_rfl) (by kernel_rfl) rfl (by rfl) (by kernel_rfl) K3 ?hB33 ?rB33
            case hB33 =>
              intro w' hSw
              obtain ⟨k0, k1, k2, k3⟩ := hSw
              go_simp
              try with_reducible rfl
            simp only [List.setIfInBounds_toArray, List.set_cons_zero, List.set_cons_succ]
            refine hold_take (i := 34) (d := 80) (v := ?vB34) (listed' := #[true, true, true, true, true, true, true, true, true, true, true, true, true, true, true, true, true, true, true, true, true, true, true, true, true, true, true, true, true, true, true, true, true, true, true, false]) rfl (by kernel_rfl) (by kernel_rfl) (by kernel_rfl) rfl (by rfl) (by kernel_rfl) K3 ?hB34 ?rB34
            case hB34 =>
              intro w' hSw
              obtain ⟨k0, k1, k2, k3⟩ := hSw
              go_simp
              try with_reducible rfl
            simp only [List.setIfInBounds_toArray, List.set_cons_zero, List.set_cons_succ]
            refine hold_take (i := 35) (d := 2) (v := ?vB35) (listed' := #[true, true, true, true, true, true, true, true, true, true, true, true, true, true, true, true, true, true, true, true, true, true, true, true, true, true, true, true, true, true, true, true, true, true, true, true]) rfl (by kernel_rfl) (by kernel_rfl) (by kernel_rfl) rfl (by rfl) (by kernel_rfl) K3 ?hB35 ?rB35
            case hB35 =>
              intro w' hSw
              obtain ⟨k0, k1, k2, k3⟩ := hSw
              go_simp
              try with_reducible rfl
            simp only [List.setIfInBounds_toArray, List.set_cons_zero, List.set_cons_succ]
            refine hold_done (by kernel_rfl) ?_ _
            go_wp2_with fail
            go_ret
            exact ⟨rfl, Hd3.out.old⟩
          | false =>
            rw [hag] at hpm NW0
            have hne : ¬ p = c := of_decide_eq_false hpm
            have e1 : ((p : Int) == (c : Int)) = false := by rw [beq_eq_false_iff_ne]; omega
            have NA := Lib.hid NA0
            have NW := Lib.hid NW0
            have HZ := Lib.hid z1
            clear f5 hag hpm l1 z1 NA0 NW0 hpb hne
            go_wp2_with fail
            have Hd0 := Lib.hid (H4.step (Below.refl _ w4).drew)
            have K0 := (show _ ∧ _ ∧ _ ∧ _ from ⟨Hd0.out.box.c0, Hd0.out.box.c1, (Hd0.out.log.mat.sq HS.out hb ha).2.1, (Hd0.out.log.mat.sq HS.out hb ha).2.2.trans (by rw [HZ.out])⟩)
            clear H4 q0 q1
            refine region_plain (fuel := 36) (listed := #[false, false, false, false, false, false, false, false, false, false, false, false, false, false, false, false, false, false, false, false, false, false, false, false, false, false, false, false, false, false, false, false, false, false, false, false]) (fun w' => w'.cell? ⟨w1.heap.size, 0, none⟩ = some (.slice (some ⟨l.b, l.o, none⟩) m.n l.cap) ∧ w'.cell? ⟨w1.heap.size, 1, none⟩ = some (.slice na k nc) ∧ w'.cell? ⟨l.b, l.o + b, none⟩ = some (.slice (some ⟨l.G b, l.O b, none⟩) m.n (l.C b)) ∧ w'.cell? ⟨l.G b, l.O b + a, none⟩ = some (.int .i64 0)) (by kernel_rfl) (by kernel_rfl) (by kernel_rfl) ?_
            refine hold_take (i := 0) (d := 46) (v := ?vC0) (listed' := #[true, false, false, false, false, false, false, false, false, false, false, false, false, false, false, false, false, false, false, false, false, false, false, false, false, false, false, false, false, false, false, false, false, false, false, false]) rfl (by kernel_rfl) (by kernel_rfl) (by kernel_rfl) rfl (by rfl) (by kernel_rfl) K0 ?hC0 ?rC0
            case hC0 =>
              intro w' hSw
              obtain ⟨k0, k1, k2, k3⟩ := hSw
              go_simp
              try with_reducible rfl
            simp only [List.setIfInBounds_toArray, List.set_cons_zero, List.set_cons_succ]
            refine hold_take (i := 1) (d := 47) (v := ?vC1) (listed' := #[true, true, false, false, false, false, false, false, false, false, false, false, false, false, false, false, false, false, false, false, false, false, false, false, false, false, false, false, false, false, false, false, false, false, false, false]) rfl (by kernel_rfl) (by kernel_rfl) (by kernel_rfl) rfl (by rfl) (by kernel_rfl) K0 ?hC1 ?rC1
            case hC1 =>
              intro w' hSw
              obtain ⟨k0, k1, k2, k3⟩ := hSw
              go_simp
              try with_reducible rfl
            simp only [List.setIfInBounds_toArray, List.set_cons_zero, List.set_cons_succ]
            refine hold_take (i := 2) (d := 48) (v := ?vC2) (listed' := #[true, true, true, false, false, false, false, false, false, false, false, false, false, false, false, false, false, false, false, false, false, false, false, false, false, false, false, false, false, false, false, false, false, false, false, false]) rfl (by kernel_rfl) (by kernel_rfl) (by kernel_rfl) rfl (by rfl) (by kernel_rfl) K0 ?hC2 ?rC2
            case hC2 =>
              intro w' hSw
              obtain ⟨k0, k1, k2, k3⟩ := hSw
              go_simp
              try with_reducible rfl
            simp only [List.setIfInBounds_toArray, List.set_cons_zero, List.set_cons_succ]
            refine hold_take (i := 4) (d := 50) (v := ?vC4) (listed' := #[true, true, true, false, true, false, false, false, false, false, false, false, false, false, false, false, false, false, false, false, false, false, false, false, false, false, false, false, false, false, false, false, false, false, false, false]) rfl (by kernel_rfl) (by kernel_rfl) (by kernel_rfl) rfl (by rfl) (by kernel_rfl) K0 ?hC4 ?rC4
            case hC4 =>
              intro w' hSw
              obtain ⟨k0, k1, k2, k3⟩ := hSw
              go_simp
              try with_reducible rfl
            simp only [List.setIfInBounds_toArray, List.set_cons_zero, List.set_cons_succ]
            refine hold_call (i := 3) (d := 49) (listed' := #[true, true, true, true, true, false, false, false, false, false, false, false, false, false, false, false, false, false, false, false, false, false, false, false, false, false, false, false, false, false, false, false, false, false, false, false]) rfl (by kernel_rfl) rfl (by rfl) (by kernel_rfl) ?heC3 (ProjectOf_any (nc := nc) (x := (a : Int)) (v := (p : Int)) Hd0.out.log) ?hcC3
            case heC3 => go_simp
            rintro e x1 ⟨rfl, bb1⟩
            rw [NPP.out]
            have Hd1 := Lib.hid (Hd0.out.step bb1)
            have K1 := (show _ ∧ _ ∧ _ ∧ _ from ⟨Hd1.out.box.c0, Hd1.out.box.c1, (Hd1.out.log.mat.sq HS.out hb ha).2.1, (Hd1.out.log.mat.sq HS.out hb ha).2.2.trans (by rw [HZ.out])⟩)
            clear Hd0 K0 bb1
            refine ⟨_, rfl, K1, ?_⟩
            simp only [List.setIfInBounds_toArray, List.set_cons_zero, List.set_cons_succ]
            refine hold_take (i := 5) (d := 51) (v := ?vC5) (listed' := #[true, true, true, true, true, true, false, false, false, false, false, false, false, false, false, false, false, false, false, false, false, false, false, false, false, false, false, false, false, false, false, false, false, false, false, false]) rfl (by kernel_rfl) (by kernel_rfl) (by kernel_rfl) rfl (by rfl) (by kernel_rfl) K1 ?hC5 ?rC5
            case hC5 =>
              intro w' hSw
              obtain ⟨k0, k1, k2, k3⟩ := hSw
              go_simp
              try with_reducible rfl
            simp only [List.setIfInBounds_toArray, List.set_cons_zero, List.set_cons_succ]
            refine hold_take (i := 6) (d := 52) (v := ?vC6) (listed' := #[true, true, true, true, true, true, true, false, false, false, false, false, false, false, false, false, false, false, false, false, false, false, false, false, false, false, false, false, false, false, false, false, false, false, false, false]) rfl (by kernel_rfl) (by kernel_rfl) (by kernel_rfl) rfl (by rfl) (by kernel_rfl) K1 ?hC6 ?rC6
            case hC6 =>
              intro w' hSw
              obtain ⟨k0, k1, k2, k3⟩ := hSw
              go_simp
              try with_reducible rfl
            simp only [List.setIfInBounds_toArray, List.set_cons_zero, List.set_cons_succ]
            refine hold_take (i := 7) (d := 53) (v := ?vC7) (listed' := #[true, true, true, true, true, true, true, true, false, false, false, false, false, false, false, false, false, false, false, false, false, false, false, false, false, false, false, false, false, false, false, false, false, false, false, false]) rfl (by kernel_rfl) (by kernel_rfl) (by kernel_rfl) rfl (by rfl) (by kernel_rfl) K1 ?hC7 ?rC7
            case hC7 =>
              intro w' hSw
              obtain ⟨k0, k1, k2, k3⟩ := hSw
              go_simp
              try with_reducible rfl
            simp only [List.setIfInBounds_toArray, List.set_cons_zero, List.set_cons_succ]
            refine hold_take (i := 8) (d := 54) (v := ?vC8) (listed' := #[true, true, true, true, true, true, true, true, true, false, false, false, false, false, false, false, false, false, false, false, false, false, false, false, false, false, false, false, false, false, false, false, false, false, false, false]) rfl (by kernel_rfl) (by kernel_rfl) (by kernel_rfl) rfl (by rfl) (by kernel_rfl) K1 ?hC8 ?rC8
            case hC8 =>
              intro w' hSw
              obtain ⟨k0, k1, k2, k3⟩ := hSw
              go_simp
              try with_reducible rfl
            simp only [List.setIfInBounds_toArray, List.set_cons_zero, List.set_cons_succ]
            refine hold_take (i := 9) (d := 55) (v := ?vC9) (listed' := #[true, true, true, true, true, true, true, true, true, true, false, false, false, false, false, false, false, false, false, false, false, false, false, false, false, false, false, false, false, false, false, false, false, false, false, false]) rfl (by kernel_rfl) (by kernel_rfl) (by kernel_rfl) rfl (by rfl) (by kernel_rfl) K1 ?hC9 ?rC9
            case hC9 =>
              intro w' hSw
              obtain ⟨k0, k1, k2, k3⟩ := hSw
              go_simp
              try with_reducible rfl
            simp only [List.setIfInBounds_toArray, List.set_cons_zero, List.set_cons_succ]
            refine hold_take (i := 10) (d := 56) (v := ?vC10) (listed' := #[true, true, true, true, true, true, true, true, true, true, true, false, false, false, false, false, false, false, false, false, false, false, false, false, false, false, false, false, false, false, false, false, false, false, false, false]) rfl (by kernel_rfl) (by kernel_rfl) (by kernel_rfl) rfl (by rfl) (by kernel_rfl) K1 ?hC10 ?rC10
            case hC10 =>
              intro w' hSw
              obtain ⟨k0, k1, k2, k3⟩ := hSw
              go_simp
              try with_reducible rfl
            simp only [List.setIfInBounds_toArray, List.set_cons_zero, List.set_cons_succ]
            refine hold_take (i := 11) (d := 57) (v := ?vC11) (listed' := #[true, true, true, true, true, true, true, true, true, true, true, true, false, false, false, false, false, false, false, false, false, false, false, false, false, false, false, false, false, false, false, false, false, false, false, false]) rfl (by kernel_rfl) (by kernel_rfl) (by kernel_rfl) rfl (by rfl) (by kernel_rfl) K1 ?hC11 ?rC11
            case hC11 =>
              intro w' hSw
              obtain ⟨k0, k1, k2, k3⟩ := hSw
              go_simp
              try with_reducible rfl
            simp only [List.setIfInBounds_toArray, List.set_cons_zero, List.set_cons_succ]
            refine hold_take (i := 12) (d := 58) (v := ?vC12) (listed' := #[true, true, true, true, true, true, true, true, true, true, true, true, true, false, false, false, false, false, false, false, false, false, false, false, false, false, false, false, false, false, false, false, false, false, false, false]) rfl (by kernel_rfl) (by kernel_rfl) (by kernel_rfl) rfl (by rfl) (by kernel_rfl) K1 ?hC12 ?rC12
            case hC12 =>
              intro w' hSw
              obtain ⟨k0, k1, k2, k3⟩ := hSw
              go_simp
              try with_reducible rfl
            simp only [List.setIfInBounds_toArray, List.set_cons_zero, List.set_cons_succ]
            refine hold_take (i := 13) (d := 59) (v := ?vC13) (listed' := #[true, true, true, true, true, true, true, true, true, true, true, true, true, true, false, false, false, false, false, false, false, false, false, false, false, false, false, false, false, false, false, false, false, false, false, false]) rfl (by kernel_rfl) (by kernel_rfl) (by kernel_rfl) rfl (by rfl) (by kernel_rfl) K1 ?hC13 ?rC13
            case hC13 =>
              intro w' hSw
              obtain ⟨k0, k1, k2, k3⟩ := hSw
              go_simp
              try with_reducible rfl
            simp only [List.setIfInBounds_toArray, List.set_cons_zero, List.set_cons_succ]
            refine hold_take (i := 14) (d := 60) (v := ?vC14) (listed' := #[true, true, true, true, true, true, true, true, true, true, true, true, true, true, true, false, false, false, false, false, false, false, false, false, false, false, false, false, false, false, false, false, false, false, false, false]) rfl (by kernel_rfl) (by kernel_rfl) (by kernel_rfl) rfl (by rfl) (by kernel_rfl) K1 ?hC14 ?rC14
            case hC14 =>
              intro w' hSw
              obtain ⟨k0, k1, k2, k3⟩ := hSw
              go_simp
              try with_reducible rfl
            simp only [List.setIfInBounds_toArray, List.set_cons_zero, List.set_cons_succ]
            refine hold_take (i := 15) (d := 61) (v := ?vC15) (listed' := #[true, true, true, true, true, true, true, true, true, true, true, true, true, true, true, true, false, false, false, false, false, false, false, false, false, false, false, false, false, false, false, false, false, false, false, false]) rfl (by kernel_rfl) (by kernel_rfl) (by kernel_rfl) rfl (by rfl) (by kernel_rfl) K1 ?hC15 ?rC15
            case hC15 =>
              intro w' hSw
              obtain ⟨k0, k1, k2, k3⟩ := hSw
              go_simp
              try with_reducible rfl
            simp only [List.setIfInBounds_toArray, List.set_cons_zero, List.set_cons_succ]
            refine hold_take (i := 16) (d := 62) (v := ?vC16) (listed' := #[true, true, true, true, true, true, true, true, true, true, true, true, true, true, true, true, true, false, false, false, false, false, false, false, false, false, false, false, false, false, false, false, false, false, false, false]) rfl (by kernel_rfl) (by kernel_rfl) (by kernel_rfl) rfl (by rfl) (by kernel_rfl) K1 ?hC16 ?rC16
            case hC16 =>
              intro w' hSw
              obtain ⟨k0, k1, k2, k3⟩ := hSw
              go_simp
              try with_reducible rfl
            simp only [List.setIfInBounds_toArray, List.set_cons_zero, List.set_cons_succ]
            refine hold_skip (i := 17) (d := 63) (listed' := #[true, true, true, true, true, true, true, true, true, true, true, true, true, true, true, true, true, true, false, false, false, false, false, false, false, false, false, false, false, false, false, false, false, false, false, false]) rfl (by kernel_rfl) (by kernel_rfl) (by kernel_rfl) rfl (by rfl) (by kernel_rfl) K1 ?_
            simp only [List.setIfInBounds_toArray, List.set_cons_zero, List.set_cons_succ]
            refine hold_skip (i := 18) (d := 64) (listed' := #[true, true, true, true, true, true, true, true, true, true, true, true, true, true, true, true, true, true, true, false, false, false, false, false, false, false, false, false, false, false, false, false, false, false, false, false]) rfl (by kernel_rfl) (by kernel_rfl) (by kernel_rfl) rfl (by rfl) (by kernel_rfl) K1 ?_
            simp only [List.setIfInBounds_toArray, List.set_cons_zero, List.set_cons_succ]
            refine hold_skip (i := 19) (d := 65) (listed' := #[true, true, true, true, true, true, true, true, true, true, true, true, true, true, true, true, true, true, true, true, false, false, false, false, false, false, false, false, false, false, false, false, false, false, false, false]) rfl (by kernel_rfl) (by kernel_rfl) (by kernel_rfl) rfl (by rfl) (by kernel_rfl) K1 ?_
            simp only [List.setIfInBounds_toArray, List.set_cons_zero, List.set_cons_succ]
            refine hold_take (i := 20) (d := 66) (v := ?vC20) (listed' := #[true, true, true, true, true, true, true, true, true, true, true, true, true, true, true, true, true, true, true, true, true, false, false, false, false, false, false, false, false, false, false, false, false, false, false, false]) rfl (by kernel_rfl) (by kernel_rfl) (by kernel_rfl) rfl (by rfl) (by kernel_rfl) K1 ?hC20 ?rC20
            case hC20 =>
              intro w' hSw
              obtain ⟨k0, k1, k2, k3⟩ := hSw
              go_simp
              try with_reducible rfl
            simp only [List.setIfInBounds_toArray, List.set_cons_zero, List.set_cons_succ]
            refine hold_take (i := 21) (d := 67) (v := ?vC21) (listed' := #[true, true, true, true, true, true, true, true, true, true, true, true, true, true, true, true, true, true, true, true, true, true, false, false, false, false, false, false, false, false, false, false, false, false, false, false]) rfl (by kernel_rfl) (by kernel_rfl) (by kernel_rfl) rfl (by rfl) (by kernel_rfl) K1 ?hC21 ?rC21
            case hC21 =>
              intro w' hSw
              obtain ⟨k0, k1, k2, k3⟩ := hSw
              go_simp
              try with_reducible rfl
            simp only [List.setIfInBounds_toArray, List.set_cons_zero, List.set_cons_succ]
            refine hold_take (i := 22) (d := 68) (v := ?vC22) (listed' := #[true, true, true, true, true, true, true, true, true, true, true, true, true, true, true, true, true, true, true, true, true, true, true, false, false, false, false, false, false, false, false, false, false, false, false, false]) rfl (by kernel_rfl) (by kernel_rfl) (by kernel_rfl) rfl (by rfl) (by kernel_rfl) K1 ?hC22 ?rC22
            case hC22 =>
              intro w' hSw
              obtain ⟨k0, k1, k2, k3⟩ := hSw
              go_simp
              try with_reducible rfl
            simp only [List.setIfInBounds_toArray, List.set_cons_zero, List.set_cons_succ]
            refine hold_take (i := 23) (d := 69) (v := ?vC23) (listed' := #[true, true, true, true, true, true, true, true, true, true, true, true, true, true, true, true, true, true, true, true, true, true, true, true, false, false, false, false, false, false, false, false, false, false, false, false]) rfl (by kernel_rfl) (by kernel_rfl) (by kernel_rfl) rfl (by rfl) (by kernel_rfl) K1 ?hC23 ?rC23
            case hC23 =>
              intro w' hSw
              obtain ⟨k0, k1, k2, k3⟩ := hSw
              go_simp
              try with_reducible rfl
            simp only [List.setIfInBounds_toArray, List.set_cons_zero, List.set_cons_succ]
            refine hold_take (i := 24) (d := 70) (v := ?vC24) (listed' := #[true, true, true, true, true, true, true, true, true, true, true, true, true, true, true, true, true, true, true, true, true, true, true, true, true, false, false, false, false, false, false, false, false, false, false, false]) rfl (by kernel_rfl) (by kernel_rfl) (by kernel_rfl) rfl (by rfl) (by kernel_rfl) K1 ?hC24 ?rC24
            case hC24 =>
              intro w' hSw
              obtain ⟨k0, k1, k2, k3⟩ := hSw
              go_simp
              try with_reducible rfl
            simp only [List.setIfInBounds_toArray, List.set_cons_zero, List.set_cons_succ]
            refine hold_take (i := 25) (d := 71) (v := ?vC25) (listed' := #[true, true, true, true, true, true, true, true, true, true, true, true, true, true, true, true, true, true, true, true, true, true, true, true, true, true, false, false, false, false, false, false, false, false, false, false]) rfl (by kernel_rfl) (by kernel_rfl) (by kernel_rfl) rfl (by rfl) (by kernel_rfl) K1 ?hC25 ?rC25
            case hC25 =>
              intro w' hSw
              obtain ⟨k0, k1, k2, k3⟩ := hSw
              go_simp
              try with_reducible rfl
            simp only [List.setIfInBounds_toArray, List.set_cons_zero, List.set_cons_succ]
            refine hold_take (i := 26) (d := 72) (v := ?vC26) (listed' := #[true, true, true, true, true, true, true, true, true, true, true, true, true, true, true, true, true, true, true, true, true, true, true, true, true, true, true, false, false, false, false, false, false, false, false, false]) rfl (by kernel_rfl) (by kernel_rfl) (by kernel_rfl) rfl (by rfl) (by kernel_rfl) K1 ?hC26 ?rC26
            case hC26 =>
              intro w' hSw
              obtain ⟨k0, k1, k2, k3⟩ := hSw
              go_simp
              try with_reducible rfl
            simp only [List.setIfInBounds_toArray, List.set_cons_zero, List.set_cons_succ]
            refine hold_take (i := 29) (d := 75) (v := ?vC29) (listed' := #[true, true, true, true, true, true, true, true, true, true, true, true, true, true, true, true, true, true, true, true, true, true, true, true, true, true, true, false, false, true, false, false, false, false, false, false]) rfl (by kernel_rfl) (by kernel_rfl) (by kernel_rfl) rfl (by rfl) (by kernel_rfl) K1 ?hC29 ?rC29
            case hC29 =>
              intro w' hSw
              obtain ⟨k0, k1, k2, k3⟩ := hSw
              go_simp
              try with_reducible rfl
            simp only [List.setIfInBounds_toArray, List.set_cons_zero, List.set_cons_succ]
            refine hold_take (i := 30) (d := 76) (v := ?vC30) (listed' := #[true, true, true, true, true, true, true, true, true, true, true, true, true, true, true, true, true, true, true, true, true, true, true, true, true, true, true, false, false, true, true, false, false, false, false, false]) rfl (by kernel_rfl) (by kernel_rfl) (by kernel_rfl) rfl (by rfl) (by kernel_rfl) K1 ?hC30 ?rC30
            case hC30 =>
              intro w' hSw
              obtain ⟨k0, k1, k2, k3⟩ := hSw
              go_simp
              try with_reducible rfl
            simp only [List.setIfInBounds_toArray, List.set_cons_zero, List.set_cons_succ]
            refine hold_take (i := 31) (d := 77) (v := ?vC31) (listed' := #[true, true, true, true, true, true, true, true, true, true, true, true, true, true, true, true, true, true, true, true, true, true, true, true, true, true, true, false, false, true, true, true, false, false, false, false]) rfl (by kernel_rfl) (by kernel_rfl) (by kernel_rfl) rfl (by rfl) (by kernel_rfl) K1 ?hC31 ?rC31
            case hC31 =>
              intro w' hSw
              obtain ⟨k0, k1, k2, k3⟩ := hSw
              go_simp
              try with_reducible rfl
            simp only [List.setIfInBounds_toArray, List.set_cons_zero, List.set_cons_succ]
            refine hold_call (i := 27) (d := 73) (listed' := #[true, true, true, true, true, true, true, true, true, true, true, true, true, true, true, true, true, true, true, true, true, true, true, true, true, true, true, true, false, true, true, true, false, false, false, false]) rfl (by kernel_rfl) rfl (by rfl) (by kernel_rfl) ?heC27 (AndOf_any (nc := nc) (x := (a : Int)) (y := (b : Int)) Hd1.out.log) ?hcC27
            case heC27 => go_simp
            rintro e x2 ⟨rfl, bb2⟩
            rw [NA.out]
            have Hd2 := Lib.hid (Hd1.out.step bb2)
            have K2 := (show _ ∧ _ ∧ _ ∧ _ from ⟨Hd2.out.box.c0, Hd2.out.box.c1, (Hd2.out.log.mat.sq HS.out hb ha).2.1, (Hd2.out.log.mat.sq HS.out hb ha).2.2.trans (by rw [HZ.out])⟩)
            clear Hd1 K1 bb2
            refine ⟨_, rfl, K2, ?_⟩
            simp only [List.setIfInBounds_toArray, List.set_cons_zero, List.set_cons_succ]
            refine hold_take (i := 28) (d := 74) (v := ?vC28) (listed' := #[true, true, true, true, true, true, true, true, true, true, true, true, true, true, true, true, true, true, true, true, true, true, true, true, true, true, true, true, true, true, true, true, false, false, false, false]) rfl (by kernel_rfl) (by kernel_rfl) (by kernel_rfl) rfl (by rfl) (by kernel_rfl) K2 ?hC28 ?rC28
            case hC28 =>
              intro w' hSw
              obtain ⟨k0, k1, k2, k3⟩ := hSw
              go_simp
              try with_reducible rfl
            simp only [List.setIfInBounds_toArray, List.set_cons_zero, List.set_cons_succ]
            refine hold_call (i := 32) (d := 78) (listed' := #[true, true, true, true, true, true, true, true, true, true, true, true, true, true, true, true, true, true, true, true, true, true, true, true, true, true, true, true, true, true, true, true, true, false, false, false]) rfl (by kernel_rfl) rfl (by rfl) (by kernel_rfl) ?heC32 (WithOk_any (nc := nc) (x := (b : Int)) (v := (a : Int)) Hd2.out.log) ?hcC32
            case heC32 => go_simp
            rintro e x3 ⟨rfl, bb3⟩
            rw [NW.out]
            have Hd3 := Lib.hid (Hd2.out.step bb3)
            have K3 := (show _ ∧ _ ∧ _ ∧ _ from ⟨Hd3.out.box.c0, Hd3.out.box.c1, (Hd3.out.log.mat.sq HS.out hb ha).2.1, (Hd3.out.log.mat.sq HS.out hb ha).2.2.trans (by rw [HZ.out])⟩)
            clear Hd2 K2 bb3
            refine ⟨_, rfl, K3, ?_⟩
            simp only [List.setIfInBounds_toArray, List.set_cons_zero, List.set_cons_succ]
            refine hold_take (i := 33) (d := 79) (v := ?vC33) (listed' := #[true, true, true, true, true, true, true, true, true, true, true, true, true, true, true, true, true, true, true, true, true, true, true, true, true, true, true, true, true, true, true, true, true, true, false, false]) rfl (by kernel_rfl) (by kernel_rfl) (by kernel_rfl) rfl (by rfl) (by kernel_rfl) K3 ?hC33 ?rC33
            case hC33 =>
              intro w' hSw
              obtain ⟨k0, k1, k2, k3⟩ := hSw
              go_simp
              try with_reducible rfl
            simp only [List.setIfInBounds_toArray, List.set_cons_zero, List.set_cons_succ]
            refine hold_take (i := 34) (d := 80) (v := ?vC34) (listed' := #[true, true, true, true, true, true, true, true, true, true, true, true, true, true, true, true, true, true, true, true, true, true, true, true, true, true, true, true, true, true, true, true, true, true, true, false]) rfl (by kernel_rfl) (by kernel_rfl) (by kernel_rfl) rfl (by rfl) (by kernel_rfl) K3 ?hC34 ?rC34
            case hC34 =>
              intro w' hSw
              obtain ⟨k0, k1, k2, k3⟩ := hSw
              go_simp
              try with_reducible rfl
            simp only [List.setIfInBounds_toArray, List.set_cons_zero, List.set_cons_succ]
            refine hold_take (i := 35) (d := 2) (v := ?vC35) (listed' := #[true, true, true, true, true, true, true, true, true, true, true, true, true, true, true, true, true, true, true, true, true, true, true, true, true, true, true, true, true, true, true, true, true, true, true, true]) rfl (by kernel_rfl) (by kernel_rfl) (by kernel_rfl) rfl (by rfl) (by kernel_rfl) K3 ?hC35 ?rC35
            case hC35 =>
              intro w' hSw
              obtain ⟨k0, k1, k2, k3⟩ := hSw
              go_simp
              try with_reducible rfl
            simp only [List.setIfInBounds_toArray, List.set_cons_zero, List.set_cons_succ]
            refine hold_done (by kernel_rfl) ?_ _
            go_wp2_with fail
            go_ret
            exact ⟨rfl, Hd3.out.old⟩
end Go.Proofs.Ytkfinkhdfbogjaa
