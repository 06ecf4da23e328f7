/- The law on HookOf, walked at whatever code. -/
import Derived.Test.YtkfinkhdfbogjaaBg
import Derived.Test.YtkfinkhdfbogjaaDn
import Derived.Test.YtkfinkhdfbogjaaCa
import Derived.Test.YtkfinkhdfbogjaaCw
namespace Go.Proofs.Ytkfinkhdfbogjaa
open Go.RowKit Go.Deep

set_option maxRecDepth 100000 in
set_option maxHeartbeats 4000000 in
theorem law_HookOf {A : Option Addr} {b o n cap : Nat} {z : Nat → Nat} {w : World} (h : CodeAt w A b o n cap z) :
    Calls Try.prog 4 #[.slice A n cap] w fun e w' => e = .returned (.bool true) ∧ Below w.heap.size w w' := by
  have hn := h.hn
  have hc := h.hc
  by_cases hbig : 1048576 < n
  · have hbig' : (1048576 : Int) < n := by omega
    clear h
    go_enter Try.func4, Try.ntmps4
    go_wp2_with fail
    go_ret
    exact ⟨rfl, Below.refl _ _⟩
  · have hbig' : ¬ (1048576 : Int) < n := by omega
    go_enter Try.func4, Try.ntmps4
    go_wp2_with fail
    go_at_call 18
    refine (draw_HookOf h).mono ?_
    rintro e w1 ⟨ua, l, m, na, g, o2, k, nc, zz, x, y, rfl, hF⟩
    have H1 := Held.start hF nc
    clear h hF
    have q0 := H1.box.c0
    have q1 := H1.box.c1
    go_wp2_with fail
    go_at_call 19
    refine (HookOf_any H1.log).mono ?_
    rintro e w2 ⟨rfl, b2⟩
    have H2 := H1.step b2
    clear H1 q0 q1 b2
    have q0 := H2.box.c0
    have q1 := H2.box.c1
    go_wp2_with fail
    go_at_call 20
    refine (spec_HookOf H2.log).mono ?_
    rintro e w3 ⟨rfl, b3⟩
    have H3 := H2.step b3
    clear H2 q0 q1 b3
    have q0 := H3.box.c0
    have q1 := H3.box.c1
    cases hl : (logicB m k zz && goodB m.n 2 (two x y)) with
    | false =>
      have e : hookV m k zz x y = -1 := by unfold hookV; rw [hl]; rfl
      rw [e]
      clear e hl
      go_wp2_with fail
      go_at_call 14
      refine (alive_any _).mono ?_
      rintro e w4 ⟨rfl, b4⟩
      have H4 := H3.step b4
      go_wp2_with fail
      go_ret
      exact ⟨rfl, H4.old⟩
    | true =>
      rw [Bool.and_eq_true] at hl
      obtain ⟨hl, hg⟩ := hl
      obtain ⟨a, b, rfl, rfl, ha, hb⟩ := good2 hg
      obtain ⟨y, o3, hO⟩ := (logicB_is hl).ortho
      obtain ⟨p, hp⟩ : ∃ p, hookN m y a b = p := ⟨_, rfl⟩
      have hpn : p < m.n := hp ▸ hO.hook_lt ha hb
      have hyb := hO.lt b hb
      obtain ⟨q, hq⟩ : ∃ q, projN m y a (y b) = q := ⟨_, rfl⟩
      have hqn : q < m.n := hq ▸ hO.proj_lt ha hyb
      rw [hO.hookV hl ha hb, hp]
      have hK : keepsV m k zz = keepsB m y := hO.keepsV hl
      have HS := Lib.hid hO.lat.order.sq
      obtain ⟨e0, _, _⟩ := H3.log.mat.sq HS.out ha hb
      obtain rfl := e0
      have ha' : (a : Int) < m.n := by omega
      have hb' : (b : Int) < m.n := by omega
      have NB : Hid (notV m k zz (b : Int) = ((y b : Nat) : Int)) := hO.notV hl hb
      have NQ : Hid (projV m k zz (a : Int) ((y b : Nat) : Int) = (q : Int)) := by show _ = _; rw [hO.projV hl ha hyb, hq]
      have NN : Hid (notV m k zz (q : Int) = (p : Int)) := by show _ = _; rw [hO.notV hl hqn, ← hp, ← hq, hO.hook_proj ha hb]
      obtain ⟨c, hcm⟩ : ∃ c, mN m a p = c := ⟨_, rfl⟩
      have hcn : c < m.n := hcm ▸ (hO.mG ha hpn).lt
      have NC : Hid (andV m k zz (a : Int) (p : Int) = (c : Int)) := by show _ = _; rw [hO.andV hl ha hpn, hO.mI ha hpn, hcm]
      have NY0 : yesV m k zz = ((y o3 : Nat) : Int) := hO.yesV hl
      have hcb : keepsB m y = true → m.Z c b = 1 := fun e => by rw [← hcm, ← hp]; exact hO.meet_hook e ha hb
      have hyes : keepsB m y = true → decide (p = y o3) = leB m a b := fun e => by rw [← hp]; exact hO.hook_yes e ha hb
      have hc' : (c : Int) < m.n := by omega
      clear hp hq hcm hl hg hO
      go_wp2_with fail
      have Hd0 := Lib.hid (H3.step (Below.refl _ w3).drew)
      have K0 := (show _ ∧ _ from ⟨Hd0.out.box.c0, Hd0.out.box.c1⟩)
      clear H3 q0 q1
      refine region_plain (fuel := 10) (listed := #[false, false, false, false, false, false, false, false, false, false]) (fun w' => w'.cell? ⟨w1.heap.size, 0, none⟩ = some (.slice (some ⟨l.b, l.o, none⟩) m.n l.cap) ∧ w'.cell? ⟨w1.heap.size, 1, none⟩ = some (.slice na k nc)) (by kernel_rfl) (by kernel_rfl) (by kernel_rfl) ?_
      refine hold_take (i := 0) (d := 34) (v := ?vn0) (listed' := #[true, false, false, false, false, false, false, false, false, false]) rfl (by kernel_rfl) (by kernel_rfl) (by kernel_rfl) rfl (by rfl) (by kernel_rfl) K0 ?hn0 ?rn0
      case hn0 =>
        intro w' hSw
        obtain ⟨k0, k1⟩ := hSw
        go_simp
        try with_reducible rfl
      simp only [List.setIfInBounds_toArray, List.set_cons_zero, List.set_cons_succ]
      refine hold_take (i := 1) (d := 35) (v := ?vn1) (listed' := #[true, true, false, false, false, false, false, false, false, false]) rfl (by kernel_rfl) (by kernel_rfl) (by kernel_rfl) rfl (by rfl) (by kernel_rfl) K0 ?hn1 ?rn1
      case hn1 =>
        intro w' hSw
        obtain ⟨k0, k1⟩ := hSw
        go_simp
        try with_reducible rfl
      simp only [List.setIfInBounds_toArray, List.set_cons_zero, List.set_cons_succ]
      refine hold_take (i := 2) (d := 36) (v := ?vn2) (listed' := #[true, true, true, false, false, false, false, false, false, false]) rfl (by kernel_rfl) (by kernel_rfl) (by kernel_rfl) rfl (by rfl) (by kernel_rfl) K0 ?hn2 ?rn2
      case hn2 =>
        intro w' hSw
        obtain ⟨k0, k1⟩ := hSw
        go_simp
        try with_reducible rfl
      simp only [List.setIfInBounds_toArray, List.set_cons_zero, List.set_cons_succ]
      refine hold_take (i := 3) (d := 37) (v := ?vn3) (listed' := #[true, true, true, true, false, false, false, false, false, false]) rfl (by kernel_rfl) (by kernel_rfl) (by kernel_rfl) rfl (by rfl) (by kernel_rfl) K0 ?hn3 ?rn3
      case hn3 =>
        intro w' hSw
        obtain ⟨k0, k1⟩ := hSw
        go_simp
        try with_reducible rfl
      simp only [List.setIfInBounds_toArray, List.set_cons_zero, List.set_cons_succ]
      refine hold_take (i := 4) (d := 38) (v := ?vn4) (listed' := #[true, true, true, true, true, false, false, false, false, false]) rfl (by kernel_rfl) (by kernel_rfl) (by kernel_rfl) rfl (by rfl) (by kernel_rfl) K0 ?hn4 ?rn4
      case hn4 =>
        intro w' hSw
        obtain ⟨k0, k1⟩ := hSw
        go_simp
        try with_reducible rfl
      simp only [List.setIfInBounds_toArray, List.set_cons_zero, List.set_cons_succ]
      refine hold_take (i := 8) (d := 42) (v := ?vn8) (listed' := #[true, true, true, true, true, false, false, false, true, false]) rfl (by kernel_rfl) (by kernel_rfl) (by kernel_rfl) rfl (by rfl) (by kernel_rfl) K0 ?hn8 ?rn8
      case hn8 =>
        intro w' hSw
        obtain ⟨k0, k1⟩ := hSw
        go_simp
        try with_reducible rfl
      simp only [List.setIfInBounds_toArray, List.set_cons_zero, List.set_cons_succ]
      refine hold_call (i := 5) (d := 39) (listed' := #[true, true, true, true, true, true, false, false, true, false]) rfl (by kernel_rfl) rfl (by rfl) (by kernel_rfl) ?hen5 (NotOf_any (nc := nc) (x := (b : Int)) Hd0.out.log) ?hcn5
      case hen5 => go_simp
      rintro e x1 ⟨rfl, bb1⟩
      rw [NB.out]
      have Hd1 := Lib.hid (Hd0.out.step bb1)
      have K1 := (show _ ∧ _ from ⟨Hd1.out.box.c0, Hd1.out.box.c1⟩)
      clear Hd0 K0 bb1
      refine ⟨_, rfl, K1, ?_⟩
      simp only [List.setIfInBounds_toArray, List.set_cons_zero, List.set_cons_succ]
      refine hold_call (i := 6) (d := 40) (listed' := #[true, true, true, true, true, true, true, false, true, false]) rfl (by kernel_rfl) rfl (by rfl) (by kernel_rfl) ?hen6 (ProjectOf_any (nc := nc) (x := (a : Int)) (v := ((y b : Nat) : Int)) Hd1.out.log) ?hcn6
      case hen6 => go_simp
      rintro e x2 ⟨rfl, bb2⟩
      rw [NQ.out]
      have Hd2 := Lib.hid (Hd1.out.step bb2)
      have K2 := (show _ ∧ _ from ⟨Hd2.out.box.c0, Hd2.out.box.c1⟩)
      clear Hd1 K1 bb2
      refine ⟨_, rfl, K2, ?_⟩
      simp only [List.setIfInBounds_toArray, List.set_cons_zero, List.set_cons_succ]
      refine hold_call (i := 7) (d := 41) (listed' := #[true, true, true, true, true, true, true, true, true, false]) rfl (by kernel_rfl) rfl (by rfl) (by kernel_rfl) ?hen7 (NotOf_any (nc := nc) (x := (q : Int)) Hd2.out.log) ?hcn7
      case hen7 => go_simp
      rintro e x3 ⟨rfl, bb3⟩
      rw [NN.out]
      have Hd3 := Lib.hid (Hd2.out.step bb3)
      have K3 := (show _ ∧ _ from ⟨Hd3.out.box.c0, Hd3.out.box.c1⟩)
      clear Hd2 K2 bb3
      refine ⟨_, rfl, K3, ?_⟩
      simp only [List.setIfInBounds_toArray, List.set_cons_zero, List.set_cons_succ]
      refine hold_take (i := 9) (d := 43) (v := ?vn9) (listed' := #[true, true, true, true, true, true, true, true, true, true]) rfl (by kernel_rfl) (by kernel_rfl) (by kernel_rfl) rfl (by rfl) (by kernel_rfl) K3 ?hn9 ?rn9
      case hn9 =>
        intro w' hSw
        obtain ⟨k0, k1⟩ := hSw
        go_simp
        try with_reducible rfl
      simp only [List.setIfInBounds_toArray, List.set_cons_zero, List.set_cons_succ]
      refine hold_done (by kernel_rfl) ?_ _
      have H6 := Hd3.out
      clear Hd3 K3
      have q0 := H6.box.c0
      have q1 := H6.box.c1
      obtain ⟨w6, hw6⟩ : ∃ w6, x3 = w6 := ⟨_, rfl⟩
      subst hw6
      cases hk : keepsB m y with
      | false =>
        have HK : Hid (keepsV m k zz = false) := hK.trans hk
        clear hK hk
        go_wp2_with fail
        go_at_call 15
        refine (spec_KeepsOk (nc := nc) H6.log).mono ?_
        rintro e w7 ⟨rfl, b7⟩
        rw [HK.out]
        have H7 := H6.step b7
        clear H6 b7
        have q0 := H7.box.c0
        have q1 := H7.box.c1
        go_wp2_with fail
        go_at_call 14
        refine (alive_any _).mono ?_
        rintro e w8 ⟨rfl, b8⟩
        have H8 := H7.step b8
        go_wp2_with fail
        go_ret
        exact ⟨rfl, H8.old⟩
      | true =>
        have HK : Hid (keepsV m k zz = true) := hK.trans hk
        have HCB := Lib.hid (hcb hk)
        have hye := hyes hk
        clear hK hk hcb hyes
        go_wp2_with fail
        go_at_call 15
        refine (spec_KeepsOk (nc := nc) H6.log).mono ?_
        rintro e w7 ⟨rfl, b7⟩
        rw [HK.out]
        have H7 := H6.step b7
        clear H6 b7
        have q0 := H7.box.c0
        have q1 := H7.box.c1
        go_wp2_with fail
        go_at_call 22
        refine (spec_AndOf (nc := nc) (x := (a : Int)) (y := (p : Int)) H7.log).mono ?_
        rintro e w8 ⟨rfl, b8⟩
        rw [NC.out]
        have H8 := H7.step b8
        clear H7 q0 q1 b8
        have q0 := H8.box.c0
        have q1 := H8.box.c1
        rcases leB_cases HS.out ha hb with ⟨l1, z1⟩ | ⟨l1, z1⟩
        · rw [l1] at hye
          have hpy : p = y o3 := of_decide_eq_true hye
          have NY : Hid (yesV m k zz = (p : Int)) := by show _ = _; rw [NY0, hpy]
          have HZ := Lib.hid z1
          clear l1 z1 hye hpy NY0
          go_wp2_with fail
          have Hd0 := Lib.hid (H8.step (Below.refl _ w8).drew)
          have K0 := (show _ ∧ _ ∧ _ ∧ _ ∧ _ ∧ _ from ⟨Hd0.out.box.c0, Hd0.out.box.c1, (Hd0.out.log.mat.sq HS.out ha hb).2.1, (Hd0.out.log.mat.sq HS.out ha hb).2.2.trans (by rw [HZ.out]), (Hd0.out.log.mat.sq HS.out hcn hb).2.1, (Hd0.out.log.mat.sq HS.out hcn hb).2.2.trans (by rw [HCB.out])⟩)
          clear H8 q0 q1
          refine region_plain (fuel := 26) (listed := #[false, false, false, false, false, false, false, false, false, false, false, false, false, false, false, false, false, false, false, false, false, false, false, false, false, false]) (fun w' => w'.cell? ⟨w1.heap.size, 0, none⟩ = some (.slice (some ⟨l.b, l.o, none⟩) m.n l.cap) ∧ w'.cell? ⟨w1.heap.size, 1, none⟩ = some (.slice na k nc) ∧ w'.cell? ⟨l.b, l.o + a, none⟩ = some (.slice (some ⟨l.G a, l.O a, none⟩) m.n (l.C a)) ∧ w'.cell? ⟨l.G a, l.O a + b, none⟩ = some (.int .i64 1) ∧ w'.cell? ⟨l.b, l.o + c, none⟩ = some (.slice (some ⟨l.G c, l.O c, none⟩) m.n (l.C c)) ∧ w'.cell? ⟨l.G c, l.O c + b, none⟩ = some (.int .i64 1)) (by kernel_rfl) (by kernel_rfl) (by kernel_rfl) ?_
          refine hold_take (i := 0) (d := 52) (v := ?vA0) (listed' := #[true, false, false, false, false, false, false, false, false, false, false, false, false, false, false, false, false, false, false, false, false, false, false, false, false, false]) rfl (by kernel_rfl) (by kernel_rfl) (by kernel_rfl) rfl (by rfl) (by kernel_rfl) K0 ?hA0 ?rA0
          case hA0 =>
            intro w' hSw
            obtain ⟨k0, k1, k2, k3, k4, k5⟩ := hSw
            go_simp
            try with_reducible rfl
          simp only [List.setIfInBounds_toArray, List.set_cons_zero, List.set_cons_succ]
          refine hold_take (i := 1) (d := 53) (v := ?vA1) (listed' := #[true, true, false, false, false, false, false, false, false, false, false, false, false, false, false, false, false, false, false, false, false, false, false, false, false, false]) rfl (by kernel_rfl) (by kernel_rfl) (by kernel_rfl) rfl (by rfl) (by kernel_rfl) K0 ?hA1 ?rA1
          case hA1 =>
            intro w' hSw
            obtain ⟨k0, k1, k2, k3, k4, k5⟩ := hSw
            go_simp
            try with_reducible rfl
          simp only [List.setIfInBounds_toArray, List.set_cons_zero, List.set_cons_succ]
          refine hold_take (i := 4) (d := 56) (v := ?vA4) (listed' := #[true, true, false, false, true, false, false, false, false, false, false, false, false, false, false, false, false, false, false, false, false, false, false, false, false, false]) rfl (by kernel_rfl) (by kernel_rfl) (by kernel_rfl) rfl (by rfl) (by kernel_rfl) K0 ?hA4 ?rA4
          case hA4 =>
            intro w' hSw
            obtain ⟨k0, k1, k2, k3, k4, k5⟩ := hSw
            go_simp
            try with_reducible rfl
          simp only [List.setIfInBounds_toArray, List.set_cons_zero, List.set_cons_succ]
          refine hold_take (i := 5) (d := 57) (v := ?vA5) (listed' := #[true, true, false, false, true, true, false, false, false, false, false, false, false, false, false, false, false, false, false, false, false, false, false, false, false, false]) rfl (by kernel_rfl) (by kernel_rfl) (by kernel_rfl) rfl (by rfl) (by kernel_rfl) K0 ?hA5 ?rA5
          case hA5 =>
            intro w' hSw
            obtain ⟨k0, k1, k2, k3, k4, k5⟩ := hSw
            go_simp
            try with_reducible rfl
          simp only [List.setIfInBounds_toArray, List.set_cons_zero, List.set_cons_succ]
          refine hold_take (i := 6) (d := 58) (v := ?vA6) (listed' := #[true, true, false, false, true, true, true, false, false, false, false, false, false, false, false, false, false, false, false, false, false, false, false, false, false, false]) rfl (by kernel_rfl) (by kernel_rfl) (by kernel_rfl) rfl (by rfl) (by kernel_rfl) K0 ?hA6 ?rA6
          case hA6 =>
            intro w' hSw
            obtain ⟨k0, k1, k2, k3, k4, k5⟩ := hSw
            go_simp
            try with_reducible rfl
          simp only [List.setIfInBounds_toArray, List.set_cons_zero, List.set_cons_succ]
          refine hold_take (i := 7) (d := 59) (v := ?vA7) (listed' := #[true, true, false, false, true, true, true, true, false, false, false, false, false, false, false, false, false, false, false, false, false, false, false, false, false, false]) rfl (by kernel_rfl) (by kernel_rfl) (by kernel_rfl) rfl (by rfl) (by kernel_rfl) K0 ?hA7 ?rA7
          case hA7 =>
            intro w' hSw
            obtain ⟨k0, k1, k2, k3, k4, k5⟩ := hSw
            go_simp
            try with_reducible rfl
          simp only [List.setIfInBounds_toArray, List.set_cons_zero, List.set_cons_succ]
          refine hold_take (i := 8) (d := 60) (v := ?vA8) (listed' := #[true, true, false, false, true, true, true, true, true, false, false, false, false, false, false, false, false, false, false, false, false, false, false, false, false, false]) rfl (by kernel_rfl) (by kernel_rfl) (by kernel_rfl) rfl (by rfl) (by kernel_rfl) K0 ?hA8 ?rA8
          case hA8 =>
            intro w' hSw
            obtain ⟨k0, k1, k2, k3, k4, k5⟩ := hSw
            go_simp
            try with_reducible rfl
          simp only [List.setIfInBounds_toArray, List.set_cons_zero, List.set_cons_succ]
          refine hold_take (i := 9) (d := 61) (v := ?vA9) (listed' := #[true, true, false, false, true, true, true, true, true, true, false, false, false, false, false, false, false, false, false, false, false, false, false, false, false, false]) rfl (by kernel_rfl) (by kernel_rfl) (by kernel_rfl) rfl (by rfl) (by kernel_rfl) K0 ?hA9 ?rA9
          case hA9 =>
            intro w' hSw
            obtain ⟨k0, k1, k2, k3, k4, k5⟩ := hSw
            go_simp
            try with_reducible rfl
          simp only [List.setIfInBounds_toArray, List.set_cons_zero, List.set_cons_succ]
          refine hold_take (i := 10) (d := 62) (v := ?vA10) (listed' := #[true, true, false, false, true, true, true, true, true, true, true, false, false, false, false, false, false, false, false, false, false, false, false, false, false, false]) rfl (by kernel_rfl) (by kernel_rfl) (by kernel_rfl) rfl (by rfl) (by kernel_rfl) K0 ?hA10 ?rA10
          case hA10 =>
            intro w' hSw
            obtain ⟨k0, k1, k2, k3, k4, k5⟩ := hSw
            go_simp
            try with_reducible rfl
          simp only [List.setIfInBounds_toArray, List.set_cons_zero, List.set_cons_succ]
          refine hold_take (i := 11) (d := 63) (v := ?vA11) (listed' := #[true, true, false, false, true, true, true, true, true, true, true, true, false, false, false, false, false, false, false, false, false, false, false, false, false, false]) rfl (by kernel_rfl) (by kernel_rfl) (by kernel_rfl) rfl (by rfl) (by kernel_rfl) K0 ?hA11 ?rA11
          case hA11 =>
            intro w' hSw
            obtain ⟨k0, k1, k2, k3, k4, k5⟩ := hSw
            go_simp
            try with_reducible rfl
          simp only [List.setIfInBounds_toArray, List.set_cons_zero, List.set_cons_succ]
          refine hold_take (i := 12) (d := 64) (v := ?vA12) (listed' := #[true, true, false, false, true, true, true, true, true, true, true, true, true, false, false, false, false, false, false, false, false, false, false, false, false, false]) rfl (by kernel_rfl) (by kernel_rfl) (by kernel_rfl) rfl (by rfl) (by kernel_rfl) K0 ?hA12 ?rA12
          case hA12 =>
            intro w' hSw
            obtain ⟨k0, k1, k2, k3, k4, k5⟩ := hSw
            go_simp
            try with_reducible rfl
          simp only [List.setIfInBounds_toArray, List.set_cons_zero, List.set_cons_succ]
          refine hold_call (i := 2) (d := 54) (listed' := #[true, true, true, false, true, true, true, true, true, true, true, true, true, false, false, false, false, false, false, false, false, false, false, false, false, false]) rfl (by kernel_rfl) rfl (by rfl) (by kernel_rfl) ?heA2 (YesOf_any (nc := nc) Hd0.out.log) ?hcA2
          case heA2 => go_simp
          rintro e x1 ⟨rfl, bb1⟩
          rw [NY.out]
          have Hd1 := Lib.hid (Hd0.out.step bb1)
          have K1 := (show _ ∧ _ ∧ _ ∧ _ ∧ _ ∧ _ from ⟨Hd1.out.box.c0, Hd1.out.box.c1, (Hd1.out.log.mat.sq HS.out ha hb).2.1, (Hd1.out.log.mat.sq HS.out ha hb).2.2.trans (by rw [HZ.out]), (Hd1.out.log.mat.sq HS.out hcn hb).2.1, (Hd1.out.log.mat.sq HS.out hcn hb).2.2.trans (by rw [HCB.out])⟩)
          clear Hd0 K0 bb1
          refine ⟨_, rfl, K1, ?_⟩
          simp only [List.setIfInBounds_toArray, List.set_cons_zero, List.set_cons_succ]
          refine hold_take (i := 3) (d := 55) (v := ?vA3) (listed' := #[true, true, true, true, true, true, true, true, true, true, true, true, true, false, false, false, false, false, false, false, false, false, false, false, false, false]) rfl (by kernel_rfl) (by kernel_rfl) (by kernel_rfl) rfl (by rfl) (by kernel_rfl) K1 ?hA3 ?rA3
          case hA3 =>
            intro w' hSw
            obtain ⟨k0, k1, k2, k3, k4, k5⟩ := hSw
            go_simp
            try with_reducible rfl
          simp only [List.setIfInBounds_toArray, List.set_cons_zero, List.set_cons_succ]
          refine hold_take (i := 13) (d := 65) (v := ?vA13) (listed' := #[true, true, true, true, true, true, true, true, true, true, true, true, true, true, false, false, false, false, false, false, false, false, false, false, false, false]) rfl (by kernel_rfl) (by kernel_rfl) (by kernel_rfl) rfl (by rfl) (by kernel_rfl) K1 ?hA13 ?rA13
          case hA13 =>
            intro w' hSw
            obtain ⟨k0, k1, k2, k3, k4, k5⟩ := hSw
            go_simp
            try with_reducible rfl
          simp only [List.setIfInBounds_toArray, List.set_cons_zero, List.set_cons_succ]
          refine hold_take (i := 14) (d := 66) (v := ?vA14) (listed' := #[true, true, true, true, true, true, true, true, true, true, true, true, true, true, true, false, false, false, false, false, false, false, false, false, false, false]) rfl (by kernel_rfl) (by kernel_rfl) (by kernel_rfl) rfl (by rfl) (by kernel_rfl) K1 ?hA14 ?rA14
          case hA14 =>
            intro w' hSw
            obtain ⟨k0, k1, k2, k3, k4, k5⟩ := hSw
            go_simp
            try with_reducible rfl
          simp only [List.setIfInBounds_toArray, List.set_cons_zero, List.set_cons_succ]
          refine hold_take (i := 15) (d := 67) (v := ?vA15) (listed' := #[true, true, true, true, true, true, true, true, true, true, true, true, true, true, true, true, false, false, false, false, false, false, false, false, false, false]) rfl (by kernel_rfl) (by kernel_rfl) (by kernel_rfl) rfl (by rfl) (by kernel_rfl) K1 ?hA15 ?rA15
          case hA15 =>
            intro w' hSw
            obtain ⟨k0, k1, k2, k3, k4, k5⟩ := hSw
            go_simp
            try with_reducible rfl
          simp only [List.setIfInBounds_toArray, List.set_cons_zero, List.set_cons_succ]
          refine hold_take (i := 16) (d := 68) (v := ?vA16) (listed' := #[true, true, true, true, true, true, true, true, true, true, true, true, true, true, true, true, true, false, false, false, false, false, false, false, false, false]) rfl (by kernel_rfl) (by kernel_rfl) (by kernel_rfl) rfl (by rfl) (by kernel_rfl) K1 ?hA16 ?rA16
          case hA16 =>
            intro w' hSw
            obtain ⟨k0, k1, k2, k3, k4, k5⟩ := hSw
            go_simp
            try with_reducible rfl
          simp only [List.setIfInBounds_toArray, List.set_cons_zero, List.set_cons_succ]
          refine hold_take (i := 17) (d := 69) (v := ?vA17) (listed' := #[true, true, true, true, true, true, true, true, true, true, true, true, true, true, true, true, true, true, false, false, false, false, false, false, false, false]) rfl (by kernel_rfl) (by kernel_rfl) (by kernel_rfl) rfl (by rfl) (by kernel_rfl) K1 ?hA17 ?rA17
          case hA17 =>
            intro w' hSw
            obtain ⟨k0, k1, k2, k3, k4, k5⟩ := hSw
            go_simp
            try with_reducible rfl
          simp only [List.setIfInBounds_toArray, List.set_cons_zero, List.set_cons_succ]
          refine hold_take (i := 18) (d := 70) (v := ?vA18) (listed' := #[true, true, true, true, true, true, true, true, true, true, true, true, true, true, true, true, true, true, true, false, false, false, false, false, false, false]) rfl (by kernel_rfl) (by kernel_rfl) (by kernel_rfl) rfl (by rfl) (by kernel_rfl) K1 ?hA18 ?rA18
          case hA18 =>
            intro w' hSw
            obtain ⟨k0, k1, k2, k3, k4, k5⟩ := hSw
            go_simp
            try with_reducible rfl
          simp only [List.setIfInBounds_toArray, List.set_cons_zero, List.set_cons_succ]
          refine hold_take (i := 19) (d := 71) (v := ?vA19) (listed' := #[true, true, true, true, true, true, true, true, true, true, true, true, true, true, true, true, true, true, true, true, false, false, false, false, false, false]) rfl (by kernel_rfl) (by kernel_rfl) (by kernel_rfl) rfl (by rfl) (by kernel_rfl) K1 ?hA19 ?rA19
          case hA19 =>
            intro w' hSw
            obtain ⟨k0, k1, k2, k3, k4, k5⟩ := hSw
            go_simp
            try with_reducible rfl
          simp only [List.setIfInBounds_toArray, List.set_cons_zero, List.set_cons_succ]
          refine hold_take (i := 20) (d := 72) (v := ?vA20) (listed' := #[true, true, true, true, true, true, true, true, true, true, true, true, true, true, true, true, true, true, true, true, true, false, false, false, false, false]) rfl (by kernel_rfl) (by kernel_rfl) (by kernel_rfl) rfl (by rfl) (by kernel_rfl) K1 ?hA20 ?rA20
          case hA20 =>
            intro w' hSw
            obtain ⟨k0, k1, k2, k3, k4, k5⟩ := hSw
            go_simp
            try with_reducible rfl
          simp only [List.setIfInBounds_toArray, List.set_cons_zero, List.set_cons_succ]
          refine hold_take (i := 21) (d := 73) (v := ?vA21) (listed' := #[true, true, true, true, true, true, true, true, true, true, true, true, true, true, true, true, true, true, true, true, true, true, false, false, false, false]) rfl (by kernel_rfl) (by kernel_rfl) (by kernel_rfl) rfl (by rfl) (by kernel_rfl) K1 ?hA21 ?rA21
          case hA21 =>
            intro w' hSw
            obtain ⟨k0, k1, k2, k3, k4, k5⟩ := hSw
            go_simp
            try with_reducible rfl
          simp only [List.setIfInBounds_toArray, List.set_cons_zero, List.set_cons_succ]
          refine hold_take (i := 22) (d := 74) (v := ?vA22) (listed' := #[true, true, true, true, true, true, true, true, true, true, true, true, true, true, true, true, true, true, true, true, true, true, true, false, false, false]) rfl (by kernel_rfl) (by kernel_rfl) (by kernel_rfl) rfl (by rfl) (by kernel_rfl) K1 ?hA22 ?rA22
          case hA22 =>
            intro w' hSw
            obtain ⟨k0, k1, k2, k3, k4, k5⟩ := hSw
            go_simp
            try with_reducible rfl
          simp only [List.setIfInBounds_toArray, List.set_cons_zero, List.set_cons_succ]
          refine hold_take (i := 23) (d := 75) (v := ?vA23) (listed' := #[true, true, true, true, true, true, true, true, true, true, true, true, true, true, true, true, true, true, true, true, true, true, true, true, false, false]) rfl (by kernel_rfl) (by kernel_rfl) (by kernel_rfl) rfl (by rfl) (by kernel_rfl) K1 ?hA23 ?rA23
          case hA23 =>
            intro w' hSw
            obtain ⟨k0, k1, k2, k3, k4, k5⟩ := hSw
            go_simp
            try with_reducible rfl
          simp only [List.setIfInBounds_toArray, List.set_cons_zero, List.set_cons_succ]
          refine hold_take (i := 24) (d := 76) (v := ?vA24) (listed' := #[true, true, true, true, true, true, true, true, true, true, true, true, true, true, true, true, true, true, true, true, true, true, true, true, true, false]) rfl (by kernel_rfl) (by kernel_rfl) (by kernel_rfl) rfl (by rfl) (by kernel_rfl) K1 ?hA24 ?rA24
          case hA24 =>
            intro w' hSw
            obtain ⟨k0, k1, k2, k3, k4, k5⟩ := hSw
            go_simp
            try with_reducible rfl
          simp only [List.setIfInBounds_toArray, List.set_cons_zero, List.set_cons_succ]
          refine hold_take (i := 25) (d := 2) (v := ?vA25) (listed' := #[true, true, true, true, true, true, true, true, true, true, true, true, true, true, true, true, true, true, true, true, true, true, true, true, true, true]) rfl (by kernel_rfl) (by kernel_rfl) (by kernel_rfl) rfl (by rfl) (by kernel_rfl) K1 ?hA25 ?rA25
          case hA25 =>
            intro w' hSw
            obtain ⟨k0, k1, k2, k3, k4, k5⟩ := hSw
            go_simp
            try with_reducible rfl
          simp only [List.setIfInBounds_toArray, List.set_cons_zero, List.set_cons_succ]
          refine hold_done (by kernel_rfl) ?_ _
          go_wp2_with fail
          go_ret
          exact ⟨rfl, Hd1.out.old⟩
        · rw [l1] at hye
          have hpy : ¬ p = y o3 := of_decide_eq_false hye
          obtain ⟨yo, hyo⟩ : ∃ yo, y o3 = yo := ⟨_, rfl⟩
          rw [hyo] at hpy NY0
          have e1 : ((p : Int) == (yo : Int)) = false := by rw [beq_eq_false_iff_ne]; omega
          have NY := Lib.hid NY0
          have HZ := Lib.hid z1
          clear l1 z1 hye hpy NY0 hyo
          go_wp2_with fail
          have Hd0 := Lib.hid (H8.step (Below.refl _ w8).drew)
          have K0 := (show _ ∧ _ ∧ _ ∧ _ ∧ _ ∧ _ from ⟨Hd0.out.box.c0, Hd0.out.box.c1, (Hd0.out.log.mat.sq HS.out ha hb).2.1, (Hd0.out.log.mat.sq HS.out ha hb).2.2.trans (by rw [HZ.out]), (Hd0.out.log.mat.sq HS.out hcn hb).2.1, (Hd0.out.log.mat.sq HS.out hcn hb).2.2.trans (by rw [HCB.out])⟩)
          clear H8 q0 q1
          refine region_plain (fuel := 26) (listed := #[false, false, false, false, false, false, false, false, false, false, false, false, false, false, false, false, false, false, false, false, false, false, false, false, false, false]) (fun w' => w'.cell? ⟨w1.heap.size, 0, none⟩ = some (.slice (some ⟨l.b, l.o, none⟩) m.n l.cap) ∧ w'.cell? ⟨w1.heap.size, 1, none⟩ = some (.slice na k nc) ∧ w'.cell? ⟨l.b, l.o + a, none⟩ = some (.slice (some ⟨l.G a, l.O a, none⟩) m.n (l.C a)) ∧ w'.cell? ⟨l.G a, l.O a + b, none⟩ = some (.int .i64 0) ∧ w'.cell? ⟨l.b, l.o + c, none⟩ = some (.slice (some ⟨l.G c, l.O c, none⟩) m.n (l.C c)) ∧ w'.cell? ⟨l.G c, l.O c + b, none⟩ = some (.int .i64 1)) (by kernel_rfl) (by kernel_rfl) (by kernel_rfl) ?_
          refine hold_take (i := 0) (d := 52) (v := ?vB0) (listed' := #[true, false, false, false, false, false, false, false, false, false, false, false, false, false, false, false, false, false, false, false, false, false, false, false, false, false]) rfl (by kernel_rfl) (by kernel_rfl) (by kernel_rfl) rfl (by rfl) (by kernel_rfl) K0 ?hB0 ?rB0
          case hB0 =>
            intro w' hSw
            obtain ⟨k0, k1, k2, k3, k4, k5⟩ := hSw
            go_simp
            try with_reducible rfl
          simp only [List.setIfInBounds_toArray, List.set_cons_zero, List.set_cons_succ]
          refine hold_take (i := 1) (d := 53) (v := ?vB1) (listed' := #[true, true, false, false, false, false, false, false, false, false, false, false, false, false, false, false, false, false, false, false, false, false, false, false, false, false]) rfl (by kernel_rfl) (by kernel_rfl) (by kernel_rfl) rfl (by rfl) (by kernel_rfl) K0 ?hB1 ?rB1
          case hB1 =>
            intro w' hSw
            obtain ⟨k0, k1, k2, k3, k4, k5⟩ := hSw
            go_simp
            try with_reducible rfl
          simp only [List.setIfInBounds_toArray, List.set_cons_zero, List.set_cons_succ]
          refine hold_take (i := 4) (d := 56) (v := ?vB4) (listed' := #[true, true, false, false, true, false, false, false, false, false, false, false, false, false, false, false, false, false, false, false, false, false, false, false, false, false]) rfl (by kernel_rfl) (by kernel_rfl) (by kernel_rfl) rfl (by rfl) (by kernel_rfl) K0 ?hB4 ?rB4
          case hB4 =>
            intro w' hSw
            obtain ⟨k0, k1, k2, k3, k4, k5⟩ := hSw
            go_simp
            try with_reducible rfl
          simp only [List.setIfInBounds_toArray, List.set_cons_zero, List.set_cons_succ]
          refine hold_take (i := 5) (d := 57) (v := ?vB5) (listed' := #[true, true, false, false, true, true, false, false, false, false, false, false, false, false, false, false, false, false, false, false, false, false, false, false, false, false]) rfl (by kernel_rfl) (by kernel_rfl) (by kernel_rfl) rfl (by rfl) (by kernel_rfl) K0 ?hB5 ?rB5
          case hB5 =>
            intro w' hSw
            obtain ⟨k0, k1, k2, k3, k4, k5⟩ := hSw
            go_simp
            try with_reducible rfl
          simp only [List.setIfInBounds_toArray, List.set_cons_zero, List.set_cons_succ]
          refine hold_take (i := 6) (d := 58) (v := ?vB6) (listed' := #[true, true, false, false, true, true, true, false, false, false, false, false, false, false, false, false, false, false, false, false, false, false, false, false, false, false]) rfl (by kernel_rfl) (by kernel_rfl) (by kernel_rfl) rfl (by rfl) (by kernel_rfl) K0 ?hB6 ?rB6
          case hB6 =>
            intro w' hSw
            obtain ⟨k0, k1, k2, k3, k4, k5⟩ := hSw
            go_simp
            try with_reducible rfl
          simp only [List.setIfInBounds_toArray, List.set_cons_zero, List.set_cons_succ]
          refine hold_take (i := 7) (d := 59) (v := ?vB7) (listed' := #[true, true, false, false, true, true, true, true, false, false, false, false, false, false, false, false, false, false, false, false, false, false, false, false, false, false]) rfl (by kernel_rfl) (by kernel_rfl) (by kernel_rfl) rfl (by rfl) (by kernel_rfl) K0 ?hB7 ?rB7
          case hB7 =>
            intro w' hSw
            obtain ⟨k0, k1, k2, k3, k4, k5⟩ := hSw
            go_simp
            try with_reducible rfl
          simp only [List.setIfInBounds_toArray, List.set_cons_zero, List.set_cons_succ]
          refine hold_take (i := 8) (d := 60) (v := ?vB8) (listed' := #[true, true, false, false, true, true, true, true, true, false, false, false, false, false, false, false, false, false, false, false, false, false, false, false, false, false]) rfl (by kernel_rfl) (by kernel_rfl) (by kernel_rfl) rfl (by rfl) (by kernel_rfl) K0 ?hB8 ?rB8
          case hB8 =>
            intro w' hSw
            obtain ⟨k0, k1, k2, k3, k4, k5⟩ := hSw
            go_simp
            try with_reducible rfl
          simp only [List.setIfInBounds_toArray, List.set_cons_zero, List.set_cons_succ]
          refine hold_take (i := 9) (d := 61) (v := ?vB9) (listed' := #[true, true, false, false, true, true, true, true, true, true, false, false, false, false, false, false, false, false, false, false, false, false, false, false, false, false]) rfl (by kernel_rfl) (by kernel_rfl) (by kernel_rfl) rfl (by rfl) (by kernel_rfl) K0 ?hB9 ?rB9
          case hB9 =>
            intro w' hSw
            obtain ⟨k0, k1, k2, k3, k4, k5⟩ := hSw
            go_simp
            try with_reducible rfl
          simp only [List.setIfInBounds_toArray, List.set_cons_zero, List.set_cons_succ]
          refine hold_take (i := 10) (d := 62) (v := ?vB10) (listed' := #[true, true, false, false, true, true, true, true, true, true, true, false, false, false, false, false, false, false, false, false, false, false, false, false, false, false]) rfl (by kernel_rfl) (by kernel_rfl) (by kernel_rfl) rfl (by rfl) (by kernel_rfl) K0 ?hB10 ?rB10
          case hB10 =>
            intro w' hSw
            obtain ⟨k0, k1, k2, k3, k4, k5⟩ := hSw
            go_simp
            try with_reducible rfl
          simp only [List.setIfInBounds_toArray, List.set_cons_zero, List.set_cons_succ]
          refine hold_take (i := 11) (d := 63) (v := ?vB11) (listed' := #[true, true, false, false, true, true, true, true, true, true, true, true, false, false, false, false, false, false, false, false, false, false, false, false, false, false]) rfl (by kernel_rfl) (by kernel_rfl) (by kernel_rfl) rfl (by rfl) (by kernel_rfl) K0 ?hB11 ?rB11
          case hB11 =>
            intro w' hSw
            obtain ⟨k0, k1, k2, k3, k4, k5⟩ := hSw
            go_simp
            try with_reducible rfl
          simp only [List.setIfInBounds_toArray, List.set_cons_zero, List.set_cons_succ]
          refine hold_take (i := 12) (d := 64) (v := ?vB12) (listed' := #[true, true, false, false, true, true, true, true, true, true, true, true, true, false, false, false, false, false, false, false, false, false, false, false, false, false]) rfl (by kernel_rfl) (by kernel_rfl) (by kernel_rfl) rfl (by rfl) (by kernel_rfl) K0 ?hB12 ?rB12
          case hB12 =>
            intro w' hSw
            obtain ⟨k0, k1, k2, k3, k4, k5⟩ := hSw
            go_simp
            try with_reducible rfl
          simp only [List.setIfInBounds_toArray, List.set_cons_zero, List.set_cons_succ]
          refine hold_call (i := 2) (d := 54) (listed' := #[true, true, true, false, true, true, true, true, true, true, true, true, true, false, false, false, false, false, false, false, false, false, false, false, false, false]) rfl (by kernel_rfl) rfl (by rfl) (by kernel_rfl) ?heB2 (YesOf_any (nc := nc) Hd0.out.log) ?hcB2
          case heB2 => go_simp
          rintro e x1 ⟨rfl, bb1⟩
          rw [NY.out]
          have Hd1 := Lib.hid (Hd0.out.step bb1)
          have K1 := (show _ ∧ _ ∧ _ ∧ _ ∧ _ ∧ _ from ⟨Hd1.out.box.c0, Hd1.out.box.c1, (Hd1.out.log.mat.sq HS.out ha hb).2.1, (Hd1.out.log.mat.sq HS.out ha hb).2.2.trans (by rw [HZ.out]), (Hd1.out.log.mat.sq HS.out hcn hb).2.1, (Hd1.out.log.mat.sq HS.out hcn hb).2.2.trans (by rw [HCB.out])⟩)
          clear Hd0 K0 bb1
          refine ⟨_, rfl, K1, ?_⟩
          simp only [List.setIfInBounds_toArray, List.set_cons_zero, List.set_cons_succ]
          refine hold_take (i := 3) (d := 55) (v := ?vB3) (listed' := #[true, true, true, true, true, true, true, true, true, true, true, true, true, false, false, false, false, false, false, false, false, false, false, false, false, false]) rfl (by kernel_rfl) (by kernel_rfl) (by kernel_rfl) rfl (by rfl) (by kernel_rfl) K1 ?hB3 ?rB3
          case hB3 =>
            intro w' hSw
            obtain ⟨k0, k1, k2, k3, k4, k5⟩ := hSw
            go_simp
            try with_reducible rfl
          simp only [List.setIfInBounds_toArray, List.set_cons_zero, List.set_cons_succ]
          refine hold_take (i := 13) (d := 65) (v := ?vB13) (listed' := #[true, true, true, true, true, true, true, true, true, true, true, true, true, true, false, false, false, false, false, false, false, false, false, false, false, false]) rfl (by kernel_rfl) (by kernel_rfl) (by kernel_rfl) rfl (by rfl) (by kernel_rfl) K1 ?hB13 ?rB13
          case hB13 =>
            intro w' hSw
            obtain ⟨k0, k1, k2, k3, k4, k5⟩ := hSw
            go_simp
            try with_reducible rfl
          simp only [List.setIfInBounds_toArray, List.set_cons_zero, List.set_cons_succ]
          refine hold_take (i := 14) (d := 66) (v := ?vB14) (listed' := #[true, true, true, true, true, true, true, true, true, true, true, true, true, true, true, false, false, false, false, false, false, false, false, false, false, false]) rfl (by kernel_rfl) (by kernel_rfl) (by kernel_rfl) rfl (by rfl) (by kernel_rfl) K1 ?hB14 ?rB14
          case hB14 =>
            intro w' hSw
            obtain ⟨k0, k1, k2, k3, k4, k5⟩ := hSw
            go_simp
            try with_reducible rfl
          simp only [List.setIfInBounds_toArray, List.set_cons_zero, List.set_cons_succ]
          refine hold_take (i := 15) (d := 67) (v := ?vB15) (listed' := #[true, true, true, true, true, true, true, true, true, true, true, true, true, true, true, true, false, false, false, false, false, false, false, false, false, false]) rfl (by kernel_rfl) (by kernel_rfl) (by kernel_rfl) rfl (by rfl) (by kernel_rfl) K1 ?hB15 ?rB15
          case hB15 =>
            intro w' hSw
            obtain ⟨k0, k1, k2, k3, k4, k5⟩ := hSw
            go_simp
            try with_reducible rfl
          simp only [List.setIfInBounds_toArray, List.set_cons_zero, List.set_cons_succ]
          refine hold_take (i := 16) (d := 68) (v := ?vB16) (listed' := #[true, true, true, true, true, true, true, true, true, true, true, true, true, true, true, true, true, false, false, false, false, false, false, false, false, false]) rfl (by kernel_rfl) (by kernel_rfl) (by kernel_rfl) rfl (by rfl) (by kernel_rfl) K1 ?hB16 ?rB16
          case hB16 =>
            intro w' hSw
            obtain ⟨k0, k1, k2, k3, k4, k5⟩ := hSw
            go_simp
            try with_reducible rfl
          simp only [List.setIfInBounds_toArray, List.set_cons_zero, List.set_cons_succ]
          refine hold_take (i := 17) (d := 69) (v := ?vB17) (listed' := #[true, true, true, true, true, true, true, true, true, true, true, true, true, true, true, true, true, true, false, false, false, false, false, false, false, false]) rfl (by kernel_rfl) (by kernel_rfl) (by kernel_rfl) rfl (by rfl) (by kernel_rfl) K1 ?hB17 ?rB17
          case hB17 =>
            intro w' hSw
            obtain ⟨k0, k1, k2, k3, k4, k5⟩ := hSw
            go_simp
            try with_reducible rfl
          simp only [List.setIfInBounds_toArray, List.set_cons_zero, List.set_cons_succ]
          refine hold_take (i := 18) (d := 70) (v := ?vB18) (listed' := #[true, true, true, true, true, true, true, true, true, true, true, true, true, true, true, true, true, true, true, false, false, false, false, false, false, false]) rfl (by kernel_rfl) (by kernel_rfl) (by kernel_rfl) rfl (by rfl) (by kernel_rfl) K1 ?hB18 ?rB18
          case hB18 =>
            intro w' hSw
            obtain ⟨k0, k1, k2, k3, k4, k5⟩ := hSw
            go_simp
            try with_reducible rfl
          simp only [List.setIfInBounds_toArray, List.set_cons_zero, List.set_cons_succ]
          refine hold_take (i := 19) (d := 71) (v := ?vB19) (listed' := #[true, true, true, true, true, true, true, true, true, true, true, true, true, true, true, true, true, true, true, true, false, false, false, false, false, false]) rfl (by kernel_rfl) (by kernel_rfl) (by kernel_rfl) rfl (by rfl) (by kernel_rfl) K1 ?hB19 ?rB19
          case hB19 =>
            intro w' hSw
            obtain ⟨k0, k1, k2, k3, k4, k5⟩ := hSw
            go_simp
            try with_reducible rfl
          simp only [List.setIfInBounds_toArray, List.set_cons_zero, List.set_cons_succ]
          refine hold_take (i := 20) (d := 72) (v := ?vB20) (listed' := #[true, true, true, true, true, true, true, true, true, true, true, true, true, true, true, true, true, true, true, true, true, false, false, false, false, false]) rfl (by kernel_rfl) (by kernel_rfl) (by kernel_rfl) rfl (by rfl) (by kernel_rfl) K1 ?hB20 ?rB20
          case hB20 =>
            intro w' hSw
            obtain ⟨k0, k1, k2, k3, k4, k5⟩ := hSw
            go_simp
            try with_reducible rfl
          simp only [List.setIfInBounds_toArray, List.set_cons_zero, List.set_cons_succ]
          refine hold_take (i := 21) (d := 73) (v := ?vB21) (listed' := #[true, true, true, true, true, true, true, true, true, true, true, true, true, true, true, true, true, true, true, true, true, true, false, false, false, false]) rfl (by kernel_rfl) (by kernel_rfl) (by kernel_rfl) rfl (by rfl) (by kernel_rfl) K1 ?hB21 ?rB21
          case hB21 =>
            intro w' hSw
            obtain ⟨k0, k1, k2, k3, k4, k5⟩ := hSw
            go_simp
            try with_reducible rfl
          simp only [List.setIfInBounds_toArray, List.set_cons_zero, List.set_cons_succ]
          refine hold_take (i := 22) (d := 74) (v := ?vB22) (listed' := #[true, true, true, true, true, true, true, true, true, true, true, true, true, true, true, true, true, true, true, true, true, true, true, false, false, false]) rfl (by kernel_rfl) (by kernel_rfl) (by kernel_rfl) rfl (by rfl) (by kernel_rfl) K1 ?hB22 ?rB22
          case hB22 =>
            intro w' hSw
            obtain ⟨k0, k1, k2, k3, k4, k5⟩ := hSw
            go_simp
            try with_reducible rfl
          simp only [List.setIfInBounds_toArray, List.set_cons_zero, List.set_cons_succ]
          refine hold_take (i := 23) (d := 75) (v := ?vB23) (listed' := #[true, true, true, true, true, true, true, true, true, true, true, true, true, true, true, true, true, true, true, true, true, true, true, true, false, false]) rfl (by kernel_rfl) (by kernel_rfl) (by kernel_rfl) rfl (by rfl) (by kernel_rfl) K1 ?hB23 ?rB23
          case hB23 =>
            intro w' hSw
            obtain ⟨k0, k1, k2, k3, k4, k5⟩ := hSw
            go_simp
            try with_reducible rfl
          simp only [List.setIfInBounds_toArray, List.set_cons_zero, List.set_cons_succ]
          refine hold_take (i := 24) (d := 76) (v := ?vB24) (listed' := #[true, true, true, true, true, true, true, true, true, true, true, true, true, true, true, true, true, true, true, true, true, true, true, true, true, false]) rfl (by kernel_rfl) (by kernel_rfl) (by kernel_rfl) rfl (by rfl) (by kernel_rfl) K1 ?hB24 ?rB24
          case hB24 =>
            intro w' hSw
            obtain ⟨k0, k1, k2, k3, k4, k5⟩ := hSw
            go_simp
            try with_reducible rfl
          simp only [List.setIfInBounds_toArray, List.set_cons_zero, List.set_cons_succ]
          refine hold_take (i := 25) (d := 2) (v := ?vB25) (listed' := #[true, true, true, true, true, true, true, true, true, true, true, true, true, true, true, true, true, true, true, true, true, true, true, true, true, true]) rfl (by kernel_rfl) (by kernel_rfl) (by kernel_rfl) rfl (by rfl) (by kernel_rfl) K1 ?hB25 ?rB25
          case hB25 =>
            intro w' hSw
            obtain ⟨k0, k1, k2, k3, k4, k5⟩ := hSw
            go_simp
            try with_reducible rfl
          simp only [List.setIfInBounds_toArray, List.set_cons_zero, List.set_cons_succ]
          refine hold_done (by kernel_rfl) ?_ _
          go_wp2_with fail
          go_ret
          exact ⟨rfl, Hd1.out.old⟩
end Go.Proofs.Ytkfinkhdfbogjaa
