/- The law on PentagonOf, walked at whatever code. -/
import Derived.Test.YtanhogaekdcooaaCg
import Derived.Test.YtanhogaekdcooaaDn
import Derived.Test.YtanhogaekdcooaaNa
import Derived.Test.YtanhogaekdcooaaBg
namespace Go.Proofs.Ytanhogaekdcooaa
open Go.RowKit Go.Deep

/-- What PentagonOf tells of a logic. -/
theorem pent_facts {m : Mx} {z : Nat → Int} {y : Nat → Nat} {o : Nat} (hO : Ortho m z y o) (hl : logicB m m.n z = true) :
    (modB m = true ∧ pentV m m.n z = .tuple #[.int .i64 (-1), .int .i64 (-1), .int .i64 (-1), .bool false]) ∨
    (modB m = false ∧ ∃ a d b, a < m.n ∧ d < m.n ∧ b < m.n ∧ pentV m m.n z = .tuple #[.int .i64 (a : Int), .int .i64 (d : Int), .int .i64 (b : Int), .bool true] ∧ a ≠ d ∧ m.Z a d = 1 ∧ mN m a b = mN m d b ∧ jN m a b = jN m d b) := by
  have hp := hO.lat.order.pos
  cases hm : modB m with
  | true =>
    refine .inl ⟨rfl, pent_none fun i hi => ?_⟩
    exact hO.pent_none hm ((Nat.div_lt_iff_lt_mul hp).2 ((Nat.div_lt_iff_lt_mul hp).2 hi)) (Nat.mod_lt _ hp) (Nat.mod_lt _ hp)
  | false =>
    obtain ⟨a, d, b, ha, hd, hb, hpent⟩ := hO.pent_some hm
    rcases firstI_ways (m.n * m.n * m.n) (fun k => pentP m (k / m.n / m.n) (k / m.n % m.n) (k % m.n)) with ⟨_, hno⟩ | ⟨i, hi, _, hit, hfirst⟩
    · exfalso
      have h0 := hno _ (num_lt ha hd hb)
      obtain ⟨e1, e2, e3⟩ := num_parts (a := a) hd hb
      rw [e1, e2, e3, hpent] at h0
      cases h0
    · refine .inr ⟨rfl, i / m.n / m.n, i / m.n % m.n, i % m.n, (Nat.div_lt_iff_lt_mul hp).2 ((Nat.div_lt_iff_lt_mul hp).2 hi), Nat.mod_lt _ hp, Nat.mod_lt _ hp, pent_hit hl hi hfirst hit, ?_⟩
      have h2 : pentP m (i / m.n / m.n) (i / m.n % m.n) (i % m.n) = true := hit
      unfold pentP at h2
      simp only [Bool.and_eq_true, Bool.not_eq_true', decide_eq_false_iff_not, decide_eq_true_iff] at h2
      obtain ⟨⟨⟨g1, g2⟩, g3⟩, g4⟩ := h2
      exact ⟨g1, leB_is g2, g3, g4⟩

set_option maxRecDepth 100000 in
set_option maxHeartbeats 4000000 in
theorem law_PentagonOf {A : Option Addr} {b o n cap : Nat} {z : Nat → Nat} {w : World} (h : CodeAt w A b o n cap z) :
    Calls Try.prog 4 #[.slice A n cap] w fun e w' => e = .returned (.bool true) ∧ Below w.heap.size w w' := by
  have hn := h.hn
  have hc := h.hc
  by_cases hbig : 1048576 < n
  · have hbig' : (1048576 : Int) < n := by omega
    clear h
    go_enter Try.func4, Try.ntmps4
    go_wp2_with fail
    go_ret
    exact ⟨rfl, Below.refl _ _⟩
  · have hbig' : ¬ (1048576 : Int) < n := by omega
    go_enter Try.func4, Try.ntmps4
    go_wp2_with fail
    go_at_call 19
    refine (draw_PentagonOf h).mono ?_
    rintro e w1 ⟨ua, l, m, na, g, o2, k, nc, zz, rfl, hF⟩
    have H1 := Held.start hF nc
    clear h hF
    obtain ⟨A0, hA0⟩ : ∃ A0, A0 = pentA m k zz := ⟨_, rfl⟩
    obtain ⟨C0, hC0⟩ : ∃ C0, C0 = pentC m k zz := ⟨_, rfl⟩
    obtain ⟨B0, hB0⟩ : ∃ B0, B0 = pentB m k zz := ⟨_, rfl⟩
    obtain ⟨K0, hK0⟩ : ∃ K0, K0 = pentOk m k zz := ⟨_, rfl⟩
    have HPV : Hid (pentV m k zz = .tuple #[.int .i64 A0, .int .i64 C0, .int .i64 B0, .bool K0]) := by show _ = _; unfold pentV; rw [hA0, hC0, hB0, hK0]
    clear hA0 hC0 hB0 hK0
    have q0 := H1.box.c0
    have q1 := H1.box.c1
    go_wp2_with fail
    go_at_call 20
    refine (PentagonOf_any H1.log).mono ?_
    rintro e w2 ⟨rfl, b2⟩
    rw [HPV.out]
    have H2 := H1.step b2
    clear H1 q0 q1 b2
    have q0 := H2.box.c0
    have q1 := H2.box.c1
    go_wp2_with fail
    go_at_call 21
    refine (spec_PentagonOf H2.log).mono ?_
    rintro e w3 ⟨rfl, b3⟩
    rw [HPV.out]
    have H3 := H2.step b3
    clear H2 q0 q1 b3
    have q0 := H3.box.c0
    have q1 := H3.box.c1
    have e0 : (A0 != A0) = false := by simp
    have e1 : (C0 != C0) = false := by simp
    have e2 : (B0 != B0) = false := by simp
    have e3 : (K0 != K0) = false := by simp
    cases hl : logicB m k zz with
    | false =>
      have hv := HPV.out
      rw [pent_no_logic hl] at hv
      obtain ⟨rfl, rfl, rfl, rfl⟩ : A0 = -1 ∧ C0 = -1 ∧ B0 = -1 ∧ K0 = false := by
        simp only [Value.tuple.injEq, Array.mk.injEq, List.cons.injEq, Value.int.injEq, Value.bool.injEq] at hv
        obtain ⟨⟨_, h1⟩, ⟨_, h2⟩, ⟨_, h3⟩, h4, _⟩ := hv
        exact ⟨h1.symm, h2.symm, h3.symm, h4.symm⟩
      have HL := Lib.hid hl
      clear hv hl e0 e1 e2 e3
      go_wp2_with fail
      go_at_call 22
      refine (spec_LogicOk (nc := nc) H3.log).mono ?_
      rintro e w4 ⟨rfl, b4⟩
      rw [HL.out]
      have H4 := H3.step b4
      clear H3 q0 q1 b4
      have q0 := H4.box.c0
      have q1 := H4.box.c1
      go_wp2_with fail
      go_at_call 23
      refine (alive_any _).mono ?_
      rintro e w5 ⟨rfl, b5⟩
      have H5 := H4.step b5
      go_wp2_with fail
      go_ret
      exact ⟨rfl, H5.old⟩
    | true =>
      have hkn : k = m.n := (logicB_is hl).pair.len
      subst hkn
      obtain ⟨y, o3, hO⟩ := (logicB_is hl).ortho
      have HL := Lib.hid hl
      have hMV : modV m m.n zz = modB m := by unfold modV; rw [hl]; rfl
      rcases pent_facts hO hl with ⟨hm, hv0⟩ | ⟨hm, a, d, b, ha, hd, hb, hv0, had, hz, hme, hje⟩
      · have hv := HPV.out
        rw [hv0] at hv
        obtain ⟨rfl, rfl, rfl, rfl⟩ : A0 = -1 ∧ C0 = -1 ∧ B0 = -1 ∧ K0 = false := by
          simp only [Value.tuple.injEq, Array.mk.injEq, List.cons.injEq, Value.int.injEq, Value.bool.injEq] at hv
          obtain ⟨⟨_, h1⟩, ⟨_, h2⟩, ⟨_, h3⟩, h4, _⟩ := hv
          exact ⟨h1.symm, h2.symm, h3.symm, h4.symm⟩
        have HM : Hid (modV m m.n zz = true) := hMV.trans hm
        clear hv hv0 hl e0 e1 e2 e3 hO hMV hm
        go_wp2_with fail
        go_at_call 22
        refine (spec_LogicOk (nc := nc) H3.log).mono ?_
        rintro e w4 ⟨rfl, b4⟩
        rw [HL.out]
        have H4 := H3.step b4
        clear H3 q0 q1 b4
        have q0 := H4.box.c0
        have q1 := H4.box.c1
        go_wp2_with fail
        go_at_call 13
        refine (ModularOk_any H4.log).mono ?_
        rintro e w5 ⟨rfl, b5⟩
        rw [HM.out]
        have H5 := H4.step b5
        clear H4 q0 q1 b5
        have q0 := H5.box.c0
        have q1 := H5.box.c1
        go_wp2_with fail
        go_at_call 23
        refine (alive_any _).mono ?_
        rintro e w6 ⟨rfl, b6⟩
        have H6 := H5.step b6
        go_wp2_with fail
        go_ret
        exact ⟨rfl, H6.old⟩
      · have hv := HPV.out
        rw [hv0] at hv
        obtain ⟨rfl, rfl, rfl, rfl⟩ : A0 = (a : Int) ∧ C0 = (d : Int) ∧ B0 = (b : Int) ∧ K0 = true := by
          simp only [Value.tuple.injEq, Array.mk.injEq, List.cons.injEq, Value.int.injEq, Value.bool.injEq] at hv
          obtain ⟨⟨_, h1⟩, ⟨_, h2⟩, ⟨_, h3⟩, h4, _⟩ := hv
          exact ⟨h1.symm, h2.symm, h3.symm, h4.symm⟩
        have HM : Hid (modV m m.n zz = false) := hMV.trans hm
        obtain ⟨x, hx⟩ : ∃ x, mN m d b = x := ⟨_, rfl⟩
        obtain ⟨j, hj⟩ : ∃ j, jN m d b = j := ⟨_, rfl⟩
        have N1 : Hid (andV m m.n zz (a : Int) (b : Int) = (x : Int)) := by show _ = _; rw [hO.andV hl ha hb, hO.mI ha hb, hme, hx]
        have N2 : Hid (andV m m.n zz (d : Int) (b : Int) = (x : Int)) := by show _ = _; rw [hO.andV hl hd hb, hO.mI hd hb, hx]
        have N3 : Hid (orV m m.n zz (a : Int) (b : Int) = (j : Int)) := by show _ = _; rw [hO.orV hl ha hb, hO.jI ha hb, hje, hj]
        have N4 : Hid (orV m m.n zz (d : Int) (b : Int) = (j : Int)) := by show _ = _; rw [hO.orV hl hd hb, hO.jI hd hb, hj]
        have HS := Lib.hid hO.lat.order.sq
        obtain ⟨e9, _, _⟩ := H3.log.mat.sq HS.out ha hd
        obtain rfl := e9
        have HZ := Lib.hid hz
        have n1 : ((a : Int) != (d : Int)) = true := by rw [bne_iff_ne]; omega
        have ha' : (a : Int) < m.n := by omega
        have hd' : (d : Int) < m.n := by omega
        clear hv hv0 hl e0 e1 e2 e3 hO hMV hm had hz hme hje hx hj
        go_wp2_with fail
        go_at_call 22
        refine (spec_LogicOk (nc := nc) H3.log).mono ?_
        rintro e w4 ⟨rfl, b4⟩
        rw [HL.out]
        have H4 := H3.step b4
        clear H3 q0 q1 b4
        have q0 := H4.box.c0
        have q1 := H4.box.c1
        go_wp2_with fail
        go_at_call 13
        refine (ModularOk_any H4.log).mono ?_
        rintro e w5 ⟨rfl, b5⟩
        rw [HM.out]
        have H5 := H4.step b5
        clear H4 q0 q1 b5
        have q0 := H5.box.c0
        have q1 := H5.box.c1
        go_wp2_with fail
        have Hd0 := Lib.hid (H5.step (Below.refl _ w5).drew)
        have K0 := (show _ ∧ _ ∧ _ ∧ _ from ⟨Hd0.out.box.c0, Hd0.out.box.c1, (Hd0.out.log.mat.sq HS.out ha hd).2.1, (Hd0.out.log.mat.sq HS.out ha hd).2.2.trans (by rw [HZ.out])⟩)
        clear H5 q0 q1
        refine region_plain (fuel := 37) (listed := #[false, false, false, false, false, false, false, false, false, false, false, false, false, false, false, false, false, false, false, false, false, false, false, false, false, false, false, false, false, false, false, false, false, false, false, false, false]) (fun w' => w'.cell? ⟨w1.heap.size, 0, none⟩ = some (.slice (some ⟨l.b, l.o, none⟩) m.n l.cap) ∧ w'.cell? ⟨w1.heap.size, 1, none⟩ = some (.slice na m.n nc) ∧ w'.cell? ⟨l.b, l.o + a, none⟩ = some (.slice (some ⟨l.G a, l.O a, none⟩) m.n (l.C a)) ∧ w'.cell? ⟨l.G a, l.O a + d, none⟩ = some (.int .i64 1)) (by kernel_rfl) (by kernel_rfl) (by kernel_rfl) ?_
        refine hold_take (i := 0) (d := 73) (v := ?vP0) (listed' := #[true, false, false, false, false, false, false, false, false, false, false, false, false, false, false, false, false, false, false, false, false, false, false, false, false, false, false, false, false, false, false, false, false, false, false, false, false]) rfl (by kernel_rfl) (by kernel_rfl) (by kernel_rfl) rfl (by rfl) (by kernel_rfl) K0 ?hP0 ?rP0
        case hP0 =>
          intro w' hSw
          obtain ⟨k0, k1, k2, k3⟩ := hSw
          go_simp
          try with_reducible rfl
        simp only [List.setIfInBounds_toArray, List.set_cons_zero, List.set_cons_succ]
        refine hold_take (i := 1) (d := 74) (v := ?vP1) (listed' := #[true, true, false, false, false, false, false, false, false, false, false, false, false, false, false, false, false, false, false, false, false, false, false, false, false, false, false, false, false, false, false, false, false, false, false, false, false]) rfl (by kernel_rfl) (by kernel_rfl) (by kernel_rfl) rfl (by rfl) (by kernel_rfl) K0 ?hP1 ?rP1
        case hP1 =>
          intro w' hSw
          obtain ⟨k0, k1, k2, k3⟩ := hSw
          go_simp
          try with_reducible rfl
        simp only [List.setIfInBounds_toArray, List.set_cons_zero, List.set_cons_succ]
        refine hold_take (i := 2) (d := 75) (v := ?vP2) (listed' := #[true, true, true, false, false, false, false, false, false, false, false, false, false, false, false, false, false, false, false, false, false, false, false, false, false, false, false, false, false, false, false, false, false, false, false, false, false]) rfl (by kernel_rfl) (by kernel_rfl) (by kernel_rfl) rfl (by rfl) (by kernel_rfl) K0 ?hP2 ?rP2
        case hP2 =>
          intro w' hSw
          obtain ⟨k0, k1, k2, k3⟩ := hSw
          go_simp
          try with_reducible rfl
        simp only [List.setIfInBounds_toArray, List.set_cons_zero, List.set_cons_succ]
        refine hold_take (i := 3) (d := 76) (v := ?vP3) (listed' := #[true, true, true, true, false, false, false, false, false, false, false, false, false, false, false, false, false, false, false, false, false, false, false, false, false, false, false, false, false, false, false, false, false, false, false, false, false]) rfl (by kernel_rfl) (by kernel_rfl) (by kernel_rfl) rfl (by rfl) (by kernel_rfl) K0 ?hP3 ?rP3
        case hP3 =>
          intro w' hSw
          obtain ⟨k0, k1, k2, k3⟩ := hSw
          go_simp
          try with_reducible rfl
        simp only [List.setIfInBounds_toArray, List.set_cons_zero, List.set_cons_succ]
        refine hold_take (i := 4) (d := 77) (v := ?vP4) (listed' := #[true, true, true, true, true, false, false, false, false, false, false, false, false, false, false, false, false, false, false, false, false, false, false, false, false, false, false, false, false, false, false, false, false, false, false, false, false]) rfl (by kernel_rfl) (by kernel_rfl) (by kernel_rfl) rfl (by rfl) (by kernel_rfl) K0 ?hP4 ?rP4
        case hP4 =>
          intro w' hSw
          obtain ⟨k0, k1, k2, k3⟩ := hSw
          go_simp
          try with_reducible rfl
        simp only [List.setIfInBounds_toArray, List.set_cons_zero, List.set_cons_succ]
        refine hold_take (i := 5) (d := 78) (v := ?vP5) (listed' := #[true, true, true, true, true, true, false, false, false, false, false, false, false, false, false, false, false, false, false, false, false, false, false, false, false, false, false, false, false, false, false, false, false, false, false, false, false]) rfl (by kernel_rfl) (by kernel_rfl) (by kernel_rfl) rfl (by rfl) (by kernel_rfl) K0 ?hP5 ?rP5
        case hP5 =>
          intro w' hSw
          obtain ⟨k0, k1, k2, k3⟩ := hSw
          go_simp
          try with_reducible rfl
        simp only [List.setIfInBounds_toArray, List.set_cons_zero, List.set_cons_succ]
        refine hold_take (i := 6) (d := 79) (v := ?vP6) (listed' := #[true, true, true, true, true, true, true, false, false, false, false, false, false, false, false, false, false, false, false, false, false, false, false, false, false, false, false, false, false, false, false, false, false, false, false, false, false]) rfl (by kernel_rfl) (by kernel_rfl) (by kernel_rfl) rfl (by rfl) (by kernel_rfl) K0 ?hP6 ?rP6
        case hP6 =>
          intro w' hSw
          obtain ⟨k0, k1, k2, k3⟩ := hSw
          go_simp
          try with_reducible rfl
        simp only [List.setIfInBounds_toArray, List.set_cons_zero, List.set_cons_succ]
        refine hold_take (i := 7) (d := 80) (v := ?vP7) (listed' := #[true, true, true, true, true, true, true, true, false, false, false, false, false, false, false, false, false, false, false, false, false, false, false, false, false, false, false, false, false, false, false, false, false, false, false, false, false]) rfl (by kernel_rfl) (by kernel_rfl) (by kernel_rfl) rfl (by rfl) (by kernel_rfl) K0 ?hP7 ?rP7
        case hP7 =>
          intro w' hSw
          obtain ⟨k0, k1, k2, k3⟩ := hSw
          go_simp
          try with_reducible rfl
        simp only [List.setIfInBounds_toArray, List.set_cons_zero, List.set_cons_succ]
        refine hold_take (i := 8) (d := 81) (v := ?vP8) (listed' := #[true, true, true, true, true, true, true, true, true, false, false, false, false, false, false, false, false, false, false, false, false, false, false, false, false, false, false, false, false, false, false, false, false, false, false, false, false]) rfl (by kernel_rfl) (by kernel_rfl) (by kernel_rfl) rfl (by rfl) (by kernel_rfl) K0 ?hP8 ?rP8
        case hP8 =>
          intro w' hSw
          obtain ⟨k0, k1, k2, k3⟩ := hSw
          go_simp
          try with_reducible rfl
        simp only [List.setIfInBounds_toArray, List.set_cons_zero, List.set_cons_succ]
        refine hold_take (i := 9) (d := 82) (v := ?vP9) (listed' := #[true, true, true, true, true, true, true, true, true, true, false, false, false, false, false, false, false, false, false, false, false, false, false, false, false, false, false, false, false, false, false, false, false, false, false, false, false]) rfl (by kernel_rfl) (by kernel_rfl) (by kernel_rfl) rfl (by rfl) (by kernel_rfl) K0 ?hP9 ?rP9
        case hP9 =>
          intro w' hSw
          obtain ⟨k0, k1, k2, k3⟩ := hSw
          go_simp
          try with_reducible rfl
        simp only [List.setIfInBounds_toArray, List.set_cons_zero, List.set_cons_succ]
        refine hold_take (i := 10) (d := 83) (v := ?vP10) (listed' := #[true, true, true, true, true, true, true, true, true, true, true, false, false, false, false, false, false, false, false, false, false, false, false, false, false, false, false, false, false, false, false, false, false, false, false, false, false]) rfl (by kernel_rfl) (by kernel_rfl) (by kernel_rfl) rfl (by rfl) (by kernel_rfl) K0 ?hP10 ?rP10
        case hP10 =>
          intro w' hSw
          obtain ⟨k0, k1, k2, k3⟩ := hSw
          go_simp
          try with_reducible rfl
        simp only [List.setIfInBounds_toArray, List.set_cons_zero, List.set_cons_succ]
        refine hold_take (i := 11) (d := 84) (v := ?vP11) (listed' := #[true, true, true, true, true, true, true, true, true, true, true, true, false, false, false, false, false, false, false, false, false, false, false, false, false, false, false, false, false, false, false, false, false, false, false, false, false]) rfl (by kernel_rfl) (by kernel_rfl) (by kernel_rfl) rfl (by rfl) (by kernel_rfl) K0 ?hP11 ?rP11
        case hP11 =>
          intro w' hSw
          obtain ⟨k0, k1, k2, k3⟩ := hSw
          go_simp
          try with_reducible rfl
        simp only [List.setIfInBounds_toArray, List.set_cons_zero, List.set_cons_succ]
        refine hold_take (i := 12) (d := 85) (v := ?vP12) (listed' := #[true, true, true, true, true, true, true, true, true, true, true, true, true, false, false, false, false, false, false, false, false, false, false, false, false, false, false, false, false, false, false, false, false, false, false, false, false]) rfl (by kernel_rfl) (by kernel_rfl) (by kernel_rfl) rfl (by rfl) (by kernel_rfl) K0 ?hP12 ?rP12
        case hP12 =>
          intro w' hSw
          obtain ⟨k0, k1, k2, k3⟩ := hSw
          go_simp
          try with_reducible rfl
        simp only [List.setIfInBounds_toArray, List.set_cons_zero, List.set_cons_succ]
        refine hold_take (i := 13) (d := 86) (v := ?vP13) (listed' := #[true, true, true, true, true, true, true, true, true, true, true, true, true, true, false, false, false, false, false, false, false, false, false, false, false, false, false, false, false, false, false, false, false, false, false, false, false]) rfl (by kernel_rfl) (by kernel_rfl) (by kernel_rfl) rfl (by rfl) (by kernel_rfl) K0 ?hP13 ?rP13
        case hP13 =>
          intro w' hSw
          obtain ⟨k0, k1, k2, k3⟩ := hSw
          go_simp
          try with_reducible rfl
        simp only [List.setIfInBounds_toArray, List.set_cons_zero, List.set_cons_succ]
        refine hold_take (i := 14) (d := 87) (v := ?vP14) (listed' := #[true, true, true, true, true, true, true, true, true, true, true, true, true, true, true, false, false, false, false, false, false, false, false, false, false, false, false, false, false, false, false, false, false, false, false, false, false]) rfl (by kernel_rfl) (by kernel_rfl) (by kernel_rfl) rfl (by rfl) (by kernel_rfl) K0 ?hP14 ?rP14
        case hP14 =>
          intro w' hSw
          obtain ⟨k0, k1, k2, k3⟩ := hSw
          go_simp
          try with_reducible rfl
        simp only [List.setIfInBounds_toArray, List.set_cons_zero, List.set_cons_succ]
        refine hold_take (i := 15) (d := 88) (v := ?vP15) (listed' := #[true, true, true, true, true, true, true, true, true, true, true, true, true, true, true, true, false, false, false, false, false, false, false, false, false, false, false, false, false, false, false, false, false, false, false, false, false]) rfl (by kernel_rfl) (by kernel_rfl) (by kernel_rfl) rfl (by rfl) (by kernel_rfl) K0 ?hP15 ?rP15
        case hP15 =>
          intro w' hSw
          obtain ⟨k0, k1, k2, k3⟩ := hSw
          go_simp
          try with_reducible rfl
        simp only [List.setIfInBounds_toArray, List.set_cons_zero, List.set_cons_succ]
        refine hold_take (i := 16) (d := 89) (v := ?vP16) (listed' := #[true, true, true, true, true, true, true, true, true, true, true, true, true, true, true, true, true, false, false, false, false, false, false, false, false, false, false, false, false, false, false, false, false, false, false, false, false]) rfl (by kernel_rfl) (by kernel_rfl) (by kernel_rfl) rfl (by rfl) (by kernel_rfl) K0 ?hP16 ?rP16
        case hP16 =>
          intro w' hSw
          obtain ⟨k0, k1, k2, k3⟩ := hSw
          go_simp
          try with_reducible rfl
        simp only [List.setIfInBounds_toArray, List.set_cons_zero, List.set_cons_succ]
        refine hold_take (i := 17) (d := 90) (v := ?vP17) (listed' := #[true, true, true, true, true, true, true, true, true, true, true, true, true, true, true, true, true, true, false, false, false, false, false, false, false, false, false, false, false, false, false, false, false, false, false, false, false]) rfl (by kernel_rfl) (by kernel_rfl) (by kernel_rfl) rfl (by rfl) (by kernel_rfl) K0 ?hP17 ?rP17
        case hP17 =>
          intro w' hSw
          obtain ⟨k0, k1, k2, k3⟩ := hSw
          go_simp
          try with_reducible rfl
        simp only [List.setIfInBounds_toArray, List.set_cons_zero, List.set_cons_succ]
        refine hold_take (i := 19) (d := 92) (v := ?vP19) (listed' := #[true, true, true, true, true, true, true, true, true, true, true, true, true, true, true, true, true, true, false, true, false, false, false, false, false, false, false, false, false, false, false, false, false, false, false, false, false]) rfl (by kernel_rfl) (by kernel_rfl) (by kernel_rfl) rfl (by rfl) (by kernel_rfl) K0 ?hP19 ?rP19
        case hP19 =>
          intro w' hSw
          obtain ⟨k0, k1, k2, k3⟩ := hSw
          go_simp
          try with_reducible rfl
        simp only [List.setIfInBounds_toArray, List.set_cons_zero, List.set_cons_succ]
        refine hold_take (i := 20) (d := 93) (v := ?vP20) (listed' := #[true, true, true, true, true, true, true, true, true, true, true, true, true, true, true, true, true, true, false, true, true, false, false, false, false, false, false, false, false, false, false, false, false, false, false, false, false]) rfl (by kernel_rfl) (by kernel_rfl) (by kernel_rfl) rfl (by rfl) (by kernel_rfl) K0 ?hP20 ?rP20
        case hP20 =>
          intro w' hSw
          obtain ⟨k0, k1, k2, k3⟩ := hSw
          go_simp
          try with_reducible rfl
        simp only [List.setIfInBounds_toArray, List.set_cons_zero, List.set_cons_succ]
        refine hold_take (i := 21) (d := 94) (v := ?vP21) (listed' := #[true, true, true, true, true, true, true, true, true, true, true, true, true, true, true, true, true, true, false, true, true, true, false, false, false, false, false, false, false, false, false, false, false, false, false, false, false]) rfl (by kernel_rfl) (by kernel_rfl) (by kernel_rfl) rfl (by rfl) (by kernel_rfl) K0 ?hP21 ?rP21
        case hP21 =>
          intro w' hSw
          obtain ⟨k0, k1, k2, k3⟩ := hSw
          go_simp
          try with_reducible rfl
        simp only [List.setIfInBounds_toArray, List.set_cons_zero, List.set_cons_succ]
        refine hold_call (i := 18) (d := 91) (listed' := #[true, true, true, true, true, true, true, true, true, true, true, true, true, true, true, true, true, true, true, true, true, true, false, false, false, false, false, false, false, false, false, false, false, false, false, false, false]) rfl (by kernel_rfl) rfl (by rfl) (by kernel_rfl) ?heP18 (AndOf_any (nc := nc) (x := (a : Int)) (y := (b : Int)) Hd0.out.log) ?hcP18
        case heP18 => go_simp
        rintro e x1 ⟨rfl, bb1⟩
        rw [N1.out]
        have Hd1 := Lib.hid (Hd0.out.step bb1)
        have K1 := (show _ ∧ _ ∧ _ ∧ _ from ⟨Hd1.out.box.c0, Hd1.out.box.c1, (Hd1.out.log.mat.sq HS.out ha hd).2.1, (Hd1.out.log.mat.sq HS.out ha hd).2.2.trans (by rw [HZ.out])⟩)
        clear Hd0 K0 bb1
        refine ⟨_, rfl, K1, ?_⟩
        simp only [List.setIfInBounds_toArray, List.set_cons_zero, List.set_cons_succ]
        refine hold_call (i := 22) (d := 95) (listed' := #[true, true, true, true, true, true, true, true, true, true, true, true, true, true, true, true, true, true, true, true, true, true, true, false, false, false, false, false, false, false, false, false, false, false, false, false, false]) rfl (by kernel_rfl) rfl (by rfl) (by kernel_rfl) ?heP22 (AndOf_any (nc := nc) (x := (d : Int)) (y := (b : Int)) Hd1.out.log) ?hcP22
        case heP22 => go_simp
        rintro e x2 ⟨rfl, bb2⟩
        rw [N2.out]
        have Hd2 := Lib.hid (Hd1.out.step bb2)
        have K2 := (show _ ∧ _ ∧ _ ∧ _ from ⟨Hd2.out.box.c0, Hd2.out.box.c1, (Hd2.out.log.mat.sq HS.out ha hd).2.1, (Hd2.out.log.mat.sq HS.out ha hd).2.2.trans (by rw [HZ.out])⟩)
        clear Hd1 K1 bb2
        refine ⟨_, rfl, K2, ?_⟩
        simp only [List.setIfInBounds_toArray, List.set_cons_zero, List.set_cons_succ]
        refine hold_take (i := 23) (d := 96) (v := ?vP23) (listed' := #[true, true, true, true, true, true, true, true, true, true, true, true, true, true, true, true, true, true, true, true, true, true, true, true, false, false, false, false, false, false, false, false, false, false, false, false, false]) rfl (by kernel_rfl) (by kernel_rfl) (by kernel_rfl) rfl (by rfl) (by kernel_rfl) K2 ?hP23 ?rP23
        case hP23 =>
          intro w' hSw
          obtain ⟨k0, k1, k2, k3⟩ := hSw
          go_simp
          try with_reducible rfl
        simp only [List.setIfInBounds_toArray, List.set_cons_zero, List.set_cons_succ]
        refine hold_take (i := 24) (d := 97) (v := ?vP24) (listed' := #[true, true, true, true, true, true, true, true, true, true, true, true, true, true, true, true, true, true, true, true, true, true, true, true, true, false, false, false, false, false, false, false, false, false, false, false, false]) rfl (by kernel_rfl) (by kernel_rfl) (by kernel_rfl) rfl (by rfl) (by kernel_rfl) K2 ?hP24 ?rP24
        case hP24 =>
          intro w' hSw
          obtain ⟨k0, k1, k2, k3⟩ := hSw
          go_simp
          try with_reducible rfl
        simp only [List.setIfInBounds_toArray, List.set_cons_zero, List.set_cons_succ]
        refine hold_take (i := 25) (d := 98) (v := ?vP25) (listed' := #[true, true, true, true, true, true, true, true, true, true, true, true, true, true, true, true, true, true, true, true, true, true, true, true, true, true, false, false, false, false, false, false, false, false, false, false, false]) rfl (by kernel_rfl) (by kernel_rfl) (by kernel_rfl) rfl (by rfl) (by kernel_rfl) K2 ?hP25 ?rP25
        case hP25 =>
          intro w' hSw
          obtain ⟨k0, k1, k2, k3⟩ := hSw
          go_simp
          try with_reducible rfl
        simp only [List.setIfInBounds_toArray, List.set_cons_zero, List.set_cons_succ]
        refine hold_take (i := 26) (d := 99) (v := ?vP26) (listed' := #[true, true, true, true, true, true, true, true, true, true, true, true, true, true, true, true, true, true, true, true, true, true, true, true, true, true, true, false, false, false, false, false, false, false, false, false, false]) rfl (by kernel_rfl) (by kernel_rfl) (by kernel_rfl) rfl (by rfl) (by kernel_rfl) K2 ?hP26 ?rP26
        case hP26 =>
          intro w' hSw
          obtain ⟨k0, k1, k2, k3⟩ := hSw
          go_simp
          try with_reducible rfl
        simp only [List.setIfInBounds_toArray, List.set_cons_zero, List.set_cons_succ]
        refine hold_take (i := 27) (d := 100) (v := ?vP27) (listed' := #[true, true, true, true, true, true, true, true, true, true, true, true, true, true, true, true, true, true, true, true, true, true, true, true, true, true, true, true, false, false, false, false, false, false, false, false, false]) rfl (by kernel_rfl) (by kernel_rfl) (by kernel_rfl) rfl (by rfl) (by kernel_rfl) K2 ?hP27 ?rP27
        case hP27 =>
          intro w' hSw
          obtain ⟨k0, k1, k2, k3⟩ := hSw
          go_simp
          try with_reducible rfl
        simp only [List.setIfInBounds_toArray, List.set_cons_zero, List.set_cons_succ]
        refine hold_take (i := 28) (d := 101) (v := ?vP28) (listed' := #[true, true, true, true, true, true, true, true, true, true, true, true, true, true, true, true, true, true, true, true, true, true, true, true, true, true, true, true, true, false, false, false, false, false, false, false, false]) rfl (by kernel_rfl) (by kernel_rfl) (by kernel_rfl) rfl (by rfl) (by kernel_rfl) K2 ?hP28 ?rP28
        case hP28 =>
          intro w' hSw
          obtain ⟨k0, k1, k2, k3⟩ := hSw
          go_simp
          try with_reducible rfl
        simp only [List.setIfInBounds_toArray, List.set_cons_zero, List.set_cons_succ]
        refine hold_take (i := 30) (d := 103) (v := ?vP30) (listed' := #[true, true, true, true, true, true, true, true, true, true, true, true, true, true, true, true, true, true, true, true, true, true, true, true, true, true, true, true, true, false, true, false, false, false, false, false, false]) rfl (by kernel_rfl) (by kernel_rfl) (by kernel_rfl) rfl (by rfl) (by kernel_rfl) K2 ?hP30 ?rP30
        case hP30 =>
          intro w' hSw
          obtain ⟨k0, k1, k2, k3⟩ := hSw
          go_simp
          try with_reducible rfl
        simp only [List.setIfInBounds_toArray, List.set_cons_zero, List.set_cons_succ]
        refine hold_take (i := 31) (d := 104) (v := ?vP31) (listed' := #[true, true, true, true, true, true, true, true, true, true, true, true, true, true, true, true, true, true, true, true, true, true, true, true, true, true, true, true, true, false, true, true, false, false, false, false, false]) rfl (by kernel_rfl) (by kernel_rfl) (by kernel_rfl) rfl (by rfl) (by kernel_rfl) K2 ?hP31 ?rP31
        case hP31 =>
          intro w' hSw
          obtain ⟨k0, k1, k2, k3⟩ := hSw
          go_simp
          try with_reducible rfl
        simp only [List.setIfInBounds_toArray, List.set_cons_zero, List.set_cons_succ]
        refine hold_take (i := 32) (d := 105) (v := ?vP32) (listed' := #[true, true, true, true, true, true, true, true, true, true, true, true, true, true, true, true, true, true, true, true, true, true, true, true, true, true, true, true, true, false, true, true, true, false, false, false, false]) rfl (by kernel_rfl) (by kernel_rfl) (by kernel_rfl) rfl (by rfl) (by kernel_rfl) K2 ?hP32 ?rP32
        case hP32 =>
          intro w' hSw
          obtain ⟨k0, k1, k2, k3⟩ := hSw
          go_simp
          try with_reducible rfl
        simp only [List.setIfInBounds_toArray, List.set_cons_zero, List.set_cons_succ]
        refine hold_call (i := 29) (d := 102) (listed' := #[true, true, true, true, true, true, true, true, true, true, true, true, true, true, true, true, true, true, true, true, true, true, true, true, true, true, true, true, true, true, true, true, true, false, false, false, false]) rfl (by kernel_rfl) rfl (by rfl) (by kernel_rfl) ?heP29 (OrOf_any (nc := nc) (x := (a : Int)) (y := (b : Int)) Hd2.out.log) ?hcP29
        case heP29 => go_simp
        rintro e x3 ⟨rfl, bb3⟩
        rw [N3.out]
        have Hd3 := Lib.hid (Hd2.out.step bb3)
        have K3 := (show _ ∧ _ ∧ _ ∧ _ from ⟨Hd3.out.box.c0, Hd3.out.box.c1, (Hd3.out.log.mat.sq HS.out ha hd).2.1, (Hd3.out.log.mat.sq HS.out ha hd).2.2.trans (by rw [HZ.out])⟩)
        clear Hd2 K2 bb3
        refine ⟨_, rfl, K3, ?_⟩
        simp only [List.setIfInBounds_toArray, List.set_cons_zero, List.set_cons_succ]
        refine hold_call (i := 33) (d := 106) (listed' := #[true, true, true, true, true, true, true, true, true, true, true, true, true, true, true, true, true, true, true, true, true, true, true, true, true, true, true, true, true, true, true, true, true, true, false, false, false]) rfl (by kernel_rfl) rfl (by rfl) (by kernel_rfl) ?heP33 (OrOf_any (nc := nc) (x := (d : Int)) (y := (b : Int)) Hd3.out.log) ?hcP33
        case heP33 => go_simp
        rintro e x4 ⟨rfl, bb4⟩
        rw [N4.out]
        have Hd4 := Lib.hid (Hd3.out.step bb4)
        have K4 := (show _ ∧ _ ∧ _ ∧ _ from ⟨Hd4.out.box.c0, Hd4.out.box.c1, (Hd4.out.log.mat.sq HS.out ha hd).2.1, (Hd4.out.log.mat.sq HS.out ha hd).2.2.trans (by rw [HZ.out])⟩)
        clear Hd3 K3 bb4
        refine ⟨_, rfl, K4, ?_⟩
        simp only [List.setIfInBounds_toArray, List.set_cons_zero, List.set_cons_succ]
        refine hold_take (i := 34) (d := 107) (v := ?vP34) (listed' := #[true, true, true, true, true, true, true, true, true, true, true, true, true, true, true, true, true, true, true, true, true, true, true, true, true, true, true, true, true, true, true, true, true, true, true, false, false]) rfl (by kernel_rfl) (by kernel_rfl) (by kernel_rfl) rfl (by rfl) (by kernel_rfl) K4 ?hP34 ?rP34
        case hP34 =>
          intro w' hSw
          obtain ⟨k0, k1, k2, k3⟩ := hSw
          go_simp
          try with_reducible rfl
        simp only [List.setIfInBounds_toArray, List.set_cons_zero, List.set_cons_succ]
        refine hold_take (i := 35) (d := 108) (v := ?vP35) (listed' := #[true, true, true, true, true, true, true, true, true, true, true, true, true, true, true, true, true, true, true, true, true, true, true, true, true, true, true, true, true, true, true, true, true, true, true, true, false]) rfl (by kernel_rfl) (by kernel_rfl) (by kernel_rfl) rfl (by rfl) (by kernel_rfl) K4 ?hP35 ?rP35
        case hP35 =>
          intro w' hSw
          obtain ⟨k0, k1, k2, k3⟩ := hSw
          go_simp
          try with_reducible rfl
        simp only [List.setIfInBounds_toArray, List.set_cons_zero, List.set_cons_succ]
        refine hold_take (i := 36) (d := 2) (v := ?vP36) (listed' := #[true, true, true, true, true, true, true, true, true, true, true, true, true, true, true, true, true, true, true, true, true, true, true, true, true, true, true, true, true, true, true, true, true, true, true, true, true]) rfl (by kernel_rfl) (by kernel_rfl) (by kernel_rfl) rfl (by rfl) (by kernel_rfl) K4 ?hP36 ?rP36
        case hP36 =>
          intro w' hSw
          obtain ⟨k0, k1, k2, k3⟩ := hSw
          go_simp
          try with_reducible rfl
        simp only [List.setIfInBounds_toArray, List.set_cons_zero, List.set_cons_succ]
        refine hold_done (by kernel_rfl) ?_ _
        go_wp2_with fail
        go_ret
        exact ⟨rfl, Hd4.out.old⟩
end Go.Proofs.Ytanhogaekdcooaa
