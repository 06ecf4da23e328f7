/- The law on SplitOk, walked at whatever code. -/
import Derived.Test.YtpklccecgfcdfaaBg
import Derived.Test.YtpklccecgfcdfaaDn
namespace Go.Proofs.Ytpklccecgfcdfaa
open Go.RowKit Go.Deep

set_option maxRecDepth 100000 in
set_option maxHeartbeats 4000000 in
theorem law_SplitOk {A : Option Addr} {b o n cap : Nat} {z : Nat → Nat} {w : World} (h : CodeAt w A b o n cap z) :
    Calls Try.prog 3 #[.slice A n cap] w fun e w' => e = .returned (.bool true) ∧ Below w.heap.size w w' := by
  have hn := h.hn
  have hc := h.hc
  by_cases hbig : 1048576 < n
  · have hbig' : (1048576 : Int) < n := by omega
    clear h
    go_enter Try.func3, Try.ntmps3
    go_wp2_with fail
    go_ret
    exact ⟨rfl, Below.refl _ _⟩
  · have hbig' : ¬ (1048576 : Int) < n := by omega
    go_enter Try.func3, Try.ntmps3
    go_wp2_with fail
    go_at_call 6
    refine (draw_SplitOk h).mono ?_
    rintro e w1 ⟨ua, l, m, na, g, o2, k, nc, zz, x, y, t, rfl, hF⟩
    have H1 := Held.start hF nc
    clear h hF
    have q0 := H1.box.c0
    have q1 := H1.box.c1
    go_wp2_with fail
    go_at_call 7
    refine (SplitOk_any H1.log).mono ?_
    rintro e w2 ⟨rfl, b2⟩
    have H2 := H1.step b2
    clear H1 q0 q1 b2
    have q0 := H2.box.c0
    have q1 := H2.box.c1
    go_wp2_with fail
    go_at_call 8
    refine (spec_SplitOk H2.log).mono ?_
    rintro e w3 ⟨rfl, b3⟩
    have H3 := H2.step b3
    clear H2 q0 q1 b3
    have q0 := H3.box.c0
    have q1 := H3.box.c1
    cases hk : keepsV m k zz with
    | false =>
      have HK := Lib.hid hk
      clear hk
      cases hlo : logicB m k zz with
      | true =>
        have HL := Lib.hid hlo
        obtain ⟨sv, hsv⟩ : ∃ sv, splitV m k zz x y t = sv := ⟨_, rfl⟩
        rw [hsv]
        have e0 : (sv != sv) = false := by simp
        clear hsv
        clear hlo
        go_wp2_with fail
        go_at_call 9
        refine (spec_KeepsOk H3.log).mono ?_
        rintro e w4 ⟨rfl, b4⟩
        rw [HK.out]
        have H4 := H3.step b4
        clear H3 q0 q1 b4
        have q0 := H4.box.c0
        have q1 := H4.box.c1
        go_wp2_with fail
        go_at_call 11
        refine (spec_LogicOk H4.log).mono ?_
        rintro e w5 ⟨rfl, b5⟩
        rw [HL.out]
        have H5 := H4.step b5
        clear H4 q0 q1 b5
        have q0 := H5.box.c0
        have q1 := H5.box.c1
        clear q0 q1
        go_wp2_with fail
        go_at_call 12
        refine (alive_any _).mono ?_
        rintro e w6 ⟨rfl, b6⟩
        have H6 := H5.step b6
        go_wp2_with fail
        go_ret
        exact ⟨rfl, H6.old⟩
      | false =>
        have HL := Lib.hid hlo
        have e2 : splitV m k zz x y t = false := by unfold splitV; rw [hlo]; rfl
        rw [e2]
        clear e2
        clear hlo
        go_wp2_with fail
        go_at_call 9
        refine (spec_KeepsOk H3.log).mono ?_
        rintro e w4 ⟨rfl, b4⟩
        rw [HK.out]
        have H4 := H3.step b4
        clear H3 q0 q1 b4
        have q0 := H4.box.c0
        have q1 := H4.box.c1
        go_wp2_with fail
        go_at_call 11
        refine (spec_LogicOk H4.log).mono ?_
        rintro e w5 ⟨rfl, b5⟩
        rw [HL.out]
        have H5 := H4.step b5
        clear H4 q0 q1 b5
        have q0 := H5.box.c0
        have q1 := H5.box.c1
        clear q0 q1
        go_wp2_with fail
        go_at_call 12
        refine (alive_any _).mono ?_
        rintro e w6 ⟨rfl, b6⟩
        have H6 := H5.step b6
        go_wp2_with fail
        go_ret
        exact ⟨rfl, H6.old⟩
    | true =>
      have HK := Lib.hid hk
      have hlo : logicB m k zz = true := by
        cases h : logicB m k zz with
        | true => rfl
        | false => unfold keepsV at hk; rw [h] at hk; cases hk
      have HL := Lib.hid hlo
      obtain ⟨sv, hsv⟩ : ∃ sv, splitV m k zz x y t = sv := ⟨_, rfl⟩
      cases hg : goodB m.n 2 (two x y) with
      | false =>
        rw [hsv]
        have e0 : (sv != sv) = false := by simp
        have HA : Hid (andV m k zz x y = -1) := by show _ = _; unfold andV; rw [hg, Bool.and_false]; rfl
        clear hk hlo hg hsv
        go_wp2_with fail
        go_at_call 9
        refine (spec_KeepsOk H3.log).mono ?_
        rintro e w4 ⟨rfl, b4⟩
        rw [HK.out]
        have H4 := H3.step b4
        clear H3 q0 q1 b4
        have q0 := H4.box.c0
        have q1 := H4.box.c1
        go_wp2_with fail
        go_at_call 10
        refine (spec_AndOf (nc := nc) (x := x) (y := y) H4.log).mono ?_
        rintro e w5 ⟨rfl, b5⟩
        rw [HA.out]
        have H5 := H4.step b5
        clear H4 q0 q1 b5
        have q0 := H5.box.c0
        have q1 := H5.box.c1
        go_wp2_with fail
        go_at_call 11
        refine (spec_LogicOk H5.log).mono ?_
        rintro e w6 ⟨rfl, b6⟩
        rw [HL.out]
        have H6 := H5.step b6
        clear H5 q0 q1 b6
        have q0 := H6.box.c0
        have q1 := H6.box.c1
        clear q0 q1
        go_wp2_with fail
        go_at_call 12
        refine (alive_any _).mono ?_
        rintro e w7 ⟨rfl, b7⟩
        have H7 := H6.step b7
        go_wp2_with fail
        go_ret
        exact ⟨rfl, H7.old⟩
      | true =>
        obtain ⟨a, b, rfl, rfl, ha, hb⟩ := good2 hg
        obtain ⟨y, o3, hO⟩ := (logicB_is hlo).ortho
        obtain ⟨c1, hc1, hcm1⟩ := hO.meets ha hb
        have HA : Hid (andV m k zz (a : Int) (b : Int) = (c1 : Int)) := by show _ = _; rw [hO.andV hlo ha hb, hcm1]
        cases hg2 : goodB m.n 2 (two (a : Int) t) with
        | false =>
          rw [hsv]
          have e0 : (sv != sv) = false := by simp
          have HB : Hid (andV m k zz (a : Int) t = -1) := by show _ = _; unfold andV; rw [hg2, Bool.and_false]; rfl
          clear hk hlo hg hsv hg2 hO hc1 hcm1 ha hb
          go_wp2_with fail
          go_at_call 9
          refine (spec_KeepsOk H3.log).mono ?_
          rintro e w4 ⟨rfl, b4⟩
          rw [HK.out]
          have H4 := H3.step b4
          clear H3 q0 q1 b4
          have q0 := H4.box.c0
          have q1 := H4.box.c1
          go_wp2_with fail
          go_at_call 10
          refine (spec_AndOf (nc := nc) (x := (a : Int)) (y := (b : Int)) H4.log).mono ?_
          rintro e w5 ⟨rfl, b5⟩
          rw [HA.out]
          have H5 := H4.step b5
          clear H4 q0 q1 b5
          have q0 := H5.box.c0
          have q1 := H5.box.c1
          go_wp2_with fail
          go_at_call 10
          refine (spec_AndOf (nc := nc) (x := (a : Int)) (y := t) H5.log).mono ?_
          rintro e w6 ⟨rfl, b6⟩
          rw [HB.out]
          have H6 := H5.step b6
          clear H5 q0 q1 b6
          have q0 := H6.box.c0
          have q1 := H6.box.c1
          go_wp2_with fail
          go_at_call 11
          refine (spec_LogicOk H6.log).mono ?_
          rintro e w7 ⟨rfl, b7⟩
          rw [HL.out]
          have H7 := H6.step b7
          clear H6 q0 q1 b7
          have q0 := H7.box.c0
          have q1 := H7.box.c1
          clear q0 q1
          go_wp2_with fail
          go_at_call 12
          refine (alive_any _).mono ?_
          rintro e w8 ⟨rfl, b8⟩
          have H8 := H7.step b8
          go_wp2_with fail
          go_ret
          exact ⟨rfl, H8.old⟩
        | true =>
          obtain ⟨a2, d, e2, rfl, ha2, hd⟩ := good2 hg2
          clear e2 ha2
          obtain ⟨c2, hc2, hcm2⟩ := hO.meets ha hd
          have HB : Hid (andV m k zz (a : Int) (d : Int) = (c2 : Int)) := by show _ = _; rw [hO.andV hlo ha hd, hcm2]
          have hkb : keepsB m y = true := (hO.keepsV hlo).symm.trans hk
          have W1 : withV m k zz (a : Int) (b : Int) = agB m y a b := hO.withV hlo ha hb
          have W2 : withV m k zz (a : Int) (d : Int) = agB m y a d := hO.withV hlo ha hd
          have W3 : withV m k zz (b : Int) (a : Int) = agB m y a b := (hO.withV hlo hb ha).trans (hO.ag_comm hkb hb ha)
          have W4 : withV m k zz (b : Int) (d : Int) = agB m y b d := hO.withV hlo hb hd
          have W5 : withV m k zz (d : Int) (a : Int) = agB m y a d := (hO.withV hlo hd ha).trans (hO.ag_comm hkb hd ha)
          have W6 : withV m k zz (d : Int) (b : Int) = agB m y b d := (hO.withV hlo hd hb).trans (hO.ag_comm hkb hd hb)
          have S0 : sv = splitB m a b d := hsv.symm.trans (hO.splitV hlo ha hb hd)
          have S1 : splitV m k zz (b : Int) (a : Int) (d : Int) = splitB m b a d := hO.splitV hlo hb ha hd
          have S2 : splitV m k zz (d : Int) (a : Int) (b : Int) = splitB m d a b := hO.splitV hlo hd ha hb
          have T1 : agB m y a b = true → agB m y a d = true → splitB m a b d = true ∧ splitB m b a d = true ∧ splitB m d a b = true := fun e1 e2 => hO.fh hkb ha hb hd e1 e2
          have T2 : agB m y a b = true → agB m y b d = true → splitB m a b d = true ∧ splitB m b a d = true ∧ splitB m d a b = true := fun e1 e2 => by
            obtain ⟨x1, x2, x3⟩ := hO.fh hkb hb ha hd ((hO.ag_comm hkb hb ha).trans e1) e2
            exact ⟨x2, x1, (splitB_comm hO hd ha hb).trans x3⟩
          have T3 : agB m y a d = true → agB m y b d = true → splitB m a b d = true ∧ splitB m b a d = true ∧ splitB m d a b = true := fun e1 e2 => by
            obtain ⟨x1, x2, x3⟩ := hO.fh hkb hd ha hb ((hO.ag_comm hkb hd ha).trans e1) ((hO.ag_comm hkb hd hb).trans e2)
            exact ⟨(splitB_comm hO ha hb hd).trans x2, (splitB_comm hO hb ha hd).trans x3, x1⟩
          rw [hsv, S0]
          clear hk hlo hg hsv hg2 hO hc1 hcm1 hc2 hcm2 hkb S0
          cases p : agB m y a b with
          | true =>
            cases q : agB m y a d with
            | true =>
              cases r : agB m y b d with
              | true =>
                have V1 : Hid (withV m k zz (a : Int) (b : Int) = true) := W1.trans p
                have V2 : Hid (withV m k zz (a : Int) (d : Int) = true) := W2.trans q
                have V3 : Hid (withV m k zz (b : Int) (a : Int) = true) := W3.trans p
                have V4 : Hid (withV m k zz (b : Int) (d : Int) = true) := W4.trans r
                have V5 : Hid (withV m k zz (d : Int) (a : Int) = true) := W5.trans q
                have V6 : Hid (withV m k zz (d : Int) (b : Int) = true) := W6.trans r
                obtain ⟨x0, x1, x2⟩ := T1 p q
                rw [x0]
                have U1 : Hid (splitV m k zz (b : Int) (a : Int) (d : Int) = true) := S1.trans x1
                have U2 : Hid (splitV m k zz (d : Int) (a : Int) (b : Int) = true) := S2.trans x2
                clear x0 x1 x2
                clear W1 W2 W3 W4 W5 W6 T1 T2 T3 S1 S2 p q r
                go_wp2_with fail
                go_at_call 9
                refine (spec_KeepsOk H3.log).mono ?_
                rintro e w4 ⟨rfl, b4⟩
                rw [HK.out]
                have H4 := H3.step b4
                clear H3 q0 q1 b4
                have q0 := H4.box.c0
                have q1 := H4.box.c1
                go_wp2_with fail
                go_at_call 10
                refine (spec_AndOf (nc := nc) (x := (a : Int)) (y := (b : Int)) H4.log).mono ?_
                rintro e w5 ⟨rfl, b5⟩
                rw [HA.out]
                have H5 := H4.step b5
                clear H4 q0 q1 b5
                have q0 := H5.box.c0
                have q1 := H5.box.c1
                go_wp2_with fail
                go_at_call 10
                refine (spec_AndOf (nc := nc) (x := (a : Int)) (y := (d : Int)) H5.log).mono ?_
                rintro e w6 ⟨rfl, b6⟩
                rw [HB.out]
                have H6 := H5.step b6
                clear H5 q0 q1 b6
                have q0 := H6.box.c0
                have q1 := H6.box.c1
                go_wp2_with fail
                go_at_call 13
                refine (WithOk_any (nc := nc) (x := (a : Int)) (v := (b : Int)) H6.log).mono ?_
                rintro e w7 ⟨rfl, b7⟩
                rw [V1.out]
                have H7 := H6.step b7
                clear H6 q0 q1 b7
                have q0 := H7.box.c0
                have q1 := H7.box.c1
                go_wp2_with fail
                go_at_call 13
                refine (WithOk_any (nc := nc) (x := (a : Int)) (v := (d : Int)) H7.log).mono ?_
                rintro e w8 ⟨rfl, b8⟩
                rw [V2.out]
                have H8 := H7.step b8
                clear H7 q0 q1 b8
                have q0 := H8.box.c0
                have q1 := H8.box.c1
                go_wp2_with fail
                go_at_call 7
                refine (SplitOk_any (nc := nc) (x := (b : Int)) (v := (a : Int)) (t := (d : Int)) H8.log).mono ?_
                rintro e w9 ⟨rfl, b9⟩
                rw [U1.out]
                have H9 := H8.step b9
                clear H8 q0 q1 b9
                have q0 := H9.box.c0
                have q1 := H9.box.c1
                go_wp2_with fail
                go_at_call 7
                refine (SplitOk_any (nc := nc) (x := (d : Int)) (v := (a : Int)) (t := (b : Int)) H9.log).mono ?_
                rintro e w10 ⟨rfl, b10⟩
                rw [U2.out]
                have H10 := H9.step b10
                clear H9 q0 q1 b10
                have q0 := H10.box.c0
                have q1 := H10.box.c1
                go_wp2_with fail
                go_ret
                exact ⟨rfl, H10.old⟩
              | false =>
                have V1 : Hid (withV m k zz (a : Int) (b : Int) = true) := W1.trans p
                have V2 : Hid (withV m k zz (a : Int) (d : Int) = true) := W2.trans q
                have V3 : Hid (withV m k zz (b : Int) (a : Int) = true) := W3.trans p
                have V4 : Hid (withV m k zz (b : Int) (d : Int) = false) := W4.trans r
                have V5 : Hid (withV m k zz (d : Int) (a : Int) = true) := W5.trans q
                have V6 : Hid (withV m k zz (d : Int) (b : Int) = false) := W6.trans r
                obtain ⟨x0, x1, x2⟩ := T1 p q
                rw [x0]
                have U1 : Hid (splitV m k zz (b : Int) (a : Int) (d : Int) = true) := S1.trans x1
                have U2 : Hid (splitV m k zz (d : Int) (a : Int) (b : Int) = true) := S2.trans x2
                clear x0 x1 x2
                clear W1 W2 W3 W4 W5 W6 T1 T2 T3 S1 S2 p q r
                go_wp2_with fail
                go_at_call 9
                refine (spec_KeepsOk H3.log).mono ?_
                rintro e w4 ⟨rfl, b4⟩
                rw [HK.out]
                have H4 := H3.step b4
                clear H3 q0 q1 b4
                have q0 := H4.box.c0
                have q1 := H4.box.c1
                go_wp2_with fail
                go_at_call 10
                refine (spec_AndOf (nc := nc) (x := (a : Int)) (y := (b : Int)) H4.log).mono ?_
                rintro e w5 ⟨rfl, b5⟩
                rw [HA.out]
                have H5 := H4.step b5
                clear H4 q0 q1 b5
                have q0 := H5.box.c0
                have q1 := H5.box.c1
                go_wp2_with fail
                go_at_call 10
                refine (spec_AndOf (nc := nc) (x := (a : Int)) (y := (d : Int)) H5.log).mono ?_
                rintro e w6 ⟨rfl, b6⟩
                rw [HB.out]
                have H6 := H5.step b6
                clear H5 q0 q1 b6
                have q0 := H6.box.c0
                have q1 := H6.box.c1
                go_wp2_with fail
                go_at_call 13
                refine (WithOk_any (nc := nc) (x := (a : Int)) (v := (b : Int)) H6.log).mono ?_
                rintro e w7 ⟨rfl, b7⟩
                rw [V1.out]
                have H7 := H6.step b7
                clear H6 q0 q1 b7
                have q0 := H7.box.c0
                have q1 := H7.box.c1
                go_wp2_with fail
                go_at_call 13
                refine (WithOk_any (nc := nc) (x := (a : Int)) (v := (d : Int)) H7.log).mono ?_
                rintro e w8 ⟨rfl, b8⟩
                rw [V2.out]
                have H8 := H7.step b8
                clear H7 q0 q1 b8
                have q0 := H8.box.c0
                have q1 := H8.box.c1
                go_wp2_with fail
                go_at_call 7
                refine (SplitOk_any (nc := nc) (x := (b : Int)) (v := (a : Int)) (t := (d : Int)) H8.log).mono ?_
                rintro e w9 ⟨rfl, b9⟩
                rw [U1.out]
                have H9 := H8.step b9
                clear H8 q0 q1 b9
                have q0 := H9.box.c0
                have q1 := H9.box.c1
                go_wp2_with fail
                go_at_call 7
                refine (SplitOk_any (nc := nc) (x := (d : Int)) (v := (a : Int)) (t := (b : Int)) H9.log).mono ?_
                rintro e w10 ⟨rfl, b10⟩
                rw [U2.out]
                have H10 := H9.step b10
                clear H9 q0 q1 b10
                have q0 := H10.box.c0
                have q1 := H10.box.c1
                go_wp2_with fail
                go_ret
                exact ⟨rfl, H10.old⟩
            | false =>
              cases r : agB m y b d with
              | true =>
                have V1 : Hid (withV m k zz (a : Int) (b : Int) = true) := W1.trans p
                have V2 : Hid (withV m k zz (a : Int) (d : Int) = false) := W2.trans q
                have V3 : Hid (withV m k zz (b : Int) (a : Int) = true) := W3.trans p
                have V4 : Hid (withV m k zz (b : Int) (d : Int) = true) := W4.trans r
                have V5 : Hid (withV m k zz (d : Int) (a : Int) = false) := W5.trans q
                have V6 : Hid (withV m k zz (d : Int) (b : Int) = true) := W6.trans r
                obtain ⟨x0, x1, x2⟩ := T2 p r
                rw [x0]
                have U1 : Hid (splitV m k zz (b : Int) (a : Int) (d : Int) = true) := S1.trans x1
                have U2 : Hid (splitV m k zz (d : Int) (a : Int) (b : Int) = true) := S2.trans x2
                clear x0 x1 x2
                clear W1 W2 W3 W4 W5 W6 T1 T2 T3 S1 S2 p q r
                go_wp2_with fail
                go_at_call 9
                refine (spec_KeepsOk H3.log).mono ?_
                rintro e w4 ⟨rfl, b4⟩
                rw [HK.out]
                have H4 := H3.step b4
                clear H3 q0 q1 b4
                have q0 := H4.box.c0
                have q1 := H4.box.c1
                go_wp2_with fail
                go_at_call 10
                refine (spec_AndOf (nc := nc) (x := (a : Int)) (y := (b : Int)) H4.log).mono ?_
                rintro e w5 ⟨rfl, b5⟩
                rw [HA.out]
                have H5 := H4.step b5
                clear H4 q0 q1 b5
                have q0 := H5.box.c0
                have q1 := H5.box.c1
                go_wp2_with fail
                go_at_call 10
                refine (spec_AndOf (nc := nc) (x := (a : Int)) (y := (d : Int)) H5.log).mono ?_
                rintro e w6 ⟨rfl, b6⟩
                rw [HB.out]
                have H6 := H5.step b6
                clear H5 q0 q1 b6
                have q0 := H6.box.c0
                have q1 := H6.box.c1
                go_wp2_with fail
                go_at_call 13
                refine (WithOk_any (nc := nc) (x := (a : Int)) (v := (b : Int)) H6.log).mono ?_
                rintro e w7 ⟨rfl, b7⟩
                rw [V1.out]
                have H7 := H6.step b7
                clear H6 q0 q1 b7
                have q0 := H7.box.c0
                have q1 := H7.box.c1
                go_wp2_with fail
                go_at_call 13
                refine (WithOk_any (nc := nc) (x := (a : Int)) (v := (d : Int)) H7.log).mono ?_
                rintro e w8 ⟨rfl, b8⟩
                rw [V2.out]
                have H8 := H7.step b8
                clear H7 q0 q1 b8
                have q0 := H8.box.c0
                have q1 := H8.box.c1
                go_wp2_with fail
                go_at_call 13
                refine (WithOk_any (nc := nc) (x := (b : Int)) (v := (a : Int)) H8.log).mono ?_
                rintro e w9 ⟨rfl, b9⟩
                rw [V3.out]
                have H9 := H8.step b9
                clear H8 q0 q1 b9
                have q0 := H9.box.c0
                have q1 := H9.box.c1
                go_wp2_with fail
                go_at_call 13
                refine (WithOk_any (nc := nc) (x := (b : Int)) (v := (d : Int)) H9.log).mono ?_
                rintro e w10 ⟨rfl, b10⟩
                rw [V4.out]
                have H10 := H9.step b10
                clear H9 q0 q1 b10
                have q0 := H10.box.c0
                have q1 := H10.box.c1
                go_wp2_with fail
                go_at_call 7
                refine (SplitOk_any (nc := nc) (x := (b : Int)) (v := (a : Int)) (t := (d : Int)) H10.log).mono ?_
                rintro e w11 ⟨rfl, b11⟩
                rw [U1.out]
                have H11 := H10.step b11
                clear H10 q0 q1 b11
                have q0 := H11.box.c0
                have q1 := H11.box.c1
                go_wp2_with fail
                go_at_call 7
                refine (SplitOk_any (nc := nc) (x := (d : Int)) (v := (a : Int)) (t := (b : Int)) H11.log).mono ?_
                rintro e w12 ⟨rfl, b12⟩
                rw [U2.out]
                have H12 := H11.step b12
                clear H11 q0 q1 b12
                have q0 := H12.box.c0
                have q1 := H12.box.c1
                go_wp2_with fail
                go_ret
                exact ⟨rfl, H12.old⟩
              | false =>
                have V1 : Hid (withV m k zz (a : Int) (b : Int) = true) := W1.trans p
                have V2 : Hid (withV m k zz (a : Int) (d : Int) = false) := W2.trans q
                have V3 : Hid (withV m k zz (b : Int) (a : Int) = true) := W3.trans p
                have V4 : Hid (withV m k zz (b : Int) (d : Int) = false) := W4.trans r
                have V5 : Hid (withV m k zz (d : Int) (a : Int) = false) := W5.trans q
                have V6 : Hid (withV m k zz (d : Int) (b : Int) = false) := W6.trans r
                obtain ⟨s0, hs0⟩ : ∃ s0, splitB m a b d = s0 := ⟨_, rfl⟩
                rw [hs0]
                have e0 : (s0 != s0) = false := by simp
                clear hs0
                clear W1 W2 W3 W4 W5 W6 T1 T2 T3 S1 S2 p q r
                go_wp2_with fail
                go_at_call 9
                refine (spec_KeepsOk H3.log).mono ?_
                rintro e w4 ⟨rfl, b4⟩
                rw [HK.out]
                have H4 := H3.step b4
                clear H3 q0 q1 b4
                have q0 := H4.box.c0
                have q1 := H4.box.c1
                go_wp2_with fail
                go_at_call 10
                refine (spec_AndOf (nc := nc) (x := (a : Int)) (y := (b : Int)) H4.log).mono ?_
                rintro e w5 ⟨rfl, b5⟩
                rw [HA.out]
                have H5 := H4.step b5
                clear H4 q0 q1 b5
                have q0 := H5.box.c0
                have q1 := H5.box.c1
                go_wp2_with fail
                go_at_call 10
                refine (spec_AndOf (nc := nc) (x := (a : Int)) (y := (d : Int)) H5.log).mono ?_
                rintro e w6 ⟨rfl, b6⟩
                rw [HB.out]
                have H6 := H5.step b6
                clear H5 q0 q1 b6
                have q0 := H6.box.c0
                have q1 := H6.box.c1
                go_wp2_with fail
                go_at_call 13
                refine (WithOk_any (nc := nc) (x := (a : Int)) (v := (b : Int)) H6.log).mono ?_
                rintro e w7 ⟨rfl, b7⟩
                rw [V1.out]
                have H7 := H6.step b7
                clear H6 q0 q1 b7
                have q0 := H7.box.c0
                have q1 := H7.box.c1
                go_wp2_with fail
                go_at_call 13
                refine (WithOk_any (nc := nc) (x := (a : Int)) (v := (d : Int)) H7.log).mono ?_
                rintro e w8 ⟨rfl, b8⟩
                rw [V2.out]
                have H8 := H7.step b8
                clear H7 q0 q1 b8
                have q0 := H8.box.c0
                have q1 := H8.box.c1
                go_wp2_with fail
                go_at_call 13
                refine (WithOk_any (nc := nc) (x := (b : Int)) (v := (a : Int)) H8.log).mono ?_
                rintro e w9 ⟨rfl, b9⟩
                rw [V3.out]
                have H9 := H8.step b9
                clear H8 q0 q1 b9
                have q0 := H9.box.c0
                have q1 := H9.box.c1
                go_wp2_with fail
                go_at_call 13
                refine (WithOk_any (nc := nc) (x := (b : Int)) (v := (d : Int)) H9.log).mono ?_
                rintro e w10 ⟨rfl, b10⟩
                rw [V4.out]
                have H10 := H9.step b10
                clear H9 q0 q1 b10
                have q0 := H10.box.c0
                have q1 := H10.box.c1
                go_wp2_with fail
                go_at_call 13
                refine (WithOk_any (nc := nc) (x := (d : Int)) (v := (a : Int)) H10.log).mono ?_
                rintro e w11 ⟨rfl, b11⟩
                rw [V5.out]
                have H11 := H10.step b11
                clear H10 q0 q1 b11
                have q0 := H11.box.c0
                have q1 := H11.box.c1
                go_wp2_with fail
                go_ret
                exact ⟨rfl, H11.old⟩
          | false =>
            cases q : agB m y a d with
            | true =>
              cases r : agB m y b d with
              | true =>
                have V1 : Hid (withV m k zz (a : Int) (b : Int) = false) := W1.trans p
                have V2 : Hid (withV m k zz (a : Int) (d : Int) = true) := W2.trans q
                have V3 : Hid (withV m k zz (b : Int) (a : Int) = false) := W3.trans p
                have V4 : Hid (withV m k zz (b : Int) (d : Int) = true) := W4.trans r
                have V5 : Hid (withV m k zz (d : Int) (a : Int) = true) := W5.trans q
                have V6 : Hid (withV m k zz (d : Int) (b : Int) = true) := W6.trans r
                obtain ⟨x0, x1, x2⟩ := T3 q r
                rw [x0]
                have U1 : Hid (splitV m k zz (b : Int) (a : Int) (d : Int) = true) := S1.trans x1
                have U2 : Hid (splitV m k zz (d : Int) (a : Int) (b : Int) = true) := S2.trans x2
                clear x0 x1 x2
                clear W1 W2 W3 W4 W5 W6 T1 T2 T3 S1 S2 p q r
                go_wp2_with fail
                go_at_call 9
                refine (spec_KeepsOk H3.log).mono ?_
                rintro e w4 ⟨rfl, b4⟩
                rw [HK.out]
                have H4 := H3.step b4
                clear H3 q0 q1 b4
                have q0 := H4.box.c0
                have q1 := H4.box.c1
                go_wp2_with fail
                go_at_call 10
                refine (spec_AndOf (nc := nc) (x := (a : Int)) (y := (b : Int)) H4.log).mono ?_
                rintro e w5 ⟨rfl, b5⟩
                rw [HA.out]
                have H5 := H4.step b5
                clear H4 q0 q1 b5
                have q0 := H5.box.c0
                have q1 := H5.box.c1
                go_wp2_with fail
                go_at_call 10
                refine (spec_AndOf (nc := nc) (x := (a : Int)) (y := (d : Int)) H5.log).mono ?_
                rintro e w6 ⟨rfl, b6⟩
                rw [HB.out]
                have H6 := H5.step b6
                clear H5 q0 q1 b6
                have q0 := H6.box.c0
                have q1 := H6.box.c1
                go_wp2_with fail
                go_at_call 13
                refine (WithOk_any (nc := nc) (x := (a : Int)) (v := (b : Int)) H6.log).mono ?_
                rintro e w7 ⟨rfl, b7⟩
                rw [V1.out]
                have H7 := H6.step b7
                clear H6 q0 q1 b7
                have q0 := H7.box.c0
                have q1 := H7.box.c1
                go_wp2_with fail
                go_at_call 13
                refine (WithOk_any (nc := nc) (x := (b : Int)) (v := (a : Int)) H7.log).mono ?_
                rintro e w8 ⟨rfl, b8⟩
                rw [V3.out]
                have H8 := H7.step b8
                clear H7 q0 q1 b8
                have q0 := H8.box.c0
                have q1 := H8.box.c1
                go_wp2_with fail
                go_at_call 13
                refine (WithOk_any (nc := nc) (x := (d : Int)) (v := (a : Int)) H8.log).mono ?_
                rintro e w9 ⟨rfl, b9⟩
                rw [V5.out]
                have H9 := H8.step b9
                clear H8 q0 q1 b9
                have q0 := H9.box.c0
                have q1 := H9.box.c1
                go_wp2_with fail
                go_at_call 13
                refine (WithOk_any (nc := nc) (x := (d : Int)) (v := (b : Int)) H9.log).mono ?_
                rintro e w10 ⟨rfl, b10⟩
                rw [V6.out]
                have H10 := H9.step b10
                clear H9 q0 q1 b10
                have q0 := H10.box.c0
                have q1 := H10.box.c1
                go_wp2_with fail
                go_at_call 7
                refine (SplitOk_any (nc := nc) (x := (b : Int)) (v := (a : Int)) (t := (d : Int)) H10.log).mono ?_
                rintro e w11 ⟨rfl, b11⟩
                rw [U1.out]
                have H11 := H10.step b11
                clear H10 q0 q1 b11
                have q0 := H11.box.c0
                have q1 := H11.box.c1
                go_wp2_with fail
                go_at_call 7
                refine (SplitOk_any (nc := nc) (x := (d : Int)) (v := (a : Int)) (t := (b : Int)) H11.log).mono ?_
                rintro e w12 ⟨rfl, b12⟩
                rw [U2.out]
                have H12 := H11.step b12
                clear H11 q0 q1 b12
                have q0 := H12.box.c0
                have q1 := H12.box.c1
                go_wp2_with fail
                go_ret
                exact ⟨rfl, H12.old⟩
              | false =>
                have V1 : Hid (withV m k zz (a : Int) (b : Int) = false) := W1.trans p
                have V2 : Hid (withV m k zz (a : Int) (d : Int) = true) := W2.trans q
                have V3 : Hid (withV m k zz (b : Int) (a : Int) = false) := W3.trans p
                have V4 : Hid (withV m k zz (b : Int) (d : Int) = false) := W4.trans r
                have V5 : Hid (withV m k zz (d : Int) (a : Int) = true) := W5.trans q
                have V6 : Hid (withV m k zz (d : Int) (b : Int) = false) := W6.trans r
                obtain ⟨s0, hs0⟩ : ∃ s0, splitB m a b d = s0 := ⟨_, rfl⟩
                rw [hs0]
                have e0 : (s0 != s0) = false := by simp
                clear hs0
                clear W1 W2 W3 W4 W5 W6 T1 T2 T3 S1 S2 p q r
                go_wp2_with fail
                go_at_call 9
                refine (spec_KeepsOk H3.log).mono ?_
                rintro e w4 ⟨rfl, b4⟩
                rw [HK.out]
                have H4 := H3.step b4
                clear H3 q0 q1 b4
                have q0 := H4.box.c0
                have q1 := H4.box.c1
                go_wp2_with fail
                go_at_call 10
                refine (spec_AndOf (nc := nc) (x := (a : Int)) (y := (b : Int)) H4.log).mono ?_
                rintro e w5 ⟨rfl, b5⟩
                rw [HA.out]
                have H5 := H4.step b5
                clear H4 q0 q1 b5
                have q0 := H5.box.c0
                have q1 := H5.box.c1
                go_wp2_with fail
                go_at_call 10
                refine (spec_AndOf (nc := nc) (x := (a : Int)) (y := (d : Int)) H5.log).mono ?_
                rintro e w6 ⟨rfl, b6⟩
                rw [HB.out]
                have H6 := H5.step b6
                clear H5 q0 q1 b6
                have q0 := H6.box.c0
                have q1 := H6.box.c1
                go_wp2_with fail
                go_at_call 13
                refine (WithOk_any (nc := nc) (x := (a : Int)) (v := (b : Int)) H6.log).mono ?_
                rintro e w7 ⟨rfl, b7⟩
                rw [V1.out]
                have H7 := H6.step b7
                clear H6 q0 q1 b7
                have q0 := H7.box.c0
                have q1 := H7.box.c1
                go_wp2_with fail
                go_at_call 13
                refine (WithOk_any (nc := nc) (x := (b : Int)) (v := (a : Int)) H7.log).mono ?_
                rintro e w8 ⟨rfl, b8⟩
                rw [V3.out]
                have H8 := H7.step b8
                clear H7 q0 q1 b8
                have q0 := H8.box.c0
                have q1 := H8.box.c1
                go_wp2_with fail
                go_at_call 13
                refine (WithOk_any (nc := nc) (x := (d : Int)) (v := (a : Int)) H8.log).mono ?_
                rintro e w9 ⟨rfl, b9⟩
                rw [V5.out]
                have H9 := H8.step b9
                clear H8 q0 q1 b9
                have q0 := H9.box.c0
                have q1 := H9.box.c1
                go_wp2_with fail
                go_at_call 13
                refine (WithOk_any (nc := nc) (x := (d : Int)) (v := (b : Int)) H9.log).mono ?_
                rintro e w10 ⟨rfl, b10⟩
                rw [V6.out]
                have H10 := H9.step b10
                clear H9 q0 q1 b10
                have q0 := H10.box.c0
                have q1 := H10.box.c1
                go_wp2_with fail
                go_ret
                exact ⟨rfl, H10.old⟩
            | false =>
              cases r : agB m y b d with
              | true =>
                have V1 : Hid (withV m k zz (a : Int) (b : Int) = false) := W1.trans p
                have V2 : Hid (withV m k zz (a : Int) (d : Int) = false) := W2.trans q
                have V3 : Hid (withV m k zz (b : Int) (a : Int) = false) := W3.trans p
                have V4 : Hid (withV m k zz (b : Int) (d : Int) = true) := W4.trans r
                have V5 : Hid (withV m k zz (d : Int) (a : Int) = false) := W5.trans q
                have V6 : Hid (withV m k zz (d : Int) (b : Int) = true) := W6.trans r
                obtain ⟨s0, hs0⟩ : ∃ s0, splitB m a b d = s0 := ⟨_, rfl⟩
                rw [hs0]
                have e0 : (s0 != s0) = false := by simp
                clear hs0
                clear W1 W2 W3 W4 W5 W6 T1 T2 T3 S1 S2 p q r
                go_wp2_with fail
                go_at_call 9
                refine (spec_KeepsOk H3.log).mono ?_
                rintro e w4 ⟨rfl, b4⟩
                rw [HK.out]
                have H4 := H3.step b4
                clear H3 q0 q1 b4
                have q0 := H4.box.c0
                have q1 := H4.box.c1
                go_wp2_with fail
                go_at_call 10
                refine (spec_AndOf (nc := nc) (x := (a : Int)) (y := (b : Int)) H4.log).mono ?_
                rintro e w5 ⟨rfl, b5⟩
                rw [HA.out]
                have H5 := H4.step b5
                clear H4 q0 q1 b5
                have q0 := H5.box.c0
                have q1 := H5.box.c1
                go_wp2_with fail
                go_at_call 10
                refine (spec_AndOf (nc := nc) (x := (a : Int)) (y := (d : Int)) H5.log).mono ?_
                rintro e w6 ⟨rfl, b6⟩
                rw [HB.out]
                have H6 := H5.step b6
                clear H5 q0 q1 b6
                have q0 := H6.box.c0
                have q1 := H6.box.c1
                go_wp2_with fail
                go_at_call 13
                refine (WithOk_any (nc := nc) (x := (a : Int)) (v := (b : Int)) H6.log).mono ?_
                rintro e w7 ⟨rfl, b7⟩
                rw [V1.out]
                have H7 := H6.step b7
                clear H6 q0 q1 b7
                have q0 := H7.box.c0
                have q1 := H7.box.c1
                go_wp2_with fail
                go_at_call 13
                refine (WithOk_any (nc := nc) (x := (b : Int)) (v := (a : Int)) H7.log).mono ?_
                rintro e w8 ⟨rfl, b8⟩
                rw [V3.out]
                have H8 := H7.step b8
                clear H7 q0 q1 b8
                have q0 := H8.box.c0
                have q1 := H8.box.c1
                go_wp2_with fail
                go_at_call 13
                refine (WithOk_any (nc := nc) (x := (d : Int)) (v := (a : Int)) H8.log).mono ?_
                rintro e w9 ⟨rfl, b9⟩
                rw [V5.out]
                have H9 := H8.step b9
                clear H8 q0 q1 b9
                have q0 := H9.box.c0
                have q1 := H9.box.c1
                go_wp2_with fail
                go_ret
                exact ⟨rfl, H9.old⟩
              | false =>
                have V1 : Hid (withV m k zz (a : Int) (b : Int) = false) := W1.trans p
                have V2 : Hid (withV m k zz (a : Int) (d : Int) = false) := W2.trans q
                have V3 : Hid (withV m k zz (b : Int) (a : Int) = false) := W3.trans p
                have V4 : Hid (withV m k zz (b : Int) (d : Int) = false) := W4.trans r
                have V5 : Hid (withV m k zz (d : Int) (a : Int) = false) := W5.trans q
                have V6 : Hid (withV m k zz (d : Int) (b : Int) = false) := W6.trans r
                obtain ⟨s0, hs0⟩ : ∃ s0, splitB m a b d = s0 := ⟨_, rfl⟩
                rw [hs0]
                have e0 : (s0 != s0) = false := by simp
                clear hs0
                clear W1 W2 W3 W4 W5 W6 T1 T2 T3 S1 S2 p q r
                go_wp2_with fail
                go_at_call 9
                refine (spec_KeepsOk H3.log).mono ?_
                rintro e w4 ⟨rfl, b4⟩
                rw [HK.out]
                have H4 := H3.step b4
                clear H3 q0 q1 b4
                have q0 := H4.box.c0
                have q1 := H4.box.c1
                go_wp2_with fail
                go_at_call 10
                refine (spec_AndOf (nc := nc) (x := (a : Int)) (y := (b : Int)) H4.log).mono ?_
                rintro e w5 ⟨rfl, b5⟩
                rw [HA.out]
                have H5 := H4.step b5
                clear H4 q0 q1 b5
                have q0 := H5.box.c0
                have q1 := H5.box.c1
                go_wp2_with fail
                go_at_call 10
                refine (spec_AndOf (nc := nc) (x := (a : Int)) (y := (d : Int)) H5.log).mono ?_
                rintro e w6 ⟨rfl, b6⟩
                rw [HB.out]
                have H6 := H5.step b6
                clear H5 q0 q1 b6
                have q0 := H6.box.c0
                have q1 := H6.box.c1
                go_wp2_with fail
                go_at_call 13
                refine (WithOk_any (nc := nc) (x := (a : Int)) (v := (b : Int)) H6.log).mono ?_
                rintro e w7 ⟨rfl, b7⟩
                rw [V1.out]
                have H7 := H6.step b7
                clear H6 q0 q1 b7
                have q0 := H7.box.c0
                have q1 := H7.box.c1
                go_wp2_with fail
                go_at_call 13
                refine (WithOk_any (nc := nc) (x := (b : Int)) (v := (a : Int)) H7.log).mono ?_
                rintro e w8 ⟨rfl, b8⟩
                rw [V3.out]
                have H8 := H7.step b8
                clear H7 q0 q1 b8
                have q0 := H8.box.c0
                have q1 := H8.box.c1
                go_wp2_with fail
                go_at_call 13
                refine (WithOk_any (nc := nc) (x := (d : Int)) (v := (a : Int)) H8.log).mono ?_
                rintro e w9 ⟨rfl, b9⟩
                rw [V5.out]
                have H9 := H8.step b9
                clear H8 q0 q1 b9
                have q0 := H9.box.c0
                have q1 := H9.box.c1
                go_wp2_with fail
                go_ret
                exact ⟨rfl, H9.old⟩
end Go.Proofs.Ytpklccecgfcdfaa
