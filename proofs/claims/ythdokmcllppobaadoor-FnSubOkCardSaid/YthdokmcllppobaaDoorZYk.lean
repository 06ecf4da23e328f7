/- The laws on sets that are parts, and on least parts, walked at whatever code. -/
import Derived.Test.YthdokmcllppobaaDoorZNa
import Derived.Test.YthdokmcllppobaaDoorZYi
import Derived.Test.YthdokmcllppobaaDoorZYj
namespace Go.Proofs.YthdokmcllppobaaDoor
open Go.RowKit Go.Deep

theorem ends_bit {a b c : Nat} : (2 ^ a ||| 2 ^ b).testBit c = true ↔ c = a ∨ c = b := by
  rw [Nat.testBit_or, Nat.testBit_two_pow, Nat.testBit_two_pow, Bool.or_eq_true, decide_eq_true_iff, decide_eq_true_iff]
  constructor
  · rintro (h | h)
    · exact .inl h.symm
    · exact .inr h.symm
  · rintro (h | h)
    · exact .inl h.symm
    · exact .inr h.symm
theorem Ortho.m_no {m : Mx} {z : Nat → Int} {y : Nat → Nat} {o : Nat} (h : Ortho m z y o) {a : Nat} (ha : a < m.n) : mN m o a = o :=
  (h.mG h.ho ha).eq h.lat.order ⟨h.ho, h.lat.order.refl o h.ho, h.least a ha, fun _ _ g _ => g⟩
theorem Ortho.m_self {m : Mx} {z : Nat → Int} {y : Nat → Nat} {o : Nat} (h : Ortho m z y o) {a : Nat} (ha : a < m.n) : mN m a a = a :=
  (h.mG ha ha).eq h.lat.order ⟨ha, h.lat.order.refl a ha, h.lat.order.refl a ha, fun _ _ g _ => g⟩
theorem ends_closed {m : Mx} {z : Nat → Int} {y : Nat → Nat} {o : Nat} (h : Ortho m z y o) : Closed m y (2 ^ o ||| 2 ^ y o) := by
  have hy := h.lt o h.ho
  refine ⟨fun a b ha hb ga gb => ?_, fun a ha ga => ?_⟩
  · rcases ends_bit.1 ga with rfl | rfl
    · rw [h.m_no hb]; exact ends_bit.2 (.inl rfl)
    · rcases ends_bit.1 gb with rfl | rfl
      · rw [h.m_comm, h.m_no ha]; exact ends_bit.2 (.inl rfl)
      · rw [h.m_self ha]; exact ends_bit.2 (.inr rfl)
  · rcases ends_bit.1 ga with rfl | rfl
    · exact ends_bit.2 (.inr rfl)
    · rw [h.inv o h.ho]; exact ends_bit.2 (.inl rfl)
theorem ends_pos (a b : Nat) : 1 ≤ 2 ^ a ||| 2 ^ b := Nat.le_trans (Nat.one_le_two_pow) (Nat.left_le_or (n := 2 ^ a) (m := 2 ^ b))
theorem or2w {a b : Nat} (ha : a < 12) (hb : b < 12) : bits .or .i64 (IntKind.i64.wrap (2 ^ a)) (IntKind.i64.wrap (2 ^ b)) = ((2 ^ a ||| 2 ^ b : Nat) : Int) := by
  have h1 := one_lt (n := 12) ha
  have h2 := one_lt (n := 12) hb
  rw [one_wrap (Nat.le_of_lt ha), one_wrap (Nat.le_of_lt hb), i64_or_nat _ _ (Nat.lt_trans h1 (by decide)) (Nat.lt_trans h2 (by decide))]
theorem fullw {n : Nat} (h : n ≤ 12) : IntKind.i64.wrap (IntKind.i64.wrap (2 ^ n) - 1) = ((2 ^ n - 1 : Nat) : Int) := by
  have hp := pow_le_12 h
  have h1 : 1 ≤ 2 ^ n := Nat.one_le_two_pow
  rw [one_wrap h]
  generalize 2 ^ n = q at hp h1
  rw [IntWalk.i64_in _ (by omega)]
  omega
theorem full_lt (n : Nat) : 2 ^ n - 1 < 2 ^ n := by
  have h1 : 1 ≤ 2 ^ n := Nat.one_le_two_pow
  omega
theorem full_pos {n : Nat} (h : 1 ≤ n) : 1 ≤ 2 ^ n - 1 := by
  have := Nat.pow_le_pow_right (n := 2) (by omega) h
  omega

set_option maxRecDepth 100000 in
set_option maxHeartbeats 4000000 in
theorem law_SubOk {A : Option Addr} {b o n cap : Nat} {z : Nat → Nat} {w : World} (h : CodeAt w A b o n cap z) (hT : TabOk w) :
    Calls Tryd.prog 3 #[.slice A n cap] w fun e w' => e = .returned (.bool true) ∧ Below w.heap.size w w' := by
  have hn := h.hn
  have hc := h.hc
  by_cases hbig : 1048576 < n
  · have hbig' : (1048576 : Int) < n := by omega
    clear h
    go_enter Tryd.func3, Tryd.ntmps3
    go_wp2_with fail
    go_ret
    exact ⟨rfl, Below.refl _ _⟩
  · have hbig' : ¬ (1048576 : Int) < n := by omega
    have HT := Lib.hid hT
    clear hT
    go_enter Tryd.func3, Tryd.ntmps3
    go_wp2_with fail
    go_at_call 9
    refine (draw_SubOk h).mono ?_
    rintro e w1 ⟨ua, l, m, na, g, o2, k, nc, zz, x, rfl, hF⟩
    have H1 := Held.start hF nc
    clear h hF
    have q0 := H1.box.c0
    have q1 := H1.box.c1
    go_wp2_with fail
    go_at_call 10
    refine (SubOk_any H1.log (HT.out.step H1.old HT.out.size)).mono ?_
    rintro e w2 ⟨rfl, b2⟩
    have H2 := H1.step b2
    clear H1 q0 q1 b2
    have q0 := H2.box.c0
    have q1 := H2.box.c1
    go_wp2_with fail
    go_at_call 11
    refine (spec_SubOk H2.log).mono ?_
    rintro e w3 ⟨rfl, b3⟩
    have H3 := H2.step b3
    clear H2 q0 q1 b3
    have q0 := H3.box.c0
    have q1 := H3.box.c1
    have e0 : (subV m k zz x != subV m k zz x) = false := by simp
    go_wp2_with fail
    go_at_call 12
    refine (spec_LogicOk H3.log).mono ?_
    rintro e w5 ⟨rfl, b5⟩
    have H5 := H3.step b5
    clear H3 q0 q1 b5 e0
    have q0 := H5.box.c0
    have q1 := H5.box.c1
    cases hl : logicB m k zz with
    | false =>
      have e : subV m k zz x = false := by unfold subV; rw [hl]; rfl
      rw [e]
      clear e hl
      go_wp2_with fail
      go_at_call 13
      refine (alive_any _).mono ?_
      rintro e w6 ⟨rfl, b6⟩
      have H6 := H5.step b6
      go_wp2_with fail
      go_ret
      exact ⟨rfl, H6.old⟩
    | true =>
      obtain ⟨y, o3, hO⟩ := (logicB_is hl).ortho
      have hkn : k = m.n := (logicB_is hl).pair.len
      subst hkn
      have h12 := hO.lat.order.top
      have hpos := hO.lat.order.pos
      obtain ⟨rfl, _, _⟩ := H5.log.row.row 0 (by omega)
      have hy := hO.lt o3 hO.ho
      have hoo := hO.ho
      have N1 : Hid (noV m m.n zz = (o3 : Int)) := hO.noV hl
      have N2 : Hid (yesV m m.n zz = (y o3 : Int)) := hO.yesV hl
      have N3 := Lib.hid (or2w (a := o3) (b := y o3) (by omega) (by omega))
      have N4 : Hid (subV m m.n zz ((2 ^ o3 ||| 2 ^ y o3 : Nat) : Int) = true) := by
        show _ = _
        rw [subV_is hO (ends_pos _ _) (or_lt (one_lt hoo) (one_lt hy))]
        exact closedB_mk (ends_closed hO)
      have N5 : Hid (subV m m.n zz (IntKind.i64.wrap (IntKind.i64.wrap (2 ^ m.n) - 1)) = true) := by
        show _ = _
        rw [fullw h12, subV_is hO (full_pos hpos) (full_lt _)]
        exact closedB_mk (full_closed hO)
      have HO := Lib.hid hO
      have HL := Lib.hid hl
      have hn64 : (m.n : Int) ≤ 64 := by omega
      clear hO hl
      go_upto_region 9 with fail
      clear q0 q1
      have Hd := H5.step (Below.refl _ w5).drew
      have G0 : (fun w' => w'.cell? ⟨w1.heap.size, 0, none⟩ = some (.slice ua m.n l.cap) ∧ w'.cell? ⟨w1.heap.size, 1, none⟩ = some (.slice (some ⟨g, o2, none⟩) m.n nc)) w5.drew := ⟨Hd.box.c0, Hd.box.c1⟩
      refine region_plain (fuel := 8) (listed := #[false, false, false, false, false, false, false, false]) (fun w' => w'.cell? ⟨w1.heap.size, 0, none⟩ = some (.slice ua m.n l.cap) ∧ w'.cell? ⟨w1.heap.size, 1, none⟩ = some (.slice (some ⟨g, o2, none⟩) m.n nc)) (by kernel_rfl) (by kernel_rfl) (by kernel_rfl) ?_
      refine hold_take (i := 0) (d := 31) (v := ?vA0) (listed' := #[true, false, false, false, false, false, false, false]) rfl (by kernel_rfl) (by kernel_rfl) (by kernel_rfl) rfl (by rfl) (by kernel_rfl) G0 ?hA0 ?rA0
      case hA0 =>
        intro w' hSw
        obtain ⟨k0, k1⟩ := hSw
        go_simp
        try with_reducible rfl
      simp only [List.setIfInBounds_toArray, List.set_cons_zero, List.set_cons_succ]
      refine hold_take (i := 3) (d := 34) (v := ?vA3) (listed' := #[true, false, false, true, false, false, false, false]) rfl (by kernel_rfl) (by kernel_rfl) (by kernel_rfl) rfl (by rfl) (by kernel_rfl) G0 ?hA3 ?rA3
      case hA3 =>
        intro w' hSw
        obtain ⟨k0, k1⟩ := hSw
        go_simp
        try with_reducible rfl
      simp only [List.setIfInBounds_toArray, List.set_cons_zero, List.set_cons_succ]
      refine hold_call (i := 1) (d := 32) (listed' := #[true, true, false, true, false, false, false, false]) rfl (by kernel_rfl) rfl (by rfl) (by kernel_rfl) ?heA1 (spec_NoOf (nc := nc) Hd.log) ?hcA1
      case heA1 => go_simp
      rintro e w6 ⟨rfl, b6⟩
      rw [N1.out]
      have H6 := Hd.step b6
      have G6 : (fun w' => w'.cell? ⟨w1.heap.size, 0, none⟩ = some (.slice ua m.n l.cap) ∧ w'.cell? ⟨w1.heap.size, 1, none⟩ = some (.slice (some ⟨g, o2, none⟩) m.n nc)) w6 := ⟨H6.box.c0, H6.box.c1⟩
      refine ⟨_, rfl, G6, ?_⟩
      simp only [List.setIfInBounds_toArray, List.set_cons_zero, List.set_cons_succ]
      refine hold_take (i := 2) (d := 33) (v := ?vA2) (listed' := #[true, true, true, true, false, false, false, false]) rfl (by kernel_rfl) (by kernel_rfl) (by kernel_rfl) rfl (by rfl) (by kernel_rfl) G6 ?hA2 ?rA2
      case hA2 =>
        intro w' hSw
        obtain ⟨k0, k1⟩ := hSw
        go_simp
        try with_reducible rfl
      simp only [List.setIfInBounds_toArray, List.set_cons_zero, List.set_cons_succ]
      refine hold_call (i := 4) (d := 35) (listed' := #[true, true, true, true, true, false, false, false]) rfl (by kernel_rfl) rfl (by rfl) (by kernel_rfl) ?heA4 (spec_YesOf (nc := nc) H6.log) ?hcA4
      case heA4 => go_simp
      rintro e w7 ⟨rfl, b7⟩
      rw [N2.out]
      have H7 := H6.step b7
      have G7 : (fun w' => w'.cell? ⟨w1.heap.size, 0, none⟩ = some (.slice ua m.n l.cap) ∧ w'.cell? ⟨w1.heap.size, 1, none⟩ = some (.slice (some ⟨g, o2, none⟩) m.n nc)) w7 := ⟨H7.box.c0, H7.box.c1⟩
      clear Hd H6 H5 b6 b7
      refine ⟨_, rfl, G7, ?_⟩
      simp only [List.setIfInBounds_toArray, List.set_cons_zero, List.set_cons_succ]
      refine hold_take (i := 5) (d := 36) (v := ?vA5) (listed' := #[true, true, true, true, true, true, false, false]) rfl (by kernel_rfl) (by kernel_rfl) (by kernel_rfl) rfl (by rfl) (by kernel_rfl) G7 ?hA5 ?rA5
      case hA5 =>
        intro w' hSw
        obtain ⟨k0, k1⟩ := hSw
        go_simp
        try with_reducible rfl
      simp only [List.setIfInBounds_toArray, List.set_cons_zero, List.set_cons_succ]
      refine hold_take (i := 6) (d := 37) (v := ?vA6) (listed' := #[true, true, true, true, true, true, true, false]) rfl (by kernel_rfl) (by kernel_rfl) (by kernel_rfl) rfl (by rfl) (by kernel_rfl) G7 ?hA6 ?rA6
      case hA6 =>
        intro w' hSw
        obtain ⟨k0, k1⟩ := hSw
        go_simp
        try with_reducible rfl
      simp only [List.setIfInBounds_toArray, List.set_cons_zero, List.set_cons_succ]
      refine hold_take (i := 7) (d := 6) (v := ?vA7) (listed' := #[true, true, true, true, true, true, true, true]) rfl (by kernel_rfl) (by kernel_rfl) (by kernel_rfl) rfl (by rfl) (by kernel_rfl) G7 ?hA7 ?rA7
      case hA7 =>
        intro w' hSw
        obtain ⟨k0, k1⟩ := hSw
        go_simp
        try with_reducible rfl
      simp only [List.setIfInBounds_toArray, List.set_cons_zero, List.set_cons_succ]
      refine hold_done (by kernel_rfl) ?_ _
      rw [N3.out]
      cases hs : subV m m.n zz x with
      | false =>
        clear hs N1 N2 N3
        go_upto_region 10 with fail
        have Hd := H7.step (Below.refl _ w7).drew
        have G0 : (fun w' => w'.cell? ⟨w1.heap.size, 0, none⟩ = some (.slice ua m.n l.cap) ∧ w'.cell? ⟨w1.heap.size, 1, none⟩ = some (.slice (some ⟨g, o2, none⟩) m.n nc)) w7.drew := ⟨Hd.box.c0, Hd.box.c1⟩
        refine region_plain (fuel := 24) (listed := #[false, false, false, false, false, false, false, false, false, false, false, false, false, false, false, false, false, false, false, false, false, false, false, false]) (fun w' => w'.cell? ⟨w1.heap.size, 0, none⟩ = some (.slice ua m.n l.cap) ∧ w'.cell? ⟨w1.heap.size, 1, none⟩ = some (.slice (some ⟨g, o2, none⟩) m.n nc)) (by kernel_rfl) (by kernel_rfl) (by kernel_rfl) ?_
        refine hold_take (i := 0) (d := 38) (v := ?vB0) (listed' := #[true, false, false, false, false, false, false, false, false, false, false, false, false, false, false, false, false, false, false, false, false, false, false, false]) rfl (by kernel_rfl) (by kernel_rfl) (by kernel_rfl) rfl (by rfl) (by kernel_rfl) G0 ?hB0 ?rB0
        case hB0 =>
          intro w' hSw
          obtain ⟨k0, k1⟩ := hSw
          go_simp
          try with_reducible rfl
        simp only [List.setIfInBounds_toArray, List.set_cons_zero, List.set_cons_succ]
        refine hold_take (i := 1) (d := 39) (v := ?vB1) (listed' := #[true, true, false, false, false, false, false, false, false, false, false, false, false, false, false, false, false, false, false, false, false, false, false, false]) rfl (by kernel_rfl) (by kernel_rfl) (by kernel_rfl) rfl (by rfl) (by kernel_rfl) G0 ?hB1 ?rB1
        case hB1 =>
          intro w' hSw
          obtain ⟨k0, k1⟩ := hSw
          go_simp
          try with_reducible rfl
        simp only [List.setIfInBounds_toArray, List.set_cons_zero, List.set_cons_succ]
        refine hold_take (i := 2) (d := 40) (v := ?vB2) (listed' := #[true, true, true, false, false, false, false, false, false, false, false, false, false, false, false, false, false, false, false, false, false, false, false, false]) rfl (by kernel_rfl) (by kernel_rfl) (by kernel_rfl) rfl (by rfl) (by kernel_rfl) G0 ?hB2 ?rB2
        case hB2 =>
          intro w' hSw
          obtain ⟨k0, k1⟩ := hSw
          go_simp
          try with_reducible rfl
        simp only [List.setIfInBounds_toArray, List.set_cons_zero, List.set_cons_succ]
        refine hold_skip (i := 3) (d := 41) (listed' := #[true, true, true, true, false, false, false, false, false, false, false, false, false, false, false, false, false, false, false, false, false, false, false, false]) rfl (by kernel_rfl) (by kernel_rfl) (by kernel_rfl) rfl (by rfl) (by kernel_rfl) G0 ?_
        simp only [List.setIfInBounds_toArray, List.set_cons_zero, List.set_cons_succ]
        refine hold_skip (i := 4) (d := 42) (listed' := #[true, true, true, true, true, false, false, false, false, false, false, false, false, false, false, false, false, false, false, false, false, false, false, false]) rfl (by kernel_rfl) (by kernel_rfl) (by kernel_rfl) rfl (by rfl) (by kernel_rfl) G0 ?_
        simp only [List.setIfInBounds_toArray, List.set_cons_zero, List.set_cons_succ]
        refine hold_skip (i := 5) (d := 43) (listed' := #[true, true, true, true, true, true, false, false, false, false, false, false, false, false, false, false, false, false, false, false, false, false, false, false]) rfl (by kernel_rfl) (by kernel_rfl) (by kernel_rfl) rfl (by rfl) (by kernel_rfl) G0 ?_
        simp only [List.setIfInBounds_toArray, List.set_cons_zero, List.set_cons_succ]
        refine hold_skip (i := 6) (d := 44) (listed' := #[true, true, true, true, true, true, true, false, false, false, false, false, false, false, false, false, false, false, false, false, false, false, false, false]) rfl (by kernel_rfl) (by kernel_rfl) (by kernel_rfl) rfl (by rfl) (by kernel_rfl) G0 ?_
        simp only [List.setIfInBounds_toArray, List.set_cons_zero, List.set_cons_succ]
        refine hold_skip (i := 7) (d := 45) (listed' := #[true, true, true, true, true, true, true, true, false, false, false, false, false, false, false, false, false, false, false, false, false, false, false, false]) rfl (by kernel_rfl) (by kernel_rfl) (by kernel_rfl) rfl (by rfl) (by kernel_rfl) G0 ?_
        simp only [List.setIfInBounds_toArray, List.set_cons_zero, List.set_cons_succ]
        refine hold_take (i := 8) (d := 46) (v := ?vB8) (listed' := #[true, true, true, true, true, true, true, true, true, false, false, false, false, false, false, false, false, false, false, false, false, false, false, false]) rfl (by kernel_rfl) (by kernel_rfl) (by kernel_rfl) rfl (by rfl) (by kernel_rfl) G0 ?hB8 ?rB8
        case hB8 =>
          intro w' hSw
          obtain ⟨k0, k1⟩ := hSw
          go_simp
          try with_reducible rfl
        simp only [List.setIfInBounds_toArray, List.set_cons_zero, List.set_cons_succ]
        refine hold_take (i := 9) (d := 47) (v := ?vB9) (listed' := #[true, true, true, true, true, true, true, true, true, true, false, false, false, false, false, false, false, false, false, false, false, false, false, false]) rfl (by kernel_rfl) (by kernel_rfl) (by kernel_rfl) rfl (by rfl) (by kernel_rfl) G0 ?hB9 ?rB9
        case hB9 =>
          intro w' hSw
          obtain ⟨k0, k1⟩ := hSw
          go_simp
          try with_reducible rfl
        simp only [List.setIfInBounds_toArray, List.set_cons_zero, List.set_cons_succ]
        refine hold_take (i := 10) (d := 48) (v := ?vB10) (listed' := #[true, true, true, true, true, true, true, true, true, true, true, false, false, false, false, false, false, false, false, false, false, false, false, false]) rfl (by kernel_rfl) (by kernel_rfl) (by kernel_rfl) rfl (by rfl) (by kernel_rfl) G0 ?hB10 ?rB10
        case hB10 =>
          intro w' hSw
          obtain ⟨k0, k1⟩ := hSw
          go_simp
          try with_reducible rfl
        simp only [List.setIfInBounds_toArray, List.set_cons_zero, List.set_cons_succ]
        refine hold_take (i := 11) (d := 49) (v := ?vB11) (listed' := #[true, true, true, true, true, true, true, true, true, true, true, true, false, false, false, false, false, false, false, false, false, false, false, false]) rfl (by kernel_rfl) (by kernel_rfl) (by kernel_rfl) rfl (by rfl) (by kernel_rfl) G0 ?hB11 ?rB11
        case hB11 =>
          intro w' hSw
          obtain ⟨k0, k1⟩ := hSw
          go_simp
          try with_reducible rfl
        simp only [List.setIfInBounds_toArray, List.set_cons_zero, List.set_cons_succ]
        refine hold_call (i := 12) (d := 50) (listed' := #[true, true, true, true, true, true, true, true, true, true, true, true, true, false, false, false, false, false, false, false, false, false, false, false]) rfl (by kernel_rfl) rfl (by rfl) (by kernel_rfl) ?heB12 (SubOk_any (nc := nc) (x := ((2 ^ o3 ||| 2 ^ y o3 : Nat) : Int)) Hd.log (HT.out.step Hd.old HT.out.size)) ?hcB12
        case heB12 => go_simp
        rintro e w8 ⟨rfl, b8⟩
        rw [N4.out]
        have H8 := Hd.step b8
        have G8 : (fun w' => w'.cell? ⟨w1.heap.size, 0, none⟩ = some (.slice ua m.n l.cap) ∧ w'.cell? ⟨w1.heap.size, 1, none⟩ = some (.slice (some ⟨g, o2, none⟩) m.n nc)) w8 := ⟨H8.box.c0, H8.box.c1⟩
        refine ⟨_, rfl, G8, ?_⟩
        simp only [List.setIfInBounds_toArray, List.set_cons_zero, List.set_cons_succ]
        refine hold_take (i := 13) (d := 51) (v := ?vB13) (listed' := #[true, true, true, true, true, true, true, true, true, true, true, true, true, true, false, false, false, false, false, false, false, false, false, false]) rfl (by kernel_rfl) (by kernel_rfl) (by kernel_rfl) rfl (by rfl) (by kernel_rfl) G8 ?hB13 ?rB13
        case hB13 =>
          intro w' hSw
          obtain ⟨k0, k1⟩ := hSw
          go_simp
          try with_reducible rfl
        simp only [List.setIfInBounds_toArray, List.set_cons_zero, List.set_cons_succ]
        refine hold_take (i := 14) (d := 52) (v := ?vB14) (listed' := #[true, true, true, true, true, true, true, true, true, true, true, true, true, true, true, false, false, false, false, false, false, false, false, false]) rfl (by kernel_rfl) (by kernel_rfl) (by kernel_rfl) rfl (by rfl) (by kernel_rfl) G8 ?hB14 ?rB14
        case hB14 =>
          intro w' hSw
          obtain ⟨k0, k1⟩ := hSw
          go_simp
          try with_reducible rfl
        simp only [List.setIfInBounds_toArray, List.set_cons_zero, List.set_cons_succ]
        refine hold_take (i := 15) (d := 53) (v := ?vB15) (listed' := #[true, true, true, true, true, true, true, true, true, true, true, true, true, true, true, true, false, false, false, false, false, false, false, false]) rfl (by kernel_rfl) (by kernel_rfl) (by kernel_rfl) rfl (by rfl) (by kernel_rfl) G8 ?hB15 ?rB15
        case hB15 =>
          intro w' hSw
          obtain ⟨k0, k1⟩ := hSw
          go_simp
          try with_reducible rfl
        simp only [List.setIfInBounds_toArray, List.set_cons_zero, List.set_cons_succ]
        refine hold_take (i := 16) (d := 54) (v := ?vB16) (listed' := #[true, true, true, true, true, true, true, true, true, true, true, true, true, true, true, true, true, false, false, false, false, false, false, false]) rfl (by kernel_rfl) (by kernel_rfl) (by kernel_rfl) rfl (by rfl) (by kernel_rfl) G8 ?hB16 ?rB16
        case hB16 =>
          intro w' hSw
          obtain ⟨k0, k1⟩ := hSw
          go_simp
          try with_reducible rfl
        simp only [List.setIfInBounds_toArray, List.set_cons_zero, List.set_cons_succ]
        refine hold_take (i := 17) (d := 55) (v := ?vB17) (listed' := #[true, true, true, true, true, true, true, true, true, true, true, true, true, true, true, true, true, true, false, false, false, false, false, false]) rfl (by kernel_rfl) (by kernel_rfl) (by kernel_rfl) rfl (by rfl) (by kernel_rfl) G8 ?hB17 ?rB17
        case hB17 =>
          intro w' hSw
          obtain ⟨k0, k1⟩ := hSw
          go_simp
          try with_reducible rfl
        simp only [List.setIfInBounds_toArray, List.set_cons_zero, List.set_cons_succ]
        refine hold_take (i := 18) (d := 56) (v := ?vB18) (listed' := #[true, true, true, true, true, true, true, true, true, true, true, true, true, true, true, true, true, true, true, false, false, false, false, false]) rfl (by kernel_rfl) (by kernel_rfl) (by kernel_rfl) rfl (by rfl) (by kernel_rfl) G8 ?hB18 ?rB18
        case hB18 =>
          intro w' hSw
          obtain ⟨k0, k1⟩ := hSw
          go_simp
          try with_reducible rfl
        simp only [List.setIfInBounds_toArray, List.set_cons_zero, List.set_cons_succ]
        refine hold_take (i := 19) (d := 57) (v := ?vB19) (listed' := #[true, true, true, true, true, true, true, true, true, true, true, true, true, true, true, true, true, true, true, true, false, false, false, false]) rfl (by kernel_rfl) (by kernel_rfl) (by kernel_rfl) rfl (by rfl) (by kernel_rfl) G8 ?hB19 ?rB19
        case hB19 =>
          intro w' hSw
          obtain ⟨k0, k1⟩ := hSw
          go_simp
          try with_reducible rfl
        simp only [List.setIfInBounds_toArray, List.set_cons_zero, List.set_cons_succ]
        refine hold_take (i := 20) (d := 58) (v := ?vB20) (listed' := #[true, true, true, true, true, true, true, true, true, true, true, true, true, true, true, true, true, true, true, true, true, false, false, false]) rfl (by kernel_rfl) (by kernel_rfl) (by kernel_rfl) rfl (by rfl) (by kernel_rfl) G8 ?hB20 ?rB20
        case hB20 =>
          intro w' hSw
          obtain ⟨k0, k1⟩ := hSw
          go_simp
          try with_reducible rfl
        simp only [List.setIfInBounds_toArray, List.set_cons_zero, List.set_cons_succ]
        refine hold_call (i := 21) (d := 59) (listed' := #[true, true, true, true, true, true, true, true, true, true, true, true, true, true, true, true, true, true, true, true, true, true, false, false]) rfl (by kernel_rfl) rfl (by rfl) (by kernel_rfl) ?heB21 (SubOk_any (nc := nc) (x := IntKind.i64.wrap (IntKind.i64.wrap (2 ^ m.n) - 1)) H8.log (HT.out.step H8.old HT.out.size)) ?hcB21
        case heB21 => go_simp
        rintro e w9 ⟨rfl, b9⟩
        rw [N5.out]
        have H9 := H8.step b9
        have G9 : (fun w' => w'.cell? ⟨w1.heap.size, 0, none⟩ = some (.slice ua m.n l.cap) ∧ w'.cell? ⟨w1.heap.size, 1, none⟩ = some (.slice (some ⟨g, o2, none⟩) m.n nc)) w9 := ⟨H9.box.c0, H9.box.c1⟩
        refine ⟨_, rfl, G9, ?_⟩
        simp only [List.setIfInBounds_toArray, List.set_cons_zero, List.set_cons_succ]
        refine hold_take (i := 22) (d := 60) (v := ?vB22) (listed' := #[true, true, true, true, true, true, true, true, true, true, true, true, true, true, true, true, true, true, true, true, true, true, true, false]) rfl (by kernel_rfl) (by kernel_rfl) (by kernel_rfl) rfl (by rfl) (by kernel_rfl) G9 ?hB22 ?rB22
        case hB22 =>
          intro w' hSw
          obtain ⟨k0, k1⟩ := hSw
          go_simp
          try with_reducible rfl
        simp only [List.setIfInBounds_toArray, List.set_cons_zero, List.set_cons_succ]
        refine hold_take (i := 23) (d := 2) (v := ?vB23) (listed' := #[true, true, true, true, true, true, true, true, true, true, true, true, true, true, true, true, true, true, true, true, true, true, true, true]) rfl (by kernel_rfl) (by kernel_rfl) (by kernel_rfl) rfl (by rfl) (by kernel_rfl) G9 ?hB23 ?rB23
        case hB23 =>
          intro w' hSw
          obtain ⟨k0, k1⟩ := hSw
          go_simp
          try with_reducible rfl
        simp only [List.setIfInBounds_toArray, List.set_cons_zero, List.set_cons_succ]
        refine hold_done (by kernel_rfl) ?_ _
        go_wp2_with fail
        go_ret
        exact ⟨rfl, H9.old⟩
      | true =>
        have hin : 1 ≤ x ∧ x < (2 ^ m.n : Nat) := by
          unfold subV at hs
          rw [Bool.and_eq_true, Bool.and_eq_true] at hs
          exact of_decide_eq_true hs.1.2
        obtain ⟨s, rfl⟩ := Int.eq_ofNat_of_zero_le (show 0 ≤ x by omega)
        have j1 : 1 ≤ s := by omega
        have j2 : s < 2 ^ m.n := by omega
        rw [subV_is HO.out j1 j2] at hs
        have hcl := closedB_is hs
        have hs1 := hcl.no HO.out j2 j1
        have hs2 := hcl.not o3 hoo hs1
        have hsub : Sub (2 ^ o3 ||| 2 ^ y o3) s := sub_or (sub_one hs1) (sub_one hs2)
        have hand : s &&& (2 ^ o3 ||| 2 ^ y o3) = (2 ^ o3 ||| 2 ^ y o3) := Nat.eq_of_testBit_eq fun i => by
          rw [Nat.testBit_and]
          cases gi : (2 ^ o3 ||| 2 ^ y o3).testBit i with
          | false => simp
          | true => rw [hsub i gi]; rfl
        have N6 : bits .and .i64 (s : Int) ((2 ^ o3 ||| 2 ^ y o3 : Nat) : Int) = ((2 ^ o3 ||| 2 ^ y o3 : Nat) : Int) := by
          have hp := pow_le_12 h12
          have hE := or_lt (n := 12) (one_lt (show o3 < 12 by omega)) (one_lt (show y o3 < 12 by omega))
          rw [i64_and_nat s _ (Nat.lt_trans (Nat.lt_of_lt_of_le j2 hp) (by decide)) (Nat.lt_trans hE (by decide)), hand]
        clear hs N1 N2 N3 hcl hs1 hs2 hsub hand hin j1 j2
        go_upto_region 10 with fail
        have Hd := H7.step (Below.refl _ w7).drew
        have G0 : (fun w' => w'.cell? ⟨w1.heap.size, 0, none⟩ = some (.slice ua m.n l.cap) ∧ w'.cell? ⟨w1.heap.size, 1, none⟩ = some (.slice (some ⟨g, o2, none⟩) m.n nc)) w7.drew := ⟨Hd.box.c0, Hd.box.c1⟩
        refine region_plain (fuel := 24) (listed := #[false, false, false, false, false, false, false, false, false, false, false, false, false, false, false, false, false, false, false, false, false, false, false, false]) (fun w' => w'.cell? ⟨w1.heap.size, 0, none⟩ = some (.slice ua m.n l.cap) ∧ w'.cell? ⟨w1.heap.size, 1, none⟩ = some (.slice (some ⟨g, o2, none⟩) m.n nc)) (by kernel_rfl) (by kernel_rfl) (by kernel_rfl) ?_
        refine hold_take (i := 0) (d := 38) (v := ?vC0) (listed' := #[true, false, false, false, false, false, false, false, false, false, false, false, false, false, false, false, false, false, false, false, false, false, false, false]) rfl (by kernel_rfl) (by kernel_rfl) (by kernel_rfl) rfl (by rfl) (by kernel_rfl) G0 ?hC0 ?rC0
        case hC0 =>
          intro w' hSw
          obtain ⟨k0, k1⟩ := hSw
          go_simp
          try with_reducible rfl
        simp only [List.setIfInBounds_toArray, List.set_cons_zero, List.set_cons_succ]
        refine hold_take (i := 1) (d := 39) (v := ?vC1) (listed' := #[true, true, false, false, false, false, false, false, false, false, false, false, false, false, false, false, false, false, false, false, false, false, false, false]) rfl (by kernel_rfl) (by kernel_rfl) (by kernel_rfl) rfl (by rfl) (by kernel_rfl) G0 ?hC1 ?rC1
        case hC1 =>
          intro w' hSw
          obtain ⟨k0, k1⟩ := hSw
          go_simp
          try with_reducible rfl
        simp only [List.setIfInBounds_toArray, List.set_cons_zero, List.set_cons_succ]
        refine hold_take (i := 2) (d := 40) (v := ?vC2) (listed' := #[true, true, true, false, false, false, false, false, false, false, false, false, false, false, false, false, false, false, false, false, false, false, false, false]) rfl (by kernel_rfl) (by kernel_rfl) (by kernel_rfl) rfl (by rfl) (by kernel_rfl) G0 ?hC2 ?rC2
        case hC2 =>
          intro w' hSw
          obtain ⟨k0, k1⟩ := hSw
          go_simp
          try with_reducible rfl
        simp only [List.setIfInBounds_toArray, List.set_cons_zero, List.set_cons_succ]
        refine hold_take (i := 3) (d := 41) (v := ?vC3) (listed' := #[true, true, true, true, false, false, false, false, false, false, false, false, false, false, false, false, false, false, false, false, false, false, false, false]) rfl (by kernel_rfl) (by kernel_rfl) (by kernel_rfl) rfl (by rfl) (by kernel_rfl) G0 ?hC3 ?rC3
        case hC3 =>
          intro w' hSw
          obtain ⟨k0, k1⟩ := hSw
          go_simp
          try with_reducible rfl
        simp only [List.setIfInBounds_toArray, List.set_cons_zero, List.set_cons_succ]
        refine hold_take (i := 4) (d := 42) (v := ?vC4) (listed' := #[true, true, true, true, true, false, false, false, false, false, false, false, false, false, false, false, false, false, false, false, false, false, false, false]) rfl (by kernel_rfl) (by kernel_rfl) (by kernel_rfl) rfl (by rfl) (by kernel_rfl) G0 ?hC4 ?rC4
        case hC4 =>
          intro w' hSw
          obtain ⟨k0, k1⟩ := hSw
          go_simp
          try with_reducible rfl
        simp only [List.setIfInBounds_toArray, List.set_cons_zero, List.set_cons_succ]
        refine hold_take (i := 5) (d := 43) (v := ?vC5) (listed' := #[true, true, true, true, true, true, false, false, false, false, false, false, false, false, false, false, false, false, false, false, false, false, false, false]) rfl (by kernel_rfl) (by kernel_rfl) (by kernel_rfl) rfl (by rfl) (by kernel_rfl) G0 ?hC5 ?rC5
        case hC5 =>
          intro w' hSw
          obtain ⟨k0, k1⟩ := hSw
          go_simp
          try with_reducible rfl
        simp only [List.setIfInBounds_toArray, List.set_cons_zero, List.set_cons_succ]
        refine hold_take (i := 6) (d := 44) (v := ?vC6) (listed' := #[true, true, true, true, true, true, true, false, false, false, false, false, false, false, false, false, false, false, false, false, false, false, false, false]) rfl (by kernel_rfl) (by kernel_rfl) (by kernel_rfl) rfl (by rfl) (by kernel_rfl) G0 ?hC6 ?rC6
        case hC6 =>
          intro w' hSw
          obtain ⟨k0, k1⟩ := hSw
          go_simp
          try with_reducible rfl
        simp only [List.setIfInBounds_toArray, List.set_cons_zero, List.set_cons_succ]
        refine hold_take (i := 7) (d := 45) (v := ?vC7) (listed' := #[true, true, true, true, true, true, true, true, false, false, false, false, false, false, false, false, false, false, false, false, false, false, false, false]) rfl (by kernel_rfl) (by kernel_rfl) (by kernel_rfl) rfl (by rfl) (by kernel_rfl) G0 ?hC7 ?rC7
        case hC7 =>
          intro w' hSw
          obtain ⟨k0, k1⟩ := hSw
          go_simp
          try with_reducible rfl
        simp only [List.setIfInBounds_toArray, List.set_cons_zero, List.set_cons_succ]
        refine hold_take (i := 8) (d := 46) (v := ?vC8) (listed' := #[true, true, true, true, true, true, true, true, true, false, false, false, false, false, false, false, false, false, false, false, false, false, false, false]) rfl (by kernel_rfl) (by kernel_rfl) (by kernel_rfl) rfl (by rfl) (by kernel_rfl) G0 ?hC8 ?rC8
        case hC8 =>
          intro w' hSw
          obtain ⟨k0, k1⟩ := hSw
          go_simp
          try with_reducible rfl
        simp only [List.setIfInBounds_toArray, List.set_cons_zero, List.set_cons_succ]
        refine hold_take (i := 9) (d := 47) (v := ?vC9) (listed' := #[true, true, true, true, true, true, true, true, true, true, false, false, false, false, false, false, false, false, false, false, false, false, false, false]) rfl (by kernel_rfl) (by kernel_rfl) (by kernel_rfl) rfl (by rfl) (by kernel_rfl) G0 ?hC9 ?rC9
        case hC9 =>
          intro w' hSw
          obtain ⟨k0, k1⟩ := hSw
          go_simp
          try with_reducible rfl
        simp only [List.setIfInBounds_toArray, List.set_cons_zero, List.set_cons_succ]
        refine hold_take (i := 10) (d := 48) (v := ?vC10) (listed' := #[true, true, true, true, true, true, true, true, true, true, true, false, false, false, false, false, false, false, false, false, false, false, false, false]) rfl (by kernel_rfl) (by kernel_rfl) (by kernel_rfl) rfl (by rfl) (by kernel_rfl) G0 ?hC10 ?rC10
        case hC10 =>
          intro w' hSw
          obtain ⟨k0, k1⟩ := hSw
          go_simp
          try with_reducible rfl
        simp only [List.setIfInBounds_toArray, List.set_cons_zero, List.set_cons_succ]
        refine hold_take (i := 11) (d := 49) (v := ?vC11) (listed' := #[true, true, true, true, true, true, true, true, true, true, true, true, false, false, false, false, false, false, false, false, false, false, false, false]) rfl (by kernel_rfl) (by kernel_rfl) (by kernel_rfl) rfl (by rfl) (by kernel_rfl) G0 ?hC11 ?rC11
        case hC11 =>
          intro w' hSw
          obtain ⟨k0, k1⟩ := hSw
          go_simp
          try with_reducible rfl
        simp only [List.setIfInBounds_toArray, List.set_cons_zero, List.set_cons_succ]
        refine hold_call (i := 12) (d := 50) (listed' := #[true, true, true, true, true, true, true, true, true, true, true, true, true, false, false, false, false, false, false, false, false, false, false, false]) rfl (by kernel_rfl) rfl (by rfl) (by kernel_rfl) ?heC12 (SubOk_any (nc := nc) (x := ((2 ^ o3 ||| 2 ^ y o3 : Nat) : Int)) Hd.log (HT.out.step Hd.old HT.out.size)) ?hcC12
        case heC12 => go_simp
        rintro e w8 ⟨rfl, b8⟩
        rw [N4.out]
        have H8 := Hd.step b8
        have G8 : (fun w' => w'.cell? ⟨w1.heap.size, 0, none⟩ = some (.slice ua m.n l.cap) ∧ w'.cell? ⟨w1.heap.size, 1, none⟩ = some (.slice (some ⟨g, o2, none⟩) m.n nc)) w8 := ⟨H8.box.c0, H8.box.c1⟩
        refine ⟨_, rfl, G8, ?_⟩
        simp only [List.setIfInBounds_toArray, List.set_cons_zero, List.set_cons_succ]
        refine hold_take (i := 13) (d := 51) (v := ?vC13) (listed' := #[true, true, true, true, true, true, true, true, true, true, true, true, true, true, false, false, false, false, false, false, false, false, false, false]) rfl (by kernel_rfl) (by kernel_rfl) (by kernel_rfl) rfl (by rfl) (by kernel_rfl) G8 ?hC13 ?rC13
        case hC13 =>
          intro w' hSw
          obtain ⟨k0, k1⟩ := hSw
          go_simp
          try with_reducible rfl
        simp only [List.setIfInBounds_toArray, List.set_cons_zero, List.set_cons_succ]
        refine hold_take (i := 14) (d := 52) (v := ?vC14) (listed' := #[true, true, true, true, true, true, true, true, true, true, true, true, true, true, true, false, false, false, false, false, false, false, false, false]) rfl (by kernel_rfl) (by kernel_rfl) (by kernel_rfl) rfl (by rfl) (by kernel_rfl) G8 ?hC14 ?rC14
        case hC14 =>
          intro w' hSw
          obtain ⟨k0, k1⟩ := hSw
          go_simp
          try with_reducible rfl
        simp only [List.setIfInBounds_toArray, List.set_cons_zero, List.set_cons_succ]
        refine hold_take (i := 15) (d := 53) (v := ?vC15) (listed' := #[true, true, true, true, true, true, true, true, true, true, true, true, true, true, true, true, false, false, false, false, false, false, false, false]) rfl (by kernel_rfl) (by kernel_rfl) (by kernel_rfl) rfl (by rfl) (by kernel_rfl) G8 ?hC15 ?rC15
        case hC15 =>
          intro w' hSw
          obtain ⟨k0, k1⟩ := hSw
          go_simp
          try with_reducible rfl
        simp only [List.setIfInBounds_toArray, List.set_cons_zero, List.set_cons_succ]
        refine hold_take (i := 16) (d := 54) (v := ?vC16) (listed' := #[true, true, true, true, true, true, true, true, true, true, true, true, true, true, true, true, true, false, false, false, false, false, false, false]) rfl (by kernel_rfl) (by kernel_rfl) (by kernel_rfl) rfl (by rfl) (by kernel_rfl) G8 ?hC16 ?rC16
        case hC16 =>
          intro w' hSw
          obtain ⟨k0, k1⟩ := hSw
          go_simp
          try with_reducible rfl
        simp only [List.setIfInBounds_toArray, List.set_cons_zero, List.set_cons_succ]
        refine hold_take (i := 17) (d := 55) (v := ?vC17) (listed' := #[true, true, true, true, true, true, true, true, true, true, true, true, true, true, true, true, true, true, false, false, false, false, false, false]) rfl (by kernel_rfl) (by kernel_rfl) (by kernel_rfl) rfl (by rfl) (by kernel_rfl) G8 ?hC17 ?rC17
        case hC17 =>
          intro w' hSw
          obtain ⟨k0, k1⟩ := hSw
          go_simp
          try with_reducible rfl
        simp only [List.setIfInBounds_toArray, List.set_cons_zero, List.set_cons_succ]
        refine hold_take (i := 18) (d := 56) (v := ?vC18) (listed' := #[true, true, true, true, true, true, true, true, true, true, true, true, true, true, true, true, true, true, true, false, false, false, false, false]) rfl (by kernel_rfl) (by kernel_rfl) (by kernel_rfl) rfl (by rfl) (by kernel_rfl) G8 ?hC18 ?rC18
        case hC18 =>
          intro w' hSw
          obtain ⟨k0, k1⟩ := hSw
          go_simp
          try with_reducible rfl
        simp only [List.setIfInBounds_toArray, List.set_cons_zero, List.set_cons_succ]
        refine hold_take (i := 19) (d := 57) (v := ?vC19) (listed' := #[true, true, true, true, true, true, true, true, true, true, true, true, true, true, true, true, true, true, true, true, false, false, false, false]) rfl (by kernel_rfl) (by kernel_rfl) (by kernel_rfl) rfl (by rfl) (by kernel_rfl) G8 ?hC19 ?rC19
        case hC19 =>
          intro w' hSw
          obtain ⟨k0, k1⟩ := hSw
          go_simp
          try with_reducible rfl
        simp only [List.setIfInBounds_toArray, List.set_cons_zero, List.set_cons_succ]
        refine hold_take (i := 20) (d := 58) (v := ?vC20) (listed' := #[true, true, true, true, true, true, true, true, true, true, true, true, true, true, true, true, true, true, true, true, true, false, false, false]) rfl (by kernel_rfl) (by kernel_rfl) (by kernel_rfl) rfl (by rfl) (by kernel_rfl) G8 ?hC20 ?rC20
        case hC20 =>
          intro w' hSw
          obtain ⟨k0, k1⟩ := hSw
          go_simp
          try with_reducible rfl
        simp only [List.setIfInBounds_toArray, List.set_cons_zero, List.set_cons_succ]
        refine hold_call (i := 21) (d := 59) (listed' := #[true, true, true, true, true, true, true, true, true, true, true, true, true, true, true, true, true, true, true, true, true, true, false, false]) rfl (by kernel_rfl) rfl (by rfl) (by kernel_rfl) ?heC21 (SubOk_any (nc := nc) (x := IntKind.i64.wrap (IntKind.i64.wrap (2 ^ m.n) - 1)) H8.log (HT.out.step H8.old HT.out.size)) ?hcC21
        case heC21 => go_simp
        rintro e w9 ⟨rfl, b9⟩
        rw [N5.out]
        have H9 := H8.step b9
        have G9 : (fun w' => w'.cell? ⟨w1.heap.size, 0, none⟩ = some (.slice ua m.n l.cap) ∧ w'.cell? ⟨w1.heap.size, 1, none⟩ = some (.slice (some ⟨g, o2, none⟩) m.n nc)) w9 := ⟨H9.box.c0, H9.box.c1⟩
        refine ⟨_, rfl, G9, ?_⟩
        simp only [List.setIfInBounds_toArray, List.set_cons_zero, List.set_cons_succ]
        refine hold_take (i := 22) (d := 60) (v := ?vC22) (listed' := #[true, true, true, true, true, true, true, true, true, true, true, true, true, true, true, true, true, true, true, true, true, true, true, false]) rfl (by kernel_rfl) (by kernel_rfl) (by kernel_rfl) rfl (by rfl) (by kernel_rfl) G9 ?hC22 ?rC22
        case hC22 =>
          intro w' hSw
          obtain ⟨k0, k1⟩ := hSw
          go_simp
          try with_reducible rfl
        simp only [List.setIfInBounds_toArray, List.set_cons_zero, List.set_cons_succ]
        refine hold_take (i := 23) (d := 2) (v := ?vC23) (listed' := #[true, true, true, true, true, true, true, true, true, true, true, true, true, true, true, true, true, true, true, true, true, true, true, true]) rfl (by kernel_rfl) (by kernel_rfl) (by kernel_rfl) rfl (by rfl) (by kernel_rfl) G9 ?hC23 ?rC23
        case hC23 =>
          intro w' hSw
          obtain ⟨k0, k1⟩ := hSw
          go_simp
          try with_reducible rfl
        simp only [List.setIfInBounds_toArray, List.set_cons_zero, List.set_cons_succ]
        refine hold_done (by kernel_rfl) ?_ _
        go_wp2_with fail
        go_ret
        exact ⟨rfl, H9.old⟩

end Go.Proofs.YthdokmcllppobaaDoor
