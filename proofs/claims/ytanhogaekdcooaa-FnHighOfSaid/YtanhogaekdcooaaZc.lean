/- The draw of HighOf and the law on it, walked at whatever code. -/
import Derived.Test.YtanhogaekdcooaaCi
import Derived.Test.YtanhogaekdcooaaDn
import Derived.Test.YtanhogaekdcooaaNa
import Derived.Test.YtanhogaekdcooaaNv
import Derived.Test.YtanhogaekdcooaaBg
namespace Go.Proofs.Ytanhogaekdcooaa
open Go.RowKit Go.Deep

set_option maxRecDepth 100000 in
set_option maxHeartbeats 2000000 in
theorem draw_HighOf {A : Option Addr} {b o n cap : Nat} {z : Nat → Nat} {w : World} (h : CodeAt w A b o n cap z) :
    Calls Try.prog 26 #[.slice A n cap] w (DrewN w) := by
  have hT := TwoAt.new w (.slice none 0 0) (.slice none 0 0) 26
  have hbA := (Below.refl w.heap.size w).alloc (Nat.le_refl _) (.cells #[.slice none 0 0, .slice none 0 0] 26)
  have hc := h.alloc (.cells #[.slice none 0 0, .slice none 0 0] 26)
  go_enter Try.func26, Try.ntmps26
  go_wp2_with fail
  go_at_call 41
  refine (l20Open_any hc).mono ?_
  rintro e w1 ⟨A1, b1, o1, n1, c1, z1, rfl, hn1, hR, hz, hb, hs⟩
  have hsA : (w.alloc (.cells #[.slice none 0 0, .slice none 0 0] 26)).heap.size = w.heap.size + 1 := by simp
  have hT1 := hT.below hb (by omega)
  rw [hsA] at hR hz hs
  have hs' : w.heap.size + 1 < w1.heap.size := by omega
  clear h hc hT hs
  go_wp2_with fail
  go_at_call 58
  refine (l20Two_any (by omega) (by omega) hn1 hR hz (Nat.le_refl _) hs').mono ?_
  rintro e w2 ⟨ua, l, m, na, g, o2, k, nc, zz, x, y, rfl, hlog, hf, hg, hn, hL, hk, hC⟩
  have hT2 := hC.two hT1 (by show ¬ (w.heap.size = w.heap.size + 1); omega)
  have hF : Fresh (w.alloc (.cells #[.slice none 0 0, .slice none 0 0] 26)) ua l m na g o2 k zz w2 := ⟨hlog, ⟨fun r hr => by have := hf.top r hr; omega, fun r hr c hc => by have := hf.row r hr c hc; omega⟩, fun h0 => by have := hg h0; omega, hn, hL, hk, hb.trans (hC.below (by omega) fun j hj => by have hj' : j = w.heap.size + 1 := hj; omega)⟩
  have hs2 : w.heap.size < w2.heap.size := by have := hC.size; omega
  have hall := Lib.hid ((hF.put hbA (by omega) (.slice ua m.n l.cap) (.slice na k nc)).alloc (.cells #[.slice ua m.n l.cap, .slice na k nc] 26))
  have hfin := (Chg.alloc (fun _ => False) _ (.cells #[.slice ua m.n l.cap, .slice na k nc] 26)).two ((hT2.set0 (.slice ua m.n l.cap)).set1 (.slice na k nc)) (fun h => h)
  have t0 := hfin.c0
  have t1 := hfin.c1
  have e0 := hT2.c0
  have e1 := hT2.c1
  have e2 := hT2.f0
  have e3 := hT2.f1
  clear hF hlog hf hC hT1 hT2 hfin hb hR hz
  go_wp2_with fail
  exact bodyPost_ret (v := .tuple #[.agg #[.slice ua m.n l.cap, .slice na k nc], .int .i64 x]) (by simp [results, Try.results26, go_sem, t0, t1]) rfl ⟨ua, l, m, na, g, o2, k, nc, zz, x, rfl, hall.out⟩

theorem Ortho.highV {m : Mx} {k : Nat} {z : Nat → Int} {y : Nat → Nat} {o a : Nat} (_ : Ortho m z y o) (hl : logicB m k z = true) (ha : a < m.n) : highV m k z (a : Int) = ((highN m a : Nat) : Int) := by
  have e2 : goodB m.n 1 (lone1 (a : Int)) = true := by rw [good_same]; exact good_mk (by omega) (by omega) (by omega) (by omega)
  unfold Proofs.Ytanhogaekdcooaa.highV
  rw [hl, e2]; rfl
theorem atoms_has {m : Mx} {z : Nat → Int} {y : Nat → Nat} {o a : Nat} (h : Ortho m z y o) (ha : a < m.n) : decide ((a : Int) ∈ atomsV m) = decide (highN m a = 1) := by
  have hat : atomsV m = atomsTo m m.n := atomsV_yes (orderB_true h.lat.order) (by rw [h.eq]; exact hasI_nat _)
  rw [Bool.eq_iff_iff, decide_eq_true_iff, decide_eq_true_iff, h.high_atom ha, hat, atomsTo_nat, List.mem_map]
  constructor
  · rintro ⟨c, hc, e⟩
    have e2 : c = a := by omega
    rw [← e2]
    exact ((atomsN_mem _).1 hc).2
  · intro e
    exact ⟨a, (atomsN_mem _).2 ⟨ha, e⟩, rfl⟩
theorem Ortho.high_yes {m : Mx} {z : Nat → Int} {y : Nat → Nat} {o a : Nat} (h : Ortho m z y o) (ha : a < m.n) (hne : a ≠ y o) : highN m a < highN m (y o) :=
  h.high_lt ha (h.lt o h.ho) (show m.Z a (y o) = 1 from OL.top (L := h.ol) ⟨a, ha⟩) hne

set_option maxRecDepth 100000 in
set_option maxHeartbeats 4000000 in
theorem law_HighOf {A : Option Addr} {b o n cap : Nat} {z : Nat → Nat} {w : World} (h : CodeAt w A b o n cap z) :
    Calls Try.prog 5 #[.slice A n cap] w fun e w' => e = .returned (.bool true) ∧ Below w.heap.size w w' := by
  have hn := h.hn
  have hc := h.hc
  by_cases hbig : 1048576 < n
  · have hbig' : (1048576 : Int) < n := by omega
    clear h
    go_enter Try.func5, Try.ntmps5
    go_wp2_with fail
    go_ret
    exact ⟨rfl, Below.refl _ _⟩
  · have hbig' : ¬ (1048576 : Int) < n := by omega
    go_enter Try.func5, Try.ntmps5
    go_wp2_with fail
    go_at_call 26
    refine (draw_HighOf h).mono ?_
    rintro e w1 ⟨ua, l, m, na, g, o2, k, nc, zz, x, rfl, hF⟩
    have H1 := Held.start hF nc
    clear h hF
    have q0 := H1.box.c0
    have q1 := H1.box.c1
    go_wp2_with fail
    go_at_call 27
    refine (HighOf_any H1.log).mono ?_
    rintro e w2 ⟨rfl, b2⟩
    have H2 := H1.step b2
    clear H1 q0 q1 b2
    have q0 := H2.box.c0
    have q1 := H2.box.c1
    go_wp2_with fail
    go_at_call 28
    refine (spec_HighOf H2.log).mono ?_
    rintro e w3 ⟨rfl, b3⟩
    have H3 := H2.step b3
    clear H2 q0 q1 b3
    have q0 := H3.box.c0
    have q1 := H3.box.c1
    cases hg : (logicB m k zz && goodB m.n 1 (lone1 x)) with
    | false =>
      have e : highV m k zz x = -1 := by unfold highV; rw [hg]; rfl
      rw [e]
      clear e hg
      go_wp2_with fail
      go_at_call 23
      refine (alive_any _).mono ?_
      rintro e w4 ⟨rfl, b4⟩
      have H4 := H3.step b4
      go_wp2_with fail
      go_ret
      exact ⟨rfl, H4.old⟩
    | true =>
      obtain ⟨a, o3, rfl, ha, rfl, hl, hle, hO0⟩ := one_parts hg
      obtain ⟨y, hy⟩ : ∃ y : Nat → Nat, y = fun c => (zz c).toNat := ⟨_, rfl⟩
      rw [← hy] at hO0
      have hO := hO0
      have HS := Lib.hid hO.lat.order.sq
      obtain ⟨e9, _, _⟩ := H3.log.mat.sq HS.out ha ha
      obtain rfl := e9
      have HO := Lib.hid hO
      have HL := Lib.hid hl
      obtain ⟨h, hh⟩ : ∃ h, highN m a = h := ⟨_, rfl⟩
      rw [hO.highV hl ha, hh]
      have HH := Lib.hid hh
      have hn12 := hO.lat.order.top
      have hh0 : ¬ ((h : Nat) : Int) < 0 := by omega
      have ha' : (a : Int) < m.n := by omega
      clear hg hle hy hO0 hO hl hh
      clear q0 q1
      go_wp2_with fail
      go_loopw [6] (fun i wr => ∃ j : Nat, j ≤ m.n ∧ i = .int .i64 j ∧ Below w3.heap.size w3 wr) (fun i _ => m.n - (intOf i).toNat)
      case atStart => exact ⟨0, Nat.zero_le _, rfl, Below.refl _ _⟩
      case round =>
        obtain ⟨j, hj, rfl, hD⟩ := hrel
        have Hr := H3.step hD
        have q0 := Hr.box.c0
        have q1 := Hr.box.c1
        by_cases hlt : j < m.n
        · have hlt' : (j : Int) < m.n := by omega
          by_cases hja : j = a
          · subst hja
            have n1 : ((j : Int) != (j : Int)) = false := by simp
            go_wp2_with fail
            go_roundw
            case rel => exact ⟨j + 1, by omega, by go_num, hD⟩
            case measure => simp [intOf]; omega
          · have n1 : ((j : Int) != (a : Int)) = true := by rw [bne_iff_ne]; omega
            obtain ⟨_, c1, c2⟩ := Hr.log.mat.sq HS.out hlt ha
            rcases leB_cases HS.out hlt ha with ⟨l1, z1⟩ | ⟨l1, z1⟩
            · rw [z1] at c2
              have hlo := HO.out.high_lt hlt ha z1 hja
              rw [HH.out] at hlo
              have HV := Lib.hid (HO.out.highV HL.out hlt)
              have hge : ¬ ((h : Nat) : Int) ≤ ((highN m j : Nat) : Int) := by omega
              clear l1 z1
              go_wp2_with fail
              go_at_call 27
              refine (HighOf_any (nc := nc) (x := (j : Int)) Hr.log).mono ?_
              rintro e w4 ⟨rfl, b4⟩
              rw [HV.out]
              have hD4 := hD.trans (b4.mono hD.size)
              clear q0 q1 c1 c2
              go_wp2_with fail
              go_roundw
              case rel => exact ⟨j + 1, by omega, by go_num, hD4⟩
              case measure => simp [intOf]; omega
            · rw [z1] at c2
              clear l1 z1
              go_wp2_with fail
              go_roundw
              case rel => exact ⟨j + 1, by omega, by go_num, hD⟩
              case measure => simp [intOf]; omega
        · have hlt' : ¬ (j : Int) < m.n := by omega
          obtain ⟨t, ht⟩ : ∃ t, y o3 = t := ⟨_, rfl⟩
          have htn : t < m.n := ht ▸ HO.out.lt o3 HO.out.ho
          have NO : Hid (noV m m.n zz = (o3 : Int)) := HO.out.noV HL.out
          have NY : Hid (yesV m m.n zz = (t : Int)) := by show _ = _; rw [HO.out.yesV HL.out, ht]
          obtain ⟨P, hP⟩ : ∃ P, decide (a = o3) = P := ⟨_, rfl⟩
          obtain ⟨Q, hQ⟩ : ∃ Q, decide (h = 1) = Q := ⟨_, rfl⟩
          have c1 : ((h : Int) == 0) = P := by
            have e := HO.out.high_no ha
            rw [HH.out] at e
            rw [← hP, Bool.eq_iff_iff, beq_iff_eq, decide_eq_true_iff, ← e]; omega
          have c2 : ((a : Int) == (o3 : Int)) = P := by rw [← hP, Bool.eq_iff_iff, beq_iff_eq, decide_eq_true_iff]; omega
          have c3 : ((h : Int) == 1) = Q := by rw [← hQ, Bool.eq_iff_iff, beq_iff_eq, decide_eq_true_iff]; omega
          have HM : Hid (decide ((a : Int) ∈ atomsV m) = Q) := by show _ = _; rw [atoms_has HO.out ha, HH.out, hQ]
          have c4 : (P == P) = true := by simp
          have c5 : (Q == Q) = true := by simp
          have hlenA : (atomsV m).length ≤ 1048576 := by
            have hat : atomsV m = atomsTo m m.n := atomsV_yes (orderB_true HO.out.lat.order) (by rw [HO.out.eq]; exact hasI_nat _)
            have := atomsTo_len m m.n
            rw [hat]; omega
          have HLA := Lib.hid hlenA
          clear hP hQ hlenA
          by_cases hat : a = t
          · have c6 : ((a : Int) == (t : Int)) = true := by rw [hat]; simp
            clear ht hat
            go_wp2_with fail
            have Hd0 := Lib.hid (Hr.step (Below.refl _ wr).drew)
            have K0 := (show _ ∧ _ from ⟨Hd0.out.box.c0, Hd0.out.box.c1⟩)
            clear H3 Hr q0 q1 hD
            refine region_plain (fuel := 32) (listed := #[false, false, false, false, false, false, false, false, false, false, false, false, false, false, false, false, false, false, false, false, false, false, false, false, false, false, false, false, false, false, false, false]) (fun w' => w'.cell? ⟨w1.heap.size, 0, none⟩ = some (.slice (some ⟨l.b, l.o, none⟩) m.n l.cap) ∧ w'.cell? ⟨w1.heap.size, 1, none⟩ = some (.slice na m.n nc)) (by kernel_rfl) (by kernel_rfl) (by kernel_rfl) ?_
            refine hold_take (i := 0) (d := 58) (v := ?vA0) (listed' := #[true, false, false, false, false, false, false, false, false, false, false, false, false, false, false, false, false, false, false, false, false, false, false, false, false, false, false, false, false, false, false, false]) rfl (by kernel_rfl) (by kernel_rfl) (by kernel_rfl) rfl (by rfl) (by kernel_rfl) K0 ?hA0 ?rA0
            case hA0 =>
              intro w' hSw
              obtain ⟨k0, k1⟩ := hSw
              go_simp
              try with_reducible rfl
            simp only [List.setIfInBounds_toArray, List.set_cons_zero, List.set_cons_succ]
            refine hold_take (i := 1) (d := 59) (v := ?vA1) (listed' := #[true, true, false, false, false, false, false, false, false, false, false, false, false, false, false, false, false, false, false, false, false, false, false, false, false, false, false, false, false, false, false, false]) rfl (by kernel_rfl) (by kernel_rfl) (by kernel_rfl) rfl (by rfl) (by kernel_rfl) K0 ?hA1 ?rA1
            case hA1 =>
              intro w' hSw
              obtain ⟨k0, k1⟩ := hSw
              go_simp
              try with_reducible rfl
            simp only [List.setIfInBounds_toArray, List.set_cons_zero, List.set_cons_succ]
            refine hold_take (i := 2) (d := 60) (v := ?vA2) (listed' := #[true, true, true, false, false, false, false, false, false, false, false, false, false, false, false, false, false, false, false, false, false, false, false, false, false, false, false, false, false, false, false, false]) rfl (by kernel_rfl) (by kernel_rfl) (by kernel_rfl) rfl (by rfl) (by kernel_rfl) K0 ?hA2 ?rA2
            case hA2 =>
              intro w' hSw
              obtain ⟨k0, k1⟩ := hSw
              go_simp
              try with_reducible rfl
            simp only [List.setIfInBounds_toArray, List.set_cons_zero, List.set_cons_succ]
            refine hold_take (i := 3) (d := 61) (v := ?vA3) (listed' := #[true, true, true, true, false, false, false, false, false, false, false, false, false, false, false, false, false, false, false, false, false, false, false, false, false, false, false, false, false, false, false, false]) rfl (by kernel_rfl) (by kernel_rfl) (by kernel_rfl) rfl (by rfl) (by kernel_rfl) K0 ?hA3 ?rA3
            case hA3 =>
              intro w' hSw
              obtain ⟨k0, k1⟩ := hSw
              go_simp
              try with_reducible rfl
            simp only [List.setIfInBounds_toArray, List.set_cons_zero, List.set_cons_succ]
            refine hold_call (i := 4) (d := 62) (listed' := #[true, true, true, true, true, false, false, false, false, false, false, false, false, false, false, false, false, false, false, false, false, false, false, false, false, false, false, false, false, false, false, false]) rfl (by kernel_rfl) rfl (by rfl) (by kernel_rfl) ?heA4 (NoOf_any (nc := nc) Hd0.out.log) ?hcA4
            case heA4 => go_simp
            rintro e x1 ⟨rfl, bb1⟩
            rw [NO.out]
            have Hd1 := Lib.hid (Hd0.out.step bb1)
            have K1 := (show _ ∧ _ from ⟨Hd1.out.box.c0, Hd1.out.box.c1⟩)
            clear Hd0 K0 bb1
            refine ⟨_, rfl, K1, ?_⟩
            simp only [List.setIfInBounds_toArray, List.set_cons_zero, List.set_cons_succ]
            refine hold_take (i := 5) (d := 63) (v := ?vA5) (listed' := #[true, true, true, true, true, true, false, false, false, false, false, false, false, false, false, false, false, false, false, false, false, false, false, false, false, false, false, false, false, false, false, false]) rfl (by kernel_rfl) (by kernel_rfl) (by kernel_rfl) rfl (by rfl) (by kernel_rfl) K1 ?hA5 ?rA5
            case hA5 =>
              intro w' hSw
              obtain ⟨k0, k1⟩ := hSw
              go_simp
              try with_reducible rfl
            simp only [List.setIfInBounds_toArray, List.set_cons_zero, List.set_cons_succ]
            refine hold_take (i := 6) (d := 64) (v := ?vA6) (listed' := #[true, true, true, true, true, true, true, false, false, false, false, false, false, false, false, false, false, false, false, false, false, false, false, false, false, false, false, false, false, false, false, false]) rfl (by kernel_rfl) (by kernel_rfl) (by kernel_rfl) rfl (by rfl) (by kernel_rfl) K1 ?hA6 ?rA6
            case hA6 =>
              intro w' hSw
              obtain ⟨k0, k1⟩ := hSw
              go_simp
              try with_reducible rfl
            simp only [List.setIfInBounds_toArray, List.set_cons_zero, List.set_cons_succ]
            refine hold_take (i := 7) (d := 65) (v := ?vA7) (listed' := #[true, true, true, true, true, true, true, true, false, false, false, false, false, false, false, false, false, false, false, false, false, false, false, false, false, false, false, false, false, false, false, false]) rfl (by kernel_rfl) (by kernel_rfl) (by kernel_rfl) rfl (by rfl) (by kernel_rfl) K1 ?hA7 ?rA7
            case hA7 =>
              intro w' hSw
              obtain ⟨k0, k1⟩ := hSw
              go_simp
              try with_reducible rfl
            simp only [List.setIfInBounds_toArray, List.set_cons_zero, List.set_cons_succ]
            refine hold_take (i := 8) (d := 66) (v := ?vA8) (listed' := #[true, true, true, true, true, true, true, true, true, false, false, false, false, false, false, false, false, false, false, false, false, false, false, false, false, false, false, false, false, false, false, false]) rfl (by kernel_rfl) (by kernel_rfl) (by kernel_rfl) rfl (by rfl) (by kernel_rfl) K1 ?hA8 ?rA8
            case hA8 =>
              intro w' hSw
              obtain ⟨k0, k1⟩ := hSw
              go_simp
              try with_reducible rfl
            simp only [List.setIfInBounds_toArray, List.set_cons_zero, List.set_cons_succ]
            refine hold_take (i := 9) (d := 67) (v := ?vA9) (listed' := #[true, true, true, true, true, true, true, true, true, true, false, false, false, false, false, false, false, false, false, false, false, false, false, false, false, false, false, false, false, false, false, false]) rfl (by kernel_rfl) (by kernel_rfl) (by kernel_rfl) rfl (by rfl) (by kernel_rfl) K1 ?hA9 ?rA9
            case hA9 =>
              intro w' hSw
              obtain ⟨k0, k1⟩ := hSw
              go_simp
              try with_reducible rfl
            simp only [List.setIfInBounds_toArray, List.set_cons_zero, List.set_cons_succ]
            refine hold_take (i := 10) (d := 68) (v := ?vA10) (listed' := #[true, true, true, true, true, true, true, true, true, true, true, false, false, false, false, false, false, false, false, false, false, false, false, false, false, false, false, false, false, false, false, false]) rfl (by kernel_rfl) (by kernel_rfl) (by kernel_rfl) rfl (by rfl) (by kernel_rfl) K1 ?hA10 ?rA10
            case hA10 =>
              intro w' hSw
              obtain ⟨k0, k1⟩ := hSw
              go_simp
              try with_reducible rfl
            simp only [List.setIfInBounds_toArray, List.set_cons_zero, List.set_cons_succ]
            refine hold_take (i := 11) (d := 69) (v := ?vA11) (listed' := #[true, true, true, true, true, true, true, true, true, true, true, true, false, false, false, false, false, false, false, false, false, false, false, false, false, false, false, false, false, false, false, false]) rfl (by kernel_rfl) (by kernel_rfl) (by kernel_rfl) rfl (by rfl) (by kernel_rfl) K1 ?hA11 ?rA11
            case hA11 =>
              intro w' hSw
              obtain ⟨k0, k1⟩ := hSw
              go_simp
              try with_reducible rfl
            simp only [List.setIfInBounds_toArray, List.set_cons_zero, List.set_cons_succ]
            refine hold_take (i := 13) (d := 71) (v := ?vA13) (listed' := #[true, true, true, true, true, true, true, true, true, true, true, true, false, true, false, false, false, false, false, false, false, false, false, false, false, false, false, false, false, false, false, false]) rfl (by kernel_rfl) (by kernel_rfl) (by kernel_rfl) rfl (by rfl) (by kernel_rfl) K1 ?hA13 ?rA13
            case hA13 =>
              intro w' hSw
              obtain ⟨k0, k1⟩ := hSw
              go_simp
              try with_reducible rfl
            simp only [List.setIfInBounds_toArray, List.set_cons_zero, List.set_cons_succ]
            refine hold_call (i := 12) (d := 70) (listed' := #[true, true, true, true, true, true, true, true, true, true, true, true, true, true, false, false, false, false, false, false, false, false, false, false, false, false, false, false, false, false, false, false]) rfl (by kernel_rfl) rfl (by rfl) (by kernel_rfl) ?heA12 (AtomsOf_any Hd1.out.log.hn Hd1.out.log.hL Hd1.out.log.mat Hd1.out.log.hB) ?hcA12
            case heA12 => go_simp
            rintro e x2 ⟨v2, rfl, hv2, bb2⟩
            rw [map_range] at hv2
            have Hd2 := Lib.hid (Hd1.out.step bb2)
            have K2 := (show _ ∧ _ from ⟨Hd2.out.box.c0, Hd2.out.box.c1⟩)
            clear Hd1 K1 bb2
            refine ⟨_, rfl, K2, ?_⟩
            simp only [List.setIfInBounds_toArray, List.set_cons_zero, List.set_cons_succ]
            refine hold_call (i := 14) (d := 72) (listed' := #[true, true, true, true, true, true, true, true, true, true, true, true, true, true, true, false, false, false, false, false, false, false, false, false, false, false, false, false, false, false, false, false]) rfl (by kernel_rfl) rfl (by rfl) (by kernel_rfl) ?heA14 (hasB_any (x := (a : Int)) HLA.out hv2) ?hcA14
            case heA14 => go_simp
            rintro e xq ⟨rfl, hx⟩
            subst hx
            rw [HM.out]
            refine ⟨_, rfl, K2, ?_⟩
            simp only [List.setIfInBounds_toArray, List.set_cons_zero, List.set_cons_succ]
            refine hold_take (i := 15) (d := 73) (v := ?vA15) (listed' := #[true, true, true, true, true, true, true, true, true, true, true, true, true, true, true, true, false, false, false, false, false, false, false, false, false, false, false, false, false, false, false, false]) rfl (by kernel_rfl) (by kernel_rfl) (by kernel_rfl) rfl (by rfl) (by kernel_rfl) K2 ?hA15 ?rA15
            case hA15 =>
              intro w' hSw
              obtain ⟨k0, k1⟩ := hSw
              go_simp
              try with_reducible rfl
            simp only [List.setIfInBounds_toArray, List.set_cons_zero, List.set_cons_succ]
            refine hold_take (i := 16) (d := 74) (v := ?vA16) (listed' := #[true, true, true, true, true, true, true, true, true, true, true, true, true, true, true, true, true, false, false, false, false, false, false, false, false, false, false, false, false, false, false, false]) rfl (by kernel_rfl) (by kernel_rfl) (by kernel_rfl) rfl (by rfl) (by kernel_rfl) K2 ?hA16 ?rA16
            case hA16 =>
              intro w' hSw
              obtain ⟨k0, k1⟩ := hSw
              go_simp
              try with_reducible rfl
            simp only [List.setIfInBounds_toArray, List.set_cons_zero, List.set_cons_succ]
            refine hold_take (i := 17) (d := 75) (v := ?vA17) (listed' := #[true, true, true, true, true, true, true, true, true, true, true, true, true, true, true, true, true, true, false, false, false, false, false, false, false, false, false, false, false, false, false, false]) rfl (by kernel_rfl) (by kernel_rfl) (by kernel_rfl) rfl (by rfl) (by kernel_rfl) K2 ?hA17 ?rA17
            case hA17 =>
              intro w' hSw
              obtain ⟨k0, k1⟩ := hSw
              go_simp
              try with_reducible rfl
            simp only [List.setIfInBounds_toArray, List.set_cons_zero, List.set_cons_succ]
            refine hold_take (i := 18) (d := 76) (v := ?vA18) (listed' := #[true, true, true, true, true, true, true, true, true, true, true, true, true, true, true, true, true, true, true, false, false, false, false, false, false, false, false, false, false, false, false, false]) rfl (by kernel_rfl) (by kernel_rfl) (by kernel_rfl) rfl (by rfl) (by kernel_rfl) K2 ?hA18 ?rA18
            case hA18 =>
              intro w' hSw
              obtain ⟨k0, k1⟩ := hSw
              go_simp
              try with_reducible rfl
            simp only [List.setIfInBounds_toArray, List.set_cons_zero, List.set_cons_succ]
            refine hold_take (i := 19) (d := 77) (v := ?vA19) (listed' := #[true, true, true, true, true, true, true, true, true, true, true, true, true, true, true, true, true, true, true, true, false, false, false, false, false, false, false, false, false, false, false, false]) rfl (by kernel_rfl) (by kernel_rfl) (by kernel_rfl) rfl (by rfl) (by kernel_rfl) K2 ?hA19 ?rA19
            case hA19 =>
              intro w' hSw
              obtain ⟨k0, k1⟩ := hSw
              go_simp
              try with_reducible rfl
            simp only [List.setIfInBounds_toArray, List.set_cons_zero, List.set_cons_succ]
            refine hold_call (i := 20) (d := 78) (listed' := #[true, true, true, true, true, true, true, true, true, true, true, true, true, true, true, true, true, true, true, true, true, false, false, false, false, false, false, false, false, false, false, false]) rfl (by kernel_rfl) rfl (by rfl) (by kernel_rfl) ?heA20 (YesOf_any (nc := nc) Hd2.out.log) ?hcA20
            case heA20 => go_simp
            rintro e x3 ⟨rfl, bb3⟩
            rw [NY.out]
            have Hd3 := Lib.hid (Hd2.out.step bb3)
            have K3 := (show _ ∧ _ from ⟨Hd3.out.box.c0, Hd3.out.box.c1⟩)
            clear Hd2 K2 bb3
            refine ⟨_, rfl, K3, ?_⟩
            simp only [List.setIfInBounds_toArray, List.set_cons_zero, List.set_cons_succ]
            refine hold_take (i := 21) (d := 79) (v := ?vA21) (listed' := #[true, true, true, true, true, true, true, true, true, true, true, true, true, true, true, true, true, true, true, true, true, true, false, false, false, false, false, false, false, false, false, false]) rfl (by kernel_rfl) (by kernel_rfl) (by kernel_rfl) rfl (by rfl) (by kernel_rfl) K3 ?hA21 ?rA21
            case hA21 =>
              intro w' hSw
              obtain ⟨k0, k1⟩ := hSw
              go_simp
              try with_reducible rfl
            simp only [List.setIfInBounds_toArray, List.set_cons_zero, List.set_cons_succ]
            refine hold_take (i := 22) (d := 80) (v := ?vA22) (listed' := #[true, true, true, true, true, true, true, true, true, true, true, true, true, true, true, true, true, true, true, true, true, true, true, false, false, false, false, false, false, false, false, false]) rfl (by kernel_rfl) (by kernel_rfl) (by kernel_rfl) rfl (by rfl) (by kernel_rfl) K3 ?hA22 ?rA22
            case hA22 =>
              intro w' hSw
              obtain ⟨k0, k1⟩ := hSw
              go_simp
              try with_reducible rfl
            simp only [List.setIfInBounds_toArray, List.set_cons_zero, List.set_cons_succ]
            refine hold_skip (i := 23) (d := 81) (listed' := #[true, true, true, true, true, true, true, true, true, true, true, true, true, true, true, true, true, true, true, true, true, true, true, true, false, false, false, false, false, false, false, false]) rfl (by kernel_rfl) (by kernel_rfl) (by kernel_rfl) rfl (by rfl) (by kernel_rfl) K3 ?_
            simp only [List.setIfInBounds_toArray, List.set_cons_zero, List.set_cons_succ]
            refine hold_skip (i := 24) (d := 82) (listed' := #[true, true, true, true, true, true, true, true, true, true, true, true, true, true, true, true, true, true, true, true, true, true, true, true, true, false, false, false, false, false, false, false]) rfl (by kernel_rfl) (by kernel_rfl) (by kernel_rfl) rfl (by rfl) (by kernel_rfl) K3 ?_
            simp only [List.setIfInBounds_toArray, List.set_cons_zero, List.set_cons_succ]
            refine hold_skip (i := 25) (d := 83) (listed' := #[true, true, true, true, true, true, true, true, true, true, true, true, true, true, true, true, true, true, true, true, true, true, true, true, true, true, false, false, false, false, false, false]) rfl (by kernel_rfl) (by kernel_rfl) (by kernel_rfl) rfl (by rfl) (by kernel_rfl) K3 ?_
            simp only [List.setIfInBounds_toArray, List.set_cons_zero, List.set_cons_succ]
            refine hold_skip (i := 26) (d := 84) (listed' := #[true, true, true, true, true, true, true, true, true, true, true, true, true, true, true, true, true, true, true, true, true, true, true, true, true, true, true, false, false, false, false, false]) rfl (by kernel_rfl) (by kernel_rfl) (by kernel_rfl) rfl (by rfl) (by kernel_rfl) K3 ?_
            simp only [List.setIfInBounds_toArray, List.set_cons_zero, List.set_cons_succ]
            refine hold_skip (i := 27) (d := 85) (listed' := #[true, true, true, true, true, true, true, true, true, true, true, true, true, true, true, true, true, true, true, true, true, true, true, true, true, true, true, true, false, false, false, false]) rfl (by kernel_rfl) (by kernel_rfl) (by kernel_rfl) rfl (by rfl) (by kernel_rfl) K3 ?_
            simp only [List.setIfInBounds_toArray, List.set_cons_zero, List.set_cons_succ]
            refine hold_skip (i := 28) (d := 86) (listed' := #[true, true, true, true, true, true, true, true, true, true, true, true, true, true, true, true, true, true, true, true, true, true, true, true, true, true, true, true, true, false, false, false]) rfl (by kernel_rfl) (by kernel_rfl) (by kernel_rfl) rfl (by rfl) (by kernel_rfl) K3 ?_
            simp only [List.setIfInBounds_toArray, List.set_cons_zero, List.set_cons_succ]
            refine hold_take (i := 29) (d := 87) (v := ?vA29) (listed' := #[true, true, true, true, true, true, true, true, true, true, true, true, true, true, true, true, true, true, true, true, true, true, true, true, true, true, true, true, true, true, false, false]) rfl (by kernel_rfl) (by kernel_rfl) (by kernel_rfl) rfl (by rfl) (by kernel_rfl) K3 ?hA29 ?rA29
            case hA29 =>
              intro w' hSw
              obtain ⟨k0, k1⟩ := hSw
              go_simp
              try with_reducible rfl
            simp only [List.setIfInBounds_toArray, List.set_cons_zero, List.set_cons_succ]
            refine hold_take (i := 30) (d := 88) (v := ?vA30) (listed' := #[true, true, true, true, true, true, true, true, true, true, true, true, true, true, true, true, true, true, true, true, true, true, true, true, true, true, true, true, true, true, true, false]) rfl (by kernel_rfl) (by kernel_rfl) (by kernel_rfl) rfl (by rfl) (by kernel_rfl) K3 ?hA30 ?rA30
            case hA30 =>
              intro w' hSw
              obtain ⟨k0, k1⟩ := hSw
              go_simp
              try with_reducible rfl
            simp only [List.setIfInBounds_toArray, List.set_cons_zero, List.set_cons_succ]
            refine hold_take (i := 31) (d := 2) (v := ?vA31) (listed' := #[true, true, true, true, true, true, true, true, true, true, true, true, true, true, true, true, true, true, true, true, true, true, true, true, true, true, true, true, true, true, true, true]) rfl (by kernel_rfl) (by kernel_rfl) (by kernel_rfl) rfl (by rfl) (by kernel_rfl) K3 ?hA31 ?rA31
            case hA31 =>
              intro w' hSw
              obtain ⟨k0, k1⟩ := hSw
              go_simp
              try with_reducible rfl
            simp only [List.setIfInBounds_toArray, List.set_cons_zero, List.set_cons_succ]
            refine hold_done (by kernel_rfl) ?_ _
            go_wp2_with fail
            go_ret
            exact ⟨rfl, Hd3.out.old⟩
          · have c6 : ((a : Int) == (t : Int)) = false := by rw [beq_eq_false_iff_ne]; omega
            have hhi := HO.out.high_yes ha (fun e => hat (e.trans ht))
            rw [HH.out, ht] at hhi
            obtain ⟨ht2, hht⟩ : ∃ ht2, highN m t = ht2 := ⟨_, rfl⟩
            rw [hht] at hhi
            have NH : Hid (highV m m.n zz (t : Int) = (ht2 : Int)) := by show _ = _; rw [HO.out.highV HL.out htn, hht]
            have c7 : ((h : Nat) : Int) < ((ht2 : Nat) : Int) := by omega
            clear ht hat hhi hht
            go_wp2_with fail
            have Hd0 := Lib.hid (Hr.step (Below.refl _ wr).drew)
            have K0 := (show _ ∧ _ from ⟨Hd0.out.box.c0, Hd0.out.box.c1⟩)
            clear H3 Hr q0 q1 hD
            refine region_plain (fuel := 32) (listed := #[false, false, false, false, false, false, false, false, false, false, false, false, false, false, false, false, false, false, false, false, false, false, false, false, false, false, false, false, false, false, false, false]) (fun w' => w'.cell? ⟨w1.heap.size, 0, none⟩ = some (.slice (some ⟨l.b, l.o, none⟩) m.n l.cap) ∧ w'.cell? ⟨w1.heap.size, 1, none⟩ = some (.slice na m.n nc)) (by kernel_rfl) (by kernel_rfl) (by kernel_rfl) ?_
            refine hold_take (i := 0) (d := 58) (v := ?vB0) (listed' := #[true, false, false, false, false, false, false, false, false, false, false, false, false, false, false, false, false, false, false, false, false, false, false, false, false, false, false, false, false, false, false, false]) rfl (by kernel_rfl) (by kernel_rfl) (by kernel_rfl) rfl (by rfl) (by kernel_rfl) K0 ?hB0 ?rB0
            case hB0 =>
              intro w' hSw
              obtain ⟨k0, k1⟩ := hSw
              go_simp
              try with_reducible rfl
            simp only [List.setIfInBounds_toArray, List.set_cons_zero, List.set_cons_succ]
            refine hold_take (i := 1) (d := 59) (v := ?vB1) (listed' := #[true, true, false, false, false, false, false, false, false, false, false, false, false, false, false, false, false, false, false, false, false, false, false, false, false, false, false, false, false, false, false, false]) rfl (by kernel_rfl) (by kernel_rfl) (by kernel_rfl) rfl (by rfl) (by kernel_rfl) K0 ?hB1 ?rB1
            case hB1 =>
              intro w' hSw
              obtain ⟨k0, k1⟩ := hSw
              go_simp
              try with_reducible rfl
            simp only [List.setIfInBounds_toArray, List.set_cons_zero, List.set_cons_succ]
            refine hold_take (i := 2) (d := 60) (v := ?vB2) (listed' := #[true, true, true, false, false, false, false, false, false, false, false, false, false, false, false, false, false, false, false, false, false, false, false, false, false, false, false, false, false, false, false, false]) rfl (by kernel_rfl) (by kernel_rfl) (by kernel_rfl) rfl (by rfl) (by kernel_rfl) K0 ?hB2 ?rB2
            case hB2 =>
              intro w' hSw
              obtain ⟨k0, k1⟩ := hSw
              go_simp
              try with_reducible rfl
            simp only [List.setIfInBounds_toArray, List.set_cons_zero, List.set_cons_succ]
            refine hold_take (i := 3) (d := 61) (v := ?vB3) (listed' := #[true, true, true, true, false, false, false, false, false, false, false, false, false, false, false, false, false, false, false, false, false, false, false, false, false, false, false, false, false, false, false, false]) rfl (by kernel_rfl) (by kernel_rfl) (by kernel_rfl) rfl (by rfl) (by kernel_rfl) K0 ?hB3 ?rB3
            case hB3 =>
              intro w' hSw
              obtain ⟨k0, k1⟩ := hSw
              go_simp
              try with_reducible rfl
            simp only [List.setIfInBounds_toArray, List.set_cons_zero, List.set_cons_succ]
            refine hold_call (i := 4) (d := 62) (listed' := #[true, true, true, true, true, false, false, false, false, false, false, false, false, false, false, false, false, false, false, false, false, false, false, false, false, false, false, false, false, false, false, false]) rfl (by kernel_rfl) rfl (by rfl) (by kernel_rfl) ?heB4 (NoOf_any (nc := nc) Hd0.out.log) ?hcB4
            case heB4 => go_simp
            rintro e x1 ⟨rfl, bb1⟩
            rw [NO.out]
            have Hd1 := Lib.hid (Hd0.out.step bb1)
            have K1 := (show _ ∧ _ from ⟨Hd1.out.box.c0, Hd1.out.box.c1⟩)
            clear Hd0 K0 bb1
            refine ⟨_, rfl, K1, ?_⟩
            simp only [List.setIfInBounds_toArray, List.set_cons_zero, List.set_cons_succ]
            refine hold_take (i := 5) (d := 63) (v := ?vB5) (listed' := #[true, true, true, true, true, true, false, false, false, false, false, false, false, false, false, false, false, false, false, false, false, false, false, false, false, false, false, false, false, false, false, false]) rfl (by kernel_rfl) (by kernel_rfl) (by kernel_rfl) rfl (by rfl) (by kernel_rfl) K1 ?hB5 ?rB5
            case hB5 =>
              intro w' hSw
              obtain ⟨k0, k1⟩ := hSw
              go_simp
              try with_reducible rfl
            simp only [List.setIfInBounds_toArray, List.set_cons_zero, List.set_cons_succ]
            refine hold_take (i := 6) (d := 64) (v := ?vB6) (listed' := #[true, true, true, true, true, true, true, false, false, false, false, false, false, false, false, false, false, false, false, false, false, false, false, false, false, false, false, false, false, false, false, false]) rfl (by kernel_rfl) (by kernel_rfl) (by kernel_rfl) rfl (by rfl) (by kernel_rfl) K1 ?hB6 ?rB6
            case hB6 =>
              intro w' hSw
              obtain ⟨k0, k1⟩ := hSw
              go_simp
              try with_reducible rfl
            simp only [List.setIfInBounds_toArray, List.set_cons_zero, List.set_cons_succ]
            refine hold_take (i := 7) (d := 65) (v := ?vB7) (listed' := #[true, true, true, true, true, true, true, true, false, false, false, false, false, false, false, false, false, false, false, false, false, false, false, false, false, false, false, false, false, false, false, false]) rfl (by kernel_rfl) (by kernel_rfl) (by kernel_rfl) rfl (by rfl) (by kernel_rfl) K1 ?hB7 ?rB7
            case hB7 =>
              intro w' hSw
              obtain ⟨k0, k1⟩ := hSw
              go_simp
              try with_reducible rfl
            simp only [List.setIfInBounds_toArray, List.set_cons_zero, List.set_cons_succ]
            refine hold_take (i := 8) (d := 66) (v := ?vB8) (listed' := #[true, true, true, true, true, true, true, true, true, false, false, false, false, false, false, false, false, false, false, false, false, false, false, false, false, false, false, false, false, false, false, false]) rfl (by kernel_rfl) (by kernel_rfl) (by kernel_rfl) rfl (by rfl) (by kernel_rfl) K1 ?hB8 ?rB8
            case hB8 =>
              intro w' hSw
              obtain ⟨k0, k1⟩ := hSw
              go_simp
              try with_reducible rfl
            simp only [List.setIfInBounds_toArray, List.set_cons_zero, List.set_cons_succ]
            refine hold_take (i := 9) (d := 67) (v := ?vB9) (listed' := #[true, true, true, true, true, true, true, true, true, true, false, false, false, false, false, false, false, false, false, false, false, false, false, false, false, false, false, false, false, false, false, false]) rfl (by kernel_rfl) (by kernel_rfl) (by kernel_rfl) rfl (by rfl) (by kernel_rfl) K1 ?hB9 ?rB9
            case hB9 =>
              intro w' hSw
              obtain ⟨k0, k1⟩ := hSw
              go_simp
              try with_reducible rfl
            simp only [List.setIfInBounds_toArray, List.set_cons_zero, List.set_cons_succ]
            refine hold_take (i := 10) (d := 68) (v := ?vB10) (listed' := #[true, true, true, true, true, true, true, true, true, true, true, false, false, false, false, false, false, false, false, false, false, false, false, false, false, false, false, false, false, false, false, false]) rfl (by kernel_rfl) (by kernel_rfl) (by kernel_rfl) rfl (by rfl) (by kernel_rfl) K1 ?hB10 ?rB10
            case hB10 =>
              intro w' hSw
              obtain ⟨k0, k1⟩ := hSw
              go_simp
              try with_reducible rfl
            simp only [List.setIfInBounds_toArray, List.set_cons_zero, List.set_cons_succ]
            refine hold_take (i := 11) (d := 69) (v := ?vB11) (listed' := #[true, true, true, true, true, true, true, true, true, true, true, true, false, false, false, false, false, false, false, false, false, false, false, false, false, false, false, false, false, false, false, false]) rfl (by kernel_rfl) (by kernel_rfl) (by kernel_rfl) rfl (by rfl) (by kernel_rfl) K1 ?hB11 ?rB11
            case hB11 =>
              intro w' hSw
              obtain ⟨k0, k1⟩ := hSw
              go_simp
              try with_reducible rfl
            simp only [List.setIfInBounds_toArray, List.set_cons_zero, List.set_cons_succ]
            refine hold_take (i := 13) (d := 71) (v := ?vB13) (listed' := #[true, true, true, true, true, true, true, true, true, true, true, true, false, true, false, false, false, false, false, false, false, false, false, false, false, false, false, false, false, false, false, false]) rfl (by kernel_rfl) (by kernel_rfl) (by kernel_rfl) rfl (by rfl) (by kernel_rfl) K1 ?hB13 ?rB13
            case hB13 =>
              intro w' hSw
              obtain ⟨k0, k1⟩ := hSw
              go_simp
              try with_reducible rfl
            simp only [List.setIfInBounds_toArray, List.set_cons_zero, List.set_cons_succ]
            refine hold_call (i := 12) (d := 70) (listed' := #[true, true, true, true, true, true, true, true, true, true, true, true, true, true, false, false, false, false, false, false, false, false, false, false, false, false, false, false, false, false, false, false]) rfl (by kernel_rfl) rfl (by rfl) (by kernel_rfl) ?heB12 (AtomsOf_any Hd1.out.log.hn Hd1.out.log.hL Hd1.out.log.mat Hd1.out.log.hB) ?hcB12
            case heB12 => go_simp
            rintro e x2 ⟨v2, rfl, hv2, bb2⟩
            rw [map_range] at hv2
            have Hd2 := Lib.hid (Hd1.out.step bb2)
            have K2 := (show _ ∧ _ from ⟨Hd2.out.box.c0, Hd2.out.box.c1⟩)
            clear Hd1 K1 bb2
            refine ⟨_, rfl, K2, ?_⟩
            simp only [List.setIfInBounds_toArray, List.set_cons_zero, List.set_cons_succ]
            refine hold_call (i := 14) (d := 72) (listed' := #[true, true, true, true, true, true, true, true, true, true, true, true, true, true, true, false, false, false, false, false, false, false, false, false, false, false, false, false, false, false, false, false]) rfl (by kernel_rfl) rfl (by rfl) (by kernel_rfl) ?heB14 (hasB_any (x := (a : Int)) HLA.out hv2) ?hcB14
            case heB14 => go_simp
            rintro e xq ⟨rfl, hx⟩
            subst hx
            rw [HM.out]
            refine ⟨_, rfl, K2, ?_⟩
            simp only [List.setIfInBounds_toArray, List.set_cons_zero, List.set_cons_succ]
            refine hold_take (i := 15) (d := 73) (v := ?vB15) (listed' := #[true, true, true, true, true, true, true, true, true, true, true, true, true, true, true, true, false, false, false, false, false, false, false, false, false, false, false, false, false, false, false, false]) rfl (by kernel_rfl) (by kernel_rfl) (by kernel_rfl) rfl (by rfl) (by kernel_rfl) K2 ?hB15 ?rB15
            case hB15 =>
              intro w' hSw
              obtain ⟨k0, k1⟩ := hSw
              go_simp
              try with_reducible rfl
            simp only [List.setIfInBounds_toArray, List.set_cons_zero, List.set_cons_succ]
            refine hold_take (i := 16) (d := 74) (v := ?vB16) (listed' := #[true, true, true, true, true, true, true, true, true, true, true, true, true, true, true, true, true, false, false, false, false, false, false, false, false, false, false, false, false, false, false, false]) rfl (by kernel_rfl) (by kernel_rfl) (by kernel_rfl) rfl (by rfl) (by kernel_rfl) K2 ?hB16 ?rB16
            case hB16 =>
              intro w' hSw
              obtain ⟨k0, k1⟩ := hSw
              go_simp
              try with_reducible rfl
            simp only [List.setIfInBounds_toArray, List.set_cons_zero, List.set_cons_succ]
            refine hold_take (i := 17) (d := 75) (v := ?vB17) (listed' := #[true, true, true, true, true, true, true, true, true, true, true, true, true, true, true, true, true, true, false, false, false, false, false, false, false, false, false, false, false, false, false, false]) rfl (by kernel_rfl) (by kernel_rfl) (by kernel_rfl) rfl (by rfl) (by kernel_rfl) K2 ?hB17 ?rB17
            case hB17 =>
              intro w' hSw
              obtain ⟨k0, k1⟩ := hSw
              go_simp
              try with_reducible rfl
            simp only [List.setIfInBounds_toArray, List.set_cons_zero, List.set_cons_succ]
            refine hold_take (i := 18) (d := 76) (v := ?vB18) (listed' := #[true, true, true, true, true, true, true, true, true, true, true, true, true, true, true, true, true, true, true, false, false, false, false, false, false, false, false, false, false, false, false, false]) rfl (by kernel_rfl) (by kernel_rfl) (by kernel_rfl) rfl (by rfl) (by kernel_rfl) K2 ?hB18 ?rB18
            case hB18 =>
              intro w' hSw
              obtain ⟨k0, k1⟩ := hSw
              go_simp
              try with_reducible rfl
            simp only [List.setIfInBounds_toArray, List.set_cons_zero, List.set_cons_succ]
            refine hold_take (i := 19) (d := 77) (v := ?vB19) (listed' := #[true, true, true, true, true, true, true, true, true, true, true, true, true, true, true, true, true, true, true, true, false, false, false, false, false, false, false, false, false, false, false, false]) rfl (by kernel_rfl) (by kernel_rfl) (by kernel_rfl) rfl (by rfl) (by kernel_rfl) K2 ?hB19 ?rB19
            case hB19 =>
              intro w' hSw
              obtain ⟨k0, k1⟩ := hSw
              go_simp
              try with_reducible rfl
            simp only [List.setIfInBounds_toArray, List.set_cons_zero, List.set_cons_succ]
            refine hold_call (i := 20) (d := 78) (listed' := #[true, true, true, true, true, true, true, true, true, true, true, true, true, true, true, true, true, true, true, true, true, false, false, false, false, false, false, false, false, false, false, false]) rfl (by kernel_rfl) rfl (by rfl) (by kernel_rfl) ?heB20 (YesOf_any (nc := nc) Hd2.out.log) ?hcB20
            case heB20 => go_simp
            rintro e x3 ⟨rfl, bb3⟩
            rw [NY.out]
            have Hd3 := Lib.hid (Hd2.out.step bb3)
            have K3 := (show _ ∧ _ from ⟨Hd3.out.box.c0, Hd3.out.box.c1⟩)
            clear Hd2 K2 bb3
            refine ⟨_, rfl, K3, ?_⟩
            simp only [List.setIfInBounds_toArray, List.set_cons_zero, List.set_cons_succ]
            refine hold_take (i := 21) (d := 79) (v := ?vB21) (listed' := #[true, true, true, true, true, true, true, true, true, true, true, true, true, true, true, true, true, true, true, true, true, true, false, false, false, false, false, false, false, false, false, false]) rfl (by kernel_rfl) (by kernel_rfl) (by kernel_rfl) rfl (by rfl) (by kernel_rfl) K3 ?hB21 ?rB21
            case hB21 =>
              intro w' hSw
              obtain ⟨k0, k1⟩ := hSw
              go_simp
              try with_reducible rfl
            simp only [List.setIfInBounds_toArray, List.set_cons_zero, List.set_cons_succ]
            refine hold_take (i := 22) (d := 80) (v := ?vB22) (listed' := #[true, true, true, true, true, true, true, true, true, true, true, true, true, true, true, true, true, true, true, true, true, true, true, false, false, false, false, false, false, false, false, false]) rfl (by kernel_rfl) (by kernel_rfl) (by kernel_rfl) rfl (by rfl) (by kernel_rfl) K3 ?hB22 ?rB22
            case hB22 =>
              intro w' hSw
              obtain ⟨k0, k1⟩ := hSw
              go_simp
              try with_reducible rfl
            simp only [List.setIfInBounds_toArray, List.set_cons_zero, List.set_cons_succ]
            refine hold_take (i := 23) (d := 81) (v := ?vB23) (listed' := #[true, true, true, true, true, true, true, true, true, true, true, true, true, true, true, true, true, true, true, true, true, true, true, true, false, false, false, false, false, false, false, false]) rfl (by kernel_rfl) (by kernel_rfl) (by kernel_rfl) rfl (by rfl) (by kernel_rfl) K3 ?hB23 ?rB23
            case hB23 =>
              intro w' hSw
              obtain ⟨k0, k1⟩ := hSw
              go_simp
              try with_reducible rfl
            simp only [List.setIfInBounds_toArray, List.set_cons_zero, List.set_cons_succ]
            refine hold_take (i := 24) (d := 82) (v := ?vB24) (listed' := #[true, true, true, true, true, true, true, true, true, true, true, true, true, true, true, true, true, true, true, true, true, true, true, true, true, false, false, false, false, false, false, false]) rfl (by kernel_rfl) (by kernel_rfl) (by kernel_rfl) rfl (by rfl) (by kernel_rfl) K3 ?hB24 ?rB24
            case hB24 =>
              intro w' hSw
              obtain ⟨k0, k1⟩ := hSw
              go_simp
              try with_reducible rfl
            simp only [List.setIfInBounds_toArray, List.set_cons_zero, List.set_cons_succ]
            refine hold_take (i := 25) (d := 83) (v := ?vB25) (listed' := #[true, true, true, true, true, true, true, true, true, true, true, true, true, true, true, true, true, true, true, true, true, true, true, true, true, true, false, false, false, false, false, false]) rfl (by kernel_rfl) (by kernel_rfl) (by kernel_rfl) rfl (by rfl) (by kernel_rfl) K3 ?hB25 ?rB25
            case hB25 =>
              intro w' hSw
              obtain ⟨k0, k1⟩ := hSw
              go_simp
              try with_reducible rfl
            simp only [List.setIfInBounds_toArray, List.set_cons_zero, List.set_cons_succ]
            refine hold_call (i := 26) (d := 84) (listed' := #[true, true, true, true, true, true, true, true, true, true, true, true, true, true, true, true, true, true, true, true, true, true, true, true, true, true, true, false, false, false, false, false]) rfl (by kernel_rfl) rfl (by rfl) (by kernel_rfl) ?heB26 (YesOf_any (nc := nc) Hd3.out.log) ?hcB26
            case heB26 => go_simp
            rintro e x4 ⟨rfl, bb4⟩
            rw [NY.out]
            have Hd4 := Lib.hid (Hd3.out.step bb4)
            have K4 := (show _ ∧ _ from ⟨Hd4.out.box.c0, Hd4.out.box.c1⟩)
            clear Hd3 K3 bb4
            refine ⟨_, rfl, K4, ?_⟩
            simp only [List.setIfInBounds_toArray, List.set_cons_zero, List.set_cons_succ]
            refine hold_call (i := 27) (d := 85) (listed' := #[true, true, true, true, true, true, true, true, true, true, true, true, true, true, true, true, true, true, true, true, true, true, true, true, true, true, true, true, false, false, false, false]) rfl (by kernel_rfl) rfl (by rfl) (by kernel_rfl) ?heB27 (HighOf_any (nc := nc) (x := (t : Int)) Hd4.out.log) ?hcB27
            case heB27 => go_simp
            rintro e x5 ⟨rfl, bb5⟩
            rw [NH.out]
            have Hd5 := Lib.hid (Hd4.out.step bb5)
            have K5 := (show _ ∧ _ from ⟨Hd5.out.box.c0, Hd5.out.box.c1⟩)
            clear Hd4 K4 bb5
            refine ⟨_, rfl, K5, ?_⟩
            simp only [List.setIfInBounds_toArray, List.set_cons_zero, List.set_cons_succ]
            refine hold_take (i := 28) (d := 86) (v := ?vB28) (listed' := #[true, true, true, true, true, true, true, true, true, true, true, true, true, true, true, true, true, true, true, true, true, true, true, true, true, true, true, true, true, false, false, false]) rfl (by kernel_rfl) (by kernel_rfl) (by kernel_rfl) rfl (by rfl) (by kernel_rfl) K5 ?hB28 ?rB28
            case hB28 =>
              intro w' hSw
              obtain ⟨k0, k1⟩ := hSw
              go_simp
              try with_reducible rfl
            simp only [List.setIfInBounds_toArray, List.set_cons_zero, List.set_cons_succ]
            refine hold_take (i := 29) (d := 87) (v := ?vB29) (listed' := #[true, true, true, true, true, true, true, true, true, true, true, true, true, true, true, true, true, true, true, true, true, true, true, true, true, true, true, true, true, true, false, false]) rfl (by kernel_rfl) (by kernel_rfl) (by kernel_rfl) rfl (by rfl) (by kernel_rfl) K5 ?hB29 ?rB29
            case hB29 =>
              intro w' hSw
              obtain ⟨k0, k1⟩ := hSw
              go_simp
              try with_reducible rfl
            simp only [List.setIfInBounds_toArray, List.set_cons_zero, List.set_cons_succ]
            refine hold_take (i := 30) (d := 88) (v := ?vB30) (listed' := #[true, true, true, true, true, true, true, true, true, true, true, true, true, true, true, true, true, true, true, true, true, true, true, true, true, true, true, true, true, true, true, false]) rfl (by kernel_rfl) (by kernel_rfl) (by kernel_rfl) rfl (by rfl) (by kernel_rfl) K5 ?hB30 ?rB30
            case hB30 =>
              intro w' hSw
              obtain ⟨k0, k1⟩ := hSw
              go_simp
              try with_reducible rfl
            simp only [List.setIfInBounds_toArray, List.set_cons_zero, List.set_cons_succ]
            refine hold_take (i := 31) (d := 2) (v := ?vB31) (listed' := #[true, true, true, true, true, true, true, true, true, true, true, true, true, true, true, true, true, true, true, true, true, true, true, true, true, true, true, true, true, true, true, true]) rfl (by kernel_rfl) (by kernel_rfl) (by kernel_rfl) rfl (by rfl) (by kernel_rfl) K5 ?hB31 ?rB31
            case hB31 =>
              intro w' hSw
              obtain ⟨k0, k1⟩ := hSw
              go_simp
              try with_reducible rfl
            simp only [List.setIfInBounds_toArray, List.set_cons_zero, List.set_cons_succ]
            refine hold_done (by kernel_rfl) ?_ _
            go_wp2_with fail
            go_ret
            exact ⟨rfl, Hd5.out.old⟩
end Go.Proofs.Ytanhogaekdcooaa
