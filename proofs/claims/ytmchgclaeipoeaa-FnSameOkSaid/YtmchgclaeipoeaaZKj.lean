import Derived.Test.YtmchgclaeipoeaaZKi
import Derived.Test.YtmchgclaeipoeaaZKh
namespace Go.Proofs.Ytmchgclaeipoeaa
open Go.RowKit Go.Deep

theorem allK_no {n k i : Nat} {p : Nat → Nat → Nat → Bool} (hi : i < k) (h : p (i / n / n) (i / n % n) (i % n) = false) : allK n k p = false := by
  cases e : allK n k p with
  | false => rfl
  | true => rw [allB_is e i hi] at h; cases h
theorem third_lt {n i : Nat} (h : i < n * n * n) : i / n / n < n := by
  rw [Nat.div_div_eq_div_mul]
  exact Nat.div_lt_of_lt_mul h
theorem tdiv_cast (a b : Nat) : (a : Int) / (b : Int) = ((a / b : Nat) : Int) := rfl
set_option maxRecDepth 100000 in
set_option maxHeartbeats 8000000 in
theorem spec_SameOk {w : World} {B : Nat} {ua : Option Addr} {l : Lay} {m : Mx} {na : Option Addr} {g o k nc : Nat} {z : Nat → Int} (h : LogAt w B ua l m na g o k z) (s1 : ByteArray) (hz1 : s1.size ≤ 4611686018427387904) (s2 : ByteArray) (hz2 : s2.size ≤ 4611686018427387904) :
    Calls Try.prog 6 #[.agg #[.slice ua m.n l.cap, .slice na k nc], .string s1, .string s2] w fun e w' => e = .returned (.bool (sameV m k z s1.data.toList s2.data.toList)) ∧ Below w.heap.size w w' := by
  have hX := BoxN.start w #[.slice ua m.n l.cap, .slice na k nc] 26
  have q0 := hX.cell 0 rfl
  have q1 := hX.cell 1 rfl
  have bw := hX.below
  have h2 := Lib.hid (h.step bw)
  have hkk := h.hk
  clear h
  go_enter Try.func6, Try.ntmps6
  go_wp2_with fail
  generalize w.alloc (.cells #[.slice ua m.n l.cap, .slice na k nc] 26) = W at hX h2 bw q0 q1 ⊢
  go_at_call 20
  refine (spec_FormulaOk s1 hz1 _).mono ?_
  rintro e wf1 ⟨rfl, rfl⟩
  cases hf : formB s1.data.toList with
  | false =>
    have HV : Hid (sameV m k z s1.data.toList s2.data.toList = false) := sameV_no1 hf
    clear hf
    go_wp2_with fail
    go_ret
    exact ⟨ret_bool HV.out.symm, bw⟩
  | true =>
    have HF1 := Lib.hid hf
    obtain ⟨hs601', f1, hfm, hft⟩ := form_is hf
    have hs601 : s1.size ≤ 60 := hs601'
    have HFM1 := Lib.hid hfm
    have HFT1 := Lib.hid hft
    clear hf hfm hft
    go_wp2_with fail
    go_at_call 20
    refine (spec_FormulaOk s2 hz2 _).mono ?_
    rintro e wf2 ⟨rfl, rfl⟩
    cases hf : formB s2.data.toList with
    | false =>
      have HV : Hid (sameV m k z s1.data.toList s2.data.toList = false) := sameV_no2 hf
      clear hf
      go_wp2_with fail
      go_ret
      exact ⟨ret_bool HV.out.symm, bw⟩
    | true =>
      have HF2 := Lib.hid hf
      obtain ⟨hs602', f2, hfm, hft⟩ := form_is hf
      have hs602 : s2.size ≤ 60 := hs602'
      have HFM2 := Lib.hid hfm
      have HFT2 := Lib.hid hft
      clear hf hfm hft
      go_wp2_with fail
      go_at_call 7
      refine (spec_LogicOk h2.out).mono ?_
      rintro e w1 ⟨rfl, b1⟩
      have B1 := bw.trans (b1.mono bw.size)
      have hX1 := hX.step b1
      have h3 := Lib.hid (h2.out.step b1)
      have r0 := hX1.cell 0 rfl
      have r1 := hX1.cell 1 rfl
      clear q0 q1 hX h2 b1
      cases hl : logicB m k z with
      | false =>
        have HV : Hid (sameV m k z s1.data.toList s2.data.toList = false) := sameV_nol hl
        clear hl
        go_wp2_with fail
        go_ret
        exact ⟨ret_bool HV.out.symm, B1⟩
      | true =>
        obtain ⟨y0, n0, hO0⟩ := (logicB_is hl).ortho
        have hkn : k = m.n := (logicB_is hl).pair.len
        subst hkn
        have hO := hO0.own
        have HOO := Lib.hid hO
        have hpos := hO.lat.order.pos
        have hn12 := hO.lat.order.top
        have hn0 := hO.ho
        have hno : noV m m.n z = (n0 : Int) := by unfold noV; rw [if_pos hl]; exact hO.eq
        have HNo := Lib.hid hno
        obtain ⟨rfl, _, _⟩ := h3.out.row.row 0 (by omega)
        have HV0 : Hid (sameV m m.n z s1.data.toList s2.data.toList = sameB m (fun c => (z c).toNat) n0 f1 f2) := sameV_yes hl HF1.out HF2.out HFM1.out HFM2.out HOO.out
        obtain ⟨y, hy⟩ : ∃ y : Nat → Nat, y = fun c => (z c).toNat := ⟨_, rfl⟩
        rw [← hy] at HV0 HOO
        have HKK := Lib.hid (same_K (m := m) (y := y) (o := n0) hpos f1 f2)
        clear hl hO hO0 hno hy y0
        obtain ⟨q, hq⟩ : ∃ q, m.n * m.n = q := ⟨_, rfl⟩
        obtain ⟨N, hN⟩ : ∃ N, q * m.n = N := ⟨_, rfl⟩
        have hq144 : q ≤ 144 := by rw [← hq]; exact Nat.mul_le_mul hn12 hn12
        have hN1728 : N ≤ 1728 := by rw [← hN]; exact Nat.mul_le_mul hq144 hn12
        have hN3 : m.n * m.n * m.n = N := by rw [hq, hN]
        have hw1 : IntKind.i64.wrap ((m.n : Int) * (m.n : Int)) = (q : Int) := by rw [← Int.natCast_mul, hq]; simp (disch := omega) only [IntWalk.i64_in]
        have hw2 : IntKind.i64.wrap ((q : Int) * (m.n : Int)) = (N : Int) := by rw [← Int.natCast_mul, hN]; simp (disch := omega) only [IntWalk.i64_in]
        rw [hN3] at HKK
        have HN3 := Lib.hid hN3
        clear hq hN hN3
        have hn0' : (n0 : Int) < m.n := by omega
        go_wp2_with fail
        go_at_call 21
        refine (spec_NoOf h3.out).mono ?_
        rintro e w2 ⟨rfl, b2⟩
        rw [HNo.out]
        have B2 := B1.trans (b2.mono B1.size)
        have hX2 := hX1.step b2
        have h4 := Lib.hid (h3.out.step b2)
        clear r0 r1 hX1 h3 b2 B1
        go_wp2_with fail
        go_loopw [9] (fun i wr => ∃ a : Nat, a ≤ N ∧ i = .int .i64 (a : Int) ∧ Below w2.heap.size w2 wr ∧ Hid (∀ j, j < a → (fun a b d => decide (valN m y n0 a b d f1 = valN m y n0 a b d f2)) (j / m.n / m.n) (j / m.n % m.n) (j % m.n) = true)) (fun i _ => N - (intOf i).toNat)
        case atStart => exact ⟨0, Nat.zero_le _, rfl, Below.refl _ _, fun j hj => absurd hj (Nat.not_lt_zero _)⟩
        case round =>
          obtain ⟨i, hi, rfl, hDD, hR⟩ := hrel
          have hXr := hX2.step hDD
          have hLr := Lib.hid (h4.out.step hDD)
          have hBr := B2.trans (hDD.mono B2.size)
          by_cases hlt : i < N
          · have hlt' : (i : Int) < N := by omega
            have hi3 : i < m.n * m.n * m.n := by rw [HN3.out]; exact hlt
            obtain ⟨E, hE⟩ : ∃ E, i / m.n = E := ⟨_, rfl⟩
            obtain ⟨A, hAe⟩ : ∃ A, E / m.n = A := ⟨_, rfl⟩
            obtain ⟨Bq, hBe⟩ : ∃ Bq, E % m.n = Bq := ⟨_, rfl⟩
            obtain ⟨D, hDe⟩ : ∃ D, i % m.n = D := ⟨_, rfl⟩
            have hA : A < m.n := by rw [← hAe, ← hE]; exact third_lt hi3
            have hBq : Bq < m.n := by rw [← hBe]; exact Nat.mod_lt _ hpos
            have hD : D < m.n := by rw [← hDe]; exact Nat.mod_lt _ hpos
            have hEi : E ≤ i := by rw [← hE]; exact Nat.div_le_self _ _
            have HPE : Hid ((fun a b d => decide (valN m y n0 a b d f1 = valN m y n0 a b d f2)) (i / m.n / m.n) (i / m.n % m.n) (i % m.n) = (fun a b d => decide (valN m y n0 a b d f1 = valN m y n0 a b d f2)) A Bq D) := by show _ = _; rw [hE, hAe, hBe, hDe]
            have HWq : Hid (IntKind.i64.wrap ((i : Int) / (m.n : Int)) = (E : Int)) := by show _ = _; rw [tdiv_cast, hE]; simp (disch := omega) only [IntWalk.i64_in]
            have HWA : Hid (IntKind.i64.wrap ((E : Int) / (m.n : Int)) = (A : Int)) := by show _ = _; rw [tdiv_cast, hAe]; simp (disch := omega) only [IntWalk.i64_in]
            have HWBq : Hid ((E : Int).tmod (m.n : Int) = (Bq : Int)) := by show ((E % m.n : Nat) : Int) = _; rw [hBe]
            have HWD : Hid ((i : Int).tmod (m.n : Int) = (D : Int)) := by show ((i % m.n : Nat) : Int) = _; rw [hDe]
            clear hE hAe hBe hDe hi3
            have hDw := Lib.hid (hDD.drew)
            have hX0 := hXr.step (Below.refl _ wr).drew
            have L0 := Lib.hid (hLr.out.step (Below.refl _ wr).drew)
            have S0 : (fun w' => w'.cell? ⟨w.heap.size, 0, none⟩ = some (.slice ua m.n l.cap) ∧ w'.cell? ⟨w.heap.size, 1, none⟩ = some (.slice (some ⟨g, o, none⟩) m.n nc) ∧ w'.cell? ⟨g, o + n0, none⟩ = some (.int .i64 ((y n0 : Nat) : Int))) wr.drew := ⟨hX0.cell 0 rfl, hX0.cell 1 rfl, log_not L0.out HOO.out hn0⟩
            clear hXr hLr
            go_wp2_with fail
            refine region_plain (fuel := 35) (listed := #[false, false, false, false, false, false, false, false, false, false, false, false, false, false, false, false, false, false, false, false, false, false, false, false, false, false, false, false, false, false, false, false, false, false, false]) (fun w' => w'.cell? ⟨w.heap.size, 0, none⟩ = some (.slice ua m.n l.cap) ∧ w'.cell? ⟨w.heap.size, 1, none⟩ = some (.slice (some ⟨g, o, none⟩) m.n nc) ∧ w'.cell? ⟨g, o + n0, none⟩ = some (.int .i64 ((y n0 : Nat) : Int))) (by kernel_rfl) (by kernel_rfl) (by kernel_rfl) ?_
            refine hold_take (i := 0) (d := 37) (v := ?vT0) (listed' := #[true, false, false, false, false, false, false, false, false, false, false, false, false, false, false, false, false, false, false, false, false, false, false, false, false, false, false, false, false, false, false, false, false, false, false]) rfl (by kernel_rfl) (by kernel_rfl) (by kernel_rfl) rfl (by rfl) (by kernel_rfl) S0 ?hT0 ?rT0
            case hT0 =>
              intro w' hSw
              obtain ⟨k0, k1, k2⟩ := hSw
              go_simp
              try with_reducible rfl
            simp only [List.setIfInBounds_toArray, List.set_cons_zero, List.set_cons_succ]
            refine hold_take (i := 1) (d := 38) (v := ?vT1) (listed' := #[true, true, false, false, false, false, false, false, false, false, false, false, false, false, false, false, false, false, false, false, false, false, false, false, false, false, false, false, false, false, false, false, false, false, false]) rfl (by kernel_rfl) (by kernel_rfl) (by kernel_rfl) rfl (by rfl) (by kernel_rfl) S0 ?hT1 ?rT1
            case hT1 =>
              intro w' hSw
              obtain ⟨k0, k1, k2⟩ := hSw
              go_simp
              try with_reducible rfl
            simp only [List.setIfInBounds_toArray, List.set_cons_zero, List.set_cons_succ]
            refine hold_take (i := 2) (d := 39) (v := ?vT2) (listed' := #[true, true, true, false, false, false, false, false, false, false, false, false, false, false, false, false, false, false, false, false, false, false, false, false, false, false, false, false, false, false, false, false, false, false, false]) rfl (by kernel_rfl) (by kernel_rfl) (by kernel_rfl) rfl (by rfl) (by kernel_rfl) S0 ?hT2 ?rT2
            case hT2 =>
              intro w' hSw
              obtain ⟨k0, k1, k2⟩ := hSw
              go_simp
              try with_reducible rfl
            simp only [List.setIfInBounds_toArray, List.set_cons_zero, List.set_cons_succ]
            refine hold_take (i := 3) (d := 40) (v := ?vT3) (listed' := #[true, true, true, true, false, false, false, false, false, false, false, false, false, false, false, false, false, false, false, false, false, false, false, false, false, false, false, false, false, false, false, false, false, false, false]) rfl (by kernel_rfl) (by kernel_rfl) (by kernel_rfl) rfl (by rfl) (by kernel_rfl) S0 ?hT3 ?rT3
            case hT3 =>
              intro w' hSw
              obtain ⟨k0, k1, k2⟩ := hSw
              go_simp
              try with_reducible rfl
            simp only [List.setIfInBounds_toArray, List.set_cons_zero, List.set_cons_succ]
            refine hold_take (i := 4) (d := 41) (v := .int .i64 (E : Int)) (listed' := #[true, true, true, true, true, false, false, false, false, false, false, false, false, false, false, false, false, false, false, false, false, false, false, false, false, false, false, false, false, false, false, false, false, false, false]) rfl (by kernel_rfl) (by kernel_rfl) (by kernel_rfl) rfl (by rfl) (by kernel_rfl) S0 ?hT4 ?rT4
            case hT4 =>
              intro w' hSw
              obtain ⟨k0, k1, k2⟩ := hSw
              go_simp
              first | (rw [if_neg (by omega), HWq.out]; done) | (simp only [HWq.out]; done) | (rw [HWq.out]; done) | skip
            simp only [List.setIfInBounds_toArray, List.set_cons_zero, List.set_cons_succ]
            refine hold_take (i := 5) (d := 42) (v := ?vT5) (listed' := #[true, true, true, true, true, true, false, false, false, false, false, false, false, false, false, false, false, false, false, false, false, false, false, false, false, false, false, false, false, false, false, false, false, false, false]) rfl (by kernel_rfl) (by kernel_rfl) (by kernel_rfl) rfl (by rfl) (by kernel_rfl) S0 ?hT5 ?rT5
            case hT5 =>
              intro w' hSw
              obtain ⟨k0, k1, k2⟩ := hSw
              go_simp
              try with_reducible rfl
            simp only [List.setIfInBounds_toArray, List.set_cons_zero, List.set_cons_succ]
            refine hold_take (i := 6) (d := 43) (v := .int .i64 (A : Int)) (listed' := #[true, true, true, true, true, true, true, false, false, false, false, false, false, false, false, false, false, false, false, false, false, false, false, false, false, false, false, false, false, false, false, false, false, false, false]) rfl (by kernel_rfl) (by kernel_rfl) (by kernel_rfl) rfl (by rfl) (by kernel_rfl) S0 ?hT6 ?rT6
            case hT6 =>
              intro w' hSw
              obtain ⟨k0, k1, k2⟩ := hSw
              go_simp
              first | (rw [if_neg (by omega), HWA.out]; done) | (simp only [HWA.out]; done) | (rw [HWA.out]; done) | skip
            simp only [List.setIfInBounds_toArray, List.set_cons_zero, List.set_cons_succ]
            refine hold_take (i := 7) (d := 44) (v := ?vT7) (listed' := #[true, true, true, true, true, true, true, true, false, false, false, false, false, false, false, false, false, false, false, false, false, false, false, false, false, false, false, false, false, false, false, false, false, false, false]) rfl (by kernel_rfl) (by kernel_rfl) (by kernel_rfl) rfl (by rfl) (by kernel_rfl) S0 ?hT7 ?rT7
            case hT7 =>
              intro w' hSw
              obtain ⟨k0, k1, k2⟩ := hSw
              go_simp
              try with_reducible rfl
            simp only [List.setIfInBounds_toArray, List.set_cons_zero, List.set_cons_succ]
            refine hold_take (i := 8) (d := 45) (v := ?vT8) (listed' := #[true, true, true, true, true, true, true, true, true, false, false, false, false, false, false, false, false, false, false, false, false, false, false, false, false, false, false, false, false, false, false, false, false, false, false]) rfl (by kernel_rfl) (by kernel_rfl) (by kernel_rfl) rfl (by rfl) (by kernel_rfl) S0 ?hT8 ?rT8
            case hT8 =>
              intro w' hSw
              obtain ⟨k0, k1, k2⟩ := hSw
              go_simp
              try with_reducible rfl
            simp only [List.setIfInBounds_toArray, List.set_cons_zero, List.set_cons_succ]
            refine hold_take (i := 9) (d := 46) (v := .int .i64 (E : Int)) (listed' := #[true, true, true, true, true, true, true, true, true, true, false, false, false, false, false, false, false, false, false, false, false, false, false, false, false, false, false, false, false, false, false, false, false, false, false]) rfl (by kernel_rfl) (by kernel_rfl) (by kernel_rfl) rfl (by rfl) (by kernel_rfl) S0 ?hT9 ?rT9
            case hT9 =>
              intro w' hSw
              obtain ⟨k0, k1, k2⟩ := hSw
              go_simp
              first | (rw [if_neg (by omega), HWq.out]; done) | (simp only [HWq.out]; done) | (rw [HWq.out]; done) | skip
            simp only [List.setIfInBounds_toArray, List.set_cons_zero, List.set_cons_succ]
            refine hold_take (i := 10) (d := 47) (v := ?vT10) (listed' := #[true, true, true, true, true, true, true, true, true, true, true, false, false, false, false, false, false, false, false, false, false, false, false, false, false, false, false, false, false, false, false, false, false, false, false]) rfl (by kernel_rfl) (by kernel_rfl) (by kernel_rfl) rfl (by rfl) (by kernel_rfl) S0 ?hT10 ?rT10
            case hT10 =>
              intro w' hSw
              obtain ⟨k0, k1, k2⟩ := hSw
              go_simp
              try with_reducible rfl
            simp only [List.setIfInBounds_toArray, List.set_cons_zero, List.set_cons_succ]
            refine hold_take (i := 11) (d := 48) (v := .int .i64 (Bq : Int)) (listed' := #[true, true, true, true, true, true, true, true, true, true, true, true, false, false, false, false, false, false, false, false, false, false, false, false, false, false, false, false, false, false, false, false, false, false, false]) rfl (by kernel_rfl) (by kernel_rfl) (by kernel_rfl) rfl (by rfl) (by kernel_rfl) S0 ?hT11 ?rT11
            case hT11 =>
              intro w' hSw
              obtain ⟨k0, k1, k2⟩ := hSw
              go_simp
              first | (rw [if_neg (by omega), HWBq.out]; done) | (simp only [HWBq.out]; done) | (rw [HWBq.out]; done) | skip
            simp only [List.setIfInBounds_toArray, List.set_cons_zero, List.set_cons_succ]
            refine hold_take (i := 12) (d := 49) (v := ?vT12) (listed' := #[true, true, true, true, true, true, true, true, true, true, true, true, true, false, false, false, false, false, false, false, false, false, false, false, false, false, false, false, false, false, false, false, false, false, false]) rfl (by kernel_rfl) (by kernel_rfl) (by kernel_rfl) rfl (by rfl) (by kernel_rfl) S0 ?hT12 ?rT12
            case hT12 =>
              intro w' hSw
              obtain ⟨k0, k1, k2⟩ := hSw
              go_simp
              try with_reducible rfl
            simp only [List.setIfInBounds_toArray, List.set_cons_zero, List.set_cons_succ]
            refine hold_take (i := 13) (d := 50) (v := ?vT13) (listed' := #[true, true, true, true, true, true, true, true, true, true, true, true, true, true, false, false, false, false, false, false, false, false, false, false, false, false, false, false, false, false, false, false, false, false, false]) rfl (by kernel_rfl) (by kernel_rfl) (by kernel_rfl) rfl (by rfl) (by kernel_rfl) S0 ?hT13 ?rT13
            case hT13 =>
              intro w' hSw
              obtain ⟨k0, k1, k2⟩ := hSw
              go_simp
              try with_reducible rfl
            simp only [List.setIfInBounds_toArray, List.set_cons_zero, List.set_cons_succ]
            refine hold_take (i := 14) (d := 51) (v := .int .i64 (D : Int)) (listed' := #[true, true, true, true, true, true, true, true, true, true, true, true, true, true, true, false, false, false, false, false, false, false, false, false, false, false, false, false, false, false, false, false, false, false, false]) rfl (by kernel_rfl) (by kernel_rfl) (by kernel_rfl) rfl (by rfl) (by kernel_rfl) S0 ?hT14 ?rT14
            case hT14 =>
              intro w' hSw
              obtain ⟨k0, k1, k2⟩ := hSw
              go_simp
              first | (rw [if_neg (by omega), HWD.out]; done) | (simp only [HWD.out]; done) | (rw [HWD.out]; done) | skip
            simp only [List.setIfInBounds_toArray, List.set_cons_zero, List.set_cons_succ]
            refine hold_take (i := 15) (d := 52) (v := ?vT15) (listed' := #[true, true, true, true, true, true, true, true, true, true, true, true, true, true, true, true, false, false, false, false, false, false, false, false, false, false, false, false, false, false, false, false, false, false, false]) rfl (by kernel_rfl) (by kernel_rfl) (by kernel_rfl) rfl (by rfl) (by kernel_rfl) S0 ?hT15 ?rT15
            case hT15 =>
              intro w' hSw
              obtain ⟨k0, k1, k2⟩ := hSw
              go_simp
              try with_reducible rfl
            simp only [List.setIfInBounds_toArray, List.set_cons_zero, List.set_cons_succ]
            refine hold_take (i := 17) (d := 54) (v := ?vT17) (listed' := #[true, true, true, true, true, true, true, true, true, true, true, true, true, true, true, true, false, true, false, false, false, false, false, false, false, false, false, false, false, false, false, false, false, false, false]) rfl (by kernel_rfl) (by kernel_rfl) (by kernel_rfl) rfl (by rfl) (by kernel_rfl) S0 ?hT17 ?rT17
            case hT17 =>
              intro w' hSw
              obtain ⟨k0, k1, k2⟩ := hSw
              go_simp
              try with_reducible rfl
            simp only [List.setIfInBounds_toArray, List.set_cons_zero, List.set_cons_succ]
            refine hold_take (i := 18) (d := 55) (v := ?vT18) (listed' := #[true, true, true, true, true, true, true, true, true, true, true, true, true, true, true, true, false, true, true, false, false, false, false, false, false, false, false, false, false, false, false, false, false, false, false]) rfl (by kernel_rfl) (by kernel_rfl) (by kernel_rfl) rfl (by rfl) (by kernel_rfl) S0 ?hT18 ?rT18
            case hT18 =>
              intro w' hSw
              obtain ⟨k0, k1, k2⟩ := hSw
              go_simp
              try with_reducible rfl
            simp only [List.setIfInBounds_toArray, List.set_cons_zero, List.set_cons_succ]
            refine hold_take (i := 19) (d := 56) (v := ?vT19) (listed' := #[true, true, true, true, true, true, true, true, true, true, true, true, true, true, true, true, false, true, true, true, false, false, false, false, false, false, false, false, false, false, false, false, false, false, false]) rfl (by kernel_rfl) (by kernel_rfl) (by kernel_rfl) rfl (by rfl) (by kernel_rfl) S0 ?hT19 ?rT19
            case hT19 =>
              intro w' hSw
              obtain ⟨k0, k1, k2⟩ := hSw
              go_simp
              try with_reducible rfl
            simp only [List.setIfInBounds_toArray, List.set_cons_zero, List.set_cons_succ]
            refine hold_take (i := 20) (d := 57) (v := ?vT20) (listed' := #[true, true, true, true, true, true, true, true, true, true, true, true, true, true, true, true, false, true, true, true, true, false, false, false, false, false, false, false, false, false, false, false, false, false, false]) rfl (by kernel_rfl) (by kernel_rfl) (by kernel_rfl) rfl (by rfl) (by kernel_rfl) S0 ?hT20 ?rT20
            case hT20 =>
              intro w' hSw
              obtain ⟨k0, k1, k2⟩ := hSw
              go_simp
              try with_reducible rfl
            simp only [List.setIfInBounds_toArray, List.set_cons_zero, List.set_cons_succ]
            refine hold_take (i := 21) (d := 58) (v := .int .i64 (E : Int)) (listed' := #[true, true, true, true, true, true, true, true, true, true, true, true, true, true, true, true, false, true, true, true, true, true, false, false, false, false, false, false, false, false, false, false, false, false, false]) rfl (by kernel_rfl) (by kernel_rfl) (by kernel_rfl) rfl (by rfl) (by kernel_rfl) S0 ?hT21 ?rT21
            case hT21 =>
              intro w' hSw
              obtain ⟨k0, k1, k2⟩ := hSw
              go_simp
              first | (rw [if_neg (by omega), HWq.out]; done) | (simp only [HWq.out]; done) | (rw [HWq.out]; done) | skip
            simp only [List.setIfInBounds_toArray, List.set_cons_zero, List.set_cons_succ]
            refine hold_take (i := 22) (d := 59) (v := ?vT22) (listed' := #[true, true, true, true, true, true, true, true, true, true, true, true, true, true, true, true, false, true, true, true, true, true, true, false, false, false, false, false, false, false, false, false, false, false, false]) rfl (by kernel_rfl) (by kernel_rfl) (by kernel_rfl) rfl (by rfl) (by kernel_rfl) S0 ?hT22 ?rT22
            case hT22 =>
              intro w' hSw
              obtain ⟨k0, k1, k2⟩ := hSw
              go_simp
              try with_reducible rfl
            simp only [List.setIfInBounds_toArray, List.set_cons_zero, List.set_cons_succ]
            refine hold_take (i := 23) (d := 60) (v := .int .i64 (A : Int)) (listed' := #[true, true, true, true, true, true, true, true, true, true, true, true, true, true, true, true, false, true, true, true, true, true, true, true, false, false, false, false, false, false, false, false, false, false, false]) rfl (by kernel_rfl) (by kernel_rfl) (by kernel_rfl) rfl (by rfl) (by kernel_rfl) S0 ?hT23 ?rT23
            case hT23 =>
              intro w' hSw
              obtain ⟨k0, k1, k2⟩ := hSw
              go_simp
              first | (rw [if_neg (by omega), HWA.out]; done) | (simp only [HWA.out]; done) | (rw [HWA.out]; done) | skip
            simp only [List.setIfInBounds_toArray, List.set_cons_zero, List.set_cons_succ]
            refine hold_take (i := 24) (d := 61) (v := ?vT24) (listed' := #[true, true, true, true, true, true, true, true, true, true, true, true, true, true, true, true, false, true, true, true, true, true, true, true, true, false, false, false, false, false, false, false, false, false, false]) rfl (by kernel_rfl) (by kernel_rfl) (by kernel_rfl) rfl (by rfl) (by kernel_rfl) S0 ?hT24 ?rT24
            case hT24 =>
              intro w' hSw
              obtain ⟨k0, k1, k2⟩ := hSw
              go_simp
              try with_reducible rfl
            simp only [List.setIfInBounds_toArray, List.set_cons_zero, List.set_cons_succ]
            refine hold_take (i := 25) (d := 62) (v := ?vT25) (listed' := #[true, true, true, true, true, true, true, true, true, true, true, true, true, true, true, true, false, true, true, true, true, true, true, true, true, true, false, false, false, false, false, false, false, false, false]) rfl (by kernel_rfl) (by kernel_rfl) (by kernel_rfl) rfl (by rfl) (by kernel_rfl) S0 ?hT25 ?rT25
            case hT25 =>
              intro w' hSw
              obtain ⟨k0, k1, k2⟩ := hSw
              go_simp
              try with_reducible rfl
            simp only [List.setIfInBounds_toArray, List.set_cons_zero, List.set_cons_succ]
            refine hold_take (i := 26) (d := 63) (v := .int .i64 (E : Int)) (listed' := #[true, true, true, true, true, true, true, true, true, true, true, true, true, true, true, true, false, true, true, true, true, true, true, true, true, true, true, false, false, false, false, false, false, false, false]) rfl (by kernel_rfl) (by kernel_rfl) (by kernel_rfl) rfl (by rfl) (by kernel_rfl) S0 ?hT26 ?rT26
            case hT26 =>
              intro w' hSw
              obtain ⟨k0, k1, k2⟩ := hSw
              go_simp
              first | (rw [if_neg (by omega), HWq.out]; done) | (simp only [HWq.out]; done) | (rw [HWq.out]; done) | skip
            simp only [List.setIfInBounds_toArray, List.set_cons_zero, List.set_cons_succ]
            refine hold_take (i := 27) (d := 64) (v := ?vT27) (listed' := #[true, true, true, true, true, true, true, true, true, true, true, true, true, true, true, true, false, true, true, true, true, true, true, true, true, true, true, true, false, false, false, false, false, false, false]) rfl (by kernel_rfl) (by kernel_rfl) (by kernel_rfl) rfl (by rfl) (by kernel_rfl) S0 ?hT27 ?rT27
            case hT27 =>
              intro w' hSw
              obtain ⟨k0, k1, k2⟩ := hSw
              go_simp
              try with_reducible rfl
            simp only [List.setIfInBounds_toArray, List.set_cons_zero, List.set_cons_succ]
            refine hold_take (i := 28) (d := 65) (v := .int .i64 (Bq : Int)) (listed' := #[true, true, true, true, true, true, true, true, true, true, true, true, true, true, true, true, false, true, true, true, true, true, true, true, true, true, true, true, true, false, false, false, false, false, false]) rfl (by kernel_rfl) (by kernel_rfl) (by kernel_rfl) rfl (by rfl) (by kernel_rfl) S0 ?hT28 ?rT28
            case hT28 =>
              intro w' hSw
              obtain ⟨k0, k1, k2⟩ := hSw
              go_simp
              first | (rw [if_neg (by omega), HWBq.out]; done) | (simp only [HWBq.out]; done) | (rw [HWBq.out]; done) | skip
            simp only [List.setIfInBounds_toArray, List.set_cons_zero, List.set_cons_succ]
            refine hold_take (i := 29) (d := 66) (v := ?vT29) (listed' := #[true, true, true, true, true, true, true, true, true, true, true, true, true, true, true, true, false, true, true, true, true, true, true, true, true, true, true, true, true, true, false, false, false, false, false]) rfl (by kernel_rfl) (by kernel_rfl) (by kernel_rfl) rfl (by rfl) (by kernel_rfl) S0 ?hT29 ?rT29
            case hT29 =>
              intro w' hSw
              obtain ⟨k0, k1, k2⟩ := hSw
              go_simp
              try with_reducible rfl
            simp only [List.setIfInBounds_toArray, List.set_cons_zero, List.set_cons_succ]
            refine hold_take (i := 30) (d := 67) (v := ?vT30) (listed' := #[true, true, true, true, true, true, true, true, true, true, true, true, true, true, true, true, false, true, true, true, true, true, true, true, true, true, true, true, true, true, true, false, false, false, false]) rfl (by kernel_rfl) (by kernel_rfl) (by kernel_rfl) rfl (by rfl) (by kernel_rfl) S0 ?hT30 ?rT30
            case hT30 =>
              intro w' hSw
              obtain ⟨k0, k1, k2⟩ := hSw
              go_simp
              try with_reducible rfl
            simp only [List.setIfInBounds_toArray, List.set_cons_zero, List.set_cons_succ]
            refine hold_take (i := 31) (d := 68) (v := .int .i64 (D : Int)) (listed' := #[true, true, true, true, true, true, true, true, true, true, true, true, true, true, true, true, false, true, true, true, true, true, true, true, true, true, true, true, true, true, true, true, false, false, false]) rfl (by kernel_rfl) (by kernel_rfl) (by kernel_rfl) rfl (by rfl) (by kernel_rfl) S0 ?hT31 ?rT31
            case hT31 =>
              intro w' hSw
              obtain ⟨k0, k1, k2⟩ := hSw
              go_simp
              first | (rw [if_neg (by omega), HWD.out]; done) | (simp only [HWD.out]; done) | (rw [HWD.out]; done) | skip
            simp only [List.setIfInBounds_toArray, List.set_cons_zero, List.set_cons_succ]
            refine hold_take (i := 32) (d := 69) (v := ?vT32) (listed' := #[true, true, true, true, true, true, true, true, true, true, true, true, true, true, true, true, false, true, true, true, true, true, true, true, true, true, true, true, true, true, true, true, true, false, false]) rfl (by kernel_rfl) (by kernel_rfl) (by kernel_rfl) rfl (by rfl) (by kernel_rfl) S0 ?hT32 ?rT32
            case hT32 =>
              intro w' hSw
              obtain ⟨k0, k1, k2⟩ := hSw
              go_simp
              try with_reducible rfl
            simp only [List.setIfInBounds_toArray, List.set_cons_zero, List.set_cons_succ]
            refine hold_call (i := 16) (d := 53) (listed' := #[true, true, true, true, true, true, true, true, true, true, true, true, true, true, true, true, true, true, true, true, true, true, true, true, true, true, true, true, true, true, true, true, true, false, false]) rfl (by kernel_rfl) rfl (by rfl) (by kernel_rfl) ?heT16 (sv_all f1 (nc := nc) s1 HFT1.out hs601 L0.out HOO.out hA hBq hD) ?hcT16
            case heT16 => go_simp
            rintro e x1 ⟨rfl, bb1⟩
            have hX1 := hX0.step bb1
            have L1 := Lib.hid (L0.out.step bb1)
            have S1 : (fun w' => w'.cell? ⟨w.heap.size, 0, none⟩ = some (.slice ua m.n l.cap) ∧ w'.cell? ⟨w.heap.size, 1, none⟩ = some (.slice (some ⟨g, o, none⟩) m.n nc) ∧ w'.cell? ⟨g, o + n0, none⟩ = some (.int .i64 ((y n0 : Nat) : Int))) x1 := ⟨hX1.cell 0 rfl, hX1.cell 1 rfl, log_not L1.out HOO.out hn0⟩
            have hDw1 := Lib.hid ((hDw).out.trans (bb1.mono (hDw).out.size))
            clear S0 hX0 L0 bb1
            refine ⟨_, rfl, S1, ?_⟩
            simp only [List.setIfInBounds_toArray, List.set_cons_zero, List.set_cons_succ]
            refine hold_call (i := 33) (d := 70) (listed' := #[true, true, true, true, true, true, true, true, true, true, true, true, true, true, true, true, true, true, true, true, true, true, true, true, true, true, true, true, true, true, true, true, true, true, false]) rfl (by kernel_rfl) rfl (by rfl) (by kernel_rfl) ?heT33 (sv_all f2 (nc := nc) s2 HFT2.out hs602 L1.out HOO.out hA hBq hD) ?hcT33
            case heT33 => go_simp
            rintro e x2 ⟨rfl, bb2⟩
            have hX2 := hX1.step bb2
            have L2 := Lib.hid (L1.out.step bb2)
            have S2 : (fun w' => w'.cell? ⟨w.heap.size, 0, none⟩ = some (.slice ua m.n l.cap) ∧ w'.cell? ⟨w.heap.size, 1, none⟩ = some (.slice (some ⟨g, o, none⟩) m.n nc) ∧ w'.cell? ⟨g, o + n0, none⟩ = some (.int .i64 ((y n0 : Nat) : Int))) x2 := ⟨hX2.cell 0 rfl, hX2.cell 1 rfl, log_not L2.out HOO.out hn0⟩
            have hDw2 := Lib.hid ((hDw1).out.trans (bb2.mono (hDw1).out.size))
            clear S1 hX1 L1 bb2
            refine ⟨_, rfl, S2, ?_⟩
            simp only [List.setIfInBounds_toArray, List.set_cons_zero, List.set_cons_succ]
            refine hold_take (i := 34) (d := 71) (v := ?vT34) (listed' := #[true, true, true, true, true, true, true, true, true, true, true, true, true, true, true, true, true, true, true, true, true, true, true, true, true, true, true, true, true, true, true, true, true, true, true]) rfl (by kernel_rfl) (by kernel_rfl) (by kernel_rfl) rfl (by rfl) (by kernel_rfl) S2 ?hT34 ?rT34
            case hT34 =>
              intro w' hSw
              obtain ⟨k0, k1, k2⟩ := hSw
              go_simp
              try with_reducible rfl
            simp only [List.setIfInBounds_toArray, List.set_cons_zero, List.set_cons_succ]
            refine hold_done (by kernel_rfl) ?_ _
            obtain ⟨va, hva⟩ : ∃ va, valN m y n0 A Bq D f1 = va := ⟨_, rfl⟩
            obtain ⟨vb, hvb⟩ : ∃ vb, valN m y n0 A Bq D f2 = vb := ⟨_, rfl⟩
            have HPv : Hid ((fun a b d => decide (valN m y n0 a b d f1 = valN m y n0 a b d f2)) (i / m.n / m.n) (i / m.n % m.n) (i % m.n) = decide (va = vb)) := by show _ = _; refine HPE.out.trans ?_; show decide (_ = _) = _; rw [hva, hvb]
            have hDx : Below w2.heap.size w2 x2 := hDw2.out
            rw [hva, hvb]
            clear hva hvb
            by_cases hab : va = vb
            · subst hab
              have hne : ((va : Int) != (va : Int)) = false := by simp
              go_wp2_with fail
              go_roundw
              case rel => exact ⟨i + 1, by omega, by go_num, hDx, fun j hj => by
                by_cases e : j = i
                · subst e; exact HPv.out.trans (decide_eq_true rfl)
                · exact hR.out j (by omega)⟩
              case measure => simp [intOf]; omega
            · have hne : ((va : Int) != (vb : Int)) = true := bne_iff_ne.2 (by omega)
              have HVf : Hid (sameV m m.n z s1.data.toList s2.data.toList = false) := by
                show _ = _
                rw [HV0.out, ← HKK.out]
                exact allK_no hlt (HPv.out.trans (decide_eq_false hab))
              clear hab
              go_wp2_with fail
              go_ret
              exact ⟨ret_bool HVf.out.symm, hX2.below⟩
          · have hlt' : ¬ (i : Int) < N := by omega
            have HVt : Hid (sameV m m.n z s1.data.toList s2.data.toList = true) := by
              show _ = _
              rw [HV0.out, ← HKK.out]
              exact allB_true fun j hj => hR.out j (by omega)
            go_wp2_with fail
            go_ret
            exact ⟨ret_bool HVt.out.symm, hBr⟩
end Go.Proofs.Ytmchgclaeipoeaa
