/- The walks of the reference's test of a state, of StateOk and StatesOf; what they answer. -/
import Derived.Test.YtnbglbhfclohjaaSl
import Derived.Test.YtnbglbhfclohjaaMathQ
import Derived.Test.YtnbglbhfclohjaaHb
import Derived.Test.YtnbglbhfclohjaaCh
namespace Go.Proofs.Ytnbglbhfclohjaa
open Go.RowKit Go.Deep

theorem bit_num (s k : Nat) : ((s : Int) / 2 ^ k).tmod 2 = ((bitN s k : Nat) : Int) := by
  rw [bit_is]; unfold bitN; split <;> rfl
def inS (n : Nat) (x : Int) : Bool := decide (0 ≤ x ∧ x < ((2 ^ n : Nat) : Int))
noncomputable def stateV (m : Mx) (k : Nat) (z : Nat → Int) (x : Int) : Bool := logicB m k z && (inS m.n x && stateB m (fun c => (z c).toNat) (leastI m).toNat x.toNat)
noncomputable def statesV (m : Mx) (k : Nat) (z : Nat → Int) : List Int := if logicB m k z = true then stateL m (fun c => (z c).toNat) (leastI m).toNat else []
/-- What the reference asks of one answer. -/
def stR (m : Mx) (y : Nat → Nat) (s a : Nat) : Bool := decide (bitN s a + bitN s (y a) = 1) && allB a fun b => stateP m y s a b
theorem stateB_is (m : Mx) (y : Nat → Nat) (o s : Nat) : stateB m y o s = (s.testBit (y o) && allB m.n (stR m y s)) := rfl
theorem Ortho.yesV9 {m : Mx} {k : Nat} {z : Nat → Int} {y : Nat → Nat} {o : Nat} (h : Ortho m z y o) (hl : logicB m k z = true) : yesV m k z = (y o : Int) := by
  unfold Proofs.Ytnbglbhfclohjaa.yesV
  rw [if_pos hl, h.eq]
  exact h.zy o h.ho
theorem Ortho.stateV {m : Mx} {k s : Nat} {z : Nat → Int} {y : Nat → Nat} {o : Nat} (h : Ortho m z y o) (hl : logicB m k z = true) (hy : y = fun c => (z c).toNat) (hs : s < 2 ^ m.n) : Proofs.Ytnbglbhfclohjaa.stateV m k z (s : Int) = stateB m y o s := by
  have e : inS m.n (s : Int) = true := decide_eq_true ⟨by omega, by omega⟩
  unfold Proofs.Ytnbglbhfclohjaa.stateV
  rw [hl, e, h.eq, ← hy]; simp
theorem Ortho.statesV {m : Mx} {k : Nat} {z : Nat → Int} {y : Nat → Nat} {o : Nat} (h : Ortho m z y o) (hl : logicB m k z = true) (hy : y = fun c => (z c).toNat) : Proofs.Ytnbglbhfclohjaa.statesV m k z = stateL m y o := by
  unfold Proofs.Ytnbglbhfclohjaa.statesV
  rw [if_pos hl, h.eq, ← hy]; rfl
theorem state_zero (m : Mx) (y : Nat → Nat) (o : Nat) : stateB m y o 0 = false := by unfold stateB; simp

set_option maxRecDepth 100000 in
set_option maxHeartbeats 4000000 in
theorem l9State_any {w : World} {B : Nat} {ua : Option Addr} {l : Lay} {m : Mx} {na : Option Addr} {g o nc s o' : Nat} {z : Nat → Int} {y : Nat → Nat} (h : LogAt w B ua l m na g o m.n z) (hO : Ortho m z y o') (_ : s < 4096) :
    Calls Try.prog 47 #[.agg #[.slice ua m.n l.cap, .slice na m.n nc], .int .i64 s, .int .i64 ((y o' : Nat) : Int)] w fun e w' => e = .returned (.bool (stateB m y o' s)) ∧ Below w.heap.size w w' := by
  have hX := BoxN.start w #[.slice ua m.n l.cap, .slice na m.n nc] 26
  have hL := Lib.hid (h.alloc (.cells #[.slice ua m.n l.cap, .slice na m.n nc] 26))
  have q0 := hX.cell 0 rfl
  have q1 := hX.cell 1 rfl
  have hn := hO.lat.order.top
  have hpos := hO.lat.order.pos
  have HO := Lib.hid hO
  have HS := Lib.hid hO.lat.order.sq
  have hy0 := hO.lt o' hO.ho
  obtain ⟨rfl, _, _⟩ := hL.out.row.row 0 (by omega)
  obtain ⟨rfl, _, _⟩ := hL.out.mat.top 0 (by omega)
  obtain ⟨t, ht⟩ : ∃ t, y o' = t := ⟨_, rfl⟩
  rw [ht] at hy0
  have HB := Lib.hid (stateB_is m y o' s)
  rw [ht] at HB ⊢
  have HT := Lib.hid ht
  clear h hO ht
  cases hbt : s.testBit t with
  | false =>
    have HF : Hid (false = stateB m y o' s) := by show _ = _; rw [HB.out, hbt]; rfl
    have t1 := bit_no hbt
    clear hbt
    go_enter Try.func47, Try.ntmps47
    go_wp2_with fail
    go_ret
    exact ⟨ret_bool HF.out, hX.below⟩
  | true =>
  have HV : Hid (stateB m y o' s = allB m.n (stR m y s)) := by show _ = _; rw [HB.out, hbt]; rfl
  have t1 := bit_yes hbt
  clear hbt HB
  go_enter Try.func47, Try.ntmps47
  go_wp2_with fail
  clear t1
  generalize hW : w.alloc (.cells #[.slice (some ⟨l.b, l.o, none⟩) m.n l.cap, .slice (some ⟨g, o, none⟩) m.n nc] 26) = W at hX hL q0 q1 ⊢
  clear hW q0 q1
  go_loopw [7] (fun i wr => ∃ j : Nat, j ≤ m.n ∧ i = .int .i64 j ∧ Below W.heap.size W wr ∧ Hid (∀ a, a < j → stR m y s a = true)) (fun i _ => m.n - (intOf i).toNat)
  case atStart => exact ⟨0, Nat.zero_le _, rfl, Below.refl _ _, fun c hc => absurd hc (Nat.not_lt_zero _)⟩
  case round =>
    obtain ⟨j, hj, rfl, hD, hR⟩ := hrel
    have hXr := hX.step hD
    have q0 := hXr.cell 0 rfl
    have q1 := hXr.cell 1 rfl
    by_cases hlt : j < m.n
    · have hlt' : (j : Int) < m.n := by omega
      have hDd := hD.drew
      have hXd := hX.step hDd
      have p0 := hXd.cell 0 rfl
      have p1 := hXd.cell 1 rfl
      obtain ⟨_, _, c1⟩ := (hL.out.step hDd).row.row j hlt
      rw [HO.out.zy j hlt] at c1
      have hyj := HO.out.lt j hlt
      obtain ⟨v, hv⟩ : ∃ v, y j = v := ⟨_, rfl⟩
      rw [hv] at c1 hyj
      have t1 := bit_num s j
      have t2 := bit_num s v
      have HP0 : Hid (stR m y s j = (decide (bitN s j + bitN s v = 1) && allB j fun b => stateP m y s j b)) := by show _ = _; rw [← hv]; rfl
      have b1 := bitN_le s j
      have b2 := bitN_le s v
      obtain ⟨P, hP⟩ : ∃ P, bitN s j = P := ⟨_, rfl⟩
      obtain ⟨Q, hQ⟩ : ∃ Q, bitN s v = Q := ⟨_, rfl⟩
      rw [hP] at t1 HP0 b1
      rw [hQ] at t2 HP0 b2
      have S1 : Hid (IntKind.i64.wrap ((P : Int) + (Q : Int)) = (P : Int) + (Q : Int)) := IntWalk.i64_in _ (by omega)
      have HPj := Lib.hid hP
      have hS0 := (show _ ∧ _ ∧ _ from ⟨p0, p1, c1⟩)
      clear p0 p1 c1 hv hP hQ hXd b1 b2
      by_cases heq : P + Q = 1
      · have N2 := Lib.hid heq
        have HP : Hid (stR m y s j = allB j fun b => stateP m y s j b) := by show _ = _; rw [HP0.out, decide_eq_true heq]; rfl
        clear heq HP0
        go_wp2_with fail
        refine region_plain (fuel := 14) (listed := #[false, false, false, false, false, false, false, false, false, false, false, false, false, false]) (fun w' => w'.cell? ⟨w.heap.size, 0, none⟩ = some (.slice (some ⟨l.b, l.o, none⟩) m.n l.cap) ∧ w'.cell? ⟨w.heap.size, 1, none⟩ = some (.slice (some ⟨g, o, none⟩) m.n nc) ∧ w'.cell? ⟨g, o + j, none⟩ = some (.int .i64 (v : Int))) (by kernel_rfl) (by kernel_rfl) (by kernel_rfl) ?_
        refine hold_take (i := 0) (d := 21) (v := ?va0) (listed' := #[true, false, false, false, false, false, false, false, false, false, false, false, false, false]) rfl (by kernel_rfl) (by kernel_rfl) (by kernel_rfl) rfl (by rfl) (by kernel_rfl) hS0 ?ha0 ?ra0
        case ha0 =>
          intro w' hSw
          obtain ⟨k0, k1, k2⟩ := hSw
          go_simp
          try with_reducible rfl
        simp only [List.setIfInBounds_toArray, List.set_cons_zero, List.set_cons_succ]
        refine hold_take (i := 1) (d := 22) (v := ?va1) (listed' := #[true, true, false, false, false, false, false, false, false, false, false, false, false, false]) rfl (by kernel_rfl) (by kernel_rfl) (by kernel_rfl) rfl (by rfl) (by kernel_rfl) hS0 ?ha1 ?ra1
        case ha1 =>
          intro w' hSw
          obtain ⟨k0, k1, k2⟩ := hSw
          go_simp
          try with_reducible rfl
        simp only [List.setIfInBounds_toArray, List.set_cons_zero, List.set_cons_succ]
        refine hold_take (i := 2) (d := 23) (v := ?va2) (listed' := #[true, true, true, false, false, false, false, false, false, false, false, false, false, false]) rfl (by kernel_rfl) (by kernel_rfl) (by kernel_rfl) rfl (by rfl) (by kernel_rfl) hS0 ?ha2 ?ra2
        case ha2 =>
          intro w' hSw
          obtain ⟨k0, k1, k2⟩ := hSw
          go_simp
          try with_reducible rfl
        simp only [List.setIfInBounds_toArray, List.set_cons_zero, List.set_cons_succ]
        refine hold_take (i := 3) (d := 24) (v := ?va3) (listed' := #[true, true, true, true, false, false, false, false, false, false, false, false, false, false]) rfl (by kernel_rfl) (by kernel_rfl) (by kernel_rfl) rfl (by rfl) (by kernel_rfl) hS0 ?ha3 ?ra3
        case ha3 =>
          intro w' hSw
          obtain ⟨k0, k1, k2⟩ := hSw
          go_simp
          try with_reducible rfl
        simp only [List.setIfInBounds_toArray, List.set_cons_zero, List.set_cons_succ]
        refine hold_take (i := 4) (d := 25) (v := ?va4) (listed' := #[true, true, true, true, true, false, false, false, false, false, false, false, false, false]) rfl (by kernel_rfl) (by kernel_rfl) (by kernel_rfl) rfl (by rfl) (by kernel_rfl) hS0 ?ha4 ?ra4
        case ha4 =>
          intro w' hSw
          obtain ⟨k0, k1, k2⟩ := hSw
          go_simp
          try with_reducible rfl
        simp only [List.setIfInBounds_toArray, List.set_cons_zero, List.set_cons_succ]
        refine hold_take (i := 5) (d := 26) (v := ?va5) (listed' := #[true, true, true, true, true, true, false, false, false, false, false, false, false, false]) rfl (by kernel_rfl) (by kernel_rfl) (by kernel_rfl) rfl (by rfl) (by kernel_rfl) hS0 ?ha5 ?ra5
        case ha5 =>
          intro w' hSw
          obtain ⟨k0, k1, k2⟩ := hSw
          go_simp
          try with_reducible rfl
        simp only [List.setIfInBounds_toArray, List.set_cons_zero, List.set_cons_succ]
        refine hold_take (i := 6) (d := 27) (v := ?va6) (listed' := #[true, true, true, true, true, true, true, false, false, false, false, false, false, false]) rfl (by kernel_rfl) (by kernel_rfl) (by kernel_rfl) rfl (by rfl) (by kernel_rfl) hS0 ?ha6 ?ra6
        case ha6 =>
          intro w' hSw
          obtain ⟨k0, k1, k2⟩ := hSw
          go_simp
          try with_reducible rfl
        simp only [List.setIfInBounds_toArray, List.set_cons_zero, List.set_cons_succ]
        refine hold_take (i := 7) (d := 28) (v := ?va7) (listed' := #[true, true, true, true, true, true, true, true, false, false, false, false, false, false]) rfl (by kernel_rfl) (by kernel_rfl) (by kernel_rfl) rfl (by rfl) (by kernel_rfl) hS0 ?ha7 ?ra7
        case ha7 =>
          intro w' hSw
          obtain ⟨k0, k1, k2⟩ := hSw
          go_simp
          try with_reducible rfl
        simp only [List.setIfInBounds_toArray, List.set_cons_zero, List.set_cons_succ]
        refine hold_take (i := 8) (d := 29) (v := ?va8) (listed' := #[true, true, true, true, true, true, true, true, true, false, false, false, false, false]) rfl (by kernel_rfl) (by kernel_rfl) (by kernel_rfl) rfl (by rfl) (by kernel_rfl) hS0 ?ha8 ?ra8
        case ha8 =>
          intro w' hSw
          obtain ⟨k0, k1, k2⟩ := hSw
          go_simp
          try with_reducible rfl
        simp only [List.setIfInBounds_toArray, List.set_cons_zero, List.set_cons_succ]
        refine hold_take (i := 9) (d := 30) (v := ?va9) (listed' := #[true, true, true, true, true, true, true, true, true, true, false, false, false, false]) rfl (by kernel_rfl) (by kernel_rfl) (by kernel_rfl) rfl (by rfl) (by kernel_rfl) hS0 ?ha9 ?ra9
        case ha9 =>
          intro w' hSw
          obtain ⟨k0, k1, k2⟩ := hSw
          go_simp
          try with_reducible rfl
        simp only [List.setIfInBounds_toArray, List.set_cons_zero, List.set_cons_succ]
        refine hold_take (i := 10) (d := 31) (v := ?va10) (listed' := #[true, true, true, true, true, true, true, true, true, true, true, false, false, false]) rfl (by kernel_rfl) (by kernel_rfl) (by kernel_rfl) rfl (by rfl) (by kernel_rfl) hS0 ?ha10 ?ra10
        case ha10 =>
          intro w' hSw
          obtain ⟨k0, k1, k2⟩ := hSw
          go_simp
          try with_reducible rfl
        simp only [List.setIfInBounds_toArray, List.set_cons_zero, List.set_cons_succ]
        refine hold_take (i := 11) (d := 32) (v := ?va11) (listed' := #[true, true, true, true, true, true, true, true, true, true, true, true, false, false]) rfl (by kernel_rfl) (by kernel_rfl) (by kernel_rfl) rfl (by rfl) (by kernel_rfl) hS0 ?ha11 ?ra11
        case ha11 =>
          intro w' hSw
          obtain ⟨k0, k1, k2⟩ := hSw
          go_simp
          try with_reducible rfl
        simp only [List.setIfInBounds_toArray, List.set_cons_zero, List.set_cons_succ]
        refine hold_take (i := 12) (d := 33) (v := .int .i64 ((P : Int) + (Q : Int))) (listed' := #[true, true, true, true, true, true, true, true, true, true, true, true, true, false]) rfl (by kernel_rfl) (by kernel_rfl) (by kernel_rfl) rfl (by rfl) (by kernel_rfl) hS0 ?ha12 ?ra12
        case ha12 =>
          intro w' hSw
          obtain ⟨k0, k1, k2⟩ := hSw
          go_simp
          simp only [S1.out]
        simp only [List.setIfInBounds_toArray, List.set_cons_zero, List.set_cons_succ]
        refine hold_take (i := 13) (d := 34) (v := .bool false) (listed' := #[true, true, true, true, true, true, true, true, true, true, true, true, true, true]) rfl (by kernel_rfl) (by kernel_rfl) (by kernel_rfl) rfl (by rfl) (by kernel_rfl) hS0 ?ha13 ?ra13
        case ha13 =>
          intro w' hSw
          obtain ⟨k0, k1, k2⟩ := hSw
          go_simp
          have h9 := N2.out
          first | omega | (simp; omega)
        simp only [List.setIfInBounds_toArray, List.set_cons_zero, List.set_cons_succ]
        refine hold_done (by kernel_rfl) ?_ _
        go_wp2_with fail
        clear t1 t2 q0 q1 hXr
        clear hS0 S1 HPj N2
        go_loopw [8] (fun i wi => ∃ b : Nat, b ≤ j ∧ i = .int .i64 b ∧ Below W.heap.size W wi ∧ Hid (∀ c, c < b → stateP m y s j c = true)) (fun i _ => j - (intOf i).toNat)
        case atStart => exact ⟨0, Nat.zero_le _, rfl, hDd, fun c hc => absurd hc (Nat.not_lt_zero _)⟩
        case round =>
          obtain ⟨b, hb, rfl, hD2, hT⟩ := hrel
          by_cases hbt : b < j
          · have hbt' : (b : Int) < j := by omega
            have hbn : b < m.n := by omega
            have hbn' : (b : Int) < m.n := by omega
            have hD2d := hD2.drew
            have hXd := hX.step hD2d
            have p0 := hXd.cell 0 rfl
            have p1 := hXd.cell 1 rfl
            have hLd := Lib.hid (hL.out.step hD2d)
            have hmat := Lib.hid hLd.out.mat
            obtain ⟨_, _, c1⟩ := hLd.out.row.row b hbn
            rw [HO.out.zy b hbn] at c1
            have hyb := HO.out.lt b hbn
            obtain ⟨_, c2, c3⟩ := hmat.out.sq HS.out hlt hyb
            have HSP : Hid (stateP m y s j b = (!leB m j (y b) || decide (bitN s j + bitN s b = bitN s (jN m j b)))) := rfl
            have hzc := leB_cases HS.out hlt hyb
            obtain ⟨u, hu⟩ : ∃ u, y b = u := ⟨_, rfl⟩
            rw [hu] at c1 c3 hyb HSP hzc
            have hyb' : (u : Int) < m.n := by omega
            have t1 := bit_num s j
            have t2 := bit_num s b
            have b1 := bitN_le s j
            have b2 := bitN_le s b
            obtain ⟨P, hP⟩ : ∃ P, bitN s j = P := ⟨_, rfl⟩
            obtain ⟨Q, hQ⟩ : ∃ Q, bitN s b = Q := ⟨_, rfl⟩
            obtain ⟨J, hJ⟩ : ∃ J, jN m j b = J := ⟨_, rfl⟩
            have t3 := bit_num s J
            obtain ⟨R, hR'⟩ : ∃ R, bitN s J = R := ⟨_, rfl⟩
            rw [hP] at t1 HSP b1
            rw [hQ] at t2 HSP b2
            rw [hJ, hR'] at HSP
            rw [hR'] at t3
            have HJ := Lib.hid hJ
            have hJn : J < m.n := by rw [← hJ]; exact (HO.out.jG hlt hbn).lt
            have hJ' : (J : Int) < m.n := by omega
            have hJ64 : (J : Int) ≤ 64 := by omega
            have S1 : Hid (IntKind.i64.wrap ((P : Int) + (Q : Int)) = (P : Int) + (Q : Int)) := IntWalk.i64_in _ (by omega)
            clear hu hP hQ hR' hXd b1 b2 hLd hJ
            rcases hzc with ⟨l1, z1⟩ | ⟨l1, z1⟩
            · rw [z1] at c3
              have hS0 := (show _ ∧ _ ∧ _ ∧ _ ∧ _ from ⟨p0, p1, c1, c2, c3⟩)
              clear p0 p1 c1 c2 c3 z1
              by_cases heq : P + Q = R
              · have N2 := Lib.hid heq
                have HQ : Hid (stateP m y s j b = true) := by show _ = _; rw [HSP.out, decide_eq_true heq, Bool.or_true]
                clear heq HSP l1
                go_wp2_with fail
                refine region_plain (fuel := 33) (listed := #[false, false, false, false, false, false, false, false, false, false, false, false, false, false, false, false, false, false, false, false, false, false, false, false, false, false, false, false, false, false, false, false, false]) (fun w' => w'.cell? ⟨w.heap.size, 0, none⟩ = some (.slice (some ⟨l.b, l.o, none⟩) m.n l.cap) ∧ w'.cell? ⟨w.heap.size, 1, none⟩ = some (.slice (some ⟨g, o, none⟩) m.n nc) ∧ w'.cell? ⟨g, o + b, none⟩ = some (.int .i64 (u : Int)) ∧ w'.cell? ⟨l.b, l.o + j, none⟩ = some (.slice (some ⟨l.G j, l.O j, none⟩) m.n (l.C j)) ∧ w'.cell? ⟨l.G j, l.O j + u, none⟩ = some (.int .i64 1)) (by kernel_rfl) (by kernel_rfl) (by kernel_rfl) ?_
                refine hold_take (i := 0) (d := 40) (v := ?vb0) (listed' := #[true, false, false, false, false, false, false, false, false, false, false, false, false, false, false, false, false, false, false, false, false, false, false, false, false, false, false, false, false, false, false, false, false]) rfl (by kernel_rfl) (by kernel_rfl) (by kernel_rfl) rfl (by rfl) (by kernel_rfl) hS0 ?hb0 ?rb0
                case hb0 =>
                  intro w' hSw
                  obtain ⟨k0, k1, k2, k3, k4⟩ := hSw
                  go_simp
                  try with_reducible rfl
                simp only [List.setIfInBounds_toArray, List.set_cons_zero, List.set_cons_succ]
                refine hold_take (i := 1) (d := 41) (v := ?vb1) (listed' := #[true, true, false, false, false, false, false, false, false, false, false, false, false, false, false, false, false, false, false, false, false, false, false, false, false, false, false, false, false, false, false, false, false]) rfl (by kernel_rfl) (by kernel_rfl) (by kernel_rfl) rfl (by rfl) (by kernel_rfl) hS0 ?hb1 ?rb1
                case hb1 =>
                  intro w' hSw
                  obtain ⟨k0, k1, k2, k3, k4⟩ := hSw
                  go_simp
                  try with_reducible rfl
                simp only [List.setIfInBounds_toArray, List.set_cons_zero, List.set_cons_succ]
                refine hold_take (i := 2) (d := 42) (v := ?vb2) (listed' := #[true, true, true, false, false, false, false, false, false, false, false, false, false, false, false, false, false, false, false, false, false, false, false, false, false, false, false, false, false, false, false, false, false]) rfl (by kernel_rfl) (by kernel_rfl) (by kernel_rfl) rfl (by rfl) (by kernel_rfl) hS0 ?hb2 ?rb2
                case hb2 =>
                  intro w' hSw
                  obtain ⟨k0, k1, k2, k3, k4⟩ := hSw
                  go_simp
                  try with_reducible rfl
                simp only [List.setIfInBounds_toArray, List.set_cons_zero, List.set_cons_succ]
                refine hold_take (i := 3) (d := 43) (v := ?vb3) (listed' := #[true, true, true, true, false, false, false, false, false, false, false, false, false, false, false, false, false, false, false, false, false, false, false, false, false, false, false, false, false, false, false, false, false]) rfl (by kernel_rfl) (by kernel_rfl) (by kernel_rfl) rfl (by rfl) (by kernel_rfl) hS0 ?hb3 ?rb3
                case hb3 =>
                  intro w' hSw
                  obtain ⟨k0, k1, k2, k3, k4⟩ := hSw
                  go_simp
                  try with_reducible rfl
                simp only [List.setIfInBounds_toArray, List.set_cons_zero, List.set_cons_succ]
                refine hold_take (i := 4) (d := 44) (v := ?vb4) (listed' := #[true, true, true, true, true, false, false, false, false, false, false, false, false, false, false, false, false, false, false, false, false, false, false, false, false, false, false, false, false, false, false, false, false]) rfl (by kernel_rfl) (by kernel_rfl) (by kernel_rfl) rfl (by rfl) (by kernel_rfl) hS0 ?hb4 ?rb4
                case hb4 =>
                  intro w' hSw
                  obtain ⟨k0, k1, k2, k3, k4⟩ := hSw
                  go_simp
                  try with_reducible rfl
                simp only [List.setIfInBounds_toArray, List.set_cons_zero, List.set_cons_succ]
                refine hold_take (i := 5) (d := 45) (v := ?vb5) (listed' := #[true, true, true, true, true, true, false, false, false, false, false, false, false, false, false, false, false, false, false, false, false, false, false, false, false, false, false, false, false, false, false, false, false]) rfl (by kernel_rfl) (by kernel_rfl) (by kernel_rfl) rfl (by rfl) (by kernel_rfl) hS0 ?hb5 ?rb5
                case hb5 =>
                  intro w' hSw
                  obtain ⟨k0, k1, k2, k3, k4⟩ := hSw
                  go_simp
                  try with_reducible rfl
                simp only [List.setIfInBounds_toArray, List.set_cons_zero, List.set_cons_succ]
                refine hold_take (i := 6) (d := 46) (v := ?vb6) (listed' := #[true, true, true, true, true, true, true, false, false, false, false, false, false, false, false, false, false, false, false, false, false, false, false, false, false, false, false, false, false, false, false, false, false]) rfl (by kernel_rfl) (by kernel_rfl) (by kernel_rfl) rfl (by rfl) (by kernel_rfl) hS0 ?hb6 ?rb6
                case hb6 =>
                  intro w' hSw
                  obtain ⟨k0, k1, k2, k3, k4⟩ := hSw
                  go_simp
                  try with_reducible rfl
                simp only [List.setIfInBounds_toArray, List.set_cons_zero, List.set_cons_succ]
                refine hold_take (i := 7) (d := 47) (v := ?vb7) (listed' := #[true, true, true, true, true, true, true, true, false, false, false, false, false, false, false, false, false, false, false, false, false, false, false, false, false, false, false, false, false, false, false, false, false]) rfl (by kernel_rfl) (by kernel_rfl) (by kernel_rfl) rfl (by rfl) (by kernel_rfl) hS0 ?hb7 ?rb7
                case hb7 =>
                  intro w' hSw
                  obtain ⟨k0, k1, k2, k3, k4⟩ := hSw
                  go_simp
                  try with_reducible rfl
                simp only [List.setIfInBounds_toArray, List.set_cons_zero, List.set_cons_succ]
                refine hold_take (i := 8) (d := 48) (v := ?vb8) (listed' := #[true, true, true, true, true, true, true, true, true, false, false, false, false, false, false, false, false, false, false, false, false, false, false, false, false, false, false, false, false, false, false, false, false]) rfl (by kernel_rfl) (by kernel_rfl) (by kernel_rfl) rfl (by rfl) (by kernel_rfl) hS0 ?hb8 ?rb8
                case hb8 =>
                  intro w' hSw
                  obtain ⟨k0, k1, k2, k3, k4⟩ := hSw
                  go_simp
                  try with_reducible rfl
                simp only [List.setIfInBounds_toArray, List.set_cons_zero, List.set_cons_succ]
                refine hold_take (i := 9) (d := 49) (v := ?vb9) (listed' := #[true, true, true, true, true, true, true, true, true, true, false, false, false, false, false, false, false, false, false, false, false, false, false, false, false, false, false, false, false, false, false, false, false]) rfl (by kernel_rfl) (by kernel_rfl) (by kernel_rfl) rfl (by rfl) (by kernel_rfl) hS0 ?hb9 ?rb9
                case hb9 =>
                  intro w' hSw
                  obtain ⟨k0, k1, k2, k3, k4⟩ := hSw
                  go_simp
                  try with_reducible rfl
                simp only [List.setIfInBounds_toArray, List.set_cons_zero, List.set_cons_succ]
                refine hold_take (i := 10) (d := 50) (v := ?vb10) (listed' := #[true, true, true, true, true, true, true, true, true, true, true, false, false, false, false, false, false, false, false, false, false, false, false, false, false, false, false, false, false, false, false, false, false]) rfl (by kernel_rfl) (by kernel_rfl) (by kernel_rfl) rfl (by rfl) (by kernel_rfl) hS0 ?hb10 ?rb10
                case hb10 =>
                  intro w' hSw
                  obtain ⟨k0, k1, k2, k3, k4⟩ := hSw
                  go_simp
                  try with_reducible rfl
                simp only [List.setIfInBounds_toArray, List.set_cons_zero, List.set_cons_succ]
                refine hold_take (i := 11) (d := 51) (v := ?vb11) (listed' := #[true, true, true, true, true, true, true, true, true, true, true, true, false, false, false, false, false, false, false, false, false, false, false, false, false, false, false, false, false, false, false, false, false]) rfl (by kernel_rfl) (by kernel_rfl) (by kernel_rfl) rfl (by rfl) (by kernel_rfl) hS0 ?hb11 ?rb11
                case hb11 =>
                  intro w' hSw
                  obtain ⟨k0, k1, k2, k3, k4⟩ := hSw
                  go_simp
                  try with_reducible rfl
                simp only [List.setIfInBounds_toArray, List.set_cons_zero, List.set_cons_succ]
                refine hold_take (i := 12) (d := 52) (v := ?vb12) (listed' := #[true, true, true, true, true, true, true, true, true, true, true, true, true, false, false, false, false, false, false, false, false, false, false, false, false, false, false, false, false, false, false, false, false]) rfl (by kernel_rfl) (by kernel_rfl) (by kernel_rfl) rfl (by rfl) (by kernel_rfl) hS0 ?hb12 ?rb12
                case hb12 =>
                  intro w' hSw
                  obtain ⟨k0, k1, k2, k3, k4⟩ := hSw
                  go_simp
                  try with_reducible rfl
                simp only [List.setIfInBounds_toArray, List.set_cons_zero, List.set_cons_succ]
                refine hold_take (i := 13) (d := 53) (v := ?vb13) (listed' := #[true, true, true, true, true, true, true, true, true, true, true, true, true, true, false, false, false, false, false, false, false, false, false, false, false, false, false, false, false, false, false, false, false]) rfl (by kernel_rfl) (by kernel_rfl) (by kernel_rfl) rfl (by rfl) (by kernel_rfl) hS0 ?hb13 ?rb13
                case hb13 =>
                  intro w' hSw
                  obtain ⟨k0, k1, k2, k3, k4⟩ := hSw
                  go_simp
                  try with_reducible rfl
                simp only [List.setIfInBounds_toArray, List.set_cons_zero, List.set_cons_succ]
                refine hold_take (i := 14) (d := 54) (v := ?vb14) (listed' := #[true, true, true, true, true, true, true, true, true, true, true, true, true, true, true, false, false, false, false, false, false, false, false, false, false, false, false, false, false, false, false, false, false]) rfl (by kernel_rfl) (by kernel_rfl) (by kernel_rfl) rfl (by rfl) (by kernel_rfl) hS0 ?hb14 ?rb14
                case hb14 =>
                  intro w' hSw
                  obtain ⟨k0, k1, k2, k3, k4⟩ := hSw
                  go_simp
                  try with_reducible rfl
                simp only [List.setIfInBounds_toArray, List.set_cons_zero, List.set_cons_succ]
                refine hold_take (i := 15) (d := 55) (v := ?vb15) (listed' := #[true, true, true, true, true, true, true, true, true, true, true, true, true, true, true, true, false, false, false, false, false, false, false, false, false, false, false, false, false, false, false, false, false]) rfl (by kernel_rfl) (by kernel_rfl) (by kernel_rfl) rfl (by rfl) (by kernel_rfl) hS0 ?hb15 ?rb15
                case hb15 =>
                  intro w' hSw
                  obtain ⟨k0, k1, k2, k3, k4⟩ := hSw
                  go_simp
                  try with_reducible rfl
                simp only [List.setIfInBounds_toArray, List.set_cons_zero, List.set_cons_succ]
                refine hold_take (i := 16) (d := 56) (v := ?vb16) (listed' := #[true, true, true, true, true, true, true, true, true, true, true, true, true, true, true, true, true, false, false, false, false, false, false, false, false, false, false, false, false, false, false, false, false]) rfl (by kernel_rfl) (by kernel_rfl) (by kernel_rfl) rfl (by rfl) (by kernel_rfl) hS0 ?hb16 ?rb16
                case hb16 =>
                  intro w' hSw
                  obtain ⟨k0, k1, k2, k3, k4⟩ := hSw
                  go_simp
                  try with_reducible rfl
                simp only [List.setIfInBounds_toArray, List.set_cons_zero, List.set_cons_succ]
                refine hold_take (i := 17) (d := 57) (v := ?vb17) (listed' := #[true, true, true, true, true, true, true, true, true, true, true, true, true, true, true, true, true, true, false, false, false, false, false, false, false, false, false, false, false, false, false, false, false]) rfl (by kernel_rfl) (by kernel_rfl) (by kernel_rfl) rfl (by rfl) (by kernel_rfl) hS0 ?hb17 ?rb17
                case hb17 =>
                  intro w' hSw
                  obtain ⟨k0, k1, k2, k3, k4⟩ := hSw
                  go_simp
                  try with_reducible rfl
                simp only [List.setIfInBounds_toArray, List.set_cons_zero, List.set_cons_succ]
                refine hold_take (i := 18) (d := 58) (v := ?vb18) (listed' := #[true, true, true, true, true, true, true, true, true, true, true, true, true, true, true, true, true, true, true, false, false, false, false, false, false, false, false, false, false, false, false, false, false]) rfl (by kernel_rfl) (by kernel_rfl) (by kernel_rfl) rfl (by rfl) (by kernel_rfl) hS0 ?hb18 ?rb18
                case hb18 =>
                  intro w' hSw
                  obtain ⟨k0, k1, k2, k3, k4⟩ := hSw
                  go_simp
                  try with_reducible rfl
                simp only [List.setIfInBounds_toArray, List.set_cons_zero, List.set_cons_succ]
                refine hold_take (i := 19) (d := 59) (v := ?vb19) (listed' := #[true, true, true, true, true, true, true, true, true, true, true, true, true, true, true, true, true, true, true, true, false, false, false, false, false, false, false, false, false, false, false, false, false]) rfl (by kernel_rfl) (by kernel_rfl) (by kernel_rfl) rfl (by rfl) (by kernel_rfl) hS0 ?hb19 ?rb19
                case hb19 =>
                  intro w' hSw
                  obtain ⟨k0, k1, k2, k3, k4⟩ := hSw
                  go_simp
                  try with_reducible rfl
                simp only [List.setIfInBounds_toArray, List.set_cons_zero, List.set_cons_succ]
                refine hold_take (i := 20) (d := 60) (v := ?vb20) (listed' := #[true, true, true, true, true, true, true, true, true, true, true, true, true, true, true, true, true, true, true, true, true, false, false, false, false, false, false, false, false, false, false, false, false]) rfl (by kernel_rfl) (by kernel_rfl) (by kernel_rfl) rfl (by rfl) (by kernel_rfl) hS0 ?hb20 ?rb20
                case hb20 =>
                  intro w' hSw
                  obtain ⟨k0, k1, k2, k3, k4⟩ := hSw
                  go_simp
                  try with_reducible rfl
                simp only [List.setIfInBounds_toArray, List.set_cons_zero, List.set_cons_succ]
                refine hold_take (i := 21) (d := 61) (v := ?vb21) (listed' := #[true, true, true, true, true, true, true, true, true, true, true, true, true, true, true, true, true, true, true, true, true, true, false, false, false, false, false, false, false, false, false, false, false]) rfl (by kernel_rfl) (by kernel_rfl) (by kernel_rfl) rfl (by rfl) (by kernel_rfl) hS0 ?hb21 ?rb21
                case hb21 =>
                  intro w' hSw
                  obtain ⟨k0, k1, k2, k3, k4⟩ := hSw
                  go_simp
                  try with_reducible rfl
                simp only [List.setIfInBounds_toArray, List.set_cons_zero, List.set_cons_succ]
                refine hold_take (i := 22) (d := 62) (v := .int .i64 ((P : Int) + (Q : Int))) (listed' := #[true, true, true, true, true, true, true, true, true, true, true, true, true, true, true, true, true, true, true, true, true, true, true, false, false, false, false, false, false, false, false, false, false]) rfl (by kernel_rfl) (by kernel_rfl) (by kernel_rfl) rfl (by rfl) (by kernel_rfl) hS0 ?hb22 ?rb22
                case hb22 =>
                  intro w' hSw
                  obtain ⟨k0, k1, k2, k3, k4⟩ := hSw
                  go_simp
                  simp only [S1.out]
                simp only [List.setIfInBounds_toArray, List.set_cons_zero, List.set_cons_succ]
                refine hold_take (i := 23) (d := 63) (v := ?vb23) (listed' := #[true, true, true, true, true, true, true, true, true, true, true, true, true, true, true, true, true, true, true, true, true, true, true, true, false, false, false, false, false, false, false, false, false]) rfl (by kernel_rfl) (by kernel_rfl) (by kernel_rfl) rfl (by rfl) (by kernel_rfl) hS0 ?hb23 ?rb23
                case hb23 =>
                  intro w' hSw
                  obtain ⟨k0, k1, k2, k3, k4⟩ := hSw
                  go_simp
                  try with_reducible rfl
                simp only [List.setIfInBounds_toArray, List.set_cons_zero, List.set_cons_succ]
                refine hold_take (i := 24) (d := 64) (v := ?vb24) (listed' := #[true, true, true, true, true, true, true, true, true, true, true, true, true, true, true, true, true, true, true, true, true, true, true, true, true, false, false, false, false, false, false, false, false]) rfl (by kernel_rfl) (by kernel_rfl) (by kernel_rfl) rfl (by rfl) (by kernel_rfl) hS0 ?hb24 ?rb24
                case hb24 =>
                  intro w' hSw
                  obtain ⟨k0, k1, k2, k3, k4⟩ := hSw
                  go_simp
                  try with_reducible rfl
                simp only [List.setIfInBounds_toArray, List.set_cons_zero, List.set_cons_succ]
                refine hold_take (i := 25) (d := 65) (v := ?vb25) (listed' := #[true, true, true, true, true, true, true, true, true, true, true, true, true, true, true, true, true, true, true, true, true, true, true, true, true, true, false, false, false, false, false, false, false]) rfl (by kernel_rfl) (by kernel_rfl) (by kernel_rfl) rfl (by rfl) (by kernel_rfl) hS0 ?hb25 ?rb25
                case hb25 =>
                  intro w' hSw
                  obtain ⟨k0, k1, k2, k3, k4⟩ := hSw
                  go_simp
                  try with_reducible rfl
                simp only [List.setIfInBounds_toArray, List.set_cons_zero, List.set_cons_succ]
                refine hold_take (i := 26) (d := 66) (v := ?vb26) (listed' := #[true, true, true, true, true, true, true, true, true, true, true, true, true, true, true, true, true, true, true, true, true, true, true, true, true, true, true, false, false, false, false, false, false]) rfl (by kernel_rfl) (by kernel_rfl) (by kernel_rfl) rfl (by rfl) (by kernel_rfl) hS0 ?hb26 ?rb26
                case hb26 =>
                  intro w' hSw
                  obtain ⟨k0, k1, k2, k3, k4⟩ := hSw
                  go_simp
                  try with_reducible rfl
                simp only [List.setIfInBounds_toArray, List.set_cons_zero, List.set_cons_succ]
                refine hold_take (i := 27) (d := 67) (v := ?vb27) (listed' := #[true, true, true, true, true, true, true, true, true, true, true, true, true, true, true, true, true, true, true, true, true, true, true, true, true, true, true, true, false, false, false, false, false]) rfl (by kernel_rfl) (by kernel_rfl) (by kernel_rfl) rfl (by rfl) (by kernel_rfl) hS0 ?hb27 ?rb27
                case hb27 =>
                  intro w' hSw
                  obtain ⟨k0, k1, k2, k3, k4⟩ := hSw
                  go_simp
                  try with_reducible rfl
                simp only [List.setIfInBounds_toArray, List.set_cons_zero, List.set_cons_succ]
                refine hold_call (i := 28) (d := 68) (listed' := #[true, true, true, true, true, true, true, true, true, true, true, true, true, true, true, true, true, true, true, true, true, true, true, true, true, true, true, true, true, false, false, false, false]) rfl (by kernel_rfl) rfl (by rfl) (by kernel_rfl) ?heb28 (joinW8 hmat.out HO.out hlt hbn) ?hcb28
                case heb28 => go_simp
                rintro e xq ⟨rfl, hx⟩
                subst hx
                rw [HJ.out]
                refine ⟨_, rfl, hS0, ?_⟩
                simp only [List.setIfInBounds_toArray, List.set_cons_zero, List.set_cons_succ]
                refine hold_take (i := 29) (d := 69) (v := ?vb29) (listed' := #[true, true, true, true, true, true, true, true, true, true, true, true, true, true, true, true, true, true, true, true, true, true, true, true, true, true, true, true, true, true, false, false, false]) rfl (by kernel_rfl) (by kernel_rfl) (by kernel_rfl) rfl (by rfl) (by kernel_rfl) hS0 ?hb29 ?rb29
                case hb29 =>
                  intro w' hSw
                  obtain ⟨k0, k1, k2, k3, k4⟩ := hSw
                  go_simp
                  try with_reducible rfl
                simp only [List.setIfInBounds_toArray, List.set_cons_zero, List.set_cons_succ]
                refine hold_take (i := 30) (d := 70) (v := ?vb30) (listed' := #[true, true, true, true, true, true, true, true, true, true, true, true, true, true, true, true, true, true, true, true, true, true, true, true, true, true, true, true, true, true, true, false, false]) rfl (by kernel_rfl) (by kernel_rfl) (by kernel_rfl) rfl (by rfl) (by kernel_rfl) hS0 ?hb30 ?rb30
                case hb30 =>
                  intro w' hSw
                  obtain ⟨k0, k1, k2, k3, k4⟩ := hSw
                  go_simp
                  try with_reducible rfl
                simp only [List.setIfInBounds_toArray, List.set_cons_zero, List.set_cons_succ]
                refine hold_take (i := 31) (d := 71) (v := .bool false) (listed' := #[true, true, true, true, true, true, true, true, true, true, true, true, true, true, true, true, true, true, true, true, true, true, true, true, true, true, true, true, true, true, true, true, false]) rfl (by kernel_rfl) (by kernel_rfl) (by kernel_rfl) rfl (by rfl) (by kernel_rfl) hS0 ?hb31 ?rb31
                case hb31 =>
                  intro w' hSw
                  obtain ⟨k0, k1, k2, k3, k4⟩ := hSw
                  go_simp
                  have h9 := N2.out
                  first | omega | (simp; omega)
                simp only [List.setIfInBounds_toArray, List.set_cons_zero, List.set_cons_succ]
                refine hold_take (i := 32) (d := 72) (v := ?vb32) (listed' := #[true, true, true, true, true, true, true, true, true, true, true, true, true, true, true, true, true, true, true, true, true, true, true, true, true, true, true, true, true, true, true, true, true]) rfl (by kernel_rfl) (by kernel_rfl) (by kernel_rfl) rfl (by rfl) (by kernel_rfl) hS0 ?hb32 ?rb32
                case hb32 =>
                  intro w' hSw
                  obtain ⟨k0, k1, k2, k3, k4⟩ := hSw
                  go_simp
                  try with_reducible rfl
                simp only [List.setIfInBounds_toArray, List.set_cons_zero, List.set_cons_succ]
                refine hold_done (by kernel_rfl) ?_ _
                go_wp2_with fail
                go_roundw
                case rel => exact ⟨b + 1, by omega, by go_num, hD2d, fun c hc => by
                  by_cases e : c = b
                  · subst e; exact HQ.out
                  · exact hT.out c (by omega)⟩
                case measure => simp [intOf]; omega
              · have N2 : Hid (¬ P + Q = R) := heq
                have HQ : Hid (stateP m y s j b = false) := by show _ = _; rw [HSP.out, l1, decide_eq_false heq]; rfl
                have HF : Hid (false = stateB m y o' s) := by
                  show _ = _
                  rw [HV.out]
                  exact (allB_false hlt (by rw [HP.out]; exact allB_false hbt HQ.out)).symm
                clear heq HSP l1
                go_wp2_with fail
                refine region_plain (fuel := 33) (listed := #[false, false, false, false, false, false, false, false, false, false, false, false, false, false, false, false, false, false, false, false, false, false, false, false, false, false, false, false, false, false, false, false, false]) (fun w' => w'.cell? ⟨w.heap.size, 0, none⟩ = some (.slice (some ⟨l.b, l.o, none⟩) m.n l.cap) ∧ w'.cell? ⟨w.heap.size, 1, none⟩ = some (.slice (some ⟨g, o, none⟩) m.n nc) ∧ w'.cell? ⟨g, o + b, none⟩ = some (.int .i64 (u : Int)) ∧ w'.cell? ⟨l.b, l.o + j, none⟩ = some (.slice (some ⟨l.G j, l.O j, none⟩) m.n (l.C j)) ∧ w'.cell? ⟨l.G j, l.O j + u, none⟩ = some (.int .i64 1)) (by kernel_rfl) (by kernel_rfl) (by kernel_rfl) ?_
                refine hold_take (i := 0) (d := 40) (v := ?vc0) (listed' := #[true, false, false, false, false, false, false, false, false, false, false, false, false, false, false, false, false, false, false, false, false, false, false, false, false, false, false, false, false, false, false, false, false]) rfl (by kernel_rfl) (by kernel_rfl) (by kernel_rfl) rfl (by rfl) (by kernel_rfl) hS0 ?hc0 ?rc0
                case hc0 =>
                  intro w' hSw
                  obtain ⟨k0, k1, k2, k3, k4⟩ := hSw
                  go_simp
                  try with_reducible rfl
                simp only [List.setIfInBounds_toArray, List.set_cons_zero, List.set_cons_succ]
                refine hold_take (i := 1) (d := 41) (v := ?vc1) (listed' := #[true, true, false, false, false, false, false, false, false, false, false, false, false, false, false, false, false, false, false, false, false, false, false, false, false, false, false, false, false, false, false, false, false]) rfl (by kernel_rfl) (by kernel_rfl) (by kernel_rfl) rfl (by rfl) (by kernel_rfl) hS0 ?hc1 ?rc1
                case hc1 =>
                  intro w' hSw
                  obtain ⟨k0, k1, k2, k3, k4⟩ := hSw
                  go_simp
                  try with_reducible rfl
                simp only [List.setIfInBounds_toArray, List.set_cons_zero, List.set_cons_succ]
                refine hold_take (i := 2) (d := 42) (v := ?vc2) (listed' := #[true, true, true, false, false, false, false, false, false, false, false, false, false, false, false, false, false, false, false, false, false, false, false, false, false, false, false, false, false, false, false, false, false]) rfl (by kernel_rfl) (by kernel_rfl) (by kernel_rfl) rfl (by rfl) (by kernel_rfl) hS0 ?hc2 ?rc2
                case hc2 =>
                  intro w' hSw
                  obtain ⟨k0, k1, k2, k3, k4⟩ := hSw
                  go_simp
                  try with_reducible rfl
                simp only [List.setIfInBounds_toArray, List.set_cons_zero, List.set_cons_succ]
                refine hold_take (i := 3) (d := 43) (v := ?vc3) (listed' := #[true, true, true, true, false, false, false, false, false, false, false, false, false, false, false, false, false, false, false, false, false, false, false, false, false, false, false, false, false, false, false, false, false]) rfl (by kernel_rfl) (by kernel_rfl) (by kernel_rfl) rfl (by rfl) (by kernel_rfl) hS0 ?hc3 ?rc3
                case hc3 =>
                  intro w' hSw
                  obtain ⟨k0, k1, k2, k3, k4⟩ := hSw
                  go_simp
                  try with_reducible rfl
                simp only [List.setIfInBounds_toArray, List.set_cons_zero, List.set_cons_succ]
                refine hold_take (i := 4) (d := 44) (v := ?vc4) (listed' := #[true, true, true, true, true, false, false, false, false, false, false, false, false, false, false, false, false, false, false, false, false, false, false, false, false, false, false, false, false, false, false, false, false]) rfl (by kernel_rfl) (by kernel_rfl) (by kernel_rfl) rfl (by rfl) (by kernel_rfl) hS0 ?hc4 ?rc4
                case hc4 =>
                  intro w' hSw
                  obtain ⟨k0, k1, k2, k3, k4⟩ := hSw
                  go_simp
                  try with_reducible rfl
                simp only [List.setIfInBounds_toArray, List.set_cons_zero, List.set_cons_succ]
                refine hold_take (i := 5) (d := 45) (v := ?vc5) (listed' := #[true, true, true, true, true, true, false, false, false, false, false, false, false, false, false, false, false, false, false, false, false, false, false, false, false, false, false, false, false, false, false, false, false]) rfl (by kernel_rfl) (by kernel_rfl) (by kernel_rfl) rfl (by rfl) (by kernel_rfl) hS0 ?hc5 ?rc5
                case hc5 =>
                  intro w' hSw
                  obtain ⟨k0, k1, k2, k3, k4⟩ := hSw
                  go_simp
                  try with_reducible rfl
                simp only [List.setIfInBounds_toArray, List.set_cons_zero, List.set_cons_succ]
                refine hold_take (i := 6) (d := 46) (v := ?vc6) (listed' := #[true, true, true, true, true, true, true, false, false, false, false, false, false, false, false, false, false, false, false, false, false, false, false, false, false, false, false, false, false, false, false, false, false]) rfl (by kernel_rfl) (by kernel_rfl) (by kernel_rfl) rfl (by rfl) (by kernel_rfl) hS0 ?hc6 ?rc6
                case hc6 =>
                  intro w' hSw
                  obtain ⟨k0, k1, k2, k3, k4⟩ := hSw
                  go_simp
                  try with_reducible rfl
                simp only [List.setIfInBounds_toArray, List.set_cons_zero, List.set_cons_succ]
                refine hold_take (i := 7) (d := 47) (v := ?vc7) (listed' := #[true, true, true, true, true, true, true, true, false, false, false, false, false, false, false, false, false, false, false, false, false, false, false, false, false, false, false, false, false, false, false, false, false]) rfl (by kernel_rfl) (by kernel_rfl) (by kernel_rfl) rfl (by rfl) (by kernel_rfl) hS0 ?hc7 ?rc7
                case hc7 =>
                  intro w' hSw
                  obtain ⟨k0, k1, k2, k3, k4⟩ := hSw
                  go_simp
                  try with_reducible rfl
                simp only [List.setIfInBounds_toArray, List.set_cons_zero, List.set_cons_succ]
                refine hold_take (i := 8) (d := 48) (v := ?vc8) (listed' := #[true, true, true, true, true, true, true, true, true, false, false, false, false, false, false, false, false, false, false, false, false, false, false, false, false, false, false, false, false, false, false, false, false]) rfl (by kernel_rfl) (by kernel_rfl) (by kernel_rfl) rfl (by rfl) (by kernel_rfl) hS0 ?hc8 ?rc8
                case hc8 =>
                  intro w' hSw
                  obtain ⟨k0, k1, k2, k3, k4⟩ := hSw
                  go_simp
                  try with_reducible rfl
                simp only [List.setIfInBounds_toArray, List.set_cons_zero, List.set_cons_succ]
                refine hold_take (i := 9) (d := 49) (v := ?vc9) (listed' := #[true, true, true, true, true, true, true, true, true, true, false, false, false, false, false, false, false, false, false, false, false, false, false, false, false, false, false, false, false, false, false, false, false]) rfl (by kernel_rfl) (by kernel_rfl) (by kernel_rfl) rfl (by rfl) (by kernel_rfl) hS0 ?hc9 ?rc9
                case hc9 =>
                  intro w' hSw
                  obtain ⟨k0, k1, k2, k3, k4⟩ := hSw
                  go_simp
                  try with_reducible rfl
                simp only [List.setIfInBounds_toArray, List.set_cons_zero, List.set_cons_succ]
                refine hold_take (i := 10) (d := 50) (v := ?vc10) (listed' := #[true, true, true, true, true, true, true, true, true, true, true, false, false, false, false, false, false, false, false, false, false, false, false, false, false, false, false, false, false, false, false, false, false]) rfl (by kernel_rfl) (by kernel_rfl) (by kernel_rfl) rfl (by rfl) (by kernel_rfl) hS0 ?hc10 ?rc10
                case hc10 =>
                  intro w' hSw
                  obtain ⟨k0, k1, k2, k3, k4⟩ := hSw
                  go_simp
                  try with_reducible rfl
                simp only [List.setIfInBounds_toArray, List.set_cons_zero, List.set_cons_succ]
                refine hold_take (i := 11) (d := 51) (v := ?vc11) (listed' := #[true, true, true, true, true, true, true, true, true, true, true, true, false, false, false, false, false, false, false, false, false, false, false, false, false, false, false, false, false, false, false, false, false]) rfl (by kernel_rfl) (by kernel_rfl) (by kernel_rfl) rfl (by rfl) (by kernel_rfl) hS0 ?hc11 ?rc11
                case hc11 =>
                  intro w' hSw
                  obtain ⟨k0, k1, k2, k3, k4⟩ := hSw
                  go_simp
                  try with_reducible rfl
                simp only [List.setIfInBounds_toArray, List.set_cons_zero, List.set_cons_succ]
                refine hold_take (i := 12) (d := 52) (v := ?vc12) (listed' := #[true, true, true, true, true, true, true, true, true, true, true, true, true, false, false, false, false, false, false, false, false, false, false, false, false, false, false, false, false, false, false, false, false]) rfl (by kernel_rfl) (by kernel_rfl) (by kernel_rfl) rfl (by rfl) (by kernel_rfl) hS0 ?hc12 ?rc12
                case hc12 =>
                  intro w' hSw
                  obtain ⟨k0, k1, k2, k3, k4⟩ := hSw
                  go_simp
                  try with_reducible rfl
                simp only [List.setIfInBounds_toArray, List.set_cons_zero, List.set_cons_succ]
                refine hold_take (i := 13) (d := 53) (v := ?vc13) (listed' := #[true, true, true, true, true, true, true, true, true, true, true, true, true, true, false, false, false, false, false, false, false, false, false, false, false, false, false, false, false, false, false, false, false]) rfl (by kernel_rfl) (by kernel_rfl) (by kernel_rfl) rfl (by rfl) (by kernel_rfl) hS0 ?hc13 ?rc13
                case hc13 =>
                  intro w' hSw
                  obtain ⟨k0, k1, k2, k3, k4⟩ := hSw
                  go_simp
                  try with_reducible rfl
                simp only [List.setIfInBounds_toArray, List.set_cons_zero, List.set_cons_succ]
                refine hold_take (i := 14) (d := 54) (v := ?vc14) (listed' := #[true, true, true, true, true, true, true, true, true, true, true, true, true, true, true, false, false, false, false, false, false, false, false, false, false, false, false, false, false, false, false, false, false]) rfl (by kernel_rfl) (by kernel_rfl) (by kernel_rfl) rfl (by rfl) (by kernel_rfl) hS0 ?hc14 ?rc14
                case hc14 =>
                  intro w' hSw
                  obtain ⟨k0, k1, k2, k3, k4⟩ := hSw
                  go_simp
                  try with_reducible rfl
                simp only [List.setIfInBounds_toArray, List.set_cons_zero, List.set_cons_succ]
                refine hold_take (i := 15) (d := 55) (v := ?vc15) (listed' := #[true, true, true, true, true, true, true, true, true, true, true, true, true, true, true, true, false, false, false, false, false, false, false, false, false, false, false, false, false, false, false, false, false]) rfl (by kernel_rfl) (by kernel_rfl) (by kernel_rfl) rfl (by rfl) (by kernel_rfl) hS0 ?hc15 ?rc15
                case hc15 =>
                  intro w' hSw
                  obtain ⟨k0, k1, k2, k3, k4⟩ := hSw
                  go_simp
                  try with_reducible rfl
                simp only [List.setIfInBounds_toArray, List.set_cons_zero, List.set_cons_succ]
                refine hold_take (i := 16) (d := 56) (v := ?vc16) (listed' := #[true, true, true, true, true, true, true, true, true, true, true, true, true, true, true, true, true, false, false, false, false, false, false, false, false, false, false, false, false, false, false, false, false]) rfl (by kernel_rfl) (by kernel_rfl) (by kernel_rfl) rfl (by rfl) (by kernel_rfl) hS0 ?hc16 ?rc16
                case hc16 =>
                  intro w' hSw
                  obtain ⟨k0, k1, k2, k3, k4⟩ := hSw
                  go_simp
                  try with_reducible rfl
                simp only [List.setIfInBounds_toArray, List.set_cons_zero, List.set_cons_succ]
                refine hold_take (i := 17) (d := 57) (v := ?vc17) (listed' := #[true, true, true, true, true, true, true, true, true, true, true, true, true, true, true, true, true, true, false, false, false, false, false, false, false, false, false, false, false, false, false, false, false]) rfl (by kernel_rfl) (by kernel_rfl) (by kernel_rfl) rfl (by rfl) (by kernel_rfl) hS0 ?hc17 ?rc17
                case hc17 =>
                  intro w' hSw
                  obtain ⟨k0, k1, k2, k3, k4⟩ := hSw
                  go_simp
                  try with_reducible rfl
                simp only [List.setIfInBounds_toArray, List.set_cons_zero, List.set_cons_succ]
                refine hold_take (i := 18) (d := 58) (v := ?vc18) (listed' := #[true, true, true, true, true, true, true, true, true, true, true, true, true, true, true, true, true, true, true, false, false, false, false, false, false, false, false, false, false, false, false, false, false]) rfl (by kernel_rfl) (by kernel_rfl) (by kernel_rfl) rfl (by rfl) (by kernel_rfl) hS0 ?hc18 ?rc18
                case hc18 =>
                  intro w' hSw
                  obtain ⟨k0, k1, k2, k3, k4⟩ := hSw
                  go_simp
                  try with_reducible rfl
                simp only [List.setIfInBounds_toArray, List.set_cons_zero, List.set_cons_succ]
                refine hold_take (i := 19) (d := 59) (v := ?vc19) (listed' := #[true, true, true, true, true, true, true, true, true, true, true, true, true, true, true, true, true, true, true, true, false, false, false, false, false, false, false, false, false, false, false, false, false]) rfl (by kernel_rfl) (by kernel_rfl) (by kernel_rfl) rfl (by rfl) (by kernel_rfl) hS0 ?hc19 ?rc19
                case hc19 =>
                  intro w' hSw
                  obtain ⟨k0, k1, k2, k3, k4⟩ := hSw
                  go_simp
                  try with_reducible rfl
                simp only [List.setIfInBounds_toArray, List.set_cons_zero, List.set_cons_succ]
                refine hold_take (i := 20) (d := 60) (v := ?vc20) (listed' := #[true, true, true, true, true, true, true, true, true, true, true, true, true, true, true, true, true, true, true, true, true, false, false, false, false, false, false, false, false, false, false, false, false]) rfl (by kernel_rfl) (by kernel_rfl) (by kernel_rfl) rfl (by rfl) (by kernel_rfl) hS0 ?hc20 ?rc20
                case hc20 =>
                  intro w' hSw
                  obtain ⟨k0, k1, k2, k3, k4⟩ := hSw
                  go_simp
                  try with_reducible rfl
                simp only [List.setIfInBounds_toArray, List.set_cons_zero, List.set_cons_succ]
                refine hold_take (i := 21) (d := 61) (v := ?vc21) (listed' := #[true, true, true, true, true, true, true, true, true, true, true, true, true, true, true, true, true, true, true, true, true, true, false, false, false, false, false, false, false, false, false, false, false]) rfl (by kernel_rfl) (by kernel_rfl) (by kernel_rfl) rfl (by rfl) (by kernel_rfl) hS0 ?hc21 ?rc21
                case hc21 =>
                  intro w' hSw
                  obtain ⟨k0, k1, k2, k3, k4⟩ := hSw
                  go_simp
                  try with_reducible rfl
                simp only [List.setIfInBounds_toArray, List.set_cons_zero, List.set_cons_succ]
                refine hold_take (i := 22) (d := 62) (v := .int .i64 ((P : Int) + (Q : Int))) (listed' := #[true, true, true, true, true, true, true, true, true, true, true, true, true, true, true, true, true, true, true, true, true, true, true, false, false, false, false, false, false, false, false, false, false]) rfl (by kernel_rfl) (by kernel_rfl) (by kernel_rfl) rfl (by rfl) (by kernel_rfl) hS0 ?hc22 ?rc22
                case hc22 =>
                  intro w' hSw
                  obtain ⟨k0, k1, k2, k3, k4⟩ := hSw
                  go_simp
                  simp only [S1.out]
                simp only [List.setIfInBounds_toArray, List.set_cons_zero, List.set_cons_succ]
                refine hold_take (i := 23) (d := 63) (v := ?vc23) (listed' := #[true, true, true, true, true, true, true, true, true, true, true, true, true, true, true, true, true, true, true, true, true, true, true, true, false, false, false, false, false, false, false, false, false]) rfl (by kernel_rfl) (by kernel_rfl) (by kernel_rfl) rfl (by rfl) (by kernel_rfl) hS0 ?hc23 ?rc23
                case hc23 =>
                  intro w' hSw
                  obtain ⟨k0, k1, k2, k3, k4⟩ := hSw
                  go_simp
                  try with_reducible rfl
                simp only [List.setIfInBounds_toArray, List.set_cons_zero, List.set_cons_succ]
                refine hold_take (i := 24) (d := 64) (v := ?vc24) (listed' := #[true, true, true, true, true, true, true, true, true, true, true, true, true, true, true, true, true, true, true, true, true, true, true, true, true, false, false, false, false, false, false, false, false]) rfl (by kernel_rfl) (by kernel_rfl) (by kernel_rfl) rfl (by rfl) (by kernel_rfl) hS0 ?hc24 ?rc24
                case hc24 =>
                  intro w' hSw
                  obtain ⟨k0, k1, k2, k3, k4⟩ := hSw
                  go_simp
                  try with_reducible rfl
                simp only [List.setIfInBounds_toArray, List.set_cons_zero, List.set_cons_succ]
                refine hold_take (i := 25) (d := 65) (v := ?vc25) (listed' := #[true, true, true, true, true, true, true, true, true, true, true, true, true, true, true, true, true, true, true, true, true, true, true, true, true, true, false, false, false, false, false, false, false]) rfl (by kernel_rfl) (by kernel_rfl) (by kernel_rfl) rfl (by rfl) (by kernel_rfl) hS0 ?hc25 ?rc25
                case hc25 =>
                  intro w' hSw
                  obtain ⟨k0, k1, k2, k3, k4⟩ := hSw
                  go_simp
                  try with_reducible rfl
                simp only [List.setIfInBounds_toArray, List.set_cons_zero, List.set_cons_succ]
                refine hold_take (i := 26) (d := 66) (v := ?vc26) (listed' := #[true, true, true, true, true, true, true, true, true, true, true, true, true, true, true, true, true, true, true, true, true, true, true, true, true, true, true, false, false, false, false, false, false]) rfl (by kernel_rfl) (by kernel_rfl) (by kernel_rfl) rfl (by rfl) (by kernel_rfl) hS0 ?hc26 ?rc26
                case hc26 =>
                  intro w' hSw
                  obtain ⟨k0, k1, k2, k3, k4⟩ := hSw
                  go_simp
                  try with_reducible rfl
                simp only [List.setIfInBounds_toArray, List.set_cons_zero, List.set_cons_succ]
                refine hold_take (i := 27) (d := 67) (v := ?vc27) (listed' := #[true, true, true, true, true, true, true, true, true, true, true, true, true, true, true, true, true, true, true, true, true, true, true, true, true, true, true, true, false, false, false, false, false]) rfl (by kernel_rfl) (by kernel_rfl) (by kernel_rfl) rfl (by rfl) (by kernel_rfl) hS0 ?hc27 ?rc27
                case hc27 =>
                  intro w' hSw
                  obtain ⟨k0, k1, k2, k3, k4⟩ := hSw
                  go_simp
                  try with_reducible rfl
                simp only [List.setIfInBounds_toArray, List.set_cons_zero, List.set_cons_succ]
                refine hold_call (i := 28) (d := 68) (listed' := #[true, true, true, true, true, true, true, true, true, true, true, true, true, true, true, true, true, true, true, true, true, true, true, true, true, true, true, true, true, false, false, false, false]) rfl (by kernel_rfl) rfl (by rfl) (by kernel_rfl) ?hec28 (joinW8 hmat.out HO.out hlt hbn) ?hcc28
                case hec28 => go_simp
                rintro e xq ⟨rfl, hx⟩
                subst hx
                rw [HJ.out]
                refine ⟨_, rfl, hS0, ?_⟩
                simp only [List.setIfInBounds_toArray, List.set_cons_zero, List.set_cons_succ]
                refine hold_take (i := 29) (d := 69) (v := ?vc29) (listed' := #[true, true, true, true, true, true, true, true, true, true, true, true, true, true, true, true, true, true, true, true, true, true, true, true, true, true, true, true, true, true, false, false, false]) rfl (by kernel_rfl) (by kernel_rfl) (by kernel_rfl) rfl (by rfl) (by kernel_rfl) hS0 ?hc29 ?rc29
                case hc29 =>
                  intro w' hSw
                  obtain ⟨k0, k1, k2, k3, k4⟩ := hSw
                  go_simp
                  try with_reducible rfl
                simp only [List.setIfInBounds_toArray, List.set_cons_zero, List.set_cons_succ]
                refine hold_take (i := 30) (d := 70) (v := ?vc30) (listed' := #[true, true, true, true, true, true, true, true, true, true, true, true, true, true, true, true, true, true, true, true, true, true, true, true, true, true, true, true, true, true, true, false, false]) rfl (by kernel_rfl) (by kernel_rfl) (by kernel_rfl) rfl (by rfl) (by kernel_rfl) hS0 ?hc30 ?rc30
                case hc30 =>
                  intro w' hSw
                  obtain ⟨k0, k1, k2, k3, k4⟩ := hSw
                  go_simp
                  try with_reducible rfl
                simp only [List.setIfInBounds_toArray, List.set_cons_zero, List.set_cons_succ]
                refine hold_take (i := 31) (d := 71) (v := .bool true) (listed' := #[true, true, true, true, true, true, true, true, true, true, true, true, true, true, true, true, true, true, true, true, true, true, true, true, true, true, true, true, true, true, true, true, false]) rfl (by kernel_rfl) (by kernel_rfl) (by kernel_rfl) rfl (by rfl) (by kernel_rfl) hS0 ?hc31 ?rc31
                case hc31 =>
                  intro w' hSw
                  obtain ⟨k0, k1, k2, k3, k4⟩ := hSw
                  go_simp
                  have h9 := N2.out
                  first | omega | (simp; omega)
                simp only [List.setIfInBounds_toArray, List.set_cons_zero, List.set_cons_succ]
                refine hold_take (i := 32) (d := 72) (v := ?vc32) (listed' := #[true, true, true, true, true, true, true, true, true, true, true, true, true, true, true, true, true, true, true, true, true, true, true, true, true, true, true, true, true, true, true, true, true]) rfl (by kernel_rfl) (by kernel_rfl) (by kernel_rfl) rfl (by rfl) (by kernel_rfl) hS0 ?hc32 ?rc32
                case hc32 =>
                  intro w' hSw
                  obtain ⟨k0, k1, k2, k3, k4⟩ := hSw
                  go_simp
                  try with_reducible rfl
                simp only [List.setIfInBounds_toArray, List.set_cons_zero, List.set_cons_succ]
                refine hold_done (by kernel_rfl) ?_ _
                go_wp2_with fail
                go_ret
                exact ⟨ret_bool HF.out, hX.below.trans (hD2d.mono hX.below.size)⟩
            · rw [z1] at c3
              have hS0 := (show _ ∧ _ ∧ _ ∧ _ ∧ _ from ⟨p0, p1, c1, c2, c3⟩)
              have HQ : Hid (stateP m y s j b = true) := by show _ = _; rw [HSP.out, l1]; rfl
              clear p0 p1 c1 c2 c3 z1 HSP l1
              go_wp2_with fail
              refine region_plain (fuel := 33) (listed := #[false, false, false, false, false, false, false, false, false, false, false, false, false, false, false, false, false, false, false, false, false, false, false, false, false, false, false, false, false, false, false, false, false]) (fun w' => w'.cell? ⟨w.heap.size, 0, none⟩ = some (.slice (some ⟨l.b, l.o, none⟩) m.n l.cap) ∧ w'.cell? ⟨w.heap.size, 1, none⟩ = some (.slice (some ⟨g, o, none⟩) m.n nc) ∧ w'.cell? ⟨g, o + b, none⟩ = some (.int .i64 (u : Int)) ∧ w'.cell? ⟨l.b, l.o + j, none⟩ = some (.slice (some ⟨l.G j, l.O j, none⟩) m.n (l.C j)) ∧ w'.cell? ⟨l.G j, l.O j + u, none⟩ = some (.int .i64 0)) (by kernel_rfl) (by kernel_rfl) (by kernel_rfl) ?_
              refine hold_take (i := 0) (d := 40) (v := ?vd0) (listed' := #[true, false, false, false, false, false, false, false, false, false, false, false, false, false, false, false, false, false, false, false, false, false, false, false, false, false, false, false, false, false, false, false, false]) rfl (by kernel_rfl) (by kernel_rfl) (by kernel_rfl) rfl (by rfl) (by kernel_rfl) hS0 ?hd0 ?rd0
              case hd0 =>
                intro w' hSw
                obtain ⟨k0, k1, k2, k3, k4⟩ := hSw
                go_simp
                try with_reducible rfl
              simp only [List.setIfInBounds_toArray, List.set_cons_zero, List.set_cons_succ]
              refine hold_take (i := 1) (d := 41) (v := ?vd1) (listed' := #[true, true, false, false, false, false, false, false, false, false, false, false, false, false, false, false, false, false, false, false, false, false, false, false, false, false, false, false, false, false, false, false, false]) rfl (by kernel_rfl) (by kernel_rfl) (by kernel_rfl) rfl (by rfl) (by kernel_rfl) hS0 ?hd1 ?rd1
              case hd1 =>
                intro w' hSw
                obtain ⟨k0, k1, k2, k3, k4⟩ := hSw
                go_simp
                try with_reducible rfl
              simp only [List.setIfInBounds_toArray, List.set_cons_zero, List.set_cons_succ]
              refine hold_take (i := 2) (d := 42) (v := ?vd2) (listed' := #[true, true, true, false, false, false, false, false, false, false, false, false, false, false, false, false, false, false, false, false, false, false, false, false, false, false, false, false, false, false, false, false, false]) rfl (by kernel_rfl) (by kernel_rfl) (by kernel_rfl) rfl (by rfl) (by kernel_rfl) hS0 ?hd2 ?rd2
              case hd2 =>
                intro w' hSw
                obtain ⟨k0, k1, k2, k3, k4⟩ := hSw
                go_simp
                try with_reducible rfl
              simp only [List.setIfInBounds_toArray, List.set_cons_zero, List.set_cons_succ]
              refine hold_take (i := 3) (d := 43) (v := ?vd3) (listed' := #[true, true, true, true, false, false, false, false, false, false, false, false, false, false, false, false, false, false, false, false, false, false, false, false, false, false, false, false, false, false, false, false, false]) rfl (by kernel_rfl) (by kernel_rfl) (by kernel_rfl) rfl (by rfl) (by kernel_rfl) hS0 ?hd3 ?rd3
              case hd3 =>
                intro w' hSw
                obtain ⟨k0, k1, k2, k3, k4⟩ := hSw
                go_simp
                try with_reducible rfl
              simp only [List.setIfInBounds_toArray, List.set_cons_zero, List.set_cons_succ]
              refine hold_take (i := 4) (d := 44) (v := ?vd4) (listed' := #[true, true, true, true, true, false, false, false, false, false, false, false, false, false, false, false, false, false, false, false, false, false, false, false, false, false, false, false, false, false, false, false, false]) rfl (by kernel_rfl) (by kernel_rfl) (by kernel_rfl) rfl (by rfl) (by kernel_rfl) hS0 ?hd4 ?rd4
              case hd4 =>
                intro w' hSw
                obtain ⟨k0, k1, k2, k3, k4⟩ := hSw
                go_simp
                try with_reducible rfl
              simp only [List.setIfInBounds_toArray, List.set_cons_zero, List.set_cons_succ]
              refine hold_take (i := 5) (d := 45) (v := ?vd5) (listed' := #[true, true, true, true, true, true, false, false, false, false, false, false, false, false, false, false, false, false, false, false, false, false, false, false, false, false, false, false, false, false, false, false, false]) rfl (by kernel_rfl) (by kernel_rfl) (by kernel_rfl) rfl (by rfl) (by kernel_rfl) hS0 ?hd5 ?rd5
              case hd5 =>
                intro w' hSw
                obtain ⟨k0, k1, k2, k3, k4⟩ := hSw
                go_simp
                try with_reducible rfl
              simp only [List.setIfInBounds_toArray, List.set_cons_zero, List.set_cons_succ]
              refine hold_take (i := 6) (d := 46) (v := ?vd6) (listed' := #[true, true, true, true, true, true, true, false, false, false, false, false, false, false, false, false, false, false, false, false, false, false, false, false, false, false, false, false, false, false, false, false, false]) rfl (by kernel_rfl) (by kernel_rfl) (by kernel_rfl) rfl (by rfl) (by kernel_rfl) hS0 ?hd6 ?rd6
              case hd6 =>
                intro w' hSw
                obtain ⟨k0, k1, k2, k3, k4⟩ := hSw
                go_simp
                try with_reducible rfl
              simp only [List.setIfInBounds_toArray, List.set_cons_zero, List.set_cons_succ]
              refine hold_take (i := 7) (d := 47) (v := ?vd7) (listed' := #[true, true, true, true, true, true, true, true, false, false, false, false, false, false, false, false, false, false, false, false, false, false, false, false, false, false, false, false, false, false, false, false, false]) rfl (by kernel_rfl) (by kernel_rfl) (by kernel_rfl) rfl (by rfl) (by kernel_rfl) hS0 ?hd7 ?rd7
              case hd7 =>
                intro w' hSw
                obtain ⟨k0, k1, k2, k3, k4⟩ := hSw
                go_simp
                try with_reducible rfl
              simp only [List.setIfInBounds_toArray, List.set_cons_zero, List.set_cons_succ]
              refine hold_take (i := 8) (d := 48) (v := ?vd8) (listed' := #[true, true, true, true, true, true, true, true, true, false, false, false, false, false, false, false, false, false, false, false, false, false, false, false, false, false, false, false, false, false, false, false, false]) rfl (by kernel_rfl) (by kernel_rfl) (by kernel_rfl) rfl (by rfl) (by kernel_rfl) hS0 ?hd8 ?rd8
              case hd8 =>
                intro w' hSw
                obtain ⟨k0, k1, k2, k3, k4⟩ := hSw
                go_simp
                try with_reducible rfl
              simp only [List.setIfInBounds_toArray, List.set_cons_zero, List.set_cons_succ]
              refine hold_take (i := 9) (d := 49) (v := ?vd9) (listed' := #[true, true, true, true, true, true, true, true, true, true, false, false, false, false, false, false, false, false, false, false, false, false, false, false, false, false, false, false, false, false, false, false, false]) rfl (by kernel_rfl) (by kernel_rfl) (by kernel_rfl) rfl (by rfl) (by kernel_rfl) hS0 ?hd9 ?rd9
              case hd9 =>
                intro w' hSw
                obtain ⟨k0, k1, k2, k3, k4⟩ := hSw
                go_simp
                try with_reducible rfl
              simp only [List.setIfInBounds_toArray, List.set_cons_zero, List.set_cons_succ]
              refine hold_take (i := 10) (d := 50) (v := ?vd10) (listed' := #[true, true, true, true, true, true, true, true, true, true, true, false, false, false, false, false, false, false, false, false, false, false, false, false, false, false, false, false, false, false, false, false, false]) rfl (by kernel_rfl) (by kernel_rfl) (by kernel_rfl) rfl (by rfl) (by kernel_rfl) hS0 ?hd10 ?rd10
              case hd10 =>
                intro w' hSw
                obtain ⟨k0, k1, k2, k3, k4⟩ := hSw
                go_simp
                try with_reducible rfl
              simp only [List.setIfInBounds_toArray, List.set_cons_zero, List.set_cons_succ]
              refine hold_take (i := 11) (d := 51) (v := ?vd11) (listed' := #[true, true, true, true, true, true, true, true, true, true, true, true, false, false, false, false, false, false, false, false, false, false, false, false, false, false, false, false, false, false, false, false, false]) rfl (by kernel_rfl) (by kernel_rfl) (by kernel_rfl) rfl (by rfl) (by kernel_rfl) hS0 ?hd11 ?rd11
              case hd11 =>
                intro w' hSw
                obtain ⟨k0, k1, k2, k3, k4⟩ := hSw
                go_simp
                try with_reducible rfl
              simp only [List.setIfInBounds_toArray, List.set_cons_zero, List.set_cons_succ]
              refine hold_take (i := 12) (d := 52) (v := ?vd12) (listed' := #[true, true, true, true, true, true, true, true, true, true, true, true, true, false, false, false, false, false, false, false, false, false, false, false, false, false, false, false, false, false, false, false, false]) rfl (by kernel_rfl) (by kernel_rfl) (by kernel_rfl) rfl (by rfl) (by kernel_rfl) hS0 ?hd12 ?rd12
              case hd12 =>
                intro w' hSw
                obtain ⟨k0, k1, k2, k3, k4⟩ := hSw
                go_simp
                try with_reducible rfl
              simp only [List.setIfInBounds_toArray, List.set_cons_zero, List.set_cons_succ]
              refine hold_take (i := 13) (d := 53) (v := ?vd13) (listed' := #[true, true, true, true, true, true, true, true, true, true, true, true, true, true, false, false, false, false, false, false, false, false, false, false, false, false, false, false, false, false, false, false, false]) rfl (by kernel_rfl) (by kernel_rfl) (by kernel_rfl) rfl (by rfl) (by kernel_rfl) hS0 ?hd13 ?rd13
              case hd13 =>
                intro w' hSw
                obtain ⟨k0, k1, k2, k3, k4⟩ := hSw
                go_simp
                try with_reducible rfl
              simp only [List.setIfInBounds_toArray, List.set_cons_zero, List.set_cons_succ]
              refine hold_skip (i := 14) (d := 54) (listed' := #[true, true, true, true, true, true, true, true, true, true, true, true, true, true, true, false, false, false, false, false, false, false, false, false, false, false, false, false, false, false, false, false, false]) rfl (by kernel_rfl) (by kernel_rfl) (by kernel_rfl) rfl (by rfl) (by kernel_rfl) hS0 ?_
              simp only [List.setIfInBounds_toArray, List.set_cons_zero, List.set_cons_succ]
              refine hold_skip (i := 15) (d := 55) (listed' := #[true, true, true, true, true, true, true, true, true, true, true, true, true, true, true, true, false, false, false, false, false, false, false, false, false, false, false, false, false, false, false, false, false]) rfl (by kernel_rfl) (by kernel_rfl) (by kernel_rfl) rfl (by rfl) (by kernel_rfl) hS0 ?_
              simp only [List.setIfInBounds_toArray, List.set_cons_zero, List.set_cons_succ]
              refine hold_skip (i := 16) (d := 56) (listed' := #[true, true, true, true, true, true, true, true, true, true, true, true, true, true, true, true, true, false, false, false, false, false, false, false, false, false, false, false, false, false, false, false, false]) rfl (by kernel_rfl) (by kernel_rfl) (by kernel_rfl) rfl (by rfl) (by kernel_rfl) hS0 ?_
              simp only [List.setIfInBounds_toArray, List.set_cons_zero, List.set_cons_succ]
              refine hold_skip (i := 17) (d := 57) (listed' := #[true, true, true, true, true, true, true, true, true, true, true, true, true, true, true, true, true, true, false, false, false, false, false, false, false, false, false, false, false, false, false, false, false]) rfl (by kernel_rfl) (by kernel_rfl) (by kernel_rfl) rfl (by rfl) (by kernel_rfl) hS0 ?_
              simp only [List.setIfInBounds_toArray, List.set_cons_zero, List.set_cons_succ]
              refine hold_skip (i := 18) (d := 58) (listed' := #[true, true, true, true, true, true, true, true, true, true, true, true, true, true, true, true, true, true, true, false, false, false, false, false, false, false, false, false, false, false, false, false, false]) rfl (by kernel_rfl) (by kernel_rfl) (by kernel_rfl) rfl (by rfl) (by kernel_rfl) hS0 ?_
              simp only [List.setIfInBounds_toArray, List.set_cons_zero, List.set_cons_succ]
              refine hold_skip (i := 19) (d := 59) (listed' := #[true, true, true, true, true, true, true, true, true, true, true, true, true, true, true, true, true, true, true, true, false, false, false, false, false, false, false, false, false, false, false, false, false]) rfl (by kernel_rfl) (by kernel_rfl) (by kernel_rfl) rfl (by rfl) (by kernel_rfl) hS0 ?_
              simp only [List.setIfInBounds_toArray, List.set_cons_zero, List.set_cons_succ]
              refine hold_skip (i := 20) (d := 60) (listed' := #[true, true, true, true, true, true, true, true, true, true, true, true, true, true, true, true, true, true, true, true, true, false, false, false, false, false, false, false, false, false, false, false, false]) rfl (by kernel_rfl) (by kernel_rfl) (by kernel_rfl) rfl (by rfl) (by kernel_rfl) hS0 ?_
              simp only [List.setIfInBounds_toArray, List.set_cons_zero, List.set_cons_succ]
              refine hold_skip (i := 21) (d := 61) (listed' := #[true, true, true, true, true, true, true, true, true, true, true, true, true, true, true, true, true, true, true, true, true, true, false, false, false, false, false, false, false, false, false, false, false]) rfl (by kernel_rfl) (by kernel_rfl) (by kernel_rfl) rfl (by rfl) (by kernel_rfl) hS0 ?_
              simp only [List.setIfInBounds_toArray, List.set_cons_zero, List.set_cons_succ]
              refine hold_skip (i := 22) (d := 62) (listed' := #[true, true, true, true, true, true, true, true, true, true, true, true, true, true, true, true, true, true, true, true, true, true, true, false, false, false, false, false, false, false, false, false, false]) rfl (by kernel_rfl) (by kernel_rfl) (by kernel_rfl) rfl (by rfl) (by kernel_rfl) hS0 ?_
              simp only [List.setIfInBounds_toArray, List.set_cons_zero, List.set_cons_succ]
              refine hold_skip (i := 23) (d := 63) (listed' := #[true, true, true, true, true, true, true, true, true, true, true, true, true, true, true, true, true, true, true, true, true, true, true, true, false, false, false, false, false, false, false, false, false]) rfl (by kernel_rfl) (by kernel_rfl) (by kernel_rfl) rfl (by rfl) (by kernel_rfl) hS0 ?_
              simp only [List.setIfInBounds_toArray, List.set_cons_zero, List.set_cons_succ]
              refine hold_skip (i := 24) (d := 64) (listed' := #[true, true, true, true, true, true, true, true, true, true, true, true, true, true, true, true, true, true, true, true, true, true, true, true, true, false, false, false, false, false, false, false, false]) rfl (by kernel_rfl) (by kernel_rfl) (by kernel_rfl) rfl (by rfl) (by kernel_rfl) hS0 ?_
              simp only [List.setIfInBounds_toArray, List.set_cons_zero, List.set_cons_succ]
              refine hold_skip (i := 25) (d := 65) (listed' := #[true, true, true, true, true, true, true, true, true, true, true, true, true, true, true, true, true, true, true, true, true, true, true, true, true, true, false, false, false, false, false, false, false]) rfl (by kernel_rfl) (by kernel_rfl) (by kernel_rfl) rfl (by rfl) (by kernel_rfl) hS0 ?_
              simp only [List.setIfInBounds_toArray, List.set_cons_zero, List.set_cons_succ]
              refine hold_skip (i := 26) (d := 66) (listed' := #[true, true, true, true, true, true, true, true, true, true, true, true, true, true, true, true, true, true, true, true, true, true, true, true, true, true, true, false, false, false, false, false, false]) rfl (by kernel_rfl) (by kernel_rfl) (by kernel_rfl) rfl (by rfl) (by kernel_rfl) hS0 ?_
              simp only [List.setIfInBounds_toArray, List.set_cons_zero, List.set_cons_succ]
              refine hold_skip (i := 27) (d := 67) (listed' := #[true, true, true, true, true, true, true, true, true, true, true, true, true, true, true, true, true, true, true, true, true, true, true, true, true, true, true, true, false, false, false, false, false]) rfl (by kernel_rfl) (by kernel_rfl) (by kernel_rfl) rfl (by rfl) (by kernel_rfl) hS0 ?_
              simp only [List.setIfInBounds_toArray, List.set_cons_zero, List.set_cons_succ]
              refine hold_skip (i := 28) (d := 68) (listed' := #[true, true, true, true, true, true, true, true, true, true, true, true, true, true, true, true, true, true, true, true, true, true, true, true, true, true, true, true, true, false, false, false, false]) rfl (by kernel_rfl) (by kernel_rfl) (by kernel_rfl) rfl (by rfl) (by kernel_rfl) hS0 ?_
              simp only [List.setIfInBounds_toArray, List.set_cons_zero, List.set_cons_succ]
              refine hold_skip (i := 29) (d := 69) (listed' := #[true, true, true, true, true, true, true, true, true, true, true, true, true, true, true, true, true, true, true, true, true, true, true, true, true, true, true, true, true, true, false, false, false]) rfl (by kernel_rfl) (by kernel_rfl) (by kernel_rfl) rfl (by rfl) (by kernel_rfl) hS0 ?_
              simp only [List.setIfInBounds_toArray, List.set_cons_zero, List.set_cons_succ]
              refine hold_skip (i := 30) (d := 70) (listed' := #[true, true, true, true, true, true, true, true, true, true, true, true, true, true, true, true, true, true, true, true, true, true, true, true, true, true, true, true, true, true, true, false, false]) rfl (by kernel_rfl) (by kernel_rfl) (by kernel_rfl) rfl (by rfl) (by kernel_rfl) hS0 ?_
              simp only [List.setIfInBounds_toArray, List.set_cons_zero, List.set_cons_succ]
              refine hold_skip (i := 31) (d := 71) (listed' := #[true, true, true, true, true, true, true, true, true, true, true, true, true, true, true, true, true, true, true, true, true, true, true, true, true, true, true, true, true, true, true, true, false]) rfl (by kernel_rfl) (by kernel_rfl) (by kernel_rfl) rfl (by rfl) (by kernel_rfl) hS0 ?_
              simp only [List.setIfInBounds_toArray, List.set_cons_zero, List.set_cons_succ]
              refine hold_take (i := 32) (d := 72) (v := ?vd32) (listed' := #[true, true, true, true, true, true, true, true, true, true, true, true, true, true, true, true, true, true, true, true, true, true, true, true, true, true, true, true, true, true, true, true, true]) rfl (by kernel_rfl) (by kernel_rfl) (by kernel_rfl) rfl (by rfl) (by kernel_rfl) hS0 ?hd32 ?rd32
              case hd32 =>
                intro w' hSw
                obtain ⟨k0, k1, k2, k3, k4⟩ := hSw
                go_simp
                try with_reducible rfl
              simp only [List.setIfInBounds_toArray, List.set_cons_zero, List.set_cons_succ]
              refine hold_done (by kernel_rfl) ?_ _
              go_wp2_with fail
              go_roundw
              case rel => exact ⟨b + 1, by omega, by go_num, hD2d, fun c hc => by
                by_cases e : c = b
                · subst e; exact HQ.out
                · exact hT.out c (by omega)⟩
              case measure => simp [intOf]; omega
          · have hbt' : ¬ (b : Int) < j := by omega
            have HQ : Hid (stR m y s j = true) := by show _ = _; rw [HP.out]; exact allB_true fun c hc => hT.out c (by omega)
            go_wp2_with fail
            go_roundw
            case rel => exact ⟨j + 1, by omega, by go_num, hD2, fun c hc => by
              by_cases e : c = j
              · subst e; exact HQ.out
              · exact hR.out c (by omega)⟩
            case measure => simp [intOf]; omega
      · have N2 : Hid (¬ P + Q = 1) := heq
        have HF : Hid (false = stateB m y o' s) := by
          show _ = _
          rw [HV.out]
          exact (allB_false hlt (by rw [HP0.out, decide_eq_false heq]; rfl)).symm
        clear heq HP0
        go_wp2_with fail
        refine region_plain (fuel := 14) (listed := #[false, false, false, false, false, false, false, false, false, false, false, false, false, false]) (fun w' => w'.cell? ⟨w.heap.size, 0, none⟩ = some (.slice (some ⟨l.b, l.o, none⟩) m.n l.cap) ∧ w'.cell? ⟨w.heap.size, 1, none⟩ = some (.slice (some ⟨g, o, none⟩) m.n nc) ∧ w'.cell? ⟨g, o + j, none⟩ = some (.int .i64 (v : Int))) (by kernel_rfl) (by kernel_rfl) (by kernel_rfl) ?_
        refine hold_take (i := 0) (d := 21) (v := ?ve0) (listed' := #[true, false, false, false, false, false, false, false, false, false, false, false, false, false]) rfl (by kernel_rfl) (by kernel_rfl) (by kernel_rfl) rfl (by rfl) (by kernel_rfl) hS0 ?he0 ?re0
        case he0 =>
          intro w' hSw
          obtain ⟨k0, k1, k2⟩ := hSw
          go_simp
          try with_reducible rfl
        simp only [List.setIfInBounds_toArray, List.set_cons_zero, List.set_cons_succ]
        refine hold_take (i := 1) (d := 22) (v := ?ve1) (listed' := #[true, true, false, false, false, false, false, false, false, false, false, false, false, false]) rfl (by kernel_rfl) (by kernel_rfl) (by kernel_rfl) rfl (by rfl) (by kernel_rfl) hS0 ?he1 ?re1
        case he1 =>
          intro w' hSw
          obtain ⟨k0, k1, k2⟩ := hSw
          go_simp
          try with_reducible rfl
        simp only [List.setIfInBounds_toArray, List.set_cons_zero, List.set_cons_succ]
        refine hold_take (i := 2) (d := 23) (v := ?ve2) (listed' := #[true, true, true, false, false, false, false, false, false, false, false, false, false, false]) rfl (by kernel_rfl) (by kernel_rfl) (by kernel_rfl) rfl (by rfl) (by kernel_rfl) hS0 ?he2 ?re2
        case he2 =>
          intro w' hSw
          obtain ⟨k0, k1, k2⟩ := hSw
          go_simp
          try with_reducible rfl
        simp only [List.setIfInBounds_toArray, List.set_cons_zero, List.set_cons_succ]
        refine hold_take (i := 3) (d := 24) (v := ?ve3) (listed' := #[true, true, true, true, false, false, false, false, false, false, false, false, false, false]) rfl (by kernel_rfl) (by kernel_rfl) (by kernel_rfl) rfl (by rfl) (by kernel_rfl) hS0 ?he3 ?re3
        case he3 =>
          intro w' hSw
          obtain ⟨k0, k1, k2⟩ := hSw
          go_simp
          try with_reducible rfl
        simp only [List.setIfInBounds_toArray, List.set_cons_zero, List.set_cons_succ]
        refine hold_take (i := 4) (d := 25) (v := ?ve4) (listed' := #[true, true, true, true, true, false, false, false, false, false, false, false, false, false]) rfl (by kernel_rfl) (by kernel_rfl) (by kernel_rfl) rfl (by rfl) (by kernel_rfl) hS0 ?he4 ?re4
        case he4 =>
          intro w' hSw
          obtain ⟨k0, k1, k2⟩ := hSw
          go_simp
          try with_reducible rfl
        simp only [List.setIfInBounds_toArray, List.set_cons_zero, List.set_cons_succ]
        refine hold_take (i := 5) (d := 26) (v := ?ve5) (listed' := #[true, true, true, true, true, true, false, false, false, false, false, false, false, false]) rfl (by kernel_rfl) (by kernel_rfl) (by kernel_rfl) rfl (by rfl) (by kernel_rfl) hS0 ?he5 ?re5
        case he5 =>
          intro w' hSw
          obtain ⟨k0, k1, k2⟩ := hSw
          go_simp
          try with_reducible rfl
        simp only [List.setIfInBounds_toArray, List.set_cons_zero, List.set_cons_succ]
        refine hold_take (i := 6) (d := 27) (v := ?ve6) (listed' := #[true, true, true, true, true, true, true, false, false, false, false, false, false, false]) rfl (by kernel_rfl) (by kernel_rfl) (by kernel_rfl) rfl (by rfl) (by kernel_rfl) hS0 ?he6 ?re6
        case he6 =>
          intro w' hSw
          obtain ⟨k0, k1, k2⟩ := hSw
          go_simp
          try with_reducible rfl
        simp only [List.setIfInBounds_toArray, List.set_cons_zero, List.set_cons_succ]
        refine hold_take (i := 7) (d := 28) (v := ?ve7) (listed' := #[true, true, true, true, true, true, true, true, false, false, false, false, false, false]) rfl (by kernel_rfl) (by kernel_rfl) (by kernel_rfl) rfl (by rfl) (by kernel_rfl) hS0 ?he7 ?re7
        case he7 =>
          intro w' hSw
          obtain ⟨k0, k1, k2⟩ := hSw
          go_simp
          try with_reducible rfl
        simp only [List.setIfInBounds_toArray, List.set_cons_zero, List.set_cons_succ]
        refine hold_take (i := 8) (d := 29) (v := ?ve8) (listed' := #[true, true, true, true, true, true, true, true, true, false, false, false, false, false]) rfl (by kernel_rfl) (by kernel_rfl) (by kernel_rfl) rfl (by rfl) (by kernel_rfl) hS0 ?he8 ?re8
        case he8 =>
          intro w' hSw
          obtain ⟨k0, k1, k2⟩ := hSw
          go_simp
          try with_reducible rfl
        simp only [List.setIfInBounds_toArray, List.set_cons_zero, List.set_cons_succ]
        refine hold_take (i := 9) (d := 30) (v := ?ve9) (listed' := #[true, true, true, true, true, true, true, true, true, true, false, false, false, false]) rfl (by kernel_rfl) (by kernel_rfl) (by kernel_rfl) rfl (by rfl) (by kernel_rfl) hS0 ?he9 ?re9
        case he9 =>
          intro w' hSw
          obtain ⟨k0, k1, k2⟩ := hSw
          go_simp
          try with_reducible rfl
        simp only [List.setIfInBounds_toArray, List.set_cons_zero, List.set_cons_succ]
        refine hold_take (i := 10) (d := 31) (v := ?ve10) (listed' := #[true, true, true, true, true, true, true, true, true, true, true, false, false, false]) rfl (by kernel_rfl) (by kernel_rfl) (by kernel_rfl) rfl (by rfl) (by kernel_rfl) hS0 ?he10 ?re10
        case he10 =>
          intro w' hSw
          obtain ⟨k0, k1, k2⟩ := hSw
          go_simp
          try with_reducible rfl
        simp only [List.setIfInBounds_toArray, List.set_cons_zero, List.set_cons_succ]
        refine hold_take (i := 11) (d := 32) (v := ?ve11) (listed' := #[true, true, true, true, true, true, true, true, true, true, true, true, false, false]) rfl (by kernel_rfl) (by kernel_rfl) (by kernel_rfl) rfl (by rfl) (by kernel_rfl) hS0 ?he11 ?re11
        case he11 =>
          intro w' hSw
          obtain ⟨k0, k1, k2⟩ := hSw
          go_simp
          try with_reducible rfl
        simp only [List.setIfInBounds_toArray, List.set_cons_zero, List.set_cons_succ]
        refine hold_take (i := 12) (d := 33) (v := .int .i64 ((P : Int) + (Q : Int))) (listed' := #[true, true, true, true, true, true, true, true, true, true, true, true, true, false]) rfl (by kernel_rfl) (by kernel_rfl) (by kernel_rfl) rfl (by rfl) (by kernel_rfl) hS0 ?he12 ?re12
        case he12 =>
          intro w' hSw
          obtain ⟨k0, k1, k2⟩ := hSw
          go_simp
          simp only [S1.out]
        simp only [List.setIfInBounds_toArray, List.set_cons_zero, List.set_cons_succ]
        refine hold_take (i := 13) (d := 34) (v := .bool true) (listed' := #[true, true, true, true, true, true, true, true, true, true, true, true, true, true]) rfl (by kernel_rfl) (by kernel_rfl) (by kernel_rfl) rfl (by rfl) (by kernel_rfl) hS0 ?he13 ?re13
        case he13 =>
          intro w' hSw
          obtain ⟨k0, k1, k2⟩ := hSw
          go_simp
          have h9 := N2.out
          first | omega | (simp; omega)
        simp only [List.setIfInBounds_toArray, List.set_cons_zero, List.set_cons_succ]
        refine hold_done (by kernel_rfl) ?_ _
        go_wp2_with fail
        go_ret
        exact ⟨ret_bool HF.out, hX.below.trans (hDd.mono hX.below.size)⟩
    · have hlt' : ¬ (j : Int) < m.n := by omega
      have HF : Hid (true = stateB m y o' s) := by
        show _ = _
        rw [HV.out]
        exact (allB_true fun c hc => hR.out c (by omega)).symm
      go_wp2_with fail
      go_ret
      exact ⟨ret_bool HF.out, hX.below.trans (hD.mono hX.below.size)⟩

set_option maxRecDepth 100000 in
set_option maxHeartbeats 4000000 in
theorem spec_StateOk {w : World} {B : Nat} {ua : Option Addr} {l : Lay} {m : Mx} {na : Option Addr} {g o k nc : Nat} {x : Int} {z : Nat → Int} (h : LogAt w B ua l m na g o k z) :
    Calls Try.prog 16 #[.agg #[.slice ua m.n l.cap, .slice na k nc], .int .i64 x] w fun e w' => e = .returned (.bool (stateV m k z x)) ∧ Below w.heap.size w w' := by
  have hX := BoxN.start w #[.slice ua m.n l.cap, .slice na k nc] 26
  have hL := Lib.hid (h.alloc (.cells #[.slice ua m.n l.cap, .slice na k nc] 26))
  have q0 := hX.cell 0 rfl
  have q1 := hX.cell 1 rfl
  have hkk := h.hk
  clear h
  cases hl : logicB m k z with
  | false =>
    have HL := Lib.hid hl
    have HF : Hid (false = stateV m k z x) := by show _ = _; unfold stateV; rw [hl]; rfl
    clear hl
    go_enter Try.func16, Try.ntmps16
    go_wp2_with fail
    go_at_call 34
    refine (spec_LogicOk hL.out).mono ?_
    rintro e w1 ⟨rfl, b1⟩
    rw [HL.out]
    have hX1 := hX.step b1
    go_wp2_with fail
    go_ret
    exact ⟨ret_bool HF.out, hX1.below⟩
  | true =>
    obtain ⟨y0, o', hO0⟩ := (logicB_is hl).ortho
    have hkn : k = m.n := (logicB_is hl).pair.len
    subst hkn
    have hO := hO0.own
    obtain ⟨y, hyy⟩ : ∃ y : Nat → Nat, y = fun a => (z a).toNat := ⟨_, rfl⟩
    rw [← hyy] at hO
    have hn := hO.lat.order.top
    have HL := Lib.hid hl
    have HY := Lib.hid (hO.yesV9 hl)
    have HO := Lib.hid hO
    have hp := pow_le_12 hn
    obtain ⟨P, hP⟩ : ∃ P, P = 2 ^ m.n := ⟨_, rfl⟩
    rw [← hP] at hp
    have e0 : ((2 : Int) ^ m.n) = (P : Int) := by rw [hP]; push_cast; rfl
    have e1 : wrap64 ((2 : Int) ^ m.n) = (P : Int) := by rw [e0]; exact IntWalk.wrap64_in _ (by omega)
    have e2 : wrap64 ((P : Int) - 1) = (P : Int) - 1 := IntWalk.wrap64_in _ (by omega)
    by_cases hi : 0 ≤ x ∧ x < (P : Int)
    · obtain ⟨s, rfl⟩ := Int.eq_ofNat_of_zero_le hi.1
      have hs : s < 2 ^ m.n := by rw [← hP]; omega
      have hs12 : s < 4096 := by omega
      have HV := Lib.hid (hO.stateV hl hyy hs).symm
      have hf : (decide ((0 : Int) ≤ (s : Int)) && decide ((s : Int) ≤ (P : Int) - 1)) = true := by
        rw [Bool.and_eq_true]; simp; omega
      have H1 : Hid ((decide ((0 : Int) ≤ (s : Int)) && decide ((s : Int) ≤ wrap64 (2 ^ m.n - 1))) = true) := by show _ = _; rw [e0, e2]; exact hf
      have H1' : Hid ((decide ((0 : Int) ≤ (s : Int)) && decide ((s : Int) ≤ wrap64 (wrap64 (2 ^ m.n) - 1))) = true) := by show _ = _; rw [e1, e2]; exact hf
      clear e0 e1 e2 hf hl hi hP hp hO hO0 hyy hs
      go_enter Try.func16, Try.ntmps16
      go_wp2_with fail
      generalize hW : w.alloc (.cells #[.slice ua m.n l.cap, .slice na m.n nc] 26) = W at hX hL q0 q1 ⊢
      clear hW
      go_at_call 34
      refine (spec_LogicOk hL.out).mono ?_
      rintro e w1 ⟨rfl, b1⟩
      rw [HL.out]
      have hX0 := hX.step b1
      have hL0 := Lib.hid (hL.out.step b1)
      clear q0 q1 hL hX
      go_wp2_with fail
      go_at_call 46
      refine (l1In_any _ _ _ _).mono ?_
      rintro e w2 ⟨rfl, rfl⟩
      first | rw [H1.out] | rw [H1'.out]
      go_wp2_with fail
      have hX1 := hX0.step (Below.refl _ w1).drew
      have hL1 := Lib.hid (hL0.out.step (Below.refl _ w1).drew)
      have hS0 := (show _ ∧ _ from ⟨hX1.cell 0 rfl, hX1.cell 1 rfl⟩)
      refine region_plain (fuel := 6) (listed := #[false, false, false, false, false, false]) (fun w' => w'.cell? ⟨w.heap.size, 0, none⟩ = some (.slice ua m.n l.cap) ∧ w'.cell? ⟨w.heap.size, 1, none⟩ = some (.slice na m.n nc)) (by kernel_rfl) (by kernel_rfl) (by kernel_rfl) ?_
      refine hold_take (i := 0) (d := 20) (v := ?va0) (listed' := #[true, false, false, false, false, false]) rfl (by kernel_rfl) (by kernel_rfl) (by kernel_rfl) rfl (by rfl) (by kernel_rfl) hS0 ?ha0 ?ra0
      case ha0 =>
        intro w' hSw
        obtain ⟨k0, k1⟩ := hSw
        go_simp
        try with_reducible rfl
      simp only [List.setIfInBounds_toArray, List.set_cons_zero, List.set_cons_succ]
      refine hold_take (i := 1) (d := 21) (v := ?va1) (listed' := #[true, true, false, false, false, false]) rfl (by kernel_rfl) (by kernel_rfl) (by kernel_rfl) rfl (by rfl) (by kernel_rfl) hS0 ?ha1 ?ra1
      case ha1 =>
        intro w' hSw
        obtain ⟨k0, k1⟩ := hSw
        go_simp
        try with_reducible rfl
      simp only [List.setIfInBounds_toArray, List.set_cons_zero, List.set_cons_succ]
      refine hold_take (i := 2) (d := 22) (v := ?va2) (listed' := #[true, true, true, false, false, false]) rfl (by kernel_rfl) (by kernel_rfl) (by kernel_rfl) rfl (by rfl) (by kernel_rfl) hS0 ?ha2 ?ra2
      case ha2 =>
        intro w' hSw
        obtain ⟨k0, k1⟩ := hSw
        go_simp
        try with_reducible rfl
      simp only [List.setIfInBounds_toArray, List.set_cons_zero, List.set_cons_succ]
      refine hold_call (i := 3) (d := 23) (listed' := #[true, true, true, true, false, false]) rfl (by kernel_rfl) rfl (by rfl) (by kernel_rfl) ?hea3 (spec_YesOf (nc := nc) hL1.out) ?hca3
      case hea3 => go_simp
      rintro e x1 ⟨rfl, b2⟩
      rw [HY.out]
      have hX2 := hX1.step b2
      have hL2 := Lib.hid (hL1.out.step b2)
      have hS2 := (show _ ∧ _ from ⟨hX2.cell 0 rfl, hX2.cell 1 rfl⟩)
      refine ⟨_, rfl, hS2, ?_⟩
      simp only [List.setIfInBounds_toArray, List.set_cons_zero, List.set_cons_succ]
      refine hold_call (i := 4) (d := 24) (listed' := #[true, true, true, true, true, false]) rfl (by kernel_rfl) rfl (by rfl) (by kernel_rfl) ?hea4 (l9State_any (nc := nc) hL2.out HO.out hs12) ?hca4
      case hea4 => go_simp
      rintro e x2 ⟨rfl, b3⟩
      rw [HV.out]
      have hX3 := hX2.step b3
      have hS3 := (show _ ∧ _ from ⟨hX3.cell 0 rfl, hX3.cell 1 rfl⟩)
      refine ⟨_, rfl, hS3, ?_⟩
      simp only [List.setIfInBounds_toArray, List.set_cons_zero, List.set_cons_succ]
      refine hold_take (i := 5) (d := 4) (v := ?va5) (listed' := #[true, true, true, true, true, true]) rfl (by kernel_rfl) (by kernel_rfl) (by kernel_rfl) rfl (by rfl) (by kernel_rfl) hS3 ?ha5 ?ra5
      case ha5 =>
        intro w' hSw
        obtain ⟨k0, k1⟩ := hSw
        go_simp
        try with_reducible rfl
      simp only [List.setIfInBounds_toArray, List.set_cons_zero, List.set_cons_succ]
      refine hold_done (by kernel_rfl) ?_ _
      go_wp2_with fail
      go_ret
      exact ⟨rfl, hX3.below⟩
    · have HF : Hid (false = stateV m m.n z x) := by
        show _ = _
        unfold stateV inS
        rw [hl, decide_eq_false (by rw [← hP]; exact hi)]; rfl
      have hf : (decide ((0 : Int) ≤ x) && decide (x ≤ (P : Int) - 1)) = false := by
        rw [Bool.and_eq_false_iff]; simp; omega
      have H1 : Hid ((decide ((0 : Int) ≤ x) && decide (x ≤ wrap64 (2 ^ m.n - 1))) = false) := by show _ = _; rw [e0, e2]; exact hf
      have H1' : Hid ((decide ((0 : Int) ≤ x) && decide (x ≤ wrap64 (wrap64 (2 ^ m.n) - 1))) = false) := by show _ = _; rw [e1, e2]; exact hf
      clear e0 e1 e2 hf hl hi hP hp hO hO0 hyy
      go_enter Try.func16, Try.ntmps16
      go_wp2_with fail
      go_at_call 34
      refine (spec_LogicOk hL.out).mono ?_
      rintro e w1 ⟨rfl, b1⟩
      rw [HL.out]
      have hX1 := hX.step b1
      clear q0 q1
      go_wp2_with fail
      go_at_call 46
      refine (l1In_any _ _ _ _).mono ?_
      rintro e w2 ⟨rfl, rfl⟩
      first | rw [H1.out] | rw [H1'.out]
      go_wp2_with fail
      go_ret
      exact ⟨ret_bool HF.out, hX1.below⟩

set_option maxRecDepth 100000 in
set_option maxHeartbeats 4000000 in
theorem spec_StatesOf {w : World} {B : Nat} {ua : Option Addr} {l : Lay} {m : Mx} {na : Option Addr} {g o k nc : Nat} {z : Nat → Int} (h : LogAt w B ua l m na g o k z) :
    Calls Try.prog 41 #[.agg #[.slice ua m.n l.cap, .slice na k nc]] w (ListRes w (statesV m k z)) := by
  have hX := BoxN.start w #[.slice ua m.n l.cap, .slice na k nc] 26
  have h1 := Lib.hid (h.alloc (.cells #[.slice ua m.n l.cap, .slice na k nc] 26))
  have q0 := hX.cell 0 rfl
  have q1 := hX.cell 1 rfl
  have hkk := h.hk
  have hsz : (w.alloc (.cells #[.slice ua m.n l.cap, .slice na k nc] 26)).heap.size = w.heap.size + 1 := by simp
  clear h
  cases hl : logicB m k z with
  | false =>
    have HL := Lib.hid hl
    have HF : Hid (statesV m k z = []) := by show _ = _; unfold statesV; rw [hl]; rfl
    clear hl
    go_enter Try.func41, Try.ntmps41
    have hown0 : ((w.alloc (.cells #[.slice ua m.n l.cap, .slice na k nc] 26)).alloc (.cells #[] 3)).ownsRow (w.heap.size + 1) 3 1 (.slice (some ⟨w.heap.size + 1, 0, none⟩) 0 0) 0 [] := by
      rw [← hsz]
      exact World.ownsRow_lit (base := (w.alloc (.cells #[.slice ua m.n l.cap, .slice na k nc] 26)).heap.size) (e := 3) (size := 1) _ #[] 0 (Nat.le_refl _) (Nat.zero_le _) rfl
    have hb1 := (Below.refl (w.alloc (.cells #[.slice ua m.n l.cap, .slice na k nc] 26)).heap.size (w.alloc (.cells #[.slice ua m.n l.cap, .slice na k nc] 26))).alloc (Nat.le_refl _) (.cells #[] 3)
    have hX1 := hX.step hb1
    have h2 := Lib.hid (h1.out.step hb1)
    have p0 := hX1.cell 0 rfl
    have p1 := hX1.cell 1 rfl
    clear q0 q1 h1 hX
    go_wp2_with fail
    generalize hW1 : (w.alloc (.cells #[.slice ua m.n l.cap, .slice na k nc] 26)).alloc (.cells #[] 3) = W1 at hown0 hX1 h2 p0 p1 ⊢
    clear hW1 hb1
    go_at_call 34
    refine (spec_LogicOk h2.out).mono ?_
    rintro e w2 ⟨rfl, b2⟩
    rw [HL.out]
    have hX2 := hX1.step b2
    have ho := ownsRow_below hown0 b2 (Nat.le_refl _)
    clear p0 p1 hown0
    go_wp2_with fail
    go_ret
    exact ⟨_, rfl, by rw [HF.out]; exact ownsRow_base ho (Nat.le_succ _), hX2.below⟩
  | true =>
    obtain ⟨y0, o', hO0⟩ := (logicB_is hl).ortho
    have hkn : k = m.n := (logicB_is hl).pair.len
    subst hkn
    have hO := hO0.own
    obtain ⟨y, hyy⟩ : ∃ y : Nat → Nat, y = fun a => (z a).toNat := ⟨_, rfl⟩
    rw [← hyy] at hO
    have hn := hO.lat.order.top
    have HL := Lib.hid hl
    have HY := Lib.hid (hO.yesV9 hl)
    have HO := Lib.hid hO
    have h12 := pow_le_12 hn
    obtain ⟨P, hP⟩ : ∃ P, P = 2 ^ m.n := ⟨_, rfl⟩
    have hPp : 1 ≤ P := by rw [hP]; exact Nat.one_le_two_pow
    have HV : Hid (statesV m m.n z = listTo (stateB m y o') P) := by show _ = _; rw [hO.statesV hl hyy, hP]; rfl
    have H0 := Lib.hid (state_zero m y o')
    have HPe := Lib.hid hP
    rw [← hP] at h12
    have e0 : ((2 : Int) ^ m.n) = (P : Int) := by rw [hP]; push_cast; rfl
    have e1 : wrap64 ((2 : Int) ^ m.n) = (P : Int) := by rw [e0]; exact IntWalk.wrap64_in _ (by omega)
    clear hl hO hO0 hyy hP
    obtain ⟨i0, hi, hz0, hz1, hz2⟩ := info_parts infoInt
    have HI := Lib.hid hi
    have HZ0 := Lib.hid hz0
    have HZ1 := Lib.hid hz1
    have HZ2 := Lib.hid hz2
    clear hi hz0 hz1 hz2
    go_enter Try.func41, Try.ntmps41
    have hown0 : ((w.alloc (.cells #[.slice ua m.n l.cap, .slice na m.n nc] 26)).alloc (.cells #[] 3)).ownsRow (w.heap.size + 1) 3 1 (.slice (some ⟨w.heap.size + 1, 0, none⟩) 0 0) 0 [] := by
      rw [← hsz]
      exact World.ownsRow_lit (base := (w.alloc (.cells #[.slice ua m.n l.cap, .slice na m.n nc] 26)).heap.size) (e := 3) (size := 1) _ #[] 0 (Nat.le_refl _) (Nat.zero_le _) rfl
    have hb1 := (Below.refl (w.alloc (.cells #[.slice ua m.n l.cap, .slice na m.n nc] 26)).heap.size (w.alloc (.cells #[.slice ua m.n l.cap, .slice na m.n nc] 26))).alloc (Nat.le_refl _) (.cells #[] 3)
    have HK : Hid (∀ wi, Below (w.heap.size + 1) ((w.alloc (.cells #[.slice ua m.n l.cap, .slice na m.n nc] 26)).alloc (.cells #[] 3)) wi → (wi.cell? ⟨w.heap.size, 0, none⟩ = some (.slice ua m.n l.cap) ∧ wi.cell? ⟨w.heap.size, 1, none⟩ = some (.slice na m.n nc)) ∧ LogAt wi B ua l m na g o m.n z ∧ Below w.heap.size w wi) := fun wi hb => by
      have b9 : Below (w.alloc (.cells #[.slice ua m.n l.cap, .slice na m.n nc] 26)).heap.size (w.alloc (.cells #[.slice ua m.n l.cap, .slice na m.n nc] 26)) wi := hb1.trans (by rw [hsz]; exact hb)
      exact ⟨⟨(hX.step b9).cell 0 rfl, (hX.step b9).cell 1 rfl⟩, h1.out.step b9, (hX.step b9).below⟩
    have hs1 : ((w.alloc (.cells #[.slice ua m.n l.cap, .slice na m.n nc] 26)).alloc (.cells #[] 3)).heap.size = w.heap.size + 2 := by simp
    clear q0 q1 h1 hX hb1
    obtain ⟨⟨p0, p1⟩, h20, _⟩ := HK.out _ (Below.refl _ _)
    have h2 := Lib.hid h20
    clear h20
    go_wp2_with fail
    generalize hW1 : (w.alloc (.cells #[.slice ua m.n l.cap, .slice na m.n nc] 26)).alloc (.cells #[] 3) = W1 at hown0 HK h2 p0 p1 hs1 ⊢
    clear hW1
    go_at_call 34
    refine (spec_LogicOk h2.out).mono ?_
    rintro e w3 ⟨rfl, b3⟩
    rw [HL.out]
    have D3 : Below (w.heap.size + 1) W1 w3 := b3.mono (by omega)
    have hown3 := ownsRow_below hown0 b3 (Nat.le_refl _)
    obtain ⟨⟨r0, r1⟩, h30, _⟩ := HK.out _ D3
    have h3 := Lib.hid h30
    clear p0 p1 hown0 h2 h30
    go_wp2_with fail
    go_at_call 48
    refine (spec_YesOf h3.out).mono ?_
    rintro e w4 ⟨rfl, b4⟩
    rw [HY.out]
    have D4 : Below (w.heap.size + 1) W1 w4 := D3.trans (b4.mono (by have := D3.size; omega))
    have HOut := Lib.hid (ownsRow_below hown3 b4 (Nat.le_refl _))
    clear r0 r1 hown3 h3 D3 b3 b4
    go_wp2_with fail
    go_loopw [3, 5] (fun t i wi => ∃ s : Nat, 1 ≤ s ∧ s ≤ P ∧ i = .int .i64 s ∧ wi.ownsRow (w.heap.size + 1) 3 1 t (listTo (stateB m y o') s).length ((listTo (stateB m y o') s).map (Value.int .i64)) ∧ Below (w.heap.size + 1) W1 wi) (fun _ i _ => P - (intOf i).toNat)
    case atStart =>
      refine ⟨1, Nat.le_refl _, hPp, rfl, ?_, D4⟩
      rw [show listTo (stateB m y o') 1 = [] from (listTo_no H0.out).trans rfl]
      exact HOut.out
    case round =>
      clear HOut D4
      obtain ⟨s, hs1', hsP, rfl, hown, hD⟩ := hrel
      obtain ⟨⟨q0, q1⟩, hr0, BZ⟩ := HK.out _ hD
      have hr := Lib.hid hr0
      have hm64 : (m.n : Int) ≤ 64 := by omega
      have hm63 : (m.n : Int) < 64 := by omega
      have hBs : w.heap.size + 2 ≤ wr.heap.size := by have := hD.size; omega
      clear hr0
      by_cases hst : s < P
      · have hst' : (s : Int) < (P : Int) := by omega
        have hst2 : (s : Int) < 2 ^ m.n := by rw [e0]; exact hst'
        cases hb : stateB m y o' s with
        | false =>
          have HBs := Lib.hid hb
          have HN := Lib.hid (listTo_no hb)
          clear hb
          go_wp2_with fail
          go_at_call 47
          refine (l9State_any (nc := nc) (s := s) hr.out HO.out (by omega)).mono ?_
          rintro e w5 ⟨rfl, b5⟩
          rw [HBs.out]
          have hD5 := hD.trans (b5.mono (by omega))
          have hown5 := ownsRow_below hown b5 (Nat.le_refl _)
          clear q0 q1 hr hown
          go_wp2_with fail
          go_roundw
          case rel => exact ⟨s + 1, by omega, by omega, by go_num, by rw [HN.out]; exact hown5, hD5⟩
          case measure => simp [intOf]; omega
        | true =>
          have HBs := Lib.hid hb
          have HN := Lib.hid (listTo_yes hb)
          have hlen := listTo_len (stateB m y o') s
          clear hb
          go_wp2_with fail
          go_at_call 47
          refine (l9State_any (nc := nc) (s := s) hr.out HO.out (by omega)).mono ?_
          rintro e w5 ⟨rfl, b5⟩
          rw [HBs.out]
          have hD5 := hD.trans (b5.mono (by omega))
          have hown5 := ownsRow_below hown b5 (Nat.le_refl _)
          have hs5 : w.heap.size + 1 ≤ w5.heap.size := by have := b5.size; omega
          clear q0 q1 hr hown
          go_wp2_with (at_builtin; refine wpList_append_own _ rfl _ _ 24 rfl (w.heap.size + 1) 3 i0 (.int .i64 0) 1 8 Try.underlying24 HI.out HZ0.out HZ1.out HZ2.out rfl (by decide) _ _ _ rfl (World.ownsRow.alloc hown5 _) ⟨w5.heap.size, 0, none⟩ 1 1 [.int .i64 (s : Int)] rfl rfl (cell_one_new _ _ _) ?ac2 ?ac3 ?ac4 ?ac5 ?_)
          case ac2 => simp [Value.oneCell']
          case ac3 => unfold maxLen; omega
          case ac4 => omega
          try (case ac5 => first | omega | (simp; omega))
          intro v' w6 hown6 hgrow _
          have HO6 : Hid (w6.ownsRow (w.heap.size + 1) 3 1 v' (listTo (stateB m y o') (s + 1)).length ((listTo (stateB m y o') (s + 1)).map (Value.int .i64))) := by
            show World.ownsRow _ _ _ _ _ _ _
            rw [HN.out, List.length_append, List.map_append]
            exact hown6
          have HD6 := Lib.hid ((hD5.alloc hs5 (.cells #[.int .i64 (s : Int)] 3)).grown hgrow (by simp; omega) (fun c hc => by have := ownsRow_block hown5 c hc; omega))
          clear hown6 hgrow hown5 hD5
          go_wp2_with fail
          go_roundw
          case rel => exact ⟨s + 1, by omega, by omega, by go_num, HO6.out, HD6.out⟩
          case measure => simp [intOf]; omega
      · have hst' : ¬ (s : Int) < (P : Int) := by omega
        have hst2 : ¬ (s : Int) < 2 ^ m.n := by rw [e0]; exact hst'
        have es : s = P := by omega
        have HF : Hid (statesV m m.n z = listTo (stateB m y o') s) := by show _ = _; rw [HV.out, es]
        go_wp2_with fail
        go_ret
        exact ⟨_, rfl, by rw [HF.out]; exact ownsRow_base hown (Nat.le_succ _), BZ⟩
end Go.Proofs.Ytnbglbhfclohjaa
