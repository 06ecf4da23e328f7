import Derived.Test.YtnbglbhfclohjaaZDn
import Derived.Test.YtnbglbhfclohjaaZCm
import Derived.Test.YtnbglbhfclohjaaZOi
import Derived.Test.YtnbglbhfclohjaaZMath
import Derived.Test.YtnbglbhfclohjaaZCk
import Derived.Test.YtnbglbhfclohjaaZCl
namespace Go.Proofs.Ytnbglbhfclohjaa
open Go.RowKit Go.Deep

/-- The drawn logic in its box, and all that was there before. -/
structure Held (w : World) (ua : Option Addr) (l : Lay) (m : Mx) (na : Option Addr) (g o k nc : Nat) (z : Nat → Int) (P : Nat) (wx : World) : Prop where
  log : LogAt wx P ua l m na g o k z
  box : TwoAt wx P (.slice ua m.n l.cap) (.slice na k nc)
  old : Below w.heap.size w wx
theorem Held.step {w wx w' : World} {ua : Option Addr} {l : Lay} {m : Mx} {na : Option Addr} {g o k nc P : Nat} {z : Nat → Int} (h : Held w ua l m na g o k nc z P wx) (hb : Below wx.heap.size wx w') : Held w ua l m na g o k nc z P w' :=
  ⟨h.log.step hb, h.box.below hb (World.block_lt_of_cell? wx ⟨P, 0, none⟩ h.box.c0), h.old.trans (hb.mono h.old.size)⟩
theorem Held.start {w w1 : World} {ua : Option Addr} {l : Lay} {m : Mx} {na : Option Addr} {g o k : Nat} {z : Nat → Int} (h : Fresh w ua l m na g o k z w1) (nc : Nat) : Held w ua l m na g o k nc z w1.heap.size (w1.alloc (.cells #[.slice ua m.n l.cap, .slice na k nc] 26)) :=
  ⟨h.log.alloc _, TwoAt.new _ _ _ _, h.old.alloc h.old.size _⟩
theorem Ortho.noV {m : Mx} {k : Nat} {z : Nat → Int} {y : Nat → Nat} {o : Nat} (h : Ortho m z y o) (hl : logicB m k z = true) : noV m k z = (o : Int) := by unfold Proofs.Ytnbglbhfclohjaa.noV; rw [if_pos hl]; exact h.eq
theorem Ortho.yesV {m : Mx} {k : Nat} {z : Nat → Int} {y : Nat → Nat} {o : Nat} (h : Ortho m z y o) (hl : logicB m k z = true) : yesV m k z = (y o : Int) := by
  unfold Proofs.Ytnbglbhfclohjaa.yesV
  rw [if_pos hl, h.eq]
  exact h.zy o h.ho
theorem Ortho.leastV {m : Mx} {z : Nat → Int} {y : Nat → Nat} {o : Nat} (h : Ortho m z y o) : leastV m = (o : Int) := by rw [leastV_yes (orderB_true h.lat.order)]; exact h.eq
end Go.Proofs.Ytnbglbhfclohjaa
namespace Go.Proofs.Ytnbglbhfclohjaa
open Go.RowKit Go.Deep

end Go.Proofs.Ytnbglbhfclohjaa
namespace Go.Proofs.Ytnbglbhfclohjaa
open Go.RowKit Go.Deep

theorem Ortho.notV {m : Mx} {k : Nat} {z : Nat → Int} {y : Nat → Nat} {o a : Nat} (h : Ortho m z y o) (hl : logicB m k z = true) (ha : a < m.n) : notV m k z (a : Int) = (y a : Int) := by
  unfold Proofs.Ytnbglbhfclohjaa.notV
  rw [hl, good_same, good_mk (by omega) (by omega) (by omega) (by omega)]
  exact h.zy a ha
end Go.Proofs.Ytnbglbhfclohjaa
namespace Go.Proofs.Ytnbglbhfclohjaa
open Go.RowKit Go.Deep
section
variable {m : Mx} {k : Nat} {z : Nat → Int} {y : Nat → Nat} {o a b d : Nat}
theorem Ortho.keepsV (h : Ortho m z y o) (hl : logicB m k z = true) : keepsV m k z = keepsB m y := by
  have hkn : k = m.n := (logicB_is hl).pair.len
  subst hkn
  exact keepsV_is h
end
end Go.Proofs.Ytnbglbhfclohjaa
namespace Go.Proofs.Ytnbglbhfclohjaa
open Go.RowKit Go.Deep

theorem stateV_parts {m : Mx} {k : Nat} {z : Nat → Int} {x : Int} (h : stateV m k z x = true) : ∃ (s o : Nat), x = (s : Int) ∧ s < 4096 ∧ k = m.n ∧ logicB m k z = true ∧ Ortho m z (fun c => (z c).toNat) o ∧ State m (fun c => (z c).toNat) o s := by
  unfold stateV at h
  rw [Bool.and_eq_true, Bool.and_eq_true] at h
  obtain ⟨h1, h2, h3⟩ := h
  obtain ⟨y, o, hO⟩ := (logicB_is h1).ortho
  have hO' := hO.own
  obtain ⟨i1, i2⟩ : 0 ≤ x ∧ x < ((2 ^ m.n : Nat) : Int) := of_decide_eq_true h2
  obtain ⟨s, rfl⟩ := Int.eq_ofNat_of_zero_le i1
  have hs : s < 2 ^ m.n := by omega
  rw [hO'.eq, Int.toNat_natCast, Int.toNat_natCast] at h3
  exact ⟨s, o, rfl, Nat.lt_of_lt_of_le hs (pow_le_12 hO'.lat.order.top), (logicB_is h1).pair.len, h1, hO', hO'.state_iff.1 h3⟩

set_option maxRecDepth 100000 in
set_option maxHeartbeats 4000000 in
theorem law_StateOk {A : Option Addr} {b o n cap : Nat} {z : Nat → Nat} {w : World} (h : CodeAt w A b o n cap z) :
    Calls Try.prog 4 #[.slice A n cap] w fun e w' => e = .returned (.bool true) ∧ Below w.heap.size w w' := by
  have hn := h.hn
  have hc := h.hc
  by_cases hbig : 1048576 < n
  · have hbig' : (1048576 : Int) < n := by omega
    clear h
    go_enter Try.func4, Try.ntmps4
    go_wp2_with fail
    go_ret
    exact ⟨rfl, Below.refl _ _⟩
  · have hbig' : ¬ (1048576 : Int) < n := by omega
    go_enter Try.func4, Try.ntmps4
    go_wp2_with fail
    go_at_call 14
    refine (draw_StateOk h).mono ?_
    rintro e w1 ⟨ua, l, m, na, g, o2, k, nc, zz, x, rfl, hF⟩
    have H1 := Held.start hF nc
    clear h hF
    have q0 := H1.box.c0
    have q1 := H1.box.c1
    go_wp2_with fail
    go_at_call 15
    refine (StateOk_any H1.log).mono ?_
    rintro e w2 ⟨rfl, b2⟩
    have H2 := H1.step b2
    clear H1 q0 q1 b2
    have q0 := H2.box.c0
    have q1 := H2.box.c1
    go_wp2_with fail
    go_at_call 16
    refine (spec_StateOk H2.log).mono ?_
    rintro e w3 ⟨rfl, b3⟩
    have H3 := H2.step b3
    clear H2 q0 q1 b3
    have q0 := H3.box.c0
    have q1 := H3.box.c1
    cases hg : stateV m k zz x with
    | false =>
      clear hg
      go_wp2_with fail
      go_at_call 17
      refine (alive_any _).mono ?_
      rintro e w4 ⟨rfl, b4⟩
      have H4 := H3.step b4
      go_wp2_with fail
      go_ret
      exact ⟨rfl, H4.old⟩
    | true =>
      obtain ⟨s, o3, rfl, hs12, rfl, hl, hO, hSt⟩ := stateV_parts hg
      obtain ⟨y, hy⟩ : ∃ y : Nat → Nat, y = fun c => (zz c).toNat := ⟨_, rfl⟩
      rw [← hy] at hO hSt
      have HS := Lib.hid hO.lat.order.sq
      have hn12 := hO.lat.order.top
      have hpos := hO.lat.order.pos
      obtain ⟨rfl, _, _⟩ := H3.log.mat.sq HS.out hpos hpos
      obtain ⟨rfl, _, _⟩ := H3.log.row.row 0 (by omega)
      have HO := Lib.hid hO
      have HL := Lib.hid hl
      have HSt := Lib.hid hSt
      have HKV : Hid (keepsV m m.n zz = keepsB m y) := keepsV_is hO
      clear hg hy hO hl hSt
      go_wp2_with fail
      go_at_call 18
      refine (spec_KeepsOk H3.log).mono ?_
      rintro e w4 ⟨rfl, b4⟩
      rw [HKV.out]
      have H4 := H3.step b4
      clear H3 q0 q1 b4
      obtain ⟨K, hK⟩ : ∃ K, keepsB m y = K := ⟨_, rfl⟩
      rw [hK]
      have HK := Lib.hid hK
      clear hK
      go_wp2_with fail
      go_loopw [7] (fun i wr => ∃ a : Nat, a ≤ m.n ∧ i = .int .i64 a ∧ Below w4.heap.size w4 wr) (fun i _ => m.n - (intOf i).toNat)
      case atStart => exact ⟨0, Nat.zero_le _, rfl, Below.refl _ _⟩
      case round =>
        obtain ⟨a, hae, rfl, hDa⟩ := hrel
        have Hr := H4.step hDa
        have q0 := Hr.box.c0
        have q1 := Hr.box.c1
        by_cases hlt : a < m.n
        · have hlt' : (a : Int) < m.n := by omega
          clear Hr
          go_wp2_with fail
          clear q0 q1
          go_loopw [8] (fun i wi => ∃ b : Nat, b ≤ m.n ∧ i = .int .i64 b ∧ Below w4.heap.size w4 wi) (fun i _ => m.n - (intOf i).toNat)
          case atStart => exact ⟨0, Nat.zero_le _, rfl, hDa⟩
          case round =>
            obtain ⟨b, hbe, rfl, hDb⟩ := hrel
            have Hr := H4.step hDb
            have q0 := Hr.box.c0
            have q1 := Hr.box.c1
            by_cases hbt : b < m.n
            · have hbt' : (b : Int) < m.n := by omega
              have ha64 : (a : Int) ≤ 64 := by omega
              have hb64 : (b : Int) ≤ 64 := by omega
              have hyb := HO.out.lt b hbt
              obtain ⟨u, hu⟩ : ∃ u, y b = u := ⟨_, rfl⟩
              have hub : u < m.n := by rw [← hu]; exact hyb
              have hub' : (u : Int) < m.n := by omega
              obtain ⟨_, c1, c2⟩ := Hr.log.mat.sq HS.out hlt hbt
              have Hd := Hr.step (Below.refl _ wr).drew
              obtain ⟨_, d1, d2⟩ := Hd.log.mat.sq HS.out hlt hub
              obtain ⟨_, _, d3⟩ := Hd.log.row.row b hbt
              rw [HO.out.zy b hbt, hu] at d3
              have hap : s.testBit a = true → s.testBit b = true → leB m a u = false := fun e1 e2 => by
                cases hl9 : leB m a u with
                | false => rfl
                | true =>
                  have g1 := HO.out.state_apart HSt.out hlt hbt (by rw [hu]; exact leB_is hl9)
                  have g2 := bitN_yes.2 e1
                  have g3 := bitN_yes.2 e2
                  omega
              have hup : K = true → leB m a b = true → s.testBit a = true → s.testBit b = true := fun e1 e2 e3 =>
                bitN_yes.1 (HO.out.state_up (by rw [HK.out]; exact e1) HSt.out hlt hbt (leB_is e2) (bitN_yes.2 e3))
              have hzu := leB_cases HS.out hlt hub
              obtain ⟨zu, hze⟩ : ∃ zu, m.Z a u = zu := ⟨_, rfl⟩
              rw [hze] at d2 hzu
              have K0 : (fun w' => w'.cell? ⟨w1.heap.size, 0, none⟩ = some (.slice (some ⟨l.b, l.o, none⟩) m.n l.cap) ∧ w'.cell? ⟨w1.heap.size, 1, none⟩ = some (.slice (some ⟨g, o2, none⟩) m.n nc) ∧ w'.cell? ⟨g, o2 + b, none⟩ = some (.int .i64 (u : Int)) ∧ w'.cell? ⟨l.b, l.o + a, none⟩ = some (.slice (some ⟨l.G a, l.O a, none⟩) m.n (l.C a)) ∧ w'.cell? ⟨l.G a, l.O a + u, none⟩ = some (.int .i64 (zu : Int))) wr.drew := ⟨Hd.box.c0, Hd.box.c1, d3, d1, d2⟩
              clear Hd d1 d2 d3 hu hze Hr hyb
              cases hba : s.testBit a with
              | false =>
                have t1 := bit_no hba
                clear hba hap hup hzu c1 c2
                go_wp2_with fail
                refine region_plain (fuel := 27) (listed := #[false, false, false, false, false, false, false, false, false, false, false, false, false, false, false, false, false, false, false, false, false, false, false, false, false, false, false]) (fun w' => w'.cell? ⟨w1.heap.size, 0, none⟩ = some (.slice (some ⟨l.b, l.o, none⟩) m.n l.cap) ∧ w'.cell? ⟨w1.heap.size, 1, none⟩ = some (.slice (some ⟨g, o2, none⟩) m.n nc) ∧ w'.cell? ⟨g, o2 + b, none⟩ = some (.int .i64 (u : Int)) ∧ w'.cell? ⟨l.b, l.o + a, none⟩ = some (.slice (some ⟨l.G a, l.O a, none⟩) m.n (l.C a)) ∧ w'.cell? ⟨l.G a, l.O a + u, none⟩ = some (.int .i64 (zu : Int))) (by kernel_rfl) (by kernel_rfl) (by kernel_rfl) ?_
                refine hold_take (i := 0) (d := 70) (v := ?va0) (listed' := #[true, false, false, false, false, false, false, false, false, false, false, false, false, false, false, false, false, false, false, false, false, false, false, false, false, false, false]) rfl (by kernel_rfl) (by kernel_rfl) (by kernel_rfl) rfl (by rfl) (by kernel_rfl) K0 ?ha0 ?ra0
                case ha0 =>
                  intro w' hSw
                  obtain ⟨k0, k1, k2, k3, k4⟩ := hSw
                  go_simp
                  try with_reducible rfl
                simp only [List.setIfInBounds_toArray, List.set_cons_zero, List.set_cons_succ]
                refine hold_take (i := 1) (d := 71) (v := ?va1) (listed' := #[true, true, false, false, false, false, false, false, false, false, false, false, false, false, false, false, false, false, false, false, false, false, false, false, false, false, false]) rfl (by kernel_rfl) (by kernel_rfl) (by kernel_rfl) rfl (by rfl) (by kernel_rfl) K0 ?ha1 ?ra1
                case ha1 =>
                  intro w' hSw
                  obtain ⟨k0, k1, k2, k3, k4⟩ := hSw
                  go_simp
                  try with_reducible rfl
                simp only [List.setIfInBounds_toArray, List.set_cons_zero, List.set_cons_succ]
                refine hold_take (i := 2) (d := 72) (v := ?va2) (listed' := #[true, true, true, false, false, false, false, false, false, false, false, false, false, false, false, false, false, false, false, false, false, false, false, false, false, false, false]) rfl (by kernel_rfl) (by kernel_rfl) (by kernel_rfl) rfl (by rfl) (by kernel_rfl) K0 ?ha2 ?ra2
                case ha2 =>
                  intro w' hSw
                  obtain ⟨k0, k1, k2, k3, k4⟩ := hSw
                  go_simp
                  try with_reducible rfl
                simp only [List.setIfInBounds_toArray, List.set_cons_zero, List.set_cons_succ]
                refine hold_take (i := 3) (d := 73) (v := ?va3) (listed' := #[true, true, true, true, false, false, false, false, false, false, false, false, false, false, false, false, false, false, false, false, false, false, false, false, false, false, false]) rfl (by kernel_rfl) (by kernel_rfl) (by kernel_rfl) rfl (by rfl) (by kernel_rfl) K0 ?ha3 ?ra3
                case ha3 =>
                  intro w' hSw
                  obtain ⟨k0, k1, k2, k3, k4⟩ := hSw
                  go_simp
                  try with_reducible rfl
                simp only [List.setIfInBounds_toArray, List.set_cons_zero, List.set_cons_succ]
                refine hold_take (i := 4) (d := 74) (v := ?va4) (listed' := #[true, true, true, true, true, false, false, false, false, false, false, false, false, false, false, false, false, false, false, false, false, false, false, false, false, false, false]) rfl (by kernel_rfl) (by kernel_rfl) (by kernel_rfl) rfl (by rfl) (by kernel_rfl) K0 ?ha4 ?ra4
                case ha4 =>
                  intro w' hSw
                  obtain ⟨k0, k1, k2, k3, k4⟩ := hSw
                  go_simp
                  try with_reducible rfl
                simp only [List.setIfInBounds_toArray, List.set_cons_zero, List.set_cons_succ]
                refine hold_take (i := 5) (d := 75) (v := ?va5) (listed' := #[true, true, true, true, true, true, false, false, false, false, false, false, false, false, false, false, false, false, false, false, false, false, false, false, false, false, false]) rfl (by kernel_rfl) (by kernel_rfl) (by kernel_rfl) rfl (by rfl) (by kernel_rfl) K0 ?ha5 ?ra5
                case ha5 =>
                  intro w' hSw
                  obtain ⟨k0, k1, k2, k3, k4⟩ := hSw
                  go_simp
                  try with_reducible rfl
                simp only [List.setIfInBounds_toArray, List.set_cons_zero, List.set_cons_succ]
                refine hold_skip (i := 6) (d := 76) (listed' := #[true, true, true, true, true, true, true, false, false, false, false, false, false, false, false, false, false, false, false, false, false, false, false, false, false, false, false]) rfl (by kernel_rfl) (by kernel_rfl) (by kernel_rfl) rfl (by rfl) (by kernel_rfl) K0 ?_
                simp only [List.setIfInBounds_toArray, List.set_cons_zero, List.set_cons_succ]
                refine hold_skip (i := 7) (d := 77) (listed' := #[true, true, true, true, true, true, true, true, false, false, false, false, false, false, false, false, false, false, false, false, false, false, false, false, false, false, false]) rfl (by kernel_rfl) (by kernel_rfl) (by kernel_rfl) rfl (by rfl) (by kernel_rfl) K0 ?_
                simp only [List.setIfInBounds_toArray, List.set_cons_zero, List.set_cons_succ]
                refine hold_skip (i := 8) (d := 78) (listed' := #[true, true, true, true, true, true, true, true, true, false, false, false, false, false, false, false, false, false, false, false, false, false, false, false, false, false, false]) rfl (by kernel_rfl) (by kernel_rfl) (by kernel_rfl) rfl (by rfl) (by kernel_rfl) K0 ?_
                simp only [List.setIfInBounds_toArray, List.set_cons_zero, List.set_cons_succ]
                refine hold_skip (i := 9) (d := 79) (listed' := #[true, true, true, true, true, true, true, true, true, true, false, false, false, false, false, false, false, false, false, false, false, false, false, false, false, false, false]) rfl (by kernel_rfl) (by kernel_rfl) (by kernel_rfl) rfl (by rfl) (by kernel_rfl) K0 ?_
                simp only [List.setIfInBounds_toArray, List.set_cons_zero, List.set_cons_succ]
                refine hold_skip (i := 10) (d := 80) (listed' := #[true, true, true, true, true, true, true, true, true, true, true, false, false, false, false, false, false, false, false, false, false, false, false, false, false, false, false]) rfl (by kernel_rfl) (by kernel_rfl) (by kernel_rfl) rfl (by rfl) (by kernel_rfl) K0 ?_
                simp only [List.setIfInBounds_toArray, List.set_cons_zero, List.set_cons_succ]
                refine hold_take (i := 11) (d := 81) (v := ?va11) (listed' := #[true, true, true, true, true, true, true, true, true, true, true, true, false, false, false, false, false, false, false, false, false, false, false, false, false, false, false]) rfl (by kernel_rfl) (by kernel_rfl) (by kernel_rfl) rfl (by rfl) (by kernel_rfl) K0 ?ha11 ?ra11
                case ha11 =>
                  intro w' hSw
                  obtain ⟨k0, k1, k2, k3, k4⟩ := hSw
                  go_simp
                  try with_reducible rfl
                simp only [List.setIfInBounds_toArray, List.set_cons_zero, List.set_cons_succ]
                refine hold_take (i := 12) (d := 82) (v := ?va12) (listed' := #[true, true, true, true, true, true, true, true, true, true, true, true, true, false, false, false, false, false, false, false, false, false, false, false, false, false, false]) rfl (by kernel_rfl) (by kernel_rfl) (by kernel_rfl) rfl (by rfl) (by kernel_rfl) K0 ?ha12 ?ra12
                case ha12 =>
                  intro w' hSw
                  obtain ⟨k0, k1, k2, k3, k4⟩ := hSw
                  go_simp
                  try with_reducible rfl
                simp only [List.setIfInBounds_toArray, List.set_cons_zero, List.set_cons_succ]
                refine hold_skip (i := 13) (d := 83) (listed' := #[true, true, true, true, true, true, true, true, true, true, true, true, true, true, false, false, false, false, false, false, false, false, false, false, false, false, false]) rfl (by kernel_rfl) (by kernel_rfl) (by kernel_rfl) rfl (by rfl) (by kernel_rfl) K0 ?_
                simp only [List.setIfInBounds_toArray, List.set_cons_zero, List.set_cons_succ]
                refine hold_skip (i := 14) (d := 84) (listed' := #[true, true, true, true, true, true, true, true, true, true, true, true, true, true, true, false, false, false, false, false, false, false, false, false, false, false, false]) rfl (by kernel_rfl) (by kernel_rfl) (by kernel_rfl) rfl (by rfl) (by kernel_rfl) K0 ?_
                simp only [List.setIfInBounds_toArray, List.set_cons_zero, List.set_cons_succ]
                refine hold_skip (i := 15) (d := 85) (listed' := #[true, true, true, true, true, true, true, true, true, true, true, true, true, true, true, true, false, false, false, false, false, false, false, false, false, false, false]) rfl (by kernel_rfl) (by kernel_rfl) (by kernel_rfl) rfl (by rfl) (by kernel_rfl) K0 ?_
                simp only [List.setIfInBounds_toArray, List.set_cons_zero, List.set_cons_succ]
                refine hold_skip (i := 16) (d := 86) (listed' := #[true, true, true, true, true, true, true, true, true, true, true, true, true, true, true, true, true, false, false, false, false, false, false, false, false, false, false]) rfl (by kernel_rfl) (by kernel_rfl) (by kernel_rfl) rfl (by rfl) (by kernel_rfl) K0 ?_
                simp only [List.setIfInBounds_toArray, List.set_cons_zero, List.set_cons_succ]
                refine hold_skip (i := 17) (d := 87) (listed' := #[true, true, true, true, true, true, true, true, true, true, true, true, true, true, true, true, true, true, false, false, false, false, false, false, false, false, false]) rfl (by kernel_rfl) (by kernel_rfl) (by kernel_rfl) rfl (by rfl) (by kernel_rfl) K0 ?_
                simp only [List.setIfInBounds_toArray, List.set_cons_zero, List.set_cons_succ]
                refine hold_skip (i := 18) (d := 88) (listed' := #[true, true, true, true, true, true, true, true, true, true, true, true, true, true, true, true, true, true, true, false, false, false, false, false, false, false, false]) rfl (by kernel_rfl) (by kernel_rfl) (by kernel_rfl) rfl (by rfl) (by kernel_rfl) K0 ?_
                simp only [List.setIfInBounds_toArray, List.set_cons_zero, List.set_cons_succ]
                refine hold_skip (i := 19) (d := 89) (listed' := #[true, true, true, true, true, true, true, true, true, true, true, true, true, true, true, true, true, true, true, true, false, false, false, false, false, false, false]) rfl (by kernel_rfl) (by kernel_rfl) (by kernel_rfl) rfl (by rfl) (by kernel_rfl) K0 ?_
                simp only [List.setIfInBounds_toArray, List.set_cons_zero, List.set_cons_succ]
                refine hold_skip (i := 20) (d := 90) (listed' := #[true, true, true, true, true, true, true, true, true, true, true, true, true, true, true, true, true, true, true, true, true, false, false, false, false, false, false]) rfl (by kernel_rfl) (by kernel_rfl) (by kernel_rfl) rfl (by rfl) (by kernel_rfl) K0 ?_
                simp only [List.setIfInBounds_toArray, List.set_cons_zero, List.set_cons_succ]
                refine hold_skip (i := 21) (d := 91) (listed' := #[true, true, true, true, true, true, true, true, true, true, true, true, true, true, true, true, true, true, true, true, true, true, false, false, false, false, false]) rfl (by kernel_rfl) (by kernel_rfl) (by kernel_rfl) rfl (by rfl) (by kernel_rfl) K0 ?_
                simp only [List.setIfInBounds_toArray, List.set_cons_zero, List.set_cons_succ]
                refine hold_skip (i := 22) (d := 92) (listed' := #[true, true, true, true, true, true, true, true, true, true, true, true, true, true, true, true, true, true, true, true, true, true, true, false, false, false, false]) rfl (by kernel_rfl) (by kernel_rfl) (by kernel_rfl) rfl (by rfl) (by kernel_rfl) K0 ?_
                simp only [List.setIfInBounds_toArray, List.set_cons_zero, List.set_cons_succ]
                refine hold_skip (i := 23) (d := 93) (listed' := #[true, true, true, true, true, true, true, true, true, true, true, true, true, true, true, true, true, true, true, true, true, true, true, true, false, false, false]) rfl (by kernel_rfl) (by kernel_rfl) (by kernel_rfl) rfl (by rfl) (by kernel_rfl) K0 ?_
                simp only [List.setIfInBounds_toArray, List.set_cons_zero, List.set_cons_succ]
                refine hold_skip (i := 24) (d := 94) (listed' := #[true, true, true, true, true, true, true, true, true, true, true, true, true, true, true, true, true, true, true, true, true, true, true, true, true, false, false]) rfl (by kernel_rfl) (by kernel_rfl) (by kernel_rfl) rfl (by rfl) (by kernel_rfl) K0 ?_
                simp only [List.setIfInBounds_toArray, List.set_cons_zero, List.set_cons_succ]
                refine hold_skip (i := 25) (d := 95) (listed' := #[true, true, true, true, true, true, true, true, true, true, true, true, true, true, true, true, true, true, true, true, true, true, true, true, true, true, false]) rfl (by kernel_rfl) (by kernel_rfl) (by kernel_rfl) rfl (by rfl) (by kernel_rfl) K0 ?_
                simp only [List.setIfInBounds_toArray, List.set_cons_zero, List.set_cons_succ]
                refine hold_take (i := 26) (d := 96) (v := ?va26) (listed' := #[true, true, true, true, true, true, true, true, true, true, true, true, true, true, true, true, true, true, true, true, true, true, true, true, true, true, true]) rfl (by kernel_rfl) (by kernel_rfl) (by kernel_rfl) rfl (by rfl) (by kernel_rfl) K0 ?ha26 ?ra26
                case ha26 =>
                  intro w' hSw
                  obtain ⟨k0, k1, k2, k3, k4⟩ := hSw
                  go_simp
                  try with_reducible rfl
                simp only [List.setIfInBounds_toArray, List.set_cons_zero, List.set_cons_succ]
                refine hold_done (by kernel_rfl) ?_ _
                go_wp2_with fail
                go_roundw
                case rel => exact ⟨b + 1, by omega, by go_num, hDb.drew⟩
                case measure => simp [intOf]; omega
              | true =>
                have t1 := bit_yes hba
                cases hbb : s.testBit b with
                | false =>
                  have t2 := bit_no hbb
                  clear hap hzu
                  cases hKK : K with
                  | false =>
                    clear hba hbb hup c1 c2
                    subst hKK
                    go_wp2_with fail
                    refine region_plain (fuel := 27) (listed := #[false, false, false, false, false, false, false, false, false, false, false, false, false, false, false, false, false, false, false, false, false, false, false, false, false, false, false]) (fun w' => w'.cell? ⟨w1.heap.size, 0, none⟩ = some (.slice (some ⟨l.b, l.o, none⟩) m.n l.cap) ∧ w'.cell? ⟨w1.heap.size, 1, none⟩ = some (.slice (some ⟨g, o2, none⟩) m.n nc) ∧ w'.cell? ⟨g, o2 + b, none⟩ = some (.int .i64 (u : Int)) ∧ w'.cell? ⟨l.b, l.o + a, none⟩ = some (.slice (some ⟨l.G a, l.O a, none⟩) m.n (l.C a)) ∧ w'.cell? ⟨l.G a, l.O a + u, none⟩ = some (.int .i64 (zu : Int))) (by kernel_rfl) (by kernel_rfl) (by kernel_rfl) ?_
                    refine hold_take (i := 0) (d := 70) (v := ?vb0) (listed' := #[true, false, false, false, false, false, false, false, false, false, false, false, false, false, false, false, false, false, false, false, false, false, false, false, false, false, false]) rfl (by kernel_rfl) (by kernel_rfl) (by kernel_rfl) rfl (by rfl) (by kernel_rfl) K0 ?hb0 ?rb0
                    case hb0 =>
                      intro w' hSw
                      obtain ⟨k0, k1, k2, k3, k4⟩ := hSw
                      go_simp
                      try with_reducible rfl
                    simp only [List.setIfInBounds_toArray, List.set_cons_zero, List.set_cons_succ]
                    refine hold_take (i := 1) (d := 71) (v := ?vb1) (listed' := #[true, true, false, false, false, false, false, false, false, false, false, false, false, false, false, false, false, false, false, false, false, false, false, false, false, false, false]) rfl (by kernel_rfl) (by kernel_rfl) (by kernel_rfl) rfl (by rfl) (by kernel_rfl) K0 ?hb1 ?rb1
                    case hb1 =>
                      intro w' hSw
                      obtain ⟨k0, k1, k2, k3, k4⟩ := hSw
                      go_simp
                      try with_reducible rfl
                    simp only [List.setIfInBounds_toArray, List.set_cons_zero, List.set_cons_succ]
                    refine hold_take (i := 2) (d := 72) (v := ?vb2) (listed' := #[true, true, true, false, false, false, false, false, false, false, false, false, false, false, false, false, false, false, false, false, false, false, false, false, false, false, false]) rfl (by kernel_rfl) (by kernel_rfl) (by kernel_rfl) rfl (by rfl) (by kernel_rfl) K0 ?hb2 ?rb2
                    case hb2 =>
                      intro w' hSw
                      obtain ⟨k0, k1, k2, k3, k4⟩ := hSw
                      go_simp
                      try with_reducible rfl
                    simp only [List.setIfInBounds_toArray, List.set_cons_zero, List.set_cons_succ]
                    refine hold_take (i := 3) (d := 73) (v := ?vb3) (listed' := #[true, true, true, true, false, false, false, false, false, false, false, false, false, false, false, false, false, false, false, false, false, false, false, false, false, false, false]) rfl (by kernel_rfl) (by kernel_rfl) (by kernel_rfl) rfl (by rfl) (by kernel_rfl) K0 ?hb3 ?rb3
                    case hb3 =>
                      intro w' hSw
                      obtain ⟨k0, k1, k2, k3, k4⟩ := hSw
                      go_simp
                      try with_reducible rfl
                    simp only [List.setIfInBounds_toArray, List.set_cons_zero, List.set_cons_succ]
                    refine hold_take (i := 4) (d := 74) (v := ?vb4) (listed' := #[true, true, true, true, true, false, false, false, false, false, false, false, false, false, false, false, false, false, false, false, false, false, false, false, false, false, false]) rfl (by kernel_rfl) (by kernel_rfl) (by kernel_rfl) rfl (by rfl) (by kernel_rfl) K0 ?hb4 ?rb4
                    case hb4 =>
                      intro w' hSw
                      obtain ⟨k0, k1, k2, k3, k4⟩ := hSw
                      go_simp
                      try with_reducible rfl
                    simp only [List.setIfInBounds_toArray, List.set_cons_zero, List.set_cons_succ]
                    refine hold_take (i := 5) (d := 75) (v := ?vb5) (listed' := #[true, true, true, true, true, true, false, false, false, false, false, false, false, false, false, false, false, false, false, false, false, false, false, false, false, false, false]) rfl (by kernel_rfl) (by kernel_rfl) (by kernel_rfl) rfl (by rfl) (by kernel_rfl) K0 ?hb5 ?rb5
                    case hb5 =>
                      intro w' hSw
                      obtain ⟨k0, k1, k2, k3, k4⟩ := hSw
                      go_simp
                      try with_reducible rfl
                    simp only [List.setIfInBounds_toArray, List.set_cons_zero, List.set_cons_succ]
                    refine hold_take (i := 6) (d := 76) (v := ?vb6) (listed' := #[true, true, true, true, true, true, true, false, false, false, false, false, false, false, false, false, false, false, false, false, false, false, false, false, false, false, false]) rfl (by kernel_rfl) (by kernel_rfl) (by kernel_rfl) rfl (by rfl) (by kernel_rfl) K0 ?hb6 ?rb6
                    case hb6 =>
                      intro w' hSw
                      obtain ⟨k0, k1, k2, k3, k4⟩ := hSw
                      go_simp
                      try with_reducible rfl
                    simp only [List.setIfInBounds_toArray, List.set_cons_zero, List.set_cons_succ]
                    refine hold_take (i := 7) (d := 77) (v := ?vb7) (listed' := #[true, true, true, true, true, true, true, true, false, false, false, false, false, false, false, false, false, false, false, false, false, false, false, false, false, false, false]) rfl (by kernel_rfl) (by kernel_rfl) (by kernel_rfl) rfl (by rfl) (by kernel_rfl) K0 ?hb7 ?rb7
                    case hb7 =>
                      intro w' hSw
                      obtain ⟨k0, k1, k2, k3, k4⟩ := hSw
                      go_simp
                      try with_reducible rfl
                    simp only [List.setIfInBounds_toArray, List.set_cons_zero, List.set_cons_succ]
                    refine hold_take (i := 8) (d := 78) (v := ?vb8) (listed' := #[true, true, true, true, true, true, true, true, true, false, false, false, false, false, false, false, false, false, false, false, false, false, false, false, false, false, false]) rfl (by kernel_rfl) (by kernel_rfl) (by kernel_rfl) rfl (by rfl) (by kernel_rfl) K0 ?hb8 ?rb8
                    case hb8 =>
                      intro w' hSw
                      obtain ⟨k0, k1, k2, k3, k4⟩ := hSw
                      go_simp
                      try with_reducible rfl
                    simp only [List.setIfInBounds_toArray, List.set_cons_zero, List.set_cons_succ]
                    refine hold_take (i := 9) (d := 79) (v := ?vb9) (listed' := #[true, true, true, true, true, true, true, true, true, true, false, false, false, false, false, false, false, false, false, false, false, false, false, false, false, false, false]) rfl (by kernel_rfl) (by kernel_rfl) (by kernel_rfl) rfl (by rfl) (by kernel_rfl) K0 ?hb9 ?rb9
                    case hb9 =>
                      intro w' hSw
                      obtain ⟨k0, k1, k2, k3, k4⟩ := hSw
                      go_simp
                      try with_reducible rfl
                    simp only [List.setIfInBounds_toArray, List.set_cons_zero, List.set_cons_succ]
                    refine hold_take (i := 10) (d := 80) (v := ?vb10) (listed' := #[true, true, true, true, true, true, true, true, true, true, true, false, false, false, false, false, false, false, false, false, false, false, false, false, false, false, false]) rfl (by kernel_rfl) (by kernel_rfl) (by kernel_rfl) rfl (by rfl) (by kernel_rfl) K0 ?hb10 ?rb10
                    case hb10 =>
                      intro w' hSw
                      obtain ⟨k0, k1, k2, k3, k4⟩ := hSw
                      go_simp
                      try with_reducible rfl
                    simp only [List.setIfInBounds_toArray, List.set_cons_zero, List.set_cons_succ]
                    refine hold_take (i := 11) (d := 81) (v := ?vb11) (listed' := #[true, true, true, true, true, true, true, true, true, true, true, true, false, false, false, false, false, false, false, false, false, false, false, false, false, false, false]) rfl (by kernel_rfl) (by kernel_rfl) (by kernel_rfl) rfl (by rfl) (by kernel_rfl) K0 ?hb11 ?rb11
                    case hb11 =>
                      intro w' hSw
                      obtain ⟨k0, k1, k2, k3, k4⟩ := hSw
                      go_simp
                      try with_reducible rfl
                    simp only [List.setIfInBounds_toArray, List.set_cons_zero, List.set_cons_succ]
                    refine hold_take (i := 12) (d := 82) (v := ?vb12) (listed' := #[true, true, true, true, true, true, true, true, true, true, true, true, true, false, false, false, false, false, false, false, false, false, false, false, false, false, false]) rfl (by kernel_rfl) (by kernel_rfl) (by kernel_rfl) rfl (by rfl) (by kernel_rfl) K0 ?hb12 ?rb12
                    case hb12 =>
                      intro w' hSw
                      obtain ⟨k0, k1, k2, k3, k4⟩ := hSw
                      go_simp
                      try with_reducible rfl
                    simp only [List.setIfInBounds_toArray, List.set_cons_zero, List.set_cons_succ]
                    refine hold_skip (i := 13) (d := 83) (listed' := #[true, true, true, true, true, true, true, true, true, true, true, true, true, true, false, false, false, false, false, false, false, false, false, false, false, false, false]) rfl (by kernel_rfl) (by kernel_rfl) (by kernel_rfl) rfl (by rfl) (by kernel_rfl) K0 ?_
                    simp only [List.setIfInBounds_toArray, List.set_cons_zero, List.set_cons_succ]
                    refine hold_skip (i := 14) (d := 84) (listed' := #[true, true, true, true, true, true, true, true, true, true, true, true, true, true, true, false, false, false, false, false, false, false, false, false, false, false, false]) rfl (by kernel_rfl) (by kernel_rfl) (by kernel_rfl) rfl (by rfl) (by kernel_rfl) K0 ?_
                    simp only [List.setIfInBounds_toArray, List.set_cons_zero, List.set_cons_succ]
                    refine hold_skip (i := 15) (d := 85) (listed' := #[true, true, true, true, true, true, true, true, true, true, true, true, true, true, true, true, false, false, false, false, false, false, false, false, false, false, false]) rfl (by kernel_rfl) (by kernel_rfl) (by kernel_rfl) rfl (by rfl) (by kernel_rfl) K0 ?_
                    simp only [List.setIfInBounds_toArray, List.set_cons_zero, List.set_cons_succ]
                    refine hold_skip (i := 16) (d := 86) (listed' := #[true, true, true, true, true, true, true, true, true, true, true, true, true, true, true, true, true, false, false, false, false, false, false, false, false, false, false]) rfl (by kernel_rfl) (by kernel_rfl) (by kernel_rfl) rfl (by rfl) (by kernel_rfl) K0 ?_
                    simp only [List.setIfInBounds_toArray, List.set_cons_zero, List.set_cons_succ]
                    refine hold_skip (i := 17) (d := 87) (listed' := #[true, true, true, true, true, true, true, true, true, true, true, true, true, true, true, true, true, true, false, false, false, false, false, false, false, false, false]) rfl (by kernel_rfl) (by kernel_rfl) (by kernel_rfl) rfl (by rfl) (by kernel_rfl) K0 ?_
                    simp only [List.setIfInBounds_toArray, List.set_cons_zero, List.set_cons_succ]
                    refine hold_skip (i := 18) (d := 88) (listed' := #[true, true, true, true, true, true, true, true, true, true, true, true, true, true, true, true, true, true, true, false, false, false, false, false, false, false, false]) rfl (by kernel_rfl) (by kernel_rfl) (by kernel_rfl) rfl (by rfl) (by kernel_rfl) K0 ?_
                    simp only [List.setIfInBounds_toArray, List.set_cons_zero, List.set_cons_succ]
                    refine hold_skip (i := 19) (d := 89) (listed' := #[true, true, true, true, true, true, true, true, true, true, true, true, true, true, true, true, true, true, true, true, false, false, false, false, false, false, false]) rfl (by kernel_rfl) (by kernel_rfl) (by kernel_rfl) rfl (by rfl) (by kernel_rfl) K0 ?_
                    simp only [List.setIfInBounds_toArray, List.set_cons_zero, List.set_cons_succ]
                    refine hold_skip (i := 20) (d := 90) (listed' := #[true, true, true, true, true, true, true, true, true, true, true, true, true, true, true, true, true, true, true, true, true, false, false, false, false, false, false]) rfl (by kernel_rfl) (by kernel_rfl) (by kernel_rfl) rfl (by rfl) (by kernel_rfl) K0 ?_
                    simp only [List.setIfInBounds_toArray, List.set_cons_zero, List.set_cons_succ]
                    refine hold_skip (i := 21) (d := 91) (listed' := #[true, true, true, true, true, true, true, true, true, true, true, true, true, true, true, true, true, true, true, true, true, true, false, false, false, false, false]) rfl (by kernel_rfl) (by kernel_rfl) (by kernel_rfl) rfl (by rfl) (by kernel_rfl) K0 ?_
                    simp only [List.setIfInBounds_toArray, List.set_cons_zero, List.set_cons_succ]
                    refine hold_skip (i := 22) (d := 92) (listed' := #[true, true, true, true, true, true, true, true, true, true, true, true, true, true, true, true, true, true, true, true, true, true, true, false, false, false, false]) rfl (by kernel_rfl) (by kernel_rfl) (by kernel_rfl) rfl (by rfl) (by kernel_rfl) K0 ?_
                    simp only [List.setIfInBounds_toArray, List.set_cons_zero, List.set_cons_succ]
                    refine hold_skip (i := 23) (d := 93) (listed' := #[true, true, true, true, true, true, true, true, true, true, true, true, true, true, true, true, true, true, true, true, true, true, true, true, false, false, false]) rfl (by kernel_rfl) (by kernel_rfl) (by kernel_rfl) rfl (by rfl) (by kernel_rfl) K0 ?_
                    simp only [List.setIfInBounds_toArray, List.set_cons_zero, List.set_cons_succ]
                    refine hold_skip (i := 24) (d := 94) (listed' := #[true, true, true, true, true, true, true, true, true, true, true, true, true, true, true, true, true, true, true, true, true, true, true, true, true, false, false]) rfl (by kernel_rfl) (by kernel_rfl) (by kernel_rfl) rfl (by rfl) (by kernel_rfl) K0 ?_
                    simp only [List.setIfInBounds_toArray, List.set_cons_zero, List.set_cons_succ]
                    refine hold_skip (i := 25) (d := 95) (listed' := #[true, true, true, true, true, true, true, true, true, true, true, true, true, true, true, true, true, true, true, true, true, true, true, true, true, true, false]) rfl (by kernel_rfl) (by kernel_rfl) (by kernel_rfl) rfl (by rfl) (by kernel_rfl) K0 ?_
                    simp only [List.setIfInBounds_toArray, List.set_cons_zero, List.set_cons_succ]
                    refine hold_take (i := 26) (d := 96) (v := ?vb26) (listed' := #[true, true, true, true, true, true, true, true, true, true, true, true, true, true, true, true, true, true, true, true, true, true, true, true, true, true, true]) rfl (by kernel_rfl) (by kernel_rfl) (by kernel_rfl) rfl (by rfl) (by kernel_rfl) K0 ?hb26 ?rb26
                    case hb26 =>
                      intro w' hSw
                      obtain ⟨k0, k1, k2, k3, k4⟩ := hSw
                      go_simp
                      try with_reducible rfl
                    simp only [List.setIfInBounds_toArray, List.set_cons_zero, List.set_cons_succ]
                    refine hold_done (by kernel_rfl) ?_ _
                    go_wp2_with fail
                    go_roundw
                    case rel => exact ⟨b + 1, by omega, by go_num, hDb.drew⟩
                    case measure => simp [intOf]; omega
                  | true =>
                    rcases leB_cases HS.out hlt hbt with ⟨l1, z1⟩ | ⟨l1, z1⟩
                    · have h9 := hup hKK l1 hba
                      rw [h9] at hbb; cases hbb
                    · rw [z1] at c2
                      clear hba hbb hup l1 z1
                      subst hKK
                      go_wp2_with fail
                      refine region_plain (fuel := 27) (listed := #[false, false, false, false, false, false, false, false, false, false, false, false, false, false, false, false, false, false, false, false, false, false, false, false, false, false, false]) (fun w' => w'.cell? ⟨w1.heap.size, 0, none⟩ = some (.slice (some ⟨l.b, l.o, none⟩) m.n l.cap) ∧ w'.cell? ⟨w1.heap.size, 1, none⟩ = some (.slice (some ⟨g, o2, none⟩) m.n nc) ∧ w'.cell? ⟨g, o2 + b, none⟩ = some (.int .i64 (u : Int)) ∧ w'.cell? ⟨l.b, l.o + a, none⟩ = some (.slice (some ⟨l.G a, l.O a, none⟩) m.n (l.C a)) ∧ w'.cell? ⟨l.G a, l.O a + u, none⟩ = some (.int .i64 (zu : Int))) (by kernel_rfl) (by kernel_rfl) (by kernel_rfl) ?_
                      refine hold_take (i := 0) (d := 70) (v := ?vc0) (listed' := #[true, false, false, false, false, false, false, false, false, false, false, false, false, false, false, false, false, false, false, false, false, false, false, false, false, false, false]) rfl (by kernel_rfl) (by kernel_rfl) (by kernel_rfl) rfl (by rfl) (by kernel_rfl) K0 ?hc0 ?rc0
                      case hc0 =>
                        intro w' hSw
                        obtain ⟨k0, k1, k2, k3, k4⟩ := hSw
                        go_simp
                        try with_reducible rfl
                      simp only [List.setIfInBounds_toArray, List.set_cons_zero, List.set_cons_succ]
                      refine hold_take (i := 1) (d := 71) (v := ?vc1) (listed' := #[true, true, false, false, false, false, false, false, false, false, false, false, false, false, false, false, false, false, false, false, false, false, false, false, false, false, false]) rfl (by kernel_rfl) (by kernel_rfl) (by kernel_rfl) rfl (by rfl) (by kernel_rfl) K0 ?hc1 ?rc1
                      case hc1 =>
                        intro w' hSw
                        obtain ⟨k0, k1, k2, k3, k4⟩ := hSw
                        go_simp
                        try with_reducible rfl
                      simp only [List.setIfInBounds_toArray, List.set_cons_zero, List.set_cons_succ]
                      refine hold_take (i := 2) (d := 72) (v := ?vc2) (listed' := #[true, true, true, false, false, false, false, false, false, false, false, false, false, false, false, false, false, false, false, false, false, false, false, false, false, false, false]) rfl (by kernel_rfl) (by kernel_rfl) (by kernel_rfl) rfl (by rfl) (by kernel_rfl) K0 ?hc2 ?rc2
                      case hc2 =>
                        intro w' hSw
                        obtain ⟨k0, k1, k2, k3, k4⟩ := hSw
                        go_simp
                        try with_reducible rfl
                      simp only [List.setIfInBounds_toArray, List.set_cons_zero, List.set_cons_succ]
                      refine hold_take (i := 3) (d := 73) (v := ?vc3) (listed' := #[true, true, true, true, false, false, false, false, false, false, false, false, false, false, false, false, false, false, false, false, false, false, false, false, false, false, false]) rfl (by kernel_rfl) (by kernel_rfl) (by kernel_rfl) rfl (by rfl) (by kernel_rfl) K0 ?hc3 ?rc3
                      case hc3 =>
                        intro w' hSw
                        obtain ⟨k0, k1, k2, k3, k4⟩ := hSw
                        go_simp
                        try with_reducible rfl
                      simp only [List.setIfInBounds_toArray, List.set_cons_zero, List.set_cons_succ]
                      refine hold_take (i := 4) (d := 74) (v := ?vc4) (listed' := #[true, true, true, true, true, false, false, false, false, false, false, false, false, false, false, false, false, false, false, false, false, false, false, false, false, false, false]) rfl (by kernel_rfl) (by kernel_rfl) (by kernel_rfl) rfl (by rfl) (by kernel_rfl) K0 ?hc4 ?rc4
                      case hc4 =>
                        intro w' hSw
                        obtain ⟨k0, k1, k2, k3, k4⟩ := hSw
                        go_simp
                        try with_reducible rfl
                      simp only [List.setIfInBounds_toArray, List.set_cons_zero, List.set_cons_succ]
                      refine hold_take (i := 5) (d := 75) (v := ?vc5) (listed' := #[true, true, true, true, true, true, false, false, false, false, false, false, false, false, false, false, false, false, false, false, false, false, false, false, false, false, false]) rfl (by kernel_rfl) (by kernel_rfl) (by kernel_rfl) rfl (by rfl) (by kernel_rfl) K0 ?hc5 ?rc5
                      case hc5 =>
                        intro w' hSw
                        obtain ⟨k0, k1, k2, k3, k4⟩ := hSw
                        go_simp
                        try with_reducible rfl
                      simp only [List.setIfInBounds_toArray, List.set_cons_zero, List.set_cons_succ]
                      refine hold_take (i := 6) (d := 76) (v := ?vc6) (listed' := #[true, true, true, true, true, true, true, false, false, false, false, false, false, false, false, false, false, false, false, false, false, false, false, false, false, false, false]) rfl (by kernel_rfl) (by kernel_rfl) (by kernel_rfl) rfl (by rfl) (by kernel_rfl) K0 ?hc6 ?rc6
                      case hc6 =>
                        intro w' hSw
                        obtain ⟨k0, k1, k2, k3, k4⟩ := hSw
                        go_simp
                        try with_reducible rfl
                      simp only [List.setIfInBounds_toArray, List.set_cons_zero, List.set_cons_succ]
                      refine hold_take (i := 7) (d := 77) (v := ?vc7) (listed' := #[true, true, true, true, true, true, true, true, false, false, false, false, false, false, false, false, false, false, false, false, false, false, false, false, false, false, false]) rfl (by kernel_rfl) (by kernel_rfl) (by kernel_rfl) rfl (by rfl) (by kernel_rfl) K0 ?hc7 ?rc7
                      case hc7 =>
                        intro w' hSw
                        obtain ⟨k0, k1, k2, k3, k4⟩ := hSw
                        go_simp
                        try with_reducible rfl
                      simp only [List.setIfInBounds_toArray, List.set_cons_zero, List.set_cons_succ]
                      refine hold_take (i := 8) (d := 78) (v := ?vc8) (listed' := #[true, true, true, true, true, true, true, true, true, false, false, false, false, false, false, false, false, false, false, false, false, false, false, false, false, false, false]) rfl (by kernel_rfl) (by kernel_rfl) (by kernel_rfl) rfl (by rfl) (by kernel_rfl) K0 ?hc8 ?rc8
                      case hc8 =>
                        intro w' hSw
                        obtain ⟨k0, k1, k2, k3, k4⟩ := hSw
                        go_simp
                        try with_reducible rfl
                      simp only [List.setIfInBounds_toArray, List.set_cons_zero, List.set_cons_succ]
                      refine hold_take (i := 9) (d := 79) (v := ?vc9) (listed' := #[true, true, true, true, true, true, true, true, true, true, false, false, false, false, false, false, false, false, false, false, false, false, false, false, false, false, false]) rfl (by kernel_rfl) (by kernel_rfl) (by kernel_rfl) rfl (by rfl) (by kernel_rfl) K0 ?hc9 ?rc9
                      case hc9 =>
                        intro w' hSw
                        obtain ⟨k0, k1, k2, k3, k4⟩ := hSw
                        go_simp
                        try with_reducible rfl
                      simp only [List.setIfInBounds_toArray, List.set_cons_zero, List.set_cons_succ]
                      refine hold_take (i := 10) (d := 80) (v := ?vc10) (listed' := #[true, true, true, true, true, true, true, true, true, true, true, false, false, false, false, false, false, false, false, false, false, false, false, false, false, false, false]) rfl (by kernel_rfl) (by kernel_rfl) (by kernel_rfl) rfl (by rfl) (by kernel_rfl) K0 ?hc10 ?rc10
                      case hc10 =>
                        intro w' hSw
                        obtain ⟨k0, k1, k2, k3, k4⟩ := hSw
                        go_simp
                        try with_reducible rfl
                      simp only [List.setIfInBounds_toArray, List.set_cons_zero, List.set_cons_succ]
                      refine hold_take (i := 11) (d := 81) (v := ?vc11) (listed' := #[true, true, true, true, true, true, true, true, true, true, true, true, false, false, false, false, false, false, false, false, false, false, false, false, false, false, false]) rfl (by kernel_rfl) (by kernel_rfl) (by kernel_rfl) rfl (by rfl) (by kernel_rfl) K0 ?hc11 ?rc11
                      case hc11 =>
                        intro w' hSw
                        obtain ⟨k0, k1, k2, k3, k4⟩ := hSw
                        go_simp
                        try with_reducible rfl
                      simp only [List.setIfInBounds_toArray, List.set_cons_zero, List.set_cons_succ]
                      refine hold_take (i := 12) (d := 82) (v := ?vc12) (listed' := #[true, true, true, true, true, true, true, true, true, true, true, true, true, false, false, false, false, false, false, false, false, false, false, false, false, false, false]) rfl (by kernel_rfl) (by kernel_rfl) (by kernel_rfl) rfl (by rfl) (by kernel_rfl) K0 ?hc12 ?rc12
                      case hc12 =>
                        intro w' hSw
                        obtain ⟨k0, k1, k2, k3, k4⟩ := hSw
                        go_simp
                        try with_reducible rfl
                      simp only [List.setIfInBounds_toArray, List.set_cons_zero, List.set_cons_succ]
                      refine hold_skip (i := 13) (d := 83) (listed' := #[true, true, true, true, true, true, true, true, true, true, true, true, true, true, false, false, false, false, false, false, false, false, false, false, false, false, false]) rfl (by kernel_rfl) (by kernel_rfl) (by kernel_rfl) rfl (by rfl) (by kernel_rfl) K0 ?_
                      simp only [List.setIfInBounds_toArray, List.set_cons_zero, List.set_cons_succ]
                      refine hold_skip (i := 14) (d := 84) (listed' := #[true, true, true, true, true, true, true, true, true, true, true, true, true, true, true, false, false, false, false, false, false, false, false, false, false, false, false]) rfl (by kernel_rfl) (by kernel_rfl) (by kernel_rfl) rfl (by rfl) (by kernel_rfl) K0 ?_
                      simp only [List.setIfInBounds_toArray, List.set_cons_zero, List.set_cons_succ]
                      refine hold_skip (i := 15) (d := 85) (listed' := #[true, true, true, true, true, true, true, true, true, true, true, true, true, true, true, true, false, false, false, false, false, false, false, false, false, false, false]) rfl (by kernel_rfl) (by kernel_rfl) (by kernel_rfl) rfl (by rfl) (by kernel_rfl) K0 ?_
                      simp only [List.setIfInBounds_toArray, List.set_cons_zero, List.set_cons_succ]
                      refine hold_skip (i := 16) (d := 86) (listed' := #[true, true, true, true, true, true, true, true, true, true, true, true, true, true, true, true, true, false, false, false, false, false, false, false, false, false, false]) rfl (by kernel_rfl) (by kernel_rfl) (by kernel_rfl) rfl (by rfl) (by kernel_rfl) K0 ?_
                      simp only [List.setIfInBounds_toArray, List.set_cons_zero, List.set_cons_succ]
                      refine hold_skip (i := 17) (d := 87) (listed' := #[true, true, true, true, true, true, true, true, true, true, true, true, true, true, true, true, true, true, false, false, false, false, false, false, false, false, false]) rfl (by kernel_rfl) (by kernel_rfl) (by kernel_rfl) rfl (by rfl) (by kernel_rfl) K0 ?_
                      simp only [List.setIfInBounds_toArray, List.set_cons_zero, List.set_cons_succ]
                      refine hold_skip (i := 18) (d := 88) (listed' := #[true, true, true, true, true, true, true, true, true, true, true, true, true, true, true, true, true, true, true, false, false, false, false, false, false, false, false]) rfl (by kernel_rfl) (by kernel_rfl) (by kernel_rfl) rfl (by rfl) (by kernel_rfl) K0 ?_
                      simp only [List.setIfInBounds_toArray, List.set_cons_zero, List.set_cons_succ]
                      refine hold_skip (i := 19) (d := 89) (listed' := #[true, true, true, true, true, true, true, true, true, true, true, true, true, true, true, true, true, true, true, true, false, false, false, false, false, false, false]) rfl (by kernel_rfl) (by kernel_rfl) (by kernel_rfl) rfl (by rfl) (by kernel_rfl) K0 ?_
                      simp only [List.setIfInBounds_toArray, List.set_cons_zero, List.set_cons_succ]
                      refine hold_skip (i := 20) (d := 90) (listed' := #[true, true, true, true, true, true, true, true, true, true, true, true, true, true, true, true, true, true, true, true, true, false, false, false, false, false, false]) rfl (by kernel_rfl) (by kernel_rfl) (by kernel_rfl) rfl (by rfl) (by kernel_rfl) K0 ?_
                      simp only [List.setIfInBounds_toArray, List.set_cons_zero, List.set_cons_succ]
                      refine hold_skip (i := 21) (d := 91) (listed' := #[true, true, true, true, true, true, true, true, true, true, true, true, true, true, true, true, true, true, true, true, true, true, false, false, false, false, false]) rfl (by kernel_rfl) (by kernel_rfl) (by kernel_rfl) rfl (by rfl) (by kernel_rfl) K0 ?_
                      simp only [List.setIfInBounds_toArray, List.set_cons_zero, List.set_cons_succ]
                      refine hold_skip (i := 22) (d := 92) (listed' := #[true, true, true, true, true, true, true, true, true, true, true, true, true, true, true, true, true, true, true, true, true, true, true, false, false, false, false]) rfl (by kernel_rfl) (by kernel_rfl) (by kernel_rfl) rfl (by rfl) (by kernel_rfl) K0 ?_
                      simp only [List.setIfInBounds_toArray, List.set_cons_zero, List.set_cons_succ]
                      refine hold_skip (i := 23) (d := 93) (listed' := #[true, true, true, true, true, true, true, true, true, true, true, true, true, true, true, true, true, true, true, true, true, true, true, true, false, false, false]) rfl (by kernel_rfl) (by kernel_rfl) (by kernel_rfl) rfl (by rfl) (by kernel_rfl) K0 ?_
                      simp only [List.setIfInBounds_toArray, List.set_cons_zero, List.set_cons_succ]
                      refine hold_skip (i := 24) (d := 94) (listed' := #[true, true, true, true, true, true, true, true, true, true, true, true, true, true, true, true, true, true, true, true, true, true, true, true, true, false, false]) rfl (by kernel_rfl) (by kernel_rfl) (by kernel_rfl) rfl (by rfl) (by kernel_rfl) K0 ?_
                      simp only [List.setIfInBounds_toArray, List.set_cons_zero, List.set_cons_succ]
                      refine hold_skip (i := 25) (d := 95) (listed' := #[true, true, true, true, true, true, true, true, true, true, true, true, true, true, true, true, true, true, true, true, true, true, true, true, true, true, false]) rfl (by kernel_rfl) (by kernel_rfl) (by kernel_rfl) rfl (by rfl) (by kernel_rfl) K0 ?_
                      simp only [List.setIfInBounds_toArray, List.set_cons_zero, List.set_cons_succ]
                      refine hold_take (i := 26) (d := 96) (v := ?vc26) (listed' := #[true, true, true, true, true, true, true, true, true, true, true, true, true, true, true, true, true, true, true, true, true, true, true, true, true, true, true]) rfl (by kernel_rfl) (by kernel_rfl) (by kernel_rfl) rfl (by rfl) (by kernel_rfl) K0 ?hc26 ?rc26
                      case hc26 =>
                        intro w' hSw
                        obtain ⟨k0, k1, k2, k3, k4⟩ := hSw
                        go_simp
                        try with_reducible rfl
                      simp only [List.setIfInBounds_toArray, List.set_cons_zero, List.set_cons_succ]
                      refine hold_done (by kernel_rfl) ?_ _
                      go_wp2_with fail
                      go_roundw
                      case rel => exact ⟨b + 1, by omega, by go_num, hDb.drew⟩
                      case measure => simp [intOf]; omega
                | true =>
                  have t2 := bit_yes hbb
                  have hl9 := hap hba hbb
                  have hz0 : zu = 0 := by
                    rcases hzu with ⟨l1, z1⟩ | ⟨l1, z1⟩
                    · rw [hl9] at l1; cases l1
                    · exact z1
                  subst hz0
                  clear hap hzu hl9 hup hba hbb
                  cases hKK : K with
                  | false =>
                    clear c1 c2
                    subst hKK
                    go_wp2_with fail
                    refine region_plain (fuel := 27) (listed := #[false, false, false, false, false, false, false, false, false, false, false, false, false, false, false, false, false, false, false, false, false, false, false, false, false, false, false]) (fun w' => w'.cell? ⟨w1.heap.size, 0, none⟩ = some (.slice (some ⟨l.b, l.o, none⟩) m.n l.cap) ∧ w'.cell? ⟨w1.heap.size, 1, none⟩ = some (.slice (some ⟨g, o2, none⟩) m.n nc) ∧ w'.cell? ⟨g, o2 + b, none⟩ = some (.int .i64 (u : Int)) ∧ w'.cell? ⟨l.b, l.o + a, none⟩ = some (.slice (some ⟨l.G a, l.O a, none⟩) m.n (l.C a)) ∧ w'.cell? ⟨l.G a, l.O a + u, none⟩ = some (.int .i64 0)) (by kernel_rfl) (by kernel_rfl) (by kernel_rfl) ?_
                    refine hold_take (i := 0) (d := 70) (v := ?vd0) (listed' := #[true, false, false, false, false, false, false, false, false, false, false, false, false, false, false, false, false, false, false, false, false, false, false, false, false, false, false]) rfl (by kernel_rfl) (by kernel_rfl) (by kernel_rfl) rfl (by rfl) (by kernel_rfl) K0 ?hd0 ?rd0
                    case hd0 =>
                      intro w' hSw
                      obtain ⟨k0, k1, k2, k3, k4⟩ := hSw
                      go_simp
                      try with_reducible rfl
                    simp only [List.setIfInBounds_toArray, List.set_cons_zero, List.set_cons_succ]
                    refine hold_take (i := 1) (d := 71) (v := ?vd1) (listed' := #[true, true, false, false, false, false, false, false, false, false, false, false, false, false, false, false, false, false, false, false, false, false, false, false, false, false, false]) rfl (by kernel_rfl) (by kernel_rfl) (by kernel_rfl) rfl (by rfl) (by kernel_rfl) K0 ?hd1 ?rd1
                    case hd1 =>
                      intro w' hSw
                      obtain ⟨k0, k1, k2, k3, k4⟩ := hSw
                      go_simp
                      try with_reducible rfl
                    simp only [List.setIfInBounds_toArray, List.set_cons_zero, List.set_cons_succ]
                    refine hold_take (i := 2) (d := 72) (v := ?vd2) (listed' := #[true, true, true, false, false, false, false, false, false, false, false, false, false, false, false, false, false, false, false, false, false, false, false, false, false, false, false]) rfl (by kernel_rfl) (by kernel_rfl) (by kernel_rfl) rfl (by rfl) (by kernel_rfl) K0 ?hd2 ?rd2
                    case hd2 =>
                      intro w' hSw
                      obtain ⟨k0, k1, k2, k3, k4⟩ := hSw
                      go_simp
                      try with_reducible rfl
                    simp only [List.setIfInBounds_toArray, List.set_cons_zero, List.set_cons_succ]
                    refine hold_take (i := 3) (d := 73) (v := ?vd3) (listed' := #[true, true, true, true, false, false, false, false, false, false, false, false, false, false, false, false, false, false, false, false, false, false, false, false, false, false, false]) rfl (by kernel_rfl) (by kernel_rfl) (by kernel_rfl) rfl (by rfl) (by kernel_rfl) K0 ?hd3 ?rd3
                    case hd3 =>
                      intro w' hSw
                      obtain ⟨k0, k1, k2, k3, k4⟩ := hSw
                      go_simp
                      try with_reducible rfl
                    simp only [List.setIfInBounds_toArray, List.set_cons_zero, List.set_cons_succ]
                    refine hold_take (i := 4) (d := 74) (v := ?vd4) (listed' := #[true, true, true, true, true, false, false, false, false, false, false, false, false, false, false, false, false, false, false, false, false, false, false, false, false, false, false]) rfl (by kernel_rfl) (by kernel_rfl) (by kernel_rfl) rfl (by rfl) (by kernel_rfl) K0 ?hd4 ?rd4
                    case hd4 =>
                      intro w' hSw
                      obtain ⟨k0, k1, k2, k3, k4⟩ := hSw
                      go_simp
                      try with_reducible rfl
                    simp only [List.setIfInBounds_toArray, List.set_cons_zero, List.set_cons_succ]
                    refine hold_take (i := 5) (d := 75) (v := ?vd5) (listed' := #[true, true, true, true, true, true, false, false, false, false, false, false, false, false, false, false, false, false, false, false, false, false, false, false, false, false, false]) rfl (by kernel_rfl) (by kernel_rfl) (by kernel_rfl) rfl (by rfl) (by kernel_rfl) K0 ?hd5 ?rd5
                    case hd5 =>
                      intro w' hSw
                      obtain ⟨k0, k1, k2, k3, k4⟩ := hSw
                      go_simp
                      try with_reducible rfl
                    simp only [List.setIfInBounds_toArray, List.set_cons_zero, List.set_cons_succ]
                    refine hold_take (i := 6) (d := 76) (v := ?vd6) (listed' := #[true, true, true, true, true, true, true, false, false, false, false, false, false, false, false, false, false, false, false, false, false, false, false, false, false, false, false]) rfl (by kernel_rfl) (by kernel_rfl) (by kernel_rfl) rfl (by rfl) (by kernel_rfl) K0 ?hd6 ?rd6
                    case hd6 =>
                      intro w' hSw
                      obtain ⟨k0, k1, k2, k3, k4⟩ := hSw
                      go_simp
                      try with_reducible rfl
                    simp only [List.setIfInBounds_toArray, List.set_cons_zero, List.set_cons_succ]
                    refine hold_take (i := 7) (d := 77) (v := ?vd7) (listed' := #[true, true, true, true, true, true, true, true, false, false, false, false, false, false, false, false, false, false, false, false, false, false, false, false, false, false, false]) rfl (by kernel_rfl) (by kernel_rfl) (by kernel_rfl) rfl (by rfl) (by kernel_rfl) K0 ?hd7 ?rd7
                    case hd7 =>
                      intro w' hSw
                      obtain ⟨k0, k1, k2, k3, k4⟩ := hSw
                      go_simp
                      try with_reducible rfl
                    simp only [List.setIfInBounds_toArray, List.set_cons_zero, List.set_cons_succ]
                    refine hold_take (i := 8) (d := 78) (v := ?vd8) (listed' := #[true, true, true, true, true, true, true, true, true, false, false, false, false, false, false, false, false, false, false, false, false, false, false, false, false, false, false]) rfl (by kernel_rfl) (by kernel_rfl) (by kernel_rfl) rfl (by rfl) (by kernel_rfl) K0 ?hd8 ?rd8
                    case hd8 =>
                      intro w' hSw
                      obtain ⟨k0, k1, k2, k3, k4⟩ := hSw
                      go_simp
                      try with_reducible rfl
                    simp only [List.setIfInBounds_toArray, List.set_cons_zero, List.set_cons_succ]
                    refine hold_take (i := 9) (d := 79) (v := ?vd9) (listed' := #[true, true, true, true, true, true, true, true, true, true, false, false, false, false, false, false, false, false, false, false, false, false, false, false, false, false, false]) rfl (by kernel_rfl) (by kernel_rfl) (by kernel_rfl) rfl (by rfl) (by kernel_rfl) K0 ?hd9 ?rd9
                    case hd9 =>
                      intro w' hSw
                      obtain ⟨k0, k1, k2, k3, k4⟩ := hSw
                      go_simp
                      try with_reducible rfl
                    simp only [List.setIfInBounds_toArray, List.set_cons_zero, List.set_cons_succ]
                    refine hold_take (i := 10) (d := 80) (v := ?vd10) (listed' := #[true, true, true, true, true, true, true, true, true, true, true, false, false, false, false, false, false, false, false, false, false, false, false, false, false, false, false]) rfl (by kernel_rfl) (by kernel_rfl) (by kernel_rfl) rfl (by rfl) (by kernel_rfl) K0 ?hd10 ?rd10
                    case hd10 =>
                      intro w' hSw
                      obtain ⟨k0, k1, k2, k3, k4⟩ := hSw
                      go_simp
                      try with_reducible rfl
                    simp only [List.setIfInBounds_toArray, List.set_cons_zero, List.set_cons_succ]
                    refine hold_take (i := 11) (d := 81) (v := ?vd11) (listed' := #[true, true, true, true, true, true, true, true, true, true, true, true, false, false, false, false, false, false, false, false, false, false, false, false, false, false, false]) rfl (by kernel_rfl) (by kernel_rfl) (by kernel_rfl) rfl (by rfl) (by kernel_rfl) K0 ?hd11 ?rd11
                    case hd11 =>
                      intro w' hSw
                      obtain ⟨k0, k1, k2, k3, k4⟩ := hSw
                      go_simp
                      try with_reducible rfl
                    simp only [List.setIfInBounds_toArray, List.set_cons_zero, List.set_cons_succ]
                    refine hold_take (i := 12) (d := 82) (v := ?vd12) (listed' := #[true, true, true, true, true, true, true, true, true, true, true, true, true, false, false, false, false, false, false, false, false, false, false, false, false, false, false]) rfl (by kernel_rfl) (by kernel_rfl) (by kernel_rfl) rfl (by rfl) (by kernel_rfl) K0 ?hd12 ?rd12
                    case hd12 =>
                      intro w' hSw
                      obtain ⟨k0, k1, k2, k3, k4⟩ := hSw
                      go_simp
                      try with_reducible rfl
                    simp only [List.setIfInBounds_toArray, List.set_cons_zero, List.set_cons_succ]
                    refine hold_take (i := 13) (d := 83) (v := ?vd13) (listed' := #[true, true, true, true, true, true, true, true, true, true, true, true, true, true, false, false, false, false, false, false, false, false, false, false, false, false, false]) rfl (by kernel_rfl) (by kernel_rfl) (by kernel_rfl) rfl (by rfl) (by kernel_rfl) K0 ?hd13 ?rd13
                    case hd13 =>
                      intro w' hSw
                      obtain ⟨k0, k1, k2, k3, k4⟩ := hSw
                      go_simp
                      try with_reducible rfl
                    simp only [List.setIfInBounds_toArray, List.set_cons_zero, List.set_cons_succ]
                    refine hold_take (i := 14) (d := 84) (v := ?vd14) (listed' := #[true, true, true, true, true, true, true, true, true, true, true, true, true, true, true, false, false, false, false, false, false, false, false, false, false, false, false]) rfl (by kernel_rfl) (by kernel_rfl) (by kernel_rfl) rfl (by rfl) (by kernel_rfl) K0 ?hd14 ?rd14
                    case hd14 =>
                      intro w' hSw
                      obtain ⟨k0, k1, k2, k3, k4⟩ := hSw
                      go_simp
                      try with_reducible rfl
                    simp only [List.setIfInBounds_toArray, List.set_cons_zero, List.set_cons_succ]
                    refine hold_take (i := 15) (d := 85) (v := ?vd15) (listed' := #[true, true, true, true, true, true, true, true, true, true, true, true, true, true, true, true, false, false, false, false, false, false, false, false, false, false, false]) rfl (by kernel_rfl) (by kernel_rfl) (by kernel_rfl) rfl (by rfl) (by kernel_rfl) K0 ?hd15 ?rd15
                    case hd15 =>
                      intro w' hSw
                      obtain ⟨k0, k1, k2, k3, k4⟩ := hSw
                      go_simp
                      try with_reducible rfl
                    simp only [List.setIfInBounds_toArray, List.set_cons_zero, List.set_cons_succ]
                    refine hold_take (i := 16) (d := 86) (v := ?vd16) (listed' := #[true, true, true, true, true, true, true, true, true, true, true, true, true, true, true, true, true, false, false, false, false, false, false, false, false, false, false]) rfl (by kernel_rfl) (by kernel_rfl) (by kernel_rfl) rfl (by rfl) (by kernel_rfl) K0 ?hd16 ?rd16
                    case hd16 =>
                      intro w' hSw
                      obtain ⟨k0, k1, k2, k3, k4⟩ := hSw
                      go_simp
                      try with_reducible rfl
                    simp only [List.setIfInBounds_toArray, List.set_cons_zero, List.set_cons_succ]
                    refine hold_take (i := 17) (d := 87) (v := ?vd17) (listed' := #[true, true, true, true, true, true, true, true, true, true, true, true, true, true, true, true, true, true, false, false, false, false, false, false, false, false, false]) rfl (by kernel_rfl) (by kernel_rfl) (by kernel_rfl) rfl (by rfl) (by kernel_rfl) K0 ?hd17 ?rd17
                    case hd17 =>
                      intro w' hSw
                      obtain ⟨k0, k1, k2, k3, k4⟩ := hSw
                      go_simp
                      try with_reducible rfl
                    simp only [List.setIfInBounds_toArray, List.set_cons_zero, List.set_cons_succ]
                    refine hold_take (i := 18) (d := 88) (v := ?vd18) (listed' := #[true, true, true, true, true, true, true, true, true, true, true, true, true, true, true, true, true, true, true, false, false, false, false, false, false, false, false]) rfl (by kernel_rfl) (by kernel_rfl) (by kernel_rfl) rfl (by rfl) (by kernel_rfl) K0 ?hd18 ?rd18
                    case hd18 =>
                      intro w' hSw
                      obtain ⟨k0, k1, k2, k3, k4⟩ := hSw
                      go_simp
                      try with_reducible rfl
                    simp only [List.setIfInBounds_toArray, List.set_cons_zero, List.set_cons_succ]
                    refine hold_take (i := 19) (d := 89) (v := ?vd19) (listed' := #[true, true, true, true, true, true, true, true, true, true, true, true, true, true, true, true, true, true, true, true, false, false, false, false, false, false, false]) rfl (by kernel_rfl) (by kernel_rfl) (by kernel_rfl) rfl (by rfl) (by kernel_rfl) K0 ?hd19 ?rd19
                    case hd19 =>
                      intro w' hSw
                      obtain ⟨k0, k1, k2, k3, k4⟩ := hSw
                      go_simp
                      try with_reducible rfl
                    simp only [List.setIfInBounds_toArray, List.set_cons_zero, List.set_cons_succ]
                    refine hold_take (i := 20) (d := 90) (v := ?vd20) (listed' := #[true, true, true, true, true, true, true, true, true, true, true, true, true, true, true, true, true, true, true, true, true, false, false, false, false, false, false]) rfl (by kernel_rfl) (by kernel_rfl) (by kernel_rfl) rfl (by rfl) (by kernel_rfl) K0 ?hd20 ?rd20
                    case hd20 =>
                      intro w' hSw
                      obtain ⟨k0, k1, k2, k3, k4⟩ := hSw
                      go_simp
                      try with_reducible rfl
                    simp only [List.setIfInBounds_toArray, List.set_cons_zero, List.set_cons_succ]
                    refine hold_take (i := 21) (d := 91) (v := ?vd21) (listed' := #[true, true, true, true, true, true, true, true, true, true, true, true, true, true, true, true, true, true, true, true, true, true, false, false, false, false, false]) rfl (by kernel_rfl) (by kernel_rfl) (by kernel_rfl) rfl (by rfl) (by kernel_rfl) K0 ?hd21 ?rd21
                    case hd21 =>
                      intro w' hSw
                      obtain ⟨k0, k1, k2, k3, k4⟩ := hSw
                      go_simp
                      try with_reducible rfl
                    simp only [List.setIfInBounds_toArray, List.set_cons_zero, List.set_cons_succ]
                    refine hold_take (i := 22) (d := 92) (v := ?vd22) (listed' := #[true, true, true, true, true, true, true, true, true, true, true, true, true, true, true, true, true, true, true, true, true, true, true, false, false, false, false]) rfl (by kernel_rfl) (by kernel_rfl) (by kernel_rfl) rfl (by rfl) (by kernel_rfl) K0 ?hd22 ?rd22
                    case hd22 =>
                      intro w' hSw
                      obtain ⟨k0, k1, k2, k3, k4⟩ := hSw
                      go_simp
                      try with_reducible rfl
                    simp only [List.setIfInBounds_toArray, List.set_cons_zero, List.set_cons_succ]
                    refine hold_take (i := 23) (d := 93) (v := ?vd23) (listed' := #[true, true, true, true, true, true, true, true, true, true, true, true, true, true, true, true, true, true, true, true, true, true, true, true, false, false, false]) rfl (by kernel_rfl) (by kernel_rfl) (by kernel_rfl) rfl (by rfl) (by kernel_rfl) K0 ?hd23 ?rd23
                    case hd23 =>
                      intro w' hSw
                      obtain ⟨k0, k1, k2, k3, k4⟩ := hSw
                      go_simp
                      try with_reducible rfl
                    simp only [List.setIfInBounds_toArray, List.set_cons_zero, List.set_cons_succ]
                    refine hold_take (i := 24) (d := 94) (v := ?vd24) (listed' := #[true, true, true, true, true, true, true, true, true, true, true, true, true, true, true, true, true, true, true, true, true, true, true, true, true, false, false]) rfl (by kernel_rfl) (by kernel_rfl) (by kernel_rfl) rfl (by rfl) (by kernel_rfl) K0 ?hd24 ?rd24
                    case hd24 =>
                      intro w' hSw
                      obtain ⟨k0, k1, k2, k3, k4⟩ := hSw
                      go_simp
                      try with_reducible rfl
                    simp only [List.setIfInBounds_toArray, List.set_cons_zero, List.set_cons_succ]
                    refine hold_take (i := 25) (d := 95) (v := ?vd25) (listed' := #[true, true, true, true, true, true, true, true, true, true, true, true, true, true, true, true, true, true, true, true, true, true, true, true, true, true, false]) rfl (by kernel_rfl) (by kernel_rfl) (by kernel_rfl) rfl (by rfl) (by kernel_rfl) K0 ?hd25 ?rd25
                    case hd25 =>
                      intro w' hSw
                      obtain ⟨k0, k1, k2, k3, k4⟩ := hSw
                      go_simp
                      try with_reducible rfl
                    simp only [List.setIfInBounds_toArray, List.set_cons_zero, List.set_cons_succ]
                    refine hold_take (i := 26) (d := 96) (v := ?vd26) (listed' := #[true, true, true, true, true, true, true, true, true, true, true, true, true, true, true, true, true, true, true, true, true, true, true, true, true, true, true]) rfl (by kernel_rfl) (by kernel_rfl) (by kernel_rfl) rfl (by rfl) (by kernel_rfl) K0 ?hd26 ?rd26
                    case hd26 =>
                      intro w' hSw
                      obtain ⟨k0, k1, k2, k3, k4⟩ := hSw
                      go_simp
                      try with_reducible rfl
                    simp only [List.setIfInBounds_toArray, List.set_cons_zero, List.set_cons_succ]
                    refine hold_done (by kernel_rfl) ?_ _
                    go_wp2_with fail
                    go_roundw
                    case rel => exact ⟨b + 1, by omega, by go_num, hDb.drew⟩
                    case measure => simp [intOf]; omega
                  | true =>
                    subst hKK
                    rcases leB_cases HS.out hlt hbt with ⟨l1, z1⟩ | ⟨l1, z1⟩
                    · rw [z1] at c2
                      clear l1 z1
                      go_wp2_with fail
                      refine region_plain (fuel := 27) (listed := #[false, false, false, false, false, false, false, false, false, false, false, false, false, false, false, false, false, false, false, false, false, false, false, false, false, false, false]) (fun w' => w'.cell? ⟨w1.heap.size, 0, none⟩ = some (.slice (some ⟨l.b, l.o, none⟩) m.n l.cap) ∧ w'.cell? ⟨w1.heap.size, 1, none⟩ = some (.slice (some ⟨g, o2, none⟩) m.n nc) ∧ w'.cell? ⟨g, o2 + b, none⟩ = some (.int .i64 (u : Int)) ∧ w'.cell? ⟨l.b, l.o + a, none⟩ = some (.slice (some ⟨l.G a, l.O a, none⟩) m.n (l.C a)) ∧ w'.cell? ⟨l.G a, l.O a + u, none⟩ = some (.int .i64 0)) (by kernel_rfl) (by kernel_rfl) (by kernel_rfl) ?_
                      refine hold_take (i := 0) (d := 70) (v := ?ve0) (listed' := #[true, false, false, false, false, false, false, false, false, false, false, false, false, false, false, false, false, false, false, false, false, false, false, false, false, false, false]) rfl (by kernel_rfl) (by kernel_rfl) (by kernel_rfl) rfl (by rfl) (by kernel_rfl) K0 ?he0 ?re0
                      case he0 =>
                        intro w' hSw
                        obtain ⟨k0, k1, k2, k3, k4⟩ := hSw
                        go_simp
                        try with_reducible rfl
                      simp only [List.setIfInBounds_toArray, List.set_cons_zero, List.set_cons_succ]
                      refine hold_take (i := 1) (d := 71) (v := ?ve1) (listed' := #[true, true, false, false, false, false, false, false, false, false, false, false, false, false, false, false, false, false, false, false, false, false, false, false, false, false, false]) rfl (by kernel_rfl) (by kernel_rfl) (by kernel_rfl) rfl (by rfl) (by kernel_rfl) K0 ?he1 ?re1
                      case he1 =>
                        intro w' hSw
                        obtain ⟨k0, k1, k2, k3, k4⟩ := hSw
                        go_simp
                        try with_reducible rfl
                      simp only [List.setIfInBounds_toArray, List.set_cons_zero, List.set_cons_succ]
                      refine hold_take (i := 2) (d := 72) (v := ?ve2) (listed' := #[true, true, true, false, false, false, false, false, false, false, false, false, false, false, false, false, false, false, false, false, false, false, false, false, false, false, false]) rfl (by kernel_rfl) (by kernel_rfl) (by kernel_rfl) rfl (by rfl) (by kernel_rfl) K0 ?he2 ?re2
                      case he2 =>
                        intro w' hSw
                        obtain ⟨k0, k1, k2, k3, k4⟩ := hSw
                        go_simp
                        try with_reducible rfl
                      simp only [List.setIfInBounds_toArray, List.set_cons_zero, List.set_cons_succ]
                      refine hold_take (i := 3) (d := 73) (v := ?ve3) (listed' := #[true, true, true, true, false, false, false, false, false, false, false, false, false, false, false, false, false, false, false, false, false, false, false, false, false, false, false]) rfl (by kernel_rfl) (by kernel_rfl) (by kernel_rfl) rfl (by rfl) (by kernel_rfl) K0 ?he3 ?re3
                      case he3 =>
                        intro w' hSw
                        obtain ⟨k0, k1, k2, k3, k4⟩ := hSw
                        go_simp
                        try with_reducible rfl
                      simp only [List.setIfInBounds_toArray, List.set_cons_zero, List.set_cons_succ]
                      refine hold_take (i := 4) (d := 74) (v := ?ve4) (listed' := #[true, true, true, true, true, false, false, false, false, false, false, false, false, false, false, false, false, false, false, false, false, false, false, false, false, false, false]) rfl (by kernel_rfl) (by kernel_rfl) (by kernel_rfl) rfl (by rfl) (by kernel_rfl) K0 ?he4 ?re4
                      case he4 =>
                        intro w' hSw
                        obtain ⟨k0, k1, k2, k3, k4⟩ := hSw
                        go_simp
                        try with_reducible rfl
                      simp only [List.setIfInBounds_toArray, List.set_cons_zero, List.set_cons_succ]
                      refine hold_take (i := 5) (d := 75) (v := ?ve5) (listed' := #[true, true, true, true, true, true, false, false, false, false, false, false, false, false, false, false, false, false, false, false, false, false, false, false, false, false, false]) rfl (by kernel_rfl) (by kernel_rfl) (by kernel_rfl) rfl (by rfl) (by kernel_rfl) K0 ?he5 ?re5
                      case he5 =>
                        intro w' hSw
                        obtain ⟨k0, k1, k2, k3, k4⟩ := hSw
                        go_simp
                        try with_reducible rfl
                      simp only [List.setIfInBounds_toArray, List.set_cons_zero, List.set_cons_succ]
                      refine hold_take (i := 6) (d := 76) (v := ?ve6) (listed' := #[true, true, true, true, true, true, true, false, false, false, false, false, false, false, false, false, false, false, false, false, false, false, false, false, false, false, false]) rfl (by kernel_rfl) (by kernel_rfl) (by kernel_rfl) rfl (by rfl) (by kernel_rfl) K0 ?he6 ?re6
                      case he6 =>
                        intro w' hSw
                        obtain ⟨k0, k1, k2, k3, k4⟩ := hSw
                        go_simp
                        try with_reducible rfl
                      simp only [List.setIfInBounds_toArray, List.set_cons_zero, List.set_cons_succ]
                      refine hold_take (i := 7) (d := 77) (v := ?ve7) (listed' := #[true, true, true, true, true, true, true, true, false, false, false, false, false, false, false, false, false, false, false, false, false, false, false, false, false, false, false]) rfl (by kernel_rfl) (by kernel_rfl) (by kernel_rfl) rfl (by rfl) (by kernel_rfl) K0 ?he7 ?re7
                      case he7 =>
                        intro w' hSw
                        obtain ⟨k0, k1, k2, k3, k4⟩ := hSw
                        go_simp
                        try with_reducible rfl
                      simp only [List.setIfInBounds_toArray, List.set_cons_zero, List.set_cons_succ]
                      refine hold_take (i := 8) (d := 78) (v := ?ve8) (listed' := #[true, true, true, true, true, true, true, true, true, false, false, false, false, false, false, false, false, false, false, false, false, false, false, false, false, false, false]) rfl (by kernel_rfl) (by kernel_rfl) (by kernel_rfl) rfl (by rfl) (by kernel_rfl) K0 ?he8 ?re8
                      case he8 =>
                        intro w' hSw
                        obtain ⟨k0, k1, k2, k3, k4⟩ := hSw
                        go_simp
                        try with_reducible rfl
                      simp only [List.setIfInBounds_toArray, List.set_cons_zero, List.set_cons_succ]
                      refine hold_take (i := 9) (d := 79) (v := ?ve9) (listed' := #[true, true, true, true, true, true, true, true, true, true, false, false, false, false, false, false, false, false, false, false, false, false, false, false, false, false, false]) rfl (by kernel_rfl) (by kernel_rfl) (by kernel_rfl) rfl (by rfl) (by kernel_rfl) K0 ?he9 ?re9
                      case he9 =>
                        intro w' hSw
                        obtain ⟨k0, k1, k2, k3, k4⟩ := hSw
                        go_simp
                        try with_reducible rfl
                      simp only [List.setIfInBounds_toArray, List.set_cons_zero, List.set_cons_succ]
                      refine hold_take (i := 10) (d := 80) (v := ?ve10) (listed' := #[true, true, true, true, true, true, true, true, true, true, true, false, false, false, false, false, false, false, false, false, false, false, false, false, false, false, false]) rfl (by kernel_rfl) (by kernel_rfl) (by kernel_rfl) rfl (by rfl) (by kernel_rfl) K0 ?he10 ?re10
                      case he10 =>
                        intro w' hSw
                        obtain ⟨k0, k1, k2, k3, k4⟩ := hSw
                        go_simp
                        try with_reducible rfl
                      simp only [List.setIfInBounds_toArray, List.set_cons_zero, List.set_cons_succ]
                      refine hold_take (i := 11) (d := 81) (v := ?ve11) (listed' := #[true, true, true, true, true, true, true, true, true, true, true, true, false, false, false, false, false, false, false, false, false, false, false, false, false, false, false]) rfl (by kernel_rfl) (by kernel_rfl) (by kernel_rfl) rfl (by rfl) (by kernel_rfl) K0 ?he11 ?re11
                      case he11 =>
                        intro w' hSw
                        obtain ⟨k0, k1, k2, k3, k4⟩ := hSw
                        go_simp
                        try with_reducible rfl
                      simp only [List.setIfInBounds_toArray, List.set_cons_zero, List.set_cons_succ]
                      refine hold_take (i := 12) (d := 82) (v := ?ve12) (listed' := #[true, true, true, true, true, true, true, true, true, true, true, true, true, false, false, false, false, false, false, false, false, false, false, false, false, false, false]) rfl (by kernel_rfl) (by kernel_rfl) (by kernel_rfl) rfl (by rfl) (by kernel_rfl) K0 ?he12 ?re12
                      case he12 =>
                        intro w' hSw
                        obtain ⟨k0, k1, k2, k3, k4⟩ := hSw
                        go_simp
                        try with_reducible rfl
                      simp only [List.setIfInBounds_toArray, List.set_cons_zero, List.set_cons_succ]
                      refine hold_take (i := 13) (d := 83) (v := ?ve13) (listed' := #[true, true, true, true, true, true, true, true, true, true, true, true, true, true, false, false, false, false, false, false, false, false, false, false, false, false, false]) rfl (by kernel_rfl) (by kernel_rfl) (by kernel_rfl) rfl (by rfl) (by kernel_rfl) K0 ?he13 ?re13
                      case he13 =>
                        intro w' hSw
                        obtain ⟨k0, k1, k2, k3, k4⟩ := hSw
                        go_simp
                        try with_reducible rfl
                      simp only [List.setIfInBounds_toArray, List.set_cons_zero, List.set_cons_succ]
                      refine hold_take (i := 14) (d := 84) (v := ?ve14) (listed' := #[true, true, true, true, true, true, true, true, true, true, true, true, true, true, true, false, false, false, false, false, false, false, false, false, false, false, false]) rfl (by kernel_rfl) (by kernel_rfl) (by kernel_rfl) rfl (by rfl) (by kernel_rfl) K0 ?he14 ?re14
                      case he14 =>
                        intro w' hSw
                        obtain ⟨k0, k1, k2, k3, k4⟩ := hSw
                        go_simp
                        try with_reducible rfl
                      simp only [List.setIfInBounds_toArray, List.set_cons_zero, List.set_cons_succ]
                      refine hold_take (i := 15) (d := 85) (v := ?ve15) (listed' := #[true, true, true, true, true, true, true, true, true, true, true, true, true, true, true, true, false, false, false, false, false, false, false, false, false, false, false]) rfl (by kernel_rfl) (by kernel_rfl) (by kernel_rfl) rfl (by rfl) (by kernel_rfl) K0 ?he15 ?re15
                      case he15 =>
                        intro w' hSw
                        obtain ⟨k0, k1, k2, k3, k4⟩ := hSw
                        go_simp
                        try with_reducible rfl
                      simp only [List.setIfInBounds_toArray, List.set_cons_zero, List.set_cons_succ]
                      refine hold_take (i := 16) (d := 86) (v := ?ve16) (listed' := #[true, true, true, true, true, true, true, true, true, true, true, true, true, true, true, true, true, false, false, false, false, false, false, false, false, false, false]) rfl (by kernel_rfl) (by kernel_rfl) (by kernel_rfl) rfl (by rfl) (by kernel_rfl) K0 ?he16 ?re16
                      case he16 =>
                        intro w' hSw
                        obtain ⟨k0, k1, k2, k3, k4⟩ := hSw
                        go_simp
                        try with_reducible rfl
                      simp only [List.setIfInBounds_toArray, List.set_cons_zero, List.set_cons_succ]
                      refine hold_take (i := 17) (d := 87) (v := ?ve17) (listed' := #[true, true, true, true, true, true, true, true, true, true, true, true, true, true, true, true, true, true, false, false, false, false, false, false, false, false, false]) rfl (by kernel_rfl) (by kernel_rfl) (by kernel_rfl) rfl (by rfl) (by kernel_rfl) K0 ?he17 ?re17
                      case he17 =>
                        intro w' hSw
                        obtain ⟨k0, k1, k2, k3, k4⟩ := hSw
                        go_simp
                        try with_reducible rfl
                      simp only [List.setIfInBounds_toArray, List.set_cons_zero, List.set_cons_succ]
                      refine hold_take (i := 18) (d := 88) (v := ?ve18) (listed' := #[true, true, true, true, true, true, true, true, true, true, true, true, true, true, true, true, true, true, true, false, false, false, false, false, false, false, false]) rfl (by kernel_rfl) (by kernel_rfl) (by kernel_rfl) rfl (by rfl) (by kernel_rfl) K0 ?he18 ?re18
                      case he18 =>
                        intro w' hSw
                        obtain ⟨k0, k1, k2, k3, k4⟩ := hSw
                        go_simp
                        try with_reducible rfl
                      simp only [List.setIfInBounds_toArray, List.set_cons_zero, List.set_cons_succ]
                      refine hold_take (i := 19) (d := 89) (v := ?ve19) (listed' := #[true, true, true, true, true, true, true, true, true, true, true, true, true, true, true, true, true, true, true, true, false, false, false, false, false, false, false]) rfl (by kernel_rfl) (by kernel_rfl) (by kernel_rfl) rfl (by rfl) (by kernel_rfl) K0 ?he19 ?re19
                      case he19 =>
                        intro w' hSw
                        obtain ⟨k0, k1, k2, k3, k4⟩ := hSw
                        go_simp
                        try with_reducible rfl
                      simp only [List.setIfInBounds_toArray, List.set_cons_zero, List.set_cons_succ]
                      refine hold_take (i := 20) (d := 90) (v := ?ve20) (listed' := #[true, true, true, true, true, true, true, true, true, true, true, true, true, true, true, true, true, true, true, true, true, false, false, false, false, false, false]) rfl (by kernel_rfl) (by kernel_rfl) (by kernel_rfl) rfl (by rfl) (by kernel_rfl) K0 ?he20 ?re20
                      case he20 =>
                        intro w' hSw
                        obtain ⟨k0, k1, k2, k3, k4⟩ := hSw
                        go_simp
                        try with_reducible rfl
                      simp only [List.setIfInBounds_toArray, List.set_cons_zero, List.set_cons_succ]
                      refine hold_take (i := 21) (d := 91) (v := ?ve21) (listed' := #[true, true, true, true, true, true, true, true, true, true, true, true, true, true, true, true, true, true, true, true, true, true, false, false, false, false, false]) rfl (by kernel_rfl) (by kernel_rfl) (by kernel_rfl) rfl (by rfl) (by kernel_rfl) K0 ?he21 ?re21
                      case he21 =>
                        intro w' hSw
                        obtain ⟨k0, k1, k2, k3, k4⟩ := hSw
                        go_simp
                        try with_reducible rfl
                      simp only [List.setIfInBounds_toArray, List.set_cons_zero, List.set_cons_succ]
                      refine hold_take (i := 22) (d := 92) (v := ?ve22) (listed' := #[true, true, true, true, true, true, true, true, true, true, true, true, true, true, true, true, true, true, true, true, true, true, true, false, false, false, false]) rfl (by kernel_rfl) (by kernel_rfl) (by kernel_rfl) rfl (by rfl) (by kernel_rfl) K0 ?he22 ?re22
                      case he22 =>
                        intro w' hSw
                        obtain ⟨k0, k1, k2, k3, k4⟩ := hSw
                        go_simp
                        try with_reducible rfl
                      simp only [List.setIfInBounds_toArray, List.set_cons_zero, List.set_cons_succ]
                      refine hold_take (i := 23) (d := 93) (v := ?ve23) (listed' := #[true, true, true, true, true, true, true, true, true, true, true, true, true, true, true, true, true, true, true, true, true, true, true, true, false, false, false]) rfl (by kernel_rfl) (by kernel_rfl) (by kernel_rfl) rfl (by rfl) (by kernel_rfl) K0 ?he23 ?re23
                      case he23 =>
                        intro w' hSw
                        obtain ⟨k0, k1, k2, k3, k4⟩ := hSw
                        go_simp
                        try with_reducible rfl
                      simp only [List.setIfInBounds_toArray, List.set_cons_zero, List.set_cons_succ]
                      refine hold_take (i := 24) (d := 94) (v := ?ve24) (listed' := #[true, true, true, true, true, true, true, true, true, true, true, true, true, true, true, true, true, true, true, true, true, true, true, true, true, false, false]) rfl (by kernel_rfl) (by kernel_rfl) (by kernel_rfl) rfl (by rfl) (by kernel_rfl) K0 ?he24 ?re24
                      case he24 =>
                        intro w' hSw
                        obtain ⟨k0, k1, k2, k3, k4⟩ := hSw
                        go_simp
                        try with_reducible rfl
                      simp only [List.setIfInBounds_toArray, List.set_cons_zero, List.set_cons_succ]
                      refine hold_take (i := 25) (d := 95) (v := ?ve25) (listed' := #[true, true, true, true, true, true, true, true, true, true, true, true, true, true, true, true, true, true, true, true, true, true, true, true, true, true, false]) rfl (by kernel_rfl) (by kernel_rfl) (by kernel_rfl) rfl (by rfl) (by kernel_rfl) K0 ?he25 ?re25
                      case he25 =>
                        intro w' hSw
                        obtain ⟨k0, k1, k2, k3, k4⟩ := hSw
                        go_simp
                        try with_reducible rfl
                      simp only [List.setIfInBounds_toArray, List.set_cons_zero, List.set_cons_succ]
                      refine hold_take (i := 26) (d := 96) (v := ?ve26) (listed' := #[true, true, true, true, true, true, true, true, true, true, true, true, true, true, true, true, true, true, true, true, true, true, true, true, true, true, true]) rfl (by kernel_rfl) (by kernel_rfl) (by kernel_rfl) rfl (by rfl) (by kernel_rfl) K0 ?he26 ?re26
                      case he26 =>
                        intro w' hSw
                        obtain ⟨k0, k1, k2, k3, k4⟩ := hSw
                        go_simp
                        try with_reducible rfl
                      simp only [List.setIfInBounds_toArray, List.set_cons_zero, List.set_cons_succ]
                      refine hold_done (by kernel_rfl) ?_ _
                      go_wp2_with fail
                      go_roundw
                      case rel => exact ⟨b + 1, by omega, by go_num, hDb.drew⟩
                      case measure => simp [intOf]; omega
                    · rw [z1] at c2
                      clear l1 z1
                      go_wp2_with fail
                      refine region_plain (fuel := 27) (listed := #[false, false, false, false, false, false, false, false, false, false, false, false, false, false, false, false, false, false, false, false, false, false, false, false, false, false, false]) (fun w' => w'.cell? ⟨w1.heap.size, 0, none⟩ = some (.slice (some ⟨l.b, l.o, none⟩) m.n l.cap) ∧ w'.cell? ⟨w1.heap.size, 1, none⟩ = some (.slice (some ⟨g, o2, none⟩) m.n nc) ∧ w'.cell? ⟨g, o2 + b, none⟩ = some (.int .i64 (u : Int)) ∧ w'.cell? ⟨l.b, l.o + a, none⟩ = some (.slice (some ⟨l.G a, l.O a, none⟩) m.n (l.C a)) ∧ w'.cell? ⟨l.G a, l.O a + u, none⟩ = some (.int .i64 0)) (by kernel_rfl) (by kernel_rfl) (by kernel_rfl) ?_
                      refine hold_take (i := 0) (d := 70) (v := ?vf0) (listed' := #[true, false, false, false, false, false, false, false, false, false, false, false, false, false, false, false, false, false, false, false, false, false, false, false, false, false, false]) rfl (by kernel_rfl) (by kernel_rfl) (by kernel_rfl) rfl (by rfl) (by kernel_rfl) K0 ?hf0 ?rf0
                      case hf0 =>
                        intro w' hSw
                        obtain ⟨k0, k1, k2, k3, k4⟩ := hSw
                        go_simp
                        try with_reducible rfl
                      simp only [List.setIfInBounds_toArray, List.set_cons_zero, List.set_cons_succ]
                      refine hold_take (i := 1) (d := 71) (v := ?vf1) (listed' := #[true, true, false, false, false, false, false, false, false, false, false, false, false, false, false, false, false, false, false, false, false, false, false, false, false, false, false]) rfl (by kernel_rfl) (by kernel_rfl) (by kernel_rfl) rfl (by rfl) (by kernel_rfl) K0 ?hf1 ?rf1
                      case hf1 =>
                        intro w' hSw
                        obtain ⟨k0, k1, k2, k3, k4⟩ := hSw
                        go_simp
                        try with_reducible rfl
                      simp only [List.setIfInBounds_toArray, List.set_cons_zero, List.set_cons_succ]
                      refine hold_take (i := 2) (d := 72) (v := ?vf2) (listed' := #[true, true, true, false, false, false, false, false, false, false, false, false, false, false, false, false, false, false, false, false, false, false, false, false, false, false, false]) rfl (by kernel_rfl) (by kernel_rfl) (by kernel_rfl) rfl (by rfl) (by kernel_rfl) K0 ?hf2 ?rf2
                      case hf2 =>
                        intro w' hSw
                        obtain ⟨k0, k1, k2, k3, k4⟩ := hSw
                        go_simp
                        try with_reducible rfl
                      simp only [List.setIfInBounds_toArray, List.set_cons_zero, List.set_cons_succ]
                      refine hold_take (i := 3) (d := 73) (v := ?vf3) (listed' := #[true, true, true, true, false, false, false, false, false, false, false, false, false, false, false, false, false, false, false, false, false, false, false, false, false, false, false]) rfl (by kernel_rfl) (by kernel_rfl) (by kernel_rfl) rfl (by rfl) (by kernel_rfl) K0 ?hf3 ?rf3
                      case hf3 =>
                        intro w' hSw
                        obtain ⟨k0, k1, k2, k3, k4⟩ := hSw
                        go_simp
                        try with_reducible rfl
                      simp only [List.setIfInBounds_toArray, List.set_cons_zero, List.set_cons_succ]
                      refine hold_take (i := 4) (d := 74) (v := ?vf4) (listed' := #[true, true, true, true, true, false, false, false, false, false, false, false, false, false, false, false, false, false, false, false, false, false, false, false, false, false, false]) rfl (by kernel_rfl) (by kernel_rfl) (by kernel_rfl) rfl (by rfl) (by kernel_rfl) K0 ?hf4 ?rf4
                      case hf4 =>
                        intro w' hSw
                        obtain ⟨k0, k1, k2, k3, k4⟩ := hSw
                        go_simp
                        try with_reducible rfl
                      simp only [List.setIfInBounds_toArray, List.set_cons_zero, List.set_cons_succ]
                      refine hold_take (i := 5) (d := 75) (v := ?vf5) (listed' := #[true, true, true, true, true, true, false, false, false, false, false, false, false, false, false, false, false, false, false, false, false, false, false, false, false, false, false]) rfl (by kernel_rfl) (by kernel_rfl) (by kernel_rfl) rfl (by rfl) (by kernel_rfl) K0 ?hf5 ?rf5
                      case hf5 =>
                        intro w' hSw
                        obtain ⟨k0, k1, k2, k3, k4⟩ := hSw
                        go_simp
                        try with_reducible rfl
                      simp only [List.setIfInBounds_toArray, List.set_cons_zero, List.set_cons_succ]
                      refine hold_take (i := 6) (d := 76) (v := ?vf6) (listed' := #[true, true, true, true, true, true, true, false, false, false, false, false, false, false, false, false, false, false, false, false, false, false, false, false, false, false, false]) rfl (by kernel_rfl) (by kernel_rfl) (by kernel_rfl) rfl (by rfl) (by kernel_rfl) K0 ?hf6 ?rf6
                      case hf6 =>
                        intro w' hSw
                        obtain ⟨k0, k1, k2, k3, k4⟩ := hSw
                        go_simp
                        try with_reducible rfl
                      simp only [List.setIfInBounds_toArray, List.set_cons_zero, List.set_cons_succ]
                      refine hold_take (i := 7) (d := 77) (v := ?vf7) (listed' := #[true, true, true, true, true, true, true, true, false, false, false, false, false, false, false, false, false, false, false, false, false, false, false, false, false, false, false]) rfl (by kernel_rfl) (by kernel_rfl) (by kernel_rfl) rfl (by rfl) (by kernel_rfl) K0 ?hf7 ?rf7
                      case hf7 =>
                        intro w' hSw
                        obtain ⟨k0, k1, k2, k3, k4⟩ := hSw
                        go_simp
                        try with_reducible rfl
                      simp only [List.setIfInBounds_toArray, List.set_cons_zero, List.set_cons_succ]
                      refine hold_take (i := 8) (d := 78) (v := ?vf8) (listed' := #[true, true, true, true, true, true, true, true, true, false, false, false, false, false, false, false, false, false, false, false, false, false, false, false, false, false, false]) rfl (by kernel_rfl) (by kernel_rfl) (by kernel_rfl) rfl (by rfl) (by kernel_rfl) K0 ?hf8 ?rf8
                      case hf8 =>
                        intro w' hSw
                        obtain ⟨k0, k1, k2, k3, k4⟩ := hSw
                        go_simp
                        try with_reducible rfl
                      simp only [List.setIfInBounds_toArray, List.set_cons_zero, List.set_cons_succ]
                      refine hold_take (i := 9) (d := 79) (v := ?vf9) (listed' := #[true, true, true, true, true, true, true, true, true, true, false, false, false, false, false, false, false, false, false, false, false, false, false, false, false, false, false]) rfl (by kernel_rfl) (by kernel_rfl) (by kernel_rfl) rfl (by rfl) (by kernel_rfl) K0 ?hf9 ?rf9
                      case hf9 =>
                        intro w' hSw
                        obtain ⟨k0, k1, k2, k3, k4⟩ := hSw
                        go_simp
                        try with_reducible rfl
                      simp only [List.setIfInBounds_toArray, List.set_cons_zero, List.set_cons_succ]
                      refine hold_take (i := 10) (d := 80) (v := ?vf10) (listed' := #[true, true, true, true, true, true, true, true, true, true, true, false, false, false, false, false, false, false, false, false, false, false, false, false, false, false, false]) rfl (by kernel_rfl) (by kernel_rfl) (by kernel_rfl) rfl (by rfl) (by kernel_rfl) K0 ?hf10 ?rf10
                      case hf10 =>
                        intro w' hSw
                        obtain ⟨k0, k1, k2, k3, k4⟩ := hSw
                        go_simp
                        try with_reducible rfl
                      simp only [List.setIfInBounds_toArray, List.set_cons_zero, List.set_cons_succ]
                      refine hold_take (i := 11) (d := 81) (v := ?vf11) (listed' := #[true, true, true, true, true, true, true, true, true, true, true, true, false, false, false, false, false, false, false, false, false, false, false, false, false, false, false]) rfl (by kernel_rfl) (by kernel_rfl) (by kernel_rfl) rfl (by rfl) (by kernel_rfl) K0 ?hf11 ?rf11
                      case hf11 =>
                        intro w' hSw
                        obtain ⟨k0, k1, k2, k3, k4⟩ := hSw
                        go_simp
                        try with_reducible rfl
                      simp only [List.setIfInBounds_toArray, List.set_cons_zero, List.set_cons_succ]
                      refine hold_take (i := 12) (d := 82) (v := ?vf12) (listed' := #[true, true, true, true, true, true, true, true, true, true, true, true, true, false, false, false, false, false, false, false, false, false, false, false, false, false, false]) rfl (by kernel_rfl) (by kernel_rfl) (by kernel_rfl) rfl (by rfl) (by kernel_rfl) K0 ?hf12 ?rf12
                      case hf12 =>
                        intro w' hSw
                        obtain ⟨k0, k1, k2, k3, k4⟩ := hSw
                        go_simp
                        try with_reducible rfl
                      simp only [List.setIfInBounds_toArray, List.set_cons_zero, List.set_cons_succ]
                      refine hold_take (i := 13) (d := 83) (v := ?vf13) (listed' := #[true, true, true, true, true, true, true, true, true, true, true, true, true, true, false, false, false, false, false, false, false, false, false, false, false, false, false]) rfl (by kernel_rfl) (by kernel_rfl) (by kernel_rfl) rfl (by rfl) (by kernel_rfl) K0 ?hf13 ?rf13
                      case hf13 =>
                        intro w' hSw
                        obtain ⟨k0, k1, k2, k3, k4⟩ := hSw
                        go_simp
                        try with_reducible rfl
                      simp only [List.setIfInBounds_toArray, List.set_cons_zero, List.set_cons_succ]
                      refine hold_take (i := 14) (d := 84) (v := ?vf14) (listed' := #[true, true, true, true, true, true, true, true, true, true, true, true, true, true, true, false, false, false, false, false, false, false, false, false, false, false, false]) rfl (by kernel_rfl) (by kernel_rfl) (by kernel_rfl) rfl (by rfl) (by kernel_rfl) K0 ?hf14 ?rf14
                      case hf14 =>
                        intro w' hSw
                        obtain ⟨k0, k1, k2, k3, k4⟩ := hSw
                        go_simp
                        try with_reducible rfl
                      simp only [List.setIfInBounds_toArray, List.set_cons_zero, List.set_cons_succ]
                      refine hold_take (i := 15) (d := 85) (v := ?vf15) (listed' := #[true, true, true, true, true, true, true, true, true, true, true, true, true, true, true, true, false, false, false, false, false, false, false, false, false, false, false]) rfl (by kernel_rfl) (by kernel_rfl) (by kernel_rfl) rfl (by rfl) (by kernel_rfl) K0 ?hf15 ?rf15
                      case hf15 =>
                        intro w' hSw
                        obtain ⟨k0, k1, k2, k3, k4⟩ := hSw
                        go_simp
                        try with_reducible rfl
                      simp only [List.setIfInBounds_toArray, List.set_cons_zero, List.set_cons_succ]
                      refine hold_take (i := 16) (d := 86) (v := ?vf16) (listed' := #[true, true, true, true, true, true, true, true, true, true, true, true, true, true, true, true, true, false, false, false, false, false, false, false, false, false, false]) rfl (by kernel_rfl) (by kernel_rfl) (by kernel_rfl) rfl (by rfl) (by kernel_rfl) K0 ?hf16 ?rf16
                      case hf16 =>
                        intro w' hSw
                        obtain ⟨k0, k1, k2, k3, k4⟩ := hSw
                        go_simp
                        try with_reducible rfl
                      simp only [List.setIfInBounds_toArray, List.set_cons_zero, List.set_cons_succ]
                      refine hold_take (i := 17) (d := 87) (v := ?vf17) (listed' := #[true, true, true, true, true, true, true, true, true, true, true, true, true, true, true, true, true, true, false, false, false, false, false, false, false, false, false]) rfl (by kernel_rfl) (by kernel_rfl) (by kernel_rfl) rfl (by rfl) (by kernel_rfl) K0 ?hf17 ?rf17
                      case hf17 =>
                        intro w' hSw
                        obtain ⟨k0, k1, k2, k3, k4⟩ := hSw
                        go_simp
                        try with_reducible rfl
                      simp only [List.setIfInBounds_toArray, List.set_cons_zero, List.set_cons_succ]
                      refine hold_take (i := 18) (d := 88) (v := ?vf18) (listed' := #[true, true, true, true, true, true, true, true, true, true, true, true, true, true, true, true, true, true, true, false, false, false, false, false, false, false, false]) rfl (by kernel_rfl) (by kernel_rfl) (by kernel_rfl) rfl (by rfl) (by kernel_rfl) K0 ?hf18 ?rf18
                      case hf18 =>
                        intro w' hSw
                        obtain ⟨k0, k1, k2, k3, k4⟩ := hSw
                        go_simp
                        try with_reducible rfl
                      simp only [List.setIfInBounds_toArray, List.set_cons_zero, List.set_cons_succ]
                      refine hold_take (i := 19) (d := 89) (v := ?vf19) (listed' := #[true, true, true, true, true, true, true, true, true, true, true, true, true, true, true, true, true, true, true, true, false, false, false, false, false, false, false]) rfl (by kernel_rfl) (by kernel_rfl) (by kernel_rfl) rfl (by rfl) (by kernel_rfl) K0 ?hf19 ?rf19
                      case hf19 =>
                        intro w' hSw
                        obtain ⟨k0, k1, k2, k3, k4⟩ := hSw
                        go_simp
                        try with_reducible rfl
                      simp only [List.setIfInBounds_toArray, List.set_cons_zero, List.set_cons_succ]
                      refine hold_take (i := 20) (d := 90) (v := ?vf20) (listed' := #[true, true, true, true, true, true, true, true, true, true, true, true, true, true, true, true, true, true, true, true, true, false, false, false, false, false, false]) rfl (by kernel_rfl) (by kernel_rfl) (by kernel_rfl) rfl (by rfl) (by kernel_rfl) K0 ?hf20 ?rf20
                      case hf20 =>
                        intro w' hSw
                        obtain ⟨k0, k1, k2, k3, k4⟩ := hSw
                        go_simp
                        try with_reducible rfl
                      simp only [List.setIfInBounds_toArray, List.set_cons_zero, List.set_cons_succ]
                      refine hold_take (i := 21) (d := 91) (v := ?vf21) (listed' := #[true, true, true, true, true, true, true, true, true, true, true, true, true, true, true, true, true, true, true, true, true, true, false, false, false, false, false]) rfl (by kernel_rfl) (by kernel_rfl) (by kernel_rfl) rfl (by rfl) (by kernel_rfl) K0 ?hf21 ?rf21
                      case hf21 =>
                        intro w' hSw
                        obtain ⟨k0, k1, k2, k3, k4⟩ := hSw
                        go_simp
                        try with_reducible rfl
                      simp only [List.setIfInBounds_toArray, List.set_cons_zero, List.set_cons_succ]
                      refine hold_take (i := 22) (d := 92) (v := ?vf22) (listed' := #[true, true, true, true, true, true, true, true, true, true, true, true, true, true, true, true, true, true, true, true, true, true, true, false, false, false, false]) rfl (by kernel_rfl) (by kernel_rfl) (by kernel_rfl) rfl (by rfl) (by kernel_rfl) K0 ?hf22 ?rf22
                      case hf22 =>
                        intro w' hSw
                        obtain ⟨k0, k1, k2, k3, k4⟩ := hSw
                        go_simp
                        try with_reducible rfl
                      simp only [List.setIfInBounds_toArray, List.set_cons_zero, List.set_cons_succ]
                      refine hold_take (i := 23) (d := 93) (v := ?vf23) (listed' := #[true, true, true, true, true, true, true, true, true, true, true, true, true, true, true, true, true, true, true, true, true, true, true, true, false, false, false]) rfl (by kernel_rfl) (by kernel_rfl) (by kernel_rfl) rfl (by rfl) (by kernel_rfl) K0 ?hf23 ?rf23
                      case hf23 =>
                        intro w' hSw
                        obtain ⟨k0, k1, k2, k3, k4⟩ := hSw
                        go_simp
                        try with_reducible rfl
                      simp only [List.setIfInBounds_toArray, List.set_cons_zero, List.set_cons_succ]
                      refine hold_take (i := 24) (d := 94) (v := ?vf24) (listed' := #[true, true, true, true, true, true, true, true, true, true, true, true, true, true, true, true, true, true, true, true, true, true, true, true, true, false, false]) rfl (by kernel_rfl) (by kernel_rfl) (by kernel_rfl) rfl (by rfl) (by kernel_rfl) K0 ?hf24 ?rf24
                      case hf24 =>
                        intro w' hSw
                        obtain ⟨k0, k1, k2, k3, k4⟩ := hSw
                        go_simp
                        try with_reducible rfl
                      simp only [List.setIfInBounds_toArray, List.set_cons_zero, List.set_cons_succ]
                      refine hold_take (i := 25) (d := 95) (v := ?vf25) (listed' := #[true, true, true, true, true, true, true, true, true, true, true, true, true, true, true, true, true, true, true, true, true, true, true, true, true, true, false]) rfl (by kernel_rfl) (by kernel_rfl) (by kernel_rfl) rfl (by rfl) (by kernel_rfl) K0 ?hf25 ?rf25
                      case hf25 =>
                        intro w' hSw
                        obtain ⟨k0, k1, k2, k3, k4⟩ := hSw
                        go_simp
                        try with_reducible rfl
                      simp only [List.setIfInBounds_toArray, List.set_cons_zero, List.set_cons_succ]
                      refine hold_take (i := 26) (d := 96) (v := ?vf26) (listed' := #[true, true, true, true, true, true, true, true, true, true, true, true, true, true, true, true, true, true, true, true, true, true, true, true, true, true, true]) rfl (by kernel_rfl) (by kernel_rfl) (by kernel_rfl) rfl (by rfl) (by kernel_rfl) K0 ?hf26 ?rf26
                      case hf26 =>
                        intro w' hSw
                        obtain ⟨k0, k1, k2, k3, k4⟩ := hSw
                        go_simp
                        try with_reducible rfl
                      simp only [List.setIfInBounds_toArray, List.set_cons_zero, List.set_cons_succ]
                      refine hold_done (by kernel_rfl) ?_ _
                      go_wp2_with fail
                      go_roundw
                      case rel => exact ⟨b + 1, by omega, by go_num, hDb.drew⟩
                      case measure => simp [intOf]; omega
            · have hbt' : ¬ (b : Int) < m.n := by omega
              clear Hr
              go_wp2_with fail
              go_roundw
              case rel => exact ⟨a + 1, by omega, by go_num, hDb⟩
              case measure => simp [intOf]; omega
        · have hlt' : ¬ (a : Int) < m.n := by omega
          have HY : Hid (yesV m m.n zz = ((y o3 : Nat) : Int)) := HO.out.yesV HL.out
          have hyn := HO.out.lt o3 HO.out.ho
          have hyes := HSt.out.yes
          obtain ⟨v, hv⟩ : ∃ v, y o3 = v := ⟨_, rfl⟩
          rw [hv] at HY hyn hyes
          have t1 := bit_yes hyes
          have hv64 : (v : Int) ≤ 64 := by omega
          clear hyes hv
          go_wp2_with fail
          go_at_call 19
          refine (YesOf_any (nc := nc) Hr.log).mono ?_
          rintro e w5 ⟨rfl, b5⟩
          rw [HY.out]
          have H5 := Hr.step b5
          clear Hr q0 q1 b5
          go_wp2_with fail
          go_ret
          exact ⟨rfl, H5.old⟩
end Go.Proofs.Ytnbglbhfclohjaa
