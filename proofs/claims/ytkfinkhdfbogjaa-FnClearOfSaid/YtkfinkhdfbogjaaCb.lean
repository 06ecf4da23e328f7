/- The walks of the reference's BehindOf, ClearOf and UpToOf. -/
import Derived.Test.YtkfinkhdfbogjaaAe
import Derived.Test.YtkfinkhdfbogjaaMathS
namespace Go.Proofs.Ytkfinkhdfbogjaa
open Go.RowKit Go.Deep

noncomputable def behV (m : Mx) (k : Nat) (z : Nat → Int) (x v t : Int) : Int := projV m k z v (projV m k z x t)
noncomputable def clearV (m : Mx) (k : Nat) (z : Nat → Int) (x : Int) : List Int := if (logicB m k z && goodB m.n 1 (lone1 x)) = true then clearL m (fun c => (z c).toNat) (leastI m).toNat x.toNat else []
noncomputable def upV (m : Mx) (k : Nat) (z : Nat → Int) (x : Int) : List Int := if (logicB m k z && goodB m.n 1 (lone1 x)) = true then upL m (fun c => (z c).toNat) x.toNat else []
theorem projV_good {m : Mx} {z : Nat → Int} {a b : Nat} (h : logicB m m.n z = true) (ha : a < m.n) (hb : b < m.n) : projV m m.n z (a : Int) (b : Int) = ((projN m (fun c => (z c).toNat) a b : Nat) : Int) := by
  unfold projV
  rw [h, good_mk (by omega) (by omega) (by omega) (by omega)]
  rfl
theorem projV_bad1 {m : Mx} {k : Nat} {z : Nat → Int} {x v : Int} (h : (logicB m k z && goodB m.n 2 (two x v)) = false) : projV m k z x v = -1 := by unfold projV; rw [if_neg (by rw [h]; decide)]
theorem good_one_parts {m : Mx} {k : Nat} {z : Nat → Int} {x : Int} (h : (logicB m k z && goodB m.n 1 (lone1 x)) = true) : ∃ (a o : Nat), x = (a : Int) ∧ a < m.n ∧ k = m.n ∧ logicB m k z = true ∧ leastI m = (o : Int) ∧ Ortho m z (fun c => (z c).toNat) o := by
  rw [Bool.and_eq_true] at h
  obtain ⟨x0, x1⟩ := good_lone h.2
  obtain ⟨a, rfl⟩ := Int.eq_ofNat_of_zero_le x0
  obtain ⟨y, o, hO⟩ := (logicB_is h.1).ortho
  exact ⟨a, o, rfl, by omega, (logicB_is h.1).pair.len, h.1, hO.own.eq, hO.own⟩
theorem notV_at {m : Mx} {z : Nat → Int} {a o : Nat} (hg : (logicB m m.n z && goodB m.n 1 (lone1 (a : Int))) = true) (hO : Ortho m z (fun c => (z c).toNat) o) (ha : a < m.n) : notV m m.n z (a : Int) = (((z a).toNat : Nat) : Int) := by
  unfold notV
  rw [if_pos hg, Int.toNat_natCast]
  exact hO.zy a ha
theorem upV_len (m : Mx) (k : Nat) (z : Nat → Int) (x : Int) : (upV m k z x).length ≤ 1048576 := by
  unfold upV
  by_cases h : (logicB m k z && goodB m.n 1 (lone1 x)) = true
  · rw [if_pos h]
    obtain ⟨a, o, _, _, _, _, _, hO⟩ := good_one_parts h
    have h1 := hO.lat.order.top
    have h2 := listTo_len (upB m (fun a => (z a).toNat) x.toNat) m.n
    unfold upL
    omega
  · rw [if_neg h]; simp
theorem clearV_len (m : Mx) (k : Nat) (z : Nat → Int) (x : Int) : (clearV m k z x).length ≤ 1048576 := by
  unfold clearV
  by_cases h : (logicB m k z && goodB m.n 1 (lone1 x)) = true
  · rw [if_pos h]
    obtain ⟨a, o, _, _, _, _, _, hO⟩ := good_one_parts h
    have h1 := hO.lat.order.top
    have h2 := listTo_len (clearB m (fun a => (z a).toNat) (leastI m).toNat x.toNat) m.n
    unfold clearL
    omega
  · rw [if_neg h]; simp

set_option maxRecDepth 100000 in
set_option maxHeartbeats 4000000 in
theorem spec_BehindOf {w : World} {B : Nat} {ua : Option Addr} {l : Lay} {m : Mx} {na : Option Addr} {g o k nc : Nat} {z : Nat → Int} {x v t : Int} (h : LogAt w B ua l m na g o k z) :
    Calls Try.prog 26 #[.agg #[.slice ua m.n l.cap, .slice na k nc], .int .i64 x, .int .i64 v, .int .i64 t] w fun e w' => e = .returned (.int .i64 (behV m k z x v t)) ∧ Below w.heap.size w w' := by
  have hX := BoxN.start w #[.slice ua m.n l.cap, .slice na k nc] 26
  have hL := Lib.hid (h.alloc (.cells #[.slice ua m.n l.cap, .slice na k nc] 26))
  clear h
  go_enter Try.func26, Try.ntmps26
  go_wp2_with fail
  generalize w.alloc (.cells #[.slice ua m.n l.cap, .slice na k nc] 26) = W at hX hL ⊢
  have hX0 := hX.step (Below.refl _ W).drew
  have h0 := Lib.hid (hL.out.step (Below.refl _ W).drew)
  have hS0 : (fun w' => w'.cell? ⟨w.heap.size, 0, none⟩ = some (.slice ua m.n l.cap) ∧ w'.cell? ⟨w.heap.size, 1, none⟩ = some (.slice na k nc)) W.drew := ⟨hX0.cell 0 rfl, hX0.cell 1 rfl⟩
  clear hX hL
  refine region_plain (fuel := 8) (listed := #[false, false, false, false, false, false, false, false]) (fun w' => w'.cell? ⟨w.heap.size, 0, none⟩ = some (.slice ua m.n l.cap) ∧ w'.cell? ⟨w.heap.size, 1, none⟩ = some (.slice na k nc)) (by kernel_rfl) (by kernel_rfl) (by kernel_rfl) ?_
  refine hold_take (i := 0) (d := 9) (v := ?vp0) (listed' := #[true, false, false, false, false, false, false, false]) rfl (by kernel_rfl) (by kernel_rfl) (by kernel_rfl) rfl (by rfl) (by kernel_rfl) hS0 ?hp0 ?rp0
  case hp0 =>
    intro w' hSw
    obtain ⟨k0, k1⟩ := hSw
    go_simp
    try with_reducible rfl
  simp only [List.setIfInBounds_toArray, List.set_cons_zero, List.set_cons_succ]
  refine hold_take (i := 1) (d := 10) (v := ?vp1) (listed' := #[true, true, false, false, false, false, false, false]) rfl (by kernel_rfl) (by kernel_rfl) (by kernel_rfl) rfl (by rfl) (by kernel_rfl) hS0 ?hp1 ?rp1
  case hp1 =>
    intro w' hSw
    obtain ⟨k0, k1⟩ := hSw
    go_simp
    try with_reducible rfl
  simp only [List.setIfInBounds_toArray, List.set_cons_zero, List.set_cons_succ]
  refine hold_take (i := 2) (d := 11) (v := ?vp2) (listed' := #[true, true, true, false, false, false, false, false]) rfl (by kernel_rfl) (by kernel_rfl) (by kernel_rfl) rfl (by rfl) (by kernel_rfl) hS0 ?hp2 ?rp2
  case hp2 =>
    intro w' hSw
    obtain ⟨k0, k1⟩ := hSw
    go_simp
    try with_reducible rfl
  simp only [List.setIfInBounds_toArray, List.set_cons_zero, List.set_cons_succ]
  refine hold_take (i := 3) (d := 12) (v := ?vp3) (listed' := #[true, true, true, true, false, false, false, false]) rfl (by kernel_rfl) (by kernel_rfl) (by kernel_rfl) rfl (by rfl) (by kernel_rfl) hS0 ?hp3 ?rp3
  case hp3 =>
    intro w' hSw
    obtain ⟨k0, k1⟩ := hSw
    go_simp
    try with_reducible rfl
  simp only [List.setIfInBounds_toArray, List.set_cons_zero, List.set_cons_succ]
  refine hold_take (i := 4) (d := 13) (v := ?vp4) (listed' := #[true, true, true, true, true, false, false, false]) rfl (by kernel_rfl) (by kernel_rfl) (by kernel_rfl) rfl (by rfl) (by kernel_rfl) hS0 ?hp4 ?rp4
  case hp4 =>
    intro w' hSw
    obtain ⟨k0, k1⟩ := hSw
    go_simp
    try with_reducible rfl
  simp only [List.setIfInBounds_toArray, List.set_cons_zero, List.set_cons_succ]
  refine hold_call (i := 5) (d := 14) (listed' := #[true, true, true, true, true, true, false, false]) rfl (by kernel_rfl) rfl (by rfl) (by kernel_rfl) ?hep5 (spec_ProjectOf (nc := nc) (x := x) (v := t) h0.out) ?hcp5
  case hep5 => go_simp
  rintro e x1 ⟨rfl, bb1⟩
  have hX1 := hX0.step bb1
  have h1 := Lib.hid (h0.out.step bb1)
  have hS1 : (fun w' => w'.cell? ⟨w.heap.size, 0, none⟩ = some (.slice ua m.n l.cap) ∧ w'.cell? ⟨w.heap.size, 1, none⟩ = some (.slice na k nc)) x1 := ⟨hX1.cell 0 rfl, hX1.cell 1 rfl⟩
  clear hS0 h0 hX0 bb1
  refine ⟨_, rfl, hS1, ?_⟩
  simp only [List.setIfInBounds_toArray, List.set_cons_zero, List.set_cons_succ]
  refine hold_call (i := 6) (d := 15) (listed' := #[true, true, true, true, true, true, true, false]) rfl (by kernel_rfl) rfl (by rfl) (by kernel_rfl) ?hep6 (spec_ProjectOf (nc := nc) (x := v) (v := projV m k z x t) h1.out) ?hcp6
  case hep6 => go_simp
  rintro e x2 ⟨rfl, bb2⟩
  have hX2 := hX1.step bb2
  have h2 := Lib.hid (h1.out.step bb2)
  have hS2 : (fun w' => w'.cell? ⟨w.heap.size, 0, none⟩ = some (.slice ua m.n l.cap) ∧ w'.cell? ⟨w.heap.size, 1, none⟩ = some (.slice na k nc)) x2 := ⟨hX2.cell 0 rfl, hX2.cell 1 rfl⟩
  clear hS1 h1 hX1 bb2
  refine ⟨_, rfl, hS2, ?_⟩
  simp only [List.setIfInBounds_toArray, List.set_cons_zero, List.set_cons_succ]
  refine hold_take (i := 7) (d := 8) (v := ?vp7) (listed' := #[true, true, true, true, true, true, true, true]) rfl (by kernel_rfl) (by kernel_rfl) (by kernel_rfl) rfl (by rfl) (by kernel_rfl) hS2 ?hp7 ?rp7
  case hp7 =>
    intro w' hSw
    obtain ⟨k0, k1⟩ := hSw
    go_simp
    try with_reducible rfl
  simp only [List.setIfInBounds_toArray, List.set_cons_zero, List.set_cons_succ]
  refine hold_done (by kernel_rfl) ?_ _
  go_wp2_with fail
  go_ret
  exact ⟨rfl, hX2.below⟩

set_option maxRecDepth 100000 in
set_option maxHeartbeats 4000000 in
theorem spec_ClearOf {w : World} {B : Nat} {ua : Option Addr} {l : Lay} {m : Mx} {na : Option Addr} {g o k nc : Nat} {z : Nat → Int} {x : Int} (h : LogAt w B ua l m na g o k z) :
    Calls Try.prog 31 #[.agg #[.slice ua m.n l.cap, .slice na k nc], .int .i64 x] w (ListRes w (clearV m k z x)) := by
  have hX := BoxN.start w #[.slice ua m.n l.cap, .slice na k nc] 26
  have h1 := Lib.hid (h.alloc (.cells #[.slice ua m.n l.cap, .slice na k nc] 26))
  have q0 := hX.cell 0 rfl
  have q1 := hX.cell 1 rfl
  have hkk := h.hk
  have hsz : (w.alloc (.cells #[.slice ua m.n l.cap, .slice na k nc] 26)).heap.size = w.heap.size + 1 := by simp
  clear h
  cases hg : (logicB m k z && goodB m.n 1 (lone1 x)) with
  | false =>
    have HN : Hid (notV m k z x = -1) := by show _ = _; unfold notV; rw [if_neg (by rw [hg]; decide)]
    have HF : Hid (clearV m k z x = []) := by show _ = _; unfold clearV; rw [hg]; rfl
    clear hg
    go_enter Try.func31, Try.ntmps31
    go_wp2_with fail
    generalize w.alloc (.cells #[.slice ua m.n l.cap, .slice na k nc] 26) = W at h1 hX q0 q1 hsz ⊢
    have hown0 : (W.alloc (.cells #[] 3)).ownsRow (w.heap.size + 1) 3 1 (.slice (some ⟨w.heap.size + 1, 0, none⟩) 0 0) 0 [] := by
      rw [← hsz]
      exact World.ownsRow_lit (base := W.heap.size) (e := 3) (size := 1) W #[] 0 (Nat.le_refl _) (Nat.zero_le _) rfl
    have hb1 := (Below.refl W.heap.size W).alloc (Nat.le_refl _) (.cells #[] 3)
    have hX1 := hX.step hb1
    have h2 := Lib.hid (h1.out.step hb1)
    clear h1 hX
    have q0 := hX1.cell 0 rfl
    have q1 := hX1.cell 1 rfl
    generalize hWe : W.alloc (.cells #[] 3) = W1 at *
    go_loopw [5, 6] (fun v i wr => v = .slice (some ⟨w.heap.size + 1, 0, none⟩) 0 0 ∧ i = .int .i64 0 ∧ wr = W1) (fun _ _ _ => 0)
    case atStart => exact ⟨rfl, rfl, rfl⟩
    case round =>
      obtain ⟨rfl, rfl, rfl⟩ := hrel
      by_cases hk0 : 0 < k
      · have hk0' : (0 : Int) < k := by omega
        go_wp2_with fail
        go_at_call 60
        refine (spec_NotOf h2.out).mono ?_
        rintro e w2 ⟨rfl, b2⟩
        rw [HN.out]
        have hX2 := hX1.step b2
        have ho := ownsRow_below hown0 b2 (Nat.le_refl _)
        clear q0 q1
        go_wp2_with fail
        go_ret
        exact ⟨_, rfl, by rw [HF.out]; exact ownsRow_base ho (Nat.le_succ _), hX2.below⟩
      · have hk0' : ¬ (0 : Int) < k := by omega
        go_wp2_with fail
        go_ret
        exact ⟨_, rfl, by rw [HF.out]; exact ownsRow_base hown0 (Nat.le_succ _), hX1.below⟩
  | true =>
    obtain ⟨a, n0, rfl, ha, rfl, hl, hle, hO⟩ := good_one_parts hg
    have hn := hO.lat.order.top
    have hpos := hO.lat.order.pos
    have HNot := Lib.hid (notV_at hg hO ha)
    obtain ⟨yy, hyy⟩ : ∃ yy : Nat → Nat, yy = fun a => (z a).toNat := ⟨_, rfl⟩
    rw [← hyy] at hO
    have HV : Hid (clearV m m.n z (a : Int) = listTo (clearB m yy n0 a) m.n) := by show _ = _; unfold clearV; rw [if_pos hg, hyy, hle, Int.toNat_natCast, Int.toNat_natCast]; rfl
    have HO := Lib.hid hO
    have HYY := Lib.hid hyy
    have HL := Lib.hid hl
    have HLE := Lib.hid hle
    clear hl hO hyy hg hle
    obtain ⟨i0, hi, hz0, hz1, hz2⟩ := info_parts infoInt
    have HI := Lib.hid hi
    have HZ0 := Lib.hid hz0
    have HZ1 := Lib.hid hz1
    have HZ2 := Lib.hid hz2
    clear hi hz0 hz1 hz2
    go_enter Try.func31, Try.ntmps31
    go_wp2_with fail
    generalize w.alloc (.cells #[.slice ua m.n l.cap, .slice na m.n nc] 26) = W at h1 hX q0 q1 hsz ⊢
    have hown0 : (W.alloc (.cells #[] 3)).ownsRow (w.heap.size + 1) 3 1 (.slice (some ⟨w.heap.size + 1, 0, none⟩) 0 0) 0 [] := by
      rw [← hsz]
      exact World.ownsRow_lit (base := W.heap.size) (e := 3) (size := 1) W #[] 0 (Nat.le_refl _) (Nat.zero_le _) rfl
    have hb1 := (Below.refl W.heap.size W).alloc (Nat.le_refl _) (.cells #[] 3)
    clear q0 q1
    go_loopw [5, 6] (fun v i wr => ∃ j : Nat, j ≤ m.n ∧ i = .int .i64 j ∧ wr.ownsRow (w.heap.size + 1) 3 1 v (listTo (clearB m yy n0 a) j).length ((listTo (clearB m yy n0 a) j).map (Value.int .i64)) ∧ Below W.heap.size W wr) (fun _ i _ => m.n - (intOf i).toNat)
    case atStart => exact ⟨0, Nat.zero_le _, rfl, hown0, hb1⟩
    case round =>
      clear hown0 hb1
      obtain ⟨j, hj, rfl, hown, hD⟩ := hrel
      have hXr := hX.step hD
      have hr := Lib.hid (h1.out.step hD)
      have q0 := hXr.cell 0 rfl
      have q1 := hXr.cell 1 rfl
      by_cases hlt : j < m.n
      · have hlt' : (j : Int) < m.n := by omega
        have hs := hD.size
        have hlen := listTo_len (clearB m yy n0 a) j
        go_wp2_with fail
        go_at_call 60
        refine (spec_NotOf hr.out).mono ?_
        rintro e w2 ⟨rfl, b2⟩
        rw [HNot.out]
        have hD2 := hD.trans (b2.mono hD.size)
        have hown2 := ownsRow_below hown b2 (Nat.le_refl _)
        have hX2 := hX.step hD2
        have h2 := Lib.hid (h1.out.step hD2)
        have hs2 := hD2.size
        have hnn : (0 : Int) ≤ (((z a).toNat : Nat) : Int) := Int.natCast_nonneg _
        clear q0 q1 hr hXr hD hown
        generalize (((z a).toNat : Nat) : Int) = za at hnn ⊢
        have HPr : Hid (projV m m.n z (a : Int) (j : Int) = ((projN m yy a j : Nat) : Int)) := by show _ = _; rw [projV_good HL.out ha hlt, HYY.out]
        have HNo : Hid (noV m m.n z = (n0 : Int)) := by show _ = _; unfold noV; rw [if_pos HL.out, HLE.out]
        have r0 := hX2.cell 0 rfl
        have r1 := hX2.cell 1 rfl
        go_wp2_with fail
        have hY0 := hX2.step (Below.refl _ w2).drew
        have g0 := Lib.hid (h2.out.step (Below.refl _ w2).drew)
        have hE0 : Below W.heap.size W w2.drew := hD2.drew
        have hown_0 := ownsRow_below hown2 (Below.refl _ w2).drew (Nat.le_refl _)
        have hS0 : (fun w' => w'.cell? ⟨w.heap.size, 0, none⟩ = some (.slice ua m.n l.cap) ∧ w'.cell? ⟨w.heap.size, 1, none⟩ = some (.slice na m.n nc)) w2.drew := ⟨hY0.cell 0 rfl, hY0.cell 1 rfl⟩
        clear hX2 h2 hD2 hown2 r0 r1
        cases hk : clearB m yy n0 a j with
        | true =>
          have n1 : (((projN m yy a j : Nat) : Int) == (n0 : Int)) = true := by have e := of_decide_eq_true hk; rw [e]; simp
          have HN := Lib.hid (listTo_yes hk)
          clear hk
          refine region_plain (fuel := 7) (listed := #[false, false, false, false, false, false, false]) (fun w' => w'.cell? ⟨w.heap.size, 0, none⟩ = some (.slice ua m.n l.cap) ∧ w'.cell? ⟨w.heap.size, 1, none⟩ = some (.slice na m.n nc)) (by kernel_rfl) (by kernel_rfl) (by kernel_rfl) ?_
          refine hold_take (i := 0) (d := 21) (v := ?vqt0) (listed' := #[true, false, false, false, false, false, false]) rfl (by kernel_rfl) (by kernel_rfl) (by kernel_rfl) rfl (by rfl) (by kernel_rfl) hS0 ?hqt0 ?rqt0
          case hqt0 =>
            intro w' hSw
            obtain ⟨k0, k1⟩ := hSw
            go_simp
            try with_reducible rfl
          simp only [List.setIfInBounds_toArray, List.set_cons_zero, List.set_cons_succ]
          refine hold_take (i := 1) (d := 22) (v := ?vqt1) (listed' := #[true, true, false, false, false, false, false]) rfl (by kernel_rfl) (by kernel_rfl) (by kernel_rfl) rfl (by rfl) (by kernel_rfl) hS0 ?hqt1 ?rqt1
          case hqt1 =>
            intro w' hSw
            obtain ⟨k0, k1⟩ := hSw
            go_simp
            try with_reducible rfl
          simp only [List.setIfInBounds_toArray, List.set_cons_zero, List.set_cons_succ]
          refine hold_take (i := 2) (d := 23) (v := ?vqt2) (listed' := #[true, true, true, false, false, false, false]) rfl (by kernel_rfl) (by kernel_rfl) (by kernel_rfl) rfl (by rfl) (by kernel_rfl) hS0 ?hqt2 ?rqt2
          case hqt2 =>
            intro w' hSw
            obtain ⟨k0, k1⟩ := hSw
            go_simp
            try with_reducible rfl
          simp only [List.setIfInBounds_toArray, List.set_cons_zero, List.set_cons_succ]
          refine hold_take (i := 4) (d := 25) (v := ?vqt4) (listed' := #[true, true, true, false, true, false, false]) rfl (by kernel_rfl) (by kernel_rfl) (by kernel_rfl) rfl (by rfl) (by kernel_rfl) hS0 ?hqt4 ?rqt4
          case hqt4 =>
            intro w' hSw
            obtain ⟨k0, k1⟩ := hSw
            go_simp
            try with_reducible rfl
          simp only [List.setIfInBounds_toArray, List.set_cons_zero, List.set_cons_succ]
          refine hold_call (i := 3) (d := 24) (listed' := #[true, true, true, true, true, false, false]) rfl (by kernel_rfl) rfl (by rfl) (by kernel_rfl) ?heqt3 (spec_ProjectOf (nc := nc) (x := (a : Int)) (v := (j : Int)) g0.out) ?hcqt3
          case heqt3 => go_simp
          rintro e x1 ⟨rfl, bb1⟩
          rw [HPr.out]
          have hY1 := hY0.step bb1
          have g1 := Lib.hid (g0.out.step bb1)
          have hE1 := hE0.trans (bb1.mono hE0.size)
          have hown_1 := ownsRow_below hown_0 bb1 (Nat.le_refl _)
          have hS1 : (fun w' => w'.cell? ⟨w.heap.size, 0, none⟩ = some (.slice ua m.n l.cap) ∧ w'.cell? ⟨w.heap.size, 1, none⟩ = some (.slice na m.n nc)) x1 := ⟨hY1.cell 0 rfl, hY1.cell 1 rfl⟩
          clear hS0 g0 hY0 hE0 hown_0 bb1
          refine ⟨_, rfl, hS1, ?_⟩
          simp only [List.setIfInBounds_toArray, List.set_cons_zero, List.set_cons_succ]
          refine hold_call (i := 5) (d := 26) (listed' := #[true, true, true, true, true, true, false]) rfl (by kernel_rfl) rfl (by rfl) (by kernel_rfl) ?heqt5 (spec_NoOf (nc := nc) g1.out) ?hcqt5
          case heqt5 => go_simp
          rintro e x2 ⟨rfl, bb2⟩
          rw [HNo.out]
          have hY2 := hY1.step bb2
          have g2 := Lib.hid (g1.out.step bb2)
          have hE2 := hE1.trans (bb2.mono hE1.size)
          have hown_2 := ownsRow_below hown_1 bb2 (Nat.le_refl _)
          have hS2 : (fun w' => w'.cell? ⟨w.heap.size, 0, none⟩ = some (.slice ua m.n l.cap) ∧ w'.cell? ⟨w.heap.size, 1, none⟩ = some (.slice na m.n nc)) x2 := ⟨hY2.cell 0 rfl, hY2.cell 1 rfl⟩
          clear hS1 g1 hY1 hE1 hown_1 bb2
          refine ⟨_, rfl, hS2, ?_⟩
          simp only [List.setIfInBounds_toArray, List.set_cons_zero, List.set_cons_succ]
          refine hold_take (i := 6) (d := 27) (v := ?vqt6) (listed' := #[true, true, true, true, true, true, true]) rfl (by kernel_rfl) (by kernel_rfl) (by kernel_rfl) rfl (by rfl) (by kernel_rfl) hS2 ?hqt6 ?rqt6
          case hqt6 =>
            intro w' hSw
            obtain ⟨k0, k1⟩ := hSw
            go_simp
            try with_reducible rfl
          simp only [List.setIfInBounds_toArray, List.set_cons_zero, List.set_cons_succ]
          refine hold_done (by kernel_rfl) ?_ _
          clear hS2 g2 hY2
          have hs3 := hE2.size
          go_wp2_with (at_builtin; refine wpList_append_own _ rfl _ _ 24 rfl (w.heap.size + 1) 3 i0 (.int .i64 0) 1 8 Try.underlying24 HI.out HZ0.out HZ1.out HZ2.out rfl (by decide) _ _ _ rfl (hown_2.alloc _) ⟨x2.heap.size, 0, none⟩ 1 1 [.int .i64 j] rfl rfl (cell_one_new _ _ _) ?c2 ?c3 ?c4 ?c5 ?_)
          case c2 => simp [Value.oneCell']
          case c3 => unfold maxLen; omega
          case c4 => omega
          case c5 => first | omega | (simp; omega)
          intro v' w4 hown4 hgrow _
          have HO4 : Hid (w4.ownsRow (w.heap.size + 1) 3 1 v' (listTo (clearB m yy n0 a) (j + 1)).length ((listTo (clearB m yy n0 a) (j + 1)).map (Value.int .i64))) := by
            show World.ownsRow _ _ _ _ _ _ _
            rw [HN.out, List.length_append, List.map_append]
            exact hown4
          have hW4 := (hE2.alloc hs3 (.cells #[.int .i64 j] 3)).grown hgrow (by simp; omega) (fun c hc => by have := ownsRow_block hown_2 c hc; omega)
          clear hown4 hgrow hown_2 hE2
          go_wp2_with fail
          go_roundw
          case rel => exact ⟨j + 1, by omega, by go_num, HO4.out, hW4⟩
          case measure => simp [intOf]; omega
        | false =>
          have n1 : (((projN m yy a j : Nat) : Int) == (n0 : Int)) = false := by have e := of_decide_eq_false hk; rw [beq_eq_false_iff_ne]; omega
          have HN := Lib.hid (listTo_no hk)
          clear hk
          refine region_plain (fuel := 7) (listed := #[false, false, false, false, false, false, false]) (fun w' => w'.cell? ⟨w.heap.size, 0, none⟩ = some (.slice ua m.n l.cap) ∧ w'.cell? ⟨w.heap.size, 1, none⟩ = some (.slice na m.n nc)) (by kernel_rfl) (by kernel_rfl) (by kernel_rfl) ?_
          refine hold_take (i := 0) (d := 21) (v := ?vqf0) (listed' := #[true, false, false, false, false, false, false]) rfl (by kernel_rfl) (by kernel_rfl) (by kernel_rfl) rfl (by rfl) (by kernel_rfl) hS0 ?hqf0 ?rqf0
          case hqf0 =>
            intro w' hSw
            obtain ⟨k0, k1⟩ := hSw
            go_simp
            try with_reducible rfl
          simp only [List.setIfInBounds_toArray, List.set_cons_zero, List.set_cons_succ]
          refine hold_take (i := 1) (d := 22) (v := ?vqf1) (listed' := #[true, true, false, false, false, false, false]) rfl (by kernel_rfl) (by kernel_rfl) (by kernel_rfl) rfl (by rfl) (by kernel_rfl) hS0 ?hqf1 ?rqf1
          case hqf1 =>
            intro w' hSw
            obtain ⟨k0, k1⟩ := hSw
            go_simp
            try with_reducible rfl
          simp only [List.setIfInBounds_toArray, List.set_cons_zero, List.set_cons_succ]
          refine hold_take (i := 2) (d := 23) (v := ?vqf2) (listed' := #[true, true, true, false, false, false, false]) rfl (by kernel_rfl) (by kernel_rfl) (by kernel_rfl) rfl (by rfl) (by kernel_rfl) hS0 ?hqf2 ?rqf2
          case hqf2 =>
            intro w' hSw
            obtain ⟨k0, k1⟩ := hSw
            go_simp
            try with_reducible rfl
          simp only [List.setIfInBounds_toArray, List.set_cons_zero, List.set_cons_succ]
          refine hold_take (i := 4) (d := 25) (v := ?vqf4) (listed' := #[true, true, true, false, true, false, false]) rfl (by kernel_rfl) (by kernel_rfl) (by kernel_rfl) rfl (by rfl) (by kernel_rfl) hS0 ?hqf4 ?rqf4
          case hqf4 =>
            intro w' hSw
            obtain ⟨k0, k1⟩ := hSw
            go_simp
            try with_reducible rfl
          simp only [List.setIfInBounds_toArray, List.set_cons_zero, List.set_cons_succ]
          refine hold_call (i := 3) (d := 24) (listed' := #[true, true, true, true, true, false, false]) rfl (by kernel_rfl) rfl (by rfl) (by kernel_rfl) ?heqf3 (spec_ProjectOf (nc := nc) (x := (a : Int)) (v := (j : Int)) g0.out) ?hcqf3
          case heqf3 => go_simp
          rintro e x1 ⟨rfl, bb1⟩
          rw [HPr.out]
          have hY1 := hY0.step bb1
          have g1 := Lib.hid (g0.out.step bb1)
          have hE1 := hE0.trans (bb1.mono hE0.size)
          have hown_1 := ownsRow_below hown_0 bb1 (Nat.le_refl _)
          have hS1 : (fun w' => w'.cell? ⟨w.heap.size, 0, none⟩ = some (.slice ua m.n l.cap) ∧ w'.cell? ⟨w.heap.size, 1, none⟩ = some (.slice na m.n nc)) x1 := ⟨hY1.cell 0 rfl, hY1.cell 1 rfl⟩
          clear hS0 g0 hY0 hE0 hown_0 bb1
          refine ⟨_, rfl, hS1, ?_⟩
          simp only [List.setIfInBounds_toArray, List.set_cons_zero, List.set_cons_succ]
          refine hold_call (i := 5) (d := 26) (listed' := #[true, true, true, true, true, true, false]) rfl (by kernel_rfl) rfl (by rfl) (by kernel_rfl) ?heqf5 (spec_NoOf (nc := nc) g1.out) ?hcqf5
          case heqf5 => go_simp
          rintro e x2 ⟨rfl, bb2⟩
          rw [HNo.out]
          have hY2 := hY1.step bb2
          have g2 := Lib.hid (g1.out.step bb2)
          have hE2 := hE1.trans (bb2.mono hE1.size)
          have hown_2 := ownsRow_below hown_1 bb2 (Nat.le_refl _)
          have hS2 : (fun w' => w'.cell? ⟨w.heap.size, 0, none⟩ = some (.slice ua m.n l.cap) ∧ w'.cell? ⟨w.heap.size, 1, none⟩ = some (.slice na m.n nc)) x2 := ⟨hY2.cell 0 rfl, hY2.cell 1 rfl⟩
          clear hS1 g1 hY1 hE1 hown_1 bb2
          refine ⟨_, rfl, hS2, ?_⟩
          simp only [List.setIfInBounds_toArray, List.set_cons_zero, List.set_cons_succ]
          refine hold_take (i := 6) (d := 27) (v := ?vqf6) (listed' := #[true, true, true, true, true, true, true]) rfl (by kernel_rfl) (by kernel_rfl) (by kernel_rfl) rfl (by rfl) (by kernel_rfl) hS2 ?hqf6 ?rqf6
          case hqf6 =>
            intro w' hSw
            obtain ⟨k0, k1⟩ := hSw
            go_simp
            try with_reducible rfl
          simp only [List.setIfInBounds_toArray, List.set_cons_zero, List.set_cons_succ]
          refine hold_done (by kernel_rfl) ?_ _
          clear hS2 g2 hY2
          have hs3 := hE2.size
          go_wp2_with fail
          go_roundw
          case rel => exact ⟨j + 1, by omega, by go_num, by rw [HN.out]; exact hown_2, hE2⟩
          case measure => simp [intOf]; omega
      · have hlt' : ¬ (j : Int) < m.n := by omega
        have HK : Hid (j = m.n) := by show _ = _; omega
        go_wp2_with fail
        go_ret
        exact ⟨_, rfl, by rw [HV.out, ← HK.out]; exact ownsRow_base hown (Nat.le_succ _), hXr.below⟩

end Go.Proofs.Ytkfinkhdfbogjaa
