/- The draw of ClearOf and the law on it, walked at whatever code. -/
import Derived.Test.YtkfinkhdfbogjaaBg
import Derived.Test.YtkfinkhdfbogjaaDn
import Derived.Test.YtkfinkhdfbogjaaCc
import Derived.Test.YtkfinkhdfbogjaaNv
namespace Go.Proofs.Ytkfinkhdfbogjaa
open Go.RowKit Go.Deep

set_option maxRecDepth 100000 in
set_option maxHeartbeats 2000000 in
theorem draw_ClearOf {A : Option Addr} {b o n cap : Nat} {z : Nat → Nat} {w : World} (h : CodeAt w A b o n cap z) :
    Calls Try.prog 28 #[.slice A n cap] w (DrewN w) := by
  have hT := TwoAt.new w (.slice none 0 0) (.slice none 0 0) 26
  have hbA := (Below.refl w.heap.size w).alloc (Nat.le_refl _) (.cells #[.slice none 0 0, .slice none 0 0] 26)
  have hc := h.alloc (.cells #[.slice none 0 0, .slice none 0 0] 26)
  go_enter Try.func28, Try.ntmps28
  go_wp2_with fail
  go_at_call 43
  refine (l20Open_any hc).mono ?_
  rintro e w1 ⟨A1, b1, o1, n1, c1, z1, rfl, hn1, hR, hz, hb, hs⟩
  have hsA : (w.alloc (.cells #[.slice none 0 0, .slice none 0 0] 26)).heap.size = w.heap.size + 1 := by simp
  have hT1 := hT.below hb (by omega)
  rw [hsA] at hR hz hs
  have hs' : w.heap.size + 1 < w1.heap.size := by omega
  clear h hc hT hs
  go_wp2_with fail
  go_at_call 42
  refine (l20Two_any (by omega) (by omega) hn1 hR hz (Nat.le_refl _) hs').mono ?_
  rintro e w2 ⟨ua, l, m, na, g, o2, k, nc, zz, x, y, rfl, hlog, hf, hg, hn, hL, hk, hC⟩
  have hT2 := hC.two hT1 (by show ¬ (w.heap.size = w.heap.size + 1); omega)
  have hF : Fresh (w.alloc (.cells #[.slice none 0 0, .slice none 0 0] 26)) ua l m na g o2 k zz w2 := ⟨hlog, ⟨fun r hr => by have := hf.top r hr; omega, fun r hr c hc => by have := hf.row r hr c hc; omega⟩, fun h0 => by have := hg h0; omega, hn, hL, hk, hb.trans (hC.below (by omega) fun j hj => by have hj' : j = w.heap.size + 1 := hj; omega)⟩
  have hs2 : w.heap.size < w2.heap.size := by have := hC.size; omega
  have hall := Lib.hid ((hF.put hbA (by omega) (.slice ua m.n l.cap) (.slice na k nc)).alloc (.cells #[.slice ua m.n l.cap, .slice na k nc] 26))
  have hfin := (Chg.alloc (fun _ => False) _ (.cells #[.slice ua m.n l.cap, .slice na k nc] 26)).two ((hT2.set0 (.slice ua m.n l.cap)).set1 (.slice na k nc)) (fun h => h)
  have t0 := hfin.c0
  have t1 := hfin.c1
  have e0 := hT2.c0
  have e1 := hT2.c1
  have e2 := hT2.f0
  have e3 := hT2.f1
  clear hF hlog hf hC hT1 hT2 hfin hb hR hz
  go_wp2_with fail
  exact bodyPost_ret (v := .tuple #[.agg #[.slice ua m.n l.cap, .slice na k nc], .int .i64 x]) (by simp [results, Try.results28, go_sem, t0, t1]) rfl ⟨ua, l, m, na, g, o2, k, nc, zz, x, rfl, hall.out⟩

set_option maxRecDepth 100000 in
set_option maxHeartbeats 4000000 in
theorem law_ClearOf {A : Option Addr} {b o n cap : Nat} {z : Nat → Nat} {w : World} (h : CodeAt w A b o n cap z) :
    Calls Try.prog 6 #[.slice A n cap] w fun e w' => e = .returned (.bool true) ∧ Below w.heap.size w w' := by
  have hn := h.hn
  have hc := h.hc
  by_cases hbig : 1048576 < n
  · have hbig' : (1048576 : Int) < n := by omega
    clear h
    go_enter Try.func6, Try.ntmps6
    go_wp2_with fail
    go_ret
    exact ⟨rfl, Below.refl _ _⟩
  · have hbig' : ¬ (1048576 : Int) < n := by omega
    go_enter Try.func6, Try.ntmps6
    go_wp2_with fail
    go_at_call 28
    refine (draw_ClearOf h).mono ?_
    rintro e w1 ⟨ua, l, m, na, g, o2, k, nc, zz, x, rfl, hF⟩
    have H1 := Held.start hF nc
    clear h hF
    have q0 := H1.box.c0
    have q1 := H1.box.c1
    go_wp2_with fail
    go_at_call 29
    refine (ClearOf_any H1.log).mono ?_
    rintro e w2 ⟨v, rfl, hv, b2⟩
    have H2 := H1.step b2
    have hlen := clearV_len m k zz x
    have HR := Lib.hid (map_range (clearV m k zz x))
    clear H1 q0 q1 b2
    have q0 := H2.box.c0
    have q1 := H2.box.c1
    go_wp2_with fail
    go_at_call 31
    refine (spec_ClearOf H2.log).mono ?_
    rintro e w3 ⟨v', rfl, hv', b3⟩
    have H3 := H2.step b3
    have hv3 := ownsRow_below hv b3 (Nat.le_refl _)
    rw [HR.out] at hv3 hv'
    clear H2 q0 q1 b3 hv
    go_wp2_with fail
    go_at_call 30
    refine (sameList (by omega) hv3 hv').mono ?_
    rintro e w4 ⟨rfl, d4⟩
    have b4 : Below w3.heap.size w3 w4 := d4.below _
    have H4 := H3.step b4
    have hv4 := ownsRow_below hv3 b4 (Nat.le_refl _)
    clear H3 b4 d4 hv3 hv'
    have q0 := H4.box.c0
    have q1 := H4.box.c1
    by_cases h0 : (clearV m k zz x).length = 0
    · obtain ⟨cv, rfl⟩ : ∃ (a : Option Addr × Nat), v = .slice a.1 0 a.2 := by
        rcases owns_ways hv4 with ⟨rfl, _⟩ | ⟨g, cap, rfl, _⟩
        · exact ⟨(none, 0), rfl⟩
        · rw [h0]; exact ⟨(_, cap), rfl⟩
      obtain ⟨av, nv⟩ := cv
      clear h0 hv4 HR hlen
      go_wp2_with fail
      go_at_call 14
      refine (alive_any _).mono ?_
      rintro e w5 ⟨rfl, b5⟩
      have H5 := H4.step b5
      go_wp2_with fail
      go_ret
      exact ⟨rfl, H5.old⟩
    · have hg : (logicB m k zz && goodB m.n 1 (lone1 x)) = true := by
        cases hg : (logicB m k zz && goodB m.n 1 (lone1 x)) with
        | true => rfl
        | false =>
          exfalso
          apply h0
          unfold clearV
          rw [hg]; rfl
      obtain ⟨a, o3, rfl, ha, rfl, hl, hle, hO⟩ := good_one_parts hg
      obtain ⟨y, hy⟩ : ∃ y : Nat → Nat, y = fun c => (zz c).toNat := ⟨_, rfl⟩
      have h12 := hO.lat.order.top
      have hHV : clearV m m.n zz (a : Int) = listTo (clearB m y o3 a) m.n := by unfold clearV; rw [if_pos hg, hy, hle, Int.toNat_natCast, Int.toNat_natCast]; rfl
      rw [← hy] at hO
      clear hg hle hy
      rw [hHV] at hv4 h0 hlen HR
      have hK : keepsV m m.n zz = keepsB m y := hO.keepsV hl
      have HS := Lib.hid hO.lat.order.sq
      obtain ⟨e0, _, _⟩ := H4.log.mat.sq HS.out ha ha
      obtain rfl := e0
      have ha' : (a : Int) < m.n := by omega
      have hmem : ∀ j, j < m.n → decide ((j : Int) ∈ listTo (clearB m y o3 a) m.n) = (clearB m y o3 a) j := fun j hj => by
        rw [Bool.eq_iff_iff, decide_eq_true_iff, listTo_mem]
        exact ⟨fun e => e.2, fun e => ⟨hj, e⟩⟩
      have hup := listTo_up (clearB m y o3 a) m.n
      have hno : decide ((o3 : Int) ∈ listTo (clearB m y o3 a) m.n) = true := (hmem o3 hO.ho).trans (hO.clear_no ha)
      have HAp : Hid (keepsB m y = true → ∀ j, j < m.n → apartB m m.n zz (j : Int) (a : Int) = clearB m y o3 a j) := fun hk j hj => by rw [hO.apartB hl hj ha, hO.clear_keeps hk ha hj]
      have HNo : Hid (noV m m.n zz = (o3 : Int)) := hO.noV hl
      obtain ⟨xs, hxs⟩ : ∃ xs, listTo (clearB m y o3 a) m.n = xs := ⟨_, rfl⟩
      have hlen12 : xs.length ≤ 12 := by
        have := listTo_len (clearB m y o3 a) m.n
        rw [hxs] at this
        omega
      rw [hxs] at hv4 h0 hmem hup hno
      have HMem := Lib.hid hmem
      have HUp := Lib.hid hup
      obtain ⟨av, nv, rfl⟩ : ∃ (a : Option Addr) (c : Nat), v = .slice a xs.length c := by
        rcases owns_ways hv4 with ⟨_, e0⟩ | ⟨gl, cl, rfl, hcell⟩
        · exact absurd e0 h0
        · exact ⟨_, _, rfl⟩
      have hl0 : ¬ ((xs.length : Nat) : Int) = 0 := by omega
      have hl1 : (((xs.length : Nat) : Int) == 0) = false := by rw [beq_eq_false_iff_ne]; omega
      clear hmem hup hHV h0 HR hlen hxs
      have HNI := Lib.hid hno
      clear hno hl hO
      clear q0 q1
      go_wp2_with fail
      go_loopw [6] (fun i wr => ∃ j : Nat, j ≤ m.n ∧ i = .int .i64 j ∧ Below w4.heap.size w4 wr) (fun i _ => m.n - (intOf i).toNat)
      case atStart => exact ⟨0, Nat.zero_le _, rfl, Below.refl _ _⟩
      case round =>
        obtain ⟨j, hj, rfl, hD⟩ := hrel
        have Hr := H4.step hD
        have q0 := Hr.box.c0
        have q1 := Hr.box.c1
        by_cases hlt : j < m.n
        · have hlt' : (j : Int) < m.n := by omega
          cases hk : keepsB m y with
          | false =>
            have HK : Hid (keepsV m m.n zz = false) := hK.trans hk
            clear hk
            go_wp2_with fail
            have hb0 : Below wr.heap.size wr wr.drew := (Below.refl _ wr).drew
            have Hd0 := Lib.hid (Hr.step hb0)
            have hE0 : Below w4.heap.size w4 wr.drew := hD.drew
            have hv_0 := ownsRow_below hv4 hE0 (Nat.le_refl _)
            have K0 := (show _ ∧ _ from ⟨Hd0.out.box.c0, Hd0.out.box.c1⟩)
            clear Hr q0 q1 hb0
            refine region_plain (fuel := 12) (listed := #[false, false, false, false, false, false, false, false, false, false, false, false]) (fun w' => w'.cell? ⟨w1.heap.size, 0, none⟩ = some (.slice (some ⟨l.b, l.o, none⟩) m.n l.cap) ∧ w'.cell? ⟨w1.heap.size, 1, none⟩ = some (.slice na m.n nc)) (by kernel_rfl) (by kernel_rfl) (by kernel_rfl) ?_
            refine hold_take (i := 0) (d := 35) (v := ?vf0) (listed' := #[true, false, false, false, false, false, false, false, false, false, false, false]) rfl (by kernel_rfl) (by kernel_rfl) (by kernel_rfl) rfl (by rfl) (by kernel_rfl) K0 ?hf0 ?rf0
            case hf0 =>
              intro w' hSw
              obtain ⟨k0, k1⟩ := hSw
              go_simp
              try with_reducible rfl
            simp only [List.setIfInBounds_toArray, List.set_cons_zero, List.set_cons_succ]
            refine hold_call (i := 1) (d := 36) (listed' := #[true, true, false, false, false, false, false, false, false, false, false, false]) rfl (by kernel_rfl) rfl (by rfl) (by kernel_rfl) ?hef1 (spec_KeepsOk (nc := nc) Hd0.out.log) ?hcf1
            case hef1 => go_simp
            rintro e x1 ⟨rfl, bb1⟩
            rw [HK.out]
            have Hd1 := Lib.hid (Hd0.out.step bb1)
            have hE1 := hE0.trans (bb1.mono hE0.size)
            have hv_1 := ownsRow_below hv_0 bb1 (Nat.le_refl _)
            have K1 := (show _ ∧ _ from ⟨Hd1.out.box.c0, Hd1.out.box.c1⟩)
            clear Hd0 K0 hE0 hv_0 bb1
            refine ⟨_, rfl, K1, ?_⟩
            simp only [List.setIfInBounds_toArray, List.set_cons_zero, List.set_cons_succ]
            refine hold_take (i := 2) (d := 37) (v := ?vf2) (listed' := #[true, true, true, false, false, false, false, false, false, false, false, false]) rfl (by kernel_rfl) (by kernel_rfl) (by kernel_rfl) rfl (by rfl) (by kernel_rfl) K1 ?hf2 ?rf2
            case hf2 =>
              intro w' hSw
              obtain ⟨k0, k1⟩ := hSw
              go_simp
              try with_reducible rfl
            simp only [List.setIfInBounds_toArray, List.set_cons_zero, List.set_cons_succ]
            refine hold_skip (i := 3) (d := 38) (listed' := #[true, true, true, true, false, false, false, false, false, false, false, false]) rfl (by kernel_rfl) (by kernel_rfl) (by kernel_rfl) rfl (by rfl) (by kernel_rfl) K1 ?_
            simp only [List.setIfInBounds_toArray, List.set_cons_zero, List.set_cons_succ]
            refine hold_skip (i := 4) (d := 39) (listed' := #[true, true, true, true, true, false, false, false, false, false, false, false]) rfl (by kernel_rfl) (by kernel_rfl) (by kernel_rfl) rfl (by rfl) (by kernel_rfl) K1 ?_
            simp only [List.setIfInBounds_toArray, List.set_cons_zero, List.set_cons_succ]
            refine hold_skip (i := 6) (d := 41) (listed' := #[true, true, true, true, true, false, true, false, false, false, false, false]) rfl (by kernel_rfl) (by kernel_rfl) (by kernel_rfl) rfl (by rfl) (by kernel_rfl) K1 ?_
            simp only [List.setIfInBounds_toArray, List.set_cons_zero, List.set_cons_succ]
            refine hold_skip (i := 7) (d := 42) (listed' := #[true, true, true, true, true, false, true, true, false, false, false, false]) rfl (by kernel_rfl) (by kernel_rfl) (by kernel_rfl) rfl (by rfl) (by kernel_rfl) K1 ?_
            simp only [List.setIfInBounds_toArray, List.set_cons_zero, List.set_cons_succ]
            refine hold_skip (i := 8) (d := 43) (listed' := #[true, true, true, true, true, false, true, true, true, false, false, false]) rfl (by kernel_rfl) (by kernel_rfl) (by kernel_rfl) rfl (by rfl) (by kernel_rfl) K1 ?_
            simp only [List.setIfInBounds_toArray, List.set_cons_zero, List.set_cons_succ]
            refine hold_skip (i := 5) (d := 40) (listed' := #[true, true, true, true, true, true, true, true, true, false, false, false]) rfl (by kernel_rfl) (by kernel_rfl) (by kernel_rfl) rfl (by rfl) (by kernel_rfl) K1 ?_
            simp only [List.setIfInBounds_toArray, List.set_cons_zero, List.set_cons_succ]
            refine hold_skip (i := 9) (d := 44) (listed' := #[true, true, true, true, true, true, true, true, true, true, false, false]) rfl (by kernel_rfl) (by kernel_rfl) (by kernel_rfl) rfl (by rfl) (by kernel_rfl) K1 ?_
            simp only [List.setIfInBounds_toArray, List.set_cons_zero, List.set_cons_succ]
            refine hold_skip (i := 10) (d := 45) (listed' := #[true, true, true, true, true, true, true, true, true, true, true, false]) rfl (by kernel_rfl) (by kernel_rfl) (by kernel_rfl) rfl (by rfl) (by kernel_rfl) K1 ?_
            simp only [List.setIfInBounds_toArray, List.set_cons_zero, List.set_cons_succ]
            refine hold_take (i := 11) (d := 46) (v := ?vf11) (listed' := #[true, true, true, true, true, true, true, true, true, true, true, true]) rfl (by kernel_rfl) (by kernel_rfl) (by kernel_rfl) rfl (by rfl) (by kernel_rfl) K1 ?hf11 ?rf11
            case hf11 =>
              intro w' hSw
              obtain ⟨k0, k1⟩ := hSw
              go_simp
              try with_reducible rfl
            simp only [List.setIfInBounds_toArray, List.set_cons_zero, List.set_cons_succ]
            refine hold_done (by kernel_rfl) ?_ _
            clear Hd1 K1 hv_1
            go_wp2_with fail
            go_roundw
            case rel => exact ⟨j + 1, by omega, by go_num, hE1⟩
            case measure => simp [intOf]; omega
          | true =>
            have HK : Hid (keepsV m m.n zz = true) := hK.trans hk
            obtain ⟨bv, hbv⟩ : ∃ bv, clearB m y o3 a j = bv := ⟨_, rfl⟩
            have HA : Hid (apartB m m.n zz (j : Int) (a : Int) = bv) := (HAp.out hk j hlt).trans hbv
            have HM : Hid (decide ((j : Int) ∈ xs) = bv) := (HMem.out j hlt).trans hbv
            have e0 : (bv != bv) = false := by simp
            clear hk hbv
            go_wp2_with fail
            have hb0 : Below wr.heap.size wr wr.drew := (Below.refl _ wr).drew
            have Hd0 := Lib.hid (Hr.step hb0)
            have hE0 : Below w4.heap.size w4 wr.drew := hD.drew
            have hv_0 := ownsRow_below hv4 hE0 (Nat.le_refl _)
            have K0 := (show _ ∧ _ from ⟨Hd0.out.box.c0, Hd0.out.box.c1⟩)
            clear Hr q0 q1 hb0
            refine region_plain (fuel := 12) (listed := #[false, false, false, false, false, false, false, false, false, false, false, false]) (fun w' => w'.cell? ⟨w1.heap.size, 0, none⟩ = some (.slice (some ⟨l.b, l.o, none⟩) m.n l.cap) ∧ w'.cell? ⟨w1.heap.size, 1, none⟩ = some (.slice na m.n nc)) (by kernel_rfl) (by kernel_rfl) (by kernel_rfl) ?_
            refine hold_take (i := 0) (d := 35) (v := ?vt0) (listed' := #[true, false, false, false, false, false, false, false, false, false, false, false]) rfl (by kernel_rfl) (by kernel_rfl) (by kernel_rfl) rfl (by rfl) (by kernel_rfl) K0 ?ht0 ?rt0
            case ht0 =>
              intro w' hSw
              obtain ⟨k0, k1⟩ := hSw
              go_simp
              try with_reducible rfl
            simp only [List.setIfInBounds_toArray, List.set_cons_zero, List.set_cons_succ]
            refine hold_call (i := 1) (d := 36) (listed' := #[true, true, false, false, false, false, false, false, false, false, false, false]) rfl (by kernel_rfl) rfl (by rfl) (by kernel_rfl) ?het1 (spec_KeepsOk (nc := nc) Hd0.out.log) ?hct1
            case het1 => go_simp
            rintro e x1 ⟨rfl, bb1⟩
            rw [HK.out]
            have Hd1 := Lib.hid (Hd0.out.step bb1)
            have hE1 := hE0.trans (bb1.mono hE0.size)
            have hv_1 := ownsRow_below hv_0 bb1 (Nat.le_refl _)
            have K1 := (show _ ∧ _ from ⟨Hd1.out.box.c0, Hd1.out.box.c1⟩)
            clear Hd0 K0 hE0 hv_0 bb1
            refine ⟨_, rfl, K1, ?_⟩
            simp only [List.setIfInBounds_toArray, List.set_cons_zero, List.set_cons_succ]
            refine hold_take (i := 2) (d := 37) (v := ?vt2) (listed' := #[true, true, true, false, false, false, false, false, false, false, false, false]) rfl (by kernel_rfl) (by kernel_rfl) (by kernel_rfl) rfl (by rfl) (by kernel_rfl) K1 ?ht2 ?rt2
            case ht2 =>
              intro w' hSw
              obtain ⟨k0, k1⟩ := hSw
              go_simp
              try with_reducible rfl
            simp only [List.setIfInBounds_toArray, List.set_cons_zero, List.set_cons_succ]
            refine hold_take (i := 3) (d := 38) (v := ?vt3) (listed' := #[true, true, true, true, false, false, false, false, false, false, false, false]) rfl (by kernel_rfl) (by kernel_rfl) (by kernel_rfl) rfl (by rfl) (by kernel_rfl) K1 ?ht3 ?rt3
            case ht3 =>
              intro w' hSw
              obtain ⟨k0, k1⟩ := hSw
              go_simp
              try with_reducible rfl
            simp only [List.setIfInBounds_toArray, List.set_cons_zero, List.set_cons_succ]
            refine hold_take (i := 4) (d := 39) (v := ?vt4) (listed' := #[true, true, true, true, true, false, false, false, false, false, false, false]) rfl (by kernel_rfl) (by kernel_rfl) (by kernel_rfl) rfl (by rfl) (by kernel_rfl) K1 ?ht4 ?rt4
            case ht4 =>
              intro w' hSw
              obtain ⟨k0, k1⟩ := hSw
              go_simp
              try with_reducible rfl
            simp only [List.setIfInBounds_toArray, List.set_cons_zero, List.set_cons_succ]
            refine hold_take (i := 6) (d := 41) (v := ?vt6) (listed' := #[true, true, true, true, true, false, true, false, false, false, false, false]) rfl (by kernel_rfl) (by kernel_rfl) (by kernel_rfl) rfl (by rfl) (by kernel_rfl) K1 ?ht6 ?rt6
            case ht6 =>
              intro w' hSw
              obtain ⟨k0, k1⟩ := hSw
              go_simp
              try with_reducible rfl
            simp only [List.setIfInBounds_toArray, List.set_cons_zero, List.set_cons_succ]
            refine hold_take (i := 7) (d := 42) (v := ?vt7) (listed' := #[true, true, true, true, true, false, true, true, false, false, false, false]) rfl (by kernel_rfl) (by kernel_rfl) (by kernel_rfl) rfl (by rfl) (by kernel_rfl) K1 ?ht7 ?rt7
            case ht7 =>
              intro w' hSw
              obtain ⟨k0, k1⟩ := hSw
              go_simp
              try with_reducible rfl
            simp only [List.setIfInBounds_toArray, List.set_cons_zero, List.set_cons_succ]
            refine hold_take (i := 8) (d := 43) (v := ?vt8) (listed' := #[true, true, true, true, true, false, true, true, true, false, false, false]) rfl (by kernel_rfl) (by kernel_rfl) (by kernel_rfl) rfl (by rfl) (by kernel_rfl) K1 ?ht8 ?rt8
            case ht8 =>
              intro w' hSw
              obtain ⟨k0, k1⟩ := hSw
              go_simp
              try with_reducible rfl
            simp only [List.setIfInBounds_toArray, List.set_cons_zero, List.set_cons_succ]
            refine hold_call (i := 5) (d := 40) (listed' := #[true, true, true, true, true, true, true, true, true, false, false, false]) rfl (by kernel_rfl) rfl (by rfl) (by kernel_rfl) ?het5 (hasB_any (x := (j : Int)) (by omega) hv_1) ?hct5
            case het5 => go_simp
            rintro e xq ⟨rfl, hx⟩
            subst hx
            rw [HM.out]
            refine ⟨_, rfl, K1, ?_⟩
            simp only [List.setIfInBounds_toArray, List.set_cons_zero, List.set_cons_succ]
            refine hold_call (i := 9) (d := 44) (listed' := #[true, true, true, true, true, true, true, true, true, true, false, false]) rfl (by kernel_rfl) rfl (by rfl) (by kernel_rfl) ?het9 (ApartOk_any (nc := nc) (x := (j : Int)) (y := (a : Int)) Hd1.out.log) ?hct9
            case het9 => go_simp
            rintro e x2 ⟨rfl, bb2⟩
            rw [HA.out]
            have Hd2 := Lib.hid (Hd1.out.step bb2)
            have hE2 := hE1.trans (bb2.mono hE1.size)
            have hv_2 := ownsRow_below hv_1 bb2 (Nat.le_refl _)
            have K2 := (show _ ∧ _ from ⟨Hd2.out.box.c0, Hd2.out.box.c1⟩)
            clear Hd1 K1 hE1 hv_1 bb2
            refine ⟨_, rfl, K2, ?_⟩
            simp only [List.setIfInBounds_toArray, List.set_cons_zero, List.set_cons_succ]
            refine hold_take (i := 10) (d := 45) (v := ?vt10) (listed' := #[true, true, true, true, true, true, true, true, true, true, true, false]) rfl (by kernel_rfl) (by kernel_rfl) (by kernel_rfl) rfl (by rfl) (by kernel_rfl) K2 ?ht10 ?rt10
            case ht10 =>
              intro w' hSw
              obtain ⟨k0, k1⟩ := hSw
              go_simp
              try with_reducible rfl
            simp only [List.setIfInBounds_toArray, List.set_cons_zero, List.set_cons_succ]
            refine hold_take (i := 11) (d := 46) (v := ?vt11) (listed' := #[true, true, true, true, true, true, true, true, true, true, true, true]) rfl (by kernel_rfl) (by kernel_rfl) (by kernel_rfl) rfl (by rfl) (by kernel_rfl) K2 ?ht11 ?rt11
            case ht11 =>
              intro w' hSw
              obtain ⟨k0, k1⟩ := hSw
              go_simp
              try with_reducible rfl
            simp only [List.setIfInBounds_toArray, List.set_cons_zero, List.set_cons_succ]
            refine hold_done (by kernel_rfl) ?_ _
            clear Hd2 K2 hv_2
            go_wp2_with fail
            go_roundw
            case rel => exact ⟨j + 1, by omega, by go_num, hE2⟩
            case measure => simp [intOf]; omega
        · have hlt' : ¬ (j : Int) < m.n := by omega
          have hvr := ownsRow_below hv4 hD (Nat.le_refl _)
          go_wp2_with fail
          go_at_call 33
          refine (ascend_listV (by omega) hvr HUp.out).mono ?_
          rintro e w5 ⟨rfl, d5⟩
          have b5 : Below wr.heap.size wr w5 := d5.below _
          have H5 := Hr.step b5
          have hv5 := ownsRow_below hvr b5 (Nat.le_refl _)
          clear Hr hvr b5 d5 q0 q1
          have q0 := H5.box.c0
          have q1 := H5.box.c1
          go_wp2_with fail
          go_at_call 34
          refine (NoOf_any (nc := nc) H5.log).mono ?_
          rintro e w6 ⟨rfl, b6⟩
          rw [HNo.out]
          have H6 := H5.step b6
          have hv6 := ownsRow_below hv5 b6 (Nat.le_refl _)
          clear H5 hv5 b6 q0 q1
          go_wp2_with fail
          go_at_call 32
          refine (hasB_any (x := (o3 : Int)) (by omega) hv6).mono ?_
          rintro e w7 ⟨rfl, hx⟩
          subst hx
          rw [HNI.out]
          go_wp2_with fail
          go_ret
          exact ⟨rfl, H6.old⟩
end Go.Proofs.Ytkfinkhdfbogjaa
