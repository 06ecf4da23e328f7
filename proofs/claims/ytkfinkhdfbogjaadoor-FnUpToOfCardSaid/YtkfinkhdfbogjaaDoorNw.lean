/- The draw of UpToOf and the law on it, walked at whatever code. -/
import Derived.Test.YtkfinkhdfbogjaaDoorBg
import Derived.Test.YtkfinkhdfbogjaaDoorDn
import Derived.Test.YtkfinkhdfbogjaaDoorCd
import Derived.Test.YtkfinkhdfbogjaaDoorNv
namespace Go.Proofs.YtkfinkhdfbogjaaDoor
open Go.RowKit Go.Deep

set_option maxRecDepth 100000 in
set_option maxHeartbeats 2000000 in
theorem draw_UpToOf {A : Option Addr} {b o n cap : Nat} {z : Nat → Nat} {w : World} (h : CodeAt w A b o n cap z) :
    Calls Tryd.prog 5 #[.slice A n cap] w (DrewN w) := by
  have hT := TwoAt.new w (.slice none 0 0) (.slice none 0 0) 26
  have hbA := (Below.refl w.heap.size w).alloc (Nat.le_refl _) (.cells #[.slice none 0 0, .slice none 0 0] 26)
  have hc := h.alloc (.cells #[.slice none 0 0, .slice none 0 0] 26)
  go_enter Tryd.func5, Tryd.ntmps5
  go_wp2_with fail
  go_at_call 20
  refine (l20Open_any hc).mono ?_
  rintro e w1 ⟨A1, b1, o1, n1, c1, z1, rfl, hn1, hR, hz, hb, hs⟩
  have hsA : (w.alloc (.cells #[.slice none 0 0, .slice none 0 0] 26)).heap.size = w.heap.size + 1 := by simp
  have hT1 := hT.below hb (by omega)
  rw [hsA] at hR hz hs
  have hs' : w.heap.size + 1 < w1.heap.size := by omega
  clear h hc hT hs
  go_wp2_with fail
  go_at_call 21
  refine (l20Two_any (by omega) (by omega) hn1 hR hz (Nat.le_refl _) hs').mono ?_
  rintro e w2 ⟨ua, l, m, na, g, o2, k, nc, zz, x, y, rfl, hlog, hf, hg, hn, hL, hk, hC⟩
  have hT2 := hC.two hT1 (by show ¬ (w.heap.size = w.heap.size + 1); omega)
  have hF : Fresh (w.alloc (.cells #[.slice none 0 0, .slice none 0 0] 26)) ua l m na g o2 k zz w2 := ⟨hlog, ⟨fun r hr => by have := hf.top r hr; omega, fun r hr c hc => by have := hf.row r hr c hc; omega⟩, fun h0 => by have := hg h0; omega, hn, hL, hk, hb.trans (hC.below (by omega) fun j hj => by have hj' : j = w.heap.size + 1 := hj; omega)⟩
  have hs2 : w.heap.size < w2.heap.size := by have := hC.size; omega
  have hall := Lib.hid ((hF.put hbA (by omega) (.slice ua m.n l.cap) (.slice na k nc)).alloc (.cells #[.slice ua m.n l.cap, .slice na k nc] 26))
  have hfin := (Chg.alloc (fun _ => False) _ (.cells #[.slice ua m.n l.cap, .slice na k nc] 26)).two ((hT2.set0 (.slice ua m.n l.cap)).set1 (.slice na k nc)) (fun h => h)
  have t0 := hfin.c0
  have t1 := hfin.c1
  have e0 := hT2.c0
  have e1 := hT2.c1
  have e2 := hT2.f0
  have e3 := hT2.f1
  clear hF hlog hf hC hT1 hT2 hfin hb hR hz
  go_wp2_with fail
  exact bodyPost_ret (v := .tuple #[.agg #[.slice ua m.n l.cap, .slice na k nc], .int .i64 x]) (by simp [results, Tryd.results5, go_sem, t0, t1]) rfl ⟨ua, l, m, na, g, o2, k, nc, zz, x, rfl, hall.out⟩

set_option maxRecDepth 100000 in
set_option maxHeartbeats 4000000 in
theorem law_UpToOf {A : Option Addr} {b o n cap : Nat} {z : Nat → Nat} {w : World} (h : CodeAt w A b o n cap z) (hT : TabOk w) :
    Calls Tryd.prog 3 #[.slice A n cap] w fun e w' => e = .returned (.bool true) ∧ Below w.heap.size w w' := by
  have hn := h.hn
  have hc := h.hc
  by_cases hbig : 1048576 < n
  · have hbig' : (1048576 : Int) < n := by omega
    clear h hT
    go_enter Tryd.func3, Tryd.ntmps3
    go_wp2_with fail
    go_ret
    exact ⟨rfl, Below.refl _ _⟩
  · have hbig' : ¬ (1048576 : Int) < n := by omega
    have HT := Lib.hid hT
    clear hT
    go_enter Tryd.func3, Tryd.ntmps3
    go_wp2_with fail
    go_at_call 5
    refine (draw_UpToOf h).mono ?_
    rintro e w1 ⟨ua, l, m, na, g, o2, k, nc, zz, x, rfl, hF⟩
    have H1 := Held.start hF nc
    clear h hF
    have q0 := H1.box.c0
    have q1 := H1.box.c1
    go_wp2_with fail
    go_at_call 6
    refine (UpToOf_any H1.log (HT.out.step H1.old HT.out.size)).mono ?_
    rintro e w2 ⟨v, rfl, hv, b2⟩
    have H2 := H1.step b2
    have hlen := upV_len m k zz x
    have HR := Lib.hid (map_range (upV m k zz x))
    clear H1 q0 q1 b2
    have q0 := H2.box.c0
    have q1 := H2.box.c1
    go_wp2_with fail
    go_at_call 8
    refine (spec_UpToOf H2.log).mono ?_
    rintro e w3 ⟨v', rfl, hv', b3⟩
    have H3 := H2.step b3
    have hv3 := ownsRow_below hv b3 (Nat.le_refl _)
    rw [HR.out] at hv3 hv'
    clear H2 q0 q1 b3 hv
    go_wp2_with fail
    go_at_call 7
    refine (sameList (by omega) hv3 hv').mono ?_
    rintro e w4 ⟨rfl, d4⟩
    have b4 : Below w3.heap.size w3 w4 := d4.below _
    have H4 := H3.step b4
    have hv4 := ownsRow_below hv3 b4 (Nat.le_refl _)
    clear H3 b4 d4 hv3 hv'
    have q0 := H4.box.c0
    have q1 := H4.box.c1
    by_cases h0 : (upV m k zz x).length = 0
    · obtain ⟨cv, rfl⟩ : ∃ (a : Option Addr × Nat), v = .slice a.1 0 a.2 := by
        rcases owns_ways hv4 with ⟨rfl, _⟩ | ⟨g, cap, rfl, _⟩
        · exact ⟨(none, 0), rfl⟩
        · rw [h0]; exact ⟨(_, cap), rfl⟩
      obtain ⟨av, nv⟩ := cv
      clear h0 hv4 HR hlen
      go_wp2_with fail
      go_at_call 9
      refine (alive_any _).mono ?_
      rintro e w5 ⟨rfl, b5⟩
      have H5 := H4.step b5
      go_wp2_with fail
      go_ret
      exact ⟨rfl, H5.old⟩
    · have hg : (logicB m k zz && goodB m.n 1 (lone1 x)) = true := by
        cases hg : (logicB m k zz && goodB m.n 1 (lone1 x)) with
        | true => rfl
        | false =>
          exfalso
          apply h0
          unfold upV
          rw [hg]; rfl
      obtain ⟨a, o3, rfl, ha, rfl, hl, hle, hO⟩ := good_one_parts hg
      obtain ⟨y, hy⟩ : ∃ y : Nat → Nat, y = fun c => (zz c).toNat := ⟨_, rfl⟩
      have h12 := hO.lat.order.top
      have hHV : upV m m.n zz (a : Int) = listTo (upB m y a) m.n := by unfold upV; rw [if_pos hg, hy, Int.toNat_natCast]; rfl
      rw [← hy] at hO
      clear hg hle hy
      rw [hHV] at hv4 h0 hlen HR
      have hK : keepsV m m.n zz = keepsB m y := hO.keepsV hl
      have HS := Lib.hid hO.lat.order.sq
      obtain ⟨e0, _, _⟩ := H4.log.mat.sq HS.out ha ha
      obtain rfl := e0
      have ha' : (a : Int) < m.n := by omega
      have hmem : ∀ j, j < m.n → decide ((j : Int) ∈ listTo (upB m y a) m.n) = (upB m y a) j := fun j hj => by
        rw [Bool.eq_iff_iff, decide_eq_true_iff, listTo_mem]
        exact ⟨fun e => e.2, fun e => ⟨hj, e⟩⟩
      have hup := listTo_up (upB m y a) m.n
      have HLe : Hid (∀ j, j < m.n → upB m y a j = true → m.Z j a = 1) := fun j _ e => (hO.up_le ha e).2
      have HKe : Hid (keepsB m y = true → ∀ j, j < m.n → upB m y a j = leB m j a) := fun hk j hj => hO.up_keeps hk ha hj
      obtain ⟨xs, hxs⟩ : ∃ xs, listTo (upB m y a) m.n = xs := ⟨_, rfl⟩
      have hlen12 : xs.length ≤ 12 := by
        have := listTo_len (upB m y a) m.n
        rw [hxs] at this
        omega
      rw [hxs] at hv4 h0 hmem hup
      have HMem := Lib.hid hmem
      have HUp := Lib.hid hup
      obtain ⟨av, nv, rfl⟩ : ∃ (a : Option Addr) (c : Nat), v = .slice a xs.length c := by
        rcases owns_ways hv4 with ⟨_, e0⟩ | ⟨gl, cl, rfl, hcell⟩
        · exact absurd e0 h0
        · exact ⟨_, _, rfl⟩
      have hl0 : ¬ ((xs.length : Nat) : Int) = 0 := by omega
      have hl1 : (((xs.length : Nat) : Int) == 0) = false := by rw [beq_eq_false_iff_ne]; omega
      clear hmem hup hHV h0 HR hlen hxs
      clear hl hO
      clear q0 q1
      go_wp2_with fail
      go_loopw [6] (fun i wr => ∃ j : Nat, j ≤ m.n ∧ i = .int .i64 j ∧ Below w4.heap.size w4 wr) (fun i _ => m.n - (intOf i).toNat)
      case atStart => exact ⟨0, Nat.zero_le _, rfl, Below.refl _ _⟩
      case round =>
        obtain ⟨j, hj, rfl, hD⟩ := hrel
        have Hr := H4.step hD
        have q0 := Hr.box.c0
        have q1 := Hr.box.c1
        by_cases hlt : j < m.n
        · have hlt' : (j : Int) < m.n := by omega
          have hM := HMem.out j hlt
          cases hk : keepsB m y with
          | false =>
            have HK : Hid (keepsV m m.n zz = false) := hK.trans hk
            cases hu : upB m y a j with
            | false =>
              have HM : Hid (decide ((j : Int) ∈ xs) = false) := hM.trans hu
              clear hM hk hu
              rcases leB_cases HS.out hlt ha with ⟨l1, z1⟩ | ⟨l1, z1⟩
              · have HZ := Lib.hid z1
                clear l1 z1
                go_wp2_with fail
                have hb0 : Below wr.heap.size wr wr.drew := (Below.refl _ wr).drew
                have Hd0 := Lib.hid (Hr.step hb0)
                have hE0 : Below w4.heap.size w4 wr.drew := hD.drew
                have hv_0 := ownsRow_below hv4 hE0 (Nat.le_refl _)
                have K0 := (show _ ∧ _ ∧ _ ∧ _ from ⟨Hd0.out.box.c0, Hd0.out.box.c1, (Hd0.out.log.mat.sq HS.out hlt ha).2.1, (Hd0.out.log.mat.sq HS.out hlt ha).2.2.trans (by rw [HZ.out])⟩)
                clear Hr q0 q1 hb0
                refine region_plain (fuel := 33) (listed := #[false, false, false, false, false, false, false, false, false, false, false, false, false, false, false, false, false, false, false, false, false, false, false, false, false, false, false, false, false, false, false, false, false]) (fun w' => w'.cell? ⟨w1.heap.size, 0, none⟩ = some (.slice (some ⟨l.b, l.o, none⟩) m.n l.cap) ∧ w'.cell? ⟨w1.heap.size, 1, none⟩ = some (.slice na m.n nc) ∧ w'.cell? ⟨l.b, l.o + j, none⟩ = some (.slice (some ⟨l.G j, l.O j, none⟩) m.n (l.C j)) ∧ w'.cell? ⟨l.G j, l.O j + a, none⟩ = some (.int .i64 1)) (by kernel_rfl) (by kernel_rfl) (by kernel_rfl) ?_
                refine hold_take (i := 0) (d := 35) (v := ?va0) (listed' := #[true, false, false, false, false, false, false, false, false, false, false, false, false, false, false, false, false, false, false, false, false, false, false, false, false, false, false, false, false, false, false, false, false]) rfl (by kernel_rfl) (by kernel_rfl) (by kernel_rfl) rfl (by rfl) (by kernel_rfl) K0 ?ha0 ?ra0
                case ha0 =>
                  intro w' hSw
                  obtain ⟨k0, k1, k2, k3⟩ := hSw
                  go_simp
                  try with_reducible rfl
                simp only [List.setIfInBounds_toArray, List.set_cons_zero, List.set_cons_succ]
                refine hold_take (i := 1) (d := 36) (v := ?va1) (listed' := #[true, true, false, false, false, false, false, false, false, false, false, false, false, false, false, false, false, false, false, false, false, false, false, false, false, false, false, false, false, false, false, false, false]) rfl (by kernel_rfl) (by kernel_rfl) (by kernel_rfl) rfl (by rfl) (by kernel_rfl) K0 ?ha1 ?ra1
                case ha1 =>
                  intro w' hSw
                  obtain ⟨k0, k1, k2, k3⟩ := hSw
                  go_simp
                  try with_reducible rfl
                simp only [List.setIfInBounds_toArray, List.set_cons_zero, List.set_cons_succ]
                refine hold_call (i := 2) (d := 37) (listed' := #[true, true, true, false, false, false, false, false, false, false, false, false, false, false, false, false, false, false, false, false, false, false, false, false, false, false, false, false, false, false, false, false, false]) rfl (by kernel_rfl) rfl (by rfl) (by kernel_rfl) ?hea2 (hasB_any (x := (j : Int)) (by omega) hv_0) ?hca2
                case hea2 => go_simp
                rintro e xq ⟨rfl, hx⟩
                subst hx
                rw [HM.out]
                refine ⟨_, rfl, K0, ?_⟩
                simp only [List.setIfInBounds_toArray, List.set_cons_zero, List.set_cons_succ]
                refine hold_take (i := 3) (d := 38) (v := ?va3) (listed' := #[true, true, true, true, false, false, false, false, false, false, false, false, false, false, false, false, false, false, false, false, false, false, false, false, false, false, false, false, false, false, false, false, false]) rfl (by kernel_rfl) (by kernel_rfl) (by kernel_rfl) rfl (by rfl) (by kernel_rfl) K0 ?ha3 ?ra3
                case ha3 =>
                  intro w' hSw
                  obtain ⟨k0, k1, k2, k3⟩ := hSw
                  go_simp
                  try with_reducible rfl
                simp only [List.setIfInBounds_toArray, List.set_cons_zero, List.set_cons_succ]
                refine hold_skip (i := 4) (d := 39) (listed' := #[true, true, true, true, true, false, false, false, false, false, false, false, false, false, false, false, false, false, false, false, false, false, false, false, false, false, false, false, false, false, false, false, false]) rfl (by kernel_rfl) (by kernel_rfl) (by kernel_rfl) rfl (by rfl) (by kernel_rfl) K0 ?_
                simp only [List.setIfInBounds_toArray, List.set_cons_zero, List.set_cons_succ]
                refine hold_skip (i := 5) (d := 40) (listed' := #[true, true, true, true, true, true, false, false, false, false, false, false, false, false, false, false, false, false, false, false, false, false, false, false, false, false, false, false, false, false, false, false, false]) rfl (by kernel_rfl) (by kernel_rfl) (by kernel_rfl) rfl (by rfl) (by kernel_rfl) K0 ?_
                simp only [List.setIfInBounds_toArray, List.set_cons_zero, List.set_cons_succ]
                refine hold_skip (i := 6) (d := 41) (listed' := #[true, true, true, true, true, true, true, false, false, false, false, false, false, false, false, false, false, false, false, false, false, false, false, false, false, false, false, false, false, false, false, false, false]) rfl (by kernel_rfl) (by kernel_rfl) (by kernel_rfl) rfl (by rfl) (by kernel_rfl) K0 ?_
                simp only [List.setIfInBounds_toArray, List.set_cons_zero, List.set_cons_succ]
                refine hold_skip (i := 7) (d := 42) (listed' := #[true, true, true, true, true, true, true, true, false, false, false, false, false, false, false, false, false, false, false, false, false, false, false, false, false, false, false, false, false, false, false, false, false]) rfl (by kernel_rfl) (by kernel_rfl) (by kernel_rfl) rfl (by rfl) (by kernel_rfl) K0 ?_
                simp only [List.setIfInBounds_toArray, List.set_cons_zero, List.set_cons_succ]
                refine hold_skip (i := 8) (d := 43) (listed' := #[true, true, true, true, true, true, true, true, true, false, false, false, false, false, false, false, false, false, false, false, false, false, false, false, false, false, false, false, false, false, false, false, false]) rfl (by kernel_rfl) (by kernel_rfl) (by kernel_rfl) rfl (by rfl) (by kernel_rfl) K0 ?_
                simp only [List.setIfInBounds_toArray, List.set_cons_zero, List.set_cons_succ]
                refine hold_skip (i := 9) (d := 44) (listed' := #[true, true, true, true, true, true, true, true, true, true, false, false, false, false, false, false, false, false, false, false, false, false, false, false, false, false, false, false, false, false, false, false, false]) rfl (by kernel_rfl) (by kernel_rfl) (by kernel_rfl) rfl (by rfl) (by kernel_rfl) K0 ?_
                simp only [List.setIfInBounds_toArray, List.set_cons_zero, List.set_cons_succ]
                refine hold_skip (i := 10) (d := 45) (listed' := #[true, true, true, true, true, true, true, true, true, true, true, false, false, false, false, false, false, false, false, false, false, false, false, false, false, false, false, false, false, false, false, false, false]) rfl (by kernel_rfl) (by kernel_rfl) (by kernel_rfl) rfl (by rfl) (by kernel_rfl) K0 ?_
                simp only [List.setIfInBounds_toArray, List.set_cons_zero, List.set_cons_succ]
                refine hold_skip (i := 11) (d := 46) (listed' := #[true, true, true, true, true, true, true, true, true, true, true, true, false, false, false, false, false, false, false, false, false, false, false, false, false, false, false, false, false, false, false, false, false]) rfl (by kernel_rfl) (by kernel_rfl) (by kernel_rfl) rfl (by rfl) (by kernel_rfl) K0 ?_
                simp only [List.setIfInBounds_toArray, List.set_cons_zero, List.set_cons_succ]
                refine hold_skip (i := 12) (d := 47) (listed' := #[true, true, true, true, true, true, true, true, true, true, true, true, true, false, false, false, false, false, false, false, false, false, false, false, false, false, false, false, false, false, false, false, false]) rfl (by kernel_rfl) (by kernel_rfl) (by kernel_rfl) rfl (by rfl) (by kernel_rfl) K0 ?_
                simp only [List.setIfInBounds_toArray, List.set_cons_zero, List.set_cons_succ]
                refine hold_take (i := 13) (d := 48) (v := ?va13) (listed' := #[true, true, true, true, true, true, true, true, true, true, true, true, true, true, false, false, false, false, false, false, false, false, false, false, false, false, false, false, false, false, false, false, false]) rfl (by kernel_rfl) (by kernel_rfl) (by kernel_rfl) rfl (by rfl) (by kernel_rfl) K0 ?ha13 ?ra13
                case ha13 =>
                  intro w' hSw
                  obtain ⟨k0, k1, k2, k3⟩ := hSw
                  go_simp
                  try with_reducible rfl
                simp only [List.setIfInBounds_toArray, List.set_cons_zero, List.set_cons_succ]
                refine hold_take (i := 14) (d := 49) (v := ?va14) (listed' := #[true, true, true, true, true, true, true, true, true, true, true, true, true, true, true, false, false, false, false, false, false, false, false, false, false, false, false, false, false, false, false, false, false]) rfl (by kernel_rfl) (by kernel_rfl) (by kernel_rfl) rfl (by rfl) (by kernel_rfl) K0 ?ha14 ?ra14
                case ha14 =>
                  intro w' hSw
                  obtain ⟨k0, k1, k2, k3⟩ := hSw
                  go_simp
                  try with_reducible rfl
                simp only [List.setIfInBounds_toArray, List.set_cons_zero, List.set_cons_succ]
                refine hold_take (i := 15) (d := 50) (v := ?va15) (listed' := #[true, true, true, true, true, true, true, true, true, true, true, true, true, true, true, true, false, false, false, false, false, false, false, false, false, false, false, false, false, false, false, false, false]) rfl (by kernel_rfl) (by kernel_rfl) (by kernel_rfl) rfl (by rfl) (by kernel_rfl) K0 ?ha15 ?ra15
                case ha15 =>
                  intro w' hSw
                  obtain ⟨k0, k1, k2, k3⟩ := hSw
                  go_simp
                  try with_reducible rfl
                simp only [List.setIfInBounds_toArray, List.set_cons_zero, List.set_cons_succ]
                refine hold_call (i := 16) (d := 51) (listed' := #[true, true, true, true, true, true, true, true, true, true, true, true, true, true, true, true, true, false, false, false, false, false, false, false, false, false, false, false, false, false, false, false, false]) rfl (by kernel_rfl) rfl (by rfl) (by kernel_rfl) ?hea16 (spec_KeepsOk (nc := nc) Hd0.out.log) ?hca16
                case hea16 => go_simp
                rintro e x1 ⟨rfl, bb1⟩
                rw [HK.out]
                have Hd1 := Lib.hid (Hd0.out.step bb1)
                have hE1 := hE0.trans (bb1.mono hE0.size)
                have hv_1 := ownsRow_below hv_0 bb1 (Nat.le_refl _)
                have K1 := (show _ ∧ _ ∧ _ ∧ _ from ⟨Hd1.out.box.c0, Hd1.out.box.c1, (Hd1.out.log.mat.sq HS.out hlt ha).2.1, (Hd1.out.log.mat.sq HS.out hlt ha).2.2.trans (by rw [HZ.out])⟩)
                clear Hd0 K0 hE0 hv_0 bb1
                refine ⟨_, rfl, K1, ?_⟩
                simp only [List.setIfInBounds_toArray, List.set_cons_zero, List.set_cons_succ]
                refine hold_take (i := 17) (d := 52) (v := ?va17) (listed' := #[true, true, true, true, true, true, true, true, true, true, true, true, true, true, true, true, true, true, false, false, false, false, false, false, false, false, false, false, false, false, false, false, false]) rfl (by kernel_rfl) (by kernel_rfl) (by kernel_rfl) rfl (by rfl) (by kernel_rfl) K1 ?ha17 ?ra17
                case ha17 =>
                  intro w' hSw
                  obtain ⟨k0, k1, k2, k3⟩ := hSw
                  go_simp
                  try with_reducible rfl
                simp only [List.setIfInBounds_toArray, List.set_cons_zero, List.set_cons_succ]
                refine hold_skip (i := 18) (d := 53) (listed' := #[true, true, true, true, true, true, true, true, true, true, true, true, true, true, true, true, true, true, true, false, false, false, false, false, false, false, false, false, false, false, false, false, false]) rfl (by kernel_rfl) (by kernel_rfl) (by kernel_rfl) rfl (by rfl) (by kernel_rfl) K1 ?_
                simp only [List.setIfInBounds_toArray, List.set_cons_zero, List.set_cons_succ]
                refine hold_skip (i := 19) (d := 54) (listed' := #[true, true, true, true, true, true, true, true, true, true, true, true, true, true, true, true, true, true, true, true, false, false, false, false, false, false, false, false, false, false, false, false, false]) rfl (by kernel_rfl) (by kernel_rfl) (by kernel_rfl) rfl (by rfl) (by kernel_rfl) K1 ?_
                simp only [List.setIfInBounds_toArray, List.set_cons_zero, List.set_cons_succ]
                refine hold_skip (i := 21) (d := 56) (listed' := #[true, true, true, true, true, true, true, true, true, true, true, true, true, true, true, true, true, true, true, true, false, true, false, false, false, false, false, false, false, false, false, false, false]) rfl (by kernel_rfl) (by kernel_rfl) (by kernel_rfl) rfl (by rfl) (by kernel_rfl) K1 ?_
                simp only [List.setIfInBounds_toArray, List.set_cons_zero, List.set_cons_succ]
                refine hold_skip (i := 22) (d := 57) (listed' := #[true, true, true, true, true, true, true, true, true, true, true, true, true, true, true, true, true, true, true, true, false, true, true, false, false, false, false, false, false, false, false, false, false]) rfl (by kernel_rfl) (by kernel_rfl) (by kernel_rfl) rfl (by rfl) (by kernel_rfl) K1 ?_
                simp only [List.setIfInBounds_toArray, List.set_cons_zero, List.set_cons_succ]
                refine hold_skip (i := 23) (d := 58) (listed' := #[true, true, true, true, true, true, true, true, true, true, true, true, true, true, true, true, true, true, true, true, false, true, true, true, false, false, false, false, false, false, false, false, false]) rfl (by kernel_rfl) (by kernel_rfl) (by kernel_rfl) rfl (by rfl) (by kernel_rfl) K1 ?_
                simp only [List.setIfInBounds_toArray, List.set_cons_zero, List.set_cons_succ]
                refine hold_skip (i := 24) (d := 59) (listed' := #[true, true, true, true, true, true, true, true, true, true, true, true, true, true, true, true, true, true, true, true, false, true, true, true, true, false, false, false, false, false, false, false, false]) rfl (by kernel_rfl) (by kernel_rfl) (by kernel_rfl) rfl (by rfl) (by kernel_rfl) K1 ?_
                simp only [List.setIfInBounds_toArray, List.set_cons_zero, List.set_cons_succ]
                refine hold_skip (i := 25) (d := 60) (listed' := #[true, true, true, true, true, true, true, true, true, true, true, true, true, true, true, true, true, true, true, true, false, true, true, true, true, true, false, false, false, false, false, false, false]) rfl (by kernel_rfl) (by kernel_rfl) (by kernel_rfl) rfl (by rfl) (by kernel_rfl) K1 ?_
                simp only [List.setIfInBounds_toArray, List.set_cons_zero, List.set_cons_succ]
                refine hold_skip (i := 26) (d := 61) (listed' := #[true, true, true, true, true, true, true, true, true, true, true, true, true, true, true, true, true, true, true, true, false, true, true, true, true, true, true, false, false, false, false, false, false]) rfl (by kernel_rfl) (by kernel_rfl) (by kernel_rfl) rfl (by rfl) (by kernel_rfl) K1 ?_
                simp only [List.setIfInBounds_toArray, List.set_cons_zero, List.set_cons_succ]
                refine hold_skip (i := 27) (d := 62) (listed' := #[true, true, true, true, true, true, true, true, true, true, true, true, true, true, true, true, true, true, true, true, false, true, true, true, true, true, true, true, false, false, false, false, false]) rfl (by kernel_rfl) (by kernel_rfl) (by kernel_rfl) rfl (by rfl) (by kernel_rfl) K1 ?_
                simp only [List.setIfInBounds_toArray, List.set_cons_zero, List.set_cons_succ]
                refine hold_skip (i := 28) (d := 63) (listed' := #[true, true, true, true, true, true, true, true, true, true, true, true, true, true, true, true, true, true, true, true, false, true, true, true, true, true, true, true, true, false, false, false, false]) rfl (by kernel_rfl) (by kernel_rfl) (by kernel_rfl) rfl (by rfl) (by kernel_rfl) K1 ?_
                simp only [List.setIfInBounds_toArray, List.set_cons_zero, List.set_cons_succ]
                refine hold_skip (i := 29) (d := 64) (listed' := #[true, true, true, true, true, true, true, true, true, true, true, true, true, true, true, true, true, true, true, true, false, true, true, true, true, true, true, true, true, true, false, false, false]) rfl (by kernel_rfl) (by kernel_rfl) (by kernel_rfl) rfl (by rfl) (by kernel_rfl) K1 ?_
                simp only [List.setIfInBounds_toArray, List.set_cons_zero, List.set_cons_succ]
                refine hold_skip (i := 20) (d := 55) (listed' := #[true, true, true, true, true, true, true, true, true, true, true, true, true, true, true, true, true, true, true, true, true, true, true, true, true, true, true, true, true, true, false, false, false]) rfl (by kernel_rfl) (by kernel_rfl) (by kernel_rfl) rfl (by rfl) (by kernel_rfl) K1 ?_
                simp only [List.setIfInBounds_toArray, List.set_cons_zero, List.set_cons_succ]
                refine hold_skip (i := 30) (d := 65) (listed' := #[true, true, true, true, true, true, true, true, true, true, true, true, true, true, true, true, true, true, true, true, true, true, true, true, true, true, true, true, true, true, true, false, false]) rfl (by kernel_rfl) (by kernel_rfl) (by kernel_rfl) rfl (by rfl) (by kernel_rfl) K1 ?_
                simp only [List.setIfInBounds_toArray, List.set_cons_zero, List.set_cons_succ]
                refine hold_take (i := 31) (d := 66) (v := ?va31) (listed' := #[true, true, true, true, true, true, true, true, true, true, true, true, true, true, true, true, true, true, true, true, true, true, true, true, true, true, true, true, true, true, true, true, false]) rfl (by kernel_rfl) (by kernel_rfl) (by kernel_rfl) rfl (by rfl) (by kernel_rfl) K1 ?ha31 ?ra31
                case ha31 =>
                  intro w' hSw
                  obtain ⟨k0, k1, k2, k3⟩ := hSw
                  go_simp
                  try with_reducible rfl
                simp only [List.setIfInBounds_toArray, List.set_cons_zero, List.set_cons_succ]
                refine hold_take (i := 32) (d := 67) (v := ?va32) (listed' := #[true, true, true, true, true, true, true, true, true, true, true, true, true, true, true, true, true, true, true, true, true, true, true, true, true, true, true, true, true, true, true, true, true]) rfl (by kernel_rfl) (by kernel_rfl) (by kernel_rfl) rfl (by rfl) (by kernel_rfl) K1 ?ha32 ?ra32
                case ha32 =>
                  intro w' hSw
                  obtain ⟨k0, k1, k2, k3⟩ := hSw
                  go_simp
                  try with_reducible rfl
                simp only [List.setIfInBounds_toArray, List.set_cons_zero, List.set_cons_succ]
                refine hold_done (by kernel_rfl) ?_ _
                clear Hd1 K1 hv_1
                go_wp2_with fail
                go_roundw
                case rel => exact ⟨j + 1, by omega, by go_num, hE1⟩
                case measure => simp [intOf]; omega
              · have HZ := Lib.hid z1
                clear l1 z1
                go_wp2_with fail
                have hb0 : Below wr.heap.size wr wr.drew := (Below.refl _ wr).drew
                have Hd0 := Lib.hid (Hr.step hb0)
                have hE0 : Below w4.heap.size w4 wr.drew := hD.drew
                have hv_0 := ownsRow_below hv4 hE0 (Nat.le_refl _)
                have K0 := (show _ ∧ _ ∧ _ ∧ _ from ⟨Hd0.out.box.c0, Hd0.out.box.c1, (Hd0.out.log.mat.sq HS.out hlt ha).2.1, (Hd0.out.log.mat.sq HS.out hlt ha).2.2.trans (by rw [HZ.out])⟩)
                clear Hr q0 q1 hb0
                refine region_plain (fuel := 33) (listed := #[false, false, false, false, false, false, false, false, false, false, false, false, false, false, false, false, false, false, false, false, false, false, false, false, false, false, false, false, false, false, false, false, false]) (fun w' => w'.cell? ⟨w1.heap.size, 0, none⟩ = some (.slice (some ⟨l.b, l.o, none⟩) m.n l.cap) ∧ w'.cell? ⟨w1.heap.size, 1, none⟩ = some (.slice na m.n nc) ∧ w'.cell? ⟨l.b, l.o + j, none⟩ = some (.slice (some ⟨l.G j, l.O j, none⟩) m.n (l.C j)) ∧ w'.cell? ⟨l.G j, l.O j + a, none⟩ = some (.int .i64 0)) (by kernel_rfl) (by kernel_rfl) (by kernel_rfl) ?_
                refine hold_take (i := 0) (d := 35) (v := ?vb0) (listed' := #[true, false, false, false, false, false, false, false, false, false, false, false, false, false, false, false, false, false, false, false, false, false, false, false, false, false, false, false, false, false, false, false, false]) rfl (by kernel_rfl) (by kernel_rfl) (by kernel_rfl) rfl (by rfl) (by kernel_rfl) K0 ?hb0 ?rb0
                case hb0 =>
                  intro w' hSw
                  obtain ⟨k0, k1, k2, k3⟩ := hSw
                  go_simp
                  try with_reducible rfl
                simp only [List.setIfInBounds_toArray, List.set_cons_zero, List.set_cons_succ]
                refine hold_take (i := 1) (d := 36) (v := ?vb1) (listed' := #[true, true, false, false, false, false, false, false, false, false, false, false, false, false, false, false, false, false, false, false, false, false, false, false, false, false, false, false, false, false, false, false, false]) rfl (by kernel_rfl) (by kernel_rfl) (by kernel_rfl) rfl (by rfl) (by kernel_rfl) K0 ?hb1 ?rb1
                case hb1 =>
                  intro w' hSw
                  obtain ⟨k0, k1, k2, k3⟩ := hSw
                  go_simp
                  try with_reducible rfl
                simp only [List.setIfInBounds_toArray, List.set_cons_zero, List.set_cons_succ]
                refine hold_call (i := 2) (d := 37) (listed' := #[true, true, true, false, false, false, false, false, false, false, false, false, false, false, false, false, false, false, false, false, false, false, false, false, false, false, false, false, false, false, false, false, false]) rfl (by kernel_rfl) rfl (by rfl) (by kernel_rfl) ?heb2 (hasB_any (x := (j : Int)) (by omega) hv_0) ?hcb2
                case heb2 => go_simp
                rintro e xq ⟨rfl, hx⟩
                subst hx
                rw [HM.out]
                refine ⟨_, rfl, K0, ?_⟩
                simp only [List.setIfInBounds_toArray, List.set_cons_zero, List.set_cons_succ]
                refine hold_take (i := 3) (d := 38) (v := ?vb3) (listed' := #[true, true, true, true, false, false, false, false, false, false, false, false, false, false, false, false, false, false, false, false, false, false, false, false, false, false, false, false, false, false, false, false, false]) rfl (by kernel_rfl) (by kernel_rfl) (by kernel_rfl) rfl (by rfl) (by kernel_rfl) K0 ?hb3 ?rb3
                case hb3 =>
                  intro w' hSw
                  obtain ⟨k0, k1, k2, k3⟩ := hSw
                  go_simp
                  try with_reducible rfl
                simp only [List.setIfInBounds_toArray, List.set_cons_zero, List.set_cons_succ]
                refine hold_skip (i := 4) (d := 39) (listed' := #[true, true, true, true, true, false, false, false, false, false, false, false, false, false, false, false, false, false, false, false, false, false, false, false, false, false, false, false, false, false, false, false, false]) rfl (by kernel_rfl) (by kernel_rfl) (by kernel_rfl) rfl (by rfl) (by kernel_rfl) K0 ?_
                simp only [List.setIfInBounds_toArray, List.set_cons_zero, List.set_cons_succ]
                refine hold_skip (i := 5) (d := 40) (listed' := #[true, true, true, true, true, true, false, false, false, false, false, false, false, false, false, false, false, false, false, false, false, false, false, false, false, false, false, false, false, false, false, false, false]) rfl (by kernel_rfl) (by kernel_rfl) (by kernel_rfl) rfl (by rfl) (by kernel_rfl) K0 ?_
                simp only [List.setIfInBounds_toArray, List.set_cons_zero, List.set_cons_succ]
                refine hold_skip (i := 6) (d := 41) (listed' := #[true, true, true, true, true, true, true, false, false, false, false, false, false, false, false, false, false, false, false, false, false, false, false, false, false, false, false, false, false, false, false, false, false]) rfl (by kernel_rfl) (by kernel_rfl) (by kernel_rfl) rfl (by rfl) (by kernel_rfl) K0 ?_
                simp only [List.setIfInBounds_toArray, List.set_cons_zero, List.set_cons_succ]
                refine hold_skip (i := 7) (d := 42) (listed' := #[true, true, true, true, true, true, true, true, false, false, false, false, false, false, false, false, false, false, false, false, false, false, false, false, false, false, false, false, false, false, false, false, false]) rfl (by kernel_rfl) (by kernel_rfl) (by kernel_rfl) rfl (by rfl) (by kernel_rfl) K0 ?_
                simp only [List.setIfInBounds_toArray, List.set_cons_zero, List.set_cons_succ]
                refine hold_skip (i := 8) (d := 43) (listed' := #[true, true, true, true, true, true, true, true, true, false, false, false, false, false, false, false, false, false, false, false, false, false, false, false, false, false, false, false, false, false, false, false, false]) rfl (by kernel_rfl) (by kernel_rfl) (by kernel_rfl) rfl (by rfl) (by kernel_rfl) K0 ?_
                simp only [List.setIfInBounds_toArray, List.set_cons_zero, List.set_cons_succ]
                refine hold_skip (i := 9) (d := 44) (listed' := #[true, true, true, true, true, true, true, true, true, true, false, false, false, false, false, false, false, false, false, false, false, false, false, false, false, false, false, false, false, false, false, false, false]) rfl (by kernel_rfl) (by kernel_rfl) (by kernel_rfl) rfl (by rfl) (by kernel_rfl) K0 ?_
                simp only [List.setIfInBounds_toArray, List.set_cons_zero, List.set_cons_succ]
                refine hold_skip (i := 10) (d := 45) (listed' := #[true, true, true, true, true, true, true, true, true, true, true, false, false, false, false, false, false, false, false, false, false, false, false, false, false, false, false, false, false, false, false, false, false]) rfl (by kernel_rfl) (by kernel_rfl) (by kernel_rfl) rfl (by rfl) (by kernel_rfl) K0 ?_
                simp only [List.setIfInBounds_toArray, List.set_cons_zero, List.set_cons_succ]
                refine hold_skip (i := 11) (d := 46) (listed' := #[true, true, true, true, true, true, true, true, true, true, true, true, false, false, false, false, false, false, false, false, false, false, false, false, false, false, false, false, false, false, false, false, false]) rfl (by kernel_rfl) (by kernel_rfl) (by kernel_rfl) rfl (by rfl) (by kernel_rfl) K0 ?_
                simp only [List.setIfInBounds_toArray, List.set_cons_zero, List.set_cons_succ]
                refine hold_skip (i := 12) (d := 47) (listed' := #[true, true, true, true, true, true, true, true, true, true, true, true, true, false, false, false, false, false, false, false, false, false, false, false, false, false, false, false, false, false, false, false, false]) rfl (by kernel_rfl) (by kernel_rfl) (by kernel_rfl) rfl (by rfl) (by kernel_rfl) K0 ?_
                simp only [List.setIfInBounds_toArray, List.set_cons_zero, List.set_cons_succ]
                refine hold_take (i := 13) (d := 48) (v := ?vb13) (listed' := #[true, true, true, true, true, true, true, true, true, true, true, true, true, true, false, false, false, false, false, false, false, false, false, false, false, false, false, false, false, false, false, false, false]) rfl (by kernel_rfl) (by kernel_rfl) (by kernel_rfl) rfl (by rfl) (by kernel_rfl) K0 ?hb13 ?rb13
                case hb13 =>
                  intro w' hSw
                  obtain ⟨k0, k1, k2, k3⟩ := hSw
                  go_simp
                  try with_reducible rfl
                simp only [List.setIfInBounds_toArray, List.set_cons_zero, List.set_cons_succ]
                refine hold_take (i := 14) (d := 49) (v := ?vb14) (listed' := #[true, true, true, true, true, true, true, true, true, true, true, true, true, true, true, false, false, false, false, false, false, false, false, false, false, false, false, false, false, false, false, false, false]) rfl (by kernel_rfl) (by kernel_rfl) (by kernel_rfl) rfl (by rfl) (by kernel_rfl) K0 ?hb14 ?rb14
                case hb14 =>
                  intro w' hSw
                  obtain ⟨k0, k1, k2, k3⟩ := hSw
                  go_simp
                  try with_reducible rfl
                simp only [List.setIfInBounds_toArray, List.set_cons_zero, List.set_cons_succ]
                refine hold_take (i := 15) (d := 50) (v := ?vb15) (listed' := #[true, true, true, true, true, true, true, true, true, true, true, true, true, true, true, true, false, false, false, false, false, false, false, false, false, false, false, false, false, false, false, false, false]) rfl (by kernel_rfl) (by kernel_rfl) (by kernel_rfl) rfl (by rfl) (by kernel_rfl) K0 ?hb15 ?rb15
                case hb15 =>
                  intro w' hSw
                  obtain ⟨k0, k1, k2, k3⟩ := hSw
                  go_simp
                  try with_reducible rfl
                simp only [List.setIfInBounds_toArray, List.set_cons_zero, List.set_cons_succ]
                refine hold_call (i := 16) (d := 51) (listed' := #[true, true, true, true, true, true, true, true, true, true, true, true, true, true, true, true, true, false, false, false, false, false, false, false, false, false, false, false, false, false, false, false, false]) rfl (by kernel_rfl) rfl (by rfl) (by kernel_rfl) ?heb16 (spec_KeepsOk (nc := nc) Hd0.out.log) ?hcb16
                case heb16 => go_simp
                rintro e x1 ⟨rfl, bb1⟩
                rw [HK.out]
                have Hd1 := Lib.hid (Hd0.out.step bb1)
                have hE1 := hE0.trans (bb1.mono hE0.size)
                have hv_1 := ownsRow_below hv_0 bb1 (Nat.le_refl _)
                have K1 := (show _ ∧ _ ∧ _ ∧ _ from ⟨Hd1.out.box.c0, Hd1.out.box.c1, (Hd1.out.log.mat.sq HS.out hlt ha).2.1, (Hd1.out.log.mat.sq HS.out hlt ha).2.2.trans (by rw [HZ.out])⟩)
                clear Hd0 K0 hE0 hv_0 bb1
                refine ⟨_, rfl, K1, ?_⟩
                simp only [List.setIfInBounds_toArray, List.set_cons_zero, List.set_cons_succ]
                refine hold_take (i := 17) (d := 52) (v := ?vb17) (listed' := #[true, true, true, true, true, true, true, true, true, true, true, true, true, true, true, true, true, true, false, false, false, false, false, false, false, false, false, false, false, false, false, false, false]) rfl (by kernel_rfl) (by kernel_rfl) (by kernel_rfl) rfl (by rfl) (by kernel_rfl) K1 ?hb17 ?rb17
                case hb17 =>
                  intro w' hSw
                  obtain ⟨k0, k1, k2, k3⟩ := hSw
                  go_simp
                  try with_reducible rfl
                simp only [List.setIfInBounds_toArray, List.set_cons_zero, List.set_cons_succ]
                refine hold_skip (i := 18) (d := 53) (listed' := #[true, true, true, true, true, true, true, true, true, true, true, true, true, true, true, true, true, true, true, false, false, false, false, false, false, false, false, false, false, false, false, false, false]) rfl (by kernel_rfl) (by kernel_rfl) (by kernel_rfl) rfl (by rfl) (by kernel_rfl) K1 ?_
                simp only [List.setIfInBounds_toArray, List.set_cons_zero, List.set_cons_succ]
                refine hold_skip (i := 19) (d := 54) (listed' := #[true, true, true, true, true, true, true, true, true, true, true, true, true, true, true, true, true, true, true, true, false, false, false, false, false, false, false, false, false, false, false, false, false]) rfl (by kernel_rfl) (by kernel_rfl) (by kernel_rfl) rfl (by rfl) (by kernel_rfl) K1 ?_
                simp only [List.setIfInBounds_toArray, List.set_cons_zero, List.set_cons_succ]
                refine hold_skip (i := 21) (d := 56) (listed' := #[true, true, true, true, true, true, true, true, true, true, true, true, true, true, true, true, true, true, true, true, false, true, false, false, false, false, false, false, false, false, false, false, false]) rfl (by kernel_rfl) (by kernel_rfl) (by kernel_rfl) rfl (by rfl) (by kernel_rfl) K1 ?_
                simp only [List.setIfInBounds_toArray, List.set_cons_zero, List.set_cons_succ]
                refine hold_skip (i := 22) (d := 57) (listed' := #[true, true, true, true, true, true, true, true, true, true, true, true, true, true, true, true, true, true, true, true, false, true, true, false, false, false, false, false, false, false, false, false, false]) rfl (by kernel_rfl) (by kernel_rfl) (by kernel_rfl) rfl (by rfl) (by kernel_rfl) K1 ?_
                simp only [List.setIfInBounds_toArray, List.set_cons_zero, List.set_cons_succ]
                refine hold_skip (i := 23) (d := 58) (listed' := #[true, true, true, true, true, true, true, true, true, true, true, true, true, true, true, true, true, true, true, true, false, true, true, true, false, false, false, false, false, false, false, false, false]) rfl (by kernel_rfl) (by kernel_rfl) (by kernel_rfl) rfl (by rfl) (by kernel_rfl) K1 ?_
                simp only [List.setIfInBounds_toArray, List.set_cons_zero, List.set_cons_succ]
                refine hold_skip (i := 24) (d := 59) (listed' := #[true, true, true, true, true, true, true, true, true, true, true, true, true, true, true, true, true, true, true, true, false, true, true, true, true, false, false, false, false, false, false, false, false]) rfl (by kernel_rfl) (by kernel_rfl) (by kernel_rfl) rfl (by rfl) (by kernel_rfl) K1 ?_
                simp only [List.setIfInBounds_toArray, List.set_cons_zero, List.set_cons_succ]
                refine hold_skip (i := 25) (d := 60) (listed' := #[true, true, true, true, true, true, true, true, true, true, true, true, true, true, true, true, true, true, true, true, false, true, true, true, true, true, false, false, false, false, false, false, false]) rfl (by kernel_rfl) (by kernel_rfl) (by kernel_rfl) rfl (by rfl) (by kernel_rfl) K1 ?_
                simp only [List.setIfInBounds_toArray, List.set_cons_zero, List.set_cons_succ]
                refine hold_skip (i := 26) (d := 61) (listed' := #[true, true, true, true, true, true, true, true, true, true, true, true, true, true, true, true, true, true, true, true, false, true, true, true, true, true, true, false, false, false, false, false, false]) rfl (by kernel_rfl) (by kernel_rfl) (by kernel_rfl) rfl (by rfl) (by kernel_rfl) K1 ?_
                simp only [List.setIfInBounds_toArray, List.set_cons_zero, List.set_cons_succ]
                refine hold_skip (i := 27) (d := 62) (listed' := #[true, true, true, true, true, true, true, true, true, true, true, true, true, true, true, true, true, true, true, true, false, true, true, true, true, true, true, true, false, false, false, false, false]) rfl (by kernel_rfl) (by kernel_rfl) (by kernel_rfl) rfl (by rfl) (by kernel_rfl) K1 ?_
                simp only [List.setIfInBounds_toArray, List.set_cons_zero, List.set_cons_succ]
                refine hold_skip (i := 28) (d := 63) (listed' := #[true, true, true, true, true, true, true, true, true, true, true, true, true, true, true, true, true, true, true, true, false, true, true, true, true, true, true, true, true, false, false, false, false]) rfl (by kernel_rfl) (by kernel_rfl) (by kernel_rfl) rfl (by rfl) (by kernel_rfl) K1 ?_
                simp only [List.setIfInBounds_toArray, List.set_cons_zero, List.set_cons_succ]
                refine hold_skip (i := 29) (d := 64) (listed' := #[true, true, true, true, true, true, true, true, true, true, true, true, true, true, true, true, true, true, true, true, false, true, true, true, true, true, true, true, true, true, false, false, false]) rfl (by kernel_rfl) (by kernel_rfl) (by kernel_rfl) rfl (by rfl) (by kernel_rfl) K1 ?_
                simp only [List.setIfInBounds_toArray, List.set_cons_zero, List.set_cons_succ]
                refine hold_skip (i := 20) (d := 55) (listed' := #[true, true, true, true, true, true, true, true, true, true, true, true, true, true, true, true, true, true, true, true, true, true, true, true, true, true, true, true, true, true, false, false, false]) rfl (by kernel_rfl) (by kernel_rfl) (by kernel_rfl) rfl (by rfl) (by kernel_rfl) K1 ?_
                simp only [List.setIfInBounds_toArray, List.set_cons_zero, List.set_cons_succ]
                refine hold_skip (i := 30) (d := 65) (listed' := #[true, true, true, true, true, true, true, true, true, true, true, true, true, true, true, true, true, true, true, true, true, true, true, true, true, true, true, true, true, true, true, false, false]) rfl (by kernel_rfl) (by kernel_rfl) (by kernel_rfl) rfl (by rfl) (by kernel_rfl) K1 ?_
                simp only [List.setIfInBounds_toArray, List.set_cons_zero, List.set_cons_succ]
                refine hold_take (i := 31) (d := 66) (v := ?vb31) (listed' := #[true, true, true, true, true, true, true, true, true, true, true, true, true, true, true, true, true, true, true, true, true, true, true, true, true, true, true, true, true, true, true, true, false]) rfl (by kernel_rfl) (by kernel_rfl) (by kernel_rfl) rfl (by rfl) (by kernel_rfl) K1 ?hb31 ?rb31
                case hb31 =>
                  intro w' hSw
                  obtain ⟨k0, k1, k2, k3⟩ := hSw
                  go_simp
                  try with_reducible rfl
                simp only [List.setIfInBounds_toArray, List.set_cons_zero, List.set_cons_succ]
                refine hold_take (i := 32) (d := 67) (v := ?vb32) (listed' := #[true, true, true, true, true, true, true, true, true, true, true, true, true, true, true, true, true, true, true, true, true, true, true, true, true, true, true, true, true, true, true, true, true]) rfl (by kernel_rfl) (by kernel_rfl) (by kernel_rfl) rfl (by rfl) (by kernel_rfl) K1 ?hb32 ?rb32
                case hb32 =>
                  intro w' hSw
                  obtain ⟨k0, k1, k2, k3⟩ := hSw
                  go_simp
                  try with_reducible rfl
                simp only [List.setIfInBounds_toArray, List.set_cons_zero, List.set_cons_succ]
                refine hold_done (by kernel_rfl) ?_ _
                clear Hd1 K1 hv_1
                go_wp2_with fail
                go_roundw
                case rel => exact ⟨j + 1, by omega, by go_num, hE1⟩
                case measure => simp [intOf]; omega
            | true =>
              have HM : Hid (decide ((j : Int) ∈ xs) = true) := hM.trans hu
              have HZ := Lib.hid (HLe.out j hlt hu)
              clear hM hk hu
              go_wp2_with fail
              have hb0 : Below wr.heap.size wr wr.drew := (Below.refl _ wr).drew
              have Hd0 := Lib.hid (Hr.step hb0)
              have hE0 : Below w4.heap.size w4 wr.drew := hD.drew
              have hv_0 := ownsRow_below hv4 hE0 (Nat.le_refl _)
              have K0 := (show _ ∧ _ ∧ _ ∧ _ from ⟨Hd0.out.box.c0, Hd0.out.box.c1, (Hd0.out.log.mat.sq HS.out hlt ha).2.1, (Hd0.out.log.mat.sq HS.out hlt ha).2.2.trans (by rw [HZ.out])⟩)
              clear Hr q0 q1 hb0
              refine region_plain (fuel := 33) (listed := #[false, false, false, false, false, false, false, false, false, false, false, false, false, false, false, false, false, false, false, false, false, false, false, false, false, false, false, false, false, false, false, false, false]) (fun w' => w'.cell? ⟨w1.heap.size, 0, none⟩ = some (.slice (some ⟨l.b, l.o, none⟩) m.n l.cap) ∧ w'.cell? ⟨w1.heap.size, 1, none⟩ = some (.slice na m.n nc) ∧ w'.cell? ⟨l.b, l.o + j, none⟩ = some (.slice (some ⟨l.G j, l.O j, none⟩) m.n (l.C j)) ∧ w'.cell? ⟨l.G j, l.O j + a, none⟩ = some (.int .i64 1)) (by kernel_rfl) (by kernel_rfl) (by kernel_rfl) ?_
              refine hold_take (i := 0) (d := 35) (v := ?vc0) (listed' := #[true, false, false, false, false, false, false, false, false, false, false, false, false, false, false, false, false, false, false, false, false, false, false, false, false, false, false, false, false, false, false, false, false]) rfl (by kernel_rfl) (by kernel_rfl) (by kernel_rfl) rfl (by rfl) (by kernel_rfl) K0 ?hc0 ?rc0
              case hc0 =>
                intro w' hSw
                obtain ⟨k0, k1, k2, k3⟩ := hSw
                go_simp
                try with_reducible rfl
              simp only [List.setIfInBounds_toArray, List.set_cons_zero, List.set_cons_succ]
              refine hold_take (i := 1) (d := 36) (v := ?vc1) (listed' := #[true, true, false, false, false, false, false, false, false, false, false, false, false, false, false, false, false, false, false, false, false, false, false, false, false, false, false, false, false, false, false, false, false]) rfl (by kernel_rfl) (by kernel_rfl) (by kernel_rfl) rfl (by rfl) (by kernel_rfl) K0 ?hc1 ?rc1
              case hc1 =>
                intro w' hSw
                obtain ⟨k0, k1, k2, k3⟩ := hSw
                go_simp
                try with_reducible rfl
              simp only [List.setIfInBounds_toArray, List.set_cons_zero, List.set_cons_succ]
              refine hold_call (i := 2) (d := 37) (listed' := #[true, true, true, false, false, false, false, false, false, false, false, false, false, false, false, false, false, false, false, false, false, false, false, false, false, false, false, false, false, false, false, false, false]) rfl (by kernel_rfl) rfl (by rfl) (by kernel_rfl) ?hec2 (hasB_any (x := (j : Int)) (by omega) hv_0) ?hcc2
              case hec2 => go_simp
              rintro e xq ⟨rfl, hx⟩
              subst hx
              rw [HM.out]
              refine ⟨_, rfl, K0, ?_⟩
              simp only [List.setIfInBounds_toArray, List.set_cons_zero, List.set_cons_succ]
              refine hold_take (i := 3) (d := 38) (v := ?vc3) (listed' := #[true, true, true, true, false, false, false, false, false, false, false, false, false, false, false, false, false, false, false, false, false, false, false, false, false, false, false, false, false, false, false, false, false]) rfl (by kernel_rfl) (by kernel_rfl) (by kernel_rfl) rfl (by rfl) (by kernel_rfl) K0 ?hc3 ?rc3
              case hc3 =>
                intro w' hSw
                obtain ⟨k0, k1, k2, k3⟩ := hSw
                go_simp
                try with_reducible rfl
              simp only [List.setIfInBounds_toArray, List.set_cons_zero, List.set_cons_succ]
              refine hold_take (i := 4) (d := 39) (v := ?vc4) (listed' := #[true, true, true, true, true, false, false, false, false, false, false, false, false, false, false, false, false, false, false, false, false, false, false, false, false, false, false, false, false, false, false, false, false]) rfl (by kernel_rfl) (by kernel_rfl) (by kernel_rfl) rfl (by rfl) (by kernel_rfl) K0 ?hc4 ?rc4
              case hc4 =>
                intro w' hSw
                obtain ⟨k0, k1, k2, k3⟩ := hSw
                go_simp
                try with_reducible rfl
              simp only [List.setIfInBounds_toArray, List.set_cons_zero, List.set_cons_succ]
              refine hold_take (i := 5) (d := 40) (v := ?vc5) (listed' := #[true, true, true, true, true, true, false, false, false, false, false, false, false, false, false, false, false, false, false, false, false, false, false, false, false, false, false, false, false, false, false, false, false]) rfl (by kernel_rfl) (by kernel_rfl) (by kernel_rfl) rfl (by rfl) (by kernel_rfl) K0 ?hc5 ?rc5
              case hc5 =>
                intro w' hSw
                obtain ⟨k0, k1, k2, k3⟩ := hSw
                go_simp
                try with_reducible rfl
              simp only [List.setIfInBounds_toArray, List.set_cons_zero, List.set_cons_succ]
              refine hold_take (i := 6) (d := 41) (v := ?vc6) (listed' := #[true, true, true, true, true, true, true, false, false, false, false, false, false, false, false, false, false, false, false, false, false, false, false, false, false, false, false, false, false, false, false, false, false]) rfl (by kernel_rfl) (by kernel_rfl) (by kernel_rfl) rfl (by rfl) (by kernel_rfl) K0 ?hc6 ?rc6
              case hc6 =>
                intro w' hSw
                obtain ⟨k0, k1, k2, k3⟩ := hSw
                go_simp
                try with_reducible rfl
              simp only [List.setIfInBounds_toArray, List.set_cons_zero, List.set_cons_succ]
              refine hold_take (i := 7) (d := 42) (v := ?vc7) (listed' := #[true, true, true, true, true, true, true, true, false, false, false, false, false, false, false, false, false, false, false, false, false, false, false, false, false, false, false, false, false, false, false, false, false]) rfl (by kernel_rfl) (by kernel_rfl) (by kernel_rfl) rfl (by rfl) (by kernel_rfl) K0 ?hc7 ?rc7
              case hc7 =>
                intro w' hSw
                obtain ⟨k0, k1, k2, k3⟩ := hSw
                go_simp
                try with_reducible rfl
              simp only [List.setIfInBounds_toArray, List.set_cons_zero, List.set_cons_succ]
              refine hold_take (i := 8) (d := 43) (v := ?vc8) (listed' := #[true, true, true, true, true, true, true, true, true, false, false, false, false, false, false, false, false, false, false, false, false, false, false, false, false, false, false, false, false, false, false, false, false]) rfl (by kernel_rfl) (by kernel_rfl) (by kernel_rfl) rfl (by rfl) (by kernel_rfl) K0 ?hc8 ?rc8
              case hc8 =>
                intro w' hSw
                obtain ⟨k0, k1, k2, k3⟩ := hSw
                go_simp
                try with_reducible rfl
              simp only [List.setIfInBounds_toArray, List.set_cons_zero, List.set_cons_succ]
              refine hold_take (i := 9) (d := 44) (v := ?vc9) (listed' := #[true, true, true, true, true, true, true, true, true, true, false, false, false, false, false, false, false, false, false, false, false, false, false, false, false, false, false, false, false, false, false, false, false]) rfl (by kernel_rfl) (by kernel_rfl) (by kernel_rfl) rfl (by rfl) (by kernel_rfl) K0 ?hc9 ?rc9
              case hc9 =>
                intro w' hSw
                obtain ⟨k0, k1, k2, k3⟩ := hSw
                go_simp
                try with_reducible rfl
              simp only [List.setIfInBounds_toArray, List.set_cons_zero, List.set_cons_succ]
              refine hold_take (i := 10) (d := 45) (v := ?vc10) (listed' := #[true, true, true, true, true, true, true, true, true, true, true, false, false, false, false, false, false, false, false, false, false, false, false, false, false, false, false, false, false, false, false, false, false]) rfl (by kernel_rfl) (by kernel_rfl) (by kernel_rfl) rfl (by rfl) (by kernel_rfl) K0 ?hc10 ?rc10
              case hc10 =>
                intro w' hSw
                obtain ⟨k0, k1, k2, k3⟩ := hSw
                go_simp
                try with_reducible rfl
              simp only [List.setIfInBounds_toArray, List.set_cons_zero, List.set_cons_succ]
              refine hold_take (i := 11) (d := 46) (v := ?vc11) (listed' := #[true, true, true, true, true, true, true, true, true, true, true, true, false, false, false, false, false, false, false, false, false, false, false, false, false, false, false, false, false, false, false, false, false]) rfl (by kernel_rfl) (by kernel_rfl) (by kernel_rfl) rfl (by rfl) (by kernel_rfl) K0 ?hc11 ?rc11
              case hc11 =>
                intro w' hSw
                obtain ⟨k0, k1, k2, k3⟩ := hSw
                go_simp
                try with_reducible rfl
              simp only [List.setIfInBounds_toArray, List.set_cons_zero, List.set_cons_succ]
              refine hold_take (i := 12) (d := 47) (v := ?vc12) (listed' := #[true, true, true, true, true, true, true, true, true, true, true, true, true, false, false, false, false, false, false, false, false, false, false, false, false, false, false, false, false, false, false, false, false]) rfl (by kernel_rfl) (by kernel_rfl) (by kernel_rfl) rfl (by rfl) (by kernel_rfl) K0 ?hc12 ?rc12
              case hc12 =>
                intro w' hSw
                obtain ⟨k0, k1, k2, k3⟩ := hSw
                go_simp
                try with_reducible rfl
              simp only [List.setIfInBounds_toArray, List.set_cons_zero, List.set_cons_succ]
              refine hold_take (i := 13) (d := 48) (v := ?vc13) (listed' := #[true, true, true, true, true, true, true, true, true, true, true, true, true, true, false, false, false, false, false, false, false, false, false, false, false, false, false, false, false, false, false, false, false]) rfl (by kernel_rfl) (by kernel_rfl) (by kernel_rfl) rfl (by rfl) (by kernel_rfl) K0 ?hc13 ?rc13
              case hc13 =>
                intro w' hSw
                obtain ⟨k0, k1, k2, k3⟩ := hSw
                go_simp
                try with_reducible rfl
              simp only [List.setIfInBounds_toArray, List.set_cons_zero, List.set_cons_succ]
              refine hold_take (i := 14) (d := 49) (v := ?vc14) (listed' := #[true, true, true, true, true, true, true, true, true, true, true, true, true, true, true, false, false, false, false, false, false, false, false, false, false, false, false, false, false, false, false, false, false]) rfl (by kernel_rfl) (by kernel_rfl) (by kernel_rfl) rfl (by rfl) (by kernel_rfl) K0 ?hc14 ?rc14
              case hc14 =>
                intro w' hSw
                obtain ⟨k0, k1, k2, k3⟩ := hSw
                go_simp
                try with_reducible rfl
              simp only [List.setIfInBounds_toArray, List.set_cons_zero, List.set_cons_succ]
              refine hold_take (i := 15) (d := 50) (v := ?vc15) (listed' := #[true, true, true, true, true, true, true, true, true, true, true, true, true, true, true, true, false, false, false, false, false, false, false, false, false, false, false, false, false, false, false, false, false]) rfl (by kernel_rfl) (by kernel_rfl) (by kernel_rfl) rfl (by rfl) (by kernel_rfl) K0 ?hc15 ?rc15
              case hc15 =>
                intro w' hSw
                obtain ⟨k0, k1, k2, k3⟩ := hSw
                go_simp
                try with_reducible rfl
              simp only [List.setIfInBounds_toArray, List.set_cons_zero, List.set_cons_succ]
              refine hold_call (i := 16) (d := 51) (listed' := #[true, true, true, true, true, true, true, true, true, true, true, true, true, true, true, true, true, false, false, false, false, false, false, false, false, false, false, false, false, false, false, false, false]) rfl (by kernel_rfl) rfl (by rfl) (by kernel_rfl) ?hec16 (spec_KeepsOk (nc := nc) Hd0.out.log) ?hcc16
              case hec16 => go_simp
              rintro e x1 ⟨rfl, bb1⟩
              rw [HK.out]
              have Hd1 := Lib.hid (Hd0.out.step bb1)
              have hE1 := hE0.trans (bb1.mono hE0.size)
              have hv_1 := ownsRow_below hv_0 bb1 (Nat.le_refl _)
              have K1 := (show _ ∧ _ ∧ _ ∧ _ from ⟨Hd1.out.box.c0, Hd1.out.box.c1, (Hd1.out.log.mat.sq HS.out hlt ha).2.1, (Hd1.out.log.mat.sq HS.out hlt ha).2.2.trans (by rw [HZ.out])⟩)
              clear Hd0 K0 hE0 hv_0 bb1
              refine ⟨_, rfl, K1, ?_⟩
              simp only [List.setIfInBounds_toArray, List.set_cons_zero, List.set_cons_succ]
              refine hold_take (i := 17) (d := 52) (v := ?vc17) (listed' := #[true, true, true, true, true, true, true, true, true, true, true, true, true, true, true, true, true, true, false, false, false, false, false, false, false, false, false, false, false, false, false, false, false]) rfl (by kernel_rfl) (by kernel_rfl) (by kernel_rfl) rfl (by rfl) (by kernel_rfl) K1 ?hc17 ?rc17
              case hc17 =>
                intro w' hSw
                obtain ⟨k0, k1, k2, k3⟩ := hSw
                go_simp
                try with_reducible rfl
              simp only [List.setIfInBounds_toArray, List.set_cons_zero, List.set_cons_succ]
              refine hold_skip (i := 18) (d := 53) (listed' := #[true, true, true, true, true, true, true, true, true, true, true, true, true, true, true, true, true, true, true, false, false, false, false, false, false, false, false, false, false, false, false, false, false]) rfl (by kernel_rfl) (by kernel_rfl) (by kernel_rfl) rfl (by rfl) (by kernel_rfl) K1 ?_
              simp only [List.setIfInBounds_toArray, List.set_cons_zero, List.set_cons_succ]
              refine hold_skip (i := 19) (d := 54) (listed' := #[true, true, true, true, true, true, true, true, true, true, true, true, true, true, true, true, true, true, true, true, false, false, false, false, false, false, false, false, false, false, false, false, false]) rfl (by kernel_rfl) (by kernel_rfl) (by kernel_rfl) rfl (by rfl) (by kernel_rfl) K1 ?_
              simp only [List.setIfInBounds_toArray, List.set_cons_zero, List.set_cons_succ]
              refine hold_skip (i := 21) (d := 56) (listed' := #[true, true, true, true, true, true, true, true, true, true, true, true, true, true, true, true, true, true, true, true, false, true, false, false, false, false, false, false, false, false, false, false, false]) rfl (by kernel_rfl) (by kernel_rfl) (by kernel_rfl) rfl (by rfl) (by kernel_rfl) K1 ?_
              simp only [List.setIfInBounds_toArray, List.set_cons_zero, List.set_cons_succ]
              refine hold_skip (i := 22) (d := 57) (listed' := #[true, true, true, true, true, true, true, true, true, true, true, true, true, true, true, true, true, true, true, true, false, true, true, false, false, false, false, false, false, false, false, false, false]) rfl (by kernel_rfl) (by kernel_rfl) (by kernel_rfl) rfl (by rfl) (by kernel_rfl) K1 ?_
              simp only [List.setIfInBounds_toArray, List.set_cons_zero, List.set_cons_succ]
              refine hold_skip (i := 23) (d := 58) (listed' := #[true, true, true, true, true, true, true, true, true, true, true, true, true, true, true, true, true, true, true, true, false, true, true, true, false, false, false, false, false, false, false, false, false]) rfl (by kernel_rfl) (by kernel_rfl) (by kernel_rfl) rfl (by rfl) (by kernel_rfl) K1 ?_
              simp only [List.setIfInBounds_toArray, List.set_cons_zero, List.set_cons_succ]
              refine hold_skip (i := 24) (d := 59) (listed' := #[true, true, true, true, true, true, true, true, true, true, true, true, true, true, true, true, true, true, true, true, false, true, true, true, true, false, false, false, false, false, false, false, false]) rfl (by kernel_rfl) (by kernel_rfl) (by kernel_rfl) rfl (by rfl) (by kernel_rfl) K1 ?_
              simp only [List.setIfInBounds_toArray, List.set_cons_zero, List.set_cons_succ]
              refine hold_skip (i := 25) (d := 60) (listed' := #[true, true, true, true, true, true, true, true, true, true, true, true, true, true, true, true, true, true, true, true, false, true, true, true, true, true, false, false, false, false, false, false, false]) rfl (by kernel_rfl) (by kernel_rfl) (by kernel_rfl) rfl (by rfl) (by kernel_rfl) K1 ?_
              simp only [List.setIfInBounds_toArray, List.set_cons_zero, List.set_cons_succ]
              refine hold_skip (i := 26) (d := 61) (listed' := #[true, true, true, true, true, true, true, true, true, true, true, true, true, true, true, true, true, true, true, true, false, true, true, true, true, true, true, false, false, false, false, false, false]) rfl (by kernel_rfl) (by kernel_rfl) (by kernel_rfl) rfl (by rfl) (by kernel_rfl) K1 ?_
              simp only [List.setIfInBounds_toArray, List.set_cons_zero, List.set_cons_succ]
              refine hold_skip (i := 27) (d := 62) (listed' := #[true, true, true, true, true, true, true, true, true, true, true, true, true, true, true, true, true, true, true, true, false, true, true, true, true, true, true, true, false, false, false, false, false]) rfl (by kernel_rfl) (by kernel_rfl) (by kernel_rfl) rfl (by rfl) (by kernel_rfl) K1 ?_
              simp only [List.setIfInBounds_toArray, List.set_cons_zero, List.set_cons_succ]
              refine hold_skip (i := 28) (d := 63) (listed' := #[true, true, true, true, true, true, true, true, true, true, true, true, true, true, true, true, true, true, true, true, false, true, true, true, true, true, true, true, true, false, false, false, false]) rfl (by kernel_rfl) (by kernel_rfl) (by kernel_rfl) rfl (by rfl) (by kernel_rfl) K1 ?_
              simp only [List.setIfInBounds_toArray, List.set_cons_zero, List.set_cons_succ]
              refine hold_skip (i := 29) (d := 64) (listed' := #[true, true, true, true, true, true, true, true, true, true, true, true, true, true, true, true, true, true, true, true, false, true, true, true, true, true, true, true, true, true, false, false, false]) rfl (by kernel_rfl) (by kernel_rfl) (by kernel_rfl) rfl (by rfl) (by kernel_rfl) K1 ?_
              simp only [List.setIfInBounds_toArray, List.set_cons_zero, List.set_cons_succ]
              refine hold_skip (i := 20) (d := 55) (listed' := #[true, true, true, true, true, true, true, true, true, true, true, true, true, true, true, true, true, true, true, true, true, true, true, true, true, true, true, true, true, true, false, false, false]) rfl (by kernel_rfl) (by kernel_rfl) (by kernel_rfl) rfl (by rfl) (by kernel_rfl) K1 ?_
              simp only [List.setIfInBounds_toArray, List.set_cons_zero, List.set_cons_succ]
              refine hold_skip (i := 30) (d := 65) (listed' := #[true, true, true, true, true, true, true, true, true, true, true, true, true, true, true, true, true, true, true, true, true, true, true, true, true, true, true, true, true, true, true, false, false]) rfl (by kernel_rfl) (by kernel_rfl) (by kernel_rfl) rfl (by rfl) (by kernel_rfl) K1 ?_
              simp only [List.setIfInBounds_toArray, List.set_cons_zero, List.set_cons_succ]
              refine hold_take (i := 31) (d := 66) (v := ?vc31) (listed' := #[true, true, true, true, true, true, true, true, true, true, true, true, true, true, true, true, true, true, true, true, true, true, true, true, true, true, true, true, true, true, true, true, false]) rfl (by kernel_rfl) (by kernel_rfl) (by kernel_rfl) rfl (by rfl) (by kernel_rfl) K1 ?hc31 ?rc31
              case hc31 =>
                intro w' hSw
                obtain ⟨k0, k1, k2, k3⟩ := hSw
                go_simp
                try with_reducible rfl
              simp only [List.setIfInBounds_toArray, List.set_cons_zero, List.set_cons_succ]
              refine hold_take (i := 32) (d := 67) (v := ?vc32) (listed' := #[true, true, true, true, true, true, true, true, true, true, true, true, true, true, true, true, true, true, true, true, true, true, true, true, true, true, true, true, true, true, true, true, true]) rfl (by kernel_rfl) (by kernel_rfl) (by kernel_rfl) rfl (by rfl) (by kernel_rfl) K1 ?hc32 ?rc32
              case hc32 =>
                intro w' hSw
                obtain ⟨k0, k1, k2, k3⟩ := hSw
                go_simp
                try with_reducible rfl
              simp only [List.setIfInBounds_toArray, List.set_cons_zero, List.set_cons_succ]
              refine hold_done (by kernel_rfl) ?_ _
              clear Hd1 K1 hv_1
              go_wp2_with fail
              go_roundw
              case rel => exact ⟨j + 1, by omega, by go_num, hE1⟩
              case measure => simp [intOf]; omega
          | true =>
            have HK : Hid (keepsV m m.n zz = true) := hK.trans hk
            have hu := HKe.out hk j hlt
            rcases leB_cases HS.out hlt ha with ⟨l1, z1⟩ | ⟨l1, z1⟩
            · have HM : Hid (decide ((j : Int) ∈ xs) = true) := hM.trans (hu.trans l1)
              have HZ := Lib.hid z1
              clear hM hk hu l1 z1
              go_wp2_with fail
              have hb0 : Below wr.heap.size wr wr.drew := (Below.refl _ wr).drew
              have Hd0 := Lib.hid (Hr.step hb0)
              have hE0 : Below w4.heap.size w4 wr.drew := hD.drew
              have hv_0 := ownsRow_below hv4 hE0 (Nat.le_refl _)
              have K0 := (show _ ∧ _ ∧ _ ∧ _ from ⟨Hd0.out.box.c0, Hd0.out.box.c1, (Hd0.out.log.mat.sq HS.out hlt ha).2.1, (Hd0.out.log.mat.sq HS.out hlt ha).2.2.trans (by rw [HZ.out])⟩)
              clear Hr q0 q1 hb0
              refine region_plain (fuel := 33) (listed := #[false, false, false, false, false, false, false, false, false, false, false, false, false, false, false, false, false, false, false, false, false, false, false, false, false, false, false, false, false, false, false, false, false]) (fun w' => w'.cell? ⟨w1.heap.size, 0, none⟩ = some (.slice (some ⟨l.b, l.o, none⟩) m.n l.cap) ∧ w'.cell? ⟨w1.heap.size, 1, none⟩ = some (.slice na m.n nc) ∧ w'.cell? ⟨l.b, l.o + j, none⟩ = some (.slice (some ⟨l.G j, l.O j, none⟩) m.n (l.C j)) ∧ w'.cell? ⟨l.G j, l.O j + a, none⟩ = some (.int .i64 1)) (by kernel_rfl) (by kernel_rfl) (by kernel_rfl) ?_
              refine hold_take (i := 0) (d := 35) (v := ?vd0) (listed' := #[true, false, false, false, false, false, false, false, false, false, false, false, false, false, false, false, false, false, false, false, false, false, false, false, false, false, false, false, false, false, false, false, false]) rfl (by kernel_rfl) (by kernel_rfl) (by kernel_rfl) rfl (by rfl) (by kernel_rfl) K0 ?hd0 ?rd0
              case hd0 =>
                intro w' hSw
                obtain ⟨k0, k1, k2, k3⟩ := hSw
                go_simp
                try with_reducible rfl
              simp only [List.setIfInBounds_toArray, List.set_cons_zero, List.set_cons_succ]
              refine hold_take (i := 1) (d := 36) (v := ?vd1) (listed' := #[true, true, false, false, false, false, false, false, false, false, false, false, false, false, false, false, false, false, false, false, false, false, false, false, false, false, false, false, false, false, false, false, false]) rfl (by kernel_rfl) (by kernel_rfl) (by kernel_rfl) rfl (by rfl) (by kernel_rfl) K0 ?hd1 ?rd1
              case hd1 =>
                intro w' hSw
                obtain ⟨k0, k1, k2, k3⟩ := hSw
                go_simp
                try with_reducible rfl
              simp only [List.setIfInBounds_toArray, List.set_cons_zero, List.set_cons_succ]
              refine hold_call (i := 2) (d := 37) (listed' := #[true, true, true, false, false, false, false, false, false, false, false, false, false, false, false, false, false, false, false, false, false, false, false, false, false, false, false, false, false, false, false, false, false]) rfl (by kernel_rfl) rfl (by rfl) (by kernel_rfl) ?hed2 (hasB_any (x := (j : Int)) (by omega) hv_0) ?hcd2
              case hed2 => go_simp
              rintro e xq ⟨rfl, hx⟩
              subst hx
              rw [HM.out]
              refine ⟨_, rfl, K0, ?_⟩
              simp only [List.setIfInBounds_toArray, List.set_cons_zero, List.set_cons_succ]
              refine hold_take (i := 3) (d := 38) (v := ?vd3) (listed' := #[true, true, true, true, false, false, false, false, false, false, false, false, false, false, false, false, false, false, false, false, false, false, false, false, false, false, false, false, false, false, false, false, false]) rfl (by kernel_rfl) (by kernel_rfl) (by kernel_rfl) rfl (by rfl) (by kernel_rfl) K0 ?hd3 ?rd3
              case hd3 =>
                intro w' hSw
                obtain ⟨k0, k1, k2, k3⟩ := hSw
                go_simp
                try with_reducible rfl
              simp only [List.setIfInBounds_toArray, List.set_cons_zero, List.set_cons_succ]
              refine hold_take (i := 4) (d := 39) (v := ?vd4) (listed' := #[true, true, true, true, true, false, false, false, false, false, false, false, false, false, false, false, false, false, false, false, false, false, false, false, false, false, false, false, false, false, false, false, false]) rfl (by kernel_rfl) (by kernel_rfl) (by kernel_rfl) rfl (by rfl) (by kernel_rfl) K0 ?hd4 ?rd4
              case hd4 =>
                intro w' hSw
                obtain ⟨k0, k1, k2, k3⟩ := hSw
                go_simp
                try with_reducible rfl
              simp only [List.setIfInBounds_toArray, List.set_cons_zero, List.set_cons_succ]
              refine hold_take (i := 5) (d := 40) (v := ?vd5) (listed' := #[true, true, true, true, true, true, false, false, false, false, false, false, false, false, false, false, false, false, false, false, false, false, false, false, false, false, false, false, false, false, false, false, false]) rfl (by kernel_rfl) (by kernel_rfl) (by kernel_rfl) rfl (by rfl) (by kernel_rfl) K0 ?hd5 ?rd5
              case hd5 =>
                intro w' hSw
                obtain ⟨k0, k1, k2, k3⟩ := hSw
                go_simp
                try with_reducible rfl
              simp only [List.setIfInBounds_toArray, List.set_cons_zero, List.set_cons_succ]
              refine hold_take (i := 6) (d := 41) (v := ?vd6) (listed' := #[true, true, true, true, true, true, true, false, false, false, false, false, false, false, false, false, false, false, false, false, false, false, false, false, false, false, false, false, false, false, false, false, false]) rfl (by kernel_rfl) (by kernel_rfl) (by kernel_rfl) rfl (by rfl) (by kernel_rfl) K0 ?hd6 ?rd6
              case hd6 =>
                intro w' hSw
                obtain ⟨k0, k1, k2, k3⟩ := hSw
                go_simp
                try with_reducible rfl
              simp only [List.setIfInBounds_toArray, List.set_cons_zero, List.set_cons_succ]
              refine hold_take (i := 7) (d := 42) (v := ?vd7) (listed' := #[true, true, true, true, true, true, true, true, false, false, false, false, false, false, false, false, false, false, false, false, false, false, false, false, false, false, false, false, false, false, false, false, false]) rfl (by kernel_rfl) (by kernel_rfl) (by kernel_rfl) rfl (by rfl) (by kernel_rfl) K0 ?hd7 ?rd7
              case hd7 =>
                intro w' hSw
                obtain ⟨k0, k1, k2, k3⟩ := hSw
                go_simp
                try with_reducible rfl
              simp only [List.setIfInBounds_toArray, List.set_cons_zero, List.set_cons_succ]
              refine hold_take (i := 8) (d := 43) (v := ?vd8) (listed' := #[true, true, true, true, true, true, true, true, true, false, false, false, false, false, false, false, false, false, false, false, false, false, false, false, false, false, false, false, false, false, false, false, false]) rfl (by kernel_rfl) (by kernel_rfl) (by kernel_rfl) rfl (by rfl) (by kernel_rfl) K0 ?hd8 ?rd8
              case hd8 =>
                intro w' hSw
                obtain ⟨k0, k1, k2, k3⟩ := hSw
                go_simp
                try with_reducible rfl
              simp only [List.setIfInBounds_toArray, List.set_cons_zero, List.set_cons_succ]
              refine hold_take (i := 9) (d := 44) (v := ?vd9) (listed' := #[true, true, true, true, true, true, true, true, true, true, false, false, false, false, false, false, false, false, false, false, false, false, false, false, false, false, false, false, false, false, false, false, false]) rfl (by kernel_rfl) (by kernel_rfl) (by kernel_rfl) rfl (by rfl) (by kernel_rfl) K0 ?hd9 ?rd9
              case hd9 =>
                intro w' hSw
                obtain ⟨k0, k1, k2, k3⟩ := hSw
                go_simp
                try with_reducible rfl
              simp only [List.setIfInBounds_toArray, List.set_cons_zero, List.set_cons_succ]
              refine hold_take (i := 10) (d := 45) (v := ?vd10) (listed' := #[true, true, true, true, true, true, true, true, true, true, true, false, false, false, false, false, false, false, false, false, false, false, false, false, false, false, false, false, false, false, false, false, false]) rfl (by kernel_rfl) (by kernel_rfl) (by kernel_rfl) rfl (by rfl) (by kernel_rfl) K0 ?hd10 ?rd10
              case hd10 =>
                intro w' hSw
                obtain ⟨k0, k1, k2, k3⟩ := hSw
                go_simp
                try with_reducible rfl
              simp only [List.setIfInBounds_toArray, List.set_cons_zero, List.set_cons_succ]
              refine hold_take (i := 11) (d := 46) (v := ?vd11) (listed' := #[true, true, true, true, true, true, true, true, true, true, true, true, false, false, false, false, false, false, false, false, false, false, false, false, false, false, false, false, false, false, false, false, false]) rfl (by kernel_rfl) (by kernel_rfl) (by kernel_rfl) rfl (by rfl) (by kernel_rfl) K0 ?hd11 ?rd11
              case hd11 =>
                intro w' hSw
                obtain ⟨k0, k1, k2, k3⟩ := hSw
                go_simp
                try with_reducible rfl
              simp only [List.setIfInBounds_toArray, List.set_cons_zero, List.set_cons_succ]
              refine hold_take (i := 12) (d := 47) (v := ?vd12) (listed' := #[true, true, true, true, true, true, true, true, true, true, true, true, true, false, false, false, false, false, false, false, false, false, false, false, false, false, false, false, false, false, false, false, false]) rfl (by kernel_rfl) (by kernel_rfl) (by kernel_rfl) rfl (by rfl) (by kernel_rfl) K0 ?hd12 ?rd12
              case hd12 =>
                intro w' hSw
                obtain ⟨k0, k1, k2, k3⟩ := hSw
                go_simp
                try with_reducible rfl
              simp only [List.setIfInBounds_toArray, List.set_cons_zero, List.set_cons_succ]
              refine hold_take (i := 13) (d := 48) (v := ?vd13) (listed' := #[true, true, true, true, true, true, true, true, true, true, true, true, true, true, false, false, false, false, false, false, false, false, false, false, false, false, false, false, false, false, false, false, false]) rfl (by kernel_rfl) (by kernel_rfl) (by kernel_rfl) rfl (by rfl) (by kernel_rfl) K0 ?hd13 ?rd13
              case hd13 =>
                intro w' hSw
                obtain ⟨k0, k1, k2, k3⟩ := hSw
                go_simp
                try with_reducible rfl
              simp only [List.setIfInBounds_toArray, List.set_cons_zero, List.set_cons_succ]
              refine hold_take (i := 14) (d := 49) (v := ?vd14) (listed' := #[true, true, true, true, true, true, true, true, true, true, true, true, true, true, true, false, false, false, false, false, false, false, false, false, false, false, false, false, false, false, false, false, false]) rfl (by kernel_rfl) (by kernel_rfl) (by kernel_rfl) rfl (by rfl) (by kernel_rfl) K0 ?hd14 ?rd14
              case hd14 =>
                intro w' hSw
                obtain ⟨k0, k1, k2, k3⟩ := hSw
                go_simp
                try with_reducible rfl
              simp only [List.setIfInBounds_toArray, List.set_cons_zero, List.set_cons_succ]
              refine hold_take (i := 15) (d := 50) (v := ?vd15) (listed' := #[true, true, true, true, true, true, true, true, true, true, true, true, true, true, true, true, false, false, false, false, false, false, false, false, false, false, false, false, false, false, false, false, false]) rfl (by kernel_rfl) (by kernel_rfl) (by kernel_rfl) rfl (by rfl) (by kernel_rfl) K0 ?hd15 ?rd15
              case hd15 =>
                intro w' hSw
                obtain ⟨k0, k1, k2, k3⟩ := hSw
                go_simp
                try with_reducible rfl
              simp only [List.setIfInBounds_toArray, List.set_cons_zero, List.set_cons_succ]
              refine hold_call (i := 16) (d := 51) (listed' := #[true, true, true, true, true, true, true, true, true, true, true, true, true, true, true, true, true, false, false, false, false, false, false, false, false, false, false, false, false, false, false, false, false]) rfl (by kernel_rfl) rfl (by rfl) (by kernel_rfl) ?hed16 (spec_KeepsOk (nc := nc) Hd0.out.log) ?hcd16
              case hed16 => go_simp
              rintro e x1 ⟨rfl, bb1⟩
              rw [HK.out]
              have Hd1 := Lib.hid (Hd0.out.step bb1)
              have hE1 := hE0.trans (bb1.mono hE0.size)
              have hv_1 := ownsRow_below hv_0 bb1 (Nat.le_refl _)
              have K1 := (show _ ∧ _ ∧ _ ∧ _ from ⟨Hd1.out.box.c0, Hd1.out.box.c1, (Hd1.out.log.mat.sq HS.out hlt ha).2.1, (Hd1.out.log.mat.sq HS.out hlt ha).2.2.trans (by rw [HZ.out])⟩)
              clear Hd0 K0 hE0 hv_0 bb1
              refine ⟨_, rfl, K1, ?_⟩
              simp only [List.setIfInBounds_toArray, List.set_cons_zero, List.set_cons_succ]
              refine hold_take (i := 17) (d := 52) (v := ?vd17) (listed' := #[true, true, true, true, true, true, true, true, true, true, true, true, true, true, true, true, true, true, false, false, false, false, false, false, false, false, false, false, false, false, false, false, false]) rfl (by kernel_rfl) (by kernel_rfl) (by kernel_rfl) rfl (by rfl) (by kernel_rfl) K1 ?hd17 ?rd17
              case hd17 =>
                intro w' hSw
                obtain ⟨k0, k1, k2, k3⟩ := hSw
                go_simp
                try with_reducible rfl
              simp only [List.setIfInBounds_toArray, List.set_cons_zero, List.set_cons_succ]
              refine hold_take (i := 18) (d := 53) (v := ?vd18) (listed' := #[true, true, true, true, true, true, true, true, true, true, true, true, true, true, true, true, true, true, true, false, false, false, false, false, false, false, false, false, false, false, false, false, false]) rfl (by kernel_rfl) (by kernel_rfl) (by kernel_rfl) rfl (by rfl) (by kernel_rfl) K1 ?hd18 ?rd18
              case hd18 =>
                intro w' hSw
                obtain ⟨k0, k1, k2, k3⟩ := hSw
                go_simp
                try with_reducible rfl
              simp only [List.setIfInBounds_toArray, List.set_cons_zero, List.set_cons_succ]
              refine hold_take (i := 19) (d := 54) (v := ?vd19) (listed' := #[true, true, true, true, true, true, true, true, true, true, true, true, true, true, true, true, true, true, true, true, false, false, false, false, false, false, false, false, false, false, false, false, false]) rfl (by kernel_rfl) (by kernel_rfl) (by kernel_rfl) rfl (by rfl) (by kernel_rfl) K1 ?hd19 ?rd19
              case hd19 =>
                intro w' hSw
                obtain ⟨k0, k1, k2, k3⟩ := hSw
                go_simp
                try with_reducible rfl
              simp only [List.setIfInBounds_toArray, List.set_cons_zero, List.set_cons_succ]
              refine hold_take (i := 21) (d := 56) (v := ?vd21) (listed' := #[true, true, true, true, true, true, true, true, true, true, true, true, true, true, true, true, true, true, true, true, false, true, false, false, false, false, false, false, false, false, false, false, false]) rfl (by kernel_rfl) (by kernel_rfl) (by kernel_rfl) rfl (by rfl) (by kernel_rfl) K1 ?hd21 ?rd21
              case hd21 =>
                intro w' hSw
                obtain ⟨k0, k1, k2, k3⟩ := hSw
                go_simp
                try with_reducible rfl
              simp only [List.setIfInBounds_toArray, List.set_cons_zero, List.set_cons_succ]
              refine hold_take (i := 22) (d := 57) (v := ?vd22) (listed' := #[true, true, true, true, true, true, true, true, true, true, true, true, true, true, true, true, true, true, true, true, false, true, true, false, false, false, false, false, false, false, false, false, false]) rfl (by kernel_rfl) (by kernel_rfl) (by kernel_rfl) rfl (by rfl) (by kernel_rfl) K1 ?hd22 ?rd22
              case hd22 =>
                intro w' hSw
                obtain ⟨k0, k1, k2, k3⟩ := hSw
                go_simp
                try with_reducible rfl
              simp only [List.setIfInBounds_toArray, List.set_cons_zero, List.set_cons_succ]
              refine hold_take (i := 23) (d := 58) (v := ?vd23) (listed' := #[true, true, true, true, true, true, true, true, true, true, true, true, true, true, true, true, true, true, true, true, false, true, true, true, false, false, false, false, false, false, false, false, false]) rfl (by kernel_rfl) (by kernel_rfl) (by kernel_rfl) rfl (by rfl) (by kernel_rfl) K1 ?hd23 ?rd23
              case hd23 =>
                intro w' hSw
                obtain ⟨k0, k1, k2, k3⟩ := hSw
                go_simp
                try with_reducible rfl
              simp only [List.setIfInBounds_toArray, List.set_cons_zero, List.set_cons_succ]
              refine hold_take (i := 24) (d := 59) (v := ?vd24) (listed' := #[true, true, true, true, true, true, true, true, true, true, true, true, true, true, true, true, true, true, true, true, false, true, true, true, true, false, false, false, false, false, false, false, false]) rfl (by kernel_rfl) (by kernel_rfl) (by kernel_rfl) rfl (by rfl) (by kernel_rfl) K1 ?hd24 ?rd24
              case hd24 =>
                intro w' hSw
                obtain ⟨k0, k1, k2, k3⟩ := hSw
                go_simp
                try with_reducible rfl
              simp only [List.setIfInBounds_toArray, List.set_cons_zero, List.set_cons_succ]
              refine hold_take (i := 25) (d := 60) (v := ?vd25) (listed' := #[true, true, true, true, true, true, true, true, true, true, true, true, true, true, true, true, true, true, true, true, false, true, true, true, true, true, false, false, false, false, false, false, false]) rfl (by kernel_rfl) (by kernel_rfl) (by kernel_rfl) rfl (by rfl) (by kernel_rfl) K1 ?hd25 ?rd25
              case hd25 =>
                intro w' hSw
                obtain ⟨k0, k1, k2, k3⟩ := hSw
                go_simp
                try with_reducible rfl
              simp only [List.setIfInBounds_toArray, List.set_cons_zero, List.set_cons_succ]
              refine hold_take (i := 26) (d := 61) (v := ?vd26) (listed' := #[true, true, true, true, true, true, true, true, true, true, true, true, true, true, true, true, true, true, true, true, false, true, true, true, true, true, true, false, false, false, false, false, false]) rfl (by kernel_rfl) (by kernel_rfl) (by kernel_rfl) rfl (by rfl) (by kernel_rfl) K1 ?hd26 ?rd26
              case hd26 =>
                intro w' hSw
                obtain ⟨k0, k1, k2, k3⟩ := hSw
                go_simp
                try with_reducible rfl
              simp only [List.setIfInBounds_toArray, List.set_cons_zero, List.set_cons_succ]
              refine hold_take (i := 27) (d := 62) (v := ?vd27) (listed' := #[true, true, true, true, true, true, true, true, true, true, true, true, true, true, true, true, true, true, true, true, false, true, true, true, true, true, true, true, false, false, false, false, false]) rfl (by kernel_rfl) (by kernel_rfl) (by kernel_rfl) rfl (by rfl) (by kernel_rfl) K1 ?hd27 ?rd27
              case hd27 =>
                intro w' hSw
                obtain ⟨k0, k1, k2, k3⟩ := hSw
                go_simp
                try with_reducible rfl
              simp only [List.setIfInBounds_toArray, List.set_cons_zero, List.set_cons_succ]
              refine hold_take (i := 28) (d := 63) (v := ?vd28) (listed' := #[true, true, true, true, true, true, true, true, true, true, true, true, true, true, true, true, true, true, true, true, false, true, true, true, true, true, true, true, true, false, false, false, false]) rfl (by kernel_rfl) (by kernel_rfl) (by kernel_rfl) rfl (by rfl) (by kernel_rfl) K1 ?hd28 ?rd28
              case hd28 =>
                intro w' hSw
                obtain ⟨k0, k1, k2, k3⟩ := hSw
                go_simp
                try with_reducible rfl
              simp only [List.setIfInBounds_toArray, List.set_cons_zero, List.set_cons_succ]
              refine hold_take (i := 29) (d := 64) (v := ?vd29) (listed' := #[true, true, true, true, true, true, true, true, true, true, true, true, true, true, true, true, true, true, true, true, false, true, true, true, true, true, true, true, true, true, false, false, false]) rfl (by kernel_rfl) (by kernel_rfl) (by kernel_rfl) rfl (by rfl) (by kernel_rfl) K1 ?hd29 ?rd29
              case hd29 =>
                intro w' hSw
                obtain ⟨k0, k1, k2, k3⟩ := hSw
                go_simp
                try with_reducible rfl
              simp only [List.setIfInBounds_toArray, List.set_cons_zero, List.set_cons_succ]
              refine hold_call (i := 20) (d := 55) (listed' := #[true, true, true, true, true, true, true, true, true, true, true, true, true, true, true, true, true, true, true, true, true, true, true, true, true, true, true, true, true, true, false, false, false]) rfl (by kernel_rfl) rfl (by rfl) (by kernel_rfl) ?hed20 (hasB_any (x := (j : Int)) (by omega) hv_1) ?hcd20
              case hed20 => go_simp
              rintro e xq ⟨rfl, hx⟩
              subst hx
              rw [HM.out]
              refine ⟨_, rfl, K1, ?_⟩
              simp only [List.setIfInBounds_toArray, List.set_cons_zero, List.set_cons_succ]
              refine hold_take (i := 30) (d := 65) (v := ?vd30) (listed' := #[true, true, true, true, true, true, true, true, true, true, true, true, true, true, true, true, true, true, true, true, true, true, true, true, true, true, true, true, true, true, true, false, false]) rfl (by kernel_rfl) (by kernel_rfl) (by kernel_rfl) rfl (by rfl) (by kernel_rfl) K1 ?hd30 ?rd30
              case hd30 =>
                intro w' hSw
                obtain ⟨k0, k1, k2, k3⟩ := hSw
                go_simp
                try with_reducible rfl
              simp only [List.setIfInBounds_toArray, List.set_cons_zero, List.set_cons_succ]
              refine hold_take (i := 31) (d := 66) (v := ?vd31) (listed' := #[true, true, true, true, true, true, true, true, true, true, true, true, true, true, true, true, true, true, true, true, true, true, true, true, true, true, true, true, true, true, true, true, false]) rfl (by kernel_rfl) (by kernel_rfl) (by kernel_rfl) rfl (by rfl) (by kernel_rfl) K1 ?hd31 ?rd31
              case hd31 =>
                intro w' hSw
                obtain ⟨k0, k1, k2, k3⟩ := hSw
                go_simp
                try with_reducible rfl
              simp only [List.setIfInBounds_toArray, List.set_cons_zero, List.set_cons_succ]
              refine hold_take (i := 32) (d := 67) (v := ?vd32) (listed' := #[true, true, true, true, true, true, true, true, true, true, true, true, true, true, true, true, true, true, true, true, true, true, true, true, true, true, true, true, true, true, true, true, true]) rfl (by kernel_rfl) (by kernel_rfl) (by kernel_rfl) rfl (by rfl) (by kernel_rfl) K1 ?hd32 ?rd32
              case hd32 =>
                intro w' hSw
                obtain ⟨k0, k1, k2, k3⟩ := hSw
                go_simp
                try with_reducible rfl
              simp only [List.setIfInBounds_toArray, List.set_cons_zero, List.set_cons_succ]
              refine hold_done (by kernel_rfl) ?_ _
              clear Hd1 K1 hv_1
              go_wp2_with fail
              go_roundw
              case rel => exact ⟨j + 1, by omega, by go_num, hE1⟩
              case measure => simp [intOf]; omega
            · have HM : Hid (decide ((j : Int) ∈ xs) = false) := hM.trans (hu.trans l1)
              have HZ := Lib.hid z1
              clear hM hk hu l1 z1
              go_wp2_with fail
              have hb0 : Below wr.heap.size wr wr.drew := (Below.refl _ wr).drew
              have Hd0 := Lib.hid (Hr.step hb0)
              have hE0 : Below w4.heap.size w4 wr.drew := hD.drew
              have hv_0 := ownsRow_below hv4 hE0 (Nat.le_refl _)
              have K0 := (show _ ∧ _ ∧ _ ∧ _ from ⟨Hd0.out.box.c0, Hd0.out.box.c1, (Hd0.out.log.mat.sq HS.out hlt ha).2.1, (Hd0.out.log.mat.sq HS.out hlt ha).2.2.trans (by rw [HZ.out])⟩)
              clear Hr q0 q1 hb0
              refine region_plain (fuel := 33) (listed := #[false, false, false, false, false, false, false, false, false, false, false, false, false, false, false, false, false, false, false, false, false, false, false, false, false, false, false, false, false, false, false, false, false]) (fun w' => w'.cell? ⟨w1.heap.size, 0, none⟩ = some (.slice (some ⟨l.b, l.o, none⟩) m.n l.cap) ∧ w'.cell? ⟨w1.heap.size, 1, none⟩ = some (.slice na m.n nc) ∧ w'.cell? ⟨l.b, l.o + j, none⟩ = some (.slice (some ⟨l.G j, l.O j, none⟩) m.n (l.C j)) ∧ w'.cell? ⟨l.G j, l.O j + a, none⟩ = some (.int .i64 0)) (by kernel_rfl) (by kernel_rfl) (by kernel_rfl) ?_
              refine hold_take (i := 0) (d := 35) (v := ?ve0) (listed' := #[true, false, false, false, false, false, false, false, false, false, false, false, false, false, false, false, false, false, false, false, false, false, false, false, false, false, false, false, false, false, false, false, false]) rfl (by kernel_rfl) (by kernel_rfl) (by kernel_rfl) rfl (by rfl) (by kernel_rfl) K0 ?he0 ?re0
              case he0 =>
                intro w' hSw
                obtain ⟨k0, k1, k2, k3⟩ := hSw
                go_simp
                try with_reducible rfl
              simp only [List.setIfInBounds_toArray, List.set_cons_zero, List.set_cons_succ]
              refine hold_take (i := 1) (d := 36) (v := ?ve1) (listed' := #[true, true, false, false, false, false, false, false, false, false, false, false, false, false, false, false, false, false, false, false, false, false, false, false, false, false, false, false, false, false, false, false, false]) rfl (by kernel_rfl) (by kernel_rfl) (by kernel_rfl) rfl (by rfl) (by kernel_rfl) K0 ?he1 ?re1
              case he1 =>
                intro w' hSw
                obtain ⟨k0, k1, k2, k3⟩ := hSw
                go_simp
                try with_reducible rfl
              simp only [List.setIfInBounds_toArray, List.set_cons_zero, List.set_cons_succ]
              refine hold_call (i := 2) (d := 37) (listed' := #[true, true, true, false, false, false, false, false, false, false, false, false, false, false, false, false, false, false, false, false, false, false, false, false, false, false, false, false, false, false, false, false, false]) rfl (by kernel_rfl) rfl (by rfl) (by kernel_rfl) ?hee2 (hasB_any (x := (j : Int)) (by omega) hv_0) ?hce2
              case hee2 => go_simp
              rintro e xq ⟨rfl, hx⟩
              subst hx
              rw [HM.out]
              refine ⟨_, rfl, K0, ?_⟩
              simp only [List.setIfInBounds_toArray, List.set_cons_zero, List.set_cons_succ]
              refine hold_take (i := 3) (d := 38) (v := ?ve3) (listed' := #[true, true, true, true, false, false, false, false, false, false, false, false, false, false, false, false, false, false, false, false, false, false, false, false, false, false, false, false, false, false, false, false, false]) rfl (by kernel_rfl) (by kernel_rfl) (by kernel_rfl) rfl (by rfl) (by kernel_rfl) K0 ?he3 ?re3
              case he3 =>
                intro w' hSw
                obtain ⟨k0, k1, k2, k3⟩ := hSw
                go_simp
                try with_reducible rfl
              simp only [List.setIfInBounds_toArray, List.set_cons_zero, List.set_cons_succ]
              refine hold_skip (i := 4) (d := 39) (listed' := #[true, true, true, true, true, false, false, false, false, false, false, false, false, false, false, false, false, false, false, false, false, false, false, false, false, false, false, false, false, false, false, false, false]) rfl (by kernel_rfl) (by kernel_rfl) (by kernel_rfl) rfl (by rfl) (by kernel_rfl) K0 ?_
              simp only [List.setIfInBounds_toArray, List.set_cons_zero, List.set_cons_succ]
              refine hold_skip (i := 5) (d := 40) (listed' := #[true, true, true, true, true, true, false, false, false, false, false, false, false, false, false, false, false, false, false, false, false, false, false, false, false, false, false, false, false, false, false, false, false]) rfl (by kernel_rfl) (by kernel_rfl) (by kernel_rfl) rfl (by rfl) (by kernel_rfl) K0 ?_
              simp only [List.setIfInBounds_toArray, List.set_cons_zero, List.set_cons_succ]
              refine hold_skip (i := 6) (d := 41) (listed' := #[true, true, true, true, true, true, true, false, false, false, false, false, false, false, false, false, false, false, false, false, false, false, false, false, false, false, false, false, false, false, false, false, false]) rfl (by kernel_rfl) (by kernel_rfl) (by kernel_rfl) rfl (by rfl) (by kernel_rfl) K0 ?_
              simp only [List.setIfInBounds_toArray, List.set_cons_zero, List.set_cons_succ]
              refine hold_skip (i := 7) (d := 42) (listed' := #[true, true, true, true, true, true, true, true, false, false, false, false, false, false, false, false, false, false, false, false, false, false, false, false, false, false, false, false, false, false, false, false, false]) rfl (by kernel_rfl) (by kernel_rfl) (by kernel_rfl) rfl (by rfl) (by kernel_rfl) K0 ?_
              simp only [List.setIfInBounds_toArray, List.set_cons_zero, List.set_cons_succ]
              refine hold_skip (i := 8) (d := 43) (listed' := #[true, true, true, true, true, true, true, true, true, false, false, false, false, false, false, false, false, false, false, false, false, false, false, false, false, false, false, false, false, false, false, false, false]) rfl (by kernel_rfl) (by kernel_rfl) (by kernel_rfl) rfl (by rfl) (by kernel_rfl) K0 ?_
              simp only [List.setIfInBounds_toArray, List.set_cons_zero, List.set_cons_succ]
              refine hold_skip (i := 9) (d := 44) (listed' := #[true, true, true, true, true, true, true, true, true, true, false, false, false, false, false, false, false, false, false, false, false, false, false, false, false, false, false, false, false, false, false, false, false]) rfl (by kernel_rfl) (by kernel_rfl) (by kernel_rfl) rfl (by rfl) (by kernel_rfl) K0 ?_
              simp only [List.setIfInBounds_toArray, List.set_cons_zero, List.set_cons_succ]
              refine hold_skip (i := 10) (d := 45) (listed' := #[true, true, true, true, true, true, true, true, true, true, true, false, false, false, false, false, false, false, false, false, false, false, false, false, false, false, false, false, false, false, false, false, false]) rfl (by kernel_rfl) (by kernel_rfl) (by kernel_rfl) rfl (by rfl) (by kernel_rfl) K0 ?_
              simp only [List.setIfInBounds_toArray, List.set_cons_zero, List.set_cons_succ]
              refine hold_skip (i := 11) (d := 46) (listed' := #[true, true, true, true, true, true, true, true, true, true, true, true, false, false, false, false, false, false, false, false, false, false, false, false, false, false, false, false, false, false, false, false, false]) rfl (by kernel_rfl) (by kernel_rfl) (by kernel_rfl) rfl (by rfl) (by kernel_rfl) K0 ?_
              simp only [List.setIfInBounds_toArray, List.set_cons_zero, List.set_cons_succ]
              refine hold_skip (i := 12) (d := 47) (listed' := #[true, true, true, true, true, true, true, true, true, true, true, true, true, false, false, false, false, false, false, false, false, false, false, false, false, false, false, false, false, false, false, false, false]) rfl (by kernel_rfl) (by kernel_rfl) (by kernel_rfl) rfl (by rfl) (by kernel_rfl) K0 ?_
              simp only [List.setIfInBounds_toArray, List.set_cons_zero, List.set_cons_succ]
              refine hold_take (i := 13) (d := 48) (v := ?ve13) (listed' := #[true, true, true, true, true, true, true, true, true, true, true, true, true, true, false, false, false, false, false, false, false, false, false, false, false, false, false, false, false, false, false, false, false]) rfl (by kernel_rfl) (by kernel_rfl) (by kernel_rfl) rfl (by rfl) (by kernel_rfl) K0 ?he13 ?re13
              case he13 =>
                intro w' hSw
                obtain ⟨k0, k1, k2, k3⟩ := hSw
                go_simp
                try with_reducible rfl
              simp only [List.setIfInBounds_toArray, List.set_cons_zero, List.set_cons_succ]
              refine hold_take (i := 14) (d := 49) (v := ?ve14) (listed' := #[true, true, true, true, true, true, true, true, true, true, true, true, true, true, true, false, false, false, false, false, false, false, false, false, false, false, false, false, false, false, false, false, false]) rfl (by kernel_rfl) (by kernel_rfl) (by kernel_rfl) rfl (by rfl) (by kernel_rfl) K0 ?he14 ?re14
              case he14 =>
                intro w' hSw
                obtain ⟨k0, k1, k2, k3⟩ := hSw
                go_simp
                try with_reducible rfl
              simp only [List.setIfInBounds_toArray, List.set_cons_zero, List.set_cons_succ]
              refine hold_take (i := 15) (d := 50) (v := ?ve15) (listed' := #[true, true, true, true, true, true, true, true, true, true, true, true, true, true, true, true, false, false, false, false, false, false, false, false, false, false, false, false, false, false, false, false, false]) rfl (by kernel_rfl) (by kernel_rfl) (by kernel_rfl) rfl (by rfl) (by kernel_rfl) K0 ?he15 ?re15
              case he15 =>
                intro w' hSw
                obtain ⟨k0, k1, k2, k3⟩ := hSw
                go_simp
                try with_reducible rfl
              simp only [List.setIfInBounds_toArray, List.set_cons_zero, List.set_cons_succ]
              refine hold_call (i := 16) (d := 51) (listed' := #[true, true, true, true, true, true, true, true, true, true, true, true, true, true, true, true, true, false, false, false, false, false, false, false, false, false, false, false, false, false, false, false, false]) rfl (by kernel_rfl) rfl (by rfl) (by kernel_rfl) ?hee16 (spec_KeepsOk (nc := nc) Hd0.out.log) ?hce16
              case hee16 => go_simp
              rintro e x1 ⟨rfl, bb1⟩
              rw [HK.out]
              have Hd1 := Lib.hid (Hd0.out.step bb1)
              have hE1 := hE0.trans (bb1.mono hE0.size)
              have hv_1 := ownsRow_below hv_0 bb1 (Nat.le_refl _)
              have K1 := (show _ ∧ _ ∧ _ ∧ _ from ⟨Hd1.out.box.c0, Hd1.out.box.c1, (Hd1.out.log.mat.sq HS.out hlt ha).2.1, (Hd1.out.log.mat.sq HS.out hlt ha).2.2.trans (by rw [HZ.out])⟩)
              clear Hd0 K0 hE0 hv_0 bb1
              refine ⟨_, rfl, K1, ?_⟩
              simp only [List.setIfInBounds_toArray, List.set_cons_zero, List.set_cons_succ]
              refine hold_take (i := 17) (d := 52) (v := ?ve17) (listed' := #[true, true, true, true, true, true, true, true, true, true, true, true, true, true, true, true, true, true, false, false, false, false, false, false, false, false, false, false, false, false, false, false, false]) rfl (by kernel_rfl) (by kernel_rfl) (by kernel_rfl) rfl (by rfl) (by kernel_rfl) K1 ?he17 ?re17
              case he17 =>
                intro w' hSw
                obtain ⟨k0, k1, k2, k3⟩ := hSw
                go_simp
                try with_reducible rfl
              simp only [List.setIfInBounds_toArray, List.set_cons_zero, List.set_cons_succ]
              refine hold_take (i := 18) (d := 53) (v := ?ve18) (listed' := #[true, true, true, true, true, true, true, true, true, true, true, true, true, true, true, true, true, true, true, false, false, false, false, false, false, false, false, false, false, false, false, false, false]) rfl (by kernel_rfl) (by kernel_rfl) (by kernel_rfl) rfl (by rfl) (by kernel_rfl) K1 ?he18 ?re18
              case he18 =>
                intro w' hSw
                obtain ⟨k0, k1, k2, k3⟩ := hSw
                go_simp
                try with_reducible rfl
              simp only [List.setIfInBounds_toArray, List.set_cons_zero, List.set_cons_succ]
              refine hold_take (i := 19) (d := 54) (v := ?ve19) (listed' := #[true, true, true, true, true, true, true, true, true, true, true, true, true, true, true, true, true, true, true, true, false, false, false, false, false, false, false, false, false, false, false, false, false]) rfl (by kernel_rfl) (by kernel_rfl) (by kernel_rfl) rfl (by rfl) (by kernel_rfl) K1 ?he19 ?re19
              case he19 =>
                intro w' hSw
                obtain ⟨k0, k1, k2, k3⟩ := hSw
                go_simp
                try with_reducible rfl
              simp only [List.setIfInBounds_toArray, List.set_cons_zero, List.set_cons_succ]
              refine hold_take (i := 21) (d := 56) (v := ?ve21) (listed' := #[true, true, true, true, true, true, true, true, true, true, true, true, true, true, true, true, true, true, true, true, false, true, false, false, false, false, false, false, false, false, false, false, false]) rfl (by kernel_rfl) (by kernel_rfl) (by kernel_rfl) rfl (by rfl) (by kernel_rfl) K1 ?he21 ?re21
              case he21 =>
                intro w' hSw
                obtain ⟨k0, k1, k2, k3⟩ := hSw
                go_simp
                try with_reducible rfl
              simp only [List.setIfInBounds_toArray, List.set_cons_zero, List.set_cons_succ]
              refine hold_take (i := 22) (d := 57) (v := ?ve22) (listed' := #[true, true, true, true, true, true, true, true, true, true, true, true, true, true, true, true, true, true, true, true, false, true, true, false, false, false, false, false, false, false, false, false, false]) rfl (by kernel_rfl) (by kernel_rfl) (by kernel_rfl) rfl (by rfl) (by kernel_rfl) K1 ?he22 ?re22
              case he22 =>
                intro w' hSw
                obtain ⟨k0, k1, k2, k3⟩ := hSw
                go_simp
                try with_reducible rfl
              simp only [List.setIfInBounds_toArray, List.set_cons_zero, List.set_cons_succ]
              refine hold_take (i := 23) (d := 58) (v := ?ve23) (listed' := #[true, true, true, true, true, true, true, true, true, true, true, true, true, true, true, true, true, true, true, true, false, true, true, true, false, false, false, false, false, false, false, false, false]) rfl (by kernel_rfl) (by kernel_rfl) (by kernel_rfl) rfl (by rfl) (by kernel_rfl) K1 ?he23 ?re23
              case he23 =>
                intro w' hSw
                obtain ⟨k0, k1, k2, k3⟩ := hSw
                go_simp
                try with_reducible rfl
              simp only [List.setIfInBounds_toArray, List.set_cons_zero, List.set_cons_succ]
              refine hold_take (i := 24) (d := 59) (v := ?ve24) (listed' := #[true, true, true, true, true, true, true, true, true, true, true, true, true, true, true, true, true, true, true, true, false, true, true, true, true, false, false, false, false, false, false, false, false]) rfl (by kernel_rfl) (by kernel_rfl) (by kernel_rfl) rfl (by rfl) (by kernel_rfl) K1 ?he24 ?re24
              case he24 =>
                intro w' hSw
                obtain ⟨k0, k1, k2, k3⟩ := hSw
                go_simp
                try with_reducible rfl
              simp only [List.setIfInBounds_toArray, List.set_cons_zero, List.set_cons_succ]
              refine hold_take (i := 25) (d := 60) (v := ?ve25) (listed' := #[true, true, true, true, true, true, true, true, true, true, true, true, true, true, true, true, true, true, true, true, false, true, true, true, true, true, false, false, false, false, false, false, false]) rfl (by kernel_rfl) (by kernel_rfl) (by kernel_rfl) rfl (by rfl) (by kernel_rfl) K1 ?he25 ?re25
              case he25 =>
                intro w' hSw
                obtain ⟨k0, k1, k2, k3⟩ := hSw
                go_simp
                try with_reducible rfl
              simp only [List.setIfInBounds_toArray, List.set_cons_zero, List.set_cons_succ]
              refine hold_take (i := 26) (d := 61) (v := ?ve26) (listed' := #[true, true, true, true, true, true, true, true, true, true, true, true, true, true, true, true, true, true, true, true, false, true, true, true, true, true, true, false, false, false, false, false, false]) rfl (by kernel_rfl) (by kernel_rfl) (by kernel_rfl) rfl (by rfl) (by kernel_rfl) K1 ?he26 ?re26
              case he26 =>
                intro w' hSw
                obtain ⟨k0, k1, k2, k3⟩ := hSw
                go_simp
                try with_reducible rfl
              simp only [List.setIfInBounds_toArray, List.set_cons_zero, List.set_cons_succ]
              refine hold_take (i := 27) (d := 62) (v := ?ve27) (listed' := #[true, true, true, true, true, true, true, true, true, true, true, true, true, true, true, true, true, true, true, true, false, true, true, true, true, true, true, true, false, false, false, false, false]) rfl (by kernel_rfl) (by kernel_rfl) (by kernel_rfl) rfl (by rfl) (by kernel_rfl) K1 ?he27 ?re27
              case he27 =>
                intro w' hSw
                obtain ⟨k0, k1, k2, k3⟩ := hSw
                go_simp
                try with_reducible rfl
              simp only [List.setIfInBounds_toArray, List.set_cons_zero, List.set_cons_succ]
              refine hold_take (i := 28) (d := 63) (v := ?ve28) (listed' := #[true, true, true, true, true, true, true, true, true, true, true, true, true, true, true, true, true, true, true, true, false, true, true, true, true, true, true, true, true, false, false, false, false]) rfl (by kernel_rfl) (by kernel_rfl) (by kernel_rfl) rfl (by rfl) (by kernel_rfl) K1 ?he28 ?re28
              case he28 =>
                intro w' hSw
                obtain ⟨k0, k1, k2, k3⟩ := hSw
                go_simp
                try with_reducible rfl
              simp only [List.setIfInBounds_toArray, List.set_cons_zero, List.set_cons_succ]
              refine hold_take (i := 29) (d := 64) (v := ?ve29) (listed' := #[true, true, true, true, true, true, true, true, true, true, true, true, true, true, true, true, true, true, true, true, false, true, true, true, true, true, true, true, true, true, false, false, false]) rfl (by kernel_rfl) (by kernel_rfl) (by kernel_rfl) rfl (by rfl) (by kernel_rfl) K1 ?he29 ?re29
              case he29 =>
                intro w' hSw
                obtain ⟨k0, k1, k2, k3⟩ := hSw
                go_simp
                try with_reducible rfl
              simp only [List.setIfInBounds_toArray, List.set_cons_zero, List.set_cons_succ]
              refine hold_call (i := 20) (d := 55) (listed' := #[true, true, true, true, true, true, true, true, true, true, true, true, true, true, true, true, true, true, true, true, true, true, true, true, true, true, true, true, true, true, false, false, false]) rfl (by kernel_rfl) rfl (by rfl) (by kernel_rfl) ?hee20 (hasB_any (x := (j : Int)) (by omega) hv_1) ?hce20
              case hee20 => go_simp
              rintro e xq ⟨rfl, hx⟩
              subst hx
              rw [HM.out]
              refine ⟨_, rfl, K1, ?_⟩
              simp only [List.setIfInBounds_toArray, List.set_cons_zero, List.set_cons_succ]
              refine hold_take (i := 30) (d := 65) (v := ?ve30) (listed' := #[true, true, true, true, true, true, true, true, true, true, true, true, true, true, true, true, true, true, true, true, true, true, true, true, true, true, true, true, true, true, true, false, false]) rfl (by kernel_rfl) (by kernel_rfl) (by kernel_rfl) rfl (by rfl) (by kernel_rfl) K1 ?he30 ?re30
              case he30 =>
                intro w' hSw
                obtain ⟨k0, k1, k2, k3⟩ := hSw
                go_simp
                try with_reducible rfl
              simp only [List.setIfInBounds_toArray, List.set_cons_zero, List.set_cons_succ]
              refine hold_take (i := 31) (d := 66) (v := ?ve31) (listed' := #[true, true, true, true, true, true, true, true, true, true, true, true, true, true, true, true, true, true, true, true, true, true, true, true, true, true, true, true, true, true, true, true, false]) rfl (by kernel_rfl) (by kernel_rfl) (by kernel_rfl) rfl (by rfl) (by kernel_rfl) K1 ?he31 ?re31
              case he31 =>
                intro w' hSw
                obtain ⟨k0, k1, k2, k3⟩ := hSw
                go_simp
                try with_reducible rfl
              simp only [List.setIfInBounds_toArray, List.set_cons_zero, List.set_cons_succ]
              refine hold_take (i := 32) (d := 67) (v := ?ve32) (listed' := #[true, true, true, true, true, true, true, true, true, true, true, true, true, true, true, true, true, true, true, true, true, true, true, true, true, true, true, true, true, true, true, true, true]) rfl (by kernel_rfl) (by kernel_rfl) (by kernel_rfl) rfl (by rfl) (by kernel_rfl) K1 ?he32 ?re32
              case he32 =>
                intro w' hSw
                obtain ⟨k0, k1, k2, k3⟩ := hSw
                go_simp
                try with_reducible rfl
              simp only [List.setIfInBounds_toArray, List.set_cons_zero, List.set_cons_succ]
              refine hold_done (by kernel_rfl) ?_ _
              clear Hd1 K1 hv_1
              go_wp2_with fail
              go_roundw
              case rel => exact ⟨j + 1, by omega, by go_num, hE1⟩
              case measure => simp [intOf]; omega
        · have hlt' : ¬ (j : Int) < m.n := by omega
          have hvr := ownsRow_below hv4 hD (Nat.le_refl _)
          go_wp2_with fail
          go_at_call 12
          refine (ascend_listV (by omega) hvr HUp.out).mono ?_
          rintro e w5 ⟨rfl, d5⟩
          have b5 : Below wr.heap.size wr w5 := d5.below _
          have H5 := Hr.step b5
          go_wp2_with fail
          go_ret
          exact ⟨rfl, H5.old⟩
end Go.Proofs.YtkfinkhdfbogjaaDoor
