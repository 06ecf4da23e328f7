/- The walks of the program's sets of answers: whether a number is one, the set grown by what two answers make. -/
import Derived.Test.YtijcacibofpnpaaDoorZSa
import Derived.Test.YtijcacibofpnpaaDoorZYd
namespace Go.Proofs.YtijcacibofpnpaaDoor
open Go.RowKit Go.Deep

theorem quot_zero {s n : Nat} (h : s < 2 ^ n) : (s : Int) / 2 ^ n = 0 := by
  have e : ((2 : Int) ^ n) = ((2 ^ n : Nat) : Int) := by push_cast; rfl
  rw [e]
  generalize 2 ^ n = q at h
  exact Int.ediv_eq_zero_of_lt (by omega) (by omega)
theorem quot_pos {s n : Nat} (h : ¬ s < 2 ^ n) : (s : Int) / 2 ^ n ≠ 0 := by
  have e : ((2 : Int) ^ n) = ((2 ^ n : Nat) : Int) := by push_cast; rfl
  have hp : 0 < 2 ^ n := Nat.two_pow_pos n
  rw [e]
  generalize 2 ^ n = q at h hp
  have e2 : (s : Int) / (q : Int) = ((s / q : Nat) : Int) := by push_cast; rfl
  rw [e2]
  have : 1 ≤ s / q := (Nat.le_div_iff_mul_le hp).2 (by omega)
  omega
set_option maxHeartbeats 1000000 in
theorem setOk_any {w : World} {ob k nc g o : Nat} {sa : Option Addr} {l : Lay} {m : Mx} {x : Int} (hk : k ≤ 12) :
    Calls Tryd.prog 61 #[algV sa l m (some ⟨g, o, none⟩) k nc ob, .int .i64 x] w fun e w' => e = .returned (.bool (inB k x)) ∧ Below w.heap.size w w' := by
  have hX := BoxN.start w #[.slice sa m.n l.cap, .slice (some ⟨g, o, none⟩) k nc, .slice (some ⟨ob, 0, none⟩) 2 2] 45
  have q0 := hX.cell 0 rfl
  have q1 := hX.cell 1 rfl
  have hk' : (k : Int) ≤ 64 := by omega
  unfold algV
  by_cases h0 : 0 < x
  · obtain ⟨s, rfl⟩ := Int.eq_ofNat_of_zero_le (show 0 ≤ x by omega)
    by_cases hs : s < 2 ^ k
    · have e1 := quot_zero hs
      have HF : Hid (true = inB k (s : Int)) := (decide_eq_true ⟨by omega, by omega⟩ : inB k (s : Int) = true).symm
      go_enter Tryd.func61, Tryd.ntmps61
      go_wp2_with fail
      go_ret
      exact ⟨ret_bool HF.out, hX.below⟩
    · have e1 : ((s : Int) / 2 ^ k == 0) = false := by
        rw [beq_eq_false_iff_ne]; exact quot_pos hs
      have HF : Hid (false = inB k (s : Int)) := (decide_eq_false (fun h => hs (by omega)) : inB k (s : Int) = false).symm
      go_enter Tryd.func61, Tryd.ntmps61
      go_wp2_with fail
      go_ret
      exact ⟨ret_bool HF.out, hX.below⟩
  · have HF : Hid (false = inB k x) := (decide_eq_false (fun h => by omega) : inB k x = false).symm
    go_enter Tryd.func61, Tryd.ntmps61
    go_wp2_with fail
    go_ret
    exact ⟨ret_bool HF.out, hX.below⟩

/-- Rows of pairs of listed answers looked at. -/
structure GA (m : Mx) (y : Nat → Nat) (s K : Nat) (q : Nat → Nat) (u j : Nat) : Prop where
  under : Under m y s u
  done : ∀ i, i < j → u.testBit (y (q i)) = true ∧ ∀ c, c < K → u.testBit (mN m (q i) (q c)) = true
structure GB (m : Mx) (y : Nat → Nat) (s K : Nat) (q : Nat → Nat) (u j c : Nat) : Prop where
  all : GA m y s K q u j
  opp : u.testBit (y (q j)) = true
  row : ∀ i, i < c → u.testBit (mN m (q j) (q i)) = true
theorem GA.more {m : Mx} {y : Nat → Nat} {s K : Nat} {q : Nat → Nat} {u u' j : Nat} (h : GA m y s K q u j) (hu : Under m y s u') (hs : Sub u u') : GA m y s K q u' j :=
  ⟨hu, fun i hi => ⟨hs _ (h.done i hi).1, fun c hc => hs _ ((h.done i hi).2 c hc)⟩⟩
theorem GA.first {m : Mx} {z : Nat → Int} {y : Nat → Nat} {o s K : Nat} {q b : Nat → Nat} {u j : Nat} (h : GA m y s K q u j) (hO : Ortho m z y o) (hp : Emb m.n K s q b) (hj : j < K) : GB m y s K q (u ||| 2 ^ y (q j)) j 0 := by
  have hx := hO.lt _ (hp.lt j hj)
  refine ⟨h.more (h.under.more hx fun v hv hs => hv.not _ (hp.lt j hj) (hs _ (hp.has j hj))) (sub_left _ _), sub_right _ _ _ (has_one _), fun _ hi => absurd hi (Nat.not_lt_zero _)⟩
theorem GB.add {m : Mx} {z : Nat → Int} {y : Nat → Nat} {o s K : Nat} {q b : Nat → Nat} {u j c : Nat} (h : GB m y s K q u j c) (hO : Ortho m z y o) (hp : Emb m.n K s q b) (hj : j < K) (hc : c < K) : GB m y s K q (u ||| (2 ^ mN m (q j) (q c) ||| 2 ^ jN m (q j) (q c))) j (c + 1) := by
  have h1 := hp.lt j hj
  have h2 := hp.lt c hc
  have hm := (hO.mG h1 h2).lt
  have hjn := (hO.jG h1 h2).lt
  have hs := sub_left u (2 ^ mN m (q j) (q c) ||| 2 ^ jN m (q j) (q c))
  have hU : Under m y s (u ||| (2 ^ mN m (q j) (q c) ||| 2 ^ jN m (q j) (q c))) :=
    ⟨h.all.under.has.trans hs, or_lt h.all.under.lt (or_lt (one_lt hm) (one_lt hjn)), fun v hv hsv => sub_or (h.all.under.least v hv hsv)
      (sub_or (sub_one (hv.meet _ _ h1 h2 (hsv _ (hp.has j hj)) (hsv _ (hp.has c hc)))) (sub_one (hv.join hO h1 h2 (hsv _ (hp.has j hj)) (hsv _ (hp.has c hc)))))⟩
  refine ⟨h.all.more hU hs, hs _ h.opp, fun i hi => ?_⟩
  by_cases e : i = c
  · subst e
    exact sub_right _ _ _ (sub_left _ _ _ (has_one _))
  · exact hs _ (h.row i (by omega))
theorem GB.turn {m : Mx} {y : Nat → Nat} {s K : Nat} {q : Nat → Nat} {u j : Nat} (h : GB m y s K q u j K) : GA m y s K q u (j + 1) :=
  ⟨h.all.under, fun i hi => by
    by_cases e : i = j
    · subst e; exact ⟨h.opp, h.row⟩
    · exact h.all.done i (by omega)⟩
theorem GA.grown {m : Mx} {y : Nat → Nat} {s K : Nat} {q b : Nat → Nat} {u : Nat} (h : GA m y s K q u K) (hp : Emb m.n K s q b) : Grown m y s u := by
  refine ⟨h.under, fun a c ha hc ga gc => ?_, fun a ha ga => ?_⟩
  · have := (h.done (b a) (hp.blt a ha ga)).2 (b c) (hp.blt c hc gc)
    rwa [hp.qb a ha ga, hp.qb c hc gc] at this
  · have := (h.done (b a) (hp.blt a ha ga)).1
    rwa [hp.qb a ha ga] at this
theorem Emb.down {n s : Nat} (hn : n ≤ 12) (hs : s < 2 ^ n) : Emb n (memK s 12) s (memF s 12) (memB s 12) := by
  have h := mem_emb s 12
  exact ⟨fun j hj => bit_lt hs (h.has j hj), h.has, h.bq, fun a ha => h.blt a (by omega), fun a ha => h.qb a (by omega)⟩
theorem wrap_pow {a : Nat} (ha : a < 12) : IntKind.i64.wrap (2 ^ min a 64) = ((2 ^ a : Nat) : Int) := by
  rw [Nat.min_eq_left (by omega)]
  exact one_wrap (Nat.le_of_lt ha)
theorem or3_is {v a b : Nat} (hv : v < 4096) (ha : a < 12) (hb : b < 12) : bits .or .i64 (v : Int) (bits .or .i64 (IntKind.i64.wrap (2 ^ min a 64)) (IntKind.i64.wrap (2 ^ min b 64))) = ((v ||| (2 ^ a ||| 2 ^ b) : Nat) : Int) := by
  have h1 := one_lt (n := 12) ha
  have h2 := one_lt (n := 12) hb
  have h3 := or_lt h1 h2
  rw [wrap_pow ha, wrap_pow hb, i64_or_nat _ _ (Nat.lt_trans h1 (by decide)) (Nat.lt_trans h2 (by decide)), i64_or_nat _ _ (Nat.lt_trans hv (by omega)) (Nat.lt_trans h3 (by decide))]
def GrownRes (w : World) (m : Mx) (y : Nat → Nat) (s : Nat) (e : Ending) (w' : World) : Prop := ∃ t, e = .returned (.int .i64 (t : Nat)) ∧ Grown m y s t ∧ Below w.heap.size w w'

set_option maxRecDepth 100000 in
set_option maxHeartbeats 2000000 in
theorem grown_any {w : World} {B ob tb g o nc s o' : Nat} {ua : Option Addr} {l : Lay} {m : Mx} {tG : Nat → Nat} {z : Nat → Int} {y : Nat → Nat} (hA : Alg w ob tb tG ua l m) (hS : SqAt w B ua l m) (hR : RowAt w B (some ⟨g, o, none⟩) g o m.n z) (hT : TabOk w)
    (hO : Ortho m z y o') (h1 : 1 ≤ s) (hs : s < 2 ^ m.n) :
    Calls Tryd.prog 62 #[algV ua l m (some ⟨g, o, none⟩) m.n nc ob, .int .i64 s] w (GrownRes w m y s) := by
  have hX := BoxN.start w #[.slice ua m.n l.cap, .slice (some ⟨g, o, none⟩) m.n nc, .slice (some ⟨ob, 0, none⟩) 2 2] 45
  have bX := hX.below
  have hn := hO.lat.order.top
  have hB := hS.hB
  have HA := Lib.hid (hA.step bX)
  have HS := Lib.hid (hS.step bX)
  have HR := Lib.hid (hR.below (bX.mono hB))
  have HT := Lib.hid (hT.step bX hT.size)
  have HO := Lib.hid hO
  have hp := pow_le_12 hn
  have HE : Hid (Emb m.n (memK s 12) s (memF s 12) (memB s 12)) := Emb.down hn hs
  have hs4 : s < 4096 := by omega
  have HU : Hid (s < 2 ^ m.n) := hs
  have sX := hX.size
  clear hA hS hR hT hO bX hp hs
  unfold algV
  go_enter Tryd.func62, Tryd.ntmps62
  go_wp2_with fail
  generalize hW : w.alloc (.cells #[.slice ua m.n l.cap, .slice (some ⟨g, o, none⟩) m.n nc, .slice (some ⟨ob, 0, none⟩) 2 2] 45) = W at hX HA HS HR HT sX ⊢
  clear hW
  go_at_call 82
  refine (members_any hs4 HT.out).mono ?_
  rintro e w1 ⟨a', g', c', rfl, hrow, b1⟩
  have hX1 := hX.step b1
  have s1 := b1.size
  have HA1 := Lib.hid (HA.out.step b1)
  have HS1 := Lib.hid (HS.out.step b1)
  have HR1 := Lib.hid (HR.out.below (b1.mono (by have := HS.out.hB; exact this)))
  have HB1 : B ≤ w1.heap.size := by have := HS.out.hB; omega
  have HL := Lib.hid hrow
  obtain ⟨K, hK⟩ : ∃ K, K = memK s 12 := ⟨_, rfl⟩
  have HK := Lib.hid hK
  rw [← hK] at HL HE ⊢
  have hK12 : K ≤ 12 := by rw [hK]; exact memsTo_len s 12
  have hK1 : 1 ≤ K := by rw [hK]; exact mem_pos h1 hs4
  clear hX HA HS HR HT hrow hK b1
  obtain ⟨rfl, _, _⟩ := HL.out.row 0 (by omega)
  go_wp2_with fail
  go_loopw [5, 16] (fun v i wr => ∃ u j : Nat, j ≤ K ∧ u < 4096 ∧ v = .int .i64 u ∧ i = .int .i64 j ∧ Below w1.heap.size w1 wr ∧ Hid (GA m y s K (memF s 12) u j)) (fun _ i _ => K - (intOf i).toNat)
  case atStart => exact ⟨s, 0, Nat.zero_le _, hs4, rfl, rfl, Below.refl _ _, Under.start HU.out, fun _ hi => absurd hi (Nat.not_lt_zero _)⟩
  case round =>
    obtain ⟨u, j, hj, hu, rfl, rfl, hD, hM⟩ := hrel
    by_cases hlt : j < K
    · have hlt' : (j : Int) < K := by omega
      have hXr := hX1.step hD
      have q0 := hXr.cell 0 rfl
      have q1 := hXr.cell 1 rfl
      have q2 := hXr.cell 2 rfl
      obtain ⟨_, _, c1⟩ := (HL.out.below hD).row j hlt
      rw [Nat.zero_add] at c1
      have hq := HE.out.lt j hlt
      have hq' : ((memF s 12 j : Nat) : Int) < m.n := by omega
      obtain ⟨_, _, d1⟩ := (HR1.out.below (hD.mono HB1)).row (memF s 12 j) hq
      rw [HO.out.zy _ hq] at d1
      have f2 := HO.out.lt _ hq
      have f2' : ((y (memF s 12 j) : Nat) : Int) ≤ 64 := by omega
      have o1 := or_is (k := y (memF s 12 j)) hu (by omega)
      have hv : u ||| 2 ^ y (memF s 12 j) < 4096 := or_lt (n := 12) hu (one_lt (by omega))
      have hM1 := Lib.hid (hM.out.first HO.out HE.out hlt)
      go_wp2_with fail
      go_loopw [5, 30] (fun v i wi => ∃ u c : Nat, c ≤ K ∧ u < 4096 ∧ v = .int .i64 u ∧ i = .int .i64 c ∧ Below w1.heap.size w1 wi ∧ Hid (GB m y s K (memF s 12) u j c)) (fun _ i _ => K - (intOf i).toNat)
      case atStart => exact ⟨_, 0, Nat.zero_le _, hv, rfl, rfl, hD, hM1⟩
      case round =>
        clear hD hM1 hXr q0 q1 q2 c1 d1 o1 hv hu
        obtain ⟨v, c, hc, hv, rfl, rfl, hD, hM1⟩ := hrel
        by_cases hct : c < K
        · have hct' : (c : Int) < K := by omega
          have hXi := hX1.step hD
          have hwi := hD.size
          have q0 := hXi.cell 0 rfl
          have q1 := hXi.cell 1 rfl
          have q2 := hXi.cell 2 rfl
          obtain ⟨_, _, c2⟩ := (HL.out.below hD).row c hct
          rw [Nat.zero_add] at c2
          have hqc := HE.out.lt c hct
          obtain ⟨qj, hqj⟩ : ∃ qj, qj = memF s 12 j := ⟨_, rfl⟩
          obtain ⟨qc, hqc'⟩ : ∃ qc, qc = memF s 12 c := ⟨_, rfl⟩
          have ha : qj < m.n := by rw [hqj]; exact hq
          have hb : qc < m.n := by rw [hqc']; exact hqc
          rw [← hqc'] at c2
          have HM := Lib.hid (HO.out.mI ha hb)
          have HJ := Lib.hid (HO.out.jI ha hb)
          have hm := (HO.out.mG ha hb).lt
          have hjn := (HO.out.jG ha hb).lt
          have hm' : ((mN m qj qc : Nat) : Int) ≤ 64 := by omega
          have hjn' : ((jN m qj qc : Nat) : Int) ≤ 64 := by omega
          have HAi := Lib.hid (HA1.out.step hD)
          have HSi := Lib.hid (HS1.out.step hD)
          have HN : Hid (GB m y s K (memF s 12) (v ||| (2 ^ mN m qj qc ||| 2 ^ jN m qj qc)) j (c + 1)) := by
            rw [hqj, hqc']; exact hM1.out.add HO.out HE.out hlt hct
          have hv4 : 2 ^ mN m qj qc ||| 2 ^ jN m qj qc < 4096 := or_lt (n := 12) (one_lt (by omega)) (one_lt (by omega))
          have hv5 : v ||| (2 ^ mN m qj qc ||| 2 ^ jN m qj qc) < 4096 := or_lt (n := 12) hv hv4
          have HVal := Lib.hid (or3_is (v := v) (a := mN m qj qc) (b := jN m qj qc) hv (by omega) (by omega))
          have hS : (fun w' => ((w'.cell? ⟨w.heap.size, 0, none⟩ = some (.slice ua m.n l.cap) ∧ w'.cell? ⟨w.heap.size, 1, none⟩ = some (.slice (some ⟨g, o, none⟩) m.n nc)) ∧ w'.cell? ⟨w.heap.size, 2, none⟩ = some (.slice (some ⟨ob, 0, none⟩) 2 2))) wr.drew := ⟨⟨q0, q1⟩, q2⟩
          have hkeep : Hid (∀ wx, Below w1.heap.size wr wx → (fun w' => ((w'.cell? ⟨w.heap.size, 0, none⟩ = some (.slice ua m.n l.cap) ∧ w'.cell? ⟨w.heap.size, 1, none⟩ = some (.slice (some ⟨g, o, none⟩) m.n nc)) ∧ w'.cell? ⟨w.heap.size, 2, none⟩ = some (.slice (some ⟨ob, 0, none⟩) 2 2))) wx) := fun wx hb1 => ⟨⟨(hb1.cell (p := ⟨w.heap.size, 0, none⟩) (by show w.heap.size < _; omega)).trans q0, (hb1.cell (p := ⟨w.heap.size, 1, none⟩) (by show w.heap.size < _; omega)).trans q1⟩, (hb1.cell (p := ⟨w.heap.size, 2, none⟩) (by show w.heap.size < _; omega)).trans q2⟩
          have hcm := made_meet (na := some ⟨g, o, none⟩) (nc := nc) (k := m.n) (HAi.out.step (Below.refl _ wr).drew) (HSi.out.step (Below.refl _ wr).drew) ha hb
          unfold algV at hcm
          have e8 : u8 = u8 := rfl
          clear hXi q0 q1 q2
          go_wp2_with fail
          refine region_plain (fuel := 14) (listed := #[false, false, false, false, false, false, false, false, false, false, false, false, false, false]) (fun w' => ((w'.cell? ⟨w.heap.size, 0, none⟩ = some (.slice ua m.n l.cap) ∧ w'.cell? ⟨w.heap.size, 1, none⟩ = some (.slice (some ⟨g, o, none⟩) m.n nc)) ∧ w'.cell? ⟨w.heap.size, 2, none⟩ = some (.slice (some ⟨ob, 0, none⟩) 2 2))) (by kernel_rfl) (by kernel_rfl) (by kernel_rfl) ?_
          refine hold_take (i := 0) (d := 34) (v := ?va0) (listed' := #[true, false, false, false, false, false, false, false, false, false, false, false, false, false]) rfl (by kernel_rfl) (by kernel_rfl) (by kernel_rfl) rfl (by rfl) (by kernel_rfl) hS ?ha0 ?ra0
          case ha0 =>
            intro w' hSw
            obtain ⟨⟨k0, k1⟩, k2⟩ := hSw
            go_simp
            try with_reducible rfl
          simp only [List.setIfInBounds_toArray, List.set_cons_zero, List.set_cons_succ]
          refine hold_take (i := 1) (d := 35) (v := ?va1) (listed' := #[true, true, false, false, false, false, false, false, false, false, false, false, false, false]) rfl (by kernel_rfl) (by kernel_rfl) (by kernel_rfl) rfl (by rfl) (by kernel_rfl) hS ?ha1 ?ra1
          case ha1 =>
            intro w' hSw
            obtain ⟨⟨k0, k1⟩, k2⟩ := hSw
            go_simp
            try with_reducible rfl
          simp only [List.setIfInBounds_toArray, List.set_cons_zero, List.set_cons_succ]
          refine hold_take (i := 2) (d := 36) (v := ?va2) (listed' := #[true, true, true, false, false, false, false, false, false, false, false, false, false, false]) rfl (by kernel_rfl) (by kernel_rfl) (by kernel_rfl) rfl (by rfl) (by kernel_rfl) hS ?ha2 ?ra2
          case ha2 =>
            intro w' hSw
            obtain ⟨⟨k0, k1⟩, k2⟩ := hSw
            go_simp
            try with_reducible rfl
          simp only [List.setIfInBounds_toArray, List.set_cons_zero, List.set_cons_succ]
          refine hold_take (i := 3) (d := 37) (v := ?va3) (listed' := #[true, true, true, true, false, false, false, false, false, false, false, false, false, false]) rfl (by kernel_rfl) (by kernel_rfl) (by kernel_rfl) rfl (by rfl) (by kernel_rfl) hS ?ha3 ?ra3
          case ha3 =>
            intro w' hSw
            obtain ⟨⟨k0, k1⟩, k2⟩ := hSw
            go_simp
            try with_reducible rfl
          simp only [List.setIfInBounds_toArray, List.set_cons_zero, List.set_cons_succ]
          refine hold_take (i := 6) (d := 40) (v := ?va6) (listed' := #[true, true, true, true, false, false, true, false, false, false, false, false, false, false]) rfl (by kernel_rfl) (by kernel_rfl) (by kernel_rfl) rfl (by rfl) (by kernel_rfl) hS ?ha6 ?ra6
          case ha6 =>
            intro w' hSw
            obtain ⟨⟨k0, k1⟩, k2⟩ := hSw
            go_simp
            try with_reducible rfl
          simp only [List.setIfInBounds_toArray, List.set_cons_zero, List.set_cons_succ]
          refine hold_take (i := 7) (d := 41) (v := ?va7) (listed' := #[true, true, true, true, false, false, true, true, false, false, false, false, false, false]) rfl (by kernel_rfl) (by kernel_rfl) (by kernel_rfl) rfl (by rfl) (by kernel_rfl) hS ?ha7 ?ra7
          case ha7 =>
            intro w' hSw
            obtain ⟨⟨k0, k1⟩, k2⟩ := hSw
            go_simp
            try with_reducible rfl
          simp only [List.setIfInBounds_toArray, List.set_cons_zero, List.set_cons_succ]
          refine hold_take (i := 8) (d := 42) (v := ?va8) (listed' := #[true, true, true, true, false, false, true, true, true, false, false, false, false, false]) rfl (by kernel_rfl) (by kernel_rfl) (by kernel_rfl) rfl (by rfl) (by kernel_rfl) hS ?ha8 ?ra8
          case ha8 =>
            intro w' hSw
            obtain ⟨⟨k0, k1⟩, k2⟩ := hSw
            go_simp
            try with_reducible rfl
          simp only [List.setIfInBounds_toArray, List.set_cons_zero, List.set_cons_succ]
          refine hold_call (i := 4) (d := 38) (listed' := #[true, true, true, true, true, false, true, true, true, false, false, false, false, false]) rfl (by kernel_rfl) rfl (by rfl) (by kernel_rfl) ?hea4 (hcm) ?hca4
          case hea4 => go_simp
          rintro e w2 ⟨rfl, hw1⟩
          rw [HM.out]
          have hS1 : (fun w' => ((w'.cell? ⟨w.heap.size, 0, none⟩ = some (.slice ua m.n l.cap) ∧ w'.cell? ⟨w.heap.size, 1, none⟩ = some (.slice (some ⟨g, o, none⟩) m.n nc)) ∧ w'.cell? ⟨w.heap.size, 2, none⟩ = some (.slice (some ⟨ob, 0, none⟩) 2 2))) w2 := hkeep.out w2 (((Below.refl _ wr).drew.trans hw1).mono hwi)
          have hcj := made_join (na := some ⟨g, o, none⟩) (nc := nc) (k := m.n) (HAi.out.step ((Below.refl _ wr).drew.trans hw1)) (HSi.out.step ((Below.refl _ wr).drew.trans hw1)) ha hb
          unfold algV at hcj
          refine ⟨_, rfl, hS1, ?_⟩
          simp only [List.setIfInBounds_toArray, List.set_cons_zero, List.set_cons_succ]
          refine hold_take (i := 5) (d := 39) (v := ?va5) (listed' := #[true, true, true, true, true, true, true, true, true, false, false, false, false, false]) rfl (by kernel_rfl) (by kernel_rfl) (by kernel_rfl) rfl (by rfl) (by kernel_rfl) hS1 ?ha5 ?ra5
          case ha5 =>
            intro w' hSw
            obtain ⟨⟨k0, k1⟩, k2⟩ := hSw
            go_simp
            try with_reducible rfl
          simp only [List.setIfInBounds_toArray, List.set_cons_zero, List.set_cons_succ]
          refine hold_call (i := 9) (d := 43) (listed' := #[true, true, true, true, true, true, true, true, true, true, false, false, false, false]) rfl (by kernel_rfl) rfl (by rfl) (by kernel_rfl) ?hea9 (hcj) ?hca9
          case hea9 => go_simp
          rintro e w3 ⟨rfl, hw2⟩
          rw [HJ.out]
          have hS2 : (fun w' => ((w'.cell? ⟨w.heap.size, 0, none⟩ = some (.slice ua m.n l.cap) ∧ w'.cell? ⟨w.heap.size, 1, none⟩ = some (.slice (some ⟨g, o, none⟩) m.n nc)) ∧ w'.cell? ⟨w.heap.size, 2, none⟩ = some (.slice (some ⟨ob, 0, none⟩) 2 2))) w3 := hkeep.out w3 (((Below.refl _ wr).drew.trans (hw1.trans (hw2.mono hw1.size))).mono hwi)
          refine ⟨_, rfl, hS2, ?_⟩
          simp only [List.setIfInBounds_toArray, List.set_cons_zero, List.set_cons_succ]
          refine hold_take (i := 10) (d := 44) (v := ?va10) (listed' := #[true, true, true, true, true, true, true, true, true, true, true, false, false, false]) rfl (by kernel_rfl) (by kernel_rfl) (by kernel_rfl) rfl (by rfl) (by kernel_rfl) hS2 ?ha10 ?ra10
          case ha10 =>
            intro w' hSw
            obtain ⟨⟨k0, k1⟩, k2⟩ := hSw
            go_simp
            try with_reducible rfl
          simp only [List.setIfInBounds_toArray, List.set_cons_zero, List.set_cons_succ]
          refine hold_take (i := 11) (d := 45) (v := ?va11) (listed' := #[true, true, true, true, true, true, true, true, true, true, true, true, false, false]) rfl (by kernel_rfl) (by kernel_rfl) (by kernel_rfl) rfl (by rfl) (by kernel_rfl) hS2 ?ha11 ?ra11
          case ha11 =>
            intro w' hSw
            obtain ⟨⟨k0, k1⟩, k2⟩ := hSw
            go_simp
            try with_reducible rfl
          simp only [List.setIfInBounds_toArray, List.set_cons_zero, List.set_cons_succ]
          refine hold_take (i := 12) (d := 46) (v := ?va12) (listed' := #[true, true, true, true, true, true, true, true, true, true, true, true, true, false]) rfl (by kernel_rfl) (by kernel_rfl) (by kernel_rfl) rfl (by rfl) (by kernel_rfl) hS2 ?ha12 ?ra12
          case ha12 =>
            intro w' hSw
            obtain ⟨⟨k0, k1⟩, k2⟩ := hSw
            go_simp
            try with_reducible rfl
          simp only [List.setIfInBounds_toArray, List.set_cons_zero, List.set_cons_succ]
          refine hold_take (i := 13) (d := 5) (v := ?va13) (listed' := #[true, true, true, true, true, true, true, true, true, true, true, true, true, true]) rfl (by kernel_rfl) (by kernel_rfl) (by kernel_rfl) rfl (by rfl) (by kernel_rfl) hS2 ?ha13 ?ra13
          case ha13 =>
            intro w' hSw
            obtain ⟨⟨k0, k1⟩, k2⟩ := hSw
            go_simp
            try with_reducible rfl
          simp only [List.setIfInBounds_toArray, List.set_cons_zero, List.set_cons_succ]
          refine hold_done (by kernel_rfl) ?_ _
          have hD3 : Below w1.heap.size w1 w3 := hD.trans (((Below.refl _ wr).drew.trans (hw1.trans (hw2.mono hw1.size))).mono hwi)
          go_wp2_with fail
          subst hqj
          subst hqc'
          go_roundw
          case rel => exact ⟨_, c + 1, by omega, hv5, congrArg (Value.int .i64) HVal.out, by go_num, hD3, HN⟩
          case measure => simp [intOf]; omega
        · have hct' : ¬ (c : Int) < K := by omega
          have hce : c = K := by omega
          subst hce
          have HN := Lib.hid hM1.out.turn
          go_wp2_with fail
          go_roundw
          case rel => exact ⟨v, j + 1, by omega, hv, rfl, by go_num, hD, HN⟩
          case measure => simp [intOf]; omega
    · have hlt' : ¬ (j : Int) < K := by omega
      have hje : j = K := by omega
      subst hje
      have HG := Lib.hid (hM.out.grown HE.out)
      have hXr := hX1.step hD
      go_wp2_with fail
      go_ret
      exact ⟨u, rfl, HG.out, hXr.below⟩
end Go.Proofs.YtijcacibofpnpaaDoor
