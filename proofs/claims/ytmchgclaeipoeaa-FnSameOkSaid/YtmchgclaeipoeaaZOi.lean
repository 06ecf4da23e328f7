import Derived.Test.YtmchgclaeipoeaaZOa
import Derived.Test.YtmchgclaeipoeaaZMath
namespace Go.Proofs.Ytmchgclaeipoeaa
open Go.RowKit Go.Deep

noncomputable def noV (m : Mx) (k : Nat) (z : Nat → Int) : Int := if logicB m k z = true then leastI m else -1
end Go.Proofs.Ytmchgclaeipoeaa
namespace Go.Proofs.Ytmchgclaeipoeaa
open Go.RowKit Go.Deep

set_option maxRecDepth 100000 in
set_option maxHeartbeats 2000000 in
theorem spec_NoOf {w : World} {B : Nat} {ua : Option Addr} {l : Lay} {m : Mx} {na : Option Addr} {g o k nc : Nat} {z : Nat → Int} (h : LogAt w B ua l m na g o k z) :
    Calls Try.prog 21 #[.agg #[.slice ua m.n l.cap, .slice na k nc]] w fun e w' => e = .returned (.int .i64 (noV m k z)) ∧ Below w.heap.size w w' := by
  have hX := BoxN.start w #[.slice ua m.n l.cap, .slice na k nc] 26
  have q0 := hX.cell 0 rfl
  have q1 := hX.cell 1 rfl
  have bw := hX.below
  have h2 := Lib.hid (h.step bw)
  have hkk := h.hk
  clear h
  go_enter Try.func21, Try.ntmps21
  go_wp2_with fail
  go_at_call 7
  refine (spec_LogicOk h2.out).mono ?_
  rintro e w1 ⟨rfl, b1⟩
  have B1 := bw.trans (b1.mono bw.size)
  have hX1 := hX.step b1
  have r0 := hX1.cell 0 rfl
  have r1 := hX1.cell 1 rfl
  have h3 := Lib.hid (h2.out.step b1)
  clear q0 q1
  cases hg : logicB m k z with
  | true =>
    have HV : Hid (leastV m = noV m k z) := by show _ = _; unfold noV; rw [if_pos hg, leastV_yes (orderB_true (logicB_is hg).lat.order)]
    clear hg
    go_wp2_with fail
    go_at_call 25
    refine (spec_LeastOf h3.out.hn h3.out.hL h3.out.mat).mono ?_
    rintro e w2 ⟨rfl, rfl⟩
    go_wp2_with fail
    go_ret
    exact ⟨ret_int HV.out, B1⟩
  | false =>
    have HV : Hid ((-1 : Int) = noV m k z) := by show _ = _; unfold noV; rw [if_neg (by rw [hg]; decide)]
    clear hg
    go_wp2_with fail
    go_ret
    exact ⟨ret_int HV.out, B1⟩

end Go.Proofs.Ytmchgclaeipoeaa
namespace Go.Proofs.Ytmchgclaeipoeaa
open Go.RowKit Go.Deep

end Go.Proofs.Ytmchgclaeipoeaa
namespace Go.Proofs.Ytmchgclaeipoeaa
open Go.RowKit Go.Deep Go.Shelf

attribute [local go_sem] Oper.semAt_some

/-- Nothing speaks against the pairs of the list. -/
def AllKeep (m : Mx) (y : Nat → Nat) (pre : List (Fin m.n × Fin m.n)) : Prop := ∀ p ∈ pre, keepsPB m y p.1.val p.2.val = true
theorem AllKeep.snoc {m : Mx} {y : Nat → Nat} {pre : List (Fin m.n × Fin m.n)} (h : AllKeep m y pre) {x : Fin m.n × Fin m.n} (hx : keepsPB m y x.1.val x.2.val = true) : AllKeep m y (pre ++ [x]) := fun p hp => by
  rcases List.mem_append.1 hp with e | e
  · exact h p e
  · have e' : p = x := by simpa using e
    rw [e']; exact hx

set_option maxRecDepth 100000 in
set_option maxHeartbeats 2000000 in
theorem KeepsOk_no {w : World} {B : Nat} {ua : Option Addr} {l : Lay} {m : Mx} {na : Option Addr} {g o k nc : Nat} {z : Nat → Int} (h : LogAt w B ua l m na g o k z) (hl : logicB m k z = false) :
    Calls Try.prog 9 #[.agg #[.slice ua m.n l.cap, .slice na k nc]] w fun e w' => e = .returned (.bool (keepsV m k z)) ∧ Below w.heap.size w w' := by
  have HF : Hid (false = keepsV m k z) := by show _ = _; unfold keepsV; rw [hl]; rfl
  have hX := BoxN.start w #[.slice ua m.n l.cap, .slice na k nc] 26
  have hV := Boxd.start (w.alloc (.cells #[.slice ua m.n l.cap, .slice na k nc] 26)) (.bool false) 4
  have hX1 := hX.step (hV.below.mono (by simp))
  have q0 := hX1.cell 0 rfl
  have q1 := hX1.cell 1 rfl
  have bw := hX1.below
  have h2 := Lib.hid (h.step bw)
  have HL := Lib.hid hl
  have e1 : (w.alloc (.cells #[.slice ua m.n l.cap, .slice na k nc] 26)).heap.size = w.heap.size + 1 := World.size_alloc _ _
  have hVs := hV.size
  have hVc := hV.cell
  have hVf := hV.frozen
  rw [e1] at hVc hVf hVs
  clear hl h
  go_enter Try.func9, Try.ntmps9
  have hrow2 : Hid (RowAt ((w.alloc (.cells #[.slice ua m.n l.cap, .slice na k nc] 26)).alloc (.cells #[.bool false] 4)) ((w.alloc (.cells #[.slice ua m.n l.cap, .slice na k nc] 26)).alloc (.cells #[.bool false] 4)).heap.size none 0 0 0 (fun _ => 0)) := ⟨fun c hc => absurd hc (Nat.not_lt_zero _)⟩
  go_wp2_with fail
  generalize hW : (w.alloc (.cells #[.slice ua m.n l.cap, .slice na k nc] 26)).alloc (.cells #[.bool false] 4) = W0 at hX1 bw h2 hrow2 q0 q1 hVc hVf hVs ⊢
  clear hX hV hW e1
  go_at_call 15
  refine (algebraWith_any h2.out hrow2.out (by omega)).mono ?_
  rintro e w1 ⟨b1, (⟨hg, ob, tb, tG, rfl, hA⟩ | ⟨hg, rfl⟩)⟩
  · exfalso
    rw [HL.out] at hg
    cases hg
  · have B1 := bw.trans (b1.mono bw.size)
    have ba := (Below.refl w1.heap.size w1).alloc (Nat.le_refl _) (.cells #[.slice none 0 0, .slice none 0 0, .slice none 0 0] 42)
    have s1 := b1.size
    have B2 := B1.trans (ba.mono B1.size)
    have v2 := ((ba.cell (p := ⟨w.heap.size + 1, 0, none⟩) (by show w.heap.size + 1 < _; omega)).trans (b1.cell (p := ⟨w.heap.size + 1, 0, none⟩) (by show w.heap.size + 1 < _; omega))).trans hVc
    have f2 := ((ba.frozen (p := ⟨w.heap.size + 1, 0, none⟩) (by show w.heap.size + 1 < _; omega)).trans (b1.frozen (p := ⟨w.heap.size + 1, 0, none⟩) (by show w.heap.size + 1 < _; omega))).trans hVf
    clear ba
    unfold noAlg
    go_wp2_with fail
    have c5 := World.cell?_setCell_same' (w1.alloc (.cells #[.slice none 0 0, .slice none 0 0, .slice none 0 0] 42)) ⟨w.heap.size + 1, 0, none⟩ (.bool false) (by rw [v2]; rfl)
    refine bodyPost_ret (v := .bool false) (by simp [results, Try.results9, go_sem, c5]) rfl ?_
    exact ⟨ret_bool HF.out, B2.setCell (p := ⟨w.heap.size + 1, 0, none⟩) (by show w.heap.size ≤ w.heap.size + 1; omega) _⟩

set_option maxRecDepth 100000 in
set_option maxHeartbeats 2000000 in
theorem KeepsOk_any {w : World} {B : Nat} {ua : Option Addr} {l : Lay} {m : Mx} {na : Option Addr} {g o k nc : Nat} {z : Nat → Int} (h : LogAt w B ua l m na g o k z) :
    Calls Try.prog 9 #[.agg #[.slice ua m.n l.cap, .slice na k nc]] w fun e w' => e = .returned (.bool (keepsV m k z)) ∧ Below w.heap.size w w' := by
  cases hl : logicB m k z with
  | false => exact KeepsOk_no h hl
  | true =>
  have hlog := logicB_is hl
  obtain ⟨y, o', hO⟩ := hlog.ortho
  have hkn : k = m.n := hlog.pair.len
  subst hkn
  have hn := hO.lat.order.top
  have hpos := hO.lat.order.pos
  have HV : Hid (keepsV m m.n z = keepsB m y) := keepsV_is hO
  have HO := Lib.hid hO
  obtain ⟨rfl, hgB, hg2⟩ := h.row.row 0 (by omega)
  have hgB' : g < w.heap.size := by have := h.hB; omega
  clear hl hO hlog hg2 hgB
  have hX := BoxN.start w #[.slice ua m.n l.cap, .slice (some ⟨g, o, none⟩) m.n nc] 26
  have hV := Boxd.start (w.alloc (.cells #[.slice ua m.n l.cap, .slice (some ⟨g, o, none⟩) m.n nc] 26)) (.bool false) 4
  have hX1 := hX.step (hV.below.mono (by simp))
  have q0 := hX1.cell 0 rfl
  have q1 := hX1.cell 1 rfl
  have bw := hX1.below
  have h2 := Lib.hid (h.step bw)
  have e1 : (w.alloc (.cells #[.slice ua m.n l.cap, .slice (some ⟨g, o, none⟩) m.n nc] 26)).heap.size = w.heap.size + 1 := World.size_alloc _ _
  have hVs := hV.size
  have hVc := hV.cell
  have hVf := hV.frozen
  rw [e1] at hVc hVf hVs
  refine (callsIn_wide (n := 9)).1 ?_
  refine callsIn_of_wp_marks Try.func9 rfl trivial ?_ rfl
  simp only [Try.ntmps9, List.size_toArray, List.length_cons, List.length_nil, Nat.reduceAdd, Nat.reduceSub, Array.replicate_succ, Array.replicate_zero, List.push_toArray, List.append_toArray, List.nil_append, List.cons_append]
  gi_wp2_with fail
  have hrow2 : Hid (RowAt ((w.alloc (.cells #[.slice ua m.n l.cap, .slice (some ⟨g, o, none⟩) m.n nc] 26)).alloc (.cells #[.bool false] 4)) ((w.alloc (.cells #[.slice ua m.n l.cap, .slice (some ⟨g, o, none⟩) m.n nc] 26)).alloc (.cells #[.bool false] 4)).heap.size none 0 0 0 (fun _ => 0)) := ⟨fun c hc => absurd hc (Nat.not_lt_zero _)⟩
  generalize hW : (w.alloc (.cells #[.slice ua m.n l.cap, .slice (some ⟨g, o, none⟩) m.n nc] 26)).alloc (.cells #[.bool false] 4) = W0 at hX1 bw h2 hrow2 q0 q1 hVc hVf hVs ⊢
  clear hX hV hW e1 h
  refine ⟨trivial, ?_⟩
  refine (callsIn_wide.2 (algebraWith_any h2.out hrow2.out (by omega))).mono ?_
  rintro e w1 ⟨b1, (⟨hg, ob, tb, tG, rfl, hA⟩ | ⟨hg, rfl⟩)⟩
  case inr =>
    exfalso
    rw [good_nil, Bool.and_true, logicB_true HO.out.logic] at hg
    cases hg
  clear hg hrow2 q0 q1
  have s1 := b1.size
  have B1 := bw.trans (b1.mono bw.size)
  have hY := BoxN.start w1 #[.slice ua m.n l.cap, .slice (some ⟨g, o, none⟩) m.n nc, .slice (some ⟨ob, 0, none⟩) 2 2] 42
  have hYb := hY.below
  have ys : (w1.alloc (.cells #[.slice ua m.n l.cap, .slice (some ⟨g, o, none⟩) m.n nc, .slice (some ⟨ob, 0, none⟩) 2 2] 42)).heap.size = w1.heap.size + 1 := World.size_alloc _ _
  have BY := B1.trans (hYb.mono B1.size)
  have v2 := ((hYb.cell (p := ⟨w.heap.size + 1, 0, none⟩) (by show w.heap.size + 1 < _; omega)).trans (b1.cell (p := ⟨w.heap.size + 1, 0, none⟩) (by show w.heap.size + 1 < _; omega))).trans hVc
  have f2 := ((hYb.frozen (p := ⟨w.heap.size + 1, 0, none⟩) (by show w.heap.size + 1 < _; omega)).trans (b1.frozen (p := ⟨w.heap.size + 1, 0, none⟩) (by show w.heap.size + 1 < _; omega))).trans hVf
  have HS := Lib.hid (((h2.out.step b1).step hYb).sq HO.out.lat.order)
  have HR := Lib.hid ((h2.out.step b1).step hYb).row
  have HB := ((h2.out.step b1).step hYb).hB
  have HA := Lib.hid (hA.step hYb)
  have r0 := hY.cell 0 rfl
  clear hA h2 hVc hVf hYb
  unfold algV
  gi_wp2_with fail
  generalize hW : w1.alloc (.cells #[.slice ua m.n l.cap, .slice (some ⟨g, o, none⟩) m.n nc, .slice (some ⟨ob, 0, none⟩) 2 2] 42) = W1 at hY BY v2 f2 HS HR HA r0 HB ys ⊢
  clear hW
  refine ⟨trivial, ?_⟩
  refine (pairs_any _ _ _).mono ?_
  rintro e w' ⟨rfl, rfl⟩
  gi_wp2_with fail
  have hP := Boxd.start W1 (.slice ua m.n l.cap) 39
  have hP0 := hP.cell
  have hPs := hP.size
  have hPb := hP.below
  rw [ys] at hP0 hPs
  have hY2 := hY.step hPb
  have v3 := (hPb.cell (p := ⟨w.heap.size + 1, 0, none⟩) (by show w.heap.size + 1 < _; omega)).trans v2
  have f3 := (hPb.frozen (p := ⟨w.heap.size + 1, 0, none⟩) (by show w.heap.size + 1 < _; omega)).trans f2
  have HS2 := Lib.hid (HS.out.step hPb)
  have HR2 := Lib.hid (HR.out.below (hPb.mono HB))
  have HA2 := Lib.hid (HA.out.step hPb)
  have BW := BY.trans (hPb.mono BY.size)
  have HB2 : B ≤ (W1.alloc (.cells #[.slice ua m.n l.cap] 39)).heap.size := by have := hPb.size; omega
  clear hP r0 hY v2 f2 HS HR HA hPb BY
  generalize hW0 : W1.alloc (.cells #[.slice ua m.n l.cap] 39) = W2 at hY2 v3 f3 HS2 HR2 HA2 BW HB2 hP0 hPs ⊢
  clear hW0
  refine wpIn_rangeFunc_ownG rfl (by omega) (gf := 49) (lb := #[.pointer (some ⟨w1.heap.size + 1, 0, none⟩)]) rfl trivial (enters_of Try.func49 (by kernel_rfl) rfl)
    (pairs_stops _ m.n (by omega) hn (w1.heap.size + 1) W2.heap.size l.cap ua W2 (by omega) (Nat.le_refl _) hP0) belowK_t (belowK_b (Nat.le_refl _)) (Below.refl _ _) (fun _ => rfl)
    (fun pre W => AllKeep m y pre ∧ Below W2.heap.size W2 W)
    (fun c _ W => (c = .ret ∧ keepsB m y = false) ∧ W.cell? ⟨w.heap.size + 1, 0, none⟩ = some (.bool false) ∧ Below w.heap.size w W)
    (OwnFrom.and (ownFrom_pure _ _) (ownFrom_below (Nat.le_refl _) (Nat.le_refl _)))
    (fun c => OwnFrom.and (ownFrom_pure _ _) (OwnFrom.and (Own.from (fun s A B row hs hg hr => cell_kept hs hg hr) _) (ownFrom_below (Nat.le_refl _) BW.size)))
    ⟨fun p hp => absurd hp (by simp), Below.refl _ _⟩
    (fun x => { tmps := #[.agg #[.slice ua m.n l.cap, .slice (some ⟨g, o, none⟩) m.n nc], .pointer (some ⟨w.heap.size, 0, none⟩), .pointer (some ⟨w.heap.size + 1, 0, none⟩), .pointer (some ⟨w1.heap.size, 0, none⟩), .bool true,
        .int .i64 ((x.1.val : Nat) : Int), .int .i64 ((x.2.val : Nat) : Int), undef,
        .tuple #[.agg #[.slice ua m.n l.cap, .slice (some ⟨g, o, none⟩) m.n nc, .slice (some ⟨ob, 0, none⟩) 2 2], .bool true],
        .agg #[.slice ua m.n l.cap, .slice (some ⟨g, o, none⟩) m.n nc],
        .tuple #[.agg #[.slice ua m.n l.cap, .slice (some ⟨g, o, none⟩) m.n nc, .slice (some ⟨ob, 0, none⟩) 2 2], .bool true],
        .agg #[.slice ua m.n l.cap, .slice (some ⟨g, o, none⟩) m.n nc, .slice (some ⟨ob, 0, none⟩) 2 2],
        .bool true, .bool true, .bool false, .pointer (some ⟨w1.heap.size, 0, none⟩), .agg #[.slice ua m.n l.cap], .func (.func 49) #[] #[.pointer (some ⟨w1.heap.size + 1, 0, none⟩)],
        .int .i64 ((x.1.val : Nat) : Int), .int .i64 ((x.2.val : Nat) : Int), undef, undef, undef, undef, undef, undef, undef, undef, undef, undef, undef, undef, undef, undef, undef, undef, undef, undef, undef, undef, undef], defers := [] }) ?assign ?body ?done ?stop
  case assign =>
    intro lr x W K hK
    dsimp only
    clear hP0 hY2 v3 f3 HS2 HR2 HA2 BW HB2 hPs hpos hn HV HO hX1 bw hVs b1 s1 B1 ys HB
    gi_wp2
    exact hK
  case body =>
    rintro lr pre ⟨⟨a, ha⟩, ⟨b, hb⟩⟩ W ⟨hp0, hB⟩ _
    have hp := Lib.hid hp0
    have hYW := hY2.step hB
    have q0 := hYW.cell 0 rfl
    have q1 := hYW.cell 1 rfl
    have q2 := hYW.cell 2 rfl
    have hs := hB.size
    have hbW : Below w.heap.size w W := BW.trans (hB.mono BW.size)
    have hSd := Lib.hid ((HS2.out.step hB).step (Below.refl _ W).drew)
    have hAd := Lib.hid ((HA2.out.step hB).step (Below.refl _ W).drew)
    have v0 := (hB.cell (p := ⟨w.heap.size + 1, 0, none⟩) (by show w.heap.size + 1 < _; omega)).trans v3
    have vf := (hB.frozen (p := ⟨w.heap.size + 1, 0, none⟩) (by show w.heap.size + 1 < _; omega)).trans f3
    obtain ⟨_, _, c1⟩ := (HR2.out.below (hB.mono HB2)).row a ha
    rw [HO.out.zy a ha] at c1
    have ya' := HO.out.lt a ha
    have hm := (HO.out.mG hb ya').lt
    have HM := Lib.hid (HO.out.mI hb ya')
    have HJ := Lib.hid (HO.out.jI ha hm)
    have ha' : (a : Int) < m.n := by omega
    have hb' : (b : Int) < m.n := by omega
    have hn1 : 1 ≤ 9 - 1 - 1 := by omega
    dsimp only
    have hx : w1.heap.size < W.heap.size := by omega
    have hgW : g < W.heap.size := by omega
    have hrW : w.heap.size + 1 < W.heap.size := by omega
    clear hp0 hP0 hY2 v3 f3 hYW HS2 HR2 HA2
    have hS : (fun w' => (((w'.cell? ⟨w1.heap.size, 0, none⟩ = some (.slice ua m.n l.cap) ∧ w'.cell? ⟨w1.heap.size, 1, none⟩ = some (.slice (some ⟨g, o, none⟩) m.n nc)) ∧ w'.cell? ⟨w1.heap.size, 2, none⟩ = some (.slice (some ⟨ob, 0, none⟩) 2 2)) ∧ w'.cell? ⟨g, o + a, none⟩ = some (.int .i64 (y a)))) W.drew := ⟨⟨⟨q0, q1⟩, q2⟩, c1⟩
    have hkeep : Hid (∀ w1', Below W.heap.size W w1' → (fun w' => (((w'.cell? ⟨w1.heap.size, 0, none⟩ = some (.slice ua m.n l.cap) ∧ w'.cell? ⟨w1.heap.size, 1, none⟩ = some (.slice (some ⟨g, o, none⟩) m.n nc)) ∧ w'.cell? ⟨w1.heap.size, 2, none⟩ = some (.slice (some ⟨ob, 0, none⟩) 2 2)) ∧ w'.cell? ⟨g, o + a, none⟩ = some (.int .i64 (y a)))) w1') := fun w1' hb1 => ⟨⟨⟨(hb1.cell (p := ⟨w1.heap.size, 0, none⟩) hx).trans q0, (hb1.cell (p := ⟨w1.heap.size, 1, none⟩) hx).trans q1⟩, (hb1.cell (p := ⟨w1.heap.size, 2, none⟩) hx).trans q2⟩, (hb1.cell (p := ⟨g, o + a, none⟩) hgW).trans c1⟩
    have hcm := made_meet (na := some ⟨g, o, none⟩) (nc := nc) (k := m.n) hAd.out hSd.out hb ya'
    unfold algV at hcm
    gi_wp2_with fail
    refine region_hold (fuel := 9) (listed := #[false, false, false, false, false, false, false, false, false]) (fun w' => (((w'.cell? ⟨w1.heap.size, 0, none⟩ = some (.slice ua m.n l.cap) ∧ w'.cell? ⟨w1.heap.size, 1, none⟩ = some (.slice (some ⟨g, o, none⟩) m.n nc)) ∧ w'.cell? ⟨w1.heap.size, 2, none⟩ = some (.slice (some ⟨ob, 0, none⟩) 2 2)) ∧ w'.cell? ⟨g, o + a, none⟩ = some (.int .i64 (y a)))) (by kernel_rfl) (by kernel_rfl) (by kernel_rfl) (by kernel_rfl) ?_
    refine hold_take (i := 0) (d := 20) (v := ?va0) (listed' := #[true, false, false, false, false, false, false, false, false]) rfl (by kernel_rfl) (by kernel_rfl) (by kernel_rfl) rfl (by rfl) (by kernel_rfl) hS ?ha0 ?ra0
    case ha0 =>
      intro w' hSw
      obtain ⟨⟨⟨k0, k1⟩, k2⟩, k3⟩ := hSw
      go_simp
      try with_reducible rfl
    simp only [List.setIfInBounds_toArray, List.set_cons_zero, List.set_cons_succ]
    refine hold_take (i := 1) (d := 21) (v := ?va1) (listed' := #[true, true, false, false, false, false, false, false, false]) rfl (by kernel_rfl) (by kernel_rfl) (by kernel_rfl) rfl (by rfl) (by kernel_rfl) hS ?ha1 ?ra1
    case ha1 =>
      intro w' hSw
      obtain ⟨⟨⟨k0, k1⟩, k2⟩, k3⟩ := hSw
      go_simp
      try with_reducible rfl
    simp only [List.setIfInBounds_toArray, List.set_cons_zero, List.set_cons_succ]
    refine hold_take (i := 2) (d := 22) (v := ?va2) (listed' := #[true, true, true, false, false, false, false, false, false]) rfl (by kernel_rfl) (by kernel_rfl) (by kernel_rfl) rfl (by rfl) (by kernel_rfl) hS ?ha2 ?ra2
    case ha2 =>
      intro w' hSw
      obtain ⟨⟨⟨k0, k1⟩, k2⟩, k3⟩ := hSw
      go_simp
      try with_reducible rfl
    simp only [List.setIfInBounds_toArray, List.set_cons_zero, List.set_cons_succ]
    refine hold_take (i := 3) (d := 23) (v := ?va3) (listed' := #[true, true, true, true, false, false, false, false, false]) rfl (by kernel_rfl) (by kernel_rfl) (by kernel_rfl) rfl (by rfl) (by kernel_rfl) hS ?ha3 ?ra3
    case ha3 =>
      intro w' hSw
      obtain ⟨⟨⟨k0, k1⟩, k2⟩, k3⟩ := hSw
      go_simp
      try with_reducible rfl
    simp only [List.setIfInBounds_toArray, List.set_cons_zero, List.set_cons_succ]
    refine hold_take (i := 4) (d := 24) (v := ?va4) (listed' := #[true, true, true, true, true, false, false, false, false]) rfl (by kernel_rfl) (by kernel_rfl) (by kernel_rfl) rfl (by rfl) (by kernel_rfl) hS ?ha4 ?ra4
    case ha4 =>
      intro w' hSw
      obtain ⟨⟨⟨k0, k1⟩, k2⟩, k3⟩ := hSw
      go_simp
      try with_reducible rfl
    simp only [List.setIfInBounds_toArray, List.set_cons_zero, List.set_cons_succ]
    refine hold_take (i := 5) (d := 25) (v := ?va5) (listed' := #[true, true, true, true, true, true, false, false, false]) rfl (by kernel_rfl) (by kernel_rfl) (by kernel_rfl) rfl (by rfl) (by kernel_rfl) hS ?ha5 ?ra5
    case ha5 =>
      intro w' hSw
      obtain ⟨⟨⟨k0, k1⟩, k2⟩, k3⟩ := hSw
      go_simp
      try with_reducible rfl
    simp only [List.setIfInBounds_toArray, List.set_cons_zero, List.set_cons_succ]
    refine hold_take (i := 6) (d := 26) (v := ?va6) (listed' := #[true, true, true, true, true, true, true, false, false]) rfl (by kernel_rfl) (by kernel_rfl) (by kernel_rfl) rfl (by rfl) (by kernel_rfl) hS ?ha6 ?ra6
    case ha6 =>
      intro w' hSw
      obtain ⟨⟨⟨k0, k1⟩, k2⟩, k3⟩ := hSw
      go_simp
      try with_reducible rfl
    simp only [List.setIfInBounds_toArray, List.set_cons_zero, List.set_cons_succ]
    refine hold_call (i := 7) (d := 27) (listed' := #[true, true, true, true, true, true, true, true, false]) rfl (by kernel_rfl) rfl (by rfl) (by kernel_rfl) ?hea7 (hcm) ?hca7
    case hea7 => go_simp
    rintro e w2 ⟨rfl, hw1⟩
    rw [HM.out]
    have hall : Below W.heap.size W w2 := (Below.refl _ W).drew.trans hw1
    have hS1 : (fun w' => (((w'.cell? ⟨w1.heap.size, 0, none⟩ = some (.slice ua m.n l.cap) ∧ w'.cell? ⟨w1.heap.size, 1, none⟩ = some (.slice (some ⟨g, o, none⟩) m.n nc)) ∧ w'.cell? ⟨w1.heap.size, 2, none⟩ = some (.slice (some ⟨ob, 0, none⟩) 2 2)) ∧ w'.cell? ⟨g, o + a, none⟩ = some (.int .i64 (y a)))) w2 := hkeep.out w2 hall
    refine ⟨_, rfl, hS1, ?_⟩
    simp only [List.setIfInBounds_toArray, List.set_cons_zero, List.set_cons_succ]
    refine hold_take (i := 8) (d := 7) (v := ?va8) (listed' := #[true, true, true, true, true, true, true, true, true]) rfl (by kernel_rfl) (by kernel_rfl) (by kernel_rfl) rfl (by rfl) (by kernel_rfl) hS1 ?ha8 ?ra8
    case ha8 =>
      intro w' hSw
      obtain ⟨⟨⟨k0, k1⟩, k2⟩, k3⟩ := hSw
      go_simp
      try with_reducible rfl
    simp only [List.setIfInBounds_toArray, List.set_cons_zero, List.set_cons_succ]
    refine hold_done (by kernel_rfl) ?_ _
    gi_wp2_with fail
    refine ⟨trivial, ?_⟩
    have hS1d := Lib.hid (hSd.out.step hw1)
    have hA1d := Lib.hid (hAd.out.step hw1)
    refine (CallsIn.inRound lr (callsIn_wide.2 (below_sq hS1d.out ha hb))).mono ?_
    rintro e w3 ⟨rfl, hw2⟩
    have hall2 : Below W.heap.size W w3 := hall.trans (hw2.mono hall.size)
    obtain ⟨⟨⟨e0, e1⟩, e2⟩, e3⟩ := hkeep.out w3 hall2
    cases h1 : leB m a b with
    | false =>
      have HP : Hid (keepsPB m y a b = true) := by show _ = _; unfold keepsPB; rw [h1]; rfl
      have H1 := Lib.hid h1
      clear h1
      gi_wp2_with fail
      refine ⟨trivial, ?_⟩
      gi_wp2_with fail
      exact ⟨keepsFrom_below hall2, hall2.mono hs, hp.out.snoc HP.out, hB.trans (hall2.mono hs)⟩
    | true =>
      have H1 := Lib.hid h1
      clear h1
      gi_wp2_with fail
      refine ⟨trivial, ?_⟩
      refine (CallsIn.inRound lr (callsIn_wide.2 (made_join (na := some ⟨g, o, none⟩) (nc := nc) (hA1d.out.step hw2) (hS1d.out.step hw2) ha hm))).mono ?_
      rintro e w4 ⟨rfl, hw3⟩
      rw [HJ.out]
      have hall3 : Below W.heap.size W w4 := hall2.trans (hw3.mono hall2.size)
      by_cases hk : jN m a (mN m b (y a)) = b
      · have HP : Hid (keepsPB m y a b = true) := by show _ = _; unfold keepsPB; rw [hk]; simp
        have n1 : (((jN m a (mN m b (y a)) : Nat) : Int) != (b : Int)) = false := by simp [hk]
        clear hk
        gi_wp2_with fail
        exact ⟨keepsFrom_below hall3, hall3.mono hs, hp.out.snoc HP.out, hB.trans (hall3.mono hs)⟩
      · have n1 : (((jN m a (mN m b (y a)) : Nat) : Int) != (b : Int)) = true := by simp; omega
        have HF : Hid (keepsB m y = false) := allB_false ha (allB_false hb (by unfold keepsPB; rw [H1.out]; simp [hk]))
        have v3 := (hall3.cell (p := ⟨w.heap.size + 1, 0, none⟩) hrW).trans v0
        have f4 := (hall3.frozen (p := ⟨w.heap.size + 1, 0, none⟩) hrW).trans vf
        clear hk
        gi_wp2_with fail
        exact ⟨(keepsFrom_below hall3).trans ((KeepsOthers.setCell _ _ _).from _), ⟨rfl, HF.out⟩, World.cell?_setCell_same' _ _ _ (by rw [v3]; rfl), (hbW.trans (hall3.mono (by omega))).setCell (p := ⟨w.heap.size + 1, 0, none⟩) (by show w.heap.size ≤ w.heap.size + 1; omega) _⟩
  case done =>
    rintro D ys W hD hys ⟨hp0, hB⟩ hK
    have HO' : Hid (keepsB m y = true) := allB_true fun a ha => allB_true fun b hb => hp0 _ (hys ⟨a, ha⟩ ⟨b, hb⟩)
    clear hp0
    have v0 := (hB.cell (p := ⟨w.heap.size + 1, 0, none⟩) (by show w.heap.size + 1 < _; omega)).trans v3
    have vf := (hB.frozen (p := ⟨w.heap.size + 1, 0, none⟩) (by show w.heap.size + 1 < _; omega)).trans f3
    have hbW := BW.trans (hB.mono BW.size)
    have hDs : w.heap.size ≤ D := Nat.le_trans BW.size hD
    gi_wp2
    have hK' := (KeepsOthers.setCell W ⟨w.heap.size + 1, 0, none⟩ (.bool true)).same D _ hK rfl
    refine ⟨by simp, .inl ⟨_, _, rfl, run_takeDeferred hK', ?_⟩⟩
    have hc5 := cell_kept (World.cell?_setCell_same' W ⟨w.heap.size + 1, 0, none⟩ (.bool true) (by rw [v0]; rfl)) (grownBy_putObj' _ D (.deferred none)) (fun r e => by cases e; exact ⟨_, hK', rfl⟩)
    refine ⟨.bool true, ?_, ret_bool (HO'.out.symm.trans HV.out.symm), (hbW.setCell (p := ⟨w.heap.size + 1, 0, none⟩) (by show w.heap.size ≤ w.heap.size + 1; omega) _).trans (belowK_b (w := w) (Nat.le_refl _) _ D _ _ hDs hK' rfl rfl)⟩
    simp [results, Try.f9, go_sem, hc5]
  case stop =>
    rintro D c pre W hD _ ⟨⟨rfl, hbad⟩, hcr, hB⟩ hK
    have hDs : w.heap.size ≤ D := Nat.le_trans BW.size hD
    gi_wp2
    refine ⟨by simp, .inl ⟨_, _, rfl, run_takeDeferred hK, ?_⟩⟩
    have hc5 := cell_kept hcr (grownBy_putObj' _ D (.deferred none)) (fun r e => by cases e; exact ⟨_, hK, rfl⟩)
    refine ⟨.bool false, ?_, ret_bool (hbad.symm.trans HV.out.symm), hB.trans (belowK_b (w := w) (Nat.le_refl _) W D _ _ hDs hK rfl rfl)⟩
    simp [results, Try.f9, go_sem, hc5]
end Go.Proofs.Ytmchgclaeipoeaa
