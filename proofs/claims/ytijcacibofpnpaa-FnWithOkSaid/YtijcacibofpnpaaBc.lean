/- The walks of the program's allAgree, CentreOf and BothWaysOk. -/
import Derived.Test.YtijcacibofpnpaaBb
import Derived.Test.YtijcacibofpnpaaAb
namespace Go.Proofs.Ytijcacibofpnpaa
open Go.RowKit Go.Deep Go.Shelf

attribute [local go_sem] Oper.semAt_some

set_option maxRecDepth 100000 in
set_option maxHeartbeats 2000000 in
theorem allAgree_any {w : World} {B ob tb g o nc n0 bx mb a : Nat} {tG : Nat → Nat} {ua : Option Addr} {l : Lay} {m : Mx} {z : Nat → Int} {y : Nat → Nat} (h : AL w B ob tb tG ua l m g o z y n0) (hG : AgAt m y mb bx w) (ha : a < m.n) :
    Calls Try.prog 69 #[.agg #[.slice ua m.n l.cap, .slice (some ⟨g, o, none⟩) m.n nc, .slice (some ⟨ob, 0, none⟩) 2 2], .int .i64 a, agF bx] w fun e w' => e = .returned (.bool (midB m y a)) ∧ Below w.heap.size w w' := by
  have hn := h.O.lat.order.top
  have hX := BoxN.start w #[.slice ua m.n l.cap, .slice (some ⟨g, o, none⟩) m.n nc, .slice (some ⟨ob, 0, none⟩) 2 2] 60
  have q1 := hX.cell 1 rfl
  have hG1 := Lib.hid (hG.step hX.below)
  have hB := hX.below
  clear h hG hX
  go_enter Try.func69, Try.ntmps69
  go_wp2_with fail
  generalize w.alloc (.cells #[.slice ua m.n l.cap, .slice (some ⟨g, o, none⟩) m.n nc, .slice (some ⟨ob, 0, none⟩) 2 2] 60) = W at q1 hG1 hB ⊢
  go_loopw [11] (fun i wr => ∃ b : Nat, b ≤ m.n ∧ i = .int .i64 b ∧ wr = W ∧ Hid (midP m y a b = true)) (fun i _ => m.n - (intOf i).toNat)
  case atStart => exact ⟨0, Nat.zero_le _, rfl, rfl, rfl⟩
  case round =>
    obtain ⟨b, hbn, rfl, rfl, hP⟩ := hrel
    by_cases hbt : b < m.n
    · have hbt' : (b : Int) < m.n := by omega
      cases g1 : agB m y a b with
      | false =>
        have HF : Hid (false = midB m y a) := (allB_false hbt (by rw [g1]; rfl)).symm
        have G1 := Lib.hid g1
        clear g1
        go_wp2_with fail
        go_at_call 82
        refine (agrees_any hG1.out hn ha hbt).mono ?_
        rintro e w' ⟨rfl, rfl⟩
        rw [G1.out]
        go_wp2_with fail
        go_ret
        exact ⟨ret_bool HF.out, hB⟩
      | true =>
        have G1 := Lib.hid g1
        go_wp2_with fail
        go_at_call 82
        refine (agrees_any hG1.out hn ha hbt).mono ?_
        rintro e w' ⟨rfl, rfl⟩
        rw [G1.out]
        cases g2 : agB m y b a with
        | false =>
          have HF : Hid (false = midB m y a) := (allB_false hbt (by rw [g1, g2]; rfl)).symm
          have G2 := Lib.hid g2
          clear g1 g2
          go_wp2_with fail
          go_at_call 82
          refine (agrees_any hG1.out hn hbt ha).mono ?_
          rintro e w' ⟨rfl, rfl⟩
          rw [G2.out]
          go_wp2_with fail
          go_ret
          exact ⟨ret_bool HF.out, hB⟩
        | true =>
          have G2 := Lib.hid g2
          have HP : Hid (midP m y a (b + 1) = true) := by
            show allB _ _ = _
            rw [allB_step, g1, g2]
            exact (Bool.and_true _).trans hP.out
          clear g1 g2
          go_wp2_with fail
          go_at_call 82
          refine (agrees_any hG1.out hn hbt ha).mono ?_
          rintro e w' ⟨rfl, rfl⟩
          rw [G2.out]
          go_wp2_with fail
          go_roundw
          case rel => exact ⟨b + 1, by omega, by go_num, trivial, HP⟩
          case measure => simp [intOf]; omega
    · have hbt' : ¬ (b : Int) < m.n := by omega
      have HF : Hid (true = midB m y a) := by
        have e : b = m.n := by omega
        have h1 := hP.out
        rw [e] at h1
        exact h1.symm
      go_wp2_with fail
      go_ret
      exact ⟨ret_bool HF.out, hB⟩

set_option maxRecDepth 100000 in
set_option maxHeartbeats 4000000 in
theorem CentreOf_any {w : World} {B : Nat} {ua : Option Addr} {l : Lay} {m : Mx} {na : Option Addr} {g o k nc : Nat} {z : Nat → Int} (h : LogAt w B ua l m na g o k z) :
    Calls Try.prog 38 #[.agg #[.slice ua m.n l.cap, .slice na k nc]] w (ListRes w (midV m k z)) := by
  have hX := BoxN.start w #[.slice ua m.n l.cap, .slice na k nc] 26
  have q0 := hX.cell 0 rfl
  have q1 := hX.cell 1 rfl
  have bw := hX.below
  have h2 := Lib.hid (h.step bw)
  clear h hX
  go_enter Try.func38, Try.ntmps38
  have hrow2 : Hid (RowAt (w.alloc (.cells #[.slice ua m.n l.cap, .slice na k nc] 26)) (w.alloc (.cells #[.slice ua m.n l.cap, .slice na k nc] 26)).heap.size none 0 0 0 (fun _ => 0)) := ⟨fun c hc => absurd hc (Nat.not_lt_zero _)⟩
  go_wp2_with fail
  generalize w.alloc (.cells #[.slice ua m.n l.cap, .slice na k nc] 26) = W0 at bw h2 hrow2 q0 q1 ⊢
  go_at_call 45
  refine (algebraWith_any h2.out hrow2.out (by omega)).mono ?_
  rintro e w1 ⟨b1, (⟨hg, ob, tb, tG, rfl, hA⟩ | ⟨hg, rfl⟩)⟩
  · have hlog : logicB m k z = true := by rw [good_nil, Bool.and_true] at hg; exact hg
    have B1 := bw.trans (b1.mono bw.size)
    have h3 := h2.out.step b1
    clear h2 hrow2 q0 q1 bw hg
    obtain ⟨y0, n0, hO0⟩ := (logicB_is hlog).ortho
    have hkn : k = m.n := (logicB_is hlog).pair.len
    subst hkn
    have hO := hO0.own
    obtain ⟨y, hy⟩ : ∃ y : Nat → Nat, y = fun c => (z c).toNat := ⟨_, rfl⟩
    rw [← hy] at hO
    obtain ⟨rfl, hL1⟩ := AL.of hA h3 hO
    have HV : Hid (midV m m.n z = midTo m y m.n) := by show _ = _; unfold midV; rw [if_pos hlog, hy]
    have hn := hO.lat.order.top
    clear hlog hy hA h3 hO hO0
    have hY := BoxN.start w1 #[.slice ua m.n l.cap, .slice (some ⟨g, o, none⟩) m.n nc, .slice (some ⟨ob, 0, none⟩) 2 2] 60
    have BY := B1.trans (hY.below.mono B1.size)
    have hL := Lib.hid (hL1.step hY.below)
    have r0 := hY.cell 0 rfl
    have r1 := hY.cell 1 rfl
    have r2 := hY.cell 2 rfl
    clear hL1
    obtain ⟨i0, hi, hz0, hz1, hz2⟩ := info_parts infoInt
    have HI := Lib.hid hi
    have HZ0 := Lib.hid hz0
    have HZ1 := Lib.hid hz1
    have HZ2 := Lib.hid hz2
    clear hi hz0 hz1 hz2
    unfold algV
    go_wp2_with fail
    generalize w1.alloc (.cells #[.slice ua m.n l.cap, .slice (some ⟨g, o, none⟩) m.n nc, .slice (some ⟨ob, 0, none⟩) 2 2] 60) = W at hY hL BY r0 r1 r2 ⊢
    go_at_call 52
    refine (agreeing_any (nc := nc) hL.out).mono ?_
    rintro e w3 ⟨bx, mb, rfl, hG, b3⟩
    have hY3 := hY.step b3
    have hL3 := Lib.hid (hL.out.step b3)
    have HG := Lib.hid hG
    have B3 := BY.trans (b3.mono BY.size)
    have p1 := hY3.cell 1 rfl
    clear r0 r1 r2 hY hL hG
    go_wp2_with fail
    go_loopw [6, 20] (fun v i wr => ∃ j : Nat, j ≤ m.n ∧ i = .int .i64 j ∧ wr.ownsRow w3.heap.size 3 1 v (midTo m y j).length ((midTo m y j).map (Value.int .i64)) ∧ Below w3.heap.size w3 wr) (fun _ i _ => m.n - (intOf i).toNat)
    case atStart => exact ⟨0, Nat.zero_le _, rfl, World.ownsRow_nil _ _ _ _, Below.refl _ _⟩
    case round =>
      obtain ⟨j, hj, rfl, hown, hD⟩ := hrel
      have hYr := hY3.step hD
      by_cases hlt : j < m.n
      · have hlt' : (j : Int) < m.n := by omega
        have hLr := Lib.hid (hL3.out.step hD)
        have hGr := Lib.hid (HG.out.step hD)
        have r0 := hYr.cell 0 rfl
        have r1 := hYr.cell 1 rfl
        have r2 := hYr.cell 2 rfl
        have hs := hD.size
        have hlen := midTo_len m y j
        go_wp2_with fail
        go_at_call 69
        refine (allAgree_any (nc := nc) hLr.out hGr.out hlt).mono ?_
        rintro e w4 ⟨rfl, b4⟩
        have hD4 := hD.trans (b4.mono hD.size)
        have hown4 := ownsRow_below hown b4 (Nat.le_refl _)
        have hs4 := hD4.size
        clear r0 r1 r2 hD hown hLr hGr
        cases g0 : midB m y j with
        | false =>
          have HN := Lib.hid (midTo_no g0)
          clear g0
          go_wp2_with fail
          go_roundw
          case rel => exact ⟨j + 1, by omega, by go_num, by rw [HN.out]; exact hown4, hD4⟩
          case measure => simp [intOf]; omega
        | true =>
          have HN := Lib.hid (midTo_yes g0)
          clear g0
          go_wp2_with (at_builtin; refine wpList_append_own _ rfl _ _ 24 rfl w3.heap.size 3 i0 (.int .i64 0) 1 8 Try.underlying24 HI.out HZ0.out HZ1.out HZ2.out rfl (by decide) _ _ _ rfl (hown4.alloc _) ⟨w4.heap.size, 0, none⟩ 1 1 [.int .i64 j] rfl rfl (cell_one_new _ _ _) ?c2 ?c3 ?c4 ?c5 ?_)
          case c2 => simp [Value.oneCell']
          case c3 => unfold maxLen; omega
          case c4 => omega
          case c5 => first | omega | (simp; omega)
          intro v' w5 hown5 hgrow _
          have HO5 : Hid (w5.ownsRow w3.heap.size 3 1 v' (midTo m y (j + 1)).length ((midTo m y (j + 1)).map (Value.int .i64))) := by
            show World.ownsRow _ _ _ _ _ _ _
            rw [HN.out, List.length_append, List.map_append]
            exact hown5
          have hW5 := (hD4.alloc hs4 (.cells #[.int .i64 j] 3)).grown hgrow (by simp; omega) (fun c hc => by have := ownsRow_block hown4 c hc; omega)
          clear hown5 hgrow hown4 hD4
          go_wp2_with fail
          go_roundw
          case rel => exact ⟨j + 1, by omega, by go_num, HO5.out, hW5⟩
          case measure => simp [intOf]; omega
      · have hlt' : ¬ (j : Int) < m.n := by omega
        have HK : Hid (j = m.n) := by show _ = _; omega
        go_wp2_with fail
        go_ret
        exact ⟨_, rfl, by rw [HV.out, ← HK.out]; exact ownsRow_base hown B3.size, B3.trans (hD.mono B3.size)⟩
  · have HV : Hid (midV m k z = []) := by show _ = _; unfold midV; rw [good_nil, Bool.and_true] at hg; rw [hg]; rfl
    clear q0 q1 hrow2 hg h2
    have B1 := bw.trans (b1.mono bw.size)
    have B2 := B1.alloc B1.size (.cells #[.slice none 0 0, .slice none 0 0, .slice none 0 0] 60)
    unfold noAlg
    go_wp2_with fail
    go_ret
    exact ⟨_, rfl, by rw [HV.out]; exact World.ownsRow_nil _ _ _ _, B2⟩

def bothPB (m : Mx) (y : Nat → Nat) (a b : Nat) : Bool := !agB m y a b || agB m y b a
/-- Nothing speaks against the pairs of the list. -/
def AllBoth (m : Mx) (y : Nat → Nat) (pre : List (Fin m.n × Fin m.n)) : Prop := ∀ p ∈ pre, bothPB m y p.1.val p.2.val = true
theorem AllBoth.snoc {m : Mx} {y : Nat → Nat} {pre : List (Fin m.n × Fin m.n)} (h : AllBoth m y pre) {x : Fin m.n × Fin m.n} (hx : bothPB m y x.1.val x.2.val = true) : AllBoth m y (pre ++ [x]) := fun p hp => by
  rcases List.mem_append.1 hp with e | e
  · exact h p e
  · have e' : p = x := by simpa using e
    rw [e']; exact hx
theorem AllBoth.all {m : Mx} {y : Nat → Nat} {pre : List (Fin m.n × Fin m.n)} (h : AllBoth m y pre) (hall : ∀ a b : Fin m.n, (a, b) ∈ pre) : twoWaysB m y = true := by
  unfold twoWaysB
  refine allB_true fun a ha => allB_true fun b hb => ?_
  have h1 := h (⟨a, ha⟩, ⟨b, hb⟩) (hall _ _)
  unfold bothPB at h1
  exact h1

set_option maxRecDepth 100000 in
set_option maxHeartbeats 2000000 in
theorem BothWaysOk_no {w : World} {B : Nat} {ua : Option Addr} {l : Lay} {m : Mx} {na : Option Addr} {g o k nc : Nat} {z : Nat → Int} (h : LogAt w B ua l m na g o k z) (hl : logicB m k z = false) :
    Calls Try.prog 21 #[.agg #[.slice ua m.n l.cap, .slice na k nc]] w fun e w' => e = .returned (.bool (bothV m k z)) ∧ Below w.heap.size w w' := by
  have HF : Hid (false = bothV m k z) := by show _ = _; unfold bothV; rw [hl]; rfl
  have hX := BoxN.start w #[.slice ua m.n l.cap, .slice na k nc] 26
  have hV := Boxd.start (w.alloc (.cells #[.slice ua m.n l.cap, .slice na k nc] 26)) (.bool false) 4
  have hX1 := hX.step (hV.below.mono (by simp))
  have q0 := hX1.cell 0 rfl
  have q1 := hX1.cell 1 rfl
  have bw := hX1.below
  have h2 := Lib.hid (h.step bw)
  have HL := Lib.hid hl
  have e1 : (w.alloc (.cells #[.slice ua m.n l.cap, .slice na k nc] 26)).heap.size = w.heap.size + 1 := World.size_alloc _ _
  have hVs := hV.size
  have hVc := hV.cell
  have hVf := hV.frozen
  rw [e1] at hVc hVf hVs
  clear hl h
  go_enter Try.func21, Try.ntmps21
  have hrow2 : Hid (RowAt ((w.alloc (.cells #[.slice ua m.n l.cap, .slice na k nc] 26)).alloc (.cells #[.bool false] 4)) ((w.alloc (.cells #[.slice ua m.n l.cap, .slice na k nc] 26)).alloc (.cells #[.bool false] 4)).heap.size none 0 0 0 (fun _ => 0)) := ⟨fun c hc => absurd hc (Nat.not_lt_zero _)⟩
  go_wp2_with fail
  generalize hW : (w.alloc (.cells #[.slice ua m.n l.cap, .slice na k nc] 26)).alloc (.cells #[.bool false] 4) = W0 at hX1 bw h2 hrow2 q0 q1 hVc hVf hVs ⊢
  clear hX hV hW e1
  go_at_call 45
  refine (algebraWith_any h2.out hrow2.out (by omega)).mono ?_
  rintro e w1 ⟨b1, (⟨hg, ob, tb, tG, rfl, hA⟩ | ⟨hg, rfl⟩)⟩
  · exfalso
    rw [HL.out] at hg
    cases hg
  · have B1 := bw.trans (b1.mono bw.size)
    have ba := (Below.refl w1.heap.size w1).alloc (Nat.le_refl _) (.cells #[.slice none 0 0, .slice none 0 0, .slice none 0 0] 60)
    have s1 := b1.size
    have B2 := B1.trans (ba.mono B1.size)
    have v2 := ((ba.cell (p := ⟨w.heap.size + 1, 0, none⟩) (by show w.heap.size + 1 < _; omega)).trans (b1.cell (p := ⟨w.heap.size + 1, 0, none⟩) (by show w.heap.size + 1 < _; omega))).trans hVc
    have f2 := ((ba.frozen (p := ⟨w.heap.size + 1, 0, none⟩) (by show w.heap.size + 1 < _; omega)).trans (b1.frozen (p := ⟨w.heap.size + 1, 0, none⟩) (by show w.heap.size + 1 < _; omega))).trans hVf
    clear ba
    unfold noAlg
    go_wp2_with fail
    have c5 := World.cell?_setCell_same' (w1.alloc (.cells #[.slice none 0 0, .slice none 0 0, .slice none 0 0] 60)) ⟨w.heap.size + 1, 0, none⟩ (.bool false) (by rw [v2]; rfl)
    refine bodyPost_ret (v := .bool false) (by simp [results, Try.results21, go_sem, c5]) rfl ?_
    exact ⟨ret_bool HF.out, B2.setCell (p := ⟨w.heap.size + 1, 0, none⟩) (by show w.heap.size ≤ w.heap.size + 1; omega) _⟩

set_option maxRecDepth 100000 in
set_option maxHeartbeats 2000000 in
theorem BothWaysOk_any {w : World} {B : Nat} {ua : Option Addr} {l : Lay} {m : Mx} {na : Option Addr} {g o k nc : Nat} {z : Nat → Int} (h : LogAt w B ua l m na g o k z) :
    Calls Try.prog 21 #[.agg #[.slice ua m.n l.cap, .slice na k nc]] w fun e w' => e = .returned (.bool (bothV m k z)) ∧ Below w.heap.size w w' := by
  cases hl : logicB m k z with
  | false => exact BothWaysOk_no h hl
  | true =>
  have hlog := logicB_is hl
  obtain ⟨y0, o', hO0⟩ := hlog.ortho
  have hkn : k = m.n := hlog.pair.len
  subst hkn
  have hO := hO0.own
  obtain ⟨y, hy⟩ : ∃ y : Nat → Nat, y = fun c => (z c).toNat := ⟨_, rfl⟩
  rw [← hy] at hO
  have hn := hO.lat.order.top
  have hpos := hO.lat.order.pos
  have HV : Hid (bothV m m.n z = twoWaysB m y) := by show _ = _; unfold bothV; rw [hl, hy]; rfl
  have HO := Lib.hid hO
  obtain ⟨rfl, hgB, hg2⟩ := h.row.row 0 (by omega)
  have hgB' : g < w.heap.size := by have := h.hB; omega
  clear hl hO hlog hg2 hgB hO0 hy
  have hX := BoxN.start w #[.slice ua m.n l.cap, .slice (some ⟨g, o, none⟩) m.n nc] 26
  have hV := Boxd.start (w.alloc (.cells #[.slice ua m.n l.cap, .slice (some ⟨g, o, none⟩) m.n nc] 26)) (.bool false) 4
  have hX1 := hX.step (hV.below.mono (by simp))
  have q0 := hX1.cell 0 rfl
  have q1 := hX1.cell 1 rfl
  have bw := hX1.below
  have h2 := Lib.hid (h.step bw)
  have e1 : (w.alloc (.cells #[.slice ua m.n l.cap, .slice (some ⟨g, o, none⟩) m.n nc] 26)).heap.size = w.heap.size + 1 := World.size_alloc _ _
  have hVs := hV.size
  have hVc := hV.cell
  have hVf := hV.frozen
  rw [e1] at hVc hVf hVs
  refine (callsIn_wide (n := 9)).1 ?_
  refine callsIn_of_wp_marks Try.func21 rfl trivial ?_ rfl
  simp only [Try.ntmps21, List.size_toArray, List.length_cons, List.length_nil, Nat.reduceAdd, Nat.reduceSub, Array.replicate_succ, Array.replicate_zero, List.push_toArray, List.append_toArray, List.nil_append, List.cons_append]
  gi_wp2_with fail
  have hrow2 : Hid (RowAt ((w.alloc (.cells #[.slice ua m.n l.cap, .slice (some ⟨g, o, none⟩) m.n nc] 26)).alloc (.cells #[.bool false] 4)) ((w.alloc (.cells #[.slice ua m.n l.cap, .slice (some ⟨g, o, none⟩) m.n nc] 26)).alloc (.cells #[.bool false] 4)).heap.size none 0 0 0 (fun _ => 0)) := ⟨fun c hc => absurd hc (Nat.not_lt_zero _)⟩
  generalize hW : (w.alloc (.cells #[.slice ua m.n l.cap, .slice (some ⟨g, o, none⟩) m.n nc] 26)).alloc (.cells #[.bool false] 4) = W0 at hX1 bw h2 hrow2 q0 q1 hVc hVf hVs ⊢
  clear hX hV hW e1 h
  refine ⟨trivial, ?_⟩
  refine (callsIn_wide.2 (algebraWith_any h2.out hrow2.out (by omega))).mono ?_
  rintro e w1 ⟨b1, (⟨hg, ob, tb, tG, rfl, hA⟩ | ⟨hg, rfl⟩)⟩
  case inr =>
    exfalso
    rw [good_nil, Bool.and_true, logicB_true HO.out.logic] at hg
    cases hg
  clear hg hrow2 q0 q1
  have s1 := b1.size
  have B1 := bw.trans (b1.mono bw.size)
  have hY := BoxN.start w1 #[.slice ua m.n l.cap, .slice (some ⟨g, o, none⟩) m.n nc, .slice (some ⟨ob, 0, none⟩) 2 2] 60
  have hYb := hY.below
  have ys : (w1.alloc (.cells #[.slice ua m.n l.cap, .slice (some ⟨g, o, none⟩) m.n nc, .slice (some ⟨ob, 0, none⟩) 2 2] 60)).heap.size = w1.heap.size + 1 := World.size_alloc _ _
  have BY := B1.trans (hYb.mono B1.size)
  have v2 := ((hYb.cell (p := ⟨w.heap.size + 1, 0, none⟩) (by show w.heap.size + 1 < _; omega)).trans (b1.cell (p := ⟨w.heap.size + 1, 0, none⟩) (by show w.heap.size + 1 < _; omega))).trans hVc
  have f2 := ((hYb.frozen (p := ⟨w.heap.size + 1, 0, none⟩) (by show w.heap.size + 1 < _; omega)).trans (b1.frozen (p := ⟨w.heap.size + 1, 0, none⟩) (by show w.heap.size + 1 < _; omega))).trans hVf
  obtain ⟨_, hL1⟩ := AL.of hA (h2.out.step b1) HO.out
  have hL := Lib.hid (hL1.step hYb)
  have r0 := hY.cell 0 rfl
  have r1 := hY.cell 1 rfl
  have r2 := hY.cell 2 rfl
  clear hA h2 hVc hVf hYb hL1
  unfold algV
  gi_wp2_with fail
  generalize hW : w1.alloc (.cells #[.slice ua m.n l.cap, .slice (some ⟨g, o, none⟩) m.n nc, .slice (some ⟨ob, 0, none⟩) 2 2] 60) = W1 at hY BY v2 f2 hL r0 r1 r2 ys ⊢
  clear hW
  refine ⟨trivial, ?_⟩
  refine (callsIn_wide.2 (agreeing_any (nc := nc) hL.out)).mono ?_
  rintro e w3 ⟨bx, mb, rfl, hG, b3⟩
  have hY3 := hY.step b3
  have HG := Lib.hid hG
  have s3 := b3.size
  have B3 := BY.trans (b3.mono BY.size)
  have v3 := (b3.cell (p := ⟨w.heap.size + 1, 0, none⟩) (by show w.heap.size + 1 < _; omega)).trans v2
  have f3 := (b3.frozen (p := ⟨w.heap.size + 1, 0, none⟩) (by show w.heap.size + 1 < _; omega)).trans f2
  have p0 := (hY3.step ((Below.refl w3.heap.size w3).alloc (Nat.le_refl _) (.cells #[agF bx] 68))).cell 0 rfl
  clear r0 r1 r2 hY hL hG v2 f2
  gi_wp2_with fail
  refine ⟨trivial, ?_⟩
  refine (pairs_any _ _ _).mono ?_
  rintro e w' ⟨rfl, rfl⟩
  gi_wp2_with fail
  have hQ := Boxd.start w3 (agF bx) 68
  have qs : (w3.alloc (.cells #[agF bx] 68)).heap.size = w3.heap.size + 1 := World.size_alloc _ _
  have hQb := hQ.below
  have hP := Boxd.start (w3.alloc (.cells #[agF bx] 68)) (.slice ua m.n l.cap) 57
  have hP0 := hP.cell
  have hPs := hP.size
  have hPb := hP.below
  rw [qs] at hP0 hPs
  have hb2 : Below w3.heap.size w3 ((w3.alloc (.cells #[agF bx] 68)).alloc (.cells #[.slice ua m.n l.cap] 57)) := hQb.trans (hPb.mono hQb.size)
  have hQ2 := (hQ.step hPb).cell
  have HG2 := Lib.hid (HG.out.step hb2)
  have v4 := (hb2.cell (p := ⟨w.heap.size + 1, 0, none⟩) (by show w.heap.size + 1 < _; omega)).trans v3
  have f4 := (hb2.frozen (p := ⟨w.heap.size + 1, 0, none⟩) (by show w.heap.size + 1 < _; omega)).trans f3
  have BW := B3.trans (hb2.mono B3.size)
  clear hP hQ hPb hQb v3 f3 HG hY3 p0 B3 BY qs
  generalize hW0 : (w3.alloc (.cells #[agF bx] 68)).alloc (.cells #[.slice ua m.n l.cap] 57) = W2 at hP0 hPs hb2 hQ2 HG2 v4 f4 BW ⊢
  clear hW0
  refine wpIn_rangeFunc_ownG rfl (by omega) (gf := 83) (lb := #[.pointer (some ⟨w3.heap.size + 1, 0, none⟩)]) rfl trivial (enters_of Try.func83 (by kernel_rfl) rfl)
    (pairs_stops _ m.n (by omega) hn (w3.heap.size + 1) W2.heap.size l.cap ua W2 (by omega) (Nat.le_refl _) hP0) belowK_t (belowK_b (Nat.le_refl _)) (Below.refl _ _) (fun _ => rfl)
    (fun pre W => AllBoth m y pre ∧ Below W2.heap.size W2 W)
    (fun c _ W => (c = .ret ∧ twoWaysB m y = false) ∧ W.cell? ⟨w.heap.size + 1, 0, none⟩ = some (.bool false) ∧ Below w.heap.size w W)
    (OwnFrom.and (ownFrom_pure _ _) (ownFrom_below (Nat.le_refl _) (Nat.le_refl _)))
    (fun c => OwnFrom.and (ownFrom_pure _ _) (OwnFrom.and (Own.from (fun s A B row hs hg hr => cell_kept hs hg hr) _) (ownFrom_below (Nat.le_refl _) BW.size)))
    ⟨fun p hp => absurd hp (by simp), Below.refl _ _⟩
    (fun x => { tmps := #[.agg #[.slice ua m.n l.cap, .slice (some ⟨g, o, none⟩) m.n nc], .pointer (some ⟨w.heap.size, 0, none⟩), .pointer (some ⟨w.heap.size + 1, 0, none⟩), .pointer (some ⟨w1.heap.size, 0, none⟩), .bool true, .pointer (some ⟨w3.heap.size, 0, none⟩),
        .int .i64 ((x.1.val : Nat) : Int), .int .i64 ((x.2.val : Nat) : Int),
        .tuple #[.agg #[.slice ua m.n l.cap, .slice (some ⟨g, o, none⟩) m.n nc, .slice (some ⟨ob, 0, none⟩) 2 2], .bool true],
        .agg #[.slice ua m.n l.cap, .slice (some ⟨g, o, none⟩) m.n nc],
        .tuple #[.agg #[.slice ua m.n l.cap, .slice (some ⟨g, o, none⟩) m.n nc, .slice (some ⟨ob, 0, none⟩) 2 2], .bool true], .agg #[.slice ua m.n l.cap, .slice (some ⟨g, o, none⟩) m.n nc, .slice (some ⟨ob, 0, none⟩) 2 2], .bool true, .bool true, .bool false, .agg #[.slice ua m.n l.cap, .slice (some ⟨g, o, none⟩) m.n nc, .slice (some ⟨ob, 0, none⟩) 2 2], agF bx, .pointer (some ⟨w1.heap.size, 0, none⟩), .agg #[.slice ua m.n l.cap], .func (.func 83) #[] #[.pointer (some ⟨w3.heap.size + 1, 0, none⟩)],
        .int .i64 ((x.1.val : Nat) : Int), .int .i64 ((x.2.val : Nat) : Int), undef, undef, undef, undef, undef, undef, undef, undef, undef, undef, undef], defers := [] }) ?assign ?body ?done ?stop
  case assign =>
    intro lr x W K hK
    dsimp only
    clear hP0 hPs hb2 hQ2 HG2 v4 f4 BW hpos hn HV HO hX1 bw hVs b1 s1 B1 ys
    gi_wp2
    exact hK
  case body =>
    rintro lr pre ⟨⟨a, ha⟩, ⟨b, hb⟩⟩ W ⟨hp0, hB⟩ _
    have hp := Lib.hid hp0
    have hs := hB.size
    have hbW : Below w.heap.size w W := BW.trans (hB.mono BW.size)
    have hGW := Lib.hid (HG2.out.step hB)
    have q0 := (hB.cell (p := ⟨w3.heap.size, 0, none⟩) (by show w3.heap.size < _; omega)).trans hQ2
    have v5 := (hB.cell (p := ⟨w.heap.size + 1, 0, none⟩) (by show w.heap.size + 1 < _; omega)).trans v4
    have f5 := (hB.frozen (p := ⟨w.heap.size + 1, 0, none⟩) (by show w.heap.size + 1 < _; omega)).trans f4
    clear hp0 hP0 hQ2 HG2 v4 f4
    dsimp only
    cases g1 : agB m y a b with
    | false =>
      have HP : Hid (bothPB m y a b = true) := by show _ = _; unfold bothPB; rw [g1]; rfl
      have G1 := Lib.hid g1
      clear g1
      gi_wp2_with fail
      refine ⟨trivial, ?_⟩
      refine (CallsIn.inRound lr (callsIn_wide.2 (agrees_any hGW.out hn ha hb))).mono ?_
      rintro e w' ⟨rfl, rfl⟩
      rw [G1.out]
      gi_wp2_with fail
      refine ⟨(fun f hf => by cases hf), ?_⟩
      gi_wp2_with fail
      exact ⟨keepsFrom_below (Below.refl _ _), Below.refl _ _, hp.out.snoc HP.out, hB⟩
    | true =>
      have G1 := Lib.hid g1
      cases g2 : agB m y b a with
      | false =>
        have HF : Hid (twoWaysB m y = false) := allB_false ha (allB_false hb (by rw [g1, g2]; rfl))
        have G2 := Lib.hid g2
        clear g1 g2
        gi_wp2_with fail
        refine ⟨trivial, ?_⟩
        refine (CallsIn.inRound lr (callsIn_wide.2 (agrees_any hGW.out hn ha hb))).mono ?_
        rintro e w' ⟨rfl, rfl⟩
        rw [G1.out]
        gi_wp2_with fail
        refine ⟨trivial, ?_⟩
        refine (CallsIn.inRound lr (callsIn_wide.2 (agrees_any hGW.out hn hb ha))).mono ?_
        rintro e w' ⟨rfl, rfl⟩
        rw [G2.out]
        gi_wp2_with fail
        exact ⟨(KeepsOthers.setCell _ _ _).from _, ⟨rfl, HF.out⟩, World.cell?_setCell_same' _ _ _ (by rw [v5]; rfl), hbW.setCell (p := ⟨w.heap.size + 1, 0, none⟩) (by show w.heap.size ≤ w.heap.size + 1; omega) _⟩
      | true =>
        have HP : Hid (bothPB m y a b = true) := by show _ = _; unfold bothPB; rw [g2]; simp
        have G2 := Lib.hid g2
        clear g1 g2
        gi_wp2_with fail
        refine ⟨trivial, ?_⟩
        refine (CallsIn.inRound lr (callsIn_wide.2 (agrees_any hGW.out hn ha hb))).mono ?_
        rintro e w' ⟨rfl, rfl⟩
        rw [G1.out]
        gi_wp2_with fail
        refine ⟨trivial, ?_⟩
        refine (CallsIn.inRound lr (callsIn_wide.2 (agrees_any hGW.out hn hb ha))).mono ?_
        rintro e w' ⟨rfl, rfl⟩
        rw [G2.out]
        gi_wp2_with fail
        exact ⟨keepsFrom_below (Below.refl _ _), Below.refl _ _, hp.out.snoc HP.out, hB⟩
  case done =>
    rintro D ys W hD hys ⟨hp0, hB⟩ hK
    have HO' := Lib.hid (hp0.all hys)
    clear hp0
    have v0 := (hB.cell (p := ⟨w.heap.size + 1, 0, none⟩) (by show w.heap.size + 1 < _; omega)).trans v4
    have vf := (hB.frozen (p := ⟨w.heap.size + 1, 0, none⟩) (by show w.heap.size + 1 < _; omega)).trans f4
    have hbW := BW.trans (hB.mono BW.size)
    have hDs : w.heap.size ≤ D := Nat.le_trans BW.size hD
    gi_wp2
    have hK' := (KeepsOthers.setCell W ⟨w.heap.size + 1, 0, none⟩ (.bool true)).same D _ hK rfl
    refine ⟨by simp, .inl ⟨_, _, rfl, run_takeDeferred hK', ?_⟩⟩
    have hc5 := cell_kept (World.cell?_setCell_same' W ⟨w.heap.size + 1, 0, none⟩ (.bool true) (by rw [v0]; rfl)) (grownBy_putObj' _ D (.deferred none)) (fun r e => by cases e; exact ⟨_, hK', rfl⟩)
    refine ⟨.bool true, ?_, ret_bool (HO'.out.symm.trans HV.out.symm), (hbW.setCell (p := ⟨w.heap.size + 1, 0, none⟩) (by show w.heap.size ≤ w.heap.size + 1; omega) _).trans (belowK_b (w := w) (Nat.le_refl _) _ D _ _ hDs hK' rfl rfl)⟩
    simp [results, Try.f21, go_sem, hc5]
  case stop =>
    rintro D c pre W hD _ ⟨⟨rfl, hbad⟩, hcr, hB⟩ hK
    have hDs : w.heap.size ≤ D := Nat.le_trans BW.size hD
    gi_wp2
    refine ⟨by simp, .inl ⟨_, _, rfl, run_takeDeferred hK, ?_⟩⟩
    have hc5 := cell_kept hcr (grownBy_putObj' _ D (.deferred none)) (fun r e => by cases e; exact ⟨_, hK, rfl⟩)
    refine ⟨.bool false, ?_, ret_bool (hbad.symm.trans HV.out.symm), hB.trans (belowK_b (w := w) (Nat.le_refl _) W D _ _ hDs hK rfl rfl)⟩
    simp [results, Try.f21, go_sem, hc5]
end Go.Proofs.Ytijcacibofpnpaa
