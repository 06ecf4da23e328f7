/- The walk of the program's BooleanOk. -/
import Derived.Test.YtpklccecgfcdfaaBb
import Derived.Test.YtpklccecgfcdfaaSl
namespace Go.Proofs.Ytpklccecgfcdfaa
open Go.RowKit Go.Deep Go.Shelf

attribute [local go_sem] Oper.semAt_some

/-- All pairs so far may be taken apart with each third answer. -/
def AllSp (m : Mx) (pre : List (Fin m.n × Fin m.n)) : Prop := ∀ p ∈ pre, ∀ d, d < m.n → splitB m p.1.val p.2.val d = true
theorem AllSp.snoc {m : Mx} {pre : List (Fin m.n × Fin m.n)} (h : AllSp m pre) {x : Fin m.n × Fin m.n} (hx : ∀ d, d < m.n → splitB m x.1.val x.2.val d = true) : AllSp m (pre ++ [x]) := fun p hp => by
  rcases List.mem_append.1 hp with hp | hp
  · exact h p hp
  · have e : p = x := by simpa using hp
    rw [e]; exact hx
theorem AllSp.all {m : Mx} {pre : List (Fin m.n × Fin m.n)} (h : AllSp m pre) (hall : ∀ a b : Fin m.n, (a, b) ∈ pre) : boolB m = true :=
  bool_iff.2 fun a b d ha hb hd => h _ (hall ⟨a, ha⟩ ⟨b, hb⟩) d hd
theorem bool_fails {m : Mx} {a b d : Nat} (ha : a < m.n) (hb : b < m.n) (hd : d < m.n) (h : splitB m a b d = false) : boolB m = false := by
  cases e : boolB m with
  | false => rfl
  | true => rw [bool_iff.1 e a b d ha hb hd] at h; cases h

set_option maxRecDepth 100000 in
set_option maxHeartbeats 2000000 in
theorem BooleanOk_no {w : World} {B : Nat} {ua : Option Addr} {l : Lay} {m : Mx} {na : Option Addr} {g o k nc : Nat} {z : Nat → Int} (h : LogAt w B ua l m na g o k z) (hl : logicB m k z = false) :
    Calls Try.prog 18 #[.agg #[.slice ua m.n l.cap, .slice na k nc]] w fun e w' => e = .returned (.bool (boolV m k z)) ∧ Below w.heap.size w w' := by
  have HF : Hid (false = boolV m k z) := by show _ = _; unfold boolV; rw [hl]; rfl
  have hX := BoxN.start w #[.slice ua m.n l.cap, .slice na k nc] 26
  have hV := Boxd.start (w.alloc (.cells #[.slice ua m.n l.cap, .slice na k nc] 26)) (.bool false) 4
  have hX1 := hX.step (hV.below.mono (by simp))
  have q0 := hX1.cell 0 rfl
  have q1 := hX1.cell 1 rfl
  have bw := hX1.below
  have h2 := Lib.hid (h.step bw)
  have HL := Lib.hid hl
  have e1 : (w.alloc (.cells #[.slice ua m.n l.cap, .slice na k nc] 26)).heap.size = w.heap.size + 1 := World.size_alloc _ _
  have hVs := hV.size
  have hVc := hV.cell
  have hVf := hV.frozen
  rw [e1] at hVc hVf hVs
  clear hl h
  go_enter Try.func18, Try.ntmps18
  have hrow2 : Hid (RowAt ((w.alloc (.cells #[.slice ua m.n l.cap, .slice na k nc] 26)).alloc (.cells #[.bool false] 4)) ((w.alloc (.cells #[.slice ua m.n l.cap, .slice na k nc] 26)).alloc (.cells #[.bool false] 4)).heap.size none 0 0 0 (fun _ => 0)) := ⟨fun c hc => absurd hc (Nat.not_lt_zero _)⟩
  go_wp2_with fail
  generalize hW : (w.alloc (.cells #[.slice ua m.n l.cap, .slice na k nc] 26)).alloc (.cells #[.bool false] 4) = W0 at hX1 bw h2 hrow2 q0 q1 hVc hVf hVs ⊢
  clear hX hV hW e1
  go_at_call 21
  refine (algebraWith_any h2.out hrow2.out (by omega)).mono ?_
  rintro e w1 ⟨b1, (⟨hg, ob, tb, tG, rfl, hA⟩ | ⟨hg, rfl⟩)⟩
  · exfalso
    rw [HL.out] at hg
    cases hg
  · have B1 := bw.trans (b1.mono bw.size)
    have ba := (Below.refl w1.heap.size w1).alloc (Nat.le_refl _) (.cells #[.slice none 0 0, .slice none 0 0, .slice none 0 0] 48)
    have s1 := b1.size
    have B2 := B1.trans (ba.mono B1.size)
    have v2 := ((ba.cell (p := ⟨w.heap.size + 1, 0, none⟩) (by show w.heap.size + 1 < _; omega)).trans (b1.cell (p := ⟨w.heap.size + 1, 0, none⟩) (by show w.heap.size + 1 < _; omega))).trans hVc
    have f2 := ((ba.frozen (p := ⟨w.heap.size + 1, 0, none⟩) (by show w.heap.size + 1 < _; omega)).trans (b1.frozen (p := ⟨w.heap.size + 1, 0, none⟩) (by show w.heap.size + 1 < _; omega))).trans hVf
    clear ba
    unfold noAlg
    go_wp2_with fail
    have c5 := World.cell?_setCell_same' (w1.alloc (.cells #[.slice none 0 0, .slice none 0 0, .slice none 0 0] 48)) ⟨w.heap.size + 1, 0, none⟩ (.bool false) (by rw [v2]; rfl)
    refine bodyPost_ret (v := .bool false) (by simp [results, Try.results18, go_sem, c5]) rfl ?_
    exact ⟨ret_bool HF.out, B2.setCell (p := ⟨w.heap.size + 1, 0, none⟩) (by show w.heap.size ≤ w.heap.size + 1; omega) _⟩

set_option maxRecDepth 100000 in
set_option maxHeartbeats 2000000 in
theorem BooleanOk_any {w : World} {B : Nat} {ua : Option Addr} {l : Lay} {m : Mx} {na : Option Addr} {g o k nc : Nat} {z : Nat → Int} (h : LogAt w B ua l m na g o k z) :
    Calls Try.prog 18 #[.agg #[.slice ua m.n l.cap, .slice na k nc]] w fun e w' => e = .returned (.bool (boolV m k z)) ∧ Below w.heap.size w w' := by
  cases hl : logicB m k z with
  | false => exact BooleanOk_no h hl
  | true =>
  have hlog := logicB_is hl
  obtain ⟨y0, o', hO0⟩ := hlog.ortho
  have hkn : k = m.n := hlog.pair.len
  subst hkn
  have hO := hO0.own
  obtain ⟨y, hy⟩ : ∃ y : Nat → Nat, y = fun c => (z c).toNat := ⟨_, rfl⟩
  rw [← hy] at hO
  have hn := hO.lat.order.top
  have hpos := hO.lat.order.pos
  have HV : Hid (boolV m m.n z = boolB m) := by show _ = _; unfold boolV; rw [hl]; rfl
  have HO := Lib.hid hO
  obtain ⟨rfl, hgB, hg2⟩ := h.row.row 0 (by omega)
  have hgB' : g < w.heap.size := by have := h.hB; omega
  clear hl hO hlog hg2 hgB hO0 hy
  have hX := BoxN.start w #[.slice ua m.n l.cap, .slice (some ⟨g, o, none⟩) m.n nc] 26
  have hV := Boxd.start (w.alloc (.cells #[.slice ua m.n l.cap, .slice (some ⟨g, o, none⟩) m.n nc] 26)) (.bool false) 4
  have hX1 := hX.step (hV.below.mono (by simp))
  have q0 := hX1.cell 0 rfl
  have q1 := hX1.cell 1 rfl
  have bw := hX1.below
  have h2 := Lib.hid (h.step bw)
  have e1 : (w.alloc (.cells #[.slice ua m.n l.cap, .slice (some ⟨g, o, none⟩) m.n nc] 26)).heap.size = w.heap.size + 1 := World.size_alloc _ _
  have hVs := hV.size
  have hVc := hV.cell
  have hVf := hV.frozen
  rw [e1] at hVc hVf hVs
  refine (callsIn_wide (n := 9)).1 ?_
  refine callsIn_of_wp_marks Try.func18 rfl trivial ?_ rfl
  simp only [Try.ntmps18, List.size_toArray, List.length_cons, List.length_nil, Nat.reduceAdd, Nat.reduceSub, Array.replicate_succ, Array.replicate_zero, List.push_toArray, List.append_toArray, List.nil_append, List.cons_append]
  gi_wp2_with fail
  have hrow2 : Hid (RowAt ((w.alloc (.cells #[.slice ua m.n l.cap, .slice (some ⟨g, o, none⟩) m.n nc] 26)).alloc (.cells #[.bool false] 4)) ((w.alloc (.cells #[.slice ua m.n l.cap, .slice (some ⟨g, o, none⟩) m.n nc] 26)).alloc (.cells #[.bool false] 4)).heap.size none 0 0 0 (fun _ => 0)) := ⟨fun c hc => absurd hc (Nat.not_lt_zero _)⟩
  generalize hW : (w.alloc (.cells #[.slice ua m.n l.cap, .slice (some ⟨g, o, none⟩) m.n nc] 26)).alloc (.cells #[.bool false] 4) = W0 at hX1 bw h2 hrow2 q0 q1 hVc hVf hVs ⊢
  clear hX hV hW e1 h
  refine ⟨trivial, ?_⟩
  refine (callsIn_wide.2 (algebraWith_any h2.out hrow2.out (by omega))).mono ?_
  rintro e w1 ⟨b1, (⟨hg, ob, tb, tG, rfl, hA⟩ | ⟨hg, rfl⟩)⟩
  case inr =>
    exfalso
    rw [good_nil, Bool.and_true, logicB_true HO.out.logic] at hg
    cases hg
  clear hg hrow2 q0 q1
  have s1 := b1.size
  have B1 := bw.trans (b1.mono bw.size)
  have hY := BoxN.start w1 #[.slice ua m.n l.cap, .slice (some ⟨g, o, none⟩) m.n nc, .slice (some ⟨ob, 0, none⟩) 2 2] 48
  have hYb := hY.below
  have ys : (w1.alloc (.cells #[.slice ua m.n l.cap, .slice (some ⟨g, o, none⟩) m.n nc, .slice (some ⟨ob, 0, none⟩) 2 2] 48)).heap.size = w1.heap.size + 1 := World.size_alloc _ _
  have BY := B1.trans (hYb.mono B1.size)
  have v2 := ((hYb.cell (p := ⟨w.heap.size + 1, 0, none⟩) (by show w.heap.size + 1 < _; omega)).trans (b1.cell (p := ⟨w.heap.size + 1, 0, none⟩) (by show w.heap.size + 1 < _; omega))).trans hVc
  have f2 := ((hYb.frozen (p := ⟨w.heap.size + 1, 0, none⟩) (by show w.heap.size + 1 < _; omega)).trans (b1.frozen (p := ⟨w.heap.size + 1, 0, none⟩) (by show w.heap.size + 1 < _; omega))).trans hVf
  obtain ⟨_, hL1⟩ := AL.of hA (h2.out.step b1) HO.out
  have hL := Lib.hid (hL1.step hYb)
  have r0 := hY.cell 0 rfl
  have r1 := hY.cell 1 rfl
  have r2 := hY.cell 2 rfl
  clear hA h2 hVc hVf hYb hL1
  unfold algV
  have hBall : Below w1.heap.size w1 (w1.alloc (.cells #[.slice ua m.n l.cap, .slice (some ⟨g, o, none⟩) m.n nc, .slice (some ⟨ob, 0, none⟩) 2 2] 48)) := hY.below
  gi_wp2_with fail
  refine ⟨trivial, ?_⟩
  refine (pairs_any _ _ _).mono ?_
  rintro e w' ⟨rfl, rfl⟩
  gi_wp2_with fail
  have hP := Boxd.start (w1.alloc (.cells #[.slice ua m.n l.cap, .slice (some ⟨g, o, none⟩) m.n nc, .slice (some ⟨ob, 0, none⟩) 2 2] 48)) (.slice ua m.n l.cap) 45
  have hP0 := hP.cell
  have hPs := hP.size
  have hPb := hP.below
  rw [ys] at hP0 hPs
  have hYP := hY.step hPb
  have hL2 := Lib.hid (hL.out.step hPb)
  have v4 := (hPb.cell (p := ⟨w.heap.size + 1, 0, none⟩) (by show w.heap.size + 1 < _; omega)).trans v2
  have f4 := (hPb.frozen (p := ⟨w.heap.size + 1, 0, none⟩) (by show w.heap.size + 1 < _; omega)).trans f2
  have BW := BY.trans (hPb.mono BY.size)
  clear hP hPb hL v2 f2 r0 r1 r2 hBall hY
  generalize hW0 : ((w1.alloc (.cells #[.slice ua m.n l.cap, .slice (some ⟨g, o, none⟩) m.n nc, .slice (some ⟨ob, 0, none⟩) 2 2] 48)).alloc (.cells #[.slice ua m.n l.cap] 45)) = W2 at hP0 hPs hYP hL2 v4 f4 BW ⊢
  clear hW0
  refine wpIn_rangeFunc_ownG rfl (by omega) (gf := 49) (lb := #[.pointer (some ⟨w1.heap.size + 1, 0, none⟩)]) rfl trivial (enters_of Try.func49 (by kernel_rfl) rfl)
    (pairs_stops _ m.n (by omega) hn (w1.heap.size + 1) W2.heap.size l.cap ua W2 (by omega) (Nat.le_refl _) hP0) belowK_t (belowK_b (Nat.le_refl _)) (Below.refl _ _) (fun _ => rfl)
    (fun pre W => AllSp m pre ∧ Below W2.heap.size W2 W)
    (fun c _ W => (c = .ret ∧ boolB m = false) ∧ W.cell? ⟨w.heap.size + 1, 0, none⟩ = some (.bool false) ∧ Below w.heap.size w W)
    (OwnFrom.and (ownFrom_pure _ _) (ownFrom_below (Nat.le_refl _) (Nat.le_refl _)))
    (fun c => OwnFrom.and (ownFrom_pure _ _) (OwnFrom.and (Own.from (fun s A B row hs hg hr => cell_kept hs hg hr) _) (ownFrom_below (Nat.le_refl _) BW.size)))
    ⟨fun p hp => absurd hp (by simp), Below.refl _ _⟩
    (fun x => { tmps := #[.agg #[.slice ua m.n l.cap, .slice (some ⟨g, o, none⟩) m.n nc], .pointer (some ⟨w.heap.size, 0, none⟩), .pointer (some ⟨w.heap.size + 1, 0, none⟩), .pointer (some ⟨w1.heap.size, 0, none⟩), .bool true,
        .int .i64 ((x.1.val : Nat) : Int), .int .i64 ((x.2.val : Nat) : Int), undef,
        .tuple #[.agg #[.slice ua m.n l.cap, .slice (some ⟨g, o, none⟩) m.n nc, .slice (some ⟨ob, 0, none⟩) 2 2], .bool true], .agg #[.slice ua m.n l.cap, .slice (some ⟨g, o, none⟩) m.n nc],
        .tuple #[.agg #[.slice ua m.n l.cap, .slice (some ⟨g, o, none⟩) m.n nc, .slice (some ⟨ob, 0, none⟩) 2 2], .bool true], .agg #[.slice ua m.n l.cap, .slice (some ⟨g, o, none⟩) m.n nc, .slice (some ⟨ob, 0, none⟩) 2 2], .bool true, .bool true, .bool false, .pointer (some ⟨w1.heap.size, 0, none⟩), .agg #[.slice ua m.n l.cap], .func (.func 49) #[] #[.pointer (some ⟨w1.heap.size + 1, 0, none⟩)],
        .int .i64 ((x.1.val : Nat) : Int), .int .i64 ((x.2.val : Nat) : Int), undef, undef, undef, undef, undef, undef, undef, undef, undef, undef, undef, undef, undef], defers := [] }) ?assign ?body ?done ?stop
  case assign =>
    intro lr x W K hK
    dsimp only
    clear hP0 hPs hYP hL2 v4 f4 BW hpos hn HV HO hX1 bw hVs b1 s1 B1 ys
    gi_wp2
    exact hK
  case body =>
    rintro lr pre ⟨⟨a, ha⟩, ⟨b, hb⟩⟩ W ⟨hp0, hB⟩ _
    have hp := Lib.hid hp0
    have hs := hB.size
    have hbW : Below w.heap.size w W := BW.trans (hB.mono BW.size)
    have hYW := hYP.step hB
    have r1 := hYW.cell 1 rfl
    clear hp0 hP0
    dsimp only
    gi_wp2_with fail
    gi_loopw [23] (fun i wi => ∃ c : Nat, c ≤ m.n ∧ i = .int .i64 c ∧ Below W.heap.size W wi ∧ Hid (∀ d, d < c → splitB m a b d = true)) (fun i _ => m.n - (intOf i).toNat)
    case atStart => exact ⟨0, Nat.zero_le _, rfl, Below.refl _ _, fun d hd => absurd hd (Nat.not_lt_zero _)⟩
    case round =>
      obtain ⟨c, hc, rfl, hD, hR⟩ := hrel
      clear r1
      have hBi := hB.trans (hD.mono hs)
      by_cases hct : c < m.n
      · have hct' : (c : Int) < m.n := by omega
        have hYi := hYW.step hD
        have hLi := Lib.hid (hL2.out.step hBi)
        have r0 := hYi.cell 0 rfl
        have r1 := hYi.cell 1 rfl
        have r2 := hYi.cell 2 rfl
        have v5 := (hBi.cell (p := ⟨w.heap.size + 1, 0, none⟩) (by show w.heap.size + 1 < _; omega)).trans v4
        have f5 := (hBi.frozen (p := ⟨w.heap.size + 1, 0, none⟩) (by show w.heap.size + 1 < _; omega)).trans f4
        cases hsp : splitB m a b c with
        | true =>
          have HS := Lib.hid hsp
          clear hsp
          gi_wp2_with fail
          refine ⟨trivial, ?_⟩
          refine (CallsIn.inRound lr (callsIn_wide.2 (splits_any (nc := nc) hLi.out ha hb hct))).mono ?_
          rintro e w5 ⟨rfl, b5⟩
          rw [HS.out]
          have hD5 := hD.trans (b5.mono hD.size)
          clear r0 r1 r2 v5 f5
          gi_wp2_with fail
          go_roundw
          case rel => exact ⟨c + 1, by omega, by go_num, hD5, fun d hd => by
            by_cases e : d = c
            · subst e; exact HS.out
            · exact hR.out d (by omega)⟩
          case measure => simp [intOf]; omega
        | false =>
          have HS := Lib.hid hsp
          have HF : Hid (boolB m = false) := bool_fails ha hb hct hsp
          clear hsp
          gi_wp2_with fail
          refine ⟨trivial, ?_⟩
          refine (CallsIn.inRound lr (callsIn_wide.2 (splits_any (nc := nc) hLi.out ha hb hct))).mono ?_
          rintro e w5 ⟨rfl, b5⟩
          rw [HS.out]
          have hD5 := hD.trans (b5.mono hD.size)
          have hB5 := hBi.trans (b5.mono hBi.size)
          have s5 := hB5.size
          have v6 := (b5.cell (p := ⟨w.heap.size + 1, 0, none⟩) (by show w.heap.size + 1 < _; have := hD.size; omega)).trans v5
          have f6 := (b5.frozen (p := ⟨w.heap.size + 1, 0, none⟩) (by show w.heap.size + 1 < _; have := hD.size; omega)).trans f5
          clear r0 r1 r2 v5 f5
          gi_wp2_with fail
          exact ⟨(keepsFrom_below hD5).trans ((KeepsOthers.setCell _ _ _).from _), ⟨rfl, HF.out⟩, World.cell?_setCell_same' _ _ _ (by rw [v6]; rfl), (BW.trans (hB5.mono BW.size)).setCell (p := ⟨w.heap.size + 1, 0, none⟩) (by show w.heap.size ≤ w.heap.size + 1; omega) _⟩
      · have hct' : ¬ (c : Int) < m.n := by omega
        gi_wp2_with fail
        exact ⟨keepsFrom_below hD, hD.mono hs, hp.out.snoc (fun d hd => hR.out d (by show d < c; have hd : d < m.n := hd; omega)), hBi⟩
  case done =>
    rintro D ys W hD hys ⟨hp0, hB⟩ hK
    have HO' := Lib.hid (hp0.all hys)
    clear hp0
    have v0 := (hB.cell (p := ⟨w.heap.size + 1, 0, none⟩) (by show w.heap.size + 1 < _; omega)).trans v4
    have vf := (hB.frozen (p := ⟨w.heap.size + 1, 0, none⟩) (by show w.heap.size + 1 < _; omega)).trans f4
    have hbW := BW.trans (hB.mono BW.size)
    have hDs : w.heap.size ≤ D := Nat.le_trans BW.size hD
    gi_wp2
    have hK' := (KeepsOthers.setCell W ⟨w.heap.size + 1, 0, none⟩ (.bool true)).same D _ hK rfl
    refine ⟨by simp, .inl ⟨_, _, rfl, run_takeDeferred hK', ?_⟩⟩
    have hc5 := cell_kept (World.cell?_setCell_same' W ⟨w.heap.size + 1, 0, none⟩ (.bool true) (by rw [v0]; rfl)) (grownBy_putObj' _ D (.deferred none)) (fun r e => by cases e; exact ⟨_, hK', rfl⟩)
    refine ⟨.bool true, ?_, ret_bool (HO'.out.symm.trans HV.out.symm), (hbW.setCell (p := ⟨w.heap.size + 1, 0, none⟩) (by show w.heap.size ≤ w.heap.size + 1; omega) _).trans (belowK_b (w := w) (Nat.le_refl _) _ D _ _ hDs hK' rfl rfl)⟩
    simp [results, Try.f18, go_sem, hc5]
  case stop =>
    rintro D c pre W hD _ ⟨⟨rfl, hbad⟩, hcr, hB⟩ hK
    have hDs : w.heap.size ≤ D := Nat.le_trans BW.size hD
    gi_wp2
    refine ⟨by simp, .inl ⟨_, _, rfl, run_takeDeferred hK, ?_⟩⟩
    have hc5 := cell_kept hcr (grownBy_putObj' _ D (.deferred none)) (fun r e => by cases e; exact ⟨_, hK, rfl⟩)
    refine ⟨.bool false, ?_, ret_bool (hbad.symm.trans HV.out.symm), hB.trans (belowK_b (w := w) (Nat.le_refl _) W D _ _ hDs hK rfl rfl)⟩
    simp [results, Try.f18, go_sem, hc5]
end Go.Proofs.Ytpklccecgfcdfaa
