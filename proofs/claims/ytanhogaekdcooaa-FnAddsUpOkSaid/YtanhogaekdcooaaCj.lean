/- The walk of the program's AddsUpOk. -/
import Derived.Test.YtanhogaekdcooaaCi
import Derived.Test.YtanhogaekdcooaaCf
import Derived.Test.YtanhogaekdcooaaCh
namespace Go.Proofs.Ytanhogaekdcooaa
open Go.RowKit Go.Deep Go.Shelf

attribute [local go_sem] Oper.semAt_some

theorem Ortho.adds_sym {m : Mx} {z : Nat → Int} {y : Nat → Nat} {o a b : Nat} (h : Ortho m z y o) (ha : a < m.n) (hb : b < m.n) : addsP m a b = addsP m b a := by
  have e1 := h.m_comm a b
  have e2 : jN m a b = jN m b a := congrArg Fin.val (OL.j_comm (L := h.ol) ⟨a, ha⟩ ⟨b, hb⟩)
  unfold addsP
  rw [e1, e2, Nat.add_comm (highN m a)]
theorem Ortho.adds_self {m : Mx} {z : Nat → Int} {y : Nat → Nat} {o a : Nat} (h : Ortho m z y o) (ha : a < m.n) : addsP m a a = true := by
  have e1 : mN m a a = a := congrArg Fin.val (OL.m_le (L := h.ol) (a := ⟨a, ha⟩) (b := ⟨a, ha⟩) (h.ol.refl _))
  have e2 : jN m a a = a := congrArg Fin.val (OL.j_le (L := h.ol) (a := ⟨a, ha⟩) (b := ⟨a, ha⟩) (h.ol.refl _))
  unfold addsP
  rw [e1, e2, decide_eq_true rfl]
theorem Ortho.adds_any_fails {m : Mx} {z : Nat → Int} {y : Nat → Nat} {o a b : Nat} (h : Ortho m z y o) (ha : a < m.n) (hb : b < m.n) (hf : addsP m a b = false) : addsB m = false := by
  rcases Nat.lt_trichotomy a b with g | g | g
  · exact adds_fails hb g (by rw [h.adds_sym hb ha]; exact hf)
  · subst g; rw [h.adds_self ha] at hf; cases hf
  · exact adds_fails ha g hf
/-- Of all pairs so far the heights add up. -/
def AllAdd (m : Mx) (pre : List (Fin m.n × Fin m.n)) : Prop := ∀ q ∈ pre, addsP m q.1.val q.2.val = true
theorem AllAdd.snoc {m : Mx} {pre : List (Fin m.n × Fin m.n)} (h : AllAdd m pre) {x : Fin m.n × Fin m.n} (hx : addsP m x.1.val x.2.val = true) : AllAdd m (pre ++ [x]) := fun q hq => by
  rcases List.mem_append.1 hq with hq | hq
  · exact h q hq
  · have e : q = x := by simpa using hq
    rw [e]; exact hx
theorem AllAdd.all {m : Mx} {pre : List (Fin m.n × Fin m.n)} (h : AllAdd m pre) (hall : ∀ a b : Fin m.n, (a, b) ∈ pre) : addsB m = true :=
  allB_true fun a ha => allB_true fun b hb => h _ (hall ⟨a, ha⟩ ⟨b, Nat.lt_trans hb ha⟩)
theorem ownFrom_HM {β : Type} {m : Mx} {bm B : Nat} (hB : bm < B) : OwnFrom B (fun (_ : β) W => Hid (HM m bm W)) :=
  fun _ _ _ row hs hg hr => hs.out.kept hg (fun e => by have := (hr bm e.symm).1; omega)
theorem ownFrom_chg {β : Type} {S : Nat → Prop} {B : Nat} {W0 : World} (hB : W0.heap.size ≤ B) : OwnFrom B (fun (_ : β) W => Chg S W0 W) :=
  fun _ _ _ row hs hg hr => ⟨hg.os.trans hs.os, hg.tape.trans hs.tape, hg.output.trans hs.output, Nat.le_trans hs.size hg.size, fun j hj hn => (hg.block j (Nat.lt_of_lt_of_le hj hs.size) (fun e => by have := (hr j e.symm).1; omega)).trans (hs.block j hj hn)⟩
theorem keepsFrom_chg {B bm : Nat} {W W' : World} (h : Chg (fun j => j = bm) W W') (hB : bm < B) : KeepsFrom B W W' :=
  ⟨h.size, fun k _ hk hx _ => (h.block k (Array.getElem?_eq_some_iff.1 hx).1 (fun e => by have e : k = bm := e; omega)).trans hx⟩

set_option maxRecDepth 100000 in
set_option maxHeartbeats 2000000 in
theorem AddsUpOk_no {w : World} {B : Nat} {ua : Option Addr} {l : Lay} {m : Mx} {na : Option Addr} {g o k nc : Nat} {z : Nat → Int} (h : LogAt w B ua l m na g o k z) (hl : logicB m k z = false) :
    Calls Try.prog 34 #[.agg #[.slice ua m.n l.cap, .slice na k nc]] w fun e w' => e = .returned (.bool (addsV m k z)) ∧ Below w.heap.size w w' := by
  have HF : Hid (false = addsV m k z) := by show _ = _; unfold addsV; rw [hl]; rfl
  have hX := BoxN.start w #[.slice ua m.n l.cap, .slice na k nc] 26
  have hV := Boxd.start (w.alloc (.cells #[.slice ua m.n l.cap, .slice na k nc] 26)) (.bool false) 4
  have hX1 := hX.step (hV.below.mono (by simp))
  have q0 := hX1.cell 0 rfl
  have q1 := hX1.cell 1 rfl
  have bw := hX1.below
  have h2 := Lib.hid (h.step bw)
  have HL := Lib.hid hl
  have e1 : (w.alloc (.cells #[.slice ua m.n l.cap, .slice na k nc] 26)).heap.size = w.heap.size + 1 := World.size_alloc _ _
  have hVs := hV.size
  have hVc := hV.cell
  have hVf := hV.frozen
  rw [e1] at hVc hVf hVs
  clear hl h
  go_enter Try.func34, Try.ntmps34
  have hrow2 : Hid (RowAt ((w.alloc (.cells #[.slice ua m.n l.cap, .slice na k nc] 26)).alloc (.cells #[.bool false] 4)) ((w.alloc (.cells #[.slice ua m.n l.cap, .slice na k nc] 26)).alloc (.cells #[.bool false] 4)).heap.size none 0 0 0 (fun _ => 0)) := ⟨fun c hc => absurd hc (Nat.not_lt_zero _)⟩
  go_wp2_with fail
  generalize hW : (w.alloc (.cells #[.slice ua m.n l.cap, .slice na k nc] 26)).alloc (.cells #[.bool false] 4) = W0 at hX1 bw h2 hrow2 q0 q1 hVc hVf hVs ⊢
  clear hX hV hW e1
  go_at_call 42
  refine (algebraWith_any h2.out hrow2.out (by omega)).mono ?_
  rintro e w1 ⟨b1, (⟨hg, ob, tb, tG, rfl, hA⟩ | ⟨hg, rfl⟩)⟩
  · exfalso
    rw [HL.out] at hg
    cases hg
  · have B1 := bw.trans (b1.mono bw.size)
    have ba := (Below.refl w1.heap.size w1).alloc (Nat.le_refl _) (.cells #[.slice none 0 0, .slice none 0 0, .slice none 0 0] 56)
    have s1 := b1.size
    have B2 := B1.trans (ba.mono B1.size)
    have v2 := ((ba.cell (p := ⟨w.heap.size + 1, 0, none⟩) (by show w.heap.size + 1 < _; omega)).trans (b1.cell (p := ⟨w.heap.size + 1, 0, none⟩) (by show w.heap.size + 1 < _; omega))).trans hVc
    have f2 := ((ba.frozen (p := ⟨w.heap.size + 1, 0, none⟩) (by show w.heap.size + 1 < _; omega)).trans (b1.frozen (p := ⟨w.heap.size + 1, 0, none⟩) (by show w.heap.size + 1 < _; omega))).trans hVf
    clear ba
    unfold noAlg
    go_wp2_with fail
    have c5 := World.cell?_setCell_same' (w1.alloc (.cells #[.slice none 0 0, .slice none 0 0, .slice none 0 0] 56)) ⟨w.heap.size + 1, 0, none⟩ (.bool false) (by rw [v2]; rfl)
    refine bodyPost_ret (v := .bool false) (by simp [results, Try.results34, go_sem, c5]) rfl ?_
    exact ⟨ret_bool HF.out, B2.setCell (p := ⟨w.heap.size + 1, 0, none⟩) (by show w.heap.size ≤ w.heap.size + 1; omega) _⟩

set_option maxRecDepth 100000 in
set_option maxHeartbeats 2000000 in
theorem AddsUpOk_any {w : World} {B : Nat} {ua : Option Addr} {l : Lay} {m : Mx} {na : Option Addr} {g o k nc : Nat} {z : Nat → Int} (h : LogAt w B ua l m na g o k z) :
    Calls Try.prog 34 #[.agg #[.slice ua m.n l.cap, .slice na k nc]] w fun e w' => e = .returned (.bool (addsV m k z)) ∧ Below w.heap.size w w' := by
  cases hl : logicB m k z with
  | false => exact AddsUpOk_no h hl
  | true =>
  have hlog := logicB_is hl
  obtain ⟨y0, o', hO0⟩ := hlog.ortho
  have hkn : k = m.n := hlog.pair.len
  subst hkn
  have hO := hO0.own
  obtain ⟨y, hy⟩ : ∃ y : Nat → Nat, y = fun c => (z c).toNat := ⟨_, rfl⟩
  rw [← hy] at hO
  have hn := hO.lat.order.top
  have hpos := hO.lat.order.pos
  have HV : Hid (addsV m m.n z = addsB m) := by show _ = _; unfold addsV; rw [hl]; rfl
  have HO := Lib.hid hO
  obtain ⟨rfl, hgB, hg2⟩ := h.row.row 0 (by omega)
  have hgB' : g < w.heap.size := by have := h.hB; omega
  clear hl hO hlog hg2 hgB hO0 hy
  have hX := BoxN.start w #[.slice ua m.n l.cap, .slice (some ⟨g, o, none⟩) m.n nc] 26
  have hV := Boxd.start (w.alloc (.cells #[.slice ua m.n l.cap, .slice (some ⟨g, o, none⟩) m.n nc] 26)) (.bool false) 4
  have hX1 := hX.step (hV.below.mono (by simp))
  have q0 := hX1.cell 0 rfl
  have q1 := hX1.cell 1 rfl
  have bw := hX1.below
  have h2 := Lib.hid (h.step bw)
  have e1 : (w.alloc (.cells #[.slice ua m.n l.cap, .slice (some ⟨g, o, none⟩) m.n nc] 26)).heap.size = w.heap.size + 1 := World.size_alloc _ _
  have hVs := hV.size
  have hVc := hV.cell
  have hVf := hV.frozen
  rw [e1] at hVc hVf hVs
  refine (callsIn_wide (n := 9)).1 ?_
  refine callsIn_of_wp_marks Try.func34 rfl trivial ?_ rfl
  simp only [Try.ntmps34, List.size_toArray, List.length_cons, List.length_nil, Nat.reduceAdd, Nat.reduceSub, Array.replicate_succ, Array.replicate_zero, List.push_toArray, List.append_toArray, List.nil_append, List.cons_append]
  gi_wp2_with fail
  have hrow2 : Hid (RowAt ((w.alloc (.cells #[.slice ua m.n l.cap, .slice (some ⟨g, o, none⟩) m.n nc] 26)).alloc (.cells #[.bool false] 4)) ((w.alloc (.cells #[.slice ua m.n l.cap, .slice (some ⟨g, o, none⟩) m.n nc] 26)).alloc (.cells #[.bool false] 4)).heap.size none 0 0 0 (fun _ => 0)) := ⟨fun c hc => absurd hc (Nat.not_lt_zero _)⟩
  generalize hW : (w.alloc (.cells #[.slice ua m.n l.cap, .slice (some ⟨g, o, none⟩) m.n nc] 26)).alloc (.cells #[.bool false] 4) = W0 at hX1 bw h2 hrow2 q0 q1 hVc hVf hVs ⊢
  clear hX hV hW e1 h
  refine ⟨trivial, ?_⟩
  refine (callsIn_wide.2 (algebraWith_any h2.out hrow2.out (by omega))).mono ?_
  rintro e w1 ⟨b1, (⟨hg, ob, tb, tG, rfl, hA⟩ | ⟨hg, rfl⟩)⟩
  case inr =>
    exfalso
    rw [good_nil, Bool.and_true, logicB_true HO.out.logic] at hg
    cases hg
  clear hg hrow2 q0 q1
  have s1 := b1.size
  have B1 := bw.trans (b1.mono bw.size)
  have hY := BoxN.start w1 #[.slice ua m.n l.cap, .slice (some ⟨g, o, none⟩) m.n nc, .slice (some ⟨ob, 0, none⟩) 2 2] 56
  have e1 : (w1.alloc (.cells #[.slice ua m.n l.cap, .slice (some ⟨g, o, none⟩) m.n nc, .slice (some ⟨ob, 0, none⟩) 2 2] 56)).heap.size = w1.heap.size + 1 := World.size_alloc _ _
  have hMp0 := HM.made m (w1.alloc (.cells #[.slice ua m.n l.cap, .slice (some ⟨g, o, none⟩) m.n nc, .slice (some ⟨ob, 0, none⟩) 2 2] 56))
  rw [e1] at hMp0
  have mb := (Below.refl (w1.alloc (.cells #[.slice ua m.n l.cap, .slice (some ⟨g, o, none⟩) m.n nc, .slice (some ⟨ob, 0, none⟩) 2 2] 56)).heap.size (w1.alloc (.cells #[.slice ua m.n l.cap, .slice (some ⟨g, o, none⟩) m.n nc, .slice (some ⟨ob, 0, none⟩) 2 2] 56))).alloc (Nat.le_refl _) (.map #[] 0)
  have e2 : ((w1.alloc (.cells #[.slice ua m.n l.cap, .slice (some ⟨g, o, none⟩) m.n nc, .slice (some ⟨ob, 0, none⟩) 2 2] 56)).alloc (.map #[] 0)).heap.size = w1.heap.size + 1 + 1 := by rw [World.size_alloc, e1]
  have hH := BoxN.start ((w1.alloc (.cells #[.slice ua m.n l.cap, .slice (some ⟨g, o, none⟩) m.n nc, .slice (some ⟨ob, 0, none⟩) 2 2] 56)).alloc (.map #[] 0)) #[.slice ua m.n l.cap, .slice (some ⟨g, o, none⟩) m.n nc, .slice (some ⟨ob, 0, none⟩) 2 2, .map (some (w1.heap.size + 1))] 76
  have e3 : (((w1.alloc (.cells #[.slice ua m.n l.cap, .slice (some ⟨g, o, none⟩) m.n nc, .slice (some ⟨ob, 0, none⟩) 2 2] 56)).alloc (.map #[] 0)).alloc (.cells #[.slice ua m.n l.cap, .slice (some ⟨g, o, none⟩) m.n nc, .slice (some ⟨ob, 0, none⟩) 2 2, .map (some (w1.heap.size + 1))] 76)).heap.size = w1.heap.size + 1 + 1 + 1 := by rw [World.size_alloc, e2]
  have hP := Boxd.start (((w1.alloc (.cells #[.slice ua m.n l.cap, .slice (some ⟨g, o, none⟩) m.n nc, .slice (some ⟨ob, 0, none⟩) 2 2] 56)).alloc (.map #[] 0)).alloc (.cells #[.slice ua m.n l.cap, .slice (some ⟨g, o, none⟩) m.n nc, .slice (some ⟨ob, 0, none⟩) 2 2, .map (some (w1.heap.size + 1))] 76)) (.slice ua m.n l.cap) 53
  have g2 := hH.below.trans (hP.below.mono hH.below.size)
  have hHP := hH.step hP.below
  have h0c := hHP.cell 0 rfl
  have h1c := hHP.cell 1 rfl
  have h2c := hHP.cell 2 rfl
  have h3c := hHP.cell 3 rfl
  rw [e2] at h0c h1c h2c h3c
  have hMp := Lib.hid (hMp0.below g2)
  have hP0 := hP.cell
  have hPs := hP.size
  rw [e3] at hP0 hPs
  have hY3 := (hY.step mb).step hH.below
  have hYP := (hY.step mb).step g2
  have a0 := hYP.cell 0 rfl
  have a1 := hYP.cell 1 rfl
  have a2 := hYP.cell 2 rfl
  have BYP := hYP.below
  have v2 := ((hYP.below.cell (p := ⟨w.heap.size + 1, 0, none⟩) (by show w.heap.size + 1 < _; omega)).trans (b1.cell (p := ⟨w.heap.size + 1, 0, none⟩) (by show w.heap.size + 1 < _; omega))).trans hVc
  have f2 := ((hYP.below.frozen (p := ⟨w.heap.size + 1, 0, none⟩) (by show w.heap.size + 1 < _; omega)).trans (b1.frozen (p := ⟨w.heap.size + 1, 0, none⟩) (by show w.heap.size + 1 < _; omega))).trans hVf
  obtain ⟨_, hL0⟩ := AL.of hA (h2.out.step b1) HO.out
  have hL1 := Lib.hid hL0
  have BW := B1.trans (BYP.mono B1.size)
  have r0 := hY3.cell 0 rfl
  have hmm := @run_makeMap Try.prog
  clear hA h2 hVc hVf hL0 hY hH hP g2 hHP mb hMp0 e1 e2 hY3 hYP
  unfold algV
  gi_wp2_with fail
  refine ⟨trivial, ?_⟩
  refine (pairs_any _ _ _).mono ?_
  rintro e w' ⟨rfl, rfl⟩
  gi_wp2_with fail
  clear r0 hmm
  generalize hW0 : ((((w1.alloc (.cells #[.slice ua m.n l.cap, .slice (some ⟨g, o, none⟩) m.n nc, .slice (some ⟨ob, 0, none⟩) 2 2] 56)).alloc (.map #[] 0)).alloc (.cells #[.slice ua m.n l.cap, .slice (some ⟨g, o, none⟩) m.n nc, .slice (some ⟨ob, 0, none⟩) 2 2, .map (some (w1.heap.size + 1))] 76)).alloc (.cells #[.slice ua m.n l.cap] 53)) = W2 at hP0 hPs h0c h1c h2c h3c hMp a0 a1 a2 v2 f2 BYP BW ⊢
  clear hW0 e3
  refine wpIn_rangeFunc_ownG rfl (by omega) (gf := 87) (lb := #[.pointer (some ⟨w1.heap.size + 1 + 1 + 1, 0, none⟩)]) rfl trivial (enters_of Try.func87 (by kernel_rfl) rfl)
    (pairs_stopsK _ m.n (by omega) hn (w1.heap.size + 1 + 1 + 1) l.cap ua W2 (by omega) hP0) KeptB.trans (KeptB.put (by omega)) (Below.refl _ _) (fun _ => rfl)
    (fun pre W => AllAdd m pre ∧ Hid (HM m (w1.heap.size + 1) W) ∧ Chg (fun j => j = w1.heap.size + 1) W2 W)
    (fun c _ W => (c = .ret ∧ addsB m = false) ∧ W.cell? ⟨w.heap.size + 1, 0, none⟩ = some (.bool false) ∧ Below w.heap.size w W)
    (OwnFrom.and (ownFrom_pure _ _) (OwnFrom.and (ownFrom_HM (by omega)) (ownFrom_chg (Nat.le_refl _))))
    (fun c => OwnFrom.and (ownFrom_pure _ _) (OwnFrom.and (Own.from (fun s A B row hs hg hr => cell_kept hs hg hr) _) (ownFrom_below (Nat.le_refl _) BW.size)))
    ⟨fun p hp => absurd hp (by simp), hMp, Chg.refl _ _⟩
    (fun x => { tmps := #[.agg #[.slice ua m.n l.cap, .slice (some ⟨g, o, none⟩) m.n nc], .pointer (some ⟨w.heap.size, 0, none⟩), .pointer (some ⟨w.heap.size + 1, 0, none⟩), .pointer (some ⟨w1.heap.size, 0, none⟩), .bool true, .pointer (some ⟨w1.heap.size + 1 + 1, 0, none⟩),
        .int .i64 ((x.1.val : Nat) : Int), .int .i64 ((x.2.val : Nat) : Int), undef, undef,
        .tuple #[.agg #[.slice ua m.n l.cap, .slice (some ⟨g, o, none⟩) m.n nc, .slice (some ⟨ob, 0, none⟩) 2 2], .bool true], .agg #[.slice ua m.n l.cap, .slice (some ⟨g, o, none⟩) m.n nc], .tuple #[.agg #[.slice ua m.n l.cap, .slice (some ⟨g, o, none⟩) m.n nc, .slice (some ⟨ob, 0, none⟩) 2 2], .bool true], .agg #[.slice ua m.n l.cap, .slice (some ⟨g, o, none⟩) m.n nc, .slice (some ⟨ob, 0, none⟩) 2 2], .bool true, .bool true, .bool false,
        .agg #[.slice ua m.n l.cap, .slice (some ⟨g, o, none⟩) m.n nc, .slice (some ⟨ob, 0, none⟩) 2 2], .map (some (w1.heap.size + 1)), .agg #[.slice ua m.n l.cap, .slice (some ⟨g, o, none⟩) m.n nc, .slice (some ⟨ob, 0, none⟩) 2 2, .map (some (w1.heap.size + 1))], .pointer (some ⟨w1.heap.size, 0, none⟩), .agg #[.slice ua m.n l.cap], .func (.func 87) #[] #[.pointer (some ⟨w1.heap.size + 1 + 1 + 1, 0, none⟩)],
        .int .i64 ((x.1.val : Nat) : Int), .int .i64 ((x.2.val : Nat) : Int), undef, undef, undef, undef, undef, undef, undef, undef, undef, undef, undef, undef, undef, undef, undef, undef, undef, undef, undef, undef, undef, undef, undef], defers := [] }) ?assign ?body ?done ?stop
  case assign =>
    intro lr x W K hK
    dsimp only
    clear hP0 hPs h0c h1c h2c h3c hMp a0 a1 a2 v2 f2 BYP BW hpos hn
    gi_wp2
    exact hK
  case body =>
    rintro lr pre ⟨⟨a, ha⟩, ⟨b, hb⟩⟩ W ⟨hp0, hMW, hC⟩ _
    have hp := Lib.hid hp0
    have hs := hC.size
    have hBW : Below w1.heap.size w1 W := BYP.trans (hC.below (by omega) (fun q e => by subst e; omega))
    have hLb := hL1
    have hLW := Lib.hid (hL1.out.step hBW)
    have hm1 := hLW.out.mlt ha hb
    have hj1 := hLW.out.jlt ha hb
    have z1 := hC.cell (p := ⟨w.heap.size + 1, 0, none⟩) (fun e => by first | omega | (dsimp only at e; omega)) v2
    clear hp0 hP0
    dsimp only
    gi_wp2_with fail
    have eC0 : Chg (fun j => j = w1.heap.size + 1) W2 W.drew := hC.trans (Chg.drew _ _)
    have eD0 : Chg (fun j => j = w1.heap.size + 1) W W.drew := Chg.drew _ _
    have eM0 := Lib.hid (hMW.out.below (Below.refl _ W).drew)
    have eL0 := Lib.hid (hLW.out.step (Below.refl _ W).drew)
    have eS0 : (fun w' => w'.cell? ⟨w1.heap.size, 0, none⟩ = some (.slice ua m.n l.cap) ∧ w'.cell? ⟨w1.heap.size, 1, none⟩ = some (.slice (some ⟨g, o, none⟩) m.n nc) ∧ w'.cell? ⟨w1.heap.size, 2, none⟩ = some (.slice (some ⟨ob, 0, none⟩) 2 2)) W.drew := ⟨eC0.cell (p := ⟨w1.heap.size, 0, none⟩) (fun e => by first | omega | (dsimp only at e; omega)) a0, eC0.cell (p := ⟨w1.heap.size, 1, none⟩) (fun e => by first | omega | (dsimp only at e; omega)) a1, eC0.cell (p := ⟨w1.heap.size, 2, none⟩) (fun e => by first | omega | (dsimp only at e; omega)) a2⟩
    clear hLW hMW z1
    refine region_hold (fuel := 10) (listed := #[false, false, false, false, false, false, false, false, false, false]) (fun w' => w'.cell? ⟨w1.heap.size, 0, none⟩ = some (.slice ua m.n l.cap) ∧ w'.cell? ⟨w1.heap.size, 1, none⟩ = some (.slice (some ⟨g, o, none⟩) m.n nc) ∧ w'.cell? ⟨w1.heap.size, 2, none⟩ = some (.slice (some ⟨ob, 0, none⟩) 2 2)) (by kernel_rfl) (by kernel_rfl) (by kernel_rfl) (by kernel_rfl) ?_
    refine hold_take (i := 0) (d := 25) (v := ?ve0) (listed' := #[true, false, false, false, false, false, false, false, false, false]) rfl (by kernel_rfl) (by kernel_rfl) (by kernel_rfl) rfl (by rfl) (by kernel_rfl) eS0 ?he0 ?re0
    case he0 =>
      intro w' hSw
      obtain ⟨k0, k1, k2⟩ := hSw
      go_simp
      try with_reducible rfl
    simp only [List.setIfInBounds_toArray, List.set_cons_zero, List.set_cons_succ]
    refine hold_take (i := 1) (d := 26) (v := ?ve1) (listed' := #[true, true, false, false, false, false, false, false, false, false]) rfl (by kernel_rfl) (by kernel_rfl) (by kernel_rfl) rfl (by rfl) (by kernel_rfl) eS0 ?he1 ?re1
    case he1 =>
      intro w' hSw
      obtain ⟨k0, k1, k2⟩ := hSw
      go_simp
      try with_reducible rfl
    simp only [List.setIfInBounds_toArray, List.set_cons_zero, List.set_cons_succ]
    refine hold_take (i := 2) (d := 27) (v := ?ve2) (listed' := #[true, true, true, false, false, false, false, false, false, false]) rfl (by kernel_rfl) (by kernel_rfl) (by kernel_rfl) rfl (by rfl) (by kernel_rfl) eS0 ?he2 ?re2
    case he2 =>
      intro w' hSw
      obtain ⟨k0, k1, k2⟩ := hSw
      go_simp
      try with_reducible rfl
    simp only [List.setIfInBounds_toArray, List.set_cons_zero, List.set_cons_succ]
    refine hold_take (i := 4) (d := 29) (v := ?ve4) (listed' := #[true, true, true, false, true, false, false, false, false, false]) rfl (by kernel_rfl) (by kernel_rfl) (by kernel_rfl) rfl (by rfl) (by kernel_rfl) eS0 ?he4 ?re4
    case he4 =>
      intro w' hSw
      obtain ⟨k0, k1, k2⟩ := hSw
      go_simp
      try with_reducible rfl
    simp only [List.setIfInBounds_toArray, List.set_cons_zero, List.set_cons_succ]
    refine hold_take (i := 5) (d := 30) (v := ?ve5) (listed' := #[true, true, true, false, true, true, false, false, false, false]) rfl (by kernel_rfl) (by kernel_rfl) (by kernel_rfl) rfl (by rfl) (by kernel_rfl) eS0 ?he5 ?re5
    case he5 =>
      intro w' hSw
      obtain ⟨k0, k1, k2⟩ := hSw
      go_simp
      try with_reducible rfl
    simp only [List.setIfInBounds_toArray, List.set_cons_zero, List.set_cons_succ]
    refine hold_take (i := 6) (d := 31) (v := ?ve6) (listed' := #[true, true, true, false, true, true, true, false, false, false]) rfl (by kernel_rfl) (by kernel_rfl) (by kernel_rfl) rfl (by rfl) (by kernel_rfl) eS0 ?he6 ?re6
    case he6 =>
      intro w' hSw
      obtain ⟨k0, k1, k2⟩ := hSw
      go_simp
      try with_reducible rfl
    simp only [List.setIfInBounds_toArray, List.set_cons_zero, List.set_cons_succ]
    refine hold_call (i := 3) (d := 28) (listed' := #[true, true, true, true, true, true, true, false, false, false]) rfl (by kernel_rfl) rfl (by rfl) (by kernel_rfl) ?hee3 (meetA (nc := nc) eL0.out ha hb) ?hce3
    case hee3 => go_simp
    rintro e ex1 ⟨rfl, eb1⟩
    have eC1 := eC0.trans (Chg.of_less eb1)
    have eD1 := eD0.trans (Chg.of_less eb1)
    have eM1 := Lib.hid (eM0.out.below eb1)
    have eL1 := Lib.hid (eL0.out.step eb1)
    have eS1 : (fun w' => w'.cell? ⟨w1.heap.size, 0, none⟩ = some (.slice ua m.n l.cap) ∧ w'.cell? ⟨w1.heap.size, 1, none⟩ = some (.slice (some ⟨g, o, none⟩) m.n nc) ∧ w'.cell? ⟨w1.heap.size, 2, none⟩ = some (.slice (some ⟨ob, 0, none⟩) 2 2)) ex1 := ⟨eC1.cell (p := ⟨w1.heap.size, 0, none⟩) (fun e => by first | omega | (dsimp only at e; omega)) a0, eC1.cell (p := ⟨w1.heap.size, 1, none⟩) (fun e => by first | omega | (dsimp only at e; omega)) a1, eC1.cell (p := ⟨w1.heap.size, 2, none⟩) (fun e => by first | omega | (dsimp only at e; omega)) a2⟩
    clear eS0 eL0 eM0 eC0 eb1
    refine ⟨_, rfl, eS1, ?_⟩
    simp only [List.setIfInBounds_toArray, List.set_cons_zero, List.set_cons_succ]
    refine hold_call (i := 7) (d := 32) (listed' := #[true, true, true, true, true, true, true, true, false, false]) rfl (by kernel_rfl) rfl (by rfl) (by kernel_rfl) ?hee7 (joinA (nc := nc) eL1.out ha hb) ?hce7
    case hee7 => go_simp
    rintro e ex2 ⟨rfl, eb2⟩
    have eC2 := eC1.trans (Chg.of_less eb2)
    have eD2 := eD1.trans (Chg.of_less eb2)
    have eM2 := Lib.hid (eM1.out.below eb2)
    have eL2 := Lib.hid (eL1.out.step eb2)
    have eS2 : (fun w' => w'.cell? ⟨w1.heap.size, 0, none⟩ = some (.slice ua m.n l.cap) ∧ w'.cell? ⟨w1.heap.size, 1, none⟩ = some (.slice (some ⟨g, o, none⟩) m.n nc) ∧ w'.cell? ⟨w1.heap.size, 2, none⟩ = some (.slice (some ⟨ob, 0, none⟩) 2 2)) ex2 := ⟨eC2.cell (p := ⟨w1.heap.size, 0, none⟩) (fun e => by first | omega | (dsimp only at e; omega)) a0, eC2.cell (p := ⟨w1.heap.size, 1, none⟩) (fun e => by first | omega | (dsimp only at e; omega)) a1, eC2.cell (p := ⟨w1.heap.size, 2, none⟩) (fun e => by first | omega | (dsimp only at e; omega)) a2⟩
    clear eS1 eL1 eM1 eC1 eb2
    refine ⟨_, rfl, eS2, ?_⟩
    simp only [List.setIfInBounds_toArray, List.set_cons_zero, List.set_cons_succ]
    refine hold_take (i := 8) (d := 8) (v := ?ve8) (listed' := #[true, true, true, true, true, true, true, true, true, false]) rfl (by kernel_rfl) (by kernel_rfl) (by kernel_rfl) rfl (by rfl) (by kernel_rfl) eS2 ?he8 ?re8
    case he8 =>
      intro w' hSw
      obtain ⟨k0, k1, k2⟩ := hSw
      go_simp
      try with_reducible rfl
    simp only [List.setIfInBounds_toArray, List.set_cons_zero, List.set_cons_succ]
    refine hold_take (i := 9) (d := 9) (v := ?ve9) (listed' := #[true, true, true, true, true, true, true, true, true, true]) rfl (by kernel_rfl) (by kernel_rfl) (by kernel_rfl) rfl (by rfl) (by kernel_rfl) eS2 ?he9 ?re9
    case he9 =>
      intro w' hSw
      obtain ⟨k0, k1, k2⟩ := hSw
      go_simp
      try with_reducible rfl
    simp only [List.setIfInBounds_toArray, List.set_cons_zero, List.set_cons_succ]
    refine hold_done (by kernel_rfl) ?_ _
    gi_wp2_with fail
    have hl1 := Nat.le_trans (high_le m a) hn
    have hl2 := Nat.le_trans (high_le m b) hn
    have hl3 := Nat.le_trans (high_le m (mN m a b)) hn
    have hl4 := Nat.le_trans (high_le m (jN m a b)) hn
    have HPd : Hid (addsP m a b = decide (highN m a + highN m b = highN m (mN m a b) + highN m (jN m a b))) := rfl
    obtain ⟨ka, hka⟩ : ∃ ka, highN m a = ka := ⟨_, rfl⟩
    obtain ⟨kb, hkb⟩ : ∃ kb, highN m b = kb := ⟨_, rfl⟩
    obtain ⟨km, hkm⟩ : ∃ km, highN m (mN m a b) = km := ⟨_, rfl⟩
    obtain ⟨kj, hkj⟩ : ∃ kj, highN m (jN m a b) = kj := ⟨_, rfl⟩
    rw [hka] at hl1 HPd
    rw [hkb] at hl2 HPd
    rw [hkm] at hl3 HPd
    rw [hkj] at hl4 HPd
    have KA := Lib.hid hka
    have KB := Lib.hid hkb
    have KM := Lib.hid hkm
    have KJ := Lib.hid hkj
    clear hka hkb hkm hkj
    have S1 : Hid (IntKind.i64.wrap ((ka : Int) + (kb : Int)) = (ka : Int) + (kb : Int)) := IntWalk.i64_in _ (by omega)
    have S2 : Hid (IntKind.i64.wrap ((km : Int) + (kj : Int)) = (km : Int) + (kj : Int)) := IntWalk.i64_in _ (by omega)
    clear hl1 hl2 hl3 hl4
    cases heq : addsP m a b with
    | true =>
      have HE := Lib.hid heq
      have n1 : (((ka + kb : Nat) : Int) != ((km + kj : Nat) : Int)) = false := by
        rw [HPd.out] at heq
        have e := of_decide_eq_true heq
        rw [e]; simp
      clear heq HPd
      have pC0 : Chg (fun j => j = w1.heap.size + 1) W2 ex2.drew := eC2.trans (Chg.drew _ _)
      have pD0 : Chg (fun j => j = w1.heap.size + 1) W ex2.drew := eD2.trans (Chg.drew _ _)
      have pM0 := Lib.hid (eM2.out.below (Below.refl _ ex2).drew)
      have pB0 : Below w1.heap.size w1 ex2.drew := BYP.trans (pC0.below (by omega) (fun q e => by subst e; omega))
      have pS0 : (fun w' => w'.cell? ⟨w1.heap.size + 1 + 1, 0, none⟩ = some (.slice ua m.n l.cap) ∧ w'.cell? ⟨w1.heap.size + 1 + 1, 1, none⟩ = some (.slice (some ⟨g, o, none⟩) m.n nc) ∧ w'.cell? ⟨w1.heap.size + 1 + 1, 2, none⟩ = some (.slice (some ⟨ob, 0, none⟩) 2 2) ∧ w'.cell? ⟨w1.heap.size + 1 + 1, 3, none⟩ = some (.map (some (w1.heap.size + 1)))) ex2.drew := ⟨pC0.cell (p := ⟨w1.heap.size + 1 + 1, 0, none⟩) (fun e => by first | omega | (dsimp only at e; omega)) h0c, pC0.cell (p := ⟨w1.heap.size + 1 + 1, 1, none⟩) (fun e => by first | omega | (dsimp only at e; omega)) h1c, pC0.cell (p := ⟨w1.heap.size + 1 + 1, 2, none⟩) (fun e => by first | omega | (dsimp only at e; omega)) h2c, pC0.cell (p := ⟨w1.heap.size + 1 + 1, 3, none⟩) (fun e => by first | omega | (dsimp only at e; omega)) h3c⟩
      clear eS2 eM2 eL2 eC2
      refine region_hold (fuel := 15) (listed := #[false, false, false, false, false, false, false, false, false, false, false, false, false, false, false]) (fun w' => w'.cell? ⟨w1.heap.size + 1 + 1, 0, none⟩ = some (.slice ua m.n l.cap) ∧ w'.cell? ⟨w1.heap.size + 1 + 1, 1, none⟩ = some (.slice (some ⟨g, o, none⟩) m.n nc) ∧ w'.cell? ⟨w1.heap.size + 1 + 1, 2, none⟩ = some (.slice (some ⟨ob, 0, none⟩) 2 2) ∧ w'.cell? ⟨w1.heap.size + 1 + 1, 3, none⟩ = some (.map (some (w1.heap.size + 1)))) (by kernel_rfl) (by kernel_rfl) (by kernel_rfl) (by kernel_rfl) ?_
      refine hold_take (i := 0) (d := 33) (v := ?vp0) (listed' := #[true, false, false, false, false, false, false, false, false, false, false, false, false, false, false]) rfl (by kernel_rfl) (by kernel_rfl) (by kernel_rfl) rfl (by rfl) (by kernel_rfl) pS0 ?hp0 ?rp0
      case hp0 =>
        intro w' hSw
        obtain ⟨k0, k1, k2, k3⟩ := hSw
        go_simp
        try with_reducible rfl
      simp only [List.setIfInBounds_toArray, List.set_cons_zero, List.set_cons_succ]
      refine hold_take (i := 1) (d := 34) (v := ?vp1) (listed' := #[true, true, false, false, false, false, false, false, false, false, false, false, false, false, false]) rfl (by kernel_rfl) (by kernel_rfl) (by kernel_rfl) rfl (by rfl) (by kernel_rfl) pS0 ?hp1 ?rp1
      case hp1 =>
        intro w' hSw
        obtain ⟨k0, k1, k2, k3⟩ := hSw
        go_simp
        try with_reducible rfl
      simp only [List.setIfInBounds_toArray, List.set_cons_zero, List.set_cons_succ]
      refine hold_take (i := 3) (d := 36) (v := ?vp3) (listed' := #[true, true, false, true, false, false, false, false, false, false, false, false, false, false, false]) rfl (by kernel_rfl) (by kernel_rfl) (by kernel_rfl) rfl (by rfl) (by kernel_rfl) pS0 ?hp3 ?rp3
      case hp3 =>
        intro w' hSw
        obtain ⟨k0, k1, k2, k3⟩ := hSw
        go_simp
        try with_reducible rfl
      simp only [List.setIfInBounds_toArray, List.set_cons_zero, List.set_cons_succ]
      refine hold_take (i := 4) (d := 37) (v := ?vp4) (listed' := #[true, true, false, true, true, false, false, false, false, false, false, false, false, false, false]) rfl (by kernel_rfl) (by kernel_rfl) (by kernel_rfl) rfl (by rfl) (by kernel_rfl) pS0 ?hp4 ?rp4
      case hp4 =>
        intro w' hSw
        obtain ⟨k0, k1, k2, k3⟩ := hSw
        go_simp
        try with_reducible rfl
      simp only [List.setIfInBounds_toArray, List.set_cons_zero, List.set_cons_succ]
      refine hold_take (i := 7) (d := 40) (v := ?vp7) (listed' := #[true, true, false, true, true, false, false, true, false, false, false, false, false, false, false]) rfl (by kernel_rfl) (by kernel_rfl) (by kernel_rfl) rfl (by rfl) (by kernel_rfl) pS0 ?hp7 ?rp7
      case hp7 =>
        intro w' hSw
        obtain ⟨k0, k1, k2, k3⟩ := hSw
        go_simp
        try with_reducible rfl
      simp only [List.setIfInBounds_toArray, List.set_cons_zero, List.set_cons_succ]
      refine hold_take (i := 8) (d := 41) (v := ?vp8) (listed' := #[true, true, false, true, true, false, false, true, true, false, false, false, false, false, false]) rfl (by kernel_rfl) (by kernel_rfl) (by kernel_rfl) rfl (by rfl) (by kernel_rfl) pS0 ?hp8 ?rp8
      case hp8 =>
        intro w' hSw
        obtain ⟨k0, k1, k2, k3⟩ := hSw
        go_simp
        try with_reducible rfl
      simp only [List.setIfInBounds_toArray, List.set_cons_zero, List.set_cons_succ]
      refine hold_take (i := 10) (d := 43) (v := ?vp10) (listed' := #[true, true, false, true, true, false, false, true, true, false, true, false, false, false, false]) rfl (by kernel_rfl) (by kernel_rfl) (by kernel_rfl) rfl (by rfl) (by kernel_rfl) pS0 ?hp10 ?rp10
      case hp10 =>
        intro w' hSw
        obtain ⟨k0, k1, k2, k3⟩ := hSw
        go_simp
        try with_reducible rfl
      simp only [List.setIfInBounds_toArray, List.set_cons_zero, List.set_cons_succ]
      refine hold_take (i := 11) (d := 44) (v := ?vp11) (listed' := #[true, true, false, true, true, false, false, true, true, false, true, true, false, false, false]) rfl (by kernel_rfl) (by kernel_rfl) (by kernel_rfl) rfl (by rfl) (by kernel_rfl) pS0 ?hp11 ?rp11
      case hp11 =>
        intro w' hSw
        obtain ⟨k0, k1, k2, k3⟩ := hSw
        go_simp
        try with_reducible rfl
      simp only [List.setIfInBounds_toArray, List.set_cons_zero, List.set_cons_succ]
      refine hold_call (i := 2) (d := 35) (listed' := #[true, true, true, true, true, false, false, true, true, false, true, true, false, false, false]) rfl (by kernel_rfl) rfl (by rfl) (by kernel_rfl) ?hep2 (high_any (nc := nc) hLb.out (by omega) _ a _ ha (cnt_le m a) pB0 pM0.out) ?hcp2
      case hep2 => go_simp
      rintro e px1 ⟨rfl, pm1, pb1⟩
      rw [KA.out]
      have pC1 := pC0.trans pb1
      have pD1 := pD0.trans pb1
      have pM1 := Lib.hid pm1
      have pB1 := pB0.trans (pb1.below pB0.size (fun q e => by subst e; omega))
      have pS1 : (fun w' => w'.cell? ⟨w1.heap.size + 1 + 1, 0, none⟩ = some (.slice ua m.n l.cap) ∧ w'.cell? ⟨w1.heap.size + 1 + 1, 1, none⟩ = some (.slice (some ⟨g, o, none⟩) m.n nc) ∧ w'.cell? ⟨w1.heap.size + 1 + 1, 2, none⟩ = some (.slice (some ⟨ob, 0, none⟩) 2 2) ∧ w'.cell? ⟨w1.heap.size + 1 + 1, 3, none⟩ = some (.map (some (w1.heap.size + 1)))) px1 := ⟨pC1.cell (p := ⟨w1.heap.size + 1 + 1, 0, none⟩) (fun e => by first | omega | (dsimp only at e; omega)) h0c, pC1.cell (p := ⟨w1.heap.size + 1 + 1, 1, none⟩) (fun e => by first | omega | (dsimp only at e; omega)) h1c, pC1.cell (p := ⟨w1.heap.size + 1 + 1, 2, none⟩) (fun e => by first | omega | (dsimp only at e; omega)) h2c, pC1.cell (p := ⟨w1.heap.size + 1 + 1, 3, none⟩) (fun e => by first | omega | (dsimp only at e; omega)) h3c⟩
      clear pS0 pM0 pC0 pB0 pb1 pm1
      refine ⟨_, rfl, pS1, ?_⟩
      simp only [List.setIfInBounds_toArray, List.set_cons_zero, List.set_cons_succ]
      refine hold_call (i := 5) (d := 38) (listed' := #[true, true, true, true, true, true, false, true, true, false, true, true, false, false, false]) rfl (by kernel_rfl) rfl (by rfl) (by kernel_rfl) ?hep5 (high_any (nc := nc) hLb.out (by omega) _ b _ hb (cnt_le m b) pB1 pM1.out) ?hcp5
      case hep5 => go_simp
      rintro e px2 ⟨rfl, pm2, pb2⟩
      rw [KB.out]
      have pC2 := pC1.trans pb2
      have pD2 := pD1.trans pb2
      have pM2 := Lib.hid pm2
      have pB2 := pB1.trans (pb2.below pB1.size (fun q e => by subst e; omega))
      have pS2 : (fun w' => w'.cell? ⟨w1.heap.size + 1 + 1, 0, none⟩ = some (.slice ua m.n l.cap) ∧ w'.cell? ⟨w1.heap.size + 1 + 1, 1, none⟩ = some (.slice (some ⟨g, o, none⟩) m.n nc) ∧ w'.cell? ⟨w1.heap.size + 1 + 1, 2, none⟩ = some (.slice (some ⟨ob, 0, none⟩) 2 2) ∧ w'.cell? ⟨w1.heap.size + 1 + 1, 3, none⟩ = some (.map (some (w1.heap.size + 1)))) px2 := ⟨pC2.cell (p := ⟨w1.heap.size + 1 + 1, 0, none⟩) (fun e => by first | omega | (dsimp only at e; omega)) h0c, pC2.cell (p := ⟨w1.heap.size + 1 + 1, 1, none⟩) (fun e => by first | omega | (dsimp only at e; omega)) h1c, pC2.cell (p := ⟨w1.heap.size + 1 + 1, 2, none⟩) (fun e => by first | omega | (dsimp only at e; omega)) h2c, pC2.cell (p := ⟨w1.heap.size + 1 + 1, 3, none⟩) (fun e => by first | omega | (dsimp only at e; omega)) h3c⟩
      clear pS1 pM1 pC1 pB1 pb2 pm2
      refine ⟨_, rfl, pS2, ?_⟩
      simp only [List.setIfInBounds_toArray, List.set_cons_zero, List.set_cons_succ]
      refine hold_take (i := 6) (d := 39) (v := .int .i64 ((ka + kb : Nat) : Int)) (listed' := #[true, true, true, true, true, true, true, true, true, false, true, true, false, false, false]) rfl (by kernel_rfl) (by kernel_rfl) (by kernel_rfl) rfl (by rfl) (by kernel_rfl) pS2 ?hp6 ?rp6
      case hp6 =>
        intro w' hSw
        obtain ⟨k0, k1, k2, k3⟩ := hSw
        go_simp
        simp only [S1.out]
      simp only [List.setIfInBounds_toArray, List.set_cons_zero, List.set_cons_succ]
      refine hold_call (i := 9) (d := 42) (listed' := #[true, true, true, true, true, true, true, true, true, true, true, true, false, false, false]) rfl (by kernel_rfl) rfl (by rfl) (by kernel_rfl) ?hep9 (high_any (nc := nc) hLb.out (by omega) _ (mN m a b) _ hm1 (cnt_le m (mN m a b)) pB2 pM2.out) ?hcp9
      case hep9 => go_simp
      rintro e px3 ⟨rfl, pm3, pb3⟩
      rw [KM.out]
      have pC3 := pC2.trans pb3
      have pD3 := pD2.trans pb3
      have pM3 := Lib.hid pm3
      have pB3 := pB2.trans (pb3.below pB2.size (fun q e => by subst e; omega))
      have pS3 : (fun w' => w'.cell? ⟨w1.heap.size + 1 + 1, 0, none⟩ = some (.slice ua m.n l.cap) ∧ w'.cell? ⟨w1.heap.size + 1 + 1, 1, none⟩ = some (.slice (some ⟨g, o, none⟩) m.n nc) ∧ w'.cell? ⟨w1.heap.size + 1 + 1, 2, none⟩ = some (.slice (some ⟨ob, 0, none⟩) 2 2) ∧ w'.cell? ⟨w1.heap.size + 1 + 1, 3, none⟩ = some (.map (some (w1.heap.size + 1)))) px3 := ⟨pC3.cell (p := ⟨w1.heap.size + 1 + 1, 0, none⟩) (fun e => by first | omega | (dsimp only at e; omega)) h0c, pC3.cell (p := ⟨w1.heap.size + 1 + 1, 1, none⟩) (fun e => by first | omega | (dsimp only at e; omega)) h1c, pC3.cell (p := ⟨w1.heap.size + 1 + 1, 2, none⟩) (fun e => by first | omega | (dsimp only at e; omega)) h2c, pC3.cell (p := ⟨w1.heap.size + 1 + 1, 3, none⟩) (fun e => by first | omega | (dsimp only at e; omega)) h3c⟩
      clear pS2 pM2 pC2 pB2 pb3 pm3
      refine ⟨_, rfl, pS3, ?_⟩
      simp only [List.setIfInBounds_toArray, List.set_cons_zero, List.set_cons_succ]
      refine hold_call (i := 12) (d := 45) (listed' := #[true, true, true, true, true, true, true, true, true, true, true, true, true, false, false]) rfl (by kernel_rfl) rfl (by rfl) (by kernel_rfl) ?hep12 (high_any (nc := nc) hLb.out (by omega) _ (jN m a b) _ hj1 (cnt_le m (jN m a b)) pB3 pM3.out) ?hcp12
      case hep12 => go_simp
      rintro e px4 ⟨rfl, pm4, pb4⟩
      rw [KJ.out]
      have pC4 := pC3.trans pb4
      have pD := pD3.trans pb4
      have pM4 := Lib.hid pm4
      have pB4 := pB3.trans (pb4.below pB3.size (fun q e => by subst e; omega))
      have pS4 : (fun w' => w'.cell? ⟨w1.heap.size + 1 + 1, 0, none⟩ = some (.slice ua m.n l.cap) ∧ w'.cell? ⟨w1.heap.size + 1 + 1, 1, none⟩ = some (.slice (some ⟨g, o, none⟩) m.n nc) ∧ w'.cell? ⟨w1.heap.size + 1 + 1, 2, none⟩ = some (.slice (some ⟨ob, 0, none⟩) 2 2) ∧ w'.cell? ⟨w1.heap.size + 1 + 1, 3, none⟩ = some (.map (some (w1.heap.size + 1)))) px4 := ⟨pC4.cell (p := ⟨w1.heap.size + 1 + 1, 0, none⟩) (fun e => by first | omega | (dsimp only at e; omega)) h0c, pC4.cell (p := ⟨w1.heap.size + 1 + 1, 1, none⟩) (fun e => by first | omega | (dsimp only at e; omega)) h1c, pC4.cell (p := ⟨w1.heap.size + 1 + 1, 2, none⟩) (fun e => by first | omega | (dsimp only at e; omega)) h2c, pC4.cell (p := ⟨w1.heap.size + 1 + 1, 3, none⟩) (fun e => by first | omega | (dsimp only at e; omega)) h3c⟩
      clear pS3 pM3 pC3 pB3 pb4 pm4
      refine ⟨_, rfl, pS4, ?_⟩
      simp only [List.setIfInBounds_toArray, List.set_cons_zero, List.set_cons_succ]
      refine hold_take (i := 13) (d := 46) (v := .int .i64 ((km + kj : Nat) : Int)) (listed' := #[true, true, true, true, true, true, true, true, true, true, true, true, true, true, false]) rfl (by kernel_rfl) (by kernel_rfl) (by kernel_rfl) rfl (by rfl) (by kernel_rfl) pS4 ?hp13 ?rp13
      case hp13 =>
        intro w' hSw
        obtain ⟨k0, k1, k2, k3⟩ := hSw
        go_simp
        simp only [S2.out]
      simp only [List.setIfInBounds_toArray, List.set_cons_zero, List.set_cons_succ]
      refine hold_take (i := 14) (d := 47) (v := ?vp14) (listed' := #[true, true, true, true, true, true, true, true, true, true, true, true, true, true, true]) rfl (by kernel_rfl) (by kernel_rfl) (by kernel_rfl) rfl (by rfl) (by kernel_rfl) pS4 ?hp14 ?rp14
      case hp14 =>
        intro w' hSw
        obtain ⟨k0, k1, k2, k3⟩ := hSw
        go_simp
        try with_reducible rfl
      simp only [List.setIfInBounds_toArray, List.set_cons_zero, List.set_cons_succ]
      refine hold_done (by kernel_rfl) ?_ _
      clear pS4
      gi_wp2_with fail
      exact ⟨keepsFrom_chg (pD) (by omega), pD.block _ (by omega) (fun e => by first | omega | (dsimp only at e; omega)), hp.out.snoc HE.out, pM4, pC4⟩
    | false =>
      have HE := Lib.hid heq
      have n1 : (((ka + kb : Nat) : Int) != ((km + kj : Nat) : Int)) = true := by
        rw [HPd.out] at heq
        have e := of_decide_eq_false heq
        rw [bne_iff_ne]; omega
      clear heq HPd
      have qC0 : Chg (fun j => j = w1.heap.size + 1) W2 ex2.drew := eC2.trans (Chg.drew _ _)
      have qD0 : Chg (fun j => j = w1.heap.size + 1) W ex2.drew := eD2.trans (Chg.drew _ _)
      have qM0 := Lib.hid (eM2.out.below (Below.refl _ ex2).drew)
      have qB0 : Below w1.heap.size w1 ex2.drew := BYP.trans (qC0.below (by omega) (fun q e => by subst e; omega))
      have qS0 : (fun w' => w'.cell? ⟨w1.heap.size + 1 + 1, 0, none⟩ = some (.slice ua m.n l.cap) ∧ w'.cell? ⟨w1.heap.size + 1 + 1, 1, none⟩ = some (.slice (some ⟨g, o, none⟩) m.n nc) ∧ w'.cell? ⟨w1.heap.size + 1 + 1, 2, none⟩ = some (.slice (some ⟨ob, 0, none⟩) 2 2) ∧ w'.cell? ⟨w1.heap.size + 1 + 1, 3, none⟩ = some (.map (some (w1.heap.size + 1)))) ex2.drew := ⟨qC0.cell (p := ⟨w1.heap.size + 1 + 1, 0, none⟩) (fun e => by first | omega | (dsimp only at e; omega)) h0c, qC0.cell (p := ⟨w1.heap.size + 1 + 1, 1, none⟩) (fun e => by first | omega | (dsimp only at e; omega)) h1c, qC0.cell (p := ⟨w1.heap.size + 1 + 1, 2, none⟩) (fun e => by first | omega | (dsimp only at e; omega)) h2c, qC0.cell (p := ⟨w1.heap.size + 1 + 1, 3, none⟩) (fun e => by first | omega | (dsimp only at e; omega)) h3c⟩
      clear eS2 eM2 eL2 eC2
      refine region_hold (fuel := 15) (listed := #[false, false, false, false, false, false, false, false, false, false, false, false, false, false, false]) (fun w' => w'.cell? ⟨w1.heap.size + 1 + 1, 0, none⟩ = some (.slice ua m.n l.cap) ∧ w'.cell? ⟨w1.heap.size + 1 + 1, 1, none⟩ = some (.slice (some ⟨g, o, none⟩) m.n nc) ∧ w'.cell? ⟨w1.heap.size + 1 + 1, 2, none⟩ = some (.slice (some ⟨ob, 0, none⟩) 2 2) ∧ w'.cell? ⟨w1.heap.size + 1 + 1, 3, none⟩ = some (.map (some (w1.heap.size + 1)))) (by kernel_rfl) (by kernel_rfl) (by kernel_rfl) (by kernel_rfl) ?_
      refine hold_take (i := 0) (d := 33) (v := ?vq0) (listed' := #[true, false, false, false, false, false, false, false, false, false, false, false, false, false, false]) rfl (by kernel_rfl) (by kernel_rfl) (by kernel_rfl) rfl (by rfl) (by kernel_rfl) qS0 ?hq0 ?rq0
      case hq0 =>
        intro w' hSw
        obtain ⟨k0, k1, k2, k3⟩ := hSw
        go_simp
        try with_reducible rfl
      simp only [List.setIfInBounds_toArray, List.set_cons_zero, List.set_cons_succ]
      refine hold_take (i := 1) (d := 34) (v := ?vq1) (listed' := #[true, true, false, false, false, false, false, false, false, false, false, false, false, false, false]) rfl (by kernel_rfl) (by kernel_rfl) (by kernel_rfl) rfl (by rfl) (by kernel_rfl) qS0 ?hq1 ?rq1
      case hq1 =>
        intro w' hSw
        obtain ⟨k0, k1, k2, k3⟩ := hSw
        go_simp
        try with_reducible rfl
      simp only [List.setIfInBounds_toArray, List.set_cons_zero, List.set_cons_succ]
      refine hold_take (i := 3) (d := 36) (v := ?vq3) (listed' := #[true, true, false, true, false, false, false, false, false, false, false, false, false, false, false]) rfl (by kernel_rfl) (by kernel_rfl) (by kernel_rfl) rfl (by rfl) (by kernel_rfl) qS0 ?hq3 ?rq3
      case hq3 =>
        intro w' hSw
        obtain ⟨k0, k1, k2, k3⟩ := hSw
        go_simp
        try with_reducible rfl
      simp only [List.setIfInBounds_toArray, List.set_cons_zero, List.set_cons_succ]
      refine hold_take (i := 4) (d := 37) (v := ?vq4) (listed' := #[true, true, false, true, true, false, false, false, false, false, false, false, false, false, false]) rfl (by kernel_rfl) (by kernel_rfl) (by kernel_rfl) rfl (by rfl) (by kernel_rfl) qS0 ?hq4 ?rq4
      case hq4 =>
        intro w' hSw
        obtain ⟨k0, k1, k2, k3⟩ := hSw
        go_simp
        try with_reducible rfl
      simp only [List.setIfInBounds_toArray, List.set_cons_zero, List.set_cons_succ]
      refine hold_take (i := 7) (d := 40) (v := ?vq7) (listed' := #[true, true, false, true, true, false, false, true, false, false, false, false, false, false, false]) rfl (by kernel_rfl) (by kernel_rfl) (by kernel_rfl) rfl (by rfl) (by kernel_rfl) qS0 ?hq7 ?rq7
      case hq7 =>
        intro w' hSw
        obtain ⟨k0, k1, k2, k3⟩ := hSw
        go_simp
        try with_reducible rfl
      simp only [List.setIfInBounds_toArray, List.set_cons_zero, List.set_cons_succ]
      refine hold_take (i := 8) (d := 41) (v := ?vq8) (listed' := #[true, true, false, true, true, false, false, true, true, false, false, false, false, false, false]) rfl (by kernel_rfl) (by kernel_rfl) (by kernel_rfl) rfl (by rfl) (by kernel_rfl) qS0 ?hq8 ?rq8
      case hq8 =>
        intro w' hSw
        obtain ⟨k0, k1, k2, k3⟩ := hSw
        go_simp
        try with_reducible rfl
      simp only [List.setIfInBounds_toArray, List.set_cons_zero, List.set_cons_succ]
      refine hold_take (i := 10) (d := 43) (v := ?vq10) (listed' := #[true, true, false, true, true, false, false, true, true, false, true, false, false, false, false]) rfl (by kernel_rfl) (by kernel_rfl) (by kernel_rfl) rfl (by rfl) (by kernel_rfl) qS0 ?hq10 ?rq10
      case hq10 =>
        intro w' hSw
        obtain ⟨k0, k1, k2, k3⟩ := hSw
        go_simp
        try with_reducible rfl
      simp only [List.setIfInBounds_toArray, List.set_cons_zero, List.set_cons_succ]
      refine hold_take (i := 11) (d := 44) (v := ?vq11) (listed' := #[true, true, false, true, true, false, false, true, true, false, true, true, false, false, false]) rfl (by kernel_rfl) (by kernel_rfl) (by kernel_rfl) rfl (by rfl) (by kernel_rfl) qS0 ?hq11 ?rq11
      case hq11 =>
        intro w' hSw
        obtain ⟨k0, k1, k2, k3⟩ := hSw
        go_simp
        try with_reducible rfl
      simp only [List.setIfInBounds_toArray, List.set_cons_zero, List.set_cons_succ]
      refine hold_call (i := 2) (d := 35) (listed' := #[true, true, true, true, true, false, false, true, true, false, true, true, false, false, false]) rfl (by kernel_rfl) rfl (by rfl) (by kernel_rfl) ?heq2 (high_any (nc := nc) hLb.out (by omega) _ a _ ha (cnt_le m a) qB0 qM0.out) ?hcq2
      case heq2 => go_simp
      rintro e qx1 ⟨rfl, qm1, qb1⟩
      rw [KA.out]
      have qC1 := qC0.trans qb1
      have qD1 := qD0.trans qb1
      have qM1 := Lib.hid qm1
      have qB1 := qB0.trans (qb1.below qB0.size (fun q e => by subst e; omega))
      have qS1 : (fun w' => w'.cell? ⟨w1.heap.size + 1 + 1, 0, none⟩ = some (.slice ua m.n l.cap) ∧ w'.cell? ⟨w1.heap.size + 1 + 1, 1, none⟩ = some (.slice (some ⟨g, o, none⟩) m.n nc) ∧ w'.cell? ⟨w1.heap.size + 1 + 1, 2, none⟩ = some (.slice (some ⟨ob, 0, none⟩) 2 2) ∧ w'.cell? ⟨w1.heap.size + 1 + 1, 3, none⟩ = some (.map (some (w1.heap.size + 1)))) qx1 := ⟨qC1.cell (p := ⟨w1.heap.size + 1 + 1, 0, none⟩) (fun e => by first | omega | (dsimp only at e; omega)) h0c, qC1.cell (p := ⟨w1.heap.size + 1 + 1, 1, none⟩) (fun e => by first | omega | (dsimp only at e; omega)) h1c, qC1.cell (p := ⟨w1.heap.size + 1 + 1, 2, none⟩) (fun e => by first | omega | (dsimp only at e; omega)) h2c, qC1.cell (p := ⟨w1.heap.size + 1 + 1, 3, none⟩) (fun e => by first | omega | (dsimp only at e; omega)) h3c⟩
      clear qS0 qM0 qC0 qB0 qb1 qm1
      refine ⟨_, rfl, qS1, ?_⟩
      simp only [List.setIfInBounds_toArray, List.set_cons_zero, List.set_cons_succ]
      refine hold_call (i := 5) (d := 38) (listed' := #[true, true, true, true, true, true, false, true, true, false, true, true, false, false, false]) rfl (by kernel_rfl) rfl (by rfl) (by kernel_rfl) ?heq5 (high_any (nc := nc) hLb.out (by omega) _ b _ hb (cnt_le m b) qB1 qM1.out) ?hcq5
      case heq5 => go_simp
      rintro e qx2 ⟨rfl, qm2, qb2⟩
      rw [KB.out]
      have qC2 := qC1.trans qb2
      have qD2 := qD1.trans qb2
      have qM2 := Lib.hid qm2
      have qB2 := qB1.trans (qb2.below qB1.size (fun q e => by subst e; omega))
      have qS2 : (fun w' => w'.cell? ⟨w1.heap.size + 1 + 1, 0, none⟩ = some (.slice ua m.n l.cap) ∧ w'.cell? ⟨w1.heap.size + 1 + 1, 1, none⟩ = some (.slice (some ⟨g, o, none⟩) m.n nc) ∧ w'.cell? ⟨w1.heap.size + 1 + 1, 2, none⟩ = some (.slice (some ⟨ob, 0, none⟩) 2 2) ∧ w'.cell? ⟨w1.heap.size + 1 + 1, 3, none⟩ = some (.map (some (w1.heap.size + 1)))) qx2 := ⟨qC2.cell (p := ⟨w1.heap.size + 1 + 1, 0, none⟩) (fun e => by first | omega | (dsimp only at e; omega)) h0c, qC2.cell (p := ⟨w1.heap.size + 1 + 1, 1, none⟩) (fun e => by first | omega | (dsimp only at e; omega)) h1c, qC2.cell (p := ⟨w1.heap.size + 1 + 1, 2, none⟩) (fun e => by first | omega | (dsimp only at e; omega)) h2c, qC2.cell (p := ⟨w1.heap.size + 1 + 1, 3, none⟩) (fun e => by first | omega | (dsimp only at e; omega)) h3c⟩
      clear qS1 qM1 qC1 qB1 qb2 qm2
      refine ⟨_, rfl, qS2, ?_⟩
      simp only [List.setIfInBounds_toArray, List.set_cons_zero, List.set_cons_succ]
      refine hold_take (i := 6) (d := 39) (v := .int .i64 ((ka + kb : Nat) : Int)) (listed' := #[true, true, true, true, true, true, true, true, true, false, true, true, false, false, false]) rfl (by kernel_rfl) (by kernel_rfl) (by kernel_rfl) rfl (by rfl) (by kernel_rfl) qS2 ?hq6 ?rq6
      case hq6 =>
        intro w' hSw
        obtain ⟨k0, k1, k2, k3⟩ := hSw
        go_simp
        simp only [S1.out]
      simp only [List.setIfInBounds_toArray, List.set_cons_zero, List.set_cons_succ]
      refine hold_call (i := 9) (d := 42) (listed' := #[true, true, true, true, true, true, true, true, true, true, true, true, false, false, false]) rfl (by kernel_rfl) rfl (by rfl) (by kernel_rfl) ?heq9 (high_any (nc := nc) hLb.out (by omega) _ (mN m a b) _ hm1 (cnt_le m (mN m a b)) qB2 qM2.out) ?hcq9
      case heq9 => go_simp
      rintro e qx3 ⟨rfl, qm3, qb3⟩
      rw [KM.out]
      have qC3 := qC2.trans qb3
      have qD3 := qD2.trans qb3
      have qM3 := Lib.hid qm3
      have qB3 := qB2.trans (qb3.below qB2.size (fun q e => by subst e; omega))
      have qS3 : (fun w' => w'.cell? ⟨w1.heap.size + 1 + 1, 0, none⟩ = some (.slice ua m.n l.cap) ∧ w'.cell? ⟨w1.heap.size + 1 + 1, 1, none⟩ = some (.slice (some ⟨g, o, none⟩) m.n nc) ∧ w'.cell? ⟨w1.heap.size + 1 + 1, 2, none⟩ = some (.slice (some ⟨ob, 0, none⟩) 2 2) ∧ w'.cell? ⟨w1.heap.size + 1 + 1, 3, none⟩ = some (.map (some (w1.heap.size + 1)))) qx3 := ⟨qC3.cell (p := ⟨w1.heap.size + 1 + 1, 0, none⟩) (fun e => by first | omega | (dsimp only at e; omega)) h0c, qC3.cell (p := ⟨w1.heap.size + 1 + 1, 1, none⟩) (fun e => by first | omega | (dsimp only at e; omega)) h1c, qC3.cell (p := ⟨w1.heap.size + 1 + 1, 2, none⟩) (fun e => by first | omega | (dsimp only at e; omega)) h2c, qC3.cell (p := ⟨w1.heap.size + 1 + 1, 3, none⟩) (fun e => by first | omega | (dsimp only at e; omega)) h3c⟩
      clear qS2 qM2 qC2 qB2 qb3 qm3
      refine ⟨_, rfl, qS3, ?_⟩
      simp only [List.setIfInBounds_toArray, List.set_cons_zero, List.set_cons_succ]
      refine hold_call (i := 12) (d := 45) (listed' := #[true, true, true, true, true, true, true, true, true, true, true, true, true, false, false]) rfl (by kernel_rfl) rfl (by rfl) (by kernel_rfl) ?heq12 (high_any (nc := nc) hLb.out (by omega) _ (jN m a b) _ hj1 (cnt_le m (jN m a b)) qB3 qM3.out) ?hcq12
      case heq12 => go_simp
      rintro e qx4 ⟨rfl, qm4, qb4⟩
      rw [KJ.out]
      have qC4 := qC3.trans qb4
      have qD := qD3.trans qb4
      have qM4 := Lib.hid qm4
      have qB4 := qB3.trans (qb4.below qB3.size (fun q e => by subst e; omega))
      have qS4 : (fun w' => w'.cell? ⟨w1.heap.size + 1 + 1, 0, none⟩ = some (.slice ua m.n l.cap) ∧ w'.cell? ⟨w1.heap.size + 1 + 1, 1, none⟩ = some (.slice (some ⟨g, o, none⟩) m.n nc) ∧ w'.cell? ⟨w1.heap.size + 1 + 1, 2, none⟩ = some (.slice (some ⟨ob, 0, none⟩) 2 2) ∧ w'.cell? ⟨w1.heap.size + 1 + 1, 3, none⟩ = some (.map (some (w1.heap.size + 1)))) qx4 := ⟨qC4.cell (p := ⟨w1.heap.size + 1 + 1, 0, none⟩) (fun e => by first | omega | (dsimp only at e; omega)) h0c, qC4.cell (p := ⟨w1.heap.size + 1 + 1, 1, none⟩) (fun e => by first | omega | (dsimp only at e; omega)) h1c, qC4.cell (p := ⟨w1.heap.size + 1 + 1, 2, none⟩) (fun e => by first | omega | (dsimp only at e; omega)) h2c, qC4.cell (p := ⟨w1.heap.size + 1 + 1, 3, none⟩) (fun e => by first | omega | (dsimp only at e; omega)) h3c⟩
      clear qS3 qM3 qC3 qB3 qb4 qm4
      refine ⟨_, rfl, qS4, ?_⟩
      simp only [List.setIfInBounds_toArray, List.set_cons_zero, List.set_cons_succ]
      refine hold_take (i := 13) (d := 46) (v := .int .i64 ((km + kj : Nat) : Int)) (listed' := #[true, true, true, true, true, true, true, true, true, true, true, true, true, true, false]) rfl (by kernel_rfl) (by kernel_rfl) (by kernel_rfl) rfl (by rfl) (by kernel_rfl) qS4 ?hq13 ?rq13
      case hq13 =>
        intro w' hSw
        obtain ⟨k0, k1, k2, k3⟩ := hSw
        go_simp
        simp only [S2.out]
      simp only [List.setIfInBounds_toArray, List.set_cons_zero, List.set_cons_succ]
      refine hold_take (i := 14) (d := 47) (v := ?vq14) (listed' := #[true, true, true, true, true, true, true, true, true, true, true, true, true, true, true]) rfl (by kernel_rfl) (by kernel_rfl) (by kernel_rfl) rfl (by rfl) (by kernel_rfl) qS4 ?hq14 ?rq14
      case hq14 =>
        intro w' hSw
        obtain ⟨k0, k1, k2, k3⟩ := hSw
        go_simp
        try with_reducible rfl
      simp only [List.setIfInBounds_toArray, List.set_cons_zero, List.set_cons_succ]
      refine hold_done (by kernel_rfl) ?_ _
      have v5 := qC4.cell (p := ⟨w.heap.size + 1, 0, none⟩) (fun e => by first | omega | (dsimp only at e; omega)) v2
      have f5 := (qC4.frozen (p := ⟨w.heap.size + 1, 0, none⟩) (fun e => by first | omega | (dsimp only at e; omega)) v2).trans f2
      clear qS4
      gi_wp2_with fail
      have hB5 := BW.trans (qC4.below BW.size (fun q e => by subst e; omega))
      exact ⟨(keepsFrom_chg qD (by omega)).trans ((KeepsOthers.setCell _ _ _).from _), ⟨rfl, HO.out.adds_any_fails ha hb HE.out⟩, World.cell?_setCell_same' _ _ _ (by rw [v5]; rfl), hB5.setCell (p := ⟨w.heap.size + 1, 0, none⟩) (by show w.heap.size ≤ w.heap.size + 1; omega) _⟩
  case done =>
    rintro D ys W hD hys ⟨hp0, _, hC⟩ hK
    have HO' := Lib.hid (hp0.all hys)
    clear hp0
    have v0 := hC.cell (p := ⟨w.heap.size + 1, 0, none⟩) (fun e => by first | omega | (dsimp only at e; omega)) v2
    have vf := (hC.frozen (p := ⟨w.heap.size + 1, 0, none⟩) (fun e => by first | omega | (dsimp only at e; omega)) v2).trans f2
    have hbW := BW.trans (hC.below BW.size (fun q e => by subst e; omega))
    have hDs : w.heap.size ≤ D := Nat.le_trans BW.size hD
    gi_wp2
    have hK' := (KeepsOthers.setCell W ⟨w.heap.size + 1, 0, none⟩ (.bool true)).same D _ hK rfl
    refine ⟨by simp, .inl ⟨_, _, rfl, run_takeDeferred hK', ?_⟩⟩
    have hc5 := cell_kept (World.cell?_setCell_same' W ⟨w.heap.size + 1, 0, none⟩ (.bool true) (by rw [v0]; rfl)) (grownBy_putObj' _ D (.deferred none)) (fun r e => by cases e; exact ⟨_, hK', rfl⟩)
    refine ⟨.bool true, ?_, ret_bool (HO'.out.symm.trans HV.out.symm), (hbW.setCell (p := ⟨w.heap.size + 1, 0, none⟩) (by show w.heap.size ≤ w.heap.size + 1; omega) _).trans (belowK_b (w := w) (Nat.le_refl _) _ D _ _ hDs hK' rfl rfl)⟩
    simp [results, Try.f34, go_sem, hc5]
  case stop =>
    rintro D c pre W hD _ ⟨⟨rfl, hbad⟩, hcr, hB⟩ hK
    have hDs : w.heap.size ≤ D := Nat.le_trans BW.size hD
    gi_wp2
    refine ⟨by simp, .inl ⟨_, _, rfl, run_takeDeferred hK, ?_⟩⟩
    have hc5 := cell_kept hcr (grownBy_putObj' _ D (.deferred none)) (fun r e => by cases e; exact ⟨_, hK, rfl⟩)
    refine ⟨.bool false, ?_, ret_bool (hbad.symm.trans HV.out.symm), hB.trans (belowK_b (w := w) (Nat.le_refl _) W D _ _ hDs hK rfl rfl)⟩
    simp [results, Try.f34, go_sem, hc5]
end Go.Proofs.Ytanhogaekdcooaa
