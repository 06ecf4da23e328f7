/- The walks of the program's heights: of a map of heights under way; HighOf. -/
import Derived.Test.YtanhogaekdcooaaCe
import Derived.Test.YtanhogaekdcooaaBb
import Derived.Test.YtanhogaekdcooaaDg
import Derived.Maps.OwnOps
import Derived.Maps.OwnSet
import Derived.Maps.OwnIn
import Derived.Maps.Views
namespace Go.Proofs.Ytanhogaekdcooaa
open Go.RowKit Go.Deep Go.WideMaps Go.Maps

theorem keyedI : Keyed Try.prog 3 := int_keyed Try.underlying3
theorem zeroI (w : World) : (zeroValue 3).run Try.prog w = .ok (.int .i64 0) w := by kernel_rfl
abbrev kI (a : Nat) : Lit := .int .i64 (a : Int)
theorem wf_i (a : Nat) (h : a ≤ 100) : (Lit.int .i64 (a : Int)).wf = true := by
  have e := wrap64_wf (a : Int)
  rwa [IntWalk.wrap64_in _ (by omega)] at e
theorem key_i (a : Nat) (h : a ≤ 100) : keyOf Try.prog 3 (.int .i64 (a : Int)) = some (kI a) := keyOf_int_mk Try.underlying3 (wf_i a h)
theorem kI_ne {a b : Nat} (h : a ≠ b) : kI a ≠ kI b := fun e => by
  have e2 : (a : Int) = (b : Int) := by injection e
  omega
theorem kI_key (a : Nat) : WideAt.IsKeyLit (kI a) := by first | exact trivial | exact ⟨trivial, trivial⟩ | (unfold WideAt.IsKeyLit; trivial) | simp [WideAt.IsKeyLit]
def cntH (D : DataW Unit) (n : Nat) : Nat := (List.range n).countP fun a => has D (kI a)
/-- The map of heights under way: what it has is right. -/
structure HM (m : Mx) (bm : Nat) (w : World) : Prop where
  ex : ∃ D : DataW Unit, w.ownsMap Try.prog 3 (plainElem Try.prog 3) bm (size D) D ∧ size D ≤ cntH D m.n ∧ ∀ a, a < m.n → has D (kI a) = true → D.atKey (kI a) (.lit (.int .i64 0)) = .lit (.int .i64 ((highN m a : Nat) : Int))
theorem cntH_le (D : DataW Unit) (n : Nat) : cntH D n ≤ n := by
  have := List.countP_le_length (p := fun a => has D (kI a)) (l := List.range n)
  rw [List.length_range] at this
  exact this
theorem ownsMap_shrink {w : World} {b n : Nat} {D : DataW Unit} (h : w.ownsMap Try.prog 3 (plainElem Try.prog 3) b n D) : w.ownsMap Try.prog 3 (plainElem Try.prog 3) b (size D) D := by
  obtain ⟨es, clock, hb, F, hs, rfl⟩ := h
  exact ⟨es, clock, hb, F, by rw [size_eq, length_read]; exact Nat.le_refl _, rfl⟩
theorem HM.lt {m : Mx} {bm : Nat} {w : World} (h : HM m bm w) : bm < w.heap.size := by
  obtain ⟨D, h1, _⟩ := h.ex
  exact h1.lt
theorem HM.made (m : Mx) (w : World) : HM m w.heap.size (w.alloc (.map #[] 0)) :=
  ⟨.map [], World.ownsMap_made w _ _ _, Nat.zero_le _, fun a _ h => by cases h⟩
theorem HM.kept {m : Mx} {bm : Nat} {w w' : World} {row : Option Nat} (h : HM m bm w) (hg : w.grownBy w' row) (hne : some bm ≠ row) : HM m bm w' := by
  obtain ⟨D, h1, h2⟩ := h.ex
  exact ⟨D, h1.kept hg hne, h2⟩
theorem HM.below {m : Mx} {bm : Nat} {w w' : World} (h : HM m bm w) (hb : Below w.heap.size w w') : HM m bm w' := h.kept (row := none) ⟨hb.os, hb.tape, hb.output, hb.size, fun k hk _ => hb.block k hk⟩ (by simp)
/-- A height is put into the map. -/
theorem HM.put {m : Mx} {bm a : Nat} {w' : World} {D : DataW Unit} (ha : a < m.n) (hT : Tidy D) (h2 : size D ≤ cntH D m.n) (h3 : ∀ a, a < m.n → has D (kI a) = true → D.atKey (kI a) (.lit (.int .i64 0)) = .lit (.int .i64 ((highN m a : Nat) : Int)))
    (hown : w'.ownsMap Try.prog 3 (plainElem Try.prog 3) bm (size D + 1) (D.put (kI a) (.lit (.int .i64 ((highN m a : Nat) : Int))))) : HM m bm w' := by
  have hM := hT.isMap
  refine ⟨_, ownsMap_shrink hown, ?_, fun b hb hh => ?_⟩
  · rw [size_put hT]
    cases hk : has D (kI a) with
    | true =>
      refine Nat.le_trans h2 (List.countP_mono_left fun b _ hb => ?_)
      by_cases e : b = a
      · subst e; exact has_put_same hM (kI_key _) _
      · rw [has_put_other (kI_ne e)]; exact hb
    | false =>
      have := countP_lt (p := fun b => has D (kI b)) (q := fun b => has (D.put (kI a) (.lit (.int .i64 ((highN m a : Nat) : Int)))) (kI b)) (List.mem_range.2 ha) (fun b _ hb => by
        by_cases e : b = a
        · subst e; exact has_put_same hM (kI_key _) _
        · rw [has_put_other (kI_ne e)]; exact hb) hk (has_put_same hM (kI_key _) _)
      exact Nat.lt_of_le_of_lt h2 this
  · by_cases e : b = a
    · subst e; exact atKey_put_same hM (kI_key _) _ _
    · rw [atKey_put_other (kI_ne e)]
      exact h3 b hb (by rw [has_put_other (kI_ne e)] at hh; exact hh)
theorem Chg.cell {S : Nat → Prop} {w w' : World} {p : Addr} {v : Value} (h : Chg S w w') (hs : ¬ S p.block) (hc : w.cell? p = some v) : w'.cell? p = some v :=
  (World.cell?_of_block (h.block _ (World.block_lt_of_cell? _ _ hc) hs)).trans hc
theorem Chg.frozen {S : Nat → Prop} {w w' : World} {p : Addr} {v : Value} (h : Chg S w w') (hs : ¬ S p.block) (hc : w.cell? p = some v) : w'.frozen? p = w.frozen? p :=
  World.frozen?_of_block (h.block _ (World.block_lt_of_cell? _ _ hc) hs)
theorem Chg.of_less {S : Nat → Prop} {w w' : World} (h : Below w.heap.size w w') : Chg S w w' := Chg.of_below h fun j hj hB => absurd hB (by omega)

set_option maxRecDepth 100000 in
set_option maxHeartbeats 4000000 in
theorem high_any {w0 : World} {B ob tb g o nc n0 bm : Nat} {tG : Nat → Nat} {ua : Option Addr} {l : Lay} {m : Mx} {z : Nat → Int} {y : Nat → Nat} (h : AL w0 B ob tb tG ua l m g o z y n0) (hbm : w0.heap.size ≤ bm) :
    ∀ (s a : Nat) (w : World), a < m.n → cntP m a ≤ s → Below w0.heap.size w0 w → HM m bm w →
    Calls Try.prog 59 #[.agg #[.slice ua m.n l.cap, .slice (some ⟨g, o, none⟩) m.n nc, .slice (some ⟨ob, 0, none⟩) 2 2, .map (some bm)], .int .i64 a] w fun e w' => e = .returned (.int .i64 ((highN m a : Nat) : Int)) ∧ HM m bm w' ∧ Chg (fun j => j = bm) w w' := by
  have ho := h.O.lat.order
  have hn := ho.top
  have HO := Lib.hid ho
  have HAL := Lib.hid h
  clear h ho
  intro s
  induction s with
  | zero => intro a w ha hc _ _; have := cnt_pos HO.out ha; omega
  | succ s ih =>
    intro a w ha hc hB hM
    have hHi := Lib.hid (high_eq HO.out ha)
    have hX := BoxN.start w #[.slice ua m.n l.cap, .slice (some ⟨g, o, none⟩) m.n nc, .slice (some ⟨ob, 0, none⟩) 2 2, .map (some bm)] 76
    have q0 := hX.cell 0 rfl
    have q1 := hX.cell 1 rfl
    have q2 := hX.cell 2 rfl
    have q3 := hX.cell 3 rfl
    have hbl := hM.lt
    have hM1 := hM.below hX.below
    have hB1 := hB.trans (hX.below.mono hB.size)
    have hC1 : Chg (fun j => j = bm) w (w.alloc (.cells #[.slice ua m.n l.cap, .slice (some ⟨g, o, none⟩) m.n nc, .slice (some ⟨ob, 0, none⟩) 2 2, .map (some bm)] 76)) := Chg.alloc _ _ _
    have hkey := key_i a (by omega)
    obtain ⟨D, hown, hsz, hat⟩ := hM1.ex
    have HSZ := Lib.hid hsz
    have HAT := Lib.hid hat
    have hD := Lib.hid (hown.tidy keyedI)
    have IH := Lib.hid ih
    clear hX hM hsz hat ih hB
    cases hk : has D (kI a) with
    | true =>
      have hv := HAT.out a ha hk
      have HV := Lib.hid hv
      have HK := Lib.hid hk
      clear hv hk
      go_enter Try.func59, Try.ntmps59
      go_wp2_with (at_lookup; refine wpList_lookup_own_ok_int _ rfl _ _ 74 rfl 3 3 .i64 keyedI Try.underlying74 Try.underlying3 (zeroI _) bm _ D rfl hown _ (kI a) rfl hkey ?_)
      intro c hc1 hwc
      rw [HV.out] at hc1
      obtain rfl : c = ((highN m a : Nat) : Int) := by injection hc1 with e1; injection e1 with e2 e3; exact e3.symm
      rw [HK.out]
      clear hc1 hwc q0 q1 q2 q3 hown
      go_wp2_with fail
      go_ret
      exact ⟨rfl, hM1, hC1⟩
    | false =>
      have HK := Lib.hid hk
      clear hk
      go_enter Try.func59, Try.ntmps59
      go_wp2_with (at_lookup; refine wpList_lookup_own_ok_int _ rfl _ _ 74 rfl 3 3 .i64 keyedI Try.underlying74 Try.underlying3 (zeroI _) bm _ D rfl hown _ (kI a) rfl hkey ?_)
      intro c hc1 hwc
      rw [HK.out]
      clear hc1 hwc hown hD HSZ HAT HK D
      generalize hW : w.alloc (.cells #[.slice ua m.n l.cap, .slice (some ⟨g, o, none⟩) m.n nc, .slice (some ⟨ob, 0, none⟩) 2 2, .map (some bm)] 76) = W at q0 q1 q2 q3 hM1 hB1 hC1 ⊢
      have hsW : w.heap.size + 1 ≤ W.heap.size := by rw [← hW]; simp
      clear hW
      go_wp2_with fail
      go_loopw [7, 22] (fun v i wr => ∃ j : Nat, j ≤ m.n ∧ i = .int .i64 j ∧ v = .int .i64 ((maxTo (fun k => if (k != a && leB m k a) = true then highN m k + 1 else 0) j : Nat) : Int) ∧ Hid (HM m bm wr) ∧ Chg (fun j => j = bm) W wr) (fun _ i _ => m.n - (intOf i).toNat)
      case atStart => exact ⟨0, Nat.zero_le _, rfl, rfl, hM1, Chg.refl _ _⟩
      case round =>
        obtain ⟨j, hj, rfl, rfl, hMr, hC⟩ := hrel
        have hne : ¬ w.heap.size = bm := by omega
        have r0 := hC.cell (p := ⟨w.heap.size, 0, none⟩) hne q0
        have r1 := hC.cell (p := ⟨w.heap.size, 1, none⟩) hne q1
        have r2 := hC.cell (p := ⟨w.heap.size, 2, none⟩) hne q2
        have r3 := hC.cell (p := ⟨w.heap.size, 3, none⟩) hne q3
        have hBr : Below w0.heap.size w0 wr := hB1.trans (hC.below hB1.size (fun k e => by subst e; exact hbm))
        obtain ⟨M, hMd⟩ : ∃ M, M = maxTo (fun k => if (k != a && leB m k a) = true then highN m k + 1 else 0) j := ⟨_, rfl⟩
        have HM1 : Hid (maxTo (fun k => if (k != a && leB m k a) = true then highN m k + 1 else 0) (j + 1) = max M (if (j != a && leB m j a) = true then highN m j + 1 else 0)) := by show max _ _ = _; rw [hMd]
        rw [← hMd]
        by_cases hlt : j < m.n
        · have hlt' : (j : Int) < m.n := by omega
          clear hMd
          by_cases hja : j = a
          · subst hja
            have E : Hid (M = maxTo (fun k => if (k != j && leB m k j) = true then highN m k + 1 else 0) (j + 1)) := by show _ = _; rw [HM1.out]; simp
            have n1 : ((j : Int) != (j : Int)) = false := by simp
            go_wp2_with fail
            go_roundw
            case rel => exact ⟨j + 1, by omega, by go_num, by rw [← E.out], hMr, hC⟩
            case measure => simp [intOf]; omega
          · have n1 : ((j : Int) != (a : Int)) = true := by rw [bne_iff_ne]; omega
            have hLr := Lib.hid (HAL.out.step hBr)
            go_wp2_with fail
            go_at_call 51
            refine (below_sq hLr.out.S hlt ha).mono ?_
            rintro e w3 ⟨rfl, b3⟩
            have hM3 := hMr.out.below b3
            have hC3 := hC.trans (Chg.of_less b3)
            have hB3 := hBr.trans (b3.mono hBr.size)
            have s0 := hC3.cell (p := ⟨w.heap.size, 0, none⟩) hne q0
            have s1 := hC3.cell (p := ⟨w.heap.size, 1, none⟩) hne q1
            have s2 := hC3.cell (p := ⟨w.heap.size, 2, none⟩) hne q2
            have s3 := hC3.cell (p := ⟨w.heap.size, 3, none⟩) hne q3
            clear r0 r1 r2 r3 hLr hBr b3 hMr hC
            cases hle : leB m j a with
            | true =>
              have hcj := cnt_lt HO.out hlt ha (leB_is hle) hja
              have E0 : (j != a && leB m j a) = true := by rw [hle]; simpa using hja
              have E := Lib.hid (HM1.out.trans (by rw [if_pos E0]))
              have hhj := Nat.le_trans (high_le m j) hn
              clear E0 HM1 hle
              go_wp2_with fail
              go_at_call 59
              refine (IH.out j _ hlt (by omega) hB3 hM3).mono ?_
              rintro e w4 ⟨rfl, hM4, hC4⟩
              have hMx := Lib.hid hM4
              have hC5 := hC3.trans hC4
              obtain ⟨H, hH⟩ : ∃ H, H = highN m j := ⟨_, rfl⟩
              rw [← hH] at hhj E ⊢
              clear hH s0 s1 s2 s3 hM4 hC4 hC3 hM3 hB3
              by_cases hmx : M < H + 1
              · have hmx' : (M : Int) < (H : Int) + 1 := by omega
                go_wp2_with fail
                go_roundw
                case rel => exact ⟨j + 1, by omega, by go_num, by rw [E.out, Nat.max_eq_right (by omega)]; rfl, hMx, hC5⟩
                case measure => simp [intOf]; omega
              · have hmx' : ¬ (M : Int) < (H : Int) + 1 := by omega
                go_wp2_with fail
                go_roundw
                case rel => exact ⟨j + 1, by omega, by go_num, by rw [E.out, Nat.max_eq_left (by omega)], hMx, hC5⟩
                case measure => simp [intOf]; omega
            | false =>
              have E : Hid (maxTo (fun k => if (k != a && leB m k a) = true then highN m k + 1 else 0) (j + 1) = M) := by show _ = _; rw [HM1.out, hle]; simp
              have hMx := Lib.hid hM3
              clear HM1 hle s0 s1 s2 s3 hM3
              go_wp2_with fail
              go_roundw
              case rel => exact ⟨j + 1, by omega, by go_num, by rw [E.out], hMx, hC3⟩
              case measure => simp [intOf]; omega
        · have hlt' : ¬ (j : Int) < m.n := by omega
          have E : Hid (M = highN m a) := by show _ = _; rw [hHi.out, hMd]; congr 1; omega
          clear hMd HM1
          obtain ⟨D, hown, hsz, hat⟩ := hMr.out.ex
          have hcl := cntH_le D m.n
          have hl12 : size D < maxLen := by unfold maxLen; omega
          have hvM : plainElem (H := Unit) Try.prog 3 (.int .i64 (M : Int)) = some (.lit (.int .i64 (M : Int)), []) := plainElem_int Try.underlying3 (wf_i M (by have := E.out; have := high_le m a; omega))
          have HSZ := Lib.hid hsz
          have HAT := Lib.hid hat
          have HT := Lib.hid (hown.tidy keyedI)
          clear hsz hat hcl
          go_wp2_with (at_mapUpdate; refine wpList_mapUpdate_own _ rfl _ _ _ 74 rfl 3 3 keyedI Try.underlying74 _ bm _ D rfl hown hl12 _ _ (kI a) rfl rfl hkey _ [] hvM ?_)
          intro w5 hown5 hg5
          rw [E.out] at hown5
          have hM5 := HM.put ha HT.out HSZ.out HAT.out hown5
          have hC5 := (hC1.trans hC).trans (Chg.of_grown hg5 (fun k e => by cases e; rfl))
          clear hown5 hg5 hown
          go_wp2_with fail
          go_ret
          exact ⟨ret_int (by rw [E.out]), hM5, hC5⟩

set_option maxRecDepth 100000 in
set_option maxHeartbeats 4000000 in
theorem HighOf_any {w : World} {B : Nat} {ua : Option Addr} {l : Lay} {m : Mx} {na : Option Addr} {g o k nc : Nat} {z : Nat → Int} {x : Int} (h : LogAt w B ua l m na g o k z) :
    Calls Try.prog 27 #[.agg #[.slice ua m.n l.cap, .slice na k nc], .int .i64 x] w fun e w' => e = .returned (.int .i64 (highV m k z x)) ∧ Below w.heap.size w w' := by
  have hX := BoxN.start w #[.slice ua m.n l.cap, .slice na k nc] 26
  have q0 := hX.cell 0 rfl
  have q1 := hX.cell 1 rfl
  have hrow := lone_at (w.alloc (.cells #[.slice ua m.n l.cap, .slice na k nc] 26)) x
  rw [World.size_alloc] at hrow
  have b2 := (Below.refl (w.heap.size + 1) (w.alloc (.cells #[.slice ua m.n l.cap, .slice na k nc] 26))).alloc (by simp) (.cells #[.int .i64 x] 3)
  have hX2 := hX.step (b2.mono (by simp))
  have bw := hX2.below
  have hsz : ((w.alloc (.cells #[.slice ua m.n l.cap, .slice na k nc] 26)).alloc (.cells #[.int .i64 x] 3)).heap.size ≥ w.heap.size + 1 + 1 := by simp
  have h2 := Lib.hid (h.step bw)
  go_enter Try.func27, Try.ntmps27
  generalize hW : (w.alloc (.cells #[.slice ua m.n l.cap, .slice na k nc] 26)).alloc (.cells #[.int .i64 x] 3) = W at hrow hX2 bw hsz h2
  have hrow2 : Hid (RowAt W W.heap.size (some ⟨w.heap.size + 1, 0, none⟩) (w.heap.size + 1) 0 1 (lone1 x)) := ⟨fun c hc => by obtain ⟨a1, a2, a3⟩ := hrow.row c hc; exact ⟨a1, by omega, a3⟩⟩
  clear hX b2 h hrow
  go_wp2_with fail
  go_at_call 42
  refine (algebraWith_any h2.out hrow2.out (by omega)).mono ?_
  rintro e w1 ⟨b1, (⟨hg, ob, tb, tG, rfl, hA⟩ | ⟨hg, rfl⟩)⟩
  · clear hW q0 q1 hrow2
    have B1 := bw.trans (b1.mono bw.size)
    have h3 := h2.out.step b1
    clear h2 hX2 bw hsz
    obtain ⟨a, n0, rfl, ha, rfl, hl, hle, hO⟩ := one_parts hg
    obtain ⟨y, hy⟩ : ∃ y : Nat → Nat, y = fun c => (z c).toNat := ⟨_, rfl⟩
    rw [← hy] at hO
    obtain ⟨rfl, hL1⟩ := AL.of hA h3 hO
    have HV : Hid (((highN m a : Nat) : Int) = highV m m.n z (a : Int)) := by
      show _ = _
      unfold highV
      rw [if_pos hg]; rfl
    clear hl hle
    clear hg hy hA h3 hO
    have hY := BoxN.start w1 #[.slice ua m.n l.cap, .slice (some ⟨g, o, none⟩) m.n nc, .slice (some ⟨ob, 0, none⟩) 2 2] 56
    have BY := B1.trans (hY.below.mono B1.size)
    have hL := Lib.hid (hL1.step hY.below)
    clear hL1
    have r0 := hY.cell 0 rfl
    have r1 := hY.cell 1 rfl
    have r2 := hY.cell 2 rfl
    unfold algV
    have hord := Lib.hid hL.out.O.lat.order
    have hcn := cnt_le m a
    have hmm := @run_makeMap Try.prog
    have e1 : (w1.alloc (.cells #[.slice ua m.n l.cap, .slice (some ⟨g, o, none⟩) m.n nc, .slice (some ⟨ob, 0, none⟩) 2 2] 56)).heap.size = w1.heap.size + 1 := World.size_alloc _ _
    have hM := HM.made m (w1.alloc (.cells #[.slice ua m.n l.cap, .slice (some ⟨g, o, none⟩) m.n nc, .slice (some ⟨ob, 0, none⟩) 2 2] 56))
    have hbA := (Below.refl (w1.alloc (.cells #[.slice ua m.n l.cap, .slice (some ⟨g, o, none⟩) m.n nc, .slice (some ⟨ob, 0, none⟩) 2 2] 56)).heap.size (w1.alloc (.cells #[.slice ua m.n l.cap, .slice (some ⟨g, o, none⟩) m.n nc, .slice (some ⟨ob, 0, none⟩) 2 2] 56))).alloc (Nat.le_refl _) (.map #[] 0)
    have HHi := Lib.hid (high_any (nc := nc) (bm := w1.heap.size + 1) hL.out (by rw [e1]; exact Nat.le_refl _) _ a _ ha hcn hbA (by rw [e1] at hM; exact hM))
    have HBB := Lib.hid hbA
    clear hM hbA hcn
    go_wp2_with fail
    go_at_call 59
    refine HHi.out.mono ?_
    rintro e w3 ⟨rfl, _, hC⟩
    have B3 := BY.trans (HBB.out.mono BY.size)
    have B4 := B3.trans (hC.below B3.size (fun k e => by subst e; have := B1.size; omega))
    clear r0 r1 r2 hY
    go_wp2_with fail
    go_ret
    exact ⟨ret_int HV.out, B4⟩
  · have HV : Hid ((-1 : Int) = highV m k z x) := by show _ = _; unfold highV; rw [if_neg (by rw [hg]; decide)]
    clear hW q0 q1 hrow2 hg
    have B1 := bw.trans (b1.mono bw.size)
    have B2 := B1.alloc B1.size (.cells #[.slice none 0 0, .slice none 0 0, .slice none 0 0] 56)
    unfold noAlg
    go_wp2_with fail
    go_ret
    exact ⟨ret_int HV.out, B2⟩

end Go.Proofs.Ytanhogaekdcooaa
