/- The walks of the program's partWith, SubOk, MadeBy. -/
import Derived.Test.YthdokmcllppobaaDoorZYf
namespace Go.Proofs.YthdokmcllppobaaDoor
open Go.RowKit Go.Deep

theorem Alg.apart {w w' : World} {ob tb p : Nat} {tG : Nat → Nat} {sa : Option Addr} {l : Lay} {m : Mx} {u v : Value} (h : Alg w ob tb tG sa l m) (hp : ThreeAt w p (.slice none 0 0) u v) (hn : 1 ≤ m.n) (ho : OnlyIn (fun q => q = p) w w') : Alg w' ob tb tG sa l m := by
  have h0 : ob ≠ p := fun e => by
    have := h.op0
    rw [e, hp.c0] at this
    cases this
  have h1 : tb ≠ p := fun e => by
    have := h.own.top.cell (show 0 < (tr m).n from hn)
    rw [e, hp.c0] at this
    cases this
  have h2 : ∀ r, r < (tr m).n → tG r ≠ p := fun r hr e => by
    have := (h.own.row r hr).cell (show 0 < (tr m).L r from hn)
    rw [e, hp.c0] at this
    cases this
  exact ⟨h.own.only ho h1 h2, by have := h.lt; have := ho.size; omega, (World.cell?_of_block (w := w) (ho.block ob h0)).trans h.op0, (World.cell?_of_block (w := w) (ho.block ob h0)).trans h.op1⟩

set_option maxRecDepth 100000 in
set_option maxHeartbeats 2000000 in
theorem MadeBy_in {w : World} {B g o nc o' : Nat} {ua : Option Addr} {l : Lay} {m : Mx} {z : Nat → Int} {y : Nat → Nat} {x : Int} (h : LogAt w B ua l m (some ⟨g, o, none⟩) g o m.n z) (hO : Ortho m z y o') (hT : TabOk w) :
    Calls Tryd.prog 17 #[.agg #[.slice ua m.n l.cap, .slice (some ⟨g, o, none⟩) m.n nc], .int .i64 x] w fun e w' => e = .returned (.int .i64 (madeV m m.n z x)) ∧ Below w.heap.size w w' := by
  have hX := BoxN.start w #[.slice ua m.n l.cap, .slice (some ⟨g, o, none⟩) m.n nc] 26
  have q0 := hX.cell 0 rfl
  have q1 := hX.cell 1 rfl
  have bw := hX.below
  have h2 := Lib.hid (h.step bw)
  have HT := Lib.hid (hT.step bw hT.size)
  have hn := hO.lat.order.top
  have HO := Lib.hid hO
  have HL : Hid (logicB m m.n z = true) := logicB_true hO.logic
  clear h hT hO
  go_enter Tryd.func17, Tryd.ntmps17
  have hrow2 : Hid (RowAt (w.alloc (.cells #[.slice ua m.n l.cap, .slice (some ⟨g, o, none⟩) m.n nc] 26)) (w.alloc (.cells #[.slice ua m.n l.cap, .slice (some ⟨g, o, none⟩) m.n nc] 26)).heap.size none 0 0 0 (fun _ => 0)) := ⟨fun c hc => absurd hc (Nat.not_lt_zero _)⟩
  generalize hW : w.alloc (.cells #[.slice ua m.n l.cap, .slice (some ⟨g, o, none⟩) m.n nc] 26) = W at bw h2 hrow2 q0 q1 HT
  go_wp2_with fail
  go_at_call 39
  refine (algebraWith_any h2.out hrow2.out (by omega)).mono ?_
  rintro e w1 ⟨b1, (⟨hg, ob, tb, tG, rfl, hA⟩ | ⟨hg, rfl⟩)⟩
  case inr =>
    exfalso
    rw [HL.out, good_nil] at hg
    cases hg
  have B1 := bw.trans (b1.mono bw.size)
  have hY := BoxN.start w1 #[.slice ua m.n l.cap, .slice (some ⟨g, o, none⟩) m.n nc, .slice (some ⟨ob, 0, none⟩) 2 2] 48
  have hYb := hY.below
  have BY := B1.trans (hYb.mono B1.size)
  have h3 := (h2.out.step b1).step hYb
  have HA := Lib.hid (hA.step hYb)
  have HS := Lib.hid (h3.sq HO.out.lat.order)
  have HR := Lib.hid h3.row
  have hB := h3.hB
  have HT3 := Lib.hid ((HT.out.step b1 HT.out.size).step hYb (by have := HT.out.size; have := b1.size; omega))
  have ys : (w1.alloc (.cells #[.slice ua m.n l.cap, .slice (some ⟨g, o, none⟩) m.n nc, .slice (some ⟨ob, 0, none⟩) 2 2] 48)).heap.size = w1.heap.size + 1 := World.size_alloc _ _
  clear hW q0 q1 hrow2 hg hA h3 hYb h2 HT
  unfold algV
  have r0 := hY.cell 0 rfl
  have r1 := hY.cell 1 rfl
  have r2 := hY.cell 2 rfl
  go_wp2_with fail
  generalize w1.alloc (.cells #[.slice ua m.n l.cap, .slice (some ⟨g, o, none⟩) m.n nc, .slice (some ⟨ob, 0, none⟩) 2 2] 48) = W1 at hY BY HA HS HR hB HT3 ys r0 r1 r2 ⊢
  go_at_call 40
  have hcs := setOk_any (w := W1) (ob := ob) (nc := nc) (g := g) (o := o) (sa := ua) (l := l) (m := m) (k := m.n) (x := x) hn
  unfold algV at hcs
  refine hcs.mono ?_
  rintro e w2 ⟨rfl, b2⟩
  have hY2 := hY.step b2
  have B2 := BY.trans (b2.mono BY.size)
  clear r0 r1 r2 hcs
  cases hi : inB m.n x with
  | false =>
    have HV : Hid ((-1 : Int) = madeV m m.n z x) := (madeV_no (by rw [hi, Bool.and_false])).symm
    clear hi
    go_wp2_with fail
    go_ret
    exact ⟨ret_int HV.out, B2⟩
  | true =>
    obtain ⟨i1, i2⟩ : 1 ≤ x ∧ x < (2 ^ m.n : Nat) := of_decide_eq_true hi
    obtain ⟨s, rfl⟩ := Int.eq_ofNat_of_zero_le (show 0 ≤ x by omega)
    have H1s : Hid (1 ≤ s) := by show 1 ≤ s; omega
    have H2s : Hid (s < 2 ^ m.n) := by show s < 2 ^ m.n; omega
    have hp := pow_le_12 hn
    have hs4 : s < 4096 := Nat.lt_of_lt_of_le H2s.out hp
    have s2 : W1.heap.size ≤ w2.heap.size := b2.size
    have HA2 := Lib.hid (HA.out.step b2)
    have HS2 := Lib.hid (HS.out.step b2)
    have HR2 := Lib.hid (HR.out.below (b2.mono hB))
    have HT2 := Lib.hid (HT3.out.step b2 HT3.out.size)
    have hB2 : B ≤ w2.heap.size := by omega
    clear hi i1 i2 hp HA HS HR HT3
    go_wp2_with fail
    go_loopw [1] (fun i wr => ∃ t : Nat, 1 ≤ t ∧ t < 4096 ∧ i = .int .i64 t ∧ Below w2.heap.size w2 wr ∧ Hid (Under m y s t)) (fun i _ => 4096 - (intOf i).toNat)
    case atStart => exact ⟨s, H1s.out, hs4, rfl, Below.refl _ _, Under.start H2s.out⟩
    case round =>
      obtain ⟨t, ht1, ht2, rfl, hD, hU⟩ := hrel
      have hYr := hY2.step hD
      have r0 := hYr.cell 0 rfl
      have r1 := hYr.cell 1 rfl
      have r2 := hYr.cell 2 rfl
      go_wp2_with fail
      go_at_call 41
      have hcg := grown_any (nc := nc) (HA2.out.step hD) (HS2.out.step hD) (HR2.out.below (hD.mono hB2)) (HT2.out.step hD HT2.out.size) HO.out ht1 hU.out.lt
      unfold algV at hcg
      refine hcg.mono ?_
      rintro e w3 ⟨t1, rfl, hG, b3⟩
      have hD3 := hD.trans (b3.mono hD.size)
      have hYr3 := hYr.step b3
      have hs := hG.same
      clear r0 r1 r2 hcg hYr hG hD
      cases hc : closedB m y t with
      | true =>
        rw [hc] at hs
        obtain rfl : t1 = t := of_decide_eq_true hs
        have HV : Hid ((t1 : Int) = madeV m m.n z (s : Int)) := (madeV_is HO.out H1s.out H2s.out (hU.out.made (closedB_is hc))).symm
        have n1 : ((t1 : Int) != (t1 : Int)) = false := by simp
        have BF := B2.trans (hD3.mono B2.size)
        clear hs hc
        go_wp2_with fail
        go_ret
        exact ⟨ret_int HV.out, BF⟩
      | false =>
        rw [hc] at hs
        have hne : t1 ≠ t := of_decide_eq_false hs
        have n1 : ((t1 : Int) != (t : Int)) = true := by simp; omega
        have HC := Lib.hid hc
        have r0 := hYr3.cell 0 rfl
        have r1 := hYr3.cell 1 rfl
        have r2 := hYr3.cell 2 rfl
        clear hs hc hne
        go_wp2_with fail
        go_at_call 41
        have hcg := grown_any (nc := nc) (HA2.out.step hD3) (HS2.out.step hD3) (HR2.out.below (hD3.mono hB2)) (HT2.out.step hD3 HT2.out.size) HO.out ht1 hU.out.lt
        unfold algV at hcg
        refine hcg.mono ?_
        rintro e w4 ⟨t2, rfl, hG, b4⟩
        have hD4 := hD3.trans (b4.mono hD3.size)
        have hgr := hG.grows HC.out
        have HU2 : Hid (Under m y s t2) := hU.out.then hG.under
        have h4 : t2 < 4096 := Nat.lt_of_lt_of_le hG.under.lt (pow_le_12 hn)
        clear r0 r1 r2 hcg hYr3 hG hD3
        go_wp2_with fail
        go_roundw
        case rel => exact ⟨t2, by omega, h4, rfl, hD4, HU2⟩
        case measure => simp [intOf]; omega

set_option maxRecDepth 100000 in
set_option maxHeartbeats 1000000 in
theorem MadeBy_any {w : World} {B : Nat} {ua : Option Addr} {l : Lay} {m : Mx} {na : Option Addr} {g o k nc : Nat} {z : Nat → Int} {x : Int} (h : LogAt w B ua l m na g o k z) (hT : TabOk w) :
    Calls Tryd.prog 17 #[.agg #[.slice ua m.n l.cap, .slice na k nc], .int .i64 x] w fun e w' => e = .returned (.int .i64 (madeV m k z x)) ∧ Below w.heap.size w w' := by
  cases hl : logicB m k z with
  | true =>
    obtain ⟨y, o', hO⟩ := (logicB_is hl).ortho
    have hkn : k = m.n := (logicB_is hl).pair.len
    subst hkn
    obtain ⟨rfl, _, _⟩ := h.row.row 0 hO.lat.order.pos
    exact MadeBy_in h hO hT
  | false =>
    have HV : Hid ((-1 : Int) = madeV m k z x) := (madeV_no (by rw [hl]; rfl)).symm
    have hX := BoxN.start w #[.slice ua m.n l.cap, .slice na k nc] 26
    have q0 := hX.cell 0 rfl
    have q1 := hX.cell 1 rfl
    have bw := hX.below
    have h2 := Lib.hid (h.step bw)
    have HL := Lib.hid hl
    clear h hT hl hX
    go_enter Tryd.func17, Tryd.ntmps17
    have hrow2 : Hid (RowAt (w.alloc (.cells #[.slice ua m.n l.cap, .slice na k nc] 26)) (w.alloc (.cells #[.slice ua m.n l.cap, .slice na k nc] 26)).heap.size none 0 0 0 (fun _ => 0)) := ⟨fun c hc => absurd hc (Nat.not_lt_zero _)⟩
    generalize hW : w.alloc (.cells #[.slice ua m.n l.cap, .slice na k nc] 26) = W at bw h2 hrow2 q0 q1
    go_wp2_with fail
    go_at_call 39
    refine (algebraWith_any h2.out hrow2.out (by omega)).mono ?_
    rintro e w1 ⟨b1, (⟨hg, ob, tb, tG, rfl, hA⟩ | ⟨hg, rfl⟩)⟩
    · exfalso
      rw [HL.out] at hg
      cases hg
    · have B1 := (bw.trans (b1.mono bw.size)).alloc (by have := bw.size; have := b1.size; omega) (.cells #[.slice none 0 0, .slice none 0 0, .slice none 0 0] 48)
      clear hW q0 q1 hrow2 hg
      unfold noAlg
      go_wp2_with fail
      go_ret
      exact ⟨ret_int HV.out, B1⟩
end Go.Proofs.YthdokmcllppobaaDoor
