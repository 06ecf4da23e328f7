/- The law on TurnedOf against the reference, walked at whatever rows. -/
import Derived.Test.YtmgcgkfjmkgfeaaLc
import Derived.Test.YtmgcgkfjmkgfeaaWz
namespace Go.Proofs.Ytmgcgkfjmkgfeaa
open Go.RowKit Go.Deep

theorem mat_only {S : Nat → Prop} {w w' : World} {B B' : Nat} {a : Option Addr} {l : Lay} {m : Mx} (h : MatAt w B a l m) (k : OnlyIn S w w') (hS : ∀ j, S j → B ≤ j) (hB : B ≤ B') : MatAt w' B' a l m :=
  (h.below (k.below hS)).more hB

set_option maxRecDepth 100000 in
set_option maxHeartbeats 1000000 in
theorem law_ExactTurnedOf_no {a : Option Addr} {l : Lay} {m : Mx} {w : World} (h : ArgAt w a l m) (ho : orderB m = false) :
    Calls Try.prog 15 #[.slice a m.n l.cap] w fun e w' => e = .returned (.bool true) ∧ Below w.heap.size w w' := by
  have HO := Lib.hid ho
  skip
  clear ho
  go_enter Try.func15, Try.ntmps15
  go_wp2_with fail
  go_at_call 42
  refine (szIntSS_any _ _ _ _ _ h.hn h.hL h.mat).mono ?_
  rintro e w' ⟨⟨v, rfl, hv⟩, rfl⟩
  by_cases hneg : v < 0
  · go_wp2_with fail
    go_ret
    exact ⟨rfl, Below.refl _ _⟩
  · obtain ⟨hn, hL, hv0, hv1⟩ : m.n ≤ 1048576 ∧ (∀ r, r < m.n → m.L r ≤ 1048576) ∧ 0 ≤ v ∧ v ≤ 1048576 := hv.resolve_left hneg
    clear hv
    have HL := Lib.hid hL
    clear hL
    go_wp2_with fail
    go_at_call 43
    refine (toIntSS_any _ _ _ _ _ hn HL.out h.mat (Nat.le_refl _)).mono ?_
    rintro e w1 ⟨rfl, hO1⟩
    have k1 := h.step hO1.old
    have x1 := hO1.arg h.hn h.hL
    have b1 := hO1.old
    clear hO1
    go_wp2_with fail
    go_at_call 36
    refine (spec_TurnedOf_no (l := freshLay w.heap.size m) h.hn h.hL x1.mat (Nat.le_refl _) HO.out).mono ?_
    rintro e w2 ⟨rfl, b2⟩
    have k2 := k1.step b2
    have B2 := b1.trans (b2.mono b1.size)
    go_wp2_with fail
    go_at_call 43
    refine (toIntSS_any _ _ _ _ _ hn HL.out k2.mat (Nat.le_refl _)).mono ?_
    rintro e w3 ⟨rfl, hO3⟩
    have k3 := k2.step hO3.old
    have x3 := hO3.arg h.hn h.hL
    have o3 := hO3.own
    have s3 := hO3.size
    have q3 := hO3.old
    have B3 := B2.trans (q3.mono B2.size)
    clear hO3
    go_wp2_with fail
    go_at_call 20
    refine (TurnedOf_no (l := freshLay w2.heap.size m) h.hn h.hL x3.mat (Nat.le_refl _) HO.out).mono ?_
    rintro e w4 ⟨rfl, b4⟩
    have k4 := k3.step b4
    have x4 := x3.step b4
    have o4 := o3.below b4 (by omega) (fun r hr => by omega)
    have B4 := B3.trans (b4.mono B3.size)
    go_wp2_with fail
    go_at_call 44
    refine eq_none.mono ?_
    rintro e w5 ⟨rfl, d5⟩
    have k5 := k4.step (d5.below _)
    have x5 := x4.step (d5.below _)
    have o5 := d5.own o4
    have B5 := B4.trans (d5.below _)
    have s4 := b4.size
    have s5 := (d5.below 0).size
    have s1 := b1.size
    have s2 := b2.size
    clear d5 o4 o3
    go_wp2_with fail
    go_at_call 43
    refine (toIntSS_any _ _ _ _ _ hn HL.out k5.mat (Nat.le_refl _)).mono ?_
    rintro e w6 ⟨rfl, hO6⟩
    have k6 := k5.step hO6.old
    have x6 := hO6.arg h.hn h.hL
    have x6' := x5.step hO6.old
    have b6 := hO6.old
    have s6 := b6.size
    have o6 := o5.below b6 (by omega) (fun r hr => by omega)
    have B6 := B5.trans (b6.mono B5.size)
    clear hO6 o5
    go_wp2_with fail
    go_at_call 44
    refine (eqIntSS_same _ _ _ (freshLay w2.heap.size m) (freshLay w5.heap.size m) m _ h.hn h.hL x6'.mat x6.mat).mono ?_
    rintro e w7 ⟨rfl, d7⟩
    have o7 := d7.own o6
    have B7 := B6.trans (d7.below _)
    have s7 := (d7.below 0).size
    clear d7 o6 x6 x6'
    go_wp2_with fail
    go_at_call 45
    refine (markIntSS_own (m := m) hn HL.out o7 (fun r s _ _ e => by omega) (fun r _ => by omega)).mono ?_
    rintro e w8 ⟨rfl, m8, o8⟩
    have bl8 : Below w2.heap.size w7 w8 := m8.below (fun j hj => by obtain ⟨r, hr, e⟩ := hj; omega)
    have B8 := B7.trans (bl8.mono (by omega))
    have k8 : ArgAt w8 a l m := ⟨((h.mat.below B8).more B8.size), h.hn, h.hL⟩
    clear m8 o7 o8
    go_wp2_with fail
    go_at_call 44
    refine eq_none.mono ?_
    rintro e w9 ⟨rfl, d9⟩
    have k9 := k8.step (d9.below _)
    have B9 := B8.trans (d9.below _)
    clear d9 k8
    go_wp2_with fail
    go_at_call 45
    refine mark_none.mono ?_
    rintro e w10 ⟨rfl, rfl⟩
    go_wp2_with fail
    go_at_call 46
    refine held_none.mono ?_
    rintro e w10 ⟨rfl, rfl⟩
    go_wp2_with fail
    go_at_call 43
    refine (toIntSS_any _ _ _ _ _ hn HL.out k9.mat (Nat.le_refl _)).mono ?_
    rintro e w11 ⟨rfl, hO11⟩
    have x11 := hO11.arg h.hn h.hL
    have b11 := hO11.old
    have B11 := B9.trans (b11.mono B9.size)
    clear hO11
    go_wp2_with fail
    go_at_call 20
    refine (TurnedOf_no (l := freshLay w9.heap.size m) h.hn h.hL x11.mat (Nat.le_refl _) HO.out).mono ?_
    rintro e w12 ⟨rfl, b12⟩
    have B12 := B11.trans (b12.mono B11.size)
    go_wp2_with fail
    go_at_call 44
    refine eq_none.mono ?_
    rintro e w13 ⟨rfl, d13⟩
    have B13 := B12.trans (d13.below _)
    clear d13
    go_wp2_with fail
    go_at_call 46
    refine held_none.mono ?_
    rintro e w14 ⟨rfl, rfl⟩
    go_wp2_with fail
    go_ret
    exact ⟨rfl, B13⟩

set_option maxRecDepth 100000 in
set_option maxHeartbeats 1000000 in
theorem law_ExactTurnedOf_yes {a : Option Addr} {l : Lay} {m : Mx} {w : World} (h : ArgAt w a l m) (ho : orderB m = true) :
    Calls Try.prog 15 #[.slice a m.n l.cap] w fun e w' => e = .returned (.bool true) ∧ Below w.heap.size w w' := by
  have HO := Lib.hid ho
  have h12 : m.n ≤ 12 := (orderB_is ho).top
  clear ho
  go_enter Try.func15, Try.ntmps15
  go_wp2_with fail
  go_at_call 42
  refine (szIntSS_any _ _ _ _ _ h.hn h.hL h.mat).mono ?_
  rintro e w' ⟨⟨v, rfl, hv⟩, rfl⟩
  by_cases hneg : v < 0
  · go_wp2_with fail
    go_ret
    exact ⟨rfl, Below.refl _ _⟩
  · obtain ⟨hn, hL, hv0, hv1⟩ : m.n ≤ 1048576 ∧ (∀ r, r < m.n → m.L r ≤ 1048576) ∧ 0 ≤ v ∧ v ≤ 1048576 := hv.resolve_left hneg
    clear hv
    have HL := Lib.hid hL
    clear hL
    go_wp2_with fail
    go_at_call 43
    refine (toIntSS_any _ _ _ _ _ hn HL.out h.mat (Nat.le_refl _)).mono ?_
    rintro e w1 ⟨rfl, hO1⟩
    have k1 := h.step hO1.old
    have x1 := hO1.arg h.hn h.hL
    have b1 := hO1.old
    clear hO1
    go_wp2_with fail
    go_at_call 36
    refine (spec_TurnedOf_yes (l := freshLay w.heap.size m) h.hn h.hL x1.mat (Nat.le_refl _) HO.out).mono ?_
    rintro e w2 ⟨aw, lw, rfl, hw2, b2⟩
    have k2 := k1.step b2
    have B2 := b1.trans (b2.mono b1.size)
    go_wp2_with fail
    go_at_call 43
    refine (toIntSS_any _ _ _ _ _ hn HL.out k2.mat (Nat.le_refl _)).mono ?_
    rintro e w3 ⟨rfl, hO3⟩
    have k3 := k2.step hO3.old
    have x3 := hO3.arg h.hn h.hL
    have o3 := hO3.own
    have s3 := hO3.size
    have q3 := hO3.old
    have B3 := B2.trans (q3.mono B2.size)
    have hw3 := hw2.below q3
    clear hO3
    go_wp2_with fail
    go_at_call 20
    refine (TurnedOf_own (l := freshLay w2.heap.size m) h.hn h.hL x3.mat (Nat.le_refl _) HO.out).mono ?_
    rintro e w4 ⟨gb, gG, rfl, b4, hg4, gb1, gG1, gG2, gG3⟩
    have HG2 := Lib.hid gG2
    have HG3 := Lib.hid gG3
    have HG1 := Lib.hid gG1
    clear gG1 gG2 gG3
    have gl : gb < w4.heap.size := hg4.top.lt
    have HGl : Hid (∀ r, r < m.n → gG r < w4.heap.size) := fun r hr => (hg4.row r hr).lt
    have k4 := k3.step b4
    have x4 := x3.step b4
    have o4 := o3.below b4 (by omega) (fun r hr => by omega)
    have s1 := b1.size
    have s2 := b2.size
    have s4 := b4.size
    have hw4 := hw3.below (b4.mono (by omega))
    have B4 := B3.trans (b4.mono B3.size)
    go_wp2_with fail
    go_at_call 44
    refine (eq_turned h12 hg4 (hw4.more (by omega))).mono ?_
    rintro e w5 ⟨rfl, d5⟩
    have k5 := k4.step (d5.below _)
    have x5 := x4.step (d5.below _)
    have o5 := d5.own o4
    have hg5 := d5.own hg4
    have hw5 := d5.mat hw4
    have B5 := B4.trans (d5.below _)
    have s5 := (d5.below 0).size
    clear d5 o4 o3 hg4 hw4 hw3 hw2
    go_wp2_with fail
    go_at_call 43
    refine (toIntSS_any _ _ _ _ _ hn HL.out k5.mat (Nat.le_refl _)).mono ?_
    rintro e w6 ⟨rfl, hO6⟩
    have k6 := k5.step hO6.old
    have x6 := hO6.arg h.hn h.hL
    have x6' := x5.step hO6.old
    have b6 := hO6.old
    have s6 := b6.size
    have o6 := o5.below b6 (by omega) (fun r hr => by omega)
    have hg6 := hg5.below b6 (by omega) (fun r hr => by have := HGl.out r hr; omega)
    have hw6 := hw5.below (b6.mono (by omega))
    have B6 := B5.trans (b6.mono B5.size)
    clear hO6 o5 hg5 hw5
    go_wp2_with fail
    go_at_call 44
    refine (eqIntSS_same _ _ _ (freshLay w2.heap.size m) (freshLay w5.heap.size m) m _ h.hn h.hL x6'.mat x6.mat).mono ?_
    rintro e w7 ⟨rfl, d7⟩
    have o7 := d7.own o6
    have hg7 := d7.own hg6
    have hw7 := d7.mat hw6
    have B7 := B6.trans (d7.below _)
    have s7 := (d7.below 0).size
    clear d7 o6 x6 x6' hg6 hw6
    go_wp2_with fail
    go_at_call 45
    refine (markIntSS_own (m := m) hn HL.out o7 (fun r s _ _ e => by omega) (fun r _ => by omega)).mono ?_
    rintro e w8 ⟨rfl, m8, o8⟩
    have hg8 := hg7.only m8 (by rintro ⟨r, hr, e⟩; omega) (fun r _ => by have := HG1.out r; rintro ⟨s, hs, e⟩; omega)
    have hw8 : MatAt w8 w2.heap.size aw lw (tr m) := mat_only hw7 m8 (fun j ⟨r, _, e⟩ => by omega) (Nat.le_refl _)
    have bl8 : Below w2.heap.size w7 w8 := m8.below (fun j hj => by obtain ⟨r, hr, e⟩ := hj; omega)
    have s8 := bl8.size
    have B8 := B7.trans (bl8.mono (by omega))
    have k8 : ArgAt w8 a l m := ⟨((h.mat.below B8).more B8.size), h.hn, h.hL⟩
    clear m8 o7 o8 hg7 hw7
    go_wp2_with fail
    go_at_call 44
    refine (eq_turned h12 hg8 (hw8.more (by omega))).mono ?_
    rintro e w9 ⟨rfl, d9⟩
    have hg9 := d9.own hg8
    have hw9 := d9.mat hw8
    have s9 := (d9.below 0).size
    have B9 := B8.trans (d9.below _)
    clear d9 k8 hg8 hw8
    go_wp2_with fail
    go_at_call 45
    refine (mark_turned h12 hg9 HG2.out HG3.out).mono ?_
    rintro e w10 ⟨rfl, m10, hg10⟩
    have hw10 : MatAt w10 w2.heap.size aw lw (tr m) := mat_only hw9 m10 (fun j ⟨r, e⟩ => by have := HG1.out r; omega) (Nat.le_refl _)
    have bl10 : Below w3.heap.size w9 w10 := m10.below (fun j hj => by obtain ⟨r, e⟩ := hj; have := HG1.out r; omega)
    have s10 := bl10.size
    have B10 := B9.trans (bl10.mono (by omega))
    have k10 : ArgAt w10 a l m := ⟨((h.mat.below B10).more B10.size), h.hn, h.hL⟩
    clear m10 hg9 hw9
    go_wp2_with fail
    go_at_call 46
    refine (held_turned h12 hg10).mono ?_
    rintro e w11 ⟨rfl, rfl⟩
    go_wp2_with fail
    go_at_call 43
    refine (toIntSS_any _ _ _ _ _ hn HL.out k10.mat (Nat.le_refl _)).mono ?_
    rintro e w11 ⟨rfl, hO11⟩
    have x11 := hO11.arg h.hn h.hL
    have b11 := hO11.old
    have s11 := b11.size
    have B11 := B10.trans (b11.mono B10.size)
    have hg11 := hg10.below b11 (by omega) (fun r hr => by have := HGl.out r hr; omega)
    have hw11 := hw10.below (b11.mono (by omega))
    clear hO11 hg10 hw10
    go_wp2_with fail
    go_at_call 20
    refine (TurnedOf_own (l := freshLay w10.heap.size m) h.hn h.hL x11.mat (Nat.le_refl _) HO.out).mono ?_
    rintro e w12 ⟨hb, hG, rfl, b12, hh12, _, _, _, _⟩
    have s12 := b12.size
    have B12 := B11.trans (b12.mono B11.size)
    have hg12 := hg11.below b12 (by omega) (fun r hr => by have := HGl.out r hr; omega)
    have hw12 := hw11.below (b12.mono (by omega))
    clear hg11 hw11
    go_wp2_with fail
    go_at_call 44
    refine (eq_turned h12 hh12 (hw12.more (by omega))).mono ?_
    rintro e w13 ⟨rfl, d13⟩
    have hg13 := d13.own hg12
    have B13 := B12.trans (d13.below _)
    clear d13 hg12 hw12 hh12
    go_wp2_with fail
    go_at_call 46
    refine (held_turned h12 hg13).mono ?_
    rintro e w14 ⟨rfl, rfl⟩
    go_wp2_with fail
    go_ret
    exact ⟨rfl, B13⟩

theorem law_ExactTurnedOf {a : Option Addr} {l : Lay} {m : Mx} {w : World} (h : ArgAt w a l m) :
    Calls Try.prog 15 #[.slice a m.n l.cap] w fun e w' => e = .returned (.bool true) ∧ Below w.heap.size w w' := by
  cases ho : orderB m with
  | false => exact law_ExactTurnedOf_no h ho
  | true => exact law_ExactTurnedOf_yes h ho
end Go.Proofs.Ytmgcgkfjmkgfeaa
