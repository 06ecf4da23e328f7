/- The law on AtomsOf against the reference, walked at whatever rows. -/
import Derived.Test.YtmgcgkfjmkgfeaaLa
import Derived.Test.YtmgcgkfjmkgfeaaWx
namespace Go.Proofs.Ytmgcgkfjmkgfeaa
open Go.RowKit Go.Deep

theorem atomsV_len (m : Mx) : (atomsV m).length ≤ m.n := by
  by_cases h : orderB m = true ∧ hasI (leastI m) = true
  · rw [atomsV_yes h.1 h.2]; exact atomsTo_len m m.n
  · rw [atomsV_no h]; exact Nat.zero_le _
theorem OutS.own {w wr : World} {m : Mx} (h : OutS w wr m m.n) : OwnMat wr w.heap.size (fun r => w.heap.size + 1 + r) m :=
  ⟨h.top.congr (fun r hr => by rw [if_pos hr]), h.row⟩
theorem Drew.own {w w' : World} (hw : Drew w w') {b : Nat} {G : Nat → Nat} {m : Mx} (h : OwnMat w b G m) : OwnMat w' b G m := by
  obtain ⟨d, rfl⟩ := hw
  exact ⟨h.top, h.row⟩
theorem Drew.list {w w' : World} (hw : Drew w w') {base : Nat} {e : TypeId} {size n : Nat} {v : Value} {xs : List Value} (h : w.ownsRow base e size v n xs) : w'.ownsRow base e size v n xs := by
  obtain ⟨d, rfl⟩ := hw
  exact h
/-- What lay below block B lies as it lay. -/
theorem list_below {w w' : World} {base B : Nat} {e : TypeId} {size n : Nat} {v : Value} {xs : List Value} (h : w.ownsRow base e size v n xs) (hb : Below B w w') (hB : ∀ k, v.ownBlock = some k → k < B) : w'.ownsRow base e size v n xs := by
  refine ⟨h.1, ?_⟩
  rcases h.2 with h' | ⟨g, cap, cur, h1, h2, h3, h4⟩
  · exact .inl h'
  · exact .inr ⟨g, cap, cur, h1, h2, (hb.block g (hB g (by rw [h1]; rfl))).trans h3, h4⟩

set_option maxRecDepth 100000 in
set_option maxHeartbeats 1000000 in
theorem law_ExactAtomsOf {a : Option Addr} {l : Lay} {m : Mx} {w : World} (h : ArgAt w a l m) :
    Calls Try.prog 16 #[.slice a m.n l.cap] w fun e w' => e = .returned (.bool true) ∧ Below w.heap.size w w' := by
  go_enter Try.func16, Try.ntmps16
  go_wp2_with fail
  go_at_call 42
  refine (szIntSS_any _ _ _ _ _ h.hn h.hL h.mat).mono ?_
  rintro e w' ⟨⟨v, rfl, hv⟩, rfl⟩
  by_cases hneg : v < 0
  · go_wp2_with fail
    go_ret
    exact ⟨rfl, Below.refl _ _⟩
  · obtain ⟨hn, hL, hv0, hv1⟩ : m.n ≤ 1048576 ∧ (∀ r, r < m.n → m.L r ≤ 1048576) ∧ 0 ≤ v ∧ v ≤ 1048576 := hv.resolve_left hneg
    clear hv
    have HL := Lib.hid hL
    have hlen : (atomsV m).length ≤ 1048576 := Nat.le_trans (atomsV_len m) hn
    clear hL
    go_wp2_with fail
    go_at_call 43
    refine (toIntSS_any _ _ _ _ _ hn HL.out h.mat (Nat.le_refl _)).mono ?_
    rintro e w1 ⟨rfl, hO1⟩
    have k1 := h.step hO1.old
    have x1 := hO1.arg h.hn h.hL
    have b1 := hO1.old
    clear hO1
    go_wp2_with fail
    go_at_call 40
    refine (spec_AtomsOf (l := freshLay w.heap.size m) h.hn h.hL x1.mat (Nat.le_refl _)).mono ?_
    rintro e w2 ⟨vw, rfl, hw2, b2⟩
    rw [map_range] at hw2
    have k2 := k1.step b2
    have lw : ∀ j, vw.ownBlock = some j → j < w2.heap.size := fun j hj => (hw2.lt j hj).2
    have B2 := b1.trans (b2.mono b1.size)
    go_wp2_with fail
    go_at_call 43
    refine (toIntSS_any _ _ _ _ _ hn HL.out k2.mat (Nat.le_refl _)).mono ?_
    rintro e w3 ⟨rfl, hO3⟩
    have k3 := k2.step hO3.old
    have x3 := hO3.arg h.hn h.hL
    have o3 := hO3.own
    have s3 := hO3.size
    have hw3 := list_below hw2 hO3.old lw
    have B3 := B2.trans (hO3.old.mono B2.size)
    have q3 := hO3.old
    clear hO3
    go_wp2_with fail
    go_at_call 38
    refine (AtomsOf_any (l := freshLay w2.heap.size m) h.hn h.hL x3.mat (Nat.le_refl _)).mono ?_
    rintro e w4 ⟨vg, rfl, hg4, b4⟩
    rw [map_range] at hg4
    have gg : ∀ j, vg.ownBlock = some j → w3.heap.size ≤ j := fun j hj => (hg4.lt j hj).1
    have k4 := k3.step b4
    have x4 := x3.step b4
    have o4 := o3.below b4 (by omega) (fun r hr => by omega)
    have hw4 := list_below hw3 b4 (fun j hj => by have := lw j hj; omega)
    have B4 := B3.trans (b4.mono B3.size)
    go_wp2_with fail
    go_at_call 47
    refine (eqList (by omega) hg4 hw4).mono ?_
    rintro e w5 ⟨rfl, d5⟩
    have k5 := k4.step (d5.below _)
    have x5 := x4.step (d5.below _)
    have o5 := d5.own o4
    have hg5 := d5.list hg4
    have hw5 := d5.list hw4
    have B5 := B4.trans (d5.below _)
    have gl : ∀ j, vg.ownBlock = some j → j < w4.heap.size := fun j hj => (hg4.lt j hj).2
    have s4 := b4.size
    have s5 := (d5.below 0).size
    have s1 := b1.size
    have s2 := b2.size
    clear d5 o4 o3 hg4 hw4 hw3 hw2
    go_wp2_with fail
    go_at_call 43
    refine (toIntSS_any _ _ _ _ _ hn HL.out k5.mat (Nat.le_refl _)).mono ?_
    rintro e w6 ⟨rfl, hO6⟩
    have k6 := k5.step hO6.old
    have x6 := hO6.arg h.hn h.hL
    have x6' := x5.step hO6.old
    have b6 := hO6.old
    clear hO6
    have s6 := b6.size
    have o6 := o5.below b6 (by omega) (fun r hr => by omega)
    have hg6 := list_below hg5 b6 (fun j hj => by have := gl j hj; omega)
    have hw6 := list_below hw5 b6 (fun j hj => by have := lw j hj; omega)
    have B6 := B5.trans (b6.mono B5.size)
    clear o5 hg5 hw5
    go_wp2_with fail
    go_at_call 44
    refine (eqIntSS_same _ _ _ (freshLay w2.heap.size m) (freshLay w5.heap.size m) m _ h.hn h.hL x6'.mat x6.mat).mono ?_
    rintro e w7 ⟨rfl, d7⟩
    have k7 := k6.step (d7.below _)
    have o7 := d7.own o6
    have hg7 := d7.list hg6
    have hw7 := d7.list hw6
    have B7 := B6.trans (d7.below _)
    have s7 := (d7.below 0).size
    clear d7 o6 hg6 hw6 x6 x6'
    go_wp2_with fail
    go_at_call 45
    refine (markIntSS_own (m := m) hn HL.out o7 (fun r s _ _ e => by omega) (fun r _ => by omega)).mono ?_
    rintro e w8 ⟨rfl, m8, o8⟩
    have hg8 := ownsRow_only hg7 m8 (fun j hj => by have := gg j hj; rintro ⟨r, hr, e⟩; omega)
    have hw8 := ownsRow_only hw7 m8 (fun j hj => by have := lw j hj; rintro ⟨r, hr, e⟩; omega)
    have bl8 : Below w2.heap.size w7 w8 := m8.below (fun j hj => by obtain ⟨r, hr, e⟩ := hj; omega)
    have k8 : ArgAt w8 a l m := ⟨((h.mat.below (B7.trans (bl8.mono (by omega)))).more (by have := bl8.size; have := B7.size; omega)), h.hn, h.hL⟩
    have B8 := B7.trans (bl8.mono (by omega))
    have s8 := bl8.size
    clear m8 hg7 hw7 o7
    go_wp2_with fail
    go_at_call 47
    refine (eqList (by omega) hg8 hw8).mono ?_
    rintro e w9 ⟨rfl, d9⟩
    have k9 := k8.step (d9.below _)
    have hg9 := d9.list hg8
    have hw9 := d9.list hw8
    have B9 := B8.trans (d9.below _)
    have s9 := (d9.below 0).size
    clear d9 hg8 hw8 o8 k8
    go_wp2_with fail
    go_at_call 48
    refine (markList hlen (by omega) (by omega) hg9).mono ?_
    rintro e w10 ⟨rfl, hg10, m10⟩
    have hw10 := ownsRow_only hw9 m10 (fun j hj hj' => by have := lw j hj; have := gg j hj'; omega)
    have bl10 : Below w3.heap.size w9 w10 := m10.below (fun j hj => gg j hj)
    have B10 := B9.trans (bl10.mono (by omega))
    have s10 := bl10.size
    have k10 : ArgAt w10 a l m := ⟨((h.mat.below B10).more (by have := B10.size; omega)), h.hn, h.hL⟩
    clear m10 hg9 hw9 k9
    go_wp2_with fail
    go_at_call 49
    refine (heldList hlen (by omega) (by omega) hg10).mono ?_
    rintro e w11 ⟨rfl, rfl⟩
    go_wp2_with fail
    go_at_call 43
    refine (toIntSS_any _ _ _ _ _ hn HL.out k10.mat (Nat.le_refl _)).mono ?_
    rintro e w11 ⟨rfl, hO11⟩
    have x11 := hO11.arg h.hn h.hL
    have b11 := hO11.old
    have s11 := b11.size
    have hg11 := list_below hg10 b11 (fun j hj => by have := gl j hj; omega)
    have hw11 := list_below hw10 b11 (fun j hj => by have := lw j hj; omega)
    have B11 := B10.trans (b11.mono B10.size)
    clear hO11 hg10 hw10
    go_wp2_with fail
    go_at_call 38
    refine (AtomsOf_any (l := freshLay w10.heap.size m) h.hn h.hL x11.mat (Nat.le_refl _)).mono ?_
    rintro e w12 ⟨vh, rfl, hh12, b12⟩
    rw [map_range] at hh12
    have s12 := b12.size
    have hg12 := list_below hg11 b12 (fun j hj => by have := gl j hj; omega)
    have hw12 := list_below hw11 b12 (fun j hj => by have := lw j hj; omega)
    have B12 := B11.trans (b12.mono B11.size)
    clear hg11 hw11
    go_wp2_with fail
    go_at_call 47
    refine (eqList (by omega) hh12 hw12).mono ?_
    rintro e w13 ⟨rfl, d13⟩
    have hg13 := d13.list hg12
    have B13 := B12.trans (d13.below _)
    clear d13 hg12 hw12 hh12
    go_wp2_with fail
    go_at_call 49
    refine (heldList hlen (by omega) (by omega) hg13).mono ?_
    rintro e w14 ⟨rfl, rfl⟩
    go_wp2_with fail
    go_ret
    exact ⟨rfl, B13⟩
end Go.Proofs.Ytmgcgkfjmkgfeaa
