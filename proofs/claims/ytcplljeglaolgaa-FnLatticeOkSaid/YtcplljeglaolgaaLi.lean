/- The law on LatticeOk, walked at whatever code. -/
import Derived.Test.YtcplljeglaolgaaLg
import Derived.Test.YtcplljeglaolgaaLf
import Derived.Test.YtcplljeglaolgaaWt
import Derived.Test.YtcplljeglaolgaaWs
import Derived.Test.YtcplljeglaolgaaLb
import Derived.Test.YtcplljeglaolgaaMathF
namespace Go.Proofs.Ytcplljeglaolgaa
open Go.RowKit Go.Deep

theorem latticeB_not {m : Mx} (h : orderB m = false) : latticeB m = false := latticeB_false fun h' => orderB_not h h'.order
theorem emptyM_no : latticeB emptyM = false := latticeB_false fun h => by
  have : 1 ≤ 0 := h.order.pos
  omega
theorem LatticeOk_nil (w : World) : Calls Try.prog 31 #[.slice none 0 0] w fun e w' => e = .returned (.bool false) ∧ Below w.heap.size w w' := by
  have h := LatticeOk_any (w := w) (m := emptyM) (l := emptyLay 0) (Nat.zero_le _) (fun _ _ => Nat.zero_le _) (empty_at w 0 none 0) (Nat.zero_le _)
  rw [emptyM_no] at h
  exact h
theorem LatticeOk_tr {w : World} {b : Nat} {G : Nat → Nat} {m : Mx} (ho : orderB m = true) (h : OwnMat w b G (tr m)) :
    Calls Try.prog 31 #[.slice (some ⟨b, 0, none⟩) m.n m.n] w fun e w' => e = .returned (.bool (latticeB m)) ∧ Below w.heap.size w w' := by
  have h12 := (orderB_is ho).top
  have := LatticeOk_any (m := tr m) (l := ownLay b G (tr m)) (by show m.n ≤ _; omega) (fun _ _ => by show m.n ≤ _; omega) h.mat (Nat.le_refl _)
  rw [latticeB_tr (orderB_is ho)] at this
  exact this
theorem LeastOf_lat {w : World} {a : Option Addr} {l : Lay} {m : Mx} {B : Nat} (hl : IsLattice m) (h : MatAt w B a l m) (hB : B ≤ w.heap.size) :
    Calls Try.prog 33 #[.slice a m.n l.cap] w fun e w' => (∃ x : Int, e = .returned (.tuple #[.int .i64 x, .bool true])) ∧ Below w.heap.size w w' := by
  have h12 := hl.order.top
  refine (LeastOf_any (m := m) (l := l) (by omega) (fun r hr => by rw [hl.order.sq.len r hr]; omega) h hB).mono ?_
  rintro e w' ⟨rfl, hb⟩
  rw [leastV_yes (orderB_true hl.order), lattice_hasLeast hl]
  exact ⟨⟨_, rfl⟩, hb⟩
theorem LeastOf_trlat {w : World} {b : Nat} {G : Nat → Nat} {m : Mx} (hl : IsLattice m) (h : OwnMat w b G (tr m)) :
    Calls Try.prog 33 #[.slice (some ⟨b, 0, none⟩) m.n m.n] w fun e w' => (∃ x : Int, e = .returned (.tuple #[.int .i64 x, .bool true])) ∧ Below w.heap.size w w' :=
  LeastOf_lat (m := tr m) (l := ownLay b G (tr m)) (lattice_tr hl) h.mat (Nat.le_refl _)

set_option maxRecDepth 100000 in
set_option maxHeartbeats 1000000 in
theorem law_LatticeOk {A : Option Addr} {b o n cap : Nat} {z : Nat → Nat} {w : World} (h : CodeAt w A b o n cap z) :
    Calls Try.prog 5 #[.slice A n cap] w fun e w' => e = .returned (.bool true) ∧ Below w.heap.size w w' := by
  have hn := h.hn
  have hc := h.hc
  by_cases hbig : 1048576 < n
  · have hbig' : (1048576 : Int) < n := by omega
    clear h
    go_enter Try.func5, Try.ntmps5
    go_wp2_with fail
    go_ret
    exact ⟨rfl, Below.refl _ _⟩
  · have hbig' : ¬ (1048576 : Int) < n := by omega
    go_enter Try.func5, Try.ntmps5
    go_wp2_with fail
    go_at_call 30
    refine (draw_LatticeOk h).mono ?_
    rintro e w1 ⟨a, l, m, rfl, hm, h12, hL, b1⟩
    clear h
    have hn1 : m.n ≤ 9223372036854775807 := by omega
    have hL1 : ∀ r, r < m.n → m.L r ≤ 9223372036854775807 := fun r hr => by have := hL r hr; omega
    have HL := Lib.hid hL1
    clear hL hL1
    go_wp2_with fail
    go_at_call 31
    refine (LatticeOk_any hn1 HL.out hm (Nat.le_refl _)).mono ?_
    rintro e w2 ⟨rfl, b2⟩
    have hm2 := (hm.below b2).more b2.size
    have B2 := b1.trans (b2.mono b1.size)
    clear hm
    go_wp2_with fail
    go_at_call 32
    refine (spec_LatticeOk hn1 HL.out hm2).mono ?_
    rintro e w3 ⟨rfl, rfl⟩
    cases ho : orderB m with
    | false =>
      have HO := Lib.hid ho
      rw [latticeB_not ho]
      clear ho
      go_wp2_with fail
      go_at_call 29
      refine (TurnedOf_no hn1 HL.out hm2 (Nat.le_refl _) HO.out).mono ?_
      rintro e w4 ⟨rfl, b4⟩
      have B4 := B2.trans (b4.mono B2.size)
      clear hm2
      go_wp2_with fail
      go_at_call 31
      refine (LatticeOk_nil _).mono ?_
      rintro e w5 ⟨rfl, b5⟩
      have B5 := B4.trans (b5.mono B4.size)
      go_wp2_with fail
      go_at_call 25
      refine (alive_any _).mono ?_
      rintro e w6 ⟨rfl, b6⟩
      go_wp2_with fail
      go_ret
      exact ⟨rfl, B5.trans (b6.mono B5.size)⟩
    | true =>
      have HO := Lib.hid ho
      clear ho
      cases hl : latticeB m with
      | false =>
        have HQ := Lib.hid hl
        clear hl
        go_wp2_with fail
        go_at_call 29
        refine (TurnedOf_yes hn1 HL.out hm2 (Nat.le_refl _) HO.out).mono ?_
        rintro e w4 ⟨tb, tG, rfl, b4, ho4, _, _⟩
        have B4 := B2.trans (b4.mono B2.size)
        clear hm2
        go_wp2_with fail
        go_at_call 31
        refine (LatticeOk_tr HO.out ho4).mono ?_
        rintro e w5 ⟨rfl, b5⟩
        rw [HQ.out]
        have B5 := B4.trans (b5.mono B4.size)
        clear ho4
        go_wp2_with fail
        go_at_call 25
        refine (alive_any _).mono ?_
        rintro e w6 ⟨rfl, b6⟩
        go_wp2_with fail
        go_ret
        exact ⟨rfl, B5.trans (b6.mono B5.size)⟩
      | true =>
        have HQ := Lib.hid hl
        have HX := Lib.hid (latticeB_is hl)
        clear hl
        go_wp2_with fail
        go_at_call 29
        refine (TurnedOf_yes hn1 HL.out hm2 (Nat.le_refl _) HO.out).mono ?_
        rintro e w4 ⟨tb, tG, rfl, b4, ho4, _, _⟩
        have hm4 := (hm2.below b4).more b4.size
        have B4 := B2.trans (b4.mono B2.size)
        clear hm2
        go_wp2_with fail
        go_at_call 31
        refine (LatticeOk_tr HO.out ho4).mono ?_
        rintro e w5 ⟨rfl, b5⟩
        rw [HQ.out]
        have hm5 := (hm4.below b5).more b5.size
        have ho5 := ho4.step b5
        have B5 := B4.trans (b5.mono B4.size)
        clear ho4 hm4
        go_wp2_with fail
        go_at_call 33
        refine (LeastOf_lat HX.out hm5 (Nat.le_refl _)).mono ?_
        rintro e w6 ⟨⟨x, rfl⟩, b6⟩
        have hm6 := (hm5.below b6).more b6.size
        have ho6 := ho5.step b6
        have B6 := B5.trans (b6.mono B5.size)
        clear ho5 hm5
        go_wp2_with fail
        go_at_call 33
        refine (LeastOf_trlat HX.out ho6).mono ?_
        rintro e w7 ⟨⟨y, rfl⟩, b7⟩
        have hm7 := (hm6.below b7).more b7.size
        have B7 := B6.trans (b7.mono B6.size)
        clear ho6 hm6
        have s7 := B7.size
        go_wp2_with fail
        go_loopw [10] (fun i wi => ∃ k : Nat, k ≤ m.n ∧ i = .int .i64 k ∧ Below w7.heap.size w7 wi) (fun i _ => m.n - (intOf i).toNat)
        case atStart => exact ⟨0, Nat.zero_le _, rfl, Below.refl _ _⟩
        case round =>
          obtain ⟨k, hk, rfl, hb⟩ := hrel
          by_cases hlt : k < m.n
          · have hlt' : (k : Int) < m.n := by omega
            obtain ⟨c, hkc⟩ : ∃ c : Nat, (c : Int) = (m.n : Int) - 1 - (k : Int) := ⟨m.n - 1 - k, by omega⟩
            have hc' : c < m.n := by omega
            obtain ⟨yy, hy, hj1, hj2⟩ := absorb HX.out hlt hc'
            have hm8 := (hm7.below hb).more hb.size
            go_wp2_with fail
            go_at_call 27
            rw [← hkc]
            refine (JoinOf_any hn1 HL.out hm8 (Nat.le_refl _)).mono ?_
            rintro e w9 ⟨rfl, b9⟩
            rw [joinV_yes HO.out hlt hc', hj1, hasI_nat]
            have hm9 := (hm8.below b9).more b9.size
            have hb9 := hb.trans (b9.mono hb.size)
            clear hm8 hj1
            go_wp2_with fail
            go_at_call 23
            refine (MeetOf_any hn1 HL.out hm9 (Nat.le_refl _)).mono ?_
            rintro e w10 ⟨rfl, b10⟩
            rw [meetV_yes HO.out hlt hy, hj2, hasI_nat]
            have hb10 := hb9.trans (b10.mono hb9.size)
            clear hm9 hj2
            go_wp2_with fail
            go_round
            case rel => exact ⟨k + 1, by omega, by go_num, hb10⟩
            case measure => simp [intOf]; omega
          · have hlt' : ¬ (k : Int) < m.n := by omega
            go_wp2_with fail
            go_ret
            exact ⟨rfl, B7.trans (hb.mono s7)⟩
end Go.Proofs.Ytcplljeglaolgaa
