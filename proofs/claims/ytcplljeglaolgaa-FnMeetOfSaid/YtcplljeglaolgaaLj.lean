/- The law on MeetOf, walked at whatever code. -/
import Derived.Test.YtcplljeglaolgaaLg
import Derived.Test.YtcplljeglaolgaaLf
import Derived.Test.YtcplljeglaolgaaDf
import Derived.Test.YtcplljeglaolgaaLb
namespace Go.Proofs.Ytcplljeglaolgaa
open Go.RowKit Go.Deep

/-- Whether there is a meeting: the two are answers of an order, and it is told. -/
theorem meetV_parts {m : Mx} {x y : Int} (h : hasI (meetV m x y) = true) : orderB m = true ∧ ∃ a b : Nat, x = (a : Int) ∧ y = (b : Int) ∧ a < m.n ∧ b < m.n ∧ meetV m x y = meetI m a b := by
  by_cases hc : orderB m = true ∧ 0 ≤ x ∧ x < (m.n : Int) ∧ 0 ≤ y ∧ y < (m.n : Int)
  · obtain ⟨ho, h1, h2, h3, h4⟩ := hc
    obtain ⟨a, rfl⟩ := Int.eq_ofNat_of_zero_le h1
    obtain ⟨b, rfl⟩ := Int.eq_ofNat_of_zero_le h3
    exact ⟨ho, a, b, rfl, rfl, by omega, by omega, meetV_yes ho (by omega) (by omega)⟩
  · rw [meetV_no hc] at h; cases h
theorem meetV_none {m : Mx} {x y : Int} (h : hasI (meetV m x y) = false) : meetV m x y = -1 := by
  by_cases hc : orderB m = true ∧ 0 ≤ x ∧ x < (m.n : Int) ∧ 0 ≤ y ∧ y < (m.n : Int)
  · obtain ⟨ho, h1, h2, h3, h4⟩ := hc
    obtain ⟨a, rfl⟩ := Int.eq_ofNat_of_zero_le h1
    obtain ⟨b, rfl⟩ := Int.eq_ofNat_of_zero_le h3
    rw [meetV_yes ho (by omega) (by omega)] at h ⊢
    have := hasI_not h
    have := meetI_range m a b
    omega
  · exact meetV_no hc

set_option maxRecDepth 100000 in
set_option maxHeartbeats 1000000 in
theorem law_MeetOf {A : Option Addr} {b o n cap : Nat} {z : Nat → Nat} {w : World} (h : CodeAt w A b o n cap z) :
    Calls Try.prog 3 #[.slice A n cap] w fun e w' => e = .returned (.bool true) ∧ Below w.heap.size w w' := by
  have hn := h.hn
  have hc := h.hc
  by_cases hbig : 1048576 < n
  · have hbig' : (1048576 : Int) < n := by omega
    clear h
    go_enter Try.func3, Try.ntmps3
    go_wp2_with fail
    go_ret
    exact ⟨rfl, Below.refl _ _⟩
  · have hbig' : ¬ (1048576 : Int) < n := by omega
    go_enter Try.func3, Try.ntmps3
    go_wp2_with fail
    go_at_call 22
    refine (draw_MeetOf h).mono ?_
    rintro e w1 ⟨a, l, m, x, y, rfl, hm, h12, hL, b1⟩
    clear h
    have hn1 : m.n ≤ 9223372036854775807 := by omega
    have hL1 : ∀ r, r < m.n → m.L r ≤ 9223372036854775807 := fun r hr => by have := hL r hr; omega
    have HL := Lib.hid hL1
    clear hL hL1
    go_wp2_with fail
    go_at_call 23
    refine (MeetOf_any hn1 HL.out hm (Nat.le_refl _)).mono ?_
    rintro e w2 ⟨rfl, b2⟩
    have hm2 := (hm.below b2).more b2.size
    have B2 := b1.trans (b2.mono b1.size)
    clear hm
    have s2 := B2.size
    go_wp2_with fail
    go_at_call 24
    refine (spec_MeetOf hn1 HL.out hm2).mono ?_
    rintro e w3 ⟨rfl, rfl⟩
    cases hh : hasI (meetV m x y) with
    | false =>
      rw [meetV_none hh]
      clear hh hm2
      go_wp2_with fail
      go_at_call 25
      refine (alive_any _).mono ?_
      rintro e w5 ⟨rfl, b5⟩
      go_wp2_with fail
      go_ret
      exact ⟨rfl, B2.trans (b5.mono B2.size)⟩
    | true =>
      obtain ⟨ho, p, q, rfl, rfl, hp, hq, hv⟩ := meetV_parts hh
      rw [hv] at hh ⊢
      obtain ⟨c, hcl, hce, hc1, hc2, hc3⟩ := meetI_parts hh
      rw [hce]
      have hback : meetV m q p = (c : Int) := by rw [meetV_yes ho hq hp, meetI_comm, hce]
      have hown : meetV m p p = (p : Int) := by rw [meetV_yes ho hp hp, meetI_self (orderB_is ho) hp]
      have HS := Lib.hid (orderB_is ho).sq
      have H3 := Lib.hid hc3
      have HB := Lib.hid hback
      have HW := Lib.hid hown
      clear hh ho hv hc3 hback hown hce
      obtain ⟨rfl, t1, t2⟩ := hm2.sq HS.out hcl hp
      obtain ⟨_, t3, t4⟩ := hm2.sq HS.out hcl hq
      rw [hc1] at t2
      rw [hc2] at t4
      have HC : Hid (m.Z c p = 1 ∧ m.Z c q = 1) := ⟨hc1, hc2⟩
      clear hc1 hc2
      clear t1 t2 t3 t4
      go_wp2_with fail
      go_loop [10] (fun i => ∃ k : Nat, k ≤ m.n ∧ i = .int .i64 k) (fun i => m.n - (intOf i).toNat)
      case atStart => exact ⟨0, Nat.zero_le _, rfl⟩
      case round =>
        obtain ⟨k, hk, rfl⟩ := hrel
        by_cases hlt : k < m.n
        · have hlt' : (k : Int) < m.n := by omega
          obtain ⟨_, r1, r2⟩ := hm2.sq HS.out hlt hp
          obtain ⟨_, _, r3⟩ := hm2.sq HS.out hlt hq
          obtain ⟨_, _, r4⟩ := hm2.sq HS.out hlt hcl
          have HM := Lib.hid hm2
          clear hm2
          rcases leB_cases HS.out hlt hp with ⟨l1, z1⟩ | ⟨l1, z1⟩
          · rcases leB_cases HS.out hlt hq with ⟨l2, z2⟩ | ⟨l2, z2⟩
            · have z3 := H3.out k hlt z1 z2
              rw [z1] at r2
              rw [z2] at r3
              rw [z3] at r4
              clear l1 z1 l2 z2 z3
              go_wp2_with fail
              go_round
              case rel => exact ⟨k + 1, by omega, by go_num⟩
              case measure => simp [intOf]; omega
            · rw [z1] at r2
              rw [z2] at r3
              clear l1 z1 l2 z2 r4
              go_wp2_with fail
              go_round
              case rel => exact ⟨k + 1, by omega, by go_num⟩
              case measure => simp [intOf]; omega
          · rw [z1] at r2
            clear l1 z1 r3 r4
            go_wp2_with fail
            go_round
            case rel => exact ⟨k + 1, by omega, by go_num⟩
            case measure => simp [intOf]; omega
        · have hlt' : ¬ (k : Int) < m.n := by omega
          go_wp2_with fail
          go_at_call 23
          refine (MeetOf_any hn1 HL.out hm2 (Nat.le_refl _)).mono ?_
          rintro e w4 ⟨rfl, b4⟩
          rw [HB.out, hasI_nat]
          have hm4 := (hm2.below b4).more b4.size
          have B4 := B2.trans (b4.mono s2)
          have s4 := B4.size
          clear hm2
          go_wp2_with fail
          go_at_call 23
          refine (MeetOf_any hn1 HL.out hm4 (Nat.le_refl _)).mono ?_
          rintro e w5 ⟨rfl, b5⟩
          rw [HW.out, hasI_nat]
          have hm5 := (hm4.below b5).more b5.size
          have B5 := B4.trans (b5.mono s4)
          obtain ⟨_, t1, t2⟩ := hm5.sq HS.out hcl hp
          obtain ⟨_, t3, t4⟩ := hm5.sq HS.out hcl hq
          rw [HC.out.1] at t2
          rw [HC.out.2] at t4
          clear hm4 hm5
          go_wp2_with fail
          go_ret
          exact ⟨rfl, B5⟩
end Go.Proofs.Ytcplljeglaolgaa
