/- The law on LeastOf, walked at whatever code. -/
import Derived.Test.YtmgcgkfjmkgfeaaLe
import Derived.Test.YtmgcgkfjmkgfeaaLb
import Derived.Test.YtmgcgkfjmkgfeaaMathE
namespace Go.Proofs.Ytmgcgkfjmkgfeaa
open Go.RowKit Go.Deep

theorem leastV_not {m : Mx} (h : hasI (leastV m) = false) : leastV m = -1 := by
  cases ho : orderB m with
  | false => exact leastV_no ho
  | true => rw [leastV_yes ho] at h ⊢; exact least_not h
theorem leastV_order {m : Mx} (h : hasI (leastV m) = true) : orderB m = true := by
  cases ho : orderB m with
  | false => rw [leastV_no ho] at h; cases h
  | true => rfl

set_option maxRecDepth 100000 in
set_option maxHeartbeats 1000000 in
theorem law_LeastOf {A : Option Addr} {b o n cap : Nat} {z : Nat → Nat} {w : World} (h : CodeAt w A b o n cap z) :
    Calls Try.prog 7 #[.slice A n cap] w fun e w' => e = .returned (.bool true) ∧ Below w.heap.size w w' := by
  have hn := h.hn
  have hc := h.hc
  by_cases hbig : 1048576 < n
  · have hbig' : (1048576 : Int) < n := by omega
    clear h
    go_enter Try.func7, Try.ntmps7
    go_wp2_with fail
    go_ret
    exact ⟨rfl, Below.refl _ _⟩
  · have hbig' : ¬ (1048576 : Int) < n := by omega
    go_enter Try.func7, Try.ntmps7
    go_wp2_with fail
    go_at_call 32
    refine (draw_LeastOf h).mono ?_
    rintro e w1 ⟨a, l, m, rfl, hm, h12, hL, b1⟩
    clear h
    have hn1 : m.n ≤ 9223372036854775807 := by omega
    have hL1 : ∀ r, r < m.n → m.L r ≤ 9223372036854775807 := fun r hr => by have := hL r hr; omega
    have HL := Lib.hid hL1
    clear hL hL1
    go_wp2_with fail
    go_at_call 31
    refine (LeastOf_any hn1 HL.out hm (Nat.le_refl _)).mono ?_
    rintro e w2 ⟨rfl, b2⟩
    have hm2 := (hm.below b2).more b2.size
    have B2 := b1.trans (b2.mono b1.size)
    clear hm
    have s2 := B2.size
    cases hh : hasI (leastV m) with
    | false =>
      have HH := Lib.hid hh
      have hv := leastV_not hh
      clear hh
      rw [hv]
      go_wp2_with fail
      go_at_call 33
      refine (spec_LeastOf hn1 HL.out hm2).mono ?_
      rintro e w3 ⟨rfl, rfl⟩
      rw [HH.out, hv]
      go_wp2_with fail
      go_at_call 21
      refine (alive_any _).mono ?_
      rintro e w5 ⟨rfl, b5⟩
      go_wp2_with fail
      go_ret
      exact ⟨rfl, B2.trans (b5.mono B2.size)⟩
    | true =>
      have HH := Lib.hid hh
      have ho := leastV_order hh
      have hv := leastV_yes ho
      rw [hv] at hh
      obtain ⟨x, hx, hxe, hxa⟩ := least_parts (orderB_is ho) hh
      rw [hxe] at hv
      have HO := Lib.hid ho
      have HX := Lib.hid hxa
      clear hh hxa ho hxe
      rw [hv]
      go_wp2_with fail
      go_at_call 33
      refine (spec_LeastOf hn1 HL.out hm2).mono ?_
      rintro e w3 ⟨rfl, rfl⟩
      rw [HH.out, hv]
      go_wp2_with fail
      have hsq := Lib.hid (orderB_is HO.out).sq
      obtain ⟨rfl, hg1, hg2⟩ := hm2.top x hx
      clear hg1 hg2
      go_loopw [8] (fun i wi => ∃ k : Nat, k ≤ m.n ∧ i = .int .i64 k ∧ Below w2.heap.size w2 wi) (fun i _ => m.n - (intOf i).toNat)
      case atStart => exact ⟨0, Nat.zero_le _, rfl, Below.refl _ _⟩
      case round =>
        obtain ⟨k, hk, rfl, hb⟩ := hrel
        by_cases hlt : k < m.n
        · have hlt' : (k : Int) < m.n := by omega
          obtain ⟨z1, z2⟩ := HX.out k hlt
          have hm3 := (hm2.below hb).more hb.size
          go_wp2_with fail
          go_at_call 23
          refine (MeetOf_any hn1 HL.out hm3 (Nat.le_refl _)).mono ?_
          rintro e w4 ⟨rfl, b4⟩
          rw [meetV_yes HO.out hx hlt, z2, hasI_nat]
          have hm4 := (hm3.below b4).more b4.size
          have hb4 := hb.trans (b4.mono hb.size)
          obtain ⟨_, t1, t2⟩ := hm4.sq hsq.out hx hlt
          rw [z1] at t2
          clear hm3 hm4 z1 z2
          go_wp2_with fail
          go_round
          case rel => exact ⟨k + 1, by omega, by go_num, hb4⟩
          case measure => simp [intOf]; omega
        · have hlt' : ¬ (k : Int) < m.n := by omega
          go_wp2_with fail
          go_ret
          exact ⟨rfl, B2.trans (hb.mono s2)⟩
end Go.Proofs.Ytmgcgkfjmkgfeaa
