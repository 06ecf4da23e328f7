/- The law on AtomsOf, walked at whatever code. -/
import Derived.Test.YtcplljeglaolgaaLg
import Derived.Test.YtcplljeglaolgaaLf
import Derived.Test.YtcplljeglaolgaaMathF
namespace Go.Proofs.Ytcplljeglaolgaa
open Go.RowKit Go.Deep

theorem leastV_none {m : Mx} (h : hasI (leastV m) = false) : atomsV m = [] := atomsV_no fun h' => by rw [leastV_yes h'.1, h'.2] at h; cases h
/-- A list of numbers in memory of the call's own: as a slice value, entry by entry. -/
theorem list_row {w : World} {base : Nat} {v : Value} {n : Nat} {f : Nat → Value} {z : Nat → Int} (h : w.ownsRow base 3 1 v n ((List.range n).map f)) (hz : ∀ i, i < n → f i = .int .i64 (z i)) :
    ∃ a g cap, v = .slice a n cap ∧ RowAt w w.heap.size a g 0 n z := by
  rcases owns_ways h with ⟨rfl, rfl⟩ | ⟨g, cap, rfl, hc⟩
  · exact ⟨none, 0, 0, rfl, ⟨fun c hc => absurd hc (Nat.not_lt_zero _)⟩⟩
  · exact ⟨some ⟨g, 0, none⟩, g, cap, rfl, ⟨fun c hcn => ⟨rfl, World.block_lt_of_cell? _ _ (hc c hcn), by rw [← hz c hcn]; simpa using hc c hcn⟩⟩⟩
theorem RowAt.more {w : World} {B B' : Nat} {a : Option Addr} {g o n : Nat} {z : Nat → Int} (h : RowAt w B a g o n z) (hB : B ≤ B') : RowAt w B' a g o n z :=
  ⟨fun c hc => by obtain ⟨h1, h2, h3⟩ := h.row c hc; exact ⟨h1, by omega, h3⟩⟩

set_option maxHeartbeats 400000 in
theorem ascend_row {B : Nat} {a : Option Addr} {g n cap : Nat} {y : Nat → Nat} {w : World} (hn : n ≤ 12) (h : RowAt w B a g 0 n (fun j => (y j : Int))) (hup : ∀ j, j + 1 < n → y j < y (j + 1)) (hb : ∀ j, j < n → y j < 12) :
    Calls Try.prog 43 #[.slice a n cap] w fun e w' => e = .returned (.bool true) ∧ Drew w w' := by
  have HU := Lib.hid hup
  have HB := Lib.hid hb
  clear hup hb
  go_enter Try.func43, Try.ntmps43
  go_wp2_with fail
  go_loopw [3] (fun i wr => ∃ k : Nat, 1 ≤ k ∧ i = .int .i64 k ∧ Drew w wr) (fun i _ => n + 1 - (intOf i).toNat)
  case atStart => exact ⟨1, Nat.le_refl _, rfl, Drew.refl _⟩
  case round =>
    obtain ⟨k, hk, rfl, hW⟩ := hrel
    by_cases hlt : k < n
    · have hlt' : (k : Int) < n := by omega
      obtain ⟨k', rfl⟩ : ∃ k', k = k' + 1 := ⟨k - 1, by omega⟩
      obtain ⟨_, _, c1⟩ := (hW.row h).row k' (by omega)
      obtain ⟨rfl, _, c2⟩ := (hW.row h).row (k' + 1) hlt
      rw [Nat.zero_add] at c1 c2
      have e1 : ((k' + 1 : Nat) : Int) - 1 = (k' : Int) := by omega
      have hu := HU.out k' hlt
      have hu' : ¬ ((y (k' + 1) : Nat) : Int) ≤ ((y k' : Nat) : Int) := by omega
      have h1 := HB.out k' (by omega)
      have h2 := HB.out (k' + 1) hlt
      clear h
      go_wp2
      go_quiet (fail)
      go_wp2
      go_roundw
      case rel => exact ⟨k' + 2, by omega, by congr 1, hW.drewN _⟩
      case measure => simp [intOf]; omega
    · have hlt' : ¬ (k : Int) < n := by omega
      go_wp2_with fail
      go_ret
      exact ⟨rfl, hW⟩

set_option maxRecDepth 100000 in
set_option maxHeartbeats 1000000 in
theorem law_AtomsOf {A : Option Addr} {b o n cap : Nat} {z : Nat → Nat} {w : World} (h : CodeAt w A b o n cap z) :
    Calls Try.prog 7 #[.slice A n cap] w fun e w' => e = .returned (.bool true) ∧ Below w.heap.size w w' := by
  have hn := h.hn
  have hc := h.hc
  by_cases hbig : 1048576 < n
  · have hbig' : (1048576 : Int) < n := by omega
    clear h
    go_enter Try.func7, Try.ntmps7
    go_wp2_with fail
    go_ret
    exact ⟨rfl, Below.refl _ _⟩
  · have hbig' : ¬ (1048576 : Int) < n := by omega
    go_enter Try.func7, Try.ntmps7
    go_wp2_with fail
    go_at_call 38
    refine (draw_AtomsOf h).mono ?_
    rintro e w1 ⟨a, l, m, rfl, hm, h12, hL, b1⟩
    clear h
    have hn1 : m.n ≤ 9223372036854775807 := by omega
    have hL1 : ∀ r, r < m.n → m.L r ≤ 9223372036854775807 := fun r hr => by have := hL r hr; omega
    have HL := Lib.hid hL1
    clear hL hL1
    have hal := atomsV_len m
    go_wp2_with fail
    go_at_call 39
    refine (AtomsOf_any hn1 HL.out hm (Nat.le_refl _)).mono ?_
    rintro e w2 ⟨v, rfl, hv2, b2⟩
    have hm2 := (hm.below b2).more b2.size
    have B2 := b1.trans (b2.mono b1.size)
    rw [map_range] at hv2
    have lv : ∀ j, v.ownBlock = some j → j < w2.heap.size := fun j hj => (hv2.lt j hj).2
    clear hm
    go_wp2_with fail
    go_at_call 41
    refine (spec_AtomsOf hn1 HL.out hm2 (Nat.le_refl _)).mono ?_
    rintro e w3 ⟨u, rfl, hu3, b3⟩
    have hm3 := (hm2.below b3).more b3.size
    have B3 := B2.trans (b3.mono B2.size)
    rw [map_range] at hu3
    have hv3 := list_below hv2 b3 lv
    clear hm2 hv2
    go_wp2_with fail
    go_at_call 40
    refine (sameList (by omega) hv3 hu3).mono ?_
    rintro e w4 ⟨rfl, d4⟩
    have q4 := d4.below w3.heap.size
    have hm4 := (hm3.below q4).more q4.size
    have hv4 := d4.list hv3
    have B4 := B3.trans (d4.below w.heap.size)
    clear hm3 hv3 hu3 q4 lv
    go_wp2_with fail
    go_at_call 42
    refine (spec_LeastOf hn1 HL.out hm4).mono ?_
    rintro e w5 ⟨rfl, rfl⟩
    cases hh : hasI (leastV m) with
    | false =>
      have hnil := leastV_none hh
      have hx : ∃ a c, v = .slice a 0 c := by
        rw [hnil] at hv4
        rcases owns_ways hv4 with ⟨rfl, _⟩ | ⟨g, cap, rfl, _⟩
        · exact ⟨none, 0, rfl⟩
        · exact ⟨_, cap, rfl⟩
      obtain ⟨va, vc, rfl⟩ := hx
      clear hv4 hh hnil hal
      go_wp2_with fail
      go_at_call 25
      refine (alive_any _).mono ?_
      rintro e w6 ⟨rfl, b6⟩
      go_wp2_with fail
      go_ret
      exact ⟨rfl, B4.trans (b6.mono B4.size)⟩
    | true =>
      have ho := leastV_order hh
      have hv := leastV_yes ho
      rw [hv] at hh ⊢
      obtain ⟨x, hx, hxe, hxa⟩ := least_parts (orderB_is ho) hh
      have hbel : BelowAll m x := fun k hk => (hxa k hk).1
      rw [hxe]
      have hat := atomsV_yes ho hh
      rw [hat] at hv4 hal
      generalize hN : (atomsTo m m.n).length = N at hv4 hal
      obtain ⟨va, vg, vcap, rfl, hrow⟩ := list_row (z := fun j => (atomY m j : Int)) hv4 (fun i hi => by rw [atomY_get (by omega)])
      have HN := Lib.hid hN
      have HO := Lib.hid ho
      have HB := Lib.hid hbel
      have HI := Lib.hid (orderB_is ho)
      have HS := Lib.hid (orderB_is ho).sq
      have HUP : Hid (∀ j, j + 1 < N → atomY m j < atomY m (j + 1)) := fun j hj => atomY_up (by omega)
      have HAT : Hid (∀ j, j < N → atomY m j < m.n ∧ countI m (atomY m j) = 2) := fun j hj => atomY_is (by omega)
      have HIT : Hid (∀ k, k < m.n → hitB m x k N = true) := fun k hk => by rw [← hN]; exact hitB_all (orderB_is ho) hx hbel hk
      clear hh hv hxe hxa hbel ho hat hN hv4
      obtain ⟨rfl, hg1, hg2⟩ := hm4.top x hx
      clear hg1 hg2
      by_cases hN0 : N = 0
      · subst hN0
        go_wp2_with fail
        go_loop [7] (fun i => ∃ k : Nat, k ≤ m.n ∧ i = .int .i64 k) (fun i => m.n - (intOf i).toNat)
        case atStart => exact ⟨0, Nat.zero_le _, rfl⟩
        case round =>
          obtain ⟨k, hk, rfl⟩ := hrel
          by_cases hlt : k < m.n
          · have hlt' : (k : Int) < m.n := by omega
            obtain rfl : k = x := by simpa [hitB] using HIT.out k hlt
            go_wp2_with fail
            go_loop [8, 9] (fun t i => t = .bool true ∧ i = .int .i64 0) (fun _ _ => 0)
            case atStart => exact ⟨by simp, rfl⟩
            case round =>
              obtain ⟨rfl, rfl⟩ := hrel
              go_wp2_with fail
              go_round
              case rel => exact ⟨k + 1, by omega, by go_num⟩
              case measure => simp [intOf]; omega
          · have hlt' : ¬ (k : Int) < m.n := by omega
            go_wp2_with fail
            go_loop [10] (fun i => i = .int .i64 1) (fun _ => 0)
            case atStart => exact rfl
            case round =>
              obtain rfl := hrel
              go_wp2_with fail
              go_at_call 43
              refine (ascend_row (y := atomY m) (by omega) hrow (fun j hj => absurd hj (by omega)) (fun j hj => absurd hj (Nat.not_lt_zero _))).mono ?_
              rintro e w6 ⟨rfl, d6⟩
              have B6 := B4.trans (d6.below w.heap.size)
              go_wp2_with fail
              go_at_call 25
              refine (alive_any _).mono ?_
              rintro e w7 ⟨rfl, b7⟩
              go_wp2_with fail
              go_ret
              exact ⟨rfl, B6.trans (b7.mono B6.size)⟩
      · obtain ⟨rfl, hg1, hg2⟩ := hrow.row 0 (by omega)
        clear hg1 hg2
        go_wp2_with fail
        go_loop [7] (fun i => ∃ k : Nat, k ≤ m.n ∧ i = .int .i64 k) (fun i => m.n - (intOf i).toNat)
        case atStart => exact ⟨0, Nat.zero_le _, rfl⟩
        case round =>
          obtain ⟨k, hk, rfl⟩ := hrel
          by_cases hlt : k < m.n
          · have hlt' : (k : Int) < m.n := by omega
            have e0 : ((k : Int) == (x : Int)) = hitB m x k 0 := by
              show _ = decide (k = x)
              rw [Bool.eq_iff_iff, beq_iff_eq, decide_eq_true_iff]; omega
            go_wp2_with fail
            go_loop [8, 9] (fun t i => ∃ j : Nat, j ≤ N ∧ i = .int .i64 j ∧ t = .bool (hitB m x k j)) (fun _ i => N - (intOf i).toNat)
            case atStart => exact ⟨0, Nat.zero_le _, rfl, by first | rfl | (simp [hitB]; done) | (rw [← e0])⟩
            case round =>
              obtain ⟨j, hj, rfl, rfl⟩ := hrel
              by_cases hjt : j < N
              · have hjt' : (j : Int) < N := by omega
                obtain ⟨_, _, c1⟩ := hrow.row j hjt
                rw [Nat.zero_add] at c1
                obtain ⟨q1, _⟩ := HAT.out j hjt
                obtain ⟨_, t1, t2⟩ := hm4.sq HS.out q1 hlt
                have HM := Lib.hid hm4
                have HR := Lib.hid hrow
                clear hm4 hrow e0
                cases hq : hitB m x k j with
                | true =>
                  have HQ : Hid (hitB m x k (j + 1) = true) := by show (hitB m x k j || _) = true; rw [hq]; rfl
                  clear hq
                  go_wp2_with fail
                  go_round
                  case rel => exact ⟨j + 1, by omega, by go_num, by rw [HQ.out]⟩
                  case measure => simp [intOf]; omega
                | false =>
                  rcases leB_cases HS.out q1 hlt with ⟨l1, z1⟩ | ⟨l1, z1⟩
                  · have HQ : Hid (hitB m x k (j + 1) = true) := by show (hitB m x k j || leB m (atomY m j) k) = true; rw [hq, l1]; rfl
                    rw [z1] at t2
                    clear hq l1 z1
                    go_wp2_with fail
                    go_round
                    case rel => exact ⟨j + 1, by omega, by go_num, by rw [HQ.out]⟩
                    case measure => simp [intOf]; omega
                  · have HQ : Hid (hitB m x k (j + 1) = false) := by show (hitB m x k j || leB m (atomY m j) k) = false; rw [hq, l1]; rfl
                    rw [z1] at t2
                    clear hq l1 z1
                    go_wp2_with fail
                    go_round
                    case rel => exact ⟨j + 1, by omega, by go_num, by rw [HQ.out]⟩
                    case measure => simp [intOf]; omega
              · have hjt' : ¬ (j : Int) < N := by omega
                have hq : hitB m x k j = true := by
                  obtain rfl : j = N := by omega
                  exact HIT.out k hlt
                rw [hq]
                clear hq e0
                go_wp2_with fail
                go_round
                case rel => exact ⟨k + 1, by omega, by go_num⟩
                case measure => simp [intOf]; omega
          · have hlt' : ¬ (k : Int) < m.n := by omega
            have s4 := B4.size
            go_wp2_with fail
            go_loopw [10] (fun i wi => ∃ j : Nat, 1 ≤ j ∧ j ≤ N ∧ i = .int .i64 j ∧ Below w4.heap.size w4 wi) (fun i _ => N - (intOf i).toNat)
            case atStart => exact ⟨1, Nat.le_refl _, by omega, rfl, Below.refl _ _⟩
            case round =>
              obtain ⟨j, hj1, hj, rfl, hb⟩ := hrel
              have hr5 := hrow.below hb
              by_cases hjt : j < N
              · have hjt' : (j : Int) < N := by omega
                obtain ⟨i, rfl⟩ : ∃ i, j = i + 1 := ⟨j - 1, by omega⟩
                obtain ⟨_, _, c1⟩ := hr5.row i (by omega)
                obtain ⟨_, _, c2⟩ := hr5.row (i + 1) hjt
                rw [Nat.zero_add] at c1 c2
                have e1 : ((i + 1 : Nat) : Int) - 1 = (i : Int) := by omega
                obtain ⟨q1, q2⟩ := HAT.out i (by omega)
                obtain ⟨q3, q4⟩ := HAT.out (i + 1) hjt
                have q5 := HUP.out i hjt
                have hmeet : meetV m (atomY m i) (atomY m (i + 1)) = (x : Int) := by rw [meetV_yes HO.out q1 q3, atoms_meet HI.out hx HB.out q1 q3 q2 q4 (by omega)]
                have HME := Lib.hid hmeet
                have hm5 := (hm4.below hb).more hb.size
                clear hr5 q2 q4 q5 hmeet
                go_wp2_with fail
                have hbd := hb.drew
                have hmd := hm5.drew
                have hi0 : (0 : Int) ≤ (i : Int) := by omega
                have hi1 : (i : Int) < N := by omega
                have hi2 : (0 : Int) ≤ (i : Int) + 1 := by omega
                have hi3 : (i : Int) + 1 < N := by omega
                have hi4 : ((i : Int) + 1).toNat = i + 1 := by omega
                have hw1 : IntKind.i64.wrap ((i : Int) + 1 - 1) = (i : Int) := by rw [IntWalk.i64_in _ (by omega)]; omega
                have hw2 : IntKind.i64.wrap (i : Int) = (i : Int) := IntWalk.i64_in _ (by omega)
                go_region_with (go_at_call 23; refine (MeetOf_any hn1 HL.out hmd (Nat.le_refl _)).mono ?_; rintro e w6 ⟨rfl, b6⟩; rw [HME.out, hasI_nat]; have hb6 := hbd.trans (b6.mono hb.size); clear b6)
                all_goals
                  clear hw1 hw2 hi0 hi1 hi2 hi3 hi4
                  go_wp2_with fail
                  go_roundw
                  case rel => exact ⟨i + 1 + 1, by omega, by omega, by go_num, by assumption⟩
                  case measure => simp [intOf]; omega
              · have hjt' : ¬ (j : Int) < N := by omega
                go_wp2_with fail
                go_at_call 43
                refine (ascend_row (y := atomY m) (by omega) hr5 (fun j hj => HUP.out j hj) (fun j hj => by have := (HAT.out j hj).1; omega)).mono ?_
                rintro e w6 ⟨rfl, d6⟩
                have B5 := (B4.trans (hb.mono s4)).trans (d6.below w.heap.size)
                go_wp2_with fail
                go_at_call 25
                refine (alive_any _).mono ?_
                rintro e w7 ⟨rfl, b7⟩
                go_wp2_with fail
                go_ret
                exact ⟨rfl, B5.trans (b7.mono B5.size)⟩
end Go.Proofs.Ytcplljeglaolgaa
