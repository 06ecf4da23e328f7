/- The walk of the reference's test whether rows are an order. -/
import Derived.Test.YtojcgmgponnlpaaWa
namespace Go.Proofs.Ytojcgmgponnlpaa
open Go.RowKit Go.Deep

set_option maxRecDepth 100000 in
set_option maxHeartbeats 2000000 in
theorem spec_OrderOk (B : Nat) (a : Option Addr) (l : Lay) (m : Mx) (w : World) (hn : m.n ≤ 9223372036854775807) (hL : ∀ r, r < m.n → m.L r ≤ 9223372036854775807) (h1 : MatAt w B a l m) :
    Calls Try.prog 93 #[.slice a m.n l.cap] w fun e w' => e = .returned (.bool (orderB m)) ∧ w = w' := by
  by_cases hr : 1 ≤ m.n ∧ m.n ≤ 12
  · obtain ⟨hlo, hhi⟩ := hr
    have hd : (decide ((1 : Int) ≤ (m.n : Int)) && decide ((m.n : Int) ≤ 12)) = true := by simp; omega
    have HD := Lib.hid hd
    clear hd
    go_enter Try.func93, Try.ntmps93
    go_wp2_with (go_at_call 56; refine (l1In_any _ _ _ _).mono ?_; rintro e w1 ⟨rfl, rfl⟩; rw [HD.out])
    clear HD
    go_loop [4] (fun i => ∃ k : Nat, k ≤ m.n ∧ i = .int .i64 k ∧ (∀ r, r < k → m.L r = m.n ∧ ∀ c, c < m.n → m.Z r c = 0 ∨ m.Z r c = 1)) (fun i => m.n - (intOf i).toNat)
    case atStart => exact ⟨0, Nat.zero_le _, rfl, fun r hr => absurd hr (Nat.not_lt_zero _)⟩
    case round =>
      obtain ⟨k, hk, rfl, hR0⟩ := hrel
      have hR := Lib.hid hR0
      clear hR0
      by_cases hlt : k < m.n
      · have hlt' : (k : Int) < m.n := by omega
        obtain ⟨rfl, _, c1⟩ := h1.top k hlt
        have q1 := Lib.hid h1
        have HL := Lib.hid hL
        clear h1 hL
        by_cases hlen : m.L k = m.n
        · rw [hlen] at c1
          have HE := Lib.hid hlen
          clear hlen
          go_wp2
          go_loop [5] (fun i => ∃ j : Nat, j ≤ m.n ∧ i = .int .i64 j ∧ (∀ c, c < j → m.Z k c = 0 ∨ m.Z k c = 1)) (fun i => m.n - (intOf i).toNat)
          case atStart => exact ⟨0, Nat.zero_le _, rfl, fun r hr => absurd hr (Nat.not_lt_zero _)⟩
          case round =>
            obtain ⟨j, hj, rfl, hC0⟩ := hrel
            have hC := Lib.hid hC0
            clear hC0
            by_cases hjt : j < m.n
            · have hjt' : (j : Int) < m.n := by omega
              obtain ⟨hA, _, c2⟩ := q1.out.row k hlt j (by rw [HE.out]; exact hjt)
              rw [hA] at c1
              clear hA
              by_cases hbit : m.Z k j = 0 ∨ m.Z k j = 1
              · have HD : Hid ((decide ((0 : Int) ≤ m.Z k j) && decide (m.Z k j ≤ 1)) = true) := by show _ = _; simp; omega
                have HB := Lib.hid hbit
                clear hbit
                go_wp2_with (go_at_call 56; refine (l1In_any _ _ _ _).mono ?_; rintro e w1 ⟨rfl, rfl⟩; rw [HD.out])
                go_round
                case rel => exact ⟨j + 1, by omega, by go_num, fun c hc => by
                  by_cases e : c = j
                  · subst e; exact HB.out
                  · exact hC.out c (by omega)⟩
                case measure => simp [intOf]; omega
              · have HD : Hid ((decide ((0 : Int) ≤ m.Z k j) && decide (m.Z k j ≤ 1)) = false) := by show _ = _; rw [Bool.and_eq_false_iff]; simp; omega
                have HB := Lib.hid hbit
                clear hbit
                go_wp2_with (go_at_call 56; refine (l1In_any _ _ _ _).mono ?_; rintro e w1 ⟨rfl, rfl⟩; rw [HD.out])
                go_ret
                exact ⟨ret_bool (orderB_false fun h => HB.out (h.sq.bit k hlt j hjt)).symm, rfl⟩
            · have hjt' : ¬ (j : Int) < m.n := by omega
              go_wp2
              go_round
              case rel => exact ⟨k + 1, by omega, by go_num, fun r hr => by
                by_cases e : r = k
                · subst e; exact ⟨HE.out, fun c hc => hC.out c (by omega)⟩
                · exact hR.out r (by omega)⟩
              case measure => simp [intOf]; omega
        · have hlen' : ¬ ((m.L k : Int) = m.n) := by omega
          have HE := Lib.hid hlen
          clear hlen
          go_wp2
          go_ret
          exact ⟨ret_bool (orderB_false fun h => HE.out (h.sq.len k hlt)).symm, rfl⟩
      · have hlt' : ¬ (k : Int) < m.n := by omega
        have hSq : Hid (Square m) := ⟨fun r hr => (hR.out r (by omega)).1, fun r hr => (hR.out r (by omega)).2⟩
        have q1 := Lib.hid h1
        clear h1 hL hR
        go_wp2
        go_loop [6] (fun i => ∃ k : Nat, k ≤ m.n ∧ i = .int .i64 k ∧ (∀ a, a < k → ∀ b, b < m.n → PairOk m a b)) (fun i => m.n - (intOf i).toNat)
        case atStart => exact ⟨0, Nat.zero_le _, rfl, fun r hr => absurd hr (Nat.not_lt_zero _)⟩
        case round =>
          obtain ⟨k, hk, rfl, hR0⟩ := hrel
          have hR := Lib.hid hR0
          clear hR0
          by_cases hlt : k < m.n
          · have hlt' : (k : Int) < m.n := by omega
            go_wp2
            go_loop [7] (fun i => ∃ j : Nat, j ≤ m.n ∧ i = .int .i64 j ∧ (∀ b, b < j → PairOk m k b)) (fun i => m.n - (intOf i).toNat)
            case atStart => exact ⟨0, Nat.zero_le _, rfl, fun r hr => absurd hr (Nat.not_lt_zero _)⟩
            case round =>
              obtain ⟨j, hj, rfl, hC0⟩ := hrel
              have hC := Lib.hid hC0
              clear hC0
              by_cases hjt : j < m.n
              · have hjt' : (j : Int) < m.n := by omega
                by_cases hbad : (k = j ∧ m.Z k j = 0) ∨ (k ≠ j ∧ m.Z k j = 1 ∧ m.Z j k = 1)
                · rcases hbad with ⟨rfl, hz⟩ | ⟨hne, hz, hz'⟩
                  · obtain ⟨rfl, t1, t2⟩ := q1.out.sq hSq.out hlt hjt
                    rw [hz] at t2
                    have HZ := Lib.hid hz
                    clear hz
                    go_wp2
                    go_ret
                    exact ⟨ret_bool (orderB_false fun h => by have := h.refl k hlt; have := HZ.out; omega).symm, rfl⟩
                  · obtain ⟨rfl, t1, t2⟩ := q1.out.sq hSq.out hlt hjt
                    obtain ⟨_, t3, t4⟩ := q1.out.sq hSq.out hjt hlt
                    rw [hz] at t2
                    rw [hz'] at t4
                    have HZ : Hid (m.Z k j = 1 ∧ m.Z j k = 1 ∧ k ≠ j) := ⟨hz, hz', hne⟩
                    have e1 : ((k : Int) == (j : Int)) = false := by simp; omega
                    have e2 : ((k : Int) != (j : Int)) = true := by simp; omega
                    clear hz hz' hne
                    go_wp2
                    go_ret
                    exact ⟨ret_bool (orderB_false fun h => by have := h.anti k j hlt hjt HZ.out.2.2 HZ.out.1; have := HZ.out.2.1; omega).symm, rfl⟩
                · have hP : Hid ((k = j → m.Z k j = 1) ∧ (k ≠ j → m.Z k j = 1 → m.Z j k = 0)) := by
                    have b1 := hSq.out.bit k hlt j hjt
                    have b2 := hSq.out.bit j hjt k hlt
                    exact ⟨fun e => by
                      rcases b1 with h | h
                      · exact absurd (Or.inl ⟨e, h⟩) hbad
                      · exact h, fun e h => by
                      rcases b2 with h' | h'
                      · exact h'
                      · exact absurd (Or.inr ⟨e, h, h'⟩) hbad⟩
                  clear hbad
                  obtain ⟨rfl, t1, t2⟩ := q1.out.sq hSq.out hlt hjt
                  obtain ⟨_, t3, t4⟩ := q1.out.sq hSq.out hjt hlt
                  have hways : (k = j ∧ m.Z k j = 1) ∨ (k ≠ j ∧ m.Z k j = 0) ∨ (k ≠ j ∧ m.Z k j = 1 ∧ m.Z j k = 0) := by
                    have b1 := hSq.out.bit k hlt j hjt
                    have p1 := hP.out.1
                    have p2 := hP.out.2
                    by_cases e : k = j
                    · exact .inl ⟨e, p1 e⟩
                    · rcases b1 with h | h
                      · exact .inr (.inl ⟨e, h⟩)
                      · exact .inr (.inr ⟨e, h, p2 e h⟩)
                  rcases hways with ⟨hz0, hz⟩ | ⟨hz0, hz⟩ | ⟨hz0, hz, hz'⟩
                  case inl =>
                    subst hz0
                    have HZ := Lib.hid hz
                    rw [hz] at t2
                    clear hz hP t4
                    go_wp2
                    clear t1 t2 t3
                    go_loop [8] (fun i => ∃ c : Nat, c ≤ m.n ∧ i = .int .i64 c) (fun i => m.n - (intOf i).toNat)
                    case atStart => exact ⟨0, Nat.zero_le _, rfl⟩
                    case round =>
                      obtain ⟨c, hc, rfl⟩ := hrel
                      by_cases hct : c < m.n
                      · have hct' : (c : Int) < m.n := by omega
                        obtain ⟨_, t1, t2⟩ := q1.out.sq hSq.out hlt hlt
                        obtain ⟨_, t3, t5⟩ := q1.out.sq hSq.out hlt hct
                        rw [HZ.out] at t2
                        rcases hSq.out.bit k hlt c hct with hz' | hz'
                        · rw [hz'] at t5
                          clear hz'
                          go_wp2
                          go_round
                          case rel => exact ⟨c + 1, by omega, by go_num⟩
                          case measure => simp [intOf]; omega
                        · rw [hz'] at t5
                          clear hz'
                          go_wp2
                          go_round
                          case rel => exact ⟨c + 1, by omega, by go_num⟩
                          case measure => simp [intOf]; omega
                      · have hct' : ¬ (c : Int) < m.n := by omega
                        go_wp2
                        go_round
                        case rel => exact ⟨k + 1, by omega, by go_num, fun b hb => by
                          by_cases e : b = k
                          · subst e; exact ⟨fun _ => HZ.out, fun e => absurd rfl e, fun x hx _ h => h⟩
                          · exact hC.out b (by omega)⟩
                        case measure => simp [intOf]; omega
                  case' inr.inl =>
                    have e1 : ((k : Int) == (j : Int)) = false := by simp; omega
                    have e2 : ((k : Int) != (j : Int)) = true := by simp; omega
                    rw [hz] at t2
                    clear hz hz0
                    go_wp2
                  case' inr.inr =>
                    have e1 : ((k : Int) == (j : Int)) = false := by simp; omega
                    have e2 : ((k : Int) != (j : Int)) = true := by simp; omega
                    rw [hz] at t2
                    rw [hz'] at t4
                    clear hz hz0 hz'
                    go_wp2
                  all_goals
                    clear t1 t2 t3 t4 e1
                    try clear e2
                    go_loop [8] (fun i => ∃ c : Nat, c ≤ m.n ∧ i = .int .i64 c ∧ (∀ x, x < c → m.Z k j = 1 → m.Z j x = 1 → m.Z k x = 1)) (fun i => m.n - (intOf i).toNat)
                    case atStart => exact ⟨0, Nat.zero_le _, rfl, fun r hr => absurd hr (Nat.not_lt_zero _)⟩
                    case round =>
                      obtain ⟨c, hc, rfl, hT0⟩ := hrel
                      have hT := Lib.hid hT0
                      clear hT0
                      by_cases hct : c < m.n
                      · have hct' : (c : Int) < m.n := by omega
                        obtain ⟨_, t1, t2⟩ := q1.out.sq hSq.out hlt hjt
                        obtain ⟨_, t3, t4⟩ := q1.out.sq hSq.out hjt hct
                        obtain ⟨_, _, t5⟩ := q1.out.sq hSq.out hlt hct
                        have hw2 : (m.Z k j = 0) ∨ (m.Z k j = 1 ∧ m.Z j c = 0) ∨ (m.Z k j = 1 ∧ m.Z j c = 1 ∧ m.Z k c = 1) ∨ (m.Z k j = 1 ∧ m.Z j c = 1 ∧ m.Z k c = 0) := by
                          have b1 := hSq.out.bit k hlt j hjt
                          have b2 := hSq.out.bit j hjt c hct
                          have b3 := hSq.out.bit k hlt c hct
                          omega
                        rcases hw2 with hz | ⟨hz, hz'⟩ | ⟨hz, hz', hz''⟩ | ⟨hz, hz', hz''⟩
                        · have HZ := Lib.hid hz
                          rw [hz] at t2
                          clear hz
                          go_wp2
                          go_round
                          case rel => exact ⟨c + 1, by omega, by go_num, fun x hx => by
                            by_cases e : x = c
                            · subst e; intro h; have := HZ.out; omega
                            · exact hT.out x (by omega)⟩
                          case measure => simp [intOf]; omega
                        · have HZ := Lib.hid hz'
                          rw [hz] at t2
                          rw [hz'] at t4
                          clear hz hz'
                          go_wp2
                          go_round
                          case rel => exact ⟨c + 1, by omega, by go_num, fun x hx => by
                            by_cases e : x = c
                            · subst e; intro _ h; have := HZ.out; omega
                            · exact hT.out x (by omega)⟩
                          case measure => simp [intOf]; omega
                        · have HZ := Lib.hid hz''
                          rw [hz] at t2
                          rw [hz'] at t4
                          rw [hz''] at t5
                          clear hz hz' hz''
                          go_wp2
                          go_round
                          case rel => exact ⟨c + 1, by omega, by go_num, fun x hx => by
                            by_cases e : x = c
                            · subst e; intro _ _; exact HZ.out
                            · exact hT.out x (by omega)⟩
                          case measure => simp [intOf]; omega
                        · have HZ : Hid (m.Z k j = 1 ∧ m.Z j c = 1 ∧ m.Z k c = 0) := ⟨hz, hz', hz''⟩
                          rw [hz] at t2
                          rw [hz'] at t4
                          rw [hz''] at t5
                          clear hz hz' hz''
                          go_wp2
                          go_ret
                          exact ⟨ret_bool (orderB_false fun h => by have := h.trans k j c hlt hjt hct HZ.out.1 HZ.out.2.1; have := HZ.out.2.2; omega).symm, rfl⟩
                      · have hct' : ¬ (c : Int) < m.n := by omega
                        go_wp2
                        go_round
                        case rel => exact ⟨j + 1, by omega, by go_num, fun b hb => by
                          by_cases e : b = j
                          · subst e; exact ⟨hP.out.1, hP.out.2, fun x hx => hT.out x (by omega)⟩
                          · exact hC.out b (by omega)⟩
                        case measure => simp [intOf]; omega
              · have hjt' : ¬ (j : Int) < m.n := by omega
                go_wp2
                go_round
                case rel => exact ⟨k + 1, by omega, by go_num, fun a ha => by
                  by_cases e : a = k
                  · subst e; exact fun b hb => hC.out b (by omega)
                  · exact hR.out a (by omega)⟩
                case measure => simp [intOf]; omega
          · have hlt' : ¬ (k : Int) < m.n := by omega
            go_wp2
            go_ret
            exact ⟨ret_bool (orderB_true (isOrder_of hlo hhi hSq.out fun a ha => hR.out a (by omega))).symm, rfl⟩
  · have hd : (decide ((1 : Int) ≤ (m.n : Int)) && decide ((m.n : Int) ≤ 12)) = false := by
      rw [Bool.and_eq_false_iff]; simp; omega
    have HD := Lib.hid hd
    clear hd
    go_enter Try.func93, Try.ntmps93
    go_wp2_with (go_at_call 56; refine (l1In_any _ _ _ _).mono ?_; rintro e w1 ⟨rfl, rfl⟩; rw [HD.out])
    go_ret
    exact ⟨ret_bool (orderB_false fun h => hr ⟨h.pos, h.top⟩).symm, rfl⟩
end Go.Proofs.Ytojcgmgponnlpaa
