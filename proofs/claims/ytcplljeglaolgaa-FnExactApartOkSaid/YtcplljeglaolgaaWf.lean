/- The walk of the program's test whether rows are square and hold noughts and ones. -/
import Derived.Test.YtcplljeglaolgaaWe
namespace Go.Proofs.Ytcplljeglaolgaa
open Go.RowKit Go.Deep

set_option maxRecDepth 100000 in
set_option maxHeartbeats 1000000 in
theorem rowsOk_any {B : Nat} {a : Option Addr} {l : Lay} {m : Mx} {w : World} (hn : m.n ≤ 9223372036854775807) (hL : ∀ r, r < m.n → m.L r ≤ 9223372036854775807) (h1 : MatAt w B a l m) :
    Calls Try.prog 80 #[.slice a m.n l.cap] w fun e w' => e = .returned (.bool (squareB m)) ∧ w = w' := by
  have HL := Lib.hid hL
  clear hL
  go_enter Try.func80, Try.ntmps80
  go_wp2
  go_loop [9] (fun i => ∃ k : Nat, k ≤ m.n ∧ i = .int .i64 k ∧ (∀ r, r < k → m.L r = m.n ∧ ∀ c, c < m.n → m.Z r c = 0 ∨ m.Z r c = 1)) (fun i => m.n - (intOf i).toNat)
  case atStart => exact ⟨0, Nat.zero_le _, rfl, fun r hr => absurd hr (Nat.not_lt_zero _)⟩
  case round =>
    obtain ⟨k, hk, rfl, hR0⟩ := hrel
    have hR := Lib.hid hR0
    clear hR0
    by_cases hlt : k < m.n
    · have hlt' : (k : Int) < m.n := by omega
      obtain ⟨rfl, _, c1⟩ := h1.top k hlt
      have q1 := Lib.hid h1
      clear h1
      by_cases hlen : m.L k = m.n
      · rw [hlen] at c1
        have HE := Lib.hid hlen
        clear hlen
        obtain ⟨hA, _, _⟩ := q1.out.row k hlt 0 (by rw [HE.out]; omega)
        rw [hA] at c1
        clear hA
        go_wp2
        go_loop [20] (fun i => ∃ j : Nat, j ≤ m.n ∧ i = .int .i64 j ∧ (∀ c, c < j → m.Z k c = 0 ∨ m.Z k c = 1)) (fun i => m.n - (intOf i).toNat)
        case atStart => exact ⟨0, Nat.zero_le _, rfl, fun r hr => absurd hr (Nat.not_lt_zero _)⟩
        case round =>
          obtain ⟨j, hj, rfl, hC0⟩ := hrel
          have hC := Lib.hid hC0
          clear hC0
          by_cases hjt : j < m.n
          · have hjt' : (j : Int) < m.n := by omega
            obtain ⟨hA, _, c2⟩ := q1.out.row k hlt j (by rw [HE.out]; exact hjt)
            by_cases hbit : m.Z k j = 0 ∨ m.Z k j = 1
            · have HB := Lib.hid hbit
              rcases hbit with hz | hz
              all_goals
                rw [hz] at c2
                clear hz hA
                go_wp2
                go_round
                case rel => exact ⟨j + 1, by omega, by go_num, fun c hc => by
                  by_cases e : c = j
                  · subst e; exact HB.out
                  · exact hC.out c (by omega)⟩
                case measure => simp [intOf]; omega
            · have HB := Lib.hid hbit
              have e1 : (m.Z k j != 0) = true := by simp; omega
              have e2 : (m.Z k j != 1) = true := by simp; omega
              clear hbit hA
              go_wp2
              go_ret
              exact ⟨ret_bool (squareB_false fun h => HB.out (h.bit k hlt j hjt)).symm, rfl⟩
          · have hjt' : ¬ (j : Int) < m.n := by omega
            go_wp2
            go_round
            case rel => exact ⟨k + 1, by omega, by go_num, fun r hr => by
              by_cases e : r = k
              · subst e; exact ⟨HE.out, fun c hc => hC.out c (by omega)⟩
              · exact hR.out r (by omega)⟩
            case measure => simp [intOf]; omega
      · have hlen' : ¬ ((m.L k : Int) = m.n) := by omega
        have HE := Lib.hid hlen
        clear hlen
        have hLk := HL.out k hlt
        go_wp2
        go_ret
        exact ⟨ret_bool (squareB_false fun h => HE.out (h.len k hlt)).symm, rfl⟩
    · have hlt' : ¬ (k : Int) < m.n := by omega
      have hSq : Hid (Square m) := ⟨fun r hr => (hR.out r (by omega)).1, fun r hr => (hR.out r (by omega)).2⟩
      clear h1 hR
      go_wp2
      go_ret
      exact ⟨ret_bool (squareB_true hSq.out).symm, rfl⟩
end Go.Proofs.Ytcplljeglaolgaa
