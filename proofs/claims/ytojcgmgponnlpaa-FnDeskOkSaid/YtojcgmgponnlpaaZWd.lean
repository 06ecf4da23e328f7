import Derived.Test.YtojcgmgponnlpaaZWc
import Derived.RangeFuncNested
import Derived.RangeFuncBound
import Derived.RangeFuncCalls
import Derived.RangeFuncLeaves
import Derived.RangeFuncBox
import Derived.Shelf.Abstract
import Derived.Shelf.RegionOpen
import Derived.OwnWalkIn
import Derived.TacticsInMore
import Derived.LoopNIn
import Derived.LoopIn
namespace Go.Proofs.Ytojcgmgponnlpaa
open Go.RowKit Go.Deep

theorem below_sq {B : Nat} {sa : Option Addr} {l : Lay} {m : Mx} {a b : Nat} {w : World} (h : SqAt w B sa l m) (ha : a < m.n) (hb : b < m.n) :
    Calls Try.prog 61 #[.agg #[.slice sa m.n l.cap], .int .i64 a, .int .i64 b] w fun e w' => e = .returned (.bool (leB m a b)) ∧ Below w.heap.size w w' :=
  have hn := h.hi
  below_any l m a b B sa w h.mat ha (by rw [h.sq.len a ha]; exact hb) (by omega) (by omega) h.hB

set_option maxHeartbeats 400000 in
theorem belowBoth_sq {B : Nat} {sa : Option Addr} {l : Lay} {m : Mx} {c a b : Nat} {w : World} (h : SqAt w B sa l m) (hc : c < m.n) (ha : a < m.n) (hb : b < m.n) :
    Calls Try.prog 118 #[.agg #[.slice sa m.n l.cap], .int .i64 c, .int .i64 a, .int .i64 b] w fun e w' => e = .returned (.bool (bothB m c a b)) ∧ Below w.heap.size w w' := by
  have h1 := h.alloc (.cells #[.slice sa m.n l.cap] 76)
  have hX := Boxd.start w (.slice sa m.n l.cap) 76
  clear h
  cases hz : leB m c a with
  | true =>
    have HZ := Lib.hid hz
    have HR : Hid (leB m c b = bothB m c a b) := by show _ = _; simp [bothB, hz]
    clear hz
    go_enter Try.func118, Try.ntmps118
    go_wp2_with fail
    go_at_call 61
    refine (below_sq h1 hc ha).mono ?_
    rintro e w1 ⟨rfl, hw1⟩
    have hX1 := hX.step hw1
    have hc1 := hX1.cell
    have h2 := h1.step hw1
    rw [HZ.out]
    go_wp2_with fail
    go_at_call 61
    refine (below_sq h2 hc hb).mono ?_
    rintro e w2 ⟨rfl, hw2⟩
    go_wp2_with fail
    go_ret
    exact ⟨ret_bool HR.out, (hX1.step hw2).below⟩
  | false =>
    have HZ := Lib.hid hz
    have HR : Hid (false = bothB m c a b) := by show _ = _; simp [bothB, hz]
    clear hz
    go_enter Try.func118, Try.ntmps118
    go_wp2_with fail
    go_at_call 61
    refine (below_sq h1 hc ha).mono ?_
    rintro e w1 ⟨rfl, hw1⟩
    have hX1 := hX.step hw1
    rw [HZ.out]
    go_wp2_with fail
    go_ret
    exact ⟨ret_bool HR.out, hX1.below⟩

set_option maxHeartbeats 400000 in
theorem takesAlong_sq {B : Nat} {sa : Option Addr} {l : Lay} {m : Mx} {a b : Nat} {w : World} (h : SqAt w B sa l m) (ha : a < m.n) (hb : b < m.n) :
    Calls Try.prog 62 #[.agg #[.slice sa m.n l.cap], .int .i64 a, .int .i64 b] w fun e w' => e = .returned (.bool (takesB m a b)) ∧ Below w.heap.size w w' := by
  have hn := h.hi
  have hX := Boxd.start w (.slice sa m.n l.cap) 76
  go_enter Try.func62, Try.ntmps62
  go_wp2_with fail
  go_loopw [11] (fun i wr => ∃ k : Nat, k ≤ m.n ∧ i = .int .i64 k ∧ Boxd w (.slice sa m.n l.cap) 76 wr ∧ ∀ x, x < k → (!leB m x a || leB m x b) = true) (fun i _ => m.n - (intOf i).toNat)
  case atStart => exact ⟨0, Nat.zero_le _, rfl, hX, fun r hr => absurd hr (Nat.not_lt_zero _)⟩
  case round =>
    clear hX
    obtain ⟨k, hk, rfl, hX, hR0⟩ := hrel
    have hR := Lib.hid hR0
    clear hR0
    by_cases hlt : k < m.n
    · have hlt' : (k : Int) < m.n := by omega
      have h1 := h.step hX.below
      have hc0 := hX.cell
      clear h
      cases hz : leB m k a with
      | true =>
        have HZ := Lib.hid hz
        clear hz
        go_wp2_with fail
        go_at_call 61
        refine (below_sq h1 hlt ha).mono ?_
        rintro e w1 ⟨rfl, hw1⟩
        have hX1 := hX.step hw1
        have hc1 := hX1.cell
        have h2 := h1.step hw1
        rw [HZ.out]
        go_wp2_with fail
        go_at_call 61
        refine (below_sq h2 hlt hb).mono ?_
        rintro e w2 ⟨rfl, hw2⟩
        have hX2 := hX1.step hw2
        cases hy : leB m k b with
        | true =>
          have HY := Lib.hid hy
          clear hy
          go_wp2_with fail
          go_roundw
          case rel => exact ⟨k + 1, by omega, by go_num, hX2, fun x hx => by
            by_cases e : x = k
            · subst e; rw [HY.out]; simp
            · exact hR.out x (by omega)⟩
          case measure => simp [intOf]; omega
        | false =>
          have HY := Lib.hid hy
          clear hy
          go_wp2_with fail
          go_ret
          exact ⟨ret_bool (allB_false hlt (by rw [HZ.out, HY.out]; rfl)).symm, hX2.below⟩
      | false =>
        have HZ := Lib.hid hz
        clear hz
        go_wp2_with fail
        go_at_call 61
        refine (below_sq h1 hlt ha).mono ?_
        rintro e w1 ⟨rfl, hw1⟩
        have hX1 := hX.step hw1
        rw [HZ.out]
        go_wp2_with fail
        go_roundw
        case rel => exact ⟨k + 1, by omega, by go_num, hX1, fun x hx => by
          by_cases e : x = k
          · subst e; rw [HZ.out]; rfl
          · exact hR.out x (by omega)⟩
        case measure => simp [intOf]; omega
    · have hlt' : ¬ (k : Int) < m.n := by omega
      go_wp2_with fail
      go_ret
      exact ⟨ret_bool (allB_true fun x hx => hR.out x (by omega)).symm, hX.below⟩
end Go.Proofs.Ytojcgmgponnlpaa
namespace Go.Proofs.Ytojcgmgponnlpaa
open Go.RowKit Go.Deep

theorem ret_pair {a b : Int} {x y : Bool} (h : a = b) (k : x = y) : Ending.returned (.tuple #[.int .i64 a, .bool x]) = .returned (.tuple #[.int .i64 b, .bool y]) := by rw [h, k]

set_option maxHeartbeats 400000 in
theorem aboveAll_sq {B : Nat} {sa : Option Addr} {l : Lay} {m : Mx} {x a b : Nat} {w : World} (h : SqAt w B sa l m) (hx : x < m.n) (ha : a < m.n) (hb : b < m.n) :
    Calls Try.prog 119 #[.agg #[.slice sa m.n l.cap], .int .i64 x, .int .i64 a, .int .i64 b] w fun e w' => e = .returned (.bool (ubB m x a b)) ∧ Below w.heap.size w w' := by
  have hn := h.hi
  have hX := Boxd.start w (.slice sa m.n l.cap) 76
  go_enter Try.func119, Try.ntmps119
  go_wp2_with fail
  go_loopw [13] (fun i wr => ∃ k : Nat, k ≤ m.n ∧ i = .int .i64 k ∧ Boxd w (.slice sa m.n l.cap) 76 wr ∧ ∀ c, c < k → (!bothB m c a b || leB m c x) = true) (fun i _ => m.n - (intOf i).toNat)
  case atStart => exact ⟨0, Nat.zero_le _, rfl, hX, fun r hr => absurd hr (Nat.not_lt_zero _)⟩
  case round =>
    clear hX
    obtain ⟨k, hk, rfl, hX, hR0⟩ := hrel
    have hR := Lib.hid hR0
    clear hR0
    by_cases hlt : k < m.n
    · have hlt' : (k : Int) < m.n := by omega
      have h1 := h.step hX.below
      have hc0 := hX.cell
      clear h
      cases hz : bothB m k a b with
      | true =>
        have HZ := Lib.hid hz
        clear hz
        go_wp2_with fail
        go_at_call 118
        refine (belowBoth_sq h1 hlt ha hb).mono ?_
        rintro e w1 ⟨rfl, hw1⟩
        have hX1 := hX.step hw1
        have hc1 := hX1.cell
        have h2 := h1.step hw1
        rw [HZ.out]
        go_wp2_with fail
        go_at_call 61
        refine (below_sq h2 hlt hx).mono ?_
        rintro e w2 ⟨rfl, hw2⟩
        have hX2 := hX1.step hw2
        cases hy : leB m k x with
        | true =>
          have HY := Lib.hid hy
          clear hy
          go_wp2_with fail
          go_roundw
          case rel => exact ⟨k + 1, by omega, by go_num, hX2, fun c hc => by
            by_cases e : c = k
            · subst e; rw [HY.out]; simp
            · exact hR.out c (by omega)⟩
          case measure => simp [intOf]; omega
        | false =>
          have HY := Lib.hid hy
          clear hy
          go_wp2_with fail
          go_ret
          exact ⟨ret_bool (allB_false hlt (by rw [HZ.out, HY.out]; rfl)).symm, hX2.below⟩
      | false =>
        have HZ := Lib.hid hz
        clear hz
        go_wp2_with fail
        go_at_call 118
        refine (belowBoth_sq h1 hlt ha hb).mono ?_
        rintro e w1 ⟨rfl, hw1⟩
        have hX1 := hX.step hw1
        rw [HZ.out]
        go_wp2_with fail
        go_roundw
        case rel => exact ⟨k + 1, by omega, by go_num, hX1, fun c hc => by
          by_cases e : c = k
          · subst e; rw [HZ.out]; rfl
          · exact hR.out c (by omega)⟩
        case measure => simp [intOf]; omega
    · have hlt' : ¬ (k : Int) < m.n := by omega
      go_wp2_with fail
      go_ret
      exact ⟨ret_bool (allB_true fun c hc => hR.out c (by omega)).symm, hX.below⟩

set_option maxHeartbeats 400000 in
theorem meet_sq {B : Nat} {sa : Option Addr} {l : Lay} {m : Mx} {a b : Nat} {w : World} (h : SqAt w B sa l m) (ha : a < m.n) (hb : b < m.n) :
    Calls Try.prog 90 #[.agg #[.slice sa m.n l.cap], .int .i64 a, .int .i64 b] w fun e w' => e = .returned (.tuple #[.int .i64 (meetI m a b), .bool (hasI (meetI m a b))]) ∧ Below w.heap.size w w' := by
  have hn := h.hi
  have hX := Boxd.start w (.slice sa m.n l.cap) 76
  go_enter Try.func90, Try.ntmps90
  go_wp2_with fail
  go_loopw [12] (fun i wr => ∃ k : Nat, k ≤ m.n ∧ i = .int .i64 k ∧ Boxd w (.slice sa m.n l.cap) 76 wr ∧ ∀ c, c < k → isMeetB m a b c = false) (fun i _ => m.n - (intOf i).toNat)
  case atStart => exact ⟨0, Nat.zero_le _, rfl, hX, fun r hr => absurd hr (Nat.not_lt_zero _)⟩
  case round =>
    clear hX
    obtain ⟨k, hk, rfl, hX, hR0⟩ := hrel
    have hR := Lib.hid hR0
    clear hR0
    by_cases hlt : k < m.n
    · have hlt' : (k : Int) < m.n := by omega
      have h1 := h.step hX.below
      have hc0 := hX.cell
      clear h
      cases hz : bothB m k a b with
      | true =>
        have HZ := Lib.hid hz
        clear hz
        go_wp2_with fail
        go_at_call 118
        refine (belowBoth_sq h1 hlt ha hb).mono ?_
        rintro e w1 ⟨rfl, hw1⟩
        have hX1 := hX.step hw1
        have hc1 := hX1.cell
        have h2 := h1.step hw1
        rw [HZ.out]
        go_wp2_with fail
        go_at_call 119
        refine (aboveAll_sq h2 hlt ha hb).mono ?_
        rintro e w2 ⟨rfl, hw2⟩
        have hX2 := hX1.step hw2
        cases hy : ubB m k a b with
        | true =>
          have HY := Lib.hid hy
          clear hy
          go_wp2_with fail
          go_ret2
          have hh : meetI m a b = (k : Int) := firstI_hit hlt hR.out (by unfold isMeetB; rw [HZ.out, HY.out]; rfl)
          exact ⟨ret_pair hh.symm (by rw [hh, hasI_nat]), hX2.below⟩
        | false =>
          have HY := Lib.hid hy
          clear hy
          go_wp2_with fail
          go_roundw
          case rel => exact ⟨k + 1, by omega, by go_num, hX2, fun c hc => by
            by_cases e : c = k
            · subst e; unfold isMeetB; rw [HZ.out, HY.out]; rfl
            · exact hR.out c (by omega)⟩
          case measure => simp [intOf]; omega
      | false =>
        have HZ := Lib.hid hz
        clear hz
        go_wp2_with fail
        go_at_call 118
        refine (belowBoth_sq h1 hlt ha hb).mono ?_
        rintro e w1 ⟨rfl, hw1⟩
        have hX1 := hX.step hw1
        rw [HZ.out]
        go_wp2_with fail
        go_roundw
        case rel => exact ⟨k + 1, by omega, by go_num, hX1, fun c hc => by
          by_cases e : c = k
          · subst e; unfold isMeetB; rw [HZ.out]; rfl
          · exact hR.out c (by omega)⟩
        case measure => simp [intOf]; omega
    · have hlt' : ¬ (k : Int) < m.n := by omega
      go_wp2_with fail
      go_ret2
      have hh : meetI m a b = -1 := firstI_none fun c hc => hR.out c (by omega)
      exact ⟨ret_pair hh.symm (by rw [hh]; rfl), hX.below⟩

set_option maxHeartbeats 400000 in
theorem belowAll_sq {B : Nat} {sa : Option Addr} {l : Lay} {m : Mx} {a : Nat} {w : World} (h : SqAt w B sa l m) (ha : a < m.n) :
    Calls Try.prog 120 #[.agg #[.slice sa m.n l.cap], .int .i64 a] w fun e w' => e = .returned (.bool (belowAllB m a)) ∧ Below w.heap.size w w' := by
  have hn := h.hi
  have hX := Boxd.start w (.slice sa m.n l.cap) 76
  go_enter Try.func120, Try.ntmps120
  go_wp2_with fail
  go_loopw [9] (fun i wr => ∃ k : Nat, k ≤ m.n ∧ i = .int .i64 k ∧ Boxd w (.slice sa m.n l.cap) 76 wr ∧ ∀ c, c < k → leB m a c = true) (fun i _ => m.n - (intOf i).toNat)
  case atStart => exact ⟨0, Nat.zero_le _, rfl, hX, fun r hr => absurd hr (Nat.not_lt_zero _)⟩
  case round =>
    clear hX
    obtain ⟨k, hk, rfl, hX, hR0⟩ := hrel
    have hR := Lib.hid hR0
    clear hR0
    by_cases hlt : k < m.n
    · have hlt' : (k : Int) < m.n := by omega
      have h1 := h.step hX.below
      have hc0 := hX.cell
      clear h
      go_wp2_with fail
      go_at_call 61
      refine (below_sq h1 ha hlt).mono ?_
      rintro e w1 ⟨rfl, hw1⟩
      have hX1 := hX.step hw1
      cases hz : leB m a k with
      | true =>
        have HZ := Lib.hid hz
        clear hz
        go_wp2_with fail
        go_roundw
        case rel => exact ⟨k + 1, by omega, by go_num, hX1, fun c hc => by
          by_cases e : c = k
          · subst e; exact HZ.out
          · exact hR.out c (by omega)⟩
        case measure => simp [intOf]; omega
      | false =>
        have HZ := Lib.hid hz
        clear hz
        go_wp2_with fail
        go_ret
        exact ⟨ret_bool (allB_false hlt HZ.out).symm, hX1.below⟩
    · have hlt' : ¬ (k : Int) < m.n := by omega
      go_wp2_with fail
      go_ret
      exact ⟨ret_bool (allB_true fun c hc => hR.out c (by omega)).symm, hX.below⟩

set_option maxHeartbeats 400000 in
theorem least_sq {B : Nat} {sa : Option Addr} {l : Lay} {m : Mx} {w : World} (h : SqAt w B sa l m) :
    Calls Try.prog 91 #[.agg #[.slice sa m.n l.cap]] w fun e w' => e = .returned (.tuple #[.int .i64 (leastI m), .bool (hasI (leastI m))]) ∧ Below w.heap.size w w' := by
  have hn := h.hi
  have hX := Boxd.start w (.slice sa m.n l.cap) 76
  go_enter Try.func91, Try.ntmps91
  go_wp2_with fail
  go_loopw [8] (fun i wr => ∃ k : Nat, k ≤ m.n ∧ i = .int .i64 k ∧ Boxd w (.slice sa m.n l.cap) 76 wr ∧ ∀ c, c < k → belowAllB m c = false) (fun i _ => m.n - (intOf i).toNat)
  case atStart => exact ⟨0, Nat.zero_le _, rfl, hX, fun r hr => absurd hr (Nat.not_lt_zero _)⟩
  case round =>
    clear hX
    obtain ⟨k, hk, rfl, hX, hR0⟩ := hrel
    have hR := Lib.hid hR0
    clear hR0
    by_cases hlt : k < m.n
    · have hlt' : (k : Int) < m.n := by omega
      have h1 := h.step hX.below
      have hc0 := hX.cell
      clear h
      go_wp2_with fail
      go_at_call 120
      refine (belowAll_sq h1 hlt).mono ?_
      rintro e w1 ⟨rfl, hw1⟩
      have hX1 := hX.step hw1
      cases hz : belowAllB m k with
      | true =>
        have HZ := Lib.hid hz
        clear hz
        go_wp2_with fail
        go_ret2
        have hh : leastI m = (k : Int) := firstI_hit hlt hR.out HZ.out
        exact ⟨ret_pair hh.symm (by rw [hh, hasI_nat]), hX1.below⟩
      | false =>
        have HZ := Lib.hid hz
        clear hz
        go_wp2_with fail
        go_roundw
        case rel => exact ⟨k + 1, by omega, by go_num, hX1, fun c hc => by
          by_cases e : c = k
          · subst e; exact HZ.out
          · exact hR.out c (by omega)⟩
        case measure => simp [intOf]; omega
    · have hlt' : ¬ (k : Int) < m.n := by omega
      go_wp2_with fail
      go_ret2
      have hh : leastI m = -1 := firstI_none fun c hc => hR.out c (by omega)
      exact ⟨ret_pair hh.symm (by rw [hh]; rfl), hX.below⟩
end Go.Proofs.Ytojcgmgponnlpaa
namespace Go.Proofs.Ytojcgmgponnlpaa
open Go.RowKit Go.Deep

set_option maxRecDepth 100000 in
set_option maxHeartbeats 1000000 in
theorem rowsOk_any {B : Nat} {a : Option Addr} {l : Lay} {m : Mx} {w : World} (hn : m.n ≤ 9223372036854775807) (hL : ∀ r, r < m.n → m.L r ≤ 9223372036854775807) (h1 : MatAt w B a l m) :
    Calls Try.prog 59 #[.slice a m.n l.cap] w fun e w' => e = .returned (.bool (squareB m)) ∧ w = w' := by
  have HL := Lib.hid hL
  clear hL
  go_enter Try.func59, Try.ntmps59
  go_wp2
  go_loop [9] (fun i => ∃ k : Nat, k ≤ m.n ∧ i = .int .i64 k ∧ (∀ r, r < k → m.L r = m.n ∧ ∀ c, c < m.n → m.Z r c = 0 ∨ m.Z r c = 1)) (fun i => m.n - (intOf i).toNat)
  case atStart => exact ⟨0, Nat.zero_le _, rfl, fun r hr => absurd hr (Nat.not_lt_zero _)⟩
  case round =>
    obtain ⟨k, hk, rfl, hR0⟩ := hrel
    have hR := Lib.hid hR0
    clear hR0
    by_cases hlt : k < m.n
    · have hlt' : (k : Int) < m.n := by omega
      obtain ⟨rfl, _, c1⟩ := h1.top k hlt
      have q1 := Lib.hid h1
      clear h1
      by_cases hlen : m.L k = m.n
      · rw [hlen] at c1
        have HE := Lib.hid hlen
        clear hlen
        obtain ⟨hA, _, _⟩ := q1.out.row k hlt 0 (by rw [HE.out]; omega)
        rw [hA] at c1
        clear hA
        go_wp2
        go_loop [20] (fun i => ∃ j : Nat, j ≤ m.n ∧ i = .int .i64 j ∧ (∀ c, c < j → m.Z k c = 0 ∨ m.Z k c = 1)) (fun i => m.n - (intOf i).toNat)
        case atStart => exact ⟨0, Nat.zero_le _, rfl, fun r hr => absurd hr (Nat.not_lt_zero _)⟩
        case round =>
          obtain ⟨j, hj, rfl, hC0⟩ := hrel
          have hC := Lib.hid hC0
          clear hC0
          by_cases hjt : j < m.n
          · have hjt' : (j : Int) < m.n := by omega
            obtain ⟨hA, _, c2⟩ := q1.out.row k hlt j (by rw [HE.out]; exact hjt)
            by_cases hbit : m.Z k j = 0 ∨ m.Z k j = 1
            · have HB := Lib.hid hbit
              rcases hbit with hz | hz
              all_goals
                rw [hz] at c2
                clear hz hA
                go_wp2
                go_round
                case rel => exact ⟨j + 1, by omega, by go_num, fun c hc => by
                  by_cases e : c = j
                  · subst e; exact HB.out
                  · exact hC.out c (by omega)⟩
                case measure => simp [intOf]; omega
            · have HB := Lib.hid hbit
              have e1 : (m.Z k j != 0) = true := by simp; omega
              have e2 : (m.Z k j != 1) = true := by simp; omega
              clear hbit hA
              go_wp2
              go_ret
              exact ⟨ret_bool (squareB_false fun h => HB.out (h.bit k hlt j hjt)).symm, rfl⟩
          · have hjt' : ¬ (j : Int) < m.n := by omega
            go_wp2
            go_round
            case rel => exact ⟨k + 1, by omega, by go_num, fun r hr => by
              by_cases e : r = k
              · subst e; exact ⟨HE.out, fun c hc => hC.out c (by omega)⟩
              · exact hR.out r (by omega)⟩
            case measure => simp [intOf]; omega
      · have hlen' : ¬ ((m.L k : Int) = m.n) := by omega
        have HE := Lib.hid hlen
        clear hlen
        have hLk := HL.out k hlt
        go_wp2
        go_ret
        exact ⟨ret_bool (squareB_false fun h => HE.out (h.len k hlt)).symm, rfl⟩
    · have hlt' : ¬ (k : Int) < m.n := by omega
      have hSq : Hid (Square m) := ⟨fun r hr => (hR.out r (by omega)).1, fun r hr => (hR.out r (by omega)).2⟩
      clear h1 hR
      go_wp2
      go_ret
      exact ⟨ret_bool (squareB_true hSq.out).symm, rfl⟩
end Go.Proofs.Ytojcgmgponnlpaa
namespace Go.Proofs.Ytojcgmgponnlpaa
open Go.RowKit Go.Deep Go.Shelf

attribute [local go_sem] Oper.semAt_some

abbrev encP {n : Nat} (x : Fin n × Fin n) : Array Value := #[.int .i64 ((x.1.val : Nat) : Int), .int .i64 ((x.2.val : Nat) : Int)]

theorem pairs_any (d : Nat) (v : Value) (w : World) :
    CallsIn Fence.wide d Try.prog 60 #[.agg #[v]] w fun e w' => e = .returned (.func (.func 95) #[] #[.pointer (some ⟨w.heap.size, 0, none⟩)]) ∧ w' = w.alloc (.cells #[v] 76) := by
  refine callsIn_of_wp Try.func60 rfl trivial ?_ rfl
  simp only [Try.ntmps60, List.size_toArray, List.length_cons, List.length_nil, Nat.reduceAdd, Nat.reduceSub, Array.replicate_succ, Array.replicate_zero, List.push_toArray, List.append_toArray, List.nil_append, List.cons_append]
  gi_wp2
  go_ret
  exact ⟨rfl, rfl⟩

theorem room_pairs {n k j : Nat} (hk : k < n) (hj : j < n) : k * n + j < n * n := by
  have h1 : (k + 1) * n ≤ n * n := Nat.mul_le_mul_right n hk
  rw [Nat.succ_mul] at h1
  omega

set_option maxRecDepth 100000 in
set_option maxHeartbeats 2000000 in
theorem pairs_stops (d n : Nat) (hd : 1 ≤ d) (hn : n ≤ 12) (Bx n₀ cap : Nat) (sa : Option Addr) (w : World) (hB0 : Bx < n₀) (hn₀ : n₀ ≤ w.heap.size) (hc : w.cell? ⟨Bx, 0, none⟩ = some (.slice sa n cap)) :
    SeqStopsK Fence.wide d Try.prog 95 #[.pointer (some ⟨Bx, 0, none⟩)] (encP (n := n)) (Below n₀) (fun ys => ∀ a b : Fin n, (a, b) ∈ ys) (fun _ => True) (n * n) w := fun l J Jx W hW _ _ hY h0 => by
  have hcW : W.cell? ⟨Bx, 0, none⟩ = some (.slice sa n cap) := (hW.cell (p := ⟨Bx, 0, none⟩) (by show Bx < _; omega)).trans hc
  have hY := Lib.hid hY
  clear hc hW
  refine callsIn_of_wp Try.func95 rfl trivial ?_ rfl
  simp only [Try.ntmps95, List.size_toArray, List.length_cons, List.length_nil, Nat.reduceAdd, Nat.reduceSub, Array.replicate_succ, Array.replicate_zero, List.push_toArray, List.append_toArray, List.nil_append, List.cons_append]
  gi_wp2
  gi_loopw [8] (fun i wr => ∃ (k : Nat) (pre : List (Fin n × Fin n)), k ≤ n ∧ i = .int .i64 k ∧ J pre wr ∧ Below n₀ W wr ∧ Hid (pre.length = k * n) ∧ Hid (∀ a b : Fin n, a.val < k → (a, b) ∈ pre))
    (fun i _ => n - (intOf i).toNat)
  case atStart => exact ⟨0, [], Nat.zero_le _, rfl, h0, Below.refl _ _, by show _ = _; simp, fun a b h => absurd h (Nat.not_lt_zero _)⟩
  case round =>
    obtain ⟨k, pre, hk, rfl, hJ, hX, hlen, hin⟩ := hrel
    have hcx : wr.cell? ⟨Bx, 0, none⟩ = some (.slice sa n cap) := (hX.cell (p := ⟨Bx, 0, none⟩) hB0).trans hcW
    clear hcW
    by_cases hlt : k < n
    · have hlt' : (k : Int) < n := by omega
      gi_wp2
      gi_loopw [14] (fun i wi => ∃ (j : Nat) (pre' : List (Fin n × Fin n)), j ≤ n ∧ i = .int .i64 j ∧ J pre' wi ∧ Below n₀ wr wi ∧ Hid (pre'.length = k * n + j) ∧ Hid (∀ a b : Fin n, a.val < k ∨ (a.val = k ∧ b.val < j) → (a, b) ∈ pre'))
        (fun i _ => n - (intOf i).toNat)
      case atStart => exact ⟨0, pre, Nat.zero_le _, rfl, hJ, Below.refl _ _, by show _ = _; rw [hlen.out]; simp, fun a b h => by
        rcases h with h | ⟨_, h⟩
        · exact hin.out a b h
        · exact absurd h (Nat.not_lt_zero _)⟩
      case round =>
        obtain ⟨j, pre', hj, rfl, hJ', hX', hlen', hin'⟩ := hrel
        have hcx' : wr.cell? ⟨Bx, 0, none⟩ = some (.slice sa n cap) := (hX'.cell (p := ⟨Bx, 0, none⟩) hB0).trans hcx
        clear hcx
        by_cases hjt : j < n
        · have hjt' : (j : Int) < n := by omega
          obtain ⟨fn, tmps, assign, body, hy, hR⟩ := hY.out pre' (⟨k, hlt⟩, ⟨j, hjt⟩) wr hJ' (by rw [hlen'.out]; exact room_pairs hlt hjt)
          dsimp only [encP] at hy
          gi_wp2
          refine hR.mono ?_
          rintro e W3 (⟨rfl, hJ3, hk3⟩ | ⟨rfl, hJx3⟩)
          · gi_wp2
            go_roundw
            case rel => exact ⟨j + 1, _, by omega, by go_num, hJ3, hX'.trans hk3, by show _ = _; rw [List.length_append, hlen'.out]; simp; omega, fun a b h => by
              rw [List.mem_append]
              by_cases e : a.val = k ∧ b.val = j
              · right
                obtain ⟨e1, e2⟩ := e
                have ea : a = ⟨k, hlt⟩ := Fin.ext e1
                have eb : b = ⟨j, hjt⟩ := Fin.ext e2
                rw [ea, eb]; simp
              · left
                exact hin'.out a b (by omega)⟩
            case measure => simp [intOf]; omega
          · gi_wp2
            refine bodyPost_ret (results_none rfl _ _ _) rfl ?_
            exact ⟨⟨_, rfl⟩, .inr ⟨_, trivial, hJx3⟩⟩
        · have hjt' : ¬ (j : Int) < n := by omega
          gi_wp2
          go_roundw
          case rel => exact ⟨k + 1, pre', by omega, by go_num, hJ', hX.trans hX', by show _ = _; rw [hlen'.out, Nat.succ_mul]; omega, fun a b h => hin'.out a b (by have := b.isLt; omega)⟩
          case measure => simp [intOf]; omega
    · have hlt' : ¬ (k : Int) < n := by omega
      gi_wp2
      go_end0
      exact ⟨⟨_, rfl⟩, .inl ⟨pre, fun a b => hin.out a b (by have := a.isLt; omega), hJ⟩⟩
end Go.Proofs.Ytojcgmgponnlpaa
namespace Go.Proofs.Ytojcgmgponnlpaa
open Go.RowKit Go.Deep Go.Shelf

attribute [local go_sem] Oper.semAt_some

theorem keepsFrom_below {B : Nat} {W w1 : World} (h : Below W.heap.size W w1) : KeepsFrom B W w1 :=
  ⟨h.size, fun k _ _ hk _ => (h.block k (Array.getElem?_eq_some_iff.1 hk).1).trans hk⟩

set_option maxRecDepth 100000 in
set_option maxHeartbeats 2000000 in
theorem OrderOk_square {B : Nat} {sa : Option Addr} {l : Lay} {m : Mx} {w : World} (h : SqAt w B sa l m) (hlo : 1 ≤ m.n) :
    Calls Try.prog 29 #[.slice sa m.n l.cap] w fun e w' => e = .returned (.bool (orderB m)) ∧ Below w.heap.size w w' := by
  have hhi := h.hi
  have h1 := h.alloc (.cells #[.bool false] 4)
  have HSq : Hid (squareB m = true) := squareB_true h.sq
  have e1 : ¬ (m.n : Int) < 1 := by omega
  have e2 : ¬ (12 : Int) < m.n := by omega
  refine (callsIn_wide (n := 9)).1 ?_
  refine callsIn_of_wp_marks Try.func29 rfl trivial ?_ rfl
  simp only [Try.ntmps29, List.size_toArray, List.length_cons, List.length_nil, Nat.reduceAdd, Nat.reduceSub, Array.replicate_succ, Array.replicate_zero, List.push_toArray, List.append_toArray, List.nil_append, List.cons_append]
  gi_wp2_with (refine ⟨trivial, ?_⟩; gi_at_call 59; refine (callsIn_wide.2 (rowsOk_any (by omega) (fun r hr => by rw [h.sq.len r hr]; omega) h1.mat)).mono ?_; rintro e w' ⟨rfl, rfl⟩; rw [HSq.out])
  gi_wp2_with (refine ⟨trivial, ?_⟩; gi_at_call 60; refine (pairs_any _ _ _).mono ?_; rintro e w' ⟨rfl, rfl⟩)
  have b0 := ((Boxed.new w 4 (.bool false)).alloc (.cells #[.slice sa m.n l.cap] 76)).alloc (.cells #[.slice sa m.n l.cap] 76)
  have b1 := (Boxed.new (w.alloc (.cells #[.bool false] 4)) 76 (.slice sa m.n l.cap)).alloc (.cells #[.slice sa m.n l.cap] 76)
  have b2 := Boxed.new ((w.alloc (.cells #[.bool false] 4)).alloc (.cells #[.slice sa m.n l.cap] 76)) 76 (.slice sa m.n l.cap)
  rw [World.size_alloc] at b1
  rw [World.size_alloc, World.size_alloc] at b2
  have hN0 : Hid (∀ W, Below (w.heap.size + 3) (((w.alloc (.cells #[.bool false] 4)).alloc (.cells #[.slice sa m.n l.cap] 76)).alloc (.cells #[.slice sa m.n l.cap] 76)) W →
      W.cell? ⟨w.heap.size, 0, none⟩ = some (.bool false) ∧ W.frozen? ⟨w.heap.size, 0, none⟩ = false ∧ W.cell? ⟨w.heap.size + 1, 0, none⟩ = some (.slice sa m.n l.cap)) := fun W hW =>
    ⟨(hW.cell (p := ⟨w.heap.size, 0, none⟩) (by show w.heap.size < _; omega)).trans b0.cell, (hW.frozen (p := ⟨w.heap.size, 0, none⟩) (by show w.heap.size < _; omega)).trans b0.frozen,
      (hW.cell (p := ⟨w.heap.size + 1, 0, none⟩) (by show w.heap.size + 1 < _; omega)).trans b1.cell⟩
  have hBN : Hid (Below w.heap.size w (((w.alloc (.cells #[.bool false] 4)).alloc (.cells #[.slice sa m.n l.cap] 76)).alloc (.cells #[.slice sa m.n l.cap] 76))) :=
    (((Below.refl _ w).alloc (Nat.le_refl _) _).alloc (by simp) _).alloc (by simp; omega) _
  have hc2 : (((w.alloc (.cells #[.bool false] 4)).alloc (.cells #[.slice sa m.n l.cap] 76)).alloc (.cells #[.slice sa m.n l.cap] 76)).cell? ⟨w.heap.size + 1 + 1, 0, none⟩ = some (.slice sa m.n l.cap) := b2.cell
  have hsz : (((w.alloc (.cells #[.bool false] 4)).alloc (.cells #[.slice sa m.n l.cap] 76)).alloc (.cells #[.slice sa m.n l.cap] 76)).heap.size = w.heap.size + 3 := by simp
  clear b0 b1 b2
  generalize (((w.alloc (.cells #[.bool false] 4)).alloc (.cells #[.slice sa m.n l.cap] 76)).alloc (.cells #[.slice sa m.n l.cap] 76)) = W0 at hN0 hBN hc2 hsz ⊢
  refine wpIn_rangeFunc_ownG rfl (by omega) (gf := 95) (lb := #[.pointer (some ⟨w.heap.size + 1 + 1, 0, none⟩)]) rfl trivial (enters_of Try.func95 (by kernel_rfl) rfl)
    (pairs_stops _ m.n (by omega) hhi (w.heap.size + 1 + 1) (w.heap.size + 3) l.cap sa W0 (by omega) (by omega) hc2) belowK_t (belowK_b (by omega)) (Below.refl _ _) (fun _ => rfl)
    (fun pre W => (∀ p ∈ pre, PairG m p.1.val p.2.val) ∧ Below (w.heap.size + 3) W0 W)
    (fun c _ W => (c = .ret ∧ ¬ IsOrder m) ∧ W.cell? ⟨w.heap.size, 0, none⟩ = some (.bool false) ∧ Below w.heap.size w W)
    (OwnFrom.and (ownFrom_pure _ _) (ownFrom_below (by omega) (by omega)))
    (fun c => OwnFrom.and (ownFrom_pure _ _) (OwnFrom.and (Own.from (fun s A B row hs hg hr => cell_kept hs hg hr) _) (ownFrom_below (Nat.le_refl _) (by omega))))
    ⟨fun p hp => absurd hp (by simp), Below.refl _ _⟩
    (fun x => { tmps := #[.slice sa m.n l.cap, undef, .pointer (some ⟨w.heap.size, 0, none⟩), .pointer (some ⟨w.heap.size + 1, 0, none⟩), .int .i64 ((x.1.val : Nat) : Int), .int .i64 ((x.2.val : Nat) : Int), undef, .slice sa m.n l.cap,
        .int .i64 (m.n : Int), .bool false, .bool false, .slice sa m.n l.cap, .int .i64 (m.n : Int), .bool false, .bool false, .bool false, .slice sa m.n l.cap, .bool true, .bool false, .bool false, .slice sa m.n l.cap,
        .agg #[.slice sa m.n l.cap], .agg #[.slice sa m.n l.cap], .func (.func 95) #[] #[.pointer (some ⟨w.heap.size + 1 + 1, 0, none⟩)], .int .i64 ((x.1.val : Nat) : Int), .int .i64 ((x.2.val : Nat) : Int),
        undef, undef, undef, undef, undef, undef, undef, undef, undef, undef, undef, undef, undef, undef, undef, undef, undef, undef, undef, undef, undef, undef, undef, undef, undef, undef], defers := [] }) ?assign ?body ?done ?stop
  case assign =>
    intro lr x W K hK
    gi_wp2
    exact hK
  case body =>
    rintro lr pre ⟨⟨a, ha⟩, ⟨b, hb⟩⟩ W ⟨hp0, hB⟩ _
    have hp := Lib.hid hp0
    have hBW : Below w.heap.size w W := hBN.out.trans (hB.mono (by omega))
    have hS := h.step hBW
    obtain ⟨hc0, hf0, hc1⟩ := hN0.out W hB
    have hsz1 : w.heap.size + 3 ≤ W.heap.size := by have := hB.size; omega
    have hn1 : 1 ≤ 9 - 1 - 1 := by omega
    dsimp only
    clear hp0 h h1 hc2 HSq
    by_cases hab : a = b
    · subst hab
      cases hle : leB m a a with
      | false =>
        have HL := Lib.hid hle
        clear hle
        gi_wp2_with fail
        refine ⟨trivial, ?_⟩
        refine (CallsIn.inRound lr (callsIn_wide.2 (below_sq hS ha ha))).mono ?_
        rintro e w1 ⟨rfl, hw1⟩
        rw [HL.out]
        have hS1 := hS.step hw1
        have c01 := (hw1.cell (p := ⟨w.heap.size, 0, none⟩) (by show w.heap.size < _; omega)).trans hc0
        have f01 := (hw1.frozen (p := ⟨w.heap.size, 0, none⟩) (by show w.heap.size < _; omega)).trans hf0
        have c11 := (hw1.cell (p := ⟨w.heap.size + 1, 0, none⟩) (by show w.heap.size + 1 < _; omega)).trans hc1
        have z1 := hw1.size
        gi_wp2_with fail
        refine ⟨trivial, ?_⟩
        gi_wp2_with fail
        exact ⟨(keepsFrom_below hw1).trans ((KeepsOthers.setCell _ _ _).from _), ⟨rfl, fun h => leB_not HL.out (h.refl a ha)⟩, World.cell?_setCell_same' _ _ _ (by rw [c01]; rfl), (hBW.trans (hw1.mono (by omega))).setCell (p := ⟨w.heap.size, 0, none⟩) (Nat.le_refl _) _⟩
      | true =>
        have HL := Lib.hid hle
        clear hle
        gi_wp2_with fail
        refine ⟨trivial, ?_⟩
        refine (CallsIn.inRound lr (callsIn_wide.2 (below_sq hS ha ha))).mono ?_
        rintro e w1 ⟨rfl, hw1⟩
        rw [HL.out]
        have hS1 := hS.step hw1
        have c01 := (hw1.cell (p := ⟨w.heap.size, 0, none⟩) (by show w.heap.size < _; omega)).trans hc0
        have f01 := (hw1.frozen (p := ⟨w.heap.size, 0, none⟩) (by show w.heap.size < _; omega)).trans hf0
        have c11 := (hw1.cell (p := ⟨w.heap.size + 1, 0, none⟩) (by show w.heap.size + 1 < _; omega)).trans hc1
        have z1 := hw1.size
        gi_wp2_with fail
        refine ⟨trivial, ?_⟩
        refine (CallsIn.inRound lr (callsIn_wide.2 (below_sq hS1 ha ha))).mono ?_
        rintro e w2 ⟨rfl, hw2⟩
        rw [HL.out]
        have hS2 := hS1.step hw2
        have c02 := (hw2.cell (p := ⟨w.heap.size, 0, none⟩) (by show w.heap.size < _; omega)).trans c01
        have f02 := (hw2.frozen (p := ⟨w.heap.size, 0, none⟩) (by show w.heap.size < _; omega)).trans f01
        have c12 := (hw2.cell (p := ⟨w.heap.size + 1, 0, none⟩) (by show w.heap.size + 1 < _; omega)).trans c11
        have z2 := hw2.size
        gi_wp2_with fail
        refine ⟨trivial, ?_⟩
        refine (CallsIn.inRound lr (callsIn_wide.2 (below_sq hS2 ha ha))).mono ?_
        rintro e w3 ⟨rfl, hw3⟩
        rw [HL.out]
        have hS3 := hS2.step hw3
        have c03 := (hw3.cell (p := ⟨w.heap.size, 0, none⟩) (by show w.heap.size < _; omega)).trans c02
        have f03 := (hw3.frozen (p := ⟨w.heap.size, 0, none⟩) (by show w.heap.size < _; omega)).trans f02
        have c13 := (hw3.cell (p := ⟨w.heap.size + 1, 0, none⟩) (by show w.heap.size + 1 < _; omega)).trans c12
        have z3 := hw3.size
        gi_wp2_with fail
        refine ⟨trivial, ?_⟩
        refine (CallsIn.inRound lr (callsIn_wide.2 (takesAlong_sq hS3 ha ha))).mono ?_
        rintro e w4 ⟨rfl, hw4⟩
        rw [takesB_self]
        have hall : Below W.heap.size W w4 := ((hw1.trans (hw2.mono z1)).trans (hw3.mono (by omega))).trans (hw4.mono (by omega))
        gi_wp2_with fail
        exact ⟨keepsFrom_below hall, hall.mono (by omega), fun p hp' => (List.mem_append.1 hp').elim (hp.out p) (fun e => by simp at e; subst e; exact ⟨by simp [HL.out], fun _ => takesB_self m a⟩), hB.trans (hall.mono (by omega))⟩
    · have hne : ((a : Int) == (b : Int)) = false := by simp; omega
      have HN := Lib.hid hab
      clear hab
      cases hle : leB m a b with
      | false =>
        have HL := Lib.hid hle
        clear hle
        gi_wp2_with fail
        refine ⟨trivial, ?_⟩
        refine (CallsIn.inRound lr (callsIn_wide.2 (below_sq hS ha hb))).mono ?_
        rintro e w1 ⟨rfl, hw1⟩
        rw [HL.out]
        have hS1 := hS.step hw1
        have c01 := (hw1.cell (p := ⟨w.heap.size, 0, none⟩) (by show w.heap.size < _; omega)).trans hc0
        have f01 := (hw1.frozen (p := ⟨w.heap.size, 0, none⟩) (by show w.heap.size < _; omega)).trans hf0
        have c11 := (hw1.cell (p := ⟨w.heap.size + 1, 0, none⟩) (by show w.heap.size + 1 < _; omega)).trans hc1
        have z1 := hw1.size
        gi_wp2_with fail
        refine ⟨trivial, ?_⟩
        gi_wp2_with fail
        refine ⟨trivial, ?_⟩
        refine (CallsIn.inRound lr (callsIn_wide.2 (below_sq hS1 ha hb))).mono ?_
        rintro e w2 ⟨rfl, hw2⟩
        rw [HL.out]
        gi_wp2_with fail
        refine ⟨trivial, ?_⟩
        gi_wp2_with fail
        have hall : Below W.heap.size W w2 := hw1.trans (hw2.mono z1)
        exact ⟨keepsFrom_below hall, hall.mono (by omega), fun p hp' => (List.mem_append.1 hp').elim (hp.out p) (fun e => by simp at e; subst e; exact ⟨by simp [HL.out, HN.out], fun h => by rw [HL.out] at h; cases h⟩), hB.trans (hall.mono (by omega))⟩
      | true =>
        have HL := Lib.hid hle
        clear hle
        cases hle2 : leB m b a with
        | true =>
          have HM := Lib.hid hle2
          clear hle2
          gi_wp2_with fail
          refine ⟨trivial, ?_⟩
          refine (CallsIn.inRound lr (callsIn_wide.2 (below_sq hS ha hb))).mono ?_
          rintro e w1 ⟨rfl, hw1⟩
          rw [HL.out]
          have hS1 := hS.step hw1
          have c01 := (hw1.cell (p := ⟨w.heap.size, 0, none⟩) (by show w.heap.size < _; omega)).trans hc0
          have f01 := (hw1.frozen (p := ⟨w.heap.size, 0, none⟩) (by show w.heap.size < _; omega)).trans hf0
          have c11 := (hw1.cell (p := ⟨w.heap.size + 1, 0, none⟩) (by show w.heap.size + 1 < _; omega)).trans hc1
          have z1 := hw1.size
          gi_wp2_with fail
          refine ⟨trivial, ?_⟩
          refine (CallsIn.inRound lr (callsIn_wide.2 (below_sq hS1 hb ha))).mono ?_
          rintro e w2 ⟨rfl, hw2⟩
          rw [HM.out]
          have hS2 := hS1.step hw2
          have c02 := (hw2.cell (p := ⟨w.heap.size, 0, none⟩) (by show w.heap.size < _; omega)).trans c01
          have f02 := (hw2.frozen (p := ⟨w.heap.size, 0, none⟩) (by show w.heap.size < _; omega)).trans f01
          have c12 := (hw2.cell (p := ⟨w.heap.size + 1, 0, none⟩) (by show w.heap.size + 1 < _; omega)).trans c11
          have z2 := hw2.size
          have hall : Below W.heap.size W w2 := hw1.trans (hw2.mono z1)
          gi_wp2_with fail
          exact ⟨(keepsFrom_below hall).trans ((KeepsOthers.setCell _ _ _).from _), ⟨rfl, fun h => by have := h.anti a b ha hb HN.out (leB_is HL.out); have := leB_is HM.out; omega⟩, World.cell?_setCell_same' _ _ _ (by rw [c02]; rfl), (hBW.trans (hall.mono (by omega))).setCell (p := ⟨w.heap.size, 0, none⟩) (Nat.le_refl _) _⟩
        | false =>
          have HM := Lib.hid hle2
          clear hle2
          cases htk : takesB m a b with
          | true =>
            have HT := Lib.hid htk
            clear htk
            gi_wp2_with fail
            refine ⟨trivial, ?_⟩
            refine (CallsIn.inRound lr (callsIn_wide.2 (below_sq hS ha hb))).mono ?_
            rintro e w1 ⟨rfl, hw1⟩
            rw [HL.out]
            have hS1 := hS.step hw1
            have c01 := (hw1.cell (p := ⟨w.heap.size, 0, none⟩) (by show w.heap.size < _; omega)).trans hc0
            have f01 := (hw1.frozen (p := ⟨w.heap.size, 0, none⟩) (by show w.heap.size < _; omega)).trans hf0
            have c11 := (hw1.cell (p := ⟨w.heap.size + 1, 0, none⟩) (by show w.heap.size + 1 < _; omega)).trans hc1
            have z1 := hw1.size
            gi_wp2_with fail
            refine ⟨trivial, ?_⟩
            refine (CallsIn.inRound lr (callsIn_wide.2 (below_sq hS1 hb ha))).mono ?_
            rintro e w2 ⟨rfl, hw2⟩
            rw [HM.out]
            have hS2 := hS1.step hw2
            have c02 := (hw2.cell (p := ⟨w.heap.size, 0, none⟩) (by show w.heap.size < _; omega)).trans c01
            have f02 := (hw2.frozen (p := ⟨w.heap.size, 0, none⟩) (by show w.heap.size < _; omega)).trans f01
            have c12 := (hw2.cell (p := ⟨w.heap.size + 1, 0, none⟩) (by show w.heap.size + 1 < _; omega)).trans c11
            have z2 := hw2.size
            gi_wp2_with fail
            refine ⟨trivial, ?_⟩
            refine (CallsIn.inRound lr (callsIn_wide.2 (below_sq hS2 ha hb))).mono ?_
            rintro e w3 ⟨rfl, hw3⟩
            rw [HL.out]
            have hS3 := hS2.step hw3
            have c03 := (hw3.cell (p := ⟨w.heap.size, 0, none⟩) (by show w.heap.size < _; omega)).trans c02
            have f03 := (hw3.frozen (p := ⟨w.heap.size, 0, none⟩) (by show w.heap.size < _; omega)).trans f02
            have c13 := (hw3.cell (p := ⟨w.heap.size + 1, 0, none⟩) (by show w.heap.size + 1 < _; omega)).trans c12
            have z3 := hw3.size
            gi_wp2_with fail
            refine ⟨trivial, ?_⟩
            refine (CallsIn.inRound lr (callsIn_wide.2 (takesAlong_sq hS3 ha hb))).mono ?_
            rintro e w4 ⟨rfl, hw4⟩
            rw [HT.out]
            have hall : Below W.heap.size W w4 := ((hw1.trans (hw2.mono z1)).trans (hw3.mono (by omega))).trans (hw4.mono (by omega))
            gi_wp2_with fail
            exact ⟨keepsFrom_below hall, hall.mono (by omega), fun p hp' => (List.mem_append.1 hp').elim (hp.out p) (fun e => by simp at e; subst e; exact ⟨by simp [HL.out, HM.out, HN.out], fun _ => HT.out⟩), hB.trans (hall.mono (by omega))⟩
          | false =>
            have HT := Lib.hid htk
            clear htk
            gi_wp2_with fail
            refine ⟨trivial, ?_⟩
            refine (CallsIn.inRound lr (callsIn_wide.2 (below_sq hS ha hb))).mono ?_
            rintro e w1 ⟨rfl, hw1⟩
            rw [HL.out]
            have hS1 := hS.step hw1
            have c01 := (hw1.cell (p := ⟨w.heap.size, 0, none⟩) (by show w.heap.size < _; omega)).trans hc0
            have f01 := (hw1.frozen (p := ⟨w.heap.size, 0, none⟩) (by show w.heap.size < _; omega)).trans hf0
            have c11 := (hw1.cell (p := ⟨w.heap.size + 1, 0, none⟩) (by show w.heap.size + 1 < _; omega)).trans hc1
            have z1 := hw1.size
            gi_wp2_with fail
            refine ⟨trivial, ?_⟩
            refine (CallsIn.inRound lr (callsIn_wide.2 (below_sq hS1 hb ha))).mono ?_
            rintro e w2 ⟨rfl, hw2⟩
            rw [HM.out]
            have hS2 := hS1.step hw2
            have c02 := (hw2.cell (p := ⟨w.heap.size, 0, none⟩) (by show w.heap.size < _; omega)).trans c01
            have f02 := (hw2.frozen (p := ⟨w.heap.size, 0, none⟩) (by show w.heap.size < _; omega)).trans f01
            have c12 := (hw2.cell (p := ⟨w.heap.size + 1, 0, none⟩) (by show w.heap.size + 1 < _; omega)).trans c11
            have z2 := hw2.size
            gi_wp2_with fail
            refine ⟨trivial, ?_⟩
            refine (CallsIn.inRound lr (callsIn_wide.2 (below_sq hS2 ha hb))).mono ?_
            rintro e w3 ⟨rfl, hw3⟩
            rw [HL.out]
            have hS3 := hS2.step hw3
            have c03 := (hw3.cell (p := ⟨w.heap.size, 0, none⟩) (by show w.heap.size < _; omega)).trans c02
            have f03 := (hw3.frozen (p := ⟨w.heap.size, 0, none⟩) (by show w.heap.size < _; omega)).trans f02
            have c13 := (hw3.cell (p := ⟨w.heap.size + 1, 0, none⟩) (by show w.heap.size + 1 < _; omega)).trans c12
            have z3 := hw3.size
            gi_wp2_with fail
            refine ⟨trivial, ?_⟩
            refine (CallsIn.inRound lr (callsIn_wide.2 (takesAlong_sq hS3 ha hb))).mono ?_
            rintro e w4 ⟨rfl, hw4⟩
            rw [HT.out]
            have hall : Below W.heap.size W w4 := ((hw1.trans (hw2.mono z1)).trans (hw3.mono (by omega))).trans (hw4.mono (by omega))
            have hS4 := hS3.step hw4
            have c04 := (hw4.cell (p := ⟨w.heap.size, 0, none⟩) (by show w.heap.size < _; omega)).trans c03
            have f04 := (hw4.frozen (p := ⟨w.heap.size, 0, none⟩) (by show w.heap.size < _; omega)).trans f03
            have c14 := (hw4.cell (p := ⟨w.heap.size + 1, 0, none⟩) (by show w.heap.size + 1 < _; omega)).trans c13
            have z4 := hw4.size
            gi_wp2_with fail
            exact ⟨(keepsFrom_below hall).trans ((KeepsOthers.setCell _ _ _).from _), ⟨rfl, fun h => by have := (pairG_of_order h ha hb).takes HL.out; rw [HT.out] at this; cases this⟩, World.cell?_setCell_same' _ _ _ (by rw [c04]; rfl), (hBW.trans (hall.mono (by omega))).setCell (p := ⟨w.heap.size, 0, none⟩) (Nat.le_refl _) _⟩
  case done =>
    rintro D ys W hD hys ⟨hp0, hB⟩ hK
    have HO : Hid (orderB m = true) := orderB_true (order_of_pairG hlo hhi h.sq fun a b ha hb => hp0 _ (hys ⟨a, ha⟩ ⟨b, hb⟩))
    clear hp0
    obtain ⟨hc0, hf0, hc1⟩ := hN0.out W hB
    gi_wp2
    have hK' := (KeepsOthers.setCell W ⟨w.heap.size, 0, none⟩ (.bool true)).same D _ hK rfl
    refine ⟨by simp, .inl ⟨_, _, rfl, run_takeDeferred hK', ?_⟩⟩
    have hc5 := cell_kept (World.cell?_setCell_same' W ⟨w.heap.size, 0, none⟩ (.bool true) (by rw [hc0]; rfl)) (grownBy_putObj' _ D (.deferred none)) (fun r e => by cases e; exact ⟨_, hK', rfl⟩)
    refine ⟨.bool true, ?_, ret_bool HO.out.symm, ((hBN.out.trans (hB.mono (by omega))).setCell (p := ⟨w.heap.size, 0, none⟩) (Nat.le_refl _) _).trans (belowK_b (w := w) (Nat.le_refl _) _ D _ _ (by omega) hK' rfl rfl)⟩
    simp [results, Try.f29, go_sem, hc5]
  case stop =>
    rintro D c pre W hD _ ⟨⟨rfl, hbad⟩, hcr, hB⟩ hK
    gi_wp2
    refine ⟨by simp, .inl ⟨_, _, rfl, run_takeDeferred hK, ?_⟩⟩
    have hc5 := cell_kept hcr (grownBy_putObj' _ D (.deferred none)) (fun r e => by cases e; exact ⟨_, hK, rfl⟩)
    refine ⟨.bool false, ?_, ret_bool (orderB_false hbad).symm, hB.trans (belowK_b (w := w) (Nat.le_refl _) W D _ _ (by omega) hK rfl rfl)⟩
    simp [results, Try.f29, go_sem, hc5]
end Go.Proofs.Ytojcgmgponnlpaa
namespace Go.Proofs.Ytojcgmgponnlpaa
open Go.RowKit Go.Deep

theorem sqAt_of {w : World} {B : Nat} {sa : Option Addr} {l : Lay} {m : Mx} (h : MatAt w B sa l m) (hs : Square m) (hi : m.n ≤ 12) (hB : B ≤ w.heap.size) : SqAt w B sa l m := ⟨h, hs, hi, hB⟩

set_option maxRecDepth 100000 in
set_option maxHeartbeats 1000000 in
theorem OrderOk_any {B : Nat} {sa : Option Addr} {l : Lay} {m : Mx} {w : World} (hn : m.n ≤ 9223372036854775807) (hL : ∀ r, r < m.n → m.L r ≤ 9223372036854775807) (h : MatAt w B sa l m) (hB : B ≤ w.heap.size) :
    Calls Try.prog 29 #[.slice sa m.n l.cap] w fun e w' => e = .returned (.bool (orderB m)) ∧ Below w.heap.size w w' := by
  by_cases hlo : m.n < 1
  · have HO : Hid (false = orderB m) := (orderB_false fun h => by have := h.pos; omega).symm
    have e1 : (m.n : Int) < 1 := by omega
    clear hL h
    go_enter Try.func29, Try.ntmps29
    go_wp2_with fail
    exact bodyPost_ret (v := .bool false) (by simp [results, Try.results29, go_sem]) rfl ⟨ret_bool HO.out, (Below.refl _ _).alloc (Nat.le_refl _) _⟩
  · by_cases hhi : 12 < m.n
    · have HO : Hid (false = orderB m) := (orderB_false fun h => by have := h.top; omega).symm
      have e1 : ¬ (m.n : Int) < 1 := by omega
      have e2 : (12 : Int) < m.n := by omega
      clear hL h
      go_enter Try.func29, Try.ntmps29
      go_wp2_with fail
      exact bodyPost_ret (v := .bool false) (by simp [results, Try.results29, go_sem]) rfl ⟨ret_bool HO.out, (Below.refl _ _).alloc (Nat.le_refl _) _⟩
    · by_cases hsq : Square m
      · exact OrderOk_square (sqAt_of h hsq (by omega) hB) (by omega)
      · have HO : Hid (false = orderB m) := (orderB_false fun h => hsq h.sq).symm
        have HS : Hid (squareB m = false) := squareB_false hsq
        have e1 : ¬ (m.n : Int) < 1 := by omega
        have e2 : ¬ (12 : Int) < m.n := by omega
        have h1 := h.alloc hB (.cells #[.bool false] 4)
        clear hsq h
        go_enter Try.func29, Try.ntmps29
        go_wp2_with fail
        go_at_call 59
        refine (rowsOk_any hn hL h1).mono ?_
        rintro e w' ⟨rfl, rfl⟩
        rw [HS.out]
        go_wp2_with fail
        exact bodyPost_ret (v := .bool false) (by simp [results, Try.results29, go_sem]) rfl ⟨ret_bool HO.out, (Below.refl _ _).alloc (Nat.le_refl _) _⟩
end Go.Proofs.Ytojcgmgponnlpaa
