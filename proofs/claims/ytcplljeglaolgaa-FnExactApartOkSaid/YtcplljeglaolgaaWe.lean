/- The walks of the order's methods: all below both, meeting, least, counting. -/
import Derived.Test.YtcplljeglaolgaaWd
namespace Go.Proofs.Ytcplljeglaolgaa
open Go.RowKit Go.Deep

theorem ret_pair {a b : Int} {x y : Bool} (h : a = b) (k : x = y) : Ending.returned (.tuple #[.int .i64 a, .bool x]) = .returned (.tuple #[.int .i64 b, .bool y]) := by rw [h, k]

set_option maxHeartbeats 400000 in
theorem aboveAll_sq {B : Nat} {sa : Option Addr} {l : Lay} {m : Mx} {x a b : Nat} {w : World} (h : SqAt w B sa l m) (hx : x < m.n) (ha : a < m.n) (hb : b < m.n) :
    Calls Try.prog 101 #[.agg #[.slice sa m.n l.cap], .int .i64 x, .int .i64 a, .int .i64 b] w fun e w' => e = .returned (.bool (ubB m x a b)) ∧ Below w.heap.size w w' := by
  have hn := h.hi
  have hX := Boxd.start w (.slice sa m.n l.cap) 62
  go_enter Try.func101, Try.ntmps101
  go_wp2_with fail
  go_loopw [13] (fun i wr => ∃ k : Nat, k ≤ m.n ∧ i = .int .i64 k ∧ Boxd w (.slice sa m.n l.cap) 62 wr ∧ ∀ c, c < k → (!bothB m c a b || leB m c x) = true) (fun i _ => m.n - (intOf i).toNat)
  case atStart => exact ⟨0, Nat.zero_le _, rfl, hX, fun r hr => absurd hr (Nat.not_lt_zero _)⟩
  case round =>
    clear hX
    obtain ⟨k, hk, rfl, hX, hR0⟩ := hrel
    have hR := Lib.hid hR0
    clear hR0
    by_cases hlt : k < m.n
    · have hlt' : (k : Int) < m.n := by omega
      have h1 := h.step hX.below
      have hc0 := hX.cell
      clear h
      cases hz : bothB m k a b with
      | true =>
        have HZ := Lib.hid hz
        clear hz
        go_wp2_with fail
        go_at_call 100
        refine (belowBoth_sq h1 hlt ha hb).mono ?_
        rintro e w1 ⟨rfl, hw1⟩
        have hX1 := hX.step hw1
        have hc1 := hX1.cell
        have h2 := h1.step hw1
        rw [HZ.out]
        go_wp2_with fail
        go_at_call 81
        refine (below_sq h2 hlt hx).mono ?_
        rintro e w2 ⟨rfl, hw2⟩
        have hX2 := hX1.step hw2
        cases hy : leB m k x with
        | true =>
          have HY := Lib.hid hy
          clear hy
          go_wp2_with fail
          go_roundw
          case rel => exact ⟨k + 1, by omega, by go_num, hX2, fun c hc => by
            by_cases e : c = k
            · subst e; rw [HY.out]; simp
            · exact hR.out c (by omega)⟩
          case measure => simp [intOf]; omega
        | false =>
          have HY := Lib.hid hy
          clear hy
          go_wp2_with fail
          go_ret
          exact ⟨ret_bool (allB_false hlt (by rw [HZ.out, HY.out]; rfl)).symm, hX2.below⟩
      | false =>
        have HZ := Lib.hid hz
        clear hz
        go_wp2_with fail
        go_at_call 100
        refine (belowBoth_sq h1 hlt ha hb).mono ?_
        rintro e w1 ⟨rfl, hw1⟩
        have hX1 := hX.step hw1
        rw [HZ.out]
        go_wp2_with fail
        go_roundw
        case rel => exact ⟨k + 1, by omega, by go_num, hX1, fun c hc => by
          by_cases e : c = k
          · subst e; rw [HZ.out]; rfl
          · exact hR.out c (by omega)⟩
        case measure => simp [intOf]; omega
    · have hlt' : ¬ (k : Int) < m.n := by omega
      go_wp2_with fail
      go_ret
      exact ⟨ret_bool (allB_true fun c hc => hR.out c (by omega)).symm, hX.below⟩

set_option maxHeartbeats 400000 in
theorem meet_sq {B : Nat} {sa : Option Addr} {l : Lay} {m : Mx} {a b : Nat} {w : World} (h : SqAt w B sa l m) (ha : a < m.n) (hb : b < m.n) :
    Calls Try.prog 71 #[.agg #[.slice sa m.n l.cap], .int .i64 a, .int .i64 b] w fun e w' => e = .returned (.tuple #[.int .i64 (meetI m a b), .bool (hasI (meetI m a b))]) ∧ Below w.heap.size w w' := by
  have hn := h.hi
  have hX := Boxd.start w (.slice sa m.n l.cap) 62
  go_enter Try.func71, Try.ntmps71
  go_wp2_with fail
  go_loopw [12] (fun i wr => ∃ k : Nat, k ≤ m.n ∧ i = .int .i64 k ∧ Boxd w (.slice sa m.n l.cap) 62 wr ∧ ∀ c, c < k → isMeetB m a b c = false) (fun i _ => m.n - (intOf i).toNat)
  case atStart => exact ⟨0, Nat.zero_le _, rfl, hX, fun r hr => absurd hr (Nat.not_lt_zero _)⟩
  case round =>
    clear hX
    obtain ⟨k, hk, rfl, hX, hR0⟩ := hrel
    have hR := Lib.hid hR0
    clear hR0
    by_cases hlt : k < m.n
    · have hlt' : (k : Int) < m.n := by omega
      have h1 := h.step hX.below
      have hc0 := hX.cell
      clear h
      cases hz : bothB m k a b with
      | true =>
        have HZ := Lib.hid hz
        clear hz
        go_wp2_with fail
        go_at_call 100
        refine (belowBoth_sq h1 hlt ha hb).mono ?_
        rintro e w1 ⟨rfl, hw1⟩
        have hX1 := hX.step hw1
        have hc1 := hX1.cell
        have h2 := h1.step hw1
        rw [HZ.out]
        go_wp2_with fail
        go_at_call 101
        refine (aboveAll_sq h2 hlt ha hb).mono ?_
        rintro e w2 ⟨rfl, hw2⟩
        have hX2 := hX1.step hw2
        cases hy : ubB m k a b with
        | true =>
          have HY := Lib.hid hy
          clear hy
          go_wp2_with fail
          go_ret2
          have hh : meetI m a b = (k : Int) := firstI_hit hlt hR.out (by unfold isMeetB; rw [HZ.out, HY.out]; rfl)
          exact ⟨ret_pair hh.symm (by rw [hh, hasI_nat]), hX2.below⟩
        | false =>
          have HY := Lib.hid hy
          clear hy
          go_wp2_with fail
          go_roundw
          case rel => exact ⟨k + 1, by omega, by go_num, hX2, fun c hc => by
            by_cases e : c = k
            · subst e; unfold isMeetB; rw [HZ.out, HY.out]; rfl
            · exact hR.out c (by omega)⟩
          case measure => simp [intOf]; omega
      | false =>
        have HZ := Lib.hid hz
        clear hz
        go_wp2_with fail
        go_at_call 100
        refine (belowBoth_sq h1 hlt ha hb).mono ?_
        rintro e w1 ⟨rfl, hw1⟩
        have hX1 := hX.step hw1
        rw [HZ.out]
        go_wp2_with fail
        go_roundw
        case rel => exact ⟨k + 1, by omega, by go_num, hX1, fun c hc => by
          by_cases e : c = k
          · subst e; unfold isMeetB; rw [HZ.out]; rfl
          · exact hR.out c (by omega)⟩
        case measure => simp [intOf]; omega
    · have hlt' : ¬ (k : Int) < m.n := by omega
      go_wp2_with fail
      go_ret2
      have hh : meetI m a b = -1 := firstI_none fun c hc => hR.out c (by omega)
      exact ⟨ret_pair hh.symm (by rw [hh]; rfl), hX.below⟩

set_option maxHeartbeats 400000 in
theorem belowAll_sq {B : Nat} {sa : Option Addr} {l : Lay} {m : Mx} {a : Nat} {w : World} (h : SqAt w B sa l m) (ha : a < m.n) :
    Calls Try.prog 105 #[.agg #[.slice sa m.n l.cap], .int .i64 a] w fun e w' => e = .returned (.bool (belowAllB m a)) ∧ Below w.heap.size w w' := by
  have hn := h.hi
  have hX := Boxd.start w (.slice sa m.n l.cap) 62
  go_enter Try.func105, Try.ntmps105
  go_wp2_with fail
  go_loopw [9] (fun i wr => ∃ k : Nat, k ≤ m.n ∧ i = .int .i64 k ∧ Boxd w (.slice sa m.n l.cap) 62 wr ∧ ∀ c, c < k → leB m a c = true) (fun i _ => m.n - (intOf i).toNat)
  case atStart => exact ⟨0, Nat.zero_le _, rfl, hX, fun r hr => absurd hr (Nat.not_lt_zero _)⟩
  case round =>
    clear hX
    obtain ⟨k, hk, rfl, hX, hR0⟩ := hrel
    have hR := Lib.hid hR0
    clear hR0
    by_cases hlt : k < m.n
    · have hlt' : (k : Int) < m.n := by omega
      have h1 := h.step hX.below
      have hc0 := hX.cell
      clear h
      go_wp2_with fail
      go_at_call 81
      refine (below_sq h1 ha hlt).mono ?_
      rintro e w1 ⟨rfl, hw1⟩
      have hX1 := hX.step hw1
      cases hz : leB m a k with
      | true =>
        have HZ := Lib.hid hz
        clear hz
        go_wp2_with fail
        go_roundw
        case rel => exact ⟨k + 1, by omega, by go_num, hX1, fun c hc => by
          by_cases e : c = k
          · subst e; exact HZ.out
          · exact hR.out c (by omega)⟩
        case measure => simp [intOf]; omega
      | false =>
        have HZ := Lib.hid hz
        clear hz
        go_wp2_with fail
        go_ret
        exact ⟨ret_bool (allB_false hlt HZ.out).symm, hX1.below⟩
    · have hlt' : ¬ (k : Int) < m.n := by omega
      go_wp2_with fail
      go_ret
      exact ⟨ret_bool (allB_true fun c hc => hR.out c (by omega)).symm, hX.below⟩

set_option maxHeartbeats 400000 in
theorem least_sq {B : Nat} {sa : Option Addr} {l : Lay} {m : Mx} {w : World} (h : SqAt w B sa l m) :
    Calls Try.prog 79 #[.agg #[.slice sa m.n l.cap]] w fun e w' => e = .returned (.tuple #[.int .i64 (leastI m), .bool (hasI (leastI m))]) ∧ Below w.heap.size w w' := by
  have hn := h.hi
  have hX := Boxd.start w (.slice sa m.n l.cap) 62
  go_enter Try.func79, Try.ntmps79
  go_wp2_with fail
  go_loopw [8] (fun i wr => ∃ k : Nat, k ≤ m.n ∧ i = .int .i64 k ∧ Boxd w (.slice sa m.n l.cap) 62 wr ∧ ∀ c, c < k → belowAllB m c = false) (fun i _ => m.n - (intOf i).toNat)
  case atStart => exact ⟨0, Nat.zero_le _, rfl, hX, fun r hr => absurd hr (Nat.not_lt_zero _)⟩
  case round =>
    clear hX
    obtain ⟨k, hk, rfl, hX, hR0⟩ := hrel
    have hR := Lib.hid hR0
    clear hR0
    by_cases hlt : k < m.n
    · have hlt' : (k : Int) < m.n := by omega
      have h1 := h.step hX.below
      have hc0 := hX.cell
      clear h
      go_wp2_with fail
      go_at_call 105
      refine (belowAll_sq h1 hlt).mono ?_
      rintro e w1 ⟨rfl, hw1⟩
      have hX1 := hX.step hw1
      cases hz : belowAllB m k with
      | true =>
        have HZ := Lib.hid hz
        clear hz
        go_wp2_with fail
        go_ret2
        have hh : leastI m = (k : Int) := firstI_hit hlt hR.out HZ.out
        exact ⟨ret_pair hh.symm (by rw [hh, hasI_nat]), hX1.below⟩
      | false =>
        have HZ := Lib.hid hz
        clear hz
        go_wp2_with fail
        go_roundw
        case rel => exact ⟨k + 1, by omega, by go_num, hX1, fun c hc => by
          by_cases e : c = k
          · subst e; exact HZ.out
          · exact hR.out c (by omega)⟩
        case measure => simp [intOf]; omega
    · have hlt' : ¬ (k : Int) < m.n := by omega
      go_wp2_with fail
      go_ret2
      have hh : leastI m = -1 := firstI_none fun c hc => hR.out c (by omega)
      exact ⟨ret_pair hh.symm (by rw [hh]; rfl), hX.below⟩
end Go.Proofs.Ytcplljeglaolgaa
