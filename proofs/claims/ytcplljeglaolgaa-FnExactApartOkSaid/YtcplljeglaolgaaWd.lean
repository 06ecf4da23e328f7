/- The walks of the order's methods: below, both, all below both, meeting, least, counting. -/
import Derived.Test.YtcplljeglaolgaaWa
namespace Go.Proofs.Ytcplljeglaolgaa
open Go.RowKit Go.Deep

theorem below_sq {B : Nat} {sa : Option Addr} {l : Lay} {m : Mx} {a b : Nat} {w : World} (h : SqAt w B sa l m) (ha : a < m.n) (hb : b < m.n) :
    Calls Try.prog 81 #[.agg #[.slice sa m.n l.cap], .int .i64 a, .int .i64 b] w fun e w' => e = .returned (.bool (leB m a b)) ∧ Below w.heap.size w w' :=
  have hn := h.hi
  below_any l m a b B sa w h.mat ha (by rw [h.sq.len a ha]; exact hb) (by omega) (by omega) h.hB

set_option maxHeartbeats 400000 in
theorem belowBoth_sq {B : Nat} {sa : Option Addr} {l : Lay} {m : Mx} {c a b : Nat} {w : World} (h : SqAt w B sa l m) (hc : c < m.n) (ha : a < m.n) (hb : b < m.n) :
    Calls Try.prog 100 #[.agg #[.slice sa m.n l.cap], .int .i64 c, .int .i64 a, .int .i64 b] w fun e w' => e = .returned (.bool (bothB m c a b)) ∧ Below w.heap.size w w' := by
  have h1 := h.alloc (.cells #[.slice sa m.n l.cap] 62)
  have hX := Boxd.start w (.slice sa m.n l.cap) 62
  clear h
  cases hz : leB m c a with
  | true =>
    have HZ := Lib.hid hz
    have HR : Hid (leB m c b = bothB m c a b) := by show _ = _; simp [bothB, hz]
    clear hz
    go_enter Try.func100, Try.ntmps100
    go_wp2_with fail
    go_at_call 81
    refine (below_sq h1 hc ha).mono ?_
    rintro e w1 ⟨rfl, hw1⟩
    have hX1 := hX.step hw1
    have hc1 := hX1.cell
    have h2 := h1.step hw1
    rw [HZ.out]
    go_wp2_with fail
    go_at_call 81
    refine (below_sq h2 hc hb).mono ?_
    rintro e w2 ⟨rfl, hw2⟩
    go_wp2_with fail
    go_ret
    exact ⟨ret_bool HR.out, (hX1.step hw2).below⟩
  | false =>
    have HZ := Lib.hid hz
    have HR : Hid (false = bothB m c a b) := by show _ = _; simp [bothB, hz]
    clear hz
    go_enter Try.func100, Try.ntmps100
    go_wp2_with fail
    go_at_call 81
    refine (below_sq h1 hc ha).mono ?_
    rintro e w1 ⟨rfl, hw1⟩
    have hX1 := hX.step hw1
    rw [HZ.out]
    go_wp2_with fail
    go_ret
    exact ⟨ret_bool HR.out, hX1.below⟩

set_option maxHeartbeats 400000 in
theorem takesAlong_sq {B : Nat} {sa : Option Addr} {l : Lay} {m : Mx} {a b : Nat} {w : World} (h : SqAt w B sa l m) (ha : a < m.n) (hb : b < m.n) :
    Calls Try.prog 82 #[.agg #[.slice sa m.n l.cap], .int .i64 a, .int .i64 b] w fun e w' => e = .returned (.bool (takesB m a b)) ∧ Below w.heap.size w w' := by
  have hn := h.hi
  have hX := Boxd.start w (.slice sa m.n l.cap) 62
  go_enter Try.func82, Try.ntmps82
  go_wp2_with fail
  go_loopw [11] (fun i wr => ∃ k : Nat, k ≤ m.n ∧ i = .int .i64 k ∧ Boxd w (.slice sa m.n l.cap) 62 wr ∧ ∀ x, x < k → (!leB m x a || leB m x b) = true) (fun i _ => m.n - (intOf i).toNat)
  case atStart => exact ⟨0, Nat.zero_le _, rfl, hX, fun r hr => absurd hr (Nat.not_lt_zero _)⟩
  case round =>
    clear hX
    obtain ⟨k, hk, rfl, hX, hR0⟩ := hrel
    have hR := Lib.hid hR0
    clear hR0
    by_cases hlt : k < m.n
    · have hlt' : (k : Int) < m.n := by omega
      have h1 := h.step hX.below
      have hc0 := hX.cell
      clear h
      cases hz : leB m k a with
      | true =>
        have HZ := Lib.hid hz
        clear hz
        go_wp2_with fail
        go_at_call 81
        refine (below_sq h1 hlt ha).mono ?_
        rintro e w1 ⟨rfl, hw1⟩
        have hX1 := hX.step hw1
        have hc1 := hX1.cell
        have h2 := h1.step hw1
        rw [HZ.out]
        go_wp2_with fail
        go_at_call 81
        refine (below_sq h2 hlt hb).mono ?_
        rintro e w2 ⟨rfl, hw2⟩
        have hX2 := hX1.step hw2
        cases hy : leB m k b with
        | true =>
          have HY := Lib.hid hy
          clear hy
          go_wp2_with fail
          go_roundw
          case rel => exact ⟨k + 1, by omega, by go_num, hX2, fun x hx => by
            by_cases e : x = k
            · subst e; rw [HY.out]; simp
            · exact hR.out x (by omega)⟩
          case measure => simp [intOf]; omega
        | false =>
          have HY := Lib.hid hy
          clear hy
          go_wp2_with fail
          go_ret
          exact ⟨ret_bool (allB_false hlt (by rw [HZ.out, HY.out]; rfl)).symm, hX2.below⟩
      | false =>
        have HZ := Lib.hid hz
        clear hz
        go_wp2_with fail
        go_at_call 81
        refine (below_sq h1 hlt ha).mono ?_
        rintro e w1 ⟨rfl, hw1⟩
        have hX1 := hX.step hw1
        rw [HZ.out]
        go_wp2_with fail
        go_roundw
        case rel => exact ⟨k + 1, by omega, by go_num, hX1, fun x hx => by
          by_cases e : x = k
          · subst e; rw [HZ.out]; rfl
          · exact hR.out x (by omega)⟩
        case measure => simp [intOf]; omega
    · have hlt' : ¬ (k : Int) < m.n := by omega
      go_wp2_with fail
      go_ret
      exact ⟨ret_bool (allB_true fun x hx => hR.out x (by omega)).symm, hX.below⟩
end Go.Proofs.Ytcplljeglaolgaa
