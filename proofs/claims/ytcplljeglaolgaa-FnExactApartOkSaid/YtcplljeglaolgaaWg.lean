/- The iterator over all pairs of answers keeps its contract: it yields each pair, till a round says no more. -/
import Derived.Test.YtcplljeglaolgaaWf
import Derived.RangeFuncNested
import Derived.RangeFuncBound
import Derived.RangeFuncCalls
import Derived.RangeFuncLeaves
import Derived.RangeFuncBox
import Derived.Shelf.Abstract
import Derived.Shelf.RegionOpen
import Derived.OwnWalkIn
import Derived.TacticsInMore
import Derived.LoopNIn
import Derived.LoopIn
namespace Go.Proofs.Ytcplljeglaolgaa
open Go.RowKit Go.Deep Go.Shelf

attribute [local go_sem] Oper.semAt_some

abbrev encP {n : Nat} (x : Fin n × Fin n) : Array Value := #[.int .i64 ((x.1.val : Nat) : Int), .int .i64 ((x.2.val : Nat) : Int)]

theorem pairs_any (d : Nat) (v : Value) (w : World) :
    CallsIn Fence.wide d Try.prog 78 #[.agg #[v]] w fun e w' => e = .returned (.func (.func 104) #[] #[.pointer (some ⟨w.heap.size, 0, none⟩)]) ∧ w' = w.alloc (.cells #[v] 62) := by
  refine callsIn_of_wp Try.func78 rfl trivial ?_ rfl
  simp only [Try.ntmps78, List.size_toArray, List.length_cons, List.length_nil, Nat.reduceAdd, Nat.reduceSub, Array.replicate_succ, Array.replicate_zero, List.push_toArray, List.append_toArray, List.nil_append, List.cons_append]
  gi_wp2
  go_ret
  exact ⟨rfl, rfl⟩

theorem room_pairs {n k j : Nat} (hk : k < n) (hj : j < n) : k * n + j < n * n := by
  have h1 : (k + 1) * n ≤ n * n := Nat.mul_le_mul_right n hk
  rw [Nat.succ_mul] at h1
  omega

set_option maxRecDepth 100000 in
set_option maxHeartbeats 2000000 in
theorem pairs_stops (d n : Nat) (hd : 1 ≤ d) (hn : n ≤ 12) (Bx n₀ cap : Nat) (sa : Option Addr) (w : World) (hB0 : Bx < n₀) (hn₀ : n₀ ≤ w.heap.size) (hc : w.cell? ⟨Bx, 0, none⟩ = some (.slice sa n cap)) :
    SeqStopsK Fence.wide d Try.prog 104 #[.pointer (some ⟨Bx, 0, none⟩)] (encP (n := n)) (Below n₀) (fun ys => ∀ a b : Fin n, (a, b) ∈ ys) (fun _ => True) (n * n) w := fun l J Jx W hW _ _ hY h0 => by
  have hcW : W.cell? ⟨Bx, 0, none⟩ = some (.slice sa n cap) := (hW.cell (p := ⟨Bx, 0, none⟩) (by show Bx < _; omega)).trans hc
  have hY := Lib.hid hY
  clear hc hW
  refine callsIn_of_wp Try.func104 rfl trivial ?_ rfl
  simp only [Try.ntmps104, List.size_toArray, List.length_cons, List.length_nil, Nat.reduceAdd, Nat.reduceSub, Array.replicate_succ, Array.replicate_zero, List.push_toArray, List.append_toArray, List.nil_append, List.cons_append]
  gi_wp2
  gi_loopw [8] (fun i wr => ∃ (k : Nat) (pre : List (Fin n × Fin n)), k ≤ n ∧ i = .int .i64 k ∧ J pre wr ∧ Below n₀ W wr ∧ Hid (pre.length = k * n) ∧ Hid (∀ a b : Fin n, a.val < k → (a, b) ∈ pre))
    (fun i _ => n - (intOf i).toNat)
  case atStart => exact ⟨0, [], Nat.zero_le _, rfl, h0, Below.refl _ _, by show _ = _; simp, fun a b h => absurd h (Nat.not_lt_zero _)⟩
  case round =>
    obtain ⟨k, pre, hk, rfl, hJ, hX, hlen, hin⟩ := hrel
    have hcx : wr.cell? ⟨Bx, 0, none⟩ = some (.slice sa n cap) := (hX.cell (p := ⟨Bx, 0, none⟩) hB0).trans hcW
    clear hcW
    by_cases hlt : k < n
    · have hlt' : (k : Int) < n := by omega
      gi_wp2
      gi_loopw [14] (fun i wi => ∃ (j : Nat) (pre' : List (Fin n × Fin n)), j ≤ n ∧ i = .int .i64 j ∧ J pre' wi ∧ Below n₀ wr wi ∧ Hid (pre'.length = k * n + j) ∧ Hid (∀ a b : Fin n, a.val < k ∨ (a.val = k ∧ b.val < j) → (a, b) ∈ pre'))
        (fun i _ => n - (intOf i).toNat)
      case atStart => exact ⟨0, pre, Nat.zero_le _, rfl, hJ, Below.refl _ _, by show _ = _; rw [hlen.out]; simp, fun a b h => by
        rcases h with h | ⟨_, h⟩
        · exact hin.out a b h
        · exact absurd h (Nat.not_lt_zero _)⟩
      case round =>
        obtain ⟨j, pre', hj, rfl, hJ', hX', hlen', hin'⟩ := hrel
        have hcx' : wr.cell? ⟨Bx, 0, none⟩ = some (.slice sa n cap) := (hX'.cell (p := ⟨Bx, 0, none⟩) hB0).trans hcx
        clear hcx
        by_cases hjt : j < n
        · have hjt' : (j : Int) < n := by omega
          obtain ⟨fn, tmps, assign, body, hy, hR⟩ := hY.out pre' (⟨k, hlt⟩, ⟨j, hjt⟩) wr hJ' (by rw [hlen'.out]; exact room_pairs hlt hjt)
          dsimp only [encP] at hy
          gi_wp2
          refine hR.mono ?_
          rintro e W3 (⟨rfl, hJ3, hk3⟩ | ⟨rfl, hJx3⟩)
          · gi_wp2
            go_roundw
            case rel => exact ⟨j + 1, _, by omega, by go_num, hJ3, hX'.trans hk3, by show _ = _; rw [List.length_append, hlen'.out]; simp; omega, fun a b h => by
              rw [List.mem_append]
              by_cases e : a.val = k ∧ b.val = j
              · right
                obtain ⟨e1, e2⟩ := e
                have ea : a = ⟨k, hlt⟩ := Fin.ext e1
                have eb : b = ⟨j, hjt⟩ := Fin.ext e2
                rw [ea, eb]; simp
              · left
                exact hin'.out a b (by omega)⟩
            case measure => simp [intOf]; omega
          · gi_wp2
            refine bodyPost_ret (results_none rfl _ _ _) rfl ?_
            exact ⟨⟨_, rfl⟩, .inr ⟨_, trivial, hJx3⟩⟩
        · have hjt' : ¬ (j : Int) < n := by omega
          gi_wp2
          go_roundw
          case rel => exact ⟨k + 1, pre', by omega, by go_num, hJ', hX.trans hX', by show _ = _; rw [hlen'.out, Nat.succ_mul]; omega, fun a b h => hin'.out a b (by have := b.isLt; omega)⟩
          case measure => simp [intOf]; omega
    · have hlt' : ¬ (k : Int) < n := by omega
      gi_wp2
      go_end0
      exact ⟨⟨_, rfl⟩, .inl ⟨pre, fun a b => hin.out a b (by have := a.isLt; omega), hJ⟩⟩
end Go.Proofs.Ytcplljeglaolgaa
