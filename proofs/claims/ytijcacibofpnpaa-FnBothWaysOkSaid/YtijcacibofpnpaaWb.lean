/- The walks of the laws' helpers: how large an argument is, its copy, whether two are equal. -/
import Derived.Test.YtijcacibofpnpaaWa
namespace Go.Proofs.Ytijcacibofpnpaa
open Go.RowKit Go.Deep

theorem infoInt : (Try.prog.info? 3).map (fun i => (i.zero, i.size, i.bytes)) = some (some (.int .i64 0), 1, 8) := by kernel_rfl
theorem infoInts : (Try.prog.info? 24).map (fun i => (i.zero, i.size, i.bytes)) = some (some (.slice none 0 0), 1, 24) := by kernel_rfl

set_option maxHeartbeats 400000 in
theorem eqIntS_same (B : Nat) (a a' : Option Addr) (g g' o o' n cap cap' : Nat) (z : Nat → Int) (w : World) (hn : n ≤ 9223372036854775807)
    (h1 : RowAt w B a g o n z) (h2 : RowAt w B a' g' o' n z) :
    Calls Try.prog 39 #[.slice a n cap, .slice a' n cap'] w fun e w' => e = .returned (.bool true) ∧ Drew w w' := by
  go_enter Try.func39, Try.ntmps39
  go_wp2
  go_loopw [5] (fun i wr => ∃ k : Nat, k ≤ n ∧ i = .int .i64 k ∧ Drew w wr) (fun i _ => n - (intOf i).toNat)
  case atStart => exact ⟨0, Nat.zero_le _, rfl, Drew.refl _⟩
  case round =>
    obtain ⟨k, hk, rfl, hW⟩ := hrel
    by_cases hlt : k < n
    · have r1 := (hW.row h1).row k hlt
      have r2 := (hW.row h2).row k hlt
      obtain ⟨rfl, _, c1⟩ := r1
      obtain ⟨rfl, _, c2⟩ := r2
      have hlt' : (k : Int) < n := by omega
      go_wp2
      go_quiet (fail)
      go_wp2
      go_roundw
      case rel => exact ⟨k + 1, by omega, by go_num, hW.drewN _⟩
      case measure => simp [intOf]; omega
    · obtain rfl : n = k := by omega
      go_wp2
      go_ret
      exact ⟨rfl, hW⟩

set_option maxHeartbeats 400000 in
theorem eqIntSS_same (B : Nat) (a a' : Option Addr) (l l' : Lay) (m : Mx) (w : World) (hn : m.n ≤ 9223372036854775807) (hL : ∀ r, r < m.n → m.L r ≤ 9223372036854775807)
    (h1 : MatAt w B a l m) (h2 : MatAt w B a' l' m) :
    Calls Try.prog 68 #[.slice a m.n l.cap, .slice a' m.n l'.cap] w fun e w' => e = .returned (.bool true) ∧ Drew w w' := by
  go_enter Try.func68, Try.ntmps68
  go_wp2
  go_loopw [5] (fun i wr => ∃ k : Nat, k ≤ m.n ∧ i = .int .i64 k ∧ Drew w wr) (fun i _ => m.n - (intOf i).toNat)
  case atStart => exact ⟨0, Nat.zero_le _, rfl, Drew.refl _⟩
  case round =>
    obtain ⟨k, hk, rfl, hW⟩ := hrel
    by_cases hlt : k < m.n
    · have m1 := hW.mat h1
      have m2 := hW.mat h2
      obtain ⟨rfl, _, c1⟩ := m1.top k hlt
      obtain ⟨rfl, _, c2⟩ := m2.top k hlt
      have q1 := m1.rowAt hlt
      have q2 := m2.rowAt hlt
      have hlt' : (k : Int) < m.n := by omega
      have hLk := hL k hlt
      clear m1 m2 hL h1 h2
      go_wp2
      go_quiet ((go_at_call 39; exact quiet_drew (eqIntS_same B _ _ _ _ _ _ _ _ _ _ _ hLk (q1.drewN _) (q2.drewN _))))
      go_wp2
      go_roundw
      case rel => exact ⟨k + 1, by omega, by go_num, hW.drewN _⟩
      case measure => simp [intOf]; omega
    · have hkn' : ¬ (k : Int) < m.n := by omega
      clear hL h1 h2
      go_wp2
      go_ret
      exact ⟨rfl, hW⟩

/-- The copy of a row, k of its cells filled. -/
structure CopyS (w wr : World) (n k : Nat) (z : Nat → Int) : Prop where
  old : Below w.heap.size w wr
  size : wr.heap.size = w.heap.size + 1
  row : wr.rowIs w.heap.size 3 n (fun i => if i < k then .int .i64 (z i) else .int .i64 0)

set_option maxHeartbeats 400000 in
theorem toIntS_any (B : Nat) (a : Option Addr) (g o n cap : Nat) (z : Nat → Int) (w : World) (hn : n ≤ 1048576) (h1 : RowAt w B a g o n z) (hB : B ≤ w.heap.size) :
    Calls Try.prog 67 #[.slice a n cap] w fun e w' => e = .returned (.slice (some ⟨w.heap.size, 0, none⟩) n n) ∧ CopyS w w' n n z := by
  have hmk := run_make_row' (P := Try.prog) 24 3 (.int .i64 0) 8 Try.underlying24 infoInt rfl .i64 .i64 n (by omega) (by omega)
  go_enter Try.func67, Try.ntmps67
  go_wp2
  clear hmk
  go_loopw [4] (fun i wr => ∃ k : Nat, k ≤ n ∧ i = .int .i64 k ∧ CopyS w wr n k z) (fun i _ => n - (intOf i).toNat)
  case atStart => exact ⟨0, Nat.zero_le _, rfl, (Below.refl _ _).alloc (Nat.le_refl _) _, by simp, (World.rowIs_made w _ n 3).congr (fun i _ => by simp)⟩
  case round =>
    obtain ⟨k, hk, rfl, hC⟩ := hrel
    by_cases hlt : k < n
    · obtain ⟨rfl, _, c1⟩ := (h1.below (hC.old.mono hB)).row k hlt
      have g4 : wr.cell? ⟨w.heap.size, k, none⟩ = some (.int .i64 0) := by simpa using hC.row.cell hlt
      have g5 : wr.frozen? ⟨w.heap.size, k, none⟩ = false := hC.row.frozen k
      have hlt' : (k : Int) < n := by omega
      go_wp2
      go_roundw
      case rel =>
        refine ⟨k + 1, by omega, by go_num, hC.old.setCell (Nat.le_refl _) _, by simp [hC.size], (hC.row.set k _).congr (fun i _ => ?_)⟩
        by_cases e : i = k
        · subst e; simp
        · rw [if_neg e]
          by_cases hi : i < k
          · rw [if_pos hi, if_pos (by omega)]
          · rw [if_neg hi, if_neg (by omega)]
      case measure => simp [intOf]; omega
    · obtain rfl : n = k := by omega
      clear h1
      go_wp2
      go_ret
      exact ⟨rfl, hC⟩
/-- The copy of rows, k of them made: the outer block, then one block a row. -/
structure OutS (w wr : World) (m : Mx) (k : Nat) : Prop where
  old : Below w.heap.size w wr
  size : wr.heap.size = w.heap.size + 1 + k
  top : wr.rowIs w.heap.size 24 m.n (fun r => if r < k then .slice (some ⟨w.heap.size + 1 + r, 0, none⟩) (m.L r) (m.L r) else .slice none 0 0)
  row : ∀ r, r < k → wr.rowIs (w.heap.size + 1 + r) 3 (m.L r) (fun c => .int .i64 (m.Z r c))

/-- Where a copy lies. -/
def freshLay (N : Nat) (m : Mx) : Lay := ⟨N, 0, m.n, fun r => some ⟨N + 1 + r, 0, none⟩, m.L, fun r => N + 1 + r, fun _ => 0⟩

theorem OutS.mat {w wr : World} {m : Mx} (h : OutS w wr m m.n) : MatAt wr wr.heap.size (some ⟨w.heap.size, 0, none⟩) (freshLay w.heap.size m) m :=
  ⟨fun r hr => ⟨rfl, by have := h.size; show w.heap.size < _; omega, by
      have := h.top.cell hr
      rw [if_pos hr] at this
      simpa [freshLay] using this⟩,
   fun r hr c hc => ⟨rfl, by have := h.size; show w.heap.size + 1 + r < _; omega, by simpa [freshLay] using (h.row r hr).cell hc⟩⟩

theorem OutS.step {w wr w1 : World} {m : Mx} {k : Nat} (h : OutS w wr m k) (hC : CopyS wr w1 (m.L k) (m.L k) (m.Z k)) (hk : k < m.n) :
    OutS w (w1.setCell ⟨w.heap.size, k, none⟩ (.slice (some ⟨wr.heap.size, 0, none⟩) (m.L k) (m.L k))) m (k + 1) := by
  have hs := h.size
  have hN : w.heap.size < wr.heap.size := by omega
  have htop : w1.rowIs w.heap.size 24 m.n (fun r => if r < k then .slice (some ⟨w.heap.size + 1 + r, 0, none⟩) (m.L r) (m.L r) else .slice none 0 0) := h.top.of_block (hC.old.block _ hN)
  refine ⟨(h.old.trans (hC.old.mono (by omega))).setCell (Nat.le_refl _) _, by simp [hC.size, hs]; omega, (htop.set k _).congr (fun r _ => ?_), fun r hr => ?_⟩
  · by_cases e : r = k
    · subst e; rw [if_pos rfl, if_pos (by omega), hs]
    · rw [if_neg e]
      by_cases hi : r < k
      · rw [if_pos hi, if_pos (by omega)]
      · rw [if_neg hi, if_neg (by omega)]
  · by_cases e : r = k
    · subst e
      have := hC.row
      rw [hs] at this
      exact (this.setOther (by show w.heap.size + 1 + r ≠ w.heap.size; omega) _).congr (fun c hc => by rw [if_pos hc])
    · exact ((h.row r (by omega)).of_block (hC.old.block _ (by omega))).setOther (by show w.heap.size + 1 + r ≠ w.heap.size; omega) _

set_option maxHeartbeats 400000 in
theorem toIntSS_any (B : Nat) (a : Option Addr) (l : Lay) (m : Mx) (w : World) (hn : m.n ≤ 1048576) (hL : ∀ r, r < m.n → m.L r ≤ 1048576) (h1 : MatAt w B a l m) (hB : B ≤ w.heap.size) :
    Calls Try.prog 66 #[.slice a m.n l.cap] w fun e w' => e = .returned (.slice (some ⟨w.heap.size, 0, none⟩) m.n m.n) ∧ OutS w w' m m.n := by
  have hmk := run_make_row' (P := Try.prog) 23 24 (.slice none 0 0) 24 Try.underlying23 infoInts rfl .i64 .i64 m.n (by omega) (by omega)
  go_enter Try.func66, Try.ntmps66
  go_wp2
  clear hmk
  go_loopw [4] (fun i wr => ∃ k : Nat, k ≤ m.n ∧ i = .int .i64 k ∧ OutS w wr m k) (fun i _ => m.n - (intOf i).toNat)
  case atStart => exact ⟨0, Nat.zero_le _, rfl, (Below.refl _ _).alloc (Nat.le_refl _) _, by simp, (World.rowIs_made w _ m.n 24).congr (fun i _ => by simp), fun r hr => absurd hr (Nat.not_lt_zero _)⟩
  case round =>
    obtain ⟨k, hk, rfl, hC⟩ := hrel
    by_cases hlt : k < m.n
    · have m1 := h1.below (hC.old.mono hB)
      obtain ⟨rfl, _, c1⟩ := m1.top k hlt
      have q1 := m1.rowAt hlt
      have hLk := hL k hlt
      have hlt' : (k : Int) < m.n := by omega
      have hN : w.heap.size < wr.heap.size := by have := hC.size; omega
      have hB' : B ≤ wr.heap.size := by omega
      clear m1 hL h1
      go_wp2_with (go_at_call 67; refine (toIntS_any B _ _ _ _ _ _ _ hLk q1 hB').mono ?_; rintro e w1 ⟨rfl, hS⟩; have g4 : w1.cell? ⟨w.heap.size, k, none⟩ = some (.slice none 0 0) := (hS.old.cell (p := ⟨w.heap.size, k, none⟩) hN).trans (by simpa using hC.top.cell hlt); have g5 : w1.frozen? ⟨w.heap.size, k, none⟩ = false := (hS.old.frozen (p := ⟨w.heap.size, k, none⟩) hN).trans (hC.top.frozen k))
      go_roundw
      case rel => exact ⟨k + 1, by omega, by go_num, hC.step hS hlt⟩
      case measure => simp [intOf]; omega
    · obtain hkn : k = m.n := by omega
      have hkn' : ¬ (k : Int) < m.n := by omega
      have HK : Hid (k = m.n) := hkn
      clear hkn hL h1
      go_wp2
      go_ret
      exact ⟨rfl, by rw [← HK.out]; exact hC⟩

/-- What the size's reckoning leaves: it is too large, or all lengths are within the bound. -/
def SzPost (m : Mx) (e : Ending) : Prop := ∃ v : Int, e = .returned (.int .i64 v) ∧ (v < 0 ∨ (m.n ≤ 1048576 ∧ (∀ r, r < m.n → m.L r ≤ 1048576) ∧ 0 ≤ v ∧ v ≤ 1048576))

set_option maxHeartbeats 400000 in
theorem szIntSS_any (B : Nat) (a : Option Addr) (l : Lay) (m : Mx) (w : World) (hn : m.n ≤ 9223372036854775807) (hL : ∀ r, r < m.n → m.L r ≤ 9223372036854775807) (h1 : MatAt w B a l m) :
    Calls Try.prog 64 #[.slice a m.n l.cap, .int .i64 1048576] w fun e w' => SzPost m e ∧ w = w' := by
  by_cases hbig : 1048576 < m.n
  · have hb' : (1048576 : Int) - m.n < 0 := by omega
    go_enter Try.func64, Try.ntmps64
    go_wp2
    go_ret
    exact ⟨⟨-1, rfl, .inl (by omega)⟩, rfl⟩
  have hb' : ¬ (1048576 : Int) - m.n < 0 := by omega
  go_enter Try.func64, Try.ntmps64
  go_wp2
  go_loop [1, 5] (fun t i => ∃ (k : Nat) (v : Int), k ≤ m.n ∧ i = .int .i64 k ∧ t = .int .i64 v ∧ 0 ≤ v ∧ v ≤ 1048576 ∧ ∀ r, r < k → m.L r ≤ 1048576) (fun _ i => m.n - (intOf i).toNat)
  case atStart => exact ⟨0, (1048576 : Int) - m.n, Nat.zero_le _, rfl, rfl, by omega, by omega, fun r hr => absurd hr (Nat.not_lt_zero _)⟩
  case round =>
    obtain ⟨k, v, hk, rfl, rfl, hv0, hv1, hR⟩ := hrel
    have HR := Lib.hid hR
    clear hR
    by_cases hlt : k < m.n
    · obtain ⟨rfl, _, c1⟩ := h1.top k hlt
      have hLk := hL k hlt
      have hlt' : (k : Int) < m.n := by omega
      clear hL h1
      by_cases hv : v < m.L k
      · go_wp2_with (go_at_call 65; refine (szIntS_neg _ _ _ _ _ hLk hv0 hv1 hv).mono ?_; rintro e w1 ⟨rfl, rfl⟩)
        go_ret
        exact ⟨⟨-1, rfl, .inl (by omega)⟩, rfl⟩
      · have hv' : ¬ v - (m.L k : Int) < 0 := by omega
        go_wp2_with (go_at_call 65; refine (szIntS_pos _ _ _ _ _ hLk hv0 hv1 hv).mono ?_; rintro e w1 ⟨rfl, rfl⟩)
        go_round
        case rel => exact ⟨k + 1, v - m.L k, by omega, by go_num, rfl, by omega, by omega, fun r hr => by
          by_cases e : r = k
          · subst e; omega
          · exact HR.out r (by omega)⟩
        case measure => simp [intOf]; omega
    · have hkn' : ¬ (k : Int) < m.n := by omega
      clear hL h1
      go_wp2
      go_ret
      exact ⟨⟨v, rfl, .inr ⟨by omega, fun r hr => HR.out r (by omega), hv0, hv1⟩⟩, rfl⟩
end Go.Proofs.Ytijcacibofpnpaa
