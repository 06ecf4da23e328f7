/- Marks in rows of numbers, whatever number they begin with. -/
import Derived.Test.YtojcgmgponnlpaaGa
namespace Go.Proofs.Ytojcgmgponnlpaa
open Go.RowKit Go.Deep

set_option maxHeartbeats 400000 in
theorem markIntS_x {B : Nat} {a : Option Addr} {g o n cap : Nat} {z : Nat → Int} {k0 : Int} {w : World} (hn : n ≤ 1048576) (h0 : 0 ≤ k0) (h1 : k0 ≤ 4611686018427387904) (h : RowW w B a g o n z) :
    Calls Try.prog 77 #[.slice a n cap, .int .i64 k0] w fun e w' => e = .returned (.int .i64 (k0 + n)) ∧ OnlyIn (fun j => 0 < n ∧ j = g) w w' ∧ RowW w' B a g o n (fun i => k0 + i) := by
  go_enter Try.func77, Try.ntmps77
  go_wp2
  go_loopw [1, 5] (fun t i wr => ∃ k : Nat, k ≤ n ∧ i = .int .i64 k ∧ t = .int .i64 (k0 + k) ∧ OnlyIn (fun j => 0 < n ∧ j = g) w wr ∧ RowW wr B a g o n (fun i => if i < k then k0 + i else z i)) (fun _ i _ => n - (intOf i).toNat)
  case atStart => exact ⟨0, Nat.zero_le _, rfl, by simp, OnlyIn.refl _ _, h.congr (fun i _ => by simp)⟩
  case round =>
    obtain ⟨k, hk, rfl, rfl, hO, hR⟩ := hrel
    by_cases hlt : k < n
    · obtain ⟨rfl, _, g4⟩ := hR.row.row k hlt
      have g5 := hR.fro k hlt
      have hlt' : (k : Int) < n := by omega
      have HR := Lib.hid hR
      have HO := Lib.hid hO
      clear hR hO h
      go_wp2
      go_roundw
      case rel =>
        refine ⟨k + 1, by omega, by go_num, by congr 1; omega, HO.out.set ⟨by omega, rfl⟩ _ _, (HR.out.set _ hlt).congr (fun i _ => ?_)⟩
        by_cases e : i = k
        · subst e; simp
        · rw [if_neg e]
          by_cases hi : i < k
          · rw [if_pos hi, if_pos (by omega)]
          · rw [if_neg hi, if_neg (by omega)]
      case measure => simp [intOf]; omega
    · have hlt' : ¬ (k : Int) < n := by omega
      have hkn : n = k := by omega
      have HK : Hid (n = k) := hkn
      clear hkn
      go_wp2
      go_ret
      exact ⟨ret_int (by have := HK.out; omega), hO, hR.congr (fun i hi => by rw [if_pos (by have := HK.out; omega)])⟩

set_option maxHeartbeats 400000 in
theorem heldIntS_x {B : Nat} {a : Option Addr} {g o n cap : Nat} {k0 : Int} {w : World} (hn : n ≤ 1048576) (h0 : 0 ≤ k0) (h1 : k0 ≤ 4611686018427387904) (h : RowAt w B a g o n (fun i => k0 + i)) :
    Calls Try.prog 79 #[.slice a n cap, .int .i64 k0] w fun e w' => e = .returned (.int .i64 (k0 + n)) ∧ w = w' := by
  go_enter Try.func79, Try.ntmps79
  go_wp2
  go_loop [1, 5] (fun t i => ∃ k : Nat, k ≤ n ∧ i = .int .i64 k ∧ t = .int .i64 (k0 + k)) (fun _ i => n - (intOf i).toNat)
  case atStart => exact ⟨0, Nat.zero_le _, rfl, by simp⟩
  case round =>
    obtain ⟨k, hk, rfl, rfl⟩ := hrel
    by_cases hlt : k < n
    · obtain ⟨rfl, _, c1⟩ := h.row k hlt
      have hlt' : (k : Int) < n := by omega
      go_wp2
      go_round
      case rel => exact ⟨k + 1, by omega, by go_num, by congr 1; omega⟩
      case measure => simp [intOf]; omega
    · have hlt' : ¬ (k : Int) < n := by omega
      have hkn : n = k := by omega
      have HK : Hid (n = k) := hkn
      clear hkn
      go_wp2
      go_ret
      exact ⟨ret_int (by have := HK.out; omega), rfl⟩

set_option maxHeartbeats 400000 in
theorem markIntSS_x {B k0 : Nat} {a : Option Addr} {l : Lay} {m : Mx} {w : World} (hn : m.n ≤ 1048576) (hL : ∀ r, r < m.n → m.L r ≤ 1048576) (h0 : k0 ≤ 2305843009213693952) (h : MatW w B a l m) :
    Calls Try.prog 76 #[.slice a m.n l.cap, .int .i64 (k0 : Int)] w fun e w' => e = .returned (.int .i64 ((k0 + offs m.L m.n : Nat) : Int)) ∧ OnlyIn (rowsS l m) w w' ∧ MatW w' B a l (marksOf k0 m) := by
  go_enter Try.func76, Try.ntmps76
  go_wp2
  go_loopw [1, 5] (fun t i wr => ∃ k : Nat, k ≤ m.n ∧ i = .int .i64 k ∧ t = .int .i64 ((k0 + offs m.L k : Nat) : Int) ∧ OnlyIn (rowsS l m) w wr ∧ MatW wr B a l (marksTo k0 k m)) (fun _ i _ => m.n - (intOf i).toNat)
  case atStart => exact ⟨0, Nat.zero_le _, rfl, rfl, OnlyIn.refl _ _, h.congr (fun r _ c _ => by simp)⟩
  case round =>
    obtain ⟨k, hk, rfl, rfl, hO, hR⟩ := hrel
    by_cases hlt : k < m.n
    · obtain ⟨rfl, _, g4⟩ := hR.mat.top k hlt
      have hlt' : (k : Int) < m.n := by omega
      have hLk := hL k hlt
      have hoff := offs_le hL k (by omega)
      have hrow := Lib.hid (hR.rowW hlt)
      have HLL := Lib.hid hL
      have HR := Lib.hid hR
      have HO := Lib.hid hO
      have hL' : (marksTo k0 k m).L k = m.L k := rfl
      rw [hL'] at g4
      clear h hL hR hO hL'
      go_wp2_with fail
      go_at_call 77
      refine (markIntS_x hLk (by omega) (by omega) hrow.out).mono ?_
      rintro e w1 ⟨rfl, hO1, hR1⟩
      have hR2 := HR.out.mark hlt hO1 hR1
      have hO2 := HO.out.trans (hO1.mono fun j hj => ⟨k, hlt, hj.1, hj.2⟩)
      clear hR1 hO1
      go_wp2_with fail
      go_roundw
      case rel => exact ⟨k + 1, by omega, by go_num, by congr 1; simp only [offs]; omega, hO2, hR2⟩
      case measure => simp [intOf]; omega
    · have hlt' : ¬ (k : Int) < m.n := by omega
      have HK : Hid (k = m.n) := by show _ = _; omega
      clear h hL
      go_wp2_with fail
      go_ret
      exact ⟨ret_int (by rw [HK.out]), hO, hR.congr (fun r hr c _ => by
        have hr' : r < m.n := hr
        show (if r < k then _ else _) = _
        rw [if_pos (by have := HK.out; omega)])⟩

set_option maxHeartbeats 400000 in
theorem heldIntSS_x {B k0 : Nat} {a : Option Addr} {l : Lay} {m : Mx} {w : World} (hn : m.n ≤ 1048576) (hL : ∀ r, r < m.n → m.L r ≤ 1048576) (h0 : k0 ≤ 2305843009213693952) (h : MatAt w B a l (marksOf k0 m)) :
    Calls Try.prog 78 #[.slice a m.n l.cap, .int .i64 (k0 : Int)] w fun e w' => e = .returned (.int .i64 ((k0 + offs m.L m.n : Nat) : Int)) ∧ w = w' := by
  go_enter Try.func78, Try.ntmps78
  go_wp2
  go_loop [1, 5] (fun t i => ∃ k : Nat, k ≤ m.n ∧ i = .int .i64 k ∧ t = .int .i64 ((k0 + offs m.L k : Nat) : Int)) (fun _ i => m.n - (intOf i).toNat)
  case atStart => exact ⟨0, Nat.zero_le _, rfl, rfl⟩
  case round =>
    obtain ⟨k, hk, rfl, rfl⟩ := hrel
    by_cases hlt : k < m.n
    · obtain ⟨rfl, _, g4⟩ := h.top k hlt
      have hL' : (marksOf k0 m).L k = m.L k := rfl
      rw [hL'] at g4
      have hlt' : (k : Int) < m.n := by omega
      have hLk := hL k hlt
      have hoff := offs_le hL k (by omega)
      have hrow : RowAt w B (l.A k) (l.G k) (l.O k) (m.L k) (fun i => ((k0 + offs m.L k : Nat) : Int) + i) := ⟨fun c hc => by
        obtain ⟨h1, h2, h3⟩ := h.row k hlt c hc
        exact ⟨h1, h2, h3⟩⟩
      have HLL := Lib.hid hL
      have HROW := Lib.hid hrow
      clear h hL hL' hrow
      go_wp2_with fail
      go_at_call 79
      refine (heldIntS_x hLk (by omega) (by omega) HROW.out).mono ?_
      rintro e w1 ⟨rfl, rfl⟩
      go_wp2_with fail
      go_round
      case rel => exact ⟨k + 1, by omega, by go_num, by congr 1; simp only [offs]; omega⟩
      case measure => simp [intOf]; omega
    · have hlt' : ¬ (k : Int) < m.n := by omega
      have HK : Hid (k = m.n) := by show _ = _; omega
      clear h hL
      go_wp2_with fail
      go_ret
      exact ⟨ret_int (by rw [HK.out]), rfl⟩
end Go.Proofs.Ytojcgmgponnlpaa
