/- Marks in lists of deeds; the law on ReadJournal against the reference. -/
import Derived.Test.YtjofkejfldmmlaaDoorXr
import Derived.Test.YtjofkejfldmmlaaDoorXk
import Derived.Test.YtjofkejfldmmlaaDoorXl
import Derived.Test.YtjofkejfldmmlaaDoorGa
namespace Go.Proofs.YtjofkejfldmmlaaDoor
open Go.RowKit Go.Deep

set_option maxHeartbeats 1000000 in
theorem markDeedS_w {B : Nat} {a : Option Addr} {g o n cap : Nat} {z : Nat → Int} {w : World} (hn : n ≤ 1048576) (h : RowW w B a g o (n * 3) z) :
    Calls Tryd.prog 28 #[.slice a n cap, .int .i64 1] w fun e w' => e = .returned (.int .i64 (1 + (n * 3 : Nat))) ∧ OnlyIn (fun j => 0 < n ∧ j = g) w w' ∧ RowW w' B a g o (n * 3) (fun i => 1 + i) := by
  go_enter Tryd.func28, Tryd.ntmps28
  go_wp2
  go_loopw [1, 5] (fun t i wr => ∃ (k : Nat) (T : Int), k ≤ n ∧ i = .int .i64 k ∧ t = .int .i64 T ∧ T = 1 + ((k * 3 : Nat) : Int) ∧ OnlyIn (fun j => 0 < n ∧ j = g) w wr ∧ RowW wr B a g o (n * 3) (fun i => if i < k * 3 then 1 + i else z i)) (fun _ i _ => n - (intOf i).toNat)
  case atStart => exact ⟨0, 1, Nat.zero_le _, rfl, rfl, by simp, OnlyIn.refl _ _, h.congr (fun i _ => by simp)⟩
  case round =>
    obtain ⟨k, T, hk, rfl, rfl, hT, hO, hR⟩ := hrel
    by_cases hlt : k < n
    · have hR1 := hR.set (k := k * 3) T (by omega)
      have hR2 := hR1.set (k := k * 3 + 1) (T + 1) (by omega)
      have hR3 := hR2.set (k := k * 3 + 2) (T + 1 + 1) (by omega)
      obtain ⟨rfl, _, g4⟩ := hR.row.row (k * 3) (by omega)
      have g5 := hR.fro (k * 3) (by omega)
      obtain ⟨_, _, i4⟩ := hR1.row.row (k * 3 + 1) (by omega)
      have i5 := hR1.fro (k * 3 + 1) (by omega)
      obtain ⟨_, _, j4⟩ := hR2.row.row (k * 3 + 2) (by omega)
      have j5 := hR2.fro (k * 3 + 2) (by omega)
      have i6 := hR.fro (k * 3 + 1) (by omega)
      have j6 := hR.fro (k * 3 + 2) (by omega)
      rw [← Nat.add_assoc] at i4 i5 j4 j5 i6 j6
      obtain ⟨_, _, i7⟩ := hR.row.row (k * 3 + 1) (by omega)
      obtain ⟨_, _, j7⟩ := hR.row.row (k * 3 + 2) (by omega)
      rw [← Nat.add_assoc] at i7 j7
      have hlt' : (k : Int) < n := by omega
      have HR := Lib.hid hR3
      have HO := Lib.hid hO
      have HT := Lib.hid hT
      have t0 : 0 ≤ T := by omega
      have t1 : T ≤ 1099511627776 := by omega
      clear hR hR1 hR2 hR3 hO h hT
      go_wp2
      go_roundw
      case rel =>
        refine ⟨k + 1, T + 1 + 1 + 1, by omega, by go_num, rfl, by have := HT.out; omega, ((HO.out.set ⟨by omega, rfl⟩ _ _).set ⟨by omega, rfl⟩ _ _).set ⟨by omega, rfl⟩ _ _, HR.out.congr (fun i _ => ?_)⟩
        have hT := HT.out
        by_cases e2 : i = k * 3 + 2
        · subst e2; rw [if_pos rfl, if_pos (by omega)]; omega
        · rw [if_neg e2]
          by_cases e1 : i = k * 3 + 1
          · subst e1; rw [if_pos rfl, if_pos (by omega)]; omega
          · rw [if_neg e1]
            by_cases e0 : i = k * 3
            · subst e0; rw [if_pos rfl, if_pos (by omega)]; omega
            · rw [if_neg e0]
              by_cases hi : i < k * 3
              · rw [if_pos hi, if_pos (by omega)]
              · rw [if_neg hi, if_neg (by omega)]
      case measure => simp [intOf]; omega
    · have hlt' : ¬ (k : Int) < n := by omega
      have hkn : n = k := by omega
      have HK : Hid (n = k) := hkn
      have HT := Lib.hid hT
      clear hkn hT
      go_wp2
      go_ret
      exact ⟨ret_int (by have := HK.out; have := HT.out; omega), hO, hR.congr (fun i hi => by rw [if_pos (by have := HK.out; omega)])⟩

set_option maxHeartbeats 1000000 in
theorem heldDeedS_any {B : Nat} {a : Option Addr} {g o n cap : Nat} {w : World} (hn : n ≤ 1048576) (h : RowAt w B a g o (n * 3) (fun i => 1 + i)) :
    Calls Tryd.prog 29 #[.slice a n cap, .int .i64 1] w fun e w' => e = .returned (.int .i64 (1 + (n * 3 : Nat))) ∧ w = w' := by
  go_enter Tryd.func29, Tryd.ntmps29
  go_wp2
  go_loop [1, 5] (fun t i => ∃ (k : Nat) (T : Int), k ≤ n ∧ i = .int .i64 k ∧ t = .int .i64 T ∧ T = 1 + ((k * 3 : Nat) : Int)) (fun _ i => n - (intOf i).toNat)
  case atStart => exact ⟨0, 1, Nat.zero_le _, rfl, rfl, by simp⟩
  case round =>
    obtain ⟨k, T, hk, rfl, rfl, hT⟩ := hrel
    by_cases hlt : k < n
    · obtain ⟨rfl, _, c1⟩ := h.row (k * 3) (by omega)
      obtain ⟨_, _, c2⟩ := h.row (k * 3 + 1) (by omega)
      obtain ⟨_, _, c3⟩ := h.row (k * 3 + 2) (by omega)
      rw [← Nat.add_assoc] at c2 c3
      rw [show (1 + ((k * 3 : Nat) : Int)) = T by omega] at c1
      rw [show (1 + ((k * 3 + 1 : Nat) : Int)) = T + 1 by omega] at c2
      rw [show (1 + ((k * 3 + 2 : Nat) : Int)) = T + 1 + 1 by omega] at c3
      have hlt' : (k : Int) < n := by omega
      have HT := Lib.hid hT
      have t0 : 0 ≤ T := by omega
      have t1 : T ≤ 1099511627776 := by omega
      clear hT
      go_wp2
      go_round
      case rel => exact ⟨k + 1, T + 1 + 1 + 1, by omega, by go_num, rfl, by have := HT.out; omega⟩
      case measure => simp [intOf]; omega
    · have hlt' : ¬ (k : Int) < n := by omega
      have hkn : n = k := by omega
      have HK : Hid (n = k) := hkn
      have HT := Lib.hid hT
      clear hkn hT
      go_wp2
      go_ret
      exact ⟨ret_int (by have := HK.out; have := HT.out; omega), rfl⟩
end Go.Proofs.YtjofkejfldmmlaaDoor
