/- The law on AtomsOf, walked at whatever code. -/
import Derived.Test.YtpklccecgfcdfaaDoorLg
import Derived.Test.YtpklccecgfcdfaaDoorLf
import Derived.Test.YtpklccecgfcdfaaDoorMath
namespace Go.Proofs.YtpklccecgfcdfaaDoor
open Go.RowKit Go.Deep

theorem leastV_none {m : Mx} (h : hasI (leastV m) = false) : atomsV m = [] := atomsV_no fun h' => by rw [leastV_yes h'.1, h'.2] at h; cases h
/-- A list of numbers in memory of the call's own: as a slice value, entry by entry. -/
theorem list_row {w : World} {base : Nat} {v : Value} {n : Nat} {f : Nat → Value} {z : Nat → Int} (h : w.ownsRow base 3 1 v n ((List.range n).map f)) (hz : ∀ i, i < n → f i = .int .i64 (z i)) :
    ∃ a g cap, v = .slice a n cap ∧ RowAt w w.heap.size a g 0 n z := by
  rcases owns_ways h with ⟨rfl, rfl⟩ | ⟨g, cap, rfl, hc⟩
  · exact ⟨none, 0, 0, rfl, ⟨fun c hc => absurd hc (Nat.not_lt_zero _)⟩⟩
  · exact ⟨some ⟨g, 0, none⟩, g, cap, rfl, ⟨fun c hcn => ⟨rfl, World.block_lt_of_cell? _ _ (hc c hcn), by rw [← hz c hcn]; simpa using hc c hcn⟩⟩⟩
theorem RowAt.more {w : World} {B B' : Nat} {a : Option Addr} {g o n : Nat} {z : Nat → Int} (h : RowAt w B a g o n z) (hB : B ≤ B') : RowAt w B' a g o n z :=
  ⟨fun c hc => by obtain ⟨h1, h2, h3⟩ := h.row c hc; exact ⟨h1, by omega, h3⟩⟩

set_option maxHeartbeats 400000 in
theorem ascend_row {B : Nat} {a : Option Addr} {g n cap : Nat} {y : Nat → Nat} {w : World} (hn : n ≤ 12) (h : RowAt w B a g 0 n (fun j => (y j : Int))) (hup : ∀ j, j + 1 < n → y j < y (j + 1)) (hb : ∀ j, j < n → y j < 12) :
    Calls Tryd.prog 25 #[.slice a n cap] w fun e w' => e = .returned (.bool true) ∧ Drew w w' := by
  have HU := Lib.hid hup
  have HB := Lib.hid hb
  clear hup hb
  go_enter Tryd.func25, Tryd.ntmps25
  go_wp2_with fail
  go_loopw [3] (fun i wr => ∃ k : Nat, 1 ≤ k ∧ i = .int .i64 k ∧ Drew w wr) (fun i _ => n + 1 - (intOf i).toNat)
  case atStart => exact ⟨1, Nat.le_refl _, rfl, Drew.refl _⟩
  case round =>
    obtain ⟨k, hk, rfl, hW⟩ := hrel
    by_cases hlt : k < n
    · have hlt' : (k : Int) < n := by omega
      obtain ⟨k', rfl⟩ : ∃ k', k = k' + 1 := ⟨k - 1, by omega⟩
      obtain ⟨_, _, c1⟩ := (hW.row h).row k' (by omega)
      obtain ⟨rfl, _, c2⟩ := (hW.row h).row (k' + 1) hlt
      rw [Nat.zero_add] at c1 c2
      have e1 : ((k' + 1 : Nat) : Int) - 1 = (k' : Int) := by omega
      have hu := HU.out k' hlt
      have hu' : ¬ ((y (k' + 1) : Nat) : Int) ≤ ((y k' : Nat) : Int) := by omega
      have h1 := HB.out k' (by omega)
      have h2 := HB.out (k' + 1) hlt
      clear h
      go_wp2
      go_quiet (fail)
      go_wp2
      go_roundw
      case rel => exact ⟨k' + 2, by omega, by congr 1, hW.drewN _⟩
      case measure => simp [intOf]; omega
    · have hlt' : ¬ (k : Int) < n := by omega
      go_wp2_with fail
      go_ret
      exact ⟨rfl, hW⟩

end Go.Proofs.YtpklccecgfcdfaaDoor
