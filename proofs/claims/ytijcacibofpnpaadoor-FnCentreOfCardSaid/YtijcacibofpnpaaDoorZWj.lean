/- The walk of orderWith: the order of rows, and whether all answers are its answers. The walks of the program's MeetOf and LeastOf. The walks of the reference's MeetOf, JoinOf, LeastOf and LatticeOk. -/
import Derived.Test.YtijcacibofpnpaaDoorZWd
import Derived.Test.YtijcacibofpnpaaDoorZWm
import Derived.Test.YtijcacibofpnpaaDoorZWn
import Derived.Test.YtijcacibofpnpaaDoorZWc
import Derived.Test.YtijcacibofpnpaaDoorZMath
namespace Go.Proofs.YtijcacibofpnpaaDoor
open Go.RowKit Go.Deep

set_option maxRecDepth 100000 in
set_option maxHeartbeats 1000000 in
theorem orderWith_no {B : Nat} {sa ta : Option Addr} {k tc : Nat} {l : Lay} {m : Mx} {w : World} (hn : m.n ≤ 9223372036854775807) (hL : ∀ r, r < m.n → m.L r ≤ 9223372036854775807) (h : MatAt w B sa l m) (hB : B ≤ w.heap.size) (ho : orderB m = false) :
    Calls Tryd.prog 42 #[.slice sa m.n l.cap, .slice ta k tc] w fun e w' => e = .returned (.tuple #[.agg #[.slice none 0 0], .bool false]) ∧ Below w.heap.size w w' := by
  have hX := Boxd.start w (.slice none 0 0) 42
  have h1 := h.alloc hB (.cells #[.slice none 0 0] 42)
  have HO := Lib.hid ho
  clear ho h
  go_enter Tryd.func42, Tryd.ntmps42
  go_wp2_with fail
  go_at_call 28
  refine (OrderOk_any hn hL h1 (by simp; omega)).mono ?_
  rintro e w1 ⟨rfl, hw1⟩
  rw [HO.out]
  have hX1 := hX.step hw1
  have c1 := hX1.cell
  have f1 := hX1.frozen
  have hb := hX1.below
  go_wp2_with fail
  exact bodyPost_ret (v := .tuple #[.agg #[.slice none 0 0], .bool false]) (by simp [results, Tryd.results42, go_sem, c1]) rfl ⟨rfl, hb.setCell (p := ⟨w.heap.size, 0, none⟩) (Nat.le_refl _) _⟩

/-- What orderWith hands back: the order, and true; or the zero value, and false. -/
def WithRes (sa : Option Addr) (n cap : Nat) (g : Bool) (e : Ending) : Prop :=
  (g = true ∧ e = .returned (.tuple #[.agg #[.slice sa n cap], .bool true])) ∨ (g = false ∧ e = .returned (.tuple #[.agg #[.slice none 0 0], .bool false]))

set_option maxRecDepth 100000 in
set_option maxHeartbeats 1000000 in
theorem orderWith_ok {B : Nat} {sa ta : Option Addr} {g o k tc : Nat} {z : Nat → Int} {l : Lay} {m : Mx} {w : World} (hn : m.n ≤ 9223372036854775807) (hL : ∀ r, r < m.n → m.L r ≤ 9223372036854775807) (h : MatAt w B sa l m) (hB : B ≤ w.heap.size)
    (hk : k ≤ 1000) (ht : RowAt w B ta g o k z) (ho : orderB m = true) :
    Calls Tryd.prog 42 #[.slice sa m.n l.cap, .slice ta k tc] w fun e w' =>
      WithRes sa m.n l.cap (goodB m.n k z) e ∧ Below w.heap.size w w' := by
  have hX := Boxd.start w (.slice none 0 0) 42
  have h1 := h.alloc hB (.cells #[.slice none 0 0] 42)
  have HO := Lib.hid ho
  clear ho h
  go_enter Tryd.func42, Tryd.ntmps42
  go_wp2_with fail
  go_at_call 28
  refine (OrderOk_any hn hL h1 (by simp; omega)).mono ?_
  rintro e w1 ⟨rfl, hw1⟩
  rw [HO.out]
  have hX1 := hX.step hw1
  have c1 := hX1.cell
  have f1 := hX1.frozen
  have hb := hX1.below
  have ht1 := ht.below (hb.mono hB)
  go_wp2_with fail
  go_loop [14] (fun i => ∃ j : Nat, j ≤ k ∧ i = .int .i64 j ∧ (∀ x, x < j → (decide (0 ≤ z x) && decide (z x < (m.n : Int))) = true)) (fun i => k - (intOf i).toNat)
  case atStart => exact ⟨0, Nat.zero_le _, rfl, fun r hr => absurd hr (Nat.not_lt_zero _)⟩
  case round =>
    obtain ⟨j, hj, rfl, hR0⟩ := hrel
    have hR := Lib.hid hR0
    clear hR0
    by_cases hlt : j < k
    · have hlt' : (j : Int) < k := by omega
      obtain ⟨rfl, _, ct⟩ := ht1.row j hlt
      by_cases z0 : z j < 0
      · have HG : Hid (goodB m.n k z = false) := allB_false hlt (by simp; omega)
        go_wp2_with fail
        exact bodyPost_ret (v := .tuple #[.agg #[.slice none 0 0], .bool false]) (by simp [results, Tryd.results42, go_sem, c1]) rfl ⟨.inr ⟨HG.out, rfl⟩, hb.setCell (p := ⟨w.heap.size, 0, none⟩) (Nat.le_refl _) _⟩
      · by_cases z1 : (m.n : Int) ≤ z j
        · have HG : Hid (goodB m.n k z = false) := allB_false hlt (by simp; omega)
          go_wp2_with fail
          exact bodyPost_ret (v := .tuple #[.agg #[.slice none 0 0], .bool false]) (by simp [results, Tryd.results42, go_sem, c1]) rfl ⟨.inr ⟨HG.out, rfl⟩, hb.setCell (p := ⟨w.heap.size, 0, none⟩) (Nat.le_refl _) _⟩
        · have HZ : Hid ((decide (0 ≤ z j) && decide (z j < (m.n : Int))) = true) := by show _ = _; simp; omega
          go_wp2_with fail
          go_round
          case rel => exact ⟨j + 1, by omega, by go_num, fun x hx => by
            by_cases e : x = j
            · subst e; exact HZ.out
            · exact hR.out x (by omega)⟩
          case measure => simp [intOf]; omega
    · have hlt' : ¬ (j : Int) < k := by omega
      have HG : Hid (goodB m.n k z = true) := allB_true fun x hx => hR.out x (by omega)
      go_wp2_with fail
      exact bodyPost_ret (v := .tuple #[.agg #[.slice sa m.n l.cap], .bool true]) (by simp [results, Tryd.results42, go_sem, c1]) rfl ⟨.inl ⟨HG.out, rfl⟩, hb.setCell (p := ⟨w.heap.size, 0, none⟩) (Nat.le_refl _) _⟩
end Go.Proofs.YtijcacibofpnpaaDoor
namespace Go.Proofs.YtijcacibofpnpaaDoor
open Go.RowKit Go.Deep

end Go.Proofs.YtijcacibofpnpaaDoor
namespace Go.Proofs.YtijcacibofpnpaaDoor
open Go.RowKit Go.Deep

theorem ret_two {a b : Int} {x y : Bool} (h : a = b) (k : x = y) : Ending.returned (.tuple #[.int .i64 a, .bool x]) = .returned (.tuple #[.int .i64 b, .bool y]) := by rw [h, k]

end Go.Proofs.YtijcacibofpnpaaDoor
