/- The walks of the program's OrderOk at any rows, and of orderWith. -/
import Derived.Test.YtcplljeglaolgaaWh
namespace Go.Proofs.Ytcplljeglaolgaa
open Go.RowKit Go.Deep

theorem sqAt_of {w : World} {B : Nat} {sa : Option Addr} {l : Lay} {m : Mx} (h : MatAt w B sa l m) (hs : Square m) (hi : m.n ≤ 12) (hB : B ≤ w.heap.size) : SqAt w B sa l m := ⟨h, hs, hi, hB⟩

set_option maxRecDepth 100000 in
set_option maxHeartbeats 1000000 in
theorem OrderOk_any {B : Nat} {sa : Option Addr} {l : Lay} {m : Mx} {w : World} (hn : m.n ≤ 9223372036854775807) (hL : ∀ r, r < m.n → m.L r ≤ 9223372036854775807) (h : MatAt w B sa l m) (hB : B ≤ w.heap.size) :
    Calls Try.prog 37 #[.slice sa m.n l.cap] w fun e w' => e = .returned (.bool (orderB m)) ∧ Below w.heap.size w w' := by
  by_cases hlo : m.n < 1
  · have HO : Hid (false = orderB m) := (orderB_false fun h => by have := h.pos; omega).symm
    have e1 : (m.n : Int) < 1 := by omega
    clear hL h
    go_enter Try.func37, Try.ntmps37
    go_wp2_with fail
    exact bodyPost_ret (v := .bool false) (by simp [results, Try.results37, go_sem]) rfl ⟨ret_bool HO.out, (Below.refl _ _).alloc (Nat.le_refl _) _⟩
  · by_cases hhi : 12 < m.n
    · have HO : Hid (false = orderB m) := (orderB_false fun h => by have := h.top; omega).symm
      have e1 : ¬ (m.n : Int) < 1 := by omega
      have e2 : (12 : Int) < m.n := by omega
      clear hL h
      go_enter Try.func37, Try.ntmps37
      go_wp2_with fail
      exact bodyPost_ret (v := .bool false) (by simp [results, Try.results37, go_sem]) rfl ⟨ret_bool HO.out, (Below.refl _ _).alloc (Nat.le_refl _) _⟩
    · by_cases hsq : Square m
      · exact OrderOk_square (sqAt_of h hsq (by omega) hB) (by omega)
      · have HO : Hid (false = orderB m) := (orderB_false fun h => hsq h.sq).symm
        have HS : Hid (squareB m = false) := squareB_false hsq
        have e1 : ¬ (m.n : Int) < 1 := by omega
        have e2 : ¬ (12 : Int) < m.n := by omega
        have h1 := h.alloc hB (.cells #[.bool false] 4)
        clear hsq h
        go_enter Try.func37, Try.ntmps37
        go_wp2_with fail
        go_at_call 80
        refine (rowsOk_any hn hL h1).mono ?_
        rintro e w' ⟨rfl, rfl⟩
        rw [HS.out]
        go_wp2_with fail
        exact bodyPost_ret (v := .bool false) (by simp [results, Try.results37, go_sem]) rfl ⟨ret_bool HO.out, (Below.refl _ _).alloc (Nat.le_refl _) _⟩
end Go.Proofs.Ytcplljeglaolgaa
