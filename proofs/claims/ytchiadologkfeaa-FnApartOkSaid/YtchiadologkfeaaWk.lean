/- The walks of the program's MeetOf and LeastOf. -/
import Derived.Test.YtchiadologkfeaaWj
namespace Go.Proofs.Ytchiadologkfeaa
open Go.RowKit Go.Deep

theorem two_at (w : World) (a b : Int) : RowAt (w.alloc (.cells #[.int .i64 a, .int .i64 b] 3)) (w.heap.size + 1) (some ⟨w.heap.size, 0, none⟩) w.heap.size 0 2 (two a b) :=
  ⟨fun c hc => ⟨rfl, by omega, by
    rcases (show c = 0 ∨ c = 1 by omega) with rfl | rfl
    · simp [two]
    · simp [two]⟩⟩

set_option maxRecDepth 100000 in
set_option maxHeartbeats 1000000 in
theorem LeastOf_any {B : Nat} {sa : Option Addr} {l : Lay} {m : Mx} {w : World} (hn : m.n ≤ 9223372036854775807) (hL : ∀ r, r < m.n → m.L r ≤ 9223372036854775807) (h : MatAt w B sa l m) (hB : B ≤ w.heap.size) :
    Calls Try.prog 27 #[.slice sa m.n l.cap] w fun e w' => e = .returned (.tuple #[.int .i64 (leastV m), .bool (hasI (leastV m))]) ∧ Below w.heap.size w w' := by
  have HL := Lib.hid hL
  clear hL
  cases ho : orderB m with
  | false =>
    have HR : Hid (-1 = leastV m) := (leastV_no ho).symm
    have HO := Lib.hid ho
    clear ho
    go_enter Try.func27, Try.ntmps27
    go_wp2_with fail
    go_at_call 52
    refine (orderWith_no hn HL.out h hB HO.out).mono ?_
    rintro e w1 ⟨rfl, hw1⟩
    go_wp2_with fail
    go_ret2
    exact ⟨ret_pair HR.out (by rw [← HR.out]; rfl), hw1.alloc hw1.size _⟩
  | true =>
    have HO := Lib.hid ho
    clear ho
    go_enter Try.func27, Try.ntmps27
    go_wp2_with fail
    go_at_call 52
    refine (orderWith_ok (g := 0) (o := 0) (z := fun _ => 0) hn HL.out h hB (by omega) ⟨fun c hc => absurd hc (Nat.not_lt_zero _)⟩ HO.out).mono ?_
    rintro e w1 ⟨(⟨hg, rfl⟩ | ⟨hg, rfl⟩), hw1⟩
    · have hord := orderB_is HO.out
      have HR : Hid (leastI m = leastV m) := (leastV_yes HO.out).symm
      have hS : SqAt w B sa l m := ⟨h, hord.sq, hord.top, hB⟩
      have hS1 := (hS.step hw1).alloc (.cells #[.slice sa m.n l.cap] 48)
      have b3 := hw1.alloc hw1.size (.cells #[.slice sa m.n l.cap] 48)
      clear hg hord hS h
      go_wp2_with fail
      go_at_call 51
      refine (least_sq hS1).mono ?_
      rintro e w2 ⟨rfl, hw2⟩
      go_wp2_with fail
      go_ret2
      exact ⟨ret_pair HR.out (by rw [← HR.out]), b3.trans (hw2.mono b3.size)⟩
    · rw [good_nil] at hg
      cases hg
end Go.Proofs.Ytchiadologkfeaa
