/- The walks of the program's MeetOf and LeastOf. -/
import Derived.Test.YtcplljeglaolgaaWj
namespace Go.Proofs.Ytcplljeglaolgaa
open Go.RowKit Go.Deep

theorem two_at (w : World) (a b : Int) : RowAt (w.alloc (.cells #[.int .i64 a, .int .i64 b] 3)) (w.heap.size + 1) (some ⟨w.heap.size, 0, none⟩) w.heap.size 0 2 (two a b) :=
  ⟨fun c hc => ⟨rfl, by omega, by
    rcases (show c = 0 ∨ c = 1 by omega) with rfl | rfl
    · simp [two]
    · simp [two]⟩⟩

set_option maxRecDepth 100000 in
set_option maxHeartbeats 1000000 in
theorem MeetOf_any {B : Nat} {sa : Option Addr} {l : Lay} {m : Mx} {a b : Int} {w : World} (hn : m.n ≤ 9223372036854775807) (hL : ∀ r, r < m.n → m.L r ≤ 9223372036854775807) (h : MatAt w B sa l m) (hB : B ≤ w.heap.size) :
    Calls Try.prog 23 #[.slice sa m.n l.cap, .int .i64 a, .int .i64 b] w fun e w' => e = .returned (.tuple #[.int .i64 (meetV m a b), .bool (hasI (meetV m a b))]) ∧ Below w.heap.size w w' := by
  have h1 := h.alloc hB (.cells #[.int .i64 a, .int .i64 b] 3)
  have ht := two_at w a b
  have b1 : Below w.heap.size w (w.alloc (.cells #[.int .i64 a, .int .i64 b] 3)) := (Below.refl _ _).alloc (Nat.le_refl _) _
  have HL := Lib.hid hL
  clear hL
  cases ho : orderB m with
  | false =>
    have HR : Hid (-1 = meetV m a b) := (meetV_no fun h => by rw [ho] at h; cases h.1).symm
    have HO := Lib.hid ho
    clear ho
    go_enter Try.func23, Try.ntmps23
    go_wp2_with fail
    go_at_call 70
    refine (orderWith_no hn HL.out h1 (by simp; omega) HO.out).mono ?_
    rintro e w1 ⟨rfl, hw1⟩
    have hs := hw1.size
    have b2 : Below w.heap.size w w1 := b1.trans (hw1.mono b1.size)
    go_wp2_with fail
    go_ret2
    exact ⟨ret_pair HR.out (by rw [← HR.out]; rfl), b2.alloc b2.size _⟩
  | true =>
    have HO := Lib.hid ho
    clear ho
    go_enter Try.func23, Try.ntmps23
    go_wp2_with fail
    go_at_call 70
    refine (orderWith_ok hn HL.out (h1.more (B' := w.heap.size + 1) (by omega)) (by simp) (by omega) ht HO.out).mono ?_
    rintro e w1 ⟨(⟨hg, rfl⟩ | ⟨hg, rfl⟩), hw1⟩
    · have hg' := good_two hg
      have hord := orderB_is HO.out
      have b2 : Below w.heap.size w w1 := b1.trans (hw1.mono b1.size)
      obtain ⟨a, rfl⟩ := Int.eq_ofNat_of_zero_le hg'.1
      obtain ⟨b, rfl⟩ := Int.eq_ofNat_of_zero_le hg'.2.2.1
      have ha : a < m.n := by omega
      have hb : b < m.n := by omega
      have HR : Hid (meetI m a b = meetV m a b) := (meetV_yes HO.out ha hb).symm
      have hS : SqAt w B sa l m := ⟨h, hord.sq, hord.top, hB⟩
      have hS1 := (hS.step b2).alloc (.cells #[.slice sa m.n l.cap] 62)
      have b3 := b2.alloc b2.size (.cells #[.slice sa m.n l.cap] 62)
      clear hg hg' hord hS h h1 ht
      go_wp2_with fail
      go_at_call 71
      refine (meet_sq hS1 ha hb).mono ?_
      rintro e w2 ⟨rfl, hw2⟩
      go_wp2_with fail
      go_ret2
      exact ⟨ret_pair HR.out (by rw [← HR.out]), b3.trans (hw2.mono b3.size)⟩
    · have HR : Hid (-1 = meetV m a b) := (meetV_no fun h => bad_two hg h.2).symm
      have b2 : Below w.heap.size w w1 := b1.trans (hw1.mono b1.size)
      clear hg
      go_wp2_with fail
      go_ret2
      exact ⟨ret_pair HR.out (by rw [← HR.out]; rfl), b2.alloc b2.size _⟩

set_option maxRecDepth 100000 in
set_option maxHeartbeats 1000000 in
theorem LeastOf_any {B : Nat} {sa : Option Addr} {l : Lay} {m : Mx} {w : World} (hn : m.n ≤ 9223372036854775807) (hL : ∀ r, r < m.n → m.L r ≤ 9223372036854775807) (h : MatAt w B sa l m) (hB : B ≤ w.heap.size) :
    Calls Try.prog 33 #[.slice sa m.n l.cap] w fun e w' => e = .returned (.tuple #[.int .i64 (leastV m), .bool (hasI (leastV m))]) ∧ Below w.heap.size w w' := by
  have HL := Lib.hid hL
  clear hL
  cases ho : orderB m with
  | false =>
    have HR : Hid (-1 = leastV m) := (leastV_no ho).symm
    have HO := Lib.hid ho
    clear ho
    go_enter Try.func33, Try.ntmps33
    go_wp2_with fail
    go_at_call 70
    refine (orderWith_no hn HL.out h hB HO.out).mono ?_
    rintro e w1 ⟨rfl, hw1⟩
    go_wp2_with fail
    go_ret2
    exact ⟨ret_pair HR.out (by rw [← HR.out]; rfl), hw1.alloc hw1.size _⟩
  | true =>
    have HO := Lib.hid ho
    clear ho
    go_enter Try.func33, Try.ntmps33
    go_wp2_with fail
    go_at_call 70
    refine (orderWith_ok (g := 0) (o := 0) (z := fun _ => 0) hn HL.out h hB (by omega) ⟨fun c hc => absurd hc (Nat.not_lt_zero _)⟩ HO.out).mono ?_
    rintro e w1 ⟨(⟨hg, rfl⟩ | ⟨hg, rfl⟩), hw1⟩
    · have hord := orderB_is HO.out
      have HR : Hid (leastI m = leastV m) := (leastV_yes HO.out).symm
      have hS : SqAt w B sa l m := ⟨h, hord.sq, hord.top, hB⟩
      have hS1 := (hS.step hw1).alloc (.cells #[.slice sa m.n l.cap] 62)
      have b3 := hw1.alloc hw1.size (.cells #[.slice sa m.n l.cap] 62)
      clear hg hord hS h
      go_wp2_with fail
      go_at_call 79
      refine (least_sq hS1).mono ?_
      rintro e w2 ⟨rfl, hw2⟩
      go_wp2_with fail
      go_ret2
      exact ⟨ret_pair HR.out (by rw [← HR.out]), b3.trans (hw2.mono b3.size)⟩
    · rw [good_nil] at hg
      cases hg
end Go.Proofs.Ytcplljeglaolgaa
