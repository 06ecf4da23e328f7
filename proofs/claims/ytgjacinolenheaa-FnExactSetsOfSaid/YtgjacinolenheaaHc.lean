/- The laws on SetsOf and RingOf against the reference, walked at whatever number. -/
import Derived.Test.YtgjacinolenheaaHb
namespace Go.Proofs.Ytgjacinolenheaa
open Go.RowKit Go.Deep

set_option maxRecDepth 100000 in
set_option maxHeartbeats 2000000 in
theorem law_ExactSetsOf_at {w : World} {t : Int} {n : Nat} {Z : Nat → Nat → Int} {y : Nat → Nat} {ok : Bool} (hs : ∀ w, Calls Try.prog 15 #[.int .i64 t] w fun e w' => ResL w n Z y e ok w') (hi : ∀ w, Calls Try.prog 14 #[.int .i64 t] w fun e w' => ResL w n Z y e ok w') :
    Calls Try.prog 8 #[.int .i64 t] w fun e w' => e = .returned (.bool true) ∧ Below w.heap.size w w' := by
  have HS := Lib.hid hs
  have HI := Lib.hid hi
  have e0 : (ok != ok) = false := by simp
  clear hs hi
  go_enter Try.func8, Try.ntmps8
  go_wp2_with fail
  go_at_call 15
  refine (HS.out _).mono ?_
  rintro e w1 ⟨ua, l, na, g, nc, rfl, hw1, b1⟩
  have x1 := TwoAt.new w1 (.slice ua n l.cap) (.slice na n nc) 27
  have B1 := b1.alloc b1.size (.cells #[.slice ua n l.cap, .slice na n nc] 27)
  have W1 := Lib.hid (hw1.below ((Below.refl w1.heap.size w1).alloc (Nat.le_refl _) (.cells #[.slice ua n l.cap, .slice na n nc] 27)) (Nat.le_refl _))
  have s1 : (w1.alloc (.cells #[.slice ua n l.cap, .slice na n nc] 27)).heap.size = w1.heap.size + 1 := by simp
  clear hw1
  go_wp2_with fail
  generalize w1.alloc (.cells #[.slice ua n l.cap, .slice na n nc] 27) = w2 at x1 B1 W1 s1 ⊢
  go_at_call 14
  refine (HI.out _).mono ?_
  rintro e w3 ⟨ua', l', na', g', nc', rfl, hg3, b3⟩
  have x3 := x1.below b3 (by omega)
  have B3 := B1.trans (b3.mono B1.size)
  have s3 := b3.size
  have W3 := Lib.hid (W1.out.below b3 (by omega))
  have G3 := Lib.hid hg3
  have bb := (Below.refl w3.heap.size w3).alloc (Nat.le_refl _) (.cells #[.slice ua' n l'.cap, .slice na' n nc'] 27)
  have y4 := TwoAt.new w3 (.slice ua' n l'.cap) (.slice na' n nc') 27
  have x4 := x3.below bb (by omega)
  have B4 := B3.trans (bb.mono B3.size)
  have W4 := Lib.hid (W3.out.below bb (by omega))
  have G4 := Lib.hid (G3.out.below bb (Nat.le_refl _))
  have s4 : (w3.alloc (.cells #[.slice ua' n l'.cap, .slice na' n nc'] 27)).heap.size = w3.heap.size + 1 := by simp
  have hbn := G3.out.hn
  have hbk := G3.out.hk
  clear hg3 x3 x1 bb
  have t0 := x4.c0
  have t1 := x4.c1
  go_wp2_with fail
  generalize w3.alloc (.cells #[.slice ua' n l'.cap, .slice na' n nc'] 27) = w4 at y4 x4 B4 W4 G4 s4 t0 t1 ⊢
  go_at_call 38
  refine (eqLogic_any G4.out.logAt W4.out.logAt).mono ?_
  rintro e w5 ⟨rfl, b5⟩
  have y5 := y4.below b5 (by omega)
  have x5 := x4.below b5 (by omega)
  have B5 := B4.trans (b5.mono B4.size)
  have W5 := Lib.hid (W4.out.below b5 (by omega))
  have G5 := Lib.hid (G4.out.below b5 (by omega))
  have s5 := b5.size
  have t2 := y5.c0
  have t3 := y5.c1
  clear t0 t1 x4 y4
  go_wp2_with fail
  go_at_call 39
  refine (markLogic_w (m := ⟨n, fun _ => n, Z⟩) (k0 := 1) G5.out (by omega)).mono ?_
  rintro e w6 ⟨rfl, c6, hg6⟩
  have hma := markAt_le (m := ⟨n, fun _ => n, Z⟩) (k0 := 1) G5.out.hn G5.out.hL (by omega)
  have y6 := c6.two y5 (by show ¬ (_ ∧ _); omega)
  have x6 := c6.two x5 (by show ¬ (_ ∧ _); omega)
  have B6 := B5.trans (c6.below B5.size fun j hj => by have hj' : w2.heap.size ≤ j ∧ j < w3.heap.size := hj; have := B1.size; omega)
  have W6 := Lib.hid (W5.out.chg c6 fun j hj => by have hj' : w2.heap.size ≤ j ∧ j < w3.heap.size := hj; omega)
  have G6 := Lib.hid hg6
  have s6 := c6.size
  have t4 := y6.c0
  have t5 := y6.c1
  clear t2 t3 x5 y5 c6 hg6
  go_wp2_with fail
  go_at_call 40
  refine (heldLogic_w (m := ⟨n, fun _ => n, Z⟩) (k0 := 1) G6.out.mat.mat G6.out.row.row G6.out.hB G5.out.hn G5.out.hL G5.out.hk (by omega)).mono ?_
  rintro e w7 ⟨rfl, b7⟩
  have y7 := y6.below b7 (by omega)
  have x7 := x6.below b7 (by omega)
  have B7 := B6.trans (b7.mono B6.size)
  have W7 := Lib.hid (W6.out.below b7 (by omega))
  have G7 := Lib.hid (G6.out.below b7 (by omega))
  have s7 := b7.size
  clear t4 t5 x6 y6
  go_wp2_with fail
  go_at_call 14
  refine (HI.out _).mono ?_
  rintro e w8 ⟨ua2, l2, na2, g2, nc2, rfl, hh8, b8⟩
  have H8 := Lib.hid hh8
  have bb := (Below.refl w8.heap.size w8).alloc (Nat.le_refl _) (.cells #[.slice ua2 n l2.cap, .slice na2 n nc2] 27)
  have s8 := b8.size
  have y9 := (y7.below b8 (by omega)).below bb (by omega)
  have x9 := (x7.below b8 (by omega)).below bb (by omega)
  have B9 := (B7.trans (b8.mono B7.size)).trans (bb.mono (by have := B7.size; omega))
  have W9 := Lib.hid ((W7.out.below b8 (by omega)).below bb (by omega))
  have G9 := Lib.hid ((G7.out.below b8 (by omega)).below bb (by omega))
  have H9 := Lib.hid (H8.out.below bb (Nat.le_refl _))
  have s9 : (w8.alloc (.cells #[.slice ua2 n l2.cap, .slice na2 n nc2] 27)).heap.size = w8.heap.size + 1 := by simp
  have t6 := x9.c0
  have t7 := x9.c1
  clear hh8 bb x7 y7
  go_wp2_with fail
  generalize w8.alloc (.cells #[.slice ua2 n l2.cap, .slice na2 n nc2] 27) = w9 at y9 x9 B9 W9 G9 H9 s9 t6 t7 ⊢
  go_at_call 38
  refine (eqLogic_any H9.out.logAt W9.out.logAt).mono ?_
  rintro e w10 ⟨rfl, b10⟩
  have y10 := y9.below b10 (by omega)
  have B10 := B9.trans (b10.mono B9.size)
  have G10 := Lib.hid (G9.out.below b10 (by omega))
  have t8 := y10.c0
  have t9 := y10.c1
  clear t6 t7 y9
  go_wp2_with fail
  go_at_call 40
  refine (heldLogic_w (m := ⟨n, fun _ => n, Z⟩) (k0 := 1) G10.out.mat.mat G10.out.row.row G10.out.hB G5.out.hn G5.out.hL G5.out.hk (by omega)).mono ?_
  rintro e w11 ⟨rfl, b11⟩
  have B11 := B10.trans (b11.mono B10.size)
  clear t8 t9
  go_wp2_with fail
  go_ret
  exact ⟨rfl, B11⟩

set_option maxRecDepth 100000 in
set_option maxHeartbeats 2000000 in
theorem law_ExactRingOf_at {w : World} {t : Int} {n : Nat} {Z : Nat → Nat → Int} {y : Nat → Nat} {ok : Bool} (hs : ∀ w, Calls Try.prog 23 #[.int .i64 t] w fun e w' => ResL w n Z y e ok w') (hi : ∀ w, Calls Try.prog 22 #[.int .i64 t] w fun e w' => ResL w n Z y e ok w') :
    Calls Try.prog 9 #[.int .i64 t] w fun e w' => e = .returned (.bool true) ∧ Below w.heap.size w w' := by
  have HS := Lib.hid hs
  have HI := Lib.hid hi
  have e0 : (ok != ok) = false := by simp
  clear hs hi
  go_enter Try.func9, Try.ntmps9
  go_wp2_with fail
  go_at_call 23
  refine (HS.out _).mono ?_
  rintro e w1 ⟨ua, l, na, g, nc, rfl, hw1, b1⟩
  have x1 := TwoAt.new w1 (.slice ua n l.cap) (.slice na n nc) 27
  have B1 := b1.alloc b1.size (.cells #[.slice ua n l.cap, .slice na n nc] 27)
  have W1 := Lib.hid (hw1.below ((Below.refl w1.heap.size w1).alloc (Nat.le_refl _) (.cells #[.slice ua n l.cap, .slice na n nc] 27)) (Nat.le_refl _))
  have s1 : (w1.alloc (.cells #[.slice ua n l.cap, .slice na n nc] 27)).heap.size = w1.heap.size + 1 := by simp
  clear hw1
  go_wp2_with fail
  generalize w1.alloc (.cells #[.slice ua n l.cap, .slice na n nc] 27) = w2 at x1 B1 W1 s1 ⊢
  go_at_call 22
  refine (HI.out _).mono ?_
  rintro e w3 ⟨ua', l', na', g', nc', rfl, hg3, b3⟩
  have x3 := x1.below b3 (by omega)
  have B3 := B1.trans (b3.mono B1.size)
  have s3 := b3.size
  have W3 := Lib.hid (W1.out.below b3 (by omega))
  have G3 := Lib.hid hg3
  have bb := (Below.refl w3.heap.size w3).alloc (Nat.le_refl _) (.cells #[.slice ua' n l'.cap, .slice na' n nc'] 27)
  have y4 := TwoAt.new w3 (.slice ua' n l'.cap) (.slice na' n nc') 27
  have x4 := x3.below bb (by omega)
  have B4 := B3.trans (bb.mono B3.size)
  have W4 := Lib.hid (W3.out.below bb (by omega))
  have G4 := Lib.hid (G3.out.below bb (Nat.le_refl _))
  have s4 : (w3.alloc (.cells #[.slice ua' n l'.cap, .slice na' n nc'] 27)).heap.size = w3.heap.size + 1 := by simp
  have hbn := G3.out.hn
  have hbk := G3.out.hk
  clear hg3 x3 x1 bb
  have t0 := x4.c0
  have t1 := x4.c1
  go_wp2_with fail
  generalize w3.alloc (.cells #[.slice ua' n l'.cap, .slice na' n nc'] 27) = w4 at y4 x4 B4 W4 G4 s4 t0 t1 ⊢
  go_at_call 38
  refine (eqLogic_any G4.out.logAt W4.out.logAt).mono ?_
  rintro e w5 ⟨rfl, b5⟩
  have y5 := y4.below b5 (by omega)
  have x5 := x4.below b5 (by omega)
  have B5 := B4.trans (b5.mono B4.size)
  have W5 := Lib.hid (W4.out.below b5 (by omega))
  have G5 := Lib.hid (G4.out.below b5 (by omega))
  have s5 := b5.size
  have t2 := y5.c0
  have t3 := y5.c1
  clear t0 t1 x4 y4
  go_wp2_with fail
  go_at_call 39
  refine (markLogic_w (m := ⟨n, fun _ => n, Z⟩) (k0 := 1) G5.out (by omega)).mono ?_
  rintro e w6 ⟨rfl, c6, hg6⟩
  have hma := markAt_le (m := ⟨n, fun _ => n, Z⟩) (k0 := 1) G5.out.hn G5.out.hL (by omega)
  have y6 := c6.two y5 (by show ¬ (_ ∧ _); omega)
  have x6 := c6.two x5 (by show ¬ (_ ∧ _); omega)
  have B6 := B5.trans (c6.below B5.size fun j hj => by have hj' : w2.heap.size ≤ j ∧ j < w3.heap.size := hj; have := B1.size; omega)
  have W6 := Lib.hid (W5.out.chg c6 fun j hj => by have hj' : w2.heap.size ≤ j ∧ j < w3.heap.size := hj; omega)
  have G6 := Lib.hid hg6
  have s6 := c6.size
  have t4 := y6.c0
  have t5 := y6.c1
  clear t2 t3 x5 y5 c6 hg6
  go_wp2_with fail
  go_at_call 40
  refine (heldLogic_w (m := ⟨n, fun _ => n, Z⟩) (k0 := 1) G6.out.mat.mat G6.out.row.row G6.out.hB G5.out.hn G5.out.hL G5.out.hk (by omega)).mono ?_
  rintro e w7 ⟨rfl, b7⟩
  have y7 := y6.below b7 (by omega)
  have x7 := x6.below b7 (by omega)
  have B7 := B6.trans (b7.mono B6.size)
  have W7 := Lib.hid (W6.out.below b7 (by omega))
  have G7 := Lib.hid (G6.out.below b7 (by omega))
  have s7 := b7.size
  clear t4 t5 x6 y6
  go_wp2_with fail
  go_at_call 22
  refine (HI.out _).mono ?_
  rintro e w8 ⟨ua2, l2, na2, g2, nc2, rfl, hh8, b8⟩
  have H8 := Lib.hid hh8
  have bb := (Below.refl w8.heap.size w8).alloc (Nat.le_refl _) (.cells #[.slice ua2 n l2.cap, .slice na2 n nc2] 27)
  have s8 := b8.size
  have y9 := (y7.below b8 (by omega)).below bb (by omega)
  have x9 := (x7.below b8 (by omega)).below bb (by omega)
  have B9 := (B7.trans (b8.mono B7.size)).trans (bb.mono (by have := B7.size; omega))
  have W9 := Lib.hid ((W7.out.below b8 (by omega)).below bb (by omega))
  have G9 := Lib.hid ((G7.out.below b8 (by omega)).below bb (by omega))
  have H9 := Lib.hid (H8.out.below bb (Nat.le_refl _))
  have s9 : (w8.alloc (.cells #[.slice ua2 n l2.cap, .slice na2 n nc2] 27)).heap.size = w8.heap.size + 1 := by simp
  have t6 := x9.c0
  have t7 := x9.c1
  clear hh8 bb x7 y7
  go_wp2_with fail
  generalize w8.alloc (.cells #[.slice ua2 n l2.cap, .slice na2 n nc2] 27) = w9 at y9 x9 B9 W9 G9 H9 s9 t6 t7 ⊢
  go_at_call 38
  refine (eqLogic_any H9.out.logAt W9.out.logAt).mono ?_
  rintro e w10 ⟨rfl, b10⟩
  have y10 := y9.below b10 (by omega)
  have B10 := B9.trans (b10.mono B9.size)
  have G10 := Lib.hid (G9.out.below b10 (by omega))
  have t8 := y10.c0
  have t9 := y10.c1
  clear t6 t7 y9
  go_wp2_with fail
  go_at_call 40
  refine (heldLogic_w (m := ⟨n, fun _ => n, Z⟩) (k0 := 1) G10.out.mat.mat G10.out.row.row G10.out.hB G5.out.hn G5.out.hL G5.out.hk (by omega)).mono ?_
  rintro e w11 ⟨rfl, b11⟩
  have B11 := B10.trans (b11.mono B10.size)
  clear t8 t9
  go_wp2_with fail
  go_ret
  exact ⟨rfl, B11⟩

theorem law_ExactSetsOf {w : World} {t : Int} : Calls Try.prog 8 #[.int .i64 t] w fun e w' => e = .returned (.bool true) ∧ Below w.heap.size w w' :=
  law_ExactSetsOf_at (fun _ => spec_SetsOf_any.mono fun _ _ h => h.res) (fun _ => SetsOf_any.mono fun _ _ h => h.res)
theorem law_ExactRingOf {w : World} {t : Int} : Calls Try.prog 9 #[.int .i64 t] w fun e w' => e = .returned (.bool true) ∧ Below w.heap.size w w' :=
  law_ExactRingOf_at (fun _ => spec_RingOf_any.mono fun _ _ h => h.res) (fun _ => RingOf_any.mono fun _ _ h => h.res)
end Go.Proofs.Ytgjacinolenheaa
