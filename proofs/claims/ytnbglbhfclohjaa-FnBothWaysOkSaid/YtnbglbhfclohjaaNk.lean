/- The law on BothWaysOk, walked at whatever code. -/
import Derived.Test.YtnbglbhfclohjaaBg
import Derived.Test.YtnbglbhfclohjaaDn
import Derived.Test.YtnbglbhfclohjaaIb
namespace Go.Proofs.Ytnbglbhfclohjaa
open Go.RowKit Go.Deep
theorem ring_both : bothV ⟨6, fun _ => 6, ringZ⟩ 6 (fun c => (ringY c : Int)) = false := by
  rw [both_keeps, keepsV_is (LogicData.ortho ring_data)]
  exact ring_broken

set_option maxRecDepth 100000 in
set_option maxHeartbeats 4000000 in
theorem law_BothWaysOk {A : Option Addr} {b o n cap : Nat} {z : Nat → Nat} {w : World} (h : CodeAt w A b o n cap z) :
    Calls Try.prog 3 #[.slice A n cap] w fun e w' => e = .returned (.bool true) ∧ Below w.heap.size w w' := by
  have hn := h.hn
  have hc := h.hc
  by_cases hbig : 1048576 < n
  · have hbig' : (1048576 : Int) < n := by omega
    clear h
    go_enter Try.func3, Try.ntmps3
    go_wp2_with fail
    go_ret
    exact ⟨rfl, Below.refl _ _⟩
  · have hbig' : ¬ (1048576 : Int) < n := by omega
    go_enter Try.func3, Try.ntmps3
    go_wp2_with fail
    go_at_call 8
    refine (draw_BothWaysOk h).mono ?_
    rintro e w1 ⟨ua, l, m, na, g, o2, k, nc, zz, rfl, hF⟩
    have H1 := Held.start hF nc
    clear h hF
    have q0 := H1.box.c0
    have q1 := H1.box.c1
    go_wp2_with fail
    go_at_call 9
    refine (BothWaysOk_any H1.log).mono ?_
    rintro e w2 ⟨rfl, b2⟩
    have H2 := H1.step b2
    clear H1 q0 q1 b2
    have q0 := H2.box.c0
    have q1 := H2.box.c1
    go_wp2_with fail
    go_at_call 10
    refine (spec_BothWaysOk H2.log).mono ?_
    rintro e w3 ⟨rfl, b3⟩
    have H3 := H2.step b3
    clear H2 q0 q1 b3
    have q0 := H3.box.c0
    have q1 := H3.box.c1
    have HBK : Hid (keepsV m k zz = bothV m k zz) := (both_keeps m k zz).symm
    have HRB : Hid (bothV ⟨6, fun _ => 6, ringZ⟩ 6 (fun c => (ringY c : Int)) = false) := ring_both
    obtain ⟨bv, hbv⟩ : ∃ bv, bothV m k zz = bv := ⟨_, rfl⟩
    rw [hbv] at HBK ⊢
    clear hbv
    go_wp2_with fail
    go_at_call 11
    refine (RingOf_res (t := 6) (N := 6) (ok := true) (by decide) (by decide)).mono ?_
    rintro e w4 ⟨ua2, l2, na2, g2, nc2, rfl, hg4, b4⟩
    have H4 := H3.step b4
    have bb := (Below.refl w4.heap.size w4).alloc (Nat.le_refl _) (.cells #[.slice ua2 6 l2.cap, .slice na2 6 nc2] 26)
    have Y5 := TwoAt.new w4 (.slice ua2 6 l2.cap) (.slice na2 6 nc2) 26
    have H5 := H4.step bb
    have G5 := Lib.hid (hg4.below bb (Nat.le_refl _))
    have s5 : w4.heap.size < (w4.alloc (.cells #[.slice ua2 6 l2.cap, .slice na2 6 nc2] 26)).heap.size := by simp
    clear H3 H4 bb hg4 q0 q1 b4
    have q0 := H5.box.c0
    have q1 := H5.box.c1
    go_wp2_with fail
    generalize w4.alloc (.cells #[.slice ua2 6 l2.cap, .slice na2 6 nc2] 26) = w5 at Y5 H5 G5 s5 q0 q1 ⊢
    go_at_call 12
    refine (KeepsOk_any (nc := nc) H5.log).mono ?_
    rintro e w6 ⟨rfl, b6⟩
    rw [HBK.out]
    have H6 := H5.step b6
    have Y6 := Y5.below b6 s5
    have s6 := b6.size
    have G6 := Lib.hid (G5.out.below b6 (by omega))
    have e0 : (bv == bv) = true := by simp
    clear H5 q0 q1 Y5 G5
    have p0 := Y6.c0
    have p1 := Y6.c1
    go_wp2_with fail
    go_at_call 9
    refine (BothWaysOk_any (m := ⟨6, fun _ => 6, ringZ⟩) G6.out.logAt).mono ?_
    rintro e w7 ⟨rfl, b7⟩
    rw [HRB.out]
    have H7 := H6.step b7
    clear H6 Y6 G6 p0 p1 b6 b7
    go_wp2_with fail
    go_at_call 13
    refine (OrderOk_one w7 1).mono ?_
    rintro e w8 ⟨rfl, hb1⟩
    rw [one_order]
    have B8 : Below w.heap.size w w8 := (H7.old.alloc H7.old.size _).alloc (by have := H7.old.size; simp; omega) _ |>.trans (hb1.mono (by have := H7.old.size; omega))
    clear hb1
    go_wp2_with fail
    go_ret
    exact ⟨rfl, B8⟩
end Go.Proofs.Ytnbglbhfclohjaa
