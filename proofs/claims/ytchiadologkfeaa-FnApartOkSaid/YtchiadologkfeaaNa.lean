/- The laws on no, yes and logics, walked at whatever code. -/
import Derived.Test.YtchiadologkfeaaDn
import Derived.Test.YtchiadologkfeaaLe
import Derived.Test.YtchiadologkfeaaOj
import Derived.Test.YtchiadologkfeaaMath
namespace Go.Proofs.Ytchiadologkfeaa
open Go.RowKit Go.Deep

/-- The drawn logic in its box, and all that was there before. -/
structure Held (w : World) (ua : Option Addr) (l : Lay) (m : Mx) (na : Option Addr) (g o k nc : Nat) (z : Nat → Int) (P : Nat) (wx : World) : Prop where
  log : LogAt wx P ua l m na g o k z
  box : TwoAt wx P (.slice ua m.n l.cap) (.slice na k nc)
  old : Below w.heap.size w wx
theorem Held.step {w wx w' : World} {ua : Option Addr} {l : Lay} {m : Mx} {na : Option Addr} {g o k nc P : Nat} {z : Nat → Int} (h : Held w ua l m na g o k nc z P wx) (hb : Below wx.heap.size wx w') : Held w ua l m na g o k nc z P w' :=
  ⟨h.log.step hb, h.box.below hb (World.block_lt_of_cell? wx ⟨P, 0, none⟩ h.box.c0), h.old.trans (hb.mono h.old.size)⟩
theorem Held.start {w w1 : World} {ua : Option Addr} {l : Lay} {m : Mx} {na : Option Addr} {g o k : Nat} {z : Nat → Int} (h : Fresh w ua l m na g o k z w1) (nc : Nat) : Held w ua l m na g o k nc z w1.heap.size (w1.alloc (.cells #[.slice ua m.n l.cap, .slice na k nc] 26)) :=
  ⟨h.log.alloc _, TwoAt.new _ _ _ _, h.old.alloc h.old.size _⟩
theorem noV_no {m : Mx} {k : Nat} {z : Nat → Int} (h : logicB m k z = false) : noV m k z = -1 := by unfold noV; rw [h]; rfl
theorem yesV_no {m : Mx} {k : Nat} {z : Nat → Int} (h : logicB m k z = false) : yesV m k z = -1 := by unfold yesV; rw [h]; rfl
theorem Ortho.noV {m : Mx} {k : Nat} {z : Nat → Int} {y : Nat → Nat} {o : Nat} (h : Ortho m z y o) (hl : logicB m k z = true) : noV m k z = (o : Int) := by unfold Proofs.Ytchiadologkfeaa.noV; rw [if_pos hl]; exact h.eq
theorem Ortho.yesV {m : Mx} {k : Nat} {z : Nat → Int} {y : Nat → Nat} {o : Nat} (h : Ortho m z y o) (hl : logicB m k z = true) : yesV m k z = (y o : Int) := by
  unfold Proofs.Ytchiadologkfeaa.yesV
  rw [if_pos hl, h.eq]
  exact h.zy o h.ho
theorem Ortho.leastV {m : Mx} {z : Nat → Int} {y : Nat → Nat} {o : Nat} (h : Ortho m z y o) : leastV m = (o : Int) := by rw [leastV_yes (orderB_true h.lat.order)]; exact h.eq
theorem Ortho.greatV {m : Mx} {z : Nat → Int} {y : Nat → Nat} {o : Nat} (h : Ortho m z y o) : Proofs.Ytchiadologkfeaa.leastV (tr m) = (y o : Int) := by rw [leastV_yes (orderB_true (tr_order h.lat.order))]; exact h.great

set_option maxRecDepth 100000 in
set_option maxHeartbeats 1000000 in
theorem law_NoOf {A : Option Addr} {b o n cap : Nat} {z : Nat → Nat} {w : World} (h : CodeAt w A b o n cap z) :
    Calls Try.prog 7 #[.slice A n cap] w fun e w' => e = .returned (.bool true) ∧ Below w.heap.size w w' := by
  have hn := h.hn
  have hc := h.hc
  by_cases hbig : 1048576 < n
  · have hbig' : (1048576 : Int) < n := by omega
    clear h
    go_enter Try.func7, Try.ntmps7
    go_wp2_with fail
    go_ret
    exact ⟨rfl, Below.refl _ _⟩
  · have hbig' : ¬ (1048576 : Int) < n := by omega
    go_enter Try.func7, Try.ntmps7
    go_wp2_with fail
    go_at_call 25
    refine (draw_NoOf h).mono ?_
    rintro e w1 ⟨ua, l, m, na, g, o2, k, nc, zz, rfl, hF⟩
    have H1 := Held.start hF nc
    clear h hF
    have q0 := H1.box.c0
    have q1 := H1.box.c1
    go_wp2_with fail
    go_at_call 24
    refine (NoOf_any H1.log).mono ?_
    rintro e w2 ⟨rfl, b2⟩
    have H2 := H1.step b2
    clear H1 q0 q1 b2
    have q0 := H2.box.c0
    have q1 := H2.box.c1
    go_wp2_with fail
    go_at_call 26
    refine (spec_NoOf H2.log).mono ?_
    rintro e w3 ⟨rfl, b3⟩
    have H3 := H2.step b3
    clear H2 q0 q1 b3
    have q0 := H3.box.c0
    have q1 := H3.box.c1
    cases hl : logicB m k zz with
    | false =>
      rw [noV_no hl]
      have HL := Lib.hid hl
      clear hl
      go_wp2_with fail
      go_at_call 11
      refine (LogicOk_any H3.log).mono ?_
      rintro e w4 ⟨rfl, b4⟩
      rw [HL.out]
      have H4 := H3.step b4
      clear H3 q0 q1 b4
      go_wp2_with fail
      go_at_call 13
      refine (alive_any _).mono ?_
      rintro e w5 ⟨rfl, b5⟩
      have H5 := H4.step b5
      go_wp2_with fail
      go_ret
      exact ⟨rfl, H5.old⟩
    | true =>
      obtain ⟨y, o, hO⟩ := (logicB_is hl).ortho
      rw [hO.noV hl]
      have HV := Lib.hid hO.leastV
      clear hl hO
      go_wp2_with fail
      go_at_call 27
      refine (LeastOf_any H3.log.hn H3.log.hL H3.log.mat H3.log.hB).mono ?_
      rintro e w4 ⟨rfl, b4⟩
      rw [HV.out, hasI_nat]
      have H4 := H3.step b4
      clear H3 q0 q1 b4
      go_wp2_with fail
      go_ret
      exact ⟨rfl, H4.old⟩

set_option maxRecDepth 100000 in
set_option maxHeartbeats 1000000 in
theorem law_YesOf {A : Option Addr} {b o n cap : Nat} {z : Nat → Nat} {w : World} (h : CodeAt w A b o n cap z) :
    Calls Try.prog 8 #[.slice A n cap] w fun e w' => e = .returned (.bool true) ∧ Below w.heap.size w w' := by
  have hn := h.hn
  have hc := h.hc
  by_cases hbig : 1048576 < n
  · have hbig' : (1048576 : Int) < n := by omega
    clear h
    go_enter Try.func8, Try.ntmps8
    go_wp2_with fail
    go_ret
    exact ⟨rfl, Below.refl _ _⟩
  · have hbig' : ¬ (1048576 : Int) < n := by omega
    go_enter Try.func8, Try.ntmps8
    go_wp2_with fail
    go_at_call 28
    refine (draw_YesOf h).mono ?_
    rintro e w1 ⟨ua, l, m, na, g, o2, k, nc, zz, rfl, hF⟩
    have H1 := Held.start hF nc
    clear h hF
    have q0 := H1.box.c0
    have q1 := H1.box.c1
    go_wp2_with fail
    go_at_call 21
    refine (YesOf_any H1.log).mono ?_
    rintro e w2 ⟨rfl, b2⟩
    have H2 := H1.step b2
    clear H1 q0 q1 b2
    have q0 := H2.box.c0
    have q1 := H2.box.c1
    go_wp2_with fail
    go_at_call 29
    refine (spec_YesOf H2.log).mono ?_
    rintro e w3 ⟨rfl, b3⟩
    have H3 := H2.step b3
    clear H2 q0 q1 b3
    have q0 := H3.box.c0
    have q1 := H3.box.c1
    cases hl : logicB m k zz with
    | false =>
      rw [yesV_no hl]
      have HL := Lib.hid hl
      clear hl
      go_wp2_with fail
      go_at_call 11
      refine (LogicOk_any H3.log).mono ?_
      rintro e w4 ⟨rfl, b4⟩
      rw [HL.out]
      have H4 := H3.step b4
      clear H3 q0 q1 b4
      go_wp2_with fail
      go_at_call 13
      refine (alive_any _).mono ?_
      rintro e w5 ⟨rfl, b5⟩
      have H5 := H4.step b5
      go_wp2_with fail
      go_ret
      exact ⟨rfl, H5.old⟩
    | true =>
      obtain ⟨y, o, hO⟩ := (logicB_is hl).ortho
      rw [hO.yesV hl]
      have HV := Lib.hid hO.greatV
      have HO := Lib.hid (orderB_true hO.lat.order)
      clear hl hO
      go_wp2_with fail
      go_at_call 30
      refine (TurnedOf_yes H3.log.hn H3.log.hL H3.log.mat H3.log.hB HO.out).mono ?_
      rintro e w4 ⟨tb, tG, rfl, b4, hM4, _, _⟩
      have H4 := H3.step b4
      have hn12 : m.n ≤ 9223372036854775807 := H3.log.hn
      clear H3 q0 q1 b4
      go_wp2_with fail
      go_at_call 27
      refine (LeastOf_any (m := tr m) (l := ownLay tb tG (tr m)) hn12 (fun _ _ => hn12) hM4.mat (Nat.le_refl _)).mono ?_
      rintro e w5 ⟨rfl, b5⟩
      rw [HV.out, hasI_nat]
      have H5 := H4.step b5
      clear H4 b5 hM4
      go_wp2_with fail
      go_ret
      exact ⟨rfl, H5.old⟩
end Go.Proofs.Ytchiadologkfeaa
