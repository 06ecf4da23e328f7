/- The law of DeskNew over what is drawn. -/
import Derived.Test.YtojcgmgponnlpaaDkj
namespace Go.Proofs.Ytojcgmgponnlpaa
open Go.RowKit Go.Deep Go.Joins

set_option maxHeartbeats 400000 in
theorem draw_DeskNew {A : Option Addr} {b o n cap : Nat} {z : Nat → Nat} {w : World} (h : CodeAt w A b o n cap z) :
    Calls Try.prog 11 #[.slice A n cap] w (DrewNum w (-1) 4) := by
  go_enter Try.func11, Try.ntmps11
  go_wp2_with fail
  go_at_call 24
  refine (l20Open_any h).mono ?_
  rintro e w1 ⟨A1, b1, o1, n1, c1, z1, rfl, hn1, hR, hz, hb, hs⟩
  clear hs
  go_wp2_with fail
  go_at_call 30
  refine (pick_any (by omega) (by omega) (by omega) hn1 hR hz (Nat.le_refl _)).mono ?_
  rintro e w2 ⟨v, rfl, v0, v1, hR2, hO⟩
  have hX : Hid (DrewNum w (-1) 4 (.returned (.int .i64 (v - 1))) w2) := ⟨v - 1, rfl, by omega, by omega, hb.trans (hO.below fun j hj => by have hj' : j = w.heap.size := hj; omega)⟩
  clear hR hz hR2 hO
  go_wp2_with fail
  go_ret
  exact hX.out
set_option maxRecDepth 100000 in
set_option maxHeartbeats 4000000 in
theorem law_DeskNew {A : Option Addr} {b o n cap : Nat} {z : Nat → Nat} {w : World} (h : CodeAt w A b o n cap z) :
    Calls Try.prog 4 #[.slice A n cap] w fun e w' => e = .returned (.bool true) ∧ Below w.heap.size w w' := by
  have hn := h.hn
  have hc := h.hc
  by_cases hbig : 1048576 < n
  · have hbig' : (1048576 : Int) < n := by omega
    clear h
    go_enter Try.func4, Try.ntmps4
    go_wp2_with fail
    go_ret
    exact ⟨rfl, Below.refl _ _⟩
  · have hbig' : ¬ (1048576 : Int) < n := by omega
    go_enter Try.func4, Try.ntmps4
    go_wp2_with fail
    go_at_call 11
    refine (draw_DeskNew h).mono ?_
    rintro e w1 ⟨t, rfl, t0, t1, b1⟩
    clear h
    obtain ⟨c, ec⟩ : ∃ c, setsC t = c := ⟨_, rfl⟩
    obtain ⟨ok, eo⟩ : ∃ b, setsOkB t = b := ⟨_, rfl⟩
    have HI : Hid (∀ w, Calls Try.prog 12 #[.int .i64 t] w (DkRes w ⟨c, []⟩ ok)) := fun w => by rw [← ec, ← eo]; exact DeskNew_any
    have HS : Hid (∀ w, Calls Try.prog 13 #[.int .i64 t] w (DkRes w ⟨c, []⟩ ok)) := fun w => by rw [← ec, ← eo]; exact spec_DeskNew_any
    have HL : Hid (∀ w, Calls Try.prog 16 #[.int .i64 t] w (CRes w c ok)) := fun w => by rw [← ec, ← eo]; exact SetsOf_C
    have HF : Hid (ok = false → c = zeroC) := fun h => by rw [← ec]; exact setsC_no (by rw [eo]; exact h)
    have HT : Hid (ok = true → c.Is) := fun h => by rw [← ec]; exact setsC_is (by rw [eo]; exact h)
    clear ec eo t0 t1
    go_wp2_with fail
    go_at_call 12
    refine (HI.out _).mono ?_
    rintro e w2 ⟨v, rfl, hW, b2⟩
    have hA := hW.at_
    obtain ⟨ua, l, na, g, o', nc, pa, pg, po, pc, rfl, hL, hP, h63⟩ := id hA
    dsimp only [List.length_nil] at hA hL hP h63 ⊢
    have Y := BoxN.start w2 #[.slice ua c.m.n l.cap, .slice na c.k nc, .slice pa 0 pc] 29
    have A3 := Lib.hid (hA.step Y.below)
    have L3 := Lib.hid (hL.step Y.below)
    have B3 := (b1.trans (b2.mono b1.size)).trans (Y.below.mono (Nat.le_trans b1.size b2.size))
    clear hW hA hL hP h63
    go_wp2_with fail
    generalize w2.alloc (.cells #[.slice ua c.m.n l.cap, .slice na c.k nc, .slice pa 0 pc] 29) = w3 at Y A3 L3 B3 ⊢
    go_at_call 13
    refine (HS.out _).mono ?_
    rintro e w4 ⟨v', rfl, hW', b4⟩
    have hA' := hW'.at_
    obtain ⟨ua', l', na', g2, o2, nc', pa', pg', po', pc', rfl, hL', hP', h63'⟩ := id hA'
    dsimp only [List.length_nil] at hA' hL' hP' h63' ⊢
    have Z := BoxN.start w4 #[.slice ua' c.m.n l'.cap, .slice na' c.k nc', .slice pa' 0 pc'] 29
    have Y5 := (Y.step b4).step Z.below
    have A5 := Lib.hid ((A3.out.step b4).step Z.below)
    have L5 := Lib.hid ((L3.out.step b4).step Z.below)
    have A5' := Lib.hid (hA'.step Z.below)
    have B5 := (B3.trans (b4.mono B3.size)).trans (Z.below.mono (Nat.le_trans B3.size b4.size))
    have q0 := Y5.cell 0 rfl
    have q1 := Y5.cell 1 rfl
    have q2 := Y5.cell 2 rfl
    have y0 := Z.cell 0 rfl
    have y1 := Z.cell 1 rfl
    have y2 := Z.cell 2 rfl
    clear hW' hA' hL' hP' h63' Y A3 L3
    go_wp2_with fail
    generalize w4.alloc (.cells #[.slice ua' c.m.n l'.cap, .slice na' c.k nc', .slice pa' 0 pc'] 29) = w5 at Z Y5 A5 L5 A5' B5 q0 q1 q2 y0 y1 y2 ⊢
    go_at_call 14
    refine (sameDesk_any A5.out A5'.out).mono ?_
    rintro e w6 ⟨rfl, b6⟩
    have Y6 := Y5.step b6
    have A6 := Lib.hid (A5.out.step b6)
    have L6 := Lib.hid (L5.out.step b6)
    have B6 := B5.trans (b6.mono B5.size)
    clear q0 q1 q2 y0 y1 y2 Z Y5 A5 L5 A5'
    have q0 := Y6.cell 0 rfl
    have q1 := Y6.cell 1 rfl
    have q2 := Y6.cell 2 rfl
    cases ok with
    | false =>
      obtain rfl : c = zeroC := HF.out rfl
      go_wp2_with fail
      go_at_call 15
      refine (noDesk_any A6.out).mono ?_
      rintro e w7 ⟨rfl, b7⟩
      have B7 := B6.trans (b7.mono B6.size)
      clear q0 q1 q2
      go_wp2_with fail
      go_at_call 10
      refine (alive_any _).mono ?_
      rintro e w8 ⟨rfl, b8⟩
      go_wp2_with fail
      go_ret
      exact ⟨rfl, B7.trans (b8.mono B7.size)⟩
    | true =>
      have HC := Lib.hid (HT.out rfl)
      have HD : Hid ((⟨c, []⟩ : Dk Lc).okB = true) := Dk.Is.okB ⟨HC.out, fun x hx => absurd hx (by simp), Nat.zero_le _⟩
      go_wp2_with fail
      go_at_call 16
      refine (HL.out _).mono ?_
      rintro e w7 ⟨_, _, rfl, b7, ub, lb, nb, gb, ncb, rfl, rfl, hLb⟩
      have V := BoxN.start w7 #[.slice ub c.m.n lb.cap, .slice nb c.k ncb] 26
      have Y8 := (Y6.step b7).step V.below
      have A8 := Lib.hid ((A6.out.step b7).step V.below)
      have L8 := Lib.hid ((L6.out.step b7).step V.below)
      have M8 := Lib.hid (hLb.logAt.step V.below)
      have B8 := (B6.trans (b7.mono B6.size)).trans (V.below.mono (Nat.le_trans B6.size b7.size))
      clear q0 q1 q2 hLb Y6 A6 L6
      have q0 := Y8.cell 0 rfl
      have q1 := Y8.cell 1 rfl
      have q2 := Y8.cell 2 rfl
      go_wp2_with fail
      generalize w7.alloc (.cells #[.slice ub c.m.n lb.cap, .slice nb c.k ncb] 26) = w8 at V Y8 A8 L8 M8 B8 q0 q1 q2 ⊢
      go_at_call 8
      refine (DeskOk_any A8.out).mono ?_
      rintro e w9 ⟨rfl, b9⟩
      rw [HD.out]
      have Y9 := Y8.step b9
      have V9 := V.step b9
      have L9 := Lib.hid (L8.out.step b9)
      have M9 := Lib.hid (M8.out.step b9)
      have B9 := B8.trans (b9.mono B8.size)
      clear q0 q1 q2 V Y8 A8 L8 M8
      have q0 := Y9.cell 0 rfl
      have q1 := Y9.cell 1 rfl
      have q2 := Y9.cell 2 rfl
      have v0 := V9.cell 0 rfl
      have v1 := V9.cell 1 rfl
      go_wp2_with fail
      go_at_call 17
      refine (sameLogic_any L9.out M9.out).mono ?_
      rintro e w10 ⟨rfl, b10⟩
      have Y10 := Y9.step b10
      have B10 := B9.trans (b10.mono B9.size)
      clear q0 q1 q2 v0 v1 V9 Y9
      have q2 := Y10.cell 2 rfl
      go_wp2_with fail
      go_ret
      exact ⟨rfl, B10⟩
end Go.Proofs.Ytojcgmgponnlpaa
