/- The walk of the reference's test whether a set is a part. -/
import Derived.Test.YthdokmcllppobaaDoorZOa
import Derived.Test.YthdokmcllppobaaDoorZMath
import Derived.Test.YthdokmcllppobaaDoorZMathL
namespace Go.Proofs.YthdokmcllppobaaDoor
open Go.RowKit Go.Deep

theorem meetR {B n : Nat} {sa : Option Addr} {l : Lay} {m : Mx} {a b : Nat} {w : World} {z : Nat → Int} {y : Nat → Nat} {o : Nat} (h : MatAt w B sa l m) (hO : Ortho m z y o) (ha : a < m.n) (hb : b < m.n) :
    Calls Tryd.prog 34 #[.slice sa m.n l.cap, .int .i64 a, .int .i64 b] (w.drewN n) fun e w' => e = .returned (.int .i64 (mN m a b : Nat)) ∧ ∃ k, w' = w.drewN k :=
  quiet_drew ((l1Meet_any (h.drewN n) hO.lat.order ha hb).mono fun _ _ ⟨he, hw⟩ => ⟨by rw [he, hO.mI ha hb], by subst hw; exact Drew.refl _⟩)
theorem meetW {B : Nat} {sa : Option Addr} {l : Lay} {m : Mx} {a b : Nat} {w : World} {z : Nat → Int} {y : Nat → Nat} {o : Nat} (h : MatAt w B sa l m) (hO : Ortho m z y o) (ha : a < m.n) (hb : b < m.n) :
    Calls Tryd.prog 34 #[.slice sa m.n l.cap, .int .i64 a, .int .i64 b] w fun e w' => e = .returned (.int .i64 (mN m a b : Nat)) ∧ w = w' :=
  (l1Meet_any h hO.lat.order ha hb).mono fun _ _ ⟨he, hw⟩ => ⟨by rw [he, hO.mI ha hb], hw⟩

set_option maxRecDepth 100000 in
set_option maxHeartbeats 2000000 in
theorem spec_SubOk_in {w : World} {B : Nat} {ua : Option Addr} {l : Lay} {m : Mx} {na : Option Addr} {g o nc s o' : Nat} {z : Nat → Int} {y : Nat → Nat} (h : LogAt w B ua l m na g o m.n z) (hO : Ortho m z y o') (h1 : 1 ≤ s) (h2 : s < 2 ^ m.n) :
    Calls Tryd.prog 11 #[.agg #[.slice ua m.n l.cap, .slice na m.n nc], .int .i64 s] w fun e w' => e = .returned (.bool (closedB m y s)) ∧ Below w.heap.size w w' := by
  have hX := BoxN.start w #[.slice ua m.n l.cap, .slice na m.n nc] 26
  have hL := Lib.hid (h.alloc (.cells #[.slice ua m.n l.cap, .slice na m.n nc] 26))
  have q0 := hX.cell 0 rfl
  have q1 := hX.cell 1 rfl
  have hn := hO.lat.order.top
  have hpos := hO.lat.order.pos
  have HT : Hid (logicB m m.n z = true) := logicB_true hO.logic
  have HO := Lib.hid hO
  obtain ⟨rfl, _, _⟩ := hL.out.row.row 0 (by omega)
  obtain ⟨rfl, _, _⟩ := hL.out.mat.top 0 (by omega)
  have hp := pow_le_12 hn
  obtain ⟨P, hP⟩ : ∃ P, P = 2 ^ m.n := ⟨_, rfl⟩
  rw [← hP] at h2 hp
  have e0 : ((2 : Int) ^ m.n) = (P : Int) := by rw [hP]; push_cast; rfl
  have e1 : wrap64 ((2 : Int) ^ m.n) = (P : Int) := by rw [e0]; exact IntWalk.wrap64_in _ (by omega)
  have e2 : wrap64 ((P : Int) - 1) = (P : Int) - 1 := IntWalk.wrap64_in _ (by omega)
  have H1 : Hid ((decide ((1 : Int) ≤ (s : Int)) && decide ((s : Int) ≤ wrap64 (2 ^ m.n - 1))) = true) := by show _ = _; rw [e0, e2]; simp; omega
  have H1' : Hid ((decide ((1 : Int) ≤ (s : Int)) && decide ((s : Int) ≤ wrap64 (wrap64 (2 ^ m.n) - 1))) = true) := by show _ = _; rw [e1, e2]; simp; omega
  clear e0 e1 e2
  have HB : Hid (∀ a, s.testBit a = true → a < m.n) := fun a => bit_lt (by rw [← hP]; exact h2)
  clear h hO
  go_enter Tryd.func11, Tryd.ntmps11
  go_wp2_with fail
  go_at_call 12
  refine (spec_LogicOk hL.out).mono ?_
  rintro e w1 ⟨rfl, b1⟩
  rw [HT.out]
  have hX1 := hX.step b1
  have hL1 := Lib.hid (hL.out.step b1)
  have r0 := hX1.cell 0 rfl
  have r1 := hX1.cell 1 rfl
  have B1 := hX1.below
  clear q0 q1 hL hX
  go_wp2_with fail
  go_at_call 33
  refine (l1In_any _ _ _ _).mono ?_
  rintro e w2 ⟨rfl, rfl⟩
  first | rw [H1.out] | rw [H1'.out]
  clear r0 r1
  go_wp2_with fail
  clear hP hp
  go_loopw [6] (fun i wr => ∃ j : Nat, j ≤ m.n ∧ i = .int .i64 j ∧ Below w1.heap.size w1 wr ∧ Hid (∀ a, a < j → closedRB m y s a = true)) (fun i _ => m.n - (intOf i).toNat)
  case atStart => exact ⟨0, Nat.zero_le _, rfl, Below.refl _ _, fun c hc => absurd hc (Nat.not_lt_zero _)⟩
  case round =>
    obtain ⟨j, hj, rfl, hD, hR⟩ := hrel
    have hXr := hX1.step hD
    have hr := Lib.hid (hL1.out.step hD)
    by_cases hlt : j < m.n
    · have hlt' : (j : Int) < m.n := by omega
      cases hbj : s.testBit j with
      | false =>
        have t1 := bit_no hbj
        have HP : Hid (closedRB m y s j = true) := by show _ = _; unfold closedRB; rw [hbj]; rfl
        clear hbj
        go_wp2_with fail
        go_roundw
        case rel => exact ⟨j + 1, by omega, by go_num, hD, fun a ha => by
          by_cases e : a = j
          · subst e; exact HP.out
          · exact hR.out a (by omega)⟩
        case measure => simp [intOf]; omega
      | true =>
        have t1 := bit_yes hbj
        have HJ := Lib.hid hbj
        clear hbj
        go_wp2_with fail
        clear t1
        go_loopw [7] (fun i wi => ∃ b : Nat, b ≤ m.n ∧ i = .int .i64 b ∧ Below w1.heap.size w1 wi ∧ Hid (∀ c, c < b → s.testBit c = true → s.testBit (mN m j c) = true)) (fun i _ => m.n - (intOf i).toNat)
        case atStart => exact ⟨0, Nat.zero_le _, rfl, hD, fun c hc => absurd hc (Nat.not_lt_zero _)⟩
        case round =>
          clear hD hXr hr
          obtain ⟨b, hbn, rfl, hD, hT⟩ := hrel
          have hXr := hX1.step hD
          have hr := Lib.hid (hL1.out.step hD)
          have q0 := hXr.cell 0 rfl
          have q1 := hXr.cell 1 rfl
          by_cases hbt : b < m.n
          · have hbt' : (b : Int) < m.n := by omega
            cases hbb : s.testBit b with
            | false =>
              have t1 := bit_no hbb
              have HB' := Lib.hid hbb
              clear hbb
              go_wp2_with fail
              go_roundw
              case rel => exact ⟨b + 1, by omega, by go_num, hD, fun c hc gc => by
                by_cases e : c = b
                · subst e; rw [HB'.out] at gc; cases gc
                · exact hT.out c (by omega) gc⟩
              case measure => simp [intOf]; omega
            | true =>
              have t1 := bit_yes hbb
              have hm := (HO.out.mG hlt hbt).lt
              have hm' : ((mN m j b : Nat) : Int) ≤ 64 := by omega
              have HB' := Lib.hid hbb
              clear hbb
              go_wp2_with fail
              go_at_call 34
              refine (meetW hr.out.mat HO.out hlt hbt).mono ?_
              rintro e w3 ⟨rfl, rfl⟩
              clear t1
              cases hmb : s.testBit (mN m j b) with
              | false =>
                have t1 := bit_no hmb
                have HF : Hid (false = closedB m y s) := (allB_false hlt (by
                  unfold closedRB
                  rw [HJ.out, allB_false hbt (by rw [HB'.out, hmb]; rfl)]; rfl)).symm
                clear hmb
                go_wp2_with fail
                go_ret
                exact ⟨ret_bool HF.out, hXr.below⟩
              | true =>
                have t1 := bit_yes hmb
                have HM' := Lib.hid hmb
                clear hmb
                go_wp2_with fail
                go_roundw
                case rel => exact ⟨b + 1, by omega, by go_num, hD, fun c hc gc => by
                  by_cases e : c = b
                  · subst e; exact HM'.out
                  · exact hT.out c (by omega) gc⟩
                case measure => simp [intOf]; omega
          · have hbt' : ¬ (b : Int) < m.n := by omega
            obtain ⟨_, _, d1⟩ := hr.out.row.row j hlt
            rw [HO.out.zy j hlt] at d1
            have f2 := HO.out.lt j hlt
            have f3 : ((y j : Nat) : Int) ≤ 64 := by omega
            cases hyb : s.testBit (y j) with
            | false =>
              have t1 := bit_no hyb
              have HF : Hid (false = closedB m y s) := (allB_false hlt (by
                unfold closedRB
                rw [HJ.out, hyb, Bool.and_false]; rfl)).symm
              clear hyb
              go_wp2_with fail
              go_ret
              exact ⟨ret_bool HF.out, hXr.below⟩
            | true =>
              have t1 := bit_yes hyb
              have HP : Hid (closedRB m y s j = true) := by
                show _ = _
                unfold closedRB
                rw [HJ.out, hyb, Bool.and_true]
                simp only [Bool.not_true, Bool.false_or]
                refine allB_true fun c hc => ?_
                cases gc : s.testBit c with
                | false => rfl
                | true => rw [hT.out c (by omega) gc]; rfl
              clear hyb
              go_wp2_with fail
              go_roundw
              case rel => exact ⟨j + 1, by omega, by go_num, hD, fun a ha => by
                by_cases e : a = j
                · subst e; exact HP.out
                · exact hR.out a (by omega)⟩
              case measure => simp [intOf]; omega
    · have hlt' : ¬ (j : Int) < m.n := by omega
      have HT' : Hid (true = closedB m y s) := (allB_true fun a ha => hR.out a (by omega)).symm
      go_wp2_with fail
      go_ret
      exact ⟨ret_bool HT'.out, hXr.below⟩

set_option maxRecDepth 100000 in
set_option maxHeartbeats 2000000 in
theorem spec_SubOk {w : World} {B : Nat} {ua : Option Addr} {l : Lay} {m : Mx} {na : Option Addr} {g o k nc : Nat} {z : Nat → Int} {x : Int} (h : LogAt w B ua l m na g o k z) :
    Calls Tryd.prog 11 #[.agg #[.slice ua m.n l.cap, .slice na k nc], .int .i64 x] w fun e w' => e = .returned (.bool (subV m k z x)) ∧ Below w.heap.size w w' := by
  cases hl : logicB m k z with
  | false =>
    have hX := BoxN.start w #[.slice ua m.n l.cap, .slice na k nc] 26
    have hL := Lib.hid (h.alloc (.cells #[.slice ua m.n l.cap, .slice na k nc] 26))
    have q0 := hX.cell 0 rfl
    have q1 := hX.cell 1 rfl
    have hkk := h.hk
    have HL := Lib.hid hl
    have HF : Hid (false = subV m k z x) := by show _ = _; unfold subV; rw [hl]; rfl
    clear hl h
    go_enter Tryd.func11, Tryd.ntmps11
    go_wp2_with fail
    go_at_call 12
    refine (spec_LogicOk hL.out).mono ?_
    rintro e w1 ⟨rfl, b1⟩
    rw [HL.out]
    have hX1 := hX.step b1
    go_wp2_with fail
    go_ret
    exact ⟨ret_bool HF.out, hX1.below⟩
  | true =>
    obtain ⟨y, o', hO⟩ := (logicB_is hl).ortho
    have hkn : k = m.n := (logicB_is hl).pair.len
    subst hkn
    by_cases hi : inB m.n x = true
    · obtain ⟨i1, i2⟩ : 1 ≤ x ∧ x < (2 ^ m.n : Nat) := of_decide_eq_true hi
      obtain ⟨s, rfl⟩ := Int.eq_ofNat_of_zero_le (show 0 ≤ x by omega)
      have j1 : 1 ≤ s := by omega
      have j2 : s < 2 ^ m.n := by omega
      rw [subV_is hO j1 j2]
      exact spec_SubOk_in h hO j1 j2
    · have hX := BoxN.start w #[.slice ua m.n l.cap, .slice na m.n nc] 26
      have hL := Lib.hid (h.alloc (.cells #[.slice ua m.n l.cap, .slice na m.n nc] 26))
      have q0 := hX.cell 0 rfl
      have q1 := hX.cell 1 rfl
      have hn := hO.lat.order.top
      have HL := Lib.hid hl
      have HF : Hid (false = subV m m.n z x) := by show _ = _; unfold subV; rw [hl, Bool.eq_false_iff.2 hi]; rfl
      have hp := pow_le_12 hn
      obtain ⟨P, hP⟩ : ∃ P, P = 2 ^ m.n := ⟨_, rfl⟩
      have hi' : ¬ (1 ≤ x ∧ x < (P : Int)) := fun h' => hi (decide_eq_true (by rw [← hP]; exact h'))
      rw [← hP] at hp
      have e0 : ((2 : Int) ^ m.n) = (P : Int) := by rw [hP]; push_cast; rfl
      have e1 : wrap64 ((2 : Int) ^ m.n) = (P : Int) := by rw [e0]; exact IntWalk.wrap64_in _ (by omega)
      have e2 : wrap64 ((P : Int) - 1) = (P : Int) - 1 := IntWalk.wrap64_in _ (by omega)
      have hf : (decide ((1 : Int) ≤ x) && decide (x ≤ (P : Int) - 1)) = false := by
        rw [Bool.and_eq_false_iff]; simp; omega
      have H1 : Hid ((decide ((1 : Int) ≤ x) && decide (x ≤ wrap64 (2 ^ m.n - 1))) = false) := by show _ = _; rw [e0, e2]; exact hf
      have H1' : Hid ((decide ((1 : Int) ≤ x) && decide (x ≤ wrap64 (wrap64 (2 ^ m.n) - 1))) = false) := by show _ = _; rw [e1, e2]; exact hf
      clear e0 e1 e2 hf hl h hi hi' hP hp hO
      go_enter Tryd.func11, Tryd.ntmps11
      go_wp2_with fail
      go_at_call 12
      refine (spec_LogicOk hL.out).mono ?_
      rintro e w1 ⟨rfl, b1⟩
      rw [HL.out]
      have hX1 := hX.step b1
      clear q0 q1
      go_wp2_with fail
      go_at_call 33
      refine (l1In_any _ _ _ _).mono ?_
      rintro e w2 ⟨rfl, rfl⟩
      first | rw [H1.out] | rw [H1'.out]
      go_wp2_with fail
      go_ret
      exact ⟨ret_bool HF.out, hX1.below⟩
end Go.Proofs.YthdokmcllppobaaDoor
