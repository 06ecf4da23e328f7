/- The walks of the reference's AgreeOk and BooleanOk. -/
import Derived.Test.YtnbglbhfclohjaaDoorSf
import Derived.Test.YtnbglbhfclohjaaDoorAf
namespace Go.Proofs.YtnbglbhfclohjaaDoor
open Go.RowKit Go.Deep

def cliqPB (m : Mx) (y : Nat → Nat) (s a b : Nat) : Bool := !(s.testBit a && s.testBit b) || adjB m y a b
def cliqRB (m : Mx) (y : Nat → Nat) (s a : Nat) : Bool := allB a fun b => cliqPB m y s a b
theorem agreeV_is {m : Mx} {z : Nat → Int} {y : Nat → Nat} {o s : Nat} (hO : Ortho m z y o) (h1 : 1 ≤ s) (h2 : s < 2 ^ m.n) : agreeV m m.n z (s : Int) = cliqB m y s := by
  unfold agreeV
  have e : inB m.n (s : Int) = true := decide_eq_true ⟨by omega, by omega⟩
  have hc : cliqB m (fun a => (z a).toNat) s = cliqB m y s := by
    rw [Bool.eq_iff_iff, hO.cliq_iff, hO.own.cliq_iff]
    have hyy : ∀ a, a < m.n → (z a).toNat = y a := fun a ha => by rw [hO.zy a ha, Int.toNat_natCast]
    have key : ∀ a b, a < m.n → b < m.n → adjB m (fun a => (z a).toNat) a b = adjB m y a b := fun a b ha hb => by
      unfold adjB agB
      simp only [hyy a ha, hyy b hb]
    constructor
    · intro h a b ha hb ga gb; rw [← key a b ha hb]; exact h a b ha hb ga gb
    · intro h a b ha hb ga gb; rw [key a b ha hb]; exact h a b ha hb ga gb
  rw [logicB_true hO.logic, e, Int.toNat_natCast, hc]; rfl

set_option maxRecDepth 100000 in
set_option maxHeartbeats 2000000 in
theorem spec_AgreeOk_in {w : World} {B : Nat} {ua : Option Addr} {l : Lay} {m : Mx} {na : Option Addr} {g o nc s o' : Nat} {z : Nat → Int} {y : Nat → Nat} (h : LogAt w B ua l m na g o m.n z) (hO : Ortho m z y o') (h1 : 1 ≤ s) (h2 : s < 2 ^ m.n) :
    Calls Tryd.prog 25 #[.agg #[.slice ua m.n l.cap, .slice na m.n nc], .int .i64 s] w fun e w' => e = .returned (.bool (cliqB m y s)) ∧ Below w.heap.size w w' := by
  have hX := BoxN.start w #[.slice ua m.n l.cap, .slice na m.n nc] 26
  have hL := Lib.hid (h.alloc (.cells #[.slice ua m.n l.cap, .slice na m.n nc] 26))
  have q0 := hX.cell 0 rfl
  have q1 := hX.cell 1 rfl
  have hn := hO.lat.order.top
  have hpos := hO.lat.order.pos
  have HT : Hid (logicB m m.n z = true) := logicB_true hO.logic
  have HO := Lib.hid hO
  obtain ⟨rfl, _, _⟩ := hL.out.row.row 0 (by omega)
  obtain ⟨rfl, _, _⟩ := hL.out.mat.top 0 (by omega)
  have hp := pow_le_12 hn
  obtain ⟨P, hP⟩ : ∃ P, P = 2 ^ m.n := ⟨_, rfl⟩
  rw [← hP] at h2 hp
  have e0 : ((2 : Int) ^ m.n) = (P : Int) := by rw [hP]; push_cast; rfl
  have e1 : wrap64 ((2 : Int) ^ m.n) = (P : Int) := by rw [e0]; exact IntWalk.wrap64_in _ (by omega)
  have e2 : wrap64 ((P : Int) - 1) = (P : Int) - 1 := IntWalk.wrap64_in _ (by omega)
  have H1 : Hid ((decide ((1 : Int) ≤ (s : Int)) && decide ((s : Int) ≤ wrap64 (2 ^ m.n - 1))) = true) := by show _ = _; rw [e0, e2]; simp; omega
  have H1' : Hid ((decide ((1 : Int) ≤ (s : Int)) && decide ((s : Int) ≤ wrap64 (wrap64 (2 ^ m.n) - 1))) = true) := by show _ = _; rw [e1, e2]; simp; omega
  clear e0 e1 e2
  have HB : Hid (∀ a, s.testBit a = true → a < m.n) := fun a => bit_lt (by rw [← hP]; exact h2)
  clear h hO
  go_enter Tryd.func25, Tryd.ntmps25
  go_wp2_with fail
  go_at_call 26
  refine (spec_LogicOk hL.out).mono ?_
  rintro e w1 ⟨rfl, b1⟩
  rw [HT.out]
  have hX1 := hX.step b1
  have hL1 := Lib.hid (hL.out.step b1)
  have r0 := hX1.cell 0 rfl
  have r1 := hX1.cell 1 rfl
  have B1 := hX1.below
  clear q0 q1 hL hX
  go_wp2_with fail
  go_at_call 71
  refine (l1In_any _ _ _ _).mono ?_
  rintro e w2 ⟨rfl, rfl⟩
  first | rw [H1.out] | rw [H1'.out]
  clear r0 r1
  go_wp2_with fail
  clear hP hp
  go_loopw [6] (fun i wr => ∃ j : Nat, j ≤ m.n ∧ i = .int .i64 j ∧ Below w1.heap.size w1 wr ∧ Hid (∀ a, a < j → cliqRB m y s a = true)) (fun i _ => m.n - (intOf i).toNat)
  case atStart => exact ⟨0, Nat.zero_le _, rfl, Below.refl _ _, fun c hc => absurd hc (Nat.not_lt_zero _)⟩
  case round =>
    obtain ⟨j, hj, rfl, hD, hR⟩ := hrel
    by_cases hlt : j < m.n
    · have hlt' : (j : Int) < m.n := by omega
      go_wp2_with fail
      go_loopw [7] (fun i wi => ∃ b : Nat, b ≤ j ∧ i = .int .i64 b ∧ Below w1.heap.size w1 wi ∧ Hid (∀ c, c < b → cliqPB m y s j c = true)) (fun i _ => j - (intOf i).toNat)
      case atStart => exact ⟨0, Nat.zero_le _, rfl, hD, fun c hc => absurd hc (Nat.not_lt_zero _)⟩
      case round =>
        obtain ⟨b, hb, rfl, hD2, hT⟩ := hrel
        by_cases hbt : b < j
        · have hbt' : (b : Int) < j := by omega
          cases hbj : s.testBit j with
          | false =>
            have t1 := bit_no hbj
            have HP : Hid (cliqPB m y s j b = true) := by show _ = _; unfold cliqPB; rw [hbj]; rfl
            clear hbj
            go_wp2_with fail
            go_roundw
            case rel => exact ⟨b + 1, by omega, by go_num, hD2, fun c hc => by
              by_cases e : c = b
              · subst e; exact HP.out
              · exact hT.out c (by omega)⟩
            case measure => simp [intOf]; omega
          | true =>
            have t1 := bit_yes hbj
            cases hbb : s.testBit b with
            | false =>
              have t2 := bit_no hbb
              have HP : Hid (cliqPB m y s j b = true) := by show _ = _; unfold cliqPB; rw [hbj, hbb]; rfl
              clear hbj hbb
              go_wp2_with fail
              go_roundw
              case rel => exact ⟨b + 1, by omega, by go_num, hD2, fun c hc => by
                by_cases e : c = b
                · subst e; exact HP.out
                · exact hT.out c (by omega)⟩
              case measure => simp [intOf]; omega
            | true =>
              have t2 := bit_yes hbb
              have hXr := hX1.step hD2
              have hr := Lib.hid (hL1.out.step hD2)
              have q0 := hXr.cell 0 rfl
              have q1 := hXr.cell 1 rfl
              have hbn : b < m.n := by omega
              cases hadj : adjB m y j b with
              | true =>
                have HP : Hid (cliqPB m y s j b = true) := by show _ = _; unfold cliqPB; rw [hadj, Bool.or_true]
                have HA : Hid ((agB m y j b && agB m y b j) = true) := hadj
                clear hbj hbb hadj
                go_wp2_with fail
                go_at_call 72
                refine (l6Agree_any hr.out HO.out hlt hbn).mono ?_
                rintro e w3 ⟨rfl, b3⟩
                rw [HA.out]
                have hD3 := hD2.trans (b3.mono hD2.size)
                clear q0 q1 hr hXr
                go_wp2_with fail
                go_roundw
                case rel => exact ⟨b + 1, by omega, by go_num, hD3, fun c hc => by
                  by_cases e : c = b
                  · subst e; exact HP.out
                  · exact hT.out c (by omega)⟩
                case measure => simp [intOf]; omega
              | false =>
                have HA : Hid ((agB m y j b && agB m y b j) = false) := hadj
                have HF : Hid (cliqB m y s = false) := allB_false hlt (allB_false hbt (by rw [hbj, hbb, hadj]; rfl))
                clear hbj hbb hadj
                go_wp2_with fail
                go_at_call 72
                refine (l6Agree_any hr.out HO.out hlt hbn).mono ?_
                rintro e w3 ⟨rfl, b3⟩
                rw [HA.out]
                have hD3 := hD2.trans (b3.mono hD2.size)
                clear q0 q1 hr hXr
                go_wp2_with fail
                go_ret
                exact ⟨ret_bool HF.out.symm, B1.trans (hD3.mono B1.size)⟩
        · have hbt' : ¬ (b : Int) < j := by omega
          have HP : Hid (cliqRB m y s j = true) := allB_true fun c hc => hT.out c (by omega)
          go_wp2_with fail
          go_roundw
          case rel => exact ⟨j + 1, by omega, by go_num, hD2, fun a ha => by
            by_cases e : a = j
            · subst e; exact HP.out
            · exact hR.out a (by omega)⟩
          case measure => simp [intOf]; omega
    · have hlt' : ¬ (j : Int) < m.n := by omega
      have HV : Hid (true = cliqB m y s) := (allB_true fun a ha => hR.out a (by omega)).symm
      go_wp2_with fail
      go_ret
      exact ⟨ret_bool HV.out, B1.trans (hD.mono B1.size)⟩

set_option maxRecDepth 100000 in
set_option maxHeartbeats 2000000 in
theorem spec_AgreeOk {w : World} {B : Nat} {ua : Option Addr} {l : Lay} {m : Mx} {na : Option Addr} {g o k nc : Nat} {z : Nat → Int} {x : Int} (h : LogAt w B ua l m na g o k z) :
    Calls Tryd.prog 25 #[.agg #[.slice ua m.n l.cap, .slice na k nc], .int .i64 x] w fun e w' => e = .returned (.bool (agreeV m k z x)) ∧ Below w.heap.size w w' := by
  cases hl : logicB m k z with
  | false =>
    have hX := BoxN.start w #[.slice ua m.n l.cap, .slice na k nc] 26
    have hL := Lib.hid (h.alloc (.cells #[.slice ua m.n l.cap, .slice na k nc] 26))
    have q0 := hX.cell 0 rfl
    have q1 := hX.cell 1 rfl
    have hkk := h.hk
    have HL := Lib.hid hl
    have HF : Hid (false = agreeV m k z x) := by show _ = _; unfold agreeV; rw [hl]; rfl
    clear hl h
    go_enter Tryd.func25, Tryd.ntmps25
    go_wp2_with fail
    go_at_call 26
    refine (spec_LogicOk hL.out).mono ?_
    rintro e w1 ⟨rfl, b1⟩
    rw [HL.out]
    have hX1 := hX.step b1
    go_wp2_with fail
    go_ret
    exact ⟨ret_bool HF.out, hX1.below⟩
  | true =>
    obtain ⟨y, o', hO⟩ := (logicB_is hl).ortho
    have hkn : k = m.n := (logicB_is hl).pair.len
    subst hkn
    by_cases hi : inB m.n x = true
    · obtain ⟨i1, i2⟩ : 1 ≤ x ∧ x < (2 ^ m.n : Nat) := of_decide_eq_true hi
      obtain ⟨s, rfl⟩ := Int.eq_ofNat_of_zero_le (show 0 ≤ x by omega)
      have j1 : 1 ≤ s := by omega
      have j2 : s < 2 ^ m.n := by omega
      rw [agreeV_is hO j1 j2]
      exact spec_AgreeOk_in h hO j1 j2
    · have hX := BoxN.start w #[.slice ua m.n l.cap, .slice na m.n nc] 26
      have hL := Lib.hid (h.alloc (.cells #[.slice ua m.n l.cap, .slice na m.n nc] 26))
      have q0 := hX.cell 0 rfl
      have q1 := hX.cell 1 rfl
      have hn := hO.lat.order.top
      have HL := Lib.hid hl
      have HF : Hid (false = agreeV m m.n z x) := by show _ = _; unfold agreeV; rw [hl, Bool.eq_false_iff.2 hi]; rfl
      have hp := pow_le_12 hn
      obtain ⟨P, hP⟩ : ∃ P, P = 2 ^ m.n := ⟨_, rfl⟩
      have hi' : ¬ (1 ≤ x ∧ x < (P : Int)) := fun h' => hi (decide_eq_true (by rw [← hP]; exact h'))
      rw [← hP] at hp
      have e0 : ((2 : Int) ^ m.n) = (P : Int) := by rw [hP]; push_cast; rfl
      have e1 : wrap64 ((2 : Int) ^ m.n) = (P : Int) := by rw [e0]; exact IntWalk.wrap64_in _ (by omega)
      have e2 : wrap64 ((P : Int) - 1) = (P : Int) - 1 := IntWalk.wrap64_in _ (by omega)
      have hf : (decide ((1 : Int) ≤ x) && decide (x ≤ (P : Int) - 1)) = false := by
        rw [Bool.and_eq_false_iff]; simp; omega
      have H1 : Hid ((decide ((1 : Int) ≤ x) && decide (x ≤ wrap64 (2 ^ m.n - 1))) = false) := by show _ = _; rw [e0, e2]; exact hf
      have H1' : Hid ((decide ((1 : Int) ≤ x) && decide (x ≤ wrap64 (wrap64 (2 ^ m.n) - 1))) = false) := by show _ = _; rw [e1, e2]; exact hf
      clear e0 e1 e2 hf hl h hi hi' hP hp hO
      go_enter Tryd.func25, Tryd.ntmps25
      go_wp2_with fail
      go_at_call 26
      refine (spec_LogicOk hL.out).mono ?_
      rintro e w1 ⟨rfl, b1⟩
      rw [HL.out]
      have hX1 := hX.step b1
      clear q0 q1
      go_wp2_with fail
      go_at_call 71
      refine (l1In_any _ _ _ _).mono ?_
      rintro e w2 ⟨rfl, rfl⟩
      first | rw [H1.out] | rw [H1'.out]
      go_wp2_with fail
      go_ret
      exact ⟨ret_bool HF.out, hX1.below⟩
end Go.Proofs.YtnbglbhfclohjaaDoor
