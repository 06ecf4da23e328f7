/- The walk of the reference's test whether a set is a part. The walk of the reference's least part around answers. The walk of the library's count of trailing zeros, at small numbers, and of the program's list of the numbers of a set. The walks of the program's sets of answers: whether a number is one, the set grown by what two answers make. The walks of the program's partWith, SubOk, MadeBy. -/
import Derived.Test.YtnbglbhfclohjaaDoorOi
import Derived.Test.YtnbglbhfclohjaaDoorMathL
import Derived.Test.YtnbglbhfclohjaaDoorVh
import Derived.Lib.TrailingZeros
import Derived.Laws.Bits64b
namespace Go.Proofs.YtnbglbhfclohjaaDoor
open Go.RowKit Go.Deep

theorem meetR {B n : Nat} {sa : Option Addr} {l : Lay} {m : Mx} {a b : Nat} {w : World} {z : Nat → Int} {y : Nat → Nat} {o : Nat} (h : MatAt w B sa l m) (hO : Ortho m z y o) (ha : a < m.n) (hb : b < m.n) :
    Calls Tryd.prog 75 #[.slice sa m.n l.cap, .int .i64 a, .int .i64 b] (w.drewN n) fun e w' => e = .returned (.int .i64 (mN m a b : Nat)) ∧ ∃ k, w' = w.drewN k :=
  quiet_drew ((l1Meet_any (h.drewN n) hO.lat.order ha hb).mono fun _ _ ⟨he, hw⟩ => ⟨by rw [he, hO.mI ha hb], by subst hw; exact Drew.refl _⟩)
theorem meetW {B : Nat} {sa : Option Addr} {l : Lay} {m : Mx} {a b : Nat} {w : World} {z : Nat → Int} {y : Nat → Nat} {o : Nat} (h : MatAt w B sa l m) (hO : Ortho m z y o) (ha : a < m.n) (hb : b < m.n) :
    Calls Tryd.prog 75 #[.slice sa m.n l.cap, .int .i64 a, .int .i64 b] w fun e w' => e = .returned (.int .i64 (mN m a b : Nat)) ∧ w = w' :=
  (l1Meet_any h hO.lat.order ha hb).mono fun _ _ ⟨he, hw⟩ => ⟨by rw [he, hO.mI ha hb], hw⟩

set_option maxRecDepth 100000 in
set_option maxHeartbeats 2000000 in
theorem spec_SubOk_in {w : World} {B : Nat} {ua : Option Addr} {l : Lay} {m : Mx} {na : Option Addr} {g o nc s o' : Nat} {z : Nat → Int} {y : Nat → Nat} (h : LogAt w B ua l m na g o m.n z) (hO : Ortho m z y o') (h1 : 1 ≤ s) (h2 : s < 2 ^ m.n) :
    Calls Tryd.prog 144 #[.agg #[.slice ua m.n l.cap, .slice na m.n nc], .int .i64 s] w fun e w' => e = .returned (.bool (closedB m y s)) ∧ Below w.heap.size w w' := by
  have hX := BoxN.start w #[.slice ua m.n l.cap, .slice na m.n nc] 26
  have hL := Lib.hid (h.alloc (.cells #[.slice ua m.n l.cap, .slice na m.n nc] 26))
  have q0 := hX.cell 0 rfl
  have q1 := hX.cell 1 rfl
  have hn := hO.lat.order.top
  have hpos := hO.lat.order.pos
  have HT : Hid (logicB m m.n z = true) := logicB_true hO.logic
  have HO := Lib.hid hO
  obtain ⟨rfl, _, _⟩ := hL.out.row.row 0 (by omega)
  obtain ⟨rfl, _, _⟩ := hL.out.mat.top 0 (by omega)
  have hp := pow_le_12 hn
  obtain ⟨P, hP⟩ : ∃ P, P = 2 ^ m.n := ⟨_, rfl⟩
  rw [← hP] at h2 hp
  have e0 : ((2 : Int) ^ m.n) = (P : Int) := by rw [hP]; push_cast; rfl
  have e1 : wrap64 ((2 : Int) ^ m.n) = (P : Int) := by rw [e0]; exact IntWalk.wrap64_in _ (by omega)
  have e2 : wrap64 ((P : Int) - 1) = (P : Int) - 1 := IntWalk.wrap64_in _ (by omega)
  have H1 : Hid ((decide ((1 : Int) ≤ (s : Int)) && decide ((s : Int) ≤ wrap64 (2 ^ m.n - 1))) = true) := by show _ = _; rw [e0, e2]; simp; omega
  have H1' : Hid ((decide ((1 : Int) ≤ (s : Int)) && decide ((s : Int) ≤ wrap64 (wrap64 (2 ^ m.n) - 1))) = true) := by show _ = _; rw [e1, e2]; simp; omega
  clear e0 e1 e2
  have HB : Hid (∀ a, s.testBit a = true → a < m.n) := fun a => bit_lt (by rw [← hP]; exact h2)
  clear h hO
  go_enter Tryd.func144, Tryd.ntmps144
  go_wp2_with fail
  go_at_call 26
  refine (spec_LogicOk hL.out).mono ?_
  rintro e w1 ⟨rfl, b1⟩
  rw [HT.out]
  have hX1 := hX.step b1
  have hL1 := Lib.hid (hL.out.step b1)
  have r0 := hX1.cell 0 rfl
  have r1 := hX1.cell 1 rfl
  have B1 := hX1.below
  clear q0 q1 hL hX
  go_wp2_with fail
  go_at_call 71
  refine (l1In_any _ _ _ _).mono ?_
  rintro e w2 ⟨rfl, rfl⟩
  first | rw [H1.out] | rw [H1'.out]
  clear r0 r1
  go_wp2_with fail
  clear hP hp
  go_loopw [6] (fun i wr => ∃ j : Nat, j ≤ m.n ∧ i = .int .i64 j ∧ Below w1.heap.size w1 wr ∧ Hid (∀ a, a < j → closedRB m y s a = true)) (fun i _ => m.n - (intOf i).toNat)
  case atStart => exact ⟨0, Nat.zero_le _, rfl, Below.refl _ _, fun c hc => absurd hc (Nat.not_lt_zero _)⟩
  case round =>
    obtain ⟨j, hj, rfl, hD, hR⟩ := hrel
    have hXr := hX1.step hD
    have hr := Lib.hid (hL1.out.step hD)
    by_cases hlt : j < m.n
    · have hlt' : (j : Int) < m.n := by omega
      cases hbj : s.testBit j with
      | false =>
        have t1 := bit_no hbj
        have HP : Hid (closedRB m y s j = true) := by show _ = _; unfold closedRB; rw [hbj]; rfl
        clear hbj
        go_wp2_with fail
        go_roundw
        case rel => exact ⟨j + 1, by omega, by go_num, hD, fun a ha => by
          by_cases e : a = j
          · subst e; exact HP.out
          · exact hR.out a (by omega)⟩
        case measure => simp [intOf]; omega
      | true =>
        have t1 := bit_yes hbj
        have HJ := Lib.hid hbj
        clear hbj
        go_wp2_with fail
        clear t1
        go_loopw [7] (fun i wi => ∃ b : Nat, b ≤ m.n ∧ i = .int .i64 b ∧ Below w1.heap.size w1 wi ∧ Hid (∀ c, c < b → s.testBit c = true → s.testBit (mN m j c) = true)) (fun i _ => m.n - (intOf i).toNat)
        case atStart => exact ⟨0, Nat.zero_le _, rfl, hD, fun c hc => absurd hc (Nat.not_lt_zero _)⟩
        case round =>
          clear hD hXr hr
          obtain ⟨b, hbn, rfl, hD, hT⟩ := hrel
          have hXr := hX1.step hD
          have hr := Lib.hid (hL1.out.step hD)
          have q0 := hXr.cell 0 rfl
          have q1 := hXr.cell 1 rfl
          by_cases hbt : b < m.n
          · have hbt' : (b : Int) < m.n := by omega
            cases hbb : s.testBit b with
            | false =>
              have t1 := bit_no hbb
              have HB' := Lib.hid hbb
              clear hbb
              go_wp2_with fail
              go_roundw
              case rel => exact ⟨b + 1, by omega, by go_num, hD, fun c hc gc => by
                by_cases e : c = b
                · subst e; rw [HB'.out] at gc; cases gc
                · exact hT.out c (by omega) gc⟩
              case measure => simp [intOf]; omega
            | true =>
              have t1 := bit_yes hbb
              have hm := (HO.out.mG hlt hbt).lt
              have hm' : ((mN m j b : Nat) : Int) ≤ 64 := by omega
              have HB' := Lib.hid hbb
              clear hbb
              go_wp2_with fail
              go_at_call 75
              refine (meetW hr.out.mat HO.out hlt hbt).mono ?_
              rintro e w3 ⟨rfl, rfl⟩
              clear t1
              cases hmb : s.testBit (mN m j b) with
              | false =>
                have t1 := bit_no hmb
                have HF : Hid (false = closedB m y s) := (allB_false hlt (by
                  unfold closedRB
                  rw [HJ.out, allB_false hbt (by rw [HB'.out, hmb]; rfl)]; rfl)).symm
                clear hmb
                go_wp2_with fail
                go_ret
                exact ⟨ret_bool HF.out, hXr.below⟩
              | true =>
                have t1 := bit_yes hmb
                have HM' := Lib.hid hmb
                clear hmb
                go_wp2_with fail
                go_roundw
                case rel => exact ⟨b + 1, by omega, by go_num, hD, fun c hc gc => by
                  by_cases e : c = b
                  · subst e; exact HM'.out
                  · exact hT.out c (by omega) gc⟩
                case measure => simp [intOf]; omega
          · have hbt' : ¬ (b : Int) < m.n := by omega
            obtain ⟨_, _, d1⟩ := hr.out.row.row j hlt
            rw [HO.out.zy j hlt] at d1
            have f2 := HO.out.lt j hlt
            have f3 : ((y j : Nat) : Int) ≤ 64 := by omega
            cases hyb : s.testBit (y j) with
            | false =>
              have t1 := bit_no hyb
              have HF : Hid (false = closedB m y s) := (allB_false hlt (by
                unfold closedRB
                rw [HJ.out, hyb, Bool.and_false]; rfl)).symm
              clear hyb
              go_wp2_with fail
              go_ret
              exact ⟨ret_bool HF.out, hXr.below⟩
            | true =>
              have t1 := bit_yes hyb
              have HP : Hid (closedRB m y s j = true) := by
                show _ = _
                unfold closedRB
                rw [HJ.out, hyb, Bool.and_true]
                simp only [Bool.not_true, Bool.false_or]
                refine allB_true fun c hc => ?_
                cases gc : s.testBit c with
                | false => rfl
                | true => rw [hT.out c (by omega) gc]; rfl
              clear hyb
              go_wp2_with fail
              go_roundw
              case rel => exact ⟨j + 1, by omega, by go_num, hD, fun a ha => by
                by_cases e : a = j
                · subst e; exact HP.out
                · exact hR.out a (by omega)⟩
              case measure => simp [intOf]; omega
    · have hlt' : ¬ (j : Int) < m.n := by omega
      have HT' : Hid (true = closedB m y s) := (allB_true fun a ha => hR.out a (by omega)).symm
      go_wp2_with fail
      go_ret
      exact ⟨ret_bool HT'.out, hXr.below⟩

set_option maxRecDepth 100000 in
set_option maxHeartbeats 2000000 in
theorem spec_SubOk {w : World} {B : Nat} {ua : Option Addr} {l : Lay} {m : Mx} {na : Option Addr} {g o k nc : Nat} {z : Nat → Int} {x : Int} (h : LogAt w B ua l m na g o k z) :
    Calls Tryd.prog 144 #[.agg #[.slice ua m.n l.cap, .slice na k nc], .int .i64 x] w fun e w' => e = .returned (.bool (subV m k z x)) ∧ Below w.heap.size w w' := by
  cases hl : logicB m k z with
  | false =>
    have hX := BoxN.start w #[.slice ua m.n l.cap, .slice na k nc] 26
    have hL := Lib.hid (h.alloc (.cells #[.slice ua m.n l.cap, .slice na k nc] 26))
    have q0 := hX.cell 0 rfl
    have q1 := hX.cell 1 rfl
    have hkk := h.hk
    have HL := Lib.hid hl
    have HF : Hid (false = subV m k z x) := by show _ = _; unfold subV; rw [hl]; rfl
    clear hl h
    go_enter Tryd.func144, Tryd.ntmps144
    go_wp2_with fail
    go_at_call 26
    refine (spec_LogicOk hL.out).mono ?_
    rintro e w1 ⟨rfl, b1⟩
    rw [HL.out]
    have hX1 := hX.step b1
    go_wp2_with fail
    go_ret
    exact ⟨ret_bool HF.out, hX1.below⟩
  | true =>
    obtain ⟨y, o', hO⟩ := (logicB_is hl).ortho
    have hkn : k = m.n := (logicB_is hl).pair.len
    subst hkn
    by_cases hi : inB m.n x = true
    · obtain ⟨i1, i2⟩ : 1 ≤ x ∧ x < (2 ^ m.n : Nat) := of_decide_eq_true hi
      obtain ⟨s, rfl⟩ := Int.eq_ofNat_of_zero_le (show 0 ≤ x by omega)
      have j1 : 1 ≤ s := by omega
      have j2 : s < 2 ^ m.n := by omega
      rw [subV_is hO j1 j2]
      exact spec_SubOk_in h hO j1 j2
    · have hX := BoxN.start w #[.slice ua m.n l.cap, .slice na m.n nc] 26
      have hL := Lib.hid (h.alloc (.cells #[.slice ua m.n l.cap, .slice na m.n nc] 26))
      have q0 := hX.cell 0 rfl
      have q1 := hX.cell 1 rfl
      have hn := hO.lat.order.top
      have HL := Lib.hid hl
      have HF : Hid (false = subV m m.n z x) := by show _ = _; unfold subV; rw [hl, Bool.eq_false_iff.2 hi]; rfl
      have hp := pow_le_12 hn
      obtain ⟨P, hP⟩ : ∃ P, P = 2 ^ m.n := ⟨_, rfl⟩
      have hi' : ¬ (1 ≤ x ∧ x < (P : Int)) := fun h' => hi (decide_eq_true (by rw [← hP]; exact h'))
      rw [← hP] at hp
      have e0 : ((2 : Int) ^ m.n) = (P : Int) := by rw [hP]; push_cast; rfl
      have e1 : wrap64 ((2 : Int) ^ m.n) = (P : Int) := by rw [e0]; exact IntWalk.wrap64_in _ (by omega)
      have e2 : wrap64 ((P : Int) - 1) = (P : Int) - 1 := IntWalk.wrap64_in _ (by omega)
      have hf : (decide ((1 : Int) ≤ x) && decide (x ≤ (P : Int) - 1)) = false := by
        rw [Bool.and_eq_false_iff]; simp; omega
      have H1 : Hid ((decide ((1 : Int) ≤ x) && decide (x ≤ wrap64 (2 ^ m.n - 1))) = false) := by show _ = _; rw [e0, e2]; exact hf
      have H1' : Hid ((decide ((1 : Int) ≤ x) && decide (x ≤ wrap64 (wrap64 (2 ^ m.n) - 1))) = false) := by show _ = _; rw [e1, e2]; exact hf
      clear e0 e1 e2 hf hl h hi hi' hP hp hO
      go_enter Tryd.func144, Tryd.ntmps144
      go_wp2_with fail
      go_at_call 26
      refine (spec_LogicOk hL.out).mono ?_
      rintro e w1 ⟨rfl, b1⟩
      rw [HL.out]
      have hX1 := hX.step b1
      clear q0 q1
      go_wp2_with fail
      go_at_call 71
      refine (l1In_any _ _ _ _).mono ?_
      rintro e w2 ⟨rfl, rfl⟩
      first | rw [H1.out] | rw [H1'.out]
      go_wp2_with fail
      go_ret
      exact ⟨ret_bool HF.out, hX1.below⟩
end Go.Proofs.YtnbglbhfclohjaaDoor
namespace Go.Proofs.YtnbglbhfclohjaaDoor
open Go.RowKit Go.Deep

/-- Some rows of pairs looked at, and some of the next row. -/
structure MidB (m : Mx) (y : Nat → Nat) (t u j c : Nat) : Prop where
  under : Under m y t u
  done : ∀ a b, a < j → b < m.n → t.testBit a = true → t.testBit b = true → u.testBit (mN m a b) = true ∧ u.testBit (y a) = true
  row : ∀ b, b < c → t.testBit j = true → t.testBit b = true → u.testBit (mN m j b) = true ∧ u.testBit (y j) = true
theorem MidB.start {m : Mx} {y : Nat → Nat} {t : Nat} (h : t < 2 ^ m.n) : MidB m y t t 0 0 := ⟨Under.start h, fun _ _ h => absurd h (Nat.not_lt_zero _), fun _ h => absurd h (Nat.not_lt_zero _)⟩
theorem MidB.turn {m : Mx} {y : Nat → Nat} {t u j : Nat} (h : MidB m y t u j m.n) : MidB m y t u (j + 1) 0 :=
  ⟨h.under, fun a b ha hb ga gb => by
    by_cases e : a = j
    · subst e; exact h.row b hb ga gb
    · exact h.done a b (by omega) hb ga gb, fun _ h => absurd h (Nat.not_lt_zero _)⟩
theorem MidB.pass {m : Mx} {y : Nat → Nat} {t u j c : Nat} (h : MidB m y t u j c) (hno : t.testBit j = false ∨ t.testBit c = false) : MidB m y t u j (c + 1) :=
  ⟨h.under, h.done, fun b hb gj gb => by
    by_cases e : b = c
    · subst e
      rcases hno with e | e
      · rw [e] at gj; cases gj
      · rw [e] at gb; cases gb
    · exact h.row b (by omega) gj gb⟩
theorem MidB.add {m : Mx} {z : Nat → Int} {y : Nat → Nat} {o t u j c : Nat} (h : MidB m y t u j c) (hO : Ortho m z y o) (hj : j < m.n) (hc : c < m.n) (gj : t.testBit j = true) (gc : t.testBit c = true) : MidB m y t (u ||| 2 ^ mN m j c ||| 2 ^ y j) j (c + 1) := by
  have hs : Sub u (u ||| 2 ^ mN m j c ||| 2 ^ y j) := (sub_left _ _).trans (sub_left _ _)
  have h1 : (u ||| 2 ^ mN m j c ||| 2 ^ y j).testBit (mN m j c) = true := sub_left _ _ _ (sub_right _ _ _ (has_one _))
  have h2 : (u ||| 2 ^ mN m j c ||| 2 ^ y j).testBit (y j) = true := sub_right _ _ _ (has_one _)
  refine ⟨(h.under.more (hO.mG hj hc).lt fun v hv hs => hv.meet j c hj hc (hs j gj) (hs c gc)).more (hO.lt j hj) fun v hv hs => hv.not j hj (hs j gj), fun a b ha hb ga gb => ?_, fun b hb gj gb => ?_⟩
  · obtain ⟨d1, d2⟩ := h.done a b ha hb ga gb
    exact ⟨hs _ d1, hs _ d2⟩
  · by_cases e : b = c
    · subst e; exact ⟨h1, h2⟩
    · obtain ⟨d1, d2⟩ := h.row b (by omega) gj gb
      exact ⟨hs _ d1, hs _ d2⟩
theorem MidB.grown {m : Mx} {y : Nat → Nat} {t u : Nat} (h : MidB m y t u m.n 0) : Grown m y t u :=
  ⟨h.under, fun a b ha hb ga gb => (h.done a b ha hb ga gb).1, fun a ha ga => (h.done a a ha ha ga ga).2⟩
theorem or_is {u k : Nat} (hu : u < 4096) (hk : k < 12) : bits .or .i64 (u : Int) (wrap64 (2 ^ k)) = ((u ||| 2 ^ k : Nat) : Int) := by
  have := pow_le_12 (Nat.le_of_lt hk)
  have e : ((2 : Int) ^ k) = ((2 ^ k : Nat) : Int) := by push_cast; rfl
  rw [e]
  generalize 2 ^ k = q at this ⊢
  rw [IntWalk.wrap64_in _ (by omega)]
  exact i64_or_nat u q (by omega) (by omega)

set_option maxRecDepth 100000 in
set_option maxHeartbeats 2000000 in
theorem spec_MadeBy_in {w : World} {B : Nat} {ua : Option Addr} {l : Lay} {m : Mx} {na : Option Addr} {g o nc s o' : Nat} {z : Nat → Int} {y : Nat → Nat} (h : LogAt w B ua l m na g o m.n z) (hO : Ortho m z y o') (h1 : 1 ≤ s) (h2 : s < 2 ^ m.n) :
    Calls Tryd.prog 119 #[.agg #[.slice ua m.n l.cap, .slice na m.n nc], .int .i64 s] w fun e w' => e = .returned (.int .i64 (madeV m m.n z (s : Int))) ∧ Below w.heap.size w w' := by
  have hX := BoxN.start w #[.slice ua m.n l.cap, .slice na m.n nc] 26
  have hL := Lib.hid (h.alloc (.cells #[.slice ua m.n l.cap, .slice na m.n nc] 26))
  have q0 := hX.cell 0 rfl
  have q1 := hX.cell 1 rfl
  have hn := hO.lat.order.top
  have hpos := hO.lat.order.pos
  have HT : Hid (logicB m m.n z = true) := logicB_true hO.logic
  have HO := Lib.hid hO
  obtain ⟨rfl, _, _⟩ := hL.out.row.row 0 (by omega)
  obtain ⟨rfl, _, _⟩ := hL.out.mat.top 0 (by omega)
  have hp := pow_le_12 hn
  have H1s := Lib.hid h1
  have H2s := Lib.hid h2
  obtain ⟨P, hP⟩ : ∃ P, P = 2 ^ m.n := ⟨_, rfl⟩
  rw [← hP] at h2 hp
  have e0 : ((2 : Int) ^ m.n) = (P : Int) := by rw [hP]; push_cast; rfl
  have e1 : wrap64 ((2 : Int) ^ m.n) = (P : Int) := by rw [e0]; exact IntWalk.wrap64_in _ (by omega)
  have e2 : wrap64 ((P : Int) - 1) = (P : Int) - 1 := IntWalk.wrap64_in _ (by omega)
  have H1 : Hid ((decide ((1 : Int) ≤ (s : Int)) && decide ((s : Int) ≤ wrap64 (2 ^ m.n - 1))) = true) := by show _ = _; rw [e0, e2]; simp; omega
  have H1' : Hid ((decide ((1 : Int) ≤ (s : Int)) && decide ((s : Int) ≤ wrap64 (wrap64 (2 ^ m.n) - 1))) = true) := by show _ = _; rw [e1, e2]; simp; omega
  clear e0 e1 e2 h hO
  go_enter Tryd.func119, Tryd.ntmps119
  go_wp2_with fail
  go_at_call 26
  refine (spec_LogicOk hL.out).mono ?_
  rintro e w1 ⟨rfl, b1⟩
  rw [HT.out]
  have hX1 := hX.step b1
  have hL1 := Lib.hid (hL.out.step b1)
  have r0 := hX1.cell 0 rfl
  have r1 := hX1.cell 1 rfl
  have B1 := hX1.below
  clear q0 q1 hL hX
  go_wp2_with fail
  go_at_call 71
  refine (l1In_any _ _ _ _).mono ?_
  rintro e w2 ⟨rfl, rfl⟩
  first | rw [H1.out] | rw [H1'.out]
  clear r0 r1
  go_wp2_with fail
  have HP4 : Hid (P = 2 ^ m.n ∧ P ≤ 4096) := ⟨hP, hp⟩
  clear hP hp h1 h2
  go_loopw [6] (fun i wr => ∃ t : Nat, 1 ≤ t ∧ t < 4096 ∧ i = .int .i64 t ∧ Below w1.heap.size w1 wr ∧ Hid (Under m y s t)) (fun i _ => 4096 - (intOf i).toNat)
  case atStart => exact ⟨s, H1s.out, by have := HP4.out; have := H2s.out; omega, rfl, Below.refl _ _, Under.start H2s.out⟩
  case round =>
    obtain ⟨t, ht1, ht2, rfl, hD, hU⟩ := hrel
    have hXr := hX1.step hD
    have hr := Lib.hid (hL1.out.step hD)
    have q0 := hXr.cell 0 rfl
    have q1 := hXr.cell 1 rfl
    go_wp2_with fail
    go_at_call 144
    refine (spec_SubOk_in hr.out HO.out ht1 hU.out.lt).mono ?_
    rintro e w3 ⟨rfl, b3⟩
    have hD3 := hD.trans (b3.mono hD.size)
    have hXr3 := hXr.step b3
    clear q0 q1 hr hXr hD
    cases hc : closedB m y t with
    | true =>
      have HV : Hid ((t : Int) = madeV m m.n z (s : Int)) := (madeV_is HO.out H1s.out H2s.out (hU.out.made (closedB_is hc))).symm
      clear hc
      go_wp2_with fail
      go_ret
      exact ⟨ret_int HV.out, hXr3.below⟩
    | false =>
      have HC := Lib.hid hc
      clear hc hXr3
      go_wp2_with fail
      go_loopw [7, 8] (fun v i wi => ∃ u j : Nat, j ≤ m.n ∧ u < 4096 ∧ v = .int .i64 u ∧ i = .int .i64 j ∧ Below w1.heap.size w1 wi ∧ Hid (MidB m y t u j 0)) (fun _ i _ => m.n - (intOf i).toNat)
      case atStart => exact ⟨t, 0, Nat.zero_le _, ht2, rfl, rfl, hD3, MidB.start hU.out.lt⟩
      case round =>
        clear hD3
        obtain ⟨u, j, hj, hu, rfl, rfl, hD, hM⟩ := hrel
        by_cases hlt : j < m.n
        · have hlt' : (j : Int) < m.n := by omega
          go_wp2_with fail
          go_loopw [7, 9] (fun v i wi => ∃ u b : Nat, b ≤ m.n ∧ u < 4096 ∧ v = .int .i64 u ∧ i = .int .i64 b ∧ Below w1.heap.size w1 wi ∧ Hid (MidB m y t u j b)) (fun _ i _ => m.n - (intOf i).toNat)
          case atStart => exact ⟨u, 0, Nat.zero_le _, hu, rfl, rfl, hD, hM⟩
          case round =>
            clear hD hM hu
            obtain ⟨v, b, hb, hv, rfl, rfl, hD, hM⟩ := hrel
            by_cases hbt : b < m.n
            · have hbt' : (b : Int) < m.n := by omega
              cases hbj : t.testBit j with
              | false =>
                have t1 := bit_no hbj
                have HN : Hid (MidB m y t v j (b + 1)) := hM.out.pass (.inl hbj)
                clear hbj
                go_wp2_with fail
                go_roundw
                case rel => exact ⟨v, b + 1, by omega, hv, rfl, by go_num, hD, HN⟩
                case measure => simp [intOf]; omega
              | true =>
                cases hbb : t.testBit b with
                | false =>
                  have t1 := bit_yes hbj
                  have t2 := bit_no hbb
                  have HN : Hid (MidB m y t v j (b + 1)) := hM.out.pass (.inr hbb)
                  clear hbj hbb
                  go_wp2_with fail
                  go_roundw
                  case rel => exact ⟨v, b + 1, by omega, hv, rfl, by go_num, hD, HN⟩
                  case measure => simp [intOf]; omega
                | true =>
                  have t1 := bit_yes hbj
                  have t2 := bit_yes hbb
                  have HN : Hid (MidB m y t (v ||| 2 ^ mN m j b ||| 2 ^ y j) j (b + 1)) := hM.out.add HO.out hlt hbt hbj hbb
                  have hXr := hX1.step hD
                  have hr := hL1.out.step hD
                  have q0 := hXr.cell 0 rfl
                  have q1 := hXr.cell 1 rfl
                  obtain ⟨_, _, d1⟩ := hr.row.row j hlt
                  rw [HO.out.zy j hlt] at d1
                  have hmat := Lib.hid hr.mat
                  have hm := (HO.out.mG hlt hbt).lt
                  have f2 := HO.out.lt j hlt
                  have hm' : ((mN m j b : Nat) : Int) ≤ 64 := by omega
                  have f2' : ((y j : Nat) : Int) ≤ 64 := by omega
                  have hv2 : v ||| 2 ^ mN m j b < 4096 := or_lt (n := 12) hv (one_lt (by omega))
                  have hv3 : v ||| 2 ^ mN m j b ||| 2 ^ y j < 4096 := or_lt (n := 12) hv2 (one_lt (by omega))
                  have o1 := or_is (k := mN m j b) hv (by omega)
                  have o2 := or_is (k := y j) hv2 (by omega)
                  clear hbj hbb hr
                  go_wp2_with fail
                  clear t1 t2
                  go_quiet ((go_at_call 75; exact meetR hmat.out HO.out hlt hbt))
                  go_wp2_with fail
                  go_roundw
                  case rel => exact ⟨_, b + 1, by omega, hv3, rfl, by go_num, Below.drewN' hD _, HN⟩
                  case measure => simp [intOf]; omega
            · have hbt' : ¬ (b : Int) < m.n := by omega
              have hbe : b = m.n := by omega
              subst hbe
              have HN : Hid (MidB m y t v (j + 1) 0) := hM.out.turn
              go_wp2_with fail
              go_roundw
              case rel => exact ⟨v, j + 1, by omega, hv, rfl, by go_num, hD, HN⟩
              case measure => simp [intOf]; omega
        · have hlt' : ¬ (j : Int) < m.n := by omega
          have hje : j = m.n := by omega
          subst hje
          have HG := Lib.hid hM.out.grown
          have hgr := HG.out.grows HC.out
          go_wp2_with fail
          go_roundw
          case rel => exact ⟨u, by omega, hu, rfl, hD, hU.out.then HG.out.under⟩
          case measure => simp [intOf]; omega

set_option maxRecDepth 100000 in
set_option maxHeartbeats 2000000 in
theorem spec_MadeBy {w : World} {B : Nat} {ua : Option Addr} {l : Lay} {m : Mx} {na : Option Addr} {g o k nc : Nat} {z : Nat → Int} {x : Int} (h : LogAt w B ua l m na g o k z) :
    Calls Tryd.prog 119 #[.agg #[.slice ua m.n l.cap, .slice na k nc], .int .i64 x] w fun e w' => e = .returned (.int .i64 (madeV m k z x)) ∧ Below w.heap.size w w' := by
  cases hl : logicB m k z with
  | false =>
    have hX := BoxN.start w #[.slice ua m.n l.cap, .slice na k nc] 26
    have hL := Lib.hid (h.alloc (.cells #[.slice ua m.n l.cap, .slice na k nc] 26))
    have q0 := hX.cell 0 rfl
    have q1 := hX.cell 1 rfl
    have hkk := h.hk
    have HL := Lib.hid hl
    have HF : Hid ((-1 : Int) = madeV m k z x) := (madeV_no (by rw [hl]; rfl)).symm
    clear hl h
    go_enter Tryd.func119, Tryd.ntmps119
    go_wp2_with fail
    go_at_call 26
    refine (spec_LogicOk hL.out).mono ?_
    rintro e w1 ⟨rfl, b1⟩
    rw [HL.out]
    have hX1 := hX.step b1
    go_wp2_with fail
    go_ret
    exact ⟨ret_int HF.out, hX1.below⟩
  | true =>
    obtain ⟨y, o', hO⟩ := (logicB_is hl).ortho
    have hkn : k = m.n := (logicB_is hl).pair.len
    subst hkn
    by_cases hi : inB m.n x = true
    · obtain ⟨i1, i2⟩ : 1 ≤ x ∧ x < (2 ^ m.n : Nat) := of_decide_eq_true hi
      obtain ⟨s, rfl⟩ := Int.eq_ofNat_of_zero_le (show 0 ≤ x by omega)
      have j1 : 1 ≤ s := by omega
      have j2 : s < 2 ^ m.n := by omega
      exact spec_MadeBy_in h hO j1 j2
    · have hX := BoxN.start w #[.slice ua m.n l.cap, .slice na m.n nc] 26
      have hL := Lib.hid (h.alloc (.cells #[.slice ua m.n l.cap, .slice na m.n nc] 26))
      have q0 := hX.cell 0 rfl
      have q1 := hX.cell 1 rfl
      have hn := hO.lat.order.top
      have HL := Lib.hid hl
      have HF : Hid ((-1 : Int) = madeV m m.n z x) := (madeV_no (by rw [hl, Bool.eq_false_iff.2 hi]; rfl)).symm
      have hp := pow_le_12 hn
      obtain ⟨P, hP⟩ : ∃ P, P = 2 ^ m.n := ⟨_, rfl⟩
      have hi' : ¬ (1 ≤ x ∧ x < (P : Int)) := fun h' => hi (decide_eq_true (by rw [← hP]; exact h'))
      rw [← hP] at hp
      have e0 : ((2 : Int) ^ m.n) = (P : Int) := by rw [hP]; push_cast; rfl
      have e1 : wrap64 ((2 : Int) ^ m.n) = (P : Int) := by rw [e0]; exact IntWalk.wrap64_in _ (by omega)
      have e2 : wrap64 ((P : Int) - 1) = (P : Int) - 1 := IntWalk.wrap64_in _ (by omega)
      have hf : (decide ((1 : Int) ≤ x) && decide (x ≤ (P : Int) - 1)) = false := by
        rw [Bool.and_eq_false_iff]; simp; omega
      have H1 : Hid ((decide ((1 : Int) ≤ x) && decide (x ≤ wrap64 (2 ^ m.n - 1))) = false) := by show _ = _; rw [e0, e2]; exact hf
      have H1' : Hid ((decide ((1 : Int) ≤ x) && decide (x ≤ wrap64 (wrap64 (2 ^ m.n) - 1))) = false) := by show _ = _; rw [e1, e2]; exact hf
      clear e0 e1 e2 hf hl h hi hi' hP hp hO
      go_enter Tryd.func119, Tryd.ntmps119
      go_wp2_with fail
      go_at_call 26
      refine (spec_LogicOk hL.out).mono ?_
      rintro e w1 ⟨rfl, b1⟩
      rw [HL.out]
      have hX1 := hX.step b1
      clear q0 q1
      go_wp2_with fail
      go_at_call 71
      refine (l1In_any _ _ _ _).mono ?_
      rintro e w2 ⟨rfl, rfl⟩
      first | rw [H1.out] | rw [H1'.out]
      go_wp2_with fail
      go_ret
      exact ⟨ret_int HF.out, hX1.below⟩
end Go.Proofs.YtnbglbhfclohjaaDoor
namespace Go.Proofs.YtnbglbhfclohjaaDoor
open Go.RowKit Go.Deep

/-- The library's table, where it lies. -/
def TabOk (w : World) : Prop := ∀ j, j < 64 → w.cell? ⟨1, j, none⟩ = some (.int .u8 (Lib.deBruijn64tab.getD j 0 : Nat))
theorem TabOk.step {w w' : World} {B : Nat} (h : TabOk w) (hb : Below B w w') (hB : 1 < B) : TabOk w' := fun j hj => by
  rw [hb.cell (p := ⟨1, j, none⟩) hB]; exact h j hj
theorem TabOk.size {w : World} (h : TabOk w) : 1 < w.heap.size := World.block_lt_of_cell? _ _ (h 0 (by omega))
theorem tz_key (r a : Nat) (hr : r < 4096) (h0 : r ≠ 0) (hlow : r &&& (18446744073709551616 - r) = a) :
    IntKind.u64.wrap (bits BinOp.and IntKind.u64 (r : Int) (IntKind.u64.wrap (-(r : Int))) * 285870213051353865) / 288230376151711744 = ((a * 285870213051353865 % 18446744073709551616 / 288230376151711744 : Nat) : Int) := by
  have e1 : IntKind.u64.wrap (-(r : Int)) = ((18446744073709551616 - r : Nat) : Int) := by rw [IntKind.wrap_u64]; omega
  rw [e1, bits_and_u64_nat r _ (by omega) (by omega), hlow, IntKind.wrap_u64]
  omega
set_option maxHeartbeats 1000000 in
theorem tz64_at {r k idx : Nat} {w : World} (hz : ((r : Int) == 0) = false) (key : Hid (IntKind.u64.wrap (bits BinOp.and IntKind.u64 (r : Int) (IntKind.u64.wrap (-(r : Int))) * 285870213051353865) / 288230376151711744 = (idx : Int)))
    (hi : idx < 64) (hk : k < 64) (hcell : w.cell? ⟨1, idx, none⟩ = some (.int .u8 k)) :
    Calls Tryd.prog 149 #[.int .u64 r] w fun e w' => e = .returned (.int .i64 k) ∧ w = w' := by
  go_enter Tryd.func149, Tryd.ntmps149
  go_wp2_with (simp only [key.out])
  go_ret
  exact ⟨rfl, rfl⟩
theorem tz64_small {r : Nat} (hr : r < 4096) (h0 : r ≠ 0) {w : World} (hT : TabOk w) :
    Calls Tryd.prog 149 #[.int .u64 r] w fun e w' => e = .returned (.int .i64 (Lib.ctz 64 r : Nat)) ∧ w = w' := by
  obtain ⟨hlow, hk⟩ := Lib.lowest_bit 64 r h0 (by omega)
  obtain ⟨hi, htab⟩ := Lib.deBruijn64_at _ hk
  have hcell := hT _ hi
  rw [htab] at hcell
  exact tz64_at (by simp; omega) (tz_key r _ hr h0 hlow) hi hk hcell
set_option maxHeartbeats 1000000 in
theorem tz_small {r : Nat} (hr : r < 4096) (h0 : r ≠ 0) {w : World} (hT : TabOk w) :
    Calls Tryd.prog 126 #[.int .u64 r] w fun e w' => e = .returned (.int .i64 (Lib.ctz 64 r : Nat)) ∧ w = w' := by
  have hw : IntKind.u64.wrap (r : Int) = (r : Int) := by rw [IntKind.wrap_u64]; omega
  have HT := Lib.hid hT
  clear hT
  go_enter Tryd.func126, Tryd.ntmps126
  go_wp2_with fail
  go_at_call 149
  refine (tz64_small hr h0 HT.out).mono ?_
  rintro e w1 ⟨rfl, rfl⟩
  go_wp2_with fail
  go_ret
  exact ⟨rfl, rfl⟩

/-- The lowest bit struck off. -/
theorem mems_low {r r' k : Nat} (h1 : r.testBit k = true) (h2 : ∀ i, i < k → r.testBit i = false) (h3 : ∀ i, r'.testBit i = (r.testBit i && !decide (i = k))) (n : Nat) :
    (n ≤ k → memsTo r n = [] ∧ memsTo r' n = []) ∧ (k < n → memsTo r n = k :: memsTo r' n) := by
  induction n with
  | zero => exact ⟨fun _ => ⟨rfl, rfl⟩, fun h => absurd h (Nat.not_lt_zero _)⟩
  | succ n ih =>
    have e3 := h3 n
    refine ⟨fun h => ?_, fun h => ?_⟩
    · obtain ⟨i1, i2⟩ := ih.1 (by omega)
      have e := h2 n (by omega)
      rw [e, Bool.false_and] at e3
      rw [memsTo_no e, memsTo_no e3]
      exact ⟨i1, i2⟩
    · by_cases hn : n = k
      · subst hn
        obtain ⟨i1, i2⟩ := ih.1 (Nat.le_refl _)
        have e4 : r'.testBit n = false := by rw [e3]; simp
        rw [memsTo_yes h1, memsTo_no e4, i1, i2]
        rfl
      · have i1 := ih.2 (by omega)
        have e5 : decide (n = k) = false := decide_eq_false hn
        rw [e5, Bool.not_false, Bool.and_true] at e3
        cases e : r.testBit n with
        | false =>
          rw [e] at e3
          rw [memsTo_no e, memsTo_no e3, i1]
        | true =>
          rw [e] at e3
          rw [memsTo_yes e, memsTo_yes e3, i1]
          rfl
theorem strike_low {r : Nat} (h0 : r ≠ 0) (hr : r < 18446744073709551616) : r.testBit (Lib.ctz 64 r) = true ∧ (∀ i, i < Lib.ctz 64 r → r.testBit i = false) ∧ ∀ i, (r &&& (r - 1)).testBit i = (r.testBit i && !decide (i = Lib.ctz 64 r)) := by
  obtain ⟨q, hq, _⟩ := Lib.ctzFrom_spec 64 r (by omega) hr
  have hc : Lib.ctz 64 r = Lib.ctzFrom 64 r := by unfold Lib.ctz; rw [if_neg h0]
  rw [hc]
  generalize Lib.ctzFrom 64 r = k at hq
  have hp : 0 < 2 ^ k := Nat.two_pow_pos k
  have b1 : ∀ i, r.testBit i = if i < k then false else (2 * q + 1).testBit (i - k) := fun i => by
    have := Nat.testBit_two_pow_mul_add (2 * q + 1) hp i
    rw [Nat.add_zero, ← hq] at this
    rw [this]; simp
  have e2 : r - 1 = 2 ^ k * (2 * q) + (2 ^ k - 1) := by
    rw [hq, Nat.mul_add, Nat.mul_one]; omega
  have b2 : ∀ i, (r - 1).testBit i = if i < k then (2 ^ k - 1).testBit i else (2 * q).testBit (i - k) := fun i => by
    rw [e2]; exact Nat.testBit_two_pow_mul_add (2 * q) (by omega) i
  refine ⟨by rw [b1, if_neg (Nat.lt_irrefl k), Nat.sub_self]; simp, fun i hi => by rw [b1, if_pos hi], fun i => ?_⟩
  rw [Nat.testBit_and, b1, b2]
  by_cases hi : i < k
  · rw [if_pos hi]; simp
  · rw [if_neg hi, if_neg hi]
    by_cases e : i = k
    · subst e; simp
    · obtain ⟨d, hd⟩ : ∃ d, i - k = d + 1 := ⟨i - k - 1, by omega⟩
      rw [hd, Nat.testBit_succ, Nat.testBit_succ, decide_eq_false e]
      have d1 : (2 * q + 1) / 2 = q := by omega
      have d2 : 2 * q / 2 = q := by omega
      rw [d1, d2]; simp
theorem mems_step {r : Nat} (hr : r < 4096) (h0 : r ≠ 0) : memsTo r 12 = Lib.ctz 64 r :: memsTo (r &&& (r - 1)) 12 ∧ r &&& (r - 1) < r := by
  obtain ⟨h1, h2, h3⟩ := strike_low h0 (by omega)
  refine ⟨(mems_low h1 h2 h3 12).2 (bit_lt (n := 12) (by omega) h1), ?_⟩
  have hs : Sub (r &&& (r - 1)) r := fun i g => by
    rw [h3 i, Bool.and_eq_true] at g
    exact g.1
  have hle := hs.le
  have hne : r &&& (r - 1) ≠ r := fun e => by
    have := h3 (Lib.ctz 64 r)
    rw [e, h1] at this
    simp at this
  omega
theorem memsTo_zero (n : Nat) : memsTo 0 n = [] := by
  induction n with
  | zero => rfl
  | succ n ih => rw [memsTo_no (by simp), ih]
/-- What is still to be listed. -/
def Rest (s j r : Nat) : Prop := r < 4096 ∧ ∃ pre, pre.length = j ∧ memsTo s 12 = pre ++ memsTo r 12
theorem Rest.next {s j r : Nat} (h : Rest s j r) (h0 : r ≠ 0) : Rest s (j + 1) (r &&& (r - 1)) ∧ memF s 12 j = Lib.ctz 64 r ∧ r &&& (r - 1) < r := by
  obtain ⟨hr, pre, hp, he⟩ := h
  obtain ⟨h1, h2⟩ := mems_step hr h0
  refine ⟨⟨by omega, pre ++ [Lib.ctz 64 r], by simp [hp], by rw [he, h1]; simp⟩, ?_, h2⟩
  unfold memF
  rw [he, h1, List.getElem?_append_right (by omega), hp, Nat.sub_self]
  rfl
theorem Rest.all {s j : Nat} (h : Rest s j 0) : j = memK s 12 := by
  obtain ⟨_, pre, hp, he⟩ := h
  unfold memK
  rw [he, memsTo_zero, List.append_nil, hp]
theorem Rest.le {s j r : Nat} (h : Rest s j r) : j ≤ 12 := by
  obtain ⟨_, pre, hp, he⟩ := h
  have := memsTo_len s 12
  rw [he, List.length_append] at this
  omega

/-- The members listed in memory of the call's own. -/
def MemRes (w : World) (p : Nat) (f : Nat → Nat) (e : Ending) (w' : World) : Prop :=
  ∃ a g c, e = .returned (.slice a p c) ∧ RowAt w' w'.heap.size a g 0 p (fun i => (f i : Int)) ∧ Below w.heap.size w w' ∧ ∀ q : Addr, a = some q → w.heap.size ≤ q.block

set_option maxRecDepth 100000 in
set_option maxHeartbeats 2000000 in
theorem members_new {s : Nat} (hs : s < 4096) {w : World} (hT : TabOk w) :
    Calls Tryd.prog 82 #[.int .i64 s] w (MemRes w (memK s 12) (memF s 12)) := by
  obtain ⟨i0, hi0, hz0, hz1, hz2⟩ := info_parts infoInt
  have HI := Lib.hid hi0
  have HZ0 := Lib.hid hz0
  have HZ1 := Lib.hid hz1
  have HZ2 := Lib.hid hz2
  have HT := Lib.hid hT
  have HG := hT.size
  have cv : IntKind.u64.wrap (s : Int) = (s : Int) := by rw [IntKind.wrap_u64]; omega
  clear hi0 hz0 hz1 hz2 hT
  go_enter Tryd.func82, Tryd.ntmps82
  go_wp2_with fail
  go_loopw [3, 4] (fun t i wr => ∃ j r : Nat, i = .int .u64 r ∧ Hid (Rest s j r) ∧ IntsAt wr w.heap.size t j (fun i => (memF s 12 i : Int)) ∧ Below w.heap.size w wr) (fun _ i _ => (intOf i).toNat)
  case atStart => exact ⟨0, s, rfl, ⟨hs, [], rfl, rfl⟩, IntsAt.nil _ _ _, Below.refl _ _⟩
  case round =>
    obtain ⟨j, r, rfl, hR, hown, hW⟩ := hrel
    have hr := hR.out.1
    have hj := hR.out.le
    by_cases h0 : r = 0
    · subst h0
      have HJ := Lib.hid hR.out.all
      have hown' : IntsAt wr w.heap.size u3 (memK s 12) (fun i => (memF s 12 i : Int)) := by rw [← HJ.out]; exact hown
      obtain ⟨a, c, rfl⟩ := hown'.shape
      have HRow := Lib.hid hown'.rowAt
      have hfr : ∀ q : Addr, a = some q → w.heap.size ≤ q.block := fun q hq => by
        subst hq
        rcases hown'.2 with ⟨h1, _⟩ | ⟨g, cap, cur, h1, hb, _⟩
        · cases h1
        · cases h1; exact hb
      have HFr := Lib.hid hfr
      clear hown hown' hfr
      go_wp2_with fail
      go_ret
      obtain ⟨g', hg'⟩ := HRow.out
      exact ⟨a, g', c, rfl, hg', hW, HFr.out⟩
    · have hz : ((r : Int) != 0) = true := by simp; omega
      have hT := Lib.hid (HT.out.step hW HG)
      obtain ⟨n1, n2, n3⟩ := hR.out.next h0
      have HN := Lib.hid n1
      have HV := Lib.hid n2
      have HL := Lib.hid n3
      have hsub : IntKind.u64.wrap ((r : Int) - 1) = ((r - 1 : Nat) : Int) := by rw [IntKind.wrap_u64]; omega
      have hand : bits .and .u64 (r : Int) ((r - 1 : Nat) : Int) = ((r &&& (r - 1) : Nat) : Int) := bits_and_u64_nat r (r - 1) (by omega) (by omega)
      have HS := Lib.hid hsub
      have HA := Lib.hid hand
      clear n1 n2 n3 hsub hand
      go_wp2_with fail
      go_at_call 126
      refine (tz_small hr h0 hT.out).mono ?_
      rintro e w2 ⟨rfl, rfl⟩
      rw [← HV.out]
      go_wp2_with (at_builtin; refine wpList_append_own _ rfl _ _ 24 rfl w.heap.size 3 i0 (.int .i64 0) 1 8 Tryd.underlying24 HI.out HZ0.out HZ1.out HZ2.out rfl (by decide) _ _ _ rfl (World.ownsRow.alloc hown _) ⟨wr.heap.size, 0, none⟩ 1 1 [.int .i64 (memF s 12 j : Int)] rfl rfl (cell_one_new _ _ _) ?c2 ?c3 ?c4 ?c5 ?_)
      case c2 => simp [Value.oneCell']
      case c3 => unfold maxLen; omega
      case c4 => have := hW.size; omega
      case c5 => have := hW.size; first | omega | (simp; omega)
      intro v' w4 hown4 hgrow _
      have HO4 : Hid (IntsAt w4 w.heap.size v' (j + 1) (fun i => (memF s 12 i : Int))) := by
        show IntsAt _ _ _ _ _
        refine IntsAt.told ?_
        exact hown4
      have hA : Below w.heap.size wr (wr.alloc (.cells #[.int .i64 (memF s 12 j : Int)] 3)) := (Below.refl _ _).alloc (by have := hW.size; omega) _
      have hG := hA.grown hgrow (by have := hW.size; first | omega | (simp; omega)) (ownsRow_block hown)
      have hW4 := Lib.hid (hW.trans (hG.mono (by omega)))
      clear hown4 hgrow hown hA hG
      have hsub := HS.out
      have hand := HA.out
      go_wp2_with fail
      go_roundw
      case rel => exact ⟨j + 1, r &&& (r - 1), rfl, HN.out, HO4.out, hW4.out⟩
      case measure => simp only [intOf, Int.toNat_natCast]; exact HL.out
theorem members_any {s : Nat} (hs : s < 4096) {w : World} (hT : TabOk w) :
    Calls Tryd.prog 82 #[.int .i64 s] w (InnerRes w (memK s 12) (memF s 12)) :=
  (members_new hs hT).mono fun _ _ ⟨a, g, c, h1, h2, h3, _⟩ => ⟨a, g, c, h1, h2, h3⟩
end Go.Proofs.YtnbglbhfclohjaaDoor
namespace Go.Proofs.YtnbglbhfclohjaaDoor
open Go.RowKit Go.Deep

theorem quot_zero {s n : Nat} (h : s < 2 ^ n) : (s : Int) / 2 ^ n = 0 := by
  have e : ((2 : Int) ^ n) = ((2 ^ n : Nat) : Int) := by push_cast; rfl
  rw [e]
  generalize 2 ^ n = q at h
  exact Int.ediv_eq_zero_of_lt (by omega) (by omega)
theorem quot_pos {s n : Nat} (h : ¬ s < 2 ^ n) : (s : Int) / 2 ^ n ≠ 0 := by
  have e : ((2 : Int) ^ n) = ((2 ^ n : Nat) : Int) := by push_cast; rfl
  have hp : 0 < 2 ^ n := Nat.two_pow_pos n
  rw [e]
  generalize 2 ^ n = q at h hp
  have e2 : (s : Int) / (q : Int) = ((s / q : Nat) : Int) := by push_cast; rfl
  rw [e2]
  have : 1 ≤ s / q := (Nat.le_div_iff_mul_le hp).2 (by omega)
  omega
set_option maxHeartbeats 1000000 in
theorem setOk_any {w : World} {ob k nc g o : Nat} {sa : Option Addr} {l : Lay} {m : Mx} {x : Int} (hk : k ≤ 12) :
    Calls Tryd.prog 68 #[algV sa l m (some ⟨g, o, none⟩) k nc ob, .int .i64 x] w fun e w' => e = .returned (.bool (inB k x)) ∧ Below w.heap.size w w' := by
  have hX := BoxN.start w #[.slice sa m.n l.cap, .slice (some ⟨g, o, none⟩) k nc, .slice (some ⟨ob, 0, none⟩) 2 2] 58
  have q0 := hX.cell 0 rfl
  have q1 := hX.cell 1 rfl
  have hk' : (k : Int) ≤ 64 := by omega
  unfold algV
  by_cases h0 : 0 < x
  · obtain ⟨s, rfl⟩ := Int.eq_ofNat_of_zero_le (show 0 ≤ x by omega)
    by_cases hs : s < 2 ^ k
    · have e1 := quot_zero hs
      have HF : Hid (true = inB k (s : Int)) := (decide_eq_true ⟨by omega, by omega⟩ : inB k (s : Int) = true).symm
      go_enter Tryd.func68, Tryd.ntmps68
      go_wp2_with fail
      go_ret
      exact ⟨ret_bool HF.out, hX.below⟩
    · have e1 : ((s : Int) / 2 ^ k == 0) = false := by
        rw [beq_eq_false_iff_ne]; exact quot_pos hs
      have HF : Hid (false = inB k (s : Int)) := (decide_eq_false (fun h => hs (by omega)) : inB k (s : Int) = false).symm
      go_enter Tryd.func68, Tryd.ntmps68
      go_wp2_with fail
      go_ret
      exact ⟨ret_bool HF.out, hX.below⟩
  · have HF : Hid (false = inB k x) := (decide_eq_false (fun h => by omega) : inB k x = false).symm
    go_enter Tryd.func68, Tryd.ntmps68
    go_wp2_with fail
    go_ret
    exact ⟨ret_bool HF.out, hX.below⟩

/-- Rows of pairs of listed answers looked at. -/
structure GA (m : Mx) (y : Nat → Nat) (s K : Nat) (q : Nat → Nat) (u j : Nat) : Prop where
  under : Under m y s u
  done : ∀ i, i < j → u.testBit (y (q i)) = true ∧ ∀ c, c < K → u.testBit (mN m (q i) (q c)) = true
structure GB (m : Mx) (y : Nat → Nat) (s K : Nat) (q : Nat → Nat) (u j c : Nat) : Prop where
  all : GA m y s K q u j
  opp : u.testBit (y (q j)) = true
  row : ∀ i, i < c → u.testBit (mN m (q j) (q i)) = true
theorem GA.more {m : Mx} {y : Nat → Nat} {s K : Nat} {q : Nat → Nat} {u u' j : Nat} (h : GA m y s K q u j) (hu : Under m y s u') (hs : Sub u u') : GA m y s K q u' j :=
  ⟨hu, fun i hi => ⟨hs _ (h.done i hi).1, fun c hc => hs _ ((h.done i hi).2 c hc)⟩⟩
theorem GA.first {m : Mx} {z : Nat → Int} {y : Nat → Nat} {o s K : Nat} {q b : Nat → Nat} {u j : Nat} (h : GA m y s K q u j) (hO : Ortho m z y o) (hp : Emb m.n K s q b) (hj : j < K) : GB m y s K q (u ||| 2 ^ y (q j)) j 0 := by
  have hx := hO.lt _ (hp.lt j hj)
  refine ⟨h.more (h.under.more hx fun v hv hs => hv.not _ (hp.lt j hj) (hs _ (hp.has j hj))) (sub_left _ _), sub_right _ _ _ (has_one _), fun _ hi => absurd hi (Nat.not_lt_zero _)⟩
theorem GB.add {m : Mx} {z : Nat → Int} {y : Nat → Nat} {o s K : Nat} {q b : Nat → Nat} {u j c : Nat} (h : GB m y s K q u j c) (hO : Ortho m z y o) (hp : Emb m.n K s q b) (hj : j < K) (hc : c < K) : GB m y s K q (u ||| (2 ^ mN m (q j) (q c) ||| 2 ^ jN m (q j) (q c))) j (c + 1) := by
  have h1 := hp.lt j hj
  have h2 := hp.lt c hc
  have hm := (hO.mG h1 h2).lt
  have hjn := (hO.jG h1 h2).lt
  have hs := sub_left u (2 ^ mN m (q j) (q c) ||| 2 ^ jN m (q j) (q c))
  have hU : Under m y s (u ||| (2 ^ mN m (q j) (q c) ||| 2 ^ jN m (q j) (q c))) :=
    ⟨h.all.under.has.trans hs, or_lt h.all.under.lt (or_lt (one_lt hm) (one_lt hjn)), fun v hv hsv => sub_or (h.all.under.least v hv hsv)
      (sub_or (sub_one (hv.meet _ _ h1 h2 (hsv _ (hp.has j hj)) (hsv _ (hp.has c hc)))) (sub_one (hv.join hO h1 h2 (hsv _ (hp.has j hj)) (hsv _ (hp.has c hc)))))⟩
  refine ⟨h.all.more hU hs, hs _ h.opp, fun i hi => ?_⟩
  by_cases e : i = c
  · subst e
    exact sub_right _ _ _ (sub_left _ _ _ (has_one _))
  · exact hs _ (h.row i (by omega))
theorem GB.turn {m : Mx} {y : Nat → Nat} {s K : Nat} {q : Nat → Nat} {u j : Nat} (h : GB m y s K q u j K) : GA m y s K q u (j + 1) :=
  ⟨h.all.under, fun i hi => by
    by_cases e : i = j
    · subst e; exact ⟨h.opp, h.row⟩
    · exact h.all.done i (by omega)⟩
theorem GA.grown {m : Mx} {y : Nat → Nat} {s K : Nat} {q b : Nat → Nat} {u : Nat} (h : GA m y s K q u K) (hp : Emb m.n K s q b) : Grown m y s u := by
  refine ⟨h.under, fun a c ha hc ga gc => ?_, fun a ha ga => ?_⟩
  · have := (h.done (b a) (hp.blt a ha ga)).2 (b c) (hp.blt c hc gc)
    rwa [hp.qb a ha ga, hp.qb c hc gc] at this
  · have := (h.done (b a) (hp.blt a ha ga)).1
    rwa [hp.qb a ha ga] at this
theorem Emb.down {n s : Nat} (hn : n ≤ 12) (hs : s < 2 ^ n) : Emb n (memK s 12) s (memF s 12) (memB s 12) := by
  have h := mem_emb s 12
  exact ⟨fun j hj => bit_lt hs (h.has j hj), h.has, h.bq, fun a ha => h.blt a (by omega), fun a ha => h.qb a (by omega)⟩
theorem or2_is {a b : Nat} (ha : a < 12) (hb : b < 12) : bits .or .i64 (wrap64 (2 ^ a)) (wrap64 (2 ^ b)) = ((2 ^ a ||| 2 ^ b : Nat) : Int) := by
  have h1 := pow_le_12 (Nat.le_of_lt ha)
  have e : wrap64 ((2 : Int) ^ a) = ((2 ^ a : Nat) : Int) := by
    have e : ((2 : Int) ^ a) = ((2 ^ a : Nat) : Int) := by push_cast; rfl
    rw [e]
    generalize 2 ^ a = q at h1
    exact IntWalk.wrap64_in _ (by omega)
  rw [e]
  exact or_is (one_lt (n := 12) ha) hb
theorem wrap_pow {a : Nat} (ha : a < 12) : IntKind.i64.wrap (2 ^ min a 64) = ((2 ^ a : Nat) : Int) := by
  rw [Nat.min_eq_left (by omega)]
  exact one_wrap (Nat.le_of_lt ha)
theorem or3_is {v a b : Nat} (hv : v < 4096) (ha : a < 12) (hb : b < 12) : bits .or .i64 (v : Int) (bits .or .i64 (IntKind.i64.wrap (2 ^ min a 64)) (IntKind.i64.wrap (2 ^ min b 64))) = ((v ||| (2 ^ a ||| 2 ^ b) : Nat) : Int) := by
  have h1 := one_lt (n := 12) ha
  have h2 := one_lt (n := 12) hb
  have h3 := or_lt h1 h2
  rw [wrap_pow ha, wrap_pow hb, i64_or_nat _ _ (Nat.lt_trans h1 (by decide)) (Nat.lt_trans h2 (by decide)), i64_or_nat _ _ (Nat.lt_trans hv (by omega)) (Nat.lt_trans h3 (by decide))]
def GrownRes (w : World) (m : Mx) (y : Nat → Nat) (s : Nat) (e : Ending) (w' : World) : Prop := ∃ t, e = .returned (.int .i64 (t : Nat)) ∧ Grown m y s t ∧ Below w.heap.size w w'

set_option maxRecDepth 100000 in
set_option maxHeartbeats 2000000 in
theorem grown_any {w : World} {B ob tb g o nc s o' : Nat} {ua : Option Addr} {l : Lay} {m : Mx} {tG : Nat → Nat} {z : Nat → Int} {y : Nat → Nat} (hA : Alg w ob tb tG ua l m) (hS : SqAt w B ua l m) (hR : RowAt w B (some ⟨g, o, none⟩) g o m.n z) (hT : TabOk w)
    (hO : Ortho m z y o') (h1 : 1 ≤ s) (hs : s < 2 ^ m.n) :
    Calls Tryd.prog 117 #[algV ua l m (some ⟨g, o, none⟩) m.n nc ob, .int .i64 s] w (GrownRes w m y s) := by
  have hX := BoxN.start w #[.slice ua m.n l.cap, .slice (some ⟨g, o, none⟩) m.n nc, .slice (some ⟨ob, 0, none⟩) 2 2] 58
  have bX := hX.below
  have hn := hO.lat.order.top
  have hB := hS.hB
  have HA := Lib.hid (hA.step bX)
  have HS := Lib.hid (hS.step bX)
  have HR := Lib.hid (hR.below (bX.mono hB))
  have HT := Lib.hid (hT.step bX hT.size)
  have HO := Lib.hid hO
  have hp := pow_le_12 hn
  have HE : Hid (Emb m.n (memK s 12) s (memF s 12) (memB s 12)) := Emb.down hn hs
  have hs4 : s < 4096 := by omega
  have HU : Hid (s < 2 ^ m.n) := hs
  have sX := hX.size
  clear hA hS hR hT hO bX hp hs
  unfold algV
  go_enter Tryd.func117, Tryd.ntmps117
  go_wp2_with fail
  generalize hW : w.alloc (.cells #[.slice ua m.n l.cap, .slice (some ⟨g, o, none⟩) m.n nc, .slice (some ⟨ob, 0, none⟩) 2 2] 58) = W at hX HA HS HR HT sX ⊢
  clear hW
  go_at_call 82
  refine (members_any hs4 HT.out).mono ?_
  rintro e w1 ⟨a', g', c', rfl, hrow, b1⟩
  have hX1 := hX.step b1
  have s1 := b1.size
  have HA1 := Lib.hid (HA.out.step b1)
  have HS1 := Lib.hid (HS.out.step b1)
  have HR1 := Lib.hid (HR.out.below (b1.mono (by have := HS.out.hB; exact this)))
  have HB1 : B ≤ w1.heap.size := by have := HS.out.hB; omega
  have HL := Lib.hid hrow
  obtain ⟨K, hK⟩ : ∃ K, K = memK s 12 := ⟨_, rfl⟩
  have HK := Lib.hid hK
  rw [← hK] at HL HE ⊢
  have hK12 : K ≤ 12 := by rw [hK]; exact memsTo_len s 12
  have hK1 : 1 ≤ K := by rw [hK]; exact mem_pos h1 hs4
  clear hX HA HS HR HT hrow hK b1
  obtain ⟨rfl, _, _⟩ := HL.out.row 0 (by omega)
  go_wp2_with fail
  go_loopw [5, 16] (fun v i wr => ∃ u j : Nat, j ≤ K ∧ u < 4096 ∧ v = .int .i64 u ∧ i = .int .i64 j ∧ Below w1.heap.size w1 wr ∧ Hid (GA m y s K (memF s 12) u j)) (fun _ i _ => K - (intOf i).toNat)
  case atStart => exact ⟨s, 0, Nat.zero_le _, hs4, rfl, rfl, Below.refl _ _, Under.start HU.out, fun _ hi => absurd hi (Nat.not_lt_zero _)⟩
  case round =>
    obtain ⟨u, j, hj, hu, rfl, rfl, hD, hM⟩ := hrel
    by_cases hlt : j < K
    · have hlt' : (j : Int) < K := by omega
      have hXr := hX1.step hD
      have q0 := hXr.cell 0 rfl
      have q1 := hXr.cell 1 rfl
      have q2 := hXr.cell 2 rfl
      obtain ⟨_, _, c1⟩ := (HL.out.below hD).row j hlt
      rw [Nat.zero_add] at c1
      have hq := HE.out.lt j hlt
      have hq' : ((memF s 12 j : Nat) : Int) < m.n := by omega
      obtain ⟨_, _, d1⟩ := (HR1.out.below (hD.mono HB1)).row (memF s 12 j) hq
      rw [HO.out.zy _ hq] at d1
      have f2 := HO.out.lt _ hq
      have f2' : ((y (memF s 12 j) : Nat) : Int) ≤ 64 := by omega
      have o1 := or_is (k := y (memF s 12 j)) hu (by omega)
      have hv : u ||| 2 ^ y (memF s 12 j) < 4096 := or_lt (n := 12) hu (one_lt (by omega))
      have hM1 := Lib.hid (hM.out.first HO.out HE.out hlt)
      go_wp2_with fail
      go_loopw [5, 30] (fun v i wi => ∃ u c : Nat, c ≤ K ∧ u < 4096 ∧ v = .int .i64 u ∧ i = .int .i64 c ∧ Below w1.heap.size w1 wi ∧ Hid (GB m y s K (memF s 12) u j c)) (fun _ i _ => K - (intOf i).toNat)
      case atStart => exact ⟨_, 0, Nat.zero_le _, hv, rfl, rfl, hD, hM1⟩
      case round =>
        clear hD hM1 hXr q0 q1 q2 c1 d1 o1 hv hu
        obtain ⟨v, c, hc, hv, rfl, rfl, hD, hM1⟩ := hrel
        by_cases hct : c < K
        · have hct' : (c : Int) < K := by omega
          have hXi := hX1.step hD
          have hwi := hD.size
          have q0 := hXi.cell 0 rfl
          have q1 := hXi.cell 1 rfl
          have q2 := hXi.cell 2 rfl
          obtain ⟨_, _, c2⟩ := (HL.out.below hD).row c hct
          rw [Nat.zero_add] at c2
          have hqc := HE.out.lt c hct
          obtain ⟨qj, hqj⟩ : ∃ qj, qj = memF s 12 j := ⟨_, rfl⟩
          obtain ⟨qc, hqc'⟩ : ∃ qc, qc = memF s 12 c := ⟨_, rfl⟩
          have ha : qj < m.n := by rw [hqj]; exact hq
          have hb : qc < m.n := by rw [hqc']; exact hqc
          rw [← hqc'] at c2
          have HM := Lib.hid (HO.out.mI ha hb)
          have HJ := Lib.hid (HO.out.jI ha hb)
          have hm := (HO.out.mG ha hb).lt
          have hjn := (HO.out.jG ha hb).lt
          have hm' : ((mN m qj qc : Nat) : Int) ≤ 64 := by omega
          have hjn' : ((jN m qj qc : Nat) : Int) ≤ 64 := by omega
          have HAi := Lib.hid (HA1.out.step hD)
          have HSi := Lib.hid (HS1.out.step hD)
          have HN : Hid (GB m y s K (memF s 12) (v ||| (2 ^ mN m qj qc ||| 2 ^ jN m qj qc)) j (c + 1)) := by
            rw [hqj, hqc']; exact hM1.out.add HO.out HE.out hlt hct
          have hv4 : 2 ^ mN m qj qc ||| 2 ^ jN m qj qc < 4096 := or_lt (n := 12) (one_lt (by omega)) (one_lt (by omega))
          have hv5 : v ||| (2 ^ mN m qj qc ||| 2 ^ jN m qj qc) < 4096 := or_lt (n := 12) hv hv4
          have HVal := Lib.hid (or3_is (v := v) (a := mN m qj qc) (b := jN m qj qc) hv (by omega) (by omega))
          have hS : (fun w' => ((w'.cell? ⟨w.heap.size, 0, none⟩ = some (.slice ua m.n l.cap) ∧ w'.cell? ⟨w.heap.size, 1, none⟩ = some (.slice (some ⟨g, o, none⟩) m.n nc)) ∧ w'.cell? ⟨w.heap.size, 2, none⟩ = some (.slice (some ⟨ob, 0, none⟩) 2 2))) wr.drew := ⟨⟨q0, q1⟩, q2⟩
          have hkeep : Hid (∀ wx, Below w1.heap.size wr wx → (fun w' => ((w'.cell? ⟨w.heap.size, 0, none⟩ = some (.slice ua m.n l.cap) ∧ w'.cell? ⟨w.heap.size, 1, none⟩ = some (.slice (some ⟨g, o, none⟩) m.n nc)) ∧ w'.cell? ⟨w.heap.size, 2, none⟩ = some (.slice (some ⟨ob, 0, none⟩) 2 2))) wx) := fun wx hb1 => ⟨⟨(hb1.cell (p := ⟨w.heap.size, 0, none⟩) (by show w.heap.size < _; omega)).trans q0, (hb1.cell (p := ⟨w.heap.size, 1, none⟩) (by show w.heap.size < _; omega)).trans q1⟩, (hb1.cell (p := ⟨w.heap.size, 2, none⟩) (by show w.heap.size < _; omega)).trans q2⟩
          have hcm := made_meet (na := some ⟨g, o, none⟩) (nc := nc) (k := m.n) (HAi.out.step (Below.refl _ wr).drew) (HSi.out.step (Below.refl _ wr).drew) ha hb
          unfold algV at hcm
          have e8 : u8 = u8 := rfl
          clear hXi q0 q1 q2
          go_wp2_with fail
          refine region_plain (fuel := 14) (listed := #[false, false, false, false, false, false, false, false, false, false, false, false, false, false]) (fun w' => ((w'.cell? ⟨w.heap.size, 0, none⟩ = some (.slice ua m.n l.cap) ∧ w'.cell? ⟨w.heap.size, 1, none⟩ = some (.slice (some ⟨g, o, none⟩) m.n nc)) ∧ w'.cell? ⟨w.heap.size, 2, none⟩ = some (.slice (some ⟨ob, 0, none⟩) 2 2))) (by kernel_rfl) (by kernel_rfl) (by kernel_rfl) ?_
          refine hold_take (i := 0) (d := 34) (v := ?va0) (listed' := #[true, false, false, false, false, false, false, false, false, false, false, false, false, false]) rfl (by kernel_rfl) (by kernel_rfl) (by kernel_rfl) rfl (by rfl) (by kernel_rfl) hS ?ha0 ?ra0
          case ha0 =>
            intro w' hSw
            obtain ⟨⟨k0, k1⟩, k2⟩ := hSw
            go_simp
            try with_reducible rfl
          simp only [List.setIfInBounds_toArray, List.set_cons_zero, List.set_cons_succ]
          refine hold_take (i := 1) (d := 35) (v := ?va1) (listed' := #[true, true, false, false, false, false, false, false, false, false, false, false, false, false]) rfl (by kernel_rfl) (by kernel_rfl) (by kernel_rfl) rfl (by rfl) (by kernel_rfl) hS ?ha1 ?ra1
          case ha1 =>
            intro w' hSw
            obtain ⟨⟨k0, k1⟩, k2⟩ := hSw
            go_simp
            try with_reducible rfl
          simp only [List.setIfInBounds_toArray, List.set_cons_zero, List.set_cons_succ]
          refine hold_take (i := 2) (d := 36) (v := ?va2) (listed' := #[true, true, true, false, false, false, false, false, false, false, false, false, false, false]) rfl (by kernel_rfl) (by kernel_rfl) (by kernel_rfl) rfl (by rfl) (by kernel_rfl) hS ?ha2 ?ra2
          case ha2 =>
            intro w' hSw
            obtain ⟨⟨k0, k1⟩, k2⟩ := hSw
            go_simp
            try with_reducible rfl
          simp only [List.setIfInBounds_toArray, List.set_cons_zero, List.set_cons_succ]
          refine hold_take (i := 3) (d := 37) (v := ?va3) (listed' := #[true, true, true, true, false, false, false, false, false, false, false, false, false, false]) rfl (by kernel_rfl) (by kernel_rfl) (by kernel_rfl) rfl (by rfl) (by kernel_rfl) hS ?ha3 ?ra3
          case ha3 =>
            intro w' hSw
            obtain ⟨⟨k0, k1⟩, k2⟩ := hSw
            go_simp
            try with_reducible rfl
          simp only [List.setIfInBounds_toArray, List.set_cons_zero, List.set_cons_succ]
          refine hold_take (i := 6) (d := 40) (v := ?va6) (listed' := #[true, true, true, true, false, false, true, false, false, false, false, false, false, false]) rfl (by kernel_rfl) (by kernel_rfl) (by kernel_rfl) rfl (by rfl) (by kernel_rfl) hS ?ha6 ?ra6
          case ha6 =>
            intro w' hSw
            obtain ⟨⟨k0, k1⟩, k2⟩ := hSw
            go_simp
            try with_reducible rfl
          simp only [List.setIfInBounds_toArray, List.set_cons_zero, List.set_cons_succ]
          refine hold_take (i := 7) (d := 41) (v := ?va7) (listed' := #[true, true, true, true, false, false, true, true, false, false, false, false, false, false]) rfl (by kernel_rfl) (by kernel_rfl) (by kernel_rfl) rfl (by rfl) (by kernel_rfl) hS ?ha7 ?ra7
          case ha7 =>
            intro w' hSw
            obtain ⟨⟨k0, k1⟩, k2⟩ := hSw
            go_simp
            try with_reducible rfl
          simp only [List.setIfInBounds_toArray, List.set_cons_zero, List.set_cons_succ]
          refine hold_take (i := 8) (d := 42) (v := ?va8) (listed' := #[true, true, true, true, false, false, true, true, true, false, false, false, false, false]) rfl (by kernel_rfl) (by kernel_rfl) (by kernel_rfl) rfl (by rfl) (by kernel_rfl) hS ?ha8 ?ra8
          case ha8 =>
            intro w' hSw
            obtain ⟨⟨k0, k1⟩, k2⟩ := hSw
            go_simp
            try with_reducible rfl
          simp only [List.setIfInBounds_toArray, List.set_cons_zero, List.set_cons_succ]
          refine hold_call (i := 4) (d := 38) (listed' := #[true, true, true, true, true, false, true, true, true, false, false, false, false, false]) rfl (by kernel_rfl) rfl (by rfl) (by kernel_rfl) ?hea4 (hcm) ?hca4
          case hea4 => go_simp
          rintro e w2 ⟨rfl, hw1⟩
          rw [HM.out]
          have hS1 : (fun w' => ((w'.cell? ⟨w.heap.size, 0, none⟩ = some (.slice ua m.n l.cap) ∧ w'.cell? ⟨w.heap.size, 1, none⟩ = some (.slice (some ⟨g, o, none⟩) m.n nc)) ∧ w'.cell? ⟨w.heap.size, 2, none⟩ = some (.slice (some ⟨ob, 0, none⟩) 2 2))) w2 := hkeep.out w2 (((Below.refl _ wr).drew.trans hw1).mono hwi)
          have hcj := made_join (na := some ⟨g, o, none⟩) (nc := nc) (k := m.n) (HAi.out.step ((Below.refl _ wr).drew.trans hw1)) (HSi.out.step ((Below.refl _ wr).drew.trans hw1)) ha hb
          unfold algV at hcj
          refine ⟨_, rfl, hS1, ?_⟩
          simp only [List.setIfInBounds_toArray, List.set_cons_zero, List.set_cons_succ]
          refine hold_take (i := 5) (d := 39) (v := ?va5) (listed' := #[true, true, true, true, true, true, true, true, true, false, false, false, false, false]) rfl (by kernel_rfl) (by kernel_rfl) (by kernel_rfl) rfl (by rfl) (by kernel_rfl) hS1 ?ha5 ?ra5
          case ha5 =>
            intro w' hSw
            obtain ⟨⟨k0, k1⟩, k2⟩ := hSw
            go_simp
            try with_reducible rfl
          simp only [List.setIfInBounds_toArray, List.set_cons_zero, List.set_cons_succ]
          refine hold_call (i := 9) (d := 43) (listed' := #[true, true, true, true, true, true, true, true, true, true, false, false, false, false]) rfl (by kernel_rfl) rfl (by rfl) (by kernel_rfl) ?hea9 (hcj) ?hca9
          case hea9 => go_simp
          rintro e w3 ⟨rfl, hw2⟩
          rw [HJ.out]
          have hS2 : (fun w' => ((w'.cell? ⟨w.heap.size, 0, none⟩ = some (.slice ua m.n l.cap) ∧ w'.cell? ⟨w.heap.size, 1, none⟩ = some (.slice (some ⟨g, o, none⟩) m.n nc)) ∧ w'.cell? ⟨w.heap.size, 2, none⟩ = some (.slice (some ⟨ob, 0, none⟩) 2 2))) w3 := hkeep.out w3 (((Below.refl _ wr).drew.trans (hw1.trans (hw2.mono hw1.size))).mono hwi)
          refine ⟨_, rfl, hS2, ?_⟩
          simp only [List.setIfInBounds_toArray, List.set_cons_zero, List.set_cons_succ]
          refine hold_take (i := 10) (d := 44) (v := ?va10) (listed' := #[true, true, true, true, true, true, true, true, true, true, true, false, false, false]) rfl (by kernel_rfl) (by kernel_rfl) (by kernel_rfl) rfl (by rfl) (by kernel_rfl) hS2 ?ha10 ?ra10
          case ha10 =>
            intro w' hSw
            obtain ⟨⟨k0, k1⟩, k2⟩ := hSw
            go_simp
            try with_reducible rfl
          simp only [List.setIfInBounds_toArray, List.set_cons_zero, List.set_cons_succ]
          refine hold_take (i := 11) (d := 45) (v := ?va11) (listed' := #[true, true, true, true, true, true, true, true, true, true, true, true, false, false]) rfl (by kernel_rfl) (by kernel_rfl) (by kernel_rfl) rfl (by rfl) (by kernel_rfl) hS2 ?ha11 ?ra11
          case ha11 =>
            intro w' hSw
            obtain ⟨⟨k0, k1⟩, k2⟩ := hSw
            go_simp
            try with_reducible rfl
          simp only [List.setIfInBounds_toArray, List.set_cons_zero, List.set_cons_succ]
          refine hold_take (i := 12) (d := 46) (v := ?va12) (listed' := #[true, true, true, true, true, true, true, true, true, true, true, true, true, false]) rfl (by kernel_rfl) (by kernel_rfl) (by kernel_rfl) rfl (by rfl) (by kernel_rfl) hS2 ?ha12 ?ra12
          case ha12 =>
            intro w' hSw
            obtain ⟨⟨k0, k1⟩, k2⟩ := hSw
            go_simp
            try with_reducible rfl
          simp only [List.setIfInBounds_toArray, List.set_cons_zero, List.set_cons_succ]
          refine hold_take (i := 13) (d := 5) (v := ?va13) (listed' := #[true, true, true, true, true, true, true, true, true, true, true, true, true, true]) rfl (by kernel_rfl) (by kernel_rfl) (by kernel_rfl) rfl (by rfl) (by kernel_rfl) hS2 ?ha13 ?ra13
          case ha13 =>
            intro w' hSw
            obtain ⟨⟨k0, k1⟩, k2⟩ := hSw
            go_simp
            try with_reducible rfl
          simp only [List.setIfInBounds_toArray, List.set_cons_zero, List.set_cons_succ]
          refine hold_done (by kernel_rfl) ?_ _
          have hD3 : Below w1.heap.size w1 w3 := hD.trans (((Below.refl _ wr).drew.trans (hw1.trans (hw2.mono hw1.size))).mono hwi)
          go_wp2_with fail
          subst hqj
          subst hqc'
          go_roundw
          case rel => exact ⟨_, c + 1, by omega, hv5, congrArg (Value.int .i64) HVal.out, by go_num, hD3, HN⟩
          case measure => simp [intOf]; omega
        · have hct' : ¬ (c : Int) < K := by omega
          have hce : c = K := by omega
          subst hce
          have HN := Lib.hid hM1.out.turn
          go_wp2_with fail
          go_roundw
          case rel => exact ⟨v, j + 1, by omega, hv, rfl, by go_num, hD, HN⟩
          case measure => simp [intOf]; omega
    · have hlt' : ¬ (j : Int) < K := by omega
      have hje : j = K := by omega
      subst hje
      have HG := Lib.hid (hM.out.grown HE.out)
      have hXr := hX1.step hD
      go_wp2_with fail
      go_ret
      exact ⟨u, rfl, HG.out, hXr.below⟩
end Go.Proofs.YtnbglbhfclohjaaDoor
namespace Go.Proofs.YtnbglbhfclohjaaDoor
open Go.RowKit Go.Deep

/-- What partWith hands back. -/
def PartRes (w : World) (ua : Option Addr) (l : Lay) (m : Mx) (na : Option Addr) (k nc : Nat) (ok : Bool) (e : Ending) (w' : World) : Prop :=
  Below w.heap.size w w' ∧ ((ok = true ∧ ∃ (ob tb : Nat) (tG : Nat → Nat), e = .returned (.tuple #[algV ua l m na k nc ob, .bool true]) ∧ Alg w' ob tb tG ua l m) ∨ (ok = false ∧ ∃ (a b c : Option Addr) (n1 c1 n2 c2 n3 c3 : Nat), e = .returned (.tuple #[.agg #[.slice a n1 c1, .slice b n2 c2, .slice c n3 c3], .bool false])))
theorem Alg.apart {w w' : World} {ob tb p : Nat} {tG : Nat → Nat} {sa : Option Addr} {l : Lay} {m : Mx} {u v : Value} (h : Alg w ob tb tG sa l m) (hp : ThreeAt w p (.slice none 0 0) u v) (hn : 1 ≤ m.n) (ho : OnlyIn (fun q => q = p) w w') : Alg w' ob tb tG sa l m := by
  have h0 : ob ≠ p := fun e => by
    have := h.op0
    rw [e, hp.c0] at this
    cases this
  have h1 : tb ≠ p := fun e => by
    have := h.own.top.cell (show 0 < (tr m).n from hn)
    rw [e, hp.c0] at this
    cases this
  have h2 : ∀ r, r < (tr m).n → tG r ≠ p := fun r hr e => by
    have := (h.own.row r hr).cell (show 0 < (tr m).L r from hn)
    rw [e, hp.c0] at this
    cases this
  exact ⟨h.own.only ho h1 h2, by have := h.lt; have := ho.size; omega, (World.cell?_of_block (w := w) (ho.block ob h0)).trans h.op0, (World.cell?_of_block (w := w) (ho.block ob h0)).trans h.op1⟩

set_option maxRecDepth 100000 in
set_option maxHeartbeats 2000000 in
theorem partWith_no {w : World} {B : Nat} {ua : Option Addr} {l : Lay} {m : Mx} {na : Option Addr} {g o k nc : Nat} {z : Nat → Int} {x : Int} (h : LogAt w B ua l m na g o k z) (hl : logicB m k z = false) :
    Calls Tryd.prog 64 #[.agg #[.slice ua m.n l.cap, .slice na k nc], .int .i64 x] w (PartRes w ua l m na k nc (subV m k z x)) := by
  have HF : Hid (subV m k z x = false) := by show _ = _; unfold subV; rw [hl]; rfl
  have HL := Lib.hid hl
  have hX := BoxN.start w #[.slice ua m.n l.cap, .slice na k nc] 26
  have hV := ThreeAt.new (w.alloc (.cells #[.slice ua m.n l.cap, .slice na k nc] 26)) (.slice none 0 0) (.slice none 0 0) (.slice none 0 0) 58
  rw [World.size_alloc] at hV
  have bz := (Below.refl (w.heap.size + 1) (w.alloc (.cells #[.slice ua m.n l.cap, .slice na k nc] 26))).alloc (by simp) (.cells #[.slice none 0 0, .slice none 0 0, .slice none 0 0] 58)
  have hX2 := hX.step (bz.mono (by simp))
  have bw := hX2.below
  have hge : ((w.alloc (.cells #[.slice ua m.n l.cap, .slice na k nc] 26)).alloc (.cells #[.slice none 0 0, .slice none 0 0, .slice none 0 0] 58)).heap.size ≥ w.heap.size + 2 := by simp
  have q0 := hX2.cell 0 rfl
  have q1 := hX2.cell 1 rfl
  have h2 := Lib.hid (h.step bw)
  have hrow2 : Hid (RowAt ((w.alloc (.cells #[.slice ua m.n l.cap, .slice na k nc] 26)).alloc (.cells #[.slice none 0 0, .slice none 0 0, .slice none 0 0] 58)) ((w.alloc (.cells #[.slice ua m.n l.cap, .slice na k nc] 26)).alloc (.cells #[.slice none 0 0, .slice none 0 0, .slice none 0 0] 58)).heap.size none 0 0 0 (fun _ => 0)) := ⟨fun c hc => absurd hc (Nat.not_lt_zero _)⟩
  clear h hl hX bz
  go_enter Tryd.func64, Tryd.ntmps64
  go_wp2_with fail
  generalize hW : (w.alloc (.cells #[.slice ua m.n l.cap, .slice na k nc] 26)).alloc (.cells #[.slice none 0 0, .slice none 0 0, .slice none 0 0] 58) = W at hV hX2 bw hge h2 hrow2 q0 q1 ⊢
  clear hW
  go_at_call 50
  refine (algebraWith_any h2.out hrow2.out (by omega)).mono ?_
  rintro e w1 ⟨b1, (⟨hg, ob, tb, tG, rfl, hA⟩ | ⟨hg, rfl⟩)⟩
  · exfalso
    rw [HL.out] at hg
    cases hg
  clear q0 q1 hrow2 hg
  have s1 := b1.size
  have B1 := bw.trans (b1.mono bw.size)
  have hV1 := hV.below b1 (by omega)
  have hY := BoxN.start w1 #[.slice none 0 0, .slice none 0 0, .slice none 0 0] 58
  have hYb := hY.below
  have hV2 := hV1.below hYb (by omega)
  have BY := B1.trans (hYb.mono B1.size)
  have ys : (w1.alloc (.cells #[.slice none 0 0, .slice none 0 0, .slice none 0 0] 58)).heap.size = w1.heap.size + 1 := World.size_alloc _ _
  unfold noAlg
  go_wp2_with fail
  generalize hW1 : w1.alloc (.cells #[.slice none 0 0, .slice none 0 0, .slice none 0 0] 58) = W1 at hY hV2 BY ys  ⊢
  clear hW1
  have hY1 := hY.step (Below.refl _ W1).drew
  have hS : (fun w' => ((w'.cell? ⟨w1.heap.size, 0, none⟩ = some (.slice none 0 0) ∧ w'.cell? ⟨w1.heap.size, 1, none⟩ = some (.slice none 0 0)) ∧ w'.cell? ⟨w1.heap.size, 2, none⟩ = some (.slice none 0 0))) W1.drew := ⟨⟨hY1.cell 0 rfl, hY1.cell 1 rfl⟩, hY1.cell 2 rfl⟩
  refine region_plain (fuel := 16) (listed := #[false, false, false, false, false, false, false, false, false, false, false, false, false, false, false, false]) (fun w' => ((w'.cell? ⟨w1.heap.size, 0, none⟩ = some (.slice none 0 0) ∧ w'.cell? ⟨w1.heap.size, 1, none⟩ = some (.slice none 0 0)) ∧ w'.cell? ⟨w1.heap.size, 2, none⟩ = some (.slice none 0 0))) (by kernel_rfl) (by kernel_rfl) (by kernel_rfl) ?_
  have hVd := hV2.below (Below.refl W1.heap.size W1).drew (by omega)
  have BYd := BY.trans (Below.refl w.heap.size W1).drew
  clear hY1
  generalize W1.drew = wd at hS hVd BYd ⊢
  refine hold_take (i := 0) (d := 13) (v := ?va0) (listed' := #[true, false, false, false, false, false, false, false, false, false, false, false, false, false, false, false]) rfl (by kernel_rfl) (by kernel_rfl) (by kernel_rfl) rfl (by rfl) (by kernel_rfl) hS ?ha0 ?ra0
  case ha0 =>
    intro w' hSw
    obtain ⟨⟨k0, k1⟩, k2⟩ := hSw
    go_simp
    try with_reducible rfl
  simp only [List.setIfInBounds_toArray, List.set_cons_zero, List.set_cons_succ]
  refine hold_take (i := 1) (d := 14) (v := ?va1) (listed' := #[true, true, false, false, false, false, false, false, false, false, false, false, false, false, false, false]) rfl (by kernel_rfl) (by kernel_rfl) (by kernel_rfl) rfl (by rfl) (by kernel_rfl) hS ?ha1 ?ra1
  case ha1 =>
    intro w' hSw
    obtain ⟨⟨k0, k1⟩, k2⟩ := hSw
    go_simp
    try with_reducible rfl
  simp only [List.setIfInBounds_toArray, List.set_cons_zero, List.set_cons_succ]
  refine hold_take (i := 2) (d := 15) (v := ?va2) (listed' := #[true, true, true, false, false, false, false, false, false, false, false, false, false, false, false, false]) rfl (by kernel_rfl) (by kernel_rfl) (by kernel_rfl) rfl (by rfl) (by kernel_rfl) hS ?ha2 ?ra2
  case ha2 =>
    intro w' hSw
    obtain ⟨⟨k0, k1⟩, k2⟩ := hSw
    go_simp
    try with_reducible rfl
  simp only [List.setIfInBounds_toArray, List.set_cons_zero, List.set_cons_succ]
  refine hold_skip (i := 3) (d := 16) (listed' := #[true, true, true, true, false, false, false, false, false, false, false, false, false, false, false, false]) rfl (by kernel_rfl) (by kernel_rfl) (by kernel_rfl) rfl (by rfl) (by kernel_rfl) hS ?_
  simp only [List.setIfInBounds_toArray, List.set_cons_zero, List.set_cons_succ]
  refine hold_skip (i := 4) (d := 17) (listed' := #[true, true, true, true, true, false, false, false, false, false, false, false, false, false, false, false]) rfl (by kernel_rfl) (by kernel_rfl) (by kernel_rfl) rfl (by rfl) (by kernel_rfl) hS ?_
  simp only [List.setIfInBounds_toArray, List.set_cons_zero, List.set_cons_succ]
  refine hold_skip (i := 5) (d := 18) (listed' := #[true, true, true, true, true, true, false, false, false, false, false, false, false, false, false, false]) rfl (by kernel_rfl) (by kernel_rfl) (by kernel_rfl) rfl (by rfl) (by kernel_rfl) hS ?_
  simp only [List.setIfInBounds_toArray, List.set_cons_zero, List.set_cons_succ]
  refine hold_take (i := 6) (d := 19) (v := ?va6) (listed' := #[true, true, true, true, true, true, true, false, false, false, false, false, false, false, false, false]) rfl (by kernel_rfl) (by kernel_rfl) (by kernel_rfl) rfl (by rfl) (by kernel_rfl) hS ?ha6 ?ra6
  case ha6 =>
    intro w' hSw
    obtain ⟨⟨k0, k1⟩, k2⟩ := hSw
    go_simp
    try with_reducible rfl
  simp only [List.setIfInBounds_toArray, List.set_cons_zero, List.set_cons_succ]
  refine hold_take (i := 7) (d := 20) (v := ?va7) (listed' := #[true, true, true, true, true, true, true, true, false, false, false, false, false, false, false, false]) rfl (by kernel_rfl) (by kernel_rfl) (by kernel_rfl) rfl (by rfl) (by kernel_rfl) hS ?ha7 ?ra7
  case ha7 =>
    intro w' hSw
    obtain ⟨⟨k0, k1⟩, k2⟩ := hSw
    go_simp
    try with_reducible rfl
  simp only [List.setIfInBounds_toArray, List.set_cons_zero, List.set_cons_succ]
  refine hold_skip (i := 8) (d := 21) (listed' := #[true, true, true, true, true, true, true, true, true, false, false, false, false, false, false, false]) rfl (by kernel_rfl) (by kernel_rfl) (by kernel_rfl) rfl (by rfl) (by kernel_rfl) hS ?_
  simp only [List.setIfInBounds_toArray, List.set_cons_zero, List.set_cons_succ]
  refine hold_skip (i := 9) (d := 22) (listed' := #[true, true, true, true, true, true, true, true, true, true, false, false, false, false, false, false]) rfl (by kernel_rfl) (by kernel_rfl) (by kernel_rfl) rfl (by rfl) (by kernel_rfl) hS ?_
  simp only [List.setIfInBounds_toArray, List.set_cons_zero, List.set_cons_succ]
  refine hold_skip (i := 11) (d := 24) (listed' := #[true, true, true, true, true, true, true, true, true, true, false, true, false, false, false, false]) rfl (by kernel_rfl) (by kernel_rfl) (by kernel_rfl) rfl (by rfl) (by kernel_rfl) hS ?_
  simp only [List.setIfInBounds_toArray, List.set_cons_zero, List.set_cons_succ]
  refine hold_skip (i := 10) (d := 23) (listed' := #[true, true, true, true, true, true, true, true, true, true, true, true, false, false, false, false]) rfl (by kernel_rfl) (by kernel_rfl) (by kernel_rfl) rfl (by rfl) (by kernel_rfl) hS ?_
  simp only [List.setIfInBounds_toArray, List.set_cons_zero, List.set_cons_succ]
  refine hold_skip (i := 12) (d := 25) (listed' := #[true, true, true, true, true, true, true, true, true, true, true, true, true, false, false, false]) rfl (by kernel_rfl) (by kernel_rfl) (by kernel_rfl) rfl (by rfl) (by kernel_rfl) hS ?_
  simp only [List.setIfInBounds_toArray, List.set_cons_zero, List.set_cons_succ]
  refine hold_take (i := 13) (d := 26) (v := ?va13) (listed' := #[true, true, true, true, true, true, true, true, true, true, true, true, true, true, false, false]) rfl (by kernel_rfl) (by kernel_rfl) (by kernel_rfl) rfl (by rfl) (by kernel_rfl) hS ?ha13 ?ra13
  case ha13 =>
    intro w' hSw
    obtain ⟨⟨k0, k1⟩, k2⟩ := hSw
    go_simp
    try with_reducible rfl
  simp only [List.setIfInBounds_toArray, List.set_cons_zero, List.set_cons_succ]
  have v0 := hVd.c0
  have v1 := hVd.c1
  have v2 := hVd.c2
  have v3 := hVd.f0
  have v4 := hVd.f1
  have v5 := hVd.f2
  have hon := set3_only wd (w.heap.size + 1) (.slice none 0 0) (.slice none 0 0) (.slice none 0 0)
  have hS9 : (fun w' => ((w'.cell? ⟨w1.heap.size, 0, none⟩ = some (.slice none 0 0) ∧ w'.cell? ⟨w1.heap.size, 1, none⟩ = some (.slice none 0 0)) ∧ w'.cell? ⟨w1.heap.size, 2, none⟩ = some (.slice none 0 0))) (((wd.setCell ⟨w.heap.size + 1, 0, none⟩ (.slice none 0 0)).setCell ⟨w.heap.size + 1, 1, none⟩ (.slice none 0 0)).setCell ⟨w.heap.size + 1, 2, none⟩ (.slice none 0 0)) := ⟨⟨(World.cell?_of_block (hon.block _ (by show ¬ w1.heap.size = _; omega))).trans hS.1.1, (World.cell?_of_block (hon.block _ (by show ¬ w1.heap.size = _; omega))).trans hS.1.2⟩, (World.cell?_of_block (hon.block _ (by show ¬ w1.heap.size = _; omega))).trans hS.2⟩
  refine hold_store (i := 14) (w' := (((wd.setCell ⟨w.heap.size + 1, 0, none⟩ (.slice none 0 0)).setCell ⟨w.heap.size + 1, 1, none⟩ (.slice none 0 0)).setCell ⟨w.heap.size + 1, 2, none⟩ (.slice none 0 0))) (listed' := #[true, true, true, true, true, true, true, true, true, true, true, true, true, true, true, false]) rfl (by kernel_rfl) rfl (by rfl) (by kernel_rfl) ?hsa14 hS9 ?hka14
  case hsa14 => go_simp
  refine hold_take (i := 15) (d := 5) (v := ?va15) (listed' := #[true, true, true, true, true, true, true, true, true, true, true, true, true, true, true, true]) rfl (by kernel_rfl) (by kernel_rfl) (by kernel_rfl) rfl (by rfl) (by kernel_rfl) hS9 ?ha15 ?ra15
  case ha15 =>
    intro w' hSw
    obtain ⟨⟨k0, k1⟩, k2⟩ := hSw
    go_simp
    try with_reducible rfl
  simp only [List.setIfInBounds_toArray, List.set_cons_zero, List.set_cons_succ]
  refine hold_done (by kernel_rfl) ?_ _
  go_wp2_with fail
  have hT := told3 (x := .slice none 0 0) (y := .slice none 0 0) (z := .slice none 0 0) v0 v1 v2
  have t0 := hT.1
  have t1 := hT.2.1
  have t2 := hT.2.2
  refine bodyPost_ret (v := .tuple #[.agg #[.slice none 0 0, .slice none 0 0, .slice none 0 0], .bool false]) (by simp [results, Tryd.results64, go_sem, t0, t1, t2]) rfl ⟨BYd.trans (hon.below fun j hj => by have hj' : j = w.heap.size + 1 := hj; omega), .inr ⟨HF.out, _, _, _, _, _, _, _, _, _, rfl⟩⟩

set_option maxRecDepth 100000 in
set_option maxHeartbeats 2000000 in
theorem partWith_out {w : World} {B g o nc o' : Nat} {ua : Option Addr} {l : Lay} {m : Mx} {z : Nat → Int} {y : Nat → Nat} {x : Int} (h : LogAt w B ua l m (some ⟨g, o, none⟩) g o m.n z) (hO : Ortho m z y o') (hi : inB m.n x = false) :
    Calls Tryd.prog 64 #[.agg #[.slice ua m.n l.cap, .slice (some ⟨g, o, none⟩) m.n nc], .int .i64 x] w (PartRes w ua l m (some ⟨g, o, none⟩) m.n nc (subV m m.n z x)) := by
  have HF : Hid (subV m m.n z x = false) := by show _ = _; unfold subV; rw [hi, Bool.and_false]; rfl
  have HI := Lib.hid hi
  have hn := hO.lat.order.top
  have HL : Hid (logicB m m.n z = true) := logicB_true hO.logic
  have hX := BoxN.start w #[.slice ua m.n l.cap, .slice (some ⟨g, o, none⟩) m.n nc] 26
  have hV := ThreeAt.new (w.alloc (.cells #[.slice ua m.n l.cap, .slice (some ⟨g, o, none⟩) m.n nc] 26)) (.slice none 0 0) (.slice none 0 0) (.slice none 0 0) 58
  rw [World.size_alloc] at hV
  have bz := (Below.refl (w.heap.size + 1) (w.alloc (.cells #[.slice ua m.n l.cap, .slice (some ⟨g, o, none⟩) m.n nc] 26))).alloc (by simp) (.cells #[.slice none 0 0, .slice none 0 0, .slice none 0 0] 58)
  have hX2 := hX.step (bz.mono (by simp))
  have bw := hX2.below
  have hge : ((w.alloc (.cells #[.slice ua m.n l.cap, .slice (some ⟨g, o, none⟩) m.n nc] 26)).alloc (.cells #[.slice none 0 0, .slice none 0 0, .slice none 0 0] 58)).heap.size ≥ w.heap.size + 2 := by simp
  have q0 := hX2.cell 0 rfl
  have q1 := hX2.cell 1 rfl
  have h2 := Lib.hid (h.step bw)
  have hrow2 : Hid (RowAt ((w.alloc (.cells #[.slice ua m.n l.cap, .slice (some ⟨g, o, none⟩) m.n nc] 26)).alloc (.cells #[.slice none 0 0, .slice none 0 0, .slice none 0 0] 58)) ((w.alloc (.cells #[.slice ua m.n l.cap, .slice (some ⟨g, o, none⟩) m.n nc] 26)).alloc (.cells #[.slice none 0 0, .slice none 0 0, .slice none 0 0] 58)).heap.size none 0 0 0 (fun _ => 0)) := ⟨fun c hc => absurd hc (Nat.not_lt_zero _)⟩
  clear h hi hX bz hO
  go_enter Tryd.func64, Tryd.ntmps64
  go_wp2_with fail
  generalize hW : (w.alloc (.cells #[.slice ua m.n l.cap, .slice (some ⟨g, o, none⟩) m.n nc] 26)).alloc (.cells #[.slice none 0 0, .slice none 0 0, .slice none 0 0] 58) = W at hV hX2 bw hge h2 hrow2 q0 q1 ⊢
  clear hW
  go_at_call 50
  refine (algebraWith_any h2.out hrow2.out (by omega)).mono ?_
  rintro e w1 ⟨b1, (⟨hg, ob, tb, tG, rfl, hA⟩ | ⟨hg, rfl⟩)⟩
  case inr =>
    exfalso
    rw [HL.out, good_nil] at hg
    cases hg
  clear q0 q1 hrow2 hg hA
  have s1 := b1.size
  have B1 := bw.trans (b1.mono bw.size)
  have hV1 := hV.below b1 (by omega)
  have hY := BoxN.start w1 #[.slice ua m.n l.cap, .slice (some ⟨g, o, none⟩) m.n nc, .slice (some ⟨ob, 0, none⟩) 2 2] 58
  have hYb := hY.below
  have hV2 := hV1.below hYb (by omega)
  have BY := B1.trans (hYb.mono B1.size)
  have ys : (w1.alloc (.cells #[.slice ua m.n l.cap, .slice (some ⟨g, o, none⟩) m.n nc, .slice (some ⟨ob, 0, none⟩) 2 2] 58)).heap.size = w1.heap.size + 1 := World.size_alloc _ _
  unfold algV
  go_wp2_with fail
  generalize hW1 : w1.alloc (.cells #[.slice ua m.n l.cap, .slice (some ⟨g, o, none⟩) m.n nc, .slice (some ⟨ob, 0, none⟩) 2 2] 58) = W1 at hY hV2 BY ys  ⊢
  clear hW1
  have hY1 := hY.step (Below.refl _ W1).drew
  have hS : (fun w' => ((w'.cell? ⟨w1.heap.size, 0, none⟩ = some (.slice ua m.n l.cap) ∧ w'.cell? ⟨w1.heap.size, 1, none⟩ = some (.slice (some ⟨g, o, none⟩) m.n nc)) ∧ w'.cell? ⟨w1.heap.size, 2, none⟩ = some (.slice (some ⟨ob, 0, none⟩) 2 2))) W1.drew := ⟨⟨hY1.cell 0 rfl, hY1.cell 1 rfl⟩, hY1.cell 2 rfl⟩
  have hcs := setOk_any (w := W1.drew) (ob := ob) (nc := nc) (g := g) (o := o) (sa := ua) (l := l) (m := m) (k := m.n) (x := x) hn
  unfold algV at hcs
  refine region_plain (fuel := 16) (listed := #[false, false, false, false, false, false, false, false, false, false, false, false, false, false, false, false]) (fun w' => ((w'.cell? ⟨w1.heap.size, 0, none⟩ = some (.slice ua m.n l.cap) ∧ w'.cell? ⟨w1.heap.size, 1, none⟩ = some (.slice (some ⟨g, o, none⟩) m.n nc)) ∧ w'.cell? ⟨w1.heap.size, 2, none⟩ = some (.slice (some ⟨ob, 0, none⟩) 2 2))) (by kernel_rfl) (by kernel_rfl) (by kernel_rfl) ?_
  refine hold_take (i := 0) (d := 13) (v := ?vb0) (listed' := #[true, false, false, false, false, false, false, false, false, false, false, false, false, false, false, false]) rfl (by kernel_rfl) (by kernel_rfl) (by kernel_rfl) rfl (by rfl) (by kernel_rfl) hS ?hb0 ?rb0
  case hb0 =>
    intro w' hSw
    obtain ⟨⟨k0, k1⟩, k2⟩ := hSw
    go_simp
    try with_reducible rfl
  simp only [List.setIfInBounds_toArray, List.set_cons_zero, List.set_cons_succ]
  refine hold_take (i := 1) (d := 14) (v := ?vb1) (listed' := #[true, true, false, false, false, false, false, false, false, false, false, false, false, false, false, false]) rfl (by kernel_rfl) (by kernel_rfl) (by kernel_rfl) rfl (by rfl) (by kernel_rfl) hS ?hb1 ?rb1
  case hb1 =>
    intro w' hSw
    obtain ⟨⟨k0, k1⟩, k2⟩ := hSw
    go_simp
    try with_reducible rfl
  simp only [List.setIfInBounds_toArray, List.set_cons_zero, List.set_cons_succ]
  refine hold_take (i := 2) (d := 15) (v := ?vb2) (listed' := #[true, true, true, false, false, false, false, false, false, false, false, false, false, false, false, false]) rfl (by kernel_rfl) (by kernel_rfl) (by kernel_rfl) rfl (by rfl) (by kernel_rfl) hS ?hb2 ?rb2
  case hb2 =>
    intro w' hSw
    obtain ⟨⟨k0, k1⟩, k2⟩ := hSw
    go_simp
    try with_reducible rfl
  simp only [List.setIfInBounds_toArray, List.set_cons_zero, List.set_cons_succ]
  refine hold_take (i := 3) (d := 16) (v := ?vb3) (listed' := #[true, true, true, true, false, false, false, false, false, false, false, false, false, false, false, false]) rfl (by kernel_rfl) (by kernel_rfl) (by kernel_rfl) rfl (by rfl) (by kernel_rfl) hS ?hb3 ?rb3
  case hb3 =>
    intro w' hSw
    obtain ⟨⟨k0, k1⟩, k2⟩ := hSw
    go_simp
    try with_reducible rfl
  simp only [List.setIfInBounds_toArray, List.set_cons_zero, List.set_cons_succ]
  refine hold_take (i := 4) (d := 17) (v := ?vb4) (listed' := #[true, true, true, true, true, false, false, false, false, false, false, false, false, false, false, false]) rfl (by kernel_rfl) (by kernel_rfl) (by kernel_rfl) rfl (by rfl) (by kernel_rfl) hS ?hb4 ?rb4
  case hb4 =>
    intro w' hSw
    obtain ⟨⟨k0, k1⟩, k2⟩ := hSw
    go_simp
    try with_reducible rfl
  simp only [List.setIfInBounds_toArray, List.set_cons_zero, List.set_cons_succ]
  refine hold_call (i := 5) (d := 18) (listed' := #[true, true, true, true, true, true, false, false, false, false, false, false, false, false, false, false]) rfl (by kernel_rfl) rfl (by rfl) (by kernel_rfl) ?heb5 (hcs) ?hcb5
  case heb5 => go_simp
  rintro e w2 ⟨rfl, b2⟩
  rw [HI.out]
  have hY2 := hY1.step b2
  have hS2 : (fun w' => ((w'.cell? ⟨w1.heap.size, 0, none⟩ = some (.slice ua m.n l.cap) ∧ w'.cell? ⟨w1.heap.size, 1, none⟩ = some (.slice (some ⟨g, o, none⟩) m.n nc)) ∧ w'.cell? ⟨w1.heap.size, 2, none⟩ = some (.slice (some ⟨ob, 0, none⟩) 2 2))) w2 := ⟨⟨hY2.cell 0 rfl, hY2.cell 1 rfl⟩, hY2.cell 2 rfl⟩
  refine ⟨_, rfl, hS2, ?_⟩
  simp only [List.setIfInBounds_toArray, List.set_cons_zero, List.set_cons_succ]
  refine hold_take (i := 6) (d := 19) (v := ?vb6) (listed' := #[true, true, true, true, true, true, true, false, false, false, false, false, false, false, false, false]) rfl (by kernel_rfl) (by kernel_rfl) (by kernel_rfl) rfl (by rfl) (by kernel_rfl) hS2 ?hb6 ?rb6
  case hb6 =>
    intro w' hSw
    obtain ⟨⟨k0, k1⟩, k2⟩ := hSw
    go_simp
    try with_reducible rfl
  simp only [List.setIfInBounds_toArray, List.set_cons_zero, List.set_cons_succ]
  refine hold_take (i := 7) (d := 20) (v := ?vb7) (listed' := #[true, true, true, true, true, true, true, true, false, false, false, false, false, false, false, false]) rfl (by kernel_rfl) (by kernel_rfl) (by kernel_rfl) rfl (by rfl) (by kernel_rfl) hS2 ?hb7 ?rb7
  case hb7 =>
    intro w' hSw
    obtain ⟨⟨k0, k1⟩, k2⟩ := hSw
    go_simp
    try with_reducible rfl
  simp only [List.setIfInBounds_toArray, List.set_cons_zero, List.set_cons_succ]
  refine hold_skip (i := 8) (d := 21) (listed' := #[true, true, true, true, true, true, true, true, true, false, false, false, false, false, false, false]) rfl (by kernel_rfl) (by kernel_rfl) (by kernel_rfl) rfl (by rfl) (by kernel_rfl) hS2 ?_
  simp only [List.setIfInBounds_toArray, List.set_cons_zero, List.set_cons_succ]
  refine hold_skip (i := 9) (d := 22) (listed' := #[true, true, true, true, true, true, true, true, true, true, false, false, false, false, false, false]) rfl (by kernel_rfl) (by kernel_rfl) (by kernel_rfl) rfl (by rfl) (by kernel_rfl) hS2 ?_
  simp only [List.setIfInBounds_toArray, List.set_cons_zero, List.set_cons_succ]
  refine hold_skip (i := 11) (d := 24) (listed' := #[true, true, true, true, true, true, true, true, true, true, false, true, false, false, false, false]) rfl (by kernel_rfl) (by kernel_rfl) (by kernel_rfl) rfl (by rfl) (by kernel_rfl) hS2 ?_
  simp only [List.setIfInBounds_toArray, List.set_cons_zero, List.set_cons_succ]
  refine hold_skip (i := 10) (d := 23) (listed' := #[true, true, true, true, true, true, true, true, true, true, true, true, false, false, false, false]) rfl (by kernel_rfl) (by kernel_rfl) (by kernel_rfl) rfl (by rfl) (by kernel_rfl) hS2 ?_
  simp only [List.setIfInBounds_toArray, List.set_cons_zero, List.set_cons_succ]
  refine hold_skip (i := 12) (d := 25) (listed' := #[true, true, true, true, true, true, true, true, true, true, true, true, true, false, false, false]) rfl (by kernel_rfl) (by kernel_rfl) (by kernel_rfl) rfl (by rfl) (by kernel_rfl) hS2 ?_
  simp only [List.setIfInBounds_toArray, List.set_cons_zero, List.set_cons_succ]
  refine hold_take (i := 13) (d := 26) (v := ?vb13) (listed' := #[true, true, true, true, true, true, true, true, true, true, true, true, true, true, false, false]) rfl (by kernel_rfl) (by kernel_rfl) (by kernel_rfl) rfl (by rfl) (by kernel_rfl) hS2 ?hb13 ?rb13
  case hb13 =>
    intro w' hSw
    obtain ⟨⟨k0, k1⟩, k2⟩ := hSw
    go_simp
    try with_reducible rfl
  simp only [List.setIfInBounds_toArray, List.set_cons_zero, List.set_cons_succ]
  have s2 : W1.heap.size ≤ w2.heap.size := b2.size
  have hVd := (hV2.below (Below.refl W1.heap.size W1).drew (by omega)).below b2 (by show _ < W1.heap.size; omega)
  have v0 := hVd.c0
  have v1 := hVd.c1
  have v2 := hVd.c2
  have v3 := hVd.f0
  have v4 := hVd.f1
  have v5 := hVd.f2
  have hon := set3_only w2 (w.heap.size + 1) (.slice ua m.n l.cap) (.slice (some ⟨g, o, none⟩) m.n nc) (.slice (some ⟨ob, 0, none⟩) 2 2)
  have hS9 : (fun w' => ((w'.cell? ⟨w1.heap.size, 0, none⟩ = some (.slice ua m.n l.cap) ∧ w'.cell? ⟨w1.heap.size, 1, none⟩ = some (.slice (some ⟨g, o, none⟩) m.n nc)) ∧ w'.cell? ⟨w1.heap.size, 2, none⟩ = some (.slice (some ⟨ob, 0, none⟩) 2 2))) (((w2.setCell ⟨w.heap.size + 1, 0, none⟩ (.slice ua m.n l.cap)).setCell ⟨w.heap.size + 1, 1, none⟩ (.slice (some ⟨g, o, none⟩) m.n nc)).setCell ⟨w.heap.size + 1, 2, none⟩ (.slice (some ⟨ob, 0, none⟩) 2 2)) := ⟨⟨(World.cell?_of_block (hon.block _ (by show ¬ w1.heap.size = _; omega))).trans hS2.1.1, (World.cell?_of_block (hon.block _ (by show ¬ w1.heap.size = _; omega))).trans hS2.1.2⟩, (World.cell?_of_block (hon.block _ (by show ¬ w1.heap.size = _; omega))).trans hS2.2⟩
  refine hold_store (i := 14) (w' := (((w2.setCell ⟨w.heap.size + 1, 0, none⟩ (.slice ua m.n l.cap)).setCell ⟨w.heap.size + 1, 1, none⟩ (.slice (some ⟨g, o, none⟩) m.n nc)).setCell ⟨w.heap.size + 1, 2, none⟩ (.slice (some ⟨ob, 0, none⟩) 2 2))) (listed' := #[true, true, true, true, true, true, true, true, true, true, true, true, true, true, true, false]) rfl (by kernel_rfl) rfl (by rfl) (by kernel_rfl) ?hsb14 hS9 ?hkb14
  case hsb14 => go_simp
  refine hold_take (i := 15) (d := 5) (v := ?vb15) (listed' := #[true, true, true, true, true, true, true, true, true, true, true, true, true, true, true, true]) rfl (by kernel_rfl) (by kernel_rfl) (by kernel_rfl) rfl (by rfl) (by kernel_rfl) hS9 ?hb15 ?rb15
  case hb15 =>
    intro w' hSw
    obtain ⟨⟨k0, k1⟩, k2⟩ := hSw
    go_simp
    try with_reducible rfl
  simp only [List.setIfInBounds_toArray, List.set_cons_zero, List.set_cons_succ]
  refine hold_done (by kernel_rfl) ?_ _
  go_wp2_with fail
  have hT := told3 (x := .slice ua m.n l.cap) (y := .slice (some ⟨g, o, none⟩) m.n nc) (z := .slice (some ⟨ob, 0, none⟩) 2 2) v0 v1 v2
  have t0 := hT.1
  have t1 := hT.2.1
  have t2 := hT.2.2
  refine bodyPost_ret (v := .tuple #[.agg #[.slice ua m.n l.cap, .slice (some ⟨g, o, none⟩) m.n nc, .slice (some ⟨ob, 0, none⟩) 2 2], .bool false]) (by simp [results, Tryd.results64, go_sem, t0, t1, t2]) rfl ⟨((BY.trans (Below.refl _ W1).drew).trans (b2.mono (by show _ ≤ W1.heap.size; omega))).trans (hon.below fun j hj => by have hj' : j = w.heap.size + 1 := hj; omega), .inr ⟨HF.out, _, _, _, _, _, _, _, _, _, rfl⟩⟩

set_option maxRecDepth 100000 in
set_option maxHeartbeats 2000000 in
theorem partWith_in {w : World} {B g o nc o' s : Nat} {ua : Option Addr} {l : Lay} {m : Mx} {z : Nat → Int} {y : Nat → Nat} (h : LogAt w B ua l m (some ⟨g, o, none⟩) g o m.n z) (hO : Ortho m z y o') (h1 : 1 ≤ s) (hs : s < 2 ^ m.n) (hT : TabOk w) :
    Calls Tryd.prog 64 #[.agg #[.slice ua m.n l.cap, .slice (some ⟨g, o, none⟩) m.n nc], .int .i64 s] w (PartRes w ua l m (some ⟨g, o, none⟩) m.n nc (closedB m y s)) := by
  have HI : Hid (inB m.n (s : Int) = true) := decide_eq_true ⟨by omega, by omega⟩
  have hn := hO.lat.order.top
  have hpos := hO.lat.order.pos
  have HL : Hid (logicB m m.n z = true) := logicB_true hO.logic
  have HO := Lib.hid hO
  have H1s := Lib.hid h1
  have H2s := Lib.hid hs
  have hX := BoxN.start w #[.slice ua m.n l.cap, .slice (some ⟨g, o, none⟩) m.n nc] 26
  have hV := ThreeAt.new (w.alloc (.cells #[.slice ua m.n l.cap, .slice (some ⟨g, o, none⟩) m.n nc] 26)) (.slice none 0 0) (.slice none 0 0) (.slice none 0 0) 58
  rw [World.size_alloc] at hV
  have bz := (Below.refl (w.heap.size + 1) (w.alloc (.cells #[.slice ua m.n l.cap, .slice (some ⟨g, o, none⟩) m.n nc] 26))).alloc (by simp) (.cells #[.slice none 0 0, .slice none 0 0, .slice none 0 0] 58)
  have hX2 := hX.step (bz.mono (by simp))
  have bw := hX2.below
  have hge : ((w.alloc (.cells #[.slice ua m.n l.cap, .slice (some ⟨g, o, none⟩) m.n nc] 26)).alloc (.cells #[.slice none 0 0, .slice none 0 0, .slice none 0 0] 58)).heap.size ≥ w.heap.size + 2 := by simp
  have q0 := hX2.cell 0 rfl
  have q1 := hX2.cell 1 rfl
  have h := h.step bw
  have HT := Lib.hid (hT.step bw hT.size)
  have hrow2 : Hid (RowAt ((w.alloc (.cells #[.slice ua m.n l.cap, .slice (some ⟨g, o, none⟩) m.n nc] 26)).alloc (.cells #[.slice none 0 0, .slice none 0 0, .slice none 0 0] 58)) ((w.alloc (.cells #[.slice ua m.n l.cap, .slice (some ⟨g, o, none⟩) m.n nc] 26)).alloc (.cells #[.slice none 0 0, .slice none 0 0, .slice none 0 0] 58)).heap.size none 0 0 0 (fun _ => 0)) := ⟨fun c hc => absurd hc (Nat.not_lt_zero _)⟩
  clear hs hX bz hO h1 hT
  go_enter Tryd.func64, Tryd.ntmps64
  go_wp2_with fail
  generalize hW : (w.alloc (.cells #[.slice ua m.n l.cap, .slice (some ⟨g, o, none⟩) m.n nc] 26)).alloc (.cells #[.slice none 0 0, .slice none 0 0, .slice none 0 0] 58) = W at hV hX2 bw hge h hrow2 q0 q1 HT ⊢
  clear hW
  go_at_call 50
  refine (algebraWith_any h hrow2.out (by omega)).mono ?_
  rintro e w1 ⟨b1, (⟨hg, ob, tb, tG, rfl, hA⟩ | ⟨hg, rfl⟩)⟩
  case inr =>
    exfalso
    rw [HL.out, good_nil] at hg
    cases hg
  clear q0 q1 hrow2 hg
  have s1 := b1.size
  have B1 := bw.trans (b1.mono bw.size)
  have hV1 := hV.below b1 (by omega)
  have hY := BoxN.start w1 #[.slice ua m.n l.cap, .slice (some ⟨g, o, none⟩) m.n nc, .slice (some ⟨ob, 0, none⟩) 2 2] 58
  have hYb := hY.below
  have hV2 := hV1.below hYb (by omega)
  have BY := B1.trans (hYb.mono B1.size)
  have ys : (w1.alloc (.cells #[.slice ua m.n l.cap, .slice (some ⟨g, o, none⟩) m.n nc, .slice (some ⟨ob, 0, none⟩) 2 2] 58)).heap.size = w1.heap.size + 1 := World.size_alloc _ _
  have h2 := (h.step b1).step hYb
  have HSq := Lib.hid (h2.sq HO.out.lat.order)
  have HRow := Lib.hid h2.row
  have HB2 := h2.hB
  have HA2 := Lib.hid (hA.step hYb)
  have HT2 := Lib.hid ((HT.out.step b1 HT.out.size).step hYb (by have := HT.out.size; omega))
  clear h2 hA h
  unfold algV
  go_wp2_with fail
  generalize hW1 : w1.alloc (.cells #[.slice ua m.n l.cap, .slice (some ⟨g, o, none⟩) m.n nc, .slice (some ⟨ob, 0, none⟩) 2 2] 58) = W1 at hY hV2 BY ys HSq HRow HB2 HA2 HT2 ⊢
  clear hW1
  have hY1 := hY.step (Below.refl _ W1).drew
  have hS : (fun w' => ((w'.cell? ⟨w1.heap.size, 0, none⟩ = some (.slice ua m.n l.cap) ∧ w'.cell? ⟨w1.heap.size, 1, none⟩ = some (.slice (some ⟨g, o, none⟩) m.n nc)) ∧ w'.cell? ⟨w1.heap.size, 2, none⟩ = some (.slice (some ⟨ob, 0, none⟩) 2 2))) W1.drew := ⟨⟨hY1.cell 0 rfl, hY1.cell 1 rfl⟩, hY1.cell 2 rfl⟩
  have hcs := setOk_any (w := W1.drew) (ob := ob) (nc := nc) (g := g) (o := o) (sa := ua) (l := l) (m := m) (k := m.n) (x := (s : Int)) hn
  unfold algV at hcs
  refine region_plain (fuel := 16) (listed := #[false, false, false, false, false, false, false, false, false, false, false, false, false, false, false, false]) (fun w' => ((w'.cell? ⟨w1.heap.size, 0, none⟩ = some (.slice ua m.n l.cap) ∧ w'.cell? ⟨w1.heap.size, 1, none⟩ = some (.slice (some ⟨g, o, none⟩) m.n nc)) ∧ w'.cell? ⟨w1.heap.size, 2, none⟩ = some (.slice (some ⟨ob, 0, none⟩) 2 2))) (by kernel_rfl) (by kernel_rfl) (by kernel_rfl) ?_
  refine hold_take (i := 0) (d := 13) (v := ?vc0) (listed' := #[true, false, false, false, false, false, false, false, false, false, false, false, false, false, false, false]) rfl (by kernel_rfl) (by kernel_rfl) (by kernel_rfl) rfl (by rfl) (by kernel_rfl) hS ?hc0 ?rc0
  case hc0 =>
    intro w' hSw
    obtain ⟨⟨k0, k1⟩, k2⟩ := hSw
    go_simp
    try with_reducible rfl
  simp only [List.setIfInBounds_toArray, List.set_cons_zero, List.set_cons_succ]
  refine hold_take (i := 1) (d := 14) (v := ?vc1) (listed' := #[true, true, false, false, false, false, false, false, false, false, false, false, false, false, false, false]) rfl (by kernel_rfl) (by kernel_rfl) (by kernel_rfl) rfl (by rfl) (by kernel_rfl) hS ?hc1 ?rc1
  case hc1 =>
    intro w' hSw
    obtain ⟨⟨k0, k1⟩, k2⟩ := hSw
    go_simp
    try with_reducible rfl
  simp only [List.setIfInBounds_toArray, List.set_cons_zero, List.set_cons_succ]
  refine hold_take (i := 2) (d := 15) (v := ?vc2) (listed' := #[true, true, true, false, false, false, false, false, false, false, false, false, false, false, false, false]) rfl (by kernel_rfl) (by kernel_rfl) (by kernel_rfl) rfl (by rfl) (by kernel_rfl) hS ?hc2 ?rc2
  case hc2 =>
    intro w' hSw
    obtain ⟨⟨k0, k1⟩, k2⟩ := hSw
    go_simp
    try with_reducible rfl
  simp only [List.setIfInBounds_toArray, List.set_cons_zero, List.set_cons_succ]
  refine hold_take (i := 3) (d := 16) (v := ?vc3) (listed' := #[true, true, true, true, false, false, false, false, false, false, false, false, false, false, false, false]) rfl (by kernel_rfl) (by kernel_rfl) (by kernel_rfl) rfl (by rfl) (by kernel_rfl) hS ?hc3 ?rc3
  case hc3 =>
    intro w' hSw
    obtain ⟨⟨k0, k1⟩, k2⟩ := hSw
    go_simp
    try with_reducible rfl
  simp only [List.setIfInBounds_toArray, List.set_cons_zero, List.set_cons_succ]
  refine hold_take (i := 4) (d := 17) (v := ?vc4) (listed' := #[true, true, true, true, true, false, false, false, false, false, false, false, false, false, false, false]) rfl (by kernel_rfl) (by kernel_rfl) (by kernel_rfl) rfl (by rfl) (by kernel_rfl) hS ?hc4 ?rc4
  case hc4 =>
    intro w' hSw
    obtain ⟨⟨k0, k1⟩, k2⟩ := hSw
    go_simp
    try with_reducible rfl
  simp only [List.setIfInBounds_toArray, List.set_cons_zero, List.set_cons_succ]
  refine hold_call (i := 5) (d := 18) (listed' := #[true, true, true, true, true, true, false, false, false, false, false, false, false, false, false, false]) rfl (by kernel_rfl) rfl (by rfl) (by kernel_rfl) ?hec5 (hcs) ?hcc5
  case hec5 => go_simp
  rintro e w2 ⟨rfl, b2⟩
  rw [HI.out]
  have hY2 := hY1.step b2
  have hS2 : (fun w' => ((w'.cell? ⟨w1.heap.size, 0, none⟩ = some (.slice ua m.n l.cap) ∧ w'.cell? ⟨w1.heap.size, 1, none⟩ = some (.slice (some ⟨g, o, none⟩) m.n nc)) ∧ w'.cell? ⟨w1.heap.size, 2, none⟩ = some (.slice (some ⟨ob, 0, none⟩) 2 2))) w2 := ⟨⟨hY2.cell 0 rfl, hY2.cell 1 rfl⟩, hY2.cell 2 rfl⟩
  have hall : Below W1.heap.size W1 w2 := (Below.refl _ W1).drew.trans b2
  have hcg := grown_any (nc := nc) (HA2.out.step hall) (HSq.out.step hall) (HRow.out.below (hall.mono HB2)) (HT2.out.step hall HT2.out.size) HO.out H1s.out H2s.out
  unfold algV at hcg
  refine ⟨_, rfl, hS2, ?_⟩
  simp only [List.setIfInBounds_toArray, List.set_cons_zero, List.set_cons_succ]
  refine hold_take (i := 6) (d := 19) (v := ?vc6) (listed' := #[true, true, true, true, true, true, true, false, false, false, false, false, false, false, false, false]) rfl (by kernel_rfl) (by kernel_rfl) (by kernel_rfl) rfl (by rfl) (by kernel_rfl) hS2 ?hc6 ?rc6
  case hc6 =>
    intro w' hSw
    obtain ⟨⟨k0, k1⟩, k2⟩ := hSw
    go_simp
    try with_reducible rfl
  simp only [List.setIfInBounds_toArray, List.set_cons_zero, List.set_cons_succ]
  refine hold_take (i := 7) (d := 20) (v := ?vc7) (listed' := #[true, true, true, true, true, true, true, true, false, false, false, false, false, false, false, false]) rfl (by kernel_rfl) (by kernel_rfl) (by kernel_rfl) rfl (by rfl) (by kernel_rfl) hS2 ?hc7 ?rc7
  case hc7 =>
    intro w' hSw
    obtain ⟨⟨k0, k1⟩, k2⟩ := hSw
    go_simp
    try with_reducible rfl
  simp only [List.setIfInBounds_toArray, List.set_cons_zero, List.set_cons_succ]
  refine hold_take (i := 8) (d := 21) (v := ?vc8) (listed' := #[true, true, true, true, true, true, true, true, true, false, false, false, false, false, false, false]) rfl (by kernel_rfl) (by kernel_rfl) (by kernel_rfl) rfl (by rfl) (by kernel_rfl) hS2 ?hc8 ?rc8
  case hc8 =>
    intro w' hSw
    obtain ⟨⟨k0, k1⟩, k2⟩ := hSw
    go_simp
    try with_reducible rfl
  simp only [List.setIfInBounds_toArray, List.set_cons_zero, List.set_cons_succ]
  refine hold_take (i := 9) (d := 22) (v := ?vc9) (listed' := #[true, true, true, true, true, true, true, true, true, true, false, false, false, false, false, false]) rfl (by kernel_rfl) (by kernel_rfl) (by kernel_rfl) rfl (by rfl) (by kernel_rfl) hS2 ?hc9 ?rc9
  case hc9 =>
    intro w' hSw
    obtain ⟨⟨k0, k1⟩, k2⟩ := hSw
    go_simp
    try with_reducible rfl
  simp only [List.setIfInBounds_toArray, List.set_cons_zero, List.set_cons_succ]
  refine hold_take (i := 11) (d := 24) (v := ?vc11) (listed' := #[true, true, true, true, true, true, true, true, true, true, false, true, false, false, false, false]) rfl (by kernel_rfl) (by kernel_rfl) (by kernel_rfl) rfl (by rfl) (by kernel_rfl) hS2 ?hc11 ?rc11
  case hc11 =>
    intro w' hSw
    obtain ⟨⟨k0, k1⟩, k2⟩ := hSw
    go_simp
    try with_reducible rfl
  simp only [List.setIfInBounds_toArray, List.set_cons_zero, List.set_cons_succ]
  refine hold_call (i := 10) (d := 23) (listed' := #[true, true, true, true, true, true, true, true, true, true, true, true, false, false, false, false]) rfl (by kernel_rfl) rfl (by rfl) (by kernel_rfl) ?hec10 (hcg) ?hcc10
  case hec10 => go_simp
  rintro e w3 ⟨t, rfl, hG, b3⟩
  have hY3 := hY2.step b3
  have hS3 : (fun w' => ((w'.cell? ⟨w1.heap.size, 0, none⟩ = some (.slice ua m.n l.cap) ∧ w'.cell? ⟨w1.heap.size, 1, none⟩ = some (.slice (some ⟨g, o, none⟩) m.n nc)) ∧ w'.cell? ⟨w1.heap.size, 2, none⟩ = some (.slice (some ⟨ob, 0, none⟩) 2 2))) w3 := ⟨⟨hY3.cell 0 rfl, hY3.cell 1 rfl⟩, hY3.cell 2 rfl⟩
  have HE : Hid (((t : Int) == (s : Int)) = closedB m y s) := by
    show _ = _
    rw [← hG.same, Bool.eq_iff_iff, beq_iff_eq, decide_eq_true_iff]; omega
  clear hG
  refine ⟨_, rfl, hS3, ?_⟩
  simp only [List.setIfInBounds_toArray, List.set_cons_zero, List.set_cons_succ]
  refine hold_take (i := 12) (d := 25) (v := ?vc12) (listed' := #[true, true, true, true, true, true, true, true, true, true, true, true, true, false, false, false]) rfl (by kernel_rfl) (by kernel_rfl) (by kernel_rfl) rfl (by rfl) (by kernel_rfl) hS3 ?hc12 ?rc12
  case hc12 =>
    intro w' hSw
    obtain ⟨⟨k0, k1⟩, k2⟩ := hSw
    go_simp
    try with_reducible rfl
  simp only [List.setIfInBounds_toArray, List.set_cons_zero, List.set_cons_succ]
  refine hold_take (i := 13) (d := 26) (v := ?vc13) (listed' := #[true, true, true, true, true, true, true, true, true, true, true, true, true, true, false, false]) rfl (by kernel_rfl) (by kernel_rfl) (by kernel_rfl) rfl (by rfl) (by kernel_rfl) hS3 ?hc13 ?rc13
  case hc13 =>
    intro w' hSw
    obtain ⟨⟨k0, k1⟩, k2⟩ := hSw
    go_simp
    try with_reducible rfl
  simp only [List.setIfInBounds_toArray, List.set_cons_zero, List.set_cons_succ]
  have s2 : W1.heap.size ≤ w2.heap.size := b2.size
  have s3 := b3.size
  have hall3 : Below W1.heap.size W1 w3 := hall.trans (b3.mono (by omega))
  have hVd := hV2.below hall3 (by omega)
  have v0 := hVd.c0
  have v1 := hVd.c1
  have v2 := hVd.c2
  have v3 := hVd.f0
  have v4 := hVd.f1
  have v5 := hVd.f2
  have hon := set3_only w3 (w.heap.size + 1) (.slice ua m.n l.cap) (.slice (some ⟨g, o, none⟩) m.n nc) (.slice (some ⟨ob, 0, none⟩) 2 2)
  have hS9 : (fun w' => ((w'.cell? ⟨w1.heap.size, 0, none⟩ = some (.slice ua m.n l.cap) ∧ w'.cell? ⟨w1.heap.size, 1, none⟩ = some (.slice (some ⟨g, o, none⟩) m.n nc)) ∧ w'.cell? ⟨w1.heap.size, 2, none⟩ = some (.slice (some ⟨ob, 0, none⟩) 2 2))) (((w3.setCell ⟨w.heap.size + 1, 0, none⟩ (.slice ua m.n l.cap)).setCell ⟨w.heap.size + 1, 1, none⟩ (.slice (some ⟨g, o, none⟩) m.n nc)).setCell ⟨w.heap.size + 1, 2, none⟩ (.slice (some ⟨ob, 0, none⟩) 2 2)) := ⟨⟨(World.cell?_of_block (hon.block _ (by show ¬ w1.heap.size = _; omega))).trans hS3.1.1, (World.cell?_of_block (hon.block _ (by show ¬ w1.heap.size = _; omega))).trans hS3.1.2⟩, (World.cell?_of_block (hon.block _ (by show ¬ w1.heap.size = _; omega))).trans hS3.2⟩
  refine hold_store (i := 14) (w' := (((w3.setCell ⟨w.heap.size + 1, 0, none⟩ (.slice ua m.n l.cap)).setCell ⟨w.heap.size + 1, 1, none⟩ (.slice (some ⟨g, o, none⟩) m.n nc)).setCell ⟨w.heap.size + 1, 2, none⟩ (.slice (some ⟨ob, 0, none⟩) 2 2))) (listed' := #[true, true, true, true, true, true, true, true, true, true, true, true, true, true, true, false]) rfl (by kernel_rfl) rfl (by rfl) (by kernel_rfl) ?hsc14 hS9 ?hkc14
  case hsc14 => go_simp
  refine hold_take (i := 15) (d := 5) (v := ?vc15) (listed' := #[true, true, true, true, true, true, true, true, true, true, true, true, true, true, true, true]) rfl (by kernel_rfl) (by kernel_rfl) (by kernel_rfl) rfl (by rfl) (by kernel_rfl) hS9 ?hc15 ?rc15
  case hc15 =>
    intro w' hSw
    obtain ⟨⟨k0, k1⟩, k2⟩ := hSw
    go_simp
    try with_reducible rfl
  simp only [List.setIfInBounds_toArray, List.set_cons_zero, List.set_cons_succ]
  refine hold_done (by kernel_rfl) ?_ _
  rw [HE.out]
  clear HE
  cases hcl : closedB m y s with
  | false =>
    go_wp2_with fail
    have hT := told3 (x := .slice ua m.n l.cap) (y := .slice (some ⟨g, o, none⟩) m.n nc) (z := .slice (some ⟨ob, 0, none⟩) 2 2) v0 v1 v2
    have t0 := hT.1
    have t1 := hT.2.1
    have t2 := hT.2.2
    refine bodyPost_ret (v := .tuple #[.agg #[.slice ua m.n l.cap, .slice (some ⟨g, o, none⟩) m.n nc, .slice (some ⟨ob, 0, none⟩) 2 2], .bool false]) (by simp [results, Tryd.results64, go_sem, t0, t1, t2]) rfl ⟨(BY.trans (hall3.mono BY.size)).trans (hon.below fun j hj => by have hj' : j = w.heap.size + 1 := hj; omega), .inr ⟨rfl, _, _, _, _, _, _, _, _, _, rfl⟩⟩
  | true =>
    go_wp2_with fail
    have hT := told3 (x := .slice ua m.n l.cap) (y := .slice (some ⟨g, o, none⟩) m.n nc) (z := .slice (some ⟨ob, 0, none⟩) 2 2) v0 v1 v2
    have t0 := hT.1
    have t1 := hT.2.1
    have t2 := hT.2.2
    refine bodyPost_ret (v := .tuple #[.agg #[.slice ua m.n l.cap, .slice (some ⟨g, o, none⟩) m.n nc, .slice (some ⟨ob, 0, none⟩) 2 2], .bool true]) (by simp [results, Tryd.results64, go_sem, t0, t1, t2]) rfl ⟨(BY.trans (hall3.mono BY.size)).trans (hon.below fun j hj => by have hj' : j = w.heap.size + 1 := hj; omega), .inl ⟨rfl, ob, tb, tG, rfl, (HA2.out.step hall3).apart hVd hpos hon⟩⟩

theorem partWith_any {w : World} {B : Nat} {ua : Option Addr} {l : Lay} {m : Mx} {na : Option Addr} {g o k nc : Nat} {z : Nat → Int} {x : Int} (h : LogAt w B ua l m na g o k z) (hT : TabOk w) :
    Calls Tryd.prog 64 #[.agg #[.slice ua m.n l.cap, .slice na k nc], .int .i64 x] w (PartRes w ua l m na k nc (subV m k z x)) := by
  cases hl : logicB m k z with
  | false => exact partWith_no h hl
  | true =>
    obtain ⟨y, o', hO⟩ := (logicB_is hl).ortho
    have hkn : k = m.n := (logicB_is hl).pair.len
    subst hkn
    obtain ⟨rfl, _, _⟩ := h.row.row 0 hO.lat.order.pos
    by_cases hi : inB m.n x = true
    · obtain ⟨i1, i2⟩ : 1 ≤ x ∧ x < (2 ^ m.n : Nat) := of_decide_eq_true hi
      obtain ⟨s, rfl⟩ := Int.eq_ofNat_of_zero_le (show 0 ≤ x by omega)
      have j1 : 1 ≤ s := by omega
      have j2 : s < 2 ^ m.n := by omega
      rw [subV_is hO j1 j2]
      exact partWith_in h hO j1 j2 hT
    · exact partWith_out h hO (Bool.eq_false_iff.2 hi)

set_option maxRecDepth 100000 in
set_option maxHeartbeats 1000000 in
theorem SubOk_any {w : World} {B : Nat} {ua : Option Addr} {l : Lay} {m : Mx} {na : Option Addr} {g o k nc : Nat} {z : Nat → Int} {x : Int} (h : LogAt w B ua l m na g o k z) (hT : TabOk w) :
    Calls Tryd.prog 19 #[.agg #[.slice ua m.n l.cap, .slice na k nc], .int .i64 x] w fun e w' => e = .returned (.bool (subV m k z x)) ∧ Below w.heap.size w w' := by
  have hX := BoxN.start w #[.slice ua m.n l.cap, .slice na k nc] 26
  have q0 := hX.cell 0 rfl
  have q1 := hX.cell 1 rfl
  have bw := hX.below
  have h2 := Lib.hid (h.step bw)
  have HT := Lib.hid (hT.step bw hT.size)
  clear h hX hT
  go_enter Tryd.func19, Tryd.ntmps19
  go_wp2_with fail
  go_at_call 64
  refine (partWith_any h2.out HT.out).mono ?_
  rintro e w1 ⟨b1, (⟨hs, ob, tb, tG, rfl, hA⟩ | ⟨hs, a1, a2, a3, n1, c1, n2, c2, n3, c3, rfl⟩)⟩
  · have HF := Lib.hid hs.symm
    have B1 := (bw.trans (b1.mono bw.size)).alloc (by have := bw.size; have := b1.size; omega) (.cells #[.slice ua m.n l.cap, .slice na k nc, .slice (some ⟨ob, 0, none⟩) 2 2] 58)
    clear q0 q1 hs hA
    unfold algV
    go_wp2_with fail
    go_ret
    exact ⟨ret_bool HF.out, B1⟩
  · have HF := Lib.hid hs.symm
    have B1 := (bw.trans (b1.mono bw.size)).alloc (by have := bw.size; have := b1.size; omega) (.cells #[.slice a1 n1 c1, .slice a2 n2 c2, .slice a3 n3 c3] 58)
    clear q0 q1 hs
    go_wp2_with fail
    go_ret
    exact ⟨ret_bool HF.out, B1⟩

end Go.Proofs.YtnbglbhfclohjaaDoor
