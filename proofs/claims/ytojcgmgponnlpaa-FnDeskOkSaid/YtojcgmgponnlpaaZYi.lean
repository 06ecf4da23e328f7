import Derived.Test.YtojcgmgponnlpaaZMath
import Derived.Test.YtojcgmgponnlpaaZDa
import Derived.Test.YtojcgmgponnlpaaZOi
import Derived.Test.YtojcgmgponnlpaaZVh
import Derived.Lib.TrailingZeros
import Derived.Laws.Bits64b
namespace Go.Proofs.Ytojcgmgponnlpaa
open Go.RowKit Go.Deep

theorem bit_is (s k : Nat) : ((s : Int) / 2 ^ k).tmod 2 = (if s.testBit k = true then 1 else 0) := by
  have e1 : ((s : Int) / 2 ^ k) = ((s / 2 ^ k : Nat) : Int) := by push_cast; rfl
  have e2 : ((s / 2 ^ k : Nat) : Int).tmod 2 = ((s / 2 ^ k % 2 : Nat) : Int) := by
    generalize s / 2 ^ k = q
    rw [Int.tmod_eq_emod_of_nonneg (Int.natCast_nonneg q)]; omega
  rw [e1, e2]
  have h3 := Nat.testBit_eq_decide_div_mod_eq (x := s) (i := k)
  rw [h3]
  by_cases h : s / 2 ^ k % 2 = 1
  · simp [h]
  · have : s / 2 ^ k % 2 = 0 := by omega
    simp [this]
theorem bit_yes {s k : Nat} (h : s.testBit k = true) : ((s : Int) / 2 ^ k).tmod 2 = 1 := by rw [bit_is, if_pos h]
theorem bit_no {s k : Nat} (h : s.testBit k = false) : ((s : Int) / 2 ^ k).tmod 2 = 0 := by rw [bit_is, if_neg (by rw [h]; decide)]
theorem pow_le_12 {k : Nat} (h : k ≤ 12) : 2 ^ k ≤ 4096 := by
  have := Nat.pow_le_pow_right (n := 2) (by omega) h
  exact this
theorem i64_or_nat (a b : Nat) (ha : a < 9223372036854775808) (hb : b < 9223372036854775808) : bits .or .i64 (a : Int) (b : Int) = ((a ||| b : Nat) : Int) := by
  have hx : a ||| b < 2 ^ 63 := Nat.or_lt_two_pow (by omega) (by omega)
  show IntKind.i64.wrap ((BitVec.ofInt 64 (a : Int) ||| BitVec.ofInt 64 (b : Int)).toNat : Int) = _
  rw [BitVec.toNat_or, ofInt_i64 a ha, ofInt_i64 b hb, IntKind.wrap_i64]
  omega
theorem one_wrap {k : Nat} (h : k ≤ 12) : IntKind.i64.wrap (2 ^ k) = ((2 ^ k : Nat) : Int) := by
  have := pow_le_12 h
  have e : ((2 : Int) ^ k) = ((2 ^ k : Nat) : Int) := by push_cast; rfl
  rw [e]
  generalize 2 ^ k = q at this
  exact IntWalk.i64_in _ (by omega)
end Go.Proofs.Ytojcgmgponnlpaa
namespace Go.Proofs.Ytojcgmgponnlpaa
open Go.RowKit Go.Deep

theorem meetR {B n : Nat} {sa : Option Addr} {l : Lay} {m : Mx} {a b : Nat} {w : World} {z : Nat → Int} {y : Nat → Nat} {o : Nat} (h : MatAt w B sa l m) (hO : Ortho m z y o) (ha : a < m.n) (hb : b < m.n) :
    Calls Try.prog 58 #[.slice sa m.n l.cap, .int .i64 a, .int .i64 b] (w.drewN n) fun e w' => e = .returned (.int .i64 (mN m a b : Nat)) ∧ ∃ k, w' = w.drewN k :=
  quiet_drew ((l1Meet_any (h.drewN n) hO.lat.order ha hb).mono fun _ _ ⟨he, hw⟩ => ⟨by rw [he, hO.mI ha hb], by subst hw; exact Drew.refl _⟩)
theorem meetW {B : Nat} {sa : Option Addr} {l : Lay} {m : Mx} {a b : Nat} {w : World} {z : Nat → Int} {y : Nat → Nat} {o : Nat} (h : MatAt w B sa l m) (hO : Ortho m z y o) (ha : a < m.n) (hb : b < m.n) :
    Calls Try.prog 58 #[.slice sa m.n l.cap, .int .i64 a, .int .i64 b] w fun e w' => e = .returned (.int .i64 (mN m a b : Nat)) ∧ w = w' :=
  (l1Meet_any h hO.lat.order ha hb).mono fun _ _ ⟨he, hw⟩ => ⟨by rw [he, hO.mI ha hb], hw⟩

set_option maxRecDepth 100000 in
set_option maxHeartbeats 2000000 in
theorem spec_SubOk_in {w : World} {B : Nat} {ua : Option Addr} {l : Lay} {m : Mx} {na : Option Addr} {g o nc s o' : Nat} {z : Nat → Int} {y : Nat → Nat} (h : LogAt w B ua l m na g o m.n z) (hO : Ortho m z y o') (h1 : 1 ≤ s) (h2 : s < 2 ^ m.n) :
    Calls Try.prog 126 #[.agg #[.slice ua m.n l.cap, .slice na m.n nc], .int .i64 s] w fun e w' => e = .returned (.bool (closedB m y s)) ∧ Below w.heap.size w w' := by
  have hX := BoxN.start w #[.slice ua m.n l.cap, .slice na m.n nc] 26
  have hL := Lib.hid (h.alloc (.cells #[.slice ua m.n l.cap, .slice na m.n nc] 26))
  have q0 := hX.cell 0 rfl
  have q1 := hX.cell 1 rfl
  have hn := hO.lat.order.top
  have hpos := hO.lat.order.pos
  have HT : Hid (logicB m m.n z = true) := logicB_true hO.logic
  have HO := Lib.hid hO
  obtain ⟨rfl, _, _⟩ := hL.out.row.row 0 (by omega)
  obtain ⟨rfl, _, _⟩ := hL.out.mat.top 0 (by omega)
  have hp := pow_le_12 hn
  obtain ⟨P, hP⟩ : ∃ P, P = 2 ^ m.n := ⟨_, rfl⟩
  rw [← hP] at h2 hp
  have e0 : ((2 : Int) ^ m.n) = (P : Int) := by rw [hP]; push_cast; rfl
  have e1 : wrap64 ((2 : Int) ^ m.n) = (P : Int) := by rw [e0]; exact IntWalk.wrap64_in _ (by omega)
  have e2 : wrap64 ((P : Int) - 1) = (P : Int) - 1 := IntWalk.wrap64_in _ (by omega)
  have H1 : Hid ((decide ((1 : Int) ≤ (s : Int)) && decide ((s : Int) ≤ wrap64 (2 ^ m.n - 1))) = true) := by show _ = _; rw [e0, e2]; simp; omega
  have H1' : Hid ((decide ((1 : Int) ≤ (s : Int)) && decide ((s : Int) ≤ wrap64 (wrap64 (2 ^ m.n) - 1))) = true) := by show _ = _; rw [e1, e2]; simp; omega
  clear e0 e1 e2
  have HB : Hid (∀ a, s.testBit a = true → a < m.n) := fun a => bit_lt (by rw [← hP]; exact h2)
  clear h hO
  go_enter Try.func126, Try.ntmps126
  go_wp2_with fail
  go_at_call 28
  refine (spec_LogicOk hL.out).mono ?_
  rintro e w1 ⟨rfl, b1⟩
  rw [HT.out]
  have hX1 := hX.step b1
  have hL1 := Lib.hid (hL.out.step b1)
  have r0 := hX1.cell 0 rfl
  have r1 := hX1.cell 1 rfl
  have B1 := hX1.below
  clear q0 q1 hL hX
  go_wp2_with fail
  go_at_call 56
  refine (l1In_any _ _ _ _).mono ?_
  rintro e w2 ⟨rfl, rfl⟩
  first | rw [H1.out] | rw [H1'.out]
  clear r0 r1
  go_wp2_with fail
  clear hP hp
  go_loopw [6] (fun i wr => ∃ j : Nat, j ≤ m.n ∧ i = .int .i64 j ∧ Below w1.heap.size w1 wr ∧ Hid (∀ a, a < j → closedRB m y s a = true)) (fun i _ => m.n - (intOf i).toNat)
  case atStart => exact ⟨0, Nat.zero_le _, rfl, Below.refl _ _, fun c hc => absurd hc (Nat.not_lt_zero _)⟩
  case round =>
    obtain ⟨j, hj, rfl, hD, hR⟩ := hrel
    have hXr := hX1.step hD
    have hr := Lib.hid (hL1.out.step hD)
    by_cases hlt : j < m.n
    · have hlt' : (j : Int) < m.n := by omega
      cases hbj : s.testBit j with
      | false =>
        have t1 := bit_no hbj
        have HP : Hid (closedRB m y s j = true) := by show _ = _; unfold closedRB; rw [hbj]; rfl
        clear hbj
        go_wp2_with fail
        go_roundw
        case rel => exact ⟨j + 1, by omega, by go_num, hD, fun a ha => by
          by_cases e : a = j
          · subst e; exact HP.out
          · exact hR.out a (by omega)⟩
        case measure => simp [intOf]; omega
      | true =>
        have t1 := bit_yes hbj
        have HJ := Lib.hid hbj
        clear hbj
        go_wp2_with fail
        clear t1
        go_loopw [7] (fun i wi => ∃ b : Nat, b ≤ m.n ∧ i = .int .i64 b ∧ Below w1.heap.size w1 wi ∧ Hid (∀ c, c < b → s.testBit c = true → s.testBit (mN m j c) = true)) (fun i _ => m.n - (intOf i).toNat)
        case atStart => exact ⟨0, Nat.zero_le _, rfl, hD, fun c hc => absurd hc (Nat.not_lt_zero _)⟩
        case round =>
          clear hD hXr hr
          obtain ⟨b, hbn, rfl, hD, hT⟩ := hrel
          have hXr := hX1.step hD
          have hr := Lib.hid (hL1.out.step hD)
          have q0 := hXr.cell 0 rfl
          have q1 := hXr.cell 1 rfl
          by_cases hbt : b < m.n
          · have hbt' : (b : Int) < m.n := by omega
            cases hbb : s.testBit b with
            | false =>
              have t1 := bit_no hbb
              have HB' := Lib.hid hbb
              clear hbb
              go_wp2_with fail
              go_roundw
              case rel => exact ⟨b + 1, by omega, by go_num, hD, fun c hc gc => by
                by_cases e : c = b
                · subst e; rw [HB'.out] at gc; cases gc
                · exact hT.out c (by omega) gc⟩
              case measure => simp [intOf]; omega
            | true =>
              have t1 := bit_yes hbb
              have hm := (HO.out.mG hlt hbt).lt
              have hm' : ((mN m j b : Nat) : Int) ≤ 64 := by omega
              have HB' := Lib.hid hbb
              clear hbb
              go_wp2_with fail
              go_at_call 58
              refine (meetW hr.out.mat HO.out hlt hbt).mono ?_
              rintro e w3 ⟨rfl, rfl⟩
              clear t1
              cases hmb : s.testBit (mN m j b) with
              | false =>
                have t1 := bit_no hmb
                have HF : Hid (false = closedB m y s) := (allB_false hlt (by
                  unfold closedRB
                  rw [HJ.out, allB_false hbt (by rw [HB'.out, hmb]; rfl)]; rfl)).symm
                clear hmb
                go_wp2_with fail
                go_ret
                exact ⟨ret_bool HF.out, hXr.below⟩
              | true =>
                have t1 := bit_yes hmb
                have HM' := Lib.hid hmb
                clear hmb
                go_wp2_with fail
                go_roundw
                case rel => exact ⟨b + 1, by omega, by go_num, hD, fun c hc gc => by
                  by_cases e : c = b
                  · subst e; exact HM'.out
                  · exact hT.out c (by omega) gc⟩
                case measure => simp [intOf]; omega
          · have hbt' : ¬ (b : Int) < m.n := by omega
            obtain ⟨_, _, d1⟩ := hr.out.row.row j hlt
            rw [HO.out.zy j hlt] at d1
            have f2 := HO.out.lt j hlt
            have f3 : ((y j : Nat) : Int) ≤ 64 := by omega
            cases hyb : s.testBit (y j) with
            | false =>
              have t1 := bit_no hyb
              have HF : Hid (false = closedB m y s) := (allB_false hlt (by
                unfold closedRB
                rw [HJ.out, hyb, Bool.and_false]; rfl)).symm
              clear hyb
              go_wp2_with fail
              go_ret
              exact ⟨ret_bool HF.out, hXr.below⟩
            | true =>
              have t1 := bit_yes hyb
              have HP : Hid (closedRB m y s j = true) := by
                show _ = _
                unfold closedRB
                rw [HJ.out, hyb, Bool.and_true]
                simp only [Bool.not_true, Bool.false_or]
                refine allB_true fun c hc => ?_
                cases gc : s.testBit c with
                | false => rfl
                | true => rw [hT.out c (by omega) gc]; rfl
              clear hyb
              go_wp2_with fail
              go_roundw
              case rel => exact ⟨j + 1, by omega, by go_num, hD, fun a ha => by
                by_cases e : a = j
                · subst e; exact HP.out
                · exact hR.out a (by omega)⟩
              case measure => simp [intOf]; omega
    · have hlt' : ¬ (j : Int) < m.n := by omega
      have HT' : Hid (true = closedB m y s) := (allB_true fun a ha => hR.out a (by omega)).symm
      go_wp2_with fail
      go_ret
      exact ⟨ret_bool HT'.out, hXr.below⟩

set_option maxRecDepth 100000 in
set_option maxHeartbeats 2000000 in
theorem spec_SubOk {w : World} {B : Nat} {ua : Option Addr} {l : Lay} {m : Mx} {na : Option Addr} {g o k nc : Nat} {z : Nat → Int} {x : Int} (h : LogAt w B ua l m na g o k z) :
    Calls Try.prog 126 #[.agg #[.slice ua m.n l.cap, .slice na k nc], .int .i64 x] w fun e w' => e = .returned (.bool (subV m k z x)) ∧ Below w.heap.size w w' := by
  cases hl : logicB m k z with
  | false =>
    have hX := BoxN.start w #[.slice ua m.n l.cap, .slice na k nc] 26
    have hL := Lib.hid (h.alloc (.cells #[.slice ua m.n l.cap, .slice na k nc] 26))
    have q0 := hX.cell 0 rfl
    have q1 := hX.cell 1 rfl
    have hkk := h.hk
    have HL := Lib.hid hl
    have HF : Hid (false = subV m k z x) := by show _ = _; unfold subV; rw [hl]; rfl
    clear hl h
    go_enter Try.func126, Try.ntmps126
    go_wp2_with fail
    go_at_call 28
    refine (spec_LogicOk hL.out).mono ?_
    rintro e w1 ⟨rfl, b1⟩
    rw [HL.out]
    have hX1 := hX.step b1
    go_wp2_with fail
    go_ret
    exact ⟨ret_bool HF.out, hX1.below⟩
  | true =>
    obtain ⟨y, o', hO⟩ := (logicB_is hl).ortho
    have hkn : k = m.n := (logicB_is hl).pair.len
    subst hkn
    by_cases hi : inB m.n x = true
    · obtain ⟨i1, i2⟩ : 1 ≤ x ∧ x < (2 ^ m.n : Nat) := of_decide_eq_true hi
      obtain ⟨s, rfl⟩ := Int.eq_ofNat_of_zero_le (show 0 ≤ x by omega)
      have j1 : 1 ≤ s := by omega
      have j2 : s < 2 ^ m.n := by omega
      rw [subV_is hO j1 j2]
      exact spec_SubOk_in h hO j1 j2
    · have hX := BoxN.start w #[.slice ua m.n l.cap, .slice na m.n nc] 26
      have hL := Lib.hid (h.alloc (.cells #[.slice ua m.n l.cap, .slice na m.n nc] 26))
      have q0 := hX.cell 0 rfl
      have q1 := hX.cell 1 rfl
      have hn := hO.lat.order.top
      have HL := Lib.hid hl
      have HF : Hid (false = subV m m.n z x) := by show _ = _; unfold subV; rw [hl, Bool.eq_false_iff.2 hi]; rfl
      have hp := pow_le_12 hn
      obtain ⟨P, hP⟩ : ∃ P, P = 2 ^ m.n := ⟨_, rfl⟩
      have hi' : ¬ (1 ≤ x ∧ x < (P : Int)) := fun h' => hi (decide_eq_true (by rw [← hP]; exact h'))
      rw [← hP] at hp
      have e0 : ((2 : Int) ^ m.n) = (P : Int) := by rw [hP]; push_cast; rfl
      have e1 : wrap64 ((2 : Int) ^ m.n) = (P : Int) := by rw [e0]; exact IntWalk.wrap64_in _ (by omega)
      have e2 : wrap64 ((P : Int) - 1) = (P : Int) - 1 := IntWalk.wrap64_in _ (by omega)
      have hf : (decide ((1 : Int) ≤ x) && decide (x ≤ (P : Int) - 1)) = false := by
        rw [Bool.and_eq_false_iff]; simp; omega
      have H1 : Hid ((decide ((1 : Int) ≤ x) && decide (x ≤ wrap64 (2 ^ m.n - 1))) = false) := by show _ = _; rw [e0, e2]; exact hf
      have H1' : Hid ((decide ((1 : Int) ≤ x) && decide (x ≤ wrap64 (wrap64 (2 ^ m.n) - 1))) = false) := by show _ = _; rw [e1, e2]; exact hf
      clear e0 e1 e2 hf hl h hi hi' hP hp hO
      go_enter Try.func126, Try.ntmps126
      go_wp2_with fail
      go_at_call 28
      refine (spec_LogicOk hL.out).mono ?_
      rintro e w1 ⟨rfl, b1⟩
      rw [HL.out]
      have hX1 := hX.step b1
      clear q0 q1
      go_wp2_with fail
      go_at_call 56
      refine (l1In_any _ _ _ _).mono ?_
      rintro e w2 ⟨rfl, rfl⟩
      first | rw [H1.out] | rw [H1'.out]
      go_wp2_with fail
      go_ret
      exact ⟨ret_bool HF.out, hX1.below⟩
end Go.Proofs.Ytojcgmgponnlpaa
namespace Go.Proofs.Ytojcgmgponnlpaa
open Go.RowKit Go.Deep

/-- Some rows of pairs looked at, and some of the next row. -/
structure MidB (m : Mx) (y : Nat → Nat) (t u j c : Nat) : Prop where
  under : Under m y t u
  done : ∀ a b, a < j → b < m.n → t.testBit a = true → t.testBit b = true → u.testBit (mN m a b) = true ∧ u.testBit (y a) = true
  row : ∀ b, b < c → t.testBit j = true → t.testBit b = true → u.testBit (mN m j b) = true ∧ u.testBit (y j) = true
theorem MidB.start {m : Mx} {y : Nat → Nat} {t : Nat} (h : t < 2 ^ m.n) : MidB m y t t 0 0 := ⟨Under.start h, fun _ _ h => absurd h (Nat.not_lt_zero _), fun _ h => absurd h (Nat.not_lt_zero _)⟩
theorem MidB.turn {m : Mx} {y : Nat → Nat} {t u j : Nat} (h : MidB m y t u j m.n) : MidB m y t u (j + 1) 0 :=
  ⟨h.under, fun a b ha hb ga gb => by
    by_cases e : a = j
    · subst e; exact h.row b hb ga gb
    · exact h.done a b (by omega) hb ga gb, fun _ h => absurd h (Nat.not_lt_zero _)⟩
theorem MidB.pass {m : Mx} {y : Nat → Nat} {t u j c : Nat} (h : MidB m y t u j c) (hno : t.testBit j = false ∨ t.testBit c = false) : MidB m y t u j (c + 1) :=
  ⟨h.under, h.done, fun b hb gj gb => by
    by_cases e : b = c
    · subst e
      rcases hno with e | e
      · rw [e] at gj; cases gj
      · rw [e] at gb; cases gb
    · exact h.row b (by omega) gj gb⟩
theorem MidB.add {m : Mx} {z : Nat → Int} {y : Nat → Nat} {o t u j c : Nat} (h : MidB m y t u j c) (hO : Ortho m z y o) (hj : j < m.n) (hc : c < m.n) (gj : t.testBit j = true) (gc : t.testBit c = true) : MidB m y t (u ||| 2 ^ mN m j c ||| 2 ^ y j) j (c + 1) := by
  have hs : Sub u (u ||| 2 ^ mN m j c ||| 2 ^ y j) := (sub_left _ _).trans (sub_left _ _)
  have h1 : (u ||| 2 ^ mN m j c ||| 2 ^ y j).testBit (mN m j c) = true := sub_left _ _ _ (sub_right _ _ _ (has_one _))
  have h2 : (u ||| 2 ^ mN m j c ||| 2 ^ y j).testBit (y j) = true := sub_right _ _ _ (has_one _)
  refine ⟨(h.under.more (hO.mG hj hc).lt fun v hv hs => hv.meet j c hj hc (hs j gj) (hs c gc)).more (hO.lt j hj) fun v hv hs => hv.not j hj (hs j gj), fun a b ha hb ga gb => ?_, fun b hb gj gb => ?_⟩
  · obtain ⟨d1, d2⟩ := h.done a b ha hb ga gb
    exact ⟨hs _ d1, hs _ d2⟩
  · by_cases e : b = c
    · subst e; exact ⟨h1, h2⟩
    · obtain ⟨d1, d2⟩ := h.row b (by omega) gj gb
      exact ⟨hs _ d1, hs _ d2⟩
theorem MidB.grown {m : Mx} {y : Nat → Nat} {t u : Nat} (h : MidB m y t u m.n 0) : Grown m y t u :=
  ⟨h.under, fun a b ha hb ga gb => (h.done a b ha hb ga gb).1, fun a ha ga => (h.done a a ha ha ga ga).2⟩
theorem or_is {u k : Nat} (hu : u < 4096) (hk : k < 12) : bits .or .i64 (u : Int) (wrap64 (2 ^ k)) = ((u ||| 2 ^ k : Nat) : Int) := by
  have := pow_le_12 (Nat.le_of_lt hk)
  have e : ((2 : Int) ^ k) = ((2 ^ k : Nat) : Int) := by push_cast; rfl
  rw [e]
  generalize 2 ^ k = q at this ⊢
  rw [IntWalk.wrap64_in _ (by omega)]
  exact i64_or_nat u q (by omega) (by omega)

set_option maxRecDepth 100000 in
set_option maxHeartbeats 2000000 in
theorem spec_MadeBy_in {w : World} {B : Nat} {ua : Option Addr} {l : Lay} {m : Mx} {na : Option Addr} {g o nc s o' : Nat} {z : Nat → Int} {y : Nat → Nat} (h : LogAt w B ua l m na g o m.n z) (hO : Ortho m z y o') (h1 : 1 ≤ s) (h2 : s < 2 ^ m.n) :
    Calls Try.prog 117 #[.agg #[.slice ua m.n l.cap, .slice na m.n nc], .int .i64 s] w fun e w' => e = .returned (.int .i64 (madeV m m.n z (s : Int))) ∧ Below w.heap.size w w' := by
  have hX := BoxN.start w #[.slice ua m.n l.cap, .slice na m.n nc] 26
  have hL := Lib.hid (h.alloc (.cells #[.slice ua m.n l.cap, .slice na m.n nc] 26))
  have q0 := hX.cell 0 rfl
  have q1 := hX.cell 1 rfl
  have hn := hO.lat.order.top
  have hpos := hO.lat.order.pos
  have HT : Hid (logicB m m.n z = true) := logicB_true hO.logic
  have HO := Lib.hid hO
  obtain ⟨rfl, _, _⟩ := hL.out.row.row 0 (by omega)
  obtain ⟨rfl, _, _⟩ := hL.out.mat.top 0 (by omega)
  have hp := pow_le_12 hn
  have H1s := Lib.hid h1
  have H2s := Lib.hid h2
  obtain ⟨P, hP⟩ : ∃ P, P = 2 ^ m.n := ⟨_, rfl⟩
  rw [← hP] at h2 hp
  have e0 : ((2 : Int) ^ m.n) = (P : Int) := by rw [hP]; push_cast; rfl
  have e1 : wrap64 ((2 : Int) ^ m.n) = (P : Int) := by rw [e0]; exact IntWalk.wrap64_in _ (by omega)
  have e2 : wrap64 ((P : Int) - 1) = (P : Int) - 1 := IntWalk.wrap64_in _ (by omega)
  have H1 : Hid ((decide ((1 : Int) ≤ (s : Int)) && decide ((s : Int) ≤ wrap64 (2 ^ m.n - 1))) = true) := by show _ = _; rw [e0, e2]; simp; omega
  have H1' : Hid ((decide ((1 : Int) ≤ (s : Int)) && decide ((s : Int) ≤ wrap64 (wrap64 (2 ^ m.n) - 1))) = true) := by show _ = _; rw [e1, e2]; simp; omega
  clear e0 e1 e2 h hO
  go_enter Try.func117, Try.ntmps117
  go_wp2_with fail
  go_at_call 28
  refine (spec_LogicOk hL.out).mono ?_
  rintro e w1 ⟨rfl, b1⟩
  rw [HT.out]
  have hX1 := hX.step b1
  have hL1 := Lib.hid (hL.out.step b1)
  have r0 := hX1.cell 0 rfl
  have r1 := hX1.cell 1 rfl
  have B1 := hX1.below
  clear q0 q1 hL hX
  go_wp2_with fail
  go_at_call 56
  refine (l1In_any _ _ _ _).mono ?_
  rintro e w2 ⟨rfl, rfl⟩
  first | rw [H1.out] | rw [H1'.out]
  clear r0 r1
  go_wp2_with fail
  have HP4 : Hid (P = 2 ^ m.n ∧ P ≤ 4096) := ⟨hP, hp⟩
  clear hP hp h1 h2
  go_loopw [6] (fun i wr => ∃ t : Nat, 1 ≤ t ∧ t < 4096 ∧ i = .int .i64 t ∧ Below w1.heap.size w1 wr ∧ Hid (Under m y s t)) (fun i _ => 4096 - (intOf i).toNat)
  case atStart => exact ⟨s, H1s.out, by have := HP4.out; have := H2s.out; omega, rfl, Below.refl _ _, Under.start H2s.out⟩
  case round =>
    obtain ⟨t, ht1, ht2, rfl, hD, hU⟩ := hrel
    have hXr := hX1.step hD
    have hr := Lib.hid (hL1.out.step hD)
    have q0 := hXr.cell 0 rfl
    have q1 := hXr.cell 1 rfl
    go_wp2_with fail
    go_at_call 126
    refine (spec_SubOk_in hr.out HO.out ht1 hU.out.lt).mono ?_
    rintro e w3 ⟨rfl, b3⟩
    have hD3 := hD.trans (b3.mono hD.size)
    have hXr3 := hXr.step b3
    clear q0 q1 hr hXr hD
    cases hc : closedB m y t with
    | true =>
      have HV : Hid ((t : Int) = madeV m m.n z (s : Int)) := (madeV_is HO.out H1s.out H2s.out (hU.out.made (closedB_is hc))).symm
      clear hc
      go_wp2_with fail
      go_ret
      exact ⟨ret_int HV.out, hXr3.below⟩
    | false =>
      have HC := Lib.hid hc
      clear hc hXr3
      go_wp2_with fail
      go_loopw [7, 8] (fun v i wi => ∃ u j : Nat, j ≤ m.n ∧ u < 4096 ∧ v = .int .i64 u ∧ i = .int .i64 j ∧ Below w1.heap.size w1 wi ∧ Hid (MidB m y t u j 0)) (fun _ i _ => m.n - (intOf i).toNat)
      case atStart => exact ⟨t, 0, Nat.zero_le _, ht2, rfl, rfl, hD3, MidB.start hU.out.lt⟩
      case round =>
        clear hD3
        obtain ⟨u, j, hj, hu, rfl, rfl, hD, hM⟩ := hrel
        by_cases hlt : j < m.n
        · have hlt' : (j : Int) < m.n := by omega
          go_wp2_with fail
          go_loopw [7, 9] (fun v i wi => ∃ u b : Nat, b ≤ m.n ∧ u < 4096 ∧ v = .int .i64 u ∧ i = .int .i64 b ∧ Below w1.heap.size w1 wi ∧ Hid (MidB m y t u j b)) (fun _ i _ => m.n - (intOf i).toNat)
          case atStart => exact ⟨u, 0, Nat.zero_le _, hu, rfl, rfl, hD, hM⟩
          case round =>
            clear hD hM hu
            obtain ⟨v, b, hb, hv, rfl, rfl, hD, hM⟩ := hrel
            by_cases hbt : b < m.n
            · have hbt' : (b : Int) < m.n := by omega
              cases hbj : t.testBit j with
              | false =>
                have t1 := bit_no hbj
                have HN : Hid (MidB m y t v j (b + 1)) := hM.out.pass (.inl hbj)
                clear hbj
                go_wp2_with fail
                go_roundw
                case rel => exact ⟨v, b + 1, by omega, hv, rfl, by go_num, hD, HN⟩
                case measure => simp [intOf]; omega
              | true =>
                cases hbb : t.testBit b with
                | false =>
                  have t1 := bit_yes hbj
                  have t2 := bit_no hbb
                  have HN : Hid (MidB m y t v j (b + 1)) := hM.out.pass (.inr hbb)
                  clear hbj hbb
                  go_wp2_with fail
                  go_roundw
                  case rel => exact ⟨v, b + 1, by omega, hv, rfl, by go_num, hD, HN⟩
                  case measure => simp [intOf]; omega
                | true =>
                  have t1 := bit_yes hbj
                  have t2 := bit_yes hbb
                  have HN : Hid (MidB m y t (v ||| 2 ^ mN m j b ||| 2 ^ y j) j (b + 1)) := hM.out.add HO.out hlt hbt hbj hbb
                  have hXr := hX1.step hD
                  have hr := hL1.out.step hD
                  have q0 := hXr.cell 0 rfl
                  have q1 := hXr.cell 1 rfl
                  obtain ⟨_, _, d1⟩ := hr.row.row j hlt
                  rw [HO.out.zy j hlt] at d1
                  have hmat := Lib.hid hr.mat
                  have hm := (HO.out.mG hlt hbt).lt
                  have f2 := HO.out.lt j hlt
                  have hm' : ((mN m j b : Nat) : Int) ≤ 64 := by omega
                  have f2' : ((y j : Nat) : Int) ≤ 64 := by omega
                  have hv2 : v ||| 2 ^ mN m j b < 4096 := or_lt (n := 12) hv (one_lt (by omega))
                  have hv3 : v ||| 2 ^ mN m j b ||| 2 ^ y j < 4096 := or_lt (n := 12) hv2 (one_lt (by omega))
                  have o1 := or_is (k := mN m j b) hv (by omega)
                  have o2 := or_is (k := y j) hv2 (by omega)
                  clear hbj hbb hr
                  go_wp2_with fail
                  clear t1 t2
                  go_quiet ((go_at_call 58; exact meetR hmat.out HO.out hlt hbt))
                  go_wp2_with fail
                  go_roundw
                  case rel => exact ⟨_, b + 1, by omega, hv3, rfl, by go_num, Below.drewN' hD _, HN⟩
                  case measure => simp [intOf]; omega
            · have hbt' : ¬ (b : Int) < m.n := by omega
              have hbe : b = m.n := by omega
              subst hbe
              have HN : Hid (MidB m y t v (j + 1) 0) := hM.out.turn
              go_wp2_with fail
              go_roundw
              case rel => exact ⟨v, j + 1, by omega, hv, rfl, by go_num, hD, HN⟩
              case measure => simp [intOf]; omega
        · have hlt' : ¬ (j : Int) < m.n := by omega
          have hje : j = m.n := by omega
          subst hje
          have HG := Lib.hid hM.out.grown
          have hgr := HG.out.grows HC.out
          go_wp2_with fail
          go_roundw
          case rel => exact ⟨u, by omega, hu, rfl, hD, hU.out.then HG.out.under⟩
          case measure => simp [intOf]; omega

set_option maxRecDepth 100000 in
set_option maxHeartbeats 2000000 in
theorem spec_MadeBy {w : World} {B : Nat} {ua : Option Addr} {l : Lay} {m : Mx} {na : Option Addr} {g o k nc : Nat} {z : Nat → Int} {x : Int} (h : LogAt w B ua l m na g o k z) :
    Calls Try.prog 117 #[.agg #[.slice ua m.n l.cap, .slice na k nc], .int .i64 x] w fun e w' => e = .returned (.int .i64 (madeV m k z x)) ∧ Below w.heap.size w w' := by
  cases hl : logicB m k z with
  | false =>
    have hX := BoxN.start w #[.slice ua m.n l.cap, .slice na k nc] 26
    have hL := Lib.hid (h.alloc (.cells #[.slice ua m.n l.cap, .slice na k nc] 26))
    have q0 := hX.cell 0 rfl
    have q1 := hX.cell 1 rfl
    have hkk := h.hk
    have HL := Lib.hid hl
    have HF : Hid ((-1 : Int) = madeV m k z x) := (madeV_no (by rw [hl]; rfl)).symm
    clear hl h
    go_enter Try.func117, Try.ntmps117
    go_wp2_with fail
    go_at_call 28
    refine (spec_LogicOk hL.out).mono ?_
    rintro e w1 ⟨rfl, b1⟩
    rw [HL.out]
    have hX1 := hX.step b1
    go_wp2_with fail
    go_ret
    exact ⟨ret_int HF.out, hX1.below⟩
  | true =>
    obtain ⟨y, o', hO⟩ := (logicB_is hl).ortho
    have hkn : k = m.n := (logicB_is hl).pair.len
    subst hkn
    by_cases hi : inB m.n x = true
    · obtain ⟨i1, i2⟩ : 1 ≤ x ∧ x < (2 ^ m.n : Nat) := of_decide_eq_true hi
      obtain ⟨s, rfl⟩ := Int.eq_ofNat_of_zero_le (show 0 ≤ x by omega)
      have j1 : 1 ≤ s := by omega
      have j2 : s < 2 ^ m.n := by omega
      exact spec_MadeBy_in h hO j1 j2
    · have hX := BoxN.start w #[.slice ua m.n l.cap, .slice na m.n nc] 26
      have hL := Lib.hid (h.alloc (.cells #[.slice ua m.n l.cap, .slice na m.n nc] 26))
      have q0 := hX.cell 0 rfl
      have q1 := hX.cell 1 rfl
      have hn := hO.lat.order.top
      have HL := Lib.hid hl
      have HF : Hid ((-1 : Int) = madeV m m.n z x) := (madeV_no (by rw [hl, Bool.eq_false_iff.2 hi]; rfl)).symm
      have hp := pow_le_12 hn
      obtain ⟨P, hP⟩ : ∃ P, P = 2 ^ m.n := ⟨_, rfl⟩
      have hi' : ¬ (1 ≤ x ∧ x < (P : Int)) := fun h' => hi (decide_eq_true (by rw [← hP]; exact h'))
      rw [← hP] at hp
      have e0 : ((2 : Int) ^ m.n) = (P : Int) := by rw [hP]; push_cast; rfl
      have e1 : wrap64 ((2 : Int) ^ m.n) = (P : Int) := by rw [e0]; exact IntWalk.wrap64_in _ (by omega)
      have e2 : wrap64 ((P : Int) - 1) = (P : Int) - 1 := IntWalk.wrap64_in _ (by omega)
      have hf : (decide ((1 : Int) ≤ x) && decide (x ≤ (P : Int) - 1)) = false := by
        rw [Bool.and_eq_false_iff]; simp; omega
      have H1 : Hid ((decide ((1 : Int) ≤ x) && decide (x ≤ wrap64 (2 ^ m.n - 1))) = false) := by show _ = _; rw [e0, e2]; exact hf
      have H1' : Hid ((decide ((1 : Int) ≤ x) && decide (x ≤ wrap64 (wrap64 (2 ^ m.n) - 1))) = false) := by show _ = _; rw [e1, e2]; exact hf
      clear e0 e1 e2 hf hl h hi hi' hP hp hO
      go_enter Try.func117, Try.ntmps117
      go_wp2_with fail
      go_at_call 28
      refine (spec_LogicOk hL.out).mono ?_
      rintro e w1 ⟨rfl, b1⟩
      rw [HL.out]
      have hX1 := hX.step b1
      clear q0 q1
      go_wp2_with fail
      go_at_call 56
      refine (l1In_any _ _ _ _).mono ?_
      rintro e w2 ⟨rfl, rfl⟩
      first | rw [H1.out] | rw [H1'.out]
      go_wp2_with fail
      go_ret
      exact ⟨ret_int HF.out, hX1.below⟩
end Go.Proofs.Ytojcgmgponnlpaa
namespace Go.Proofs.Ytojcgmgponnlpaa
open Go.RowKit Go.Deep

end Go.Proofs.Ytojcgmgponnlpaa
namespace Go.Proofs.Ytojcgmgponnlpaa
open Go.RowKit Go.Deep

theorem Emb.down {n s : Nat} (hn : n ≤ 12) (hs : s < 2 ^ n) : Emb n (memK s 12) s (memF s 12) (memB s 12) := by
  have h := mem_emb s 12
  exact ⟨fun j hj => bit_lt hs (h.has j hj), h.has, h.bq, fun a ha => h.blt a (by omega), fun a ha => h.qb a (by omega)⟩
end Go.Proofs.Ytojcgmgponnlpaa
namespace Go.Proofs.Ytojcgmgponnlpaa
open Go.RowKit Go.Deep

end Go.Proofs.Ytojcgmgponnlpaa
