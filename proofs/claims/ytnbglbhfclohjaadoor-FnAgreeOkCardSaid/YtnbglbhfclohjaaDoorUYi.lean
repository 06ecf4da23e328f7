import Derived.Test.YtnbglbhfclohjaaDoorUGa
import Derived.Test.YtnbglbhfclohjaaDoorUAa
import Derived.Test.YtnbglbhfclohjaaDoorUMath
import Derived.Test.YtnbglbhfclohjaaDoorUBb
import Derived.Lib.TrailingZeros
import Derived.Laws.Bits64b
namespace Go.Proofs.YtnbglbhfclohjaaDoor
open Go.RowKit Go.Deep

theorem IntsAt.shape {w : World} {base : Nat} {t : Value} {k : Nat} {y : Nat → Int} (h : IntsAt w base t k y) : ∃ a c, t = .slice a k c := by
  rcases h.2 with ⟨rfl, rfl⟩ | ⟨g, cap, cur, rfl, _⟩
  · exact ⟨_, _, rfl⟩
  · exact ⟨_, _, rfl⟩
theorem IntsAt.rowAt {w : World} {base : Nat} {a : Option Addr} {k c : Nat} {y : Nat → Int} (h : IntsAt w base (.slice a k c) k y) : ∃ g, RowAt w w.heap.size a g 0 k y := by
  by_cases hk : 0 < k
  · obtain ⟨g, c', e, _, h3, _⟩ := IntsAt.val h hk
    injection e with e1 e2 e3
    subst e1 e3
    exact ⟨g, ⟨fun i hi => ⟨rfl, h3, by rw [Nat.zero_add]; exact IntsAt.cell h hi⟩⟩⟩
  · exact ⟨0, ⟨fun i hi => absurd hi (by omega)⟩⟩
theorem IntsAt.below {w w' : World} {base : Nat} {t : Value} {k : Nat} {y : Nat → Int} (h : IntsAt w base t k y) (hb : Below w.heap.size w w') : IntsAt w' base t k y := ownsRow_below h hb (Nat.le_refl _)

/-- What l3Inner hands back: so many numbers. -/
def InnerRes (w : World) (p : Nat) (f : Nat → Nat) (e : Ending) (w' : World) : Prop :=
  ∃ a g c, e = .returned (.slice a p c) ∧ RowAt w' w'.heap.size a g 0 p (fun i => (f i : Int)) ∧ Below w.heap.size w w'

end Go.Proofs.YtnbglbhfclohjaaDoor
namespace Go.Proofs.YtnbglbhfclohjaaDoor
open Go.RowKit Go.Deep

theorem meetR {B n : Nat} {sa : Option Addr} {l : Lay} {m : Mx} {a b : Nat} {w : World} {z : Nat → Int} {y : Nat → Nat} {o : Nat} (h : MatAt w B sa l m) (hO : Ortho m z y o) (ha : a < m.n) (hb : b < m.n) :
    Calls Tryd.prog 75 #[.slice sa m.n l.cap, .int .i64 a, .int .i64 b] (w.drewN n) fun e w' => e = .returned (.int .i64 (mN m a b : Nat)) ∧ ∃ k, w' = w.drewN k :=
  quiet_drew ((l1Meet_any (h.drewN n) hO.lat.order ha hb).mono fun _ _ ⟨he, hw⟩ => ⟨by rw [he, hO.mI ha hb], by subst hw; exact Drew.refl _⟩)
theorem meetW {B : Nat} {sa : Option Addr} {l : Lay} {m : Mx} {a b : Nat} {w : World} {z : Nat → Int} {y : Nat → Nat} {o : Nat} (h : MatAt w B sa l m) (hO : Ortho m z y o) (ha : a < m.n) (hb : b < m.n) :
    Calls Tryd.prog 75 #[.slice sa m.n l.cap, .int .i64 a, .int .i64 b] w fun e w' => e = .returned (.int .i64 (mN m a b : Nat)) ∧ w = w' :=
  (l1Meet_any h hO.lat.order ha hb).mono fun _ _ ⟨he, hw⟩ => ⟨by rw [he, hO.mI ha hb], hw⟩

set_option maxRecDepth 100000 in
set_option maxHeartbeats 2000000 in
theorem spec_SubOk_in {w : World} {B : Nat} {ua : Option Addr} {l : Lay} {m : Mx} {na : Option Addr} {g o nc s o' : Nat} {z : Nat → Int} {y : Nat → Nat} (h : LogAt w B ua l m na g o m.n z) (hO : Ortho m z y o') (h1 : 1 ≤ s) (h2 : s < 2 ^ m.n) :
    Calls Tryd.prog 144 #[.agg #[.slice ua m.n l.cap, .slice na m.n nc], .int .i64 s] w fun e w' => e = .returned (.bool (closedB m y s)) ∧ Below w.heap.size w w' := by
  have hX := BoxN.start w #[.slice ua m.n l.cap, .slice na m.n nc] 26
  have hL := Lib.hid (h.alloc (.cells #[.slice ua m.n l.cap, .slice na m.n nc] 26))
  have q0 := hX.cell 0 rfl
  have q1 := hX.cell 1 rfl
  have hn := hO.lat.order.top
  have hpos := hO.lat.order.pos
  have HT : Hid (logicB m m.n z = true) := logicB_true hO.logic
  have HO := Lib.hid hO
  obtain ⟨rfl, _, _⟩ := hL.out.row.row 0 (by omega)
  obtain ⟨rfl, _, _⟩ := hL.out.mat.top 0 (by omega)
  have hp := pow_le_12 hn
  obtain ⟨P, hP⟩ : ∃ P, P = 2 ^ m.n := ⟨_, rfl⟩
  rw [← hP] at h2 hp
  have e0 : ((2 : Int) ^ m.n) = (P : Int) := by rw [hP]; push_cast; rfl
  have e1 : wrap64 ((2 : Int) ^ m.n) = (P : Int) := by rw [e0]; exact IntWalk.wrap64_in _ (by omega)
  have e2 : wrap64 ((P : Int) - 1) = (P : Int) - 1 := IntWalk.wrap64_in _ (by omega)
  have H1 : Hid ((decide ((1 : Int) ≤ (s : Int)) && decide ((s : Int) ≤ wrap64 (2 ^ m.n - 1))) = true) := by show _ = _; rw [e0, e2]; simp; omega
  have H1' : Hid ((decide ((1 : Int) ≤ (s : Int)) && decide ((s : Int) ≤ wrap64 (wrap64 (2 ^ m.n) - 1))) = true) := by show _ = _; rw [e1, e2]; simp; omega
  clear e0 e1 e2
  have HB : Hid (∀ a, s.testBit a = true → a < m.n) := fun a => bit_lt (by rw [← hP]; exact h2)
  clear h hO
  go_enter Tryd.func144, Tryd.ntmps144
  go_wp2_with fail
  go_at_call 26
  refine (spec_LogicOk hL.out).mono ?_
  rintro e w1 ⟨rfl, b1⟩
  rw [HT.out]
  have hX1 := hX.step b1
  have hL1 := Lib.hid (hL.out.step b1)
  have r0 := hX1.cell 0 rfl
  have r1 := hX1.cell 1 rfl
  have B1 := hX1.below
  clear q0 q1 hL hX
  go_wp2_with fail
  go_at_call 71
  refine (l1In_any _ _ _ _).mono ?_
  rintro e w2 ⟨rfl, rfl⟩
  first | rw [H1.out] | rw [H1'.out]
  clear r0 r1
  go_wp2_with fail
  clear hP hp
  go_loopw [6] (fun i wr => ∃ j : Nat, j ≤ m.n ∧ i = .int .i64 j ∧ Below w1.heap.size w1 wr ∧ Hid (∀ a, a < j → closedRB m y s a = true)) (fun i _ => m.n - (intOf i).toNat)
  case atStart => exact ⟨0, Nat.zero_le _, rfl, Below.refl _ _, fun c hc => absurd hc (Nat.not_lt_zero _)⟩
  case round =>
    obtain ⟨j, hj, rfl, hD, hR⟩ := hrel
    have hXr := hX1.step hD
    have hr := Lib.hid (hL1.out.step hD)
    by_cases hlt : j < m.n
    · have hlt' : (j : Int) < m.n := by omega
      cases hbj : s.testBit j with
      | false =>
        have t1 := bit_no hbj
        have HP : Hid (closedRB m y s j = true) := by show _ = _; unfold closedRB; rw [hbj]; rfl
        clear hbj
        go_wp2_with fail
        go_roundw
        case rel => exact ⟨j + 1, by omega, by go_num, hD, fun a ha => by
          by_cases e : a = j
          · subst e; exact HP.out
          · exact hR.out a (by omega)⟩
        case measure => simp [intOf]; omega
      | true =>
        have t1 := bit_yes hbj
        have HJ := Lib.hid hbj
        clear hbj
        go_wp2_with fail
        clear t1
        go_loopw [7] (fun i wi => ∃ b : Nat, b ≤ m.n ∧ i = .int .i64 b ∧ Below w1.heap.size w1 wi ∧ Hid (∀ c, c < b → s.testBit c = true → s.testBit (mN m j c) = true)) (fun i _ => m.n - (intOf i).toNat)
        case atStart => exact ⟨0, Nat.zero_le _, rfl, hD, fun c hc => absurd hc (Nat.not_lt_zero _)⟩
        case round =>
          clear hD hXr hr
          obtain ⟨b, hbn, rfl, hD, hT⟩ := hrel
          have hXr := hX1.step hD
          have hr := Lib.hid (hL1.out.step hD)
          have q0 := hXr.cell 0 rfl
          have q1 := hXr.cell 1 rfl
          by_cases hbt : b < m.n
          · have hbt' : (b : Int) < m.n := by omega
            cases hbb : s.testBit b with
            | false =>
              have t1 := bit_no hbb
              have HB' := Lib.hid hbb
              clear hbb
              go_wp2_with fail
              go_roundw
              case rel => exact ⟨b + 1, by omega, by go_num, hD, fun c hc gc => by
                by_cases e : c = b
                · subst e; rw [HB'.out] at gc; cases gc
                · exact hT.out c (by omega) gc⟩
              case measure => simp [intOf]; omega
            | true =>
              have t1 := bit_yes hbb
              have hm := (HO.out.mG hlt hbt).lt
              have hm' : ((mN m j b : Nat) : Int) ≤ 64 := by omega
              have HB' := Lib.hid hbb
              clear hbb
              go_wp2_with fail
              go_at_call 75
              refine (meetW hr.out.mat HO.out hlt hbt).mono ?_
              rintro e w3 ⟨rfl, rfl⟩
              clear t1
              cases hmb : s.testBit (mN m j b) with
              | false =>
                have t1 := bit_no hmb
                have HF : Hid (false = closedB m y s) := (allB_false hlt (by
                  unfold closedRB
                  rw [HJ.out, allB_false hbt (by rw [HB'.out, hmb]; rfl)]; rfl)).symm
                clear hmb
                go_wp2_with fail
                go_ret
                exact ⟨ret_bool HF.out, hXr.below⟩
              | true =>
                have t1 := bit_yes hmb
                have HM' := Lib.hid hmb
                clear hmb
                go_wp2_with fail
                go_roundw
                case rel => exact ⟨b + 1, by omega, by go_num, hD, fun c hc gc => by
                  by_cases e : c = b
                  · subst e; exact HM'.out
                  · exact hT.out c (by omega) gc⟩
                case measure => simp [intOf]; omega
          · have hbt' : ¬ (b : Int) < m.n := by omega
            obtain ⟨_, _, d1⟩ := hr.out.row.row j hlt
            rw [HO.out.zy j hlt] at d1
            have f2 := HO.out.lt j hlt
            have f3 : ((y j : Nat) : Int) ≤ 64 := by omega
            cases hyb : s.testBit (y j) with
            | false =>
              have t1 := bit_no hyb
              have HF : Hid (false = closedB m y s) := (allB_false hlt (by
                unfold closedRB
                rw [HJ.out, hyb, Bool.and_false]; rfl)).symm
              clear hyb
              go_wp2_with fail
              go_ret
              exact ⟨ret_bool HF.out, hXr.below⟩
            | true =>
              have t1 := bit_yes hyb
              have HP : Hid (closedRB m y s j = true) := by
                show _ = _
                unfold closedRB
                rw [HJ.out, hyb, Bool.and_true]
                simp only [Bool.not_true, Bool.false_or]
                refine allB_true fun c hc => ?_
                cases gc : s.testBit c with
                | false => rfl
                | true => rw [hT.out c (by omega) gc]; rfl
              clear hyb
              go_wp2_with fail
              go_roundw
              case rel => exact ⟨j + 1, by omega, by go_num, hD, fun a ha => by
                by_cases e : a = j
                · subst e; exact HP.out
                · exact hR.out a (by omega)⟩
              case measure => simp [intOf]; omega
    · have hlt' : ¬ (j : Int) < m.n := by omega
      have HT' : Hid (true = closedB m y s) := (allB_true fun a ha => hR.out a (by omega)).symm
      go_wp2_with fail
      go_ret
      exact ⟨ret_bool HT'.out, hXr.below⟩

end Go.Proofs.YtnbglbhfclohjaaDoor
namespace Go.Proofs.YtnbglbhfclohjaaDoor
open Go.RowKit Go.Deep

/-- Some rows of pairs looked at, and some of the next row. -/
structure MidB (m : Mx) (y : Nat → Nat) (t u j c : Nat) : Prop where
  under : Under m y t u
  done : ∀ a b, a < j → b < m.n → t.testBit a = true → t.testBit b = true → u.testBit (mN m a b) = true ∧ u.testBit (y a) = true
  row : ∀ b, b < c → t.testBit j = true → t.testBit b = true → u.testBit (mN m j b) = true ∧ u.testBit (y j) = true
theorem MidB.start {m : Mx} {y : Nat → Nat} {t : Nat} (h : t < 2 ^ m.n) : MidB m y t t 0 0 := ⟨Under.start h, fun _ _ h => absurd h (Nat.not_lt_zero _), fun _ h => absurd h (Nat.not_lt_zero _)⟩
theorem MidB.turn {m : Mx} {y : Nat → Nat} {t u j : Nat} (h : MidB m y t u j m.n) : MidB m y t u (j + 1) 0 :=
  ⟨h.under, fun a b ha hb ga gb => by
    by_cases e : a = j
    · subst e; exact h.row b hb ga gb
    · exact h.done a b (by omega) hb ga gb, fun _ h => absurd h (Nat.not_lt_zero _)⟩
theorem MidB.pass {m : Mx} {y : Nat → Nat} {t u j c : Nat} (h : MidB m y t u j c) (hno : t.testBit j = false ∨ t.testBit c = false) : MidB m y t u j (c + 1) :=
  ⟨h.under, h.done, fun b hb gj gb => by
    by_cases e : b = c
    · subst e
      rcases hno with e | e
      · rw [e] at gj; cases gj
      · rw [e] at gb; cases gb
    · exact h.row b (by omega) gj gb⟩
theorem MidB.add {m : Mx} {z : Nat → Int} {y : Nat → Nat} {o t u j c : Nat} (h : MidB m y t u j c) (hO : Ortho m z y o) (hj : j < m.n) (hc : c < m.n) (gj : t.testBit j = true) (gc : t.testBit c = true) : MidB m y t (u ||| 2 ^ mN m j c ||| 2 ^ y j) j (c + 1) := by
  have hs : Sub u (u ||| 2 ^ mN m j c ||| 2 ^ y j) := (sub_left _ _).trans (sub_left _ _)
  have h1 : (u ||| 2 ^ mN m j c ||| 2 ^ y j).testBit (mN m j c) = true := sub_left _ _ _ (sub_right _ _ _ (has_one _))
  have h2 : (u ||| 2 ^ mN m j c ||| 2 ^ y j).testBit (y j) = true := sub_right _ _ _ (has_one _)
  refine ⟨(h.under.more (hO.mG hj hc).lt fun v hv hs => hv.meet j c hj hc (hs j gj) (hs c gc)).more (hO.lt j hj) fun v hv hs => hv.not j hj (hs j gj), fun a b ha hb ga gb => ?_, fun b hb gj gb => ?_⟩
  · obtain ⟨d1, d2⟩ := h.done a b ha hb ga gb
    exact ⟨hs _ d1, hs _ d2⟩
  · by_cases e : b = c
    · subst e; exact ⟨h1, h2⟩
    · obtain ⟨d1, d2⟩ := h.row b (by omega) gj gb
      exact ⟨hs _ d1, hs _ d2⟩
theorem MidB.grown {m : Mx} {y : Nat → Nat} {t u : Nat} (h : MidB m y t u m.n 0) : Grown m y t u :=
  ⟨h.under, fun a b ha hb ga gb => (h.done a b ha hb ga gb).1, fun a ha ga => (h.done a a ha ha ga ga).2⟩
theorem or_is {u k : Nat} (hu : u < 4096) (hk : k < 12) : bits .or .i64 (u : Int) (wrap64 (2 ^ k)) = ((u ||| 2 ^ k : Nat) : Int) := by
  have := pow_le_12 (Nat.le_of_lt hk)
  have e : ((2 : Int) ^ k) = ((2 ^ k : Nat) : Int) := by push_cast; rfl
  rw [e]
  generalize 2 ^ k = q at this ⊢
  rw [IntWalk.wrap64_in _ (by omega)]
  exact i64_or_nat u q (by omega) (by omega)

set_option maxRecDepth 100000 in
set_option maxHeartbeats 2000000 in
theorem spec_MadeBy_in {w : World} {B : Nat} {ua : Option Addr} {l : Lay} {m : Mx} {na : Option Addr} {g o nc s o' : Nat} {z : Nat → Int} {y : Nat → Nat} (h : LogAt w B ua l m na g o m.n z) (hO : Ortho m z y o') (h1 : 1 ≤ s) (h2 : s < 2 ^ m.n) :
    Calls Tryd.prog 119 #[.agg #[.slice ua m.n l.cap, .slice na m.n nc], .int .i64 s] w fun e w' => e = .returned (.int .i64 (madeV m m.n z (s : Int))) ∧ Below w.heap.size w w' := by
  have hX := BoxN.start w #[.slice ua m.n l.cap, .slice na m.n nc] 26
  have hL := Lib.hid (h.alloc (.cells #[.slice ua m.n l.cap, .slice na m.n nc] 26))
  have q0 := hX.cell 0 rfl
  have q1 := hX.cell 1 rfl
  have hn := hO.lat.order.top
  have hpos := hO.lat.order.pos
  have HT : Hid (logicB m m.n z = true) := logicB_true hO.logic
  have HO := Lib.hid hO
  obtain ⟨rfl, _, _⟩ := hL.out.row.row 0 (by omega)
  obtain ⟨rfl, _, _⟩ := hL.out.mat.top 0 (by omega)
  have hp := pow_le_12 hn
  have H1s := Lib.hid h1
  have H2s := Lib.hid h2
  obtain ⟨P, hP⟩ : ∃ P, P = 2 ^ m.n := ⟨_, rfl⟩
  rw [← hP] at h2 hp
  have e0 : ((2 : Int) ^ m.n) = (P : Int) := by rw [hP]; push_cast; rfl
  have e1 : wrap64 ((2 : Int) ^ m.n) = (P : Int) := by rw [e0]; exact IntWalk.wrap64_in _ (by omega)
  have e2 : wrap64 ((P : Int) - 1) = (P : Int) - 1 := IntWalk.wrap64_in _ (by omega)
  have H1 : Hid ((decide ((1 : Int) ≤ (s : Int)) && decide ((s : Int) ≤ wrap64 (2 ^ m.n - 1))) = true) := by show _ = _; rw [e0, e2]; simp; omega
  have H1' : Hid ((decide ((1 : Int) ≤ (s : Int)) && decide ((s : Int) ≤ wrap64 (wrap64 (2 ^ m.n) - 1))) = true) := by show _ = _; rw [e1, e2]; simp; omega
  clear e0 e1 e2 h hO
  go_enter Tryd.func119, Tryd.ntmps119
  go_wp2_with fail
  go_at_call 26
  refine (spec_LogicOk hL.out).mono ?_
  rintro e w1 ⟨rfl, b1⟩
  rw [HT.out]
  have hX1 := hX.step b1
  have hL1 := Lib.hid (hL.out.step b1)
  have r0 := hX1.cell 0 rfl
  have r1 := hX1.cell 1 rfl
  have B1 := hX1.below
  clear q0 q1 hL hX
  go_wp2_with fail
  go_at_call 71
  refine (l1In_any _ _ _ _).mono ?_
  rintro e w2 ⟨rfl, rfl⟩
  first | rw [H1.out] | rw [H1'.out]
  clear r0 r1
  go_wp2_with fail
  have HP4 : Hid (P = 2 ^ m.n ∧ P ≤ 4096) := ⟨hP, hp⟩
  clear hP hp h1 h2
  go_loopw [6] (fun i wr => ∃ t : Nat, 1 ≤ t ∧ t < 4096 ∧ i = .int .i64 t ∧ Below w1.heap.size w1 wr ∧ Hid (Under m y s t)) (fun i _ => 4096 - (intOf i).toNat)
  case atStart => exact ⟨s, H1s.out, by have := HP4.out; have := H2s.out; omega, rfl, Below.refl _ _, Under.start H2s.out⟩
  case round =>
    obtain ⟨t, ht1, ht2, rfl, hD, hU⟩ := hrel
    have hXr := hX1.step hD
    have hr := Lib.hid (hL1.out.step hD)
    have q0 := hXr.cell 0 rfl
    have q1 := hXr.cell 1 rfl
    go_wp2_with fail
    go_at_call 144
    refine (spec_SubOk_in hr.out HO.out ht1 hU.out.lt).mono ?_
    rintro e w3 ⟨rfl, b3⟩
    have hD3 := hD.trans (b3.mono hD.size)
    have hXr3 := hXr.step b3
    clear q0 q1 hr hXr hD
    cases hc : closedB m y t with
    | true =>
      have HV : Hid ((t : Int) = madeV m m.n z (s : Int)) := (madeV_is HO.out H1s.out H2s.out (hU.out.made (closedB_is hc))).symm
      clear hc
      go_wp2_with fail
      go_ret
      exact ⟨ret_int HV.out, hXr3.below⟩
    | false =>
      have HC := Lib.hid hc
      clear hc hXr3
      go_wp2_with fail
      go_loopw [7, 8] (fun v i wi => ∃ u j : Nat, j ≤ m.n ∧ u < 4096 ∧ v = .int .i64 u ∧ i = .int .i64 j ∧ Below w1.heap.size w1 wi ∧ Hid (MidB m y t u j 0)) (fun _ i _ => m.n - (intOf i).toNat)
      case atStart => exact ⟨t, 0, Nat.zero_le _, ht2, rfl, rfl, hD3, MidB.start hU.out.lt⟩
      case round =>
        clear hD3
        obtain ⟨u, j, hj, hu, rfl, rfl, hD, hM⟩ := hrel
        by_cases hlt : j < m.n
        · have hlt' : (j : Int) < m.n := by omega
          go_wp2_with fail
          go_loopw [7, 9] (fun v i wi => ∃ u b : Nat, b ≤ m.n ∧ u < 4096 ∧ v = .int .i64 u ∧ i = .int .i64 b ∧ Below w1.heap.size w1 wi ∧ Hid (MidB m y t u j b)) (fun _ i _ => m.n - (intOf i).toNat)
          case atStart => exact ⟨u, 0, Nat.zero_le _, hu, rfl, rfl, hD, hM⟩
          case round =>
            clear hD hM hu
            obtain ⟨v, b, hb, hv, rfl, rfl, hD, hM⟩ := hrel
            by_cases hbt : b < m.n
            · have hbt' : (b : Int) < m.n := by omega
              cases hbj : t.testBit j with
              | false =>
                have t1 := bit_no hbj
                have HN : Hid (MidB m y t v j (b + 1)) := hM.out.pass (.inl hbj)
                clear hbj
                go_wp2_with fail
                go_roundw
                case rel => exact ⟨v, b + 1, by omega, hv, rfl, by go_num, hD, HN⟩
                case measure => simp [intOf]; omega
              | true =>
                cases hbb : t.testBit b with
                | false =>
                  have t1 := bit_yes hbj
                  have t2 := bit_no hbb
                  have HN : Hid (MidB m y t v j (b + 1)) := hM.out.pass (.inr hbb)
                  clear hbj hbb
                  go_wp2_with fail
                  go_roundw
                  case rel => exact ⟨v, b + 1, by omega, hv, rfl, by go_num, hD, HN⟩
                  case measure => simp [intOf]; omega
                | true =>
                  have t1 := bit_yes hbj
                  have t2 := bit_yes hbb
                  have HN : Hid (MidB m y t (v ||| 2 ^ mN m j b ||| 2 ^ y j) j (b + 1)) := hM.out.add HO.out hlt hbt hbj hbb
                  have hXr := hX1.step hD
                  have hr := hL1.out.step hD
                  have q0 := hXr.cell 0 rfl
                  have q1 := hXr.cell 1 rfl
                  obtain ⟨_, _, d1⟩ := hr.row.row j hlt
                  rw [HO.out.zy j hlt] at d1
                  have hmat := Lib.hid hr.mat
                  have hm := (HO.out.mG hlt hbt).lt
                  have f2 := HO.out.lt j hlt
                  have hm' : ((mN m j b : Nat) : Int) ≤ 64 := by omega
                  have f2' : ((y j : Nat) : Int) ≤ 64 := by omega
                  have hv2 : v ||| 2 ^ mN m j b < 4096 := or_lt (n := 12) hv (one_lt (by omega))
                  have hv3 : v ||| 2 ^ mN m j b ||| 2 ^ y j < 4096 := or_lt (n := 12) hv2 (one_lt (by omega))
                  have o1 := or_is (k := mN m j b) hv (by omega)
                  have o2 := or_is (k := y j) hv2 (by omega)
                  clear hbj hbb hr
                  go_wp2_with fail
                  clear t1 t2
                  go_quiet ((go_at_call 75; exact meetR hmat.out HO.out hlt hbt))
                  go_wp2_with fail
                  go_roundw
                  case rel => exact ⟨_, b + 1, by omega, hv3, rfl, by go_num, Below.drewN' hD _, HN⟩
                  case measure => simp [intOf]; omega
            · have hbt' : ¬ (b : Int) < m.n := by omega
              have hbe : b = m.n := by omega
              subst hbe
              have HN : Hid (MidB m y t v (j + 1) 0) := hM.out.turn
              go_wp2_with fail
              go_roundw
              case rel => exact ⟨v, j + 1, by omega, hv, rfl, by go_num, hD, HN⟩
              case measure => simp [intOf]; omega
        · have hlt' : ¬ (j : Int) < m.n := by omega
          have hje : j = m.n := by omega
          subst hje
          have HG := Lib.hid hM.out.grown
          have hgr := HG.out.grows HC.out
          go_wp2_with fail
          go_roundw
          case rel => exact ⟨u, by omega, hu, rfl, hD, hU.out.then HG.out.under⟩
          case measure => simp [intOf]; omega

set_option maxRecDepth 100000 in
set_option maxHeartbeats 2000000 in
theorem spec_MadeBy {w : World} {B : Nat} {ua : Option Addr} {l : Lay} {m : Mx} {na : Option Addr} {g o k nc : Nat} {z : Nat → Int} {x : Int} (h : LogAt w B ua l m na g o k z) :
    Calls Tryd.prog 119 #[.agg #[.slice ua m.n l.cap, .slice na k nc], .int .i64 x] w fun e w' => e = .returned (.int .i64 (madeV m k z x)) ∧ Below w.heap.size w w' := by
  cases hl : logicB m k z with
  | false =>
    have hX := BoxN.start w #[.slice ua m.n l.cap, .slice na k nc] 26
    have hL := Lib.hid (h.alloc (.cells #[.slice ua m.n l.cap, .slice na k nc] 26))
    have q0 := hX.cell 0 rfl
    have q1 := hX.cell 1 rfl
    have hkk := h.hk
    have HL := Lib.hid hl
    have HF : Hid ((-1 : Int) = madeV m k z x) := (madeV_no (by rw [hl]; rfl)).symm
    clear hl h
    go_enter Tryd.func119, Tryd.ntmps119
    go_wp2_with fail
    go_at_call 26
    refine (spec_LogicOk hL.out).mono ?_
    rintro e w1 ⟨rfl, b1⟩
    rw [HL.out]
    have hX1 := hX.step b1
    go_wp2_with fail
    go_ret
    exact ⟨ret_int HF.out, hX1.below⟩
  | true =>
    obtain ⟨y, o', hO⟩ := (logicB_is hl).ortho
    have hkn : k = m.n := (logicB_is hl).pair.len
    subst hkn
    by_cases hi : inB m.n x = true
    · obtain ⟨i1, i2⟩ : 1 ≤ x ∧ x < (2 ^ m.n : Nat) := of_decide_eq_true hi
      obtain ⟨s, rfl⟩ := Int.eq_ofNat_of_zero_le (show 0 ≤ x by omega)
      have j1 : 1 ≤ s := by omega
      have j2 : s < 2 ^ m.n := by omega
      exact spec_MadeBy_in h hO j1 j2
    · have hX := BoxN.start w #[.slice ua m.n l.cap, .slice na m.n nc] 26
      have hL := Lib.hid (h.alloc (.cells #[.slice ua m.n l.cap, .slice na m.n nc] 26))
      have q0 := hX.cell 0 rfl
      have q1 := hX.cell 1 rfl
      have hn := hO.lat.order.top
      have HL := Lib.hid hl
      have HF : Hid ((-1 : Int) = madeV m m.n z x) := (madeV_no (by rw [hl, Bool.eq_false_iff.2 hi]; rfl)).symm
      have hp := pow_le_12 hn
      obtain ⟨P, hP⟩ : ∃ P, P = 2 ^ m.n := ⟨_, rfl⟩
      have hi' : ¬ (1 ≤ x ∧ x < (P : Int)) := fun h' => hi (decide_eq_true (by rw [← hP]; exact h'))
      rw [← hP] at hp
      have e0 : ((2 : Int) ^ m.n) = (P : Int) := by rw [hP]; push_cast; rfl
      have e1 : wrap64 ((2 : Int) ^ m.n) = (P : Int) := by rw [e0]; exact IntWalk.wrap64_in _ (by omega)
      have e2 : wrap64 ((P : Int) - 1) = (P : Int) - 1 := IntWalk.wrap64_in _ (by omega)
      have hf : (decide ((1 : Int) ≤ x) && decide (x ≤ (P : Int) - 1)) = false := by
        rw [Bool.and_eq_false_iff]; simp; omega
      have H1 : Hid ((decide ((1 : Int) ≤ x) && decide (x ≤ wrap64 (2 ^ m.n - 1))) = false) := by show _ = _; rw [e0, e2]; exact hf
      have H1' : Hid ((decide ((1 : Int) ≤ x) && decide (x ≤ wrap64 (wrap64 (2 ^ m.n) - 1))) = false) := by show _ = _; rw [e1, e2]; exact hf
      clear e0 e1 e2 hf hl h hi hi' hP hp hO
      go_enter Tryd.func119, Tryd.ntmps119
      go_wp2_with fail
      go_at_call 26
      refine (spec_LogicOk hL.out).mono ?_
      rintro e w1 ⟨rfl, b1⟩
      rw [HL.out]
      have hX1 := hX.step b1
      clear q0 q1
      go_wp2_with fail
      go_at_call 71
      refine (l1In_any _ _ _ _).mono ?_
      rintro e w2 ⟨rfl, rfl⟩
      first | rw [H1.out] | rw [H1'.out]
      go_wp2_with fail
      go_ret
      exact ⟨ret_int HF.out, hX1.below⟩
end Go.Proofs.YtnbglbhfclohjaaDoor
namespace Go.Proofs.YtnbglbhfclohjaaDoor
open Go.RowKit Go.Deep

/-- The library's table, where it lies. -/
def TabOk (w : World) : Prop := ∀ j, j < 64 → w.cell? ⟨1, j, none⟩ = some (.int .u8 (Lib.deBruijn64tab.getD j 0 : Nat))
theorem TabOk.step {w w' : World} {B : Nat} (h : TabOk w) (hb : Below B w w') (hB : 1 < B) : TabOk w' := fun j hj => by
  rw [hb.cell (p := ⟨1, j, none⟩) hB]; exact h j hj
theorem TabOk.size {w : World} (h : TabOk w) : 1 < w.heap.size := World.block_lt_of_cell? _ _ (h 0 (by omega))
theorem tz_key (r a : Nat) (hr : r < 4096) (h0 : r ≠ 0) (hlow : r &&& (18446744073709551616 - r) = a) :
    IntKind.u64.wrap (bits BinOp.and IntKind.u64 (r : Int) (IntKind.u64.wrap (-(r : Int))) * 285870213051353865) / 288230376151711744 = ((a * 285870213051353865 % 18446744073709551616 / 288230376151711744 : Nat) : Int) := by
  have e1 : IntKind.u64.wrap (-(r : Int)) = ((18446744073709551616 - r : Nat) : Int) := by rw [IntKind.wrap_u64]; omega
  rw [e1, bits_and_u64_nat r _ (by omega) (by omega), hlow, IntKind.wrap_u64]
  omega
set_option maxHeartbeats 1000000 in
theorem tz64_at {r k idx : Nat} {w : World} (hz : ((r : Int) == 0) = false) (key : Hid (IntKind.u64.wrap (bits BinOp.and IntKind.u64 (r : Int) (IntKind.u64.wrap (-(r : Int))) * 285870213051353865) / 288230376151711744 = (idx : Int)))
    (hi : idx < 64) (hk : k < 64) (hcell : w.cell? ⟨1, idx, none⟩ = some (.int .u8 k)) :
    Calls Tryd.prog 149 #[.int .u64 r] w fun e w' => e = .returned (.int .i64 k) ∧ w = w' := by
  go_enter Tryd.func149, Tryd.ntmps149
  go_wp2_with (simp only [key.out])
  go_ret
  exact ⟨rfl, rfl⟩
theorem tz64_small {r : Nat} (hr : r < 4096) (h0 : r ≠ 0) {w : World} (hT : TabOk w) :
    Calls Tryd.prog 149 #[.int .u64 r] w fun e w' => e = .returned (.int .i64 (Lib.ctz 64 r : Nat)) ∧ w = w' := by
  obtain ⟨hlow, hk⟩ := Lib.lowest_bit 64 r h0 (by omega)
  obtain ⟨hi, htab⟩ := Lib.deBruijn64_at _ hk
  have hcell := hT _ hi
  rw [htab] at hcell
  exact tz64_at (by simp; omega) (tz_key r _ hr h0 hlow) hi hk hcell
set_option maxHeartbeats 1000000 in
theorem tz_small {r : Nat} (hr : r < 4096) (h0 : r ≠ 0) {w : World} (hT : TabOk w) :
    Calls Tryd.prog 126 #[.int .u64 r] w fun e w' => e = .returned (.int .i64 (Lib.ctz 64 r : Nat)) ∧ w = w' := by
  have hw : IntKind.u64.wrap (r : Int) = (r : Int) := by rw [IntKind.wrap_u64]; omega
  have HT := Lib.hid hT
  clear hT
  go_enter Tryd.func126, Tryd.ntmps126
  go_wp2_with fail
  go_at_call 149
  refine (tz64_small hr h0 HT.out).mono ?_
  rintro e w1 ⟨rfl, rfl⟩
  go_wp2_with fail
  go_ret
  exact ⟨rfl, rfl⟩

/-- The lowest bit struck off. -/
theorem mems_low {r r' k : Nat} (h1 : r.testBit k = true) (h2 : ∀ i, i < k → r.testBit i = false) (h3 : ∀ i, r'.testBit i = (r.testBit i && !decide (i = k))) (n : Nat) :
    (n ≤ k → memsTo r n = [] ∧ memsTo r' n = []) ∧ (k < n → memsTo r n = k :: memsTo r' n) := by
  induction n with
  | zero => exact ⟨fun _ => ⟨rfl, rfl⟩, fun h => absurd h (Nat.not_lt_zero _)⟩
  | succ n ih =>
    have e3 := h3 n
    refine ⟨fun h => ?_, fun h => ?_⟩
    · obtain ⟨i1, i2⟩ := ih.1 (by omega)
      have e := h2 n (by omega)
      rw [e, Bool.false_and] at e3
      rw [memsTo_no e, memsTo_no e3]
      exact ⟨i1, i2⟩
    · by_cases hn : n = k
      · subst hn
        obtain ⟨i1, i2⟩ := ih.1 (Nat.le_refl _)
        have e4 : r'.testBit n = false := by rw [e3]; simp
        rw [memsTo_yes h1, memsTo_no e4, i1, i2]
        rfl
      · have i1 := ih.2 (by omega)
        have e5 : decide (n = k) = false := decide_eq_false hn
        rw [e5, Bool.not_false, Bool.and_true] at e3
        cases e : r.testBit n with
        | false =>
          rw [e] at e3
          rw [memsTo_no e, memsTo_no e3, i1]
        | true =>
          rw [e] at e3
          rw [memsTo_yes e, memsTo_yes e3, i1]
          rfl
theorem strike_low {r : Nat} (h0 : r ≠ 0) (hr : r < 18446744073709551616) : r.testBit (Lib.ctz 64 r) = true ∧ (∀ i, i < Lib.ctz 64 r → r.testBit i = false) ∧ ∀ i, (r &&& (r - 1)).testBit i = (r.testBit i && !decide (i = Lib.ctz 64 r)) := by
  obtain ⟨q, hq, _⟩ := Lib.ctzFrom_spec 64 r (by omega) hr
  have hc : Lib.ctz 64 r = Lib.ctzFrom 64 r := by unfold Lib.ctz; rw [if_neg h0]
  rw [hc]
  generalize Lib.ctzFrom 64 r = k at hq
  have hp : 0 < 2 ^ k := Nat.two_pow_pos k
  have b1 : ∀ i, r.testBit i = if i < k then false else (2 * q + 1).testBit (i - k) := fun i => by
    have := Nat.testBit_two_pow_mul_add (2 * q + 1) hp i
    rw [Nat.add_zero, ← hq] at this
    rw [this]; simp
  have e2 : r - 1 = 2 ^ k * (2 * q) + (2 ^ k - 1) := by
    rw [hq, Nat.mul_add, Nat.mul_one]; omega
  have b2 : ∀ i, (r - 1).testBit i = if i < k then (2 ^ k - 1).testBit i else (2 * q).testBit (i - k) := fun i => by
    rw [e2]; exact Nat.testBit_two_pow_mul_add (2 * q) (by omega) i
  refine ⟨by rw [b1, if_neg (Nat.lt_irrefl k), Nat.sub_self]; simp, fun i hi => by rw [b1, if_pos hi], fun i => ?_⟩
  rw [Nat.testBit_and, b1, b2]
  by_cases hi : i < k
  · rw [if_pos hi]; simp
  · rw [if_neg hi, if_neg hi]
    by_cases e : i = k
    · subst e; simp
    · obtain ⟨d, hd⟩ : ∃ d, i - k = d + 1 := ⟨i - k - 1, by omega⟩
      rw [hd, Nat.testBit_succ, Nat.testBit_succ, decide_eq_false e]
      have d1 : (2 * q + 1) / 2 = q := by omega
      have d2 : 2 * q / 2 = q := by omega
      rw [d1, d2]; simp
theorem mems_step {r : Nat} (hr : r < 4096) (h0 : r ≠ 0) : memsTo r 12 = Lib.ctz 64 r :: memsTo (r &&& (r - 1)) 12 ∧ r &&& (r - 1) < r := by
  obtain ⟨h1, h2, h3⟩ := strike_low h0 (by omega)
  refine ⟨(mems_low h1 h2 h3 12).2 (bit_lt (n := 12) (by omega) h1), ?_⟩
  have hs : Sub (r &&& (r - 1)) r := fun i g => by
    rw [h3 i, Bool.and_eq_true] at g
    exact g.1
  have hle := hs.le
  have hne : r &&& (r - 1) ≠ r := fun e => by
    have := h3 (Lib.ctz 64 r)
    rw [e, h1] at this
    simp at this
  omega
theorem memsTo_zero (n : Nat) : memsTo 0 n = [] := by
  induction n with
  | zero => rfl
  | succ n ih => rw [memsTo_no (by simp), ih]
/-- What is still to be listed. -/
def Rest (s j r : Nat) : Prop := r < 4096 ∧ ∃ pre, pre.length = j ∧ memsTo s 12 = pre ++ memsTo r 12
theorem Rest.next {s j r : Nat} (h : Rest s j r) (h0 : r ≠ 0) : Rest s (j + 1) (r &&& (r - 1)) ∧ memF s 12 j = Lib.ctz 64 r ∧ r &&& (r - 1) < r := by
  obtain ⟨hr, pre, hp, he⟩ := h
  obtain ⟨h1, h2⟩ := mems_step hr h0
  refine ⟨⟨by omega, pre ++ [Lib.ctz 64 r], by simp [hp], by rw [he, h1]; simp⟩, ?_, h2⟩
  unfold memF
  rw [he, h1, List.getElem?_append_right (by omega), hp, Nat.sub_self]
  rfl
theorem Rest.all {s j : Nat} (h : Rest s j 0) : j = memK s 12 := by
  obtain ⟨_, pre, hp, he⟩ := h
  unfold memK
  rw [he, memsTo_zero, List.append_nil, hp]
theorem Rest.le {s j r : Nat} (h : Rest s j r) : j ≤ 12 := by
  obtain ⟨_, pre, hp, he⟩ := h
  have := memsTo_len s 12
  rw [he, List.length_append] at this
  omega

/-- The members listed in memory of the call's own. -/
def MemRes (w : World) (p : Nat) (f : Nat → Nat) (e : Ending) (w' : World) : Prop :=
  ∃ a g c, e = .returned (.slice a p c) ∧ RowAt w' w'.heap.size a g 0 p (fun i => (f i : Int)) ∧ Below w.heap.size w w' ∧ ∀ q : Addr, a = some q → w.heap.size ≤ q.block

set_option maxRecDepth 100000 in
set_option maxHeartbeats 2000000 in
theorem members_new {s : Nat} (hs : s < 4096) {w : World} (hT : TabOk w) :
    Calls Tryd.prog 82 #[.int .i64 s] w (MemRes w (memK s 12) (memF s 12)) := by
  obtain ⟨i0, hi0, hz0, hz1, hz2⟩ := info_parts infoInt
  have HI := Lib.hid hi0
  have HZ0 := Lib.hid hz0
  have HZ1 := Lib.hid hz1
  have HZ2 := Lib.hid hz2
  have HT := Lib.hid hT
  have HG := hT.size
  have cv : IntKind.u64.wrap (s : Int) = (s : Int) := by rw [IntKind.wrap_u64]; omega
  clear hi0 hz0 hz1 hz2 hT
  go_enter Tryd.func82, Tryd.ntmps82
  go_wp2_with fail
  go_loopw [3, 4] (fun t i wr => ∃ j r : Nat, i = .int .u64 r ∧ Hid (Rest s j r) ∧ IntsAt wr w.heap.size t j (fun i => (memF s 12 i : Int)) ∧ Below w.heap.size w wr) (fun _ i _ => (intOf i).toNat)
  case atStart => exact ⟨0, s, rfl, ⟨hs, [], rfl, rfl⟩, IntsAt.nil _ _ _, Below.refl _ _⟩
  case round =>
    obtain ⟨j, r, rfl, hR, hown, hW⟩ := hrel
    have hr := hR.out.1
    have hj := hR.out.le
    by_cases h0 : r = 0
    · subst h0
      have HJ := Lib.hid hR.out.all
      have hown' : IntsAt wr w.heap.size u3 (memK s 12) (fun i => (memF s 12 i : Int)) := by rw [← HJ.out]; exact hown
      obtain ⟨a, c, rfl⟩ := hown'.shape
      have HRow := Lib.hid hown'.rowAt
      have hfr : ∀ q : Addr, a = some q → w.heap.size ≤ q.block := fun q hq => by
        subst hq
        rcases hown'.2 with ⟨h1, _⟩ | ⟨g, cap, cur, h1, hb, _⟩
        · cases h1
        · cases h1; exact hb
      have HFr := Lib.hid hfr
      clear hown hown' hfr
      go_wp2_with fail
      go_ret
      obtain ⟨g', hg'⟩ := HRow.out
      exact ⟨a, g', c, rfl, hg', hW, HFr.out⟩
    · have hz : ((r : Int) != 0) = true := by simp; omega
      have hT := Lib.hid (HT.out.step hW HG)
      obtain ⟨n1, n2, n3⟩ := hR.out.next h0
      have HN := Lib.hid n1
      have HV := Lib.hid n2
      have HL := Lib.hid n3
      have hsub : IntKind.u64.wrap ((r : Int) - 1) = ((r - 1 : Nat) : Int) := by rw [IntKind.wrap_u64]; omega
      have hand : bits .and .u64 (r : Int) ((r - 1 : Nat) : Int) = ((r &&& (r - 1) : Nat) : Int) := bits_and_u64_nat r (r - 1) (by omega) (by omega)
      have HS := Lib.hid hsub
      have HA := Lib.hid hand
      clear n1 n2 n3 hsub hand
      go_wp2_with fail
      go_at_call 126
      refine (tz_small hr h0 hT.out).mono ?_
      rintro e w2 ⟨rfl, rfl⟩
      rw [← HV.out]
      go_wp2_with (at_builtin; refine wpList_append_own _ rfl _ _ 24 rfl w.heap.size 3 i0 (.int .i64 0) 1 8 Tryd.underlying24 HI.out HZ0.out HZ1.out HZ2.out rfl (by decide) _ _ _ rfl (World.ownsRow.alloc hown _) ⟨wr.heap.size, 0, none⟩ 1 1 [.int .i64 (memF s 12 j : Int)] rfl rfl (cell_one_new _ _ _) ?c2 ?c3 ?c4 ?c5 ?_)
      case c2 => simp [Value.oneCell']
      case c3 => unfold maxLen; omega
      case c4 => have := hW.size; omega
      case c5 => have := hW.size; first | omega | (simp; omega)
      intro v' w4 hown4 hgrow _
      have HO4 : Hid (IntsAt w4 w.heap.size v' (j + 1) (fun i => (memF s 12 i : Int))) := by
        show IntsAt _ _ _ _ _
        refine IntsAt.told ?_
        exact hown4
      have hA : Below w.heap.size wr (wr.alloc (.cells #[.int .i64 (memF s 12 j : Int)] 3)) := (Below.refl _ _).alloc (by have := hW.size; omega) _
      have hG := hA.grown hgrow (by have := hW.size; first | omega | (simp; omega)) (ownsRow_block hown)
      have hW4 := Lib.hid (hW.trans (hG.mono (by omega)))
      clear hown4 hgrow hown hA hG
      have hsub := HS.out
      have hand := HA.out
      go_wp2_with fail
      go_roundw
      case rel => exact ⟨j + 1, r &&& (r - 1), rfl, HN.out, HO4.out, hW4.out⟩
      case measure => simp only [intOf, Int.toNat_natCast]; exact HL.out
theorem members_any {s : Nat} (hs : s < 4096) {w : World} (hT : TabOk w) :
    Calls Tryd.prog 82 #[.int .i64 s] w (InnerRes w (memK s 12) (memF s 12)) :=
  (members_new hs hT).mono fun _ _ ⟨a, g, c, h1, h2, h3, _⟩ => ⟨a, g, c, h1, h2, h3⟩
end Go.Proofs.YtnbglbhfclohjaaDoor
namespace Go.Proofs.YtnbglbhfclohjaaDoor
open Go.RowKit Go.Deep

theorem quot_zero {s n : Nat} (h : s < 2 ^ n) : (s : Int) / 2 ^ n = 0 := by
  have e : ((2 : Int) ^ n) = ((2 ^ n : Nat) : Int) := by push_cast; rfl
  rw [e]
  generalize 2 ^ n = q at h
  exact Int.ediv_eq_zero_of_lt (by omega) (by omega)
theorem quot_pos {s n : Nat} (h : ¬ s < 2 ^ n) : (s : Int) / 2 ^ n ≠ 0 := by
  have e : ((2 : Int) ^ n) = ((2 ^ n : Nat) : Int) := by push_cast; rfl
  have hp : 0 < 2 ^ n := Nat.two_pow_pos n
  rw [e]
  generalize 2 ^ n = q at h hp
  have e2 : (s : Int) / (q : Int) = ((s / q : Nat) : Int) := by push_cast; rfl
  rw [e2]
  have : 1 ≤ s / q := (Nat.le_div_iff_mul_le hp).2 (by omega)
  omega
set_option maxHeartbeats 1000000 in
theorem setOk_any {w : World} {ob k nc g o : Nat} {sa : Option Addr} {l : Lay} {m : Mx} {x : Int} (hk : k ≤ 12) :
    Calls Tryd.prog 68 #[algV sa l m (some ⟨g, o, none⟩) k nc ob, .int .i64 x] w fun e w' => e = .returned (.bool (inB k x)) ∧ Below w.heap.size w w' := by
  have hX := BoxN.start w #[.slice sa m.n l.cap, .slice (some ⟨g, o, none⟩) k nc, .slice (some ⟨ob, 0, none⟩) 2 2] 58
  have q0 := hX.cell 0 rfl
  have q1 := hX.cell 1 rfl
  have hk' : (k : Int) ≤ 64 := by omega
  unfold algV
  by_cases h0 : 0 < x
  · obtain ⟨s, rfl⟩ := Int.eq_ofNat_of_zero_le (show 0 ≤ x by omega)
    by_cases hs : s < 2 ^ k
    · have e1 := quot_zero hs
      have HF : Hid (true = inB k (s : Int)) := (decide_eq_true ⟨by omega, by omega⟩ : inB k (s : Int) = true).symm
      go_enter Tryd.func68, Tryd.ntmps68
      go_wp2_with fail
      go_ret
      exact ⟨ret_bool HF.out, hX.below⟩
    · have e1 : ((s : Int) / 2 ^ k == 0) = false := by
        rw [beq_eq_false_iff_ne]; exact quot_pos hs
      have HF : Hid (false = inB k (s : Int)) := (decide_eq_false (fun h => hs (by omega)) : inB k (s : Int) = false).symm
      go_enter Tryd.func68, Tryd.ntmps68
      go_wp2_with fail
      go_ret
      exact ⟨ret_bool HF.out, hX.below⟩
  · have HF : Hid (false = inB k x) := (decide_eq_false (fun h => by omega) : inB k x = false).symm
    go_enter Tryd.func68, Tryd.ntmps68
    go_wp2_with fail
    go_ret
    exact ⟨ret_bool HF.out, hX.below⟩

/-- Rows of pairs of listed answers looked at. -/
structure GA (m : Mx) (y : Nat → Nat) (s K : Nat) (q : Nat → Nat) (u j : Nat) : Prop where
  under : Under m y s u
  done : ∀ i, i < j → u.testBit (y (q i)) = true ∧ ∀ c, c < K → u.testBit (mN m (q i) (q c)) = true
structure GB (m : Mx) (y : Nat → Nat) (s K : Nat) (q : Nat → Nat) (u j c : Nat) : Prop where
  all : GA m y s K q u j
  opp : u.testBit (y (q j)) = true
  row : ∀ i, i < c → u.testBit (mN m (q j) (q i)) = true
theorem GA.more {m : Mx} {y : Nat → Nat} {s K : Nat} {q : Nat → Nat} {u u' j : Nat} (h : GA m y s K q u j) (hu : Under m y s u') (hs : Sub u u') : GA m y s K q u' j :=
  ⟨hu, fun i hi => ⟨hs _ (h.done i hi).1, fun c hc => hs _ ((h.done i hi).2 c hc)⟩⟩
theorem GA.first {m : Mx} {z : Nat → Int} {y : Nat → Nat} {o s K : Nat} {q b : Nat → Nat} {u j : Nat} (h : GA m y s K q u j) (hO : Ortho m z y o) (hp : Emb m.n K s q b) (hj : j < K) : GB m y s K q (u ||| 2 ^ y (q j)) j 0 := by
  have hx := hO.lt _ (hp.lt j hj)
  refine ⟨h.more (h.under.more hx fun v hv hs => hv.not _ (hp.lt j hj) (hs _ (hp.has j hj))) (sub_left _ _), sub_right _ _ _ (has_one _), fun _ hi => absurd hi (Nat.not_lt_zero _)⟩
theorem GB.add {m : Mx} {z : Nat → Int} {y : Nat → Nat} {o s K : Nat} {q b : Nat → Nat} {u j c : Nat} (h : GB m y s K q u j c) (hO : Ortho m z y o) (hp : Emb m.n K s q b) (hj : j < K) (hc : c < K) : GB m y s K q (u ||| (2 ^ mN m (q j) (q c) ||| 2 ^ jN m (q j) (q c))) j (c + 1) := by
  have h1 := hp.lt j hj
  have h2 := hp.lt c hc
  have hm := (hO.mG h1 h2).lt
  have hjn := (hO.jG h1 h2).lt
  have hs := sub_left u (2 ^ mN m (q j) (q c) ||| 2 ^ jN m (q j) (q c))
  have hU : Under m y s (u ||| (2 ^ mN m (q j) (q c) ||| 2 ^ jN m (q j) (q c))) :=
    ⟨h.all.under.has.trans hs, or_lt h.all.under.lt (or_lt (one_lt hm) (one_lt hjn)), fun v hv hsv => sub_or (h.all.under.least v hv hsv)
      (sub_or (sub_one (hv.meet _ _ h1 h2 (hsv _ (hp.has j hj)) (hsv _ (hp.has c hc)))) (sub_one (hv.join hO h1 h2 (hsv _ (hp.has j hj)) (hsv _ (hp.has c hc)))))⟩
  refine ⟨h.all.more hU hs, hs _ h.opp, fun i hi => ?_⟩
  by_cases e : i = c
  · subst e
    exact sub_right _ _ _ (sub_left _ _ _ (has_one _))
  · exact hs _ (h.row i (by omega))
theorem GB.turn {m : Mx} {y : Nat → Nat} {s K : Nat} {q : Nat → Nat} {u j : Nat} (h : GB m y s K q u j K) : GA m y s K q u (j + 1) :=
  ⟨h.all.under, fun i hi => by
    by_cases e : i = j
    · subst e; exact ⟨h.opp, h.row⟩
    · exact h.all.done i (by omega)⟩
theorem GA.grown {m : Mx} {y : Nat → Nat} {s K : Nat} {q b : Nat → Nat} {u : Nat} (h : GA m y s K q u K) (hp : Emb m.n K s q b) : Grown m y s u := by
  refine ⟨h.under, fun a c ha hc ga gc => ?_, fun a ha ga => ?_⟩
  · have := (h.done (b a) (hp.blt a ha ga)).2 (b c) (hp.blt c hc gc)
    rwa [hp.qb a ha ga, hp.qb c hc gc] at this
  · have := (h.done (b a) (hp.blt a ha ga)).1
    rwa [hp.qb a ha ga] at this
end Go.Proofs.YtnbglbhfclohjaaDoor
namespace Go.Proofs.YtnbglbhfclohjaaDoor
open Go.RowKit Go.Deep

theorem Alg.apart {w w' : World} {ob tb p : Nat} {tG : Nat → Nat} {sa : Option Addr} {l : Lay} {m : Mx} {u v : Value} (h : Alg w ob tb tG sa l m) (hp : ThreeAt w p (.slice none 0 0) u v) (hn : 1 ≤ m.n) (ho : OnlyIn (fun q => q = p) w w') : Alg w' ob tb tG sa l m := by
  have h0 : ob ≠ p := fun e => by
    have := h.op0
    rw [e, hp.c0] at this
    cases this
  have h1 : tb ≠ p := fun e => by
    have := h.own.top.cell (show 0 < (tr m).n from hn)
    rw [e, hp.c0] at this
    cases this
  have h2 : ∀ r, r < (tr m).n → tG r ≠ p := fun r hr e => by
    have := (h.own.row r hr).cell (show 0 < (tr m).L r from hn)
    rw [e, hp.c0] at this
    cases this
  exact ⟨h.own.only ho h1 h2, by have := h.lt; have := ho.size; omega, (World.cell?_of_block (w := w) (ho.block ob h0)).trans h.op0, (World.cell?_of_block (w := w) (ho.block ob h0)).trans h.op1⟩

end Go.Proofs.YtnbglbhfclohjaaDoor
