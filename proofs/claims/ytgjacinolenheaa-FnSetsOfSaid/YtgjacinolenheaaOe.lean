/- The walk of the reference's LogicOk. -/
import Derived.Test.YtgjacinolenheaaOd
import Derived.Test.YtgjacinolenheaaWs
import Derived.Test.YtgjacinolenheaaWp
import Derived.BigQuiet
namespace Go.Proofs.Ytgjacinolenheaa
open Go.RowKit Go.Deep

/-- What the reference has told of one answer. -/
structure OneOk (m : Mx) (y : Nat → Nat) (c : Nat) : Prop where
  back : y (y c) = c
  kept : keptPB m y c = true
  turn : ∀ b, b < m.n → turnPB m y c b = true
theorem logic_of_ones {m : Mx} {z : Nat → Int} {y : Nat → Nat} (hl : IsLattice m) (hy : ∀ a, a < m.n → z a = (y a : Int) ∧ y a < m.n) (h : ∀ c, c < m.n → OneOk m y c) : logicB m m.n z = true := by
  have hp : IsPair m.n m.n z := ⟨rfl, fun a ha => by rw [(hy a ha).1]; omega, fun a ha => by have := hy a ha; omega, fun a ha => by
    obtain ⟨h1, h2⟩ := hy a ha
    rw [h1]
    show z (y a) = (a : Int)
    rw [(hy (y a) h2).1, (h a ha).back]⟩
  rw [logic_is hl hp fun a ha => (hy a ha).1, Bool.and_eq_true]
  exact ⟨allB_true fun a ha => allB_true fun b hb => (h a ha).turn b hb, allB_true fun a ha => (h a ha).kept⟩
theorem logic_not_back {m : Mx} {z : Nat → Int} {y : Nat → Nat} {c : Nat} (hy : ∀ a, a < m.n → z a = (y a : Int) ∧ y a < m.n) (hc : c < m.n) (h : y (y c) ≠ c) : logicB m m.n z = false := logicB_false fun hl => by
  have h1 := hl.pair.inv c hc
  obtain ⟨h2, h3⟩ := hy c hc
  rw [h2] at h1
  have h4 : z (y c) = (c : Int) := h1
  rw [(hy (y c) h3).1] at h4
  omega
theorem logic_not_kept {m : Mx} {z : Nat → Int} {y : Nat → Nat} {c : Nat} (hy : ∀ a, a < m.n → z a = (y a : Int) ∧ y a < m.n) (hc : c < m.n) (h : meetI m c (y c) ≠ leastI m) : logicB m m.n z = false := logicB_false fun hl => by
  have h1 := logic_is hl.lat hl.pair fun a ha => (hy a ha).1
  rw [logicB_true hl] at h1
  have h1' := h1.symm
  rw [Bool.and_eq_true] at h1'
  have h2 : keptB m y = true := h1'.2
  exact h (of_decide_eq_true (allB_is h2 c hc))
theorem logic_not_turn {m : Mx} {z : Nat → Int} {y : Nat → Nat} {c b : Nat} (hy : ∀ a, a < m.n → z a = (y a : Int) ∧ y a < m.n) (hc : c < m.n) (hb : b < m.n) (h : turnPB m y c b = false) : logicB m m.n z = false := logicB_false fun hl => by
  have h1 := logic_is hl.lat hl.pair fun a ha => (hy a ha).1
  rw [logicB_true hl] at h1
  have h1' := h1.symm
  rw [Bool.and_eq_true] at h1'
  have h2 : turnB m y = true := h1'.1
  rw [allB_is (allB_is h2 c hc) b hb] at h
  cases h

set_option maxRecDepth 100000 in
set_option maxHeartbeats 2000000 in
theorem spec_LogicOk {w : World} {B : Nat} {ua : Option Addr} {l : Lay} {m : Mx} {na : Option Addr} {g o k nc : Nat} {z : Nat → Int} (h : LogAt w B ua l m na g o k z) :
    Calls Try.prog 27 #[.agg #[.slice ua m.n l.cap, .slice na k nc]] w fun e w' => e = .returned (.bool (logicB m k z)) ∧ Below w.heap.size w w' := by
  have hX := BoxN.start w #[.slice ua m.n l.cap, .slice na k nc] 27
  have h1 := Lib.hid (h.alloc (.cells #[.slice ua m.n l.cap, .slice na k nc] 27))
  have q0 := hX.cell 0 rfl
  have q1 := hX.cell 1 rfl
  have hkk := h.hk
  have hnn := h.hn
  clear h
  cases hl : latticeB m with
  | false =>
    have HL := Lib.hid hl
    have HF : Hid (false = logicB m k z) := (logicB_false fun h => by rw [latticeB_true h.lat] at hl; cases hl).symm
    clear hl
    go_enter Try.func27, Try.ntmps27
    go_wp2_with fail
    go_at_call 63
    refine (spec_LatticeOk h1.out.hn h1.out.hL h1.out.mat).mono ?_
    rintro e w1 ⟨rfl, rfl⟩
    rw [HL.out]
    go_wp2_with fail
    go_ret
    exact ⟨ret_bool HF.out, hX.below⟩
  | true =>
    have hlat := latticeB_is hl
    have hn := hlat.order.top
    have hpos := hlat.order.pos
    have HL := Lib.hid hl
    have HLat := Lib.hid hlat
    clear hl hlat
    by_cases hkn : k = m.n
    · subst hkn
      have e0 : ((m.n : Int) != (m.n : Int)) = false := by simp
      go_enter Try.func27, Try.ntmps27
      go_wp2_with fail
      go_at_call 63
      refine (spec_LatticeOk h1.out.hn h1.out.hL h1.out.mat).mono ?_
      rintro e w1 ⟨rfl, rfl⟩
      rw [HL.out]
      go_wp2_with fail
      obtain ⟨rfl, hg1, hg2⟩ := h1.out.row.row 0 (by omega)
      obtain ⟨rfl, hg3, hg4⟩ := h1.out.mat.top 0 (by omega)
      clear hg1 hg2 hg3 hg4
      go_loop [4] (fun i => ∃ j : Nat, j ≤ m.n ∧ i = .int .i64 j ∧ Hid (∀ c, c < j → 0 ≤ z c ∧ z c < (m.n : Int))) (fun i => m.n - (intOf i).toNat)
      case atStart => exact ⟨0, Nat.zero_le _, rfl, fun c hc => absurd hc (Nat.not_lt_zero _)⟩
      case round =>
        obtain ⟨j, hj, rfl, hR⟩ := hrel
        by_cases hlt : j < m.n
        · have hlt' : (j : Int) < m.n := by omega
          obtain ⟨_, _, c1⟩ := h1.out.row.row j hlt
          by_cases hin : 0 ≤ z j ∧ z j < (m.n : Int)
          · have HD : Hid ((decide ((0 : Int) ≤ z j) && decide (z j ≤ (m.n : Int) - 1)) = true) := by show _ = _; simp; omega
            have HI := Lib.hid hin
            clear hin
            go_wp2_with fail
            go_at_call 49
            refine (l1In_any _ _ _ _).mono ?_
            rintro e w2 ⟨rfl, rfl⟩
            rw [HD.out]
            clear c1
            go_wp2_with fail
            go_round
            case rel => exact ⟨j + 1, by omega, by go_num, fun c hc => by
              by_cases e : c = j
              · subst e; exact HI.out
              · exact hR.out c (by omega)⟩
            case measure => simp [intOf]; omega
          · have HD : Hid ((decide ((0 : Int) ≤ z j) && decide (z j ≤ (m.n : Int) - 1)) = false) := by show _ = _; rw [Bool.and_eq_false_iff]; simp; omega
            have HF : Hid (false = logicB m m.n z) := (logicB_false fun h => hin ⟨h.pair.lo j hlt, h.pair.hi j hlt⟩).symm
            clear hin
            go_wp2_with fail
            go_at_call 49
            refine (l1In_any _ _ _ _).mono ?_
            rintro e w2 ⟨rfl, rfl⟩
            rw [HD.out]
            clear c1
            go_wp2_with fail
            go_ret
            exact ⟨ret_bool HF.out, hX.below⟩
        · have hlt' : ¬ (j : Int) < m.n := by omega
          obtain ⟨y, hy⟩ : ∃ y : Nat → Nat, Hid (∀ a, a < m.n → z a = (y a : Int) ∧ y a < m.n) := ⟨fun a => (z a).toNat, fun a ha => by
            have := hR.out a (by omega)
            exact ⟨by show z a = ((z a).toNat : Int); omega, by show (z a).toNat < _; omega⟩⟩
          clear hR
          go_wp2_with fail
          go_at_call 64
          refine (spec_LeastOf h1.out.hn h1.out.hL h1.out.mat).mono ?_
          rintro e w2 ⟨rfl, rfl⟩
          rw [leastV_yes (orderB_true HLat.out.order)]
          go_wp2_with fail
          clear q0 q1
          generalize hW : w.alloc (.cells #[.slice (some ⟨l.b, l.o, none⟩) m.n l.cap, .slice (some ⟨g, o, none⟩) m.n nc] 27) = W at h1 hX ⊢
          clear hW
          go_loopw [7] (fun i wr => ∃ j : Nat, j ≤ m.n ∧ i = .int .i64 j ∧ Drew W wr ∧ Hid (∀ c, c < j → OneOk m y c)) (fun i _ => m.n - (intOf i).toNat)
          case atStart => exact ⟨0, Nat.zero_le _, rfl, Drew.refl _, fun c hc => absurd hc (Nat.not_lt_zero _)⟩
          case round =>
            obtain ⟨j, hj, rfl, hD, hO⟩ := hrel
            have hXr := hX.step (hD.below _)
            have hr := Lib.hid (h1.out.step (hD.below _))
            by_cases hlt : j < m.n
            · have hlt' : (j : Int) < m.n := by omega
              have q0 := hXr.cell 0 rfl
              have q1 := hXr.cell 1 rfl
              obtain ⟨_, _, c1⟩ := hr.out.row.row j hlt
              obtain ⟨e1, e2⟩ := hy.out j hlt
              obtain ⟨_, _, c2⟩ := hr.out.row.row (y j) e2
              obtain ⟨e3, e4⟩ := hy.out (y j) e2
              rw [e1] at c1
              rw [e3] at c2
              have e2' : ((y j : Nat) : Int) < m.n := by omega
              clear e1 e3
              by_cases hb : y (y j) = j
              · have HB := Lib.hid hb
                rw [hb] at c2
                have n0 : decide ((j : Int) = (j : Int)) = true := by simp
                have n1 : ((j : Int) != (j : Int)) = false := by simp
                clear hb
                by_cases hm : meetI m j (y j) = leastI m
                · have n2 : (meetI m j (y j) != leastI m) = false := by simp [hm]
                  have HM := Lib.hid hm
                  clear hm
                  go_wp2_with fail
                  go_quiet ((go_at_call 65; exact quiet_drew ((l1Meet_any (hr.out.mat.drewN _) HLat.out.order hlt e2).mono fun _ _ ⟨he, hw⟩ => ⟨he, by subst hw; exact Drew.refl _⟩)))
                  clear q0 q1 c1 c2 n0 n1 n2
                  go_wp2_with fail
                  go_loopw [8] (fun i wi => ∃ b : Nat, b ≤ m.n ∧ i = .int .i64 b ∧ Drew W wi ∧ Hid (∀ c, c < b → turnPB m y j c = true)) (fun i _ => m.n - (intOf i).toNat)
                  case atStart => exact ⟨0, Nat.zero_le _, rfl, hD.drewN _, fun c hc => absurd hc (Nat.not_lt_zero _)⟩
                  case round =>
                    clear hr hXr hD
                    obtain ⟨b, hbn, rfl, hD, hT⟩ := hrel
                    have hXi := hX.step (hD.below _)
                    by_cases hbt : b < m.n
                    · have hbt' : (b : Int) < m.n := by omega
                      have hri := h1.out.step (hD.below _)
                      have r0 := hXi.cell 0 rfl
                      have r1 := hXi.cell 1 rfl
                      obtain ⟨_, _, d1⟩ := hri.row.row j hlt
                      obtain ⟨_, _, d2⟩ := hri.row.row b hbt
                      obtain ⟨f1, f2⟩ := hy.out j hlt
                      obtain ⟨f3, f4⟩ := hy.out b hbt
                      rw [f1] at d1
                      rw [f3] at d2
                      have f2' : ((y j : Nat) : Int) < m.n := by omega
                      have f4' : ((y b : Nat) : Int) < m.n := by omega
                      obtain ⟨_, t1, t2⟩ := hri.mat.sq HLat.out.order.sq hlt hbt
                      obtain ⟨_, t3, t4⟩ := hri.mat.sq HLat.out.order.sq f4 f2
                      clear f1 f3 hri
                      rcases leB_cases HLat.out.order.sq hlt hbt with ⟨l1, z1⟩ | ⟨l1, z1⟩
                      · rw [z1] at t2
                        rcases leB_cases HLat.out.order.sq f4 f2 with ⟨l2, z2⟩ | ⟨l2, z2⟩
                        · rw [z2] at t4
                          have HP : Hid (turnPB m y j b = true) := by show turnPB m y j b = true; simp [turnPB, l1, l2]
                          clear l1 l2 z1 z2
                          go_wp2_with fail
                          go_quiet (fail)
                          go_wp2_with fail
                          go_roundw
                          case rel => exact ⟨b + 1, by omega, by go_num, hD.drewN _, fun c hc => by
                            by_cases e : c = b
                            · subst e; exact HP.out
                            · exact hT.out c (by omega)⟩
                          case measure => simp [intOf]; omega
                        · rw [z2] at t4
                          have HF : Hid (false = logicB m m.n z) := (logic_not_turn hy.out hlt hbt (by simp [turnPB, l1, l2])).symm
                          clear l1 l2 z1 z2
                          go_wp2_with fail
                          go_quiet (fail)
                          go_wp2_with fail
                          go_ret
                          exact ⟨ret_bool HF.out, Below.drewN' hXi.below _⟩
                      · rw [z1] at t2
                        have HP : Hid (turnPB m y j b = true) := by show turnPB m y j b = true; simp [turnPB, l1]
                        clear l1 z1 t3 t4
                        go_wp2_with fail
                        go_quiet (fail)
                        go_wp2_with fail
                        go_roundw
                        case rel => exact ⟨b + 1, by omega, by go_num, hD.drewN _, fun c hc => by
                          by_cases e : c = b
                          · subst e; exact HP.out
                          · exact hT.out c (by omega)⟩
                        case measure => simp [intOf]; omega
                    · have hbt' : ¬ (b : Int) < m.n := by omega
                      have HK : Hid (OneOk m y j) := ⟨HB.out, decide_eq_true HM.out, fun c hc => hT.out c (by omega)⟩
                      go_wp2_with fail
                      go_roundw
                      case rel => exact ⟨j + 1, by omega, by go_num, hD, fun c hc => by
                        by_cases e : c = j
                        · subst e; exact HK.out
                        · exact hO.out c (by omega)⟩
                      case measure => simp [intOf]; omega
                · have n2 : (meetI m j (y j) != leastI m) = true := by simpa using hm
                  have HF : Hid (false = logicB m m.n z) := (logic_not_kept hy.out hlt hm).symm
                  clear hm
                  go_wp2_with fail
                  go_quiet ((go_at_call 65; exact quiet_drew ((l1Meet_any (hr.out.mat.drewN _) HLat.out.order hlt e2).mono fun _ _ ⟨he, hw⟩ => ⟨he, by subst hw; exact Drew.refl _⟩)))
                  go_wp2_with fail
                  go_ret
                  exact ⟨ret_bool HF.out, Below.drewN' hXr.below _⟩
              · have HF : Hid (false = logicB m m.n z) := (logic_not_back hy.out hlt hb).symm
                have n1 : (((y (y j) : Nat) : Int) != (j : Int)) = true := by simp; omega
                clear hb
                go_wp2_with fail
                go_quiet (fail)
                go_wp2_with fail
                go_ret
                exact ⟨ret_bool HF.out, Below.drewN' hXr.below _⟩
            · have hlt' : ¬ (j : Int) < m.n := by omega
              have HT : Hid (true = logicB m m.n z) := (logic_of_ones HLat.out hy.out fun c hc => hO.out c (by omega)).symm
              go_wp2_with fail
              go_ret
              exact ⟨ret_bool HT.out, hXr.below⟩
    · have HF : Hid (false = logicB m k z) := (logicB_false fun h => hkn h.pair.len).symm
      have e0 : ((k : Int) != (m.n : Int)) = true := by simp; omega
      go_enter Try.func27, Try.ntmps27
      go_wp2_with fail
      go_at_call 63
      refine (spec_LatticeOk h1.out.hn h1.out.hL h1.out.mat).mono ?_
      rintro e w1 ⟨rfl, rfl⟩
      rw [HL.out]
      go_wp2_with fail
      go_ret
      exact ⟨ret_bool HF.out, hX.below⟩
end Go.Proofs.Ytgjacinolenheaa
