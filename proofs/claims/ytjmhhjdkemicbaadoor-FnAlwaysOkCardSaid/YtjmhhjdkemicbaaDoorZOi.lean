import Derived.Test.YtjmhhjdkemicbaaDoorZOa
import Derived.Test.YtjmhhjdkemicbaaDoorZMath
namespace Go.Proofs.YtjmhhjdkemicbaaDoor
open Go.RowKit Go.Deep

noncomputable def noV (m : Mx) (k : Nat) (z : Nat → Int) : Int := if logicB m k z = true then leastI m else -1
noncomputable def yesV (m : Mx) (k : Nat) (z : Nat → Int) : Int := if logicB m k z = true then z (leastI m).toNat else -1
set_option maxRecDepth 100000 in
set_option maxHeartbeats 2000000 in
theorem YesOf_any {w : World} {B : Nat} {ua : Option Addr} {l : Lay} {m : Mx} {na : Option Addr} {g o k nc : Nat} {z : Nat → Int} (h : LogAt w B ua l m na g o k z) :
    Calls Tryd.prog 10 #[.agg #[.slice ua m.n l.cap, .slice na k nc]] w fun e w' => e = .returned (.int .i64 (yesV m k z)) ∧ Below w.heap.size w w' := by
  have hX := BoxN.start w #[.slice ua m.n l.cap, .slice na k nc] 26
  have q0 := hX.cell 0 rfl
  have q1 := hX.cell 1 rfl
  have hX2 := hX
  have bw := hX.below
  have h2 := Lib.hid (h.step bw)
  go_enter Tryd.func10, Tryd.ntmps10
  have hrow2 : Hid (RowAt (w.alloc (.cells #[.slice ua m.n l.cap, .slice na k nc] 26)) (w.alloc (.cells #[.slice ua m.n l.cap, .slice na k nc] 26)).heap.size none 0 0 0 (fun _ => 0)) := ⟨fun c hc => absurd hc (Nat.not_lt_zero _)⟩
  generalize hW : w.alloc (.cells #[.slice ua m.n l.cap, .slice na k nc] 26) = W at hX2 bw h2 hrow2 q0 q1
  clear hX h
  go_wp2_with fail
  go_at_call 25
  refine (algebraWith_any h2.out hrow2.out (by omega)).mono ?_
  rintro e w1 ⟨b1, (⟨hg, ob, tb, tG, rfl, hA⟩ | ⟨hg, rfl⟩)⟩
  · clear hW q0 q1 hrow2
    have B1 := bw.trans (b1.mono bw.size)
    have hY := BoxN.start w1 #[.slice ua m.n l.cap, .slice na k nc, .slice (some ⟨ob, 0, none⟩) 2 2] 52
    have hYb := hY.below
    have BY := B1.trans (hYb.mono B1.size)
    have h3 := Lib.hid ((h2.out.step b1).step hYb)
    have hA3 := Lib.hid (hA.step hYb)
    have r0 := hY.cell 0 rfl
    have r1 := hY.cell 1 rfl
    have r2 := hY.cell 2 rfl
    clear hA
    unfold algV
    rw [Bool.and_eq_true] at hg
    have hlog := logicB_is hg.1
    have hord := hlog.lat.order
    have HS := Lib.hid (h3.out.sq hord)
    have hkm := hlog.pair.len
    have hR := h3.out.row
    obtain ⟨x, hx, hxe, _⟩ := least_parts hord (lattice_hasLeast hlog.lat)
    have hx1 : x < k := by omega
    have hx2 : (x : Int) < k := by omega
    have HV : Hid (z x = yesV m k z) := by show _ = _; unfold yesV; rw [if_pos hg.1, hxe]; simp
    have HX := Lib.hid hxe
    obtain ⟨rfl, _, _⟩ := hR.row x hx1
    clear hg hlog hord hkm hR hxe
    go_wp2_with fail
    go_at_call 28
    refine (least_sq HS.out).mono ?_
    rintro e w2 ⟨rfl, b2⟩
    rw [HX.out]
    have B2 := BY.trans (b2.mono BY.size)
    have hY2 := hY.step b2
    have s1 := hY2.cell 1 rfl
    obtain ⟨_, _, c1⟩ := (h3.out.step b2).row.row x hx1
    clear r0 r1 r2
    go_wp2_with fail
    go_ret
    exact ⟨ret_int HV.out, B2⟩
  · have HV : Hid ((-1 : Int) = yesV m k z) := by show _ = _; unfold yesV; rw [good_nil, Bool.and_true] at hg; rw [if_neg (by rw [hg]; decide)]
    clear hW q0 q1 hrow2 hg
    have B1 := bw.trans (b1.mono bw.size)
    have B2 := B1.alloc B1.size (.cells #[.slice none 0 0, .slice none 0 0, .slice none 0 0] 52)
    unfold noAlg
    go_wp2_with fail
    go_ret
    exact ⟨ret_int HV.out, B2⟩

end Go.Proofs.YtjmhhjdkemicbaaDoor
namespace Go.Proofs.YtjmhhjdkemicbaaDoor
open Go.RowKit Go.Deep

theorem good_mk {n : Nat} {a b : Int} (h0 : 0 ≤ a) (h1 : a < (n : Int)) (h2 : 0 ≤ b) (h3 : b < (n : Int)) : goodB n 2 (two a b) = true := allB_true fun i hi => by
  rcases (show i = 0 ∨ i = 1 by omega) with rfl | rfl
  · simp [two, h0, h1]
  · simp [two, h2, h3]
set_option maxRecDepth 100000 in
set_option maxHeartbeats 2000000 in
theorem spec_NoOf {w : World} {B : Nat} {ua : Option Addr} {l : Lay} {m : Mx} {na : Option Addr} {g o k nc : Nat} {z : Nat → Int} (h : LogAt w B ua l m na g o k z) :
    Calls Tryd.prog 18 #[.agg #[.slice ua m.n l.cap, .slice na k nc]] w fun e w' => e = .returned (.int .i64 (noV m k z)) ∧ Below w.heap.size w w' := by
  have hX := BoxN.start w #[.slice ua m.n l.cap, .slice na k nc] 26
  have q0 := hX.cell 0 rfl
  have q1 := hX.cell 1 rfl
  have bw := hX.below
  have h2 := Lib.hid (h.step bw)
  have hkk := h.hk
  clear h
  go_enter Tryd.func18, Tryd.ntmps18
  go_wp2_with fail
  go_at_call 7
  refine (spec_LogicOk h2.out).mono ?_
  rintro e w1 ⟨rfl, b1⟩
  have B1 := bw.trans (b1.mono bw.size)
  have hX1 := hX.step b1
  have r0 := hX1.cell 0 rfl
  have r1 := hX1.cell 1 rfl
  have h3 := Lib.hid (h2.out.step b1)
  clear q0 q1
  cases hg : logicB m k z with
  | true =>
    have HV : Hid (leastV m = noV m k z) := by show _ = _; unfold noV; rw [if_pos hg, leastV_yes (orderB_true (logicB_is hg).lat.order)]
    clear hg
    go_wp2_with fail
    go_at_call 22
    refine (spec_LeastOf h3.out.hn h3.out.hL h3.out.mat).mono ?_
    rintro e w2 ⟨rfl, rfl⟩
    go_wp2_with fail
    go_ret
    exact ⟨ret_int HV.out, B1⟩
  | false =>
    have HV : Hid ((-1 : Int) = noV m k z) := by show _ = _; unfold noV; rw [if_neg (by rw [hg]; decide)]
    clear hg
    go_wp2_with fail
    go_ret
    exact ⟨ret_int HV.out, B1⟩

end Go.Proofs.YtjmhhjdkemicbaaDoor
namespace Go.Proofs.YtjmhhjdkemicbaaDoor
open Go.RowKit Go.Deep

theorem meetQ {B n : Nat} {sa : Option Addr} {l : Lay} {m : Mx} {a b : Nat} {w : World} {z : Nat → Int} {y : Nat → Nat} {o : Nat} (h : MatAt w B sa l m) (hO : Ortho m z y o) (ha : a < m.n) (hb : b < m.n) :
    Calls Tryd.prog 23 #[.slice sa m.n l.cap, .int .i64 a, .int .i64 b] (w.drewN n) fun e w' => e = .returned (.int .i64 (mN m a b : Nat)) ∧ ∃ k, w' = w.drewN k :=
  quiet_drew ((l1Meet_any (h.drewN n) hO.lat.order ha hb).mono fun _ _ ⟨he, hw⟩ => ⟨by rw [he, hO.mI ha hb], by subst hw; exact Drew.refl _⟩)
theorem joinQ {B n : Nat} {sa : Option Addr} {l : Lay} {m : Mx} {a b : Nat} {w : World} {z : Nat → Int} {y : Nat → Nat} {o : Nat} (h : MatAt w B sa l m) (hO : Ortho m z y o) (ha : a < m.n) (hb : b < m.n) :
    Calls Tryd.prog 29 #[.slice sa m.n l.cap, .int .i64 a, .int .i64 b] (w.drewN n) fun e w' => e = .returned (.int .i64 (jN m a b : Nat)) ∧ ∃ k, w' = w.drewN k :=
  quiet_drew ((l1Join_any (h.drewN n) hO.lat.order ha hb).mono fun _ _ ⟨he, hw⟩ => ⟨by rw [he, hO.jI ha hb], by subst hw; exact Drew.refl _⟩)

set_option maxRecDepth 100000 in
set_option maxHeartbeats 2000000 in
theorem spec_KeepsOk {w : World} {B : Nat} {ua : Option Addr} {l : Lay} {m : Mx} {na : Option Addr} {g o k nc : Nat} {z : Nat → Int} (h : LogAt w B ua l m na g o k z) :
    Calls Tryd.prog 11 #[.agg #[.slice ua m.n l.cap, .slice na k nc]] w fun e w' => e = .returned (.bool (keepsV m k z)) ∧ Below w.heap.size w w' := by
  have hX := BoxN.start w #[.slice ua m.n l.cap, .slice na k nc] 26
  have h1 := Lib.hid (h.alloc (.cells #[.slice ua m.n l.cap, .slice na k nc] 26))
  have q0 := hX.cell 0 rfl
  have q1 := hX.cell 1 rfl
  have hkk := h.hk
  clear h
  cases hl : logicB m k z with
  | false =>
    have HL := Lib.hid hl
    have HF : Hid (false = keepsV m k z) := by show _ = _; unfold keepsV; rw [hl]; rfl
    clear hl
    go_enter Tryd.func11, Tryd.ntmps11
    go_wp2_with fail
    generalize hW : w.alloc (.cells #[.slice ua m.n l.cap, .slice na k nc] 26) = W at h1 hX q0 q1 ⊢
    clear hW
    go_loopw [3] (fun i wr => i = .int .i64 0 ∧ wr = W) (fun _ _ => 0)
    case atStart => exact ⟨rfl, rfl⟩
    case round =>
      obtain ⟨rfl, rfl⟩ := hrel
      by_cases hk0 : 0 < k
      · have hk0' : (0 : Int) < k := by omega
        go_wp2_with fail
        go_at_call 7
        refine (spec_LogicOk h1.out).mono ?_
        rintro e w2 ⟨rfl, b2⟩
        rw [HL.out]
        have hX2 := hX.step b2
        have h2 := Lib.hid (h1.out.step b2)
        have r0 := hX2.cell 0 rfl
        have r1 := hX2.cell 1 rfl
        clear q0 q1
        go_wp2_with fail
        go_at_call 7
        refine (spec_LogicOk h2.out).mono ?_
        rintro e w3 ⟨rfl, b3⟩
        rw [HL.out]
        have hX3 := hX2.step b3
        clear r0 r1
        go_wp2_with fail
        go_ret
        exact ⟨ret_bool HF.out, hX3.below⟩
      · have hk0' : ¬ (0 : Int) < k := by omega
        go_wp2_with fail
        go_at_call 7
        refine (spec_LogicOk h1.out).mono ?_
        rintro e w3 ⟨rfl, b3⟩
        rw [HL.out]
        have hX3 := hX.step b3
        clear q0 q1
        go_wp2_with fail
        go_ret
        exact ⟨ret_bool HF.out, hX3.below⟩
  | true =>
    have hlog := logicB_is hl
    obtain ⟨y, o', hO⟩ := hlog.ortho
    have hkn : k = m.n := hlog.pair.len
    subst hkn
    have hn := hO.lat.order.top
    have hpos := hO.lat.order.pos
    have HV : Hid (keepsV m m.n z = keepsB m y) := keepsV_is hO
    have HO := Lib.hid hO
    have HL := Lib.hid hl
    obtain ⟨rfl, hg1, hg2⟩ := h1.out.row.row 0 (by omega)
    obtain ⟨rfl, hg3, hg4⟩ := h1.out.mat.top 0 (by omega)
    clear hl hO hlog hg1 hg2 hg3 hg4
    go_enter Tryd.func11, Tryd.ntmps11
    go_wp2_with fail
    generalize hW : w.alloc (.cells #[.slice (some ⟨l.b, l.o, none⟩) m.n l.cap, .slice (some ⟨g, o, none⟩) m.n nc] 26) = W at h1 hX ⊢
    clear hW q0 q1
    go_loopw [3] (fun i wr => ∃ j : Nat, j ≤ m.n ∧ i = .int .i64 j ∧ Below W.heap.size W wr ∧ Hid (∀ a, a < j → ∀ b, b < m.n → keepsPB m y a b = true)) (fun i _ => m.n - (intOf i).toNat)
    case atStart => exact ⟨0, Nat.zero_le _, rfl, Below.refl _ _, fun c hc => absurd hc (Nat.not_lt_zero _)⟩
    case round =>
      obtain ⟨j, hj, rfl, hD, hR⟩ := hrel
      have hXr := hX.step hD
      have hr := Lib.hid (h1.out.step hD)
      have q0 := hXr.cell 0 rfl
      have q1 := hXr.cell 1 rfl
      by_cases hlt : j < m.n
      · have hlt' : (j : Int) < m.n := by omega
        go_wp2_with fail
        go_at_call 7
        refine (spec_LogicOk hr.out).mono ?_
        rintro e w2 ⟨rfl, b2⟩
        rw [HL.out]
        have hD2 := hD.trans (b2.mono hD.size)
        clear q0 q1 hr hXr hD
        go_wp2_with fail
        go_loopw [4] (fun i wi => ∃ b : Nat, b ≤ m.n ∧ i = .int .i64 b ∧ Below W.heap.size W wi ∧ Hid (∀ c, c < b → keepsPB m y j c = true)) (fun i _ => m.n - (intOf i).toNat)
        case atStart => exact ⟨0, Nat.zero_le _, rfl, hD2, fun c hc => absurd hc (Nat.not_lt_zero _)⟩
        case round =>
          obtain ⟨b, hbn, rfl, hD, hT⟩ := hrel
          clear hD2
          by_cases hbt : b < m.n
          · have hbt' : (b : Int) < m.n := by omega
            have hXi := hX.step hD
            have hri := h1.out.step hD
            have r0 := hXi.cell 0 rfl
            have r1 := hXi.cell 1 rfl
            obtain ⟨_, _, d1⟩ := hri.row.row j hlt
            rw [HO.out.zy j hlt] at d1
            have f2 := HO.out.lt j hlt
            have f2' : ((y j : Nat) : Int) < m.n := by omega
            obtain ⟨_, t1, t2⟩ := hri.mat.sq HO.out.lat.order.sq hlt hbt
            have hmat := Lib.hid hri.mat
            have hm := (HO.out.mG hbt f2).lt
            clear hri
            rcases leB_cases HO.out.lat.order.sq hlt hbt with ⟨l1, z1⟩ | ⟨l1, z1⟩
            · rw [z1] at t2
              by_cases hk : jN m j (mN m b (y j)) = b
              · have HP : Hid (keepsPB m y j b = true) := by show _ = _; unfold keepsPB; rw [hk]; simp
                have n1 : (((jN m j (mN m b (y j)) : Nat) : Int) != (b : Int)) = false := by simp [hk]
                clear l1 z1 hk
                go_wp2_with fail
                go_quiet (first | (go_at_call 23; exact meetQ hmat.out HO.out hbt f2) | (go_at_call 29; exact joinQ hmat.out HO.out hlt hm))
                clear n1
                go_wp2_with fail
                go_roundw
                case rel => exact ⟨b + 1, by omega, by go_num, Below.drewN' hD _, fun c hc => by
                  by_cases e : c = b
                  · subst e; exact HP.out
                  · exact hT.out c (by omega)⟩
                case measure => simp [intOf]; omega
              · have HF : Hid (false = keepsV m m.n z) := by
                  show _ = _
                  rw [HV.out]
                  exact (allB_false hlt (allB_false hbt (by unfold keepsPB; rw [l1]; simp [hk]))).symm
                have n1 : (((jN m j (mN m b (y j)) : Nat) : Int) != (b : Int)) = true := by simp; omega
                clear l1 z1 hk
                go_wp2_with fail
                go_quiet (first | (go_at_call 23; exact meetQ hmat.out HO.out hbt f2) | (go_at_call 29; exact joinQ hmat.out HO.out hlt hm))
                clear n1
                go_wp2_with fail
                go_ret
                exact ⟨ret_bool HF.out, Below.drewN' hXi.below _⟩
            · rw [z1] at t2
              have HP : Hid (keepsPB m y j b = true) := by show _ = _; unfold keepsPB; rw [l1]; rfl
              clear l1 z1
              go_wp2_with fail
              go_quiet (fail)
              go_wp2_with fail
              go_roundw
              case rel => exact ⟨b + 1, by omega, by go_num, Below.drewN' hD _, fun c hc => by
                by_cases e : c = b
                · subst e; exact HP.out
                · exact hT.out c (by omega)⟩
              case measure => simp [intOf]; omega
          · have hbt' : ¬ (b : Int) < m.n := by omega
            have hXi := hX.step hD
            have r0 := hXi.cell 0 rfl
            have r1 := hXi.cell 1 rfl
            go_wp2_with fail
            go_roundw
            case rel => exact ⟨j + 1, by omega, by go_num, hD, fun a ha c hc => by
              by_cases e : a = j
              · subst e; exact hT.out c (by omega)
              · exact hR.out a (by omega) c hc⟩
            case measure => simp [intOf]; omega
      · have hlt' : ¬ (j : Int) < m.n := by omega
        have HT : Hid (true = keepsV m m.n z) := by
          show _ = _
          rw [HV.out]
          exact (allB_true fun a ha => allB_true fun b hb => hR.out a (by omega) b hb).symm
        go_wp2_with fail
        go_at_call 7
        refine (spec_LogicOk hr.out).mono ?_
        rintro e w2 ⟨rfl, b2⟩
        rw [HL.out]
        have hX2 := hXr.step b2
        clear q0 q1
        go_wp2_with fail
        go_ret
        exact ⟨ret_bool HT.out, hX2.below⟩
end Go.Proofs.YtjmhhjdkemicbaaDoor
namespace Go.Proofs.YtjmhhjdkemicbaaDoor
open Go.RowKit Go.Deep Go.Shelf

attribute [local go_sem] Oper.semAt_some

/-- Nothing speaks against the pairs of the list. -/
def AllKeep (m : Mx) (y : Nat → Nat) (pre : List (Fin m.n × Fin m.n)) : Prop := ∀ p ∈ pre, keepsPB m y p.1.val p.2.val = true
theorem AllKeep.snoc {m : Mx} {y : Nat → Nat} {pre : List (Fin m.n × Fin m.n)} (h : AllKeep m y pre) {x : Fin m.n × Fin m.n} (hx : keepsPB m y x.1.val x.2.val = true) : AllKeep m y (pre ++ [x]) := fun p hp => by
  rcases List.mem_append.1 hp with e | e
  · exact h p e
  · have e' : p = x := by simpa using e
    rw [e']; exact hx

end Go.Proofs.YtjmhhjdkemicbaaDoor
