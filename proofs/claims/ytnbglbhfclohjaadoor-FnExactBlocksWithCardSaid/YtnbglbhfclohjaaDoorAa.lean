/- The walks of the reference's WithOk, SplitOk and BothWaysOk. The walk of the reference's CentreOf. The walks of the program's takenApart, WithOk, ApartFrom, SplitOk. The walk of the reference's ApartFrom. -/
import Derived.Test.YtnbglbhfclohjaaDoorOi
import Derived.Test.YtnbglbhfclohjaaDoorMath
import Derived.Test.YtnbglbhfclohjaaDoorWv
namespace Go.Proofs.YtnbglbhfclohjaaDoor
open Go.RowKit Go.Deep

noncomputable def withV (m : Mx) (k : Nat) (z : Nat → Int) (x v : Int) : Bool := (logicB m k z && goodB m.n 2 (two x v)) && agB m (fun a => (z a).toNat) x.toNat v.toNat
noncomputable def splitV (m : Mx) (k : Nat) (z : Nat → Int) (x v t : Int) : Bool := ((logicB m k z && goodB m.n 2 (two x v)) && (logicB m k z && goodB m.n 2 (two x t))) && splitB m x.toNat v.toNat t.toNat
noncomputable def bothV (m : Mx) (k : Nat) (z : Nat → Int) : Bool := logicB m k z && twoWaysB m (fun a => (z a).toNat)

set_option maxRecDepth 100000 in
set_option maxHeartbeats 2000000 in
theorem l5With_any {w : World} {B : Nat} {ua : Option Addr} {l : Lay} {m : Mx} {na : Option Addr} {g o nc a b : Nat} {z : Nat → Int} {y : Nat → Nat} {o' : Nat} (h : LogAt w B ua l m na g o m.n z) (hO : Ortho m z y o') (ha : a < m.n) (hb : b < m.n) :
    Calls Tryd.prog 53 #[.agg #[.slice ua m.n l.cap, .slice na m.n nc], .int .i64 a, .int .i64 b] w fun e w' => e = .returned (.bool (agB m y a b)) ∧ Below w.heap.size w w' := by
  have hX := BoxN.start w #[.slice ua m.n l.cap, .slice na m.n nc] 26
  have h1 := Lib.hid (h.alloc (.cells #[.slice ua m.n l.cap, .slice na m.n nc] 26))
  have q0 := hX.cell 0 rfl
  have q1 := hX.cell 1 rfl
  have hn := hO.lat.order.top
  have hpos := hO.lat.order.pos
  have HO := Lib.hid hO
  obtain ⟨rfl, hg1, hg2⟩ := h1.out.row.row 0 (by omega)
  obtain ⟨rfl, hg3, hg4⟩ := h1.out.mat.top 0 (by omega)
  clear hg1 hg2 hg3 hg4 h hO
  obtain ⟨_, _, d1⟩ := h1.out.row.row b hb
  rw [HO.out.zy b hb] at d1
  have f2 := HO.out.lt b hb
  have f2' : ((y b : Nat) : Int) < m.n := by omega
  have hb' : (b : Int) < m.n := by omega
  have hmat := Lib.hid h1.out.mat
  have m1 := (HO.out.mG ha hb).lt
  have m2 := (HO.out.mG ha f2).lt
  have hB := hX.below
  clear h1
  cases hk : agB m y a b with
  | true =>
    have e1 : jN m (mN m a b) (mN m a (y b)) = a := of_decide_eq_true hk
    have n1 : (((jN m (mN m a b) (mN m a (y b)) : Nat) : Int) == (a : Int)) = true := by rw [e1]; simp
    clear hk e1
    go_enter Tryd.func53, Tryd.ntmps53
    go_wp2_with fail
    generalize w.alloc (.cells #[.slice (some ⟨l.b, l.o, none⟩) m.n l.cap, .slice (some ⟨g, o, none⟩) m.n nc] 26) = W at hmat hX hB q0 q1 d1 ⊢
    go_quiet (first | (go_at_call 75; exact meetQ hmat.out HO.out ha hb) | (go_at_call 75; exact meetQ hmat.out HO.out ha f2) | (go_at_call 79; exact joinQ hmat.out HO.out m1 m2))
    go_wp2_with fail
    go_ret
    exact ⟨rfl, Below.drewN' hB _⟩
  | false =>
    have e1 : ¬ jN m (mN m a b) (mN m a (y b)) = a := of_decide_eq_false hk
    have n1 : (((jN m (mN m a b) (mN m a (y b)) : Nat) : Int) == (a : Int)) = false := by rw [beq_eq_false_iff_ne]; omega
    clear hk e1
    go_enter Tryd.func53, Tryd.ntmps53
    go_wp2_with fail
    generalize w.alloc (.cells #[.slice (some ⟨l.b, l.o, none⟩) m.n l.cap, .slice (some ⟨g, o, none⟩) m.n nc] 26) = W at hmat hX hB q0 q1 d1 ⊢
    go_quiet (first | (go_at_call 75; exact meetQ hmat.out HO.out ha hb) | (go_at_call 75; exact meetQ hmat.out HO.out ha f2) | (go_at_call 79; exact joinQ hmat.out HO.out m1 m2))
    go_wp2_with fail
    go_ret
    exact ⟨rfl, Below.drewN' hB _⟩

/-- Two answers of a logic, out of the test. -/
theorem good_parts {m : Mx} {k : Nat} {z : Nat → Int} {x v : Int} (h : (logicB m k z && goodB m.n 2 (two x v)) = true) : ∃ (a b o : Nat), x = (a : Int) ∧ v = (b : Int) ∧ a < m.n ∧ b < m.n ∧ k = m.n ∧ Ortho m z (fun c => (z c).toNat) o := by
  rw [Bool.and_eq_true] at h
  obtain ⟨x0, x1, y0, y1⟩ := good_two h.2
  obtain ⟨a, rfl⟩ := Int.eq_ofNat_of_zero_le x0
  obtain ⟨b, rfl⟩ := Int.eq_ofNat_of_zero_le y0
  obtain ⟨y, o, hO⟩ := (logicB_is h.1).ortho
  exact ⟨a, b, o, rfl, rfl, by omega, by omega, (logicB_is h.1).pair.len, hO.own⟩

theorem parts_split {m : Mx} {k : Nat} {z : Nat → Int} {x v t : Int} (h1 : (logicB m k z && goodB m.n 2 (two x v)) = true) (h2 : (logicB m k z && goodB m.n 2 (two x t)) = true) :
    ∃ (a b d o : Nat), x = (a : Int) ∧ v = (b : Int) ∧ t = (d : Int) ∧ a < m.n ∧ b < m.n ∧ d < m.n ∧ k = m.n ∧ Ortho m z (fun c => (z c).toNat) o := by
  obtain ⟨a, b, o, rfl, rfl, ha, hb, hk, hO⟩ := good_parts h1
  obtain ⟨a', d, _, e, rfl, _, hd, _, _⟩ := good_parts h2
  exact ⟨a, b, d, o, rfl, rfl, rfl, ha, hb, hd, hk, hO⟩
end Go.Proofs.YtnbglbhfclohjaaDoor
namespace Go.Proofs.YtnbglbhfclohjaaDoor
open Go.RowKit Go.Deep

/-- The answers of the centre below a number, in ascending order. -/
def midTo (m : Mx) (y : Nat → Nat) : Nat → List Int
  | 0 => []
  | k + 1 => if midB m y k = true then midTo m y k ++ [(k : Int)] else midTo m y k
noncomputable def midV (m : Mx) (k : Nat) (z : Nat → Int) : List Int := if logicB m k z = true then midTo m (fun a => (z a).toNat) m.n else []
theorem midTo_len (m : Mx) (y : Nat → Nat) (k : Nat) : (midTo m y k).length ≤ k := by
  induction k with
  | zero => exact Nat.le_refl _
  | succ k ih =>
    unfold midTo
    by_cases h : midB m y k = true
    · rw [if_pos h, List.length_append]; simp; omega
    · rw [if_neg h]; omega
theorem midV_len (m : Mx) (k : Nat) (z : Nat → Int) : (midV m k z).length ≤ 1048576 := by
  unfold midV
  by_cases h : logicB m k z = true
  · rw [if_pos h]
    obtain ⟨y, o, hO⟩ := (logicB_is h).ortho
    have h1 := hO.lat.order.top
    have h2 := midTo_len m (fun a => (z a).toNat) m.n
    omega
  · rw [if_neg h]; simp
theorem midTo_yes {m : Mx} {y : Nat → Nat} {k : Nat} (h : midB m y k = true) : midTo m y (k + 1) = midTo m y k ++ [(k : Int)] := if_pos h
theorem midTo_no {m : Mx} {y : Nat → Nat} {k : Nat} (h : midB m y k = false) : midTo m y (k + 1) = midTo m y k := if_neg (by rw [h]; exact Bool.false_ne_true)
theorem midTo_all {m : Mx} {y : Nat → Nat} {k : Nat} (h : ∀ a, a < k → midB m y a = true) : (midTo m y k).length = k := by
  induction k with
  | zero => rfl
  | succ k ih =>
    rw [midTo_yes (h k (Nat.lt_succ_self k)), List.length_append, ih fun a ha => h a (by omega)]
    rfl
/-- The first of all tests of an answer. -/
def midP (m : Mx) (y : Nat → Nat) (a j : Nat) : Bool := allB j fun b => agB m y a b && agB m y b a
theorem allB_step {j : Nat} {f : Nat → Bool} : allB (j + 1) f = (allB j f && f j) := by
  cases h1 : allB j f with
  | false =>
    cases h2 : allB (j + 1) f with
    | false => rfl
    | true =>
      have : allB j f = true := allB_true fun i hi => allB_is h2 i (by omega)
      rw [h1] at this
      exact absurd this Bool.false_ne_true
  | true =>
    cases h2 : f j with
    | false => exact allB_false (Nat.lt_succ_self j) h2
    | true =>
      exact allB_true fun i hi => by
        by_cases e : i = j
        · rw [e]; exact h2
        · exact allB_is h1 i (by omega)

set_option maxRecDepth 100000 in
set_option maxHeartbeats 4000000 in
theorem spec_CentreOf {w : World} {B : Nat} {ua : Option Addr} {l : Lay} {m : Mx} {na : Option Addr} {g o k nc : Nat} {z : Nat → Int} (h : LogAt w B ua l m na g o k z) :
    Calls Tryd.prog 14 #[.agg #[.slice ua m.n l.cap, .slice na k nc]] w (ListRes w (midV m k z)) := by
  have hX := BoxN.start w #[.slice ua m.n l.cap, .slice na k nc] 26
  have h1 := Lib.hid (h.alloc (.cells #[.slice ua m.n l.cap, .slice na k nc] 26))
  have q0 := hX.cell 0 rfl
  have q1 := hX.cell 1 rfl
  have hkk := h.hk
  have hsz : (w.alloc (.cells #[.slice ua m.n l.cap, .slice na k nc] 26)).heap.size = w.heap.size + 1 := by simp
  clear h
  cases hl : logicB m k z with
  | false =>
    have HL := Lib.hid hl
    have HF : Hid (midV m k z = []) := by show _ = _; unfold midV; rw [hl]; rfl
    clear hl
    go_enter Tryd.func14, Tryd.ntmps14
    go_wp2_with fail
    generalize w.alloc (.cells #[.slice ua m.n l.cap, .slice na k nc] 26) = W at h1 hX q0 q1 hsz ⊢
    have hown0 : (W.alloc (.cells #[] 3)).ownsRow (w.heap.size + 1) 3 1 (.slice (some ⟨w.heap.size + 1, 0, none⟩) 0 0) 0 [] := by
      rw [← hsz]
      exact World.ownsRow_lit (base := W.heap.size) (e := 3) (size := 1) W #[] 0 (Nat.le_refl _) (Nat.zero_le _) rfl
    have hb1 := (Below.refl W.heap.size W).alloc (Nat.le_refl _) (.cells #[] 3)
    have hX1 := hX.step hb1
    have h2 := Lib.hid (h1.out.step hb1)
    clear h1 hX
    have q0 := hX1.cell 0 rfl
    have q1 := hX1.cell 1 rfl
    generalize hWe : W.alloc (.cells #[] 3) = W1 at *
    go_loopw [3, 4] (fun v i wr => v = .slice (some ⟨w.heap.size + 1, 0, none⟩) 0 0 ∧ i = .int .i64 0 ∧ wr = W1) (fun _ _ _ => 0)
    case atStart => exact ⟨rfl, rfl, rfl⟩
    case round =>
      obtain ⟨rfl, rfl, rfl⟩ := hrel
      by_cases hk0 : 0 < k
      · have hk0' : (0 : Int) < k := by omega
        go_wp2_with fail
        go_at_call 26
        refine (spec_LogicOk h2.out).mono ?_
        rintro e w2 ⟨rfl, b2⟩
        rw [HL.out]
        have hX2 := hX1.step b2
        have ho := ownsRow_below hown0 b2 (Nat.le_refl _)
        clear q0 q1
        go_wp2_with fail
        go_ret
        exact ⟨_, rfl, by rw [HF.out]; exact ownsRow_base ho (Nat.le_succ _), hX2.below⟩
      · have hk0' : ¬ (0 : Int) < k := by omega
        go_wp2_with fail
        go_ret
        exact ⟨_, rfl, by rw [HF.out]; exact ownsRow_base hown0 (Nat.le_succ _), hX1.below⟩
  | true =>
    have hlog := logicB_is hl
    obtain ⟨y0, o', hO0⟩ := hlog.ortho
    have hkn : k = m.n := hlog.pair.len
    subst hkn
    have hO := hO0.own
    have hn := hO.lat.order.top
    have hpos := hO.lat.order.pos
    obtain ⟨yy, hyy⟩ : ∃ yy : Nat → Nat, yy = fun a => (z a).toNat := ⟨_, rfl⟩
    rw [← hyy] at hO
    have HV : Hid (midV m m.n z = midTo m yy m.n) := by show _ = _; unfold midV; rw [if_pos hl, hyy]
    have HO := Lib.hid hO
    have HL := Lib.hid hl
    clear hl hO hlog hO0 hyy
    obtain ⟨i0, hi, hz0, hz1, hz2⟩ := info_parts infoInt
    have HI := Lib.hid hi
    have HZ0 := Lib.hid hz0
    have HZ1 := Lib.hid hz1
    have HZ2 := Lib.hid hz2
    clear hi hz0 hz1 hz2
    go_enter Tryd.func14, Tryd.ntmps14
    go_wp2_with fail
    generalize w.alloc (.cells #[.slice ua m.n l.cap, .slice na m.n nc] 26) = W at h1 hX q0 q1 hsz ⊢
    have hown0 : (W.alloc (.cells #[] 3)).ownsRow (w.heap.size + 1) 3 1 (.slice (some ⟨w.heap.size + 1, 0, none⟩) 0 0) 0 [] := by
      rw [← hsz]
      exact World.ownsRow_lit (base := W.heap.size) (e := 3) (size := 1) W #[] 0 (Nat.le_refl _) (Nat.zero_le _) rfl
    have hb1 := (Below.refl W.heap.size W).alloc (Nat.le_refl _) (.cells #[] 3)
    clear q0 q1
    go_loopw [3, 4] (fun v i wr => ∃ j : Nat, j ≤ m.n ∧ i = .int .i64 j ∧ wr.ownsRow (w.heap.size + 1) 3 1 v (midTo m yy j).length ((midTo m yy j).map (Value.int .i64)) ∧ Below W.heap.size W wr) (fun _ i _ => m.n - (intOf i).toNat)
    case atStart => exact ⟨0, Nat.zero_le _, rfl, hown0, hb1⟩
    case round =>
      clear hown0 hb1
      obtain ⟨j, hj, rfl, hown, hD⟩ := hrel
      have hXr := hX.step hD
      have hr := Lib.hid (h1.out.step hD)
      have q0 := hXr.cell 0 rfl
      have q1 := hXr.cell 1 rfl
      by_cases hlt : j < m.n
      · have hlt' : (j : Int) < m.n := by omega
        have hs := hD.size
        go_wp2_with fail
        go_at_call 26
        refine (spec_LogicOk hr.out).mono ?_
        rintro e w2 ⟨rfl, b2⟩
        rw [HL.out]
        have hD2 := hD.trans (b2.mono hD.size)
        have hown2 := ownsRow_below hown b2 (Nat.le_refl _)
        clear q0 q1 hr hXr hD hown
        go_wp2_with fail
        go_loopw [5, 6] (fun t i wi => ∃ b : Nat, b ≤ m.n ∧ i = .int .i64 b ∧ t = .bool (midP m yy j b) ∧ Below w2.heap.size w2 wi) (fun _ i _ => m.n - (intOf i).toNat)
        case atStart => exact ⟨0, Nat.zero_le _, rfl, rfl, Below.refl _ _⟩
        case round =>
          obtain ⟨b, hbn, rfl, rfl, hT⟩ := hrel
          have hD := hD2.trans (hT.mono hD2.size)
          have hXi := hX.step hD
          have r0 := hXi.cell 0 rfl
          have r1 := hXi.cell 1 rfl
          by_cases hbt : b < m.n
          · have hbt' : (b : Int) < m.n := by omega
            have hri := Lib.hid (h1.out.step hD)
            have HS : Hid (midP m yy j (b + 1) = (midP m yy j b && (agB m yy j b && agB m yy b j))) := allB_step
            cases g0 : midP m yy j b with
            | false =>
              rw [g0] at HS
              clear g0
              go_wp2_with fail
              go_roundw
              case rel => exact ⟨b + 1, by omega, by go_num, by rw [HS.out]; rfl, hT⟩
              case measure => simp [intOf]; omega
            | true =>
              rw [g0] at HS
              clear g0
              go_wp2_with fail
              go_at_call 53
              refine (l5With_any hri.out HO.out hlt hbt).mono ?_
              rintro e w3 ⟨rfl, b3⟩
              have hT3 := hT.trans (b3.mono hT.size)
              have hD3 := hD2.trans (hT3.mono hD2.size)
              have hX3 := hX.step hD3
              have hr3 := Lib.hid (h1.out.step hD3)
              have p0 := hX3.cell 0 rfl
              have p1 := hX3.cell 1 rfl
              clear r0 r1 hri hXi hD hT
              cases g1 : agB m yy j b with
              | false =>
                rw [g1] at HS
                clear g1
                go_wp2_with fail
                go_roundw
                case rel => exact ⟨b + 1, by omega, by go_num, by rw [HS.out]; rfl, hT3⟩
                case measure => simp [intOf]; omega
              | true =>
                rw [g1] at HS
                clear g1
                go_wp2_with fail
                go_at_call 53
                refine (l5With_any hr3.out HO.out hbt hlt).mono ?_
                rintro e w4 ⟨rfl, b4⟩
                have hT4 := hT3.trans (b4.mono hT3.size)
                clear p0 p1 hr3 hX3 hD3
                go_wp2_with fail
                go_roundw
                case rel => exact ⟨b + 1, by omega, by go_num, by rw [HS.out, Bool.true_and, Bool.true_and], hT4⟩
                case measure => simp [intOf]; omega
          · have hbt' : ¬ (b : Int) < m.n := by omega
            have hMP : Hid (midP m yy j b = midB m yy j) := by
              show _ = _
              have e : b = m.n := by omega
              rw [e]
              rfl
            have hown5 := ownsRow_below hown2 hT (Nat.le_refl _)
            have hlen := midTo_len m yy j
            have hDs := hD.size
            clear hD2 hT hown2
            rw [hMP.out]
            cases g0 : midB m yy j with
            | false =>
              have HN := Lib.hid (midTo_no g0)
              clear g0
              go_wp2_with fail
              go_roundw
              case rel => exact ⟨j + 1, by omega, by go_num, by rw [HN.out]; exact hown5, hD⟩
              case measure => simp [intOf]; omega
            | true =>
              have HN := Lib.hid (midTo_yes g0)
              clear g0
              go_wp2_with (at_builtin; refine wpList_append_own _ rfl _ _ 24 rfl (w.heap.size + 1) 3 i0 (.int .i64 0) 1 8 Tryd.underlying24 HI.out HZ0.out HZ1.out HZ2.out rfl (by decide) _ _ _ rfl (hown5.alloc _) ⟨wr.heap.size, 0, none⟩ 1 1 [.int .i64 j] rfl rfl (cell_one_new _ _ _) ?c2 ?c3 ?c4 ?c5 ?_)
              case c2 => simp [Value.oneCell']
              case c3 => unfold maxLen; omega
              case c4 => omega
              case c5 => first | omega | (simp; omega)
              intro v' w4 hown4 hgrow _
              have HO4 : Hid (w4.ownsRow (w.heap.size + 1) 3 1 v' (midTo m yy (j + 1)).length ((midTo m yy (j + 1)).map (Value.int .i64))) := by
                show World.ownsRow _ _ _ _ _ _ _
                rw [HN.out, List.length_append, List.map_append]
                exact hown4
              have hW4 := (hD.alloc hDs (.cells #[.int .i64 j] 3)).grown hgrow (by simp; omega) (fun c hc => by have := ownsRow_block hown5 c hc; omega)
              clear hown4 hgrow hown5 hD
              go_wp2_with fail
              go_roundw
              case rel => exact ⟨j + 1, by omega, by go_num, HO4.out, hW4⟩
              case measure => simp [intOf]; omega
      · have hlt' : ¬ (j : Int) < m.n := by omega
        have HK : Hid (j = m.n) := by show _ = _; omega
        go_wp2_with fail
        go_ret
        exact ⟨_, rfl, by rw [HV.out, ← HK.out]; exact ownsRow_base hown (Nat.le_succ _), hXr.below⟩
end Go.Proofs.YtnbglbhfclohjaaDoor
namespace Go.Proofs.YtnbglbhfclohjaaDoor
open Go.RowKit Go.Deep

/-- The algebra of a logic lies in memory, and its rows and opposites. -/
structure AL (w : World) (B ob tb : Nat) (tG : Nat → Nat) (ua : Option Addr) (l : Lay) (m : Mx) (g o : Nat) (z : Nat → Int) (y : Nat → Nat) (n0 : Nat) : Prop where
  A : Alg w ob tb tG ua l m
  S : SqAt w B ua l m
  R : RowAt w B (some ⟨g, o, none⟩) g o m.n z
  O : Ortho m z y n0
theorem AL.step {w w' : World} {B ob tb g o n0 : Nat} {tG : Nat → Nat} {ua : Option Addr} {l : Lay} {m : Mx} {z : Nat → Int} {y : Nat → Nat} (h : AL w B ob tb tG ua l m g o z y n0) (hb : Below w.heap.size w w') : AL w' B ob tb tG ua l m g o z y n0 :=
  ⟨h.A.step hb, h.S.step hb, h.R.below (hb.mono h.S.hB), h.O⟩
theorem AL.notAt {w : World} {B ob tb g o n0 b : Nat} {tG : Nat → Nat} {ua : Option Addr} {l : Lay} {m : Mx} {z : Nat → Int} {y : Nat → Nat} (h : AL w B ob tb tG ua l m g o z y n0) (hb : b < m.n) : w.cell? ⟨g, o + b, none⟩ = some (.int .i64 ((y b : Nat) : Int)) := by
  have := (h.R.row b hb).2.2
  rw [h.O.zy b hb] at this
  exact this
theorem AL.of {w : World} {B ob tb g o n0 : Nat} {tG : Nat → Nat} {ua na : Option Addr} {l : Lay} {m : Mx} {z : Nat → Int} {y : Nat → Nat} (hA : Alg w ob tb tG ua l m) (h : LogAt w B ua l m na g o m.n z) (hO : Ortho m z y n0) :
    na = some ⟨g, o, none⟩ ∧ AL w B ob tb tG ua l m g o z y n0 := by
  have hp := hO.lat.order.pos
  obtain ⟨rfl, _, _⟩ := h.row.row 0 (by omega)
  exact ⟨rfl, hA, h.sq hO.lat.order, h.row, hO⟩
theorem meetA {w : World} {B ob tb g o nc n0 a b : Nat} {tG : Nat → Nat} {ua : Option Addr} {l : Lay} {m : Mx} {z : Nat → Int} {y : Nat → Nat} (h : AL w B ob tb tG ua l m g o z y n0) (ha : a < m.n) (hb : b < m.n) :
    Calls Tryd.prog 62 #[.agg #[.slice ua m.n l.cap, .slice (some ⟨g, o, none⟩) m.n nc, .slice (some ⟨ob, 0, none⟩) 2 2], .int .i64 0, .int .i64 a, .int .i64 b] w fun e w' => e = .returned (.int .i64 ((mN m a b : Nat) : Int)) ∧ Below w.heap.size w w' := by
  have e := made_meet (na := some ⟨g, o, none⟩) (k := m.n) (nc := nc) h.A h.S ha hb
  unfold algV at e
  rw [h.O.mI ha hb] at e
  exact e
theorem joinA {w : World} {B ob tb g o nc n0 a b : Nat} {tG : Nat → Nat} {ua : Option Addr} {l : Lay} {m : Mx} {z : Nat → Int} {y : Nat → Nat} (h : AL w B ob tb tG ua l m g o z y n0) (ha : a < m.n) (hb : b < m.n) :
    Calls Tryd.prog 62 #[.agg #[.slice ua m.n l.cap, .slice (some ⟨g, o, none⟩) m.n nc, .slice (some ⟨ob, 0, none⟩) 2 2], .int .i64 1, .int .i64 a, .int .i64 b] w fun e w' => e = .returned (.int .i64 ((jN m a b : Nat) : Int)) ∧ Below w.heap.size w w' := by
  have e := made_join (na := some ⟨g, o, none⟩) (k := m.n) (nc := nc) h.A h.S ha hb
  unfold algV at e
  rw [h.O.jI ha hb] at e
  exact e
theorem AL.mlt {w : World} {B ob tb g o n0 a b : Nat} {tG : Nat → Nat} {ua : Option Addr} {l : Lay} {m : Mx} {z : Nat → Int} {y : Nat → Nat} (h : AL w B ob tb tG ua l m g o z y n0) (ha : a < m.n) (hb : b < m.n) : mN m a b < m.n := (h.O.mG ha hb).lt
theorem AL.jlt {w : World} {B ob tb g o n0 a b : Nat} {tG : Nat → Nat} {ua : Option Addr} {l : Lay} {m : Mx} {z : Nat → Int} {y : Nat → Nat} (h : AL w B ob tb tG ua l m g o z y n0) (ha : a < m.n) (hb : b < m.n) : jN m a b < m.n := (h.O.jG ha hb).lt
def takN (m : Mx) (y : Nat → Nat) (a b : Nat) : Nat := jN m (mN m a b) (mN m a (y b))
theorem agB_tak (m : Mx) (y : Nat → Nat) (a b : Nat) : agB m y a b = decide (takN m y a b = a) := rfl
theorem apN_tak (m : Mx) (y : Nat → Nat) (a b : Nat) : apN m y a b = jN m (takN m y a b) (takN m y (y a) b) := rfl

set_option maxRecDepth 100000 in
set_option maxHeartbeats 2000000 in
theorem takenApart_any {w : World} {B ob tb g o nc n0 a b : Nat} {tG : Nat → Nat} {ua : Option Addr} {l : Lay} {m : Mx} {z : Nat → Int} {y : Nat → Nat} (h : AL w B ob tb tG ua l m g o z y n0) (ha : a < m.n) (hb : b < m.n) :
    Calls Tryd.prog 104 #[.agg #[.slice ua m.n l.cap, .slice (some ⟨g, o, none⟩) m.n nc, .slice (some ⟨ob, 0, none⟩) 2 2], .int .i64 a, .int .i64 b] w fun e w' => e = .returned (.int .i64 ((takN m y a b : Nat) : Int)) ∧ Below w.heap.size w w' := by
  have hY := BoxN.start w #[.slice ua m.n l.cap, .slice (some ⟨g, o, none⟩) m.n nc, .slice (some ⟨ob, 0, none⟩) 2 2] 58
  have hL := Lib.hid (h.step hY.below)
  have ha' : (a : Int) < m.n := by omega
  have hb' : (b : Int) < m.n := by omega
  have hyb := h.O.lt b hb
  have hm1 := h.mlt ha hb
  have hm2 := h.mlt ha hyb
  clear h
  go_enter Tryd.func104, Tryd.ntmps104
  go_wp2_with fail
  generalize w.alloc (.cells #[.slice ua m.n l.cap, .slice (some ⟨g, o, none⟩) m.n nc, .slice (some ⟨ob, 0, none⟩) 2 2] 58) = W at hY hL ⊢
  have hY0 := hY.step (Below.refl _ W).drew
  have hL0 := Lib.hid (hL.out.step (Below.refl _ W).drew)
  have hS0 : (fun w' => (((w'.cell? ⟨w.heap.size, 0, none⟩ = some (.slice ua m.n l.cap) ∧ w'.cell? ⟨w.heap.size, 1, none⟩ = some (.slice (some ⟨g, o, none⟩) m.n nc)) ∧ w'.cell? ⟨w.heap.size, 2, none⟩ = some (.slice (some ⟨ob, 0, none⟩) 2 2)) ∧ w'.cell? ⟨g, o + b, none⟩ = some (.int .i64 ((y b : Nat) : Int)))) W.drew := ⟨⟨⟨hY0.cell 0 rfl, hY0.cell 1 rfl⟩, hY0.cell 2 rfl⟩, hL0.out.notAt hb⟩
  clear hY hL
  refine region_plain (fuel := 15) (listed := #[false, false, false, false, false, false, false, false, false, false, false, false, false, false, false]) (fun w' => (((w'.cell? ⟨w.heap.size, 0, none⟩ = some (.slice ua m.n l.cap) ∧ w'.cell? ⟨w.heap.size, 1, none⟩ = some (.slice (some ⟨g, o, none⟩) m.n nc)) ∧ w'.cell? ⟨w.heap.size, 2, none⟩ = some (.slice (some ⟨ob, 0, none⟩) 2 2)) ∧ w'.cell? ⟨g, o + b, none⟩ = some (.int .i64 ((y b : Nat) : Int)))) (by kernel_rfl) (by kernel_rfl) (by kernel_rfl) ?_
  refine hold_take (i := 0) (d := 7) (v := ?va0) (listed' := #[true, false, false, false, false, false, false, false, false, false, false, false, false, false, false]) rfl (by kernel_rfl) (by kernel_rfl) (by kernel_rfl) rfl (by rfl) (by kernel_rfl) hS0 ?ha0 ?ra0
  case ha0 =>
    intro w' hSw
    obtain ⟨⟨⟨k0, k1⟩, k2⟩, k3⟩ := hSw
    go_simp
    try with_reducible rfl
  simp only [List.setIfInBounds_toArray, List.set_cons_zero, List.set_cons_succ]
  refine hold_take (i := 1) (d := 8) (v := ?va1) (listed' := #[true, true, false, false, false, false, false, false, false, false, false, false, false, false, false]) rfl (by kernel_rfl) (by kernel_rfl) (by kernel_rfl) rfl (by rfl) (by kernel_rfl) hS0 ?ha1 ?ra1
  case ha1 =>
    intro w' hSw
    obtain ⟨⟨⟨k0, k1⟩, k2⟩, k3⟩ := hSw
    go_simp
    try with_reducible rfl
  simp only [List.setIfInBounds_toArray, List.set_cons_zero, List.set_cons_succ]
  refine hold_take (i := 2) (d := 9) (v := ?va2) (listed' := #[true, true, true, false, false, false, false, false, false, false, false, false, false, false, false]) rfl (by kernel_rfl) (by kernel_rfl) (by kernel_rfl) rfl (by rfl) (by kernel_rfl) hS0 ?ha2 ?ra2
  case ha2 =>
    intro w' hSw
    obtain ⟨⟨⟨k0, k1⟩, k2⟩, k3⟩ := hSw
    go_simp
    try with_reducible rfl
  simp only [List.setIfInBounds_toArray, List.set_cons_zero, List.set_cons_succ]
  refine hold_take (i := 3) (d := 10) (v := ?va3) (listed' := #[true, true, true, true, false, false, false, false, false, false, false, false, false, false, false]) rfl (by kernel_rfl) (by kernel_rfl) (by kernel_rfl) rfl (by rfl) (by kernel_rfl) hS0 ?ha3 ?ra3
  case ha3 =>
    intro w' hSw
    obtain ⟨⟨⟨k0, k1⟩, k2⟩, k3⟩ := hSw
    go_simp
    try with_reducible rfl
  simp only [List.setIfInBounds_toArray, List.set_cons_zero, List.set_cons_succ]
  refine hold_take (i := 5) (d := 12) (v := ?va5) (listed' := #[true, true, true, true, false, true, false, false, false, false, false, false, false, false, false]) rfl (by kernel_rfl) (by kernel_rfl) (by kernel_rfl) rfl (by rfl) (by kernel_rfl) hS0 ?ha5 ?ra5
  case ha5 =>
    intro w' hSw
    obtain ⟨⟨⟨k0, k1⟩, k2⟩, k3⟩ := hSw
    go_simp
    try with_reducible rfl
  simp only [List.setIfInBounds_toArray, List.set_cons_zero, List.set_cons_succ]
  refine hold_take (i := 6) (d := 13) (v := ?va6) (listed' := #[true, true, true, true, false, true, true, false, false, false, false, false, false, false, false]) rfl (by kernel_rfl) (by kernel_rfl) (by kernel_rfl) rfl (by rfl) (by kernel_rfl) hS0 ?ha6 ?ra6
  case ha6 =>
    intro w' hSw
    obtain ⟨⟨⟨k0, k1⟩, k2⟩, k3⟩ := hSw
    go_simp
    try with_reducible rfl
  simp only [List.setIfInBounds_toArray, List.set_cons_zero, List.set_cons_succ]
  refine hold_take (i := 7) (d := 14) (v := ?va7) (listed' := #[true, true, true, true, false, true, true, true, false, false, false, false, false, false, false]) rfl (by kernel_rfl) (by kernel_rfl) (by kernel_rfl) rfl (by rfl) (by kernel_rfl) hS0 ?ha7 ?ra7
  case ha7 =>
    intro w' hSw
    obtain ⟨⟨⟨k0, k1⟩, k2⟩, k3⟩ := hSw
    go_simp
    try with_reducible rfl
  simp only [List.setIfInBounds_toArray, List.set_cons_zero, List.set_cons_succ]
  refine hold_take (i := 8) (d := 15) (v := ?va8) (listed' := #[true, true, true, true, false, true, true, true, true, false, false, false, false, false, false]) rfl (by kernel_rfl) (by kernel_rfl) (by kernel_rfl) rfl (by rfl) (by kernel_rfl) hS0 ?ha8 ?ra8
  case ha8 =>
    intro w' hSw
    obtain ⟨⟨⟨k0, k1⟩, k2⟩, k3⟩ := hSw
    go_simp
    try with_reducible rfl
  simp only [List.setIfInBounds_toArray, List.set_cons_zero, List.set_cons_succ]
  refine hold_take (i := 9) (d := 16) (v := ?va9) (listed' := #[true, true, true, true, false, true, true, true, true, true, false, false, false, false, false]) rfl (by kernel_rfl) (by kernel_rfl) (by kernel_rfl) rfl (by rfl) (by kernel_rfl) hS0 ?ha9 ?ra9
  case ha9 =>
    intro w' hSw
    obtain ⟨⟨⟨k0, k1⟩, k2⟩, k3⟩ := hSw
    go_simp
    try with_reducible rfl
  simp only [List.setIfInBounds_toArray, List.set_cons_zero, List.set_cons_succ]
  refine hold_take (i := 10) (d := 17) (v := ?va10) (listed' := #[true, true, true, true, false, true, true, true, true, true, true, false, false, false, false]) rfl (by kernel_rfl) (by kernel_rfl) (by kernel_rfl) rfl (by rfl) (by kernel_rfl) hS0 ?ha10 ?ra10
  case ha10 =>
    intro w' hSw
    obtain ⟨⟨⟨k0, k1⟩, k2⟩, k3⟩ := hSw
    go_simp
    try with_reducible rfl
  simp only [List.setIfInBounds_toArray, List.set_cons_zero, List.set_cons_succ]
  refine hold_take (i := 11) (d := 18) (v := ?va11) (listed' := #[true, true, true, true, false, true, true, true, true, true, true, true, false, false, false]) rfl (by kernel_rfl) (by kernel_rfl) (by kernel_rfl) rfl (by rfl) (by kernel_rfl) hS0 ?ha11 ?ra11
  case ha11 =>
    intro w' hSw
    obtain ⟨⟨⟨k0, k1⟩, k2⟩, k3⟩ := hSw
    go_simp
    try with_reducible rfl
  simp only [List.setIfInBounds_toArray, List.set_cons_zero, List.set_cons_succ]
  refine hold_call (i := 4) (d := 11) (listed' := #[true, true, true, true, true, true, true, true, true, true, true, true, false, false, false]) rfl (by kernel_rfl) rfl (by rfl) (by kernel_rfl) ?hea4 (meetA (nc := nc) hL0.out ha hb) ?hca4
  case hea4 => go_simp
  rintro e x1 ⟨rfl, bb1⟩
  have hY1 := hY0.step bb1
  have hL1 := Lib.hid (hL0.out.step bb1)
  have hS1 : (fun w' => (((w'.cell? ⟨w.heap.size, 0, none⟩ = some (.slice ua m.n l.cap) ∧ w'.cell? ⟨w.heap.size, 1, none⟩ = some (.slice (some ⟨g, o, none⟩) m.n nc)) ∧ w'.cell? ⟨w.heap.size, 2, none⟩ = some (.slice (some ⟨ob, 0, none⟩) 2 2)) ∧ w'.cell? ⟨g, o + b, none⟩ = some (.int .i64 ((y b : Nat) : Int)))) x1 := ⟨⟨⟨hY1.cell 0 rfl, hY1.cell 1 rfl⟩, hY1.cell 2 rfl⟩, hL1.out.notAt hb⟩
  clear hS0 hL0 hY0 bb1
  refine ⟨_, rfl, hS1, ?_⟩
  simp only [List.setIfInBounds_toArray, List.set_cons_zero, List.set_cons_succ]
  refine hold_call (i := 12) (d := 19) (listed' := #[true, true, true, true, true, true, true, true, true, true, true, true, true, false, false]) rfl (by kernel_rfl) rfl (by rfl) (by kernel_rfl) ?hea12 (meetA (nc := nc) hL1.out ha hyb) ?hca12
  case hea12 => go_simp
  rintro e x2 ⟨rfl, bb2⟩
  have hY2 := hY1.step bb2
  have hL2 := Lib.hid (hL1.out.step bb2)
  have hS2 : (fun w' => (((w'.cell? ⟨w.heap.size, 0, none⟩ = some (.slice ua m.n l.cap) ∧ w'.cell? ⟨w.heap.size, 1, none⟩ = some (.slice (some ⟨g, o, none⟩) m.n nc)) ∧ w'.cell? ⟨w.heap.size, 2, none⟩ = some (.slice (some ⟨ob, 0, none⟩) 2 2)) ∧ w'.cell? ⟨g, o + b, none⟩ = some (.int .i64 ((y b : Nat) : Int)))) x2 := ⟨⟨⟨hY2.cell 0 rfl, hY2.cell 1 rfl⟩, hY2.cell 2 rfl⟩, hL2.out.notAt hb⟩
  clear hS1 hL1 hY1 bb2
  refine ⟨_, rfl, hS2, ?_⟩
  simp only [List.setIfInBounds_toArray, List.set_cons_zero, List.set_cons_succ]
  refine hold_call (i := 13) (d := 20) (listed' := #[true, true, true, true, true, true, true, true, true, true, true, true, true, true, false]) rfl (by kernel_rfl) rfl (by rfl) (by kernel_rfl) ?hea13 (joinA (nc := nc) hL2.out hm1 hm2) ?hca13
  case hea13 => go_simp
  rintro e x3 ⟨rfl, bb3⟩
  have hY3 := hY2.step bb3
  have hL3 := Lib.hid (hL2.out.step bb3)
  have hS3 : (fun w' => (((w'.cell? ⟨w.heap.size, 0, none⟩ = some (.slice ua m.n l.cap) ∧ w'.cell? ⟨w.heap.size, 1, none⟩ = some (.slice (some ⟨g, o, none⟩) m.n nc)) ∧ w'.cell? ⟨w.heap.size, 2, none⟩ = some (.slice (some ⟨ob, 0, none⟩) 2 2)) ∧ w'.cell? ⟨g, o + b, none⟩ = some (.int .i64 ((y b : Nat) : Int)))) x3 := ⟨⟨⟨hY3.cell 0 rfl, hY3.cell 1 rfl⟩, hY3.cell 2 rfl⟩, hL3.out.notAt hb⟩
  clear hS2 hL2 hY2 bb3
  refine ⟨_, rfl, hS3, ?_⟩
  simp only [List.setIfInBounds_toArray, List.set_cons_zero, List.set_cons_succ]
  refine hold_take (i := 14) (d := 6) (v := ?va14) (listed' := #[true, true, true, true, true, true, true, true, true, true, true, true, true, true, true]) rfl (by kernel_rfl) (by kernel_rfl) (by kernel_rfl) rfl (by rfl) (by kernel_rfl) hS3 ?ha14 ?ra14
  case ha14 =>
    intro w' hSw
    obtain ⟨⟨⟨k0, k1⟩, k2⟩, k3⟩ := hSw
    go_simp
    try with_reducible rfl
  simp only [List.setIfInBounds_toArray, List.set_cons_zero, List.set_cons_succ]
  refine hold_done (by kernel_rfl) ?_ _
  go_wp2_with fail
  go_ret
  exact ⟨rfl, hY3.below⟩

noncomputable def apV (m : Mx) (k : Nat) (z : Nat → Int) (x v : Int) : Int := if (logicB m k z && goodB m.n 2 (two x v)) = true then ((apN m (fun a => (z a).toNat) x.toNat v.toNat : Nat) : Int) else -1

def three (a b c : Int) : Nat → Int := fun i => if i = 0 then a else if i = 1 then b else c
theorem three_at (w : World) (a b c : Int) : RowAt (w.alloc (.cells #[.int .i64 a, .int .i64 b, .int .i64 c] 3)) (w.heap.size + 1) (some ⟨w.heap.size, 0, none⟩) w.heap.size 0 3 (three a b c) :=
  ⟨fun i hi => ⟨rfl, by omega, by
    rcases (show i = 0 ∨ i = 1 ∨ i = 2 by omega) with rfl | rfl | rfl
    · simp [three]
    · simp [three]
    · simp [three]⟩⟩
theorem good_three {n : Nat} {a b c : Int} : goodB n 3 (three a b c) = (goodB n 2 (two a b) && goodB n 2 (two a c)) := by
  rw [Bool.eq_iff_iff, Bool.and_eq_true]
  constructor
  · intro h
    have h0 := allB_is h 0 (by omega)
    have h1 := allB_is h 1 (by omega)
    have h2 := allB_is h 2 (by omega)
    simp [three] at h0 h1 h2
    exact ⟨good_mk (by omega) (by omega) (by omega) (by omega), good_mk (by omega) (by omega) (by omega) (by omega)⟩
  · rintro ⟨h1, h2⟩
    obtain ⟨a0, a1, b0, b1⟩ := good_two h1
    obtain ⟨_, _, c0, c1⟩ := good_two h2
    exact allB_true fun i hi => by
      rcases (show i = 0 ∨ i = 1 ∨ i = 2 by omega) with rfl | rfl | rfl
      · simp [three]; omega
      · simp [three]; omega
      · simp [three]; omega
theorem split_tests {L A C : Bool} : (L && (A && C)) = ((L && A) && (L && C)) := by cases L <;> cases A <;> cases C <;> rfl

set_option maxRecDepth 100000 in
set_option maxHeartbeats 2000000 in
theorem splits_any {w : World} {B ob tb g o nc n0 a b d : Nat} {tG : Nat → Nat} {ua : Option Addr} {l : Lay} {m : Mx} {z : Nat → Int} {y : Nat → Nat} (h : AL w B ob tb tG ua l m g o z y n0) (ha : a < m.n) (hb : b < m.n) (hd : d < m.n) :
    Calls Tryd.prog 81 #[.agg #[.slice ua m.n l.cap, .slice (some ⟨g, o, none⟩) m.n nc, .slice (some ⟨ob, 0, none⟩) 2 2], .int .i64 a, .int .i64 b, .int .i64 d] w fun e w' => e = .returned (.bool (splitB m a b d)) ∧ Below w.heap.size w w' := by
  have hY := BoxN.start w #[.slice ua m.n l.cap, .slice (some ⟨g, o, none⟩) m.n nc, .slice (some ⟨ob, 0, none⟩) 2 2] 58
  have hL := Lib.hid (h.step hY.below)
  have hm1 := h.mlt ha hb
  have hm2 := h.mlt ha hd
  have hj := h.jlt hb hd
  clear h
  go_enter Tryd.func81, Tryd.ntmps81
  go_wp2_with fail
  generalize w.alloc (.cells #[.slice ua m.n l.cap, .slice (some ⟨g, o, none⟩) m.n nc, .slice (some ⟨ob, 0, none⟩) 2 2] 58) = W at hY hL ⊢
  have hY0 := hY.step (Below.refl _ W).drew
  have hL0 := Lib.hid (hL.out.step (Below.refl _ W).drew)
  have hS0 : (fun w' => ((w'.cell? ⟨w.heap.size, 0, none⟩ = some (.slice ua m.n l.cap) ∧ w'.cell? ⟨w.heap.size, 1, none⟩ = some (.slice (some ⟨g, o, none⟩) m.n nc)) ∧ w'.cell? ⟨w.heap.size, 2, none⟩ = some (.slice (some ⟨ob, 0, none⟩) 2 2))) W.drew := ⟨⟨hY0.cell 0 rfl, hY0.cell 1 rfl⟩, hY0.cell 2 rfl⟩
  clear hY hL
  refine region_plain (fuel := 8) (listed := #[false, false, false, false, false, false, false, false]) (fun w' => ((w'.cell? ⟨w.heap.size, 0, none⟩ = some (.slice ua m.n l.cap) ∧ w'.cell? ⟨w.heap.size, 1, none⟩ = some (.slice (some ⟨g, o, none⟩) m.n nc)) ∧ w'.cell? ⟨w.heap.size, 2, none⟩ = some (.slice (some ⟨ob, 0, none⟩) 2 2))) (by kernel_rfl) (by kernel_rfl) (by kernel_rfl) ?_
  refine hold_take (i := 0) (d := 10) (v := ?va0) (listed' := #[true, false, false, false, false, false, false, false]) rfl (by kernel_rfl) (by kernel_rfl) (by kernel_rfl) rfl (by rfl) (by kernel_rfl) hS0 ?ha0 ?ra0
  case ha0 =>
    intro w' hSw
    obtain ⟨⟨k0, k1⟩, k2⟩ := hSw
    go_simp
    try with_reducible rfl
  simp only [List.setIfInBounds_toArray, List.set_cons_zero, List.set_cons_succ]
  refine hold_take (i := 1) (d := 11) (v := ?va1) (listed' := #[true, true, false, false, false, false, false, false]) rfl (by kernel_rfl) (by kernel_rfl) (by kernel_rfl) rfl (by rfl) (by kernel_rfl) hS0 ?ha1 ?ra1
  case ha1 =>
    intro w' hSw
    obtain ⟨⟨k0, k1⟩, k2⟩ := hSw
    go_simp
    try with_reducible rfl
  simp only [List.setIfInBounds_toArray, List.set_cons_zero, List.set_cons_succ]
  refine hold_take (i := 2) (d := 12) (v := ?va2) (listed' := #[true, true, true, false, false, false, false, false]) rfl (by kernel_rfl) (by kernel_rfl) (by kernel_rfl) rfl (by rfl) (by kernel_rfl) hS0 ?ha2 ?ra2
  case ha2 =>
    intro w' hSw
    obtain ⟨⟨k0, k1⟩, k2⟩ := hSw
    go_simp
    try with_reducible rfl
  simp only [List.setIfInBounds_toArray, List.set_cons_zero, List.set_cons_succ]
  refine hold_take (i := 3) (d := 13) (v := ?va3) (listed' := #[true, true, true, true, false, false, false, false]) rfl (by kernel_rfl) (by kernel_rfl) (by kernel_rfl) rfl (by rfl) (by kernel_rfl) hS0 ?ha3 ?ra3
  case ha3 =>
    intro w' hSw
    obtain ⟨⟨k0, k1⟩, k2⟩ := hSw
    go_simp
    try with_reducible rfl
  simp only [List.setIfInBounds_toArray, List.set_cons_zero, List.set_cons_succ]
  refine hold_take (i := 4) (d := 14) (v := ?va4) (listed' := #[true, true, true, true, true, false, false, false]) rfl (by kernel_rfl) (by kernel_rfl) (by kernel_rfl) rfl (by rfl) (by kernel_rfl) hS0 ?ha4 ?ra4
  case ha4 =>
    intro w' hSw
    obtain ⟨⟨k0, k1⟩, k2⟩ := hSw
    go_simp
    try with_reducible rfl
  simp only [List.setIfInBounds_toArray, List.set_cons_zero, List.set_cons_succ]
  refine hold_call (i := 5) (d := 15) (listed' := #[true, true, true, true, true, true, false, false]) rfl (by kernel_rfl) rfl (by rfl) (by kernel_rfl) ?hea5 (joinA (nc := nc) hL0.out hb hd) ?hca5
  case hea5 => go_simp
  rintro e x1 ⟨rfl, bb1⟩
  have hY1 := hY0.step bb1
  have hL1 := Lib.hid (hL0.out.step bb1)
  have hS1 : (fun w' => ((w'.cell? ⟨w.heap.size, 0, none⟩ = some (.slice ua m.n l.cap) ∧ w'.cell? ⟨w.heap.size, 1, none⟩ = some (.slice (some ⟨g, o, none⟩) m.n nc)) ∧ w'.cell? ⟨w.heap.size, 2, none⟩ = some (.slice (some ⟨ob, 0, none⟩) 2 2))) x1 := ⟨⟨hY1.cell 0 rfl, hY1.cell 1 rfl⟩, hY1.cell 2 rfl⟩
  clear hS0 hL0 hY0 bb1
  refine ⟨_, rfl, hS1, ?_⟩
  simp only [List.setIfInBounds_toArray, List.set_cons_zero, List.set_cons_succ]
  refine hold_call (i := 6) (d := 16) (listed' := #[true, true, true, true, true, true, true, false]) rfl (by kernel_rfl) rfl (by rfl) (by kernel_rfl) ?hea6 (meetA (nc := nc) hL1.out ha hj) ?hca6
  case hea6 => go_simp
  rintro e x2 ⟨rfl, bb2⟩
  have hY2 := hY1.step bb2
  have hL2 := Lib.hid (hL1.out.step bb2)
  have hS2 : (fun w' => ((w'.cell? ⟨w.heap.size, 0, none⟩ = some (.slice ua m.n l.cap) ∧ w'.cell? ⟨w.heap.size, 1, none⟩ = some (.slice (some ⟨g, o, none⟩) m.n nc)) ∧ w'.cell? ⟨w.heap.size, 2, none⟩ = some (.slice (some ⟨ob, 0, none⟩) 2 2))) x2 := ⟨⟨hY2.cell 0 rfl, hY2.cell 1 rfl⟩, hY2.cell 2 rfl⟩
  clear hS1 hL1 hY1 bb2
  refine ⟨_, rfl, hS2, ?_⟩
  simp only [List.setIfInBounds_toArray, List.set_cons_zero, List.set_cons_succ]
  refine hold_take (i := 7) (d := 9) (v := ?va7) (listed' := #[true, true, true, true, true, true, true, true]) rfl (by kernel_rfl) (by kernel_rfl) (by kernel_rfl) rfl (by rfl) (by kernel_rfl) hS2 ?ha7 ?ra7
  case ha7 =>
    intro w' hSw
    obtain ⟨⟨k0, k1⟩, k2⟩ := hSw
    go_simp
    try with_reducible rfl
  simp only [List.setIfInBounds_toArray, List.set_cons_zero, List.set_cons_succ]
  refine hold_done (by kernel_rfl) ?_ _
  go_wp2_with fail
  have hY3 := hY2.step (Below.refl _ x2).drew
  have hL3 := Lib.hid (hL2.out.step (Below.refl _ x2).drew)
  have hS3 : (fun w' => ((w'.cell? ⟨w.heap.size, 0, none⟩ = some (.slice ua m.n l.cap) ∧ w'.cell? ⟨w.heap.size, 1, none⟩ = some (.slice (some ⟨g, o, none⟩) m.n nc)) ∧ w'.cell? ⟨w.heap.size, 2, none⟩ = some (.slice (some ⟨ob, 0, none⟩) 2 2))) x2.drew := ⟨⟨hY3.cell 0 rfl, hY3.cell 1 rfl⟩, hY3.cell 2 rfl⟩
  clear hS2 hY2 hL2
  cases hk : splitB m a b d with
  | true =>
    have n1 : (((mN m a (jN m b d) : Nat) : Int) == ((jN m (mN m a b) (mN m a d) : Nat) : Int)) = true := by have := of_decide_eq_true hk; rw [this]; simp
    have HK := Lib.hid hk
    clear hk
    refine region_plain (fuel := 13) (listed := #[false, false, false, false, false, false, false, false, false, false, false, false, false]) (fun w' => ((w'.cell? ⟨w.heap.size, 0, none⟩ = some (.slice ua m.n l.cap) ∧ w'.cell? ⟨w.heap.size, 1, none⟩ = some (.slice (some ⟨g, o, none⟩) m.n nc)) ∧ w'.cell? ⟨w.heap.size, 2, none⟩ = some (.slice (some ⟨ob, 0, none⟩) 2 2))) (by kernel_rfl) (by kernel_rfl) (by kernel_rfl) ?_
    refine hold_take (i := 0) (d := 17) (v := ?vbt0) (listed' := #[true, false, false, false, false, false, false, false, false, false, false, false, false]) rfl (by kernel_rfl) (by kernel_rfl) (by kernel_rfl) rfl (by rfl) (by kernel_rfl) hS3 ?hbt0 ?rbt0
    case hbt0 =>
      intro w' hSw
      obtain ⟨⟨k0, k1⟩, k2⟩ := hSw
      go_simp
      try with_reducible rfl
    simp only [List.setIfInBounds_toArray, List.set_cons_zero, List.set_cons_succ]
    refine hold_take (i := 1) (d := 18) (v := ?vbt1) (listed' := #[true, true, false, false, false, false, false, false, false, false, false, false, false]) rfl (by kernel_rfl) (by kernel_rfl) (by kernel_rfl) rfl (by rfl) (by kernel_rfl) hS3 ?hbt1 ?rbt1
    case hbt1 =>
      intro w' hSw
      obtain ⟨⟨k0, k1⟩, k2⟩ := hSw
      go_simp
      try with_reducible rfl
    simp only [List.setIfInBounds_toArray, List.set_cons_zero, List.set_cons_succ]
    refine hold_take (i := 2) (d := 19) (v := ?vbt2) (listed' := #[true, true, true, false, false, false, false, false, false, false, false, false, false]) rfl (by kernel_rfl) (by kernel_rfl) (by kernel_rfl) rfl (by rfl) (by kernel_rfl) hS3 ?hbt2 ?rbt2
    case hbt2 =>
      intro w' hSw
      obtain ⟨⟨k0, k1⟩, k2⟩ := hSw
      go_simp
      try with_reducible rfl
    simp only [List.setIfInBounds_toArray, List.set_cons_zero, List.set_cons_succ]
    refine hold_take (i := 3) (d := 20) (v := ?vbt3) (listed' := #[true, true, true, true, false, false, false, false, false, false, false, false, false]) rfl (by kernel_rfl) (by kernel_rfl) (by kernel_rfl) rfl (by rfl) (by kernel_rfl) hS3 ?hbt3 ?rbt3
    case hbt3 =>
      intro w' hSw
      obtain ⟨⟨k0, k1⟩, k2⟩ := hSw
      go_simp
      try with_reducible rfl
    simp only [List.setIfInBounds_toArray, List.set_cons_zero, List.set_cons_succ]
    refine hold_take (i := 4) (d := 21) (v := ?vbt4) (listed' := #[true, true, true, true, true, false, false, false, false, false, false, false, false]) rfl (by kernel_rfl) (by kernel_rfl) (by kernel_rfl) rfl (by rfl) (by kernel_rfl) hS3 ?hbt4 ?rbt4
    case hbt4 =>
      intro w' hSw
      obtain ⟨⟨k0, k1⟩, k2⟩ := hSw
      go_simp
      try with_reducible rfl
    simp only [List.setIfInBounds_toArray, List.set_cons_zero, List.set_cons_succ]
    refine hold_take (i := 6) (d := 23) (v := ?vbt6) (listed' := #[true, true, true, true, true, false, true, false, false, false, false, false, false]) rfl (by kernel_rfl) (by kernel_rfl) (by kernel_rfl) rfl (by rfl) (by kernel_rfl) hS3 ?hbt6 ?rbt6
    case hbt6 =>
      intro w' hSw
      obtain ⟨⟨k0, k1⟩, k2⟩ := hSw
      go_simp
      try with_reducible rfl
    simp only [List.setIfInBounds_toArray, List.set_cons_zero, List.set_cons_succ]
    refine hold_take (i := 7) (d := 24) (v := ?vbt7) (listed' := #[true, true, true, true, true, false, true, true, false, false, false, false, false]) rfl (by kernel_rfl) (by kernel_rfl) (by kernel_rfl) rfl (by rfl) (by kernel_rfl) hS3 ?hbt7 ?rbt7
    case hbt7 =>
      intro w' hSw
      obtain ⟨⟨k0, k1⟩, k2⟩ := hSw
      go_simp
      try with_reducible rfl
    simp only [List.setIfInBounds_toArray, List.set_cons_zero, List.set_cons_succ]
    refine hold_take (i := 8) (d := 25) (v := ?vbt8) (listed' := #[true, true, true, true, true, false, true, true, true, false, false, false, false]) rfl (by kernel_rfl) (by kernel_rfl) (by kernel_rfl) rfl (by rfl) (by kernel_rfl) hS3 ?hbt8 ?rbt8
    case hbt8 =>
      intro w' hSw
      obtain ⟨⟨k0, k1⟩, k2⟩ := hSw
      go_simp
      try with_reducible rfl
    simp only [List.setIfInBounds_toArray, List.set_cons_zero, List.set_cons_succ]
    refine hold_call (i := 5) (d := 22) (listed' := #[true, true, true, true, true, true, true, true, true, false, false, false, false]) rfl (by kernel_rfl) rfl (by rfl) (by kernel_rfl) ?hebt5 (meetA (nc := nc) hL3.out ha hb) ?hcbt5
    case hebt5 => go_simp
    rintro e x4 ⟨rfl, bb4⟩
    have hY4 := hY3.step bb4
    have hL4 := Lib.hid (hL3.out.step bb4)
    have hS4 : (fun w' => ((w'.cell? ⟨w.heap.size, 0, none⟩ = some (.slice ua m.n l.cap) ∧ w'.cell? ⟨w.heap.size, 1, none⟩ = some (.slice (some ⟨g, o, none⟩) m.n nc)) ∧ w'.cell? ⟨w.heap.size, 2, none⟩ = some (.slice (some ⟨ob, 0, none⟩) 2 2))) x4 := ⟨⟨hY4.cell 0 rfl, hY4.cell 1 rfl⟩, hY4.cell 2 rfl⟩
    clear hS3 hL3 hY3 bb4
    refine ⟨_, rfl, hS4, ?_⟩
    simp only [List.setIfInBounds_toArray, List.set_cons_zero, List.set_cons_succ]
    refine hold_call (i := 9) (d := 26) (listed' := #[true, true, true, true, true, true, true, true, true, true, false, false, false]) rfl (by kernel_rfl) rfl (by rfl) (by kernel_rfl) ?hebt9 (meetA (nc := nc) hL4.out ha hd) ?hcbt9
    case hebt9 => go_simp
    rintro e x5 ⟨rfl, bb5⟩
    have hY5 := hY4.step bb5
    have hL5 := Lib.hid (hL4.out.step bb5)
    have hS5 : (fun w' => ((w'.cell? ⟨w.heap.size, 0, none⟩ = some (.slice ua m.n l.cap) ∧ w'.cell? ⟨w.heap.size, 1, none⟩ = some (.slice (some ⟨g, o, none⟩) m.n nc)) ∧ w'.cell? ⟨w.heap.size, 2, none⟩ = some (.slice (some ⟨ob, 0, none⟩) 2 2))) x5 := ⟨⟨hY5.cell 0 rfl, hY5.cell 1 rfl⟩, hY5.cell 2 rfl⟩
    clear hS4 hL4 hY4 bb5
    refine ⟨_, rfl, hS5, ?_⟩
    simp only [List.setIfInBounds_toArray, List.set_cons_zero, List.set_cons_succ]
    refine hold_call (i := 10) (d := 27) (listed' := #[true, true, true, true, true, true, true, true, true, true, true, false, false]) rfl (by kernel_rfl) rfl (by rfl) (by kernel_rfl) ?hebt10 (joinA (nc := nc) hL5.out hm1 hm2) ?hcbt10
    case hebt10 => go_simp
    rintro e x6 ⟨rfl, bb6⟩
    have hY6 := hY5.step bb6
    have hL6 := Lib.hid (hL5.out.step bb6)
    have hS6 : (fun w' => ((w'.cell? ⟨w.heap.size, 0, none⟩ = some (.slice ua m.n l.cap) ∧ w'.cell? ⟨w.heap.size, 1, none⟩ = some (.slice (some ⟨g, o, none⟩) m.n nc)) ∧ w'.cell? ⟨w.heap.size, 2, none⟩ = some (.slice (some ⟨ob, 0, none⟩) 2 2))) x6 := ⟨⟨hY6.cell 0 rfl, hY6.cell 1 rfl⟩, hY6.cell 2 rfl⟩
    clear hS5 hL5 hY5 bb6
    refine ⟨_, rfl, hS6, ?_⟩
    simp only [List.setIfInBounds_toArray, List.set_cons_zero, List.set_cons_succ]
    refine hold_take (i := 11) (d := 28) (v := ?vbt11) (listed' := #[true, true, true, true, true, true, true, true, true, true, true, true, false]) rfl (by kernel_rfl) (by kernel_rfl) (by kernel_rfl) rfl (by rfl) (by kernel_rfl) hS6 ?hbt11 ?rbt11
    case hbt11 =>
      intro w' hSw
      obtain ⟨⟨k0, k1⟩, k2⟩ := hSw
      go_simp
      try with_reducible rfl
    simp only [List.setIfInBounds_toArray, List.set_cons_zero, List.set_cons_succ]
    refine hold_take (i := 12) (d := 8) (v := ?vbt12) (listed' := #[true, true, true, true, true, true, true, true, true, true, true, true, true]) rfl (by kernel_rfl) (by kernel_rfl) (by kernel_rfl) rfl (by rfl) (by kernel_rfl) hS6 ?hbt12 ?rbt12
    case hbt12 =>
      intro w' hSw
      obtain ⟨⟨k0, k1⟩, k2⟩ := hSw
      go_simp
      try with_reducible rfl
    simp only [List.setIfInBounds_toArray, List.set_cons_zero, List.set_cons_succ]
    refine hold_done (by kernel_rfl) ?_ _
    go_wp2_with fail
    go_ret
    exact ⟨ret_bool HK.out.symm, hY6.below⟩
  | false =>
    have n1 : (((mN m a (jN m b d) : Nat) : Int) == ((jN m (mN m a b) (mN m a d) : Nat) : Int)) = false := by have := of_decide_eq_false hk; rw [beq_eq_false_iff_ne]; omega
    have HK := Lib.hid hk
    clear hk
    refine region_plain (fuel := 13) (listed := #[false, false, false, false, false, false, false, false, false, false, false, false, false]) (fun w' => ((w'.cell? ⟨w.heap.size, 0, none⟩ = some (.slice ua m.n l.cap) ∧ w'.cell? ⟨w.heap.size, 1, none⟩ = some (.slice (some ⟨g, o, none⟩) m.n nc)) ∧ w'.cell? ⟨w.heap.size, 2, none⟩ = some (.slice (some ⟨ob, 0, none⟩) 2 2))) (by kernel_rfl) (by kernel_rfl) (by kernel_rfl) ?_
    refine hold_take (i := 0) (d := 17) (v := ?vbf0) (listed' := #[true, false, false, false, false, false, false, false, false, false, false, false, false]) rfl (by kernel_rfl) (by kernel_rfl) (by kernel_rfl) rfl (by rfl) (by kernel_rfl) hS3 ?hbf0 ?rbf0
    case hbf0 =>
      intro w' hSw
      obtain ⟨⟨k0, k1⟩, k2⟩ := hSw
      go_simp
      try with_reducible rfl
    simp only [List.setIfInBounds_toArray, List.set_cons_zero, List.set_cons_succ]
    refine hold_take (i := 1) (d := 18) (v := ?vbf1) (listed' := #[true, true, false, false, false, false, false, false, false, false, false, false, false]) rfl (by kernel_rfl) (by kernel_rfl) (by kernel_rfl) rfl (by rfl) (by kernel_rfl) hS3 ?hbf1 ?rbf1
    case hbf1 =>
      intro w' hSw
      obtain ⟨⟨k0, k1⟩, k2⟩ := hSw
      go_simp
      try with_reducible rfl
    simp only [List.setIfInBounds_toArray, List.set_cons_zero, List.set_cons_succ]
    refine hold_take (i := 2) (d := 19) (v := ?vbf2) (listed' := #[true, true, true, false, false, false, false, false, false, false, false, false, false]) rfl (by kernel_rfl) (by kernel_rfl) (by kernel_rfl) rfl (by rfl) (by kernel_rfl) hS3 ?hbf2 ?rbf2
    case hbf2 =>
      intro w' hSw
      obtain ⟨⟨k0, k1⟩, k2⟩ := hSw
      go_simp
      try with_reducible rfl
    simp only [List.setIfInBounds_toArray, List.set_cons_zero, List.set_cons_succ]
    refine hold_take (i := 3) (d := 20) (v := ?vbf3) (listed' := #[true, true, true, true, false, false, false, false, false, false, false, false, false]) rfl (by kernel_rfl) (by kernel_rfl) (by kernel_rfl) rfl (by rfl) (by kernel_rfl) hS3 ?hbf3 ?rbf3
    case hbf3 =>
      intro w' hSw
      obtain ⟨⟨k0, k1⟩, k2⟩ := hSw
      go_simp
      try with_reducible rfl
    simp only [List.setIfInBounds_toArray, List.set_cons_zero, List.set_cons_succ]
    refine hold_take (i := 4) (d := 21) (v := ?vbf4) (listed' := #[true, true, true, true, true, false, false, false, false, false, false, false, false]) rfl (by kernel_rfl) (by kernel_rfl) (by kernel_rfl) rfl (by rfl) (by kernel_rfl) hS3 ?hbf4 ?rbf4
    case hbf4 =>
      intro w' hSw
      obtain ⟨⟨k0, k1⟩, k2⟩ := hSw
      go_simp
      try with_reducible rfl
    simp only [List.setIfInBounds_toArray, List.set_cons_zero, List.set_cons_succ]
    refine hold_take (i := 6) (d := 23) (v := ?vbf6) (listed' := #[true, true, true, true, true, false, true, false, false, false, false, false, false]) rfl (by kernel_rfl) (by kernel_rfl) (by kernel_rfl) rfl (by rfl) (by kernel_rfl) hS3 ?hbf6 ?rbf6
    case hbf6 =>
      intro w' hSw
      obtain ⟨⟨k0, k1⟩, k2⟩ := hSw
      go_simp
      try with_reducible rfl
    simp only [List.setIfInBounds_toArray, List.set_cons_zero, List.set_cons_succ]
    refine hold_take (i := 7) (d := 24) (v := ?vbf7) (listed' := #[true, true, true, true, true, false, true, true, false, false, false, false, false]) rfl (by kernel_rfl) (by kernel_rfl) (by kernel_rfl) rfl (by rfl) (by kernel_rfl) hS3 ?hbf7 ?rbf7
    case hbf7 =>
      intro w' hSw
      obtain ⟨⟨k0, k1⟩, k2⟩ := hSw
      go_simp
      try with_reducible rfl
    simp only [List.setIfInBounds_toArray, List.set_cons_zero, List.set_cons_succ]
    refine hold_take (i := 8) (d := 25) (v := ?vbf8) (listed' := #[true, true, true, true, true, false, true, true, true, false, false, false, false]) rfl (by kernel_rfl) (by kernel_rfl) (by kernel_rfl) rfl (by rfl) (by kernel_rfl) hS3 ?hbf8 ?rbf8
    case hbf8 =>
      intro w' hSw
      obtain ⟨⟨k0, k1⟩, k2⟩ := hSw
      go_simp
      try with_reducible rfl
    simp only [List.setIfInBounds_toArray, List.set_cons_zero, List.set_cons_succ]
    refine hold_call (i := 5) (d := 22) (listed' := #[true, true, true, true, true, true, true, true, true, false, false, false, false]) rfl (by kernel_rfl) rfl (by rfl) (by kernel_rfl) ?hebf5 (meetA (nc := nc) hL3.out ha hb) ?hcbf5
    case hebf5 => go_simp
    rintro e x4 ⟨rfl, bb4⟩
    have hY4 := hY3.step bb4
    have hL4 := Lib.hid (hL3.out.step bb4)
    have hS4 : (fun w' => ((w'.cell? ⟨w.heap.size, 0, none⟩ = some (.slice ua m.n l.cap) ∧ w'.cell? ⟨w.heap.size, 1, none⟩ = some (.slice (some ⟨g, o, none⟩) m.n nc)) ∧ w'.cell? ⟨w.heap.size, 2, none⟩ = some (.slice (some ⟨ob, 0, none⟩) 2 2))) x4 := ⟨⟨hY4.cell 0 rfl, hY4.cell 1 rfl⟩, hY4.cell 2 rfl⟩
    clear hS3 hL3 hY3 bb4
    refine ⟨_, rfl, hS4, ?_⟩
    simp only [List.setIfInBounds_toArray, List.set_cons_zero, List.set_cons_succ]
    refine hold_call (i := 9) (d := 26) (listed' := #[true, true, true, true, true, true, true, true, true, true, false, false, false]) rfl (by kernel_rfl) rfl (by rfl) (by kernel_rfl) ?hebf9 (meetA (nc := nc) hL4.out ha hd) ?hcbf9
    case hebf9 => go_simp
    rintro e x5 ⟨rfl, bb5⟩
    have hY5 := hY4.step bb5
    have hL5 := Lib.hid (hL4.out.step bb5)
    have hS5 : (fun w' => ((w'.cell? ⟨w.heap.size, 0, none⟩ = some (.slice ua m.n l.cap) ∧ w'.cell? ⟨w.heap.size, 1, none⟩ = some (.slice (some ⟨g, o, none⟩) m.n nc)) ∧ w'.cell? ⟨w.heap.size, 2, none⟩ = some (.slice (some ⟨ob, 0, none⟩) 2 2))) x5 := ⟨⟨hY5.cell 0 rfl, hY5.cell 1 rfl⟩, hY5.cell 2 rfl⟩
    clear hS4 hL4 hY4 bb5
    refine ⟨_, rfl, hS5, ?_⟩
    simp only [List.setIfInBounds_toArray, List.set_cons_zero, List.set_cons_succ]
    refine hold_call (i := 10) (d := 27) (listed' := #[true, true, true, true, true, true, true, true, true, true, true, false, false]) rfl (by kernel_rfl) rfl (by rfl) (by kernel_rfl) ?hebf10 (joinA (nc := nc) hL5.out hm1 hm2) ?hcbf10
    case hebf10 => go_simp
    rintro e x6 ⟨rfl, bb6⟩
    have hY6 := hY5.step bb6
    have hL6 := Lib.hid (hL5.out.step bb6)
    have hS6 : (fun w' => ((w'.cell? ⟨w.heap.size, 0, none⟩ = some (.slice ua m.n l.cap) ∧ w'.cell? ⟨w.heap.size, 1, none⟩ = some (.slice (some ⟨g, o, none⟩) m.n nc)) ∧ w'.cell? ⟨w.heap.size, 2, none⟩ = some (.slice (some ⟨ob, 0, none⟩) 2 2))) x6 := ⟨⟨hY6.cell 0 rfl, hY6.cell 1 rfl⟩, hY6.cell 2 rfl⟩
    clear hS5 hL5 hY5 bb6
    refine ⟨_, rfl, hS6, ?_⟩
    simp only [List.setIfInBounds_toArray, List.set_cons_zero, List.set_cons_succ]
    refine hold_take (i := 11) (d := 28) (v := ?vbf11) (listed' := #[true, true, true, true, true, true, true, true, true, true, true, true, false]) rfl (by kernel_rfl) (by kernel_rfl) (by kernel_rfl) rfl (by rfl) (by kernel_rfl) hS6 ?hbf11 ?rbf11
    case hbf11 =>
      intro w' hSw
      obtain ⟨⟨k0, k1⟩, k2⟩ := hSw
      go_simp
      try with_reducible rfl
    simp only [List.setIfInBounds_toArray, List.set_cons_zero, List.set_cons_succ]
    refine hold_take (i := 12) (d := 8) (v := ?vbf12) (listed' := #[true, true, true, true, true, true, true, true, true, true, true, true, true]) rfl (by kernel_rfl) (by kernel_rfl) (by kernel_rfl) rfl (by rfl) (by kernel_rfl) hS6 ?hbf12 ?rbf12
    case hbf12 =>
      intro w' hSw
      obtain ⟨⟨k0, k1⟩, k2⟩ := hSw
      go_simp
      try with_reducible rfl
    simp only [List.setIfInBounds_toArray, List.set_cons_zero, List.set_cons_succ]
    refine hold_done (by kernel_rfl) ?_ _
    go_wp2_with fail
    go_ret
    exact ⟨ret_bool HK.out.symm, hY6.below⟩

end Go.Proofs.YtnbglbhfclohjaaDoor
namespace Go.Proofs.YtnbglbhfclohjaaDoor
open Go.RowKit Go.Deep

theorem meetQ2 {B c n : Nat} {sa : Option Addr} {l : Lay} {m : Mx} {a b : Nat} {w : World} {z : Nat → Int} {y : Nat → Nat} {o : Nat} (h : MatAt w B sa l m) (hO : Ortho m z y o) (ha : a < m.n) (hb : b < m.n) :
    Calls Tryd.prog 75 #[.slice sa m.n l.cap, .int .i64 a, .int .i64 b] (w.drewN (c + n)) fun e w' => e = .returned (.int .i64 (mN m a b : Nat)) ∧ ∃ k, w' = w.drewN (c + k) :=
  (l1Meet_any (h.drewN (c + n)) hO.lat.order ha hb).mono fun _ _ ⟨he, hw⟩ => ⟨by rw [he, hO.mI ha hb], by subst hw; exact ⟨n, rfl⟩⟩
theorem joinQ2 {B c n : Nat} {sa : Option Addr} {l : Lay} {m : Mx} {a b : Nat} {w : World} {z : Nat → Int} {y : Nat → Nat} {o : Nat} (h : MatAt w B sa l m) (hO : Ortho m z y o) (ha : a < m.n) (hb : b < m.n) :
    Calls Tryd.prog 79 #[.slice sa m.n l.cap, .int .i64 a, .int .i64 b] (w.drewN (c + n)) fun e w' => e = .returned (.int .i64 (jN m a b : Nat)) ∧ ∃ k, w' = w.drewN (c + k) :=
  (l1Join_any (h.drewN (c + n)) hO.lat.order ha hb).mono fun _ _ ⟨he, hw⟩ => ⟨by rw [he, hO.jI ha hb], by subst hw; exact ⟨n, rfl⟩⟩
theorem joinD {B c : Nat} {sa : Option Addr} {l : Lay} {m : Mx} {a b : Nat} {w : World} {z : Nat → Int} {y : Nat → Nat} {o : Nat} (h : MatAt w B sa l m) (hO : Ortho m z y o) (ha : a < m.n) (hb : b < m.n) :
    Calls Tryd.prog 79 #[.slice sa m.n l.cap, .int .i64 a, .int .i64 b] (w.drewN c) fun e w' => e = .returned (.int .i64 (jN m a b : Nat)) ∧ Drew w w' :=
  (l1Join_any (h.drewN c) hO.lat.order ha hb).mono fun _ _ ⟨he, hw⟩ => ⟨by rw [he, hO.jI ha hb], by subst hw; exact (Drew.refl w).drewN c⟩

end Go.Proofs.YtnbglbhfclohjaaDoor
