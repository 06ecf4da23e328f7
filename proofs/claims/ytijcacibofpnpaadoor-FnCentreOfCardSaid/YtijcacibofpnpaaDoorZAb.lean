/- The walk of the reference's CentreOf. -/
import Derived.Test.YtijcacibofpnpaaDoorZAa
import Derived.Test.YtijcacibofpnpaaDoorZWv
namespace Go.Proofs.YtijcacibofpnpaaDoor
open Go.RowKit Go.Deep

/-- The answers of the centre below a number, in ascending order. -/
def midTo (m : Mx) (y : Nat → Nat) : Nat → List Int
  | 0 => []
  | k + 1 => if midB m y k = true then midTo m y k ++ [(k : Int)] else midTo m y k
noncomputable def midV (m : Mx) (k : Nat) (z : Nat → Int) : List Int := if logicB m k z = true then midTo m (fun a => (z a).toNat) m.n else []
theorem midTo_len (m : Mx) (y : Nat → Nat) (k : Nat) : (midTo m y k).length ≤ k := by
  induction k with
  | zero => exact Nat.le_refl _
  | succ k ih =>
    unfold midTo
    by_cases h : midB m y k = true
    · rw [if_pos h, List.length_append]; simp; omega
    · rw [if_neg h]; omega
theorem midV_len (m : Mx) (k : Nat) (z : Nat → Int) : (midV m k z).length ≤ 1048576 := by
  unfold midV
  by_cases h : logicB m k z = true
  · rw [if_pos h]
    obtain ⟨y, o, hO⟩ := (logicB_is h).ortho
    have h1 := hO.lat.order.top
    have h2 := midTo_len m (fun a => (z a).toNat) m.n
    omega
  · rw [if_neg h]; simp
theorem midTo_yes {m : Mx} {y : Nat → Nat} {k : Nat} (h : midB m y k = true) : midTo m y (k + 1) = midTo m y k ++ [(k : Int)] := if_pos h
theorem midTo_no {m : Mx} {y : Nat → Nat} {k : Nat} (h : midB m y k = false) : midTo m y (k + 1) = midTo m y k := if_neg (by rw [h]; exact Bool.false_ne_true)
theorem midTo_all {m : Mx} {y : Nat → Nat} {k : Nat} (h : ∀ a, a < k → midB m y a = true) : (midTo m y k).length = k := by
  induction k with
  | zero => rfl
  | succ k ih =>
    rw [midTo_yes (h k (Nat.lt_succ_self k)), List.length_append, ih fun a ha => h a (by omega)]
    rfl
/-- The first of all tests of an answer. -/
def midP (m : Mx) (y : Nat → Nat) (a j : Nat) : Bool := allB j fun b => agB m y a b && agB m y b a
theorem allB_step {j : Nat} {f : Nat → Bool} : allB (j + 1) f = (allB j f && f j) := by
  cases h1 : allB j f with
  | false =>
    cases h2 : allB (j + 1) f with
    | false => rfl
    | true =>
      have : allB j f = true := allB_true fun i hi => allB_is h2 i (by omega)
      rw [h1] at this
      exact absurd this Bool.false_ne_true
  | true =>
    cases h2 : f j with
    | false => exact allB_false (Nat.lt_succ_self j) h2
    | true =>
      exact allB_true fun i hi => by
        by_cases e : i = j
        · rw [e]; exact h2
        · exact allB_is h1 i (by omega)

set_option maxRecDepth 100000 in
set_option maxHeartbeats 4000000 in
theorem spec_CentreOf {w : World} {B : Nat} {ua : Option Addr} {l : Lay} {m : Mx} {na : Option Addr} {g o k nc : Nat} {z : Nat → Int} (h : LogAt w B ua l m na g o k z) :
    Calls Tryd.prog 7 #[.agg #[.slice ua m.n l.cap, .slice na k nc]] w (ListRes w (midV m k z)) := by
  have hX := BoxN.start w #[.slice ua m.n l.cap, .slice na k nc] 26
  have h1 := Lib.hid (h.alloc (.cells #[.slice ua m.n l.cap, .slice na k nc] 26))
  have q0 := hX.cell 0 rfl
  have q1 := hX.cell 1 rfl
  have hkk := h.hk
  have hsz : (w.alloc (.cells #[.slice ua m.n l.cap, .slice na k nc] 26)).heap.size = w.heap.size + 1 := by simp
  clear h
  cases hl : logicB m k z with
  | false =>
    have HL := Lib.hid hl
    have HF : Hid (midV m k z = []) := by show _ = _; unfold midV; rw [hl]; rfl
    clear hl
    go_enter Tryd.func7, Tryd.ntmps7
    go_wp2_with fail
    generalize w.alloc (.cells #[.slice ua m.n l.cap, .slice na k nc] 26) = W at h1 hX q0 q1 hsz ⊢
    have hown0 : (W.alloc (.cells #[] 3)).ownsRow (w.heap.size + 1) 3 1 (.slice (some ⟨w.heap.size + 1, 0, none⟩) 0 0) 0 [] := by
      rw [← hsz]
      exact World.ownsRow_lit (base := W.heap.size) (e := 3) (size := 1) W #[] 0 (Nat.le_refl _) (Nat.zero_le _) rfl
    have hb1 := (Below.refl W.heap.size W).alloc (Nat.le_refl _) (.cells #[] 3)
    have hX1 := hX.step hb1
    have h2 := Lib.hid (h1.out.step hb1)
    clear h1 hX
    have q0 := hX1.cell 0 rfl
    have q1 := hX1.cell 1 rfl
    generalize hWe : W.alloc (.cells #[] 3) = W1 at *
    go_loopw [3, 4] (fun v i wr => v = .slice (some ⟨w.heap.size + 1, 0, none⟩) 0 0 ∧ i = .int .i64 0 ∧ wr = W1) (fun _ _ _ => 0)
    case atStart => exact ⟨rfl, rfl, rfl⟩
    case round =>
      obtain ⟨rfl, rfl, rfl⟩ := hrel
      by_cases hk0 : 0 < k
      · have hk0' : (0 : Int) < k := by omega
        go_wp2_with fail
        go_at_call 21
        refine (spec_LogicOk h2.out).mono ?_
        rintro e w2 ⟨rfl, b2⟩
        rw [HL.out]
        have hX2 := hX1.step b2
        have ho := ownsRow_below hown0 b2 (Nat.le_refl _)
        clear q0 q1
        go_wp2_with fail
        go_ret
        exact ⟨_, rfl, by rw [HF.out]; exact ownsRow_base ho (Nat.le_succ _), hX2.below⟩
      · have hk0' : ¬ (0 : Int) < k := by omega
        go_wp2_with fail
        go_ret
        exact ⟨_, rfl, by rw [HF.out]; exact ownsRow_base hown0 (Nat.le_succ _), hX1.below⟩
  | true =>
    have hlog := logicB_is hl
    obtain ⟨y0, o', hO0⟩ := hlog.ortho
    have hkn : k = m.n := hlog.pair.len
    subst hkn
    have hO := hO0.own
    have hn := hO.lat.order.top
    have hpos := hO.lat.order.pos
    obtain ⟨yy, hyy⟩ : ∃ yy : Nat → Nat, yy = fun a => (z a).toNat := ⟨_, rfl⟩
    rw [← hyy] at hO
    have HV : Hid (midV m m.n z = midTo m yy m.n) := by show _ = _; unfold midV; rw [if_pos hl, hyy]
    have HO := Lib.hid hO
    have HL := Lib.hid hl
    clear hl hO hlog hO0 hyy
    obtain ⟨i0, hi, hz0, hz1, hz2⟩ := info_parts infoInt
    have HI := Lib.hid hi
    have HZ0 := Lib.hid hz0
    have HZ1 := Lib.hid hz1
    have HZ2 := Lib.hid hz2
    clear hi hz0 hz1 hz2
    go_enter Tryd.func7, Tryd.ntmps7
    go_wp2_with fail
    generalize w.alloc (.cells #[.slice ua m.n l.cap, .slice na m.n nc] 26) = W at h1 hX q0 q1 hsz ⊢
    have hown0 : (W.alloc (.cells #[] 3)).ownsRow (w.heap.size + 1) 3 1 (.slice (some ⟨w.heap.size + 1, 0, none⟩) 0 0) 0 [] := by
      rw [← hsz]
      exact World.ownsRow_lit (base := W.heap.size) (e := 3) (size := 1) W #[] 0 (Nat.le_refl _) (Nat.zero_le _) rfl
    have hb1 := (Below.refl W.heap.size W).alloc (Nat.le_refl _) (.cells #[] 3)
    clear q0 q1
    go_loopw [3, 4] (fun v i wr => ∃ j : Nat, j ≤ m.n ∧ i = .int .i64 j ∧ wr.ownsRow (w.heap.size + 1) 3 1 v (midTo m yy j).length ((midTo m yy j).map (Value.int .i64)) ∧ Below W.heap.size W wr) (fun _ i _ => m.n - (intOf i).toNat)
    case atStart => exact ⟨0, Nat.zero_le _, rfl, hown0, hb1⟩
    case round =>
      clear hown0 hb1
      obtain ⟨j, hj, rfl, hown, hD⟩ := hrel
      have hXr := hX.step hD
      have hr := Lib.hid (h1.out.step hD)
      have q0 := hXr.cell 0 rfl
      have q1 := hXr.cell 1 rfl
      by_cases hlt : j < m.n
      · have hlt' : (j : Int) < m.n := by omega
        have hs := hD.size
        go_wp2_with fail
        go_at_call 21
        refine (spec_LogicOk hr.out).mono ?_
        rintro e w2 ⟨rfl, b2⟩
        rw [HL.out]
        have hD2 := hD.trans (b2.mono hD.size)
        have hown2 := ownsRow_below hown b2 (Nat.le_refl _)
        clear q0 q1 hr hXr hD hown
        go_wp2_with fail
        go_loopw [5, 6] (fun t i wi => ∃ b : Nat, b ≤ m.n ∧ i = .int .i64 b ∧ t = .bool (midP m yy j b) ∧ Below w2.heap.size w2 wi) (fun _ i _ => m.n - (intOf i).toNat)
        case atStart => exact ⟨0, Nat.zero_le _, rfl, rfl, Below.refl _ _⟩
        case round =>
          obtain ⟨b, hbn, rfl, rfl, hT⟩ := hrel
          have hD := hD2.trans (hT.mono hD2.size)
          have hXi := hX.step hD
          have r0 := hXi.cell 0 rfl
          have r1 := hXi.cell 1 rfl
          by_cases hbt : b < m.n
          · have hbt' : (b : Int) < m.n := by omega
            have hri := Lib.hid (h1.out.step hD)
            have HS : Hid (midP m yy j (b + 1) = (midP m yy j b && (agB m yy j b && agB m yy b j))) := allB_step
            cases g0 : midP m yy j b with
            | false =>
              rw [g0] at HS
              clear g0
              go_wp2_with fail
              go_roundw
              case rel => exact ⟨b + 1, by omega, by go_num, by rw [HS.out]; rfl, hT⟩
              case measure => simp [intOf]; omega
            | true =>
              rw [g0] at HS
              clear g0
              go_wp2_with fail
              go_at_call 22
              refine (l5With_any hri.out HO.out hlt hbt).mono ?_
              rintro e w3 ⟨rfl, b3⟩
              have hT3 := hT.trans (b3.mono hT.size)
              have hD3 := hD2.trans (hT3.mono hD2.size)
              have hX3 := hX.step hD3
              have hr3 := Lib.hid (h1.out.step hD3)
              have p0 := hX3.cell 0 rfl
              have p1 := hX3.cell 1 rfl
              clear r0 r1 hri hXi hD hT
              cases g1 : agB m yy j b with
              | false =>
                rw [g1] at HS
                clear g1
                go_wp2_with fail
                go_roundw
                case rel => exact ⟨b + 1, by omega, by go_num, by rw [HS.out]; rfl, hT3⟩
                case measure => simp [intOf]; omega
              | true =>
                rw [g1] at HS
                clear g1
                go_wp2_with fail
                go_at_call 22
                refine (l5With_any hr3.out HO.out hbt hlt).mono ?_
                rintro e w4 ⟨rfl, b4⟩
                have hT4 := hT3.trans (b4.mono hT3.size)
                clear p0 p1 hr3 hX3 hD3
                go_wp2_with fail
                go_roundw
                case rel => exact ⟨b + 1, by omega, by go_num, by rw [HS.out, Bool.true_and, Bool.true_and], hT4⟩
                case measure => simp [intOf]; omega
          · have hbt' : ¬ (b : Int) < m.n := by omega
            have hMP : Hid (midP m yy j b = midB m yy j) := by
              show _ = _
              have e : b = m.n := by omega
              rw [e]
              rfl
            have hown5 := ownsRow_below hown2 hT (Nat.le_refl _)
            have hlen := midTo_len m yy j
            have hDs := hD.size
            clear hD2 hT hown2
            rw [hMP.out]
            cases g0 : midB m yy j with
            | false =>
              have HN := Lib.hid (midTo_no g0)
              clear g0
              go_wp2_with fail
              go_roundw
              case rel => exact ⟨j + 1, by omega, by go_num, by rw [HN.out]; exact hown5, hD⟩
              case measure => simp [intOf]; omega
            | true =>
              have HN := Lib.hid (midTo_yes g0)
              clear g0
              go_wp2_with (at_builtin; refine wpList_append_own _ rfl _ _ 24 rfl (w.heap.size + 1) 3 i0 (.int .i64 0) 1 8 Tryd.underlying24 HI.out HZ0.out HZ1.out HZ2.out rfl (by decide) _ _ _ rfl (hown5.alloc _) ⟨wr.heap.size, 0, none⟩ 1 1 [.int .i64 j] rfl rfl (cell_one_new _ _ _) ?c2 ?c3 ?c4 ?c5 ?_)
              case c2 => simp [Value.oneCell']
              case c3 => unfold maxLen; omega
              case c4 => omega
              case c5 => first | omega | (simp; omega)
              intro v' w4 hown4 hgrow _
              have HO4 : Hid (w4.ownsRow (w.heap.size + 1) 3 1 v' (midTo m yy (j + 1)).length ((midTo m yy (j + 1)).map (Value.int .i64))) := by
                show World.ownsRow _ _ _ _ _ _ _
                rw [HN.out, List.length_append, List.map_append]
                exact hown4
              have hW4 := (hD.alloc hDs (.cells #[.int .i64 j] 3)).grown hgrow (by simp; omega) (fun c hc => by have := ownsRow_block hown5 c hc; omega)
              clear hown4 hgrow hown5 hD
              go_wp2_with fail
              go_roundw
              case rel => exact ⟨j + 1, by omega, by go_num, HO4.out, hW4⟩
              case measure => simp [intOf]; omega
      · have hlt' : ¬ (j : Int) < m.n := by omega
        have HK : Hid (j = m.n) := by show _ = _; omega
        go_wp2_with fail
        go_ret
        exact ⟨_, rfl, by rw [HV.out, ← HK.out]; exact ownsRow_base hown (Nat.le_succ _), hXr.below⟩
end Go.Proofs.YtijcacibofpnpaaDoor
