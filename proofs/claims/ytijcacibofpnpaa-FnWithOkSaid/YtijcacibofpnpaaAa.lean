/- The walks of the reference's WithOk, SplitOk and BothWaysOk. -/
import Derived.Test.YtijcacibofpnpaaYa
import Derived.Test.YtijcacibofpnpaaOj
import Derived.Test.YtijcacibofpnpaaMathM
namespace Go.Proofs.Ytijcacibofpnpaa
open Go.RowKit Go.Deep

noncomputable def withV (m : Mx) (k : Nat) (z : Nat → Int) (x v : Int) : Bool := (logicB m k z && goodB m.n 2 (two x v)) && agB m (fun a => (z a).toNat) x.toNat v.toNat
noncomputable def splitV (m : Mx) (k : Nat) (z : Nat → Int) (x v t : Int) : Bool := ((logicB m k z && goodB m.n 2 (two x v)) && (logicB m k z && goodB m.n 2 (two x t))) && splitB m x.toNat v.toNat t.toNat
noncomputable def bothV (m : Mx) (k : Nat) (z : Nat → Int) : Bool := logicB m k z && twoWaysB m (fun a => (z a).toNat)

set_option maxRecDepth 100000 in
set_option maxHeartbeats 2000000 in
theorem l5With_any {w : World} {B : Nat} {ua : Option Addr} {l : Lay} {m : Mx} {na : Option Addr} {g o nc a b : Nat} {z : Nat → Int} {y : Nat → Nat} {o' : Nat} (h : LogAt w B ua l m na g o m.n z) (hO : Ortho m z y o') (ha : a < m.n) (hb : b < m.n) :
    Calls Try.prog 48 #[.agg #[.slice ua m.n l.cap, .slice na m.n nc], .int .i64 a, .int .i64 b] w fun e w' => e = .returned (.bool (agB m y a b)) ∧ Below w.heap.size w w' := by
  have hX := BoxN.start w #[.slice ua m.n l.cap, .slice na m.n nc] 26
  have h1 := Lib.hid (h.alloc (.cells #[.slice ua m.n l.cap, .slice na m.n nc] 26))
  have q0 := hX.cell 0 rfl
  have q1 := hX.cell 1 rfl
  have hn := hO.lat.order.top
  have hpos := hO.lat.order.pos
  have HO := Lib.hid hO
  obtain ⟨rfl, hg1, hg2⟩ := h1.out.row.row 0 (by omega)
  obtain ⟨rfl, hg3, hg4⟩ := h1.out.mat.top 0 (by omega)
  clear hg1 hg2 hg3 hg4 h hO
  obtain ⟨_, _, d1⟩ := h1.out.row.row b hb
  rw [HO.out.zy b hb] at d1
  have f2 := HO.out.lt b hb
  have f2' : ((y b : Nat) : Int) < m.n := by omega
  have hb' : (b : Int) < m.n := by omega
  have hmat := Lib.hid h1.out.mat
  have m1 := (HO.out.mG ha hb).lt
  have m2 := (HO.out.mG ha f2).lt
  have hB := hX.below
  clear h1
  cases hk : agB m y a b with
  | true =>
    have e1 : jN m (mN m a b) (mN m a (y b)) = a := of_decide_eq_true hk
    have n1 : (((jN m (mN m a b) (mN m a (y b)) : Nat) : Int) == (a : Int)) = true := by rw [e1]; simp
    clear hk e1
    go_enter Try.func48, Try.ntmps48
    go_wp2_with fail
    generalize w.alloc (.cells #[.slice (some ⟨l.b, l.o, none⟩) m.n l.cap, .slice (some ⟨g, o, none⟩) m.n nc] 26) = W at hmat hX hB q0 q1 d1 ⊢
    go_quiet (first | (go_at_call 49; exact meetQ hmat.out HO.out ha hb) | (go_at_call 49; exact meetQ hmat.out HO.out ha f2) | (go_at_call 59; exact joinQ hmat.out HO.out m1 m2))
    go_wp2_with fail
    go_ret
    exact ⟨rfl, Below.drewN' hB _⟩
  | false =>
    have e1 : ¬ jN m (mN m a b) (mN m a (y b)) = a := of_decide_eq_false hk
    have n1 : (((jN m (mN m a b) (mN m a (y b)) : Nat) : Int) == (a : Int)) = false := by rw [beq_eq_false_iff_ne]; omega
    clear hk e1
    go_enter Try.func48, Try.ntmps48
    go_wp2_with fail
    generalize w.alloc (.cells #[.slice (some ⟨l.b, l.o, none⟩) m.n l.cap, .slice (some ⟨g, o, none⟩) m.n nc] 26) = W at hmat hX hB q0 q1 d1 ⊢
    go_quiet (first | (go_at_call 49; exact meetQ hmat.out HO.out ha hb) | (go_at_call 49; exact meetQ hmat.out HO.out ha f2) | (go_at_call 59; exact joinQ hmat.out HO.out m1 m2))
    go_wp2_with fail
    go_ret
    exact ⟨rfl, Below.drewN' hB _⟩

/-- Two answers of a logic, out of the test. -/
theorem good_parts {m : Mx} {k : Nat} {z : Nat → Int} {x v : Int} (h : (logicB m k z && goodB m.n 2 (two x v)) = true) : ∃ (a b o : Nat), x = (a : Int) ∧ v = (b : Int) ∧ a < m.n ∧ b < m.n ∧ k = m.n ∧ Ortho m z (fun c => (z c).toNat) o := by
  rw [Bool.and_eq_true] at h
  obtain ⟨x0, x1, y0, y1⟩ := good_two h.2
  obtain ⟨a, rfl⟩ := Int.eq_ofNat_of_zero_le x0
  obtain ⟨b, rfl⟩ := Int.eq_ofNat_of_zero_le y0
  obtain ⟨y, o, hO⟩ := (logicB_is h.1).ortho
  exact ⟨a, b, o, rfl, rfl, by omega, by omega, (logicB_is h.1).pair.len, hO.own⟩

set_option maxRecDepth 100000 in
set_option maxHeartbeats 2000000 in
theorem spec_WithOk {w : World} {B : Nat} {ua : Option Addr} {l : Lay} {m : Mx} {na : Option Addr} {g o k nc : Nat} {z : Nat → Int} {x v : Int} (h : LogAt w B ua l m na g o k z) :
    Calls Try.prog 14 #[.agg #[.slice ua m.n l.cap, .slice na k nc], .int .i64 x, .int .i64 v] w fun e w' => e = .returned (.bool (withV m k z x v)) ∧ Below w.heap.size w w' := by
  have hX := BoxN.start w #[.slice ua m.n l.cap, .slice na k nc] 26
  have h1 := Lib.hid (h.alloc (.cells #[.slice ua m.n l.cap, .slice na k nc] 26))
  have q0 := hX.cell 0 rfl
  have q1 := hX.cell 1 rfl
  clear h
  cases hg : (logicB m k z && goodB m.n 2 (two x v)) with
  | false =>
    have HF : Hid (false = withV m k z x v) := by show _ = _; unfold withV; rw [hg]; rfl
    have HG := Lib.hid hg
    clear hg
    go_enter Try.func14, Try.ntmps14
    go_wp2_with fail
    go_at_call 47
    refine (l2Both_any h1.out).mono ?_
    rintro e w2 ⟨rfl, b2⟩
    rw [HG.out]
    have hX2 := hX.step b2
    clear q0 q1
    go_wp2_with fail
    go_ret
    exact ⟨ret_bool HF.out, hX2.below⟩
  | true =>
    have HG := Lib.hid hg
    obtain ⟨a, b, o', rfl, rfl, ha, hb, rfl, hO⟩ := good_parts hg
    have HV : Hid (agB m (fun c => (z c).toNat) a b = withV m m.n z (a : Int) (b : Int)) := by
      show _ = _
      unfold withV
      rw [hg]
      rfl
    have HO := Lib.hid hO
    clear hg hO
    go_enter Try.func14, Try.ntmps14
    go_wp2_with fail
    go_at_call 47
    refine (l2Both_any h1.out).mono ?_
    rintro e w2 ⟨rfl, b2⟩
    rw [HG.out]
    have hX2 := hX.step b2
    have h2 := Lib.hid (h1.out.step b2)
    have r0 := hX2.cell 0 rfl
    have r1 := hX2.cell 1 rfl
    clear q0 q1
    go_wp2_with fail
    go_at_call 48
    refine (l5With_any h2.out HO.out ha hb).mono ?_
    rintro e w3 ⟨rfl, b3⟩
    have hX3 := hX2.step b3
    clear r0 r1
    rw [HV.out]
    go_wp2_with fail
    go_ret
    exact ⟨rfl, hX3.below⟩

theorem parts_split {m : Mx} {k : Nat} {z : Nat → Int} {x v t : Int} (h1 : (logicB m k z && goodB m.n 2 (two x v)) = true) (h2 : (logicB m k z && goodB m.n 2 (two x t)) = true) :
    ∃ (a b d o : Nat), x = (a : Int) ∧ v = (b : Int) ∧ t = (d : Int) ∧ a < m.n ∧ b < m.n ∧ d < m.n ∧ k = m.n ∧ Ortho m z (fun c => (z c).toNat) o := by
  obtain ⟨a, b, o, rfl, rfl, ha, hb, hk, hO⟩ := good_parts h1
  obtain ⟨a', d, _, e, rfl, _, hd, _, _⟩ := good_parts h2
  exact ⟨a, b, d, o, rfl, rfl, rfl, ha, hb, hd, hk, hO⟩
set_option maxRecDepth 100000 in
set_option maxHeartbeats 4000000 in
theorem spec_SplitOk {w : World} {B : Nat} {ua : Option Addr} {l : Lay} {m : Mx} {na : Option Addr} {g o k nc : Nat} {z : Nat → Int} {x v t : Int} (h : LogAt w B ua l m na g o k z) :
    Calls Try.prog 31 #[.agg #[.slice ua m.n l.cap, .slice na k nc], .int .i64 x, .int .i64 v, .int .i64 t] w fun e w' => e = .returned (.bool (splitV m k z x v t)) ∧ Below w.heap.size w w' := by
  have hX := BoxN.start w #[.slice ua m.n l.cap, .slice na k nc] 26
  have h1 := Lib.hid (h.alloc (.cells #[.slice ua m.n l.cap, .slice na k nc] 26))
  have q0 := hX.cell 0 rfl
  have q1 := hX.cell 1 rfl
  clear h
  cases hg : (logicB m k z && goodB m.n 2 (two x v)) with
  | false =>
    have HF : Hid (false = splitV m k z x v t) := by show _ = _; unfold splitV; rw [hg]; rfl
    have HG := Lib.hid hg
    clear hg
    go_enter Try.func31, Try.ntmps31
    go_wp2_with fail
    go_at_call 47
    refine (l2Both_any h1.out).mono ?_
    rintro e w2 ⟨rfl, b2⟩
    rw [HG.out]
    have hX2 := hX.step b2
    clear q0 q1
    go_wp2_with fail
    go_ret
    exact ⟨ret_bool HF.out, hX2.below⟩
  | true =>
    have HG := Lib.hid hg
    cases hg2 : (logicB m k z && goodB m.n 2 (two x t)) with
    | false =>
      have HF : Hid (false = splitV m k z x v t) := by show _ = _; unfold splitV; rw [hg, hg2]; rfl
      have HG2 := Lib.hid hg2
      clear hg hg2
      go_enter Try.func31, Try.ntmps31
      go_wp2_with fail
      go_at_call 47
      refine (l2Both_any h1.out).mono ?_
      rintro e w2 ⟨rfl, b2⟩
      rw [HG.out]
      have hX2 := hX.step b2
      have h2 := Lib.hid (h1.out.step b2)
      have r0 := hX2.cell 0 rfl
      have r1 := hX2.cell 1 rfl
      clear q0 q1
      go_wp2_with fail
      go_at_call 47
      refine (l2Both_any h2.out).mono ?_
      rintro e w3 ⟨rfl, b3⟩
      rw [HG2.out]
      have hX3 := hX2.step b3
      clear r0 r1
      go_wp2_with fail
      go_ret
      exact ⟨ret_bool HF.out, hX3.below⟩
    | true =>
      have HG2 := Lib.hid hg2
      obtain ⟨a, b, d, o', rfl, rfl, rfl, ha, hb, hd, rfl, hO⟩ := parts_split hg hg2
      have HV : Hid (splitB m a b d = splitV m m.n z (a : Int) (b : Int) (d : Int)) := by
        show _ = _
        unfold splitV
        rw [hg, hg2]
        rfl
      have HO := Lib.hid hO
      clear hg hg2 hO
      go_enter Try.func31, Try.ntmps31
      go_wp2_with fail
      go_at_call 47
      refine (l2Both_any h1.out).mono ?_
      rintro e w2 ⟨rfl, b2⟩
      rw [HG.out]
      have hX2 := hX.step b2
      have h2 := Lib.hid (h1.out.step b2)
      have r0 := hX2.cell 0 rfl
      have r1 := hX2.cell 1 rfl
      clear q0 q1
      go_wp2_with fail
      go_at_call 47
      refine (l2Both_any h2.out).mono ?_
      rintro e w3 ⟨rfl, b3⟩
      rw [HG2.out]
      have hX3 := hX2.step b3
      have hmat := Lib.hid (h2.out.step b3).mat
      have q0 := hX3.cell 0 rfl
      have q1 := hX3.cell 1 rfl
      have hB := hX3.below
      have m1 := (HO.out.jG hb hd).lt
      have m2 := (HO.out.mG ha hb).lt
      have m3 := (HO.out.mG ha hd).lt
      clear r0 r1
      cases hk : splitB m a b d with
      | true =>
        have e1 : mN m a (jN m b d) = jN m (mN m a b) (mN m a d) := of_decide_eq_true hk
        have n1 : (((mN m a (jN m b d) : Nat) : Int) == ((jN m (mN m a b) (mN m a d) : Nat) : Int)) = true := by rw [e1]; simp
        rw [hk] at HV
        clear hk e1
        go_wp2_with fail
        go_quiet (first | (go_at_call 59; exact joinQ hmat.out HO.out hb hd) | (go_at_call 49; exact meetQ hmat.out HO.out ha m1) | (go_at_call 49; exact meetQ hmat.out HO.out ha hb) | (go_at_call 49; exact meetQ hmat.out HO.out ha hd) | (go_at_call 59; exact joinQ hmat.out HO.out m2 m3))
        go_wp2_with fail
        go_ret
        exact ⟨ret_bool HV.out, Below.drewN' hB _⟩
      | false =>
        have e1 : ¬ mN m a (jN m b d) = jN m (mN m a b) (mN m a d) := of_decide_eq_false hk
        have n1 : (((mN m a (jN m b d) : Nat) : Int) == ((jN m (mN m a b) (mN m a d) : Nat) : Int)) = false := by rw [beq_eq_false_iff_ne]; omega
        rw [hk] at HV
        clear hk e1
        go_wp2_with fail
        go_quiet (first | (go_at_call 59; exact joinQ hmat.out HO.out hb hd) | (go_at_call 49; exact meetQ hmat.out HO.out ha m1) | (go_at_call 49; exact meetQ hmat.out HO.out ha hb) | (go_at_call 49; exact meetQ hmat.out HO.out ha hd) | (go_at_call 59; exact joinQ hmat.out HO.out m2 m3))
        go_wp2_with fail
        go_ret
        exact ⟨ret_bool HV.out, Below.drewN' hB _⟩

set_option maxRecDepth 100000 in
set_option maxHeartbeats 2000000 in
theorem spec_BothWaysOk {w : World} {B : Nat} {ua : Option Addr} {l : Lay} {m : Mx} {na : Option Addr} {g o k nc : Nat} {z : Nat → Int} (h : LogAt w B ua l m na g o k z) :
    Calls Try.prog 22 #[.agg #[.slice ua m.n l.cap, .slice na k nc]] w fun e w' => e = .returned (.bool (bothV m k z)) ∧ Below w.heap.size w w' := by
  have hX := BoxN.start w #[.slice ua m.n l.cap, .slice na k nc] 26
  have h1 := Lib.hid (h.alloc (.cells #[.slice ua m.n l.cap, .slice na k nc] 26))
  have q0 := hX.cell 0 rfl
  have q1 := hX.cell 1 rfl
  have hkk := h.hk
  clear h
  cases hl : logicB m k z with
  | false =>
    have HL := Lib.hid hl
    have HF : Hid (false = bothV m k z) := by show _ = _; unfold bothV; rw [hl]; rfl
    clear hl
    go_enter Try.func22, Try.ntmps22
    go_wp2_with fail
    generalize hW : w.alloc (.cells #[.slice ua m.n l.cap, .slice na k nc] 26) = W at h1 hX q0 q1 ⊢
    clear hW
    go_loopw [3] (fun i wr => i = .int .i64 0 ∧ wr = W) (fun _ _ => 0)
    case atStart => exact ⟨rfl, rfl⟩
    case round =>
      obtain ⟨rfl, rfl⟩ := hrel
      by_cases hk0 : 0 < k
      · have hk0' : (0 : Int) < k := by omega
        go_wp2_with fail
        go_at_call 33
        refine (spec_LogicOk h1.out).mono ?_
        rintro e w2 ⟨rfl, b2⟩
        rw [HL.out]
        have hX2 := hX.step b2
        have h2 := Lib.hid (h1.out.step b2)
        have r0 := hX2.cell 0 rfl
        have r1 := hX2.cell 1 rfl
        clear q0 q1
        go_wp2_with fail
        go_at_call 33
        refine (spec_LogicOk h2.out).mono ?_
        rintro e w3 ⟨rfl, b3⟩
        rw [HL.out]
        have hX3 := hX2.step b3
        clear r0 r1
        go_wp2_with fail
        go_ret
        exact ⟨ret_bool HF.out, hX3.below⟩
      · have hk0' : ¬ (0 : Int) < k := by omega
        go_wp2_with fail
        go_at_call 33
        refine (spec_LogicOk h1.out).mono ?_
        rintro e w3 ⟨rfl, b3⟩
        rw [HL.out]
        have hX3 := hX.step b3
        clear q0 q1
        go_wp2_with fail
        go_ret
        exact ⟨ret_bool HF.out, hX3.below⟩
  | true =>
    have hlog := logicB_is hl
    obtain ⟨y0, o', hO0⟩ := hlog.ortho
    have hkn : k = m.n := hlog.pair.len
    subst hkn
    have hO := hO0.own
    have hn := hO.lat.order.top
    have hpos := hO.lat.order.pos
    have HV : Hid (bothV m m.n z = twoWaysB m (fun a => (z a).toNat)) := by show _ = _; unfold bothV; rw [hl]; rfl
    have HO := Lib.hid hO
    have HL := Lib.hid hl
    clear hl hO hlog hO0
    go_enter Try.func22, Try.ntmps22
    go_wp2_with fail
    generalize hW : w.alloc (.cells #[.slice ua m.n l.cap, .slice na m.n nc] 26) = W at h1 hX ⊢
    clear hW q0 q1
    go_loopw [3] (fun i wr => ∃ j : Nat, j ≤ m.n ∧ i = .int .i64 j ∧ Below W.heap.size W wr ∧ Hid (∀ a, a < j → ∀ b, b < m.n → (!agB m (fun c => (z c).toNat) a b || agB m (fun c => (z c).toNat) b a) = true)) (fun i _ => m.n - (intOf i).toNat)
    case atStart => exact ⟨0, Nat.zero_le _, rfl, Below.refl _ _, fun c hc => absurd hc (Nat.not_lt_zero _)⟩
    case round =>
      obtain ⟨j, hj, rfl, hD, hR⟩ := hrel
      have hXr := hX.step hD
      have hr := Lib.hid (h1.out.step hD)
      have q0 := hXr.cell 0 rfl
      have q1 := hXr.cell 1 rfl
      by_cases hlt : j < m.n
      · have hlt' : (j : Int) < m.n := by omega
        go_wp2_with fail
        go_at_call 33
        refine (spec_LogicOk hr.out).mono ?_
        rintro e w2 ⟨rfl, b2⟩
        rw [HL.out]
        have hD2 := hD.trans (b2.mono hD.size)
        clear q0 q1 hr hXr hD
        go_wp2_with fail
        go_loopw [4] (fun i wi => ∃ b : Nat, b ≤ m.n ∧ i = .int .i64 b ∧ Below W.heap.size W wi ∧ Hid (∀ c, c < b → (!agB m (fun c => (z c).toNat) j c || agB m (fun c => (z c).toNat) c j) = true)) (fun i _ => m.n - (intOf i).toNat)
        case atStart => exact ⟨0, Nat.zero_le _, rfl, hD2, fun c hc => absurd hc (Nat.not_lt_zero _)⟩
        case round =>
          obtain ⟨b, hbn, rfl, hD, hT⟩ := hrel
          clear hD2
          have hXi := hX.step hD
          have r0 := hXi.cell 0 rfl
          have r1 := hXi.cell 1 rfl
          by_cases hbt : b < m.n
          · have hbt' : (b : Int) < m.n := by omega
            have hri := Lib.hid (h1.out.step hD)
            go_wp2_with fail
            go_at_call 48
            refine (l5With_any hri.out HO.out hlt hbt).mono ?_
            rintro e w3 ⟨rfl, b3⟩
            have hD3 := hD.trans (b3.mono hD.size)
            have hX3 := hX.step hD3
            have hr3 := Lib.hid (h1.out.step hD3)
            have p0 := hX3.cell 0 rfl
            have p1 := hX3.cell 1 rfl
            clear r0 r1 hri hXi hD
            cases g1 : agB m (fun c => (z c).toNat) j b with
            | false =>
              have HP : Hid ((!agB m (fun c => (z c).toNat) j b || agB m (fun c => (z c).toNat) b j) = true) := by show _ = _; rw [g1]; rfl
              clear g1
              go_wp2_with fail
              go_roundw
              case rel => exact ⟨b + 1, by omega, by go_num, hD3, fun c hc => by
                by_cases e : c = b
                · subst e; exact HP.out
                · exact hT.out c (by omega)⟩
              case measure => simp [intOf]; omega
            | true =>
              have G1 := Lib.hid g1
              clear g1
              go_wp2_with fail
              go_at_call 48
              refine (l5With_any hr3.out HO.out hbt hlt).mono ?_
              rintro e w4 ⟨rfl, b4⟩
              have hD4 := hD3.trans (b4.mono hD3.size)
              have hX4 := hX.step hD4
              clear p0 p1 hr3 hX3 hD3
              cases g2 : agB m (fun c => (z c).toNat) b j with
              | false =>
                have HF : Hid (false = bothV m m.n z) := by
                  show _ = _
                  rw [HV.out]
                  exact (allB_false hlt (allB_false hbt (by rw [G1.out, g2]; rfl))).symm
                clear g2
                go_wp2_with fail
                go_ret
                exact ⟨ret_bool HF.out, hX4.below⟩
              | true =>
                have HP : Hid ((!agB m (fun c => (z c).toNat) j b || agB m (fun c => (z c).toNat) b j) = true) := by show _ = _; rw [g2, Bool.or_true]
                clear g2
                go_wp2_with fail
                go_roundw
                case rel => exact ⟨b + 1, by omega, by go_num, hD4, fun c hc => by
                  by_cases e : c = b
                  · subst e; exact HP.out
                  · exact hT.out c (by omega)⟩
                case measure => simp [intOf]; omega
          · have hbt' : ¬ (b : Int) < m.n := by omega
            go_wp2_with fail
            go_roundw
            case rel => exact ⟨j + 1, by omega, by go_num, hD, fun a ha c hc => by
              by_cases e : a = j
              · subst e; exact hT.out c (by omega)
              · exact hR.out a (by omega) c hc⟩
            case measure => simp [intOf]; omega
      · have hlt' : ¬ (j : Int) < m.n := by omega
        have HT : Hid (true = bothV m m.n z) := by
          show _ = _
          rw [HV.out]
          exact (allB_true fun a ha => allB_true fun b hb => hR.out a (by omega) b hb).symm
        go_wp2_with fail
        go_at_call 33
        refine (spec_LogicOk hr.out).mono ?_
        rintro e w2 ⟨rfl, b2⟩
        rw [HL.out]
        have hX2 := hXr.step b2
        clear q0 q1
        go_wp2_with fail
        go_ret
        exact ⟨ret_bool HT.out, hX2.below⟩
end Go.Proofs.Ytijcacibofpnpaa
