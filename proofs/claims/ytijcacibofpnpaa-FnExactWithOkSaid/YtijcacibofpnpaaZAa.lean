/- The walks of the reference's WithOk, SplitOk and BothWaysOk. -/
import Derived.Test.YtijcacibofpnpaaZYa
import Derived.Test.YtijcacibofpnpaaZOj
import Derived.Test.YtijcacibofpnpaaZMathM
namespace Go.Proofs.Ytijcacibofpnpaa
open Go.RowKit Go.Deep

noncomputable def withV (m : Mx) (k : Nat) (z : Nat → Int) (x v : Int) : Bool := (logicB m k z && goodB m.n 2 (two x v)) && agB m (fun a => (z a).toNat) x.toNat v.toNat
set_option maxRecDepth 100000 in
set_option maxHeartbeats 2000000 in
theorem l5With_any {w : World} {B : Nat} {ua : Option Addr} {l : Lay} {m : Mx} {na : Option Addr} {g o nc a b : Nat} {z : Nat → Int} {y : Nat → Nat} {o' : Nat} (h : LogAt w B ua l m na g o m.n z) (hO : Ortho m z y o') (ha : a < m.n) (hb : b < m.n) :
    Calls Try.prog 48 #[.agg #[.slice ua m.n l.cap, .slice na m.n nc], .int .i64 a, .int .i64 b] w fun e w' => e = .returned (.bool (agB m y a b)) ∧ Below w.heap.size w w' := by
  have hX := BoxN.start w #[.slice ua m.n l.cap, .slice na m.n nc] 26
  have h1 := Lib.hid (h.alloc (.cells #[.slice ua m.n l.cap, .slice na m.n nc] 26))
  have q0 := hX.cell 0 rfl
  have q1 := hX.cell 1 rfl
  have hn := hO.lat.order.top
  have hpos := hO.lat.order.pos
  have HO := Lib.hid hO
  obtain ⟨rfl, hg1, hg2⟩ := h1.out.row.row 0 (by omega)
  obtain ⟨rfl, hg3, hg4⟩ := h1.out.mat.top 0 (by omega)
  clear hg1 hg2 hg3 hg4 h hO
  obtain ⟨_, _, d1⟩ := h1.out.row.row b hb
  rw [HO.out.zy b hb] at d1
  have f2 := HO.out.lt b hb
  have f2' : ((y b : Nat) : Int) < m.n := by omega
  have hb' : (b : Int) < m.n := by omega
  have hmat := Lib.hid h1.out.mat
  have m1 := (HO.out.mG ha hb).lt
  have m2 := (HO.out.mG ha f2).lt
  have hB := hX.below
  clear h1
  cases hk : agB m y a b with
  | true =>
    have e1 : jN m (mN m a b) (mN m a (y b)) = a := of_decide_eq_true hk
    have n1 : (((jN m (mN m a b) (mN m a (y b)) : Nat) : Int) == (a : Int)) = true := by rw [e1]; simp
    clear hk e1
    go_enter Try.func48, Try.ntmps48
    go_wp2_with fail
    generalize w.alloc (.cells #[.slice (some ⟨l.b, l.o, none⟩) m.n l.cap, .slice (some ⟨g, o, none⟩) m.n nc] 26) = W at hmat hX hB q0 q1 d1 ⊢
    go_quiet (first | (go_at_call 49; exact meetQ hmat.out HO.out ha hb) | (go_at_call 49; exact meetQ hmat.out HO.out ha f2) | (go_at_call 59; exact joinQ hmat.out HO.out m1 m2))
    go_wp2_with fail
    go_ret
    exact ⟨rfl, Below.drewN' hB _⟩
  | false =>
    have e1 : ¬ jN m (mN m a b) (mN m a (y b)) = a := of_decide_eq_false hk
    have n1 : (((jN m (mN m a b) (mN m a (y b)) : Nat) : Int) == (a : Int)) = false := by rw [beq_eq_false_iff_ne]; omega
    clear hk e1
    go_enter Try.func48, Try.ntmps48
    go_wp2_with fail
    generalize w.alloc (.cells #[.slice (some ⟨l.b, l.o, none⟩) m.n l.cap, .slice (some ⟨g, o, none⟩) m.n nc] 26) = W at hmat hX hB q0 q1 d1 ⊢
    go_quiet (first | (go_at_call 49; exact meetQ hmat.out HO.out ha hb) | (go_at_call 49; exact meetQ hmat.out HO.out ha f2) | (go_at_call 59; exact joinQ hmat.out HO.out m1 m2))
    go_wp2_with fail
    go_ret
    exact ⟨rfl, Below.drewN' hB _⟩

/-- Two answers of a logic, out of the test. -/
theorem good_parts {m : Mx} {k : Nat} {z : Nat → Int} {x v : Int} (h : (logicB m k z && goodB m.n 2 (two x v)) = true) : ∃ (a b o : Nat), x = (a : Int) ∧ v = (b : Int) ∧ a < m.n ∧ b < m.n ∧ k = m.n ∧ Ortho m z (fun c => (z c).toNat) o := by
  rw [Bool.and_eq_true] at h
  obtain ⟨x0, x1, y0, y1⟩ := good_two h.2
  obtain ⟨a, rfl⟩ := Int.eq_ofNat_of_zero_le x0
  obtain ⟨b, rfl⟩ := Int.eq_ofNat_of_zero_le y0
  obtain ⟨y, o, hO⟩ := (logicB_is h.1).ortho
  exact ⟨a, b, o, rfl, rfl, by omega, by omega, (logicB_is h.1).pair.len, hO.own⟩

set_option maxRecDepth 100000 in
set_option maxHeartbeats 2000000 in
theorem spec_WithOk {w : World} {B : Nat} {ua : Option Addr} {l : Lay} {m : Mx} {na : Option Addr} {g o k nc : Nat} {z : Nat → Int} {x v : Int} (h : LogAt w B ua l m na g o k z) :
    Calls Try.prog 14 #[.agg #[.slice ua m.n l.cap, .slice na k nc], .int .i64 x, .int .i64 v] w fun e w' => e = .returned (.bool (withV m k z x v)) ∧ Below w.heap.size w w' := by
  have hX := BoxN.start w #[.slice ua m.n l.cap, .slice na k nc] 26
  have h1 := Lib.hid (h.alloc (.cells #[.slice ua m.n l.cap, .slice na k nc] 26))
  have q0 := hX.cell 0 rfl
  have q1 := hX.cell 1 rfl
  clear h
  cases hg : (logicB m k z && goodB m.n 2 (two x v)) with
  | false =>
    have HF : Hid (false = withV m k z x v) := by show _ = _; unfold withV; rw [hg]; rfl
    have HG := Lib.hid hg
    clear hg
    go_enter Try.func14, Try.ntmps14
    go_wp2_with fail
    go_at_call 47
    refine (l2Both_any h1.out).mono ?_
    rintro e w2 ⟨rfl, b2⟩
    rw [HG.out]
    have hX2 := hX.step b2
    clear q0 q1
    go_wp2_with fail
    go_ret
    exact ⟨ret_bool HF.out, hX2.below⟩
  | true =>
    have HG := Lib.hid hg
    obtain ⟨a, b, o', rfl, rfl, ha, hb, rfl, hO⟩ := good_parts hg
    have HV : Hid (agB m (fun c => (z c).toNat) a b = withV m m.n z (a : Int) (b : Int)) := by
      show _ = _
      unfold withV
      rw [hg]
      rfl
    have HO := Lib.hid hO
    clear hg hO
    go_enter Try.func14, Try.ntmps14
    go_wp2_with fail
    go_at_call 47
    refine (l2Both_any h1.out).mono ?_
    rintro e w2 ⟨rfl, b2⟩
    rw [HG.out]
    have hX2 := hX.step b2
    have h2 := Lib.hid (h1.out.step b2)
    have r0 := hX2.cell 0 rfl
    have r1 := hX2.cell 1 rfl
    clear q0 q1
    go_wp2_with fail
    go_at_call 48
    refine (l5With_any h2.out HO.out ha hb).mono ?_
    rintro e w3 ⟨rfl, b3⟩
    have hX3 := hX2.step b3
    clear r0 r1
    rw [HV.out]
    go_wp2_with fail
    go_ret
    exact ⟨rfl, hX3.below⟩

end Go.Proofs.Ytijcacibofpnpaa
