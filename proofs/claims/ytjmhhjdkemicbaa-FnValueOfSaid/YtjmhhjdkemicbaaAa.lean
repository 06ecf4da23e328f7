/- The walks of the reference's WithOk, SplitOk and BothWaysOk. The walk of the reference's CentreOf. The walks of the program's takenApart, WithOk, ApartFrom, SplitOk. The walk of the reference's ApartFrom. -/
import Derived.Test.YtjmhhjdkemicbaaOi
import Derived.Test.YtjmhhjdkemicbaaMath
import Derived.Test.YtjmhhjdkemicbaaWv
namespace Go.Proofs.Ytjmhhjdkemicbaa
open Go.RowKit Go.Deep

noncomputable def withV (m : Mx) (k : Nat) (z : Nat → Int) (x v : Int) : Bool := (logicB m k z && goodB m.n 2 (two x v)) && agB m (fun a => (z a).toNat) x.toNat v.toNat
noncomputable def splitV (m : Mx) (k : Nat) (z : Nat → Int) (x v t : Int) : Bool := ((logicB m k z && goodB m.n 2 (two x v)) && (logicB m k z && goodB m.n 2 (two x t))) && splitB m x.toNat v.toNat t.toNat
noncomputable def bothV (m : Mx) (k : Nat) (z : Nat → Int) : Bool := logicB m k z && twoWaysB m (fun a => (z a).toNat)

/-- Two answers of a logic, out of the test. -/
theorem good_parts {m : Mx} {k : Nat} {z : Nat → Int} {x v : Int} (h : (logicB m k z && goodB m.n 2 (two x v)) = true) : ∃ (a b o : Nat), x = (a : Int) ∧ v = (b : Int) ∧ a < m.n ∧ b < m.n ∧ k = m.n ∧ Ortho m z (fun c => (z c).toNat) o := by
  rw [Bool.and_eq_true] at h
  obtain ⟨x0, x1, y0, y1⟩ := good_two h.2
  obtain ⟨a, rfl⟩ := Int.eq_ofNat_of_zero_le x0
  obtain ⟨b, rfl⟩ := Int.eq_ofNat_of_zero_le y0
  obtain ⟨y, o, hO⟩ := (logicB_is h.1).ortho
  exact ⟨a, b, o, rfl, rfl, by omega, by omega, (logicB_is h.1).pair.len, hO.own⟩

theorem parts_split {m : Mx} {k : Nat} {z : Nat → Int} {x v t : Int} (h1 : (logicB m k z && goodB m.n 2 (two x v)) = true) (h2 : (logicB m k z && goodB m.n 2 (two x t)) = true) :
    ∃ (a b d o : Nat), x = (a : Int) ∧ v = (b : Int) ∧ t = (d : Int) ∧ a < m.n ∧ b < m.n ∧ d < m.n ∧ k = m.n ∧ Ortho m z (fun c => (z c).toNat) o := by
  obtain ⟨a, b, o, rfl, rfl, ha, hb, hk, hO⟩ := good_parts h1
  obtain ⟨a', d, _, e, rfl, _, hd, _, _⟩ := good_parts h2
  exact ⟨a, b, d, o, rfl, rfl, rfl, ha, hb, hd, hk, hO⟩
end Go.Proofs.Ytjmhhjdkemicbaa
namespace Go.Proofs.Ytjmhhjdkemicbaa
open Go.RowKit Go.Deep

/-- The answers of the centre below a number, in ascending order. -/
def midTo (m : Mx) (y : Nat → Nat) : Nat → List Int
  | 0 => []
  | k + 1 => if midB m y k = true then midTo m y k ++ [(k : Int)] else midTo m y k
noncomputable def midV (m : Mx) (k : Nat) (z : Nat → Int) : List Int := if logicB m k z = true then midTo m (fun a => (z a).toNat) m.n else []
theorem midTo_len (m : Mx) (y : Nat → Nat) (k : Nat) : (midTo m y k).length ≤ k := by
  induction k with
  | zero => exact Nat.le_refl _
  | succ k ih =>
    unfold midTo
    by_cases h : midB m y k = true
    · rw [if_pos h, List.length_append]; simp; omega
    · rw [if_neg h]; omega
theorem midV_len (m : Mx) (k : Nat) (z : Nat → Int) : (midV m k z).length ≤ 1048576 := by
  unfold midV
  by_cases h : logicB m k z = true
  · rw [if_pos h]
    obtain ⟨y, o, hO⟩ := (logicB_is h).ortho
    have h1 := hO.lat.order.top
    have h2 := midTo_len m (fun a => (z a).toNat) m.n
    omega
  · rw [if_neg h]; simp
theorem midTo_yes {m : Mx} {y : Nat → Nat} {k : Nat} (h : midB m y k = true) : midTo m y (k + 1) = midTo m y k ++ [(k : Int)] := if_pos h
theorem midTo_no {m : Mx} {y : Nat → Nat} {k : Nat} (h : midB m y k = false) : midTo m y (k + 1) = midTo m y k := if_neg (by rw [h]; exact Bool.false_ne_true)
theorem midTo_all {m : Mx} {y : Nat → Nat} {k : Nat} (h : ∀ a, a < k → midB m y a = true) : (midTo m y k).length = k := by
  induction k with
  | zero => rfl
  | succ k ih =>
    rw [midTo_yes (h k (Nat.lt_succ_self k)), List.length_append, ih fun a ha => h a (by omega)]
    rfl
/-- The first of all tests of an answer. -/
def midP (m : Mx) (y : Nat → Nat) (a j : Nat) : Bool := allB j fun b => agB m y a b && agB m y b a
theorem allB_step {j : Nat} {f : Nat → Bool} : allB (j + 1) f = (allB j f && f j) := by
  cases h1 : allB j f with
  | false =>
    cases h2 : allB (j + 1) f with
    | false => rfl
    | true =>
      have : allB j f = true := allB_true fun i hi => allB_is h2 i (by omega)
      rw [h1] at this
      exact absurd this Bool.false_ne_true
  | true =>
    cases h2 : f j with
    | false => exact allB_false (Nat.lt_succ_self j) h2
    | true =>
      exact allB_true fun i hi => by
        by_cases e : i = j
        · rw [e]; exact h2
        · exact allB_is h1 i (by omega)

end Go.Proofs.Ytjmhhjdkemicbaa
namespace Go.Proofs.Ytjmhhjdkemicbaa
open Go.RowKit Go.Deep

/-- The algebra of a logic lies in memory, and its rows and opposites. -/
structure AL (w : World) (B ob tb : Nat) (tG : Nat → Nat) (ua : Option Addr) (l : Lay) (m : Mx) (g o : Nat) (z : Nat → Int) (y : Nat → Nat) (n0 : Nat) : Prop where
  A : Alg w ob tb tG ua l m
  S : SqAt w B ua l m
  R : RowAt w B (some ⟨g, o, none⟩) g o m.n z
  O : Ortho m z y n0
theorem AL.step {w w' : World} {B ob tb g o n0 : Nat} {tG : Nat → Nat} {ua : Option Addr} {l : Lay} {m : Mx} {z : Nat → Int} {y : Nat → Nat} (h : AL w B ob tb tG ua l m g o z y n0) (hb : Below w.heap.size w w') : AL w' B ob tb tG ua l m g o z y n0 :=
  ⟨h.A.step hb, h.S.step hb, h.R.below (hb.mono h.S.hB), h.O⟩
theorem AL.notAt {w : World} {B ob tb g o n0 b : Nat} {tG : Nat → Nat} {ua : Option Addr} {l : Lay} {m : Mx} {z : Nat → Int} {y : Nat → Nat} (h : AL w B ob tb tG ua l m g o z y n0) (hb : b < m.n) : w.cell? ⟨g, o + b, none⟩ = some (.int .i64 ((y b : Nat) : Int)) := by
  have := (h.R.row b hb).2.2
  rw [h.O.zy b hb] at this
  exact this
theorem AL.of {w : World} {B ob tb g o n0 : Nat} {tG : Nat → Nat} {ua na : Option Addr} {l : Lay} {m : Mx} {z : Nat → Int} {y : Nat → Nat} (hA : Alg w ob tb tG ua l m) (h : LogAt w B ua l m na g o m.n z) (hO : Ortho m z y n0) :
    na = some ⟨g, o, none⟩ ∧ AL w B ob tb tG ua l m g o z y n0 := by
  have hp := hO.lat.order.pos
  obtain ⟨rfl, _, _⟩ := h.row.row 0 (by omega)
  exact ⟨rfl, hA, h.sq hO.lat.order, h.row, hO⟩
theorem meetA {w : World} {B ob tb g o nc n0 a b : Nat} {tG : Nat → Nat} {ua : Option Addr} {l : Lay} {m : Mx} {z : Nat → Int} {y : Nat → Nat} (h : AL w B ob tb tG ua l m g o z y n0) (ha : a < m.n) (hb : b < m.n) :
    Calls Try.prog 65 #[.agg #[.slice ua m.n l.cap, .slice (some ⟨g, o, none⟩) m.n nc, .slice (some ⟨ob, 0, none⟩) 2 2], .int .i64 0, .int .i64 a, .int .i64 b] w fun e w' => e = .returned (.int .i64 ((mN m a b : Nat) : Int)) ∧ Below w.heap.size w w' := by
  have e := made_meet (na := some ⟨g, o, none⟩) (k := m.n) (nc := nc) h.A h.S ha hb
  unfold algV at e
  rw [h.O.mI ha hb] at e
  exact e
theorem joinA {w : World} {B ob tb g o nc n0 a b : Nat} {tG : Nat → Nat} {ua : Option Addr} {l : Lay} {m : Mx} {z : Nat → Int} {y : Nat → Nat} (h : AL w B ob tb tG ua l m g o z y n0) (ha : a < m.n) (hb : b < m.n) :
    Calls Try.prog 65 #[.agg #[.slice ua m.n l.cap, .slice (some ⟨g, o, none⟩) m.n nc, .slice (some ⟨ob, 0, none⟩) 2 2], .int .i64 1, .int .i64 a, .int .i64 b] w fun e w' => e = .returned (.int .i64 ((jN m a b : Nat) : Int)) ∧ Below w.heap.size w w' := by
  have e := made_join (na := some ⟨g, o, none⟩) (k := m.n) (nc := nc) h.A h.S ha hb
  unfold algV at e
  rw [h.O.jI ha hb] at e
  exact e
theorem AL.mlt {w : World} {B ob tb g o n0 a b : Nat} {tG : Nat → Nat} {ua : Option Addr} {l : Lay} {m : Mx} {z : Nat → Int} {y : Nat → Nat} (h : AL w B ob tb tG ua l m g o z y n0) (ha : a < m.n) (hb : b < m.n) : mN m a b < m.n := (h.O.mG ha hb).lt
theorem AL.jlt {w : World} {B ob tb g o n0 a b : Nat} {tG : Nat → Nat} {ua : Option Addr} {l : Lay} {m : Mx} {z : Nat → Int} {y : Nat → Nat} (h : AL w B ob tb tG ua l m g o z y n0) (ha : a < m.n) (hb : b < m.n) : jN m a b < m.n := (h.O.jG ha hb).lt
def takN (m : Mx) (y : Nat → Nat) (a b : Nat) : Nat := jN m (mN m a b) (mN m a (y b))
theorem agB_tak (m : Mx) (y : Nat → Nat) (a b : Nat) : agB m y a b = decide (takN m y a b = a) := rfl
theorem apN_tak (m : Mx) (y : Nat → Nat) (a b : Nat) : apN m y a b = jN m (takN m y a b) (takN m y (y a) b) := rfl

noncomputable def apV (m : Mx) (k : Nat) (z : Nat → Int) (x v : Int) : Int := if (logicB m k z && goodB m.n 2 (two x v)) = true then ((apN m (fun a => (z a).toNat) x.toNat v.toNat : Nat) : Int) else -1

def three (a b c : Int) : Nat → Int := fun i => if i = 0 then a else if i = 1 then b else c
theorem three_at (w : World) (a b c : Int) : RowAt (w.alloc (.cells #[.int .i64 a, .int .i64 b, .int .i64 c] 3)) (w.heap.size + 1) (some ⟨w.heap.size, 0, none⟩) w.heap.size 0 3 (three a b c) :=
  ⟨fun i hi => ⟨rfl, by omega, by
    rcases (show i = 0 ∨ i = 1 ∨ i = 2 by omega) with rfl | rfl | rfl
    · simp [three]
    · simp [three]
    · simp [three]⟩⟩
theorem good_three {n : Nat} {a b c : Int} : goodB n 3 (three a b c) = (goodB n 2 (two a b) && goodB n 2 (two a c)) := by
  rw [Bool.eq_iff_iff, Bool.and_eq_true]
  constructor
  · intro h
    have h0 := allB_is h 0 (by omega)
    have h1 := allB_is h 1 (by omega)
    have h2 := allB_is h 2 (by omega)
    simp [three] at h0 h1 h2
    exact ⟨good_mk (by omega) (by omega) (by omega) (by omega), good_mk (by omega) (by omega) (by omega) (by omega)⟩
  · rintro ⟨h1, h2⟩
    obtain ⟨a0, a1, b0, b1⟩ := good_two h1
    obtain ⟨_, _, c0, c1⟩ := good_two h2
    exact allB_true fun i hi => by
      rcases (show i = 0 ∨ i = 1 ∨ i = 2 by omega) with rfl | rfl | rfl
      · simp [three]; omega
      · simp [three]; omega
      · simp [three]; omega
theorem split_tests {L A C : Bool} : (L && (A && C)) = ((L && A) && (L && C)) := by cases L <;> cases A <;> cases C <;> rfl

end Go.Proofs.Ytjmhhjdkemicbaa
namespace Go.Proofs.Ytjmhhjdkemicbaa
open Go.RowKit Go.Deep

theorem meetQ2 {B c n : Nat} {sa : Option Addr} {l : Lay} {m : Mx} {a b : Nat} {w : World} {z : Nat → Int} {y : Nat → Nat} {o : Nat} (h : MatAt w B sa l m) (hO : Ortho m z y o) (ha : a < m.n) (hb : b < m.n) :
    Calls Try.prog 66 #[.slice sa m.n l.cap, .int .i64 a, .int .i64 b] (w.drewN (c + n)) fun e w' => e = .returned (.int .i64 (mN m a b : Nat)) ∧ ∃ k, w' = w.drewN (c + k) :=
  (l1Meet_any (h.drewN (c + n)) hO.lat.order ha hb).mono fun _ _ ⟨he, hw⟩ => ⟨by rw [he, hO.mI ha hb], by subst hw; exact ⟨n, rfl⟩⟩
theorem joinQ2 {B c n : Nat} {sa : Option Addr} {l : Lay} {m : Mx} {a b : Nat} {w : World} {z : Nat → Int} {y : Nat → Nat} {o : Nat} (h : MatAt w B sa l m) (hO : Ortho m z y o) (ha : a < m.n) (hb : b < m.n) :
    Calls Try.prog 67 #[.slice sa m.n l.cap, .int .i64 a, .int .i64 b] (w.drewN (c + n)) fun e w' => e = .returned (.int .i64 (jN m a b : Nat)) ∧ ∃ k, w' = w.drewN (c + k) :=
  (l1Join_any (h.drewN (c + n)) hO.lat.order ha hb).mono fun _ _ ⟨he, hw⟩ => ⟨by rw [he, hO.jI ha hb], by subst hw; exact ⟨n, rfl⟩⟩
theorem joinD {B c : Nat} {sa : Option Addr} {l : Lay} {m : Mx} {a b : Nat} {w : World} {z : Nat → Int} {y : Nat → Nat} {o : Nat} (h : MatAt w B sa l m) (hO : Ortho m z y o) (ha : a < m.n) (hb : b < m.n) :
    Calls Try.prog 67 #[.slice sa m.n l.cap, .int .i64 a, .int .i64 b] (w.drewN c) fun e w' => e = .returned (.int .i64 (jN m a b : Nat)) ∧ Drew w w' :=
  (l1Join_any (h.drewN c) hO.lat.order ha hb).mono fun _ _ ⟨he, hw⟩ => ⟨by rw [he, hO.jI ha hb], by subst hw; exact (Drew.refl w).drewN c⟩

end Go.Proofs.Ytjmhhjdkemicbaa
