/- The walks of the program's AndOf, OrOf, NotOf, NoOf, YesOf and ApartOk. The walks of the reference's AndOf, OrOf, NotOf, NoOf, YesOf and ApartOk. The walk of the reference's test whether a logic keeps the law. The walk of the program's test whether a logic keeps the law. -/
import Derived.Test.YtjofkejfldmmlaaDoorOa
import Derived.Test.YtjofkejfldmmlaaDoorMath
namespace Go.Proofs.YtjofkejfldmmlaaDoor
open Go.RowKit Go.Deep

noncomputable def andV (m : Mx) (k : Nat) (z : Nat → Int) (a b : Int) : Int := if (logicB m k z && goodB m.n 2 (two a b)) = true then meetI m a.toNat b.toNat else -1
noncomputable def orV (m : Mx) (k : Nat) (z : Nat → Int) (a b : Int) : Int := if (logicB m k z && goodB m.n 2 (two a b)) = true then meetI (tr m) a.toNat b.toNat else -1
def lone1 (a : Int) : Nat → Int := fun _ => a
noncomputable def notV (m : Mx) (k : Nat) (z : Nat → Int) (a : Int) : Int := if (logicB m k z && goodB m.n 1 (lone1 a)) = true then z a.toNat else -1
noncomputable def noV (m : Mx) (k : Nat) (z : Nat → Int) : Int := if logicB m k z = true then leastI m else -1
noncomputable def yesV (m : Mx) (k : Nat) (z : Nat → Int) : Int := if logicB m k z = true then z (leastI m).toNat else -1
noncomputable def apartB (m : Mx) (k : Nat) (z : Nat → Int) (a b : Int) : Bool := (logicB m k z && goodB m.n 2 (two a b)) && leB m a.toNat (z b.toNat).toNat
theorem lone_at (w : World) (a : Int) : RowAt (w.alloc (.cells #[.int .i64 a] 3)) (w.heap.size + 1) (some ⟨w.heap.size, 0, none⟩) w.heap.size 0 1 (lone1 a) :=
  ⟨fun c hc => ⟨rfl, by omega, by
    obtain rfl : c = 0 := by omega
    simp [lone1]⟩⟩
theorem good_lone {n : Nat} {a : Int} (h : goodB n 1 (lone1 a) = true) : 0 ≤ a ∧ a < (n : Int) := by
  have h0 := allB_is h 0 (by omega)
  simp only [lone1, Bool.and_eq_true] at h0
  exact ⟨of_decide_eq_true h0.1, of_decide_eq_true h0.2⟩

end Go.Proofs.YtjofkejfldmmlaaDoor
namespace Go.Proofs.YtjofkejfldmmlaaDoor
open Go.RowKit Go.Deep

theorem good_mk {n : Nat} {a b : Int} (h0 : 0 ≤ a) (h1 : a < (n : Int)) (h2 : 0 ≤ b) (h3 : b < (n : Int)) : goodB n 2 (two a b) = true := allB_true fun i hi => by
  rcases (show i = 0 ∨ i = 1 by omega) with rfl | rfl
  · simp [two, h0, h1]
  · simp [two, h2, h3]
theorem good_no0 {n : Nat} {a b : Int} (h : ¬ (0 ≤ a ∧ a < (n : Int))) : goodB n 2 (two a b) = false := by
  cases hg : goodB n 2 (two a b) with
  | false => rfl
  | true => exact absurd ⟨(good_two hg).1, (good_two hg).2.1⟩ h
theorem good_no1 {n : Nat} {a b : Int} (h : ¬ (0 ≤ b ∧ b < (n : Int))) : goodB n 2 (two a b) = false := by
  cases hg : goodB n 2 (two a b) with
  | false => rfl
  | true => exact absurd ⟨(good_two hg).2.2.1, (good_two hg).2.2.2⟩ h
theorem good_same {n : Nat} {a : Int} : goodB n 1 (lone1 a) = goodB n 2 (two a a) := by
  by_cases h : 0 ≤ a ∧ a < (n : Int)
  · rw [good_mk h.1 h.2 h.1 h.2]
    exact allB_true fun i _ => by simp [lone1, h.1, h.2]
  · rw [good_no0 h]
    cases hg : goodB n 1 (lone1 a) with
    | false => rfl
    | true => exact absurd (good_lone hg) h
theorem not_no {m : Mx} {k : Nat} {z : Nat → Int} : notV m k z (noV m k z) = yesV m k z := by
  cases hl : logicB m k z with
  | false => unfold notV yesV; rw [hl]; rfl
  | true =>
    have hlog := logicB_is hl
    obtain ⟨x, hx, hxe, _⟩ := least_parts hlog.lat.order (lattice_hasLeast hlog.lat)
    have e1 : noV m k z = (x : Int) := by unfold noV; rw [if_pos hl, hxe]
    have e2 : goodB m.n 1 (lone1 (x : Int)) = true := by rw [good_same]; exact good_mk (by omega) (by omega) (by omega) (by omega)
    rw [e1]
    unfold notV yesV
    rw [hl, e2, hxe]
    rfl


end Go.Proofs.YtjofkejfldmmlaaDoor
namespace Go.Proofs.YtjofkejfldmmlaaDoor
open Go.RowKit Go.Deep

end Go.Proofs.YtjofkejfldmmlaaDoor
namespace Go.Proofs.YtjofkejfldmmlaaDoor
open Go.RowKit Go.Deep Go.Shelf

attribute [local go_sem] Oper.semAt_some

/-- Nothing speaks against the pairs of the list. -/
def AllKeep (m : Mx) (y : Nat → Nat) (pre : List (Fin m.n × Fin m.n)) : Prop := ∀ p ∈ pre, keepsPB m y p.1.val p.2.val = true
theorem AllKeep.snoc {m : Mx} {y : Nat → Nat} {pre : List (Fin m.n × Fin m.n)} (h : AllKeep m y pre) {x : Fin m.n × Fin m.n} (hx : keepsPB m y x.1.val x.2.val = true) : AllKeep m y (pre ++ [x]) := fun p hp => by
  rcases List.mem_append.1 hp with e | e
  · exact h p e
  · have e' : p = x := by simpa using e
    rw [e']; exact hx

end Go.Proofs.YtjofkejfldmmlaaDoor
