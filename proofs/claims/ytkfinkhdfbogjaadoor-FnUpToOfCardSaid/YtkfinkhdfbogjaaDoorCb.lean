/- The walks of the reference's BehindOf, ClearOf and UpToOf. -/
import Derived.Test.YtkfinkhdfbogjaaDoorAe
import Derived.Test.YtkfinkhdfbogjaaDoorMathS
namespace Go.Proofs.YtkfinkhdfbogjaaDoor
open Go.RowKit Go.Deep

noncomputable def behV (m : Mx) (k : Nat) (z : Nat → Int) (x v t : Int) : Int := projV m k z v (projV m k z x t)
noncomputable def clearV (m : Mx) (k : Nat) (z : Nat → Int) (x : Int) : List Int := if (logicB m k z && goodB m.n 1 (lone1 x)) = true then clearL m (fun c => (z c).toNat) (leastI m).toNat x.toNat else []
noncomputable def upV (m : Mx) (k : Nat) (z : Nat → Int) (x : Int) : List Int := if (logicB m k z && goodB m.n 1 (lone1 x)) = true then upL m (fun c => (z c).toNat) x.toNat else []
theorem projV_good {m : Mx} {z : Nat → Int} {a b : Nat} (h : logicB m m.n z = true) (ha : a < m.n) (hb : b < m.n) : projV m m.n z (a : Int) (b : Int) = ((projN m (fun c => (z c).toNat) a b : Nat) : Int) := by
  unfold projV
  rw [h, good_mk (by omega) (by omega) (by omega) (by omega)]
  rfl
theorem projV_bad1 {m : Mx} {k : Nat} {z : Nat → Int} {x v : Int} (h : (logicB m k z && goodB m.n 2 (two x v)) = false) : projV m k z x v = -1 := by unfold projV; rw [if_neg (by rw [h]; decide)]
theorem good_one_parts {m : Mx} {k : Nat} {z : Nat → Int} {x : Int} (h : (logicB m k z && goodB m.n 1 (lone1 x)) = true) : ∃ (a o : Nat), x = (a : Int) ∧ a < m.n ∧ k = m.n ∧ logicB m k z = true ∧ leastI m = (o : Int) ∧ Ortho m z (fun c => (z c).toNat) o := by
  rw [Bool.and_eq_true] at h
  obtain ⟨x0, x1⟩ := good_lone h.2
  obtain ⟨a, rfl⟩ := Int.eq_ofNat_of_zero_le x0
  obtain ⟨y, o, hO⟩ := (logicB_is h.1).ortho
  exact ⟨a, o, rfl, by omega, (logicB_is h.1).pair.len, h.1, hO.own.eq, hO.own⟩
theorem notV_at {m : Mx} {z : Nat → Int} {a o : Nat} (hg : (logicB m m.n z && goodB m.n 1 (lone1 (a : Int))) = true) (hO : Ortho m z (fun c => (z c).toNat) o) (ha : a < m.n) : notV m m.n z (a : Int) = (((z a).toNat : Nat) : Int) := by
  unfold notV
  rw [if_pos hg, Int.toNat_natCast]
  exact hO.zy a ha
theorem upV_len (m : Mx) (k : Nat) (z : Nat → Int) (x : Int) : (upV m k z x).length ≤ 1048576 := by
  unfold upV
  by_cases h : (logicB m k z && goodB m.n 1 (lone1 x)) = true
  · rw [if_pos h]
    obtain ⟨a, o, _, _, _, _, _, hO⟩ := good_one_parts h
    have h1 := hO.lat.order.top
    have h2 := listTo_len (upB m (fun a => (z a).toNat) x.toNat) m.n
    unfold upL
    omega
  · rw [if_neg h]; simp
theorem clearV_len (m : Mx) (k : Nat) (z : Nat → Int) (x : Int) : (clearV m k z x).length ≤ 1048576 := by
  unfold clearV
  by_cases h : (logicB m k z && goodB m.n 1 (lone1 x)) = true
  · rw [if_pos h]
    obtain ⟨a, o, _, _, _, _, _, hO⟩ := good_one_parts h
    have h1 := hO.lat.order.top
    have h2 := listTo_len (clearB m (fun a => (z a).toNat) (leastI m).toNat x.toNat) m.n
    unfold clearL
    omega
  · rw [if_neg h]; simp

end Go.Proofs.YtkfinkhdfbogjaaDoor
