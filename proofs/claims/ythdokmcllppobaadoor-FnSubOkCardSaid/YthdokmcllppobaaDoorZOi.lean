/- The walks of the program's AndOf, OrOf, NotOf, NoOf, YesOf and ApartOk. -/
import Derived.Test.YthdokmcllppobaaDoorZOa
import Derived.Test.YthdokmcllppobaaDoorZMath
namespace Go.Proofs.YthdokmcllppobaaDoor
open Go.RowKit Go.Deep

def lone1 (a : Int) : Nat → Int := fun _ => a
noncomputable def notV (m : Mx) (k : Nat) (z : Nat → Int) (a : Int) : Int := if (logicB m k z && goodB m.n 1 (lone1 a)) = true then z a.toNat else -1
noncomputable def noV (m : Mx) (k : Nat) (z : Nat → Int) : Int := if logicB m k z = true then leastI m else -1
noncomputable def yesV (m : Mx) (k : Nat) (z : Nat → Int) : Int := if logicB m k z = true then z (leastI m).toNat else -1
theorem good_lone {n : Nat} {a : Int} (h : goodB n 1 (lone1 a) = true) : 0 ≤ a ∧ a < (n : Int) := by
  have h0 := allB_is h 0 (by omega)
  simp only [lone1, Bool.and_eq_true] at h0
  exact ⟨of_decide_eq_true h0.1, of_decide_eq_true h0.2⟩

end Go.Proofs.YthdokmcllppobaaDoor
