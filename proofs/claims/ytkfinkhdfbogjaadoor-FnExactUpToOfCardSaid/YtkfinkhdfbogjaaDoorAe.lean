/- The walks of the reference's functions of two answers: what is told apart, projections, what follows; and of its tests of two and three answers. -/
import Derived.Test.YtkfinkhdfbogjaaDoorAa
import Derived.Test.YtkfinkhdfbogjaaDoorMathP
namespace Go.Proofs.YtkfinkhdfbogjaaDoor
open Go.RowKit Go.Deep

noncomputable def projV (m : Mx) (k : Nat) (z : Nat → Int) (x v : Int) : Int := if (logicB m k z && goodB m.n 2 (two x v)) = true then ((projN m (fun c => (z c).toNat) x.toNat v.toNat : Nat) : Int) else -1
noncomputable def hookV (m : Mx) (k : Nat) (z : Nat → Int) (x v : Int) : Int := if (logicB m k z && goodB m.n 2 (two x v)) = true then ((hookN m (fun c => (z c).toNat) x.toNat v.toNat : Nat) : Int) else -1

end Go.Proofs.YtkfinkhdfbogjaaDoor
