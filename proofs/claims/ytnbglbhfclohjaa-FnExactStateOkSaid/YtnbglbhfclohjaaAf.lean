/- The walks of the reference's l6Agree and l6Split. -/
import Derived.Test.YtnbglbhfclohjaaAa
namespace Go.Proofs.Ytnbglbhfclohjaa
open Go.RowKit Go.Deep

end Go.Proofs.Ytnbglbhfclohjaa
