/- The walk of the reference's meeting. The walk of the reference's join. -/
import Derived.Test.YtjofkejfldmmlaaDoorWa
import Derived.Test.YtjofkejfldmmlaaDoorMath
namespace Go.Proofs.YtjofkejfldmmlaaDoor
open Go.RowKit Go.Deep

end Go.Proofs.YtjofkejfldmmlaaDoor
namespace Go.Proofs.YtjofkejfldmmlaaDoor
open Go.RowKit Go.Deep

end Go.Proofs.YtjofkejfldmmlaaDoor
