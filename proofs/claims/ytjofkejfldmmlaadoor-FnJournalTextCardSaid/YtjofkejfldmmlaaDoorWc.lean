/- The walk of the reference's test whether rows are an order. -/
import Derived.Test.YtjofkejfldmmlaaDoorWa
namespace Go.Proofs.YtjofkejfldmmlaaDoor
open Go.RowKit Go.Deep

end Go.Proofs.YtjofkejfldmmlaaDoor
