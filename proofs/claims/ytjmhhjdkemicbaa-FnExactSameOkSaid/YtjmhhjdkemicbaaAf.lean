/- The walks of the reference's l6Agree and l6Split. -/
import Derived.Test.YtjmhhjdkemicbaaAa
namespace Go.Proofs.Ytjmhhjdkemicbaa
open Go.RowKit Go.Deep

end Go.Proofs.Ytjmhhjdkemicbaa
