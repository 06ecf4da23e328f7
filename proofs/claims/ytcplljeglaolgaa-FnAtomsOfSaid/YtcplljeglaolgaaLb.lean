/- The laws on MeetOf, JoinOf, LeastOf and LatticeOk against the reference, walked at whatever rows. -/
import Derived.Test.YtcplljeglaolgaaLa
import Derived.Test.YtcplljeglaolgaaWk
import Derived.Test.YtcplljeglaolgaaWp
import Derived.Test.YtcplljeglaolgaaWs
import Derived.Test.YtcplljeglaolgaaWt
namespace Go.Proofs.Ytcplljeglaolgaa
open Go.RowKit Go.Deep

end Go.Proofs.Ytcplljeglaolgaa
