/- The walks of the reference's MeetOf, JoinOf, LeastOf and LatticeOk. -/
import Derived.Test.YtgjacinolenheaaWm
import Derived.Test.YtgjacinolenheaaWn
import Derived.Test.YtgjacinolenheaaWc
import Derived.Test.YtgjacinolenheaaMath
namespace Go.Proofs.Ytgjacinolenheaa
open Go.RowKit Go.Deep

theorem ret_two {a b : Int} {x y : Bool} (h : a = b) (k : x = y) : Ending.returned (.tuple #[.int .i64 a, .bool x]) = .returned (.tuple #[.int .i64 b, .bool y]) := by rw [h, k]

end Go.Proofs.Ytgjacinolenheaa
