/- The law on LeastOf, walked at whatever code. -/
import Derived.Test.YtpklccecgfcdfaaDoorLe
import Derived.Test.YtpklccecgfcdfaaDoorLb
import Derived.Test.YtpklccecgfcdfaaDoorMath
namespace Go.Proofs.YtpklccecgfcdfaaDoor
open Go.RowKit Go.Deep

theorem leastV_not {m : Mx} (h : hasI (leastV m) = false) : leastV m = -1 := by
  cases ho : orderB m with
  | false => exact leastV_no ho
  | true => rw [leastV_yes ho] at h ⊢; exact least_not h
theorem leastV_order {m : Mx} (h : hasI (leastV m) = true) : orderB m = true := by
  cases ho : orderB m with
  | false => rw [leastV_no ho] at h; cases h
  | true => rfl

end Go.Proofs.YtpklccecgfcdfaaDoor
