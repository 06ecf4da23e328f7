/- The laws on SetsOf and RingOf, walked at whatever code. -/
import Derived.Test.YtnbglbhfclohjaaIa
import Derived.Test.YtnbglbhfclohjaaOa
namespace Go.Proofs.Ytnbglbhfclohjaa
open Go.RowKit Go.Deep

theorem RingOf_res {w : World} {t : Int} {N : Nat} {ok : Bool} (h1 : (if decide (t = 6) = true then 6 else 0) = N) (h2 : decide (t = 6) = ok) : Calls Try.prog 11 #[.int .i64 t] w fun e w' => ResL w N ringZ ringY e ok w' := by
  subst h2
  subst h1
  exact RingOf_any.mono fun e w' h => h.res
end Go.Proofs.Ytnbglbhfclohjaa
