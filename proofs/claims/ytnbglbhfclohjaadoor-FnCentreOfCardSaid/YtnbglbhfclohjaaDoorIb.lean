/- The laws on SetsOf and RingOf, walked at whatever code. -/
import Derived.Test.YtnbglbhfclohjaaDoorIa
import Derived.Test.YtnbglbhfclohjaaDoorOa
namespace Go.Proofs.YtnbglbhfclohjaaDoor
open Go.RowKit Go.Deep

theorem SetsOf_res {w : World} {t : Int} {N : Nat} {ok : Bool} (h1 : (if setsOkB t = true then 2 ^ t.toNat else 0) = N) (h2 : setsOkB t = ok) (h3 : ok = true → 2 ^ t.toNat = N) : Calls Tryd.prog 17 #[.int .i64 t] w fun e w' => ResL w N setsZ (setsY N) e ok w' := by
  subst h2
  subst h1
  refine SetsOf_any.mono fun e w' h => ?_
  have := h.res
  cases h4 : setsOkB t with
  | true => rw [h4] at this; exact this
  | false =>
    rw [h4] at this
    obtain ⟨ua, l, na, g, nc, h5, h6, h7⟩ := this
    exact ⟨ua, l, na, g, nc, h5, ⟨h6.mat, h6.row.congr (fun c hc => absurd hc (Nat.not_lt_zero _)), h6.ne, h6.nb, h6.bb, h6.bG, h6.bg, h6.hn, h6.hL, h6.hk, h6.hB⟩, h7⟩
end Go.Proofs.YtnbglbhfclohjaaDoor
