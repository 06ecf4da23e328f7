/- The law on OrderOk against the reference, walked at whatever rows. -/
import Derived.Test.YtgjacinolenheaaWb
import Derived.Test.YtgjacinolenheaaWc
import Derived.Test.YtgjacinolenheaaWd
namespace Go.Proofs.Ytgjacinolenheaa
open Go.RowKit Go.Deep

/-- An argument of rows as it comes in: within Go's lengths. -/
structure ArgAt (w : World) (a : Option Addr) (l : Lay) (m : Mx) : Prop where
  mat : MatAt w w.heap.size a l m
  hn : m.n ≤ 9223372036854775807
  hL : ∀ r, r < m.n → m.L r ≤ 9223372036854775807

theorem ArgAt.step {w w' : World} {a : Option Addr} {l : Lay} {m : Mx} (h : ArgAt w a l m) (hb : Below w.heap.size w w') : ArgAt w' a l m :=
  ⟨(h.mat.below hb).more hb.size, h.hn, h.hL⟩
theorem OutS.arg {w wr : World} {m : Mx} (h : OutS w wr m m.n) (hn : m.n ≤ 9223372036854775807) (hL : ∀ r, r < m.n → m.L r ≤ 9223372036854775807) : ArgAt wr (some ⟨w.heap.size, 0, none⟩) (freshLay w.heap.size m) m :=
  ⟨h.mat, hn, hL⟩

end Go.Proofs.Ytgjacinolenheaa
