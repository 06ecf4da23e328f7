/- The law on TimesOf, walked at whatever code. -/
import Derived.Test.YtgjacinolenheaaZJa
import Derived.Test.YtgjacinolenheaaZIa
import Derived.Test.YtgjacinolenheaaZGb
import Derived.Test.YtgjacinolenheaaZOj
namespace Go.Proofs.Ytgjacinolenheaa
open Go.RowKit Go.Deep

theorem Kept.step {base : Nat} {d : LD} {w w' : World} (h : Kept base d w) (hb : Below w.heap.size w w') : Kept base d w' :=
  h.chg (Chg.of_below (S := fun _ => False) hb fun j h1 h2 => absurd h1 (by omega)) fun _ hj => hj.elim
/-- A logic that is one, as square rows. -/
theorem LogAt.square {w : World} {B : Nat} {ua : Option Addr} {l : Lay} {m : Mx} {na : Option Addr} {g o k : Nat} {z : Nat → Int} (h : LogAt w B ua l m na g o k z) (hl : logicB m k z = true) :
    LogAt w B ua l ⟨m.n, fun _ => m.n, m.Z⟩ na g o m.n (fun c => ((z c).toNat : Int)) := by
  have hi := logicB_is hl
  obtain ⟨y, oo, hO⟩ := hi.ortho
  have hk : k = m.n := hi.pair.len
  subst hk
  refine ⟨⟨fun r hr => ?_, fun r hr c hc => ?_⟩, ⟨fun c hc => ?_⟩, h.hn, fun _ _ => h.hn, h.hk, h.hB⟩
  · obtain ⟨a, b, d⟩ := h.mat.top r hr
    exact ⟨a, b, by rw [d, hO.lat.order.sq.len r hr]⟩
  · exact h.mat.row r hr c (by rw [hO.lat.order.sq.len r hr]; exact hc)
  · obtain ⟨a, b, d⟩ := h.row.row c hc
    exact ⟨a, b, by rw [d, hO.zy c hc]; simp⟩
theorem andV_is {m : Mx} {k : Nat} {z : Nat → Int} {y : Nat → Nat} {o a b : Nat} (h : Ortho m z y o) (hl : logicB m k z = true) (ha : a < m.n) (hb : b < m.n) : andV m k z (a : Int) (b : Int) = meetI m a b := by
  have _ := h.ho
  unfold andV
  rw [hl, good_mk (by omega) (by omega) (by omega) (by omega)]
  rfl
theorem LogAtK {base : Nat} {ua : Option Addr} {l : Lay} {m : Mx} {na : Option Addr} {g o k nc : Nat} {z : Nat → Int} {w : World} (h : Kept base ⟨ua, l, m, na, g, o, k, nc, z⟩ w) : LogAt w w.heap.size ua l m na g o k z := h.log

end Go.Proofs.Ytgjacinolenheaa
