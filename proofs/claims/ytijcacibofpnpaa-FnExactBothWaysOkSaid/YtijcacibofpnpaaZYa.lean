/- The walk of the reference's test whether a logic keeps the law. -/
import Derived.Test.YtijcacibofpnpaaZOa
import Derived.Test.YtijcacibofpnpaaZMathK
namespace Go.Proofs.Ytijcacibofpnpaa
open Go.RowKit Go.Deep

theorem meetQ {B n : Nat} {sa : Option Addr} {l : Lay} {m : Mx} {a b : Nat} {w : World} {z : Nat → Int} {y : Nat → Nat} {o : Nat} (h : MatAt w B sa l m) (hO : Ortho m z y o) (ha : a < m.n) (hb : b < m.n) :
    Calls Try.prog 49 #[.slice sa m.n l.cap, .int .i64 a, .int .i64 b] (w.drewN n) fun e w' => e = .returned (.int .i64 (mN m a b : Nat)) ∧ ∃ k, w' = w.drewN k :=
  quiet_drew ((l1Meet_any (h.drewN n) hO.lat.order ha hb).mono fun _ _ ⟨he, hw⟩ => ⟨by rw [he, hO.mI ha hb], by subst hw; exact Drew.refl _⟩)
theorem joinQ {B n : Nat} {sa : Option Addr} {l : Lay} {m : Mx} {a b : Nat} {w : World} {z : Nat → Int} {y : Nat → Nat} {o : Nat} (h : MatAt w B sa l m) (hO : Ortho m z y o) (ha : a < m.n) (hb : b < m.n) :
    Calls Try.prog 59 #[.slice sa m.n l.cap, .int .i64 a, .int .i64 b] (w.drewN n) fun e w' => e = .returned (.int .i64 (jN m a b : Nat)) ∧ ∃ k, w' = w.drewN k :=
  quiet_drew ((l1Join_any (h.drewN n) hO.lat.order ha hb).mono fun _ _ ⟨he, hw⟩ => ⟨by rw [he, hO.jI ha hb], by subst hw; exact Drew.refl _⟩)

end Go.Proofs.Ytijcacibofpnpaa
