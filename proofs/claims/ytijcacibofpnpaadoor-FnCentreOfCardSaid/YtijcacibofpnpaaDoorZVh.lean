/- The walk of the reference's l3Inner: the answers other than no and yes. -/
import Derived.Test.YtijcacibofpnpaaDoorZGa
import Derived.Test.YtijcacibofpnpaaDoorZYa
import Derived.Test.YtijcacibofpnpaaDoorZMathI
namespace Go.Proofs.YtijcacibofpnpaaDoor
open Go.RowKit Go.Deep

theorem IntsAt.shape {w : World} {base : Nat} {t : Value} {k : Nat} {y : Nat → Int} (h : IntsAt w base t k y) : ∃ a c, t = .slice a k c := by
  rcases h.2 with ⟨rfl, rfl⟩ | ⟨g, cap, cur, rfl, _⟩
  · exact ⟨_, _, rfl⟩
  · exact ⟨_, _, rfl⟩
theorem IntsAt.rowAt {w : World} {base : Nat} {a : Option Addr} {k c : Nat} {y : Nat → Int} (h : IntsAt w base (.slice a k c) k y) : ∃ g, RowAt w w.heap.size a g 0 k y := by
  by_cases hk : 0 < k
  · obtain ⟨g, c', e, _, h3, _⟩ := IntsAt.val h hk
    injection e with e1 e2 e3
    subst e1 e3
    exact ⟨g, ⟨fun i hi => ⟨rfl, h3, by rw [Nat.zero_add]; exact IntsAt.cell h hi⟩⟩⟩
  · exact ⟨0, ⟨fun i hi => absurd hi (by omega)⟩⟩
theorem IntsAt.below {w w' : World} {base : Nat} {t : Value} {k : Nat} {y : Nat → Int} (h : IntsAt w base t k y) (hb : Below w.heap.size w w') : IntsAt w' base t k y := ownsRow_below h hb (Nat.le_refl _)

/-- What l3Inner hands back: so many numbers. -/
def InnerRes (w : World) (p : Nat) (f : Nat → Nat) (e : Ending) (w' : World) : Prop :=
  ∃ a g c, e = .returned (.slice a p c) ∧ RowAt w' w'.heap.size a g 0 p (fun i => (f i : Int)) ∧ Below w.heap.size w w'

end Go.Proofs.YtijcacibofpnpaaDoor
