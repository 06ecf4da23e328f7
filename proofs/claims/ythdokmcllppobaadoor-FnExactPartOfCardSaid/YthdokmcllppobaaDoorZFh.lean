/- The walks of the program's functions that make a logic of two, given the walk of the plan; TimesOf. -/
import Derived.Test.YthdokmcllppobaaDoorZFe
import Derived.Test.YthdokmcllppobaaDoorZFg
import Derived.Test.YthdokmcllppobaaDoorZMathI
namespace Go.Proofs.YthdokmcllppobaaDoor
open Go.RowKit Go.Deep

theorem Ortho.congr {m : Mx} {z : Nat → Int} {y y' : Nat → Nat} {o : Nat} (h : Ortho m z y o) (e : ∀ a, a < m.n → y a = y' a) : Ortho m z y' o := by
  have l : ∀ a, a < m.n → y' a < m.n := fun a ha => by rw [← e a ha]; exact h.lt a ha
  exact ⟨h.lat, fun a ha => by rw [h.zy a ha, e a ha], l, fun a ha => by rw [← e a ha, ← e _ (h.lt a ha)]; exact h.inv a ha, fun a b ha hb hab => by rw [← e a ha, ← e b hb]; exact h.turn a b ha hb hab, h.ho, h.least, h.eq, fun a ha => by rw [← e a ha]; exact h.kept a ha⟩
/-- Its opposites, as plain numbers. -/
def LD.y (d : LD) (a : Nat) : Nat := (d.z a).toNat
end Go.Proofs.YthdokmcllppobaaDoor
