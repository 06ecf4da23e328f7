/- A list's value has a shape. -/
import Derived.Test.YtanhogaekdcooaaDoorWv
namespace Go.Proofs.YtanhogaekdcooaaDoor
open Go.RowKit Go.Deep

theorem list_shape {W : World} {base : Nat} {v : Value} {L : List Int} (h : W.ownsRow base 3 1 v L.length (L.map (Value.int .i64))) : ∃ a c, v = .slice a L.length c := by
  rcases h.2 with ⟨e1, e2⟩ | ⟨g9, c9, _, e1, _⟩
  · exact ⟨none, 0, by rw [e1, e2]⟩
  · exact ⟨_, c9, e1⟩
end Go.Proofs.YtanhogaekdcooaaDoor
