/- The walks of the program's MeetOf and LeastOf. -/
import Derived.Test.YtgjacinolenheaaWj
namespace Go.Proofs.Ytgjacinolenheaa
open Go.RowKit Go.Deep

theorem two_at (w : World) (a b : Int) : RowAt (w.alloc (.cells #[.int .i64 a, .int .i64 b] 3)) (w.heap.size + 1) (some ⟨w.heap.size, 0, none⟩) w.heap.size 0 2 (two a b) :=
  ⟨fun c hc => ⟨rfl, by omega, by
    rcases (show c = 0 ∨ c = 1 by omega) with rfl | rfl
    · simp [two]
    · simp [two]⟩⟩

end Go.Proofs.Ytgjacinolenheaa
