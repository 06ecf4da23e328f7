/- The law on FormulaOk against the reference, walked at whatever text. -/
import Derived.Test.YtjmhhjdkemicbaaKc
namespace Go.Proofs.Ytjmhhjdkemicbaa
open Go.RowKit Go.Deep

set_option maxRecDepth 100000 in
set_option maxHeartbeats 1000000 in
theorem law_ExactFormulaOk {w : World} {s : ByteArray} (hs : s.size ≤ maxLen) :
    Calls Try.prog 6 #[.string s] w fun e w' => e = .returned (.bool true) ∧ Below w.heap.size w w' := by
  have hs' : s.size ≤ 9223372036854775807 := hs
  by_cases hbig : 1048576 < s.size
  · have hbig' : (1048576 : Int) < s.size := by omega
    go_enter Try.func6, Try.ntmps6
    go_wp2_with fail
    go_ret
    exact ⟨rfl, Below.refl _ _⟩
  · have hbig' : ¬ (1048576 : Int) < s.size := by omega
    go_enter Try.func6, Try.ntmps6
    go_wp2_with fail
    go_at_call 13
    refine (spec_FormulaOk s (by omega) w).mono ?_
    rintro e w1 ⟨rfl, rfl⟩
    go_wp2_with fail
    go_at_call 12
    refine (FormulaOk_any s _ (by omega)).mono ?_
    rintro e w2 ⟨rfl, b2⟩
    generalize formB s.data.toList = b
    have hb9 : (b != b) = false := by cases b <;> rfl
    go_wp2_with fail
    go_ret
    exact ⟨rfl, b2⟩
end Go.Proofs.Ytjmhhjdkemicbaa
