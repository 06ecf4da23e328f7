/- The law on DualOf against the reference, walked at whatever text. -/
import Derived.Test.YtjmhhjdkemicbaaKd
namespace Go.Proofs.Ytjmhhjdkemicbaa
open Go.RowKit Go.Deep

set_option maxRecDepth 100000 in
set_option maxHeartbeats 1000000 in
theorem law_ExactDualOf {w : World} {s : ByteArray} (hs : s.size ≤ maxLen) :
    Calls Try.prog 10 #[.string s] w fun e w' => e = .returned (.bool true) ∧ Below w.heap.size w w' := by
  have hs' : s.size ≤ 9223372036854775807 := hs
  by_cases hbig : 1048576 < s.size
  · have hbig' : (1048576 : Int) < s.size := by omega
    go_enter Try.func10, Try.ntmps10
    go_wp2_with fail
    go_ret
    exact ⟨rfl, Below.refl _ _⟩
  · have hbig' : ¬ (1048576 : Int) < s.size := by omega
    go_enter Try.func10, Try.ntmps10
    go_wp2_with fail
    go_at_call 22
    refine (spec_DualOf s w (by omega)).mono ?_
    rintro e w1 ⟨rfl, rfl⟩
    go_wp2_with fail
    go_at_call 21
    refine (DualOf_any s _ (by omega)).mono ?_
    rintro e w2 ⟨rfl, b2⟩
    unfold strV
    generalize (ByteArray.mk (dualS s.data.toList).toArray) = t
    have hb9 : (t.toList == t.toList) = true := by simp
    have hb8 : (t.toList != t.toList) = false := by simp
    go_wp2_with fail
    go_ret
    exact ⟨rfl, b2⟩
end Go.Proofs.Ytjmhhjdkemicbaa
