/- The walks of the reference's l6Agree and l6Split. -/
import Derived.Test.YtanhogaekdcooaaAa
namespace Go.Proofs.Ytanhogaekdcooaa
open Go.RowKit Go.Deep

set_option maxRecDepth 100000 in
set_option maxHeartbeats 4000000 in
theorem l6Split_any {w : World} {B : Nat} {ua : Option Addr} {l : Lay} {m : Mx} {na : Option Addr} {g o nc a b d : Nat} {z : Nat → Int} {y : Nat → Nat} {o' : Nat} (h : LogAt w B ua l m na g o m.n z) (hO : Ortho m z y o') (ha : a < m.n) (hb : b < m.n) (hd : d < m.n) :
    Calls Try.prog 67 #[.agg #[.slice ua m.n l.cap, .slice na m.n nc], .int .i64 a, .int .i64 b, .int .i64 d] w fun e w' => e = .returned (.bool (splitB m a b d)) ∧ Below w.heap.size w w' := by
  have hX := BoxN.start w #[.slice ua m.n l.cap, .slice na m.n nc] 26
  have h1 := Lib.hid (h.alloc (.cells #[.slice ua m.n l.cap, .slice na m.n nc] 26))
  have q0 := hX.cell 0 rfl
  have q1 := hX.cell 1 rfl
  have HO := Lib.hid hO
  have hmat := Lib.hid h1.out.mat
  have hB := hX.below
  have m1 := (HO.out.jG hb hd).lt
  have m2 := (HO.out.mG ha hb).lt
  have m3 := (HO.out.mG ha hd).lt
  clear h hO h1
  cases hk : splitB m a b d with
  | true =>
    have e1 : mN m a (jN m b d) = jN m (mN m a b) (mN m a d) := of_decide_eq_true hk
    have n1 : (((mN m a (jN m b d) : Nat) : Int) == ((jN m (mN m a b) (mN m a d) : Nat) : Int)) = true := by rw [e1]; simp
    clear hk e1
    go_enter Try.func67, Try.ntmps67
    go_wp2_with fail
    generalize w.alloc (.cells #[.slice ua m.n l.cap, .slice na m.n nc] 26) = W at hmat hX hB q0 q1 ⊢
    go_quiet (first | (go_at_call 45; exact joinQ hmat.out HO.out hb hd) | (go_at_call 46; exact meetQ hmat.out HO.out ha m1) | (go_at_call 46; exact meetQ hmat.out HO.out ha hb) | (go_at_call 46; exact meetQ hmat.out HO.out ha hd) | (go_at_call 45; exact joinQ hmat.out HO.out m2 m3))
    go_wp2_with fail
    go_ret
    exact ⟨rfl, Below.drewN' hB _⟩
  | false =>
    have e1 : ¬ mN m a (jN m b d) = jN m (mN m a b) (mN m a d) := of_decide_eq_false hk
    have n1 : (((mN m a (jN m b d) : Nat) : Int) == ((jN m (mN m a b) (mN m a d) : Nat) : Int)) = false := by rw [beq_eq_false_iff_ne]; omega
    clear hk e1
    go_enter Try.func67, Try.ntmps67
    go_wp2_with fail
    generalize w.alloc (.cells #[.slice ua m.n l.cap, .slice na m.n nc] 26) = W at hmat hX hB q0 q1 ⊢
    go_quiet (first | (go_at_call 45; exact joinQ hmat.out HO.out hb hd) | (go_at_call 46; exact meetQ hmat.out HO.out ha m1) | (go_at_call 46; exact meetQ hmat.out HO.out ha hb) | (go_at_call 46; exact meetQ hmat.out HO.out ha hd) | (go_at_call 45; exact joinQ hmat.out HO.out m2 m3))
    go_wp2_with fail
    go_ret
    exact ⟨rfl, Below.drewN' hB _⟩
end Go.Proofs.Ytanhogaekdcooaa
