/- The walks of the reference's l6Agree and l6Split. -/
import Derived.Test.YtnbglbhfclohjaaDoorAa
namespace Go.Proofs.YtnbglbhfclohjaaDoor
open Go.RowKit Go.Deep

set_option maxRecDepth 100000 in
set_option maxHeartbeats 2000000 in
theorem l6Agree_any {w : World} {B : Nat} {ua : Option Addr} {l : Lay} {m : Mx} {na : Option Addr} {g o nc a b : Nat} {z : Nat → Int} {y : Nat → Nat} {o' : Nat} (h : LogAt w B ua l m na g o m.n z) (hO : Ortho m z y o') (ha : a < m.n) (hb : b < m.n) :
    Calls Tryd.prog 72 #[.agg #[.slice ua m.n l.cap, .slice na m.n nc], .int .i64 a, .int .i64 b] w fun e w' => e = .returned (.bool (agB m y a b && agB m y b a)) ∧ Below w.heap.size w w' := by
  have hX := BoxN.start w #[.slice ua m.n l.cap, .slice na m.n nc] 26
  have h1 := Lib.hid (h.alloc (.cells #[.slice ua m.n l.cap, .slice na m.n nc] 26))
  have q0 := hX.cell 0 rfl
  have q1 := hX.cell 1 rfl
  have HO := Lib.hid hO
  clear h hO
  go_enter Tryd.func72, Tryd.ntmps72
  go_wp2_with fail
  go_at_call 53
  refine (l5With_any h1.out HO.out ha hb).mono ?_
  rintro e w2 ⟨rfl, b2⟩
  have hX2 := hX.step b2
  have h2 := Lib.hid (h1.out.step b2)
  have r0 := hX2.cell 0 rfl
  have r1 := hX2.cell 1 rfl
  clear q0 q1
  cases g1 : agB m y a b with
  | false =>
    have G1 := Lib.hid g1
    clear g1
    go_wp2_with fail
    go_ret
    exact ⟨ret_bool (by rw [G1.out, Bool.false_and]), hX2.below⟩
  | true =>
    have G1 := Lib.hid g1
    clear g1
    go_wp2_with fail
    go_at_call 53
    refine (l5With_any h2.out HO.out hb ha).mono ?_
    rintro e w3 ⟨rfl, b3⟩
    have hX3 := hX2.step b3
    clear r0 r1
    go_wp2_with fail
    go_ret
    exact ⟨ret_bool (by rw [G1.out, Bool.true_and]), hX3.below⟩

set_option maxRecDepth 100000 in
set_option maxHeartbeats 4000000 in
theorem l6Split_any {w : World} {B : Nat} {ua : Option Addr} {l : Lay} {m : Mx} {na : Option Addr} {g o nc a b d : Nat} {z : Nat → Int} {y : Nat → Nat} {o' : Nat} (h : LogAt w B ua l m na g o m.n z) (hO : Ortho m z y o') (ha : a < m.n) (hb : b < m.n) (hd : d < m.n) :
    Calls Tryd.prog 86 #[.agg #[.slice ua m.n l.cap, .slice na m.n nc], .int .i64 a, .int .i64 b, .int .i64 d] w fun e w' => e = .returned (.bool (splitB m a b d)) ∧ Below w.heap.size w w' := by
  have hX := BoxN.start w #[.slice ua m.n l.cap, .slice na m.n nc] 26
  have h1 := Lib.hid (h.alloc (.cells #[.slice ua m.n l.cap, .slice na m.n nc] 26))
  have q0 := hX.cell 0 rfl
  have q1 := hX.cell 1 rfl
  have HO := Lib.hid hO
  have hmat := Lib.hid h1.out.mat
  have hB := hX.below
  have m1 := (HO.out.jG hb hd).lt
  have m2 := (HO.out.mG ha hb).lt
  have m3 := (HO.out.mG ha hd).lt
  clear h hO h1
  cases hk : splitB m a b d with
  | true =>
    have e1 : mN m a (jN m b d) = jN m (mN m a b) (mN m a d) := of_decide_eq_true hk
    have n1 : (((mN m a (jN m b d) : Nat) : Int) == ((jN m (mN m a b) (mN m a d) : Nat) : Int)) = true := by rw [e1]; simp
    clear hk e1
    go_enter Tryd.func86, Tryd.ntmps86
    go_wp2_with fail
    generalize w.alloc (.cells #[.slice ua m.n l.cap, .slice na m.n nc] 26) = W at hmat hX hB q0 q1 ⊢
    go_quiet (first | (go_at_call 79; exact joinQ hmat.out HO.out hb hd) | (go_at_call 75; exact meetQ hmat.out HO.out ha m1) | (go_at_call 75; exact meetQ hmat.out HO.out ha hb) | (go_at_call 75; exact meetQ hmat.out HO.out ha hd) | (go_at_call 79; exact joinQ hmat.out HO.out m2 m3))
    go_wp2_with fail
    go_ret
    exact ⟨rfl, Below.drewN' hB _⟩
  | false =>
    have e1 : ¬ mN m a (jN m b d) = jN m (mN m a b) (mN m a d) := of_decide_eq_false hk
    have n1 : (((mN m a (jN m b d) : Nat) : Int) == ((jN m (mN m a b) (mN m a d) : Nat) : Int)) = false := by rw [beq_eq_false_iff_ne]; omega
    clear hk e1
    go_enter Tryd.func86, Tryd.ntmps86
    go_wp2_with fail
    generalize w.alloc (.cells #[.slice ua m.n l.cap, .slice na m.n nc] 26) = W at hmat hX hB q0 q1 ⊢
    go_quiet (first | (go_at_call 79; exact joinQ hmat.out HO.out hb hd) | (go_at_call 75; exact meetQ hmat.out HO.out ha m1) | (go_at_call 75; exact meetQ hmat.out HO.out ha hb) | (go_at_call 75; exact meetQ hmat.out HO.out ha hd) | (go_at_call 79; exact joinQ hmat.out HO.out m2 m3))
    go_wp2_with fail
    go_ret
    exact ⟨rfl, Below.drewN' hB _⟩
end Go.Proofs.YtnbglbhfclohjaaDoor
