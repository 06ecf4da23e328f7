/- The walk of the reference's AddsUpOk. -/
import Derived.Test.YtnbglbhfclohjaaCe
namespace Go.Proofs.Ytnbglbhfclohjaa
open Go.RowKit Go.Deep

theorem meetW8 {B : Nat} {sa : Option Addr} {l : Lay} {m : Mx} {a b : Nat} {w : World} {z : Nat → Int} {y : Nat → Nat} {o : Nat} (h : MatAt w B sa l m) (hO : Ortho m z y o) (ha : a < m.n) (hb : b < m.n) :
    Calls Try.prog 50 #[.slice sa m.n l.cap, .int .i64 a, .int .i64 b] w fun e w' => e = .returned (.int .i64 ((mN m a b : Nat) : Int)) ∧ w = w' :=
  (l1Meet_any h hO.lat.order ha hb).mono fun _ _ ⟨he, hw⟩ => ⟨by rw [he, hO.mI ha hb], hw⟩
theorem joinW8 {B : Nat} {sa : Option Addr} {l : Lay} {m : Mx} {a b : Nat} {w : World} {z : Nat → Int} {y : Nat → Nat} {o : Nat} (h : MatAt w B sa l m) (hO : Ortho m z y o) (ha : a < m.n) (hb : b < m.n) :
    Calls Try.prog 49 #[.slice sa m.n l.cap, .int .i64 a, .int .i64 b] w fun e w' => e = .returned (.int .i64 ((jN m a b : Nat) : Int)) ∧ w = w' :=
  (l1Join_any h hO.lat.order ha hb).mono fun _ _ ⟨he, hw⟩ => ⟨by rw [he, hO.jI ha hb], hw⟩
/-- The heights of the first answers. -/
def hiL (m : Mx) (j : Nat) : List Value := (List.range j).map fun a => .int .i64 ((highN m a : Nat) : Int)
theorem hiL_more (m : Mx) (j : Nat) : hiL m (j + 1) = hiL m j ++ [.int .i64 ((highN m j : Nat) : Int)] := by simp [hiL, List.range_succ]
theorem adds_fails {m : Mx} {a b : Nat} (ha : a < m.n) (hb : b < a) (h : addsP m a b = false) : addsB m = false := allB_false ha (allB_false hb h)

end Go.Proofs.Ytnbglbhfclohjaa
