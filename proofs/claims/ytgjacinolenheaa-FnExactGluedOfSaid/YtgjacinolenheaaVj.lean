/- The law on ExactGluedOf, walked at whatever code. -/
import Derived.Test.YtgjacinolenheaaHg
import Derived.Test.YtgjacinolenheaaVi
import Derived.Test.YtgjacinolenheaaVf
namespace Go.Proofs.Ytgjacinolenheaa
open Go.RowKit Go.Deep

def copyG (N : Nat) (m : Mx) (q k : Nat) (z : Nat → Int) : LD := ⟨some ⟨N, 0, none⟩, freshLay N m, m, some ⟨q, 0, none⟩, q, 0, k, k, z⟩
noncomputable def gluedOk (m0 m1 : Mx) (k0 k1 : Nat) (z0 z1 : Nat → Int) : Bool := logicB m0 k0 z0 && logicB m1 k1 z1 && gOk m0 m1 && decide (gN m0 m1 ≤ 12)
theorem law_ExactGluedOf {w : World} {ua0 na0 ua1 na1 : Option Addr} {l0 l1 : Lay} {m0 m1 : Mx} {g0 o0 k0 nc0 g1 o1 k1 nc1 : Nat} {z0 z1 : Nat → Int}
    (h0 : LogAt w w.heap.size ua0 l0 m0 na0 g0 o0 k0 z0) (h1 : LogAt w w.heap.size ua1 l1 m1 na1 g1 o1 k1 z1) :
    Calls Try.prog 10 #[.agg #[.slice ua0 m0.n l0.cap, .slice na0 k0 nc0], .agg #[.slice ua1 m1.n l1.cap, .slice na1 k1 nc1]] w fun e w' => e = .returned (.bool true) ∧ Below w.heap.size w w' :=
  law_ExactGluedOf_at (n := if gluedOk m0 m1 k0 k1 z0 z1 = true then gN m0 m1 else 0) (Z := gZ m0 m1 (fun a => (z0 a).toNat) (fun a => (z1 a).toNat)) (y := gY m0 m1 (fun a => (z0 a).toNat) (fun a => (z1 a).toNat)) (ok := gluedOk m0 m1 k0 k1 z0 z1) h0 h1
    (fun _ N0 q0 N1 q1 a0 a1 e0 e1 => (spec_GluedOf_any (d0 := copyG N0 m0 q0 k0 z0) (d1 := copyG N1 m1 q1 k1 z1) a0 a1 e0 e1).mono fun _ _ h => h.res)
    (fun _ N0 q0 N1 q1 a0 a1 => (GluedOf_any (d0 := copyG N0 m0 q0 k0 z0) (d1 := copyG N1 m1 q1 k1 z1) a0 a1).mono fun _ _ h => h.res)
end Go.Proofs.Ytgjacinolenheaa
