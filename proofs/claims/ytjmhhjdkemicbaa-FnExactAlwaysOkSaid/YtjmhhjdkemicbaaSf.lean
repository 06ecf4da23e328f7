/- The walks of the program's allBlocks, AgreeOk, BlocksWith. -/
import Derived.Test.YtjmhhjdkemicbaaSe
namespace Go.Proofs.Ytjmhhjdkemicbaa
open Go.RowKit Go.Deep Go.Shelf

attribute [local go_sem] Oper.semAt_some

noncomputable def agreeV (m : Mx) (k : Nat) (z : Nat → Int) (x : Int) : Bool := logicB m k z && (inB k x && cliqB m (fun a => (z a).toNat) x.toNat)
noncomputable def withV6 (m : Mx) (k : Nat) (z : Nat → Int) (x : Int) : Int := if (logicB m k z && goodB m.n 1 (lone1 x)) = true then ((withN (blockL m (fun a => (z a).toNat)) x.toNat : Nat) : Int) else -1
noncomputable def blocksV (m : Mx) (k : Nat) (z : Nat → Int) : List Int := if logicB m k z = true then blockL m (fun a => (z a).toNat) else []

theorem agree_rest {m : Mx} {z : Nat → Int} {y : Nat → Nat} {o0 s : Nat} (hO : Ortho m z y o0) (hs : s < 2 ^ m.n) : cliqB m y s = decide (s ^^^ (s &&& shN m y s) = 0) := by
  rw [Bool.eq_iff_iff, hO.cliq_iff, decide_eq_true_iff, rest_zero]
  constructor
  · intro h a ga
    have ha := bit_under hs ga
    rw [shN_bit, Bool.and_eq_true, decide_eq_true_iff]
    exact ⟨ha, nb_iff.2 fun b hb gb => h a b ha hb ga gb⟩
  · intro h a b ha hb ga gb
    have := h a ga
    rw [shN_bit, Bool.and_eq_true, decide_eq_true_iff] at this
    exact nb_iff.1 this.2 b hb gb

end Go.Proofs.Ytjmhhjdkemicbaa
