/- The walks of the reference's AgreeOk and BooleanOk. -/
import Derived.Test.YtjmhhjdkemicbaaSf
import Derived.Test.YtjmhhjdkemicbaaAf
namespace Go.Proofs.Ytjmhhjdkemicbaa
open Go.RowKit Go.Deep

def cliqPB (m : Mx) (y : Nat → Nat) (s a b : Nat) : Bool := !(s.testBit a && s.testBit b) || adjB m y a b
def cliqRB (m : Mx) (y : Nat → Nat) (s a : Nat) : Bool := allB a fun b => cliqPB m y s a b
theorem agreeV_is {m : Mx} {z : Nat → Int} {y : Nat → Nat} {o s : Nat} (hO : Ortho m z y o) (h1 : 1 ≤ s) (h2 : s < 2 ^ m.n) : agreeV m m.n z (s : Int) = cliqB m y s := by
  unfold agreeV
  have e : inB m.n (s : Int) = true := decide_eq_true ⟨by omega, by omega⟩
  have hc : cliqB m (fun a => (z a).toNat) s = cliqB m y s := by
    rw [Bool.eq_iff_iff, hO.cliq_iff, hO.own.cliq_iff]
    have hyy : ∀ a, a < m.n → (z a).toNat = y a := fun a ha => by rw [hO.zy a ha, Int.toNat_natCast]
    have key : ∀ a b, a < m.n → b < m.n → adjB m (fun a => (z a).toNat) a b = adjB m y a b := fun a b ha hb => by
      unfold adjB agB
      simp only [hyy a ha, hyy b hb]
    constructor
    · intro h a b ha hb ga gb; rw [← key a b ha hb]; exact h a b ha hb ga gb
    · intro h a b ha hb ga gb; rw [key a b ha hb]; exact h a b ha hb ga gb
  rw [logicB_true hO.logic, e, Int.toNat_natCast, hc]; rfl

end Go.Proofs.Ytjmhhjdkemicbaa
