/- The law on TurnedOf, walked at whatever code. -/
import Derived.Test.YtpklccecgfcdfaaDoorLe
import Derived.Test.YtpklccecgfcdfaaDoorWz
import Derived.Test.YtpklccecgfcdfaaDoorLa
namespace Go.Proofs.YtpklccecgfcdfaaDoor
open Go.RowKit Go.Deep

def emptyM : Mx := ⟨0, fun _ => 0, fun _ _ => 0⟩
def emptyLay (c : Nat) : Lay := ⟨0, 0, c, fun _ => none, fun _ => 0, fun _ => 0, fun _ => 0⟩
theorem empty_at (w : World) (B : Nat) (a : Option Addr) (c : Nat) : MatAt w B a (emptyLay c) emptyM :=
  ⟨fun _ hr => absurd hr (Nat.not_lt_zero _), fun _ hr => absurd hr (Nat.not_lt_zero _)⟩
theorem OwnMat.step {w w' : World} {b : Nat} {G : Nat → Nat} {m : Mx} (h : OwnMat w b G m) (hb : Below w.heap.size w w') : OwnMat w' b G m :=
  h.below hb h.top.lt fun r hr => (h.row r hr).lt
end Go.Proofs.YtpklccecgfcdfaaDoor
