/- Other names: a row of all numbers, each once; the walk of the program's eachOnce. -/
import Derived.Test.YthdokmcllppobaaDoorZVa
import Derived.Test.YthdokmcllppobaaDoorZMathI
namespace Go.Proofs.YthdokmcllppobaaDoor
open Go.RowKit Go.Deep

def placeN (n : Nat) (z : Nat → Int) (a : Nat) : Nat := (firstI n (fun c => (a : Int) == z c)).toNat
structure Each (n : Nat) (z : Nat → Int) : Prop where
  perm : Perm n (fun c => (z c).toNat) (placeN n z)
  nat : ∀ c, c < n → z c = ((z c).toNat : Int)
  at_ : ∀ a, a < n → firstI n (fun c => (a : Int) == z c) = (placeN n z a : Int)
end Go.Proofs.YthdokmcllppobaaDoor
