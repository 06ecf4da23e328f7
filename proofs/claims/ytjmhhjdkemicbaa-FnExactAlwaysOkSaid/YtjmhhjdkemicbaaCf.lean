/- The walks of the program's tests of modular logics and of pentagons on three answers, of its test of each three answers, of ModularOk and BooleanOk. -/
import Derived.Test.YtjmhhjdkemicbaaBb
import Derived.Test.YtjmhhjdkemicbaaCe
namespace Go.Proofs.Ytjmhhjdkemicbaa
open Go.RowKit Go.Deep Go.Shelf

attribute [local go_sem] Oper.semAt_some

/-- Both meetings, and both joins, are the same. -/
def swbB (m : Mx) (a d b : Nat) : Bool := decide (mN m a b = mN m d b) && decide (jN m a b = jN m d b)
def All3 (n : Nat) (p : Nat → Nat → Nat → Bool) (pre : List (Fin n × Fin n)) : Prop := ∀ q ∈ pre, ∀ d, d < n → p q.1.val q.2.val d = true
theorem All3.snoc {n : Nat} {p : Nat → Nat → Nat → Bool} {pre : List (Fin n × Fin n)} (h : All3 n p pre) {x : Fin n × Fin n} (hx : ∀ d, d < n → p x.1.val x.2.val d = true) : All3 n p (pre ++ [x]) := fun q hq => by
  rcases List.mem_append.1 hq with hq | hq
  · exact h q hq
  · have e : q = x := by simpa using hq
    rw [e]; exact hx
theorem All3.all {n : Nat} {p : Nat → Nat → Nat → Bool} {pre : List (Fin n × Fin n)} (h : All3 n p pre) (hall : ∀ a b : Fin n, (a, b) ∈ pre) : all3B n p = true :=
  all3_iff.2 fun a b d ha hb hd => h _ (hall ⟨a, ha⟩ ⟨b, hb⟩) d hd
end Go.Proofs.Ytjmhhjdkemicbaa
