/- The walks of the program's JoinOf and TurnedOf. -/
import Derived.Test.YtgjacinolenheaaWq
import Derived.KernelRfl
namespace Go.Proofs.Ytgjacinolenheaa
open Go.RowKit Go.Deep

theorem square_tr {m : Mx} (h : Square m) : Square (tr m) := ⟨fun _ _ => rfl, fun r hr c hc => h.bit c hc r hr⟩
theorem sq_turned {w w' : World} {B : Nat} {sa : Option Addr} {l : Lay} {m : Mx} {b : Nat} {G : Nat → Nat} (h : SqAt w B sa l m) (ho : OwnMat w' b G (tr m)) : SqAt w' w'.heap.size (some ⟨b, 0, none⟩) (ownLay b G (tr m)) (tr m) :=
  ⟨ho.mat, square_tr h.sq, h.hi, Nat.le_refl _⟩

theorem turned_ex {B : Nat} {sa : Option Addr} {l : Lay} {m : Mx} {w : World} (h : SqAt w B sa l m) :
    Calls Try.prog 88 #[.agg #[.slice sa m.n l.cap]] w fun e w' => ∃ (b : Nat) (G : Nat → Nat), e = .returned (.agg #[.slice (some ⟨b, 0, none⟩) m.n m.n]) ∧ Below w.heap.size w w' ∧ OwnMat w' b G (tr m) ∧ w.heap.size ≤ b ∧ (∀ r, w.heap.size ≤ G r) :=
  (turned_sq h).mono fun _ _ ⟨he, hb, ho⟩ => ⟨_, _, he, hb, ho, by omega, fun r => by show _ ≤ w.heap.size + 3 + r; omega⟩
theorem meet_tr {w : World} {B b : Nat} {G : Nat → Nat} {m : Mx} {x y : Nat} (h : SqAt w B (some ⟨b, 0, none⟩) (ownLay b G (tr m)) (tr m)) (hx : x < m.n) (hy : y < m.n) :
    Calls Try.prog 89 #[.agg #[.slice (some ⟨b, 0, none⟩) m.n m.n], .int .i64 x, .int .i64 y] w fun e w' => e = .returned (.tuple #[.int .i64 (meetI (tr m) x y), .bool (hasI (meetI (tr m) x y))]) ∧ Below w.heap.size w w' :=
  meet_sq (m := tr m) (l := ownLay b G (tr m)) h hx hy

/-- What TurnedOf hands back: new rows of the call's own. -/
def TurnRes (m : Mx) (w : World) (e : Ending) (w' : World) : Prop :=
  ∃ (b : Nat) (G : Nat → Nat), e = .returned (.slice (some ⟨b, 0, none⟩) m.n m.n) ∧ Below w.heap.size w w' ∧ OwnMat w' b G (tr m) ∧ w.heap.size ≤ b ∧ (∀ r, w.heap.size ≤ G r)

end Go.Proofs.Ytgjacinolenheaa
