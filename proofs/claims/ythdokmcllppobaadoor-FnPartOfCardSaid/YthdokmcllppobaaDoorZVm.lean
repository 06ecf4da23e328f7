/- The walks of the program's plan of renamed logics and of Renamed. -/
import Derived.Test.YthdokmcllppobaaDoorZVl
import Derived.Test.YthdokmcllppobaaDoorZFe
import Derived.Test.YthdokmcllppobaaDoorZOa
import Derived.Test.YthdokmcllppobaaDoorZMath
import Derived.Test.YthdokmcllppobaaDoorZMathI
namespace Go.Proofs.YthdokmcllppobaaDoor
open Go.RowKit Go.Deep

theorem Each.view {m : Mx} {n : Nat} {z : Nat → Int} (h : Each n z) {x y : Nat} (hx : x < n) (hy : y < n) (hb : m.Z (z x).toNat (z y).toNat = 0 ∨ m.Z (z x).toNat (z y).toNat = 1) : bitZ (viewB m z) x y = nameZ m.Z (fun c => (z c).toNat) x y := by
  have h1 := h.nat x hx
  have h2 := h.nat y hy
  have e1 : decide (0 ≤ z x) = true := decide_eq_true (by omega)
  have e2 : decide (0 ≤ z y) = true := decide_eq_true (by omega)
  unfold bitZ viewB nameZ
  rw [e1, e2]
  show (if (true && (true && leB m (z x).toNat (z y).toNat)) = true then (1 : Int) else 0) = m.Z (z x).toNat (z y).toNat
  unfold leB
  rcases hb with e | e <;> rw [e] <;> rfl
theorem Each.opp {n : Nat} {z : Nat → Int} {y : Nat → Nat} (h : Each n z) {x : Nat} (hx : x < n) (hy : ∀ a, a < n → y a < n) : viewY y z n x = (placeN n z (y (z x).toNat) : Int) := by
  unfold viewY
  exact h.at_ _ (hy _ (h.perm.lt x hx))
/-- A logic, or none. -/
def MadeLog (w : World) (N : Nat) (Z : Nat → Nat → Int) (y : Nat → Nat) (ok : Bool) (e : Ending) (w' : World) : Prop :=
  Below w.heap.size w w' ∧ ((ok = false ∧ e = .returned noLog) ∨ (ok = true ∧ ∃ u t rv, e = .returned (.agg #[u, t]) ∧ LogO w' w.heap.size u t N rv Z (fun c => (y c : Int))))
theorem madeLog_no {w W : World} {ok : Bool} {p N : Nat} {Z : Nat → Nat → Int} {y : Nat → Nat} {x x' : Value} (hp : w.heap.size ≤ p) (hB : Below w.heap.size w W) (hok : ok = false) : MadeLog w N Z y ok (.returned noLog) ((W.setCell ⟨p, 0, none⟩ x).setCell ⟨p, 1, none⟩ x') :=
  ⟨hB.trans ((set2_only W p x x').below fun j hj => by have hj' : j = p := hj; omega), .inl ⟨hok, rfl⟩⟩
theorem MadeLog.congr {w w' : World} {e : Ending} {N : Nat} {Z Z' : Nat → Nat → Int} {y y' : Nat → Nat} {ok ok' : Bool} (h : MadeLog w N Z y ok e w') (ho : ok = ok') (hZ : ok = true → ∀ r, r < N → ∀ c, c < N → Z r c = Z' r c) (hy : ok = true → ∀ c, c < N → y c = y' c) : MadeLog w N Z' y' ok' e w' := by
  subst ho
  refine ⟨h.1, ?_⟩
  rcases h.2 with h2 | ⟨hok, u, t, rv, rfl, hL⟩
  · exact .inl h2
  · exact .inr ⟨hok, u, t, rv, rfl, hL.congrZ (hZ hok) fun c hc => by rw [hy hok c hc]⟩
theorem RowAt.wide {w : World} {B B' : Nat} {a : Option Addr} {g o n : Nat} {z : Nat → Int} (h : RowAt w B a g o n z) (hB : B ≤ B') : RowAt w B' a g o n z :=
  ⟨fun c hc => by obtain ⟨h1, h2, h3⟩ := h.row c hc; exact ⟨h1, by omega, h3⟩⟩

end Go.Proofs.YthdokmcllppobaaDoor

/- The walk of the reference's l3Inner: the answers other than no and yes. -/
namespace Go.Proofs.YthdokmcllppobaaDoor
open Go.RowKit Go.Deep

theorem IntsAt.shape {w : World} {base : Nat} {t : Value} {k : Nat} {y : Nat → Int} (h : IntsAt w base t k y) : ∃ a c, t = .slice a k c := by
  rcases h.2 with ⟨rfl, rfl⟩ | ⟨g, cap, cur, rfl, _⟩
  · exact ⟨_, _, rfl⟩
  · exact ⟨_, _, rfl⟩
theorem IntsAt.rowAt {w : World} {base : Nat} {a : Option Addr} {k c : Nat} {y : Nat → Int} (h : IntsAt w base (.slice a k c) k y) : ∃ g, RowAt w w.heap.size a g 0 k y := by
  by_cases hk : 0 < k
  · obtain ⟨g, c', e, _, h3, _⟩ := IntsAt.val h hk
    injection e with e1 e2 e3
    subst e1 e3
    exact ⟨g, ⟨fun i hi => ⟨rfl, h3, by rw [Nat.zero_add]; exact IntsAt.cell h hi⟩⟩⟩
  · exact ⟨0, ⟨fun i hi => absurd hi (by omega)⟩⟩
theorem IntsAt.below {w w' : World} {base : Nat} {t : Value} {k : Nat} {y : Nat → Int} (h : IntsAt w base t k y) (hb : Below w.heap.size w w') : IntsAt w' base t k y := ownsRow_below h hb (Nat.le_refl _)

/-- What l3Inner hands back: so many numbers. -/
def InnerRes (w : World) (p : Nat) (f : Nat → Nat) (e : Ending) (w' : World) : Prop :=
  ∃ a g c, e = .returned (.slice a p c) ∧ RowAt w' w'.heap.size a g 0 p (fun i => (f i : Int)) ∧ Below w.heap.size w w'

end Go.Proofs.YthdokmcllppobaaDoor
