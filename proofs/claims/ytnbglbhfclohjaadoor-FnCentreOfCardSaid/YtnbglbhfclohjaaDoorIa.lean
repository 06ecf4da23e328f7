/- What the laws on logics that are made need: whether two logics are the same, whether one is none; the drawn numbers. -/
import Derived.Test.YtnbglbhfclohjaaDoorGa
import Derived.Test.YtnbglbhfclohjaaDoorLe
import Derived.Test.YtnbglbhfclohjaaDoorDa
namespace Go.Proofs.YtnbglbhfclohjaaDoor
open Go.RowKit Go.Deep

theorem noLogAt (w : World) (ua na : Option Addr) (l : Lay) (Z : Nat → Nat → Int) (z : Nat → Int) : LogAt w 0 ua l ⟨0, fun _ => 0, Z⟩ na 0 0 0 z :=
  ⟨⟨fun _ hr => absurd hr (Nat.not_lt_zero _), fun _ hr => absurd hr (Nat.not_lt_zero _)⟩, ⟨fun _ hr => absurd hr (Nat.not_lt_zero _)⟩, Nat.zero_le _, fun _ hr => absurd hr (Nat.not_lt_zero _), Nat.zero_le _, Nat.zero_le _⟩

/-- A drawn number. -/
def DrewNum (w : World) (lo hi : Int) (e : Ending) (w' : World) : Prop := ∃ v : Int, e = .returned (.int .i64 v) ∧ lo ≤ v ∧ v ≤ hi ∧ Below w.heap.size w w'
/-- A logic of the call's own is one, with so many atoms. -/
theorem LogicData.isB {n o : Nat} {Z : Nat → Nat → Int} {y : Nat → Nat} (h : LogicData n Z y o) : logicB ⟨n, fun _ => n, Z⟩ n (fun a => (y a : Int)) = true := logicB_true h.logic
theorem LogicData.atoms {n o : Nat} {Z : Nat → Nat → Int} {y : Nat → Nat} (h : LogicData n Z y o) : atomsV ⟨n, fun _ => n, Z⟩ = atomsTo ⟨n, fun _ => n, Z⟩ n :=
  atomsV_yes (orderB_true h.order) (by rw [h.ortho.eq]; exact hasI_nat _)
/-- What AtomsOf hands back, for its length alone. -/
def LenRes (w : World) (k : Nat) (e : Ending) (w' : World) : Prop := ∃ (a : Option Addr) (c : Nat), e = .returned (.slice a k c) ∧ Below w.heap.size w w'
theorem AtomsOf_len {B : Nat} {sa : Option Addr} {l : Lay} {m : Mx} {w : World} {k : Nat} (hn : m.n ≤ 9223372036854775807) (hL : ∀ r, r < m.n → m.L r ≤ 9223372036854775807) (h : MatAt w B sa l m) (hB : B ≤ w.heap.size) (hk : (atomsV m).length = k) :
    Calls Tryd.prog 36 #[.slice sa m.n l.cap] w (LenRes w k) :=
  (AtomsOf_any hn hL h hB).mono fun e w' ⟨v, he, ho, hb⟩ => by
    subst hk
    rcases ho.2 with ⟨hv, h0⟩ | ⟨g, cap, _, hv, _⟩
    · exact ⟨none, 0, by rw [he, hv, h0], hb⟩
    · exact ⟨_, cap, by rw [he, hv], hb⟩
end Go.Proofs.YtnbglbhfclohjaaDoor
