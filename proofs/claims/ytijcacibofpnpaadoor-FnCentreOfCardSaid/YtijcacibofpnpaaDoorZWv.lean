/- The walks of the program's and the reference's AtomsOf: a list that grows by append. The walk of the reference's AtomsOf. Lists of numbers of the call's own: marked, held, compared. The walk of the reference's TurnedOf: rows that grow by append, in a list of rows that grows by append. -/
import Derived.Test.YtijcacibofpnpaaDoorZWu
import Derived.Test.YtijcacibofpnpaaDoorZMath
import Derived.Maps.AppendAt
import Derived.Deep.Matrix
import Derived.Test.YtijcacibofpnpaaDoorZWb
import Derived.Test.YtijcacibofpnpaaDoorZWc
import Derived.Test.YtijcacibofpnpaaDoorZWd
namespace Go.Proofs.YtijcacibofpnpaaDoor
open Go.RowKit Go.Deep

theorem ownsRow_below {w w' : World} {base B : Nat} {e : TypeId} {size n : Nat} {v : Value} {xs : List Value} (h : w.ownsRow base e size v n xs) (hb : Below B w w') (hB : w.heap.size ≤ B) : w'.ownsRow base e size v n xs := by
  refine ⟨h.1, ?_⟩
  rcases h.2 with h' | ⟨g, cap, cur, h1, h2, h3, h4⟩
  · exact .inl h'
  · have hg : g < w.heap.size := (Array.getElem?_eq_some_iff.1 h3).1
    exact .inr ⟨g, cap, cur, h1, h2, (hb.block g (by omega)).trans h3, h4⟩
theorem ownsRow_base {w : World} {base base' : Nat} {e : TypeId} {size n : Nat} {v : Value} {xs : List Value} (h : w.ownsRow base e size v n xs) (hb : base' ≤ base) : w.ownsRow base' e size v n xs := by
  refine ⟨h.1, ?_⟩
  rcases h.2 with h' | ⟨g, cap, cur, h1, h2, h3⟩
  · exact .inl h'
  · exact .inr ⟨g, cap, cur, h1, by omega, h3⟩
theorem ownsRow_block {w : World} {base : Nat} {e : TypeId} {size n : Nat} {v : Value} {xs : List Value} (h : w.ownsRow base e size v n xs) : ∀ k, v.ownBlock = some k → base ≤ k := fun k hk => (h.lt k hk).1

/-- A list of numbers in memory of the call's own. -/
def ListRes (w : World) (xs : List Int) (e : Ending) (w' : World) : Prop :=
  ∃ v, e = .returned v ∧ w'.ownsRow w.heap.size 3 1 v xs.length (xs.map (Value.int .i64)) ∧ Below w.heap.size w w'

end Go.Proofs.YtijcacibofpnpaaDoor
namespace Go.Proofs.YtijcacibofpnpaaDoor
open Go.RowKit Go.Deep

end Go.Proofs.YtijcacibofpnpaaDoor
namespace Go.Proofs.YtijcacibofpnpaaDoor
open Go.RowKit Go.Deep

theorem map_set (n k : Nat) (f : Nat → Value) (u : Value) : ((List.range n).map f).set k u = (List.range n).map (fun i => if i = k then u else f i) := by
  apply List.ext_getElem
  · simp
  · intro i h1 h2
    simp only [List.getElem_set, List.getElem_map, List.getElem_range]
    by_cases e : k = i
    · subst e; simp
    · rw [if_neg e, if_neg (fun h => e h.symm)]
theorem map_range (xs : List Int) : xs.map (Value.int .i64) = (List.range xs.length).map (fun i => .int .i64 (xs[i]?.getD 0)) := by
  apply List.ext_getElem
  · simp
  · intro i h1 h2
    have h : i < xs.length := by simpa using h1
    simp [h]
theorem map_congr_range {n : Nat} {f g : Nat → Value} (h : ∀ i, i < n → f i = g i) : (List.range n).map f = (List.range n).map g :=
  List.map_congr_left fun i hi => h i (List.mem_range.1 hi)

theorem ownsRow_only {S : Nat → Prop} {w w' : World} {base : Nat} {e : TypeId} {size n : Nat} {v : Value} {xs : List Value} (h : w.ownsRow base e size v n xs) (k : OnlyIn S w w') (hS : ∀ j, v.ownBlock = some j → ¬ S j) : w'.ownsRow base e size v n xs := by
  refine ⟨h.1, ?_⟩
  rcases h.2 with h' | ⟨g, cap, cur, h1, h2, h3, h4⟩
  · exact .inl h'
  · exact .inr ⟨g, cap, cur, h1, h2, (k.block g (hS g (by rw [h1]; rfl))).trans h3, h4⟩
/-- The slice is nil with nothing in it, or lies in a block; what it holds by its index. -/
theorem owns_ways {w : World} {base n : Nat} {v : Value} {f : Nat → Value} (h : w.ownsRow base 3 1 v n ((List.range n).map f)) :
    (v = .slice none 0 0 ∧ n = 0) ∨ ∃ g cap, v = .slice (some ⟨g, 0, none⟩) n cap ∧ ∀ j, j < n → w.cell? ⟨g, j, none⟩ = some (f j) := by
  rcases h.2 with h' | ⟨g, cap, cur, rfl, _⟩
  · exact .inl h'
  · refine .inr ⟨g, cap, rfl, fun j hj => ?_⟩
    rw [h.cellAt j (by omega)]
    simp [hj]

end Go.Proofs.YtijcacibofpnpaaDoor
namespace Go.Proofs.YtijcacibofpnpaaDoor
open Go.RowKit Go.Deep

/-- Two slices of the call's own whose elements are of different types share no block. -/
theorem owns_apart {w : World} {b1 b2 : Nat} {e1 e2 : TypeId} {s1 s2 n1 n2 : Nat} {v1 v2 : Value} {x1 x2 : List Value} (h1 : w.ownsRow b1 e1 s1 v1 n1 x1) (h2 : w.ownsRow b2 e2 s2 v2 n2 x2) (hne : e1 ≠ e2) : v1.ownBlock = none ∨ v1.ownBlock ≠ v2.ownBlock := by
  rcases h1.2 with ⟨rfl, _⟩ | ⟨g, cap, cur, rfl, _, hh, _⟩
  · exact .inl rfl
  · right
    rcases h2.2 with ⟨rfl, _⟩ | ⟨g', cap', cur', rfl, _, hh', _⟩
    · simp [Value.ownBlock]
    · intro e
      have e' : g = g' := by simpa [Value.ownBlock] using e
      subst e'
      rw [hh] at hh'
      injection hh' with hh'
      injection hh' with _ ht
      exact hne ht
theorem owns_not {w w' : World} {base : Nat} {e : TypeId} {size n : Nat} {v u : Value} {xs : List Value} (h : w.ownsRow base e size v n xs) (hg : w.grownBy w' u.ownBlock) (hne : v.ownBlock = none ∨ v.ownBlock ≠ u.ownBlock) : w'.ownsRow base e size v n xs := h.kept hg hne

/-- k rows of the order turned round are in the list. -/
structure RowsS (w wr : World) (m : Mx) (k : Nat) (v : Value) (rv : Nat → Value) : Prop where
  top : wr.ownsRow w.heap.size 24 1 v k ((List.range k).map rv)
  row : ∀ r, r < k → wr.ownsRow w.heap.size 3 1 (rv r) m.n ((List.range m.n).map fun c => .int .i64 (m.Z c r))
  old : Below w.heap.size w wr

theorem RowsS.mat {w wr : World} {m : Mx} {v : Value} {rv : Nat → Value} (h : RowsS w wr m m.n v rv) (h0 : 0 < m.n) :
    ∃ (a : Option Addr) (l : Lay), v = .slice a m.n l.cap ∧ MatAt wr wr.heap.size a l (tr m) := by
  have hrv : ∀ r, r < m.n → ∃ y : Nat × Nat, rv r = .slice (some ⟨y.1, 0, none⟩) m.n y.2 ∧ y.1 < wr.heap.size ∧ ∀ j, j < m.n → wr.cell? ⟨y.1, j, none⟩ = some (.int .i64 (m.Z j r)) := fun r hr => by
    have ho := h.row r hr
    rcases owns_ways ho with ⟨_, h1⟩ | ⟨g, cap, h1, h2⟩
    · omega
    · exact ⟨(g, cap), h1, (ho.lt g (by rw [h1]; rfl)).2, h2⟩
  obtain ⟨y, hy⟩ := choose_lt hrv
  rcases h.top.2 with ⟨_, h1⟩ | ⟨g, cap, cur, rfl, hrest⟩
  · omega
  · refine ⟨some ⟨g, 0, none⟩, ⟨g, 0, cap, fun r => some ⟨(y r).1, 0, none⟩, fun r => (y r).2, fun r => (y r).1, fun _ => 0⟩, rfl, ⟨fun r hr => ?_, fun r hr c hc => ?_⟩⟩
    · have hr' : r < m.n := hr
      refine ⟨rfl, (h.top.lt g rfl).2, ?_⟩
      have := h.top.cellAt r (by omega)
      rw [Nat.zero_add, this]
      simp only [List.getElem?_map, List.getElem?_range hr', Option.map_some]
      rw [(hy r hr').1]
      rfl
    · have hr' : r < m.n := hr
      have hc' : c < m.n := hc
      exact ⟨rfl, (hy r hr').2.1, by
        rw [Nat.zero_add]
        exact (hy r hr').2.2 c hc'⟩

end Go.Proofs.YtijcacibofpnpaaDoor

/- The law on OrderOk against the reference, walked at whatever rows. The law on AtomsOf against the reference, walked at whatever rows. -/
namespace Go.Proofs.YtijcacibofpnpaaDoor
open Go.RowKit Go.Deep

/-- An argument of rows as it comes in: within Go's lengths. -/
structure ArgAt (w : World) (a : Option Addr) (l : Lay) (m : Mx) : Prop where
  mat : MatAt w w.heap.size a l m
  hn : m.n ≤ 9223372036854775807
  hL : ∀ r, r < m.n → m.L r ≤ 9223372036854775807

theorem ArgAt.step {w w' : World} {a : Option Addr} {l : Lay} {m : Mx} (h : ArgAt w a l m) (hb : Below w.heap.size w w') : ArgAt w' a l m :=
  ⟨(h.mat.below hb).more hb.size, h.hn, h.hL⟩
end Go.Proofs.YtijcacibofpnpaaDoor
namespace Go.Proofs.YtijcacibofpnpaaDoor
open Go.RowKit Go.Deep

theorem OutS.own {w wr : World} {m : Mx} (h : OutS w wr m m.n) : OwnMat wr w.heap.size (fun r => w.heap.size + 1 + r) m :=
  ⟨h.top.congr (fun r hr => by rw [if_pos hr]), h.row⟩
theorem Drew.own {w w' : World} (hw : Drew w w') {b : Nat} {G : Nat → Nat} {m : Mx} (h : OwnMat w b G m) : OwnMat w' b G m := by
  obtain ⟨d, rfl⟩ := hw
  exact ⟨h.top, h.row⟩
theorem Drew.list {w w' : World} (hw : Drew w w') {base : Nat} {e : TypeId} {size n : Nat} {v : Value} {xs : List Value} (h : w.ownsRow base e size v n xs) : w'.ownsRow base e size v n xs := by
  obtain ⟨d, rfl⟩ := hw
  exact h
end Go.Proofs.YtijcacibofpnpaaDoor
