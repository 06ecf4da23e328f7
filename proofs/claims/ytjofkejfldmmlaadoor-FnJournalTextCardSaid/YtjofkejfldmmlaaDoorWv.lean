/- The walk of orderWith: the order of rows, and whether all answers are its answers. The walks of the program's MeetOf and LeastOf. The walks of the reference's MeetOf, JoinOf, LeastOf and LatticeOk. The walks of the reference's LeastOf. The walk of the method that turns an order round: new rows, in memory of its own. The walks of the program's JoinOf and TurnedOf. The walk of the reference's LatticeOk. The walk of the program's LatticeOk: it ranges over all pairs. The walks of the laws' marks: numbers written into rows of the call's own, and found there again. The walks of the program's and the reference's AtomsOf: a list that grows by append. The walk of the reference's AtomsOf. Lists of numbers of the call's own: marked, held, compared. The walk of the reference's TurnedOf: rows that grow by append, in a list of rows that grows by append. -/
import Derived.Test.YtjofkejfldmmlaaDoorWd
import Derived.Test.YtjofkejfldmmlaaDoorWm
import Derived.Test.YtjofkejfldmmlaaDoorWc
import Derived.Test.YtjofkejfldmmlaaDoorMath
import Derived.Test.YtjofkejfldmmlaaDoorWa
import Derived.StillTailTactics
import Derived.KernelRfl
import Derived.Maps.AppendAt
import Derived.Deep.Matrix
namespace Go.Proofs.YtjofkejfldmmlaaDoor
open Go.RowKit Go.Deep

/-- What orderWith hands back: the order, and true; or the zero value, and false. -/
def WithRes (sa : Option Addr) (n cap : Nat) (g : Bool) (e : Ending) : Prop :=
  (g = true ∧ e = .returned (.tuple #[.agg #[.slice sa n cap], .bool true])) ∨ (g = false ∧ e = .returned (.tuple #[.agg #[.slice none 0 0], .bool false]))

end Go.Proofs.YtjofkejfldmmlaaDoor
namespace Go.Proofs.YtjofkejfldmmlaaDoor
open Go.RowKit Go.Deep

theorem two_at (w : World) (a b : Int) : RowAt (w.alloc (.cells #[.int .i64 a, .int .i64 b] 3)) (w.heap.size + 1) (some ⟨w.heap.size, 0, none⟩) w.heap.size 0 2 (two a b) :=
  ⟨fun c hc => ⟨rfl, by omega, by
    rcases (show c = 0 ∨ c = 1 by omega) with rfl | rfl
    · simp [two]
    · simp [two]⟩⟩

end Go.Proofs.YtjofkejfldmmlaaDoor
namespace Go.Proofs.YtjofkejfldmmlaaDoor
open Go.RowKit Go.Deep

theorem ret_two {a b : Int} {x y : Bool} (h : a = b) (k : x = y) : Ending.returned (.tuple #[.int .i64 a, .bool x]) = .returned (.tuple #[.int .i64 b, .bool y]) := by rw [h, k]

end Go.Proofs.YtjofkejfldmmlaaDoor
namespace Go.Proofs.YtjofkejfldmmlaaDoor
open Go.RowKit Go.Deep


end Go.Proofs.YtjofkejfldmmlaaDoor
namespace Go.Proofs.YtjofkejfldmmlaaDoor
open Go.RowKit Go.Deep

/-- Rows of the call's own: block b holds the rows' slices, block G r holds row r; nothing of it is frozen. -/
structure OwnMat (w : World) (b : Nat) (G : Nat → Nat) (m : Mx) : Prop where
  top : w.rowIs b 52 m.n (fun r => .slice (some ⟨G r, 0, none⟩) (m.L r) (m.L r))
  row : ∀ r, r < m.n → w.rowIs (G r) 3 (m.L r) (fun c => .int .i64 (m.Z r c))
def ownLay (b : Nat) (G : Nat → Nat) (m : Mx) : Lay := ⟨b, 0, m.n, fun r => some ⟨G r, 0, none⟩, m.L, G, fun _ => 0⟩
theorem OwnMat.mat {w : World} {b : Nat} {G : Nat → Nat} {m : Mx} (h : OwnMat w b G m) : MatAt w w.heap.size (some ⟨b, 0, none⟩) (ownLay b G m) m :=
  ⟨fun r hr => ⟨rfl, h.top.lt, by simpa [ownLay] using h.top.cell hr⟩, fun r hr c hc => ⟨rfl, (h.row r hr).lt, by simpa [ownLay] using (h.row r hr).cell hc⟩⟩

/-- The order turned round, k of its rows made. -/
structure TurnS (w wr : World) (sa : Option Addr) (cap : Nat) (m : Mx) (k : Nat) : Prop where
  old : Below w.heap.size w wr
  bx : wr.cell? ⟨w.heap.size, 0, none⟩ = some (.slice sa m.n cap)
  res : wr.cell? ⟨w.heap.size + 1, 0, none⟩ = some (.slice none 0 0)
  resf : wr.frozen? ⟨w.heap.size + 1, 0, none⟩ = false
  size : wr.heap.size = w.heap.size + 3 + k
  top : wr.rowIs (w.heap.size + 2) 52 m.n (fun r => if r < k then .slice (some ⟨w.heap.size + 3 + r, 0, none⟩) m.n m.n else .slice none 0 0)
  row : ∀ r, r < k → wr.rowIs (w.heap.size + 3 + r) 3 m.n (fun c => .int .i64 (m.Z c r))

/-- .. and row k is being filled, j of its cells. -/
structure FillS (w wr : World) (sa : Option Addr) (cap : Nat) (m : Mx) (k j : Nat) : Prop where
  old : Below w.heap.size w wr
  bx : wr.cell? ⟨w.heap.size, 0, none⟩ = some (.slice sa m.n cap)
  res : wr.cell? ⟨w.heap.size + 1, 0, none⟩ = some (.slice none 0 0)
  resf : wr.frozen? ⟨w.heap.size + 1, 0, none⟩ = false
  size : wr.heap.size = w.heap.size + 3 + k + 1
  top : wr.rowIs (w.heap.size + 2) 52 m.n (fun r => if r < k + 1 then .slice (some ⟨w.heap.size + 3 + r, 0, none⟩) m.n m.n else .slice none 0 0)
  row : ∀ r, r < k → wr.rowIs (w.heap.size + 3 + r) 3 m.n (fun c => .int .i64 (m.Z c r))
  cur : wr.rowIs (w.heap.size + 3 + k) 3 m.n (fun c => if c < j then .int .i64 (m.Z c k) else .int .i64 0)

theorem TurnS.fill {w wr : World} {sa : Option Addr} {cap : Nat} {m : Mx} {k : Nat} (h : TurnS w wr sa cap m k) :
    FillS w ((wr.alloc (.cells (madeCells #[.int .i64 0] m.n) 3)).setCell ⟨w.heap.size + 2, k, none⟩ (.slice (some ⟨w.heap.size + 3 + k, 0, none⟩) m.n m.n)) sa cap m k 0 := by
  have hs := h.size
  have hnew := World.rowIs_made wr (.int .i64 0) m.n 3
  rw [hs] at hnew
  have hcell : ∀ (p : Addr) (v u : Value), p.block < w.heap.size + 2 → wr.cell? p = some v → ((wr.alloc (.cells (madeCells #[.int .i64 0] m.n) 3)).setCell ⟨w.heap.size + 2, k, none⟩ u).cell? p = some v := fun p v u hp hv => by
    rw [World.cell?_setCell_other _ _ _ _ (fun e => by subst e; simp at hp), World.cell?_alloc_lt _ _ _ (by omega)]
    exact hv
  refine ⟨(h.old.alloc (by omega) _).setCell (by show w.heap.size ≤ w.heap.size + 2; omega) _, hcell _ _ _ (by show w.heap.size < _; omega) h.bx, hcell _ _ _ (by show w.heap.size + 1 < _; omega) h.res, ?_, by simp [hs], ((h.top.alloc _).set k _).congr (fun r _ => ?_),
    fun r hr => ((h.row r hr).alloc _).setOther (by show w.heap.size + 3 + r ≠ w.heap.size + 2; omega) _, (hnew.setOther (by show w.heap.size + 3 + k ≠ w.heap.size + 2; omega) _).congr (fun c _ => by simp)⟩
  · rw [World.frozen?_setCell, World.frozen?_alloc_old _ _ _ (by show w.heap.size + 1 ≠ wr.heap.size; omega)]
    exact h.resf
  · by_cases e : r = k
    · subst e; simp
    · rw [if_neg e]
      by_cases hlt : r < k
      · rw [if_pos hlt, if_pos (by omega)]
      · rw [if_neg hlt, if_neg (by omega)]

theorem FillS.step {w wr : World} {sa : Option Addr} {cap : Nat} {m : Mx} {k j : Nat} (h : FillS w wr sa cap m k j) :
    FillS w (wr.setCell ⟨w.heap.size + 3 + k, j, none⟩ (.int .i64 (m.Z j k))).drew sa cap m k (j + 1) := by
  have hcell : ∀ (p : Addr) (v u : Value), p.block < w.heap.size + 2 → wr.cell? p = some v → (wr.setCell ⟨w.heap.size + 3 + k, j, none⟩ u).cell? p = some v := fun p v u hp hv => by
    rw [World.cell?_setCell_other _ _ _ _ (fun e => by subst e; simp at hp; omega)]
    exact hv
  refine ⟨(h.old.setCell (by show w.heap.size ≤ w.heap.size + 3 + k; omega) _).drew, hcell _ _ _ (by show w.heap.size < _; omega) h.bx, hcell _ _ _ (by show w.heap.size + 1 < _; omega) h.res, ?_, by simp [h.size], (h.top.setOther (by show w.heap.size + 2 ≠ w.heap.size + 3 + k; omega) _).drew,
    fun r hr => ((h.row r hr).setOther (by show w.heap.size + 3 + r ≠ w.heap.size + 3 + k; omega) _).drew, ((h.cur.set j _).congr (fun c _ => ?_)).drew⟩
  · show (wr.setCell _ _).frozen? _ = false
    rw [World.frozen?_setCell]
    exact h.resf
  · by_cases e : c = j
    · subst e; simp
    · rw [if_neg e]
      by_cases hlt : c < j
      · rw [if_pos hlt, if_pos (by omega)]
      · rw [if_neg hlt, if_neg (by omega)]
theorem FillS.done {w wr : World} {sa : Option Addr} {cap : Nat} {m : Mx} {k : Nat} (h : FillS w wr sa cap m k m.n) : TurnS w wr sa cap m (k + 1) :=
  ⟨h.old, h.bx, h.res, h.resf, by rw [h.size]; omega, h.top, fun r hr => by
    by_cases e : r = k
    · subst e
      exact h.cur.congr (fun c hc => by rw [if_pos hc])
    · exact h.row r (by omega)⟩

end Go.Proofs.YtjofkejfldmmlaaDoor
namespace Go.Proofs.YtjofkejfldmmlaaDoor
open Go.RowKit Go.Deep

theorem square_tr {m : Mx} (h : Square m) : Square (tr m) := ⟨fun _ _ => rfl, fun r hr c hc => h.bit c hc r hr⟩
theorem sq_turned {w w' : World} {B : Nat} {sa : Option Addr} {l : Lay} {m : Mx} {b : Nat} {G : Nat → Nat} (h : SqAt w B sa l m) (ho : OwnMat w' b G (tr m)) : SqAt w' w'.heap.size (some ⟨b, 0, none⟩) (ownLay b G (tr m)) (tr m) :=
  ⟨ho.mat, square_tr h.sq, h.hi, Nat.le_refl _⟩

/-- What TurnedOf hands back: new rows of the call's own. -/
def TurnRes (m : Mx) (w : World) (e : Ending) (w' : World) : Prop :=
  ∃ (b : Nat) (G : Nat → Nat), e = .returned (.slice (some ⟨b, 0, none⟩) m.n m.n) ∧ Below w.heap.size w w' ∧ OwnMat w' b G (tr m) ∧ w.heap.size ≤ b ∧ (∀ r, w.heap.size ≤ G r)

end Go.Proofs.YtjofkejfldmmlaaDoor
namespace Go.Proofs.YtjofkejfldmmlaaDoor
open Go.RowKit Go.Deep

theorem MJ_of {m : Mx} {a b : Nat} (h1 : ¬ meetI m a b < 0) (h2 : ¬ meetI (tr m) a b < 0) : MJ m a b := ⟨hasI_yes (by omega), hasI_yes (by omega)⟩

end Go.Proofs.YtjofkejfldmmlaaDoor
namespace Go.Proofs.YtjofkejfldmmlaaDoor
open Go.RowKit Go.Deep Go.Shelf

attribute [local go_sem] Oper.semAt_some

end Go.Proofs.YtjofkejfldmmlaaDoor
namespace Go.Proofs.YtjofkejfldmmlaaDoor
open Go.RowKit Go.Deep

/-- From w to w' only blocks of S have turned; no block has come. -/
structure OnlyIn (S : Nat → Prop) (w w' : World) : Prop where
  os : w'.os = w.os
  tape : w'.tape = w.tape
  output : w'.output = w.output
  size : w'.heap.size = w.heap.size
  block : ∀ k, ¬ S k → w'.heap[k]? = w.heap[k]?
theorem OnlyIn.refl (S : Nat → Prop) (w : World) : OnlyIn S w w := ⟨rfl, rfl, rfl, rfl, fun _ _ => rfl⟩
theorem OnlyIn.trans {S : Nat → Prop} {a b c : World} (h : OnlyIn S a b) (k : OnlyIn S b c) : OnlyIn S a c :=
  ⟨k.os.trans h.os, k.tape.trans h.tape, k.output.trans h.output, k.size.trans h.size, fun i hi => (k.block i hi).trans (h.block i hi)⟩
theorem OnlyIn.mono {S T : Nat → Prop} {a b : World} (h : OnlyIn S a b) (hs : ∀ k, S k → T k) : OnlyIn T a b :=
  ⟨h.os, h.tape, h.output, h.size, fun i hi => h.block i fun hs' => hi (hs i hs')⟩
theorem OnlyIn.below {S : Nat → Prop} {a b : World} {B : Nat} (h : OnlyIn S a b) (hs : ∀ k, S k → B ≤ k) : Below B a b :=
  ⟨h.os, h.tape, h.output, Nat.le_of_eq h.size.symm, fun k hk => h.block k fun hsk => by have := hs k hsk; omega⟩
theorem OnlyIn.set {S : Nat → Prop} {a w : World} (h : OnlyIn S a w) {b : Nat} (hb : S b) (i : Nat) (v : Value) : OnlyIn S a (w.setCell ⟨b, i, none⟩ v) :=
  h.trans ⟨rfl, rfl, rfl, by simp, fun k hk => Below.heap_setCell _ _ _ _ (by rintro rfl; exact hk hb)⟩
theorem OwnMat.only {S : Nat → Prop} {w w' : World} {b : Nat} {G : Nat → Nat} {m : Mx} (h : OwnMat w b G m) (k : OnlyIn S w w') (hb : ¬ S b) (hG : ∀ r, r < m.n → ¬ S (G r)) : OwnMat w' b G m :=
  ⟨h.top.of_block (k.block _ hb), fun r hr => (h.row r hr).of_block (k.block _ (hG r hr))⟩
theorem OwnMat.below {w w' : World} {b B : Nat} {G : Nat → Nat} {m : Mx} (h : OwnMat w b G m) (k : Below B w w') (hb : b < B) (hG : ∀ r, r < m.n → G r < B) : OwnMat w' b G m :=
  ⟨h.top.of_block (k.block _ hb), fun r hr => (h.row r hr).of_block (k.block _ (hG r hr))⟩

/-- How many numbers lie in the first r rows. -/
def offs (L : Nat → Nat) : Nat → Nat
  | 0 => 0
  | r + 1 => offs L r + L r
def markOf (m : Mx) : Mx := ⟨m.n, m.L, fun r c => ((1 + offs m.L r + c : Nat) : Int)⟩
theorem offs_le {L : Nat → Nat} {n : Nat} (h : ∀ r, r < n → L r ≤ 1048576) : ∀ r, r ≤ n → offs L r ≤ r * 1048576 := by
  intro r
  induction r with
  | zero => intro _; simp [offs]
  | succ r ih =>
    intro hr
    have h1 := ih (by omega)
    have h2 := h r (by omega)
    simp only [offs]
    omega

end Go.Proofs.YtjofkejfldmmlaaDoor
namespace Go.Proofs.YtjofkejfldmmlaaDoor
open Go.RowKit Go.Deep

theorem ownsRow_below {w w' : World} {base B : Nat} {e : TypeId} {size n : Nat} {v : Value} {xs : List Value} (h : w.ownsRow base e size v n xs) (hb : Below B w w') (hB : w.heap.size ≤ B) : w'.ownsRow base e size v n xs := by
  refine ⟨h.1, ?_⟩
  rcases h.2 with h' | ⟨g, cap, cur, h1, h2, h3, h4⟩
  · exact .inl h'
  · have hg : g < w.heap.size := (Array.getElem?_eq_some_iff.1 h3).1
    exact .inr ⟨g, cap, cur, h1, h2, (hb.block g (by omega)).trans h3, h4⟩
theorem ownsRow_base {w : World} {base base' : Nat} {e : TypeId} {size n : Nat} {v : Value} {xs : List Value} (h : w.ownsRow base e size v n xs) (hb : base' ≤ base) : w.ownsRow base' e size v n xs := by
  refine ⟨h.1, ?_⟩
  rcases h.2 with h' | ⟨g, cap, cur, h1, h2, h3⟩
  · exact .inl h'
  · exact .inr ⟨g, cap, cur, h1, by omega, h3⟩
theorem ownsRow_block {w : World} {base : Nat} {e : TypeId} {size n : Nat} {v : Value} {xs : List Value} (h : w.ownsRow base e size v n xs) : ∀ k, v.ownBlock = some k → base ≤ k := fun k hk => (h.lt k hk).1

/-- A list of numbers in memory of the call's own. -/
def ListRes (w : World) (xs : List Int) (e : Ending) (w' : World) : Prop :=
  ∃ v, e = .returned v ∧ w'.ownsRow w.heap.size 3 1 v xs.length (xs.map (Value.int .i64)) ∧ Below w.heap.size w w'

end Go.Proofs.YtjofkejfldmmlaaDoor
namespace Go.Proofs.YtjofkejfldmmlaaDoor
open Go.RowKit Go.Deep

end Go.Proofs.YtjofkejfldmmlaaDoor
namespace Go.Proofs.YtjofkejfldmmlaaDoor
open Go.RowKit Go.Deep

theorem map_set (n k : Nat) (f : Nat → Value) (u : Value) : ((List.range n).map f).set k u = (List.range n).map (fun i => if i = k then u else f i) := by
  apply List.ext_getElem
  · simp
  · intro i h1 h2
    simp only [List.getElem_set, List.getElem_map, List.getElem_range]
    by_cases e : k = i
    · subst e; simp
    · rw [if_neg e, if_neg (fun h => e h.symm)]
theorem map_range (xs : List Int) : xs.map (Value.int .i64) = (List.range xs.length).map (fun i => .int .i64 (xs[i]?.getD 0)) := by
  apply List.ext_getElem
  · simp
  · intro i h1 h2
    have h : i < xs.length := by simpa using h1
    simp [h]
theorem map_congr_range {n : Nat} {f g : Nat → Value} (h : ∀ i, i < n → f i = g i) : (List.range n).map f = (List.range n).map g :=
  List.map_congr_left fun i hi => h i (List.mem_range.1 hi)

theorem ownsRow_only {S : Nat → Prop} {w w' : World} {base : Nat} {e : TypeId} {size n : Nat} {v : Value} {xs : List Value} (h : w.ownsRow base e size v n xs) (k : OnlyIn S w w') (hS : ∀ j, v.ownBlock = some j → ¬ S j) : w'.ownsRow base e size v n xs := by
  refine ⟨h.1, ?_⟩
  rcases h.2 with h' | ⟨g, cap, cur, h1, h2, h3, h4⟩
  · exact .inl h'
  · exact .inr ⟨g, cap, cur, h1, h2, (k.block g (hS g (by rw [h1]; rfl))).trans h3, h4⟩
theorem onlyIn_grown {S : Nat → Prop} {w w1 : World} {g : Nat} {j : Nat} {u : Value} (h : OnlyIn S w w1) (hg : S g) : OnlyIn S w (w1.setCell ⟨g, j, none⟩ u) := h.set hg j u

/-- The slice is nil with nothing in it, or lies in a block; what it holds by its index. -/
theorem owns_ways {w : World} {base n : Nat} {v : Value} {f : Nat → Value} (h : w.ownsRow base 3 1 v n ((List.range n).map f)) :
    (v = .slice none 0 0 ∧ n = 0) ∨ ∃ g cap, v = .slice (some ⟨g, 0, none⟩) n cap ∧ ∀ j, j < n → w.cell? ⟨g, j, none⟩ = some (f j) := by
  rcases h.2 with h' | ⟨g, cap, cur, rfl, _⟩
  · exact .inl h'
  · refine .inr ⟨g, cap, rfl, fun j hj => ?_⟩
    rw [h.cellAt j (by omega)]
    simp [hj]

def markVals (k0 : Int) (n : Nat) : List Value := (List.range n).map fun i : Nat => .int .i64 (k0 + (i : Int))

end Go.Proofs.YtjofkejfldmmlaaDoor
namespace Go.Proofs.YtjofkejfldmmlaaDoor
open Go.RowKit Go.Deep

/-- Two slices of the call's own whose elements are of different types share no block. -/
theorem owns_apart {w : World} {b1 b2 : Nat} {e1 e2 : TypeId} {s1 s2 n1 n2 : Nat} {v1 v2 : Value} {x1 x2 : List Value} (h1 : w.ownsRow b1 e1 s1 v1 n1 x1) (h2 : w.ownsRow b2 e2 s2 v2 n2 x2) (hne : e1 ≠ e2) : v1.ownBlock = none ∨ v1.ownBlock ≠ v2.ownBlock := by
  rcases h1.2 with ⟨rfl, _⟩ | ⟨g, cap, cur, rfl, _, hh, _⟩
  · exact .inl rfl
  · right
    rcases h2.2 with ⟨rfl, _⟩ | ⟨g', cap', cur', rfl, _, hh', _⟩
    · simp [Value.ownBlock]
    · intro e
      have e' : g = g' := by simpa [Value.ownBlock] using e
      subst e'
      rw [hh] at hh'
      injection hh' with hh'
      injection hh' with _ ht
      exact hne ht
theorem owns_not {w w' : World} {base : Nat} {e : TypeId} {size n : Nat} {v u : Value} {xs : List Value} (h : w.ownsRow base e size v n xs) (hg : w.grownBy w' u.ownBlock) (hne : v.ownBlock = none ∨ v.ownBlock ≠ u.ownBlock) : w'.ownsRow base e size v n xs := h.kept hg hne

/-- k rows of the order turned round are in the list. -/
structure RowsS (w wr : World) (m : Mx) (k : Nat) (v : Value) (rv : Nat → Value) : Prop where
  top : wr.ownsRow w.heap.size 52 1 v k ((List.range k).map rv)
  row : ∀ r, r < k → wr.ownsRow w.heap.size 3 1 (rv r) m.n ((List.range m.n).map fun c => .int .i64 (m.Z c r))
  old : Below w.heap.size w wr

theorem RowsS.mat {w wr : World} {m : Mx} {v : Value} {rv : Nat → Value} (h : RowsS w wr m m.n v rv) (h0 : 0 < m.n) :
    ∃ (a : Option Addr) (l : Lay), v = .slice a m.n l.cap ∧ MatAt wr wr.heap.size a l (tr m) := by
  have hrv : ∀ r, r < m.n → ∃ y : Nat × Nat, rv r = .slice (some ⟨y.1, 0, none⟩) m.n y.2 ∧ y.1 < wr.heap.size ∧ ∀ j, j < m.n → wr.cell? ⟨y.1, j, none⟩ = some (.int .i64 (m.Z j r)) := fun r hr => by
    have ho := h.row r hr
    rcases owns_ways ho with ⟨_, h1⟩ | ⟨g, cap, h1, h2⟩
    · omega
    · exact ⟨(g, cap), h1, (ho.lt g (by rw [h1]; rfl)).2, h2⟩
  obtain ⟨y, hy⟩ := choose_lt hrv
  rcases h.top.2 with ⟨_, h1⟩ | ⟨g, cap, cur, rfl, hrest⟩
  · omega
  · refine ⟨some ⟨g, 0, none⟩, ⟨g, 0, cap, fun r => some ⟨(y r).1, 0, none⟩, fun r => (y r).2, fun r => (y r).1, fun _ => 0⟩, rfl, ⟨fun r hr => ?_, fun r hr c hc => ?_⟩⟩
    · have hr' : r < m.n := hr
      refine ⟨rfl, (h.top.lt g rfl).2, ?_⟩
      have := h.top.cellAt r (by omega)
      rw [Nat.zero_add, this]
      simp only [List.getElem?_map, List.getElem?_range hr', Option.map_some]
      rw [(hy r hr').1]
      rfl
    · have hr' : r < m.n := hr
      have hc' : c < m.n := hc
      exact ⟨rfl, (hy r hr').2.1, by
        rw [Nat.zero_add]
        exact (hy r hr').2.2 c hc'⟩

/-- What the reference's TurnedOf hands back of an order. -/
def TurnR (w : World) (m : Mx) (e : Ending) (w' : World) : Prop :=
  ∃ (a : Option Addr) (l : Lay), e = .returned (.slice a m.n l.cap) ∧ MatAt w' w'.heap.size a l (tr m) ∧ Below w.heap.size w w'

end Go.Proofs.YtjofkejfldmmlaaDoor
