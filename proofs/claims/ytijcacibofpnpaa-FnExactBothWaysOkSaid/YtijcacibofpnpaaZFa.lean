/- A range over a function that hands over numbers and rows of its own make: what the function owes, and the statement's law where its body goes on to the end. The walk of the program's iterator over a plan's rows. The walk that makes a logic of a plan. The walks of the plans of sets and of the ring. -/
import Derived.Test.YtijcacibofpnpaaZDg
import Derived.Test.YtijcacibofpnpaaZOa
import Derived.Test.YtijcacibofpnpaaZMathI
import Derived.RangeFuncNested
import Derived.RangeFuncBound
import Derived.RangeFuncCalls
import Derived.RangeFuncLeaves
import Derived.RangeFuncBox
import Derived.Laws.EntriesVeiled
import Derived.BigQuiet
namespace Go.Proofs.Ytijcacibofpnpaa
open Go.RowKit Go.Deep

theorem Chg.put {W : World} {l : Nat} {o : Obj} : Chg (fun j => j = l) W (W.putObj l o) :=
  ⟨rfl, rfl, rfl, by simp, fun _ _ hs => World.putObj_heap_other hs⟩

end Go.Proofs.Ytijcacibofpnpaa
namespace Go.Proofs.Ytijcacibofpnpaa
open Go.RowKit Go.Deep Go.Shelf

attribute [local go_sem] Oper.semAt_some

def bitZ (b : Nat → Nat → Bool) (x y : Nat) : Int := if b x y = true then 1 else 0
end Go.Proofs.Ytijcacibofpnpaa
namespace Go.Proofs.Ytijcacibofpnpaa
open Go.RowKit Go.Deep Go.Shelf

attribute [local go_sem] Oper.semAt_some

/-- Blocks between the box and the base may turn. -/
theorem MakeAt.mids {S : Nat → Prop} {wr w' : World} {p base : Nat} {u t : Value} {k kt N : Nat} {rv : Nat → Value} {Z : Nat → Nat → Int} {y : Nat → Int} (h : MakeAt wr p base u t k kt N rv Z y) (hc : Chg S wr w') (hp : ¬ S p) (hs : ∀ j, base ≤ j → ¬ S j) : MakeAt w' p base u t k kt N rv Z y :=
  ⟨h.pb, hc.two h.box hp, hc.out h.out (fun g hg => hs g (ownsRow_block h.out.top g hg)) (fun r hr g hg => hs g (ownsRow_block (h.out.row r hr) g hg)), hc.ints h.ints (fun g hg => hs g (ownsRow_block h.ints g hg)), h.sep, h.rng⟩
/-- The logic under way, the plan's box and the result's beside it. -/
structure Making (w : World) (N : Nat) (b : Nat → Nat → Bool) (y : Nat → Nat) (fv : Value) (k : Nat) (W : World) (u t : Value) (rv : Nat → Value) : Prop where
  make : MakeAt W (w.heap.size + 1 + 1) (w.heap.size + 6) u t k k N rv (bitZ b) (fun c => (y c : Int))
  res : TwoAt W (w.heap.size + 1) (.slice none 0 0) (.slice none 0 0)
  fn : W.cell? ⟨w.heap.size, 2, none⟩ = some fv
  old : Below w.heap.size w W
theorem Making.chg {S : Nat → Prop} {w W W' : World} {N k : Nat} {b : Nat → Nat → Bool} {y : Nat → Nat} {fv u t : Value} {rv : Nat → Value} (h : Making w N b y fv k W u t rv) (hc : Chg S W W') (hs : ∀ j, S j → w.heap.size + 3 ≤ j ∧ j < w.heap.size + 6) : Making w N b y fv k W' u t rv := by
  have hl := World.block_lt_of_cell? W ⟨w.heap.size, 2, none⟩ h.fn
  have no : ∀ j, j < w.heap.size + 3 → ¬ S j := fun j hj e => by have := (hs j e).1; omega
  exact ⟨h.make.mids hc (no _ (by omega)) (fun j hj e => by have := (hs j e).2; omega), hc.two h.res (no _ (by omega)), (World.cell?_of_block (a := ⟨w.heap.size, 2, none⟩) (hc.block _ hl (no _ (by show w.heap.size < _; omega)))).trans h.fn, h.old.trans (hc.below h.old.size fun j hj => by have := (hs j hj).1; omega)⟩

/-- One operation that hands over a value, whatever else may come up. -/
theorem opH_value {P : Program} {md : Region.Mode} {ops : Array Oper} {Q : Exit → Act → World → Prop} {S : World → Prop} {i d fuel : Nat} {v : Value} {listed listed' : Array Bool} {a : Act} {w w' : World} {o : Oper} {rest : List Oper} (hi : ops.toList.drop i = o :: rest)
    (hd : o.dst = some d) (hw : Region.wanted o (yielded ops a.tmps) = true) (hl : listed.setIfInBounds i true = listed') (he : (execOp a.eval o).run P w = .ok (.value v) w') (hS : S w')
    (h : wpAnyH P md ops Q S fuel listed' { tmps := a.tmps.setIfInBounds d v, defers := a.defers } w') : wpOp P ops Q i (fun a' w' => S w' ∧ wpAnyH P md ops Q S fuel (listed.setIfInBounds i true) a' w') a w := by
  unfold wpOp
  rw [at_drop hi]
  simp only
  rw [if_pos hw, hl]
  refine .inl ?_
  unfold Oper.wp
  rw [he, Oper.upon_value, hd]
  exact ⟨hS, h⟩
theorem hold_value {P : Program} {md : Region.Mode} {ops : Array Oper} {Q : Exit → Act → World → Prop} {S : World → Prop} {i d fuel : Nat} {v : Value} {listed listed' : Array Bool} {a : Act} {w w' : World} {o : Oper} {rest : List Oper} (hi : ops.toList.drop i = o :: rest)
    (hr : Region.ready md ops listed = [i]) (hd : o.dst = some d) (hw : Region.wanted o (yielded ops a.tmps) = true) (hl : listed.setIfInBounds i true = listed') (he : (execOp a.eval o).run P w = .ok (.value v) w') (hS : S w')
    (h : wpAnyH P md ops Q S fuel listed' { tmps := a.tmps.setIfInBounds d v, defers := a.defers } w') : wpAnyH P md ops Q S (fuel + 1) listed a w := by
  refine wpAnyH_all hr (by simp) fun j hj => ?_
  obtain rfl : j = i := by simpa using hj
  exact opH_value hi hd hw hl he hS h
end Go.Proofs.Ytijcacibofpnpaa
namespace Go.Proofs.Ytijcacibofpnpaa
open Go.RowKit Go.Deep

end Go.Proofs.Ytijcacibofpnpaa
