/- The walk of the program's blocks: a function that yields all blocks which have a set, by ranging over itself. -/
import Derived.Test.YtjmhhjdkemicbaaSd
namespace Go.Proofs.Ytjmhhjdkemicbaa
open Go.RowKit Go.Deep Go.Shelf

attribute [local go_sem] Oper.semAt_some

/-! ### Marks -/
theorem leave_marks {n : Nat} {fn : Func} {tmps : Array Value} {v : Value} {B : Nat} {Z : Unit → World → Prop} (hZ : OwnFrom B Z) (hres : ∀ W : World, (results fn tmps).run Try.prog W = .ok v W) : ∀ (Ds : List Nat) (W : World), Ds.Pairwise (· ≠ ·) → (∀ D ∈ Ds, B ≤ D ∧ W.heap[D]? = some (.deferred (some []))) → Z () W →
    LeavesInM Fence.wide n Try.prog fn tmps (fun e W' => (∃ v, e = .returned v) ∧ Z () W') (Ds.map markD) .returning W := by
  intro Ds
  induction Ds with
  | nil => intro W _ _ h; exact ⟨v, hres W, ⟨v, rfl⟩, h⟩
  | cons D r ih =>
    intro W hp hd h
    rw [List.pairwise_cons] at hp
    obtain ⟨h1, h2⟩ := hd D List.mem_cons_self
    refine ⟨by simp, .inl ⟨D, _, rfl, run_takeDeferred h2, ?_⟩⟩
    refine ih _ hp.2 (fun E hE => ?_) (hZ.putObj _ h h1 h2 rfl)
    obtain ⟨g1, g2⟩ := hd E (List.mem_cons_of_mem _ hE)
    exact ⟨g1, (World.putObj_heap_other (fun e => hp.1 E hE e.symm)).trans g2⟩

/-- A region that draws its order, ahead of any round. -/
theorem region_flat {n id fuel : Nat} {P : Program} {ops : Array Oper} {listed : Array Bool} {Q : Exit → Act → World → Prop} {a : Act} {w : World} (S : World → Prop) (hm : P.follows .mixedOrders = true) (hf : ops.size = fuel) (hl : Array.replicate ops.size false = listed)
    (h : wpAnyH P .any ops (fun e a w => e = .normal ∧ Q .normal a w) S fuel listed a w.drew) : (Code.region id ops true).wpIn Fence.wide n P Q a w := wpIn_wide.2 (region_plain S hm hf hl h)

/-! ### What the function value has captured -/
theorem blocks_world {w w' : World} {u v x : Value} {a b c : TypeId} (h : w' = ((w.alloc (.cells #[u] a)).alloc (.cells #[v] b)).alloc (.cells #[x] c)) : Below w.heap.size w w' := by
  rw [h]
  exact (((Below.refl _ w).alloc (Nat.le_refl _) _).alloc (by simp) _).alloc (by simp; omega) _
theorem World.cell?_of_new (W : World) (v : Value) (t : TypeId) : (W.alloc (.cells #[v] t)).cell? ⟨W.heap.size, 0, none⟩ = some v := by simp
theorem cut_int (x r : Nat) : (x : Int) / 2 ^ r * 2 ^ r = ((cutN x r : Nat) : Int) := by unfold cutN; simp
theorem cut_wrap {x r : Nat} (h : cutN x r < 4096) : wrap64 ((x : Int) / 2 ^ r * 2 ^ r) = ((cutN x r : Nat) : Int) := by
  rw [cut_int]
  generalize cutN x r = c at h
  unfold wrap64
  omega
theorem cut_wrap' {x r : Nat} (h : cutN x r < 4096) : IntKind.i64.wrap ((x : Int) / 2 ^ r * 2 ^ r) = ((cutN x r : Nat) : Int) := by
  rw [cut_int]
  generalize cutN x r = c at h
  rw [IntKind.wrap_i64]
  omega
theorem ownFrom_marks {β : Type} {B : Nat} {Ds : List Nat} (h : ∀ D ∈ Ds, D < B) : OwnFrom B (fun (_ : β) W => ∀ D ∈ Ds, W.heap[D]? = some (.deferred (some []))) :=
  fun _ A C row hs hg hr D hD => (hg.block D (Array.getElem?_eq_some_iff.1 (hs D hD)).1 (fun e => by have := (hr D e.symm).1; have := h D hD; omega)).trans (hs D hD)
theorem flat_next {mems : List Nat} {j a : Nat} {F : Nat → List Nat} (h : mems.take (j + 1) = mems.take j ++ [a]) : ((mems.take (j + 1)).map F).flatten = ((mems.take j).map F).flatten ++ F a := by
  rw [h]; simp only [List.map_append, List.flatten_append, List.map_cons, List.map_nil, List.flatten_cons, List.flatten_nil, List.append_nil]
theorem flat_pre {mems : List Nat} {j a : Nat} {F : Nat → List Nat} {q : List Nat} (h : mems.take (j + 1) = mems.take j ++ [a]) (hq : q <+: F a) : ((mems.take j).map F).flatten ++ q <+: (mems.map F).flatten := by
  have e : (mems.map F).flatten = ((mems.take (j + 1)).map F).flatten ++ ((mems.drop (j + 1)).map F).flatten := by
    rw [← List.flatten_append, ← List.map_append, List.take_append_drop]
  obtain ⟨q2, hq2⟩ := hq
  rw [e, flat_next h, ← hq2]
  exact ⟨q2 ++ ((mems.drop (j + 1)).map F).flatten, by simp only [List.append_assoc]⟩
theorem blocks_cells {w w' : World} {u v x : Value} {a b c : TypeId} (h : w' = ((w.alloc (.cells #[u] a)).alloc (.cells #[v] b)).alloc (.cells #[x] c)) :
    w'.cell? ⟨w.heap.size, 0, none⟩ = some u ∧ w'.cell? ⟨w.heap.size + 1, 0, none⟩ = some v ∧ w'.cell? ⟨w.heap.size + 1 + 1, 0, none⟩ = some x := by
  subst h
  have e1 : (w.alloc (.cells #[u] a)).heap.size = w.heap.size + 1 := World.size_alloc _ _
  have e2 : ((w.alloc (.cells #[u] a)).alloc (.cells #[v] b)).heap.size = w.heap.size + 1 + 1 := by rw [World.size_alloc, e1]
  have b2 := (Below.refl (w.alloc (.cells #[u] a)).heap.size (w.alloc (.cells #[u] a))).alloc (Nat.le_refl _) (.cells #[v] b)
  have b3 := (Below.refl ((w.alloc (.cells #[u] a)).alloc (.cells #[v] b)).heap.size ((w.alloc (.cells #[u] a)).alloc (.cells #[v] b))).alloc (Nat.le_refl _) (.cells #[x] c)
  have c1 := World.cell?_of_new w u a
  have c2 := World.cell?_of_new (w.alloc (.cells #[u] a)) v b
  have c3 := World.cell?_of_new ((w.alloc (.cells #[u] a)).alloc (.cells #[v] b)) x c
  rw [e1] at c2 b2
  rw [e2] at c3 b3
  exact ⟨(b3.cell (p := ⟨w.heap.size, 0, none⟩) (by show w.heap.size < _; omega)).trans ((b2.cell (p := ⟨w.heap.size, 0, none⟩) (by show w.heap.size < _; omega)).trans c1),
    (b3.cell (p := ⟨w.heap.size + 1, 0, none⟩) (by show w.heap.size + 1 < _; omega)).trans c2, c3⟩

end Go.Proofs.Ytjmhhjdkemicbaa
