/- Lists of numbers of the call's own: marked, held, compared. -/
import Derived.Test.YtcplljeglaolgaaWw
namespace Go.Proofs.Ytcplljeglaolgaa
open Go.RowKit Go.Deep

theorem map_set (n k : Nat) (f : Nat → Value) (u : Value) : ((List.range n).map f).set k u = (List.range n).map (fun i => if i = k then u else f i) := by
  apply List.ext_getElem
  · simp
  · intro i h1 h2
    simp only [List.getElem_set, List.getElem_map, List.getElem_range]
    by_cases e : k = i
    · subst e; simp
    · rw [if_neg e, if_neg (fun h => e h.symm)]
theorem map_range (xs : List Int) : xs.map (Value.int .i64) = (List.range xs.length).map (fun i => .int .i64 (xs[i]?.getD 0)) := by
  apply List.ext_getElem
  · simp
  · intro i h1 h2
    have h : i < xs.length := by simpa using h1
    simp [h]
theorem map_congr_range {n : Nat} {f g : Nat → Value} (h : ∀ i, i < n → f i = g i) : (List.range n).map f = (List.range n).map g :=
  List.map_congr_left fun i hi => h i (List.mem_range.1 hi)

theorem ownsRow_only {S : Nat → Prop} {w w' : World} {base : Nat} {e : TypeId} {size n : Nat} {v : Value} {xs : List Value} (h : w.ownsRow base e size v n xs) (k : OnlyIn S w w') (hS : ∀ j, v.ownBlock = some j → ¬ S j) : w'.ownsRow base e size v n xs := by
  refine ⟨h.1, ?_⟩
  rcases h.2 with h' | ⟨g, cap, cur, h1, h2, h3, h4⟩
  · exact .inl h'
  · exact .inr ⟨g, cap, cur, h1, h2, (k.block g (hS g (by rw [h1]; rfl))).trans h3, h4⟩
theorem onlyIn_grown {S : Nat → Prop} {w w1 : World} {g : Nat} {j : Nat} {u : Value} (h : OnlyIn S w w1) (hg : S g) : OnlyIn S w (w1.setCell ⟨g, j, none⟩ u) := h.set hg j u

/-- The slice is nil with nothing in it, or lies in a block; what it holds by its index. -/
theorem owns_ways {w : World} {base n : Nat} {v : Value} {f : Nat → Value} (h : w.ownsRow base 3 1 v n ((List.range n).map f)) :
    (v = .slice none 0 0 ∧ n = 0) ∨ ∃ g cap, v = .slice (some ⟨g, 0, none⟩) n cap ∧ ∀ j, j < n → w.cell? ⟨g, j, none⟩ = some (f j) := by
  rcases h.2 with h' | ⟨g, cap, cur, rfl, _⟩
  · exact .inl h'
  · refine .inr ⟨g, cap, rfl, fun j hj => ?_⟩
    rw [h.cellAt j (by omega)]
    simp [hj]

def markVals (k0 : Int) (n : Nat) : List Value := (List.range n).map fun i : Nat => .int .i64 (k0 + (i : Int))

theorem eqList {w : World} {base base' n : Nat} {v v' : Value} {z : Nat → Int} (hn : n ≤ 9223372036854775807) (h : w.ownsRow base 3 1 v n ((List.range n).map fun i => .int .i64 (z i))) (h' : w.ownsRow base' 3 1 v' n ((List.range n).map fun i => .int .i64 (z i))) :
    Calls Try.prog 98 #[v, v'] w fun e w' => e = .returned (.bool true) ∧ Drew w w' := by
  have key : ∀ (base : Nat) (v : Value), w.ownsRow base 3 1 v n ((List.range n).map fun i => .int .i64 (z i)) → ∃ a g cap, v = .slice a n cap ∧ RowAt w w.heap.size a g 0 n z := by
    intro base v h
    rcases owns_ways h with ⟨rfl, rfl⟩ | ⟨g, cap, rfl, hc⟩
    · exact ⟨none, 0, 0, rfl, ⟨fun c hc => absurd hc (Nat.not_lt_zero _)⟩⟩
    · exact ⟨some ⟨g, 0, none⟩, g, cap, rfl, ⟨fun c hcn => ⟨rfl, World.block_lt_of_cell? _ _ (hc c hcn), by simpa using hc c hcn⟩⟩⟩
  obtain ⟨a, g, cap, rfl, hr⟩ := key base v h
  obtain ⟨a', g', cap', rfl, hr'⟩ := key base' v' h'
  exact eqIntS_same w.heap.size _ _ _ _ _ _ _ _ _ _ _ hn hr hr'
end Go.Proofs.Ytcplljeglaolgaa
