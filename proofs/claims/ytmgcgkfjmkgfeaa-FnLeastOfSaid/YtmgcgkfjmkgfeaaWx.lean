/- Lists of numbers of the call's own: marked, held, compared. -/
import Derived.Test.YtmgcgkfjmkgfeaaWw
namespace Go.Proofs.Ytmgcgkfjmkgfeaa
open Go.RowKit Go.Deep

theorem map_set (n k : Nat) (f : Nat → Value) (u : Value) : ((List.range n).map f).set k u = (List.range n).map (fun i => if i = k then u else f i) := by
  apply List.ext_getElem
  · simp
  · intro i h1 h2
    simp only [List.getElem_set, List.getElem_map, List.getElem_range]
    by_cases e : k = i
    · subst e; simp
    · rw [if_neg e, if_neg (fun h => e h.symm)]
theorem map_range (xs : List Int) : xs.map (Value.int .i64) = (List.range xs.length).map (fun i => .int .i64 (xs[i]?.getD 0)) := by
  apply List.ext_getElem
  · simp
  · intro i h1 h2
    have h : i < xs.length := by simpa using h1
    simp [h]
theorem map_congr_range {n : Nat} {f g : Nat → Value} (h : ∀ i, i < n → f i = g i) : (List.range n).map f = (List.range n).map g :=
  List.map_congr_left fun i hi => h i (List.mem_range.1 hi)

theorem ownsRow_only {S : Nat → Prop} {w w' : World} {base : Nat} {e : TypeId} {size n : Nat} {v : Value} {xs : List Value} (h : w.ownsRow base e size v n xs) (k : OnlyIn S w w') (hS : ∀ j, v.ownBlock = some j → ¬ S j) : w'.ownsRow base e size v n xs := by
  refine ⟨h.1, ?_⟩
  rcases h.2 with h' | ⟨g, cap, cur, h1, h2, h3, h4⟩
  · exact .inl h'
  · exact .inr ⟨g, cap, cur, h1, h2, (k.block g (hS g (by rw [h1]; rfl))).trans h3, h4⟩
theorem onlyIn_grown {S : Nat → Prop} {w w1 : World} {g : Nat} {j : Nat} {u : Value} (h : OnlyIn S w w1) (hg : S g) : OnlyIn S w (w1.setCell ⟨g, j, none⟩ u) := h.set hg j u

/-- The slice is nil with nothing in it, or lies in a block; what it holds by its index. -/
theorem owns_ways {w : World} {base n : Nat} {v : Value} {f : Nat → Value} (h : w.ownsRow base 3 1 v n ((List.range n).map f)) :
    (v = .slice none 0 0 ∧ n = 0) ∨ ∃ g cap, v = .slice (some ⟨g, 0, none⟩) n cap ∧ ∀ j, j < n → w.cell? ⟨g, j, none⟩ = some (f j) := by
  rcases h.2 with h' | ⟨g, cap, cur, rfl, _⟩
  · exact .inl h'
  · refine .inr ⟨g, cap, rfl, fun j hj => ?_⟩
    rw [h.cellAt j (by omega)]
    simp [hj]

def markVals (k0 : Int) (n : Nat) : List Value := (List.range n).map fun i : Nat => .int .i64 (k0 + (i : Int))

set_option maxHeartbeats 400000 in
theorem markList {w : World} {base n : Nat} {v : Value} {z : Nat → Int} {k0 : Int} (hn : n ≤ 1048576) (h0 : 0 ≤ k0) (h1 : k0 ≤ 1099511627776) (h : w.ownsRow base 3 1 v n ((List.range n).map fun i => .int .i64 (z i))) :
    Calls Try.prog 48 #[v, .int .i64 k0] w fun e w' => e = .returned (.int .i64 (k0 + n)) ∧ w'.ownsRow base 3 1 v n (markVals k0 n) ∧ OnlyIn (fun k => v.ownBlock = some k) w w' := by
  rcases owns_ways h with ⟨rfl, rfl⟩ | ⟨g, cap, rfl, _⟩
  · go_enter Try.func48, Try.ntmps48
    go_wp2
    go_loop [1, 5] (fun t i => t = .int .i64 k0 ∧ i = .int .i64 0) (fun _ _ => 0)
    case atStart => exact ⟨rfl, rfl⟩
    case round =>
      obtain ⟨rfl, rfl⟩ := hrel
      go_wp2
      go_ret
      exact ⟨ret_int (by simp), World.ownsRow_nil _ _ _ _, OnlyIn.refl _ _⟩
  · go_enter Try.func48, Try.ntmps48
    go_wp2
    go_loopw [1, 5] (fun t i wr => ∃ k : Nat, k ≤ n ∧ i = .int .i64 k ∧ t = .int .i64 (k0 + k) ∧ OnlyIn (fun k => (Value.slice (some ⟨g, 0, none⟩) n cap).ownBlock = some k) w wr ∧ wr.ownsRow base 3 1 (.slice (some ⟨g, 0, none⟩) n cap) n ((List.range n).map fun i => .int .i64 (if i < k then k0 + i else z i))) (fun _ i _ => n - (intOf i).toNat)
    case atStart => exact ⟨0, Nat.zero_le _, rfl, by simp, OnlyIn.refl _ _, by simpa using h⟩
    case round =>
      obtain ⟨k, hk, rfl, rfl, hO, hR⟩ := hrel
      by_cases hlt : k < n
      · have g4 : wr.cell? ⟨g, k, none⟩ = some (.int .i64 (z k)) := by
          rw [hR.cellAt k (by omega)]
          simp [hlt]
        have g5 : wr.frozen? ⟨g, k, none⟩ = false := hR.frozenAt k
        have hlt' : (k : Int) < n := by omega
        clear h
        go_wp2
        go_roundw
        case rel =>
          refine ⟨k + 1, by omega, by go_num, by congr 1; omega, hO.set rfl _ _, ?_⟩
          have := (hR.stored k (.int .i64 (k0 + k))).1
          rw [map_set] at this
          rw [map_congr_range (g := fun i => .int .i64 (if i < k + 1 then k0 + i else z i))] at this
          · exact this
          · intro i _
            show (if i = k then Value.int .i64 (k0 + k) else .int .i64 (if i < k then k0 + i else z i)) = Value.int .i64 (if i < k + 1 then k0 + i else z i)
            by_cases e : i = k
            · subst e; simp
            · rw [if_neg e]
              by_cases hi : i < k
              · rw [if_pos hi, if_pos (by omega)]
              · rw [if_neg hi, if_neg (by omega)]
        case measure => simp [intOf]; omega
      · have hlt' : ¬ (k : Int) < n := by omega
        have HK : Hid (n = k) := by show _ = _; omega
        clear h
        go_wp2
        go_ret
        exact ⟨ret_int (by have := HK.out; omega), by
          rw [map_congr_range (g := fun i => .int .i64 (k0 + i)) (fun i hi => by rw [if_pos (by have := HK.out; omega)])] at hR
          exact hR, hO⟩

theorem heldList {w : World} {base n : Nat} {v : Value} {k0 : Int} (hn : n ≤ 1048576) (h0 : 0 ≤ k0) (h1 : k0 ≤ 1099511627776) (h : w.ownsRow base 3 1 v n (markVals k0 n)) :
    Calls Try.prog 49 #[v, .int .i64 k0] w fun e w' => e = .returned (.int .i64 (k0 + n)) ∧ w = w' := by
  rcases owns_ways h with ⟨rfl, rfl⟩ | ⟨g, cap, rfl, hc⟩
  · exact heldIntS_own (B := 0) (a := none) (g := 0) (o := 0) hn h0 h1 ⟨fun c hc => absurd hc (Nat.not_lt_zero _)⟩
  · exact heldIntS_own (B := g + 1) (a := some ⟨g, 0, none⟩) (g := g) (o := 0) hn h0 h1 ⟨fun c hcn => ⟨rfl, by omega, by simpa using hc c hcn⟩⟩

theorem eqList {w : World} {base base' n : Nat} {v v' : Value} {z : Nat → Int} (hn : n ≤ 9223372036854775807) (h : w.ownsRow base 3 1 v n ((List.range n).map fun i => .int .i64 (z i))) (h' : w.ownsRow base' 3 1 v' n ((List.range n).map fun i => .int .i64 (z i))) :
    Calls Try.prog 47 #[v, v'] w fun e w' => e = .returned (.bool true) ∧ Drew w w' := by
  have key : ∀ (base : Nat) (v : Value), w.ownsRow base 3 1 v n ((List.range n).map fun i => .int .i64 (z i)) → ∃ a g cap, v = .slice a n cap ∧ RowAt w w.heap.size a g 0 n z := by
    intro base v h
    rcases owns_ways h with ⟨rfl, rfl⟩ | ⟨g, cap, rfl, hc⟩
    · exact ⟨none, 0, 0, rfl, ⟨fun c hc => absurd hc (Nat.not_lt_zero _)⟩⟩
    · exact ⟨some ⟨g, 0, none⟩, g, cap, rfl, ⟨fun c hcn => ⟨rfl, World.block_lt_of_cell? _ _ (hc c hcn), by simpa using hc c hcn⟩⟩⟩
  obtain ⟨a, g, cap, rfl, hr⟩ := key base v h
  obtain ⟨a', g', cap', rfl, hr'⟩ := key base' v' h'
  exact eqIntS_same w.heap.size _ _ _ _ _ _ _ _ _ _ _ hn hr hr'
end Go.Proofs.Ytmgcgkfjmkgfeaa
