/- The walks of the program's and the reference's AtomsOf: a list that grows by append. The walk of the reference's AtomsOf. Lists of numbers of the call's own: marked, held, compared. The walk of the reference's TurnedOf: rows that grow by append, in a list of rows that grows by append. -/
import Derived.Test.YtijcacibofpnpaaWu
import Derived.Test.YtijcacibofpnpaaWp
import Derived.Test.YtijcacibofpnpaaMath
import Derived.Maps.AppendAt
import Derived.Deep.Matrix
namespace Go.Proofs.Ytijcacibofpnpaa
open Go.RowKit Go.Deep

theorem ownsRow_below {w w' : World} {base B : Nat} {e : TypeId} {size n : Nat} {v : Value} {xs : List Value} (h : w.ownsRow base e size v n xs) (hb : Below B w w') (hB : w.heap.size ≤ B) : w'.ownsRow base e size v n xs := by
  refine ⟨h.1, ?_⟩
  rcases h.2 with h' | ⟨g, cap, cur, h1, h2, h3, h4⟩
  · exact .inl h'
  · have hg : g < w.heap.size := (Array.getElem?_eq_some_iff.1 h3).1
    exact .inr ⟨g, cap, cur, h1, h2, (hb.block g (by omega)).trans h3, h4⟩
theorem ownsRow_base {w : World} {base base' : Nat} {e : TypeId} {size n : Nat} {v : Value} {xs : List Value} (h : w.ownsRow base e size v n xs) (hb : base' ≤ base) : w.ownsRow base' e size v n xs := by
  refine ⟨h.1, ?_⟩
  rcases h.2 with h' | ⟨g, cap, cur, h1, h2, h3⟩
  · exact .inl h'
  · exact .inr ⟨g, cap, cur, h1, by omega, h3⟩
theorem ownsRow_block {w : World} {base : Nat} {e : TypeId} {size n : Nat} {v : Value} {xs : List Value} (h : w.ownsRow base e size v n xs) : ∀ k, v.ownBlock = some k → base ≤ k := fun k hk => (h.lt k hk).1

/-- A list of numbers in memory of the call's own. -/
def ListRes (w : World) (xs : List Int) (e : Ending) (w' : World) : Prop :=
  ∃ v, e = .returned v ∧ w'.ownsRow w.heap.size 3 1 v xs.length (xs.map (Value.int .i64)) ∧ Below w.heap.size w w'

end Go.Proofs.Ytijcacibofpnpaa
namespace Go.Proofs.Ytijcacibofpnpaa
open Go.RowKit Go.Deep

end Go.Proofs.Ytijcacibofpnpaa
namespace Go.Proofs.Ytijcacibofpnpaa
open Go.RowKit Go.Deep

theorem map_set (n k : Nat) (f : Nat → Value) (u : Value) : ((List.range n).map f).set k u = (List.range n).map (fun i => if i = k then u else f i) := by
  apply List.ext_getElem
  · simp
  · intro i h1 h2
    simp only [List.getElem_set, List.getElem_map, List.getElem_range]
    by_cases e : k = i
    · subst e; simp
    · rw [if_neg e, if_neg (fun h => e h.symm)]
theorem map_range (xs : List Int) : xs.map (Value.int .i64) = (List.range xs.length).map (fun i => .int .i64 (xs[i]?.getD 0)) := by
  apply List.ext_getElem
  · simp
  · intro i h1 h2
    have h : i < xs.length := by simpa using h1
    simp [h]
theorem map_congr_range {n : Nat} {f g : Nat → Value} (h : ∀ i, i < n → f i = g i) : (List.range n).map f = (List.range n).map g :=
  List.map_congr_left fun i hi => h i (List.mem_range.1 hi)

theorem ownsRow_only {S : Nat → Prop} {w w' : World} {base : Nat} {e : TypeId} {size n : Nat} {v : Value} {xs : List Value} (h : w.ownsRow base e size v n xs) (k : OnlyIn S w w') (hS : ∀ j, v.ownBlock = some j → ¬ S j) : w'.ownsRow base e size v n xs := by
  refine ⟨h.1, ?_⟩
  rcases h.2 with h' | ⟨g, cap, cur, h1, h2, h3, h4⟩
  · exact .inl h'
  · exact .inr ⟨g, cap, cur, h1, h2, (k.block g (hS g (by rw [h1]; rfl))).trans h3, h4⟩
theorem onlyIn_grown {S : Nat → Prop} {w w1 : World} {g : Nat} {j : Nat} {u : Value} (h : OnlyIn S w w1) (hg : S g) : OnlyIn S w (w1.setCell ⟨g, j, none⟩ u) := h.set hg j u

/-- The slice is nil with nothing in it, or lies in a block; what it holds by its index. -/
theorem owns_ways {w : World} {base n : Nat} {v : Value} {f : Nat → Value} (h : w.ownsRow base 3 1 v n ((List.range n).map f)) :
    (v = .slice none 0 0 ∧ n = 0) ∨ ∃ g cap, v = .slice (some ⟨g, 0, none⟩) n cap ∧ ∀ j, j < n → w.cell? ⟨g, j, none⟩ = some (f j) := by
  rcases h.2 with h' | ⟨g, cap, cur, rfl, _⟩
  · exact .inl h'
  · refine .inr ⟨g, cap, rfl, fun j hj => ?_⟩
    rw [h.cellAt j (by omega)]
    simp [hj]

def markVals (k0 : Int) (n : Nat) : List Value := (List.range n).map fun i : Nat => .int .i64 (k0 + (i : Int))

set_option maxHeartbeats 400000 in
theorem markList {w : World} {base n : Nat} {v : Value} {z : Nat → Int} {k0 : Int} (hn : n ≤ 1048576) (h0 : 0 ≤ k0) (h1 : k0 ≤ 1099511627776) (h : w.ownsRow base 3 1 v n ((List.range n).map fun i => .int .i64 (z i))) :
    Calls Try.prog 41 #[v, .int .i64 k0] w fun e w' => e = .returned (.int .i64 (k0 + n)) ∧ w'.ownsRow base 3 1 v n (markVals k0 n) ∧ OnlyIn (fun k => v.ownBlock = some k) w w' := by
  rcases owns_ways h with ⟨rfl, rfl⟩ | ⟨g, cap, rfl, _⟩
  · go_enter Try.func41, Try.ntmps41
    go_wp2
    go_loop [1, 5] (fun t i => t = .int .i64 k0 ∧ i = .int .i64 0) (fun _ _ => 0)
    case atStart => exact ⟨rfl, rfl⟩
    case round =>
      obtain ⟨rfl, rfl⟩ := hrel
      go_wp2
      go_ret
      exact ⟨ret_int (by simp), World.ownsRow_nil _ _ _ _, OnlyIn.refl _ _⟩
  · go_enter Try.func41, Try.ntmps41
    go_wp2
    go_loopw [1, 5] (fun t i wr => ∃ k : Nat, k ≤ n ∧ i = .int .i64 k ∧ t = .int .i64 (k0 + k) ∧ OnlyIn (fun k => (Value.slice (some ⟨g, 0, none⟩) n cap).ownBlock = some k) w wr ∧ wr.ownsRow base 3 1 (.slice (some ⟨g, 0, none⟩) n cap) n ((List.range n).map fun i => .int .i64 (if i < k then k0 + i else z i))) (fun _ i _ => n - (intOf i).toNat)
    case atStart => exact ⟨0, Nat.zero_le _, rfl, by simp, OnlyIn.refl _ _, by simpa using h⟩
    case round =>
      obtain ⟨k, hk, rfl, rfl, hO, hR⟩ := hrel
      by_cases hlt : k < n
      · have g4 : wr.cell? ⟨g, k, none⟩ = some (.int .i64 (z k)) := by
          rw [hR.cellAt k (by omega)]
          simp [hlt]
        have g5 : wr.frozen? ⟨g, k, none⟩ = false := hR.frozenAt k
        have hlt' : (k : Int) < n := by omega
        clear h
        go_wp2
        go_roundw
        case rel =>
          refine ⟨k + 1, by omega, by go_num, by congr 1; omega, hO.set rfl _ _, ?_⟩
          have := (hR.stored k (.int .i64 (k0 + k))).1
          rw [map_set] at this
          rw [map_congr_range (g := fun i => .int .i64 (if i < k + 1 then k0 + i else z i))] at this
          · exact this
          · intro i _
            show (if i = k then Value.int .i64 (k0 + k) else .int .i64 (if i < k then k0 + i else z i)) = Value.int .i64 (if i < k + 1 then k0 + i else z i)
            by_cases e : i = k
            · subst e; simp
            · rw [if_neg e]
              by_cases hi : i < k
              · rw [if_pos hi, if_pos (by omega)]
              · rw [if_neg hi, if_neg (by omega)]
        case measure => simp [intOf]; omega
      · have hlt' : ¬ (k : Int) < n := by omega
        have HK : Hid (n = k) := by show _ = _; omega
        clear h
        go_wp2
        go_ret
        exact ⟨ret_int (by have := HK.out; omega), by
          rw [map_congr_range (g := fun i => .int .i64 (k0 + i)) (fun i hi => by rw [if_pos (by have := HK.out; omega)])] at hR
          exact hR, hO⟩

theorem heldList {w : World} {base n : Nat} {v : Value} {k0 : Int} (hn : n ≤ 1048576) (h0 : 0 ≤ k0) (h1 : k0 ≤ 1099511627776) (h : w.ownsRow base 3 1 v n (markVals k0 n)) :
    Calls Try.prog 42 #[v, .int .i64 k0] w fun e w' => e = .returned (.int .i64 (k0 + n)) ∧ w = w' := by
  rcases owns_ways h with ⟨rfl, rfl⟩ | ⟨g, cap, rfl, hc⟩
  · exact heldIntS_own (B := 0) (a := none) (g := 0) (o := 0) hn h0 h1 ⟨fun c hc => absurd hc (Nat.not_lt_zero _)⟩
  · exact heldIntS_own (B := g + 1) (a := some ⟨g, 0, none⟩) (g := g) (o := 0) hn h0 h1 ⟨fun c hcn => ⟨rfl, by omega, by simpa using hc c hcn⟩⟩

theorem eqList {w : World} {base base' n : Nat} {v v' : Value} {z : Nat → Int} (hn : n ≤ 9223372036854775807) (h : w.ownsRow base 3 1 v n ((List.range n).map fun i => .int .i64 (z i))) (h' : w.ownsRow base' 3 1 v' n ((List.range n).map fun i => .int .i64 (z i))) :
    Calls Try.prog 39 #[v, v'] w fun e w' => e = .returned (.bool true) ∧ Drew w w' := by
  have key : ∀ (base : Nat) (v : Value), w.ownsRow base 3 1 v n ((List.range n).map fun i => .int .i64 (z i)) → ∃ a g cap, v = .slice a n cap ∧ RowAt w w.heap.size a g 0 n z := by
    intro base v h
    rcases owns_ways h with ⟨rfl, rfl⟩ | ⟨g, cap, rfl, hc⟩
    · exact ⟨none, 0, 0, rfl, ⟨fun c hc => absurd hc (Nat.not_lt_zero _)⟩⟩
    · exact ⟨some ⟨g, 0, none⟩, g, cap, rfl, ⟨fun c hcn => ⟨rfl, World.block_lt_of_cell? _ _ (hc c hcn), by simpa using hc c hcn⟩⟩⟩
  obtain ⟨a, g, cap, rfl, hr⟩ := key base v h
  obtain ⟨a', g', cap', rfl, hr'⟩ := key base' v' h'
  exact eqIntS_same w.heap.size _ _ _ _ _ _ _ _ _ _ _ hn hr hr'
end Go.Proofs.Ytijcacibofpnpaa
namespace Go.Proofs.Ytijcacibofpnpaa
open Go.RowKit Go.Deep

/-- Two slices of the call's own whose elements are of different types share no block. -/
theorem owns_apart {w : World} {b1 b2 : Nat} {e1 e2 : TypeId} {s1 s2 n1 n2 : Nat} {v1 v2 : Value} {x1 x2 : List Value} (h1 : w.ownsRow b1 e1 s1 v1 n1 x1) (h2 : w.ownsRow b2 e2 s2 v2 n2 x2) (hne : e1 ≠ e2) : v1.ownBlock = none ∨ v1.ownBlock ≠ v2.ownBlock := by
  rcases h1.2 with ⟨rfl, _⟩ | ⟨g, cap, cur, rfl, _, hh, _⟩
  · exact .inl rfl
  · right
    rcases h2.2 with ⟨rfl, _⟩ | ⟨g', cap', cur', rfl, _, hh', _⟩
    · simp [Value.ownBlock]
    · intro e
      have e' : g = g' := by simpa [Value.ownBlock] using e
      subst e'
      rw [hh] at hh'
      injection hh' with hh'
      injection hh' with _ ht
      exact hne ht
theorem owns_not {w w' : World} {base : Nat} {e : TypeId} {size n : Nat} {v u : Value} {xs : List Value} (h : w.ownsRow base e size v n xs) (hg : w.grownBy w' u.ownBlock) (hne : v.ownBlock = none ∨ v.ownBlock ≠ u.ownBlock) : w'.ownsRow base e size v n xs := h.kept hg hne

/-- k rows of the order turned round are in the list. -/
structure RowsS (w wr : World) (m : Mx) (k : Nat) (v : Value) (rv : Nat → Value) : Prop where
  top : wr.ownsRow w.heap.size 24 1 v k ((List.range k).map rv)
  row : ∀ r, r < k → wr.ownsRow w.heap.size 3 1 (rv r) m.n ((List.range m.n).map fun c => .int .i64 (m.Z c r))
  old : Below w.heap.size w wr

theorem RowsS.mat {w wr : World} {m : Mx} {v : Value} {rv : Nat → Value} (h : RowsS w wr m m.n v rv) (h0 : 0 < m.n) :
    ∃ (a : Option Addr) (l : Lay), v = .slice a m.n l.cap ∧ MatAt wr wr.heap.size a l (tr m) := by
  have hrv : ∀ r, r < m.n → ∃ y : Nat × Nat, rv r = .slice (some ⟨y.1, 0, none⟩) m.n y.2 ∧ y.1 < wr.heap.size ∧ ∀ j, j < m.n → wr.cell? ⟨y.1, j, none⟩ = some (.int .i64 (m.Z j r)) := fun r hr => by
    have ho := h.row r hr
    rcases owns_ways ho with ⟨_, h1⟩ | ⟨g, cap, h1, h2⟩
    · omega
    · exact ⟨(g, cap), h1, (ho.lt g (by rw [h1]; rfl)).2, h2⟩
  obtain ⟨y, hy⟩ := choose_lt hrv
  rcases h.top.2 with ⟨_, h1⟩ | ⟨g, cap, cur, rfl, hrest⟩
  · omega
  · refine ⟨some ⟨g, 0, none⟩, ⟨g, 0, cap, fun r => some ⟨(y r).1, 0, none⟩, fun r => (y r).2, fun r => (y r).1, fun _ => 0⟩, rfl, ⟨fun r hr => ?_, fun r hr c hc => ?_⟩⟩
    · have hr' : r < m.n := hr
      refine ⟨rfl, (h.top.lt g rfl).2, ?_⟩
      have := h.top.cellAt r (by omega)
      rw [Nat.zero_add, this]
      simp only [List.getElem?_map, List.getElem?_range hr', Option.map_some]
      rw [(hy r hr').1]
      rfl
    · have hr' : r < m.n := hr
      have hc' : c < m.n := hc
      exact ⟨rfl, (hy r hr').2.1, by
        rw [Nat.zero_add]
        exact (hy r hr').2.2 c hc'⟩

/-- What the reference's TurnedOf hands back of an order. -/
def TurnR (w : World) (m : Mx) (e : Ending) (w' : World) : Prop :=
  ∃ (a : Option Addr) (l : Lay), e = .returned (.slice a m.n l.cap) ∧ MatAt w' w'.heap.size a l (tr m) ∧ Below w.heap.size w w'

end Go.Proofs.Ytijcacibofpnpaa
