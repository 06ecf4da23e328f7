/- The walk of the drawn logic of six answers in a ring. -/
import Derived.Test.YtijcacibofpnpaaDoorZDg
namespace Go.Proofs.YtijcacibofpnpaaDoor
open Go.RowKit Go.Deep

/-- Objects made one after the other. -/
def allocs (w : World) : List Obj → World
  | [] => w
  | o :: os => allocs (w.alloc o) os
theorem allocs_below : ∀ (os : List Obj) (w : World), Below w.heap.size w (allocs w os)
  | [], w => Below.refl _ w
  | o :: os, w => ((Below.refl w.heap.size w).alloc (Nat.le_refl _) o).trans ((allocs_below os (w.alloc o)).mono (by simp))
theorem allocs_get : ∀ (os : List Obj) (w : World) (i : Nat), i < os.length → (allocs w os).heap[w.heap.size + i]? = os[i]?
  | [], _, i, h => absurd h (Nat.not_lt_zero i)
  | o :: os, w, 0, _ => ((allocs_below os (w.alloc o)).block w.heap.size (by simp)).trans (World.alloc_heap_new w o)
  | o :: os, w, i + 1, h => by
    have := allocs_get os (w.alloc o) i (by simpa using h)
    rw [World.size_alloc] at this
    rw [show w.heap.size + (i + 1) = w.heap.size + 1 + i by omega]
    exact this
theorem own_of_heap {w : World} {base g n : Nat} {e : TypeId} {arr : Array Value} {xs : List Value} (h : w.heap[g]? = some (.cells arr e (0, 0))) (hn : arr.size = n) (hx : arr.toList = xs) (hb : base ≤ g) (hm : n ≤ maxLen) : w.ownsRow base e 1 (.slice (some ⟨g, 0, none⟩) n n) n xs := by
  subst hx
  refine ⟨by simp [hn], .inr ⟨g, n, arr, rfl, hb, h, Nat.le_refl _, hm, by omega, ?_⟩⟩
  rw [List.take_of_length_le (by simp [hn])]
def sixZ (r c : Nat) : Int := (([[1, 1, 1, 1, 1, 1], [0, 1, 1, 0, 0, 1], [0, 0, 1, 0, 0, 1], [0, 0, 0, 1, 1, 1], [0, 0, 0, 0, 1, 1], [0, 0, 0, 0, 0, 1]] : List (List Int))[r]?.getD [])[c]?.getD 0
def sixY (c : Nat) : Int := ([5, 4, 3, 2, 1, 0] : List Int)[c]?.getD 0
def sixOs (s : Nat) : List Obj := [
  .cells #[.slice (some ⟨s + 1 + 1 + 1 + 1 + 1 + 1 + 1, 0, none⟩) 6 6, .slice (some ⟨s + 1 + 1 + 1 + 1 + 1 + 1 + 1 + 1, 0, none⟩) 6 6] 26,
  .cells #[.int .i64 1, .int .i64 1, .int .i64 1, .int .i64 1, .int .i64 1, .int .i64 1] 3,
  .cells #[.int .i64 0, .int .i64 1, .int .i64 1, .int .i64 0, .int .i64 0, .int .i64 1] 3,
  .cells #[.int .i64 0, .int .i64 0, .int .i64 1, .int .i64 0, .int .i64 0, .int .i64 1] 3,
  .cells #[.int .i64 0, .int .i64 0, .int .i64 0, .int .i64 1, .int .i64 1, .int .i64 1] 3,
  .cells #[.int .i64 0, .int .i64 0, .int .i64 0, .int .i64 0, .int .i64 1, .int .i64 1] 3,
  .cells #[.int .i64 0, .int .i64 0, .int .i64 0, .int .i64 0, .int .i64 0, .int .i64 1] 3,
  .cells #[.slice (some ⟨s + 1, 0, none⟩) 6 6, .slice (some ⟨s + 1 + 1, 0, none⟩) 6 6, .slice (some ⟨s + 1 + 1 + 1, 0, none⟩) 6 6, .slice (some ⟨s + 1 + 1 + 1 + 1, 0, none⟩) 6 6, .slice (some ⟨s + 1 + 1 + 1 + 1 + 1, 0, none⟩) 6 6, .slice (some ⟨s + 1 + 1 + 1 + 1 + 1 + 1, 0, none⟩) 6 6] 24,
  .cells #[.int .i64 5, .int .i64 4, .int .i64 3, .int .i64 2, .int .i64 1, .int .i64 0] 3]
theorem six_len (w : World) (i : Nat) (h : i < 9) : i < (sixOs w.heap.size).length := h
theorem six_made (w : World) : MadeL 6 w (.returned (.agg #[.slice (some ⟨w.heap.size + 1 + 1 + 1 + 1 + 1 + 1 + 1, 0, none⟩) 6 6, .slice (some ⟨w.heap.size + 1 + 1 + 1 + 1 + 1 + 1 + 1 + 1, 0, none⟩) 6 6])) (allocs w (sixOs w.heap.size)) := by
  refine ⟨_, _, fun r => .slice (some ⟨w.heap.size + 1 + r, 0, none⟩) 6 6, sixZ, sixY, rfl, ⟨by omega, by omega, ⟨?_, fun r hr => ?_, fun r s _ _ hne e => hne ?_, fun r c hr hc => ?_⟩, ?_, fun r hr e => ?_, fun c hc => ?_⟩, allocs_below _ _⟩
  · exact own_of_heap (allocs_get (sixOs w.heap.size) w 7 (six_len w 7 (by omega))) rfl rfl (by omega) (by decide)
  · have h6 : r = 0 ∨ r = 1 ∨ r = 2 ∨ r = 3 ∨ r = 4 ∨ r = 5 := by omega
    rcases h6 with rfl | rfl | rfl | rfl | rfl | rfl
    · exact own_of_heap (allocs_get (sixOs w.heap.size) w 1 (six_len w 1 (by omega))) rfl rfl (by omega) (by decide)
    · exact own_of_heap (allocs_get (sixOs w.heap.size) w 2 (six_len w 2 (by omega))) rfl rfl (by omega) (by decide)
    · exact own_of_heap (allocs_get (sixOs w.heap.size) w 3 (six_len w 3 (by omega))) rfl rfl (by omega) (by decide)
    · exact own_of_heap (allocs_get (sixOs w.heap.size) w 4 (six_len w 4 (by omega))) rfl rfl (by omega) (by decide)
    · exact own_of_heap (allocs_get (sixOs w.heap.size) w 5 (six_len w 5 (by omega))) rfl rfl (by omega) (by decide)
    · exact own_of_heap (allocs_get (sixOs w.heap.size) w 6 (six_len w 6 (by omega))) rfl rfl (by omega) (by decide)
  · have e' : w.heap.size + 1 + r = w.heap.size + 1 + s := by simpa [Value.ownBlock] using e
    omega
  · have h6 : ∀ r, r < 6 → ∀ c, c < 6 → 0 ≤ sixZ r c ∧ sixZ r c ≤ 2 := by decide
    exact h6 r hr c hc
  · exact own_of_heap (allocs_get (sixOs w.heap.size) w 8 (six_len w 8 (by omega))) rfl rfl (by omega) (by decide)
  · have e' : w.heap.size + 1 + r = w.heap.size + 1 + 1 + 1 + 1 + 1 + 1 + 1 + 1 := by simpa [Value.ownBlock] using e
    omega
  · have h6 : ∀ c, c < 6 → 0 ≤ sixY c ∧ sixY c < 6 := by decide
    exact h6 c hc

set_option maxRecDepth 100000 in
set_option maxHeartbeats 1000000 in
theorem six_any (w : World) : Calls Tryd.prog 38 #[] w (MadeL 6 w) := by
  have hall := Lib.hid (six_made w)
  have hc : (allocs w (sixOs w.heap.size)).heap[w.heap.size]? = (sixOs w.heap.size)[0]? := allocs_get (sixOs w.heap.size) w 0 (six_len w 0 (by omega))
  have t0 : (allocs w (sixOs w.heap.size)).cell? ⟨w.heap.size, 0, none⟩ = some (.slice (some ⟨w.heap.size + 1 + 1 + 1 + 1 + 1 + 1 + 1, 0, none⟩) 6 6) := by simp only [World.cell?]; rw [hc]; rfl
  have t1 : (allocs w (sixOs w.heap.size)).cell? ⟨w.heap.size, 1, none⟩ = some (.slice (some ⟨w.heap.size + 1 + 1 + 1 + 1 + 1 + 1 + 1 + 1, 0, none⟩) 6 6) := by simp only [World.cell?]; rw [hc]; rfl
  clear hc
  go_enter Tryd.func38, Tryd.ntmps38
  go_wp2_with fail
  change bodyPost _ _ _ _ _ (allocs w (sixOs w.heap.size))
  generalize allocs w (sixOs w.heap.size) = W at hall t0 t1 ⊢
  exact bodyPost_ret (v := .agg #[.slice (some ⟨w.heap.size + 1 + 1 + 1 + 1 + 1 + 1 + 1, 0, none⟩) 6 6, .slice (some ⟨w.heap.size + 1 + 1 + 1 + 1 + 1 + 1 + 1 + 1, 0, none⟩) 6 6]) (by simp [results, Tryd.results38, go_sem, t0, t1]) rfl hall.out
end Go.Proofs.YtijcacibofpnpaaDoor
