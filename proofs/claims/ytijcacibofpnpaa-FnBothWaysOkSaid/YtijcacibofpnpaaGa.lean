/- The walk of the reference's SetsOf. -/
import Derived.Test.YtijcacibofpnpaaFe
import Derived.Test.YtijcacibofpnpaaDi
namespace Go.Proofs.Ytijcacibofpnpaa
open Go.RowKit Go.Deep

/-- What a loop that makes a logic row by row keeps: the result's box, and all that was. -/
structure BoxS (w : World) (p P0 : Nat) (wr : World) : Prop where
  res : TwoAt wr p (.slice none 0 0) (.slice none 0 0)
  old : Below w.heap.size w wr
  lt : p < P0
  wp : w.heap.size ≤ p
  size : P0 < wr.heap.size
theorem BoxS.chg {w wr w' : World} {p P0 : Nat} (h : BoxS w p P0 wr) (hc : Chg (fun j => j = P0 ∨ P0 + 1 ≤ j) wr w') : BoxS w p P0 w' :=
  have h1 := h.lt
  have h2 := h.wp
  ⟨hc.two h.res (by show ¬ (_ ∨ _); omega), h.old.trans (hc.below (by have := h.size; omega) fun j hj => by have hj' : j = P0 ∨ P0 + 1 ≤ j := hj; omega), h.lt, h.wp, Nat.lt_of_lt_of_le h.size hc.size⟩
theorem BoxS.below {w wr w' : World} {p P0 : Nat} (h : BoxS w p P0 wr) (hb : Below wr.heap.size wr w') : BoxS w p P0 w' :=
  h.chg (Chg.of_below hb fun j hj hB => absurd hj (by omega))
theorem sets_bits_t {x y : Nat} (hx : x < 8) (hy : y < 8) (h : setsZ x y = 1) : (bits BinOp.and IntKind.i64 (x : Int) (y : Int) == (x : Int)) = true := by
  rw [sets_bits x hx y hy]
  unfold setsZ at h
  unfold setsB
  split at h
  · simpa using ‹_›
  · cases h
theorem sets_bits_f {x y : Nat} (hx : x < 8) (hy : y < 8) (h : setsZ x y = 0) : (bits BinOp.and IntKind.i64 (x : Int) (y : Int) == (x : Int)) = false := by
  rw [sets_bits x hx y hy]
  unfold setsZ at h
  unfold setsB
  split at h
  · cases h
  · simpa using ‹_›
theorem setsZ_ways (x y : Nat) : setsZ x y = 0 ∨ setsZ x y = 1 := by
  unfold setsZ
  split
  · exact .inr rfl
  · exact .inl rfl
/-- A row under way: the numbers told so far. -/
theorem IntsAt.told {w : World} {base : Nat} {t : Value} {k : Nat} {z : Nat → Int} (h : w.ownsRow base 3 1 t (k + 1) ((List.range k).map (fun c => .int .i64 (z c)) ++ [.int .i64 (z k)])) : IntsAt w base t (k + 1) z := by
  have := IntsAt.step h
  have e : (fun c => if c = k then z k else z c) = z := by
    funext c
    by_cases e1 : c = k
    · rw [if_pos e1, e1]
    · rw [if_neg e1]
  rw [e] at this
  exact this

theorem six_logO (w : World) : LogO (allocs w (sixOs w.heap.size)) w.heap.size (.slice (some ⟨w.heap.size + 1 + 1 + 1 + 1 + 1 + 1 + 1, 0, none⟩) 6 6) (.slice (some ⟨w.heap.size + 1 + 1 + 1 + 1 + 1 + 1 + 1 + 1, 0, none⟩) 6 6) 6 (fun r => .slice (some ⟨w.heap.size + 1 + r, 0, none⟩) 6 6) ringZ (fun c => (ringY c : Int)) := by
  have h : LogO (allocs w (sixOs w.heap.size)) w.heap.size (.slice (some ⟨w.heap.size + 1 + 1 + 1 + 1 + 1 + 1 + 1, 0, none⟩) 6 6) (.slice (some ⟨w.heap.size + 1 + 1 + 1 + 1 + 1 + 1 + 1 + 1, 0, none⟩) 6 6) 6 (fun r => .slice (some ⟨w.heap.size + 1 + r, 0, none⟩) 6 6) sixZ sixY := by
    refine ⟨by omega, by omega, ⟨?_, fun r hr => ?_, fun r s _ _ hne e => hne ?_, fun r c hr hc => ?_⟩, ?_, fun r hr e => ?_, fun c hc => ?_⟩
    · exact own_of_heap (allocs_get (sixOs w.heap.size) w 7 (six_len w 7 (by omega))) rfl rfl (by omega) (by decide)
    · have h6 : r = 0 ∨ r = 1 ∨ r = 2 ∨ r = 3 ∨ r = 4 ∨ r = 5 := by omega
      rcases h6 with rfl | rfl | rfl | rfl | rfl | rfl
      · exact own_of_heap (allocs_get (sixOs w.heap.size) w 1 (six_len w 1 (by omega))) rfl rfl (by omega) (by decide)
      · exact own_of_heap (allocs_get (sixOs w.heap.size) w 2 (six_len w 2 (by omega))) rfl rfl (by omega) (by decide)
      · exact own_of_heap (allocs_get (sixOs w.heap.size) w 3 (six_len w 3 (by omega))) rfl rfl (by omega) (by decide)
      · exact own_of_heap (allocs_get (sixOs w.heap.size) w 4 (six_len w 4 (by omega))) rfl rfl (by omega) (by decide)
      · exact own_of_heap (allocs_get (sixOs w.heap.size) w 5 (six_len w 5 (by omega))) rfl rfl (by omega) (by decide)
      · exact own_of_heap (allocs_get (sixOs w.heap.size) w 6 (six_len w 6 (by omega))) rfl rfl (by omega) (by decide)
    · have e' : w.heap.size + 1 + r = w.heap.size + 1 + s := by simpa [Value.ownBlock] using e
      omega
    · have h6 : ∀ r, r < 6 → ∀ c, c < 6 → 0 ≤ sixZ r c ∧ sixZ r c ≤ 2 := by decide
      exact h6 r hr c hc
    · exact own_of_heap (allocs_get (sixOs w.heap.size) w 8 (six_len w 8 (by omega))) rfl rfl (by omega) (by decide)
    · have e' : w.heap.size + 1 + r = w.heap.size + 1 + 1 + 1 + 1 + 1 + 1 + 1 + 1 := by simpa [Value.ownBlock] using e
      omega
    · have h6 : ∀ c, c < 6 → 0 ≤ sixY c ∧ sixY c < 6 := by decide
      exact h6 c hc
  exact h.congrZ (fun _ _ _ _ => rfl) (by decide)

end Go.Proofs.Ytijcacibofpnpaa
