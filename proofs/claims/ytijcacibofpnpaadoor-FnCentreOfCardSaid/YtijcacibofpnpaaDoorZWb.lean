/- The walks of the laws' helpers: how large an argument is, its copy, whether two are equal. -/
import Derived.Test.YtijcacibofpnpaaDoorZWa
namespace Go.Proofs.YtijcacibofpnpaaDoor
open Go.RowKit Go.Deep

theorem infoInt : (Tryd.prog.info? 3).map (fun i => (i.zero, i.size, i.bytes)) = some (some (.int .i64 0), 1, 8) := by kernel_rfl
theorem infoInts : (Tryd.prog.info? 24).map (fun i => (i.zero, i.size, i.bytes)) = some (some (.slice none 0 0), 1, 24) := by kernel_rfl

/-- The copy of a row, k of its cells filled. -/
structure CopyS (w wr : World) (n k : Nat) (z : Nat → Int) : Prop where
  old : Below w.heap.size w wr
  size : wr.heap.size = w.heap.size + 1
  row : wr.rowIs w.heap.size 3 n (fun i => if i < k then .int .i64 (z i) else .int .i64 0)

/-- The copy of rows, k of them made: the outer block, then one block a row. -/
structure OutS (w wr : World) (m : Mx) (k : Nat) : Prop where
  old : Below w.heap.size w wr
  size : wr.heap.size = w.heap.size + 1 + k
  top : wr.rowIs w.heap.size 24 m.n (fun r => if r < k then .slice (some ⟨w.heap.size + 1 + r, 0, none⟩) (m.L r) (m.L r) else .slice none 0 0)
  row : ∀ r, r < k → wr.rowIs (w.heap.size + 1 + r) 3 (m.L r) (fun c => .int .i64 (m.Z r c))

/-- Where a copy lies. -/
def freshLay (N : Nat) (m : Mx) : Lay := ⟨N, 0, m.n, fun r => some ⟨N + 1 + r, 0, none⟩, m.L, fun r => N + 1 + r, fun _ => 0⟩

theorem OutS.mat {w wr : World} {m : Mx} (h : OutS w wr m m.n) : MatAt wr wr.heap.size (some ⟨w.heap.size, 0, none⟩) (freshLay w.heap.size m) m :=
  ⟨fun r hr => ⟨rfl, by have := h.size; show w.heap.size < _; omega, by
      have := h.top.cell hr
      rw [if_pos hr] at this
      simpa [freshLay] using this⟩,
   fun r hr c hc => ⟨rfl, by have := h.size; show w.heap.size + 1 + r < _; omega, by simpa [freshLay] using (h.row r hr).cell hc⟩⟩

theorem OutS.step {w wr w1 : World} {m : Mx} {k : Nat} (h : OutS w wr m k) (hC : CopyS wr w1 (m.L k) (m.L k) (m.Z k)) (hk : k < m.n) :
    OutS w (w1.setCell ⟨w.heap.size, k, none⟩ (.slice (some ⟨wr.heap.size, 0, none⟩) (m.L k) (m.L k))) m (k + 1) := by
  have hs := h.size
  have hN : w.heap.size < wr.heap.size := by omega
  have htop : w1.rowIs w.heap.size 24 m.n (fun r => if r < k then .slice (some ⟨w.heap.size + 1 + r, 0, none⟩) (m.L r) (m.L r) else .slice none 0 0) := h.top.of_block (hC.old.block _ hN)
  refine ⟨(h.old.trans (hC.old.mono (by omega))).setCell (Nat.le_refl _) _, by simp [hC.size, hs]; omega, (htop.set k _).congr (fun r _ => ?_), fun r hr => ?_⟩
  · by_cases e : r = k
    · subst e; rw [if_pos rfl, if_pos (by omega), hs]
    · rw [if_neg e]
      by_cases hi : r < k
      · rw [if_pos hi, if_pos (by omega)]
      · rw [if_neg hi, if_neg (by omega)]
  · by_cases e : r = k
    · subst e
      have := hC.row
      rw [hs] at this
      exact (this.setOther (by show w.heap.size + 1 + r ≠ w.heap.size; omega) _).congr (fun c hc => by rw [if_pos hc])
    · exact ((h.row r (by omega)).of_block (hC.old.block _ (by omega))).setOther (by show w.heap.size + 1 + r ≠ w.heap.size; omega) _

end Go.Proofs.YtijcacibofpnpaaDoor
