/- The walk of the method that turns an order round: new rows, in memory of its own. -/
import Derived.Test.YtgjacinolenheaaWk
import Derived.Test.YtgjacinolenheaaWb
import Derived.Test.YtgjacinolenheaaMath
import Derived.StillTailTactics
namespace Go.Proofs.Ytgjacinolenheaa
open Go.RowKit Go.Deep

/-- Rows of the call's own: block b holds the rows' slices, block G r holds row r; nothing of it is frozen. -/
structure OwnMat (w : World) (b : Nat) (G : Nat → Nat) (m : Mx) : Prop where
  top : w.rowIs b 25 m.n (fun r => .slice (some ⟨G r, 0, none⟩) (m.L r) (m.L r))
  row : ∀ r, r < m.n → w.rowIs (G r) 3 (m.L r) (fun c => .int .i64 (m.Z r c))
def ownLay (b : Nat) (G : Nat → Nat) (m : Mx) : Lay := ⟨b, 0, m.n, fun r => some ⟨G r, 0, none⟩, m.L, G, fun _ => 0⟩
theorem OwnMat.mat {w : World} {b : Nat} {G : Nat → Nat} {m : Mx} (h : OwnMat w b G m) : MatAt w w.heap.size (some ⟨b, 0, none⟩) (ownLay b G m) m :=
  ⟨fun r hr => ⟨rfl, h.top.lt, by simpa [ownLay] using h.top.cell hr⟩, fun r hr c hc => ⟨rfl, (h.row r hr).lt, by simpa [ownLay] using (h.row r hr).cell hc⟩⟩

/-- The order turned round, k of its rows made. -/
structure TurnS (w wr : World) (sa : Option Addr) (cap : Nat) (m : Mx) (k : Nat) : Prop where
  old : Below w.heap.size w wr
  bx : wr.cell? ⟨w.heap.size, 0, none⟩ = some (.slice sa m.n cap)
  res : wr.cell? ⟨w.heap.size + 1, 0, none⟩ = some (.slice none 0 0)
  resf : wr.frozen? ⟨w.heap.size + 1, 0, none⟩ = false
  size : wr.heap.size = w.heap.size + 3 + k
  top : wr.rowIs (w.heap.size + 2) 25 m.n (fun r => if r < k then .slice (some ⟨w.heap.size + 3 + r, 0, none⟩) m.n m.n else .slice none 0 0)
  row : ∀ r, r < k → wr.rowIs (w.heap.size + 3 + r) 3 m.n (fun c => .int .i64 (m.Z c r))

/-- .. and row k is being filled, j of its cells. -/
structure FillS (w wr : World) (sa : Option Addr) (cap : Nat) (m : Mx) (k j : Nat) : Prop where
  old : Below w.heap.size w wr
  bx : wr.cell? ⟨w.heap.size, 0, none⟩ = some (.slice sa m.n cap)
  res : wr.cell? ⟨w.heap.size + 1, 0, none⟩ = some (.slice none 0 0)
  resf : wr.frozen? ⟨w.heap.size + 1, 0, none⟩ = false
  size : wr.heap.size = w.heap.size + 3 + k + 1
  top : wr.rowIs (w.heap.size + 2) 25 m.n (fun r => if r < k + 1 then .slice (some ⟨w.heap.size + 3 + r, 0, none⟩) m.n m.n else .slice none 0 0)
  row : ∀ r, r < k → wr.rowIs (w.heap.size + 3 + r) 3 m.n (fun c => .int .i64 (m.Z c r))
  cur : wr.rowIs (w.heap.size + 3 + k) 3 m.n (fun c => if c < j then .int .i64 (m.Z c k) else .int .i64 0)

theorem TurnS.fill {w wr : World} {sa : Option Addr} {cap : Nat} {m : Mx} {k : Nat} (h : TurnS w wr sa cap m k) :
    FillS w ((wr.alloc (.cells (madeCells #[.int .i64 0] m.n) 3)).setCell ⟨w.heap.size + 2, k, none⟩ (.slice (some ⟨w.heap.size + 3 + k, 0, none⟩) m.n m.n)) sa cap m k 0 := by
  have hs := h.size
  have hnew := World.rowIs_made wr (.int .i64 0) m.n 3
  rw [hs] at hnew
  have hcell : ∀ (p : Addr) (v u : Value), p.block < w.heap.size + 2 → wr.cell? p = some v → ((wr.alloc (.cells (madeCells #[.int .i64 0] m.n) 3)).setCell ⟨w.heap.size + 2, k, none⟩ u).cell? p = some v := fun p v u hp hv => by
    rw [World.cell?_setCell_other _ _ _ _ (fun e => by subst e; simp at hp), World.cell?_alloc_lt _ _ _ (by omega)]
    exact hv
  refine ⟨(h.old.alloc (by omega) _).setCell (by show w.heap.size ≤ w.heap.size + 2; omega) _, hcell _ _ _ (by show w.heap.size < _; omega) h.bx, hcell _ _ _ (by show w.heap.size + 1 < _; omega) h.res, ?_, by simp [hs], ((h.top.alloc _).set k _).congr (fun r _ => ?_),
    fun r hr => ((h.row r hr).alloc _).setOther (by show w.heap.size + 3 + r ≠ w.heap.size + 2; omega) _, (hnew.setOther (by show w.heap.size + 3 + k ≠ w.heap.size + 2; omega) _).congr (fun c _ => by simp)⟩
  · rw [World.frozen?_setCell, World.frozen?_alloc_old _ _ _ (by show w.heap.size + 1 ≠ wr.heap.size; omega)]
    exact h.resf
  · by_cases e : r = k
    · subst e; simp
    · rw [if_neg e]
      by_cases hlt : r < k
      · rw [if_pos hlt, if_pos (by omega)]
      · rw [if_neg hlt, if_neg (by omega)]

theorem FillS.step {w wr : World} {sa : Option Addr} {cap : Nat} {m : Mx} {k j : Nat} (h : FillS w wr sa cap m k j) :
    FillS w (wr.setCell ⟨w.heap.size + 3 + k, j, none⟩ (.int .i64 (m.Z j k))).drew sa cap m k (j + 1) := by
  have hcell : ∀ (p : Addr) (v u : Value), p.block < w.heap.size + 2 → wr.cell? p = some v → (wr.setCell ⟨w.heap.size + 3 + k, j, none⟩ u).cell? p = some v := fun p v u hp hv => by
    rw [World.cell?_setCell_other _ _ _ _ (fun e => by subst e; simp at hp; omega)]
    exact hv
  refine ⟨(h.old.setCell (by show w.heap.size ≤ w.heap.size + 3 + k; omega) _).drew, hcell _ _ _ (by show w.heap.size < _; omega) h.bx, hcell _ _ _ (by show w.heap.size + 1 < _; omega) h.res, ?_, by simp [h.size], (h.top.setOther (by show w.heap.size + 2 ≠ w.heap.size + 3 + k; omega) _).drew,
    fun r hr => ((h.row r hr).setOther (by show w.heap.size + 3 + r ≠ w.heap.size + 3 + k; omega) _).drew, ((h.cur.set j _).congr (fun c _ => ?_)).drew⟩
  · show (wr.setCell _ _).frozen? _ = false
    rw [World.frozen?_setCell]
    exact h.resf
  · by_cases e : c = j
    · subst e; simp
    · rw [if_neg e]
      by_cases hlt : c < j
      · rw [if_pos hlt, if_pos (by omega)]
      · rw [if_neg hlt, if_neg (by omega)]
theorem FillS.done {w wr : World} {sa : Option Addr} {cap : Nat} {m : Mx} {k : Nat} (h : FillS w wr sa cap m k m.n) : TurnS w wr sa cap m (k + 1) :=
  ⟨h.old, h.bx, h.res, h.resf, by rw [h.size]; omega, h.top, fun r hr => by
    by_cases e : r = k
    · subst e
      exact h.cur.congr (fun c hc => by rw [if_pos hc])
    · exact h.row r (by omega)⟩

set_option maxRecDepth 100000 in
set_option maxHeartbeats 2000000 in
theorem turned_sq {B : Nat} {sa : Option Addr} {l : Lay} {m : Mx} {w : World} (h : SqAt w B sa l m) :
    Calls Try.prog 88 #[.agg #[.slice sa m.n l.cap]] w fun e w' => e = .returned (.agg #[.slice (some ⟨w.heap.size + 2, 0, none⟩) m.n m.n]) ∧ Below w.heap.size w w' ∧ OwnMat w' (w.heap.size + 2) (fun r => w.heap.size + 3 + r) (tr m) := by
  have hn := h.hi
  have hmk1 := run_make_row' (P := Try.prog) 24 25 (.slice none 0 0) 24 Try.underlying24 infoInts rfl .i64 .i64 m.n (by omega) (by omega)
  go_enter Try.func88, Try.ntmps88
  go_wp2_with fail
  clear hmk1
  go_loopw [12] (fun i wr => ∃ k : Nat, k ≤ m.n ∧ i = .int .i64 k ∧ TurnS w wr sa l.cap m k) (fun i _ => m.n - (intOf i).toNat)
  case atStart =>
    have b0 := ((Boxed.new w 62 (.slice sa m.n l.cap)).alloc (.cells #[.slice none 0 0] 62)).alloc (.cells (madeCells #[.slice none 0 0] m.n) 25)
    have b1 := (Boxed.new (w.alloc (.cells #[.slice sa m.n l.cap] 62)) 62 (.slice none 0 0)).alloc (.cells (madeCells #[.slice none 0 0] m.n) 25)
    have b2 := World.rowIs_made ((w.alloc (.cells #[.slice sa m.n l.cap] 62)).alloc (.cells #[.slice none 0 0] 62)) (.slice none 0 0) m.n 25
    rw [World.size_alloc] at b1
    rw [World.size_alloc, World.size_alloc] at b2
    exact ⟨0, Nat.zero_le _, rfl, (((Below.refl _ w).alloc (Nat.le_refl _) _).alloc (by simp) _).alloc (by simp; omega) _, b0.cell, b1.cell, b1.frozen, by simp, b2.congr (fun i _ => by simp), fun r hr => absurd hr (Nat.not_lt_zero _)⟩
  case round =>
    obtain ⟨k, hk, rfl, hT⟩ := hrel
    by_cases hlt : k < m.n
    · have hlt' : (k : Int) < m.n := by omega
      have hsize := hT.size
      have hmk2 := run_make_row' (P := Try.prog) 25 3 (.int .i64 0) 8 Try.underlying25 infoInt rfl .i64 .i64 m.n (by omega) (by omega)
      have hbx := hT.bx
      have hst1 : ∀ o, (wr.alloc o).cell? ⟨w.heap.size + 2, k, none⟩ = some (.slice none 0 0) := fun o => by simpa using (hT.top.alloc o).cell hlt
      have hst2 : ∀ o, (wr.alloc o).frozen? ⟨w.heap.size + 2, k, none⟩ = false := fun o => (hT.top.alloc o).frozen k
      have hF := hT.fill
      have hg := hF.top.cell hlt
      rw [if_pos (by omega)] at hg
      go_wp2_with fail
      clear hmk2 hbx hst1 hst2 hg hsize
      go_loopw [27] (fun i wi => ∃ j : Nat, j ≤ m.n ∧ i = .int .i64 j ∧ FillS w wi sa l.cap m k j) (fun i _ => m.n - (intOf i).toNat)
      case atStart => exact ⟨0, Nat.zero_le _, rfl, hF⟩
      case round =>
        clear hF hT
        obtain ⟨j, hj, rfl, hF⟩ := hrel
        by_cases hjt : j < m.n
        · have hjt' : (j : Int) < m.n := by omega
          have hM := h.mat.below (hF.old.mono h.hB)
          obtain ⟨rfl, g2, g3⟩ := hM.sq h.sq hjt hlt
          have g0 := hF.bx
          have g1 := hF.top.cell hlt
          rw [if_pos (by omega)] at g1
          have g4 := hF.cur.cell hjt
          rw [if_neg (by omega)] at g4
          have g5 := hF.cur.frozen j
          have HS := Lib.hid h
          clear hM h
          go_wp2_with fail
          go_region
          all_goals
            go_wp2_with fail
            go_roundw
            case rel => exact ⟨j + 1, by omega, by go_num, hF.step⟩
            case measure => simp [intOf]; omega
        · have hjt' : ¬ (j : Int) < m.n := by omega
          have hjn : j = m.n := by omega
          have HF : Hid (TurnS w wr sa l.cap m (k + 1)) := by
            rw [hjn] at hF
            exact hF.done
          clear hjn hF
          go_wp2_with fail
          go_roundw
          case rel => exact ⟨k + 1, by omega, by go_num, HF.out⟩
          case measure => simp [intOf]; omega
    · have hlt' : ¬ (k : Int) < m.n := by omega
      have hkn : k = m.n := by omega
      have g1 := hT.res
      have g2 := hT.resf
      have hT' : Hid (TurnS w wr sa l.cap m m.n) := by rw [hkn] at hT; exact hT
      clear hkn hT
      go_wp2_with fail
      refine bodyPost_ret (v := .agg #[.slice (some ⟨w.heap.size + 2, 0, none⟩) m.n m.n]) (by simp [results, Try.results88, go_sem, g1]) rfl ⟨rfl, hT'.out.old.setCell (by show w.heap.size ≤ w.heap.size + 1; omega) _, ?_, ?_⟩
      · exact (hT'.out.top.setOther (by show w.heap.size + 2 ≠ w.heap.size + 1; omega) _).congr (fun r hr => by rw [if_pos (show r < m.n from hr)]; rfl)
      · exact fun r hr => (hT'.out.row r hr).setOther (by show w.heap.size + 3 + r ≠ w.heap.size + 1; omega) _
end Go.Proofs.Ytgjacinolenheaa
