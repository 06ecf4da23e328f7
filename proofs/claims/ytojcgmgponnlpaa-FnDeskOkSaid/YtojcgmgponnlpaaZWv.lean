import Derived.Test.YtojcgmgponnlpaaZWd
import Derived.Test.YtojcgmgponnlpaaZWm
import Derived.Test.YtojcgmgponnlpaaZWc
import Derived.Test.YtojcgmgponnlpaaZMath
import Derived.StillTailTactics
import Derived.KernelRfl
import Derived.Maps.AppendAt
import Derived.Deep.Matrix
namespace Go.Proofs.Ytojcgmgponnlpaa
open Go.RowKit Go.Deep

set_option maxRecDepth 100000 in
set_option maxHeartbeats 1000000 in
theorem orderWith_no {B : Nat} {sa ta : Option Addr} {k tc : Nat} {l : Lay} {m : Mx} {w : World} (hn : m.n ≤ 9223372036854775807) (hL : ∀ r, r < m.n → m.L r ≤ 9223372036854775807) (h : MatAt w B sa l m) (hB : B ≤ w.heap.size) (ho : orderB m = false) :
    Calls Try.prog 88 #[.slice sa m.n l.cap, .slice ta k tc] w fun e w' => e = .returned (.tuple #[.agg #[.slice none 0 0], .bool false]) ∧ Below w.heap.size w w' := by
  have hX := Boxd.start w (.slice none 0 0) 76
  have h1 := h.alloc hB (.cells #[.slice none 0 0] 76)
  have HO := Lib.hid ho
  clear ho h
  go_enter Try.func88, Try.ntmps88
  go_wp2_with fail
  go_at_call 29
  refine (OrderOk_any hn hL h1 (by simp; omega)).mono ?_
  rintro e w1 ⟨rfl, hw1⟩
  rw [HO.out]
  have hX1 := hX.step hw1
  have c1 := hX1.cell
  have f1 := hX1.frozen
  have hb := hX1.below
  go_wp2_with fail
  exact bodyPost_ret (v := .tuple #[.agg #[.slice none 0 0], .bool false]) (by simp [results, Try.results88, go_sem, c1]) rfl ⟨rfl, hb.setCell (p := ⟨w.heap.size, 0, none⟩) (Nat.le_refl _) _⟩

/-- What orderWith hands back: the order, and true; or the zero value, and false. -/
def WithRes (sa : Option Addr) (n cap : Nat) (g : Bool) (e : Ending) : Prop :=
  (g = true ∧ e = .returned (.tuple #[.agg #[.slice sa n cap], .bool true])) ∨ (g = false ∧ e = .returned (.tuple #[.agg #[.slice none 0 0], .bool false]))

set_option maxRecDepth 100000 in
set_option maxHeartbeats 1000000 in
theorem orderWith_ok {B : Nat} {sa ta : Option Addr} {g o k tc : Nat} {z : Nat → Int} {l : Lay} {m : Mx} {w : World} (hn : m.n ≤ 9223372036854775807) (hL : ∀ r, r < m.n → m.L r ≤ 9223372036854775807) (h : MatAt w B sa l m) (hB : B ≤ w.heap.size)
    (hk : k ≤ 1000) (ht : RowAt w B ta g o k z) (ho : orderB m = true) :
    Calls Try.prog 88 #[.slice sa m.n l.cap, .slice ta k tc] w fun e w' =>
      WithRes sa m.n l.cap (goodB m.n k z) e ∧ Below w.heap.size w w' := by
  have hX := Boxd.start w (.slice none 0 0) 76
  have h1 := h.alloc hB (.cells #[.slice none 0 0] 76)
  have HO := Lib.hid ho
  clear ho h
  go_enter Try.func88, Try.ntmps88
  go_wp2_with fail
  go_at_call 29
  refine (OrderOk_any hn hL h1 (by simp; omega)).mono ?_
  rintro e w1 ⟨rfl, hw1⟩
  rw [HO.out]
  have hX1 := hX.step hw1
  have c1 := hX1.cell
  have f1 := hX1.frozen
  have hb := hX1.below
  have ht1 := ht.below (hb.mono hB)
  go_wp2_with fail
  go_loop [14] (fun i => ∃ j : Nat, j ≤ k ∧ i = .int .i64 j ∧ (∀ x, x < j → (decide (0 ≤ z x) && decide (z x < (m.n : Int))) = true)) (fun i => k - (intOf i).toNat)
  case atStart => exact ⟨0, Nat.zero_le _, rfl, fun r hr => absurd hr (Nat.not_lt_zero _)⟩
  case round =>
    obtain ⟨j, hj, rfl, hR0⟩ := hrel
    have hR := Lib.hid hR0
    clear hR0
    by_cases hlt : j < k
    · have hlt' : (j : Int) < k := by omega
      obtain ⟨rfl, _, ct⟩ := ht1.row j hlt
      by_cases z0 : z j < 0
      · have HG : Hid (goodB m.n k z = false) := allB_false hlt (by simp; omega)
        go_wp2_with fail
        exact bodyPost_ret (v := .tuple #[.agg #[.slice none 0 0], .bool false]) (by simp [results, Try.results88, go_sem, c1]) rfl ⟨.inr ⟨HG.out, rfl⟩, hb.setCell (p := ⟨w.heap.size, 0, none⟩) (Nat.le_refl _) _⟩
      · by_cases z1 : (m.n : Int) ≤ z j
        · have HG : Hid (goodB m.n k z = false) := allB_false hlt (by simp; omega)
          go_wp2_with fail
          exact bodyPost_ret (v := .tuple #[.agg #[.slice none 0 0], .bool false]) (by simp [results, Try.results88, go_sem, c1]) rfl ⟨.inr ⟨HG.out, rfl⟩, hb.setCell (p := ⟨w.heap.size, 0, none⟩) (Nat.le_refl _) _⟩
        · have HZ : Hid ((decide (0 ≤ z j) && decide (z j < (m.n : Int))) = true) := by show _ = _; simp; omega
          go_wp2_with fail
          go_round
          case rel => exact ⟨j + 1, by omega, by go_num, fun x hx => by
            by_cases e : x = j
            · subst e; exact HZ.out
            · exact hR.out x (by omega)⟩
          case measure => simp [intOf]; omega
    · have hlt' : ¬ (j : Int) < k := by omega
      have HG : Hid (goodB m.n k z = true) := allB_true fun x hx => hR.out x (by omega)
      go_wp2_with fail
      exact bodyPost_ret (v := .tuple #[.agg #[.slice sa m.n l.cap], .bool true]) (by simp [results, Try.results88, go_sem, c1]) rfl ⟨.inl ⟨HG.out, rfl⟩, hb.setCell (p := ⟨w.heap.size, 0, none⟩) (Nat.le_refl _) _⟩
end Go.Proofs.Ytojcgmgponnlpaa
namespace Go.Proofs.Ytojcgmgponnlpaa
open Go.RowKit Go.Deep

end Go.Proofs.Ytojcgmgponnlpaa
namespace Go.Proofs.Ytojcgmgponnlpaa
open Go.RowKit Go.Deep

theorem ret_two {a b : Int} {x y : Bool} (h : a = b) (k : x = y) : Ending.returned (.tuple #[.int .i64 a, .bool x]) = .returned (.tuple #[.int .i64 b, .bool y]) := by rw [h, k]

end Go.Proofs.Ytojcgmgponnlpaa
namespace Go.Proofs.Ytojcgmgponnlpaa
open Go.RowKit Go.Deep


set_option maxRecDepth 100000 in
set_option maxHeartbeats 1000000 in
theorem spec_LeastOf {B : Nat} {sa : Option Addr} {l : Lay} {m : Mx} {w : World} (hn : m.n ≤ 9223372036854775807) (hL : ∀ r, r < m.n → m.L r ≤ 9223372036854775807) (h : MatAt w B sa l m) :
    Calls Try.prog 57 #[.slice sa m.n l.cap] w fun e w' => e = .returned (.tuple #[.int .i64 (leastV m), .bool (hasI (leastV m))]) ∧ w = w' := by
  have HL := Lib.hid hL
  clear hL
  cases ho : orderB m with
  | false =>
    have HR : Hid (-1 = leastV m) := (leastV_no ho).symm
    have HO := Lib.hid ho
    clear ho
    go_enter Try.func57, Try.ntmps57
    go_wp2_with fail
    go_loop [4] (fun i => i = .int .i64 0) (fun _ => 0)
    case atStart => exact rfl
    case round =>
      obtain rfl := hrel
      by_cases h0 : 0 < m.n
      · have h0' : (0 : Int) < m.n := by omega
        go_wp2_with fail
        go_at_call 93
        refine (spec_OrderOk B sa l m _ hn HL.out h).mono ?_
        rintro e w1 ⟨rfl, rfl⟩
        rw [HO.out]
        go_wp2_with fail
        go_ret2
        exact ⟨ret_two HR.out (by rw [← HR.out]; rfl), rfl⟩
      · have h0' : ¬ (0 : Int) < m.n := by omega
        go_wp2_with fail
        go_ret2
        exact ⟨ret_two HR.out (by rw [← HR.out]; rfl), rfl⟩
  | true =>
    have hord := orderB_is ho
    have hhi := hord.top
    have hs := Lib.hid hord.sq
    have HV : Hid (leastI m = leastV m) := (leastV_yes ho).symm
    have HO := Lib.hid ho
    clear ho hord
    go_enter Try.func57, Try.ntmps57
    go_wp2_with fail
    go_loop [4] (fun i => ∃ k : Nat, k ≤ m.n ∧ i = .int .i64 k ∧ Hid (∀ c, c < k → belowAllB m c = false)) (fun i => m.n - (intOf i).toNat)
    case atStart => exact ⟨0, Nat.zero_le _, rfl, fun r hr => absurd hr (Nat.not_lt_zero _)⟩
    case round =>
      obtain ⟨k, hk, rfl, hR⟩ := hrel
      by_cases hlt : k < m.n
      · have hlt' : (k : Int) < m.n := by omega
        go_wp2_with fail
        go_at_call 93
        refine (spec_OrderOk B sa l m _ hn HL.out h).mono ?_
        rintro e w1 ⟨rfl, rfl⟩
        rw [HO.out]
        go_wp2_with fail
        go_loop [5, 6] (fun t i => ∃ (j : Nat) (q : Bool), j ≤ m.n ∧ i = .int .i64 j ∧ t = .bool q ∧ Hid (q = true ↔ ∀ c, c < j → leB m k c = true)) (fun _ i => m.n - (intOf i).toNat)
        case atStart => exact ⟨0, true, Nat.zero_le _, rfl, rfl, ⟨fun _ r hr => absurd hr (Nat.not_lt_zero _), fun _ => rfl⟩⟩
        case round =>
          obtain ⟨j, q, hj, rfl, rfl, hQ⟩ := hrel
          by_cases hjt : j < m.n
          · have hjt' : (j : Int) < m.n := by omega
            obtain ⟨rfl, t1, t2⟩ := h.sq hs.out hlt hjt
            have H0 := Lib.hid h
            clear h
            cases q with
            | false =>
              go_wp2_with fail
              go_round
              case rel => exact ⟨j + 1, false, by omega, by go_num, rfl, ⟨fun e => (by cases e), fun hh => hQ.out.2 fun c hc => hh c (by omega)⟩⟩
              case measure => simp [intOf]; omega
            | true =>
              rcases leB_cases hs.out hlt hjt with ⟨lb, zb⟩ | ⟨lb, zb⟩
              · rw [zb] at t2
                have LB := Lib.hid lb
                clear lb zb
                go_wp2_with fail
                go_round
                case rel => exact ⟨j + 1, true, by omega, by go_num, rfl, ⟨fun _ c hc => by
                  by_cases e : c = j
                  · subst e; exact LB.out
                  · exact hQ.out.1 rfl c (by omega), fun _ => rfl⟩⟩
                case measure => simp [intOf]; omega
              · rw [zb] at t2
                have LB := Lib.hid lb
                clear lb zb
                go_wp2_with fail
                go_round
                case rel => exact ⟨j + 1, false, by omega, by go_num, rfl, ⟨fun e => (by cases e), fun hh => by have := hh j (by omega); rw [LB.out] at this; cases this⟩⟩
                case measure => simp [intOf]; omega
          · have hjt' : ¬ (j : Int) < m.n := by omega
            cases q with
            | false =>
              have HF : Hid (belowAllB m k = false) := by
                show _ = _
                cases hb : belowAllB m k with
                | false => rfl
                | true => exact (hQ.out.2 fun c hc => allB_is hb c (by omega)).symm
              go_wp2_with fail
              go_round
              case rel => exact ⟨k + 1, by omega, by go_num, fun c hc => by
                by_cases e : c = k
                · subst e; exact HF.out
                · exact hR.out c (by omega)⟩
              case measure => simp [intOf]; omega
            | true =>
              have HH : Hid (leastI m = (k : Int)) := firstI_hit hlt hR.out (allB_true fun c hc => hQ.out.1 rfl c (by omega))
              go_wp2_with fail
              go_ret2
              exact ⟨ret_two (HH.out.symm.trans HV.out) (by rw [← HV.out, HH.out, hasI_nat]), rfl⟩
      · have hlt' : ¬ (k : Int) < m.n := by omega
        have HH : Hid (leastI m = -1) := firstI_none fun c hc => hR.out c (by omega)
        go_wp2_with fail
        go_ret2
        exact ⟨ret_two (HH.out.symm.trans HV.out) (by rw [← HV.out, HH.out]; rfl), rfl⟩
end Go.Proofs.Ytojcgmgponnlpaa
namespace Go.Proofs.Ytojcgmgponnlpaa
open Go.RowKit Go.Deep

/-- Rows of the call's own: block b holds the rows' slices, block G r holds row r; nothing of it is frozen. -/
structure OwnMat (w : World) (b : Nat) (G : Nat → Nat) (m : Mx) : Prop where
  top : w.rowIs b 24 m.n (fun r => .slice (some ⟨G r, 0, none⟩) (m.L r) (m.L r))
  row : ∀ r, r < m.n → w.rowIs (G r) 3 (m.L r) (fun c => .int .i64 (m.Z r c))
def ownLay (b : Nat) (G : Nat → Nat) (m : Mx) : Lay := ⟨b, 0, m.n, fun r => some ⟨G r, 0, none⟩, m.L, G, fun _ => 0⟩
theorem OwnMat.mat {w : World} {b : Nat} {G : Nat → Nat} {m : Mx} (h : OwnMat w b G m) : MatAt w w.heap.size (some ⟨b, 0, none⟩) (ownLay b G m) m :=
  ⟨fun r hr => ⟨rfl, h.top.lt, by simpa [ownLay] using h.top.cell hr⟩, fun r hr c hc => ⟨rfl, (h.row r hr).lt, by simpa [ownLay] using (h.row r hr).cell hc⟩⟩

/-- The order turned round, k of its rows made. -/
structure TurnS (w wr : World) (sa : Option Addr) (cap : Nat) (m : Mx) (k : Nat) : Prop where
  old : Below w.heap.size w wr
  bx : wr.cell? ⟨w.heap.size, 0, none⟩ = some (.slice sa m.n cap)
  res : wr.cell? ⟨w.heap.size + 1, 0, none⟩ = some (.slice none 0 0)
  resf : wr.frozen? ⟨w.heap.size + 1, 0, none⟩ = false
  size : wr.heap.size = w.heap.size + 3 + k
  top : wr.rowIs (w.heap.size + 2) 24 m.n (fun r => if r < k then .slice (some ⟨w.heap.size + 3 + r, 0, none⟩) m.n m.n else .slice none 0 0)
  row : ∀ r, r < k → wr.rowIs (w.heap.size + 3 + r) 3 m.n (fun c => .int .i64 (m.Z c r))

/-- .. and row k is being filled, j of its cells. -/
structure FillS (w wr : World) (sa : Option Addr) (cap : Nat) (m : Mx) (k j : Nat) : Prop where
  old : Below w.heap.size w wr
  bx : wr.cell? ⟨w.heap.size, 0, none⟩ = some (.slice sa m.n cap)
  res : wr.cell? ⟨w.heap.size + 1, 0, none⟩ = some (.slice none 0 0)
  resf : wr.frozen? ⟨w.heap.size + 1, 0, none⟩ = false
  size : wr.heap.size = w.heap.size + 3 + k + 1
  top : wr.rowIs (w.heap.size + 2) 24 m.n (fun r => if r < k + 1 then .slice (some ⟨w.heap.size + 3 + r, 0, none⟩) m.n m.n else .slice none 0 0)
  row : ∀ r, r < k → wr.rowIs (w.heap.size + 3 + r) 3 m.n (fun c => .int .i64 (m.Z c r))
  cur : wr.rowIs (w.heap.size + 3 + k) 3 m.n (fun c => if c < j then .int .i64 (m.Z c k) else .int .i64 0)

theorem TurnS.fill {w wr : World} {sa : Option Addr} {cap : Nat} {m : Mx} {k : Nat} (h : TurnS w wr sa cap m k) :
    FillS w ((wr.alloc (.cells (madeCells #[.int .i64 0] m.n) 3)).setCell ⟨w.heap.size + 2, k, none⟩ (.slice (some ⟨w.heap.size + 3 + k, 0, none⟩) m.n m.n)) sa cap m k 0 := by
  have hs := h.size
  have hnew := World.rowIs_made wr (.int .i64 0) m.n 3
  rw [hs] at hnew
  have hcell : ∀ (p : Addr) (v u : Value), p.block < w.heap.size + 2 → wr.cell? p = some v → ((wr.alloc (.cells (madeCells #[.int .i64 0] m.n) 3)).setCell ⟨w.heap.size + 2, k, none⟩ u).cell? p = some v := fun p v u hp hv => by
    rw [World.cell?_setCell_other _ _ _ _ (fun e => by subst e; simp at hp), World.cell?_alloc_lt _ _ _ (by omega)]
    exact hv
  refine ⟨(h.old.alloc (by omega) _).setCell (by show w.heap.size ≤ w.heap.size + 2; omega) _, hcell _ _ _ (by show w.heap.size < _; omega) h.bx, hcell _ _ _ (by show w.heap.size + 1 < _; omega) h.res, ?_, by simp [hs], ((h.top.alloc _).set k _).congr (fun r _ => ?_),
    fun r hr => ((h.row r hr).alloc _).setOther (by show w.heap.size + 3 + r ≠ w.heap.size + 2; omega) _, (hnew.setOther (by show w.heap.size + 3 + k ≠ w.heap.size + 2; omega) _).congr (fun c _ => by simp)⟩
  · rw [World.frozen?_setCell, World.frozen?_alloc_old _ _ _ (by show w.heap.size + 1 ≠ wr.heap.size; omega)]
    exact h.resf
  · by_cases e : r = k
    · subst e; simp
    · rw [if_neg e]
      by_cases hlt : r < k
      · rw [if_pos hlt, if_pos (by omega)]
      · rw [if_neg hlt, if_neg (by omega)]

theorem FillS.step {w wr : World} {sa : Option Addr} {cap : Nat} {m : Mx} {k j : Nat} (h : FillS w wr sa cap m k j) :
    FillS w (wr.setCell ⟨w.heap.size + 3 + k, j, none⟩ (.int .i64 (m.Z j k))).drew sa cap m k (j + 1) := by
  have hcell : ∀ (p : Addr) (v u : Value), p.block < w.heap.size + 2 → wr.cell? p = some v → (wr.setCell ⟨w.heap.size + 3 + k, j, none⟩ u).cell? p = some v := fun p v u hp hv => by
    rw [World.cell?_setCell_other _ _ _ _ (fun e => by subst e; simp at hp; omega)]
    exact hv
  refine ⟨(h.old.setCell (by show w.heap.size ≤ w.heap.size + 3 + k; omega) _).drew, hcell _ _ _ (by show w.heap.size < _; omega) h.bx, hcell _ _ _ (by show w.heap.size + 1 < _; omega) h.res, ?_, by simp [h.size], (h.top.setOther (by show w.heap.size + 2 ≠ w.heap.size + 3 + k; omega) _).drew,
    fun r hr => ((h.row r hr).setOther (by show w.heap.size + 3 + r ≠ w.heap.size + 3 + k; omega) _).drew, ((h.cur.set j _).congr (fun c _ => ?_)).drew⟩
  · show (wr.setCell _ _).frozen? _ = false
    rw [World.frozen?_setCell]
    exact h.resf
  · by_cases e : c = j
    · subst e; simp
    · rw [if_neg e]
      by_cases hlt : c < j
      · rw [if_pos hlt, if_pos (by omega)]
      · rw [if_neg hlt, if_neg (by omega)]
theorem FillS.done {w wr : World} {sa : Option Addr} {cap : Nat} {m : Mx} {k : Nat} (h : FillS w wr sa cap m k m.n) : TurnS w wr sa cap m (k + 1) :=
  ⟨h.old, h.bx, h.res, h.resf, by rw [h.size]; omega, h.top, fun r hr => by
    by_cases e : r = k
    · subst e
      exact h.cur.congr (fun c hc => by rw [if_pos hc])
    · exact h.row r (by omega)⟩

set_option maxRecDepth 100000 in
set_option maxHeartbeats 2000000 in
theorem turned_sq {B : Nat} {sa : Option Addr} {l : Lay} {m : Mx} {w : World} (h : SqAt w B sa l m) :
    Calls Try.prog 89 #[.agg #[.slice sa m.n l.cap]] w fun e w' => e = .returned (.agg #[.slice (some ⟨w.heap.size + 2, 0, none⟩) m.n m.n]) ∧ Below w.heap.size w w' ∧ OwnMat w' (w.heap.size + 2) (fun r => w.heap.size + 3 + r) (tr m) := by
  have hn := h.hi
  have hmk1 := run_make_row' (P := Try.prog) 23 24 (.slice none 0 0) 24 Try.underlying23 infoInts rfl .i64 .i64 m.n (by omega) (by omega)
  go_enter Try.func89, Try.ntmps89
  go_wp2_with fail
  clear hmk1
  go_loopw [12] (fun i wr => ∃ k : Nat, k ≤ m.n ∧ i = .int .i64 k ∧ TurnS w wr sa l.cap m k) (fun i _ => m.n - (intOf i).toNat)
  case atStart =>
    have b0 := ((Boxed.new w 76 (.slice sa m.n l.cap)).alloc (.cells #[.slice none 0 0] 76)).alloc (.cells (madeCells #[.slice none 0 0] m.n) 24)
    have b1 := (Boxed.new (w.alloc (.cells #[.slice sa m.n l.cap] 76)) 76 (.slice none 0 0)).alloc (.cells (madeCells #[.slice none 0 0] m.n) 24)
    have b2 := World.rowIs_made ((w.alloc (.cells #[.slice sa m.n l.cap] 76)).alloc (.cells #[.slice none 0 0] 76)) (.slice none 0 0) m.n 24
    rw [World.size_alloc] at b1
    rw [World.size_alloc, World.size_alloc] at b2
    exact ⟨0, Nat.zero_le _, rfl, (((Below.refl _ w).alloc (Nat.le_refl _) _).alloc (by simp) _).alloc (by simp; omega) _, b0.cell, b1.cell, b1.frozen, by simp, b2.congr (fun i _ => by simp), fun r hr => absurd hr (Nat.not_lt_zero _)⟩
  case round =>
    obtain ⟨k, hk, rfl, hT⟩ := hrel
    by_cases hlt : k < m.n
    · have hlt' : (k : Int) < m.n := by omega
      have hsize := hT.size
      have hmk2 := run_make_row' (P := Try.prog) 24 3 (.int .i64 0) 8 Try.underlying24 infoInt rfl .i64 .i64 m.n (by omega) (by omega)
      have hbx := hT.bx
      have hst1 : ∀ o, (wr.alloc o).cell? ⟨w.heap.size + 2, k, none⟩ = some (.slice none 0 0) := fun o => by simpa using (hT.top.alloc o).cell hlt
      have hst2 : ∀ o, (wr.alloc o).frozen? ⟨w.heap.size + 2, k, none⟩ = false := fun o => (hT.top.alloc o).frozen k
      have hF := hT.fill
      have hg := hF.top.cell hlt
      rw [if_pos (by omega)] at hg
      go_wp2_with fail
      clear hmk2 hbx hst1 hst2 hg hsize
      go_loopw [27] (fun i wi => ∃ j : Nat, j ≤ m.n ∧ i = .int .i64 j ∧ FillS w wi sa l.cap m k j) (fun i _ => m.n - (intOf i).toNat)
      case atStart => exact ⟨0, Nat.zero_le _, rfl, hF⟩
      case round =>
        clear hF hT
        obtain ⟨j, hj, rfl, hF⟩ := hrel
        by_cases hjt : j < m.n
        · have hjt' : (j : Int) < m.n := by omega
          have hM := h.mat.below (hF.old.mono h.hB)
          obtain ⟨rfl, g2, g3⟩ := hM.sq h.sq hjt hlt
          have g0 := hF.bx
          have g1 := hF.top.cell hlt
          rw [if_pos (by omega)] at g1
          have g4 := hF.cur.cell hjt
          rw [if_neg (by omega)] at g4
          have g5 := hF.cur.frozen j
          have HS := Lib.hid h
          clear hM h
          go_wp2_with fail
          go_region
          all_goals
            go_wp2_with fail
            go_roundw
            case rel => exact ⟨j + 1, by omega, by go_num, hF.step⟩
            case measure => simp [intOf]; omega
        · have hjt' : ¬ (j : Int) < m.n := by omega
          have hjn : j = m.n := by omega
          have HF : Hid (TurnS w wr sa l.cap m (k + 1)) := by
            rw [hjn] at hF
            exact hF.done
          clear hjn hF
          go_wp2_with fail
          go_roundw
          case rel => exact ⟨k + 1, by omega, by go_num, HF.out⟩
          case measure => simp [intOf]; omega
    · have hlt' : ¬ (k : Int) < m.n := by omega
      have hkn : k = m.n := by omega
      have g1 := hT.res
      have g2 := hT.resf
      have hT' : Hid (TurnS w wr sa l.cap m m.n) := by rw [hkn] at hT; exact hT
      clear hkn hT
      go_wp2_with fail
      refine bodyPost_ret (v := .agg #[.slice (some ⟨w.heap.size + 2, 0, none⟩) m.n m.n]) (by simp [results, Try.results89, go_sem, g1]) rfl ⟨rfl, hT'.out.old.setCell (by show w.heap.size ≤ w.heap.size + 1; omega) _, ?_, ?_⟩
      · exact (hT'.out.top.setOther (by show w.heap.size + 2 ≠ w.heap.size + 1; omega) _).congr (fun r hr => by rw [if_pos (show r < m.n from hr)]; rfl)
      · exact fun r hr => (hT'.out.row r hr).setOther (by show w.heap.size + 3 + r ≠ w.heap.size + 1; omega) _
end Go.Proofs.Ytojcgmgponnlpaa
namespace Go.Proofs.Ytojcgmgponnlpaa
open Go.RowKit Go.Deep

theorem square_tr {m : Mx} (h : Square m) : Square (tr m) := ⟨fun _ _ => rfl, fun r hr c hc => h.bit c hc r hr⟩
theorem sq_turned {w w' : World} {B : Nat} {sa : Option Addr} {l : Lay} {m : Mx} {b : Nat} {G : Nat → Nat} (h : SqAt w B sa l m) (ho : OwnMat w' b G (tr m)) : SqAt w' w'.heap.size (some ⟨b, 0, none⟩) (ownLay b G (tr m)) (tr m) :=
  ⟨ho.mat, square_tr h.sq, h.hi, Nat.le_refl _⟩

theorem turned_ex {B : Nat} {sa : Option Addr} {l : Lay} {m : Mx} {w : World} (h : SqAt w B sa l m) :
    Calls Try.prog 89 #[.agg #[.slice sa m.n l.cap]] w fun e w' => ∃ (b : Nat) (G : Nat → Nat), e = .returned (.agg #[.slice (some ⟨b, 0, none⟩) m.n m.n]) ∧ Below w.heap.size w w' ∧ OwnMat w' b G (tr m) ∧ w.heap.size ≤ b ∧ (∀ r, w.heap.size ≤ G r) :=
  (turned_sq h).mono fun _ _ ⟨he, hb, ho⟩ => ⟨_, _, he, hb, ho, by omega, fun r => by show _ ≤ w.heap.size + 3 + r; omega⟩
theorem meet_tr {w : World} {B b : Nat} {G : Nat → Nat} {m : Mx} {x y : Nat} (h : SqAt w B (some ⟨b, 0, none⟩) (ownLay b G (tr m)) (tr m)) (hx : x < m.n) (hy : y < m.n) :
    Calls Try.prog 90 #[.agg #[.slice (some ⟨b, 0, none⟩) m.n m.n], .int .i64 x, .int .i64 y] w fun e w' => e = .returned (.tuple #[.int .i64 (meetI (tr m) x y), .bool (hasI (meetI (tr m) x y))]) ∧ Below w.heap.size w w' :=
  meet_sq (m := tr m) (l := ownLay b G (tr m)) h hx hy

end Go.Proofs.Ytojcgmgponnlpaa
namespace Go.Proofs.Ytojcgmgponnlpaa
open Go.RowKit Go.Deep

theorem MJ_of {m : Mx} {a b : Nat} (h1 : ¬ meetI m a b < 0) (h2 : ¬ meetI (tr m) a b < 0) : MJ m a b := ⟨hasI_yes (by omega), hasI_yes (by omega)⟩

set_option maxRecDepth 100000 in
set_option maxHeartbeats 1000000 in
theorem spec_LatticeOk {B : Nat} {sa : Option Addr} {l : Lay} {m : Mx} {w : World} (hn : m.n ≤ 9223372036854775807) (hL : ∀ r, r < m.n → m.L r ≤ 9223372036854775807) (h : MatAt w B sa l m) :
    Calls Try.prog 55 #[.slice sa m.n l.cap] w fun e w' => e = .returned (.bool (latticeB m)) ∧ w = w' := by
  have HL := Lib.hid hL
  clear hL
  cases ho : orderB m with
  | false =>
    have HR : Hid (false = latticeB m) := (latticeB_false fun h => orderB_not ho h.order).symm
    have HO := Lib.hid ho
    clear ho
    go_enter Try.func55, Try.ntmps55
    go_wp2_with fail
    go_loop [3] (fun i => i = .int .i64 0) (fun _ => 0)
    case atStart => exact rfl
    case round =>
      obtain rfl := hrel
      by_cases h0 : 0 < m.n
      · have h0' : (0 : Int) < m.n := by omega
        go_wp2_with fail
        go_at_call 93
        refine (spec_OrderOk B sa l m _ hn HL.out h).mono ?_
        rintro e w1 ⟨rfl, rfl⟩
        rw [HO.out]
        go_wp2_with fail
        go_at_call 93
        refine (spec_OrderOk B sa l m _ hn HL.out h).mono ?_
        rintro e w1 ⟨rfl, rfl⟩
        rw [HO.out]
        go_wp2_with fail
        go_ret
        exact ⟨ret_bool HR.out, rfl⟩
      · have h0' : ¬ (0 : Int) < m.n := by omega
        go_wp2_with fail
        go_at_call 93
        refine (spec_OrderOk B sa l m _ hn HL.out h).mono ?_
        rintro e w1 ⟨rfl, rfl⟩
        rw [HO.out]
        go_wp2_with fail
        go_ret
        exact ⟨ret_bool HR.out, rfl⟩
  | true =>
    have hord := orderB_is ho
    have hhi := hord.top
    have HORD := Lib.hid hord
    have HO := Lib.hid ho
    clear ho hord
    go_enter Try.func55, Try.ntmps55
    go_wp2_with fail
    go_loop [3] (fun i => ∃ k : Nat, k ≤ m.n ∧ i = .int .i64 k ∧ Hid (∀ a, a < k → ∀ b, b < a → MJ m a b)) (fun i => m.n - (intOf i).toNat)
    case atStart => exact ⟨0, Nat.zero_le _, rfl, fun r hr => absurd hr (Nat.not_lt_zero _)⟩
    case round =>
      obtain ⟨k, hk, rfl, hR⟩ := hrel
      by_cases hlt : k < m.n
      · have hlt' : (k : Int) < m.n := by omega
        go_wp2_with fail
        go_at_call 93
        refine (spec_OrderOk B sa l m _ hn HL.out h).mono ?_
        rintro e w1 ⟨rfl, rfl⟩
        rw [HO.out]
        go_wp2_with fail
        go_loop [4] (fun i => ∃ j : Nat, j ≤ k ∧ i = .int .i64 j ∧ Hid (∀ b, b < j → MJ m k b)) (fun i => k - (intOf i).toNat)
        case atStart => exact ⟨0, Nat.zero_le _, rfl, fun r hr => absurd hr (Nat.not_lt_zero _)⟩
        case round =>
          obtain ⟨j, hj, rfl, hC⟩ := hrel
          by_cases hjt : j < k
          · have hjt' : (j : Int) < k := by omega
            have hjn : j < m.n := by omega
            have hr1 := meetI_range m k j
            have hr2 := meetI_range (tr m) k j
            by_cases hm : meetI m k j < 0
            · have HB : Hid (false = latticeB m) := (latticeB_false fun h => by have := hasI_is (h.both k j hlt hjn).meets; omega).symm
              go_wp2_with fail
              go_at_call 58
              refine (l1Meet_any h HORD.out hlt hjn).mono ?_
              rintro e w1 ⟨rfl, rfl⟩
              go_wp2_with fail
              go_ret
              exact ⟨ret_bool HB.out, rfl⟩
            · by_cases hm2 : meetI (tr m) k j < 0
              · have HB : Hid (false = latticeB m) := (latticeB_false fun h => by have := hasI_is (h.both k j hlt hjn).joins; omega).symm
                go_wp2_with fail
                go_at_call 58
                refine (l1Meet_any h HORD.out hlt hjn).mono ?_
                rintro e w1 ⟨rfl, rfl⟩
                go_wp2_with fail
                go_at_call 94
                refine (l1Join_any h HORD.out hlt hjn).mono ?_
                rintro e w1 ⟨rfl, rfl⟩
                go_wp2_with fail
                go_ret
                exact ⟨ret_bool HB.out, rfl⟩
              · have HJ : Hid (MJ m k j) := MJ_of hm hm2
                go_wp2_with fail
                go_at_call 58
                refine (l1Meet_any h HORD.out hlt hjn).mono ?_
                rintro e w1 ⟨rfl, rfl⟩
                go_wp2_with fail
                go_at_call 94
                refine (l1Join_any h HORD.out hlt hjn).mono ?_
                rintro e w1 ⟨rfl, rfl⟩
                go_wp2_with fail
                go_round
                case rel => exact ⟨j + 1, by omega, by go_num, fun b hb => by
                  by_cases e : b = j
                  · subst e; exact HJ.out
                  · exact hC.out b (by omega)⟩
                case measure => simp [intOf]; omega
          · have hjt' : ¬ (j : Int) < k := by omega
            go_wp2_with fail
            go_round
            case rel => exact ⟨k + 1, by omega, by go_num, fun a ha => by
              by_cases e : a = k
              · subst e; exact fun b hb => hC.out b (by omega)
              · exact hR.out a (by omega)⟩
            case measure => simp [intOf]; omega
      · have hlt' : ¬ (k : Int) < m.n := by omega
        have HT : Hid (true = latticeB m) := (latticeB_true (lattice_of_less HORD.out fun a ha => hR.out a (by omega))).symm
        go_wp2_with fail
        go_at_call 93
        refine (spec_OrderOk B sa l m _ hn HL.out h).mono ?_
        rintro e w1 ⟨rfl, rfl⟩
        rw [HO.out]
        go_wp2_with fail
        go_ret
        exact ⟨ret_bool HT.out, rfl⟩
end Go.Proofs.Ytojcgmgponnlpaa
namespace Go.Proofs.Ytojcgmgponnlpaa
open Go.RowKit Go.Deep Go.Shelf

attribute [local go_sem] Oper.semAt_some

set_option maxRecDepth 100000 in
set_option maxHeartbeats 1000000 in
theorem LatticeOk_no {B : Nat} {sa : Option Addr} {l : Lay} {m : Mx} {w : World} (hn : m.n ≤ 9223372036854775807) (hL : ∀ r, r < m.n → m.L r ≤ 9223372036854775807) (h : MatAt w B sa l m) (hB : B ≤ w.heap.size) (ho : orderB m = false) :
    Calls Try.prog 49 #[.slice sa m.n l.cap] w fun e w' => e = .returned (.bool (latticeB m)) ∧ Below w.heap.size w w' := by
  have HL := Lib.hid hL
  have HR : Hid (false = latticeB m) := (latticeB_false fun h => orderB_not ho h.order).symm
  have HO := Lib.hid ho
  have h1 := h.alloc hB (.cells #[.bool false] 4)
  have hX := Boxd.start w (.bool false) 4
  clear hL ho h
  go_enter Try.func49, Try.ntmps49
  go_wp2_with fail
  go_at_call 88
  refine (orderWith_no hn HL.out h1 (by simp; omega) HO.out).mono ?_
  rintro e w1 ⟨rfl, hw1⟩
  have hX1 := (hX.step hw1).step ((Below.refl _ _).alloc (Nat.le_refl _) (.cells #[.slice none 0 0] 76))
  have c1 := hX1.cell
  have f1 := hX1.frozen
  have hb := hX1.below
  go_wp2_with fail
  exact bodyPost_ret (v := .bool false) (by simp [results, Try.results49, go_sem, c1]) rfl ⟨ret_bool HR.out, hb.setCell (p := ⟨w.heap.size, 0, none⟩) (Nat.le_refl _) _⟩

set_option maxRecDepth 100000 in
set_option maxHeartbeats 2000000 in
theorem LatticeOk_yes {B : Nat} {sa : Option Addr} {l : Lay} {m : Mx} {w : World} (hn : m.n ≤ 9223372036854775807) (hL : ∀ r, r < m.n → m.L r ≤ 9223372036854775807) (h : MatAt w B sa l m) (hB : B ≤ w.heap.size) (ho : orderB m = true) :
    Calls Try.prog 49 #[.slice sa m.n l.cap] w fun e w' => e = .returned (.bool (latticeB m)) ∧ Below w.heap.size w w' := by
  have HL := Lib.hid hL
  have HO := Lib.hid ho
  have hord := orderB_is ho
  have hhi := hord.top
  have HORD := Lib.hid hord
  have hS : SqAt w B sa l m := ⟨h, hord.sq, hord.top, hB⟩
  have h1 := h.alloc hB (.cells #[.bool false] 4)
  have hX := Boxd.start w (.bool false) 4
  clear hL ho hord h
  refine (callsIn_wide (n := 9)).1 ?_
  refine callsIn_of_wp_marks Try.func49 rfl trivial ?_ rfl
  simp only [Try.ntmps49, List.size_toArray, List.length_cons, List.length_nil, Nat.reduceAdd, Nat.reduceSub, Array.replicate_succ, Array.replicate_zero, List.push_toArray, List.append_toArray, List.nil_append, List.cons_append]
  gi_wp2_with fail
  refine ⟨trivial, ?_⟩
  refine (callsIn_wide.2 (orderWith_ok (g := 0) (o := 0) (z := fun _ => 0) hn HL.out h1 (by simp; omega) (by omega) ⟨fun c hc => absurd hc (Nat.not_lt_zero _)⟩ HO.out)).mono ?_
  rintro e w1 ⟨(⟨hg, rfl⟩ | ⟨hg, rfl⟩), hw1⟩
  · have hX1 := hX.step hw1
    have hX2 := hX1.step ((Below.refl _ _).alloc (Nat.le_refl _) (.cells #[.slice sa m.n l.cap] 76))
    have hD := Boxd.start w1 (.slice sa m.n l.cap) 76
    have hS1 := (hS.step hX1.below).alloc (.cells #[.slice sa m.n l.cap] 76)
    clear hg hX
    gi_wp2_with fail
    refine ⟨trivial, ?_⟩
    refine (callsIn_wide.2 (turned_ex hS1)).mono ?_
    rintro e w2 ⟨tb, tG, rfl, hw2, hO2, _, _⟩
    have hX3 := hX2.step hw2
    have hD3 := hD.step hw2
    have hc3 := hD3.cell
    have hT2 := sq_turned hS1 hO2
    have hU := Boxd.start w2 (.slice (some ⟨tb, 0, none⟩) m.n m.n) 76
    have b5 := (Below.refl w2.heap.size w2).alloc (Nat.le_refl _) (.cells #[.slice (some ⟨tb, 0, none⟩) m.n m.n] 76)
    have hX4 := hX3.step b5
    have hD4 := hD3.step b5
    have hc4 := hD4.cell
    have hS4 := (hS1.step hw2).step b5
    have hT4 := hT2.step b5
    clear hO2
    gi_wp2_with fail
    refine ⟨trivial, ?_⟩
    refine (pairs_any _ _ _).mono ?_
    rintro e w' ⟨rfl, rfl⟩
    gi_wp2_with fail
    have b6 := (Below.refl (w2.alloc (.cells #[.slice (some ⟨tb, 0, none⟩) m.n m.n] 76)).heap.size (w2.alloc (.cells #[.slice (some ⟨tb, 0, none⟩) m.n m.n] 76))).alloc (Nat.le_refl _) (.cells #[.slice sa m.n l.cap] 76)
    have hX5 := hX4.step b6
    have hD5 := hD4.step b6
    have hU5 := hU.step b6
    have hS5 := hS4.step b6
    have hT5 := hT4.step b6
    have hP := Boxd.start (w2.alloc (.cells #[.slice (some ⟨tb, 0, none⟩) m.n m.n] 76)) (.slice sa m.n l.cap) 76
    have hc2 := hP.cell
    have hlt2 := hP.size
    rw [World.size_alloc] at hc2 hlt2
    clear hP b6 hX4 hD4 hU hS4 hT4 hc4 hX3 hD3 hc3 hT2 hS1 hX2 hX1 hD b5
    generalize ((w2.alloc (.cells #[.slice (some ⟨tb, 0, none⟩) m.n m.n] 76)).alloc (.cells #[.slice sa m.n l.cap] 76)) = W0 at hX5 hD5 hU5 hS5 hT5 hc2 hlt2 ⊢
    have hbw : Below w.heap.size w W0 := hX5.below
    refine wpIn_rangeFunc_ownG rfl (by omega) (gf := 95) (lb := #[.pointer (some ⟨w2.heap.size + 1, 0, none⟩)]) rfl trivial (enters_of Try.func95 (by kernel_rfl) rfl)
      (pairs_stops _ m.n (by omega) hhi (w2.heap.size + 1) W0.heap.size l.cap sa W0 (by omega) (Nat.le_refl _) hc2) belowK_t (belowK_b (Nat.le_refl _)) (Below.refl _ _) (fun _ => rfl)
      (fun pre W => (∀ p ∈ pre, MJ m p.1.val p.2.val) ∧ Below W0.heap.size W0 W)
      (fun c _ W => (c = .ret ∧ ¬ IsLattice m) ∧ W.cell? ⟨w.heap.size, 0, none⟩ = some (.bool false) ∧ Below w.heap.size w W)
      (OwnFrom.and (ownFrom_pure _ _) (ownFrom_below (Nat.le_refl _) (Nat.le_refl _)))
      (fun c => OwnFrom.and (ownFrom_pure _ _) (OwnFrom.and (Own.from (fun s A B row hs hg hr => cell_kept hs hg hr) _) (ownFrom_below (Nat.le_refl _) hbw.size)))
      ⟨fun p hp => absurd hp (by simp), Below.refl _ _⟩
      (fun x => { tmps := #[.slice sa m.n l.cap, undef, .pointer (some ⟨w.heap.size, 0, none⟩), .pointer (some ⟨w1.heap.size, 0, none⟩), .bool true, .pointer (some ⟨w2.heap.size, 0, none⟩),
          .int .i64 ((x.1.val : Nat) : Int), .int .i64 ((x.2.val : Nat) : Int), undef, undef, undef, undef, .tuple #[.agg #[.slice sa m.n l.cap], .bool true], .slice sa m.n l.cap, .tuple #[.agg #[.slice sa m.n l.cap], .bool true], .agg #[.slice sa m.n l.cap],
          .bool true, .bool true, .bool false, .agg #[.slice sa m.n l.cap], .agg #[.slice (some ⟨tb, 0, none⟩) m.n m.n], .agg #[.slice sa m.n l.cap], .func (.func 95) #[] #[.pointer (some ⟨w2.heap.size + 1, 0, none⟩)],
          .int .i64 ((x.1.val : Nat) : Int), .int .i64 ((x.2.val : Nat) : Int), undef, undef, undef, undef, undef, undef, undef, undef, undef, undef, undef, undef, undef, undef, undef, undef, undef, undef, undef, undef], defers := [] }) ?assign ?body ?done ?stop
    case assign =>
      intro lr x W K hK
      gi_wp2
      exact hK
    case body =>
      rintro lr pre ⟨⟨a, ha⟩, ⟨b, hb⟩⟩ W ⟨hp0, hB'⟩ _
      have hp := Lib.hid hp0
      have hXW := hX5.step hB'
      have hDW := hD5.step hB'
      have hUW := hU5.step hB'
      have hSW := hS5.step hB'
      have hTW := hT5.step hB'
      have cD := hDW.cell
      have hn1 : 1 ≤ 9 - 1 - 1 := by omega
      dsimp only
      clear hp0 h1 hc2 hX5 hD5 hU5 hS5 hT5
      cases hm : hasI (meetI m a b) with
      | false =>
        cases hj : hasI (meetI (tr m) a b) with
        | false =>
          have HM := Lib.hid hm
          have HJ := Lib.hid hj
          clear hm hj
          gi_wp2_with fail
          refine ⟨trivial, ?_⟩
          refine (CallsIn.inRound lr (callsIn_wide.2 (meet_sq hSW ha hb))).mono ?_
          rintro e v1 ⟨rfl, hv1⟩
          rw [HM.out]
          have cU := (hUW.step hv1).cell
          gi_wp2_with fail
          refine ⟨trivial, ?_⟩
          refine (CallsIn.inRound lr (callsIn_wide.2 (meet_tr (hTW.step hv1) ha hb))).mono ?_
          rintro e v2 ⟨rfl, hv2⟩
          rw [HJ.out]
          have hall : Below W.heap.size W v2 := hv1.trans (hv2.mono hv1.size)
          have hXv := (hXW.step hv1).step hv2
          have c0 := hXv.cell
          have f0 := hXv.frozen
          have hbv := hXv.below
          gi_wp2_with fail
          exact ⟨(keepsFrom_below hall).trans ((KeepsOthers.setCell _ _ _).from _), ⟨rfl, fun h => by have := (h.both a b ha hb).meets; rw [HM.out] at this; cases this⟩, World.cell?_setCell_same' _ _ _ (by rw [c0]; rfl), hbv.setCell (p := ⟨w.heap.size, 0, none⟩) (Nat.le_refl _) _⟩
        | true =>
          have HM := Lib.hid hm
          have HJ := Lib.hid hj
          clear hm hj
          gi_wp2_with fail
          refine ⟨trivial, ?_⟩
          refine (CallsIn.inRound lr (callsIn_wide.2 (meet_sq hSW ha hb))).mono ?_
          rintro e v1 ⟨rfl, hv1⟩
          rw [HM.out]
          have cU := (hUW.step hv1).cell
          gi_wp2_with fail
          refine ⟨trivial, ?_⟩
          refine (CallsIn.inRound lr (callsIn_wide.2 (meet_tr (hTW.step hv1) ha hb))).mono ?_
          rintro e v2 ⟨rfl, hv2⟩
          rw [HJ.out]
          have hall : Below W.heap.size W v2 := hv1.trans (hv2.mono hv1.size)
          have hXv := (hXW.step hv1).step hv2
          have c0 := hXv.cell
          have f0 := hXv.frozen
          have hbv := hXv.below
          gi_wp2_with fail
          exact ⟨(keepsFrom_below hall).trans ((KeepsOthers.setCell _ _ _).from _), ⟨rfl, fun h => by have := (h.both a b ha hb).meets; rw [HM.out] at this; cases this⟩, World.cell?_setCell_same' _ _ _ (by rw [c0]; rfl), hbv.setCell (p := ⟨w.heap.size, 0, none⟩) (Nat.le_refl _) _⟩
      | true =>
        cases hj : hasI (meetI (tr m) a b) with
        | false =>
          have HM := Lib.hid hm
          have HJ := Lib.hid hj
          clear hm hj
          gi_wp2_with fail
          refine ⟨trivial, ?_⟩
          refine (CallsIn.inRound lr (callsIn_wide.2 (meet_sq hSW ha hb))).mono ?_
          rintro e v1 ⟨rfl, hv1⟩
          rw [HM.out]
          have cU := (hUW.step hv1).cell
          gi_wp2_with fail
          refine ⟨trivial, ?_⟩
          refine (CallsIn.inRound lr (callsIn_wide.2 (meet_tr (hTW.step hv1) ha hb))).mono ?_
          rintro e v2 ⟨rfl, hv2⟩
          rw [HJ.out]
          have hall : Below W.heap.size W v2 := hv1.trans (hv2.mono hv1.size)
          have hXv := (hXW.step hv1).step hv2
          have c0 := hXv.cell
          have f0 := hXv.frozen
          have hbv := hXv.below
          gi_wp2_with fail
          exact ⟨(keepsFrom_below hall).trans ((KeepsOthers.setCell _ _ _).from _), ⟨rfl, fun h => by have := (h.both a b ha hb).joins; rw [HJ.out] at this; cases this⟩, World.cell?_setCell_same' _ _ _ (by rw [c0]; rfl), hbv.setCell (p := ⟨w.heap.size, 0, none⟩) (Nat.le_refl _) _⟩
        | true =>
          have HM := Lib.hid hm
          have HJ := Lib.hid hj
          clear hm hj
          gi_wp2_with fail
          refine ⟨trivial, ?_⟩
          refine (CallsIn.inRound lr (callsIn_wide.2 (meet_sq hSW ha hb))).mono ?_
          rintro e v1 ⟨rfl, hv1⟩
          rw [HM.out]
          have cU := (hUW.step hv1).cell
          gi_wp2_with fail
          refine ⟨trivial, ?_⟩
          refine (CallsIn.inRound lr (callsIn_wide.2 (meet_tr (hTW.step hv1) ha hb))).mono ?_
          rintro e v2 ⟨rfl, hv2⟩
          rw [HJ.out]
          have hall : Below W.heap.size W v2 := hv1.trans (hv2.mono hv1.size)
          have hXv := (hXW.step hv1).step hv2
          have c0 := hXv.cell
          have f0 := hXv.frozen
          have hbv := hXv.below
          gi_wp2_with fail
          exact ⟨keepsFrom_below hall, hall.mono hB'.size, fun p hp' => (List.mem_append.1 hp').elim (hp.out p) (fun e => by simp at e; subst e; exact ⟨HM.out, HJ.out⟩), hB'.trans (hall.mono hB'.size)⟩
    case done =>
      rintro D ys W hD hys ⟨hp0, hB'⟩ hK
      have HO' : Hid (latticeB m = true) := latticeB_true ⟨HORD.out, fun a b ha hb => hp0 _ (hys ⟨a, ha⟩ ⟨b, hb⟩)⟩
      clear hp0
      have hXW := hX5.step hB'
      have hc0 := hXW.cell
      have hf0 := hXW.frozen
      have hbW := hXW.below
      have hDs : w.heap.size ≤ D := Nat.le_trans hbw.size hD
      gi_wp2
      have hK' := (KeepsOthers.setCell W ⟨w.heap.size, 0, none⟩ (.bool true)).same D _ hK rfl
      refine ⟨by simp, .inl ⟨_, _, rfl, run_takeDeferred hK', ?_⟩⟩
      have hc5 := cell_kept (World.cell?_setCell_same' W ⟨w.heap.size, 0, none⟩ (.bool true) (by rw [hc0]; rfl)) (grownBy_putObj' _ D (.deferred none)) (fun r e => by cases e; exact ⟨_, hK', rfl⟩)
      refine ⟨.bool true, ?_, ret_bool HO'.out.symm, (hbW.setCell (p := ⟨w.heap.size, 0, none⟩) (Nat.le_refl _) _).trans (belowK_b (w := w) (Nat.le_refl _) _ D _ _ hDs hK' rfl rfl)⟩
      simp [results, Try.f49, go_sem, hc5]
    case stop =>
      rintro D c pre W hD _ ⟨⟨rfl, hbad⟩, hcr, hB'⟩ hK
      have hDs : w.heap.size ≤ D := Nat.le_trans hbw.size hD
      gi_wp2
      refine ⟨by simp, .inl ⟨_, _, rfl, run_takeDeferred hK, ?_⟩⟩
      have hc5 := cell_kept hcr (grownBy_putObj' _ D (.deferred none)) (fun r e => by cases e; exact ⟨_, hK, rfl⟩)
      refine ⟨.bool false, ?_, ret_bool (latticeB_false hbad).symm, hB'.trans (belowK_b (w := w) (Nat.le_refl _) W D _ _ hDs hK rfl rfl)⟩
      simp [results, Try.f49, go_sem, hc5]
  · rw [good_nil] at hg
    cases hg

theorem LatticeOk_any {B : Nat} {sa : Option Addr} {l : Lay} {m : Mx} {w : World} (hn : m.n ≤ 9223372036854775807) (hL : ∀ r, r < m.n → m.L r ≤ 9223372036854775807) (h : MatAt w B sa l m) (hB : B ≤ w.heap.size) :
    Calls Try.prog 49 #[.slice sa m.n l.cap] w fun e w' => e = .returned (.bool (latticeB m)) ∧ Below w.heap.size w w' := by
  cases ho : orderB m with
  | false => exact LatticeOk_no hn hL h hB ho
  | true => exact LatticeOk_yes hn hL h hB ho
end Go.Proofs.Ytojcgmgponnlpaa
namespace Go.Proofs.Ytojcgmgponnlpaa
open Go.RowKit Go.Deep

/-- From w to w' only blocks of S have turned; no block has come. -/
structure OnlyIn (S : Nat → Prop) (w w' : World) : Prop where
  os : w'.os = w.os
  tape : w'.tape = w.tape
  output : w'.output = w.output
  size : w'.heap.size = w.heap.size
  block : ∀ k, ¬ S k → w'.heap[k]? = w.heap[k]?
theorem OnlyIn.refl (S : Nat → Prop) (w : World) : OnlyIn S w w := ⟨rfl, rfl, rfl, rfl, fun _ _ => rfl⟩
theorem OnlyIn.trans {S : Nat → Prop} {a b c : World} (h : OnlyIn S a b) (k : OnlyIn S b c) : OnlyIn S a c :=
  ⟨k.os.trans h.os, k.tape.trans h.tape, k.output.trans h.output, k.size.trans h.size, fun i hi => (k.block i hi).trans (h.block i hi)⟩
theorem OnlyIn.below {S : Nat → Prop} {a b : World} {B : Nat} (h : OnlyIn S a b) (hs : ∀ k, S k → B ≤ k) : Below B a b :=
  ⟨h.os, h.tape, h.output, Nat.le_of_eq h.size.symm, fun k hk => h.block k fun hsk => by have := hs k hsk; omega⟩
theorem OnlyIn.set {S : Nat → Prop} {a w : World} (h : OnlyIn S a w) {b : Nat} (hb : S b) (i : Nat) (v : Value) : OnlyIn S a (w.setCell ⟨b, i, none⟩ v) :=
  h.trans ⟨rfl, rfl, rfl, by simp, fun k hk => Below.heap_setCell _ _ _ _ (by rintro rfl; exact hk hb)⟩
end Go.Proofs.Ytojcgmgponnlpaa
namespace Go.Proofs.Ytojcgmgponnlpaa
open Go.RowKit Go.Deep

theorem ownsRow_below {w w' : World} {base B : Nat} {e : TypeId} {size n : Nat} {v : Value} {xs : List Value} (h : w.ownsRow base e size v n xs) (hb : Below B w w') (hB : w.heap.size ≤ B) : w'.ownsRow base e size v n xs := by
  refine ⟨h.1, ?_⟩
  rcases h.2 with h' | ⟨g, cap, cur, h1, h2, h3, h4⟩
  · exact .inl h'
  · have hg : g < w.heap.size := (Array.getElem?_eq_some_iff.1 h3).1
    exact .inr ⟨g, cap, cur, h1, h2, (hb.block g (by omega)).trans h3, h4⟩
theorem ownsRow_base {w : World} {base base' : Nat} {e : TypeId} {size n : Nat} {v : Value} {xs : List Value} (h : w.ownsRow base e size v n xs) (hb : base' ≤ base) : w.ownsRow base' e size v n xs := by
  refine ⟨h.1, ?_⟩
  rcases h.2 with h' | ⟨g, cap, cur, h1, h2, h3⟩
  · exact .inl h'
  · exact .inr ⟨g, cap, cur, h1, by omega, h3⟩
theorem ownsRow_block {w : World} {base : Nat} {e : TypeId} {size n : Nat} {v : Value} {xs : List Value} (h : w.ownsRow base e size v n xs) : ∀ k, v.ownBlock = some k → base ≤ k := fun k hk => (h.lt k hk).1

end Go.Proofs.Ytojcgmgponnlpaa
namespace Go.Proofs.Ytojcgmgponnlpaa
open Go.RowKit Go.Deep

end Go.Proofs.Ytojcgmgponnlpaa
namespace Go.Proofs.Ytojcgmgponnlpaa
open Go.RowKit Go.Deep

theorem map_set (n k : Nat) (f : Nat → Value) (u : Value) : ((List.range n).map f).set k u = (List.range n).map (fun i => if i = k then u else f i) := by
  apply List.ext_getElem
  · simp
  · intro i h1 h2
    simp only [List.getElem_set, List.getElem_map, List.getElem_range]
    by_cases e : k = i
    · subst e; simp
    · rw [if_neg e, if_neg (fun h => e h.symm)]
theorem map_congr_range {n : Nat} {f g : Nat → Value} (h : ∀ i, i < n → f i = g i) : (List.range n).map f = (List.range n).map g :=
  List.map_congr_left fun i hi => h i (List.mem_range.1 hi)

/-- The slice is nil with nothing in it, or lies in a block; what it holds by its index. -/
theorem owns_ways {w : World} {base n : Nat} {v : Value} {f : Nat → Value} (h : w.ownsRow base 3 1 v n ((List.range n).map f)) :
    (v = .slice none 0 0 ∧ n = 0) ∨ ∃ g cap, v = .slice (some ⟨g, 0, none⟩) n cap ∧ ∀ j, j < n → w.cell? ⟨g, j, none⟩ = some (f j) := by
  rcases h.2 with h' | ⟨g, cap, cur, rfl, _⟩
  · exact .inl h'
  · refine .inr ⟨g, cap, rfl, fun j hj => ?_⟩
    rw [h.cellAt j (by omega)]
    simp [hj]

end Go.Proofs.Ytojcgmgponnlpaa
namespace Go.Proofs.Ytojcgmgponnlpaa
open Go.RowKit Go.Deep

/-- Two slices of the call's own whose elements are of different types share no block. -/
theorem owns_apart {w : World} {b1 b2 : Nat} {e1 e2 : TypeId} {s1 s2 n1 n2 : Nat} {v1 v2 : Value} {x1 x2 : List Value} (h1 : w.ownsRow b1 e1 s1 v1 n1 x1) (h2 : w.ownsRow b2 e2 s2 v2 n2 x2) (hne : e1 ≠ e2) : v1.ownBlock = none ∨ v1.ownBlock ≠ v2.ownBlock := by
  rcases h1.2 with ⟨rfl, _⟩ | ⟨g, cap, cur, rfl, _, hh, _⟩
  · exact .inl rfl
  · right
    rcases h2.2 with ⟨rfl, _⟩ | ⟨g', cap', cur', rfl, _, hh', _⟩
    · simp [Value.ownBlock]
    · intro e
      have e' : g = g' := by simpa [Value.ownBlock] using e
      subst e'
      rw [hh] at hh'
      injection hh' with hh'
      injection hh' with _ ht
      exact hne ht
theorem owns_not {w w' : World} {base : Nat} {e : TypeId} {size n : Nat} {v u : Value} {xs : List Value} (h : w.ownsRow base e size v n xs) (hg : w.grownBy w' u.ownBlock) (hne : v.ownBlock = none ∨ v.ownBlock ≠ u.ownBlock) : w'.ownsRow base e size v n xs := h.kept hg hne

end Go.Proofs.Ytojcgmgponnlpaa
