import Derived.Test.YtojcgmgponnlpaaZWc
import Derived.Test.YtojcgmgponnlpaaZWd
import Derived.Test.YtojcgmgponnlpaaZWv
import Derived.Test.YtojcgmgponnlpaaZMath
import Derived.Deep.RegionHeld3
import Derived.OrdersHeld
import Derived.OrdersIn
import Derived.BigQuiet
import Derived.Test.YtojcgmgponnlpaaZDa
namespace Go.Proofs.Ytojcgmgponnlpaa
open Go.RowKit Go.Deep

end Go.Proofs.Ytojcgmgponnlpaa
namespace Go.Proofs.Ytojcgmgponnlpaa
open Go.RowKit Go.Deep

end Go.Proofs.Ytojcgmgponnlpaa
namespace Go.Proofs.Ytojcgmgponnlpaa
open Go.RowKit Go.Deep

set_option maxRecDepth 100000 in
set_option maxHeartbeats 1000000 in
theorem pairedOk_any {B : Nat} {a : Option Addr} {g o k cap n : Nat} {z : Nat → Int} {w : World} (hk : k ≤ 9223372036854775807) (hn : n ≤ 12) (h : RowAt w B a g o k z) :
    Calls Try.prog 50 #[.slice a k cap, .int .i64 n] w fun e w' => e = .returned (.bool (pairB k n z)) ∧ w = w' := by
  by_cases hkn : k = n
  · subst hkn
    have e0 : ((k : Int) != (k : Int)) = false := by simp
    go_enter Try.func50, Try.ntmps50
    go_wp2_with fail
    go_loop [13] (fun i => ∃ j : Nat, j ≤ k ∧ i = .int .i64 j ∧ Hid (∀ c, c < j → 0 ≤ z c ∧ z c < (k : Int) ∧ z (z c).toNat = (c : Int))) (fun i => k - (intOf i).toNat)
    case atStart => exact ⟨0, Nat.zero_le _, rfl, fun c hc => absurd hc (Nat.not_lt_zero _)⟩
    case round =>
      obtain ⟨j, hj, rfl, hR⟩ := hrel
      by_cases hlt : j < k
      · have hlt' : (j : Int) < k := by omega
        obtain ⟨rfl, _, c1⟩ := h.row j hlt
        by_cases h0 : z j < 0
        · go_wp2_with fail
          go_ret
          exact ⟨ret_bool (pairB_false fun hp => by have := hp.lo j hlt; omega).symm, rfl⟩
        · by_cases h1 : z j < (k : Int)
          · obtain ⟨y, hy⟩ := Int.eq_ofNat_of_zero_le (show 0 ≤ z j by omega)
            have hyk : y < k := by omega
            have hyk' : (y : Int) < k := by omega
            obtain ⟨_, _, c2⟩ := h.row y hyk
            by_cases h2 : z y = (j : Int)
            · have HN : Hid (0 ≤ z j ∧ z j < (k : Int) ∧ z (z j).toNat = (j : Int)) := ⟨by omega, h1, by rw [hy]; exact h2⟩
              rw [hy] at c1
              rw [h2] at c2
              clear h0 h1 h2 hy h
              go_wp2_with fail
              go_round
              case rel => exact ⟨j + 1, by omega, by go_num, fun c hc => by
                by_cases e : c = j
                · subst e; exact HN.out
                · exact hR.out c (by omega)⟩
              case measure => simp [intOf]; omega
            · have HN : Hid (¬ z (z j).toNat = (j : Int)) := by show ¬ _; rw [hy]; exact h2
              have e2 : (z y != (j : Int)) = true := by simpa using h2
              rw [hy] at c1
              clear h0 h1 hy h
              go_wp2_with fail
              go_ret
              exact ⟨ret_bool (pairB_false fun hp => HN.out (hp.inv j hlt)).symm, rfl⟩
          · have h1' : (k : Int) ≤ z j := by omega
            clear h
            go_wp2_with fail
            go_ret
            exact ⟨ret_bool (pairB_false fun hp => by have := hp.hi j hlt; omega).symm, rfl⟩
      · have hlt' : ¬ (j : Int) < k := by omega
        have HT : Hid (true = pairB k k z) := (pairB_true ⟨rfl, fun a ha => (hR.out a (by omega)).1, fun a ha => (hR.out a (by omega)).2.1, fun a ha => (hR.out a (by omega)).2.2⟩).symm
        go_wp2_with fail
        go_ret
        exact ⟨ret_bool HT.out, rfl⟩
  · have e0 : ((k : Int) != (n : Int)) = true := by simp; omega
    have HF : Hid (false = pairB k n z) := (pairB_false fun h => hkn h.len).symm
    go_enter Try.func50, Try.ntmps50
    go_wp2_with fail
    go_ret
    exact ⟨ret_bool HF.out, rfl⟩

theorem later3 {w w2 : World} {x : Obj} (hb : Below (w.heap.size + 2) (((w.alloc x).alloc (.cells #[.slice none 0 0, .slice none 0 0, .slice none 0 0] 79)).drew) w2) (o : Obj) (i : Nat) (hi : i < 3) :
    (w2.alloc o).cell? ⟨w.heap.size + 1, i, none⟩ = some (.slice none 0 0) ∧ (w2.alloc o).frozen? ⟨w.heap.size + 1, i, none⟩ = false := by
  have hs := hb.size
  have hs' : w.heap.size + 2 ≤ w2.heap.size := by simpa using hs
  have h1 := hb.cell (p := ⟨w.heap.size + 1, i, none⟩) (by show w.heap.size + 1 < _; omega)
  have h2 := hb.frozen (p := ⟨w.heap.size + 1, i, none⟩) (by show w.heap.size + 1 < _; omega)
  rw [World.cell?_alloc_lt _ _ _ (by show w.heap.size + 1 < _; omega), World.frozen?_alloc_old _ _ _ (by show w.heap.size + 1 ≠ _; omega), h1, h2]
  have e : (w.alloc x).heap.size = w.heap.size + 1 := by simp
  have h3 := World.alloc_heap_new (w.alloc x) (.cells #[.slice none 0 0, .slice none 0 0, .slice none 0 0] 79)
  rw [e] at h3
  have h4 : (((w.alloc x).alloc (.cells #[.slice none 0 0, .slice none 0 0, .slice none 0 0] 79)).drew).heap[w.heap.size + 1]? = some (.cells #[.slice none 0 0, .slice none 0 0, .slice none 0 0] 79) := h3
  clear h1 h2 h3
  obtain rfl | rfl | rfl : i = 0 ∨ i = 1 ∨ i = 2 := by omega
  all_goals exact ⟨by simp only [World.cell?, h4]; rfl, by simp only [World.frozen?, h4]; rfl⟩

theorem later1 {w w2 : World} {v : Value} {x : Obj} (hb : Below (w.heap.size + 2) (((w.alloc (.cells #[v] 76)).alloc x).drew) w2) (o : Obj) :
    w2.cell? ⟨w.heap.size, 0, none⟩ = some v ∧ (w2.alloc o).cell? ⟨w.heap.size, 0, none⟩ = some v := by
  have hs' : w.heap.size + 2 ≤ w2.heap.size := by simpa using hb.size
  have h1 : w2.cell? ⟨w.heap.size, 0, none⟩ = some v := by
    rw [hb.cell (p := ⟨w.heap.size, 0, none⟩) (by show w.heap.size < _; omega)]
    exact ((Boxed.new w 76 v).alloc x).cell
  exact ⟨h1, by rw [World.cell?_alloc_lt _ _ _ (by show w.heap.size < _; omega)]; exact h1⟩

theorem past3 {w w1 : World} {v : Value} (h : w1.cell? ⟨w.heap.size, 0, none⟩ = some v) (x y z : Value) :
    (((w1.setCell ⟨w.heap.size + 1, 0, none⟩ x).setCell ⟨w.heap.size + 1, 1, none⟩ y).setCell ⟨w.heap.size + 1, 2, none⟩ z).cell? ⟨w.heap.size, 0, none⟩ = some v := by
  rw [World.cell?_setCell_other _ _ _ _ (fun e => by injection e with e1; omega), World.cell?_setCell_other _ _ _ _ (fun e => by injection e with e1; omega), World.cell?_setCell_other _ _ _ _ (fun e => by injection e with e1; omega)]
  exact h

/-- The algebra's two operations in memory, and the order turned round. -/
structure Alg (w : World) (ob tb : Nat) (tG : Nat → Nat) (sa : Option Addr) (l : Lay) (m : Mx) : Prop where
  own : OwnMat w tb tG (tr m)
  lt : ob < w.heap.size
  op0 : w.cell? ⟨ob, 0, none⟩ = some (.func (.func 90) #[.agg #[.slice sa m.n l.cap]] #[])
  op1 : w.cell? ⟨ob, 1, none⟩ = some (.func (.func 90) #[.agg #[.slice (some ⟨tb, 0, none⟩) m.n m.n]] #[])
theorem Alg.step {w w' : World} {ob tb : Nat} {tG : Nat → Nat} {sa : Option Addr} {l : Lay} {m : Mx} (h : Alg w ob tb tG sa l m) (hb : Below w.heap.size w w') : Alg w' ob tb tG sa l m :=
  ⟨⟨h.own.top.of_block (hb.block _ h.own.top.lt), fun r hr => (h.own.row r hr).of_block (hb.block _ (h.own.row r hr).lt)⟩, Nat.lt_of_lt_of_le h.lt hb.size, by rw [hb.cell h.lt]; exact h.op0, by rw [hb.cell h.lt]; exact h.op1⟩
def algV (sa : Option Addr) (l : Lay) (m : Mx) (na : Option Addr) (k nc ob : Nat) : Value := .agg #[.slice sa m.n l.cap, .slice na k nc, .slice (some ⟨ob, 0, none⟩) 2 2]
/-- What algebraOf hands back. -/
def AlgRes (w : World) (sa : Option Addr) (l : Lay) (m : Mx) (na : Option Addr) (k nc : Nat) (e : Ending) (w' : World) : Prop :=
  ∃ (ob tb : Nat) (tG : Nat → Nat), e = .returned (algV sa l m na k nc ob) ∧ Below w.heap.size w w' ∧ Alg w' ob tb tG sa l m ∧ w.heap.size ≤ ob ∧ w.heap.size ≤ tb ∧ ∀ r, w.heap.size ≤ tG r
theorem alg_end {w w2 : World} {sa na : Option Addr} {l : Lay} {m : Mx} {k nc tb : Nat} {tG : Nat → Nat} {x y : Obj}
    (hw2 : Below ((w.alloc x).alloc y).drew.heap.size ((w.alloc x).alloc y).drew w2) (hO2 : OwnMat w2 tb tG (tr m)) (hb2 : ((w.alloc x).alloc y).drew.heap.size ≤ tb) (hG2 : ∀ r, ((w.alloc x).alloc y).drew.heap.size ≤ tG r) :
    Below w.heap.size w ((((w2.alloc (.cells #[.func (.func 90) #[.agg #[.slice sa m.n l.cap]] #[], .func (.func 90) #[.agg #[.slice (some ⟨tb, 0, none⟩) m.n m.n]] #[]] 126)).setCell ⟨w.heap.size + 1, 0, none⟩ (.slice sa m.n l.cap)).setCell ⟨w.heap.size + 1, 1, none⟩ (.slice na k nc)).setCell ⟨w.heap.size + 1, 2, none⟩ (.slice (some ⟨w2.heap.size, 0, none⟩) 2 2)) ∧
    Alg ((((w2.alloc (.cells #[.func (.func 90) #[.agg #[.slice sa m.n l.cap]] #[], .func (.func 90) #[.agg #[.slice (some ⟨tb, 0, none⟩) m.n m.n]] #[]] 126)).setCell ⟨w.heap.size + 1, 0, none⟩ (.slice sa m.n l.cap)).setCell ⟨w.heap.size + 1, 1, none⟩ (.slice na k nc)).setCell ⟨w.heap.size + 1, 2, none⟩ (.slice (some ⟨w2.heap.size, 0, none⟩) 2 2)) w2.heap.size tb tG sa l m ∧ w.heap.size ≤ w2.heap.size ∧ w.heap.size ≤ tb ∧ ∀ r, w.heap.size ≤ tG r := by
  have e2 : ((w.alloc x).alloc y).drew.heap.size = w.heap.size + 2 := by simp
  rw [e2] at hb2 hG2
  have hs := hw2.size
  rw [e2] at hs
  have hbw : Below w.heap.size w w2 := ((((Below.refl w.heap.size w).alloc (Nat.le_refl _) x).alloc (by simp) y).drew).trans (hw2.mono (by rw [e2]; omega))
  have hne : ∀ p : Nat, p ≠ w.heap.size + 1 → ∀ (o i : Nat) (u : Value), (⟨p, i, none⟩ : Addr) ≠ ⟨w.heap.size + 1, o, none⟩ := fun p hp o i _ e => hp (by injection e)
  refine ⟨(((hbw.alloc (by omega) _).setCell (by show w.heap.size ≤ w.heap.size + 1; omega) _).setCell (by show w.heap.size ≤ w.heap.size + 1; omega) _).setCell (by show w.heap.size ≤ w.heap.size + 1; omega) _, ⟨⟨?_, fun r hr => ?_⟩, by simp, ?_, ?_⟩, by omega, by omega, fun r => by have := hG2 r; omega⟩
  · exact (((hO2.top.alloc _).setOther (by show tb ≠ w.heap.size + 1; omega) _).setOther (by show tb ≠ w.heap.size + 1; omega) _).setOther (by show tb ≠ w.heap.size + 1; omega) _
  · have := hG2 r
    exact ((((hO2.row r hr).alloc _).setOther (by show tG r ≠ w.heap.size + 1; omega) _).setOther (by show tG r ≠ w.heap.size + 1; omega) _).setOther (by show tG r ≠ w.heap.size + 1; omega) _
  · rw [World.cell?_setCell_other _ _ _ _ (fun e => by injection e with e1; omega), World.cell?_setCell_other _ _ _ _ (fun e => by injection e with e1; omega), World.cell?_setCell_other _ _ _ _ (fun e => by injection e with e1; omega)]
    have h3 := World.alloc_heap_new w2 (.cells #[.func (.func 90) #[.agg #[.slice sa m.n l.cap]] #[], .func (.func 90) #[.agg #[.slice (some ⟨tb, 0, none⟩) m.n m.n]] #[]] 126)
    simp only [World.cell?, h3]
    rfl
  · rw [World.cell?_setCell_other _ _ _ _ (fun e => by injection e with e1; omega), World.cell?_setCell_other _ _ _ _ (fun e => by injection e with e1; omega), World.cell?_setCell_other _ _ _ _ (fun e => by injection e with e1; omega)]
    have h3 := World.alloc_heap_new w2 (.cells #[.func (.func 90) #[.agg #[.slice sa m.n l.cap]] #[], .func (.func 90) #[.agg #[.slice (some ⟨tb, 0, none⟩) m.n m.n]] #[]] 126)
    simp only [World.cell?, h3]
    rfl
theorem told3 {w1 : World} {p : Nat} {x y z u0 u1 u2 : Value} (h0 : w1.cell? ⟨p, 0, none⟩ = some u0) (h1 : w1.cell? ⟨p, 1, none⟩ = some u1) (h2 : w1.cell? ⟨p, 2, none⟩ = some u2) :
    (((w1.setCell ⟨p, 0, none⟩ x).setCell ⟨p, 1, none⟩ y).setCell ⟨p, 2, none⟩ z).cell? ⟨p, 0, none⟩ = some x ∧
    (((w1.setCell ⟨p, 0, none⟩ x).setCell ⟨p, 1, none⟩ y).setCell ⟨p, 2, none⟩ z).cell? ⟨p, 1, none⟩ = some y ∧
    (((w1.setCell ⟨p, 0, none⟩ x).setCell ⟨p, 1, none⟩ y).setCell ⟨p, 2, none⟩ z).cell? ⟨p, 2, none⟩ = some z := by
  have a01 : (⟨p, 0, none⟩ : Addr) ≠ ⟨p, 1, none⟩ := fun e => by injection e with _ e1; omega
  have a02 : (⟨p, 0, none⟩ : Addr) ≠ ⟨p, 2, none⟩ := fun e => by injection e with _ e1; omega
  have a12 : (⟨p, 1, none⟩ : Addr) ≠ ⟨p, 2, none⟩ := fun e => by injection e with _ e1; omega
  refine ⟨?_, ?_, ?_⟩
  · rw [World.cell?_setCell_other _ _ _ _ (by first | exact a02 | exact Ne.symm a02), World.cell?_setCell_other _ _ _ _ (by first | exact a01 | exact Ne.symm a01)]
    exact World.cell?_setCell_same _ _ _ h0
  · rw [World.cell?_setCell_other _ _ _ _ (by first | exact a12 | exact Ne.symm a12)]
    exact World.cell?_setCell_same (u := u1) _ _ _ (by rw [World.cell?_setCell_other _ _ _ _ (by first | exact a01 | exact Ne.symm a01)]; exact h1)
  · exact World.cell?_setCell_same (u := u2) _ _ _ (by rw [World.cell?_setCell_other _ _ _ _ (by first | exact a12 | exact Ne.symm a12), World.cell?_setCell_other _ _ _ _ (by first | exact a02 | exact Ne.symm a02)]; exact h2)

set_option maxRecDepth 100000 in
set_option maxHeartbeats 2000000 in
theorem algebraOf_any {B : Nat} {sa na : Option Addr} {l : Lay} {m : Mx} {k nc : Nat} {w : World} (h : SqAt w B sa l m) :
    Calls Try.prog 51 #[.agg #[.slice sa m.n l.cap], .slice na k nc] w (AlgRes w sa l m na k nc) := by
  have hW := Lib.hid (((h.alloc (.cells #[.slice sa m.n l.cap] 76)).alloc (.cells #[.slice none 0 0, .slice none 0 0, .slice none 0 0] 79)).step (Below.refl _ _).drew)
  clear h
  go_enter Try.func51, Try.ntmps51
  go_wp2_with fail
  have k0 : ((w.alloc (.cells #[.slice sa m.n l.cap] 76)).alloc (.cells #[.slice none 0 0, .slice none 0 0, .slice none 0 0] 79)).drew.cell? ⟨w.heap.size, 0, none⟩ = some (.slice sa m.n l.cap) := ((Boxed.new w 76 (.slice sa m.n l.cap)).alloc _).cell
  go_region_held3 (fun w' => w'.cell? ⟨w.heap.size, 0, none⟩ = some (.slice sa m.n l.cap)) (first | with_reducible exact k0 | with_reducible exact b0 | with_reducible exact b1 _ | with_reducible exact past3 (b1 _) _ _ _) (first | (go_at_call 89; refine (turned_ex hW.out).mono ?_; rintro e w2 ⟨tb, tG, rfl, hw2, hO2, hb2, hG2⟩; have hl3 := later3 (hw2.mono (by simp)); have hl1 := later1 (hw2.mono (by simp)); have b0 := (hl1 (.cells #[] 3)).1; have b1 := fun o => (hl1 o).2; have r0 := fun o => (hl3 o 0 (by omega)).1; have r1 := fun o => (hl3 o 1 (by omega)).1; have r2 := fun o => (hl3 o 2 (by omega)).1; have f0 := fun o => (hl3 o 0 (by omega)).2; have f1 := fun o => (hl3 o 1 (by omega)).2; have f2 := fun o => (hl3 o 2 (by omega)).2; have hE := Lib.hid (alg_end (sa := sa) (l := l) (na := na) (k := k) (nc := nc) hw2 hO2 hb2 hG2); clear hl3 hl1 hb2 hG2 hw2 hO2))
  all_goals
    go_wp2_with fail
    have hT := told3 (x := .slice sa m.n l.cap) (y := .slice na k nc) (z := .slice (some ⟨w2.heap.size, 0, none⟩) 2 2) (r0 (.cells #[.func (.func 90) #[.agg #[.slice sa m.n l.cap]] #[], .func (.func 90) #[.agg #[.slice (some ⟨tb, 0, none⟩) m.n m.n]] #[]] 126)) (r1 _) (r2 _)
    have q0 := hT.1
    have q1 := hT.2.1
    have q2 := hT.2.2
    refine bodyPost_ret (v := algV sa l m na k nc w2.heap.size) (by simp [results, Try.results51, go_sem, q0, q1, q2, algV]) rfl ⟨w2.heap.size, tb, tG, rfl, hE.out.1, hE.out.2.1, hE.out.2.2⟩
end Go.Proofs.Ytojcgmgponnlpaa
namespace Go.Proofs.Ytojcgmgponnlpaa
open Go.RowKit Go.Deep

/-- A struct was boxed in world w, in a block of its own; since then the call has only made memory. -/
structure BoxN (w : World) (cs : Array Value) (t : TypeId) (wr : World) : Prop where
  since : Below (w.heap.size + 1) (w.alloc (.cells cs t)) wr
theorem BoxN.start (w : World) (cs : Array Value) (t : TypeId) : BoxN w cs t (w.alloc (.cells cs t)) := ⟨Below.refl _ _⟩
theorem BoxN.size {w wr : World} {cs : Array Value} {t : TypeId} (h : BoxN w cs t wr) : w.heap.size + 1 ≤ wr.heap.size := by
  have := h.since.size
  rwa [World.size_alloc] at this
theorem BoxN.step {w wr w1 : World} {cs : Array Value} {t : TypeId} (h : BoxN w cs t wr) (k : Below wr.heap.size wr w1) : BoxN w cs t w1 := ⟨h.since.trans (k.mono h.size)⟩
theorem BoxN.cell {w wr : World} {cs : Array Value} {t : TypeId} (h : BoxN w cs t wr) (i : Nat) {v : Value} (hv : cs[i]? = some v) : wr.cell? ⟨w.heap.size, i, none⟩ = some v :=
  (h.since.cell (p := ⟨w.heap.size, i, none⟩) (Nat.lt_succ_self _)).trans (by
    have e := World.alloc_heap_new w (.cells cs t)
    simp only [World.cell?, e]
    exact hv)
theorem BoxN.below {w wr : World} {cs : Array Value} {t : TypeId} (h : BoxN w cs t wr) : Below w.heap.size w wr :=
  ((Below.refl _ w).alloc (Nat.le_refl _) _).trans (h.since.mono (Nat.le_succ _))

set_option maxRecDepth 100000 in
set_option maxHeartbeats 1000000 in
theorem made_meet {w : World} {ob tb B k nc a b : Nat} {tG : Nat → Nat} {sa na : Option Addr} {l : Lay} {m : Mx} (hA : Alg w ob tb tG sa l m) (hS : SqAt w B sa l m) (ha : a < m.n) (hb : b < m.n) :
    Calls Try.prog 92 #[algV sa l m na k nc ob, .int .i64 0, .int .i64 a, .int .i64 b] w fun e w' => e = .returned (.int .i64 (meetI m a b)) ∧ Below w.heap.size w w' := by
  have hb1 := (Below.refl w.heap.size w).alloc (Nat.le_refl _) (.cells #[.slice sa m.n l.cap, .slice na k nc, .slice (some ⟨ob, 0, none⟩) 2 2] 79)
  have hA1 := hA.step hb1
  have c0 := hA1.op0
  have hS1 := hS.alloc (.cells #[.slice sa m.n l.cap, .slice na k nc, .slice (some ⟨ob, 0, none⟩) 2 2] 79)
  have HS1 := Lib.hid hS1
  clear hA hA1 hS hS1
  unfold algV
  go_enter Try.func92, Try.ntmps92
  go_wp2_with fail
  go_at_call 90
  refine (meet_sq HS1.out ha hb).mono ?_
  rintro e w1 ⟨rfl, h1⟩
  go_wp2_with fail
  go_ret
  exact ⟨rfl, hb1.trans (h1.mono hb1.size)⟩

set_option maxRecDepth 100000 in
set_option maxHeartbeats 2000000 in
theorem kept_any {w : World} {ob tb B B' g o k nc : Nat} {tG : Nat → Nat} {sa na : Option Addr} {l : Lay} {m : Mx} {z : Nat → Int} {y : Nat → Nat} (hA : Alg w ob tb tG sa l m) (hS : SqAt w B sa l m)
    (hR : RowAt w B' na g o k z) (hB' : B' ≤ w.heap.size) (hpos : 1 ≤ m.n) (hk : k = m.n) (hy : ∀ a, a < m.n → z a = (y a : Int) ∧ y a < m.n) :
    Calls Try.prog 53 #[algV sa l m na k nc ob] w fun e w' => e = .returned (.bool (keptB m y)) ∧ Below w.heap.size w w' := by
  subst hk
  obtain ⟨rfl, hg1, hg2⟩ := hR.row 0 (by omega)
  clear hg1 hg2
  have hn := hS.hi
  have hX := BoxN.start w #[.slice sa m.n l.cap, .slice (some ⟨g, o, none⟩) m.n nc, .slice (some ⟨ob, 0, none⟩) 2 2] 79
  have hb1 := hX.below
  have HS := Lib.hid hS
  have HA := Lib.hid hA
  have HR := Lib.hid hR
  have HY := Lib.hid hy
  clear hS hA hR hy
  unfold algV
  go_enter Try.func53, Try.ntmps53
  go_wp2_with fail
  go_at_call 91
  refine (least_sq (HS.out.step hb1)).mono ?_
  rintro e w1 ⟨rfl, h1⟩
  have hX1 := hX.step h1
  have q0 := hX1.cell 0 rfl
  have q1 := hX1.cell 1 rfl
  have q2 := hX1.cell 2 rfl
  clear hX
  go_wp2_with fail
  clear q0 q1 q2
  go_loopw [16] (fun i wi => ∃ j : Nat, j ≤ m.n ∧ i = .int .i64 j ∧ Hid (∀ c, c < j → keptPB m y c = true) ∧ Below w1.heap.size w1 wi) (fun i _ => m.n - (intOf i).toNat)
  case atStart => exact ⟨0, Nat.zero_le _, rfl, fun c hc => absurd hc (Nat.not_lt_zero _), Below.refl _ _⟩
  case round =>
    obtain ⟨j, hj, rfl, hP, hb⟩ := hrel
    by_cases hlt : j < m.n
    · have hlt' : (j : Int) < m.n := by omega
      have hXi := hX1.step hb
      have hbw := hXi.below
      have q0 := hXi.cell 0 rfl
      have q1 := hXi.cell 1 rfl
      have q2 := hXi.cell 2 rfl
      obtain ⟨_, _, c1⟩ := (HR.out.below (hbw.mono hB')).row j hlt
      obtain ⟨e1, e2⟩ := HY.out j hlt
      rw [e1] at c1
      have hSi := Lib.hid (HS.out.step hbw)
      have hAi := Lib.hid (HA.out.step hbw)
      clear hXi hbw e1
      by_cases hm : meetI m j (y j) = leastI m
      · have HM := Lib.hid hm
        clear hm
        have e0 : (leastI m != leastI m) = false := by simp
        go_wp2_with fail
        go_at_call 92
        refine (made_meet hAi.out hSi.out hlt e2).mono ?_
        rintro e w2 ⟨rfl, h2⟩
        rw [HM.out]
        have hb2 := hb.trans (h2.mono hb.size)
        clear q0 q1 q2 c1
        go_wp2_with fail
        go_roundw
        case rel => exact ⟨j + 1, by omega, by go_num, fun c hc => by
          by_cases e : c = j
          · subst e; unfold keptPB; exact decide_eq_true HM.out
          · exact hP.out c (by omega), hb2⟩
        case measure => simp [intOf]; omega
      · have e0 : (meetI m j (y j) != leastI m) = true := by simpa using hm
        have HM := Lib.hid hm
        clear hm
        go_wp2_with fail
        go_at_call 92
        refine (made_meet hAi.out hSi.out hlt e2).mono ?_
        rintro e w2 ⟨rfl, h2⟩
        have hb2 := hb.trans (h2.mono hb.size)
        clear q0 q1 q2 c1
        go_wp2_with fail
        go_ret
        exact ⟨ret_bool (allB_false hlt (decide_eq_false HM.out)).symm, (hX1.below).trans (hb2.mono (by have := hX1.below.size; omega))⟩
    · have hlt' : ¬ (j : Int) < m.n := by omega
      have HT : Hid (true = keptB m y) := (allB_true fun c hc => hP.out c (by omega)).symm
      go_wp2_with fail
      go_ret
      exact ⟨ret_bool HT.out, (hX1.below).trans (hb.mono (by have := hX1.below.size; omega))⟩
end Go.Proofs.Ytojcgmgponnlpaa
namespace Go.Proofs.Ytojcgmgponnlpaa
open Go.RowKit Go.Deep Go.Shelf

theorem rows_round {l n : Nat} {P : Program} {row : String} {args : Array Value} {w : World} {R : Value → World → Prop} (h : Rows P row args w R) : RowsIn (Fence.wide.inRound l) n P row args w R :=
  fun c cs _ => let ⟨v, w', r, s⟩ := h c cs; ⟨v, w', r, stepsIn_wide.2 s⟩
theorem opIn_of_op {l n : Nat} {P : Program} {o : Oper} {a : Act} {w : World} {K : Act → World → Prop} {Q : Exit → Act → World → Prop} (hd : ∀ c, o.op ≠ .defer c) (h : o.wp P a w K Q) : o.wpIn (Fence.wide.inRound l) n P a w K Q := by
  refine ⟨fun _ _ => trivial, ?_⟩
  rw [Oper.semAt_eq _ _ _ hd]
  unfold Oper.wp at h
  generalize (execOp a.eval o).run P w = r at h ⊢
  cases r with
  | ok x w' =>
    cases x <;> first
      | exact h
      | exact ⟨fun e => by simp [Fence.inRound, Fence.wide] at e, CallsIn.inRound l (callsIn_wide.2 h)⟩
      | exact ⟨fun e => by simp [Fence.inRound, Fence.wide] at e, rows_round h⟩
      | exact False.elim h
  | halt x w' => cases x <;> first | exact h | exact False.elim h

theorem anyIn_of_any {l n : Nat} {P : Program} {md : Region.Mode} {ops : Array Oper} {Q : Exit → Act → World → Prop} (hd : ∀ (i : Nat) (o : Oper) c, ops[i]? = some o → o.op ≠ .defer c) (hL : ¬ LetsOut Q) :
    ∀ (fuel : Nat) (listed : Array Bool) (a : Act) (w : World), wpAny P md ops Q fuel listed a w → wpAnyIn (Fence.wide.inRound l) n P md ops Q fuel listed a w
  | 0, _, _, _, h => h
  | fuel + 1, listed, a, w, h => ⟨h.1, fun i hi => by
    have h1 := h.2 i hi
    unfold wpOp at h1
    unfold wpOpIn
    cases ho : ops[i]? with
    | none =>
      rw [ho] at h1
      exact anyIn_of_any hd hL fuel _ _ _ h1
    | some o =>
      rw [ho] at h1
      simp only at h1 ⊢
      by_cases hw : Region.wanted o (yielded ops a.tmps) = true
      · rw [if_pos hw] at h1 ⊢
        rcases h1 with h1 | ⟨_, h1⟩
        · exact opIn_of_op (fun c => hd i o c ho) (Oper.wp_mono (fun a' w' => anyIn_of_any hd hL fuel _ a' w') h1)
        · exact absurd h1 hL
      · rw [if_neg hw] at h1 ⊢
        exact ⟨fun _ _ => trivial, anyIn_of_any hd hL fuel _ _ _ h1⟩⟩

def noDefer (o : Oper) : Bool := match o.op with
  | .defer _ => false
  | _ => true
theorem region_round {l n id : Nat} {P : Program} {ops : Array Oper} {Q : Exit → Act → World → Prop} {a : Act} {w : World} (S : World → Prop) (hm : P.follows .mixedOrders = true) (hd : ops.all noDefer = true)
    (h : wpAnyH P .any ops (fun e a w => e = .normal ∧ Q .normal a w) S ops.size (Array.replicate ops.size false) a w.drew) : (Code.region id ops true).wpIn (Fence.wide.inRound l) n P Q a w := by
  refine Go.wpIn_mono (Q := fun e a w => e = .normal ∧ Q .normal a w) (wpIn_region_any hm (anyIn_of_any (fun i o c hi he => ?_) (fun hl => by obtain ⟨_, _, he, _⟩ := hl; cases he) _ _ _ _ (wpAny_of_held _ _ _ _ h))) fun e a w ⟨he, hq⟩ => by subst he; exact hq
  rw [Array.all_eq_true_iff_forall_mem] at hd
  have := hd o (Array.mem_of_getElem? hi)
  unfold noDefer at this
  rw [he] at this
  cases this
theorem at_drop {ops : Array Oper} {i : Nat} {o : Oper} {rest : List Oper} (h : ops.toList.drop i = o :: rest) : ops[i]? = some o := by
  have h1 : (ops.toList.drop i)[0]? = some o := by rw [h]; rfl
  rw [List.getElem?_drop, Nat.add_zero, Array.getElem?_toList] at h1
  exact h1
/-- An operation that is wanted is taken first. -/
theorem hold_take {P : Program} {md : Region.Mode} {ops : Array Oper} {Q : Act → World → Prop} {S : World → Prop} {i d fuel : Nat} {v : Value} {listed listed' : Array Bool} {a : Act} {w : World} {o : Oper} {rest : List Oper} (hi : ops.toList.drop i = o :: rest)
    (hs : Region.noSelect ops = true) (hf : Region.free md ops listed i = true) (hr : (Region.ready md ops listed).contains i = true) (hd : o.dst = some d) (hw : Region.wanted o (yielded ops a.tmps) = true) (hl : listed.setIfInBounds i true = listed')
    (hS : S w) (hv : ∀ w, S w → (execOp a.eval o).run P w = .ok (.value v) w)
    (h : wpAnyH P md ops (fun e a w => e = .normal ∧ Q a w) S fuel listed' { tmps := a.tmps.setIfInBounds d v, defers := a.defers } w) : wpAnyH P md ops (fun e a w => e = .normal ∧ Q a w) S (fuel + 1) listed a w := by
  refine wpAnyH_take (v := v) (at_drop hi) hs hf hr (fun _ _ _ h => by cases h.1) (.inl ⟨hw, hv⟩) hS ?_
  rw [hl, hd]
  exact h
/-- An operation that is not wanted is taken first. -/
theorem hold_skip {P : Program} {md : Region.Mode} {ops : Array Oper} {Q : Act → World → Prop} {S : World → Prop} {i d fuel : Nat} {listed listed' : Array Bool} {a : Act} {w : World} {o : Oper} {rest : List Oper} (hi : ops.toList.drop i = o :: rest)
    (hs : Region.noSelect ops = true) (hf : Region.free md ops listed i = true) (hr : (Region.ready md ops listed).contains i = true) (hd : o.dst = some d) (hw : Region.wanted o (yielded ops a.tmps) = false) (hl : listed.setIfInBounds i true = listed')
    (hS : S w)
    (h : wpAnyH P md ops (fun e a w => e = .normal ∧ Q a w) S fuel listed' { tmps := a.tmps.setIfInBounds d undef, defers := a.defers } w) : wpAnyH P md ops (fun e a w => e = .normal ∧ Q a w) S (fuel + 1) listed a w := by
  refine wpAnyH_take (v := undef) (at_drop hi) hs hf hr (fun _ _ _ h => by cases h.1) (.inr ⟨hw, rfl⟩) hS ?_
  rw [hl, hd]
  exact h
/-- A call that alone may come up: its contract, and S behind it. -/
theorem hold_call {P : Program} {md : Region.Mode} {ops : Array Oper} {Q : Act → World → Prop} {S : World → Prop} {i d fuel : Nat} {listed listed' : Array Bool} {a : Act} {w : World} {o : Oper} {rest : List Oper} {f : FuncId} {args : Array Value} {R : Ending → World → Prop} (hi : ops.toList.drop i = o :: rest)
    (hr : Region.ready md ops listed = [i]) (hd : o.dst = some d) (hw : Region.wanted o (yielded ops a.tmps) = true) (hl : listed.setIfInBounds i true = listed')
    (he : (execOp a.eval o).run P w = .ok (.enter f args) w) (hc : Calls P f args w R)
    (h : ∀ e w', R e w' → ∃ v, e = .returned v ∧ S w' ∧ wpAnyH P md ops (fun e a w => e = .normal ∧ Q a w) S fuel listed' { tmps := a.tmps.setIfInBounds d v, defers := a.defers } w') : wpAnyH P md ops (fun e a w => e = .normal ∧ Q a w) S (fuel + 1) listed a w := by
  refine wpAnyH_all hr (by simp) fun j hj => ?_
  obtain rfl : j = i := by simpa using hj
  unfold wpOp
  rw [at_drop hi]
  simp only
  rw [if_pos hw, hl]
  refine .inl ?_
  unfold Oper.wp
  rw [he, Oper.upon_enter]
  refine hc.mono fun e w' hR => ?_
  obtain ⟨v, rfl, hS, hA⟩ := h e w' hR
  rw [hd]
  exact ⟨hS, hA⟩
theorem region_hold {l n id fuel : Nat} {P : Program} {ops : Array Oper} {listed : Array Bool} {Q : Exit → Act → World → Prop} {a : Act} {w : World} (S : World → Prop) (hm : P.follows .mixedOrders = true) (hd : ops.all noDefer = true) (hf : ops.size = fuel) (hl : Array.replicate ops.size false = listed)
    (h : wpAnyH P .any ops (fun e a w => e = .normal ∧ Q .normal a w) S fuel listed a w.drew) : (Code.region id ops true).wpIn (Fence.wide.inRound l) n P Q a w :=
  region_round S hm hd (by rw [hl, hf]; exact h)
theorem hold_done {P : Program} {md : Region.Mode} {ops : Array Oper} {Q : Act → World → Prop} {S : World → Prop} {listed : Array Bool} {a : Act} {w : World} (hr : Region.ready md ops listed = []) (h : Q a w) :
    ∀ fuel, wpAnyH P md ops (fun e a w => e = .normal ∧ Q a w) S fuel listed a w := wpAnyH_done hr ⟨rfl, h⟩
theorem region_plain {id fuel : Nat} {P : Program} {ops : Array Oper} {listed : Array Bool} {Q : Exit → Act → World → Prop} {a : Act} {w : World} (S : World → Prop) (hm : P.follows .mixedOrders = true) (hf : ops.size = fuel) (hl : Array.replicate ops.size false = listed)
    (h : wpAnyH P .any ops (fun e a w => e = .normal ∧ Q .normal a w) S fuel listed a w.drew) : (Code.region id ops true).wp P Q a w := by
  refine Go.wp_mono (Q := fun e a w => e = .normal ∧ Q .normal a w) (wp_region_held (S := S) hm (by rw [hl, hf]; exact h)) fun e a w hq => ?_
  obtain ⟨he, hq⟩ := hq
  subst he
  exact hq
/-- A store that alone may come up. -/
theorem hold_store {P : Program} {md : Region.Mode} {ops : Array Oper} {Q : Act → World → Prop} {S : World → Prop} {i fuel : Nat} {listed listed' : Array Bool} {a : Act} {w w' : World} {o : Oper} {rest : List Oper} (hi : ops.toList.drop i = o :: rest)
    (hr : Region.ready md ops listed = [i]) (hd : o.dst = none) (hw : Region.wanted o (yielded ops a.tmps) = true) (hl : listed.setIfInBounds i true = listed')
    (he : (execOp a.eval o).run P w = .ok .skip w') (hS : S w')
    (h : wpAnyH P md ops (fun e a w => e = .normal ∧ Q a w) S fuel listed' a w') : wpAnyH P md ops (fun e a w => e = .normal ∧ Q a w) S (fuel + 1) listed a w := by
  refine wpAnyH_all hr (by simp) fun j hj => ?_
  obtain rfl : j = i := by simpa using hj
  unfold wpOp
  rw [at_drop hi]
  simp only
  rw [if_pos hw, hl]
  refine .inl ?_
  unfold Oper.wp
  rw [he, Oper.upon_skip, hd]
  exact ⟨hS, h⟩
end Go.Proofs.Ytojcgmgponnlpaa
namespace Go.Proofs.Ytojcgmgponnlpaa
open Go.RowKit Go.Deep Go.Shelf

attribute [local go_sem] Oper.semAt_some

/-- Nothing speaks against the pairs of the list. -/
def AllTurn (m : Mx) (y : Nat → Nat) (pre : List (Fin m.n × Fin m.n)) : Prop := ∀ p ∈ pre, turnPB m y p.1.val p.2.val = true
theorem AllTurn.snoc {m : Mx} {y : Nat → Nat} {pre : List (Fin m.n × Fin m.n)} (h : AllTurn m y pre) {x : Fin m.n × Fin m.n} (hx : turnPB m y x.1.val x.2.val = true) : AllTurn m y (pre ++ [x]) := fun p hp => by
  rcases List.mem_append.1 hp with e | e
  · exact h p e
  · have e' : p = x := by simpa using e
    rw [e']; exact hx

set_option maxRecDepth 100000 in
set_option maxHeartbeats 2000000 in
theorem turn_any {w : World} {ob B B' g o k nc : Nat} {sa na : Option Addr} {l : Lay} {m : Mx} {z : Nat → Int} {y : Nat → Nat} (hS : SqAt w B sa l m)
    (hR : RowAt w B' na g o k z) (hB' : B' ≤ w.heap.size) (hpos : 1 ≤ m.n) (hk : k = m.n) (hy : ∀ a, a < m.n → z a = (y a : Int) ∧ y a < m.n) :
    Calls Try.prog 52 #[algV sa l m na k nc ob] w fun e w' => e = .returned (.bool (turnB m y)) ∧ Below w.heap.size w w' := by
  subst hk
  obtain ⟨rfl, hg1, hg2⟩ := hR.row 0 (by omega)
  clear hg1 hg2
  have hn := hS.hi
  have hX := BoxN.start w #[.slice sa m.n l.cap, .slice (some ⟨g, o, none⟩) m.n nc, .slice (some ⟨ob, 0, none⟩) 2 2] 79
  have hb1 := hX.below
  have hV := Boxd.start (w.alloc (.cells #[.slice sa m.n l.cap, .slice (some ⟨g, o, none⟩) m.n nc, .slice (some ⟨ob, 0, none⟩) 2 2] 79)) (.bool false) 4
  have hX1 := hX.step (hV.below.mono (by simp))
  have q0 := hX1.cell 0 rfl
  have HS := Lib.hid hS
  have HR := Lib.hid hR
  have HY := Lib.hid hy
  clear hS hR hy
  unfold algV
  refine (callsIn_wide (n := 9)).1 ?_
  refine callsIn_of_wp_marks Try.func52 rfl trivial ?_ rfl
  simp only [Try.ntmps52, List.size_toArray, List.length_cons, List.length_nil, Nat.reduceAdd, Nat.reduceSub, Array.replicate_succ, Array.replicate_zero, List.push_toArray, List.append_toArray, List.nil_append, List.cons_append]
  gi_wp2_with fail
  refine ⟨trivial, ?_⟩
  refine (pairs_any _ _ _).mono ?_
  rintro e w' ⟨rfl, rfl⟩
  gi_wp2_with fail
  have hP := Boxd.start ((w.alloc (.cells #[.slice sa m.n l.cap, .slice (some ⟨g, o, none⟩) m.n nc, .slice (some ⟨ob, 0, none⟩) 2 2] 79)).alloc (.cells #[.bool false] 4)) (.slice sa m.n l.cap) 76
  have hP0 := hP.cell
  have hPs := hP.size
  have hPb := hP.below
  have e1 : (w.alloc (.cells #[.slice sa m.n l.cap, .slice (some ⟨g, o, none⟩) m.n nc, .slice (some ⟨ob, 0, none⟩) 2 2] 79)).heap.size = w.heap.size + 1 := World.size_alloc _ _
  have e2 : ((w.alloc (.cells #[.slice sa m.n l.cap, .slice (some ⟨g, o, none⟩) m.n nc, .slice (some ⟨ob, 0, none⟩) 2 2] 79)).alloc (.cells #[.bool false] 4)).heap.size = w.heap.size + 1 + 1 := by rw [World.size_alloc, e1]
  rw [e2] at hP0 hPs
  have hX2 := hX1.step hPb
  have hV2 := hV.step hPb
  clear hP hX1 hX hV q0 hPb
  generalize hW0 : (((w.alloc (.cells #[.slice sa m.n l.cap, .slice (some ⟨g, o, none⟩) m.n nc, .slice (some ⟨ob, 0, none⟩) 2 2] 79)).alloc (.cells #[.bool false] 4)).alloc (.cells #[.slice sa m.n l.cap] 76)) = W0 at hX2 hV2 hP0 hPs ⊢
  clear hW0
  have hV1 := hV2.since
  have hVc := hV2.cell
  have hVf := hV2.frozen
  rw [e1] at hV1 hVc hVf
  clear e1 e2 hV2 hV1
  have hbw : Below w.heap.size w W0 := hX2.below
  refine wpIn_rangeFunc_ownG rfl (by omega) (gf := 95) (lb := #[.pointer (some ⟨w.heap.size + 1 + 1, 0, none⟩)]) rfl trivial (enters_of Try.func95 (by kernel_rfl) rfl)
    (pairs_stops _ m.n (by omega) hn (w.heap.size + 1 + 1) W0.heap.size l.cap sa W0 (by omega) (Nat.le_refl _) hP0) belowK_t (belowK_b (Nat.le_refl _)) (Below.refl _ _) (fun _ => rfl)
    (fun pre W => AllTurn m y pre ∧ Below W0.heap.size W0 W)
    (fun c _ W => (c = .ret ∧ turnB m y = false) ∧ W.cell? ⟨w.heap.size + 1, 0, none⟩ = some (.bool false) ∧ Below w.heap.size w W)
    (OwnFrom.and (ownFrom_pure _ _) (ownFrom_below (Nat.le_refl _) (Nat.le_refl _)))
    (fun c => OwnFrom.and (ownFrom_pure _ _) (OwnFrom.and (Own.from (fun s A B row hs hg hr => cell_kept hs hg hr) _) (ownFrom_below (Nat.le_refl _) hbw.size)))
    ⟨fun p hp => absurd hp (by simp), Below.refl _ _⟩
    (fun x => { tmps := #[.agg #[.slice sa m.n l.cap, .slice (some ⟨g, o, none⟩) m.n nc, .slice (some ⟨ob, 0, none⟩) 2 2], .pointer (some ⟨w.heap.size, 0, none⟩), .pointer (some ⟨w.heap.size + 1, 0, none⟩),
        .int .i64 ((x.1.val : Nat) : Int), .int .i64 ((x.2.val : Nat) : Int), .pointer (some ⟨w.heap.size, 0, none⟩), .agg #[.slice sa m.n l.cap], .func (.func 95) #[] #[.pointer (some ⟨w.heap.size + 1 + 1, 0, none⟩)],
        .int .i64 ((x.1.val : Nat) : Int), .int .i64 ((x.2.val : Nat) : Int), undef, undef, undef, undef, undef, undef, undef, undef, undef, undef, undef, undef, undef, undef, undef, undef, undef, undef, undef, undef, undef], defers := [] }) ?assign ?body ?done ?stop
  case assign =>
    intro lr x W K hK
    dsimp only
    clear hP0 hX2 hVc hVf HR HY HS hbw hPs hpos hn hB'
    gi_wp2
    exact hK
  case body =>
    rintro lr pre ⟨⟨a, ha⟩, ⟨b, hb⟩⟩ W ⟨hp0, hB⟩ _
    have hp := Lib.hid hp0
    have hXW := hX2.step hB
    have hbW := hXW.below
    have q0 := hXW.cell 0 rfl
    have q1 := hXW.cell 1 rfl
    have hS1 := HS.out.step hbW
    have hSd := Lib.hid (hS1.step (Below.refl _ W).drew)
    have v0 := (hB.cell (p := ⟨w.heap.size + 1, 0, none⟩) (by show w.heap.size + 1 < _; omega)).trans hVc
    have vf := (hB.frozen (p := ⟨w.heap.size + 1, 0, none⟩) (by show w.heap.size + 1 < _; omega)).trans hVf
    have hs := hB.size
    have hr := HR.out.below (hbW.mono hB')
    obtain ⟨_, _, c1⟩ := hr.row a ha
    obtain ⟨_, _, c2⟩ := hr.row b hb
    obtain ⟨ya, ya'⟩ := HY.out a ha
    obtain ⟨yb, yb'⟩ := HY.out b hb
    rw [ya] at c1
    rw [yb] at c2
    have hgB : g < w.heap.size := by
      obtain ⟨_, hg, _⟩ := HR.out.row a ha
      omega
    have ha' : (a : Int) < m.n := by omega
    have hb' : (b : Int) < m.n := by omega
    have hn1 : 1 ≤ 9 - 1 - 1 := by omega
    dsimp only
    clear hp0 hP0 hX2 hVc hVf ya yb hr hS1 hXW
    have hS : (fun w' => w'.cell? ⟨w.heap.size, 0, none⟩ = some (.slice sa m.n l.cap) ∧ w'.cell? ⟨w.heap.size, 1, none⟩ = some (.slice (some ⟨g, o, none⟩) m.n nc) ∧ w'.cell? ⟨g, o + a, none⟩ = some (.int .i64 (y a)) ∧ w'.cell? ⟨g, o + b, none⟩ = some (.int .i64 (y b))) W.drew := ⟨q0, q1, c1, c2⟩
    have hgW : g < W.heap.size := by have := hbW.size; omega
    have hwW : w.heap.size < W.heap.size := by omega
    have hkeep : Hid (∀ w1, Below W.heap.size W w1 → (fun w' => w'.cell? ⟨w.heap.size, 0, none⟩ = some (.slice sa m.n l.cap) ∧ w'.cell? ⟨w.heap.size, 1, none⟩ = some (.slice (some ⟨g, o, none⟩) m.n nc) ∧ w'.cell? ⟨g, o + a, none⟩ = some (.int .i64 (y a)) ∧ w'.cell? ⟨g, o + b, none⟩ = some (.int .i64 (y b))) w1) := fun w1 hb1 => ⟨(hb1.cell (p := ⟨w.heap.size, 0, none⟩) hwW).trans q0, (hb1.cell (p := ⟨w.heap.size, 1, none⟩) hwW).trans q1, (hb1.cell (p := ⟨g, o + a, none⟩) hgW).trans c1, (hb1.cell (p := ⟨g, o + b, none⟩) hgW).trans c2⟩
    gi_wp2_with fail
    cases h1 : leB m a b with
    | false =>
      have H1 := Lib.hid h1
      clear h1
      refine region_hold (fuel := 21) (listed := #[false, false, false, false, false, false, false, false, false, false, false, false, false, false, false, false, false, false, false, false, false]) (fun w' => w'.cell? ⟨w.heap.size, 0, none⟩ = some (.slice sa m.n l.cap) ∧ w'.cell? ⟨w.heap.size, 1, none⟩ = some (.slice (some ⟨g, o, none⟩) m.n nc) ∧ w'.cell? ⟨g, o + a, none⟩ = some (.int .i64 (y a)) ∧ w'.cell? ⟨g, o + b, none⟩ = some (.int .i64 (y b))) (by kernel_rfl) (by kernel_rfl) (by kernel_rfl) (by kernel_rfl) ?_
      refine hold_take (i := 0) (d := 10) (v := ?vb0) (listed' := #[true, false, false, false, false, false, false, false, false, false, false, false, false, false, false, false, false, false, false, false, false]) rfl (by kernel_rfl) (by kernel_rfl) (by kernel_rfl) rfl (by rfl) (by kernel_rfl) hS ?hb0 ?rb0
      case hb0 =>
        intro w' hSw
        obtain ⟨k0, k1, k2, k3⟩ := hSw
        go_simp
        try with_reducible rfl
      simp only [List.setIfInBounds_toArray, List.set_cons_zero, List.set_cons_succ]
      refine hold_take (i := 1) (d := 11) (v := ?vb1) (listed' := #[true, true, false, false, false, false, false, false, false, false, false, false, false, false, false, false, false, false, false, false, false]) rfl (by kernel_rfl) (by kernel_rfl) (by kernel_rfl) rfl (by rfl) (by kernel_rfl) hS ?hb1 ?rb1
      case hb1 =>
        intro w' hSw
        obtain ⟨k0, k1, k2, k3⟩ := hSw
        go_simp
        try with_reducible rfl
      simp only [List.setIfInBounds_toArray, List.set_cons_zero, List.set_cons_succ]
      refine hold_take (i := 2) (d := 12) (v := ?vb2) (listed' := #[true, true, true, false, false, false, false, false, false, false, false, false, false, false, false, false, false, false, false, false, false]) rfl (by kernel_rfl) (by kernel_rfl) (by kernel_rfl) rfl (by rfl) (by kernel_rfl) hS ?hb2 ?rb2
      case hb2 =>
        intro w' hSw
        obtain ⟨k0, k1, k2, k3⟩ := hSw
        go_simp
        try with_reducible rfl
      simp only [List.setIfInBounds_toArray, List.set_cons_zero, List.set_cons_succ]
      refine hold_take (i := 3) (d := 13) (v := ?vb3) (listed' := #[true, true, true, true, false, false, false, false, false, false, false, false, false, false, false, false, false, false, false, false, false]) rfl (by kernel_rfl) (by kernel_rfl) (by kernel_rfl) rfl (by rfl) (by kernel_rfl) hS ?hb3 ?rb3
      case hb3 =>
        intro w' hSw
        obtain ⟨k0, k1, k2, k3⟩ := hSw
        go_simp
        try with_reducible rfl
      simp only [List.setIfInBounds_toArray, List.set_cons_zero, List.set_cons_succ]
      refine hold_call (i := 4) (d := 14) (listed' := #[true, true, true, true, true, false, false, false, false, false, false, false, false, false, false, false, false, false, false, false, false]) rfl (by kernel_rfl) rfl (by rfl) (by kernel_rfl) ?heb4 (below_sq hSd.out ha hb) ?hcb4
      case heb4 => go_simp
      rintro e w1 ⟨rfl, hw1⟩
      rw [H1.out]
      have hall : Below W.heap.size W w1 := (Below.refl _ W).drew.trans hw1
      have hS1 : (fun w' => w'.cell? ⟨w.heap.size, 0, none⟩ = some (.slice sa m.n l.cap) ∧ w'.cell? ⟨w.heap.size, 1, none⟩ = some (.slice (some ⟨g, o, none⟩) m.n nc) ∧ w'.cell? ⟨g, o + a, none⟩ = some (.int .i64 (y a)) ∧ w'.cell? ⟨g, o + b, none⟩ = some (.int .i64 (y b))) w1 := hkeep.out w1 hall
      refine ⟨_, rfl, hS1, ?_⟩
      simp only [List.setIfInBounds_toArray, List.set_cons_zero, List.set_cons_succ]
      refine hold_take (i := 5) (d := 15) (v := ?vb5) (listed' := #[true, true, true, true, true, true, false, false, false, false, false, false, false, false, false, false, false, false, false, false, false]) rfl (by kernel_rfl) (by kernel_rfl) (by kernel_rfl) rfl (by rfl) (by kernel_rfl) hS1 ?hb5 ?rb5
      case hb5 =>
        intro w' hSw
        obtain ⟨k0, k1, k2, k3⟩ := hSw
        go_simp
        try with_reducible rfl
      simp only [List.setIfInBounds_toArray, List.set_cons_zero, List.set_cons_succ]
      refine hold_skip (i := 6) (d := 16) (listed' := #[true, true, true, true, true, true, true, false, false, false, false, false, false, false, false, false, false, false, false, false, false]) rfl (by kernel_rfl) (by kernel_rfl) (by kernel_rfl) rfl (by rfl) (by kernel_rfl) hS1 ?_
      simp only [List.setIfInBounds_toArray, List.set_cons_zero, List.set_cons_succ]
      refine hold_skip (i := 7) (d := 17) (listed' := #[true, true, true, true, true, true, true, true, false, false, false, false, false, false, false, false, false, false, false, false, false]) rfl (by kernel_rfl) (by kernel_rfl) (by kernel_rfl) rfl (by rfl) (by kernel_rfl) hS1 ?_
      simp only [List.setIfInBounds_toArray, List.set_cons_zero, List.set_cons_succ]
      refine hold_skip (i := 8) (d := 18) (listed' := #[true, true, true, true, true, true, true, true, true, false, false, false, false, false, false, false, false, false, false, false, false]) rfl (by kernel_rfl) (by kernel_rfl) (by kernel_rfl) rfl (by rfl) (by kernel_rfl) hS1 ?_
      simp only [List.setIfInBounds_toArray, List.set_cons_zero, List.set_cons_succ]
      refine hold_skip (i := 9) (d := 19) (listed' := #[true, true, true, true, true, true, true, true, true, true, false, false, false, false, false, false, false, false, false, false, false]) rfl (by kernel_rfl) (by kernel_rfl) (by kernel_rfl) rfl (by rfl) (by kernel_rfl) hS1 ?_
      simp only [List.setIfInBounds_toArray, List.set_cons_zero, List.set_cons_succ]
      refine hold_skip (i := 10) (d := 20) (listed' := #[true, true, true, true, true, true, true, true, true, true, true, false, false, false, false, false, false, false, false, false, false]) rfl (by kernel_rfl) (by kernel_rfl) (by kernel_rfl) rfl (by rfl) (by kernel_rfl) hS1 ?_
      simp only [List.setIfInBounds_toArray, List.set_cons_zero, List.set_cons_succ]
      refine hold_skip (i := 11) (d := 21) (listed' := #[true, true, true, true, true, true, true, true, true, true, true, true, false, false, false, false, false, false, false, false, false]) rfl (by kernel_rfl) (by kernel_rfl) (by kernel_rfl) rfl (by rfl) (by kernel_rfl) hS1 ?_
      simp only [List.setIfInBounds_toArray, List.set_cons_zero, List.set_cons_succ]
      refine hold_skip (i := 12) (d := 22) (listed' := #[true, true, true, true, true, true, true, true, true, true, true, true, true, false, false, false, false, false, false, false, false]) rfl (by kernel_rfl) (by kernel_rfl) (by kernel_rfl) rfl (by rfl) (by kernel_rfl) hS1 ?_
      simp only [List.setIfInBounds_toArray, List.set_cons_zero, List.set_cons_succ]
      refine hold_skip (i := 13) (d := 23) (listed' := #[true, true, true, true, true, true, true, true, true, true, true, true, true, true, false, false, false, false, false, false, false]) rfl (by kernel_rfl) (by kernel_rfl) (by kernel_rfl) rfl (by rfl) (by kernel_rfl) hS1 ?_
      simp only [List.setIfInBounds_toArray, List.set_cons_zero, List.set_cons_succ]
      refine hold_skip (i := 14) (d := 24) (listed' := #[true, true, true, true, true, true, true, true, true, true, true, true, true, true, true, false, false, false, false, false, false]) rfl (by kernel_rfl) (by kernel_rfl) (by kernel_rfl) rfl (by rfl) (by kernel_rfl) hS1 ?_
      simp only [List.setIfInBounds_toArray, List.set_cons_zero, List.set_cons_succ]
      refine hold_skip (i := 15) (d := 25) (listed' := #[true, true, true, true, true, true, true, true, true, true, true, true, true, true, true, true, false, false, false, false, false]) rfl (by kernel_rfl) (by kernel_rfl) (by kernel_rfl) rfl (by rfl) (by kernel_rfl) hS1 ?_
      simp only [List.setIfInBounds_toArray, List.set_cons_zero, List.set_cons_succ]
      refine hold_skip (i := 16) (d := 26) (listed' := #[true, true, true, true, true, true, true, true, true, true, true, true, true, true, true, true, true, false, false, false, false]) rfl (by kernel_rfl) (by kernel_rfl) (by kernel_rfl) rfl (by rfl) (by kernel_rfl) hS1 ?_
      simp only [List.setIfInBounds_toArray, List.set_cons_zero, List.set_cons_succ]
      refine hold_skip (i := 17) (d := 27) (listed' := #[true, true, true, true, true, true, true, true, true, true, true, true, true, true, true, true, true, true, false, false, false]) rfl (by kernel_rfl) (by kernel_rfl) (by kernel_rfl) rfl (by rfl) (by kernel_rfl) hS1 ?_
      simp only [List.setIfInBounds_toArray, List.set_cons_zero, List.set_cons_succ]
      refine hold_skip (i := 18) (d := 28) (listed' := #[true, true, true, true, true, true, true, true, true, true, true, true, true, true, true, true, true, true, true, false, false]) rfl (by kernel_rfl) (by kernel_rfl) (by kernel_rfl) rfl (by rfl) (by kernel_rfl) hS1 ?_
      simp only [List.setIfInBounds_toArray, List.set_cons_zero, List.set_cons_succ]
      refine hold_skip (i := 19) (d := 29) (listed' := #[true, true, true, true, true, true, true, true, true, true, true, true, true, true, true, true, true, true, true, true, false]) rfl (by kernel_rfl) (by kernel_rfl) (by kernel_rfl) rfl (by rfl) (by kernel_rfl) hS1 ?_
      simp only [List.setIfInBounds_toArray, List.set_cons_zero, List.set_cons_succ]
      refine hold_take (i := 20) (d := 30) (v := ?vb20) (listed' := #[true, true, true, true, true, true, true, true, true, true, true, true, true, true, true, true, true, true, true, true, true]) rfl (by kernel_rfl) (by kernel_rfl) (by kernel_rfl) rfl (by rfl) (by kernel_rfl) hS1 ?hb20 ?rb20
      case hb20 =>
        intro w' hSw
        obtain ⟨k0, k1, k2, k3⟩ := hSw
        go_simp
        try with_reducible rfl
      simp only [List.setIfInBounds_toArray, List.set_cons_zero, List.set_cons_succ]
      refine hold_done (by kernel_rfl) ?_ _
      gi_wp2_with fail
      exact ⟨keepsFrom_below hall, hall.mono hs, hp.out.snoc (by simp [turnPB, H1.out]), hB.trans (hall.mono hs)⟩
    | true =>
      have H1 := Lib.hid h1
      clear h1
      cases h2 : leB m (y b) (y a) with
      | false =>
        have H2 := Lib.hid h2
        clear h2
        refine region_hold (fuel := 21) (listed := #[false, false, false, false, false, false, false, false, false, false, false, false, false, false, false, false, false, false, false, false, false]) (fun w' => w'.cell? ⟨w.heap.size, 0, none⟩ = some (.slice sa m.n l.cap) ∧ w'.cell? ⟨w.heap.size, 1, none⟩ = some (.slice (some ⟨g, o, none⟩) m.n nc) ∧ w'.cell? ⟨g, o + a, none⟩ = some (.int .i64 (y a)) ∧ w'.cell? ⟨g, o + b, none⟩ = some (.int .i64 (y b))) (by kernel_rfl) (by kernel_rfl) (by kernel_rfl) (by kernel_rfl) ?_
        refine hold_take (i := 0) (d := 10) (v := ?vc0) (listed' := #[true, false, false, false, false, false, false, false, false, false, false, false, false, false, false, false, false, false, false, false, false]) rfl (by kernel_rfl) (by kernel_rfl) (by kernel_rfl) rfl (by rfl) (by kernel_rfl) hS ?hc0 ?rc0
        case hc0 =>
          intro w' hSw
          obtain ⟨k0, k1, k2, k3⟩ := hSw
          go_simp
          try with_reducible rfl
        simp only [List.setIfInBounds_toArray, List.set_cons_zero, List.set_cons_succ]
        refine hold_take (i := 1) (d := 11) (v := ?vc1) (listed' := #[true, true, false, false, false, false, false, false, false, false, false, false, false, false, false, false, false, false, false, false, false]) rfl (by kernel_rfl) (by kernel_rfl) (by kernel_rfl) rfl (by rfl) (by kernel_rfl) hS ?hc1 ?rc1
        case hc1 =>
          intro w' hSw
          obtain ⟨k0, k1, k2, k3⟩ := hSw
          go_simp
          try with_reducible rfl
        simp only [List.setIfInBounds_toArray, List.set_cons_zero, List.set_cons_succ]
        refine hold_take (i := 2) (d := 12) (v := ?vc2) (listed' := #[true, true, true, false, false, false, false, false, false, false, false, false, false, false, false, false, false, false, false, false, false]) rfl (by kernel_rfl) (by kernel_rfl) (by kernel_rfl) rfl (by rfl) (by kernel_rfl) hS ?hc2 ?rc2
        case hc2 =>
          intro w' hSw
          obtain ⟨k0, k1, k2, k3⟩ := hSw
          go_simp
          try with_reducible rfl
        simp only [List.setIfInBounds_toArray, List.set_cons_zero, List.set_cons_succ]
        refine hold_take (i := 3) (d := 13) (v := ?vc3) (listed' := #[true, true, true, true, false, false, false, false, false, false, false, false, false, false, false, false, false, false, false, false, false]) rfl (by kernel_rfl) (by kernel_rfl) (by kernel_rfl) rfl (by rfl) (by kernel_rfl) hS ?hc3 ?rc3
        case hc3 =>
          intro w' hSw
          obtain ⟨k0, k1, k2, k3⟩ := hSw
          go_simp
          try with_reducible rfl
        simp only [List.setIfInBounds_toArray, List.set_cons_zero, List.set_cons_succ]
        refine hold_call (i := 4) (d := 14) (listed' := #[true, true, true, true, true, false, false, false, false, false, false, false, false, false, false, false, false, false, false, false, false]) rfl (by kernel_rfl) rfl (by rfl) (by kernel_rfl) ?hec4 (below_sq hSd.out ha hb) ?hcc4
        case hec4 => go_simp
        rintro e w1 ⟨rfl, hw1⟩
        rw [H1.out]
        have hall : Below W.heap.size W w1 := (Below.refl _ W).drew.trans hw1
        have hS1 : (fun w' => w'.cell? ⟨w.heap.size, 0, none⟩ = some (.slice sa m.n l.cap) ∧ w'.cell? ⟨w.heap.size, 1, none⟩ = some (.slice (some ⟨g, o, none⟩) m.n nc) ∧ w'.cell? ⟨g, o + a, none⟩ = some (.int .i64 (y a)) ∧ w'.cell? ⟨g, o + b, none⟩ = some (.int .i64 (y b))) w1 := hkeep.out w1 hall
        refine ⟨_, rfl, hS1, ?_⟩
        simp only [List.setIfInBounds_toArray, List.set_cons_zero, List.set_cons_succ]
        refine hold_take (i := 5) (d := 15) (v := ?vc5) (listed' := #[true, true, true, true, true, true, false, false, false, false, false, false, false, false, false, false, false, false, false, false, false]) rfl (by kernel_rfl) (by kernel_rfl) (by kernel_rfl) rfl (by rfl) (by kernel_rfl) hS1 ?hc5 ?rc5
        case hc5 =>
          intro w' hSw
          obtain ⟨k0, k1, k2, k3⟩ := hSw
          go_simp
          try with_reducible rfl
        simp only [List.setIfInBounds_toArray, List.set_cons_zero, List.set_cons_succ]
        refine hold_take (i := 6) (d := 16) (v := ?vc6) (listed' := #[true, true, true, true, true, true, true, false, false, false, false, false, false, false, false, false, false, false, false, false, false]) rfl (by kernel_rfl) (by kernel_rfl) (by kernel_rfl) rfl (by rfl) (by kernel_rfl) hS1 ?hc6 ?rc6
        case hc6 =>
          intro w' hSw
          obtain ⟨k0, k1, k2, k3⟩ := hSw
          go_simp
          try with_reducible rfl
        simp only [List.setIfInBounds_toArray, List.set_cons_zero, List.set_cons_succ]
        refine hold_take (i := 7) (d := 17) (v := ?vc7) (listed' := #[true, true, true, true, true, true, true, true, false, false, false, false, false, false, false, false, false, false, false, false, false]) rfl (by kernel_rfl) (by kernel_rfl) (by kernel_rfl) rfl (by rfl) (by kernel_rfl) hS1 ?hc7 ?rc7
        case hc7 =>
          intro w' hSw
          obtain ⟨k0, k1, k2, k3⟩ := hSw
          go_simp
          try with_reducible rfl
        simp only [List.setIfInBounds_toArray, List.set_cons_zero, List.set_cons_succ]
        refine hold_take (i := 8) (d := 18) (v := ?vc8) (listed' := #[true, true, true, true, true, true, true, true, true, false, false, false, false, false, false, false, false, false, false, false, false]) rfl (by kernel_rfl) (by kernel_rfl) (by kernel_rfl) rfl (by rfl) (by kernel_rfl) hS1 ?hc8 ?rc8
        case hc8 =>
          intro w' hSw
          obtain ⟨k0, k1, k2, k3⟩ := hSw
          go_simp
          try with_reducible rfl
        simp only [List.setIfInBounds_toArray, List.set_cons_zero, List.set_cons_succ]
        refine hold_take (i := 9) (d := 19) (v := ?vc9) (listed' := #[true, true, true, true, true, true, true, true, true, true, false, false, false, false, false, false, false, false, false, false, false]) rfl (by kernel_rfl) (by kernel_rfl) (by kernel_rfl) rfl (by rfl) (by kernel_rfl) hS1 ?hc9 ?rc9
        case hc9 =>
          intro w' hSw
          obtain ⟨k0, k1, k2, k3⟩ := hSw
          go_simp
          try with_reducible rfl
        simp only [List.setIfInBounds_toArray, List.set_cons_zero, List.set_cons_succ]
        refine hold_take (i := 10) (d := 20) (v := ?vc10) (listed' := #[true, true, true, true, true, true, true, true, true, true, true, false, false, false, false, false, false, false, false, false, false]) rfl (by kernel_rfl) (by kernel_rfl) (by kernel_rfl) rfl (by rfl) (by kernel_rfl) hS1 ?hc10 ?rc10
        case hc10 =>
          intro w' hSw
          obtain ⟨k0, k1, k2, k3⟩ := hSw
          go_simp
          try with_reducible rfl
        simp only [List.setIfInBounds_toArray, List.set_cons_zero, List.set_cons_succ]
        refine hold_take (i := 11) (d := 21) (v := ?vc11) (listed' := #[true, true, true, true, true, true, true, true, true, true, true, true, false, false, false, false, false, false, false, false, false]) rfl (by kernel_rfl) (by kernel_rfl) (by kernel_rfl) rfl (by rfl) (by kernel_rfl) hS1 ?hc11 ?rc11
        case hc11 =>
          intro w' hSw
          obtain ⟨k0, k1, k2, k3⟩ := hSw
          go_simp
          try with_reducible rfl
        simp only [List.setIfInBounds_toArray, List.set_cons_zero, List.set_cons_succ]
        refine hold_take (i := 12) (d := 22) (v := ?vc12) (listed' := #[true, true, true, true, true, true, true, true, true, true, true, true, true, false, false, false, false, false, false, false, false]) rfl (by kernel_rfl) (by kernel_rfl) (by kernel_rfl) rfl (by rfl) (by kernel_rfl) hS1 ?hc12 ?rc12
        case hc12 =>
          intro w' hSw
          obtain ⟨k0, k1, k2, k3⟩ := hSw
          go_simp
          try with_reducible rfl
        simp only [List.setIfInBounds_toArray, List.set_cons_zero, List.set_cons_succ]
        refine hold_take (i := 13) (d := 23) (v := ?vc13) (listed' := #[true, true, true, true, true, true, true, true, true, true, true, true, true, true, false, false, false, false, false, false, false]) rfl (by kernel_rfl) (by kernel_rfl) (by kernel_rfl) rfl (by rfl) (by kernel_rfl) hS1 ?hc13 ?rc13
        case hc13 =>
          intro w' hSw
          obtain ⟨k0, k1, k2, k3⟩ := hSw
          go_simp
          try with_reducible rfl
        simp only [List.setIfInBounds_toArray, List.set_cons_zero, List.set_cons_succ]
        refine hold_take (i := 14) (d := 24) (v := ?vc14) (listed' := #[true, true, true, true, true, true, true, true, true, true, true, true, true, true, true, false, false, false, false, false, false]) rfl (by kernel_rfl) (by kernel_rfl) (by kernel_rfl) rfl (by rfl) (by kernel_rfl) hS1 ?hc14 ?rc14
        case hc14 =>
          intro w' hSw
          obtain ⟨k0, k1, k2, k3⟩ := hSw
          go_simp
          try with_reducible rfl
        simp only [List.setIfInBounds_toArray, List.set_cons_zero, List.set_cons_succ]
        refine hold_take (i := 15) (d := 25) (v := ?vc15) (listed' := #[true, true, true, true, true, true, true, true, true, true, true, true, true, true, true, true, false, false, false, false, false]) rfl (by kernel_rfl) (by kernel_rfl) (by kernel_rfl) rfl (by rfl) (by kernel_rfl) hS1 ?hc15 ?rc15
        case hc15 =>
          intro w' hSw
          obtain ⟨k0, k1, k2, k3⟩ := hSw
          go_simp
          try with_reducible rfl
        simp only [List.setIfInBounds_toArray, List.set_cons_zero, List.set_cons_succ]
        refine hold_take (i := 16) (d := 26) (v := ?vc16) (listed' := #[true, true, true, true, true, true, true, true, true, true, true, true, true, true, true, true, true, false, false, false, false]) rfl (by kernel_rfl) (by kernel_rfl) (by kernel_rfl) rfl (by rfl) (by kernel_rfl) hS1 ?hc16 ?rc16
        case hc16 =>
          intro w' hSw
          obtain ⟨k0, k1, k2, k3⟩ := hSw
          go_simp
          try with_reducible rfl
        simp only [List.setIfInBounds_toArray, List.set_cons_zero, List.set_cons_succ]
        refine hold_take (i := 17) (d := 27) (v := ?vc17) (listed' := #[true, true, true, true, true, true, true, true, true, true, true, true, true, true, true, true, true, true, false, false, false]) rfl (by kernel_rfl) (by kernel_rfl) (by kernel_rfl) rfl (by rfl) (by kernel_rfl) hS1 ?hc17 ?rc17
        case hc17 =>
          intro w' hSw
          obtain ⟨k0, k1, k2, k3⟩ := hSw
          go_simp
          try with_reducible rfl
        simp only [List.setIfInBounds_toArray, List.set_cons_zero, List.set_cons_succ]
        refine hold_call (i := 18) (d := 28) (listed' := #[true, true, true, true, true, true, true, true, true, true, true, true, true, true, true, true, true, true, true, false, false]) rfl (by kernel_rfl) rfl (by rfl) (by kernel_rfl) ?hec18 (below_sq (hSd.out.step hw1) yb' ya') ?hcc18
        case hec18 => go_simp
        rintro e w2 ⟨rfl, hw2⟩
        rw [H2.out]
        have hall2 : Below W.heap.size W w2 := hall.trans (hw2.mono hall.size)
        have hS2 : (fun w' => w'.cell? ⟨w.heap.size, 0, none⟩ = some (.slice sa m.n l.cap) ∧ w'.cell? ⟨w.heap.size, 1, none⟩ = some (.slice (some ⟨g, o, none⟩) m.n nc) ∧ w'.cell? ⟨g, o + a, none⟩ = some (.int .i64 (y a)) ∧ w'.cell? ⟨g, o + b, none⟩ = some (.int .i64 (y b))) w2 := hkeep.out w2 hall2
        refine ⟨_, rfl, hS2, ?_⟩
        simp only [List.setIfInBounds_toArray, List.set_cons_zero, List.set_cons_succ]
        refine hold_take (i := 19) (d := 29) (v := ?vc19) (listed' := #[true, true, true, true, true, true, true, true, true, true, true, true, true, true, true, true, true, true, true, true, false]) rfl (by kernel_rfl) (by kernel_rfl) (by kernel_rfl) rfl (by rfl) (by kernel_rfl) hS2 ?hc19 ?rc19
        case hc19 =>
          intro w' hSw
          obtain ⟨k0, k1, k2, k3⟩ := hSw
          go_simp
          try with_reducible rfl
        simp only [List.setIfInBounds_toArray, List.set_cons_zero, List.set_cons_succ]
        refine hold_take (i := 20) (d := 30) (v := ?vc20) (listed' := #[true, true, true, true, true, true, true, true, true, true, true, true, true, true, true, true, true, true, true, true, true]) rfl (by kernel_rfl) (by kernel_rfl) (by kernel_rfl) rfl (by rfl) (by kernel_rfl) hS2 ?hc20 ?rc20
        case hc20 =>
          intro w' hSw
          obtain ⟨k0, k1, k2, k3⟩ := hSw
          go_simp
          try with_reducible rfl
        simp only [List.setIfInBounds_toArray, List.set_cons_zero, List.set_cons_succ]
        refine hold_done (by kernel_rfl) ?_ _
        have v2 := (hall2.cell (p := ⟨w.heap.size + 1, 0, none⟩) (by show w.heap.size + 1 < _; omega)).trans v0
        have f2 := (hall2.frozen (p := ⟨w.heap.size + 1, 0, none⟩) (by show w.heap.size + 1 < _; omega)).trans vf
        gi_wp2_with fail
        exact ⟨(keepsFrom_below hall2).trans ((KeepsOthers.setCell _ _ _).from _), ⟨rfl, allB_false ha (allB_false hb (by simp [turnPB, H1.out, H2.out]))⟩, World.cell?_setCell_same' _ _ _ (by rw [v2]; rfl), (hbW.trans (hall2.mono (by omega))).setCell (p := ⟨w.heap.size + 1, 0, none⟩) (by show w.heap.size ≤ w.heap.size + 1; omega) _⟩
      | true =>
        have H2 := Lib.hid h2
        clear h2
        refine region_hold (fuel := 21) (listed := #[false, false, false, false, false, false, false, false, false, false, false, false, false, false, false, false, false, false, false, false, false]) (fun w' => w'.cell? ⟨w.heap.size, 0, none⟩ = some (.slice sa m.n l.cap) ∧ w'.cell? ⟨w.heap.size, 1, none⟩ = some (.slice (some ⟨g, o, none⟩) m.n nc) ∧ w'.cell? ⟨g, o + a, none⟩ = some (.int .i64 (y a)) ∧ w'.cell? ⟨g, o + b, none⟩ = some (.int .i64 (y b))) (by kernel_rfl) (by kernel_rfl) (by kernel_rfl) (by kernel_rfl) ?_
        refine hold_take (i := 0) (d := 10) (v := ?vd0) (listed' := #[true, false, false, false, false, false, false, false, false, false, false, false, false, false, false, false, false, false, false, false, false]) rfl (by kernel_rfl) (by kernel_rfl) (by kernel_rfl) rfl (by rfl) (by kernel_rfl) hS ?hd0 ?rd0
        case hd0 =>
          intro w' hSw
          obtain ⟨k0, k1, k2, k3⟩ := hSw
          go_simp
          try with_reducible rfl
        simp only [List.setIfInBounds_toArray, List.set_cons_zero, List.set_cons_succ]
        refine hold_take (i := 1) (d := 11) (v := ?vd1) (listed' := #[true, true, false, false, false, false, false, false, false, false, false, false, false, false, false, false, false, false, false, false, false]) rfl (by kernel_rfl) (by kernel_rfl) (by kernel_rfl) rfl (by rfl) (by kernel_rfl) hS ?hd1 ?rd1
        case hd1 =>
          intro w' hSw
          obtain ⟨k0, k1, k2, k3⟩ := hSw
          go_simp
          try with_reducible rfl
        simp only [List.setIfInBounds_toArray, List.set_cons_zero, List.set_cons_succ]
        refine hold_take (i := 2) (d := 12) (v := ?vd2) (listed' := #[true, true, true, false, false, false, false, false, false, false, false, false, false, false, false, false, false, false, false, false, false]) rfl (by kernel_rfl) (by kernel_rfl) (by kernel_rfl) rfl (by rfl) (by kernel_rfl) hS ?hd2 ?rd2
        case hd2 =>
          intro w' hSw
          obtain ⟨k0, k1, k2, k3⟩ := hSw
          go_simp
          try with_reducible rfl
        simp only [List.setIfInBounds_toArray, List.set_cons_zero, List.set_cons_succ]
        refine hold_take (i := 3) (d := 13) (v := ?vd3) (listed' := #[true, true, true, true, false, false, false, false, false, false, false, false, false, false, false, false, false, false, false, false, false]) rfl (by kernel_rfl) (by kernel_rfl) (by kernel_rfl) rfl (by rfl) (by kernel_rfl) hS ?hd3 ?rd3
        case hd3 =>
          intro w' hSw
          obtain ⟨k0, k1, k2, k3⟩ := hSw
          go_simp
          try with_reducible rfl
        simp only [List.setIfInBounds_toArray, List.set_cons_zero, List.set_cons_succ]
        refine hold_call (i := 4) (d := 14) (listed' := #[true, true, true, true, true, false, false, false, false, false, false, false, false, false, false, false, false, false, false, false, false]) rfl (by kernel_rfl) rfl (by rfl) (by kernel_rfl) ?hed4 (below_sq hSd.out ha hb) ?hcd4
        case hed4 => go_simp
        rintro e w1 ⟨rfl, hw1⟩
        rw [H1.out]
        have hall : Below W.heap.size W w1 := (Below.refl _ W).drew.trans hw1
        have hS1 : (fun w' => w'.cell? ⟨w.heap.size, 0, none⟩ = some (.slice sa m.n l.cap) ∧ w'.cell? ⟨w.heap.size, 1, none⟩ = some (.slice (some ⟨g, o, none⟩) m.n nc) ∧ w'.cell? ⟨g, o + a, none⟩ = some (.int .i64 (y a)) ∧ w'.cell? ⟨g, o + b, none⟩ = some (.int .i64 (y b))) w1 := hkeep.out w1 hall
        refine ⟨_, rfl, hS1, ?_⟩
        simp only [List.setIfInBounds_toArray, List.set_cons_zero, List.set_cons_succ]
        refine hold_take (i := 5) (d := 15) (v := ?vd5) (listed' := #[true, true, true, true, true, true, false, false, false, false, false, false, false, false, false, false, false, false, false, false, false]) rfl (by kernel_rfl) (by kernel_rfl) (by kernel_rfl) rfl (by rfl) (by kernel_rfl) hS1 ?hd5 ?rd5
        case hd5 =>
          intro w' hSw
          obtain ⟨k0, k1, k2, k3⟩ := hSw
          go_simp
          try with_reducible rfl
        simp only [List.setIfInBounds_toArray, List.set_cons_zero, List.set_cons_succ]
        refine hold_take (i := 6) (d := 16) (v := ?vd6) (listed' := #[true, true, true, true, true, true, true, false, false, false, false, false, false, false, false, false, false, false, false, false, false]) rfl (by kernel_rfl) (by kernel_rfl) (by kernel_rfl) rfl (by rfl) (by kernel_rfl) hS1 ?hd6 ?rd6
        case hd6 =>
          intro w' hSw
          obtain ⟨k0, k1, k2, k3⟩ := hSw
          go_simp
          try with_reducible rfl
        simp only [List.setIfInBounds_toArray, List.set_cons_zero, List.set_cons_succ]
        refine hold_take (i := 7) (d := 17) (v := ?vd7) (listed' := #[true, true, true, true, true, true, true, true, false, false, false, false, false, false, false, false, false, false, false, false, false]) rfl (by kernel_rfl) (by kernel_rfl) (by kernel_rfl) rfl (by rfl) (by kernel_rfl) hS1 ?hd7 ?rd7
        case hd7 =>
          intro w' hSw
          obtain ⟨k0, k1, k2, k3⟩ := hSw
          go_simp
          try with_reducible rfl
        simp only [List.setIfInBounds_toArray, List.set_cons_zero, List.set_cons_succ]
        refine hold_take (i := 8) (d := 18) (v := ?vd8) (listed' := #[true, true, true, true, true, true, true, true, true, false, false, false, false, false, false, false, false, false, false, false, false]) rfl (by kernel_rfl) (by kernel_rfl) (by kernel_rfl) rfl (by rfl) (by kernel_rfl) hS1 ?hd8 ?rd8
        case hd8 =>
          intro w' hSw
          obtain ⟨k0, k1, k2, k3⟩ := hSw
          go_simp
          try with_reducible rfl
        simp only [List.setIfInBounds_toArray, List.set_cons_zero, List.set_cons_succ]
        refine hold_take (i := 9) (d := 19) (v := ?vd9) (listed' := #[true, true, true, true, true, true, true, true, true, true, false, false, false, false, false, false, false, false, false, false, false]) rfl (by kernel_rfl) (by kernel_rfl) (by kernel_rfl) rfl (by rfl) (by kernel_rfl) hS1 ?hd9 ?rd9
        case hd9 =>
          intro w' hSw
          obtain ⟨k0, k1, k2, k3⟩ := hSw
          go_simp
          try with_reducible rfl
        simp only [List.setIfInBounds_toArray, List.set_cons_zero, List.set_cons_succ]
        refine hold_take (i := 10) (d := 20) (v := ?vd10) (listed' := #[true, true, true, true, true, true, true, true, true, true, true, false, false, false, false, false, false, false, false, false, false]) rfl (by kernel_rfl) (by kernel_rfl) (by kernel_rfl) rfl (by rfl) (by kernel_rfl) hS1 ?hd10 ?rd10
        case hd10 =>
          intro w' hSw
          obtain ⟨k0, k1, k2, k3⟩ := hSw
          go_simp
          try with_reducible rfl
        simp only [List.setIfInBounds_toArray, List.set_cons_zero, List.set_cons_succ]
        refine hold_take (i := 11) (d := 21) (v := ?vd11) (listed' := #[true, true, true, true, true, true, true, true, true, true, true, true, false, false, false, false, false, false, false, false, false]) rfl (by kernel_rfl) (by kernel_rfl) (by kernel_rfl) rfl (by rfl) (by kernel_rfl) hS1 ?hd11 ?rd11
        case hd11 =>
          intro w' hSw
          obtain ⟨k0, k1, k2, k3⟩ := hSw
          go_simp
          try with_reducible rfl
        simp only [List.setIfInBounds_toArray, List.set_cons_zero, List.set_cons_succ]
        refine hold_take (i := 12) (d := 22) (v := ?vd12) (listed' := #[true, true, true, true, true, true, true, true, true, true, true, true, true, false, false, false, false, false, false, false, false]) rfl (by kernel_rfl) (by kernel_rfl) (by kernel_rfl) rfl (by rfl) (by kernel_rfl) hS1 ?hd12 ?rd12
        case hd12 =>
          intro w' hSw
          obtain ⟨k0, k1, k2, k3⟩ := hSw
          go_simp
          try with_reducible rfl
        simp only [List.setIfInBounds_toArray, List.set_cons_zero, List.set_cons_succ]
        refine hold_take (i := 13) (d := 23) (v := ?vd13) (listed' := #[true, true, true, true, true, true, true, true, true, true, true, true, true, true, false, false, false, false, false, false, false]) rfl (by kernel_rfl) (by kernel_rfl) (by kernel_rfl) rfl (by rfl) (by kernel_rfl) hS1 ?hd13 ?rd13
        case hd13 =>
          intro w' hSw
          obtain ⟨k0, k1, k2, k3⟩ := hSw
          go_simp
          try with_reducible rfl
        simp only [List.setIfInBounds_toArray, List.set_cons_zero, List.set_cons_succ]
        refine hold_take (i := 14) (d := 24) (v := ?vd14) (listed' := #[true, true, true, true, true, true, true, true, true, true, true, true, true, true, true, false, false, false, false, false, false]) rfl (by kernel_rfl) (by kernel_rfl) (by kernel_rfl) rfl (by rfl) (by kernel_rfl) hS1 ?hd14 ?rd14
        case hd14 =>
          intro w' hSw
          obtain ⟨k0, k1, k2, k3⟩ := hSw
          go_simp
          try with_reducible rfl
        simp only [List.setIfInBounds_toArray, List.set_cons_zero, List.set_cons_succ]
        refine hold_take (i := 15) (d := 25) (v := ?vd15) (listed' := #[true, true, true, true, true, true, true, true, true, true, true, true, true, true, true, true, false, false, false, false, false]) rfl (by kernel_rfl) (by kernel_rfl) (by kernel_rfl) rfl (by rfl) (by kernel_rfl) hS1 ?hd15 ?rd15
        case hd15 =>
          intro w' hSw
          obtain ⟨k0, k1, k2, k3⟩ := hSw
          go_simp
          try with_reducible rfl
        simp only [List.setIfInBounds_toArray, List.set_cons_zero, List.set_cons_succ]
        refine hold_take (i := 16) (d := 26) (v := ?vd16) (listed' := #[true, true, true, true, true, true, true, true, true, true, true, true, true, true, true, true, true, false, false, false, false]) rfl (by kernel_rfl) (by kernel_rfl) (by kernel_rfl) rfl (by rfl) (by kernel_rfl) hS1 ?hd16 ?rd16
        case hd16 =>
          intro w' hSw
          obtain ⟨k0, k1, k2, k3⟩ := hSw
          go_simp
          try with_reducible rfl
        simp only [List.setIfInBounds_toArray, List.set_cons_zero, List.set_cons_succ]
        refine hold_take (i := 17) (d := 27) (v := ?vd17) (listed' := #[true, true, true, true, true, true, true, true, true, true, true, true, true, true, true, true, true, true, false, false, false]) rfl (by kernel_rfl) (by kernel_rfl) (by kernel_rfl) rfl (by rfl) (by kernel_rfl) hS1 ?hd17 ?rd17
        case hd17 =>
          intro w' hSw
          obtain ⟨k0, k1, k2, k3⟩ := hSw
          go_simp
          try with_reducible rfl
        simp only [List.setIfInBounds_toArray, List.set_cons_zero, List.set_cons_succ]
        refine hold_call (i := 18) (d := 28) (listed' := #[true, true, true, true, true, true, true, true, true, true, true, true, true, true, true, true, true, true, true, false, false]) rfl (by kernel_rfl) rfl (by rfl) (by kernel_rfl) ?hed18 (below_sq (hSd.out.step hw1) yb' ya') ?hcd18
        case hed18 => go_simp
        rintro e w2 ⟨rfl, hw2⟩
        rw [H2.out]
        have hall2 : Below W.heap.size W w2 := hall.trans (hw2.mono hall.size)
        have hS2 : (fun w' => w'.cell? ⟨w.heap.size, 0, none⟩ = some (.slice sa m.n l.cap) ∧ w'.cell? ⟨w.heap.size, 1, none⟩ = some (.slice (some ⟨g, o, none⟩) m.n nc) ∧ w'.cell? ⟨g, o + a, none⟩ = some (.int .i64 (y a)) ∧ w'.cell? ⟨g, o + b, none⟩ = some (.int .i64 (y b))) w2 := hkeep.out w2 hall2
        refine ⟨_, rfl, hS2, ?_⟩
        simp only [List.setIfInBounds_toArray, List.set_cons_zero, List.set_cons_succ]
        refine hold_take (i := 19) (d := 29) (v := ?vd19) (listed' := #[true, true, true, true, true, true, true, true, true, true, true, true, true, true, true, true, true, true, true, true, false]) rfl (by kernel_rfl) (by kernel_rfl) (by kernel_rfl) rfl (by rfl) (by kernel_rfl) hS2 ?hd19 ?rd19
        case hd19 =>
          intro w' hSw
          obtain ⟨k0, k1, k2, k3⟩ := hSw
          go_simp
          try with_reducible rfl
        simp only [List.setIfInBounds_toArray, List.set_cons_zero, List.set_cons_succ]
        refine hold_take (i := 20) (d := 30) (v := ?vd20) (listed' := #[true, true, true, true, true, true, true, true, true, true, true, true, true, true, true, true, true, true, true, true, true]) rfl (by kernel_rfl) (by kernel_rfl) (by kernel_rfl) rfl (by rfl) (by kernel_rfl) hS2 ?hd20 ?rd20
        case hd20 =>
          intro w' hSw
          obtain ⟨k0, k1, k2, k3⟩ := hSw
          go_simp
          try with_reducible rfl
        simp only [List.setIfInBounds_toArray, List.set_cons_zero, List.set_cons_succ]
        refine hold_done (by kernel_rfl) ?_ _
        gi_wp2_with fail
        exact ⟨keepsFrom_below hall2, hall2.mono hs, hp.out.snoc (by simp [turnPB, H1.out, H2.out]), hB.trans (hall2.mono hs)⟩
  case done =>
    rintro D ys W hD hys ⟨hp0, hB⟩ hK
    have HO' : Hid (turnB m y = true) := allB_true fun a ha => allB_true fun b hb => hp0 _ (hys ⟨a, ha⟩ ⟨b, hb⟩)
    clear hp0
    have v0 := (hB.cell (p := ⟨w.heap.size + 1, 0, none⟩) (by show w.heap.size + 1 < _; omega)).trans hVc
    have vf := (hB.frozen (p := ⟨w.heap.size + 1, 0, none⟩) (by show w.heap.size + 1 < _; omega)).trans hVf
    have hbW := hbw.trans (hB.mono hbw.size)
    have hDs : w.heap.size ≤ D := Nat.le_trans hbw.size hD
    gi_wp2
    have hK' := (KeepsOthers.setCell W ⟨w.heap.size + 1, 0, none⟩ (.bool true)).same D _ hK rfl
    refine ⟨by simp, .inl ⟨_, _, rfl, run_takeDeferred hK', ?_⟩⟩
    have hc5 := cell_kept (World.cell?_setCell_same' W ⟨w.heap.size + 1, 0, none⟩ (.bool true) (by rw [v0]; rfl)) (grownBy_putObj' _ D (.deferred none)) (fun r e => by cases e; exact ⟨_, hK', rfl⟩)
    refine ⟨.bool true, ?_, ret_bool HO'.out.symm, (hbW.setCell (p := ⟨w.heap.size + 1, 0, none⟩) (by show w.heap.size ≤ w.heap.size + 1; omega) _).trans (belowK_b (w := w) (Nat.le_refl _) _ D _ _ hDs hK' rfl rfl)⟩
    simp [results, Try.f52, go_sem, hc5]
  case stop =>
    rintro D c pre W hD _ ⟨⟨rfl, hbad⟩, hcr, hB⟩ hK
    have hDs : w.heap.size ≤ D := Nat.le_trans hbw.size hD
    gi_wp2
    refine ⟨by simp, .inl ⟨_, _, rfl, run_takeDeferred hK, ?_⟩⟩
    have hc5 := cell_kept hcr (grownBy_putObj' _ D (.deferred none)) (fun r e => by cases e; exact ⟨_, hK, rfl⟩)
    refine ⟨.bool false, ?_, ret_bool hbad.symm, hB.trans (belowK_b (w := w) (Nat.le_refl _) W D _ _ hDs hK rfl rfl)⟩
    simp [results, Try.f52, go_sem, hc5]
end Go.Proofs.Ytojcgmgponnlpaa
namespace Go.Proofs.Ytojcgmgponnlpaa
open Go.RowKit Go.Deep

/-- A logic as it lies in memory: rows, and a list of numbers. -/
structure LogAt (w : World) (B : Nat) (ua : Option Addr) (l : Lay) (m : Mx) (na : Option Addr) (g o k : Nat) (z : Nat → Int) : Prop where
  mat : MatAt w B ua l m
  row : RowAt w B na g o k z
  hn : m.n ≤ 9223372036854775807
  hL : ∀ r, r < m.n → m.L r ≤ 9223372036854775807
  hk : k ≤ 9223372036854775807
  hB : B ≤ w.heap.size
theorem LogAt.step {w w' : World} {B : Nat} {ua : Option Addr} {l : Lay} {m : Mx} {na : Option Addr} {g o k : Nat} {z : Nat → Int} (h : LogAt w B ua l m na g o k z) (hb : Below w.heap.size w w') : LogAt w' B ua l m na g o k z :=
  ⟨h.mat.below (hb.mono h.hB), h.row.below (hb.mono h.hB), h.hn, h.hL, h.hk, Nat.le_trans h.hB hb.size⟩
theorem LogAt.alloc {w : World} {B : Nat} {ua : Option Addr} {l : Lay} {m : Mx} {na : Option Addr} {g o k : Nat} {z : Nat → Int} (h : LogAt w B ua l m na g o k z) (x : Obj) : LogAt (w.alloc x) B ua l m na g o k z :=
  h.step ((Below.refl _ _).alloc (Nat.le_refl _) _)
theorem LogAt.sq {w : World} {B : Nat} {ua : Option Addr} {l : Lay} {m : Mx} {na : Option Addr} {g o k : Nat} {z : Nat → Int} (h : LogAt w B ua l m na g o k z) (ho : IsOrder m) : SqAt w B ua l m := ⟨h.mat, ho.sq, ho.top, h.hB⟩

set_option maxRecDepth 100000 in
set_option maxHeartbeats 2000000 in
theorem LogicOk_any {w : World} {B : Nat} {ua : Option Addr} {l : Lay} {m : Mx} {na : Option Addr} {g o k nc : Nat} {z : Nat → Int} (h : LogAt w B ua l m na g o k z) :
    Calls Try.prog 25 #[.agg #[.slice ua m.n l.cap, .slice na k nc]] w fun e w' => e = .returned (.bool (logicB m k z)) ∧ Below w.heap.size w w' := by
  have hX := BoxN.start w #[.slice ua m.n l.cap, .slice na k nc] 26
  have h1 := Lib.hid (h.alloc (.cells #[.slice ua m.n l.cap, .slice na k nc] 26))
  have q0 := hX.cell 0 rfl
  have q1 := hX.cell 1 rfl
  have hkk := h.hk
  clear h
  cases hl : latticeB m with
  | false =>
    have HL := Lib.hid hl
    have HF : Hid (false = logicB m k z) := (logicB_false fun h => by rw [latticeB_true h.lat] at hl; cases hl).symm
    clear hl
    go_enter Try.func25, Try.ntmps25
    go_wp2_with fail
    go_at_call 49
    refine (LatticeOk_any h1.out.hn h1.out.hL h1.out.mat h1.out.hB).mono ?_
    rintro e w1 ⟨rfl, b1⟩
    rw [HL.out]
    have B1 := hX.below.trans (b1.mono hX.below.size)
    go_wp2_with fail
    go_ret
    exact ⟨ret_bool HF.out, B1⟩
  | true =>
    have hlat := latticeB_is hl
    have hn := hlat.order.top
    have hpos := hlat.order.pos
    have HL := Lib.hid hl
    have HLat := Lib.hid hlat
    clear hl hlat
    cases hp : pairB k m.n z with
    | false =>
      have HP := Lib.hid hp
      have HF : Hid (false = logicB m k z) := (logicB_false fun h => pairB_not hp h.pair).symm
      clear hp
      go_enter Try.func25, Try.ntmps25
      go_wp2_with fail
      go_at_call 49
      refine (LatticeOk_any h1.out.hn h1.out.hL h1.out.mat h1.out.hB).mono ?_
      rintro e w1 ⟨rfl, b1⟩
      rw [HL.out]
      have hX1 := hX.step b1
      have q2 := hX1.cell 0 rfl
      have q3 := hX1.cell 1 rfl
      have hR1 := Lib.hid (h1.out.step b1).row
      clear q0 q1
      go_wp2_with fail
      go_at_call 50
      refine (pairedOk_any hkk hn hR1.out).mono ?_
      rintro e w2 ⟨rfl, rfl⟩
      rw [HP.out]
      go_wp2_with fail
      go_ret
      exact ⟨ret_bool HF.out, hX1.below⟩
    | true =>
      have hpair := pairB_is hp
      have HP := Lib.hid hp
      obtain ⟨y, hy⟩ := hpair.nat
      have hkn := hpair.len
      subst hkn
      have hy1 : Hid (∀ a, a < m.n → z a = (y a : Int) ∧ y a < m.n) := fun a ha => ⟨(hy a ha).1, (hy a ha).2.1⟩
      have HV : Hid ((turnB m y && keptB m y) = logicB m m.n z) := (logic_is HLat.out hpair fun a ha => (hy a ha).1).symm
      clear hp hpair hy
      go_enter Try.func25, Try.ntmps25
      go_wp2_with fail
      go_at_call 49
      refine (LatticeOk_any h1.out.hn h1.out.hL h1.out.mat h1.out.hB).mono ?_
      rintro e w1 ⟨rfl, b1⟩
      rw [HL.out]
      have hX1 := hX.step b1
      have q2 := hX1.cell 0 rfl
      have q3 := hX1.cell 1 rfl
      have h2 := Lib.hid (h1.out.step b1)
      clear q0 q1
      go_wp2_with fail
      go_at_call 50
      refine (pairedOk_any hkk hn h2.out.row).mono ?_
      rintro e w2 ⟨rfl, rfl⟩
      rw [HP.out]
      go_wp2_with fail
      go_at_call 51
      refine (algebraOf_any (h2.out.sq HLat.out.order)).mono ?_
      rintro e w3 ⟨ob, tb, tG, rfl, b3, hA, _⟩
      have hX3 := hX1.step b3
      have h3 := h2.out.step b3
      have hY := BoxN.start w3 #[.slice ua m.n l.cap, .slice na m.n nc, .slice (some ⟨ob, 0, none⟩) 2 2] 79
      have h4 := Lib.hid (h3.step hY.below)
      have hA4 := Lib.hid (hA.step hY.below)
      have hX4 := hX3.step hY.below
      have q4 := hY.cell 0 rfl
      have q5 := hY.cell 1 rfl
      have q6 := hY.cell 2 rfl
      clear q2 q3 hA h3 hX1
      unfold algV
      go_wp2_with fail
      go_at_call 52
      refine (turn_any (h4.out.sq HLat.out.order) h4.out.row h4.out.hB hpos rfl hy1.out).mono ?_
      rintro e w5 ⟨rfl, b5⟩
      have h5 := Lib.hid (h4.out.step b5)
      have hA5 := Lib.hid (hA4.out.step b5)
      have hX5 := hX4.step b5
      have hY5 := hY.step b5
      have r4 := hY5.cell 0 rfl
      have r5 := hY5.cell 1 rfl
      have r6 := hY5.cell 2 rfl
      clear q4 q5 q6
      cases ht : turnB m y with
      | false =>
        have HT : Hid (false = logicB m m.n z) := by show _ = _; rw [← HV.out, ht]; rfl
        clear ht
        go_wp2_with fail
        go_ret
        exact ⟨ret_bool HT.out, hX5.below⟩
      | true =>
        have HT : Hid (keptB m y = logicB m m.n z) := by show _ = _; rw [← HV.out, ht]; rfl
        clear ht
        go_wp2_with fail
        go_at_call 53
        refine (kept_any hA5.out (h5.out.sq HLat.out.order) h5.out.row h5.out.hB hpos rfl hy1.out).mono ?_
        rintro e w6 ⟨rfl, b6⟩
        have hX6 := hX5.step b6
        clear r4 r5 r6
        go_wp2_with fail
        go_ret
        exact ⟨ret_bool HT.out, hX6.below⟩
end Go.Proofs.Ytojcgmgponnlpaa
namespace Go.Proofs.Ytojcgmgponnlpaa
open Go.RowKit Go.Deep

/-- What the reference has told of one answer. -/
structure OneOk (m : Mx) (y : Nat → Nat) (c : Nat) : Prop where
  back : y (y c) = c
  kept : keptPB m y c = true
  turn : ∀ b, b < m.n → turnPB m y c b = true
theorem logic_of_ones {m : Mx} {z : Nat → Int} {y : Nat → Nat} (hl : IsLattice m) (hy : ∀ a, a < m.n → z a = (y a : Int) ∧ y a < m.n) (h : ∀ c, c < m.n → OneOk m y c) : logicB m m.n z = true := by
  have hp : IsPair m.n m.n z := ⟨rfl, fun a ha => by rw [(hy a ha).1]; omega, fun a ha => by have := hy a ha; omega, fun a ha => by
    obtain ⟨h1, h2⟩ := hy a ha
    rw [h1]
    show z (y a) = (a : Int)
    rw [(hy (y a) h2).1, (h a ha).back]⟩
  rw [logic_is hl hp fun a ha => (hy a ha).1, Bool.and_eq_true]
  exact ⟨allB_true fun a ha => allB_true fun b hb => (h a ha).turn b hb, allB_true fun a ha => (h a ha).kept⟩
theorem logic_not_back {m : Mx} {z : Nat → Int} {y : Nat → Nat} {c : Nat} (hy : ∀ a, a < m.n → z a = (y a : Int) ∧ y a < m.n) (hc : c < m.n) (h : y (y c) ≠ c) : logicB m m.n z = false := logicB_false fun hl => by
  have h1 := hl.pair.inv c hc
  obtain ⟨h2, h3⟩ := hy c hc
  rw [h2] at h1
  have h4 : z (y c) = (c : Int) := h1
  rw [(hy (y c) h3).1] at h4
  omega
theorem logic_not_kept {m : Mx} {z : Nat → Int} {y : Nat → Nat} {c : Nat} (hy : ∀ a, a < m.n → z a = (y a : Int) ∧ y a < m.n) (hc : c < m.n) (h : meetI m c (y c) ≠ leastI m) : logicB m m.n z = false := logicB_false fun hl => by
  have h1 := logic_is hl.lat hl.pair fun a ha => (hy a ha).1
  rw [logicB_true hl] at h1
  have h1' := h1.symm
  rw [Bool.and_eq_true] at h1'
  have h2 : keptB m y = true := h1'.2
  exact h (of_decide_eq_true (allB_is h2 c hc))
theorem logic_not_turn {m : Mx} {z : Nat → Int} {y : Nat → Nat} {c b : Nat} (hy : ∀ a, a < m.n → z a = (y a : Int) ∧ y a < m.n) (hc : c < m.n) (hb : b < m.n) (h : turnPB m y c b = false) : logicB m m.n z = false := logicB_false fun hl => by
  have h1 := logic_is hl.lat hl.pair fun a ha => (hy a ha).1
  rw [logicB_true hl] at h1
  have h1' := h1.symm
  rw [Bool.and_eq_true] at h1'
  have h2 : turnB m y = true := h1'.1
  rw [allB_is (allB_is h2 c hc) b hb] at h
  cases h

set_option maxRecDepth 100000 in
set_option maxHeartbeats 2000000 in
theorem spec_LogicOk {w : World} {B : Nat} {ua : Option Addr} {l : Lay} {m : Mx} {na : Option Addr} {g o k nc : Nat} {z : Nat → Int} (h : LogAt w B ua l m na g o k z) :
    Calls Try.prog 28 #[.agg #[.slice ua m.n l.cap, .slice na k nc]] w fun e w' => e = .returned (.bool (logicB m k z)) ∧ Below w.heap.size w w' := by
  have hX := BoxN.start w #[.slice ua m.n l.cap, .slice na k nc] 26
  have h1 := Lib.hid (h.alloc (.cells #[.slice ua m.n l.cap, .slice na k nc] 26))
  have q0 := hX.cell 0 rfl
  have q1 := hX.cell 1 rfl
  have hkk := h.hk
  have hnn := h.hn
  clear h
  cases hl : latticeB m with
  | false =>
    have HL := Lib.hid hl
    have HF : Hid (false = logicB m k z) := (logicB_false fun h => by rw [latticeB_true h.lat] at hl; cases hl).symm
    clear hl
    go_enter Try.func28, Try.ntmps28
    go_wp2_with fail
    go_at_call 55
    refine (spec_LatticeOk h1.out.hn h1.out.hL h1.out.mat).mono ?_
    rintro e w1 ⟨rfl, rfl⟩
    rw [HL.out]
    go_wp2_with fail
    go_ret
    exact ⟨ret_bool HF.out, hX.below⟩
  | true =>
    have hlat := latticeB_is hl
    have hn := hlat.order.top
    have hpos := hlat.order.pos
    have HL := Lib.hid hl
    have HLat := Lib.hid hlat
    clear hl hlat
    by_cases hkn : k = m.n
    · subst hkn
      have e0 : ((m.n : Int) != (m.n : Int)) = false := by simp
      go_enter Try.func28, Try.ntmps28
      go_wp2_with fail
      go_at_call 55
      refine (spec_LatticeOk h1.out.hn h1.out.hL h1.out.mat).mono ?_
      rintro e w1 ⟨rfl, rfl⟩
      rw [HL.out]
      go_wp2_with fail
      obtain ⟨rfl, hg1, hg2⟩ := h1.out.row.row 0 (by omega)
      obtain ⟨rfl, hg3, hg4⟩ := h1.out.mat.top 0 (by omega)
      clear hg1 hg2 hg3 hg4
      go_loop [4] (fun i => ∃ j : Nat, j ≤ m.n ∧ i = .int .i64 j ∧ Hid (∀ c, c < j → 0 ≤ z c ∧ z c < (m.n : Int))) (fun i => m.n - (intOf i).toNat)
      case atStart => exact ⟨0, Nat.zero_le _, rfl, fun c hc => absurd hc (Nat.not_lt_zero _)⟩
      case round =>
        obtain ⟨j, hj, rfl, hR⟩ := hrel
        by_cases hlt : j < m.n
        · have hlt' : (j : Int) < m.n := by omega
          obtain ⟨_, _, c1⟩ := h1.out.row.row j hlt
          by_cases hin : 0 ≤ z j ∧ z j < (m.n : Int)
          · have HD : Hid ((decide ((0 : Int) ≤ z j) && decide (z j ≤ (m.n : Int) - 1)) = true) := by show _ = _; simp; omega
            have HI := Lib.hid hin
            clear hin
            go_wp2_with fail
            go_at_call 56
            refine (l1In_any _ _ _ _).mono ?_
            rintro e w2 ⟨rfl, rfl⟩
            rw [HD.out]
            clear c1
            go_wp2_with fail
            go_round
            case rel => exact ⟨j + 1, by omega, by go_num, fun c hc => by
              by_cases e : c = j
              · subst e; exact HI.out
              · exact hR.out c (by omega)⟩
            case measure => simp [intOf]; omega
          · have HD : Hid ((decide ((0 : Int) ≤ z j) && decide (z j ≤ (m.n : Int) - 1)) = false) := by show _ = _; rw [Bool.and_eq_false_iff]; simp; omega
            have HF : Hid (false = logicB m m.n z) := (logicB_false fun h => hin ⟨h.pair.lo j hlt, h.pair.hi j hlt⟩).symm
            clear hin
            go_wp2_with fail
            go_at_call 56
            refine (l1In_any _ _ _ _).mono ?_
            rintro e w2 ⟨rfl, rfl⟩
            rw [HD.out]
            clear c1
            go_wp2_with fail
            go_ret
            exact ⟨ret_bool HF.out, hX.below⟩
        · have hlt' : ¬ (j : Int) < m.n := by omega
          obtain ⟨y, hy⟩ : ∃ y : Nat → Nat, Hid (∀ a, a < m.n → z a = (y a : Int) ∧ y a < m.n) := ⟨fun a => (z a).toNat, fun a ha => by
            have := hR.out a (by omega)
            exact ⟨by show z a = ((z a).toNat : Int); omega, by show (z a).toNat < _; omega⟩⟩
          clear hR
          go_wp2_with fail
          go_at_call 57
          refine (spec_LeastOf h1.out.hn h1.out.hL h1.out.mat).mono ?_
          rintro e w2 ⟨rfl, rfl⟩
          rw [leastV_yes (orderB_true HLat.out.order)]
          go_wp2_with fail
          clear q0 q1
          generalize hW : w.alloc (.cells #[.slice (some ⟨l.b, l.o, none⟩) m.n l.cap, .slice (some ⟨g, o, none⟩) m.n nc] 26) = W at h1 hX ⊢
          clear hW
          go_loopw [7] (fun i wr => ∃ j : Nat, j ≤ m.n ∧ i = .int .i64 j ∧ Drew W wr ∧ Hid (∀ c, c < j → OneOk m y c)) (fun i _ => m.n - (intOf i).toNat)
          case atStart => exact ⟨0, Nat.zero_le _, rfl, Drew.refl _, fun c hc => absurd hc (Nat.not_lt_zero _)⟩
          case round =>
            obtain ⟨j, hj, rfl, hD, hO⟩ := hrel
            have hXr := hX.step (hD.below _)
            have hr := Lib.hid (h1.out.step (hD.below _))
            by_cases hlt : j < m.n
            · have hlt' : (j : Int) < m.n := by omega
              have q0 := hXr.cell 0 rfl
              have q1 := hXr.cell 1 rfl
              obtain ⟨_, _, c1⟩ := hr.out.row.row j hlt
              obtain ⟨e1, e2⟩ := hy.out j hlt
              obtain ⟨_, _, c2⟩ := hr.out.row.row (y j) e2
              obtain ⟨e3, e4⟩ := hy.out (y j) e2
              rw [e1] at c1
              rw [e3] at c2
              have e2' : ((y j : Nat) : Int) < m.n := by omega
              clear e1 e3
              by_cases hb : y (y j) = j
              · have HB := Lib.hid hb
                rw [hb] at c2
                have n0 : decide ((j : Int) = (j : Int)) = true := by simp
                have n1 : ((j : Int) != (j : Int)) = false := by simp
                clear hb
                by_cases hm : meetI m j (y j) = leastI m
                · have n2 : (meetI m j (y j) != leastI m) = false := by simp [hm]
                  have HM := Lib.hid hm
                  clear hm
                  go_wp2_with fail
                  go_quiet ((go_at_call 58; exact quiet_drew ((l1Meet_any (hr.out.mat.drewN _) HLat.out.order hlt e2).mono fun _ _ ⟨he, hw⟩ => ⟨he, by subst hw; exact Drew.refl _⟩)))
                  clear q0 q1 c1 c2 n0 n1 n2
                  go_wp2_with fail
                  go_loopw [8] (fun i wi => ∃ b : Nat, b ≤ m.n ∧ i = .int .i64 b ∧ Drew W wi ∧ Hid (∀ c, c < b → turnPB m y j c = true)) (fun i _ => m.n - (intOf i).toNat)
                  case atStart => exact ⟨0, Nat.zero_le _, rfl, hD.drewN _, fun c hc => absurd hc (Nat.not_lt_zero _)⟩
                  case round =>
                    clear hr hXr hD
                    obtain ⟨b, hbn, rfl, hD, hT⟩ := hrel
                    have hXi := hX.step (hD.below _)
                    by_cases hbt : b < m.n
                    · have hbt' : (b : Int) < m.n := by omega
                      have hri := h1.out.step (hD.below _)
                      have r0 := hXi.cell 0 rfl
                      have r1 := hXi.cell 1 rfl
                      obtain ⟨_, _, d1⟩ := hri.row.row j hlt
                      obtain ⟨_, _, d2⟩ := hri.row.row b hbt
                      obtain ⟨f1, f2⟩ := hy.out j hlt
                      obtain ⟨f3, f4⟩ := hy.out b hbt
                      rw [f1] at d1
                      rw [f3] at d2
                      have f2' : ((y j : Nat) : Int) < m.n := by omega
                      have f4' : ((y b : Nat) : Int) < m.n := by omega
                      obtain ⟨_, t1, t2⟩ := hri.mat.sq HLat.out.order.sq hlt hbt
                      obtain ⟨_, t3, t4⟩ := hri.mat.sq HLat.out.order.sq f4 f2
                      clear f1 f3 hri
                      rcases leB_cases HLat.out.order.sq hlt hbt with ⟨l1, z1⟩ | ⟨l1, z1⟩
                      · rw [z1] at t2
                        rcases leB_cases HLat.out.order.sq f4 f2 with ⟨l2, z2⟩ | ⟨l2, z2⟩
                        · rw [z2] at t4
                          have HP : Hid (turnPB m y j b = true) := by show turnPB m y j b = true; simp [turnPB, l1, l2]
                          clear l1 l2 z1 z2
                          go_wp2_with fail
                          go_quiet (fail)
                          go_wp2_with fail
                          go_roundw
                          case rel => exact ⟨b + 1, by omega, by go_num, hD.drewN _, fun c hc => by
                            by_cases e : c = b
                            · subst e; exact HP.out
                            · exact hT.out c (by omega)⟩
                          case measure => simp [intOf]; omega
                        · rw [z2] at t4
                          have HF : Hid (false = logicB m m.n z) := (logic_not_turn hy.out hlt hbt (by simp [turnPB, l1, l2])).symm
                          clear l1 l2 z1 z2
                          go_wp2_with fail
                          go_quiet (fail)
                          go_wp2_with fail
                          go_ret
                          exact ⟨ret_bool HF.out, Below.drewN' hXi.below _⟩
                      · rw [z1] at t2
                        have HP : Hid (turnPB m y j b = true) := by show turnPB m y j b = true; simp [turnPB, l1]
                        clear l1 z1 t3 t4
                        go_wp2_with fail
                        go_quiet (fail)
                        go_wp2_with fail
                        go_roundw
                        case rel => exact ⟨b + 1, by omega, by go_num, hD.drewN _, fun c hc => by
                          by_cases e : c = b
                          · subst e; exact HP.out
                          · exact hT.out c (by omega)⟩
                        case measure => simp [intOf]; omega
                    · have hbt' : ¬ (b : Int) < m.n := by omega
                      have HK : Hid (OneOk m y j) := ⟨HB.out, decide_eq_true HM.out, fun c hc => hT.out c (by omega)⟩
                      go_wp2_with fail
                      go_roundw
                      case rel => exact ⟨j + 1, by omega, by go_num, hD, fun c hc => by
                        by_cases e : c = j
                        · subst e; exact HK.out
                        · exact hO.out c (by omega)⟩
                      case measure => simp [intOf]; omega
                · have n2 : (meetI m j (y j) != leastI m) = true := by simpa using hm
                  have HF : Hid (false = logicB m m.n z) := (logic_not_kept hy.out hlt hm).symm
                  clear hm
                  go_wp2_with fail
                  go_quiet ((go_at_call 58; exact quiet_drew ((l1Meet_any (hr.out.mat.drewN _) HLat.out.order hlt e2).mono fun _ _ ⟨he, hw⟩ => ⟨he, by subst hw; exact Drew.refl _⟩)))
                  go_wp2_with fail
                  go_ret
                  exact ⟨ret_bool HF.out, Below.drewN' hXr.below _⟩
              · have HF : Hid (false = logicB m m.n z) := (logic_not_back hy.out hlt hb).symm
                have n1 : (((y (y j) : Nat) : Int) != (j : Int)) = true := by simp; omega
                clear hb
                go_wp2_with fail
                go_quiet (fail)
                go_wp2_with fail
                go_ret
                exact ⟨ret_bool HF.out, Below.drewN' hXr.below _⟩
            · have hlt' : ¬ (j : Int) < m.n := by omega
              have HT : Hid (true = logicB m m.n z) := (logic_of_ones HLat.out hy.out fun c hc => hO.out c (by omega)).symm
              go_wp2_with fail
              go_ret
              exact ⟨ret_bool HT.out, hXr.below⟩
    · have HF : Hid (false = logicB m k z) := (logicB_false fun h => hkn h.pair.len).symm
      have e0 : ((k : Int) != (m.n : Int)) = true := by simp; omega
      go_enter Try.func28, Try.ntmps28
      go_wp2_with fail
      go_at_call 55
      refine (spec_LatticeOk h1.out.hn h1.out.hL h1.out.mat).mono ?_
      rintro e w1 ⟨rfl, rfl⟩
      rw [HL.out]
      go_wp2_with fail
      go_ret
      exact ⟨ret_bool HF.out, hX.below⟩
end Go.Proofs.Ytojcgmgponnlpaa
namespace Go.Proofs.Ytojcgmgponnlpaa
open Go.RowKit Go.Deep

/-- A variable of two cells. -/
structure TwoAt (w : World) (p : Nat) (u v : Value) : Prop where
  c0 : w.cell? ⟨p, 0, none⟩ = some u
  c1 : w.cell? ⟨p, 1, none⟩ = some v
  f0 : w.frozen? ⟨p, 0, none⟩ = false
  f1 : w.frozen? ⟨p, 1, none⟩ = false
theorem TwoAt.new (w : World) (x y : Value) (t : TypeId) : TwoAt (w.alloc (.cells #[x, y] t)) w.heap.size x y := by
  have h := World.alloc_heap_new w (.cells #[x, y] t)
  exact ⟨by simp only [World.cell?, h]; rfl, by simp only [World.cell?, h]; rfl, by simp only [World.frozen?, h]; rfl, by simp only [World.frozen?, h]; rfl⟩
theorem TwoAt.below {w w' : World} {p B : Nat} {u v : Value} (h : TwoAt w p u v) (hb : Below B w w') (hp : p < B) : TwoAt w' p u v :=
  ⟨(hb.cell (p := ⟨p, 0, none⟩) hp).trans h.c0, (hb.cell (p := ⟨p, 1, none⟩) hp).trans h.c1, (hb.frozen (p := ⟨p, 0, none⟩) hp).trans h.f0, (hb.frozen (p := ⟨p, 1, none⟩) hp).trans h.f1⟩
theorem TwoAt.other {w : World} {p q i : Nat} {u v x : Value} (h : TwoAt w p u v) (hne : p ≠ q) : TwoAt (w.setCell ⟨q, i, none⟩ x) p u v :=
  ⟨by rw [World.cell?_setCell_other _ _ _ _ (fun e => by injection e with e1; omega)]; exact h.c0, by rw [World.cell?_setCell_other _ _ _ _ (fun e => by injection e with e1; omega)]; exact h.c1,
   by rw [World.frozen?_setCell]; exact h.f0, by rw [World.frozen?_setCell]; exact h.f1⟩
theorem TwoAt.set0 {w : World} {p : Nat} {u v : Value} (h : TwoAt w p u v) (x : Value) : TwoAt (w.setCell ⟨p, 0, none⟩ x) p x v :=
  ⟨World.cell?_setCell_same _ _ _ h.c0, by rw [World.cell?_setCell_other _ _ _ _ (fun e => by injection e with _ e1; omega)]; exact h.c1, by rw [World.frozen?_setCell]; exact h.f0, by rw [World.frozen?_setCell]; exact h.f1⟩
theorem TwoAt.set1 {w : World} {p : Nat} {u v : Value} (h : TwoAt w p u v) (x : Value) : TwoAt (w.setCell ⟨p, 1, none⟩ x) p u x :=
  ⟨by rw [World.cell?_setCell_other _ _ _ _ (fun e => by injection e with _ e1; omega)]; exact h.c0, World.cell?_setCell_same _ _ _ h.c1, by rw [World.frozen?_setCell]; exact h.f0, by rw [World.frozen?_setCell]; exact h.f1⟩

end Go.Proofs.Ytojcgmgponnlpaa
namespace Go.Proofs.Ytojcgmgponnlpaa
open Go.RowKit Go.Deep

/-- A variable of three cells. -/
structure ThreeAt (w : World) (p : Nat) (u v x : Value) : Prop where
  c0 : w.cell? ⟨p, 0, none⟩ = some u
  c1 : w.cell? ⟨p, 1, none⟩ = some v
  c2 : w.cell? ⟨p, 2, none⟩ = some x
  f0 : w.frozen? ⟨p, 0, none⟩ = false
  f1 : w.frozen? ⟨p, 1, none⟩ = false
  f2 : w.frozen? ⟨p, 2, none⟩ = false
theorem ThreeAt.new (w : World) (x y z : Value) (t : TypeId) : ThreeAt (w.alloc (.cells #[x, y, z] t)) w.heap.size x y z := by
  have h := World.alloc_heap_new w (.cells #[x, y, z] t)
  exact ⟨by simp only [World.cell?, h]; rfl, by simp only [World.cell?, h]; rfl, by simp only [World.cell?, h]; rfl, by simp only [World.frozen?, h]; rfl, by simp only [World.frozen?, h]; rfl, by simp only [World.frozen?, h]; rfl⟩
theorem ThreeAt.below {w w' : World} {p B : Nat} {u v x : Value} (h : ThreeAt w p u v x) (hb : Below B w w') (hp : p < B) : ThreeAt w' p u v x :=
  ⟨(hb.cell (p := ⟨p, 0, none⟩) hp).trans h.c0, (hb.cell (p := ⟨p, 1, none⟩) hp).trans h.c1, (hb.cell (p := ⟨p, 2, none⟩) hp).trans h.c2, (hb.frozen (p := ⟨p, 0, none⟩) hp).trans h.f0, (hb.frozen (p := ⟨p, 1, none⟩) hp).trans h.f1, (hb.frozen (p := ⟨p, 2, none⟩) hp).trans h.f2⟩
end Go.Proofs.Ytojcgmgponnlpaa
