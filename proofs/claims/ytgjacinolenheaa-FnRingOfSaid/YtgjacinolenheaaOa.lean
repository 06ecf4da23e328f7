/- The walk of the program's test whether numbers are opposites of each other; what its algebra of a logic is, in memory. -/
import Derived.Test.YtgjacinolenheaaWt
import Derived.Test.YtgjacinolenheaaMath
import Derived.Deep.RegionHeld3
namespace Go.Proofs.Ytgjacinolenheaa
open Go.RowKit Go.Deep

set_option maxRecDepth 100000 in
set_option maxHeartbeats 1000000 in
theorem pairedOk_any {B : Nat} {a : Option Addr} {g o k cap n : Nat} {z : Nat → Int} {w : World} (hk : k ≤ 9223372036854775807) (hn : n ≤ 12) (h : RowAt w B a g o k z) :
    Calls Try.prog 54 #[.slice a k cap, .int .i64 n] w fun e w' => e = .returned (.bool (pairB k n z)) ∧ w = w' := by
  by_cases hkn : k = n
  · subst hkn
    have e0 : ((k : Int) != (k : Int)) = false := by simp
    go_enter Try.func54, Try.ntmps54
    go_wp2_with fail
    go_loop [13] (fun i => ∃ j : Nat, j ≤ k ∧ i = .int .i64 j ∧ Hid (∀ c, c < j → 0 ≤ z c ∧ z c < (k : Int) ∧ z (z c).toNat = (c : Int))) (fun i => k - (intOf i).toNat)
    case atStart => exact ⟨0, Nat.zero_le _, rfl, fun c hc => absurd hc (Nat.not_lt_zero _)⟩
    case round =>
      obtain ⟨j, hj, rfl, hR⟩ := hrel
      by_cases hlt : j < k
      · have hlt' : (j : Int) < k := by omega
        obtain ⟨rfl, _, c1⟩ := h.row j hlt
        by_cases h0 : z j < 0
        · go_wp2_with fail
          go_ret
          exact ⟨ret_bool (pairB_false fun hp => by have := hp.lo j hlt; omega).symm, rfl⟩
        · by_cases h1 : z j < (k : Int)
          · obtain ⟨y, hy⟩ := Int.eq_ofNat_of_zero_le (show 0 ≤ z j by omega)
            have hyk : y < k := by omega
            have hyk' : (y : Int) < k := by omega
            obtain ⟨_, _, c2⟩ := h.row y hyk
            by_cases h2 : z y = (j : Int)
            · have HN : Hid (0 ≤ z j ∧ z j < (k : Int) ∧ z (z j).toNat = (j : Int)) := ⟨by omega, h1, by rw [hy]; exact h2⟩
              rw [hy] at c1
              rw [h2] at c2
              clear h0 h1 h2 hy h
              go_wp2_with fail
              go_round
              case rel => exact ⟨j + 1, by omega, by go_num, fun c hc => by
                by_cases e : c = j
                · subst e; exact HN.out
                · exact hR.out c (by omega)⟩
              case measure => simp [intOf]; omega
            · have HN : Hid (¬ z (z j).toNat = (j : Int)) := by show ¬ _; rw [hy]; exact h2
              have e2 : (z y != (j : Int)) = true := by simpa using h2
              rw [hy] at c1
              clear h0 h1 hy h
              go_wp2_with fail
              go_ret
              exact ⟨ret_bool (pairB_false fun hp => HN.out (hp.inv j hlt)).symm, rfl⟩
          · have h1' : (k : Int) ≤ z j := by omega
            clear h
            go_wp2_with fail
            go_ret
            exact ⟨ret_bool (pairB_false fun hp => by have := hp.hi j hlt; omega).symm, rfl⟩
      · have hlt' : ¬ (j : Int) < k := by omega
        have HT : Hid (true = pairB k k z) := (pairB_true ⟨rfl, fun a ha => (hR.out a (by omega)).1, fun a ha => (hR.out a (by omega)).2.1, fun a ha => (hR.out a (by omega)).2.2⟩).symm
        go_wp2_with fail
        go_ret
        exact ⟨ret_bool HT.out, rfl⟩
  · have e0 : ((k : Int) != (n : Int)) = true := by simp; omega
    have HF : Hid (false = pairB k n z) := (pairB_false fun h => hkn h.len).symm
    go_enter Try.func54, Try.ntmps54
    go_wp2_with fail
    go_ret
    exact ⟨ret_bool HF.out, rfl⟩

theorem later3 {w w2 : World} {x : Obj} (hb : Below (w.heap.size + 2) (((w.alloc x).alloc (.cells #[.slice none 0 0, .slice none 0 0, .slice none 0 0] 65)).drew) w2) (o : Obj) (i : Nat) (hi : i < 3) :
    (w2.alloc o).cell? ⟨w.heap.size + 1, i, none⟩ = some (.slice none 0 0) ∧ (w2.alloc o).frozen? ⟨w.heap.size + 1, i, none⟩ = false := by
  have hs := hb.size
  have hs' : w.heap.size + 2 ≤ w2.heap.size := by simpa using hs
  have h1 := hb.cell (p := ⟨w.heap.size + 1, i, none⟩) (by show w.heap.size + 1 < _; omega)
  have h2 := hb.frozen (p := ⟨w.heap.size + 1, i, none⟩) (by show w.heap.size + 1 < _; omega)
  rw [World.cell?_alloc_lt _ _ _ (by show w.heap.size + 1 < _; omega), World.frozen?_alloc_old _ _ _ (by show w.heap.size + 1 ≠ _; omega), h1, h2]
  have e : (w.alloc x).heap.size = w.heap.size + 1 := by simp
  have h3 := World.alloc_heap_new (w.alloc x) (.cells #[.slice none 0 0, .slice none 0 0, .slice none 0 0] 65)
  rw [e] at h3
  have h4 : (((w.alloc x).alloc (.cells #[.slice none 0 0, .slice none 0 0, .slice none 0 0] 65)).drew).heap[w.heap.size + 1]? = some (.cells #[.slice none 0 0, .slice none 0 0, .slice none 0 0] 65) := h3
  clear h1 h2 h3
  obtain rfl | rfl | rfl : i = 0 ∨ i = 1 ∨ i = 2 := by omega
  all_goals exact ⟨by simp only [World.cell?, h4]; rfl, by simp only [World.frozen?, h4]; rfl⟩

theorem later1 {w w2 : World} {v : Value} {x : Obj} (hb : Below (w.heap.size + 2) (((w.alloc (.cells #[v] 62)).alloc x).drew) w2) (o : Obj) :
    w2.cell? ⟨w.heap.size, 0, none⟩ = some v ∧ (w2.alloc o).cell? ⟨w.heap.size, 0, none⟩ = some v := by
  have hs' : w.heap.size + 2 ≤ w2.heap.size := by simpa using hb.size
  have h1 : w2.cell? ⟨w.heap.size, 0, none⟩ = some v := by
    rw [hb.cell (p := ⟨w.heap.size, 0, none⟩) (by show w.heap.size < _; omega)]
    exact ((Boxed.new w 62 v).alloc x).cell
  exact ⟨h1, by rw [World.cell?_alloc_lt _ _ _ (by show w.heap.size < _; omega)]; exact h1⟩

theorem past3 {w w1 : World} {v : Value} (h : w1.cell? ⟨w.heap.size, 0, none⟩ = some v) (x y z : Value) :
    (((w1.setCell ⟨w.heap.size + 1, 0, none⟩ x).setCell ⟨w.heap.size + 1, 1, none⟩ y).setCell ⟨w.heap.size + 1, 2, none⟩ z).cell? ⟨w.heap.size, 0, none⟩ = some v := by
  rw [World.cell?_setCell_other _ _ _ _ (fun e => by injection e with e1; omega), World.cell?_setCell_other _ _ _ _ (fun e => by injection e with e1; omega), World.cell?_setCell_other _ _ _ _ (fun e => by injection e with e1; omega)]
  exact h

/-- The algebra's two operations in memory, and the order turned round. -/
structure Alg (w : World) (ob tb : Nat) (tG : Nat → Nat) (sa : Option Addr) (l : Lay) (m : Mx) : Prop where
  own : OwnMat w tb tG (tr m)
  lt : ob < w.heap.size
  op0 : w.cell? ⟨ob, 0, none⟩ = some (.func (.func 89) #[.agg #[.slice sa m.n l.cap]] #[])
  op1 : w.cell? ⟨ob, 1, none⟩ = some (.func (.func 89) #[.agg #[.slice (some ⟨tb, 0, none⟩) m.n m.n]] #[])
theorem Alg.step {w w' : World} {ob tb : Nat} {tG : Nat → Nat} {sa : Option Addr} {l : Lay} {m : Mx} (h : Alg w ob tb tG sa l m) (hb : Below w.heap.size w w') : Alg w' ob tb tG sa l m :=
  ⟨⟨h.own.top.of_block (hb.block _ h.own.top.lt), fun r hr => (h.own.row r hr).of_block (hb.block _ (h.own.row r hr).lt)⟩, Nat.lt_of_lt_of_le h.lt hb.size, by rw [hb.cell h.lt]; exact h.op0, by rw [hb.cell h.lt]; exact h.op1⟩
def algV (sa : Option Addr) (l : Lay) (m : Mx) (na : Option Addr) (k nc ob : Nat) : Value := .agg #[.slice sa m.n l.cap, .slice na k nc, .slice (some ⟨ob, 0, none⟩) 2 2]
/-- What algebraOf hands back. -/
def AlgRes (w : World) (sa : Option Addr) (l : Lay) (m : Mx) (na : Option Addr) (k nc : Nat) (e : Ending) (w' : World) : Prop :=
  ∃ (ob tb : Nat) (tG : Nat → Nat), e = .returned (algV sa l m na k nc ob) ∧ Below w.heap.size w w' ∧ Alg w' ob tb tG sa l m ∧ w.heap.size ≤ ob ∧ w.heap.size ≤ tb ∧ ∀ r, w.heap.size ≤ tG r
theorem alg_end {w w2 : World} {sa na : Option Addr} {l : Lay} {m : Mx} {k nc tb : Nat} {tG : Nat → Nat} {x y : Obj}
    (hw2 : Below ((w.alloc x).alloc y).drew.heap.size ((w.alloc x).alloc y).drew w2) (hO2 : OwnMat w2 tb tG (tr m)) (hb2 : ((w.alloc x).alloc y).drew.heap.size ≤ tb) (hG2 : ∀ r, ((w.alloc x).alloc y).drew.heap.size ≤ tG r) :
    Below w.heap.size w ((((w2.alloc (.cells #[.func (.func 89) #[.agg #[.slice sa m.n l.cap]] #[], .func (.func 89) #[.agg #[.slice (some ⟨tb, 0, none⟩) m.n m.n]] #[]] 108)).setCell ⟨w.heap.size + 1, 0, none⟩ (.slice sa m.n l.cap)).setCell ⟨w.heap.size + 1, 1, none⟩ (.slice na k nc)).setCell ⟨w.heap.size + 1, 2, none⟩ (.slice (some ⟨w2.heap.size, 0, none⟩) 2 2)) ∧
    Alg ((((w2.alloc (.cells #[.func (.func 89) #[.agg #[.slice sa m.n l.cap]] #[], .func (.func 89) #[.agg #[.slice (some ⟨tb, 0, none⟩) m.n m.n]] #[]] 108)).setCell ⟨w.heap.size + 1, 0, none⟩ (.slice sa m.n l.cap)).setCell ⟨w.heap.size + 1, 1, none⟩ (.slice na k nc)).setCell ⟨w.heap.size + 1, 2, none⟩ (.slice (some ⟨w2.heap.size, 0, none⟩) 2 2)) w2.heap.size tb tG sa l m ∧ w.heap.size ≤ w2.heap.size ∧ w.heap.size ≤ tb ∧ ∀ r, w.heap.size ≤ tG r := by
  have e2 : ((w.alloc x).alloc y).drew.heap.size = w.heap.size + 2 := by simp
  rw [e2] at hb2 hG2
  have hs := hw2.size
  rw [e2] at hs
  have hbw : Below w.heap.size w w2 := ((((Below.refl w.heap.size w).alloc (Nat.le_refl _) x).alloc (by simp) y).drew).trans (hw2.mono (by rw [e2]; omega))
  have hne : ∀ p : Nat, p ≠ w.heap.size + 1 → ∀ (o i : Nat) (u : Value), (⟨p, i, none⟩ : Addr) ≠ ⟨w.heap.size + 1, o, none⟩ := fun p hp o i _ e => hp (by injection e)
  refine ⟨(((hbw.alloc (by omega) _).setCell (by show w.heap.size ≤ w.heap.size + 1; omega) _).setCell (by show w.heap.size ≤ w.heap.size + 1; omega) _).setCell (by show w.heap.size ≤ w.heap.size + 1; omega) _, ⟨⟨?_, fun r hr => ?_⟩, by simp, ?_, ?_⟩, by omega, by omega, fun r => by have := hG2 r; omega⟩
  · exact (((hO2.top.alloc _).setOther (by show tb ≠ w.heap.size + 1; omega) _).setOther (by show tb ≠ w.heap.size + 1; omega) _).setOther (by show tb ≠ w.heap.size + 1; omega) _
  · have := hG2 r
    exact ((((hO2.row r hr).alloc _).setOther (by show tG r ≠ w.heap.size + 1; omega) _).setOther (by show tG r ≠ w.heap.size + 1; omega) _).setOther (by show tG r ≠ w.heap.size + 1; omega) _
  · rw [World.cell?_setCell_other _ _ _ _ (fun e => by injection e with e1; omega), World.cell?_setCell_other _ _ _ _ (fun e => by injection e with e1; omega), World.cell?_setCell_other _ _ _ _ (fun e => by injection e with e1; omega)]
    have h3 := World.alloc_heap_new w2 (.cells #[.func (.func 89) #[.agg #[.slice sa m.n l.cap]] #[], .func (.func 89) #[.agg #[.slice (some ⟨tb, 0, none⟩) m.n m.n]] #[]] 108)
    simp only [World.cell?, h3]
    rfl
  · rw [World.cell?_setCell_other _ _ _ _ (fun e => by injection e with e1; omega), World.cell?_setCell_other _ _ _ _ (fun e => by injection e with e1; omega), World.cell?_setCell_other _ _ _ _ (fun e => by injection e with e1; omega)]
    have h3 := World.alloc_heap_new w2 (.cells #[.func (.func 89) #[.agg #[.slice sa m.n l.cap]] #[], .func (.func 89) #[.agg #[.slice (some ⟨tb, 0, none⟩) m.n m.n]] #[]] 108)
    simp only [World.cell?, h3]
    rfl
theorem told3 {w1 : World} {p : Nat} {x y z u0 u1 u2 : Value} (h0 : w1.cell? ⟨p, 0, none⟩ = some u0) (h1 : w1.cell? ⟨p, 1, none⟩ = some u1) (h2 : w1.cell? ⟨p, 2, none⟩ = some u2) :
    (((w1.setCell ⟨p, 0, none⟩ x).setCell ⟨p, 1, none⟩ y).setCell ⟨p, 2, none⟩ z).cell? ⟨p, 0, none⟩ = some x ∧
    (((w1.setCell ⟨p, 0, none⟩ x).setCell ⟨p, 1, none⟩ y).setCell ⟨p, 2, none⟩ z).cell? ⟨p, 1, none⟩ = some y ∧
    (((w1.setCell ⟨p, 0, none⟩ x).setCell ⟨p, 1, none⟩ y).setCell ⟨p, 2, none⟩ z).cell? ⟨p, 2, none⟩ = some z := by
  have a01 : (⟨p, 0, none⟩ : Addr) ≠ ⟨p, 1, none⟩ := fun e => by injection e with _ e1; omega
  have a02 : (⟨p, 0, none⟩ : Addr) ≠ ⟨p, 2, none⟩ := fun e => by injection e with _ e1; omega
  have a12 : (⟨p, 1, none⟩ : Addr) ≠ ⟨p, 2, none⟩ := fun e => by injection e with _ e1; omega
  refine ⟨?_, ?_, ?_⟩
  · rw [World.cell?_setCell_other _ _ _ _ (by first | exact a02 | exact Ne.symm a02), World.cell?_setCell_other _ _ _ _ (by first | exact a01 | exact Ne.symm a01)]
    exact World.cell?_setCell_same _ _ _ h0
  · rw [World.cell?_setCell_other _ _ _ _ (by first | exact a12 | exact Ne.symm a12)]
    exact World.cell?_setCell_same (u := u1) _ _ _ (by rw [World.cell?_setCell_other _ _ _ _ (by first | exact a01 | exact Ne.symm a01)]; exact h1)
  · exact World.cell?_setCell_same (u := u2) _ _ _ (by rw [World.cell?_setCell_other _ _ _ _ (by first | exact a12 | exact Ne.symm a12), World.cell?_setCell_other _ _ _ _ (by first | exact a02 | exact Ne.symm a02)]; exact h2)

set_option maxRecDepth 100000 in
set_option maxHeartbeats 2000000 in
theorem algebraOf_any {B : Nat} {sa na : Option Addr} {l : Lay} {m : Mx} {k nc : Nat} {w : World} (h : SqAt w B sa l m) :
    Calls Try.prog 55 #[.agg #[.slice sa m.n l.cap], .slice na k nc] w (AlgRes w sa l m na k nc) := by
  have hW := Lib.hid (((h.alloc (.cells #[.slice sa m.n l.cap] 62)).alloc (.cells #[.slice none 0 0, .slice none 0 0, .slice none 0 0] 65)).step (Below.refl _ _).drew)
  clear h
  go_enter Try.func55, Try.ntmps55
  go_wp2_with fail
  have k0 : ((w.alloc (.cells #[.slice sa m.n l.cap] 62)).alloc (.cells #[.slice none 0 0, .slice none 0 0, .slice none 0 0] 65)).drew.cell? ⟨w.heap.size, 0, none⟩ = some (.slice sa m.n l.cap) := ((Boxed.new w 62 (.slice sa m.n l.cap)).alloc _).cell
  go_region_held3 (fun w' => w'.cell? ⟨w.heap.size, 0, none⟩ = some (.slice sa m.n l.cap)) (first | with_reducible exact k0 | with_reducible exact b0 | with_reducible exact b1 _ | with_reducible exact past3 (b1 _) _ _ _) (first | (go_at_call 88; refine (turned_ex hW.out).mono ?_; rintro e w2 ⟨tb, tG, rfl, hw2, hO2, hb2, hG2⟩; have hl3 := later3 (hw2.mono (by simp)); have hl1 := later1 (hw2.mono (by simp)); have b0 := (hl1 (.cells #[] 3)).1; have b1 := fun o => (hl1 o).2; have r0 := fun o => (hl3 o 0 (by omega)).1; have r1 := fun o => (hl3 o 1 (by omega)).1; have r2 := fun o => (hl3 o 2 (by omega)).1; have f0 := fun o => (hl3 o 0 (by omega)).2; have f1 := fun o => (hl3 o 1 (by omega)).2; have f2 := fun o => (hl3 o 2 (by omega)).2; have hE := Lib.hid (alg_end (sa := sa) (l := l) (na := na) (k := k) (nc := nc) hw2 hO2 hb2 hG2); clear hl3 hl1 hb2 hG2 hw2 hO2))
  all_goals
    go_wp2_with fail
    have hT := told3 (x := .slice sa m.n l.cap) (y := .slice na k nc) (z := .slice (some ⟨w2.heap.size, 0, none⟩) 2 2) (r0 (.cells #[.func (.func 89) #[.agg #[.slice sa m.n l.cap]] #[], .func (.func 89) #[.agg #[.slice (some ⟨tb, 0, none⟩) m.n m.n]] #[]] 108)) (r1 _) (r2 _)
    have q0 := hT.1
    have q1 := hT.2.1
    have q2 := hT.2.2
    refine bodyPost_ret (v := algV sa l m na k nc w2.heap.size) (by simp [results, Try.results55, go_sem, q0, q1, q2, algV]) rfl ⟨w2.heap.size, tb, tG, rfl, hE.out.1, hE.out.2.1, hE.out.2.2⟩
end Go.Proofs.Ytgjacinolenheaa
