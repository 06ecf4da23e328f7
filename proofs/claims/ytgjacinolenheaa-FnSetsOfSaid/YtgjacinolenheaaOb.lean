/- The walks of the algebra's operations, and of the test whether each answer meets its opposite in the least one. -/
import Derived.Test.YtgjacinolenheaaOa
namespace Go.Proofs.Ytgjacinolenheaa
open Go.RowKit Go.Deep

/-- A struct was boxed in world w, in a block of its own; since then the call has only made memory. -/
structure BoxN (w : World) (cs : Array Value) (t : TypeId) (wr : World) : Prop where
  since : Below (w.heap.size + 1) (w.alloc (.cells cs t)) wr
theorem BoxN.start (w : World) (cs : Array Value) (t : TypeId) : BoxN w cs t (w.alloc (.cells cs t)) := ⟨Below.refl _ _⟩
theorem BoxN.size {w wr : World} {cs : Array Value} {t : TypeId} (h : BoxN w cs t wr) : w.heap.size + 1 ≤ wr.heap.size := by
  have := h.since.size
  rwa [World.size_alloc] at this
theorem BoxN.step {w wr w1 : World} {cs : Array Value} {t : TypeId} (h : BoxN w cs t wr) (k : Below wr.heap.size wr w1) : BoxN w cs t w1 := ⟨h.since.trans (k.mono h.size)⟩
theorem BoxN.cell {w wr : World} {cs : Array Value} {t : TypeId} (h : BoxN w cs t wr) (i : Nat) {v : Value} (hv : cs[i]? = some v) : wr.cell? ⟨w.heap.size, i, none⟩ = some v :=
  (h.since.cell (p := ⟨w.heap.size, i, none⟩) (Nat.lt_succ_self _)).trans (by
    have e := World.alloc_heap_new w (.cells cs t)
    simp only [World.cell?, e]
    exact hv)
theorem BoxN.below {w wr : World} {cs : Array Value} {t : TypeId} (h : BoxN w cs t wr) : Below w.heap.size w wr :=
  ((Below.refl _ w).alloc (Nat.le_refl _) _).trans (h.since.mono (Nat.le_succ _))

set_option maxRecDepth 100000 in
set_option maxHeartbeats 1000000 in
theorem made_meet {w : World} {ob tb B k nc a b : Nat} {tG : Nat → Nat} {sa na : Option Addr} {l : Lay} {m : Mx} (hA : Alg w ob tb tG sa l m) (hS : SqAt w B sa l m) (ha : a < m.n) (hb : b < m.n) :
    Calls Try.prog 90 #[algV sa l m na k nc ob, .int .i64 0, .int .i64 a, .int .i64 b] w fun e w' => e = .returned (.int .i64 (meetI m a b)) ∧ Below w.heap.size w w' := by
  have hb1 := (Below.refl w.heap.size w).alloc (Nat.le_refl _) (.cells #[.slice sa m.n l.cap, .slice na k nc, .slice (some ⟨ob, 0, none⟩) 2 2] 65)
  have hA1 := hA.step hb1
  have c0 := hA1.op0
  have hS1 := hS.alloc (.cells #[.slice sa m.n l.cap, .slice na k nc, .slice (some ⟨ob, 0, none⟩) 2 2] 65)
  have HS1 := Lib.hid hS1
  clear hA hA1 hS hS1
  unfold algV
  go_enter Try.func90, Try.ntmps90
  go_wp2_with fail
  go_at_call 89
  refine (meet_sq HS1.out ha hb).mono ?_
  rintro e w1 ⟨rfl, h1⟩
  go_wp2_with fail
  go_ret
  exact ⟨rfl, hb1.trans (h1.mono hb1.size)⟩

set_option maxRecDepth 100000 in
set_option maxHeartbeats 1000000 in
theorem made_join {w : World} {ob tb B k nc a b : Nat} {tG : Nat → Nat} {sa na : Option Addr} {l : Lay} {m : Mx} (hA : Alg w ob tb tG sa l m) (hS : SqAt w B sa l m) (ha : a < m.n) (hb : b < m.n) :
    Calls Try.prog 90 #[algV sa l m na k nc ob, .int .i64 1, .int .i64 a, .int .i64 b] w fun e w' => e = .returned (.int .i64 (meetI (tr m) a b)) ∧ Below w.heap.size w w' := by
  have hb1 := (Below.refl w.heap.size w).alloc (Nat.le_refl _) (.cells #[.slice sa m.n l.cap, .slice na k nc, .slice (some ⟨ob, 0, none⟩) 2 2] 65)
  have hA1 := hA.step hb1
  have c0 := hA1.op1
  have hS1 : SqAt (w.alloc (.cells #[.slice sa m.n l.cap, .slice na k nc, .slice (some ⟨ob, 0, none⟩) 2 2] 65)) _ (some ⟨tb, 0, none⟩) (ownLay tb tG (tr m)) (tr m) := sq_turned hS hA1.own
  have HS1 := Lib.hid hS1
  clear hA hA1 hS hS1
  unfold algV
  go_enter Try.func90, Try.ntmps90
  go_wp2_with fail
  go_at_call 89
  refine (meet_tr HS1.out ha hb).mono ?_
  rintro e w1 ⟨rfl, h1⟩
  go_wp2_with fail
  go_ret
  exact ⟨rfl, hb1.trans (h1.mono hb1.size)⟩

set_option maxRecDepth 100000 in
set_option maxHeartbeats 2000000 in
theorem kept_any {w : World} {ob tb B B' g o k nc : Nat} {tG : Nat → Nat} {sa na : Option Addr} {l : Lay} {m : Mx} {z : Nat → Int} {y : Nat → Nat} (hA : Alg w ob tb tG sa l m) (hS : SqAt w B sa l m)
    (hR : RowAt w B' na g o k z) (hB' : B' ≤ w.heap.size) (hpos : 1 ≤ m.n) (hk : k = m.n) (hy : ∀ a, a < m.n → z a = (y a : Int) ∧ y a < m.n) :
    Calls Try.prog 57 #[algV sa l m na k nc ob] w fun e w' => e = .returned (.bool (keptB m y)) ∧ Below w.heap.size w w' := by
  subst hk
  obtain ⟨rfl, hg1, hg2⟩ := hR.row 0 (by omega)
  clear hg1 hg2
  have hn := hS.hi
  have hX := BoxN.start w #[.slice sa m.n l.cap, .slice (some ⟨g, o, none⟩) m.n nc, .slice (some ⟨ob, 0, none⟩) 2 2] 65
  have hb1 := hX.below
  have HS := Lib.hid hS
  have HA := Lib.hid hA
  have HR := Lib.hid hR
  have HY := Lib.hid hy
  clear hS hA hR hy
  unfold algV
  go_enter Try.func57, Try.ntmps57
  go_wp2_with fail
  go_at_call 59
  refine (least_sq (HS.out.step hb1)).mono ?_
  rintro e w1 ⟨rfl, h1⟩
  have hX1 := hX.step h1
  have q0 := hX1.cell 0 rfl
  have q1 := hX1.cell 1 rfl
  have q2 := hX1.cell 2 rfl
  clear hX
  go_wp2_with fail
  clear q0 q1 q2
  go_loopw [16] (fun i wi => ∃ j : Nat, j ≤ m.n ∧ i = .int .i64 j ∧ Hid (∀ c, c < j → keptPB m y c = true) ∧ Below w1.heap.size w1 wi) (fun i _ => m.n - (intOf i).toNat)
  case atStart => exact ⟨0, Nat.zero_le _, rfl, fun c hc => absurd hc (Nat.not_lt_zero _), Below.refl _ _⟩
  case round =>
    obtain ⟨j, hj, rfl, hP, hb⟩ := hrel
    by_cases hlt : j < m.n
    · have hlt' : (j : Int) < m.n := by omega
      have hXi := hX1.step hb
      have hbw := hXi.below
      have q0 := hXi.cell 0 rfl
      have q1 := hXi.cell 1 rfl
      have q2 := hXi.cell 2 rfl
      obtain ⟨_, _, c1⟩ := (HR.out.below (hbw.mono hB')).row j hlt
      obtain ⟨e1, e2⟩ := HY.out j hlt
      rw [e1] at c1
      have hSi := Lib.hid (HS.out.step hbw)
      have hAi := Lib.hid (HA.out.step hbw)
      clear hXi hbw e1
      by_cases hm : meetI m j (y j) = leastI m
      · have HM := Lib.hid hm
        clear hm
        have e0 : (leastI m != leastI m) = false := by simp
        go_wp2_with fail
        go_at_call 90
        refine (made_meet hAi.out hSi.out hlt e2).mono ?_
        rintro e w2 ⟨rfl, h2⟩
        rw [HM.out]
        have hb2 := hb.trans (h2.mono hb.size)
        clear q0 q1 q2 c1
        go_wp2_with fail
        go_roundw
        case rel => exact ⟨j + 1, by omega, by go_num, fun c hc => by
          by_cases e : c = j
          · subst e; unfold keptPB; exact decide_eq_true HM.out
          · exact hP.out c (by omega), hb2⟩
        case measure => simp [intOf]; omega
      · have e0 : (meetI m j (y j) != leastI m) = true := by simpa using hm
        have HM := Lib.hid hm
        clear hm
        go_wp2_with fail
        go_at_call 90
        refine (made_meet hAi.out hSi.out hlt e2).mono ?_
        rintro e w2 ⟨rfl, h2⟩
        have hb2 := hb.trans (h2.mono hb.size)
        clear q0 q1 q2 c1
        go_wp2_with fail
        go_ret
        exact ⟨ret_bool (allB_false hlt (decide_eq_false HM.out)).symm, (hX1.below).trans (hb2.mono (by have := hX1.below.size; omega))⟩
    · have hlt' : ¬ (j : Int) < m.n := by omega
      have HT : Hid (true = keptB m y) := (allB_true fun c hc => hP.out c (by omega)).symm
      go_wp2_with fail
      go_ret
      exact ⟨ret_bool HT.out, (hX1.below).trans (hb.mono (by have := hX1.below.size; omega))⟩
end Go.Proofs.Ytgjacinolenheaa
