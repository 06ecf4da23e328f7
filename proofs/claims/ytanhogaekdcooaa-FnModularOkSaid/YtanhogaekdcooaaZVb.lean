import Derived.Test.YtanhogaekdcooaaZVa
import Derived.Laws.CopyOwn
namespace Go.Proofs.Ytanhogaekdcooaa
open Go.RowKit Go.Deep

set_option maxRecDepth 100000 in
set_option maxHeartbeats 1000000 in
theorem Mul64_one (c : Nat) (hc : c ≤ 12) (w : World) : Calls Try.prog 122 #[.int .u64 1, .int .u64 (c : Int)] w fun e w' => e = .returned (.tuple #[.int .u64 0, .int .u64 (c : Int)]) ∧ w = w' := by
  have hv : c = 0 ∨ c = 1 ∨ c = 2 ∨ c = 3 ∨ c = 4 ∨ c = 5 ∨ c = 6 ∨ c = 7 ∨ c = 8 ∨ c = 9 ∨ c = 10 ∨ c = 11 ∨ c = 12 := by omega
  rcases hv with rfl | rfl | rfl | rfl | rfl | rfl | rfl | rfl | rfl | rfl | rfl | rfl | rfl <;>
  · go_enter Try.func122, Try.ntmps122
    go_wp2_with fail
    exact bodyPost_ret (by simp [results, Try.results122, go_sem]; rfl) rfl ⟨by first | rfl | decide +kernel, rfl⟩
theorem Mul_one (c : Nat) (hc : c ≤ 12) (w : World) : Calls Try.prog 120 #[.int .u64 1, .int .u64 (c : Int)] w fun e w' => e = .returned (.tuple #[.int .u64 0, .int .u64 (c : Int)]) ∧ w = w' := by
  have HM := Lib.hid (Mul64_one c hc)
  go_enter Try.func120, Try.ntmps120
  go_wp2_with fail
  go_at_call 122
  refine (HM.out _).mono ?_
  rintro e w1 ⟨rfl, rfl⟩
  go_wp2_with fail
  exact bodyPost_ret (v := .tuple #[.int .u64 0, .int .u64 (c : Int)]) (by simp [results, Try.results120, go_sem]) rfl ⟨rfl, rfl⟩

/-- A row of c places of which the first k hold x. -/
def reps (x : Int) (k c : Nat) : List Value := List.replicate k (.int .i64 x) ++ List.replicate (c - k) (.int .i64 0)
theorem reps_len {x : Int} {k c : Nat} (h : k ≤ c) : (reps x k c).length = c := by simp [reps]; omega
theorem reps_zero (x : Int) (c : Nat) : reps x 0 c = List.replicate c (.int .i64 0) := by simp [reps]
theorem reps_splice {x : Int} {k j c : Nat} (_ : k + j ≤ c) : splice (reps x k c) k (List.replicate j (.int .i64 x)) = reps x (k + j) c := by
  unfold splice reps
  have e1 : List.take k (List.replicate k (Value.int .i64 x) ++ List.replicate (c - k) (Value.int .i64 0)) = List.replicate k (.int .i64 x) := by rw [List.take_append_of_le_length (by simp)]; simp
  have e2 : List.drop (k + j) (List.replicate k (Value.int .i64 x) ++ List.replicate (c - k) (Value.int .i64 0)) = List.replicate (c - (k + j)) (.int .i64 0) := by
    rw [List.drop_append]
    simp
    omega
  rw [List.length_replicate, e1, e2, ← List.append_assoc, List.replicate_append_replicate]
theorem reps_cell {w : World} {g : Nat} {x : Int} {k c : Nat} {t : TypeId} (h : w.heap[g]? = some (.cells (reps x k c).toArray t (0, 0))) {j : Nat} (hj : j < k) : w.cell? ⟨g, j, none⟩ = some (.int .i64 x) := by
  simp [World.cell?, h, reps, hj, List.getElem?_append]

theorem made_cells (c : Nat) : madeCells #[Value.int .i64 0] c = (List.replicate c (Value.int .i64 0)).toArray := by
  rw [← toList_madeCells_one]
theorem infoSz : (Try.prog.info? 3).map (·.size) = some 1 := by kernel_rfl
/-- Copying ahead within a row of which the first k hold x. -/
theorem copy_row {w : World} {g k off c j sl sc dl dc : Nat} {x : Int} {ad : Addr} (hh : w.heap[g]? = some (.cells (reps x k c).toArray 3 (0, 0))) (ho : off = k) (hj : j = min sl dl) (hk : k + j ≤ c) (hs : ∀ i, i < j → w.cell? (ad.add i) = some (.int .i64 x)) :
    ∃ W3, (Builtin.copy_ #[24, 24] 3 #[.slice (some ⟨g, off, none⟩) dl dc, .slice (some ad) sl sc]).run Try.prog w = .ok (.int .i64 (j : Int)) W3 ∧ W3.heap[g]? = some (.cells (reps x (k + j) c).toArray 3 (0, 0)) ∧ Below g w W3 := by
  subst ho
  have h1 := run_copy_row (P := Try.prog) w 24 24 3 3 g off dl dc ad sl sc (reps x off c).toArray 3 (List.replicate j (.int .i64 x)) Try.underlying24 infoSz hh (by rw [List.length_replicate]; exact hj)
    (fun i v hi => by
      obtain ⟨h1, h2⟩ := List.getElem?_eq_some_iff.1 hi
      rw [← h2]
      simpa using hs i (by simpa using h1))
    (by rw [List.size_toArray, reps_len (by omega)]; simpa using hk) (by simp [Value.oneCell'])
  refine ⟨w.setRow g (List.take off (reps x off c).toArray.toList ++ List.replicate j (Value.int .i64 x) ++ List.drop (off + (List.replicate j (Value.int IntKind.i64 x)).length) (reps x off c).toArray.toList).toArray, by rw [h1, List.length_replicate]; rfl, ?_, ?_⟩
  · rw [setRow_heap w g _ _ 3 _ hh]
    have h2 := reps_splice (x := x) hk
    unfold splice at h2
    rw [← h2]
    simp
  · exact below_setRow (Below.refl _ _) (Nat.le_refl _) _

set_option maxRecDepth 100000 in
set_option maxHeartbeats 2000000 in
theorem Repeat_one {c : Nat} (hc : c ≤ 12) {w : World} {b : Nat} {x : Int} (h : w.cell? ⟨b, 0, none⟩ = some (.int .i64 x)) :
    Calls Try.prog 116 #[.slice (some ⟨b, 0, none⟩) 1 1, .int .i64 (c : Int)] w fun e w' => e = .returned (.slice (some ⟨w.heap.size, 0, none⟩) c c) ∧ w'.heap[w.heap.size]? = some (.cells (reps x c c).toArray 3 (0, 0)) ∧ Below w.heap.size w w' := by
  have HM := Lib.hid (Mul_one c hc)
  have hb := World.block_lt_of_cell? w _ h
  go_enter Try.func116, Try.ntmps116
  go_wp2_with fail
  go_at_call 120
  refine (HM.out _).mono ?_
  rintro e w1 ⟨rfl, rfl⟩
  have hmk := run_make_row' (P := Try.prog) 24 3 (.int .i64 0) 8 Try.underlying24 infoInt rfl .i64 .i64 c (by omega) (by omega)
  have hc1 : ¬ (9223372036854775807 : Int) < (c : Int) := by omega
  have hb2 := (Below.refl w.heap.size w).alloc (Nat.le_refl _) (.cells (madeCells #[.int .i64 0] c) 3)
  have hh2 : (w.alloc (.cells (madeCells #[.int .i64 0] c) 3)).heap[w.heap.size]? = some (.cells (reps x 0 c).toArray 3 (0, 0)) := by rw [World.alloc_heap_new, reps_zero, made_cells]
  have hx2 := (hb2.cell (p := ⟨b, 0, none⟩) hb).trans h
  obtain ⟨m, hm⟩ : ∃ m, m = min 1 c := ⟨_, rfl⟩
  obtain ⟨w3, hcp, hh3, hb3⟩ := copy_row (dc := c) (sc := 1) (sl := 1) (dl := c) (ad := ⟨b, 0, none⟩) hh2 rfl hm (by omega) (fun i hi => by
    obtain rfl : i = 0 := by omega
    simpa [Addr.add] using hx2)
  have HM' := Lib.hid hm
  have HB3 := Lib.hid (hb2.trans hb3)
  have HH3 := Lib.hid hh3
  clear hm hh2 hx2 hb2 hb3 hh3
  go_wp2_with fail
  clear hcp hmk
  go_loopw [8] (fun i wr => ∃ k : Nat, k ≤ c ∧ (c = 0 ∨ 1 ≤ k) ∧ i = .int .i64 k ∧ Hid (wr.heap[w.heap.size]? = some (.cells (reps x k c).toArray 3 (0, 0))) ∧ Hid (Below w.heap.size w wr)) (fun i _ => c - (intOf i).toNat)
  case atStart => exact ⟨m, by have := HM'.out; omega, by have := HM'.out; omega, rfl, by have := HH3.out; rw [Nat.zero_add] at this; exact this, HB3⟩
  case round =>
    clear HH3 HB3 HM' HM
    obtain ⟨k, hk, hk1, rfl, hH, hB⟩ := hrel
    by_cases hlt : k < c
    · have hlt' : (k : Int) < (c : Int) := by omega
      obtain ⟨j, hj⟩ : ∃ j, j = min k (c - k) := ⟨_, rfl⟩
      obtain ⟨w4, hcp, hh4, hb4⟩ := copy_row (w := wr.drew) (dc := c - k) (sc := c) (sl := k) (dl := c - k) (ad := ⟨w.heap.size, 0, none⟩) (x := x) (j := j) (c := c) (g := w.heap.size) hH.out rfl hj (by omega) (fun i hi => by
        have : (wr.drew).cell? ⟨w.heap.size, i, none⟩ = some (.int .i64 x) := reps_cell hH.out (by omega)
        have e : (⟨w.heap.size, 0, none⟩ : Addr).add i = ⟨w.heap.size, i, none⟩ := by unfold Addr.add; split <;> simp_all
        rw [e]
        exact this)
      have hck : ¬ c = k := by omega
      have hj1 : 1 ≤ j ∧ k + j ≤ c := by omega
      have HB4 := Lib.hid ((hB.out.drew).trans hb4)
      have HH4 := Lib.hid hh4
      have e1 : ¬ (c : Int) < (k : Int) := by omega
      have ew : IntKind.i64.wrap ((k : Int) + (j : Int)) = ((k + j : Nat) : Int) := by rw [← Int.natCast_add]; exact IntWalk.i64_in _ (by omega)
      have eck : (c : Int) - (k : Int) = ((c - k : Nat) : Int) := by omega
      have K0 : wr.drew.heap[w.heap.size]? = some (.cells (reps x k c).toArray 3 (0, 0)) ∧ Below w.heap.size w wr.drew ∨ wr.drew.heap[w.heap.size]? = some (.cells (reps x (k + j) c).toArray 3 (0, 0)) ∧ Below w.heap.size w wr.drew := .inl ⟨hH.out, hB.out.drew⟩
      have K1 : w4.heap[w.heap.size]? = some (.cells (reps x k c).toArray 3 (0, 0)) ∧ Below w.heap.size w w4 ∨ w4.heap[w.heap.size]? = some (.cells (reps x (k + j) c).toArray 3 (0, 0)) ∧ Below w.heap.size w w4 := .inr ⟨HH4.out, HB4.out⟩
      clear hj hH hB hh4 hb4
      go_wp2_with fail
      refine region_plain (fuel := 10) (listed := #[false, false, false, false, false, false, false, false, false, false]) (fun W' => W'.heap[w.heap.size]? = some (.cells (reps x k c).toArray 3 (0, 0)) ∧ Below w.heap.size w W' ∨ W'.heap[w.heap.size]? = some (.cells (reps x (k + j) c).toArray 3 (0, 0)) ∧ Below w.heap.size w W') (by kernel_rfl) (by kernel_rfl) (by kernel_rfl) ?_
      refine hold_take (i := 0) (d := 38) (v := ?vc0) (listed' := #[true, false, false, false, false, false, false, false, false, false]) rfl (by kernel_rfl) (by kernel_rfl) (by kernel_rfl) rfl (by rfl) (by kernel_rfl) K0 ?hc0 ?rc0
      case hc0 =>
        intro w' hSw
        skip
        go_simp
        try with_reducible rfl
      simp only [List.setIfInBounds_toArray, List.set_cons_zero, List.set_cons_succ]
      refine hold_take (i := 1) (d := 39) (v := ?vc1) (listed' := #[true, true, false, false, false, false, false, false, false, false]) rfl (by kernel_rfl) (by kernel_rfl) (by kernel_rfl) rfl (by rfl) (by kernel_rfl) K0 ?hc1 ?rc1
      case hc1 =>
        intro w' hSw
        skip
        go_simp
        try with_reducible rfl
      simp only [List.setIfInBounds_toArray, List.set_cons_zero, List.set_cons_succ]
      refine hold_take (i := 2) (d := 40) (v := ?vc2) (listed' := #[true, true, true, false, false, false, false, false, false, false]) rfl (by kernel_rfl) (by kernel_rfl) (by kernel_rfl) rfl (by rfl) (by kernel_rfl) K0 ?hc2 ?rc2
      case hc2 =>
        intro w' hSw
        skip
        go_simp
        try with_reducible rfl
      simp only [List.setIfInBounds_toArray, List.set_cons_zero, List.set_cons_succ]
      refine hold_take (i := 3) (d := 41) (v := ?vc3) (listed' := #[true, true, true, true, false, false, false, false, false, false]) rfl (by kernel_rfl) (by kernel_rfl) (by kernel_rfl) rfl (by rfl) (by kernel_rfl) K0 ?hc3 ?rc3
      case hc3 =>
        intro w' hSw
        skip
        go_simp
        try with_reducible rfl
      simp only [List.setIfInBounds_toArray, List.set_cons_zero, List.set_cons_succ]
      refine hold_take (i := 4) (d := 42) (v := ?vc4) (listed' := #[true, true, true, true, true, false, false, false, false, false]) rfl (by kernel_rfl) (by kernel_rfl) (by kernel_rfl) rfl (by rfl) (by kernel_rfl) K0 ?hc4 ?rc4
      case hc4 =>
        intro w' hSw
        skip
        go_simp
        try with_reducible rfl
      simp only [List.setIfInBounds_toArray, List.set_cons_zero, List.set_cons_succ]
      refine hold_take (i := 5) (d := 43) (v := ?vc5) (listed' := #[true, true, true, true, true, true, false, false, false, false]) rfl (by kernel_rfl) (by kernel_rfl) (by kernel_rfl) rfl (by rfl) (by kernel_rfl) K0 ?hc5 ?rc5
      case hc5 =>
        intro w' hSw
        skip
        go_simp
        try with_reducible rfl
      simp only [List.setIfInBounds_toArray, List.set_cons_zero, List.set_cons_succ]
      refine hold_take (i := 6) (d := 44) (v := ?vc6) (listed' := #[true, true, true, true, true, true, true, false, false, false]) rfl (by kernel_rfl) (by kernel_rfl) (by kernel_rfl) rfl (by rfl) (by kernel_rfl) K0 ?hc6 ?rc6
      case hc6 =>
        intro w' hSw
        skip
        go_simp
        try with_reducible rfl
      simp only [List.setIfInBounds_toArray, List.set_cons_zero, List.set_cons_succ]
      refine hold_value (i := 7) (d := 45) (listed' := #[true, true, true, true, true, true, true, true, false, false]) rfl (by kernel_rfl) rfl (by rfl) (by kernel_rfl) (v := .int .i64 (j : Int)) (w' := w4) ?hvc7 K1 ?_
      case hvc7 =>
        go_simp
        try with_reducible rfl
      simp only [List.setIfInBounds_toArray, List.set_cons_zero, List.set_cons_succ]
      refine hold_take (i := 8) (d := 46) (v := ?vc8) (listed' := #[true, true, true, true, true, true, true, true, true, false]) rfl (by kernel_rfl) (by kernel_rfl) (by kernel_rfl) rfl (by rfl) (by kernel_rfl) K1 ?hc8 ?rc8
      case hc8 =>
        intro w' hSw
        skip
        go_simp
        try with_reducible rfl
      simp only [List.setIfInBounds_toArray, List.set_cons_zero, List.set_cons_succ]
      refine hold_take (i := 9) (d := 8) (v := ?vc9) (listed' := #[true, true, true, true, true, true, true, true, true, true]) rfl (by kernel_rfl) (by kernel_rfl) (by kernel_rfl) rfl (by rfl) (by kernel_rfl) K1 ?hc9 ?rc9
      case hc9 =>
        intro w' hSw
        skip
        go_simp
        try with_reducible rfl
      simp only [List.setIfInBounds_toArray, List.set_cons_zero, List.set_cons_succ]
      refine hold_done (by kernel_rfl) ?_ _
      clear K0 K1 hcp
      go_wp2_with fail
      go_roundw
      case rel => exact ⟨k + j, by omega, by omega, by go_num, HH4, HB4⟩
      case measure => simp [intOf]; omega
    · have hlt' : ¬ (k : Int) < (c : Int) := by omega
      have hkc : k = c := by omega
      have HK : Hid (k = c) := hkc
      clear hkc
      go_wp2_with fail
      go_ret
      exact ⟨rfl, by have := hH.out; rw [HK.out] at this; exact this, hB.out⟩
end Go.Proofs.Ytanhogaekdcooaa
