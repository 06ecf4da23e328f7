/- Deeds as values: whether two are equal; the reference's texts of deeds. -/
import Derived.Test.YtjofkejfldmmlaaDoorXb
import Derived.Laws.StructEq
namespace Go.Proofs.YtjofkejfldmmlaaDoor
open Go.RowKit Go.Deep

/-- A deed as a value. -/
def deedV (d : Dd) : Value := .agg #[.int .i64 d.k, .int .i64 d.a, .int .i64 d.b]
theorem deed_in (k a b k' a' b' : Int) (w : World) : (Op.equalIn 10000 24 (.agg #[.int .i64 k, .int .i64 a, .int .i64 b]) (.agg #[.int .i64 k', .int .i64 a', .int .i64 b'])).run Tryd.prog w = .ok (k == k' && (a == a' && b == b')) w := by
  have hf : (Tryd.prog.fieldsOf 24).toList = [⟨"Kind", 3, 0, false, "", "", 0⟩, ⟨"A", 3, 1, false, "", "", 8⟩, ⟨"B", 3, 2, false, "", "", 16⟩] := by kernel_rfl
  have t3 := Tryd.underlying3
  have a3 := Tryd.isAgg3
  rw [run_equalIn_agg (w := w) 9999 24 _ _ (by kernel_rfl) (by kernel_rfl), hf]
  have h := fun d x y => run_equalIn_int (P := Tryd.prog) w d 3 .i64 .i64 x y t3
  have hp0 : ∀ (x y z : Value), (part 3 #[x, y, z] 0).run Tryd.prog w = .ok x w := fun x y z => by simp [part, a3]
  have hp1 : ∀ (x y z : Value), (part 3 #[x, y, z] 1).run Tryd.prog w = .ok y w := fun x y z => by simp [part, a3]
  have hp2 : ∀ (x y z : Value), (part 3 #[x, y, z] 2).run Tryd.prog w = .ok z w := fun x y z => by simp [part, a3]
  by_cases h1 : k = k' <;> by_cases h2 : a = a' <;> by_cases h3 : b = b' <;> simp [Op.eqFields, hp0, hp1, hp2, h, h1, h2, h3]
theorem deed_eql (k a b k' a' b' : Int) (w : World) : (binOp .eql 24 (.agg #[.int .i64 k, .int .i64 a, .int .i64 b]) (.agg #[.int .i64 k', .int .i64 a', .int .i64 b'])).run Tryd.prog w = .ok (.bool (k == k' && (a == a' && b == b'))) w := by
  rw [run_eql_struct, deed_in]; rfl
theorem deed_neq (k a b k' a' b' : Int) (w : World) : (binOp .neq 24 (.agg #[.int .i64 k, .int .i64 a, .int .i64 b]) (.agg #[.int .i64 k', .int .i64 a', .int .i64 b'])).run Tryd.prog w = .ok (.bool (!(k == k' && (a == a' && b == b')))) w := by
  rw [run_neq_struct, deed_in]; rfl
theorem numL_len {n : Nat} (h : n ≤ 99) : (numL n).length ≤ 2 := by
  by_cases h1 : n < 10
  · rw [numL_one h1]; simp
  · rw [numL_two h1, numL_one (show n / 10 < 10 by omega)]; simp
theorem num_text {n : Nat} (h : n ≤ 99) : ∃ t : ByteArray, (⟨(numL n).toArray⟩ : ByteArray) = t ∧ t.size ≤ 2 ∧ t.data.toList = numL n := ⟨_, rfl, numL_len h, rfl⟩
set_option maxRecDepth 100000 in
set_option maxHeartbeats 4000000 in
theorem spec_DeedText_part {A B : Nat} {w : World} (hA : A ≤ 99) (hB : B ≤ 99) :
    Calls Tryd.prog 12 #[.agg #[.int .i64 3, .int .i64 (A : Int), .int .i64 (B : Int)]] w fun e w' => e = .returned (strV (deedL ⟨3, A, B⟩)) ∧ Below w.heap.size w w' := by
  have hX := BoxN.start w #[.int .i64 3, .int .i64 (A : Int), .int .i64 (B : Int)] 24
  have bw := hX.below
  have e1 := deed_eql 3 A B 2 0 0
  have e2 := deed_eql 3 A B 4 0 0
  have d1 : (decide ((0 : Int) ≤ A) && decide ((A : Int) ≤ 99)) = true := by rw [decide_eq_true (by omega), decide_eq_true (by omega)]; rfl
  have d2 : (decide ((0 : Int) ≤ B) && decide ((B : Int) ≤ 99)) = true := by rw [decide_eq_true (by omega), decide_eq_true (by omega)]; rfl
  obtain ⟨tA, eA, sA, lA⟩ := num_text hA
  obtain ⟨tB, eB, sB, lB⟩ := num_text hB
  have LA := l1Number_any A hA
  have LB := l1Number_any B hB
  rw [eA] at LA
  rw [eB] at LB
  clear eA eB
  go_enter Tryd.func12, Tryd.ntmps12
  have q0 := hX.cell 0 rfl
  have q1 := hX.cell 1 rfl
  have q2 := hX.cell 2 rfl
  go_wp2_with fail
  go_at_call 35
  refine (l1In_any _ _ _ _).mono ?_
  rintro e w1 ⟨rfl, rfl⟩
  rw [d1]
  go_wp2_with fail
  go_at_call 35
  refine (l1In_any _ _ _ _).mono ?_
  rintro e w1 ⟨rfl, rfl⟩
  rw [d2]
  go_wp2_with fail
  generalize w.alloc (.cells #[.int .i64 3, .int .i64 (A : Int), .int .i64 (B : Int)] 24) = W at hX bw q0 q1 q2 ⊢
  have hX0 := hX.step (Below.refl _ W).drew
  have S0 : (fun w' => w'.cell? ⟨w.heap.size, 1, none⟩ = some (.int .i64 (A : Int)) ∧ w'.cell? ⟨w.heap.size, 2, none⟩ = some (.int .i64 (B : Int))) W.drew := ⟨hX0.cell 1 rfl, hX0.cell 2 rfl⟩
  clear hX q0 q1 q2 e1 e2
  refine region_plain (fuel := 10) (listed := #[false, false, false, false, false, false, false, false, false, false]) (fun w' => w'.cell? ⟨w.heap.size, 1, none⟩ = some (.int .i64 (A : Int)) ∧ w'.cell? ⟨w.heap.size, 2, none⟩ = some (.int .i64 (B : Int))) (by kernel_rfl) (by kernel_rfl) (by kernel_rfl) ?_
  refine hold_take (i := 0) (d := 57) (v := ?vT0) (listed' := #[true, false, false, false, false, false, false, false, false, false]) rfl (by kernel_rfl) (by kernel_rfl) (by kernel_rfl) rfl (by rfl) (by kernel_rfl) S0 ?hT0 ?rT0
  case hT0 =>
    intro w' hSw
    obtain ⟨k0, k1⟩ := hSw
    go_simp
    first | with_reducible rfl | (rw [if_neg (by omega)]; done) | (rw [if_neg (by omega)]; with_reducible rfl) | (simp only [ByteArray.size_append]; rw [if_neg (by simp only [ByteArray.size_append] at *; omega)]; done) | skip
  simp only [List.setIfInBounds_toArray, List.set_cons_zero, List.set_cons_succ]
  refine hold_take (i := 1) (d := 58) (v := ?vT1) (listed' := #[true, true, false, false, false, false, false, false, false, false]) rfl (by kernel_rfl) (by kernel_rfl) (by kernel_rfl) rfl (by rfl) (by kernel_rfl) S0 ?hT1 ?rT1
  case hT1 =>
    intro w' hSw
    obtain ⟨k0, k1⟩ := hSw
    go_simp
    first | with_reducible rfl | (rw [if_neg (by omega)]; done) | (rw [if_neg (by omega)]; with_reducible rfl) | (simp only [ByteArray.size_append]; rw [if_neg (by simp only [ByteArray.size_append] at *; omega)]; done) | skip
  simp only [List.setIfInBounds_toArray, List.set_cons_zero, List.set_cons_succ]
  refine hold_take (i := 5) (d := 62) (v := ?vT5) (listed' := #[true, true, false, false, false, true, false, false, false, false]) rfl (by kernel_rfl) (by kernel_rfl) (by kernel_rfl) rfl (by rfl) (by kernel_rfl) S0 ?hT5 ?rT5
  case hT5 =>
    intro w' hSw
    obtain ⟨k0, k1⟩ := hSw
    go_simp
    first | with_reducible rfl | (rw [if_neg (by omega)]; done) | (rw [if_neg (by omega)]; with_reducible rfl) | (simp only [ByteArray.size_append]; rw [if_neg (by simp only [ByteArray.size_append] at *; omega)]; done) | skip
  simp only [List.setIfInBounds_toArray, List.set_cons_zero, List.set_cons_succ]
  refine hold_take (i := 6) (d := 63) (v := ?vT6) (listed' := #[true, true, false, false, false, true, true, false, false, false]) rfl (by kernel_rfl) (by kernel_rfl) (by kernel_rfl) rfl (by rfl) (by kernel_rfl) S0 ?hT6 ?rT6
  case hT6 =>
    intro w' hSw
    obtain ⟨k0, k1⟩ := hSw
    go_simp
    first | with_reducible rfl | (rw [if_neg (by omega)]; done) | (rw [if_neg (by omega)]; with_reducible rfl) | (simp only [ByteArray.size_append]; rw [if_neg (by simp only [ByteArray.size_append] at *; omega)]; done) | skip
  simp only [List.setIfInBounds_toArray, List.set_cons_zero, List.set_cons_succ]
  refine hold_call (i := 2) (d := 59) (listed' := #[true, true, true, false, false, true, true, false, false, false]) rfl (by kernel_rfl) rfl (by rfl) (by kernel_rfl) ?heT2 (LA _) ?hcT2
  case heT2 => (go_simp; try rfl)
  rintro e x1 ⟨rfl, bb1⟩
  have hX1 := hX0.step bb1
  have S1 : (fun w' => w'.cell? ⟨w.heap.size, 1, none⟩ = some (.int .i64 (A : Int)) ∧ w'.cell? ⟨w.heap.size, 2, none⟩ = some (.int .i64 (B : Int))) x1 := ⟨hX1.cell 1 rfl, hX1.cell 2 rfl⟩
  clear S0 hX0
  refine ⟨_, rfl, S1, ?_⟩
  simp only [List.setIfInBounds_toArray, List.set_cons_zero, List.set_cons_succ]
  refine hold_take (i := 3) (d := 60) (v := ?vT3) (listed' := #[true, true, true, true, false, true, true, false, false, false]) rfl (by kernel_rfl) (by kernel_rfl) (by kernel_rfl) rfl (by rfl) (by kernel_rfl) S1 ?hT3 ?rT3
  case hT3 =>
    intro w' hSw
    obtain ⟨k0, k1⟩ := hSw
    go_simp
    first | with_reducible rfl | (rw [if_neg (by omega)]; done) | (rw [if_neg (by omega)]; with_reducible rfl) | (simp only [ByteArray.size_append]; rw [if_neg (by simp only [ByteArray.size_append] at *; omega)]; done) | skip
  simp only [List.setIfInBounds_toArray, List.set_cons_zero, List.set_cons_succ]
  refine hold_take (i := 4) (d := 61) (v := ?vT4) (listed' := #[true, true, true, true, true, true, true, false, false, false]) rfl (by kernel_rfl) (by kernel_rfl) (by kernel_rfl) rfl (by rfl) (by kernel_rfl) S1 ?hT4 ?rT4
  case hT4 =>
    intro w' hSw
    obtain ⟨k0, k1⟩ := hSw
    go_simp
    first | with_reducible rfl | (rw [if_neg (by omega)]; done) | (rw [if_neg (by omega)]; with_reducible rfl) | (simp only [ByteArray.size_append]; rw [if_neg (by simp only [ByteArray.size_append] at *; omega)]; done) | skip
  simp only [List.setIfInBounds_toArray, List.set_cons_zero, List.set_cons_succ]
  refine hold_call (i := 7) (d := 64) (listed' := #[true, true, true, true, true, true, true, true, false, false]) rfl (by kernel_rfl) rfl (by rfl) (by kernel_rfl) ?heT7 (LB _) ?hcT7
  case heT7 => (go_simp; try rfl)
  rintro e x2 ⟨rfl, bb2⟩
  have hX2 := hX1.step bb2
  have S2 : (fun w' => w'.cell? ⟨w.heap.size, 1, none⟩ = some (.int .i64 (A : Int)) ∧ w'.cell? ⟨w.heap.size, 2, none⟩ = some (.int .i64 (B : Int))) x2 := ⟨hX2.cell 1 rfl, hX2.cell 2 rfl⟩
  clear S1 hX1
  refine ⟨_, rfl, S2, ?_⟩
  simp only [List.setIfInBounds_toArray, List.set_cons_zero, List.set_cons_succ]
  refine hold_take (i := 8) (d := 65) (v := ?vT8) (listed' := #[true, true, true, true, true, true, true, true, true, false]) rfl (by kernel_rfl) (by kernel_rfl) (by kernel_rfl) rfl (by rfl) (by kernel_rfl) S2 ?hT8 ?rT8
  case hT8 =>
    intro w' hSw
    obtain ⟨k0, k1⟩ := hSw
    go_simp
    first | with_reducible rfl | (rw [if_neg (by omega)]; done) | (rw [if_neg (by omega)]; with_reducible rfl) | (simp only [ByteArray.size_append]; rw [if_neg (by simp only [ByteArray.size_append] at *; omega)]; done) | skip
  simp only [List.setIfInBounds_toArray, List.set_cons_zero, List.set_cons_succ]
  refine hold_take (i := 9) (d := 2) (v := ?vT9) (listed' := #[true, true, true, true, true, true, true, true, true, true]) rfl (by kernel_rfl) (by kernel_rfl) (by kernel_rfl) rfl (by rfl) (by kernel_rfl) S2 ?hT9 ?rT9
  case hT9 =>
    intro w' hSw
    obtain ⟨k0, k1⟩ := hSw
    go_simp
    first | with_reducible rfl | (rw [if_neg (by omega)]; done) | (rw [if_neg (by omega)]; with_reducible rfl) | (simp only [ByteArray.size_append]; rw [if_neg (by simp only [ByteArray.size_append] at *; omega)]; done) | skip
  simp only [List.setIfInBounds_toArray, List.set_cons_zero, List.set_cons_succ]
  refine hold_done (by kernel_rfl) ?_ _
  go_wp2_with fail
  go_returns
  refine ⟨?_, bw.trans (((Below.refl _ W).drew).trans (bb1.trans (bb2.mono bb1.size)) |>.mono bw.size)⟩
  unfold strV
  rw [deed_part hA hB]
  refine congrArg (fun t => Ending.returned (.string t)) (ba_eq ?_)
  simp only [app_data, lA, lB]
  simp
set_option maxRecDepth 100000 in
set_option maxHeartbeats 4000000 in
theorem dt_no0a {a b : Int} {w : World} (d1 : (decide ((0 : Int) ≤ a) && decide (a ≤ 9)) = false) :
    Calls Tryd.prog 12 #[.agg #[.int .i64 0, .int .i64 a, .int .i64 b]] w fun e w' => e = .returned (.string ⟨#[]⟩) ∧ Below w.heap.size w w' := by
  have hX := BoxN.start w #[.int .i64 0, .int .i64 a, .int .i64 b] 24
  have bw := hX.below
  have q0 := hX.cell 0 rfl
  have q1 := hX.cell 1 rfl
  have q2 := hX.cell 2 rfl
  have e1 := deed_eql 0 a b 2 0 0
  have e2 := deed_eql 0 a b 4 0 0
  go_enter Tryd.func12, Tryd.ntmps12
  go_wp2_with fail
  go_at_call 35
  refine (l1In_any _ _ _ _).mono ?_
  rintro e w1 ⟨rfl, rfl⟩
  rw [d1]
  go_wp2_with fail
  go_ret
  exact ⟨rfl, bw⟩
set_option maxRecDepth 100000 in
set_option maxHeartbeats 4000000 in
theorem dt_no0b {a b : Int} {w : World} (d1 : (decide ((0 : Int) ≤ a) && decide (a ≤ 9)) = true) (hb : (b == 0) = false) :
    Calls Tryd.prog 12 #[.agg #[.int .i64 0, .int .i64 a, .int .i64 b]] w fun e w' => e = .returned (.string ⟨#[]⟩) ∧ Below w.heap.size w w' := by
  have hX := BoxN.start w #[.int .i64 0, .int .i64 a, .int .i64 b] 24
  have bw := hX.below
  have q0 := hX.cell 0 rfl
  have q1 := hX.cell 1 rfl
  have q2 := hX.cell 2 rfl
  have e1 := deed_eql 0 a b 2 0 0
  have e2 := deed_eql 0 a b 4 0 0
  go_enter Tryd.func12, Tryd.ntmps12
  go_wp2_with fail
  go_at_call 35
  refine (l1In_any _ _ _ _).mono ?_
  rintro e w1 ⟨rfl, rfl⟩
  rw [d1]
  go_wp2_with fail
  go_ret
  exact ⟨rfl, bw⟩
set_option maxRecDepth 100000 in
set_option maxHeartbeats 4000000 in
theorem dt_yes0 {A : Nat} {w : World} (ha : A ≤ 9) :
    Calls Tryd.prog 12 #[.agg #[.int .i64 0, .int .i64 (A : Int), .int .i64 0]] w fun e w' => e = .returned (strV (deedL ⟨0, A, 0⟩)) ∧ Below w.heap.size w w' := by
  have hX := BoxN.start w #[.int .i64 0, .int .i64 (A : Int), .int .i64 0] 24
  have bw := hX.below
  have q0 := hX.cell 0 rfl
  have q1 := hX.cell 1 rfl
  have q2 := hX.cell 2 rfl
  have e1 := deed_eql 0 A 0 2 0 0
  have e2 := deed_eql 0 A 0 4 0 0
  have d1 : (decide ((0 : Int) ≤ A) && decide ((A : Int) ≤ 9)) = true := by rw [decide_eq_true (by omega), decide_eq_true (by omega)]; rfl
  obtain ⟨tA, eA, sA, lA⟩ := num_text (show A ≤ 99 by omega)
  have LA := l1Number_any A (by omega)
  rw [eA] at LA
  clear eA
  go_enter Tryd.func12, Tryd.ntmps12
  go_wp2_with fail
  go_at_call 35
  refine (l1In_any _ _ _ _).mono ?_
  rintro e w1 ⟨rfl, rfl⟩
  rw [d1]
  go_wp2_with fail
  go_at_call 36
  refine (LA _).mono ?_
  rintro e w2 ⟨rfl, b2⟩
  go_wp2_with fail
  go_returns
  refine ⟨?_, bw.trans (b2.mono bw.size)⟩
  unfold strV
  rw [deed_glue ha]
  refine congrArg (fun t => Ending.returned (.string t)) (ba_eq ?_)
  rw [app_data, lA]
set_option maxRecDepth 100000 in
set_option maxHeartbeats 4000000 in
theorem dt_no1a {a b : Int} {w : World} (d1 : (decide ((0 : Int) ≤ a) && decide (a ≤ 9)) = false) :
    Calls Tryd.prog 12 #[.agg #[.int .i64 1, .int .i64 a, .int .i64 b]] w fun e w' => e = .returned (.string ⟨#[]⟩) ∧ Below w.heap.size w w' := by
  have hX := BoxN.start w #[.int .i64 1, .int .i64 a, .int .i64 b] 24
  have bw := hX.below
  have q0 := hX.cell 0 rfl
  have q1 := hX.cell 1 rfl
  have q2 := hX.cell 2 rfl
  have e1 := deed_eql 1 a b 2 0 0
  have e2 := deed_eql 1 a b 4 0 0
  go_enter Tryd.func12, Tryd.ntmps12
  go_wp2_with fail
  go_at_call 35
  refine (l1In_any _ _ _ _).mono ?_
  rintro e w1 ⟨rfl, rfl⟩
  rw [d1]
  go_wp2_with fail
  go_ret
  exact ⟨rfl, bw⟩
set_option maxRecDepth 100000 in
set_option maxHeartbeats 4000000 in
theorem dt_no1b {a b : Int} {w : World} (d1 : (decide ((0 : Int) ≤ a) && decide (a ≤ 9)) = true) (hb : (b == 0) = false) :
    Calls Tryd.prog 12 #[.agg #[.int .i64 1, .int .i64 a, .int .i64 b]] w fun e w' => e = .returned (.string ⟨#[]⟩) ∧ Below w.heap.size w w' := by
  have hX := BoxN.start w #[.int .i64 1, .int .i64 a, .int .i64 b] 24
  have bw := hX.below
  have q0 := hX.cell 0 rfl
  have q1 := hX.cell 1 rfl
  have q2 := hX.cell 2 rfl
  have e1 := deed_eql 1 a b 2 0 0
  have e2 := deed_eql 1 a b 4 0 0
  go_enter Tryd.func12, Tryd.ntmps12
  go_wp2_with fail
  go_at_call 35
  refine (l1In_any _ _ _ _).mono ?_
  rintro e w1 ⟨rfl, rfl⟩
  rw [d1]
  go_wp2_with fail
  go_ret
  exact ⟨rfl, bw⟩
set_option maxRecDepth 100000 in
set_option maxHeartbeats 4000000 in
theorem dt_yes1 {A : Nat} {w : World} (ha : A ≤ 9) :
    Calls Tryd.prog 12 #[.agg #[.int .i64 1, .int .i64 (A : Int), .int .i64 0]] w fun e w' => e = .returned (strV (deedL ⟨1, A, 0⟩)) ∧ Below w.heap.size w w' := by
  have hX := BoxN.start w #[.int .i64 1, .int .i64 (A : Int), .int .i64 0] 24
  have bw := hX.below
  have q0 := hX.cell 0 rfl
  have q1 := hX.cell 1 rfl
  have q2 := hX.cell 2 rfl
  have e1 := deed_eql 1 A 0 2 0 0
  have e2 := deed_eql 1 A 0 4 0 0
  have d1 : (decide ((0 : Int) ≤ A) && decide ((A : Int) ≤ 9)) = true := by rw [decide_eq_true (by omega), decide_eq_true (by omega)]; rfl
  obtain ⟨tA, eA, sA, lA⟩ := num_text (show A ≤ 99 by omega)
  have LA := l1Number_any A (by omega)
  rw [eA] at LA
  clear eA
  go_enter Tryd.func12, Tryd.ntmps12
  go_wp2_with fail
  go_at_call 35
  refine (l1In_any _ _ _ _).mono ?_
  rintro e w1 ⟨rfl, rfl⟩
  rw [d1]
  go_wp2_with fail
  go_at_call 36
  refine (LA _).mono ?_
  rintro e w2 ⟨rfl, b2⟩
  go_wp2_with fail
  go_returns
  refine ⟨?_, bw.trans (b2.mono bw.size)⟩
  unfold strV
  rw [deed_times ha]
  refine congrArg (fun t => Ending.returned (.string t)) (ba_eq ?_)
  rw [app_data, lA]
set_option maxRecDepth 100000 in
set_option maxHeartbeats 4000000 in
theorem dt_no2 {a b : Int} {w : World} (hz : (a == 0 && b == 0) = false) :
    Calls Tryd.prog 12 #[.agg #[.int .i64 2, .int .i64 a, .int .i64 b]] w fun e w' => e = .returned (.string ⟨#[]⟩) ∧ Below w.heap.size w w' := by
  have hX := BoxN.start w #[.int .i64 2, .int .i64 a, .int .i64 b] 24
  have bw := hX.below
  have q0 := hX.cell 0 rfl
  have q1 := hX.cell 1 rfl
  have q2 := hX.cell 2 rfl
  have e1 := fun w => (deed_eql 2 a b 2 0 0 w).trans (by rw [hz])
  have e2 := fun w => (deed_eql 2 a b 4 0 0 w).trans (by rw [hz])
  go_enter Tryd.func12, Tryd.ntmps12
  go_wp2_with fail
  go_ret
  exact ⟨rfl, bw⟩
set_option maxRecDepth 100000 in
set_option maxHeartbeats 4000000 in
theorem dt_yes2  {w : World}  :
    Calls Tryd.prog 12 #[.agg #[.int .i64 2, .int .i64 0, .int .i64 0]] w fun e w' => e = .returned (.string ⟨#[114, 105, 110, 103]⟩) ∧ Below w.heap.size w w' := by
  have hX := BoxN.start w #[.int .i64 2, .int .i64 0, .int .i64 0] 24
  have bw := hX.below
  have q0 := hX.cell 0 rfl
  have q1 := hX.cell 1 rfl
  have q2 := hX.cell 2 rfl
  have e1 := deed_eql 2 0 0 2 0 0
  have e2 := deed_eql 2 0 0 4 0 0
  go_enter Tryd.func12, Tryd.ntmps12
  go_wp2_with fail
  go_ret
  exact ⟨rfl, bw⟩
set_option maxRecDepth 100000 in
set_option maxHeartbeats 4000000 in
theorem dt_no4 {a b : Int} {w : World} (hz : (a == 0 && b == 0) = false) :
    Calls Tryd.prog 12 #[.agg #[.int .i64 4, .int .i64 a, .int .i64 b]] w fun e w' => e = .returned (.string ⟨#[]⟩) ∧ Below w.heap.size w w' := by
  have hX := BoxN.start w #[.int .i64 4, .int .i64 a, .int .i64 b] 24
  have bw := hX.below
  have q0 := hX.cell 0 rfl
  have q1 := hX.cell 1 rfl
  have q2 := hX.cell 2 rfl
  have e1 := fun w => (deed_eql 4 a b 2 0 0 w).trans (by rw [hz])
  have e2 := fun w => (deed_eql 4 a b 4 0 0 w).trans (by rw [hz])
  go_enter Tryd.func12, Tryd.ntmps12
  go_wp2_with fail
  go_ret
  exact ⟨rfl, bw⟩
set_option maxRecDepth 100000 in
set_option maxHeartbeats 4000000 in
theorem dt_yes4  {w : World}  :
    Calls Tryd.prog 12 #[.agg #[.int .i64 4, .int .i64 0, .int .i64 0]] w fun e w' => e = .returned (.string ⟨#[98, 97, 99, 107]⟩) ∧ Below w.heap.size w w' := by
  have hX := BoxN.start w #[.int .i64 4, .int .i64 0, .int .i64 0] 24
  have bw := hX.below
  have q0 := hX.cell 0 rfl
  have q1 := hX.cell 1 rfl
  have q2 := hX.cell 2 rfl
  have e1 := deed_eql 4 0 0 2 0 0
  have e2 := deed_eql 4 0 0 4 0 0
  go_enter Tryd.func12, Tryd.ntmps12
  go_wp2_with fail
  go_ret
  exact ⟨rfl, bw⟩
set_option maxRecDepth 100000 in
set_option maxHeartbeats 4000000 in
theorem dt_no3a {a b : Int} {w : World} (d1 : (decide ((0 : Int) ≤ a) && decide (a ≤ 99)) = false) :
    Calls Tryd.prog 12 #[.agg #[.int .i64 3, .int .i64 a, .int .i64 b]] w fun e w' => e = .returned (.string ⟨#[]⟩) ∧ Below w.heap.size w w' := by
  have hX := BoxN.start w #[.int .i64 3, .int .i64 a, .int .i64 b] 24
  have bw := hX.below
  have q0 := hX.cell 0 rfl
  have q1 := hX.cell 1 rfl
  have q2 := hX.cell 2 rfl
  have e1 := deed_eql 3 a b 2 0 0
  have e2 := deed_eql 3 a b 4 0 0
  go_enter Tryd.func12, Tryd.ntmps12
  go_wp2_with fail
  go_at_call 35
  refine (l1In_any _ _ _ _).mono ?_
  rintro e w1 ⟨rfl, rfl⟩
  rw [d1]
  go_wp2_with fail
  go_ret
  exact ⟨rfl, bw⟩
set_option maxRecDepth 100000 in
set_option maxHeartbeats 4000000 in
theorem dt_no3b {a b : Int} {w : World} (d1 : (decide ((0 : Int) ≤ a) && decide (a ≤ 99)) = true) (d2 : (decide ((0 : Int) ≤ b) && decide (b ≤ 99)) = false) :
    Calls Tryd.prog 12 #[.agg #[.int .i64 3, .int .i64 a, .int .i64 b]] w fun e w' => e = .returned (.string ⟨#[]⟩) ∧ Below w.heap.size w w' := by
  have hX := BoxN.start w #[.int .i64 3, .int .i64 a, .int .i64 b] 24
  have bw := hX.below
  have q0 := hX.cell 0 rfl
  have q1 := hX.cell 1 rfl
  have q2 := hX.cell 2 rfl
  have e1 := deed_eql 3 a b 2 0 0
  have e2 := deed_eql 3 a b 4 0 0
  go_enter Tryd.func12, Tryd.ntmps12
  go_wp2_with fail
  go_at_call 35
  refine (l1In_any _ _ _ _).mono ?_
  rintro e w1 ⟨rfl, rfl⟩
  rw [d1]
  go_wp2_with fail
  go_at_call 35
  refine (l1In_any _ _ _ _).mono ?_
  rintro e w1 ⟨rfl, rfl⟩
  rw [d2]
  go_wp2_with fail
  go_ret
  exact ⟨rfl, bw⟩
set_option maxRecDepth 100000 in
set_option maxHeartbeats 4000000 in
theorem dt_other {k a b : Int} {w : World} (h0 : (k == 0) = false) (h1 : (k == 1) = false) (h2 : (k == 2) = false) (h3 : (k == 3) = false) (h4 : (k == 4) = false) :
    Calls Tryd.prog 12 #[.agg #[.int .i64 k, .int .i64 a, .int .i64 b]] w fun e w' => e = .returned (.string ⟨#[]⟩) ∧ Below w.heap.size w w' := by
  have hX := BoxN.start w #[.int .i64 k, .int .i64 a, .int .i64 b] 24
  have bw := hX.below
  have q0 := hX.cell 0 rfl
  have q1 := hX.cell 1 rfl
  have q2 := hX.cell 2 rfl
  have e1 := fun w => (deed_eql k a b 2 0 0 w).trans (by rw [h2, Bool.false_and])
  have e2 := fun w => (deed_eql k a b 4 0 0 w).trans (by rw [h4, Bool.false_and])
  go_enter Tryd.func12, Tryd.ntmps12
  go_wp2_with fail
  go_ret
  exact ⟨rfl, bw⟩
/-- The reference's text of whatever deed. -/
theorem spec_DeedText (d : Dd) (w : World) : Calls Tryd.prog 12 #[deedV d] w fun e w' => e = .returned (strV (deedL d)) ∧ Below w.heap.size w w' := by
  have hnil : ∀ {p : Dd}, deedL p = [] → strV (deedL p) = .string ⟨#[]⟩ := fun h => by rw [h]; rfl
  rcases deed_cases d with h0 | ⟨a, ha, rfl, _⟩ | ⟨a, ha, rfl, _⟩ | ⟨rfl, _⟩ | ⟨a, b, ha, hb, rfl, _⟩ | ⟨rfl, _⟩
  · rw [hnil h0]
    obtain ⟨k, a, b⟩ := d
    show Calls Tryd.prog _ #[.agg #[.int .i64 k, .int .i64 a, .int .i64 b]] w _
    have hne : ∀ {p : List UInt8}, deedL ⟨k, a, b⟩ = p → p ≠ [] → False := fun h hp => hp (h.symm.trans h0)
    by_cases k0 : k = 0
    · subst k0
      cases d1 : (decide ((0 : Int) ≤ a) && decide (a ≤ 9)) with
      | false => exact dt_no0a d1
      | true =>
        refine dt_no0b d1 (beq_eq_false_iff_ne.2 fun hb => ?_)
        rw [Bool.and_eq_true, decide_eq_true_iff, decide_eq_true_iff] at d1
        obtain ⟨A, rfl⟩ : ∃ A : Nat, a = (A : Int) := ⟨a.toNat, by omega⟩
        subst hb
        exact hne (deed_glue (by omega)) (by simp)
    by_cases k1 : k = 1
    · subst k1
      cases d1 : (decide ((0 : Int) ≤ a) && decide (a ≤ 9)) with
      | false => exact dt_no1a d1
      | true =>
        refine dt_no1b d1 (beq_eq_false_iff_ne.2 fun hb => ?_)
        rw [Bool.and_eq_true, decide_eq_true_iff, decide_eq_true_iff] at d1
        obtain ⟨A, rfl⟩ : ∃ A : Nat, a = (A : Int) := ⟨a.toNat, by omega⟩
        subst hb
        exact hne (deed_times (by omega)) (by simp)
    by_cases k2 : k = 2
    · subst k2
      refine dt_no2 ?_
      cases hz : (a == 0 && b == 0) with
      | false => rfl
      | true =>
        rw [Bool.and_eq_true, beq_iff_eq, beq_iff_eq] at hz
        obtain ⟨rfl, rfl⟩ := hz
        exact (hne deed_ring (by simp)).elim
    by_cases k3 : k = 3
    · subst k3
      cases d1 : (decide ((0 : Int) ≤ a) && decide (a ≤ 99)) with
      | false => exact dt_no3a d1
      | true =>
        refine dt_no3b d1 ?_
        cases d2 : (decide ((0 : Int) ≤ b) && decide (b ≤ 99)) with
        | false => rfl
        | true =>
          rw [Bool.and_eq_true, decide_eq_true_iff, decide_eq_true_iff] at d1 d2
          obtain ⟨A, rfl⟩ : ∃ A : Nat, a = (A : Int) := ⟨a.toNat, by omega⟩
          obtain ⟨B, rfl⟩ : ∃ B : Nat, b = (B : Int) := ⟨b.toNat, by omega⟩
          exact (hne (deed_part (a := A) (b := B) (by omega) (by omega)) (by simp)).elim
    by_cases k4 : k = 4
    · subst k4
      refine dt_no4 ?_
      cases hz : (a == 0 && b == 0) with
      | false => rfl
      | true =>
        rw [Bool.and_eq_true, beq_iff_eq, beq_iff_eq] at hz
        obtain ⟨rfl, rfl⟩ := hz
        exact (hne deed_back (by simp)).elim
    · exact dt_other (beq_eq_false_iff_ne.2 k0) (beq_eq_false_iff_ne.2 k1) (beq_eq_false_iff_ne.2 k2) (beq_eq_false_iff_ne.2 k3) (beq_eq_false_iff_ne.2 k4)
  · exact dt_yes0 ha
  · exact dt_yes1 ha
  · exact dt_yes2
  · exact spec_DeedText_part ha hb
  · exact dt_yes4
end Go.Proofs.YtjofkejfldmmlaaDoor
