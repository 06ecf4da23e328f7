/- Duals: the program's methods, called through the interface; the reference's loop over the bytes. -/
import Derived.Test.YtjmhhjdkemicbaaKc
import Derived.Test.YtjmhhjdkemicbaaFa
namespace Go.Proofs.Ytjmhhjdkemicbaa
open Go.RowKit Go.Deep Go.Lib

def dualFn : Fm → Nat
  | .la => 111
  | .lb => 111
  | .lc => 111
  | .no => 113
  | .yes => 113
  | .neg _ => 114
  | .meet _ _ => 115
  | .join _ _ => 115
def dualArg : Fm → Value
  | .la => .int .i64 0
  | .lb => .int .i64 1
  | .lc => .int .i64 2
  | .no => .int .i64 0
  | .yes => .int .i64 1
  | .neg f => .agg #[fmV f]
  | .meet f g => .agg #[.int .i64 0, fmV f, fmV g]
  | .join f g => .agg #[.int .i64 1, fmV f, fmV g]
/-- A text as the program holds it. -/
def strV (l : List UInt8) : Value := .string ⟨l.toArray⟩
def DualC (f : Fm) : Prop := f.dual.text.length ≤ 1000 → ∀ w, Calls Try.prog (dualFn f) #[dualArg f] w fun e w' => e = .returned (strV f.dual.text) ∧ Below w.heap.size w w'
set_option maxHeartbeats 1000000 in
theorem signAt_any (s : ByteArray) (k : Nat) (x : Int) (hx : x = (k : Int)) (hk : k < s.size) (hs : s.size ≤ 100) (w : World) : Calls Try.prog 112 #[.string s, .int .i64 x] w fun e w' => e = .returned (.string (s.extract k (k + 1))) ∧ w' = w := by
  subst hx
  have h1 : (k : Int) < s.size := by omega
  have h2 : (k : Int) ≤ 100 := by omega
  go_enter Try.func112, Try.ntmps112
  go_wp2_with fail
  go_returns
  exact ⟨rfl, rfl⟩
theorem signAt_told (s : ByteArray) (k : Nat) (x : Int) (l : List UInt8) (hx : x = (k : Int)) (hk : k < s.size) (hs : s.size ≤ 100) (hl : s.extract k (k + 1) = ⟨l.toArray⟩) (w : World) : Calls Try.prog 112 #[.string s, .int .i64 x] w fun e w' => e = .returned (strV l) ∧ Below w.heap.size w w' :=
  (signAt_any s k x hx hk hs w).mono fun _ _ ⟨h1, h2⟩ => by subst h2; exact ⟨by rw [h1, hl]; rfl, Below.refl _ _⟩
theorem sign_a (w : World) : Calls Try.prog 112 #[.string ⟨#[97, 98, 99]⟩, .int .i64 0] w fun e w' => e = .returned (strV [97]) ∧ Below w.heap.size w w' := signAt_told _ 0 0 _ rfl (by decide) (by decide) rfl w
theorem sign_b (w : World) : Calls Try.prog 112 #[.string ⟨#[97, 98, 99]⟩, .int .i64 1] w fun e w' => e = .returned (strV [98]) ∧ Below w.heap.size w w' := signAt_told _ 1 1 _ rfl (by decide) (by decide) rfl w
theorem sign_c (w : World) : Calls Try.prog 112 #[.string ⟨#[97, 98, 99]⟩, .int .i64 2] w fun e w' => e = .returned (strV [99]) ∧ Below w.heap.size w w' := signAt_told _ 2 2 _ rfl (by decide) (by decide) rfl w
set_option maxRecDepth 100000 in
set_option maxHeartbeats 1000000 in
theorem dual_a (w : World) : Calls Try.prog 111 #[.int .i64 0] w fun e w' => e = .returned (strV [97]) ∧ Below w.heap.size w w' := by
  go_enter Try.func111, Try.ntmps111
  go_wp2_with fail
  go_at_call 112
  refine (sign_a w).mono ?_
  rintro e w1 ⟨rfl, b1⟩
  unfold strV
  go_wp2_with fail
  go_returns
  exact ⟨rfl, b1⟩
set_option maxRecDepth 100000 in
set_option maxHeartbeats 1000000 in
theorem dual_b (w : World) : Calls Try.prog 111 #[.int .i64 1] w fun e w' => e = .returned (strV [98]) ∧ Below w.heap.size w w' := by
  go_enter Try.func111, Try.ntmps111
  go_wp2_with fail
  go_at_call 112
  refine (sign_b w).mono ?_
  rintro e w1 ⟨rfl, b1⟩
  unfold strV
  go_wp2_with fail
  go_returns
  exact ⟨rfl, b1⟩
set_option maxRecDepth 100000 in
set_option maxHeartbeats 1000000 in
theorem dual_c (w : World) : Calls Try.prog 111 #[.int .i64 2] w fun e w' => e = .returned (strV [99]) ∧ Below w.heap.size w w' := by
  go_enter Try.func111, Try.ntmps111
  go_wp2_with fail
  go_at_call 112
  refine (sign_c w).mono ?_
  rintro e w1 ⟨rfl, b1⟩
  unfold strV
  go_wp2_with fail
  go_returns
  exact ⟨rfl, b1⟩
set_option maxRecDepth 100000 in
set_option maxHeartbeats 1000000 in
theorem dual_bound (k : Nat) (hk : k < 2) (x : Int) (hx : x = ((1 - k : Nat) : Int)) (l : List UInt8) (hl : (ByteArray.mk #[48, 49]).extract k (k + 1) = ⟨l.toArray⟩) (w : World) : Calls Try.prog 113 #[.int .i64 x] w fun e w' => e = .returned (strV l) ∧ Below w.heap.size w w' := by
  have hx' : (1 : Int) - x = (k : Int) := by omega
  have hx0 : 0 ≤ x := by omega
  have hx1 : x ≤ 1 := by omega
  go_enter Try.func113, Try.ntmps113
  go_wp2_with fail
  go_at_call 112
  refine (signAt_any _ k _ (by first | exact hx' | (go_num; omega) | go_num) (by show k < 2; omega) (by show 2 ≤ 100; omega) w).mono ?_
  rintro e w1 ⟨rfl, rfl⟩
  rw [hl]
  go_wp2_with fail
  go_returns
  exact ⟨rfl, Below.refl _ _⟩
theorem method_f (f : Fm) {t : Nat} {v : Value} (h : fmV f = .iface t v) (fuel : Nat) (w : World) : (method (fuel + 1) t v "loop.example/orthologics/impl.dual").run Try.prog w = .ok (dualFn f, dualArg f) w := by
  cases f <;> (cases h; kernel_rfl)
theorem enters_f (f : Fm) (args : Array Value) (w : World) : (callFunc (dualFn f) args).run Try.prog w = .ok (.enter (dualFn f) args) w := by
  cases f
  · exact enters_of Try.func111 (by kernel_rfl) rfl args w
  · exact enters_of Try.func111 (by kernel_rfl) rfl args w
  · exact enters_of Try.func111 (by kernel_rfl) rfl args w
  · exact enters_of Try.func113 (by kernel_rfl) rfl args w
  · exact enters_of Try.func113 (by kernel_rfl) rfl args w
  · exact enters_of Try.func114 (by kernel_rfl) rfl args w
  · exact enters_of Try.func115 (by kernel_rfl) rfl args w
  · exact enters_of Try.func115 (by kernel_rfl) rfl args w
theorem str_cons (c : UInt8) (l : List UInt8) : (ByteArray.mk #[c]) ++ (ByteArray.mk l.toArray) = ⟨(c :: l).toArray⟩ := ba_eq (by rw [app_data]; rfl)
theorem str_app (k l : List UInt8) : (ByteArray.mk k.toArray) ++ (ByteArray.mk l.toArray) = ⟨(k ++ l).toArray⟩ := ba_eq (by rw [app_data])
set_option maxRecDepth 100000 in
set_option maxHeartbeats 2000000 in
theorem dual_neg {f : Fm} (IH : DualC f) : DualC (.neg f) := by
  intro hlen w
  have hlf : f.dual.text.length ≤ 1000 := by have h : (33 :: f.dual.text).length ≤ 1000 := hlen; simp at h; omega
  show Calls Try.prog 114 #[.agg #[fmV f]] w _
  obtain ⟨tf, vf, ef⟩ := fmV_iface f
  have HM := fun n w => method_f f ef n w
  have HE := enters_f f
  rw [ef]
  clear ef
  go_enter Try.func114, Try.ntmps114
  go_wp2_with fail
  go_at_fn (dualFn f)
  refine (IH hlf _).mono ?_
  rintro e w1 ⟨rfl, b1⟩
  have b2 := ((Below.refl w.heap.size w).alloc (Nat.le_refl _) (.cells #[Value.iface tf vf] 101)).trans (b1.mono (by simp))
  clear b1
  unfold strV
  go_wp2_with fail
  go_returns
  refine ⟨?_, b2⟩
  show Ending.returned (.string (_ ++ _)) = _
  rw [str_cons]
  rfl
theorem signAt_below (k : Nat) (x : Int) (l : List UInt8) (hx : x = (k : Int)) (hk : k < 2) (hl : (ByteArray.mk #[38, 124]).extract k (k + 1) = ⟨l.toArray⟩) (w : World) : Calls Try.prog 112 #[.string ⟨#[38, 124]⟩, .int .i64 x] w fun e w' => e = .returned (.string ⟨l.toArray⟩) ∧ Below w.heap.size w w' :=
  (signAt_any _ k x hx (by show k < 2; omega) (by show 2 ≤ 100; omega) w).mono fun _ _ ⟨h1, h2⟩ => by subst h2; exact ⟨by rw [h1, hl], Below.refl _ _⟩
set_option maxRecDepth 100000 in
set_option maxHeartbeats 4000000 in
theorem dual_meet {f g : Fm} (IHf : DualC f) (IHg : DualC g) : DualC (.meet f g) := by
  intro hlen w
  have hlfg : f.dual.text.length + g.dual.text.length ≤ 1000 := by have h : (40 :: (f.dual.text ++ 124 :: (g.dual.text ++ [41]))).length ≤ 1000 := hlen; simp at h; omega
  have hlf : f.dual.text.length ≤ 1000 := by omega
  have hlg : g.dual.text.length ≤ 1000 := by omega
  show Calls Try.prog 115 #[.agg #[.int .i64 0, fmV f, fmV g]] w _
  obtain ⟨tf, vf, ef⟩ := fmV_iface f
  have HM := fun n w => method_f f ef n w
  have HE := enters_f f
  obtain ⟨tg, vg, eg⟩ := fmV_iface g
  have HM2 := fun n w => method_f g eg n w
  have HE2 := enters_f g
  rw [ef, eg]
  clear ef eg
  have hX := BoxN.start w #[.int .i64 0, .iface tf vf, .iface tg vg] 103
  go_enter Try.func115, Try.ntmps115
  go_wp2_with fail
  generalize w.alloc (.cells #[.int .i64 0, .iface tf vf, .iface tg vg] 103) = W at hX ⊢
  have hX0 := hX.step (Below.refl _ W).drew
  have S0 : (fun w' => w'.cell? ⟨w.heap.size, 0, none⟩ = some (.int .i64 0) ∧ w'.cell? ⟨w.heap.size, 1, none⟩ = some (.iface tf vf) ∧ w'.cell? ⟨w.heap.size, 2, none⟩ = some (.iface tg vg)) W.drew := ⟨hX0.cell 0 rfl, hX0.cell 1 rfl, hX0.cell 2 rfl⟩
  clear hX
  have IHf := IHf hlf
  have IHg := IHg hlg
  unfold strV at IHf IHg
  refine region_plain (fuel := 15) (listed := #[false, false, false, false, false, false, false, false, false, false, false, false, false, false, false]) (fun w' => w'.cell? ⟨w.heap.size, 0, none⟩ = some (.int .i64 0) ∧ w'.cell? ⟨w.heap.size, 1, none⟩ = some (.iface tf vf) ∧ w'.cell? ⟨w.heap.size, 2, none⟩ = some (.iface tg vg)) (by kernel_rfl) (by kernel_rfl) (by kernel_rfl) ?_
  refine hold_take (i := 0) (d := 3) (v := ?vT0) (listed' := #[true, false, false, false, false, false, false, false, false, false, false, false, false, false, false]) rfl (by kernel_rfl) (by kernel_rfl) (by kernel_rfl) rfl (by rfl) (by kernel_rfl) S0 ?hT0 ?rT0
  case hT0 =>
    intro w' hSw
    obtain ⟨k0, k1, k2⟩ := hSw
    go_simp
    first | with_reducible rfl | (rw [if_neg (by omega)]; done) | (rw [if_neg (by omega)]; with_reducible rfl) | (simp only [ByteArray.size_append]; rw [if_neg (by simp only [ba_size, List.length_cons, List.length_nil]; omega)]; done) | skip
  simp only [List.setIfInBounds_toArray, List.set_cons_zero, List.set_cons_succ]
  refine hold_take (i := 1) (d := 4) (v := ?vT1) (listed' := #[true, true, false, false, false, false, false, false, false, false, false, false, false, false, false]) rfl (by kernel_rfl) (by kernel_rfl) (by kernel_rfl) rfl (by rfl) (by kernel_rfl) S0 ?hT1 ?rT1
  case hT1 =>
    intro w' hSw
    obtain ⟨k0, k1, k2⟩ := hSw
    go_simp
    first | with_reducible rfl | (rw [if_neg (by omega)]; done) | (rw [if_neg (by omega)]; with_reducible rfl) | (simp only [ByteArray.size_append]; rw [if_neg (by simp only [ba_size, List.length_cons, List.length_nil]; omega)]; done) | skip
  simp only [List.setIfInBounds_toArray, List.set_cons_zero, List.set_cons_succ]
  refine hold_take (i := 4) (d := 7) (v := ?vT4) (listed' := #[true, true, false, false, true, false, false, false, false, false, false, false, false, false, false]) rfl (by kernel_rfl) (by kernel_rfl) (by kernel_rfl) rfl (by rfl) (by kernel_rfl) S0 ?hT4 ?rT4
  case hT4 =>
    intro w' hSw
    obtain ⟨k0, k1, k2⟩ := hSw
    go_simp
    first | with_reducible rfl | (rw [if_neg (by omega)]; done) | (rw [if_neg (by omega)]; with_reducible rfl) | (simp only [ByteArray.size_append]; rw [if_neg (by simp only [ba_size, List.length_cons, List.length_nil]; omega)]; done) | skip
  simp only [List.setIfInBounds_toArray, List.set_cons_zero, List.set_cons_succ]
  refine hold_take (i := 5) (d := 8) (v := ?vT5) (listed' := #[true, true, false, false, true, true, false, false, false, false, false, false, false, false, false]) rfl (by kernel_rfl) (by kernel_rfl) (by kernel_rfl) rfl (by rfl) (by kernel_rfl) S0 ?hT5 ?rT5
  case hT5 =>
    intro w' hSw
    obtain ⟨k0, k1, k2⟩ := hSw
    go_simp
    first | with_reducible rfl | (rw [if_neg (by omega)]; done) | (rw [if_neg (by omega)]; with_reducible rfl) | (simp only [ByteArray.size_append]; rw [if_neg (by simp only [ba_size, List.length_cons, List.length_nil]; omega)]; done) | skip
  simp only [List.setIfInBounds_toArray, List.set_cons_zero, List.set_cons_succ]
  refine hold_take (i := 6) (d := 9) (v := ?vT6) (listed' := #[true, true, false, false, true, true, true, false, false, false, false, false, false, false, false]) rfl (by kernel_rfl) (by kernel_rfl) (by kernel_rfl) rfl (by rfl) (by kernel_rfl) S0 ?hT6 ?rT6
  case hT6 =>
    intro w' hSw
    obtain ⟨k0, k1, k2⟩ := hSw
    go_simp
    first | with_reducible rfl | (rw [if_neg (by omega)]; done) | (rw [if_neg (by omega)]; with_reducible rfl) | (simp only [ByteArray.size_append]; rw [if_neg (by simp only [ba_size, List.length_cons, List.length_nil]; omega)]; done) | skip
  simp only [List.setIfInBounds_toArray, List.set_cons_zero, List.set_cons_succ]
  refine hold_take (i := 9) (d := 12) (v := ?vT9) (listed' := #[true, true, false, false, true, true, true, false, false, true, false, false, false, false, false]) rfl (by kernel_rfl) (by kernel_rfl) (by kernel_rfl) rfl (by rfl) (by kernel_rfl) S0 ?hT9 ?rT9
  case hT9 =>
    intro w' hSw
    obtain ⟨k0, k1, k2⟩ := hSw
    go_simp
    first | with_reducible rfl | (rw [if_neg (by omega)]; done) | (rw [if_neg (by omega)]; with_reducible rfl) | (simp only [ByteArray.size_append]; rw [if_neg (by simp only [ba_size, List.length_cons, List.length_nil]; omega)]; done) | skip
  simp only [List.setIfInBounds_toArray, List.set_cons_zero, List.set_cons_succ]
  refine hold_take (i := 10) (d := 13) (v := ?vT10) (listed' := #[true, true, false, false, true, true, true, false, false, true, true, false, false, false, false]) rfl (by kernel_rfl) (by kernel_rfl) (by kernel_rfl) rfl (by rfl) (by kernel_rfl) S0 ?hT10 ?rT10
  case hT10 =>
    intro w' hSw
    obtain ⟨k0, k1, k2⟩ := hSw
    go_simp
    first | with_reducible rfl | (rw [if_neg (by omega)]; done) | (rw [if_neg (by omega)]; with_reducible rfl) | (simp only [ByteArray.size_append]; rw [if_neg (by simp only [ba_size, List.length_cons, List.length_nil]; omega)]; done) | skip
  simp only [List.setIfInBounds_toArray, List.set_cons_zero, List.set_cons_succ]
  refine hold_call (i := 2) (d := 5) (listed' := #[true, true, true, false, true, true, true, false, false, true, true, false, false, false, false]) rfl (by kernel_rfl) rfl (by rfl) (by kernel_rfl) ?heT2 (IHf _) ?hcT2
  case heT2 => (go_simp; try rfl)
  rintro e x1 ⟨rfl, bb1⟩
  have hX1 := hX0.step bb1
  have S1 : (fun w' => w'.cell? ⟨w.heap.size, 0, none⟩ = some (.int .i64 0) ∧ w'.cell? ⟨w.heap.size, 1, none⟩ = some (.iface tf vf) ∧ w'.cell? ⟨w.heap.size, 2, none⟩ = some (.iface tg vg)) x1 := ⟨hX1.cell 0 rfl, hX1.cell 1 rfl, hX1.cell 2 rfl⟩
  clear S0 hX0 bb1
  refine ⟨_, rfl, S1, ?_⟩
  simp only [List.setIfInBounds_toArray, List.set_cons_zero, List.set_cons_succ]
  refine hold_take (i := 3) (d := 6) (v := ?vT3) (listed' := #[true, true, true, true, true, true, true, false, false, true, true, false, false, false, false]) rfl (by kernel_rfl) (by kernel_rfl) (by kernel_rfl) rfl (by rfl) (by kernel_rfl) S1 ?hT3 ?rT3
  case hT3 =>
    intro w' hSw
    obtain ⟨k0, k1, k2⟩ := hSw
    go_simp
    first | with_reducible rfl | (rw [if_neg (by omega)]; done) | (rw [if_neg (by omega)]; with_reducible rfl) | (simp only [ByteArray.size_append]; rw [if_neg (by simp only [ba_size, List.length_cons, List.length_nil]; omega)]; done) | skip
  simp only [List.setIfInBounds_toArray, List.set_cons_zero, List.set_cons_succ]
  refine hold_call (i := 7) (d := 10) (listed' := #[true, true, true, true, true, true, true, true, false, true, true, false, false, false, false]) rfl (by kernel_rfl) rfl (by rfl) (by kernel_rfl) ?heT7 (signAt_below 1 _ [124] (by first | rfl | decide) (by decide) rfl _) ?hcT7
  case heT7 => (go_simp; try rfl)
  rintro e x2 ⟨rfl, bb2⟩
  have hX2 := hX1.step bb2
  have S2 : (fun w' => w'.cell? ⟨w.heap.size, 0, none⟩ = some (.int .i64 0) ∧ w'.cell? ⟨w.heap.size, 1, none⟩ = some (.iface tf vf) ∧ w'.cell? ⟨w.heap.size, 2, none⟩ = some (.iface tg vg)) x2 := ⟨hX2.cell 0 rfl, hX2.cell 1 rfl, hX2.cell 2 rfl⟩
  clear S1 hX1 bb2
  refine ⟨_, rfl, S2, ?_⟩
  simp only [List.setIfInBounds_toArray, List.set_cons_zero, List.set_cons_succ]
  refine hold_take (i := 8) (d := 11) (v := ?vT8) (listed' := #[true, true, true, true, true, true, true, true, true, true, true, false, false, false, false]) rfl (by kernel_rfl) (by kernel_rfl) (by kernel_rfl) rfl (by rfl) (by kernel_rfl) S2 ?hT8 ?rT8
  case hT8 =>
    intro w' hSw
    obtain ⟨k0, k1, k2⟩ := hSw
    go_simp
    first | with_reducible rfl | (rw [if_neg (by omega)]; done) | (rw [if_neg (by omega)]; with_reducible rfl) | (simp only [ByteArray.size_append]; rw [if_neg (by simp only [ba_size, List.length_cons, List.length_nil]; omega)]; done) | skip
  simp only [List.setIfInBounds_toArray, List.set_cons_zero, List.set_cons_succ]
  refine hold_call (i := 11) (d := 14) (listed' := #[true, true, true, true, true, true, true, true, true, true, true, true, false, false, false]) rfl (by kernel_rfl) rfl (by rfl) (by kernel_rfl) ?heT11 (IHg _) ?hcT11
  case heT11 => (go_simp; try rfl)
  rintro e x3 ⟨rfl, bb3⟩
  have hX3 := hX2.step bb3
  have S3 : (fun w' => w'.cell? ⟨w.heap.size, 0, none⟩ = some (.int .i64 0) ∧ w'.cell? ⟨w.heap.size, 1, none⟩ = some (.iface tf vf) ∧ w'.cell? ⟨w.heap.size, 2, none⟩ = some (.iface tg vg)) x3 := ⟨hX3.cell 0 rfl, hX3.cell 1 rfl, hX3.cell 2 rfl⟩
  clear S2 hX2 bb3
  refine ⟨_, rfl, S3, ?_⟩
  simp only [List.setIfInBounds_toArray, List.set_cons_zero, List.set_cons_succ]
  refine hold_take (i := 12) (d := 15) (v := ?vT12) (listed' := #[true, true, true, true, true, true, true, true, true, true, true, true, true, false, false]) rfl (by kernel_rfl) (by kernel_rfl) (by kernel_rfl) rfl (by rfl) (by kernel_rfl) S3 ?hT12 ?rT12
  case hT12 =>
    intro w' hSw
    obtain ⟨k0, k1, k2⟩ := hSw
    go_simp
    first | with_reducible rfl | (rw [if_neg (by omega)]; done) | (rw [if_neg (by omega)]; with_reducible rfl) | (simp only [ByteArray.size_append]; rw [if_neg (by simp only [ba_size, List.length_cons, List.length_nil]; omega)]; done) | skip
  simp only [List.setIfInBounds_toArray, List.set_cons_zero, List.set_cons_succ]
  refine hold_take (i := 13) (d := 16) (v := ?vT13) (listed' := #[true, true, true, true, true, true, true, true, true, true, true, true, true, true, false]) rfl (by kernel_rfl) (by kernel_rfl) (by kernel_rfl) rfl (by rfl) (by kernel_rfl) S3 ?hT13 ?rT13
  case hT13 =>
    intro w' hSw
    obtain ⟨k0, k1, k2⟩ := hSw
    go_simp
    first | with_reducible rfl | (rw [if_neg (by omega)]; done) | (rw [if_neg (by omega)]; with_reducible rfl) | (simp only [ByteArray.size_append]; rw [if_neg (by simp only [ba_size, List.length_cons, List.length_nil]; omega)]; done) | skip
  simp only [List.setIfInBounds_toArray, List.set_cons_zero, List.set_cons_succ]
  refine hold_take (i := 14) (d := 2) (v := ?vT14) (listed' := #[true, true, true, true, true, true, true, true, true, true, true, true, true, true, true]) rfl (by kernel_rfl) (by kernel_rfl) (by kernel_rfl) rfl (by rfl) (by kernel_rfl) S3 ?hT14 ?rT14
  case hT14 =>
    intro w' hSw
    obtain ⟨k0, k1, k2⟩ := hSw
    go_simp
    first | with_reducible rfl | (rw [if_neg (by omega)]; done) | (rw [if_neg (by omega)]; with_reducible rfl) | (simp only [ByteArray.size_append]; rw [if_neg (by simp only [ba_size, List.length_cons, List.length_nil]; omega)]; done) | skip
  simp only [List.setIfInBounds_toArray, List.set_cons_zero, List.set_cons_succ]
  refine hold_done (by kernel_rfl) ?_ _
  go_wp2_with fail
  go_returns
  refine ⟨?_, hX3.below⟩
  show Ending.returned (.string ((((_ ++ _) ++ _) ++ _) ++ _)) = _
  rw [str_cons, str_app, str_app, str_app]
  show _ = Ending.returned (.string ⟨(40 :: (f.dual.text ++ 124 :: (g.dual.text ++ [41]))).toArray⟩)
  simp [List.append_assoc]
set_option maxRecDepth 100000 in
set_option maxHeartbeats 4000000 in
theorem dual_join {f g : Fm} (IHf : DualC f) (IHg : DualC g) : DualC (.join f g) := by
  intro hlen w
  have hlfg : f.dual.text.length + g.dual.text.length ≤ 1000 := by have h : (40 :: (f.dual.text ++ 38 :: (g.dual.text ++ [41]))).length ≤ 1000 := hlen; simp at h; omega
  have hlf : f.dual.text.length ≤ 1000 := by omega
  have hlg : g.dual.text.length ≤ 1000 := by omega
  show Calls Try.prog 115 #[.agg #[.int .i64 1, fmV f, fmV g]] w _
  obtain ⟨tf, vf, ef⟩ := fmV_iface f
  have HM := fun n w => method_f f ef n w
  have HE := enters_f f
  obtain ⟨tg, vg, eg⟩ := fmV_iface g
  have HM2 := fun n w => method_f g eg n w
  have HE2 := enters_f g
  rw [ef, eg]
  clear ef eg
  have hX := BoxN.start w #[.int .i64 1, .iface tf vf, .iface tg vg] 103
  go_enter Try.func115, Try.ntmps115
  go_wp2_with fail
  generalize w.alloc (.cells #[.int .i64 1, .iface tf vf, .iface tg vg] 103) = W at hX ⊢
  have hX0 := hX.step (Below.refl _ W).drew
  have S0 : (fun w' => w'.cell? ⟨w.heap.size, 0, none⟩ = some (.int .i64 1) ∧ w'.cell? ⟨w.heap.size, 1, none⟩ = some (.iface tf vf) ∧ w'.cell? ⟨w.heap.size, 2, none⟩ = some (.iface tg vg)) W.drew := ⟨hX0.cell 0 rfl, hX0.cell 1 rfl, hX0.cell 2 rfl⟩
  clear hX
  have IHf := IHf hlf
  have IHg := IHg hlg
  unfold strV at IHf IHg
  refine region_plain (fuel := 15) (listed := #[false, false, false, false, false, false, false, false, false, false, false, false, false, false, false]) (fun w' => w'.cell? ⟨w.heap.size, 0, none⟩ = some (.int .i64 1) ∧ w'.cell? ⟨w.heap.size, 1, none⟩ = some (.iface tf vf) ∧ w'.cell? ⟨w.heap.size, 2, none⟩ = some (.iface tg vg)) (by kernel_rfl) (by kernel_rfl) (by kernel_rfl) ?_
  refine hold_take (i := 0) (d := 3) (v := ?vT0) (listed' := #[true, false, false, false, false, false, false, false, false, false, false, false, false, false, false]) rfl (by kernel_rfl) (by kernel_rfl) (by kernel_rfl) rfl (by rfl) (by kernel_rfl) S0 ?hT0 ?rT0
  case hT0 =>
    intro w' hSw
    obtain ⟨k0, k1, k2⟩ := hSw
    go_simp
    first | with_reducible rfl | (rw [if_neg (by omega)]; done) | (rw [if_neg (by omega)]; with_reducible rfl) | (simp only [ByteArray.size_append]; rw [if_neg (by simp only [ba_size, List.length_cons, List.length_nil]; omega)]; done) | skip
  simp only [List.setIfInBounds_toArray, List.set_cons_zero, List.set_cons_succ]
  refine hold_take (i := 1) (d := 4) (v := ?vT1) (listed' := #[true, true, false, false, false, false, false, false, false, false, false, false, false, false, false]) rfl (by kernel_rfl) (by kernel_rfl) (by kernel_rfl) rfl (by rfl) (by kernel_rfl) S0 ?hT1 ?rT1
  case hT1 =>
    intro w' hSw
    obtain ⟨k0, k1, k2⟩ := hSw
    go_simp
    first | with_reducible rfl | (rw [if_neg (by omega)]; done) | (rw [if_neg (by omega)]; with_reducible rfl) | (simp only [ByteArray.size_append]; rw [if_neg (by simp only [ba_size, List.length_cons, List.length_nil]; omega)]; done) | skip
  simp only [List.setIfInBounds_toArray, List.set_cons_zero, List.set_cons_succ]
  refine hold_take (i := 4) (d := 7) (v := ?vT4) (listed' := #[true, true, false, false, true, false, false, false, false, false, false, false, false, false, false]) rfl (by kernel_rfl) (by kernel_rfl) (by kernel_rfl) rfl (by rfl) (by kernel_rfl) S0 ?hT4 ?rT4
  case hT4 =>
    intro w' hSw
    obtain ⟨k0, k1, k2⟩ := hSw
    go_simp
    first | with_reducible rfl | (rw [if_neg (by omega)]; done) | (rw [if_neg (by omega)]; with_reducible rfl) | (simp only [ByteArray.size_append]; rw [if_neg (by simp only [ba_size, List.length_cons, List.length_nil]; omega)]; done) | skip
  simp only [List.setIfInBounds_toArray, List.set_cons_zero, List.set_cons_succ]
  refine hold_take (i := 5) (d := 8) (v := ?vT5) (listed' := #[true, true, false, false, true, true, false, false, false, false, false, false, false, false, false]) rfl (by kernel_rfl) (by kernel_rfl) (by kernel_rfl) rfl (by rfl) (by kernel_rfl) S0 ?hT5 ?rT5
  case hT5 =>
    intro w' hSw
    obtain ⟨k0, k1, k2⟩ := hSw
    go_simp
    first | with_reducible rfl | (rw [if_neg (by omega)]; done) | (rw [if_neg (by omega)]; with_reducible rfl) | (simp only [ByteArray.size_append]; rw [if_neg (by simp only [ba_size, List.length_cons, List.length_nil]; omega)]; done) | skip
  simp only [List.setIfInBounds_toArray, List.set_cons_zero, List.set_cons_succ]
  refine hold_take (i := 6) (d := 9) (v := ?vT6) (listed' := #[true, true, false, false, true, true, true, false, false, false, false, false, false, false, false]) rfl (by kernel_rfl) (by kernel_rfl) (by kernel_rfl) rfl (by rfl) (by kernel_rfl) S0 ?hT6 ?rT6
  case hT6 =>
    intro w' hSw
    obtain ⟨k0, k1, k2⟩ := hSw
    go_simp
    first | with_reducible rfl | (rw [if_neg (by omega)]; done) | (rw [if_neg (by omega)]; with_reducible rfl) | (simp only [ByteArray.size_append]; rw [if_neg (by simp only [ba_size, List.length_cons, List.length_nil]; omega)]; done) | skip
  simp only [List.setIfInBounds_toArray, List.set_cons_zero, List.set_cons_succ]
  refine hold_take (i := 9) (d := 12) (v := ?vT9) (listed' := #[true, true, false, false, true, true, true, false, false, true, false, false, false, false, false]) rfl (by kernel_rfl) (by kernel_rfl) (by kernel_rfl) rfl (by rfl) (by kernel_rfl) S0 ?hT9 ?rT9
  case hT9 =>
    intro w' hSw
    obtain ⟨k0, k1, k2⟩ := hSw
    go_simp
    first | with_reducible rfl | (rw [if_neg (by omega)]; done) | (rw [if_neg (by omega)]; with_reducible rfl) | (simp only [ByteArray.size_append]; rw [if_neg (by simp only [ba_size, List.length_cons, List.length_nil]; omega)]; done) | skip
  simp only [List.setIfInBounds_toArray, List.set_cons_zero, List.set_cons_succ]
  refine hold_take (i := 10) (d := 13) (v := ?vT10) (listed' := #[true, true, false, false, true, true, true, false, false, true, true, false, false, false, false]) rfl (by kernel_rfl) (by kernel_rfl) (by kernel_rfl) rfl (by rfl) (by kernel_rfl) S0 ?hT10 ?rT10
  case hT10 =>
    intro w' hSw
    obtain ⟨k0, k1, k2⟩ := hSw
    go_simp
    first | with_reducible rfl | (rw [if_neg (by omega)]; done) | (rw [if_neg (by omega)]; with_reducible rfl) | (simp only [ByteArray.size_append]; rw [if_neg (by simp only [ba_size, List.length_cons, List.length_nil]; omega)]; done) | skip
  simp only [List.setIfInBounds_toArray, List.set_cons_zero, List.set_cons_succ]
  refine hold_call (i := 2) (d := 5) (listed' := #[true, true, true, false, true, true, true, false, false, true, true, false, false, false, false]) rfl (by kernel_rfl) rfl (by rfl) (by kernel_rfl) ?heT2 (IHf _) ?hcT2
  case heT2 => (go_simp; try rfl)
  rintro e x1 ⟨rfl, bb1⟩
  have hX1 := hX0.step bb1
  have S1 : (fun w' => w'.cell? ⟨w.heap.size, 0, none⟩ = some (.int .i64 1) ∧ w'.cell? ⟨w.heap.size, 1, none⟩ = some (.iface tf vf) ∧ w'.cell? ⟨w.heap.size, 2, none⟩ = some (.iface tg vg)) x1 := ⟨hX1.cell 0 rfl, hX1.cell 1 rfl, hX1.cell 2 rfl⟩
  clear S0 hX0 bb1
  refine ⟨_, rfl, S1, ?_⟩
  simp only [List.setIfInBounds_toArray, List.set_cons_zero, List.set_cons_succ]
  refine hold_take (i := 3) (d := 6) (v := ?vT3) (listed' := #[true, true, true, true, true, true, true, false, false, true, true, false, false, false, false]) rfl (by kernel_rfl) (by kernel_rfl) (by kernel_rfl) rfl (by rfl) (by kernel_rfl) S1 ?hT3 ?rT3
  case hT3 =>
    intro w' hSw
    obtain ⟨k0, k1, k2⟩ := hSw
    go_simp
    first | with_reducible rfl | (rw [if_neg (by omega)]; done) | (rw [if_neg (by omega)]; with_reducible rfl) | (simp only [ByteArray.size_append]; rw [if_neg (by simp only [ba_size, List.length_cons, List.length_nil]; omega)]; done) | skip
  simp only [List.setIfInBounds_toArray, List.set_cons_zero, List.set_cons_succ]
  refine hold_call (i := 7) (d := 10) (listed' := #[true, true, true, true, true, true, true, true, false, true, true, false, false, false, false]) rfl (by kernel_rfl) rfl (by rfl) (by kernel_rfl) ?heT7 (signAt_below 0 _ [38] (by first | rfl | decide) (by decide) rfl _) ?hcT7
  case heT7 => (go_simp; try rfl)
  rintro e x2 ⟨rfl, bb2⟩
  have hX2 := hX1.step bb2
  have S2 : (fun w' => w'.cell? ⟨w.heap.size, 0, none⟩ = some (.int .i64 1) ∧ w'.cell? ⟨w.heap.size, 1, none⟩ = some (.iface tf vf) ∧ w'.cell? ⟨w.heap.size, 2, none⟩ = some (.iface tg vg)) x2 := ⟨hX2.cell 0 rfl, hX2.cell 1 rfl, hX2.cell 2 rfl⟩
  clear S1 hX1 bb2
  refine ⟨_, rfl, S2, ?_⟩
  simp only [List.setIfInBounds_toArray, List.set_cons_zero, List.set_cons_succ]
  refine hold_take (i := 8) (d := 11) (v := ?vT8) (listed' := #[true, true, true, true, true, true, true, true, true, true, true, false, false, false, false]) rfl (by kernel_rfl) (by kernel_rfl) (by kernel_rfl) rfl (by rfl) (by kernel_rfl) S2 ?hT8 ?rT8
  case hT8 =>
    intro w' hSw
    obtain ⟨k0, k1, k2⟩ := hSw
    go_simp
    first | with_reducible rfl | (rw [if_neg (by omega)]; done) | (rw [if_neg (by omega)]; with_reducible rfl) | (simp only [ByteArray.size_append]; rw [if_neg (by simp only [ba_size, List.length_cons, List.length_nil]; omega)]; done) | skip
  simp only [List.setIfInBounds_toArray, List.set_cons_zero, List.set_cons_succ]
  refine hold_call (i := 11) (d := 14) (listed' := #[true, true, true, true, true, true, true, true, true, true, true, true, false, false, false]) rfl (by kernel_rfl) rfl (by rfl) (by kernel_rfl) ?heT11 (IHg _) ?hcT11
  case heT11 => (go_simp; try rfl)
  rintro e x3 ⟨rfl, bb3⟩
  have hX3 := hX2.step bb3
  have S3 : (fun w' => w'.cell? ⟨w.heap.size, 0, none⟩ = some (.int .i64 1) ∧ w'.cell? ⟨w.heap.size, 1, none⟩ = some (.iface tf vf) ∧ w'.cell? ⟨w.heap.size, 2, none⟩ = some (.iface tg vg)) x3 := ⟨hX3.cell 0 rfl, hX3.cell 1 rfl, hX3.cell 2 rfl⟩
  clear S2 hX2 bb3
  refine ⟨_, rfl, S3, ?_⟩
  simp only [List.setIfInBounds_toArray, List.set_cons_zero, List.set_cons_succ]
  refine hold_take (i := 12) (d := 15) (v := ?vT12) (listed' := #[true, true, true, true, true, true, true, true, true, true, true, true, true, false, false]) rfl (by kernel_rfl) (by kernel_rfl) (by kernel_rfl) rfl (by rfl) (by kernel_rfl) S3 ?hT12 ?rT12
  case hT12 =>
    intro w' hSw
    obtain ⟨k0, k1, k2⟩ := hSw
    go_simp
    first | with_reducible rfl | (rw [if_neg (by omega)]; done) | (rw [if_neg (by omega)]; with_reducible rfl) | (simp only [ByteArray.size_append]; rw [if_neg (by simp only [ba_size, List.length_cons, List.length_nil]; omega)]; done) | skip
  simp only [List.setIfInBounds_toArray, List.set_cons_zero, List.set_cons_succ]
  refine hold_take (i := 13) (d := 16) (v := ?vT13) (listed' := #[true, true, true, true, true, true, true, true, true, true, true, true, true, true, false]) rfl (by kernel_rfl) (by kernel_rfl) (by kernel_rfl) rfl (by rfl) (by kernel_rfl) S3 ?hT13 ?rT13
  case hT13 =>
    intro w' hSw
    obtain ⟨k0, k1, k2⟩ := hSw
    go_simp
    first | with_reducible rfl | (rw [if_neg (by omega)]; done) | (rw [if_neg (by omega)]; with_reducible rfl) | (simp only [ByteArray.size_append]; rw [if_neg (by simp only [ba_size, List.length_cons, List.length_nil]; omega)]; done) | skip
  simp only [List.setIfInBounds_toArray, List.set_cons_zero, List.set_cons_succ]
  refine hold_take (i := 14) (d := 2) (v := ?vT14) (listed' := #[true, true, true, true, true, true, true, true, true, true, true, true, true, true, true]) rfl (by kernel_rfl) (by kernel_rfl) (by kernel_rfl) rfl (by rfl) (by kernel_rfl) S3 ?hT14 ?rT14
  case hT14 =>
    intro w' hSw
    obtain ⟨k0, k1, k2⟩ := hSw
    go_simp
    first | with_reducible rfl | (rw [if_neg (by omega)]; done) | (rw [if_neg (by omega)]; with_reducible rfl) | (simp only [ByteArray.size_append]; rw [if_neg (by simp only [ba_size, List.length_cons, List.length_nil]; omega)]; done) | skip
  simp only [List.setIfInBounds_toArray, List.set_cons_zero, List.set_cons_succ]
  refine hold_done (by kernel_rfl) ?_ _
  go_wp2_with fail
  go_returns
  refine ⟨?_, hX3.below⟩
  show Ending.returned (.string ((((_ ++ _) ++ _) ++ _) ++ _)) = _
  rw [str_cons, str_app, str_app, str_app]
  show _ = Ending.returned (.string ⟨(40 :: (f.dual.text ++ 38 :: (g.dual.text ++ [41]))).toArray⟩)
  simp [List.append_assoc]
theorem dual_all : ∀ f, DualC f
  | .la => fun _ w => dual_a w
  | .lb => fun _ w => dual_b w
  | .lc => fun _ w => dual_c w
  | .no => fun _ w => dual_bound 1 (by decide) 0 rfl [49] rfl w
  | .yes => fun _ w => dual_bound 0 (by decide) 1 rfl [48] rfl w
  | .neg f => dual_neg (dual_all f)
  | .meet f g => dual_meet (dual_all f) (dual_all g)
  | .join f g => dual_join (dual_all f) (dual_all g)
set_option maxRecDepth 100000 in
set_option maxHeartbeats 2000000 in
theorem DualOf_any (s : ByteArray) (w : World) (hsz : s.size ≤ 4611686018427387904) : Calls Try.prog 21 #[.string s] w fun e w' => e = .returned (strV (dualS s.data.toList)) ∧ Below w.heap.size w w' := by
  go_enter Try.func21, Try.ntmps21
  go_wp2_with fail
  go_at_call 32
  refine (formulaOf_any s w (by omega)).mono ?_
  rintro e w1 ⟨hb, ⟨h1, f, h2, rfl⟩ | ⟨h1, v, -, rfl⟩⟩
  · have HD : Hid (dualS s.data.toList = f.dual.text) := by
      show _ = _
      unfold dualS
      rw [if_pos h1, fmOf_is h2, dual_text]
    have hlf : f.dual.text.length ≤ 1000 := by rw [dual_len, ← fmOf_is h2]; have := (form_is h1).1; omega
    clear h1 h2
    obtain ⟨tf, vf, ef⟩ := fmV_iface f
    have HM := fun n w => method_f f ef n w
    have HE := enters_f f
    rw [ef]
    clear ef
    go_wp2_with fail
    go_at_fn (dualFn f)
    refine (dual_all f hlf _).mono ?_
    rintro e w2 ⟨rfl, b2⟩
    unfold strV
    go_wp2_with fail
    go_returns
    exact ⟨by rw [HD.out]; rfl, hb.trans (b2.mono hb.size)⟩
  · have HD : Hid (dualS s.data.toList = []) := dualS_no h1
    clear h1
    go_wp2_with fail
    go_returns
    exact ⟨by rw [HD.out]; rfl, hb⟩
theorem take_at {l : List UInt8} {k : Nat} {c : UInt8} (h : l[k]? = some c) : l.take (k + 1) = l.take k ++ [c] := by
  obtain ⟨hk, e⟩ := List.getElem?_eq_some_iff.1 h
  rw [List.take_add_one, h]; rfl
set_option maxRecDepth 100000 in
set_option maxHeartbeats 4000000 in
theorem spec_DualOf (s : ByteArray) (w : World) (hsz : s.size ≤ 4611686018427387904) : Calls Try.prog 22 #[.string s] w fun e w' => e = .returned (strV (dualS s.data.toList)) ∧ w' = w := by
  go_enter Try.func22, Try.ntmps22
  go_wp2_with fail
  go_at_call 13
  refine (spec_FormulaOk s hsz w).mono ?_
  rintro e w1 ⟨rfl, rfl⟩
  cases hf : formB s.data.toList with
  | false =>
    have HD : Hid (dualS s.data.toList = []) := dualS_no hf
    clear hf
    go_wp2_with fail
    go_returns
    exact ⟨by rw [HD.out]; rfl, rfl⟩
  | true =>
    have HD : Hid (dualS s.data.toList = s.data.toList.map dualByte) := by show _ = _; unfold dualS; rw [if_pos hf]
    have hs60 : s.size ≤ 60 := (form_is hf).1
    clear hf
    go_wp2_with fail
    go_loop [3, 4] (fun o i => ∃ (k : Nat) (out : ByteArray), o = .string out ∧ i = .int .i64 (k : Int) ∧ k ≤ s.size ∧ out.data.toList = (s.data.toList.take k).map dualByte) (fun _ i => s.size - (RowKit.intOf i).toNat)
    case atStart => exact ⟨0, ⟨#[]⟩, rfl, rfl, Nat.zero_le _, by rw [List.take_zero]; rfl⟩
    case round =>
      obtain ⟨k, out, rfl, rfl, hk, ho⟩ := hrel
      have hos : out.size ≤ 60 := by rw [size_data, ho, List.length_map, List.length_take]; omega
      have HO := Lib.hid ho
      clear ho
      by_cases hlt : k < s.size
      · have hlt' : (k : Int) < s.size := by omega
        obtain ⟨c, hl, hc⟩ := at_size hlt
        have HL := Lib.hid hl
        clear hl
        by_cases h38 : c = 38
        · subst h38
          go_wp2_with fail
          go_round
          case rel => exact ⟨k + 1, _, rfl, by go_num, by omega, by rw [app_data, HO.out, take_at HL.out, List.map_append]; rfl⟩
          case measure => simp [RowKit.intOf]; omega
        by_cases h124 : c = 124
        · subst h124
          go_wp2_with fail
          go_round
          case rel => exact ⟨k + 1, _, rfl, by go_num, by omega, by rw [app_data, HO.out, take_at HL.out, List.map_append]; rfl⟩
          case measure => simp [RowKit.intOf]; omega
        by_cases h48 : c = 48
        · subst h48
          go_wp2_with fail
          go_round
          case rel => exact ⟨k + 1, _, rfl, by go_num, by omega, by rw [app_data, HO.out, take_at HL.out, List.map_append]; rfl⟩
          case measure => simp [RowKit.intOf]; omega
        by_cases h49 : c = 49
        · subst h49
          go_wp2_with fail
          go_round
          case rel => exact ⟨k + 1, _, rfl, by go_num, by omega, by rw [app_data, HO.out, take_at HL.out, List.map_append]; rfl⟩
          case measure => simp [RowKit.intOf]; omega
        have hdb : Hid (dualByte c = c) := by show _ = _; unfold dualByte; rw [if_neg h38, if_neg h124, if_neg h48, if_neg h49]
        have n38 : ¬ (c.toNat : Int) = 38 := byte_ne h38
        have n124 : ¬ (c.toNat : Int) = 124 := byte_ne h124
        have n48 : ¬ (c.toNat : Int) = 48 := byte_ne h48
        have n49 : ¬ (c.toNat : Int) = 49 := byte_ne h49
        clear h38 h124 h48 h49
        have hx : (s.extract k (k + 1)).data.toList = [c] := by
          rw [ext_data, drop_at HL.out, Nat.add_sub_cancel_left]; rfl
        have HX := Lib.hid hx
        clear hx
        go_wp2_with fail
        go_round
        case rel => exact ⟨k + 1, _, rfl, by go_num, by omega, by rw [app_data, HO.out, HX.out, take_at HL.out, List.map_append]; show _ ++ [c] = _ ++ [dualByte c]; rw [hdb.out]⟩
        case measure => simp [RowKit.intOf]; omega
      · have hlt' : ¬ (k : Int) < s.size := by omega
        have hke : k = s.size := by omega
        have HE : Hid (out.data.toList = s.data.toList.map dualByte) := by
          show _ = _
          rw [HO.out, hke, size_data, List.take_length]
        clear HO
        go_wp2_with fail
        go_returns
        exact ⟨by rw [HD.out, ← HE.out]; show Ending.returned (.string out) = Ending.returned (.string ⟨out.data.toList.toArray⟩); rw [ba_mk], rfl⟩
end Go.Proofs.Ytjmhhjdkemicbaa
