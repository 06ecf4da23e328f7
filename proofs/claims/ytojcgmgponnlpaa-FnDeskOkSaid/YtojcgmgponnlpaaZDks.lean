import Derived.Test.YtojcgmgponnlpaaZDkr
import Derived.Test.YtojcgmgponnlpaaZYi
namespace Go.Proofs.Ytojcgmgponnlpaa
open Go.RowKit Go.Deep Go.Joins

theorem twoBits_nat (x b : Nat) : twoBits (x : Int) (b : Int) = 2 ^ x ||| 2 ^ b := rfl
theorem or2w' {a b : Nat} (ha : a < 12) (hb : b < 12) : bits .or .i64 (IntKind.i64.wrap (2 ^ a)) (IntKind.i64.wrap (2 ^ b)) = ((2 ^ a ||| 2 ^ b : Nat) : Int) := by
  have h1 := one_lt (n := 12) ha
  have h2 := one_lt (n := 12) hb
  rw [one_wrap (Nat.le_of_lt ha), one_wrap (Nat.le_of_lt hb), i64_or_nat _ _ (Nat.lt_trans h1 (by decide)) (Nat.lt_trans h2 (by decide))]
set_option maxRecDepth 100000 in
set_option maxHeartbeats 4000000 in
theorem mk_part_no {w : World} {B : Nat} {ua : Option Addr} {l : Lay} {na : Option Addr} {g o nc : Nat} {c : Lc} {x b : Int} (h : LogAt w B ua l c.m na g o c.k c.z) (hI : c.Is) (hp : partB c x b = false) :
    Calls Try.prog 86 #[.agg #[.slice ua c.m.n l.cap, .slice na c.k nc], .agg #[.int .i64 3, .int .i64 x, .int .i64 b]] w (OptRes none w) := by
  have X := BoxN.start w #[.slice ua c.m.n l.cap, .slice na c.k nc] 26
  have V := BoxN.start (w.alloc (.cells #[.slice ua c.m.n l.cap, .slice na c.k nc] 26)) #[.int .i64 3, .int .i64 x, .int .i64 b] 70
  have R := TwoAt.new ((w.alloc (.cells #[.slice ua c.m.n l.cap, .slice na c.k nc] 26)).alloc (.cells #[.int .i64 3, .int .i64 x, .int .i64 b] 70)) (.slice none 0 0) (.slice none 0 0) 26
  have bR := (Below.refl ((w.alloc (.cells #[.slice ua c.m.n l.cap, .slice na c.k nc] 26)).alloc (.cells #[.int .i64 3, .int .i64 x, .int .i64 b] 70)).heap.size ((w.alloc (.cells #[.slice ua c.m.n l.cap, .slice na c.k nc] 26)).alloc (.cells #[.int .i64 3, .int .i64 x, .int .i64 b] 70))).alloc (Nat.le_refl _) (.cells #[.slice none 0 0, .slice none 0 0] 26)
  have V2 := V.step bR
  have X2 := (X.step V.below).step bR
  rw [World.size_alloc, World.size_alloc] at R
  have bw := X2.below
  have hsz : w.heap.size + 3 ≤ (((w.alloc (.cells #[.slice ua c.m.n l.cap, .slice na c.k nc] 26)).alloc (.cells #[.int .i64 3, .int .i64 x, .int .i64 b] 70)).alloc (.cells #[.slice none 0 0, .slice none 0 0] 26)).heap.size := by simp
  have HC : Hid (CAt (((w.alloc (.cells #[.slice ua c.m.n l.cap, .slice na c.k nc] 26)).alloc (.cells #[.int .i64 3, .int .i64 x, .int .i64 b] 70)).alloc (.cells #[.slice none 0 0, .slice none 0 0] 26)) B (.slice ua c.m.n l.cap) (.slice na c.k nc) c) := ⟨ua, l, na, g, o, nc, rfl, rfl, h.step bw⟩
  have hBw := h.hB
  have q0 := X2.cell 0 rfl
  have q1 := X2.cell 1 rfl
  have v0 := V2.cell 0 rfl
  have v1 := V2.cell 1 rfl
  have v2 := V2.cell 2 rfl
  rw [World.size_alloc] at v0 v1 v2
  have r0 := R.c0
  have r1 := R.c1
  have r2 := R.f0
  have r3 := R.f1
  have hkc : c.k ≤ 12 := by have := hI.small; omega
  have e1 := deed_eql 3 x b 2 0 0
  have HP := Lib.hid hp
  clear hp
  clear h X V
  go_enter Try.func86, Try.ntmps86
  go_wp2_with fail
  generalize (((w.alloc (.cells #[.slice ua c.m.n l.cap, .slice na c.k nc] 26)).alloc (.cells #[.int .i64 3, .int .i64 x, .int .i64 b] 70)).alloc (.cells #[.slice none 0 0, .slice none 0 0] 26)) = W at X2 V2 R bR bw hsz HC q0 q1 v0 v1 v2 r0 r1 r2 r3 ⊢
  go_at_call 115
  refine (l2Both_C HC.out).mono ?_
  rintro e w1 ⟨rfl, b1⟩
  rw [HP.out]
  have hz1 := b1.size
  have R3 := R.below b1 (by omega)
  have bw3 := bw.trans (b1.mono (by omega))
  clear q0 q1 v0 v1 v2 r0 r1 r2 r3
  have r0 := R3.c0
  have r1 := R3.c1
  have r2 := R3.f0
  have r3 := R3.f1
  go_wp2_with fail
  have hfin := (R3.set0 (.slice none 0 0)).set1 (.slice none 0 0)
  have t0 := hfin.c0
  have t1 := hfin.c1
  have hon := set2_only w1 (w.heap.size + 1 + 1) (.slice none 0 0) (.slice none 0 0)
  refine bodyPost_ret (v := .tuple #[.agg #[.slice none 0 0, .slice none 0 0], .bool false]) (by simp [results, Try.results86, go_sem, t0, t1]) rfl ⟨_, _, rfl, bw3.trans (hon.below (B := w.heap.size) fun j hj => by have hj' : j = w.heap.size + 1 + 1 := hj; omega), zeroC_w _ _⟩
set_option maxRecDepth 100000 in
set_option maxHeartbeats 4000000 in
theorem mk_part_yes {w : World} {B : Nat} {ua : Option Addr} {l : Lay} {na : Option Addr} {g o nc : Nat} {c : Lc} {x b : Nat} (h : LogAt w B ua l c.m na g o c.k c.z) (hI : c.Is) (hp : partB c (x : Int) (b : Int) = true) :
    Calls Try.prog 86 #[.agg #[.slice ua c.m.n l.cap, .slice na c.k nc], .agg #[.int .i64 3, .int .i64 (x : Int), .int .i64 (b : Int)]] w (OptRes (partC c (x : Int) (b : Int)) w) := by
  have X := BoxN.start w #[.slice ua c.m.n l.cap, .slice na c.k nc] 26
  have V := BoxN.start (w.alloc (.cells #[.slice ua c.m.n l.cap, .slice na c.k nc] 26)) #[.int .i64 3, .int .i64 (x : Int), .int .i64 (b : Int)] 70
  have R := TwoAt.new ((w.alloc (.cells #[.slice ua c.m.n l.cap, .slice na c.k nc] 26)).alloc (.cells #[.int .i64 3, .int .i64 (x : Int), .int .i64 (b : Int)] 70)) (.slice none 0 0) (.slice none 0 0) 26
  have bR := (Below.refl ((w.alloc (.cells #[.slice ua c.m.n l.cap, .slice na c.k nc] 26)).alloc (.cells #[.int .i64 3, .int .i64 (x : Int), .int .i64 (b : Int)] 70)).heap.size ((w.alloc (.cells #[.slice ua c.m.n l.cap, .slice na c.k nc] 26)).alloc (.cells #[.int .i64 3, .int .i64 (x : Int), .int .i64 (b : Int)] 70))).alloc (Nat.le_refl _) (.cells #[.slice none 0 0, .slice none 0 0] 26)
  have V2 := V.step bR
  have X2 := (X.step V.below).step bR
  rw [World.size_alloc, World.size_alloc] at R
  have bw := X2.below
  have hsz : w.heap.size + 3 ≤ (((w.alloc (.cells #[.slice ua c.m.n l.cap, .slice na c.k nc] 26)).alloc (.cells #[.int .i64 3, .int .i64 (x : Int), .int .i64 (b : Int)] 70)).alloc (.cells #[.slice none 0 0, .slice none 0 0] 26)).heap.size := by simp
  have HC : Hid (CAt (((w.alloc (.cells #[.slice ua c.m.n l.cap, .slice na c.k nc] 26)).alloc (.cells #[.int .i64 3, .int .i64 (x : Int), .int .i64 (b : Int)] 70)).alloc (.cells #[.slice none 0 0, .slice none 0 0] 26)) B (.slice ua c.m.n l.cap) (.slice na c.k nc) c) := ⟨ua, l, na, g, o, nc, rfl, rfl, h.step bw⟩
  have hBw := h.hB
  have q0 := X2.cell 0 rfl
  have q1 := X2.cell 1 rfl
  have v0 := V2.cell 0 rfl
  have v1 := V2.cell 1 rfl
  have v2 := V2.cell 2 rfl
  rw [World.size_alloc] at v0 v1 v2
  have r0 := R.c0
  have r1 := R.c1
  have r2 := R.f0
  have r3 := R.f1
  have hkc : c.k ≤ 12 := by have := hI.small; omega
  have e1 := deed_eql 3 x b 2 0 0
  have hg : goodB c.m.n 2 (two (x : Int) (b : Int)) = true := by unfold partB at hp; rw [Bool.and_eq_true] at hp; exact hp.2
  have hn12 : c.m.n ≤ 12 := hI.small.2.1
  have hx12 : x < 12 := by have := (goodTwo hg).1; omega
  have hb12 : b < 12 := by have := (goodTwo hg).2; omega
  have hx64 : (x : Int) ≤ 64 := by omega
  have hb64 : (b : Int) ≤ 64 := by omega
  have hx0 : (0 : Int) ≤ x := by omega
  have hb0 : (0 : Int) ≤ b := by omega
  obtain ⟨PL, ePL⟩ : ∃ PL, partL c (partN c (x : Int) (b : Int)) = PL := ⟨_, rfl⟩
  have ER : Hid (partC c (x : Int) (b : Int) = some PL) := by show _ = _; unfold partC; rw [if_pos hp, ePL]
  have PC : ∀ {w : World} {B : Nat} {u t : Value}, CAt w B u t c → Calls Try.prog 116 #[.agg #[u, t], .int .i64 (partN c (x : Int) (b : Int))] w (CopyC PL w) := fun h => by rw [← ePL]; exact spec_PartOf_C h hI hg
  rw [ER.out]
  have HP := Lib.hid hp
  clear hp ePL hg
  clear h X V
  go_enter Try.func86, Try.ntmps86
  go_wp2_with fail
  generalize (((w.alloc (.cells #[.slice ua c.m.n l.cap, .slice na c.k nc] 26)).alloc (.cells #[.int .i64 3, .int .i64 (x : Int), .int .i64 (b : Int)] 70)).alloc (.cells #[.slice none 0 0, .slice none 0 0] 26)) = W at X2 V2 R bR bw hsz HC q0 q1 v0 v1 v2 r0 r1 r2 r3 ⊢
  go_at_call 115
  refine (l2Both_C HC.out).mono ?_
  rintro e w1 ⟨rfl, b1⟩
  rw [HP.out]
  have hz1 := b1.size
  have b2 := b1.drew
  have X4 := X2.step b2
  have V4 := V2.step b2
  have R4 := R.below b2 (by omega)
  have HC4 := Lib.hid (HC.out.step b2)
  have bw4 := bw.trans (b2.mono (by omega))
  have hz2 : W.heap.size ≤ w1.drew.heap.size := b2.size
  have S0 : (fun w' => (w'.cell? ⟨w.heap.size, 0, none⟩ = some (.slice ua c.m.n l.cap) ∧ w'.cell? ⟨w.heap.size, 1, none⟩ = some (.slice na c.k nc)) ∧ w'.cell? ⟨w.heap.size + 1, 1, none⟩ = some (.int .i64 (x : Int)) ∧ w'.cell? ⟨w.heap.size + 1, 2, none⟩ = some (.int .i64 (b : Int))) w1.drew := ⟨⟨X4.cell 0 rfl, X4.cell 1 rfl⟩, by have := V4.cell 1 rfl; rwa [World.size_alloc] at this, by have := V4.cell 2 rfl; rwa [World.size_alloc] at this⟩
  clear q0 q1 v0 v1 v2 r0 r1 r2 r3
  have q1 := (X2.step b1).cell 1 rfl
  go_wp2_with fail
  clear q1
  refine region_plain (fuel := 13) (listed := #[false, false, false, false, false, false, false, false, false, false, false, false, false]) (fun w' => (w'.cell? ⟨w.heap.size, 0, none⟩ = some (.slice ua c.m.n l.cap) ∧ w'.cell? ⟨w.heap.size, 1, none⟩ = some (.slice na c.k nc)) ∧ w'.cell? ⟨w.heap.size + 1, 1, none⟩ = some (.int .i64 (x : Int)) ∧ w'.cell? ⟨w.heap.size + 1, 2, none⟩ = some (.int .i64 (b : Int))) (by kernel_rfl) (by kernel_rfl) (by kernel_rfl) ?_
  refine hold_take (i := 0) (d := 83) (v := ?vP0) (listed' := #[true, false, false, false, false, false, false, false, false, false, false, false, false]) rfl (by kernel_rfl) (by kernel_rfl) (by kernel_rfl) rfl (by rfl) (by kernel_rfl) S0 ?hP0 ?rP0
  case hP0 =>
    intro w' hSw
    obtain ⟨⟨k0, k1⟩, k2, k3⟩ := hSw
    go_simp
    try with_reducible rfl
  simp only [List.setIfInBounds_toArray, List.set_cons_zero, List.set_cons_succ]
  refine hold_take (i := 1) (d := 84) (v := ?vP1) (listed' := #[true, true, false, false, false, false, false, false, false, false, false, false, false]) rfl (by kernel_rfl) (by kernel_rfl) (by kernel_rfl) rfl (by rfl) (by kernel_rfl) S0 ?hP1 ?rP1
  case hP1 =>
    intro w' hSw
    obtain ⟨⟨k0, k1⟩, k2, k3⟩ := hSw
    go_simp
    try with_reducible rfl
  simp only [List.setIfInBounds_toArray, List.set_cons_zero, List.set_cons_succ]
  refine hold_take (i := 2) (d := 85) (v := ?vP2) (listed' := #[true, true, true, false, false, false, false, false, false, false, false, false, false]) rfl (by kernel_rfl) (by kernel_rfl) (by kernel_rfl) rfl (by rfl) (by kernel_rfl) S0 ?hP2 ?rP2
  case hP2 =>
    intro w' hSw
    obtain ⟨⟨k0, k1⟩, k2, k3⟩ := hSw
    go_simp
    try with_reducible rfl
  simp only [List.setIfInBounds_toArray, List.set_cons_zero, List.set_cons_succ]
  refine hold_take (i := 3) (d := 86) (v := ?vP3) (listed' := #[true, true, true, true, false, false, false, false, false, false, false, false, false]) rfl (by kernel_rfl) (by kernel_rfl) (by kernel_rfl) rfl (by rfl) (by kernel_rfl) S0 ?hP3 ?rP3
  case hP3 =>
    intro w' hSw
    obtain ⟨⟨k0, k1⟩, k2, k3⟩ := hSw
    go_simp
    try with_reducible rfl
  simp only [List.setIfInBounds_toArray, List.set_cons_zero, List.set_cons_succ]
  refine hold_take (i := 4) (d := 87) (v := ?vP4) (listed' := #[true, true, true, true, true, false, false, false, false, false, false, false, false]) rfl (by kernel_rfl) (by kernel_rfl) (by kernel_rfl) rfl (by rfl) (by kernel_rfl) S0 ?hP4 ?rP4
  case hP4 =>
    intro w' hSw
    obtain ⟨⟨k0, k1⟩, k2, k3⟩ := hSw
    go_simp
    try with_reducible rfl
  simp only [List.setIfInBounds_toArray, List.set_cons_zero, List.set_cons_succ]
  refine hold_take (i := 5) (d := 88) (v := ?vP5) (listed' := #[true, true, true, true, true, true, false, false, false, false, false, false, false]) rfl (by kernel_rfl) (by kernel_rfl) (by kernel_rfl) rfl (by rfl) (by kernel_rfl) S0 ?hP5 ?rP5
  case hP5 =>
    intro w' hSw
    obtain ⟨⟨k0, k1⟩, k2, k3⟩ := hSw
    go_simp
    try with_reducible rfl
  simp only [List.setIfInBounds_toArray, List.set_cons_zero, List.set_cons_succ]
  refine hold_take (i := 6) (d := 89) (v := ?vP6) (listed' := #[true, true, true, true, true, true, true, false, false, false, false, false, false]) rfl (by kernel_rfl) (by kernel_rfl) (by kernel_rfl) rfl (by rfl) (by kernel_rfl) S0 ?hP6 ?rP6
  case hP6 =>
    intro w' hSw
    obtain ⟨⟨k0, k1⟩, k2, k3⟩ := hSw
    go_simp
    try with_reducible rfl
  simp only [List.setIfInBounds_toArray, List.set_cons_zero, List.set_cons_succ]
  refine hold_take (i := 7) (d := 90) (v := ?vP7) (listed' := #[true, true, true, true, true, true, true, true, false, false, false, false, false]) rfl (by kernel_rfl) (by kernel_rfl) (by kernel_rfl) rfl (by rfl) (by kernel_rfl) S0 ?hP7 ?rP7
  case hP7 =>
    intro w' hSw
    obtain ⟨⟨k0, k1⟩, k2, k3⟩ := hSw
    go_simp
    try with_reducible rfl
  simp only [List.setIfInBounds_toArray, List.set_cons_zero, List.set_cons_succ]
  refine hold_take (i := 8) (d := 91) (v := .int .i64 ((2 ^ x ||| 2 ^ b : Nat) : Int)) (listed' := #[true, true, true, true, true, true, true, true, true, false, false, false, false]) rfl (by kernel_rfl) (by kernel_rfl) (by kernel_rfl) rfl (by rfl) (by kernel_rfl) S0 ?hP8 ?rP8
  case hP8 =>
    intro w' hSw
    go_simp
    first | (rw [or2w' hx12 hb12]; done) | (rw [or2w' hx12 hb12]; rfl) | (simp only [or2w' hx12 hb12]; done) | exact or2w' hx12 hb12
  simp only [List.setIfInBounds_toArray, List.set_cons_zero, List.set_cons_succ]
  refine hold_call (i := 9) (d := 92) (listed' := #[true, true, true, true, true, true, true, true, true, true, false, false, false]) rfl (by kernel_rfl) rfl (by rfl) (by kernel_rfl) ?heP9 (spec_MadeBy_C (a := (x : Int)) (b := (b : Int)) HC4.out) ?hcP9
  case heP9 => (go_simp; try rw [twoBits_nat])
  rintro e w5 ⟨rfl, b5⟩
  have X5 := X4.step b5
  have V5 := V4.step b5
  have HC5 := Lib.hid (HC4.out.step b5)
  have S5 : (fun w' => (w'.cell? ⟨w.heap.size, 0, none⟩ = some (.slice ua c.m.n l.cap) ∧ w'.cell? ⟨w.heap.size, 1, none⟩ = some (.slice na c.k nc)) ∧ w'.cell? ⟨w.heap.size + 1, 1, none⟩ = some (.int .i64 (x : Int)) ∧ w'.cell? ⟨w.heap.size + 1, 2, none⟩ = some (.int .i64 (b : Int))) w5 := ⟨⟨X5.cell 0 rfl, X5.cell 1 rfl⟩, by have := V5.cell 1 rfl; rwa [World.size_alloc] at this, by have := V5.cell 2 rfl; rwa [World.size_alloc] at this⟩
  have hz5 := b5.size
  have R5 := R4.below b5 (by omega)
  have bw5 := bw4.trans (b5.mono (by omega))
  refine ⟨_, rfl, S5, ?_⟩
  simp only [List.setIfInBounds_toArray, List.set_cons_zero, List.set_cons_succ]
  refine hold_call (i := 10) (d := 93) (listed' := #[true, true, true, true, true, true, true, true, true, true, true, false, false]) rfl (by kernel_rfl) rfl (by rfl) (by kernel_rfl) ?heP10 (PC HC5.out) ?hcP10
  case heP10 => go_simp
  rintro e w6 ⟨_, _, rfl, b6, uf, lf, nf, gf, ncf, rfl, rfl, hWf⟩
  have X6 := X5.step b6
  have V6 := V5.step b6
  have S6 : (fun w' => (w'.cell? ⟨w.heap.size, 0, none⟩ = some (.slice ua c.m.n l.cap) ∧ w'.cell? ⟨w.heap.size, 1, none⟩ = some (.slice na c.k nc)) ∧ w'.cell? ⟨w.heap.size + 1, 1, none⟩ = some (.int .i64 (x : Int)) ∧ w'.cell? ⟨w.heap.size + 1, 2, none⟩ = some (.int .i64 (b : Int))) w6 := ⟨⟨X6.cell 0 rfl, X6.cell 1 rfl⟩, by have := V6.cell 1 rfl; rwa [World.size_alloc] at this, by have := V6.cell 2 rfl; rwa [World.size_alloc] at this⟩
  have hz6 := b6.size
  have R6 := R5.below b6 (by omega)
  have bw6 := bw5.trans (b6.mono (by omega))
  have HF : Hid (CW w6 ⟨.slice uf PL.m.n lf.cap, .slice nf PL.k ncf, w5.heap.size, w6.heap.size⟩ PL) := ⟨uf, lf, nf, gf, ncf, rfl, rfl, hWf⟩
  clear hWf
  have r0 := R6.c0
  have r1 := R6.c1
  have r2 := R6.f0
  have r3 := R6.f1
  refine ⟨_, rfl, S6, ?_⟩
  simp only [List.setIfInBounds_toArray, List.set_cons_zero, List.set_cons_succ]
  have hon := set2_only w6 (w.heap.size + 1 + 1) (.slice uf PL.m.n lf.cap) (.slice nf PL.k ncf)
  have C7 : Chg (fun j => j = w.heap.size + 1 + 1) w6 ((w6.setCell ⟨w.heap.size + 1 + 1, 0, none⟩ (.slice uf PL.m.n lf.cap)).setCell ⟨w.heap.size + 1 + 1, 1, none⟩ (.slice nf PL.k ncf)) := Chg.of_only hon
  have S7 : (fun w' => (w'.cell? ⟨w.heap.size, 0, none⟩ = some (.slice ua c.m.n l.cap) ∧ w'.cell? ⟨w.heap.size, 1, none⟩ = some (.slice na c.k nc)) ∧ w'.cell? ⟨w.heap.size + 1, 1, none⟩ = some (.int .i64 (x : Int)) ∧ w'.cell? ⟨w.heap.size + 1, 2, none⟩ = some (.int .i64 (b : Int))) ((w6.setCell ⟨w.heap.size + 1 + 1, 0, none⟩ (.slice uf PL.m.n lf.cap)).setCell ⟨w.heap.size + 1 + 1, 1, none⟩ (.slice nf PL.k ncf)) := ⟨⟨C7.at_cellC (by show ¬ (w.heap.size = w.heap.size + 1 + 1); omega) S6.1.1, C7.at_cellC (by show ¬ (w.heap.size = w.heap.size + 1 + 1); omega) S6.1.2⟩, C7.at_cellC (by show ¬ (w.heap.size + 1 = w.heap.size + 1 + 1); omega) S6.2.1, C7.at_cellC (by show ¬ (w.heap.size + 1 = w.heap.size + 1 + 1); omega) S6.2.2⟩
  refine hold_store (i := 11) (w' := ((w6.setCell ⟨w.heap.size + 1 + 1, 0, none⟩ (.slice uf PL.m.n lf.cap)).setCell ⟨w.heap.size + 1 + 1, 1, none⟩ (.slice nf PL.k ncf))) (listed' := #[true, true, true, true, true, true, true, true, true, true, true, true, false]) rfl (by kernel_rfl) rfl (by rfl) (by kernel_rfl) ?hsP11 S7 ?hkP11
  case hsP11 => go_simp
  refine hold_take (i := 12) (d := 5) (v := ?vP12) (listed' := #[true, true, true, true, true, true, true, true, true, true, true, true, true]) rfl (by kernel_rfl) (by kernel_rfl) (by kernel_rfl) rfl (by rfl) (by kernel_rfl) S7 ?hP12 ?rP12
  case hP12 =>
    intro w' hSw
    obtain ⟨⟨k0, k1⟩, k2, k3⟩ := hSw
    go_simp
    try with_reducible rfl
  simp only [List.setIfInBounds_toArray, List.set_cons_zero, List.set_cons_succ]
  refine hold_done (by kernel_rfl) ?_ _
  have hfin := (R6.set0 (.slice uf PL.m.n lf.cap)).set1 (.slice nf PL.k ncf)
  have t0 := hfin.c0
  have t1 := hfin.c1
  have hs7 : w6.heap.size ≤ ((w6.setCell ⟨w.heap.size + 1 + 1, 0, none⟩ (.slice uf PL.m.n lf.cap)).setCell ⟨w.heap.size + 1 + 1, 1, none⟩ (.slice nf PL.k ncf)).heap.size := by simp
  go_wp2_with fail
  refine bodyPost_ret (v := .tuple #[.agg #[.slice uf PL.m.n lf.cap, .slice nf PL.k ncf], .bool true]) (by simp [results, Try.results86, go_sem, t0, t1]) rfl ⟨_, _, rfl, bw6.trans (hon.below (B := w.heap.size) fun j hj => by have hj' : j = w.heap.size + 1 + 1 := hj; omega), ?_⟩
  exact (HF.out.chg C7 fun j hj => .inl (by have hj' : j = w.heap.size + 1 + 1 := hj; show j < w5.heap.size; omega)).wider (by show w.heap.size ≤ w5.heap.size; omega) hs7 (Nat.le_refl _)
theorem spec_l11Made {w : World} {B : Nat} {u t : Value} {c : Lc} {a : Dd} (h : CAt w B u t c) (hI : c.Is) : Calls Try.prog 86 #[.agg #[u, t], deedV a] w (OptRes (mkC c a) w) := by
  obtain ⟨ua, l, na, g, o, nc, rfl, rfl, hL⟩ := h
  obtain ⟨k, x, b⟩ := a
  unfold deedV mkC
  dsimp only
  by_cases k0 : k = 0
  · subst k0
    by_cases b0 : b = 0
    · subst b0
      rw [if_pos ⟨rfl, rfl⟩]
      exact mk_glue hL hI
    · rw [if_neg (fun hh => b0 hh.2), if_neg (fun hh => by cases hh.1), if_neg (fun hh => by cases hh.1), if_neg (by decide)]
      exact mk_no0 hL hI (beq_eq_false_iff_ne.2 b0)
  rw [if_neg (fun hh => k0 hh.1)]
  by_cases k1 : k = 1
  · subst k1
    by_cases b0 : b = 0
    · subst b0
      rw [if_pos ⟨rfl, rfl⟩]
      exact mk_times hL hI
    · rw [if_neg (fun hh => b0 hh.2), if_neg (fun hh => by cases hh.1), if_neg (by decide)]
      exact mk_no1 hL hI (beq_eq_false_iff_ne.2 b0)
  rw [if_neg (fun hh => k1 hh.1)]
  by_cases k2 : k = 2
  · subst k2
    by_cases hz : x = 0 ∧ b = 0
    · obtain ⟨rfl, rfl⟩ := hz
      rw [if_pos ⟨rfl, rfl, rfl⟩]
      exact mk_ring hL hI
    · rw [if_neg (fun hh => hz hh.2), if_neg (by decide)]
      refine mk_no2 hL hI ?_
      cases e : (x == 0 && b == 0) with
      | false => rfl
      | true =>
        rw [Bool.and_eq_true, beq_iff_eq, beq_iff_eq] at e
        exact absurd e hz
  rw [if_neg (fun hh => k2 hh.1)]
  by_cases k3 : k = 3
  · subst k3
    rw [if_pos rfl]
    cases hp : partB c x b with
    | false =>
      have e : partC c x b = none := by unfold partC; rw [if_neg (by rw [hp]; decide)]
      rw [e]
      exact mk_part_no hL hI hp
    | true =>
      have hg : goodB c.m.n 2 (two x b) = true := by
        have h1 := hp
        unfold partB at h1
        rw [Bool.and_eq_true] at h1
        exact h1.2
      obtain ⟨⟨x1, _⟩, b1, _⟩ := goodTwo hg
      obtain ⟨x', rfl⟩ := Int.eq_ofNat_of_zero_le x1
      obtain ⟨b', rfl⟩ := Int.eq_ofNat_of_zero_le b1
      exact mk_part_yes hL hI hp
  rw [if_neg k3]
  exact mk_noO hL hI (beq_eq_false_iff_ne.2 k0) (beq_eq_false_iff_ne.2 k1) (beq_eq_false_iff_ne.2 k2) (beq_eq_false_iff_ne.2 k3)
end Go.Proofs.Ytojcgmgponnlpaa
