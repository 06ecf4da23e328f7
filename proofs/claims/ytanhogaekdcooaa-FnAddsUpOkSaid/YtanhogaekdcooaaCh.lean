/- The walk of the reference's AddsUpOk. -/
import Derived.Test.YtanhogaekdcooaaCe
namespace Go.Proofs.Ytanhogaekdcooaa
open Go.RowKit Go.Deep

theorem meetW8 {B : Nat} {sa : Option Addr} {l : Lay} {m : Mx} {a b : Nat} {w : World} {z : Nat → Int} {y : Nat → Nat} {o : Nat} (h : MatAt w B sa l m) (hO : Ortho m z y o) (ha : a < m.n) (hb : b < m.n) :
    Calls Try.prog 46 #[.slice sa m.n l.cap, .int .i64 a, .int .i64 b] w fun e w' => e = .returned (.int .i64 ((mN m a b : Nat) : Int)) ∧ w = w' :=
  (l1Meet_any h hO.lat.order ha hb).mono fun _ _ ⟨he, hw⟩ => ⟨by rw [he, hO.mI ha hb], hw⟩
theorem joinW8 {B : Nat} {sa : Option Addr} {l : Lay} {m : Mx} {a b : Nat} {w : World} {z : Nat → Int} {y : Nat → Nat} {o : Nat} (h : MatAt w B sa l m) (hO : Ortho m z y o) (ha : a < m.n) (hb : b < m.n) :
    Calls Try.prog 45 #[.slice sa m.n l.cap, .int .i64 a, .int .i64 b] w fun e w' => e = .returned (.int .i64 ((jN m a b : Nat) : Int)) ∧ w = w' :=
  (l1Join_any h hO.lat.order ha hb).mono fun _ _ ⟨he, hw⟩ => ⟨by rw [he, hO.jI ha hb], hw⟩
/-- The heights of the first answers. -/
def hiL (m : Mx) (j : Nat) : List Value := (List.range j).map fun a => .int .i64 ((highN m a : Nat) : Int)
theorem hiL_more (m : Mx) (j : Nat) : hiL m (j + 1) = hiL m j ++ [.int .i64 ((highN m j : Nat) : Int)] := by simp [hiL, List.range_succ]
theorem adds_fails {m : Mx} {a b : Nat} (ha : a < m.n) (hb : b < a) (h : addsP m a b = false) : addsB m = false := allB_false ha (allB_false hb h)

set_option maxRecDepth 100000 in
set_option maxHeartbeats 4000000 in
theorem spec_AddsUpOk {w : World} {B : Nat} {ua : Option Addr} {l : Lay} {m : Mx} {na : Option Addr} {g o k nc : Nat} {z : Nat → Int} (h : LogAt w B ua l m na g o k z) :
    Calls Try.prog 35 #[.agg #[.slice ua m.n l.cap, .slice na k nc]] w fun e w' => e = .returned (.bool (addsV m k z)) ∧ Below w.heap.size w w' := by
  have hX := BoxN.start w #[.slice ua m.n l.cap, .slice na k nc] 26
  have h1 := Lib.hid (h.alloc (.cells #[.slice ua m.n l.cap, .slice na k nc] 26))
  have q0 := hX.cell 0 rfl
  have q1 := hX.cell 1 rfl
  have hkk := h.hk
  clear h
  cases hl : logicB m k z with
  | false =>
    have HL := Lib.hid hl
    have HF : Hid (addsV m k z = false) := by show _ = _; unfold addsV; rw [hl]; rfl
    clear hl
    go_enter Try.func35, Try.ntmps35
    go_wp2_with fail
    generalize hW : w.alloc (.cells #[.slice ua m.n l.cap, .slice na k nc] 26) = W at h1 hX q0 q1 ⊢
    clear hW
    go_at_call 22
    refine (spec_LogicOk h1.out).mono ?_
    rintro e w3 ⟨rfl, b3⟩
    rw [HL.out]
    have hX3 := hX.step b3
    clear q0 q1
    go_wp2_with fail
    go_ret
    exact ⟨ret_bool HF.out.symm, hX3.below⟩
  | true =>
    have hlog := logicB_is hl
    obtain ⟨y0, o', hO0⟩ := hlog.ortho
    have hkn : k = m.n := hlog.pair.len
    subst hkn
    have hO := hO0.own
    have hn := hO.lat.order.top
    have hpos : 0 < m.n := hO.lat.order.pos
    have HO := Lib.hid hO
    have HL := Lib.hid hl
    have HS := Lib.hid hO.lat.order.sq
    have HOrd := Lib.hid hO.lat.order
    obtain ⟨e0, _, _⟩ := h1.out.mat.sq HS.out hpos hpos
    obtain rfl := e0
    obtain ⟨i0, hi, hz0, hz1, hz2⟩ := info_parts infoInt
    have HI := Lib.hid hi
    have HZ0 := Lib.hid hz0
    have HZ1 := Lib.hid hz1
    have HZ2 := Lib.hid hz2
    clear hi hz0 hz1 hz2
    clear hl hO hlog hO0
    go_enter Try.func35, Try.ntmps35
    go_wp2_with fail
    generalize hW : w.alloc (.cells #[.slice (some ⟨l.b, l.o, none⟩) m.n l.cap, .slice na m.n nc] 26) = W at h1 hX q0 q1 ⊢
    clear hW
    go_at_call 22
    refine (spec_LogicOk h1.out).mono ?_
    rintro e w3 ⟨rfl, b3⟩
    rw [HL.out]
    have hX3 := hX.step b3
    have h3 := Lib.hid (h1.out.step b3)
    clear q0 q1 h1 hX
    go_wp2_with fail
    have hown0 : (w3.alloc (.cells #[] 3)).ownsRow w3.heap.size 3 1 (.slice (some ⟨w3.heap.size, 0, none⟩) 0 0) 0 (hiL m 0) :=
      World.ownsRow_lit (base := w3.heap.size) (e := 3) (size := 1) w3 #[] 0 (Nat.le_refl _) (Nat.zero_le _) rfl
    have hb1 := (Below.refl w3.heap.size w3).alloc (Nat.le_refl _) (.cells #[] 3)
    go_loopw [4, 5] (fun v i wr => ∃ j : Nat, j ≤ m.n ∧ i = .int .i64 j ∧ wr.ownsRow w3.heap.size 3 1 v j (hiL m j) ∧ Below w3.heap.size w3 wr) (fun _ i _ => m.n - (intOf i).toNat)
    case atStart => exact ⟨0, Nat.zero_le _, rfl, hown0, hb1⟩
    case round =>
      clear hown0 hb1
      obtain ⟨j, hj, rfl, hown, hD⟩ := hrel
      have hXr := hX3.step hD
      have hr := Lib.hid (h3.out.step hD)
      have q0 := hXr.cell 0 rfl
      have q1 := hXr.cell 1 rfl
      have hs := hD.size
      by_cases hlt : j < m.n
      · have hlt' : (j : Int) < m.n := by omega
        have HN := Lib.hid (hiL_more m j)
        have hc := cnt_le m j
        go_wp2_with fail
        go_at_call 61
        refine (l8High_any HOrd.out _ j _ hr.out.mat hlt hc).mono ?_
        rintro e w4 ⟨rfl, rfl⟩
        have hnn : (0 : Int) ≤ ((highN m j : Nat) : Int) := Int.natCast_nonneg _
        clear q0 q1 hr hXr
        generalize ((highN m j : Nat) : Int) = hj1 at hnn HN ⊢
        go_wp2_with (at_builtin; refine wpList_append_own _ rfl _ _ 24 rfl w3.heap.size 3 i0 (.int .i64 0) 1 8 Try.underlying24 HI.out HZ0.out HZ1.out HZ2.out rfl (by decide) _ _ _ rfl (hown.alloc _) ⟨wr.heap.size, 0, none⟩ 1 1 [.int .i64 hj1] rfl rfl (cell_one_new _ _ _) ?c2 ?c3 ?c4 ?c5 ?_)
        case c2 => simp [Value.oneCell']
        case c3 => unfold maxLen; omega
        case c4 => omega
        case c5 => first | omega | (simp; omega)
        intro v' w4 hown4 hgrow _
        have HO4 : Hid (w4.ownsRow w3.heap.size 3 1 v' (j + 1) (hiL m (j + 1))) := by
          show World.ownsRow _ _ _ _ _ _ _
          rw [HN.out]
          exact hown4
        have hW4 := (hD.alloc hs (.cells #[.int .i64 hj1] 3)).grown hgrow (by simp; omega) (fun c hc => by have := ownsRow_block hown c hc; omega)
        clear hown4 hgrow hown hD
        go_wp2_with fail
        go_roundw
        case rel => exact ⟨j + 1, by omega, by go_num, HO4.out, hW4⟩
        case measure => simp [intOf]; omega
      · have hlt' : ¬ (j : Int) < m.n := by omega
        obtain rfl : m.n = j := by omega
        have HC0 := owns_ways hown
        obtain ⟨gh, ch, rfl, hcell⟩ := HC0.resolve_left fun e0 => by have := e0.2; omega
        have HC := Lib.hid hcell
        clear hcell hown HC0 q0 q1
        obtain ⟨W0, rfl⟩ : ∃ W0, W0 = wr := ⟨_, rfl⟩
        go_wp2_with fail
        go_loopw [6] (fun i wi => ∃ a : Nat, a ≤ m.n ∧ i = .int .i64 a ∧ Below W0.heap.size W0 wi ∧ Hid (∀ c, c < a → allB c (addsP m c) = true)) (fun i _ => m.n - (intOf i).toNat)
        case atStart => exact ⟨0, Nat.zero_le _, rfl, Below.refl _ _, fun c hc => absurd hc (Nat.not_lt_zero _)⟩
        case round =>
          obtain ⟨a, hae, rfl, hDa, hRa⟩ := hrel
          by_cases hlt : a < m.n
          · have hlta : (a : Int) < m.n := by omega
            go_wp2_with fail
            go_loopw [7] (fun i wb => ∃ b : Nat, b ≤ a ∧ i = .int .i64 b ∧ Below W0.heap.size W0 wb ∧ Hid (∀ c, c < b → addsP m a c = true)) (fun i _ => a - (intOf i).toNat)
            case atStart => exact ⟨0, Nat.zero_le _, rfl, hDa, fun c hc => absurd hc (Nat.not_lt_zero _)⟩
            case round =>
              obtain ⟨b, hbe, rfl, hDab, hRb⟩ := hrel
              by_cases hba : b < a
              · have hba' : (b : Int) < (a : Int) := by omega
                have hbn : b < m.n := by omega
                have hbn' : (b : Int) < m.n := by omega
                have hDw := (hD.trans (hDab.mono hD.size)).drew
                have hDad := hDab.drew
                have hXb := hX3.step hDw
                have q0 := hXb.cell 0 rfl
                have hmat := Lib.hid (h3.out.step hDw).mat
                have m1 := (HO.out.mG hlt hbn).lt
                have j1 := (HO.out.jG hlt hbn).lt
                have m1' : ((mN m a b : Nat) : Int) < m.n := by omega
                have j1' : ((jN m a b : Nat) : Int) < m.n := by omega
                have k1 := (hDad.cell (p := ⟨gh, a, none⟩) (World.block_lt_of_cell? _ _ (HC.out a hlt))).trans (HC.out a hlt)
                have k2 := (hDad.cell (p := ⟨gh, b, none⟩) (World.block_lt_of_cell? _ _ (HC.out b hbn))).trans (HC.out b hbn)
                have k3 := (hDad.cell (p := ⟨gh, mN m a b, none⟩) (World.block_lt_of_cell? _ _ (HC.out _ m1))).trans (HC.out _ m1)
                have k4 := (hDad.cell (p := ⟨gh, jN m a b, none⟩) (World.block_lt_of_cell? _ _ (HC.out _ j1))).trans (HC.out _ j1)
                have l1 := Nat.le_trans (high_le m a) hn
                have l2 := Nat.le_trans (high_le m b) hn
                have l3 := Nat.le_trans (high_le m (mN m a b)) hn
                have l4 := Nat.le_trans (high_le m (jN m a b)) hn
                have HPd : Hid (addsP m a b = decide (highN m a + highN m b = highN m (mN m a b) + highN m (jN m a b))) := rfl
                obtain ⟨ka, hka⟩ : ∃ ka, ka = highN m a := ⟨_, rfl⟩
                obtain ⟨kb, hkb⟩ : ∃ kb, kb = highN m b := ⟨_, rfl⟩
                obtain ⟨km, hkm⟩ : ∃ km, km = highN m (mN m a b) := ⟨_, rfl⟩
                obtain ⟨kj, hkj⟩ : ∃ kj, kj = highN m (jN m a b) := ⟨_, rfl⟩
                rw [← hka] at k1 l1 HPd
                rw [← hkb] at k2 l2 HPd
                rw [← hkm] at k3 l3 HPd
                rw [← hkj] at k4 l4 HPd
                clear hka hkb hkm hkj m1 j1 hXb
                have S1 : Hid (IntKind.i64.wrap ((ka : Int) + (kb : Int)) = (ka : Int) + (kb : Int)) := IntWalk.i64_in _ (by omega)
                have S2 : Hid (IntKind.i64.wrap ((km : Int) + (kj : Int)) = (km : Int) + (kj : Int)) := IntWalk.i64_in _ (by omega)
                have hS0 := (show _ ∧ _ ∧ _ ∧ _ ∧ _ from ⟨q0, k1, k2, k3, k4⟩)
                clear q0 k1 k2 k3 k4 l1 l2 l3 l4
                by_cases heq : ka + kb = km + kj
                · have n1 : (((ka + kb : Nat) : Int) != ((km + kj : Nat) : Int)) = false := by rw [heq]; simp
                  have HP : Hid (addsP m a b = true) := HPd.out.trans (decide_eq_true heq)
                  clear heq HPd
                  go_wp2_with fail
                  refine region_plain (fuel := 27) (listed := #[false, false, false, false, false, false, false, false, false, false, false, false, false, false, false, false, false, false, false, false, false, false, false, false, false, false, false]) (fun w' => w'.cell? ⟨w.heap.size, 0, none⟩ = some (.slice (some ⟨l.b, l.o, none⟩) m.n l.cap) ∧ w'.cell? ⟨gh, a, none⟩ = some (.int .i64 (ka : Int)) ∧ w'.cell? ⟨gh, b, none⟩ = some (.int .i64 (kb : Int)) ∧ w'.cell? ⟨gh, mN m a b, none⟩ = some (.int .i64 (km : Int)) ∧ w'.cell? ⟨gh, jN m a b, none⟩ = some (.int .i64 (kj : Int))) (by kernel_rfl) (by kernel_rfl) (by kernel_rfl) ?_
                  refine hold_take (i := 0) (d := 37) (v := ?vt0) (listed' := #[true, false, false, false, false, false, false, false, false, false, false, false, false, false, false, false, false, false, false, false, false, false, false, false, false, false, false]) rfl (by kernel_rfl) (by kernel_rfl) (by kernel_rfl) rfl (by rfl) (by kernel_rfl) hS0 ?ht0 ?rt0
                  case ht0 =>
                    intro w' hSw
                    obtain ⟨k0, k1, k2, k3, k4⟩ := hSw
                    go_simp
                    try with_reducible rfl
                  simp only [List.setIfInBounds_toArray, List.set_cons_zero, List.set_cons_succ]
                  refine hold_take (i := 1) (d := 38) (v := ?vt1) (listed' := #[true, true, false, false, false, false, false, false, false, false, false, false, false, false, false, false, false, false, false, false, false, false, false, false, false, false, false]) rfl (by kernel_rfl) (by kernel_rfl) (by kernel_rfl) rfl (by rfl) (by kernel_rfl) hS0 ?ht1 ?rt1
                  case ht1 =>
                    intro w' hSw
                    obtain ⟨k0, k1, k2, k3, k4⟩ := hSw
                    go_simp
                    try with_reducible rfl
                  simp only [List.setIfInBounds_toArray, List.set_cons_zero, List.set_cons_succ]
                  refine hold_take (i := 2) (d := 39) (v := ?vt2) (listed' := #[true, true, true, false, false, false, false, false, false, false, false, false, false, false, false, false, false, false, false, false, false, false, false, false, false, false, false]) rfl (by kernel_rfl) (by kernel_rfl) (by kernel_rfl) rfl (by rfl) (by kernel_rfl) hS0 ?ht2 ?rt2
                  case ht2 =>
                    intro w' hSw
                    obtain ⟨k0, k1, k2, k3, k4⟩ := hSw
                    go_simp
                    try with_reducible rfl
                  simp only [List.setIfInBounds_toArray, List.set_cons_zero, List.set_cons_succ]
                  refine hold_take (i := 3) (d := 40) (v := ?vt3) (listed' := #[true, true, true, true, false, false, false, false, false, false, false, false, false, false, false, false, false, false, false, false, false, false, false, false, false, false, false]) rfl (by kernel_rfl) (by kernel_rfl) (by kernel_rfl) rfl (by rfl) (by kernel_rfl) hS0 ?ht3 ?rt3
                  case ht3 =>
                    intro w' hSw
                    obtain ⟨k0, k1, k2, k3, k4⟩ := hSw
                    go_simp
                    try with_reducible rfl
                  simp only [List.setIfInBounds_toArray, List.set_cons_zero, List.set_cons_succ]
                  refine hold_take (i := 4) (d := 41) (v := ?vt4) (listed' := #[true, true, true, true, true, false, false, false, false, false, false, false, false, false, false, false, false, false, false, false, false, false, false, false, false, false, false]) rfl (by kernel_rfl) (by kernel_rfl) (by kernel_rfl) rfl (by rfl) (by kernel_rfl) hS0 ?ht4 ?rt4
                  case ht4 =>
                    intro w' hSw
                    obtain ⟨k0, k1, k2, k3, k4⟩ := hSw
                    go_simp
                    try with_reducible rfl
                  simp only [List.setIfInBounds_toArray, List.set_cons_zero, List.set_cons_succ]
                  refine hold_take (i := 5) (d := 42) (v := ?vt5) (listed' := #[true, true, true, true, true, true, false, false, false, false, false, false, false, false, false, false, false, false, false, false, false, false, false, false, false, false, false]) rfl (by kernel_rfl) (by kernel_rfl) (by kernel_rfl) rfl (by rfl) (by kernel_rfl) hS0 ?ht5 ?rt5
                  case ht5 =>
                    intro w' hSw
                    obtain ⟨k0, k1, k2, k3, k4⟩ := hSw
                    go_simp
                    try with_reducible rfl
                  simp only [List.setIfInBounds_toArray, List.set_cons_zero, List.set_cons_succ]
                  refine hold_take (i := 6) (d := 43) (v := ?vt6) (listed' := #[true, true, true, true, true, true, true, false, false, false, false, false, false, false, false, false, false, false, false, false, false, false, false, false, false, false, false]) rfl (by kernel_rfl) (by kernel_rfl) (by kernel_rfl) rfl (by rfl) (by kernel_rfl) hS0 ?ht6 ?rt6
                  case ht6 =>
                    intro w' hSw
                    obtain ⟨k0, k1, k2, k3, k4⟩ := hSw
                    go_simp
                    try with_reducible rfl
                  simp only [List.setIfInBounds_toArray, List.set_cons_zero, List.set_cons_succ]
                  refine hold_take (i := 7) (d := 44) (v := ?vt7) (listed' := #[true, true, true, true, true, true, true, true, false, false, false, false, false, false, false, false, false, false, false, false, false, false, false, false, false, false, false]) rfl (by kernel_rfl) (by kernel_rfl) (by kernel_rfl) rfl (by rfl) (by kernel_rfl) hS0 ?ht7 ?rt7
                  case ht7 =>
                    intro w' hSw
                    obtain ⟨k0, k1, k2, k3, k4⟩ := hSw
                    go_simp
                    try with_reducible rfl
                  simp only [List.setIfInBounds_toArray, List.set_cons_zero, List.set_cons_succ]
                  refine hold_take (i := 8) (d := 45) (v := .int .i64 ((ka + kb : Nat) : Int)) (listed' := #[true, true, true, true, true, true, true, true, true, false, false, false, false, false, false, false, false, false, false, false, false, false, false, false, false, false, false]) rfl (by kernel_rfl) (by kernel_rfl) (by kernel_rfl) rfl (by rfl) (by kernel_rfl) hS0 ?ht8 ?rt8
                  case ht8 =>
                    intro w' hSw
                    obtain ⟨k0, k1, k2, k3, k4⟩ := hSw
                    go_simp
                    simp only [S1.out]
                  simp only [List.setIfInBounds_toArray, List.set_cons_zero, List.set_cons_succ]
                  refine hold_take (i := 9) (d := 46) (v := ?vt9) (listed' := #[true, true, true, true, true, true, true, true, true, true, false, false, false, false, false, false, false, false, false, false, false, false, false, false, false, false, false]) rfl (by kernel_rfl) (by kernel_rfl) (by kernel_rfl) rfl (by rfl) (by kernel_rfl) hS0 ?ht9 ?rt9
                  case ht9 =>
                    intro w' hSw
                    obtain ⟨k0, k1, k2, k3, k4⟩ := hSw
                    go_simp
                    try with_reducible rfl
                  simp only [List.setIfInBounds_toArray, List.set_cons_zero, List.set_cons_succ]
                  refine hold_take (i := 10) (d := 47) (v := ?vt10) (listed' := #[true, true, true, true, true, true, true, true, true, true, true, false, false, false, false, false, false, false, false, false, false, false, false, false, false, false, false]) rfl (by kernel_rfl) (by kernel_rfl) (by kernel_rfl) rfl (by rfl) (by kernel_rfl) hS0 ?ht10 ?rt10
                  case ht10 =>
                    intro w' hSw
                    obtain ⟨k0, k1, k2, k3, k4⟩ := hSw
                    go_simp
                    try with_reducible rfl
                  simp only [List.setIfInBounds_toArray, List.set_cons_zero, List.set_cons_succ]
                  refine hold_take (i := 11) (d := 48) (v := ?vt11) (listed' := #[true, true, true, true, true, true, true, true, true, true, true, true, false, false, false, false, false, false, false, false, false, false, false, false, false, false, false]) rfl (by kernel_rfl) (by kernel_rfl) (by kernel_rfl) rfl (by rfl) (by kernel_rfl) hS0 ?ht11 ?rt11
                  case ht11 =>
                    intro w' hSw
                    obtain ⟨k0, k1, k2, k3, k4⟩ := hSw
                    go_simp
                    try with_reducible rfl
                  simp only [List.setIfInBounds_toArray, List.set_cons_zero, List.set_cons_succ]
                  refine hold_take (i := 12) (d := 49) (v := ?vt12) (listed' := #[true, true, true, true, true, true, true, true, true, true, true, true, true, false, false, false, false, false, false, false, false, false, false, false, false, false, false]) rfl (by kernel_rfl) (by kernel_rfl) (by kernel_rfl) rfl (by rfl) (by kernel_rfl) hS0 ?ht12 ?rt12
                  case ht12 =>
                    intro w' hSw
                    obtain ⟨k0, k1, k2, k3, k4⟩ := hSw
                    go_simp
                    try with_reducible rfl
                  simp only [List.setIfInBounds_toArray, List.set_cons_zero, List.set_cons_succ]
                  refine hold_take (i := 13) (d := 50) (v := ?vt13) (listed' := #[true, true, true, true, true, true, true, true, true, true, true, true, true, true, false, false, false, false, false, false, false, false, false, false, false, false, false]) rfl (by kernel_rfl) (by kernel_rfl) (by kernel_rfl) rfl (by rfl) (by kernel_rfl) hS0 ?ht13 ?rt13
                  case ht13 =>
                    intro w' hSw
                    obtain ⟨k0, k1, k2, k3, k4⟩ := hSw
                    go_simp
                    try with_reducible rfl
                  simp only [List.setIfInBounds_toArray, List.set_cons_zero, List.set_cons_succ]
                  refine hold_take (i := 17) (d := 54) (v := ?vt17) (listed' := #[true, true, true, true, true, true, true, true, true, true, true, true, true, true, false, false, false, true, false, false, false, false, false, false, false, false, false]) rfl (by kernel_rfl) (by kernel_rfl) (by kernel_rfl) rfl (by rfl) (by kernel_rfl) hS0 ?ht17 ?rt17
                  case ht17 =>
                    intro w' hSw
                    obtain ⟨k0, k1, k2, k3, k4⟩ := hSw
                    go_simp
                    try with_reducible rfl
                  simp only [List.setIfInBounds_toArray, List.set_cons_zero, List.set_cons_succ]
                  refine hold_take (i := 18) (d := 55) (v := ?vt18) (listed' := #[true, true, true, true, true, true, true, true, true, true, true, true, true, true, false, false, false, true, true, false, false, false, false, false, false, false, false]) rfl (by kernel_rfl) (by kernel_rfl) (by kernel_rfl) rfl (by rfl) (by kernel_rfl) hS0 ?ht18 ?rt18
                  case ht18 =>
                    intro w' hSw
                    obtain ⟨k0, k1, k2, k3, k4⟩ := hSw
                    go_simp
                    try with_reducible rfl
                  simp only [List.setIfInBounds_toArray, List.set_cons_zero, List.set_cons_succ]
                  refine hold_take (i := 19) (d := 56) (v := ?vt19) (listed' := #[true, true, true, true, true, true, true, true, true, true, true, true, true, true, false, false, false, true, true, true, false, false, false, false, false, false, false]) rfl (by kernel_rfl) (by kernel_rfl) (by kernel_rfl) rfl (by rfl) (by kernel_rfl) hS0 ?ht19 ?rt19
                  case ht19 =>
                    intro w' hSw
                    obtain ⟨k0, k1, k2, k3, k4⟩ := hSw
                    go_simp
                    try with_reducible rfl
                  simp only [List.setIfInBounds_toArray, List.set_cons_zero, List.set_cons_succ]
                  refine hold_take (i := 20) (d := 57) (v := ?vt20) (listed' := #[true, true, true, true, true, true, true, true, true, true, true, true, true, true, false, false, false, true, true, true, true, false, false, false, false, false, false]) rfl (by kernel_rfl) (by kernel_rfl) (by kernel_rfl) rfl (by rfl) (by kernel_rfl) hS0 ?ht20 ?rt20
                  case ht20 =>
                    intro w' hSw
                    obtain ⟨k0, k1, k2, k3, k4⟩ := hSw
                    go_simp
                    try with_reducible rfl
                  simp only [List.setIfInBounds_toArray, List.set_cons_zero, List.set_cons_succ]
                  refine hold_take (i := 21) (d := 58) (v := ?vt21) (listed' := #[true, true, true, true, true, true, true, true, true, true, true, true, true, true, false, false, false, true, true, true, true, true, false, false, false, false, false]) rfl (by kernel_rfl) (by kernel_rfl) (by kernel_rfl) rfl (by rfl) (by kernel_rfl) hS0 ?ht21 ?rt21
                  case ht21 =>
                    intro w' hSw
                    obtain ⟨k0, k1, k2, k3, k4⟩ := hSw
                    go_simp
                    try with_reducible rfl
                  simp only [List.setIfInBounds_toArray, List.set_cons_zero, List.set_cons_succ]
                  refine hold_call (i := 14) (d := 51) (listed' := #[true, true, true, true, true, true, true, true, true, true, true, true, true, true, true, false, false, true, true, true, true, true, false, false, false, false, false]) rfl (by kernel_rfl) rfl (by rfl) (by kernel_rfl) ?het14 (meetW8 hmat.out HO.out hlt hbn) ?hct14
                  case het14 => go_simp
                  rintro e xq ⟨rfl, hx⟩
                  subst hx
                  refine ⟨_, rfl, hS0, ?_⟩
                  simp only [List.setIfInBounds_toArray, List.set_cons_zero, List.set_cons_succ]
                  refine hold_take (i := 15) (d := 52) (v := ?vt15) (listed' := #[true, true, true, true, true, true, true, true, true, true, true, true, true, true, true, true, false, true, true, true, true, true, false, false, false, false, false]) rfl (by kernel_rfl) (by kernel_rfl) (by kernel_rfl) rfl (by rfl) (by kernel_rfl) hS0 ?ht15 ?rt15
                  case ht15 =>
                    intro w' hSw
                    obtain ⟨k0, k1, k2, k3, k4⟩ := hSw
                    go_simp
                    try with_reducible rfl
                  simp only [List.setIfInBounds_toArray, List.set_cons_zero, List.set_cons_succ]
                  refine hold_take (i := 16) (d := 53) (v := ?vt16) (listed' := #[true, true, true, true, true, true, true, true, true, true, true, true, true, true, true, true, true, true, true, true, true, true, false, false, false, false, false]) rfl (by kernel_rfl) (by kernel_rfl) (by kernel_rfl) rfl (by rfl) (by kernel_rfl) hS0 ?ht16 ?rt16
                  case ht16 =>
                    intro w' hSw
                    obtain ⟨k0, k1, k2, k3, k4⟩ := hSw
                    go_simp
                    try with_reducible rfl
                  simp only [List.setIfInBounds_toArray, List.set_cons_zero, List.set_cons_succ]
                  refine hold_call (i := 22) (d := 59) (listed' := #[true, true, true, true, true, true, true, true, true, true, true, true, true, true, true, true, true, true, true, true, true, true, true, false, false, false, false]) rfl (by kernel_rfl) rfl (by rfl) (by kernel_rfl) ?het22 (joinW8 hmat.out HO.out hlt hbn) ?hct22
                  case het22 => go_simp
                  rintro e xq ⟨rfl, hx⟩
                  subst hx
                  refine ⟨_, rfl, hS0, ?_⟩
                  simp only [List.setIfInBounds_toArray, List.set_cons_zero, List.set_cons_succ]
                  refine hold_take (i := 23) (d := 60) (v := ?vt23) (listed' := #[true, true, true, true, true, true, true, true, true, true, true, true, true, true, true, true, true, true, true, true, true, true, true, true, false, false, false]) rfl (by kernel_rfl) (by kernel_rfl) (by kernel_rfl) rfl (by rfl) (by kernel_rfl) hS0 ?ht23 ?rt23
                  case ht23 =>
                    intro w' hSw
                    obtain ⟨k0, k1, k2, k3, k4⟩ := hSw
                    go_simp
                    try with_reducible rfl
                  simp only [List.setIfInBounds_toArray, List.set_cons_zero, List.set_cons_succ]
                  refine hold_take (i := 24) (d := 61) (v := ?vt24) (listed' := #[true, true, true, true, true, true, true, true, true, true, true, true, true, true, true, true, true, true, true, true, true, true, true, true, true, false, false]) rfl (by kernel_rfl) (by kernel_rfl) (by kernel_rfl) rfl (by rfl) (by kernel_rfl) hS0 ?ht24 ?rt24
                  case ht24 =>
                    intro w' hSw
                    obtain ⟨k0, k1, k2, k3, k4⟩ := hSw
                    go_simp
                    try with_reducible rfl
                  simp only [List.setIfInBounds_toArray, List.set_cons_zero, List.set_cons_succ]
                  refine hold_take (i := 25) (d := 62) (v := .int .i64 ((km + kj : Nat) : Int)) (listed' := #[true, true, true, true, true, true, true, true, true, true, true, true, true, true, true, true, true, true, true, true, true, true, true, true, true, true, false]) rfl (by kernel_rfl) (by kernel_rfl) (by kernel_rfl) rfl (by rfl) (by kernel_rfl) hS0 ?ht25 ?rt25
                  case ht25 =>
                    intro w' hSw
                    obtain ⟨k0, k1, k2, k3, k4⟩ := hSw
                    go_simp
                    simp only [S2.out]
                  simp only [List.setIfInBounds_toArray, List.set_cons_zero, List.set_cons_succ]
                  refine hold_take (i := 26) (d := 63) (v := ?vt26) (listed' := #[true, true, true, true, true, true, true, true, true, true, true, true, true, true, true, true, true, true, true, true, true, true, true, true, true, true, true]) rfl (by kernel_rfl) (by kernel_rfl) (by kernel_rfl) rfl (by rfl) (by kernel_rfl) hS0 ?ht26 ?rt26
                  case ht26 =>
                    intro w' hSw
                    obtain ⟨k0, k1, k2, k3, k4⟩ := hSw
                    go_simp
                    try with_reducible rfl
                  simp only [List.setIfInBounds_toArray, List.set_cons_zero, List.set_cons_succ]
                  refine hold_done (by kernel_rfl) ?_ _
                  go_wp2_with fail
                  go_roundw
                  case rel => exact ⟨b + 1, by omega, by go_num, hDad, fun c hc => by
                    by_cases e : c = b
                    · subst e; exact HP.out
                    · exact hRb.out c (by omega)⟩
                  case measure => simp [intOf]; omega
                · have n1 : (((ka + kb : Nat) : Int) != ((km + kj : Nat) : Int)) = true := by rw [bne_iff_ne]; omega
                  have HP : Hid (addsV m m.n z = false) := by
                    show _ = _
                    unfold addsV
                    rw [HL.out, adds_fails hlt hba (HPd.out.trans (decide_eq_false heq))]; rfl
                  clear heq HPd
                  go_wp2_with fail
                  refine region_plain (fuel := 27) (listed := #[false, false, false, false, false, false, false, false, false, false, false, false, false, false, false, false, false, false, false, false, false, false, false, false, false, false, false]) (fun w' => w'.cell? ⟨w.heap.size, 0, none⟩ = some (.slice (some ⟨l.b, l.o, none⟩) m.n l.cap) ∧ w'.cell? ⟨gh, a, none⟩ = some (.int .i64 (ka : Int)) ∧ w'.cell? ⟨gh, b, none⟩ = some (.int .i64 (kb : Int)) ∧ w'.cell? ⟨gh, mN m a b, none⟩ = some (.int .i64 (km : Int)) ∧ w'.cell? ⟨gh, jN m a b, none⟩ = some (.int .i64 (kj : Int))) (by kernel_rfl) (by kernel_rfl) (by kernel_rfl) ?_
                  refine hold_take (i := 0) (d := 37) (v := ?vf0) (listed' := #[true, false, false, false, false, false, false, false, false, false, false, false, false, false, false, false, false, false, false, false, false, false, false, false, false, false, false]) rfl (by kernel_rfl) (by kernel_rfl) (by kernel_rfl) rfl (by rfl) (by kernel_rfl) hS0 ?hf0 ?rf0
                  case hf0 =>
                    intro w' hSw
                    obtain ⟨k0, k1, k2, k3, k4⟩ := hSw
                    go_simp
                    try with_reducible rfl
                  simp only [List.setIfInBounds_toArray, List.set_cons_zero, List.set_cons_succ]
                  refine hold_take (i := 1) (d := 38) (v := ?vf1) (listed' := #[true, true, false, false, false, false, false, false, false, false, false, false, false, false, false, false, false, false, false, false, false, false, false, false, false, false, false]) rfl (by kernel_rfl) (by kernel_rfl) (by kernel_rfl) rfl (by rfl) (by kernel_rfl) hS0 ?hf1 ?rf1
                  case hf1 =>
                    intro w' hSw
                    obtain ⟨k0, k1, k2, k3, k4⟩ := hSw
                    go_simp
                    try with_reducible rfl
                  simp only [List.setIfInBounds_toArray, List.set_cons_zero, List.set_cons_succ]
                  refine hold_take (i := 2) (d := 39) (v := ?vf2) (listed' := #[true, true, true, false, false, false, false, false, false, false, false, false, false, false, false, false, false, false, false, false, false, false, false, false, false, false, false]) rfl (by kernel_rfl) (by kernel_rfl) (by kernel_rfl) rfl (by rfl) (by kernel_rfl) hS0 ?hf2 ?rf2
                  case hf2 =>
                    intro w' hSw
                    obtain ⟨k0, k1, k2, k3, k4⟩ := hSw
                    go_simp
                    try with_reducible rfl
                  simp only [List.setIfInBounds_toArray, List.set_cons_zero, List.set_cons_succ]
                  refine hold_take (i := 3) (d := 40) (v := ?vf3) (listed' := #[true, true, true, true, false, false, false, false, false, false, false, false, false, false, false, false, false, false, false, false, false, false, false, false, false, false, false]) rfl (by kernel_rfl) (by kernel_rfl) (by kernel_rfl) rfl (by rfl) (by kernel_rfl) hS0 ?hf3 ?rf3
                  case hf3 =>
                    intro w' hSw
                    obtain ⟨k0, k1, k2, k3, k4⟩ := hSw
                    go_simp
                    try with_reducible rfl
                  simp only [List.setIfInBounds_toArray, List.set_cons_zero, List.set_cons_succ]
                  refine hold_take (i := 4) (d := 41) (v := ?vf4) (listed' := #[true, true, true, true, true, false, false, false, false, false, false, false, false, false, false, false, false, false, false, false, false, false, false, false, false, false, false]) rfl (by kernel_rfl) (by kernel_rfl) (by kernel_rfl) rfl (by rfl) (by kernel_rfl) hS0 ?hf4 ?rf4
                  case hf4 =>
                    intro w' hSw
                    obtain ⟨k0, k1, k2, k3, k4⟩ := hSw
                    go_simp
                    try with_reducible rfl
                  simp only [List.setIfInBounds_toArray, List.set_cons_zero, List.set_cons_succ]
                  refine hold_take (i := 5) (d := 42) (v := ?vf5) (listed' := #[true, true, true, true, true, true, false, false, false, false, false, false, false, false, false, false, false, false, false, false, false, false, false, false, false, false, false]) rfl (by kernel_rfl) (by kernel_rfl) (by kernel_rfl) rfl (by rfl) (by kernel_rfl) hS0 ?hf5 ?rf5
                  case hf5 =>
                    intro w' hSw
                    obtain ⟨k0, k1, k2, k3, k4⟩ := hSw
                    go_simp
                    try with_reducible rfl
                  simp only [List.setIfInBounds_toArray, List.set_cons_zero, List.set_cons_succ]
                  refine hold_take (i := 6) (d := 43) (v := ?vf6) (listed' := #[true, true, true, true, true, true, true, false, false, false, false, false, false, false, false, false, false, false, false, false, false, false, false, false, false, false, false]) rfl (by kernel_rfl) (by kernel_rfl) (by kernel_rfl) rfl (by rfl) (by kernel_rfl) hS0 ?hf6 ?rf6
                  case hf6 =>
                    intro w' hSw
                    obtain ⟨k0, k1, k2, k3, k4⟩ := hSw
                    go_simp
                    try with_reducible rfl
                  simp only [List.setIfInBounds_toArray, List.set_cons_zero, List.set_cons_succ]
                  refine hold_take (i := 7) (d := 44) (v := ?vf7) (listed' := #[true, true, true, true, true, true, true, true, false, false, false, false, false, false, false, false, false, false, false, false, false, false, false, false, false, false, false]) rfl (by kernel_rfl) (by kernel_rfl) (by kernel_rfl) rfl (by rfl) (by kernel_rfl) hS0 ?hf7 ?rf7
                  case hf7 =>
                    intro w' hSw
                    obtain ⟨k0, k1, k2, k3, k4⟩ := hSw
                    go_simp
                    try with_reducible rfl
                  simp only [List.setIfInBounds_toArray, List.set_cons_zero, List.set_cons_succ]
                  refine hold_take (i := 8) (d := 45) (v := .int .i64 ((ka + kb : Nat) : Int)) (listed' := #[true, true, true, true, true, true, true, true, true, false, false, false, false, false, false, false, false, false, false, false, false, false, false, false, false, false, false]) rfl (by kernel_rfl) (by kernel_rfl) (by kernel_rfl) rfl (by rfl) (by kernel_rfl) hS0 ?hf8 ?rf8
                  case hf8 =>
                    intro w' hSw
                    obtain ⟨k0, k1, k2, k3, k4⟩ := hSw
                    go_simp
                    simp only [S1.out]
                  simp only [List.setIfInBounds_toArray, List.set_cons_zero, List.set_cons_succ]
                  refine hold_take (i := 9) (d := 46) (v := ?vf9) (listed' := #[true, true, true, true, true, true, true, true, true, true, false, false, false, false, false, false, false, false, false, false, false, false, false, false, false, false, false]) rfl (by kernel_rfl) (by kernel_rfl) (by kernel_rfl) rfl (by rfl) (by kernel_rfl) hS0 ?hf9 ?rf9
                  case hf9 =>
                    intro w' hSw
                    obtain ⟨k0, k1, k2, k3, k4⟩ := hSw
                    go_simp
                    try with_reducible rfl
                  simp only [List.setIfInBounds_toArray, List.set_cons_zero, List.set_cons_succ]
                  refine hold_take (i := 10) (d := 47) (v := ?vf10) (listed' := #[true, true, true, true, true, true, true, true, true, true, true, false, false, false, false, false, false, false, false, false, false, false, false, false, false, false, false]) rfl (by kernel_rfl) (by kernel_rfl) (by kernel_rfl) rfl (by rfl) (by kernel_rfl) hS0 ?hf10 ?rf10
                  case hf10 =>
                    intro w' hSw
                    obtain ⟨k0, k1, k2, k3, k4⟩ := hSw
                    go_simp
                    try with_reducible rfl
                  simp only [List.setIfInBounds_toArray, List.set_cons_zero, List.set_cons_succ]
                  refine hold_take (i := 11) (d := 48) (v := ?vf11) (listed' := #[true, true, true, true, true, true, true, true, true, true, true, true, false, false, false, false, false, false, false, false, false, false, false, false, false, false, false]) rfl (by kernel_rfl) (by kernel_rfl) (by kernel_rfl) rfl (by rfl) (by kernel_rfl) hS0 ?hf11 ?rf11
                  case hf11 =>
                    intro w' hSw
                    obtain ⟨k0, k1, k2, k3, k4⟩ := hSw
                    go_simp
                    try with_reducible rfl
                  simp only [List.setIfInBounds_toArray, List.set_cons_zero, List.set_cons_succ]
                  refine hold_take (i := 12) (d := 49) (v := ?vf12) (listed' := #[true, true, true, true, true, true, true, true, true, true, true, true, true, false, false, false, false, false, false, false, false, false, false, false, false, false, false]) rfl (by kernel_rfl) (by kernel_rfl) (by kernel_rfl) rfl (by rfl) (by kernel_rfl) hS0 ?hf12 ?rf12
                  case hf12 =>
                    intro w' hSw
                    obtain ⟨k0, k1, k2, k3, k4⟩ := hSw
                    go_simp
                    try with_reducible rfl
                  simp only [List.setIfInBounds_toArray, List.set_cons_zero, List.set_cons_succ]
                  refine hold_take (i := 13) (d := 50) (v := ?vf13) (listed' := #[true, true, true, true, true, true, true, true, true, true, true, true, true, true, false, false, false, false, false, false, false, false, false, false, false, false, false]) rfl (by kernel_rfl) (by kernel_rfl) (by kernel_rfl) rfl (by rfl) (by kernel_rfl) hS0 ?hf13 ?rf13
                  case hf13 =>
                    intro w' hSw
                    obtain ⟨k0, k1, k2, k3, k4⟩ := hSw
                    go_simp
                    try with_reducible rfl
                  simp only [List.setIfInBounds_toArray, List.set_cons_zero, List.set_cons_succ]
                  refine hold_take (i := 17) (d := 54) (v := ?vf17) (listed' := #[true, true, true, true, true, true, true, true, true, true, true, true, true, true, false, false, false, true, false, false, false, false, false, false, false, false, false]) rfl (by kernel_rfl) (by kernel_rfl) (by kernel_rfl) rfl (by rfl) (by kernel_rfl) hS0 ?hf17 ?rf17
                  case hf17 =>
                    intro w' hSw
                    obtain ⟨k0, k1, k2, k3, k4⟩ := hSw
                    go_simp
                    try with_reducible rfl
                  simp only [List.setIfInBounds_toArray, List.set_cons_zero, List.set_cons_succ]
                  refine hold_take (i := 18) (d := 55) (v := ?vf18) (listed' := #[true, true, true, true, true, true, true, true, true, true, true, true, true, true, false, false, false, true, true, false, false, false, false, false, false, false, false]) rfl (by kernel_rfl) (by kernel_rfl) (by kernel_rfl) rfl (by rfl) (by kernel_rfl) hS0 ?hf18 ?rf18
                  case hf18 =>
                    intro w' hSw
                    obtain ⟨k0, k1, k2, k3, k4⟩ := hSw
                    go_simp
                    try with_reducible rfl
                  simp only [List.setIfInBounds_toArray, List.set_cons_zero, List.set_cons_succ]
                  refine hold_take (i := 19) (d := 56) (v := ?vf19) (listed' := #[true, true, true, true, true, true, true, true, true, true, true, true, true, true, false, false, false, true, true, true, false, false, false, false, false, false, false]) rfl (by kernel_rfl) (by kernel_rfl) (by kernel_rfl) rfl (by rfl) (by kernel_rfl) hS0 ?hf19 ?rf19
                  case hf19 =>
                    intro w' hSw
                    obtain ⟨k0, k1, k2, k3, k4⟩ := hSw
                    go_simp
                    try with_reducible rfl
                  simp only [List.setIfInBounds_toArray, List.set_cons_zero, List.set_cons_succ]
                  refine hold_take (i := 20) (d := 57) (v := ?vf20) (listed' := #[true, true, true, true, true, true, true, true, true, true, true, true, true, true, false, false, false, true, true, true, true, false, false, false, false, false, false]) rfl (by kernel_rfl) (by kernel_rfl) (by kernel_rfl) rfl (by rfl) (by kernel_rfl) hS0 ?hf20 ?rf20
                  case hf20 =>
                    intro w' hSw
                    obtain ⟨k0, k1, k2, k3, k4⟩ := hSw
                    go_simp
                    try with_reducible rfl
                  simp only [List.setIfInBounds_toArray, List.set_cons_zero, List.set_cons_succ]
                  refine hold_take (i := 21) (d := 58) (v := ?vf21) (listed' := #[true, true, true, true, true, true, true, true, true, true, true, true, true, true, false, false, false, true, true, true, true, true, false, false, false, false, false]) rfl (by kernel_rfl) (by kernel_rfl) (by kernel_rfl) rfl (by rfl) (by kernel_rfl) hS0 ?hf21 ?rf21
                  case hf21 =>
                    intro w' hSw
                    obtain ⟨k0, k1, k2, k3, k4⟩ := hSw
                    go_simp
                    try with_reducible rfl
                  simp only [List.setIfInBounds_toArray, List.set_cons_zero, List.set_cons_succ]
                  refine hold_call (i := 14) (d := 51) (listed' := #[true, true, true, true, true, true, true, true, true, true, true, true, true, true, true, false, false, true, true, true, true, true, false, false, false, false, false]) rfl (by kernel_rfl) rfl (by rfl) (by kernel_rfl) ?hef14 (meetW8 hmat.out HO.out hlt hbn) ?hcf14
                  case hef14 => go_simp
                  rintro e xq ⟨rfl, hx⟩
                  subst hx
                  refine ⟨_, rfl, hS0, ?_⟩
                  simp only [List.setIfInBounds_toArray, List.set_cons_zero, List.set_cons_succ]
                  refine hold_take (i := 15) (d := 52) (v := ?vf15) (listed' := #[true, true, true, true, true, true, true, true, true, true, true, true, true, true, true, true, false, true, true, true, true, true, false, false, false, false, false]) rfl (by kernel_rfl) (by kernel_rfl) (by kernel_rfl) rfl (by rfl) (by kernel_rfl) hS0 ?hf15 ?rf15
                  case hf15 =>
                    intro w' hSw
                    obtain ⟨k0, k1, k2, k3, k4⟩ := hSw
                    go_simp
                    try with_reducible rfl
                  simp only [List.setIfInBounds_toArray, List.set_cons_zero, List.set_cons_succ]
                  refine hold_take (i := 16) (d := 53) (v := ?vf16) (listed' := #[true, true, true, true, true, true, true, true, true, true, true, true, true, true, true, true, true, true, true, true, true, true, false, false, false, false, false]) rfl (by kernel_rfl) (by kernel_rfl) (by kernel_rfl) rfl (by rfl) (by kernel_rfl) hS0 ?hf16 ?rf16
                  case hf16 =>
                    intro w' hSw
                    obtain ⟨k0, k1, k2, k3, k4⟩ := hSw
                    go_simp
                    try with_reducible rfl
                  simp only [List.setIfInBounds_toArray, List.set_cons_zero, List.set_cons_succ]
                  refine hold_call (i := 22) (d := 59) (listed' := #[true, true, true, true, true, true, true, true, true, true, true, true, true, true, true, true, true, true, true, true, true, true, true, false, false, false, false]) rfl (by kernel_rfl) rfl (by rfl) (by kernel_rfl) ?hef22 (joinW8 hmat.out HO.out hlt hbn) ?hcf22
                  case hef22 => go_simp
                  rintro e xq ⟨rfl, hx⟩
                  subst hx
                  refine ⟨_, rfl, hS0, ?_⟩
                  simp only [List.setIfInBounds_toArray, List.set_cons_zero, List.set_cons_succ]
                  refine hold_take (i := 23) (d := 60) (v := ?vf23) (listed' := #[true, true, true, true, true, true, true, true, true, true, true, true, true, true, true, true, true, true, true, true, true, true, true, true, false, false, false]) rfl (by kernel_rfl) (by kernel_rfl) (by kernel_rfl) rfl (by rfl) (by kernel_rfl) hS0 ?hf23 ?rf23
                  case hf23 =>
                    intro w' hSw
                    obtain ⟨k0, k1, k2, k3, k4⟩ := hSw
                    go_simp
                    try with_reducible rfl
                  simp only [List.setIfInBounds_toArray, List.set_cons_zero, List.set_cons_succ]
                  refine hold_take (i := 24) (d := 61) (v := ?vf24) (listed' := #[true, true, true, true, true, true, true, true, true, true, true, true, true, true, true, true, true, true, true, true, true, true, true, true, true, false, false]) rfl (by kernel_rfl) (by kernel_rfl) (by kernel_rfl) rfl (by rfl) (by kernel_rfl) hS0 ?hf24 ?rf24
                  case hf24 =>
                    intro w' hSw
                    obtain ⟨k0, k1, k2, k3, k4⟩ := hSw
                    go_simp
                    try with_reducible rfl
                  simp only [List.setIfInBounds_toArray, List.set_cons_zero, List.set_cons_succ]
                  refine hold_take (i := 25) (d := 62) (v := .int .i64 ((km + kj : Nat) : Int)) (listed' := #[true, true, true, true, true, true, true, true, true, true, true, true, true, true, true, true, true, true, true, true, true, true, true, true, true, true, false]) rfl (by kernel_rfl) (by kernel_rfl) (by kernel_rfl) rfl (by rfl) (by kernel_rfl) hS0 ?hf25 ?rf25
                  case hf25 =>
                    intro w' hSw
                    obtain ⟨k0, k1, k2, k3, k4⟩ := hSw
                    go_simp
                    simp only [S2.out]
                  simp only [List.setIfInBounds_toArray, List.set_cons_zero, List.set_cons_succ]
                  refine hold_take (i := 26) (d := 63) (v := ?vf26) (listed' := #[true, true, true, true, true, true, true, true, true, true, true, true, true, true, true, true, true, true, true, true, true, true, true, true, true, true, true]) rfl (by kernel_rfl) (by kernel_rfl) (by kernel_rfl) rfl (by rfl) (by kernel_rfl) hS0 ?hf26 ?rf26
                  case hf26 =>
                    intro w' hSw
                    obtain ⟨k0, k1, k2, k3, k4⟩ := hSw
                    go_simp
                    try with_reducible rfl
                  simp only [List.setIfInBounds_toArray, List.set_cons_zero, List.set_cons_succ]
                  refine hold_done (by kernel_rfl) ?_ _
                  go_wp2_with fail
                  go_ret
                  exact ⟨ret_bool HP.out.symm, hX3.below.trans (hDw.mono hX3.below.size)⟩
              · have hba' : ¬ (b : Int) < (a : Int) := by omega
                go_wp2_with fail
                go_roundw
                case rel => exact ⟨a + 1, by omega, by go_num, hDab, fun c hc => by
                  by_cases e : c = a
                  · subst e; exact allB_true fun d hd => hRb.out d (by omega)
                  · exact hRa.out c (by omega)⟩
                case measure => simp [intOf]; omega
          · have hlta : ¬ (a : Int) < m.n := by omega
            have HP : Hid (addsV m m.n z = true) := by
              show _ = _
              unfold addsV
              rw [HL.out, show addsB m = true from allB_true fun c hc => hRa.out c (by omega)]; rfl
            go_wp2_with fail
            go_ret
            exact ⟨ret_bool HP.out.symm, hX3.below.trans ((hD.trans (hDa.mono hD.size)).mono hX3.below.size)⟩

end Go.Proofs.Ytanhogaekdcooaa
