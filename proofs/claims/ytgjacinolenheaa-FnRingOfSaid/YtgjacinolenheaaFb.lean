/- The walk of the program's iterator over a plan's rows. -/
import Derived.Test.YtgjacinolenheaaFa
import Derived.Test.YtgjacinolenheaaOb
namespace Go.Proofs.Ytgjacinolenheaa
open Go.RowKit Go.Deep Go.Shelf

attribute [local go_sem] Oper.semAt_some

/-- A function value of two numbers, as the walk meets it: wherever what lay in w lies unturned it answers so, and makes memory alone. -/
structure Fun2At (w : World) (g : Nat) (f c : Array Value) (N : Nat) (b : Nat → Nat → Bool) : Prop where
  enters : ∀ args w, (callFunc g args).run Try.prog w = .ok (.enter g args) w
  gives : ∀ (W : World) (x y : Nat), Below w.heap.size w W → x < N → y < N → Calls Try.prog g (f ++ (#[.int .i64 (x : Int), .int .i64 (y : Int)] ++ c)) W fun e W' => e = .returned (.bool (b x y)) ∧ Below W.heap.size W W'
structure Fun1At (w : World) (g : Nat) (f c : Array Value) (N : Nat) (y : Nat → Nat) : Prop where
  enters : ∀ args w, (callFunc g args).run Try.prog w = .ok (.enter g args) w
  gives : ∀ (W : World) (x : Nat), Below w.heap.size w W → x < N → Calls Try.prog g (f ++ (#[.int .i64 (x : Int)] ++ c)) W fun e W' => e = .returned (.int .i64 (y x : Int)) ∧ Below W.heap.size W W'
def bitZ (b : Nat → Nat → Bool) (x y : Nat) : Int := if b x y = true then 1 else 0
theorem bitZ_rng (b : Nat → Nat → Bool) (x y : Nat) : 0 ≤ bitZ b x y ∧ bitZ b x y ≤ 2 := by
  unfold bitZ
  split <;> omega



set_option maxRecDepth 100000 in
set_option maxHeartbeats 2000000 in
theorem rows_gives {d N g : Nat} {f c : Array Value} {b : Nat → Nat → Bool} {wp w : World} {Bx : Nat} {S : Nat → Prop} (hd : 1 ≤ d) (h1 : 1 ≤ N) (hN : N ≤ 12) (h : Fun2At wp g f c N b) (hwp : Below wp.heap.size wp w) (hBx : Bx < w.heap.size)
    (c0 : w.cell? ⟨Bx, 0, none⟩ = some (.int .i64 (N : Int))) (c1 : w.cell? ⟨Bx, 1, none⟩ = some (.func (.func g) f c)) (hS : ¬ S Bx) (hSw : ∀ j, j < wp.heap.size → ¬ S j) :
    GivesRows Fence.wide d Try.prog 122 #[.pointer (some ⟨Bx, 0, none⟩)] N (bitZ b) S w := fun l J W hW hY h0 => by
  have cW0 : W.cell? ⟨Bx, 0, none⟩ = some (.int .i64 (N : Int)) := (hW.cell (p := ⟨Bx, 0, none⟩) hBx).trans c0
  have cW1 : W.cell? ⟨Bx, 1, none⟩ = some (.func (.func g) f c) := (hW.cell (p := ⟨Bx, 1, none⟩) hBx).trans c1
  have hwW : Below wp.heap.size wp W := hwp.trans (hW.mono hwp.size)
  have hBW : Bx < W.heap.size := by have := hW.size; omega
  have HY := Lib.hid hY
  have eg := h.enters
  have HG := Lib.hid h.gives
  have HS := Lib.hid hS
  have HSw := Lib.hid hSw
  clear c0 c1 hW hwp hBx hY h hS hSw
  refine callsIn_of_wp Try.func122 rfl trivial ?_ rfl
  simp only [Try.ntmps122, List.size_toArray, List.length_cons, List.length_nil, Nat.reduceAdd, Nat.reduceSub, Array.replicate_succ, Array.replicate_zero, List.push_toArray, List.append_toArray, List.nil_append, List.cons_append]
  gi_wp2
  gi_loopw [8] (fun i wr => ∃ (k : Nat) (A : World), k ≤ N ∧ i = .int .i64 k ∧ J k A ∧ Below A.heap.size A wr ∧ Below wp.heap.size wp wr ∧ wr.cell? ⟨Bx, 0, none⟩ = some (.int .i64 (N : Int)) ∧ wr.cell? ⟨Bx, 1, none⟩ = some (.func (.func g) f c) ∧ Bx < wr.heap.size)
    (fun i _ => N - (intOf i).toNat)
  case atStart => exact ⟨0, W, Nat.zero_le _, rfl, h0, Below.refl _ _, hwW, cW0, cW1, hBW⟩
  case round =>
    clear cW0 cW1 hwW hBW h0
    obtain ⟨k, A, hk, rfl, hJ, hA, hwr, k0, k1, hBr⟩ := hrel
    by_cases hlt : k < N
    · have hlt' : (k : Int) < N := by omega
      have hmk := run_make_row' (P := Try.prog) 25 3 (.int .i64 0) 8 Try.underlying25 infoInt rfl .i64 .i64 N (by omega) (by omega)
      have HJ := Lib.hid hJ
      clear hJ
      obtain ⟨wo, rfl⟩ : ∃ wo : World, wo = wr := ⟨_, rfl⟩
      have hrow := World.rowIs_made wo (.int .i64 0) N 3
      have hI0 : IntsAt (wo.alloc (.cells (madeCells #[.int .i64 0] N) 3)) wo.heap.size (rowV wo.heap.size N) N (fun _ => 0) := owns_of_rowIs hrow (Nat.le_refl _) (by omega)
      have hB0 : Below wo.heap.size wo (wo.alloc (.cells (madeCells #[.int .i64 0] N) 3)) := (Below.refl _ wo).alloc (Nat.le_refl _) _
      clear hrow
      gi_wp2
      clear hmk
      gi_loopw [16] (fun i wr => ∃ j : Nat, j ≤ N ∧ i = .int .i64 j ∧ IntsAt wr wo.heap.size (rowV wo.heap.size N) N (fun y => if y < j then bitZ b k y else 0) ∧ Below wo.heap.size wo wr) (fun i _ => N - (intOf i).toNat)
      case atStart => exact ⟨0, Nat.zero_le _, rfl, by simpa using hI0, hB0⟩
      case round =>
        clear hI0 hB0
        obtain ⟨j, hj, rfl, hI, hB⟩ := hrel
        have k0' : wr.cell? ⟨Bx, 0, none⟩ = some (.int .i64 (N : Int)) := (hB.cell (p := ⟨Bx, 0, none⟩) hBr).trans k0
        have k1' : wr.cell? ⟨Bx, 1, none⟩ = some (.func (.func g) f c) := (hB.cell (p := ⟨Bx, 1, none⟩) hBr).trans k1
        clear k0 k1
        by_cases hjt : j < N
        · have hjt' : (j : Int) < N := by omega
          have hwr' := hwr.trans (hB.mono hwr.size)
          have hcall := HG.out wr k j hwr' hlt hjt
          cases hb : b k j with
          | true =>
            rw [hb] at hcall
            have HB := Lib.hid hb
            clear hb
            gi_wp2
            refine ⟨trivial, (callsIn_wide.2 hcall).mono ?_⟩
            rintro e w2 ⟨rfl, h2⟩
            have hI2 := ownsRow_below hI h2 (Nat.le_refl _)
            have hB2 := hB.trans (h2.mono hB.size)
            have c3 := IntsAt.frozen hI2 j
            have c4 := IntsAt.cell hI2 hjt
            have hI3 := IntsAt.store hI2 j 1
            have hB3 := hB2.setCell (p := ⟨wo.heap.size, j, none⟩) (Nat.le_refl _) (.int .i64 1)
            have hI4 : Hid (IntsAt (w2.setCell ⟨wo.heap.size, j, none⟩ (.int .i64 1)) wo.heap.size (rowV wo.heap.size N) N (fun y => if y < j + 1 then bitZ b k y else 0)) := by
              have e : (fun y => if y = j then (1 : Int) else if y < j then bitZ b k y else 0) = fun y => if y < j + 1 then bitZ b k y else 0 := by
                funext y
                by_cases e1 : y = j
                · rw [if_pos e1, if_pos (by omega), e1]; unfold bitZ; rw [if_pos HB.out]
                · rw [if_neg e1]
                  by_cases e2 : y < j
                  · rw [if_pos e2, if_pos (by omega)]
                  · rw [if_neg e2, if_neg (by omega)]
              show IntsAt _ _ _ _ _
              rw [← e]
              exact hI3
            clear hI hI3
            gi_wp2
            go_roundw
            case rel => exact ⟨j + 1, by omega, by go_num, hI4.out, hB3⟩
            case measure => simp [intOf]; omega
          | false =>
            rw [hb] at hcall
            have HB := Lib.hid hb
            clear hb
            gi_wp2
            refine ⟨trivial, (callsIn_wide.2 hcall).mono ?_⟩
            rintro e w2 ⟨rfl, h2⟩
            have hI2 := ownsRow_below hI h2 (Nat.le_refl _)
            have hB2 := hB.trans (h2.mono hB.size)
            have hI4 : Hid (IntsAt w2 wo.heap.size (rowV wo.heap.size N) N (fun y => if y < j + 1 then bitZ b k y else 0)) := by
              have e : (fun y => if y < j then bitZ b k y else 0) = fun y => if y < j + 1 then bitZ b k y else 0 := by
                funext y
                by_cases e1 : y = j
                · rw [if_neg (by omega), if_pos (by omega), e1]; unfold bitZ; rw [HB.out]; rfl
                · by_cases e2 : y < j
                  · rw [if_pos e2, if_pos (by omega)]
                  · rw [if_neg e2, if_neg (by omega)]
              show IntsAt _ _ _ _ _
              rw [← e]
              exact hI2
            clear hI hI2
            gi_wp2
            go_roundw
            case rel => exact ⟨j + 1, by omega, by go_num, hI4.out, hB2⟩
            case measure => simp [intOf]; omega
        · have hjt' : ¬ (j : Int) < N := by omega
          have hjN : j = N := by omega
          have hrow : IntsAt wr A.heap.size (rowV wo.heap.size N) N (bitZ b k) := by
            refine ownsRow_base ?_ hA.size
            have e : (List.range N).map (fun y => Value.int .i64 (if y < j then bitZ b k y else 0)) = (List.range N).map fun y => .int .i64 (bitZ b k y) := map_congr_range fun i hi => by rw [if_pos (by omega)]
            have := hI
            unfold IntsAt at this
            rw [e] at this
            exact this
          obtain ⟨fn, tmps, assign, body, hy, hR⟩ := HY.out k wo.heap.size A wr hlt HJ.out (hA.trans (hB.mono hA.size)) hrow
          dsimp only [encR] at hy
          have hwr' := hwr.trans (hB.mono hwr.size)
          have hBr' : Bx < wr.heap.size := by have := hB.size; omega
          clear hI hrow hjN
          gi_wp2
          refine hR.mono ?_
          rintro e W3 ⟨rfl, hJ3, hk3⟩
          have HJ3 := Lib.hid hJ3
          have k0'' : W3.cell? ⟨Bx, 0, none⟩ = some (.int .i64 (N : Int)) := (World.cell?_of_block (a := ⟨Bx, 0, none⟩) (hk3.block Bx hBr' HS.out)).trans k0'
          have k1'' : W3.cell? ⟨Bx, 1, none⟩ = some (.func (.func g) f c) := (World.cell?_of_block (a := ⟨Bx, 1, none⟩) (hk3.block Bx hBr' HS.out)).trans k1'
          have hwr'' := hwr'.trans (hk3.below hwr'.size fun j hj => by
            rcases Nat.lt_or_ge j wp.heap.size with e | e
            · exact absurd hj (HSw.out j e)
            · exact e)
          have hBr'' : Bx < W3.heap.size := by have := hk3.size; omega
          clear hJ3 hk3 k0' k1'
          gi_wp2
          go_roundw
          case rel => exact ⟨k + 1, W3, by omega, by go_num, HJ3.out, Below.refl _ _, hwr'', k0'', k1'', hBr''⟩
          case measure => simp [intOf]; omega
    · have hlt' : ¬ (k : Int) < N := by omega
      have hkN : k = N := by omega
      have HJ : Hid (J N A) := by subst hkN; exact hJ
      clear hkN hJ
      gi_wp2
      go_end0
      exact ⟨⟨_, rfl⟩, A, HJ.out, hA⟩
end Go.Proofs.Ytgjacinolenheaa
