/- The laws on SetsOf and RingOf, walked at whatever code. -/
import Derived.Test.YtgjacinolenheaaIa
import Derived.Test.YtgjacinolenheaaRn
namespace Go.Proofs.Ytgjacinolenheaa
open Go.RowKit Go.Deep

theorem SetsOf_res {w : World} {t : Int} {N : Nat} {ok : Bool} (h1 : (if setsOkB t = true then 2 ^ t.toNat else 0) = N) (h2 : setsOkB t = ok) (h3 : ok = true → 2 ^ t.toNat = N) : Calls Try.prog 14 #[.int .i64 t] w fun e w' => ResL w N setsZ (setsY N) e ok w' := by
  subst h2
  subst h1
  refine SetsOf_any.mono fun e w' h => ?_
  have := h.res
  cases h4 : setsOkB t with
  | true => rw [h4] at this; exact this
  | false =>
    rw [h4] at this
    obtain ⟨ua, l, na, g, nc, h5, h6, h7⟩ := this
    exact ⟨ua, l, na, g, nc, h5, ⟨h6.mat, h6.row.congr (fun c hc => absurd hc (Nat.not_lt_zero _)), h6.ne, h6.nb, h6.bb, h6.bG, h6.bg, h6.hn, h6.hL, h6.hk, h6.hB⟩, h7⟩
theorem spec_SetsOf_res {w : World} {t : Int} {N : Nat} {ok : Bool} (h1 : (if setsOkB t = true then 2 ^ t.toNat else 0) = N) (h2 : setsOkB t = ok) : Calls Try.prog 15 #[.int .i64 t] w fun e w' => ResL w N setsZ (setsY N) e ok w' := by
  subst h2
  subst h1
  refine spec_SetsOf_any.mono fun e w' h => ?_
  have := h.res
  cases h4 : setsOkB t with
  | true => rw [h4] at this; exact this
  | false =>
    rw [h4] at this
    obtain ⟨ua, l, na, g, nc, h5, h6, h7⟩ := this
    exact ⟨ua, l, na, g, nc, h5, ⟨h6.mat, h6.row.congr (fun c hc => absurd hc (Nat.not_lt_zero _)), h6.ne, h6.nb, h6.bb, h6.bG, h6.bg, h6.hn, h6.hL, h6.hk, h6.hB⟩, h7⟩

set_option maxRecDepth 100000 in
set_option maxHeartbeats 4000000 in
theorem law_SetsOf {A : Option Addr} {b o n cap : Nat} {z : Nat → Nat} {w : World} (h : CodeAt w A b o n cap z) :
    Calls Try.prog 3 #[.slice A n cap] w fun e w' => e = .returned (.bool true) ∧ Below w.heap.size w w' := by
  have hn := h.hn
  have hc := h.hc
  by_cases hbig : 1048576 < n
  · have hbig' : (1048576 : Int) < n := by omega
    clear h
    go_enter Try.func3, Try.ntmps3
    go_wp2_with fail
    go_ret
    exact ⟨rfl, Below.refl _ _⟩
  · have hbig' : ¬ (1048576 : Int) < n := by omega
    go_enter Try.func3, Try.ntmps3
    go_wp2_with fail
    go_at_call 13
    refine (draw_SetsOf h).mono ?_
    rintro e w1 ⟨t, rfl, t0, t1, b1⟩
    clear h
    rcases (show t = -1 ∨ t = 0 ∨ t = 1 ∨ t = 2 ∨ t = 3 ∨ t = 4 by omega) with rfl | rfl | rfl | rfl | rfl | rfl
    · have hi := Lib.hid (fun w => SetsOf_res (w := w) (t := (-1)) (N := 0) (ok := false) (by decide) (by decide) (by decide))
      have hsp := Lib.hid (fun w => spec_SetsOf_res (w := w) (t := (-1)) (N := 0) (ok := false) (by decide) (by decide))
      clear t0 t1
      go_wp2_with fail
      go_at_call 14
      refine (hi.out _).mono ?_
      rintro e w2 ⟨ua, l, na, g, nc, rfl, hg2, b2⟩
      have y3 := TwoAt.new w2 (.slice ua 0 l.cap) (.slice na 0 nc) 27
      have bb := (Below.refl w2.heap.size w2).alloc (Nat.le_refl _) (.cells #[.slice ua 0 l.cap, .slice na 0 nc] 27)
      have G3 := Lib.hid (hg2.below bb (Nat.le_refl _))
      have B3 := (b1.trans (b2.mono b1.size)).trans (bb.mono (by have := b1.size; have := b2.size; omega))
      have s3 : (w2.alloc (.cells #[.slice ua 0 l.cap, .slice na 0 nc] 27)).heap.size = w2.heap.size + 1 := by simp
      clear hg2 bb
      go_wp2_with fail
      generalize w2.alloc (.cells #[.slice ua 0 l.cap, .slice na 0 nc] 27) = w3 at y3 G3 B3 s3 ⊢
      go_at_call 15
      refine (hsp.out _).mono ?_
      rintro e w4 ⟨ua', l', na', g', nc', rfl, hx4, b4⟩
      have X4 := Lib.hid hx4
      have bb := (Below.refl w4.heap.size w4).alloc (Nat.le_refl _) (.cells #[.slice ua' 0 l'.cap, .slice na' 0 nc'] 27)
      have y4 := (y3.below b4 (by omega)).below bb (by have := b4.size; omega)
      have G4 := Lib.hid ((G3.out.below b4 (by omega)).below bb (by have := b4.size; omega))
      have X5 := Lib.hid (X4.out.below bb (Nat.le_refl _))
      have B4 := (B3.trans (b4.mono B3.size)).trans (bb.mono (by have := B3.size; have := b4.size; omega))
      have s4 := b4.size
      have s5 : (w4.alloc (.cells #[.slice ua' 0 l'.cap, .slice na' 0 nc'] 27)).heap.size = w4.heap.size + 1 := by simp
      have x4 := TwoAt.new w4 (.slice ua' 0 l'.cap) (.slice na' 0 nc') 27
      have t0 := y4.c0
      have t1 := y4.c1
      clear hx4 bb y3
      go_wp2_with fail
      generalize w4.alloc (.cells #[.slice ua' 0 l'.cap, .slice na' 0 nc'] 27) = w5 at y4 G4 X5 B4 s5 t0 t1 x4 ⊢
      go_at_call 16
      refine (sameLogic_any G4.out.logAt X5.out.logAt).mono ?_
      rintro e w6 ⟨rfl, b6⟩
      have y6 := y4.below b6 (by omega)
      have G6 := Lib.hid (G4.out.below b6 (by omega))
      have B6 := B4.trans (b6.mono B4.size)
      have s6 := b6.size
      clear t0 t1 y4 x4
      have t0 := y6.c0
      have t1 := y6.c1
      go_wp2_with fail
      go_at_call 17
      refine noLogic_any.mono ?_
      rintro e w7 ⟨rfl, b7⟩
      have B7 := B6.trans (b7.mono B6.size)
      clear t0 t1 y6
      go_wp2_with fail
      go_at_call 18
      refine (alive_any _).mono ?_
      rintro e w8 ⟨rfl, b8⟩
      have B8 := B7.trans (b8.mono B7.size)
      go_wp2_with fail
      go_ret
      exact ⟨rfl, B8⟩
    · have hi := Lib.hid (fun w => SetsOf_res (w := w) (t := 0) (N := 1) (ok := true) (by decide) (by decide) (by decide))
      have hsp := Lib.hid (fun w => spec_SetsOf_res (w := w) (t := 0) (N := 1) (ok := true) (by decide) (by decide))
      clear t0 t1
      go_wp2_with fail
      go_at_call 14
      refine (hi.out _).mono ?_
      rintro e w2 ⟨ua, l, na, g, nc, rfl, hg2, b2⟩
      have y3 := TwoAt.new w2 (.slice ua 1 l.cap) (.slice na 1 nc) 27
      have bb := (Below.refl w2.heap.size w2).alloc (Nat.le_refl _) (.cells #[.slice ua 1 l.cap, .slice na 1 nc] 27)
      have G3 := Lib.hid (hg2.below bb (Nat.le_refl _))
      have B3 := (b1.trans (b2.mono b1.size)).trans (bb.mono (by have := b1.size; have := b2.size; omega))
      have s3 : (w2.alloc (.cells #[.slice ua 1 l.cap, .slice na 1 nc] 27)).heap.size = w2.heap.size + 1 := by simp
      clear hg2 bb
      go_wp2_with fail
      generalize w2.alloc (.cells #[.slice ua 1 l.cap, .slice na 1 nc] 27) = w3 at y3 G3 B3 s3 ⊢
      go_at_call 15
      refine (hsp.out _).mono ?_
      rintro e w4 ⟨ua', l', na', g', nc', rfl, hx4, b4⟩
      have X4 := Lib.hid hx4
      have bb := (Below.refl w4.heap.size w4).alloc (Nat.le_refl _) (.cells #[.slice ua' 1 l'.cap, .slice na' 1 nc'] 27)
      have y4 := (y3.below b4 (by omega)).below bb (by have := b4.size; omega)
      have G4 := Lib.hid ((G3.out.below b4 (by omega)).below bb (by have := b4.size; omega))
      have X5 := Lib.hid (X4.out.below bb (Nat.le_refl _))
      have B4 := (B3.trans (b4.mono B3.size)).trans (bb.mono (by have := B3.size; have := b4.size; omega))
      have s4 := b4.size
      have s5 : (w4.alloc (.cells #[.slice ua' 1 l'.cap, .slice na' 1 nc'] 27)).heap.size = w4.heap.size + 1 := by simp
      have x4 := TwoAt.new w4 (.slice ua' 1 l'.cap) (.slice na' 1 nc') 27
      have t0 := y4.c0
      have t1 := y4.c1
      clear hx4 bb y3
      go_wp2_with fail
      generalize w4.alloc (.cells #[.slice ua' 1 l'.cap, .slice na' 1 nc'] 27) = w5 at y4 G4 X5 B4 s5 t0 t1 x4 ⊢
      go_at_call 16
      refine (sameLogic_any G4.out.logAt X5.out.logAt).mono ?_
      rintro e w6 ⟨rfl, b6⟩
      have y6 := y4.below b6 (by omega)
      have G6 := Lib.hid (G4.out.below b6 (by omega))
      have B6 := B4.trans (b6.mono B4.size)
      have s6 := b6.size
      clear t0 t1 y4 x4
      have HLG := Lib.hid (LogicData.isB (sets_data 0 (by omega)) : logicB ⟨1, fun _ => 1, setsZ⟩ 1 (fun a => (setsY 1 a : Int)) = true)
      have HAT := Lib.hid (show (atomsV ⟨1, fun _ => 1, setsZ⟩).length = 0 by rw [LogicData.atoms (sets_data 0 (by omega) : LogicData 1 setsZ (setsY 1) 0)]; exact sets_atoms 0 (by omega))
      have t0 := y6.c0
      have t1 := y6.c1
      go_upto_region 10 with fail
      clear t0 t1
      have bd := (Below.refl w6.heap.size w6).drew
      replace y6 := y6.below bd (by omega)
      replace G6 := Lib.hid (G6.out.below bd (by omega))
      replace B6 := B6.trans (bd.mono B6.size)
      replace s6 : w5.heap.size ≤ w6.drew.heap.size := Nat.le_trans s6 bd.size
      clear bd
      have K0 := (show _ ∧ _ from ⟨y6.c0, y6.c1⟩)
      refine region_plain (fuel := 19) (listed := #[false, false, false, false, false, false, false, false, false, false, false, false, false, false, false, false, false, false, false]) (fun w' => w'.cell? ⟨w2.heap.size, 0, none⟩ = some (.slice ua 1 l.cap) ∧ w'.cell? ⟨w2.heap.size, 1, none⟩ = some (.slice na 1 nc)) (by kernel_rfl) (by kernel_rfl) (by kernel_rfl) ?_
      refine hold_take (i := 0) (d := 39) (v := ?vp00) (listed' := #[true, false, false, false, false, false, false, false, false, false, false, false, false, false, false, false, false, false, false]) rfl (by kernel_rfl) (by kernel_rfl) (by kernel_rfl) rfl (by rfl) (by kernel_rfl) K0 ?hp00 ?rp00
      case hp00 =>
        intro w' hSw
        obtain ⟨k0, k1⟩ := hSw
        go_simp
        try with_reducible rfl
      simp only [List.setIfInBounds_toArray, List.set_cons_zero, List.set_cons_succ]
      refine hold_call (i := 1) (d := 40) (listed' := #[true, true, false, false, false, false, false, false, false, false, false, false, false, false, false, false, false, false, false]) rfl (by kernel_rfl) rfl (by rfl) (by kernel_rfl) ?hep01 (LogicOk_any (m := ⟨1, fun _ => 1, setsZ⟩) (nc := nc) G6.out.logAt) ?hcp01
      case hep01 => go_simp
      rintro e w7 ⟨rfl, b7⟩
      rw [HLG.out]
      have y7 := y6.below b7 (by omega)
      have G7 := Lib.hid (G6.out.below b7 (by omega))
      have B7 := B6.trans (b7.mono B6.size)
      have s7 := b7.size
      have K1 := (show _ ∧ _ from ⟨y7.c0, y7.c1⟩)
      clear K0 y6 b7
      refine ⟨_, rfl, K1, ?_⟩
      simp only [List.setIfInBounds_toArray, List.set_cons_zero, List.set_cons_succ]
      refine hold_take (i := 2) (d := 41) (v := ?vp02) (listed' := #[true, true, true, false, false, false, false, false, false, false, false, false, false, false, false, false, false, false, false]) rfl (by kernel_rfl) (by kernel_rfl) (by kernel_rfl) rfl (by rfl) (by kernel_rfl) K1 ?hp02 ?rp02
      case hp02 =>
        intro w' hSw
        obtain ⟨k0, k1⟩ := hSw
        go_simp
        try with_reducible rfl
      simp only [List.setIfInBounds_toArray, List.set_cons_zero, List.set_cons_succ]
      refine hold_take (i := 3) (d := 42) (v := ?vp03) (listed' := #[true, true, true, true, false, false, false, false, false, false, false, false, false, false, false, false, false, false, false]) rfl (by kernel_rfl) (by kernel_rfl) (by kernel_rfl) rfl (by rfl) (by kernel_rfl) K1 ?hp03 ?rp03
      case hp03 =>
        intro w' hSw
        obtain ⟨k0, k1⟩ := hSw
        go_simp
        try with_reducible rfl
      simp only [List.setIfInBounds_toArray, List.set_cons_zero, List.set_cons_succ]
      refine hold_take (i := 4) (d := 43) (v := ?vp04) (listed' := #[true, true, true, true, true, false, false, false, false, false, false, false, false, false, false, false, false, false, false]) rfl (by kernel_rfl) (by kernel_rfl) (by kernel_rfl) rfl (by rfl) (by kernel_rfl) K1 ?hp04 ?rp04
      case hp04 =>
        intro w' hSw
        obtain ⟨k0, k1⟩ := hSw
        go_simp
        try with_reducible rfl
      simp only [List.setIfInBounds_toArray, List.set_cons_zero, List.set_cons_succ]
      refine hold_take (i := 7) (d := 46) (v := ?vp07) (listed' := #[true, true, true, true, true, false, false, true, false, false, false, false, false, false, false, false, false, false, false]) rfl (by kernel_rfl) (by kernel_rfl) (by kernel_rfl) rfl (by rfl) (by kernel_rfl) K1 ?hp07 ?rp07
      case hp07 =>
        intro w' hSw
        obtain ⟨k0, k1⟩ := hSw
        go_simp
        try with_reducible rfl
      simp only [List.setIfInBounds_toArray, List.set_cons_zero, List.set_cons_succ]
      refine hold_call (i := 5) (d := 44) (listed' := #[true, true, true, true, true, true, false, true, false, false, false, false, false, false, false, false, false, false, false]) rfl (by kernel_rfl) rfl (by rfl) (by kernel_rfl) ?hep05 (AtomsOf_len (m := ⟨1, fun _ => 1, setsZ⟩) (k := 0) G7.out.logAt.hn G7.out.logAt.hL G7.out.logAt.mat G7.out.hB HAT.out) ?hcp05
      case hep05 => go_simp
      rintro e w8 ⟨aa, ca, rfl, b8⟩
      have y8 := y7.below b8 (by omega)
      have B8 := B7.trans (b8.mono B7.size)
      have K2 := (show _ ∧ _ from ⟨y8.c0, y8.c1⟩)
      clear K1 y7 b8
      refine ⟨_, rfl, K2, ?_⟩
      simp only [List.setIfInBounds_toArray, List.set_cons_zero, List.set_cons_succ]
      refine hold_take (i := 6) (d := 45) (v := ?vp06) (listed' := #[true, true, true, true, true, true, true, true, false, false, false, false, false, false, false, false, false, false, false]) rfl (by kernel_rfl) (by kernel_rfl) (by kernel_rfl) rfl (by rfl) (by kernel_rfl) K2 ?hp06 ?rp06
      case hp06 =>
        intro w' hSw
        obtain ⟨k0, k1⟩ := hSw
        go_simp
        try with_reducible rfl
      simp only [List.setIfInBounds_toArray, List.set_cons_zero, List.set_cons_succ]
      refine hold_take (i := 8) (d := 47) (v := ?vp08) (listed' := #[true, true, true, true, true, true, true, true, true, false, false, false, false, false, false, false, false, false, false]) rfl (by kernel_rfl) (by kernel_rfl) (by kernel_rfl) rfl (by rfl) (by kernel_rfl) K2 ?hp08 ?rp08
      case hp08 =>
        intro w' hSw
        obtain ⟨k0, k1⟩ := hSw
        go_simp
        try with_reducible rfl
      simp only [List.setIfInBounds_toArray, List.set_cons_zero, List.set_cons_succ]
      refine hold_take (i := 9) (d := 48) (v := ?vp09) (listed' := #[true, true, true, true, true, true, true, true, true, true, false, false, false, false, false, false, false, false, false]) rfl (by kernel_rfl) (by kernel_rfl) (by kernel_rfl) rfl (by rfl) (by kernel_rfl) K2 ?hp09 ?rp09
      case hp09 =>
        intro w' hSw
        obtain ⟨k0, k1⟩ := hSw
        go_simp
        try with_reducible rfl
      simp only [List.setIfInBounds_toArray, List.set_cons_zero, List.set_cons_succ]
      refine hold_take (i := 10) (d := 49) (v := ?vp010) (listed' := #[true, true, true, true, true, true, true, true, true, true, true, false, false, false, false, false, false, false, false]) rfl (by kernel_rfl) (by kernel_rfl) (by kernel_rfl) rfl (by rfl) (by kernel_rfl) K2 ?hp010 ?rp010
      case hp010 =>
        intro w' hSw
        obtain ⟨k0, k1⟩ := hSw
        go_simp
        try with_reducible rfl
      simp only [List.setIfInBounds_toArray, List.set_cons_zero, List.set_cons_succ]
      refine hold_take (i := 11) (d := 50) (v := ?vp011) (listed' := #[true, true, true, true, true, true, true, true, true, true, true, true, false, false, false, false, false, false, false]) rfl (by kernel_rfl) (by kernel_rfl) (by kernel_rfl) rfl (by rfl) (by kernel_rfl) K2 ?hp011 ?rp011
      case hp011 =>
        intro w' hSw
        obtain ⟨k0, k1⟩ := hSw
        go_simp
        try with_reducible rfl
      simp only [List.setIfInBounds_toArray, List.set_cons_zero, List.set_cons_succ]
      refine hold_take (i := 12) (d := 51) (v := ?vp012) (listed' := #[true, true, true, true, true, true, true, true, true, true, true, true, true, false, false, false, false, false, false]) rfl (by kernel_rfl) (by kernel_rfl) (by kernel_rfl) rfl (by rfl) (by kernel_rfl) K2 ?hp012 ?rp012
      case hp012 =>
        intro w' hSw
        obtain ⟨k0, k1⟩ := hSw
        go_simp
        try with_reducible rfl
      simp only [List.setIfInBounds_toArray, List.set_cons_zero, List.set_cons_succ]
      refine hold_take (i := 13) (d := 52) (v := ?vp013) (listed' := #[true, true, true, true, true, true, true, true, true, true, true, true, true, true, false, false, false, false, false]) rfl (by kernel_rfl) (by kernel_rfl) (by kernel_rfl) rfl (by rfl) (by kernel_rfl) K2 ?hp013 ?rp013
      case hp013 =>
        intro w' hSw
        obtain ⟨k0, k1⟩ := hSw
        go_simp
        try with_reducible rfl
      simp only [List.setIfInBounds_toArray, List.set_cons_zero, List.set_cons_succ]
      refine hold_take (i := 14) (d := 53) (v := ?vp014) (listed' := #[true, true, true, true, true, true, true, true, true, true, true, true, true, true, true, false, false, false, false]) rfl (by kernel_rfl) (by kernel_rfl) (by kernel_rfl) rfl (by rfl) (by kernel_rfl) K2 ?hp014 ?rp014
      case hp014 =>
        intro w' hSw
        obtain ⟨k0, k1⟩ := hSw
        go_simp
        try with_reducible rfl
      simp only [List.setIfInBounds_toArray, List.set_cons_zero, List.set_cons_succ]
      refine hold_take (i := 15) (d := 54) (v := ?vp015) (listed' := #[true, true, true, true, true, true, true, true, true, true, true, true, true, true, true, true, false, false, false]) rfl (by kernel_rfl) (by kernel_rfl) (by kernel_rfl) rfl (by rfl) (by kernel_rfl) K2 ?hp015 ?rp015
      case hp015 =>
        intro w' hSw
        obtain ⟨k0, k1⟩ := hSw
        go_simp
        try with_reducible rfl
      simp only [List.setIfInBounds_toArray, List.set_cons_zero, List.set_cons_succ]
      refine hold_take (i := 16) (d := 55) (v := ?vp016) (listed' := #[true, true, true, true, true, true, true, true, true, true, true, true, true, true, true, true, true, false, false]) rfl (by kernel_rfl) (by kernel_rfl) (by kernel_rfl) rfl (by rfl) (by kernel_rfl) K2 ?hp016 ?rp016
      case hp016 =>
        intro w' hSw
        obtain ⟨k0, k1⟩ := hSw
        go_simp
        try with_reducible rfl
      simp only [List.setIfInBounds_toArray, List.set_cons_zero, List.set_cons_succ]
      refine hold_take (i := 17) (d := 56) (v := ?vp017) (listed' := #[true, true, true, true, true, true, true, true, true, true, true, true, true, true, true, true, true, true, false]) rfl (by kernel_rfl) (by kernel_rfl) (by kernel_rfl) rfl (by rfl) (by kernel_rfl) K2 ?hp017 ?rp017
      case hp017 =>
        intro w' hSw
        obtain ⟨k0, k1⟩ := hSw
        go_simp
        try with_reducible rfl
      simp only [List.setIfInBounds_toArray, List.set_cons_zero, List.set_cons_succ]
      refine hold_take (i := 18) (d := 2) (v := ?vp018) (listed' := #[true, true, true, true, true, true, true, true, true, true, true, true, true, true, true, true, true, true, true]) rfl (by kernel_rfl) (by kernel_rfl) (by kernel_rfl) rfl (by rfl) (by kernel_rfl) K2 ?hp018 ?rp018
      case hp018 =>
        intro w' hSw
        obtain ⟨k0, k1⟩ := hSw
        go_simp
        try with_reducible rfl
      simp only [List.setIfInBounds_toArray, List.set_cons_zero, List.set_cons_succ]
      refine hold_done (by kernel_rfl) ?_ _
      clear K2 y8
      go_wp2_with fail
      go_ret
      exact ⟨rfl, B8⟩
    · have hi := Lib.hid (fun w => SetsOf_res (w := w) (t := 1) (N := 2) (ok := true) (by decide) (by decide) (by decide))
      have hsp := Lib.hid (fun w => spec_SetsOf_res (w := w) (t := 1) (N := 2) (ok := true) (by decide) (by decide))
      clear t0 t1
      go_wp2_with fail
      go_at_call 14
      refine (hi.out _).mono ?_
      rintro e w2 ⟨ua, l, na, g, nc, rfl, hg2, b2⟩
      have y3 := TwoAt.new w2 (.slice ua 2 l.cap) (.slice na 2 nc) 27
      have bb := (Below.refl w2.heap.size w2).alloc (Nat.le_refl _) (.cells #[.slice ua 2 l.cap, .slice na 2 nc] 27)
      have G3 := Lib.hid (hg2.below bb (Nat.le_refl _))
      have B3 := (b1.trans (b2.mono b1.size)).trans (bb.mono (by have := b1.size; have := b2.size; omega))
      have s3 : (w2.alloc (.cells #[.slice ua 2 l.cap, .slice na 2 nc] 27)).heap.size = w2.heap.size + 1 := by simp
      clear hg2 bb
      go_wp2_with fail
      generalize w2.alloc (.cells #[.slice ua 2 l.cap, .slice na 2 nc] 27) = w3 at y3 G3 B3 s3 ⊢
      go_at_call 15
      refine (hsp.out _).mono ?_
      rintro e w4 ⟨ua', l', na', g', nc', rfl, hx4, b4⟩
      have X4 := Lib.hid hx4
      have bb := (Below.refl w4.heap.size w4).alloc (Nat.le_refl _) (.cells #[.slice ua' 2 l'.cap, .slice na' 2 nc'] 27)
      have y4 := (y3.below b4 (by omega)).below bb (by have := b4.size; omega)
      have G4 := Lib.hid ((G3.out.below b4 (by omega)).below bb (by have := b4.size; omega))
      have X5 := Lib.hid (X4.out.below bb (Nat.le_refl _))
      have B4 := (B3.trans (b4.mono B3.size)).trans (bb.mono (by have := B3.size; have := b4.size; omega))
      have s4 := b4.size
      have s5 : (w4.alloc (.cells #[.slice ua' 2 l'.cap, .slice na' 2 nc'] 27)).heap.size = w4.heap.size + 1 := by simp
      have x4 := TwoAt.new w4 (.slice ua' 2 l'.cap) (.slice na' 2 nc') 27
      have t0 := y4.c0
      have t1 := y4.c1
      clear hx4 bb y3
      go_wp2_with fail
      generalize w4.alloc (.cells #[.slice ua' 2 l'.cap, .slice na' 2 nc'] 27) = w5 at y4 G4 X5 B4 s5 t0 t1 x4 ⊢
      go_at_call 16
      refine (sameLogic_any G4.out.logAt X5.out.logAt).mono ?_
      rintro e w6 ⟨rfl, b6⟩
      have y6 := y4.below b6 (by omega)
      have G6 := Lib.hid (G4.out.below b6 (by omega))
      have B6 := B4.trans (b6.mono B4.size)
      have s6 := b6.size
      clear t0 t1 y4 x4
      have HLG := Lib.hid (LogicData.isB (sets_data 1 (by omega)) : logicB ⟨2, fun _ => 2, setsZ⟩ 2 (fun a => (setsY 2 a : Int)) = true)
      have HAT := Lib.hid (show (atomsV ⟨2, fun _ => 2, setsZ⟩).length = 1 by rw [LogicData.atoms (sets_data 1 (by omega) : LogicData 2 setsZ (setsY 2) 0)]; exact sets_atoms 1 (by omega))
      have t0 := y6.c0
      have t1 := y6.c1
      go_upto_region 10 with fail
      clear t0 t1
      have bd := (Below.refl w6.heap.size w6).drew
      replace y6 := y6.below bd (by omega)
      replace G6 := Lib.hid (G6.out.below bd (by omega))
      replace B6 := B6.trans (bd.mono B6.size)
      replace s6 : w5.heap.size ≤ w6.drew.heap.size := Nat.le_trans s6 bd.size
      clear bd
      have K0 := (show _ ∧ _ from ⟨y6.c0, y6.c1⟩)
      refine region_plain (fuel := 19) (listed := #[false, false, false, false, false, false, false, false, false, false, false, false, false, false, false, false, false, false, false]) (fun w' => w'.cell? ⟨w2.heap.size, 0, none⟩ = some (.slice ua 2 l.cap) ∧ w'.cell? ⟨w2.heap.size, 1, none⟩ = some (.slice na 2 nc)) (by kernel_rfl) (by kernel_rfl) (by kernel_rfl) ?_
      refine hold_take (i := 0) (d := 39) (v := ?vp10) (listed' := #[true, false, false, false, false, false, false, false, false, false, false, false, false, false, false, false, false, false, false]) rfl (by kernel_rfl) (by kernel_rfl) (by kernel_rfl) rfl (by rfl) (by kernel_rfl) K0 ?hp10 ?rp10
      case hp10 =>
        intro w' hSw
        obtain ⟨k0, k1⟩ := hSw
        go_simp
        try with_reducible rfl
      simp only [List.setIfInBounds_toArray, List.set_cons_zero, List.set_cons_succ]
      refine hold_call (i := 1) (d := 40) (listed' := #[true, true, false, false, false, false, false, false, false, false, false, false, false, false, false, false, false, false, false]) rfl (by kernel_rfl) rfl (by rfl) (by kernel_rfl) ?hep11 (LogicOk_any (m := ⟨2, fun _ => 2, setsZ⟩) (nc := nc) G6.out.logAt) ?hcp11
      case hep11 => go_simp
      rintro e w7 ⟨rfl, b7⟩
      rw [HLG.out]
      have y7 := y6.below b7 (by omega)
      have G7 := Lib.hid (G6.out.below b7 (by omega))
      have B7 := B6.trans (b7.mono B6.size)
      have s7 := b7.size
      have K1 := (show _ ∧ _ from ⟨y7.c0, y7.c1⟩)
      clear K0 y6 b7
      refine ⟨_, rfl, K1, ?_⟩
      simp only [List.setIfInBounds_toArray, List.set_cons_zero, List.set_cons_succ]
      refine hold_take (i := 2) (d := 41) (v := ?vp12) (listed' := #[true, true, true, false, false, false, false, false, false, false, false, false, false, false, false, false, false, false, false]) rfl (by kernel_rfl) (by kernel_rfl) (by kernel_rfl) rfl (by rfl) (by kernel_rfl) K1 ?hp12 ?rp12
      case hp12 =>
        intro w' hSw
        obtain ⟨k0, k1⟩ := hSw
        go_simp
        try with_reducible rfl
      simp only [List.setIfInBounds_toArray, List.set_cons_zero, List.set_cons_succ]
      refine hold_take (i := 3) (d := 42) (v := ?vp13) (listed' := #[true, true, true, true, false, false, false, false, false, false, false, false, false, false, false, false, false, false, false]) rfl (by kernel_rfl) (by kernel_rfl) (by kernel_rfl) rfl (by rfl) (by kernel_rfl) K1 ?hp13 ?rp13
      case hp13 =>
        intro w' hSw
        obtain ⟨k0, k1⟩ := hSw
        go_simp
        try with_reducible rfl
      simp only [List.setIfInBounds_toArray, List.set_cons_zero, List.set_cons_succ]
      refine hold_take (i := 4) (d := 43) (v := ?vp14) (listed' := #[true, true, true, true, true, false, false, false, false, false, false, false, false, false, false, false, false, false, false]) rfl (by kernel_rfl) (by kernel_rfl) (by kernel_rfl) rfl (by rfl) (by kernel_rfl) K1 ?hp14 ?rp14
      case hp14 =>
        intro w' hSw
        obtain ⟨k0, k1⟩ := hSw
        go_simp
        try with_reducible rfl
      simp only [List.setIfInBounds_toArray, List.set_cons_zero, List.set_cons_succ]
      refine hold_take (i := 7) (d := 46) (v := ?vp17) (listed' := #[true, true, true, true, true, false, false, true, false, false, false, false, false, false, false, false, false, false, false]) rfl (by kernel_rfl) (by kernel_rfl) (by kernel_rfl) rfl (by rfl) (by kernel_rfl) K1 ?hp17 ?rp17
      case hp17 =>
        intro w' hSw
        obtain ⟨k0, k1⟩ := hSw
        go_simp
        try with_reducible rfl
      simp only [List.setIfInBounds_toArray, List.set_cons_zero, List.set_cons_succ]
      refine hold_call (i := 5) (d := 44) (listed' := #[true, true, true, true, true, true, false, true, false, false, false, false, false, false, false, false, false, false, false]) rfl (by kernel_rfl) rfl (by rfl) (by kernel_rfl) ?hep15 (AtomsOf_len (m := ⟨2, fun _ => 2, setsZ⟩) (k := 1) G7.out.logAt.hn G7.out.logAt.hL G7.out.logAt.mat G7.out.hB HAT.out) ?hcp15
      case hep15 => go_simp
      rintro e w8 ⟨aa, ca, rfl, b8⟩
      have y8 := y7.below b8 (by omega)
      have B8 := B7.trans (b8.mono B7.size)
      have K2 := (show _ ∧ _ from ⟨y8.c0, y8.c1⟩)
      clear K1 y7 b8
      refine ⟨_, rfl, K2, ?_⟩
      simp only [List.setIfInBounds_toArray, List.set_cons_zero, List.set_cons_succ]
      refine hold_take (i := 6) (d := 45) (v := ?vp16) (listed' := #[true, true, true, true, true, true, true, true, false, false, false, false, false, false, false, false, false, false, false]) rfl (by kernel_rfl) (by kernel_rfl) (by kernel_rfl) rfl (by rfl) (by kernel_rfl) K2 ?hp16 ?rp16
      case hp16 =>
        intro w' hSw
        obtain ⟨k0, k1⟩ := hSw
        go_simp
        try with_reducible rfl
      simp only [List.setIfInBounds_toArray, List.set_cons_zero, List.set_cons_succ]
      refine hold_take (i := 8) (d := 47) (v := ?vp18) (listed' := #[true, true, true, true, true, true, true, true, true, false, false, false, false, false, false, false, false, false, false]) rfl (by kernel_rfl) (by kernel_rfl) (by kernel_rfl) rfl (by rfl) (by kernel_rfl) K2 ?hp18 ?rp18
      case hp18 =>
        intro w' hSw
        obtain ⟨k0, k1⟩ := hSw
        go_simp
        try with_reducible rfl
      simp only [List.setIfInBounds_toArray, List.set_cons_zero, List.set_cons_succ]
      refine hold_take (i := 9) (d := 48) (v := ?vp19) (listed' := #[true, true, true, true, true, true, true, true, true, true, false, false, false, false, false, false, false, false, false]) rfl (by kernel_rfl) (by kernel_rfl) (by kernel_rfl) rfl (by rfl) (by kernel_rfl) K2 ?hp19 ?rp19
      case hp19 =>
        intro w' hSw
        obtain ⟨k0, k1⟩ := hSw
        go_simp
        try with_reducible rfl
      simp only [List.setIfInBounds_toArray, List.set_cons_zero, List.set_cons_succ]
      refine hold_take (i := 10) (d := 49) (v := ?vp110) (listed' := #[true, true, true, true, true, true, true, true, true, true, true, false, false, false, false, false, false, false, false]) rfl (by kernel_rfl) (by kernel_rfl) (by kernel_rfl) rfl (by rfl) (by kernel_rfl) K2 ?hp110 ?rp110
      case hp110 =>
        intro w' hSw
        obtain ⟨k0, k1⟩ := hSw
        go_simp
        try with_reducible rfl
      simp only [List.setIfInBounds_toArray, List.set_cons_zero, List.set_cons_succ]
      refine hold_take (i := 11) (d := 50) (v := ?vp111) (listed' := #[true, true, true, true, true, true, true, true, true, true, true, true, false, false, false, false, false, false, false]) rfl (by kernel_rfl) (by kernel_rfl) (by kernel_rfl) rfl (by rfl) (by kernel_rfl) K2 ?hp111 ?rp111
      case hp111 =>
        intro w' hSw
        obtain ⟨k0, k1⟩ := hSw
        go_simp
        try with_reducible rfl
      simp only [List.setIfInBounds_toArray, List.set_cons_zero, List.set_cons_succ]
      refine hold_take (i := 12) (d := 51) (v := ?vp112) (listed' := #[true, true, true, true, true, true, true, true, true, true, true, true, true, false, false, false, false, false, false]) rfl (by kernel_rfl) (by kernel_rfl) (by kernel_rfl) rfl (by rfl) (by kernel_rfl) K2 ?hp112 ?rp112
      case hp112 =>
        intro w' hSw
        obtain ⟨k0, k1⟩ := hSw
        go_simp
        try with_reducible rfl
      simp only [List.setIfInBounds_toArray, List.set_cons_zero, List.set_cons_succ]
      refine hold_take (i := 13) (d := 52) (v := ?vp113) (listed' := #[true, true, true, true, true, true, true, true, true, true, true, true, true, true, false, false, false, false, false]) rfl (by kernel_rfl) (by kernel_rfl) (by kernel_rfl) rfl (by rfl) (by kernel_rfl) K2 ?hp113 ?rp113
      case hp113 =>
        intro w' hSw
        obtain ⟨k0, k1⟩ := hSw
        go_simp
        try with_reducible rfl
      simp only [List.setIfInBounds_toArray, List.set_cons_zero, List.set_cons_succ]
      refine hold_take (i := 14) (d := 53) (v := ?vp114) (listed' := #[true, true, true, true, true, true, true, true, true, true, true, true, true, true, true, false, false, false, false]) rfl (by kernel_rfl) (by kernel_rfl) (by kernel_rfl) rfl (by rfl) (by kernel_rfl) K2 ?hp114 ?rp114
      case hp114 =>
        intro w' hSw
        obtain ⟨k0, k1⟩ := hSw
        go_simp
        try with_reducible rfl
      simp only [List.setIfInBounds_toArray, List.set_cons_zero, List.set_cons_succ]
      refine hold_take (i := 15) (d := 54) (v := ?vp115) (listed' := #[true, true, true, true, true, true, true, true, true, true, true, true, true, true, true, true, false, false, false]) rfl (by kernel_rfl) (by kernel_rfl) (by kernel_rfl) rfl (by rfl) (by kernel_rfl) K2 ?hp115 ?rp115
      case hp115 =>
        intro w' hSw
        obtain ⟨k0, k1⟩ := hSw
        go_simp
        try with_reducible rfl
      simp only [List.setIfInBounds_toArray, List.set_cons_zero, List.set_cons_succ]
      refine hold_take (i := 16) (d := 55) (v := ?vp116) (listed' := #[true, true, true, true, true, true, true, true, true, true, true, true, true, true, true, true, true, false, false]) rfl (by kernel_rfl) (by kernel_rfl) (by kernel_rfl) rfl (by rfl) (by kernel_rfl) K2 ?hp116 ?rp116
      case hp116 =>
        intro w' hSw
        obtain ⟨k0, k1⟩ := hSw
        go_simp
        try with_reducible rfl
      simp only [List.setIfInBounds_toArray, List.set_cons_zero, List.set_cons_succ]
      refine hold_take (i := 17) (d := 56) (v := ?vp117) (listed' := #[true, true, true, true, true, true, true, true, true, true, true, true, true, true, true, true, true, true, false]) rfl (by kernel_rfl) (by kernel_rfl) (by kernel_rfl) rfl (by rfl) (by kernel_rfl) K2 ?hp117 ?rp117
      case hp117 =>
        intro w' hSw
        obtain ⟨k0, k1⟩ := hSw
        go_simp
        try with_reducible rfl
      simp only [List.setIfInBounds_toArray, List.set_cons_zero, List.set_cons_succ]
      refine hold_take (i := 18) (d := 2) (v := ?vp118) (listed' := #[true, true, true, true, true, true, true, true, true, true, true, true, true, true, true, true, true, true, true]) rfl (by kernel_rfl) (by kernel_rfl) (by kernel_rfl) rfl (by rfl) (by kernel_rfl) K2 ?hp118 ?rp118
      case hp118 =>
        intro w' hSw
        obtain ⟨k0, k1⟩ := hSw
        go_simp
        try with_reducible rfl
      simp only [List.setIfInBounds_toArray, List.set_cons_zero, List.set_cons_succ]
      refine hold_done (by kernel_rfl) ?_ _
      clear K2 y8
      go_wp2_with fail
      go_ret
      exact ⟨rfl, B8⟩
    · have hi := Lib.hid (fun w => SetsOf_res (w := w) (t := 2) (N := 4) (ok := true) (by decide) (by decide) (by decide))
      have hsp := Lib.hid (fun w => spec_SetsOf_res (w := w) (t := 2) (N := 4) (ok := true) (by decide) (by decide))
      clear t0 t1
      go_wp2_with fail
      go_at_call 14
      refine (hi.out _).mono ?_
      rintro e w2 ⟨ua, l, na, g, nc, rfl, hg2, b2⟩
      have y3 := TwoAt.new w2 (.slice ua 4 l.cap) (.slice na 4 nc) 27
      have bb := (Below.refl w2.heap.size w2).alloc (Nat.le_refl _) (.cells #[.slice ua 4 l.cap, .slice na 4 nc] 27)
      have G3 := Lib.hid (hg2.below bb (Nat.le_refl _))
      have B3 := (b1.trans (b2.mono b1.size)).trans (bb.mono (by have := b1.size; have := b2.size; omega))
      have s3 : (w2.alloc (.cells #[.slice ua 4 l.cap, .slice na 4 nc] 27)).heap.size = w2.heap.size + 1 := by simp
      clear hg2 bb
      go_wp2_with fail
      generalize w2.alloc (.cells #[.slice ua 4 l.cap, .slice na 4 nc] 27) = w3 at y3 G3 B3 s3 ⊢
      go_at_call 15
      refine (hsp.out _).mono ?_
      rintro e w4 ⟨ua', l', na', g', nc', rfl, hx4, b4⟩
      have X4 := Lib.hid hx4
      have bb := (Below.refl w4.heap.size w4).alloc (Nat.le_refl _) (.cells #[.slice ua' 4 l'.cap, .slice na' 4 nc'] 27)
      have y4 := (y3.below b4 (by omega)).below bb (by have := b4.size; omega)
      have G4 := Lib.hid ((G3.out.below b4 (by omega)).below bb (by have := b4.size; omega))
      have X5 := Lib.hid (X4.out.below bb (Nat.le_refl _))
      have B4 := (B3.trans (b4.mono B3.size)).trans (bb.mono (by have := B3.size; have := b4.size; omega))
      have s4 := b4.size
      have s5 : (w4.alloc (.cells #[.slice ua' 4 l'.cap, .slice na' 4 nc'] 27)).heap.size = w4.heap.size + 1 := by simp
      have x4 := TwoAt.new w4 (.slice ua' 4 l'.cap) (.slice na' 4 nc') 27
      have t0 := y4.c0
      have t1 := y4.c1
      clear hx4 bb y3
      go_wp2_with fail
      generalize w4.alloc (.cells #[.slice ua' 4 l'.cap, .slice na' 4 nc'] 27) = w5 at y4 G4 X5 B4 s5 t0 t1 x4 ⊢
      go_at_call 16
      refine (sameLogic_any G4.out.logAt X5.out.logAt).mono ?_
      rintro e w6 ⟨rfl, b6⟩
      have y6 := y4.below b6 (by omega)
      have G6 := Lib.hid (G4.out.below b6 (by omega))
      have B6 := B4.trans (b6.mono B4.size)
      have s6 := b6.size
      clear t0 t1 y4 x4
      have HLG := Lib.hid (LogicData.isB (sets_data 2 (by omega)) : logicB ⟨4, fun _ => 4, setsZ⟩ 4 (fun a => (setsY 4 a : Int)) = true)
      have HAT := Lib.hid (show (atomsV ⟨4, fun _ => 4, setsZ⟩).length = 2 by rw [LogicData.atoms (sets_data 2 (by omega) : LogicData 4 setsZ (setsY 4) 0)]; exact sets_atoms 2 (by omega))
      have t0 := y6.c0
      have t1 := y6.c1
      go_upto_region 10 with fail
      clear t0 t1
      have bd := (Below.refl w6.heap.size w6).drew
      replace y6 := y6.below bd (by omega)
      replace G6 := Lib.hid (G6.out.below bd (by omega))
      replace B6 := B6.trans (bd.mono B6.size)
      replace s6 : w5.heap.size ≤ w6.drew.heap.size := Nat.le_trans s6 bd.size
      clear bd
      have K0 := (show _ ∧ _ from ⟨y6.c0, y6.c1⟩)
      refine region_plain (fuel := 19) (listed := #[false, false, false, false, false, false, false, false, false, false, false, false, false, false, false, false, false, false, false]) (fun w' => w'.cell? ⟨w2.heap.size, 0, none⟩ = some (.slice ua 4 l.cap) ∧ w'.cell? ⟨w2.heap.size, 1, none⟩ = some (.slice na 4 nc)) (by kernel_rfl) (by kernel_rfl) (by kernel_rfl) ?_
      refine hold_take (i := 0) (d := 39) (v := ?vp20) (listed' := #[true, false, false, false, false, false, false, false, false, false, false, false, false, false, false, false, false, false, false]) rfl (by kernel_rfl) (by kernel_rfl) (by kernel_rfl) rfl (by rfl) (by kernel_rfl) K0 ?hp20 ?rp20
      case hp20 =>
        intro w' hSw
        obtain ⟨k0, k1⟩ := hSw
        go_simp
        try with_reducible rfl
      simp only [List.setIfInBounds_toArray, List.set_cons_zero, List.set_cons_succ]
      refine hold_call (i := 1) (d := 40) (listed' := #[true, true, false, false, false, false, false, false, false, false, false, false, false, false, false, false, false, false, false]) rfl (by kernel_rfl) rfl (by rfl) (by kernel_rfl) ?hep21 (LogicOk_any (m := ⟨4, fun _ => 4, setsZ⟩) (nc := nc) G6.out.logAt) ?hcp21
      case hep21 => go_simp
      rintro e w7 ⟨rfl, b7⟩
      rw [HLG.out]
      have y7 := y6.below b7 (by omega)
      have G7 := Lib.hid (G6.out.below b7 (by omega))
      have B7 := B6.trans (b7.mono B6.size)
      have s7 := b7.size
      have K1 := (show _ ∧ _ from ⟨y7.c0, y7.c1⟩)
      clear K0 y6 b7
      refine ⟨_, rfl, K1, ?_⟩
      simp only [List.setIfInBounds_toArray, List.set_cons_zero, List.set_cons_succ]
      refine hold_take (i := 2) (d := 41) (v := ?vp22) (listed' := #[true, true, true, false, false, false, false, false, false, false, false, false, false, false, false, false, false, false, false]) rfl (by kernel_rfl) (by kernel_rfl) (by kernel_rfl) rfl (by rfl) (by kernel_rfl) K1 ?hp22 ?rp22
      case hp22 =>
        intro w' hSw
        obtain ⟨k0, k1⟩ := hSw
        go_simp
        try with_reducible rfl
      simp only [List.setIfInBounds_toArray, List.set_cons_zero, List.set_cons_succ]
      refine hold_take (i := 3) (d := 42) (v := ?vp23) (listed' := #[true, true, true, true, false, false, false, false, false, false, false, false, false, false, false, false, false, false, false]) rfl (by kernel_rfl) (by kernel_rfl) (by kernel_rfl) rfl (by rfl) (by kernel_rfl) K1 ?hp23 ?rp23
      case hp23 =>
        intro w' hSw
        obtain ⟨k0, k1⟩ := hSw
        go_simp
        try with_reducible rfl
      simp only [List.setIfInBounds_toArray, List.set_cons_zero, List.set_cons_succ]
      refine hold_take (i := 4) (d := 43) (v := ?vp24) (listed' := #[true, true, true, true, true, false, false, false, false, false, false, false, false, false, false, false, false, false, false]) rfl (by kernel_rfl) (by kernel_rfl) (by kernel_rfl) rfl (by rfl) (by kernel_rfl) K1 ?hp24 ?rp24
      case hp24 =>
        intro w' hSw
        obtain ⟨k0, k1⟩ := hSw
        go_simp
        try with_reducible rfl
      simp only [List.setIfInBounds_toArray, List.set_cons_zero, List.set_cons_succ]
      refine hold_take (i := 7) (d := 46) (v := ?vp27) (listed' := #[true, true, true, true, true, false, false, true, false, false, false, false, false, false, false, false, false, false, false]) rfl (by kernel_rfl) (by kernel_rfl) (by kernel_rfl) rfl (by rfl) (by kernel_rfl) K1 ?hp27 ?rp27
      case hp27 =>
        intro w' hSw
        obtain ⟨k0, k1⟩ := hSw
        go_simp
        try with_reducible rfl
      simp only [List.setIfInBounds_toArray, List.set_cons_zero, List.set_cons_succ]
      refine hold_call (i := 5) (d := 44) (listed' := #[true, true, true, true, true, true, false, true, false, false, false, false, false, false, false, false, false, false, false]) rfl (by kernel_rfl) rfl (by rfl) (by kernel_rfl) ?hep25 (AtomsOf_len (m := ⟨4, fun _ => 4, setsZ⟩) (k := 2) G7.out.logAt.hn G7.out.logAt.hL G7.out.logAt.mat G7.out.hB HAT.out) ?hcp25
      case hep25 => go_simp
      rintro e w8 ⟨aa, ca, rfl, b8⟩
      have y8 := y7.below b8 (by omega)
      have B8 := B7.trans (b8.mono B7.size)
      have K2 := (show _ ∧ _ from ⟨y8.c0, y8.c1⟩)
      clear K1 y7 b8
      refine ⟨_, rfl, K2, ?_⟩
      simp only [List.setIfInBounds_toArray, List.set_cons_zero, List.set_cons_succ]
      refine hold_take (i := 6) (d := 45) (v := ?vp26) (listed' := #[true, true, true, true, true, true, true, true, false, false, false, false, false, false, false, false, false, false, false]) rfl (by kernel_rfl) (by kernel_rfl) (by kernel_rfl) rfl (by rfl) (by kernel_rfl) K2 ?hp26 ?rp26
      case hp26 =>
        intro w' hSw
        obtain ⟨k0, k1⟩ := hSw
        go_simp
        try with_reducible rfl
      simp only [List.setIfInBounds_toArray, List.set_cons_zero, List.set_cons_succ]
      refine hold_take (i := 8) (d := 47) (v := ?vp28) (listed' := #[true, true, true, true, true, true, true, true, true, false, false, false, false, false, false, false, false, false, false]) rfl (by kernel_rfl) (by kernel_rfl) (by kernel_rfl) rfl (by rfl) (by kernel_rfl) K2 ?hp28 ?rp28
      case hp28 =>
        intro w' hSw
        obtain ⟨k0, k1⟩ := hSw
        go_simp
        try with_reducible rfl
      simp only [List.setIfInBounds_toArray, List.set_cons_zero, List.set_cons_succ]
      refine hold_take (i := 9) (d := 48) (v := ?vp29) (listed' := #[true, true, true, true, true, true, true, true, true, true, false, false, false, false, false, false, false, false, false]) rfl (by kernel_rfl) (by kernel_rfl) (by kernel_rfl) rfl (by rfl) (by kernel_rfl) K2 ?hp29 ?rp29
      case hp29 =>
        intro w' hSw
        obtain ⟨k0, k1⟩ := hSw
        go_simp
        try with_reducible rfl
      simp only [List.setIfInBounds_toArray, List.set_cons_zero, List.set_cons_succ]
      refine hold_take (i := 10) (d := 49) (v := ?vp210) (listed' := #[true, true, true, true, true, true, true, true, true, true, true, false, false, false, false, false, false, false, false]) rfl (by kernel_rfl) (by kernel_rfl) (by kernel_rfl) rfl (by rfl) (by kernel_rfl) K2 ?hp210 ?rp210
      case hp210 =>
        intro w' hSw
        obtain ⟨k0, k1⟩ := hSw
        go_simp
        try with_reducible rfl
      simp only [List.setIfInBounds_toArray, List.set_cons_zero, List.set_cons_succ]
      refine hold_take (i := 11) (d := 50) (v := ?vp211) (listed' := #[true, true, true, true, true, true, true, true, true, true, true, true, false, false, false, false, false, false, false]) rfl (by kernel_rfl) (by kernel_rfl) (by kernel_rfl) rfl (by rfl) (by kernel_rfl) K2 ?hp211 ?rp211
      case hp211 =>
        intro w' hSw
        obtain ⟨k0, k1⟩ := hSw
        go_simp
        try with_reducible rfl
      simp only [List.setIfInBounds_toArray, List.set_cons_zero, List.set_cons_succ]
      refine hold_take (i := 12) (d := 51) (v := ?vp212) (listed' := #[true, true, true, true, true, true, true, true, true, true, true, true, true, false, false, false, false, false, false]) rfl (by kernel_rfl) (by kernel_rfl) (by kernel_rfl) rfl (by rfl) (by kernel_rfl) K2 ?hp212 ?rp212
      case hp212 =>
        intro w' hSw
        obtain ⟨k0, k1⟩ := hSw
        go_simp
        try with_reducible rfl
      simp only [List.setIfInBounds_toArray, List.set_cons_zero, List.set_cons_succ]
      refine hold_take (i := 13) (d := 52) (v := ?vp213) (listed' := #[true, true, true, true, true, true, true, true, true, true, true, true, true, true, false, false, false, false, false]) rfl (by kernel_rfl) (by kernel_rfl) (by kernel_rfl) rfl (by rfl) (by kernel_rfl) K2 ?hp213 ?rp213
      case hp213 =>
        intro w' hSw
        obtain ⟨k0, k1⟩ := hSw
        go_simp
        try with_reducible rfl
      simp only [List.setIfInBounds_toArray, List.set_cons_zero, List.set_cons_succ]
      refine hold_take (i := 14) (d := 53) (v := ?vp214) (listed' := #[true, true, true, true, true, true, true, true, true, true, true, true, true, true, true, false, false, false, false]) rfl (by kernel_rfl) (by kernel_rfl) (by kernel_rfl) rfl (by rfl) (by kernel_rfl) K2 ?hp214 ?rp214
      case hp214 =>
        intro w' hSw
        obtain ⟨k0, k1⟩ := hSw
        go_simp
        try with_reducible rfl
      simp only [List.setIfInBounds_toArray, List.set_cons_zero, List.set_cons_succ]
      refine hold_take (i := 15) (d := 54) (v := ?vp215) (listed' := #[true, true, true, true, true, true, true, true, true, true, true, true, true, true, true, true, false, false, false]) rfl (by kernel_rfl) (by kernel_rfl) (by kernel_rfl) rfl (by rfl) (by kernel_rfl) K2 ?hp215 ?rp215
      case hp215 =>
        intro w' hSw
        obtain ⟨k0, k1⟩ := hSw
        go_simp
        try with_reducible rfl
      simp only [List.setIfInBounds_toArray, List.set_cons_zero, List.set_cons_succ]
      refine hold_take (i := 16) (d := 55) (v := ?vp216) (listed' := #[true, true, true, true, true, true, true, true, true, true, true, true, true, true, true, true, true, false, false]) rfl (by kernel_rfl) (by kernel_rfl) (by kernel_rfl) rfl (by rfl) (by kernel_rfl) K2 ?hp216 ?rp216
      case hp216 =>
        intro w' hSw
        obtain ⟨k0, k1⟩ := hSw
        go_simp
        try with_reducible rfl
      simp only [List.setIfInBounds_toArray, List.set_cons_zero, List.set_cons_succ]
      refine hold_take (i := 17) (d := 56) (v := ?vp217) (listed' := #[true, true, true, true, true, true, true, true, true, true, true, true, true, true, true, true, true, true, false]) rfl (by kernel_rfl) (by kernel_rfl) (by kernel_rfl) rfl (by rfl) (by kernel_rfl) K2 ?hp217 ?rp217
      case hp217 =>
        intro w' hSw
        obtain ⟨k0, k1⟩ := hSw
        go_simp
        try with_reducible rfl
      simp only [List.setIfInBounds_toArray, List.set_cons_zero, List.set_cons_succ]
      refine hold_take (i := 18) (d := 2) (v := ?vp218) (listed' := #[true, true, true, true, true, true, true, true, true, true, true, true, true, true, true, true, true, true, true]) rfl (by kernel_rfl) (by kernel_rfl) (by kernel_rfl) rfl (by rfl) (by kernel_rfl) K2 ?hp218 ?rp218
      case hp218 =>
        intro w' hSw
        obtain ⟨k0, k1⟩ := hSw
        go_simp
        try with_reducible rfl
      simp only [List.setIfInBounds_toArray, List.set_cons_zero, List.set_cons_succ]
      refine hold_done (by kernel_rfl) ?_ _
      clear K2 y8
      go_wp2_with fail
      go_ret
      exact ⟨rfl, B8⟩
    · have hi := Lib.hid (fun w => SetsOf_res (w := w) (t := 3) (N := 8) (ok := true) (by decide) (by decide) (by decide))
      have hsp := Lib.hid (fun w => spec_SetsOf_res (w := w) (t := 3) (N := 8) (ok := true) (by decide) (by decide))
      clear t0 t1
      go_wp2_with fail
      go_at_call 14
      refine (hi.out _).mono ?_
      rintro e w2 ⟨ua, l, na, g, nc, rfl, hg2, b2⟩
      have y3 := TwoAt.new w2 (.slice ua 8 l.cap) (.slice na 8 nc) 27
      have bb := (Below.refl w2.heap.size w2).alloc (Nat.le_refl _) (.cells #[.slice ua 8 l.cap, .slice na 8 nc] 27)
      have G3 := Lib.hid (hg2.below bb (Nat.le_refl _))
      have B3 := (b1.trans (b2.mono b1.size)).trans (bb.mono (by have := b1.size; have := b2.size; omega))
      have s3 : (w2.alloc (.cells #[.slice ua 8 l.cap, .slice na 8 nc] 27)).heap.size = w2.heap.size + 1 := by simp
      clear hg2 bb
      go_wp2_with fail
      generalize w2.alloc (.cells #[.slice ua 8 l.cap, .slice na 8 nc] 27) = w3 at y3 G3 B3 s3 ⊢
      go_at_call 15
      refine (hsp.out _).mono ?_
      rintro e w4 ⟨ua', l', na', g', nc', rfl, hx4, b4⟩
      have X4 := Lib.hid hx4
      have bb := (Below.refl w4.heap.size w4).alloc (Nat.le_refl _) (.cells #[.slice ua' 8 l'.cap, .slice na' 8 nc'] 27)
      have y4 := (y3.below b4 (by omega)).below bb (by have := b4.size; omega)
      have G4 := Lib.hid ((G3.out.below b4 (by omega)).below bb (by have := b4.size; omega))
      have X5 := Lib.hid (X4.out.below bb (Nat.le_refl _))
      have B4 := (B3.trans (b4.mono B3.size)).trans (bb.mono (by have := B3.size; have := b4.size; omega))
      have s4 := b4.size
      have s5 : (w4.alloc (.cells #[.slice ua' 8 l'.cap, .slice na' 8 nc'] 27)).heap.size = w4.heap.size + 1 := by simp
      have x4 := TwoAt.new w4 (.slice ua' 8 l'.cap) (.slice na' 8 nc') 27
      have t0 := y4.c0
      have t1 := y4.c1
      clear hx4 bb y3
      go_wp2_with fail
      generalize w4.alloc (.cells #[.slice ua' 8 l'.cap, .slice na' 8 nc'] 27) = w5 at y4 G4 X5 B4 s5 t0 t1 x4 ⊢
      go_at_call 16
      refine (sameLogic_any G4.out.logAt X5.out.logAt).mono ?_
      rintro e w6 ⟨rfl, b6⟩
      have y6 := y4.below b6 (by omega)
      have G6 := Lib.hid (G4.out.below b6 (by omega))
      have B6 := B4.trans (b6.mono B4.size)
      have s6 := b6.size
      clear t0 t1 y4 x4
      have HLG := Lib.hid (LogicData.isB (sets_data 3 (by omega)) : logicB ⟨8, fun _ => 8, setsZ⟩ 8 (fun a => (setsY 8 a : Int)) = true)
      have HAT := Lib.hid (show (atomsV ⟨8, fun _ => 8, setsZ⟩).length = 3 by rw [LogicData.atoms (sets_data 3 (by omega) : LogicData 8 setsZ (setsY 8) 0)]; exact sets_atoms 3 (by omega))
      have t0 := y6.c0
      have t1 := y6.c1
      go_upto_region 10 with fail
      clear t0 t1
      have bd := (Below.refl w6.heap.size w6).drew
      replace y6 := y6.below bd (by omega)
      replace G6 := Lib.hid (G6.out.below bd (by omega))
      replace B6 := B6.trans (bd.mono B6.size)
      replace s6 : w5.heap.size ≤ w6.drew.heap.size := Nat.le_trans s6 bd.size
      clear bd
      have K0 := (show _ ∧ _ from ⟨y6.c0, y6.c1⟩)
      refine region_plain (fuel := 19) (listed := #[false, false, false, false, false, false, false, false, false, false, false, false, false, false, false, false, false, false, false]) (fun w' => w'.cell? ⟨w2.heap.size, 0, none⟩ = some (.slice ua 8 l.cap) ∧ w'.cell? ⟨w2.heap.size, 1, none⟩ = some (.slice na 8 nc)) (by kernel_rfl) (by kernel_rfl) (by kernel_rfl) ?_
      refine hold_take (i := 0) (d := 39) (v := ?vp30) (listed' := #[true, false, false, false, false, false, false, false, false, false, false, false, false, false, false, false, false, false, false]) rfl (by kernel_rfl) (by kernel_rfl) (by kernel_rfl) rfl (by rfl) (by kernel_rfl) K0 ?hp30 ?rp30
      case hp30 =>
        intro w' hSw
        obtain ⟨k0, k1⟩ := hSw
        go_simp
        try with_reducible rfl
      simp only [List.setIfInBounds_toArray, List.set_cons_zero, List.set_cons_succ]
      refine hold_call (i := 1) (d := 40) (listed' := #[true, true, false, false, false, false, false, false, false, false, false, false, false, false, false, false, false, false, false]) rfl (by kernel_rfl) rfl (by rfl) (by kernel_rfl) ?hep31 (LogicOk_any (m := ⟨8, fun _ => 8, setsZ⟩) (nc := nc) G6.out.logAt) ?hcp31
      case hep31 => go_simp
      rintro e w7 ⟨rfl, b7⟩
      rw [HLG.out]
      have y7 := y6.below b7 (by omega)
      have G7 := Lib.hid (G6.out.below b7 (by omega))
      have B7 := B6.trans (b7.mono B6.size)
      have s7 := b7.size
      have K1 := (show _ ∧ _ from ⟨y7.c0, y7.c1⟩)
      clear K0 y6 b7
      refine ⟨_, rfl, K1, ?_⟩
      simp only [List.setIfInBounds_toArray, List.set_cons_zero, List.set_cons_succ]
      refine hold_take (i := 2) (d := 41) (v := ?vp32) (listed' := #[true, true, true, false, false, false, false, false, false, false, false, false, false, false, false, false, false, false, false]) rfl (by kernel_rfl) (by kernel_rfl) (by kernel_rfl) rfl (by rfl) (by kernel_rfl) K1 ?hp32 ?rp32
      case hp32 =>
        intro w' hSw
        obtain ⟨k0, k1⟩ := hSw
        go_simp
        try with_reducible rfl
      simp only [List.setIfInBounds_toArray, List.set_cons_zero, List.set_cons_succ]
      refine hold_take (i := 3) (d := 42) (v := ?vp33) (listed' := #[true, true, true, true, false, false, false, false, false, false, false, false, false, false, false, false, false, false, false]) rfl (by kernel_rfl) (by kernel_rfl) (by kernel_rfl) rfl (by rfl) (by kernel_rfl) K1 ?hp33 ?rp33
      case hp33 =>
        intro w' hSw
        obtain ⟨k0, k1⟩ := hSw
        go_simp
        try with_reducible rfl
      simp only [List.setIfInBounds_toArray, List.set_cons_zero, List.set_cons_succ]
      refine hold_take (i := 4) (d := 43) (v := ?vp34) (listed' := #[true, true, true, true, true, false, false, false, false, false, false, false, false, false, false, false, false, false, false]) rfl (by kernel_rfl) (by kernel_rfl) (by kernel_rfl) rfl (by rfl) (by kernel_rfl) K1 ?hp34 ?rp34
      case hp34 =>
        intro w' hSw
        obtain ⟨k0, k1⟩ := hSw
        go_simp
        try with_reducible rfl
      simp only [List.setIfInBounds_toArray, List.set_cons_zero, List.set_cons_succ]
      refine hold_take (i := 7) (d := 46) (v := ?vp37) (listed' := #[true, true, true, true, true, false, false, true, false, false, false, false, false, false, false, false, false, false, false]) rfl (by kernel_rfl) (by kernel_rfl) (by kernel_rfl) rfl (by rfl) (by kernel_rfl) K1 ?hp37 ?rp37
      case hp37 =>
        intro w' hSw
        obtain ⟨k0, k1⟩ := hSw
        go_simp
        try with_reducible rfl
      simp only [List.setIfInBounds_toArray, List.set_cons_zero, List.set_cons_succ]
      refine hold_call (i := 5) (d := 44) (listed' := #[true, true, true, true, true, true, false, true, false, false, false, false, false, false, false, false, false, false, false]) rfl (by kernel_rfl) rfl (by rfl) (by kernel_rfl) ?hep35 (AtomsOf_len (m := ⟨8, fun _ => 8, setsZ⟩) (k := 3) G7.out.logAt.hn G7.out.logAt.hL G7.out.logAt.mat G7.out.hB HAT.out) ?hcp35
      case hep35 => go_simp
      rintro e w8 ⟨aa, ca, rfl, b8⟩
      have y8 := y7.below b8 (by omega)
      have B8 := B7.trans (b8.mono B7.size)
      have K2 := (show _ ∧ _ from ⟨y8.c0, y8.c1⟩)
      clear K1 y7 b8
      refine ⟨_, rfl, K2, ?_⟩
      simp only [List.setIfInBounds_toArray, List.set_cons_zero, List.set_cons_succ]
      refine hold_take (i := 6) (d := 45) (v := ?vp36) (listed' := #[true, true, true, true, true, true, true, true, false, false, false, false, false, false, false, false, false, false, false]) rfl (by kernel_rfl) (by kernel_rfl) (by kernel_rfl) rfl (by rfl) (by kernel_rfl) K2 ?hp36 ?rp36
      case hp36 =>
        intro w' hSw
        obtain ⟨k0, k1⟩ := hSw
        go_simp
        try with_reducible rfl
      simp only [List.setIfInBounds_toArray, List.set_cons_zero, List.set_cons_succ]
      refine hold_take (i := 8) (d := 47) (v := ?vp38) (listed' := #[true, true, true, true, true, true, true, true, true, false, false, false, false, false, false, false, false, false, false]) rfl (by kernel_rfl) (by kernel_rfl) (by kernel_rfl) rfl (by rfl) (by kernel_rfl) K2 ?hp38 ?rp38
      case hp38 =>
        intro w' hSw
        obtain ⟨k0, k1⟩ := hSw
        go_simp
        try with_reducible rfl
      simp only [List.setIfInBounds_toArray, List.set_cons_zero, List.set_cons_succ]
      refine hold_take (i := 9) (d := 48) (v := ?vp39) (listed' := #[true, true, true, true, true, true, true, true, true, true, false, false, false, false, false, false, false, false, false]) rfl (by kernel_rfl) (by kernel_rfl) (by kernel_rfl) rfl (by rfl) (by kernel_rfl) K2 ?hp39 ?rp39
      case hp39 =>
        intro w' hSw
        obtain ⟨k0, k1⟩ := hSw
        go_simp
        try with_reducible rfl
      simp only [List.setIfInBounds_toArray, List.set_cons_zero, List.set_cons_succ]
      refine hold_take (i := 10) (d := 49) (v := ?vp310) (listed' := #[true, true, true, true, true, true, true, true, true, true, true, false, false, false, false, false, false, false, false]) rfl (by kernel_rfl) (by kernel_rfl) (by kernel_rfl) rfl (by rfl) (by kernel_rfl) K2 ?hp310 ?rp310
      case hp310 =>
        intro w' hSw
        obtain ⟨k0, k1⟩ := hSw
        go_simp
        try with_reducible rfl
      simp only [List.setIfInBounds_toArray, List.set_cons_zero, List.set_cons_succ]
      refine hold_take (i := 11) (d := 50) (v := ?vp311) (listed' := #[true, true, true, true, true, true, true, true, true, true, true, true, false, false, false, false, false, false, false]) rfl (by kernel_rfl) (by kernel_rfl) (by kernel_rfl) rfl (by rfl) (by kernel_rfl) K2 ?hp311 ?rp311
      case hp311 =>
        intro w' hSw
        obtain ⟨k0, k1⟩ := hSw
        go_simp
        try with_reducible rfl
      simp only [List.setIfInBounds_toArray, List.set_cons_zero, List.set_cons_succ]
      refine hold_take (i := 12) (d := 51) (v := ?vp312) (listed' := #[true, true, true, true, true, true, true, true, true, true, true, true, true, false, false, false, false, false, false]) rfl (by kernel_rfl) (by kernel_rfl) (by kernel_rfl) rfl (by rfl) (by kernel_rfl) K2 ?hp312 ?rp312
      case hp312 =>
        intro w' hSw
        obtain ⟨k0, k1⟩ := hSw
        go_simp
        try with_reducible rfl
      simp only [List.setIfInBounds_toArray, List.set_cons_zero, List.set_cons_succ]
      refine hold_take (i := 13) (d := 52) (v := ?vp313) (listed' := #[true, true, true, true, true, true, true, true, true, true, true, true, true, true, false, false, false, false, false]) rfl (by kernel_rfl) (by kernel_rfl) (by kernel_rfl) rfl (by rfl) (by kernel_rfl) K2 ?hp313 ?rp313
      case hp313 =>
        intro w' hSw
        obtain ⟨k0, k1⟩ := hSw
        go_simp
        try with_reducible rfl
      simp only [List.setIfInBounds_toArray, List.set_cons_zero, List.set_cons_succ]
      refine hold_take (i := 14) (d := 53) (v := ?vp314) (listed' := #[true, true, true, true, true, true, true, true, true, true, true, true, true, true, true, false, false, false, false]) rfl (by kernel_rfl) (by kernel_rfl) (by kernel_rfl) rfl (by rfl) (by kernel_rfl) K2 ?hp314 ?rp314
      case hp314 =>
        intro w' hSw
        obtain ⟨k0, k1⟩ := hSw
        go_simp
        try with_reducible rfl
      simp only [List.setIfInBounds_toArray, List.set_cons_zero, List.set_cons_succ]
      refine hold_take (i := 15) (d := 54) (v := ?vp315) (listed' := #[true, true, true, true, true, true, true, true, true, true, true, true, true, true, true, true, false, false, false]) rfl (by kernel_rfl) (by kernel_rfl) (by kernel_rfl) rfl (by rfl) (by kernel_rfl) K2 ?hp315 ?rp315
      case hp315 =>
        intro w' hSw
        obtain ⟨k0, k1⟩ := hSw
        go_simp
        try with_reducible rfl
      simp only [List.setIfInBounds_toArray, List.set_cons_zero, List.set_cons_succ]
      refine hold_take (i := 16) (d := 55) (v := ?vp316) (listed' := #[true, true, true, true, true, true, true, true, true, true, true, true, true, true, true, true, true, false, false]) rfl (by kernel_rfl) (by kernel_rfl) (by kernel_rfl) rfl (by rfl) (by kernel_rfl) K2 ?hp316 ?rp316
      case hp316 =>
        intro w' hSw
        obtain ⟨k0, k1⟩ := hSw
        go_simp
        try with_reducible rfl
      simp only [List.setIfInBounds_toArray, List.set_cons_zero, List.set_cons_succ]
      refine hold_take (i := 17) (d := 56) (v := ?vp317) (listed' := #[true, true, true, true, true, true, true, true, true, true, true, true, true, true, true, true, true, true, false]) rfl (by kernel_rfl) (by kernel_rfl) (by kernel_rfl) rfl (by rfl) (by kernel_rfl) K2 ?hp317 ?rp317
      case hp317 =>
        intro w' hSw
        obtain ⟨k0, k1⟩ := hSw
        go_simp
        try with_reducible rfl
      simp only [List.setIfInBounds_toArray, List.set_cons_zero, List.set_cons_succ]
      refine hold_take (i := 18) (d := 2) (v := ?vp318) (listed' := #[true, true, true, true, true, true, true, true, true, true, true, true, true, true, true, true, true, true, true]) rfl (by kernel_rfl) (by kernel_rfl) (by kernel_rfl) rfl (by rfl) (by kernel_rfl) K2 ?hp318 ?rp318
      case hp318 =>
        intro w' hSw
        obtain ⟨k0, k1⟩ := hSw
        go_simp
        try with_reducible rfl
      simp only [List.setIfInBounds_toArray, List.set_cons_zero, List.set_cons_succ]
      refine hold_done (by kernel_rfl) ?_ _
      clear K2 y8
      go_wp2_with fail
      go_ret
      exact ⟨rfl, B8⟩
    · have hi := Lib.hid (fun w => SetsOf_res (w := w) (t := 4) (N := 0) (ok := false) (by decide) (by decide) (by decide))
      have hsp := Lib.hid (fun w => spec_SetsOf_res (w := w) (t := 4) (N := 0) (ok := false) (by decide) (by decide))
      clear t0 t1
      go_wp2_with fail
      go_at_call 14
      refine (hi.out _).mono ?_
      rintro e w2 ⟨ua, l, na, g, nc, rfl, hg2, b2⟩
      have y3 := TwoAt.new w2 (.slice ua 0 l.cap) (.slice na 0 nc) 27
      have bb := (Below.refl w2.heap.size w2).alloc (Nat.le_refl _) (.cells #[.slice ua 0 l.cap, .slice na 0 nc] 27)
      have G3 := Lib.hid (hg2.below bb (Nat.le_refl _))
      have B3 := (b1.trans (b2.mono b1.size)).trans (bb.mono (by have := b1.size; have := b2.size; omega))
      have s3 : (w2.alloc (.cells #[.slice ua 0 l.cap, .slice na 0 nc] 27)).heap.size = w2.heap.size + 1 := by simp
      clear hg2 bb
      go_wp2_with fail
      generalize w2.alloc (.cells #[.slice ua 0 l.cap, .slice na 0 nc] 27) = w3 at y3 G3 B3 s3 ⊢
      go_at_call 15
      refine (hsp.out _).mono ?_
      rintro e w4 ⟨ua', l', na', g', nc', rfl, hx4, b4⟩
      have X4 := Lib.hid hx4
      have bb := (Below.refl w4.heap.size w4).alloc (Nat.le_refl _) (.cells #[.slice ua' 0 l'.cap, .slice na' 0 nc'] 27)
      have y4 := (y3.below b4 (by omega)).below bb (by have := b4.size; omega)
      have G4 := Lib.hid ((G3.out.below b4 (by omega)).below bb (by have := b4.size; omega))
      have X5 := Lib.hid (X4.out.below bb (Nat.le_refl _))
      have B4 := (B3.trans (b4.mono B3.size)).trans (bb.mono (by have := B3.size; have := b4.size; omega))
      have s4 := b4.size
      have s5 : (w4.alloc (.cells #[.slice ua' 0 l'.cap, .slice na' 0 nc'] 27)).heap.size = w4.heap.size + 1 := by simp
      have x4 := TwoAt.new w4 (.slice ua' 0 l'.cap) (.slice na' 0 nc') 27
      have t0 := y4.c0
      have t1 := y4.c1
      clear hx4 bb y3
      go_wp2_with fail
      generalize w4.alloc (.cells #[.slice ua' 0 l'.cap, .slice na' 0 nc'] 27) = w5 at y4 G4 X5 B4 s5 t0 t1 x4 ⊢
      go_at_call 16
      refine (sameLogic_any G4.out.logAt X5.out.logAt).mono ?_
      rintro e w6 ⟨rfl, b6⟩
      have y6 := y4.below b6 (by omega)
      have G6 := Lib.hid (G4.out.below b6 (by omega))
      have B6 := B4.trans (b6.mono B4.size)
      have s6 := b6.size
      clear t0 t1 y4 x4
      have t0 := y6.c0
      have t1 := y6.c1
      go_wp2_with fail
      go_at_call 17
      refine noLogic_any.mono ?_
      rintro e w7 ⟨rfl, b7⟩
      have B7 := B6.trans (b7.mono B6.size)
      clear t0 t1 y6
      go_wp2_with fail
      go_at_call 18
      refine (alive_any _).mono ?_
      rintro e w8 ⟨rfl, b8⟩
      have B8 := B7.trans (b8.mono B7.size)
      go_wp2_with fail
      go_ret
      exact ⟨rfl, B8⟩

theorem RingOf_res {w : World} {t : Int} {N : Nat} {ok : Bool} (h1 : (if decide (t = 6) = true then 6 else 0) = N) (h2 : decide (t = 6) = ok) : Calls Try.prog 22 #[.int .i64 t] w fun e w' => ResL w N ringZ ringY e ok w' := by
  subst h2
  subst h1
  exact RingOf_any.mono fun e w' h => h.res
theorem spec_RingOf_res {w : World} {t : Int} {N : Nat} {ok : Bool} (h1 : (if decide (t = 6) = true then 6 else 0) = N) (h2 : decide (t = 6) = ok) : Calls Try.prog 23 #[.int .i64 t] w fun e w' => ResL w N ringZ ringY e ok w' := by
  subst h2
  subst h1
  exact spec_RingOf_any.mono fun e w' h => h.res

set_option maxRecDepth 100000 in
set_option maxHeartbeats 4000000 in
theorem law_RingOf {A : Option Addr} {b o n cap : Nat} {z : Nat → Nat} {w : World} (h : CodeAt w A b o n cap z) :
    Calls Try.prog 4 #[.slice A n cap] w fun e w' => e = .returned (.bool true) ∧ Below w.heap.size w w' := by
  have hn := h.hn
  have hc := h.hc
  by_cases hbig : 1048576 < n
  · have hbig' : (1048576 : Int) < n := by omega
    clear h
    go_enter Try.func4, Try.ntmps4
    go_wp2_with fail
    go_ret
    exact ⟨rfl, Below.refl _ _⟩
  · have hbig' : ¬ (1048576 : Int) < n := by omega
    go_enter Try.func4, Try.ntmps4
    go_wp2_with fail
    go_at_call 21
    refine (draw_RingOf h).mono ?_
    rintro e w1 ⟨t, rfl, t0, t1, b1⟩
    clear h
    rcases (show t = 6 ∨ t = 4 ∨ t = 5 ∨ t = 7 by omega) with rfl | rfl | rfl | rfl
    · have hi := Lib.hid (fun w => RingOf_res (w := w) (t := 6) (N := 6) (ok := true) (by decide) (by decide))
      have hsp := Lib.hid (fun w => spec_RingOf_res (w := w) (t := 6) (N := 6) (ok := true) (by decide) (by decide))
      clear t0 t1
      go_wp2_with fail
      go_at_call 22
      refine (hi.out _).mono ?_
      rintro e w2 ⟨ua, l, na, g, nc, rfl, hg2, b2⟩
      have y3 := TwoAt.new w2 (.slice ua 6 l.cap) (.slice na 6 nc) 27
      have bb := (Below.refl w2.heap.size w2).alloc (Nat.le_refl _) (.cells #[.slice ua 6 l.cap, .slice na 6 nc] 27)
      have G3 := Lib.hid (hg2.below bb (Nat.le_refl _))
      have B3 := (b1.trans (b2.mono b1.size)).trans (bb.mono (by have := b1.size; have := b2.size; omega))
      have s3 : (w2.alloc (.cells #[.slice ua 6 l.cap, .slice na 6 nc] 27)).heap.size = w2.heap.size + 1 := by simp
      clear hg2 bb
      go_wp2_with fail
      generalize w2.alloc (.cells #[.slice ua 6 l.cap, .slice na 6 nc] 27) = w3 at y3 G3 B3 s3 ⊢
      go_at_call 23
      refine (hsp.out _).mono ?_
      rintro e w4 ⟨ua', l', na', g', nc', rfl, hx4, b4⟩
      have X4 := Lib.hid hx4
      have bb := (Below.refl w4.heap.size w4).alloc (Nat.le_refl _) (.cells #[.slice ua' 6 l'.cap, .slice na' 6 nc'] 27)
      have y4 := (y3.below b4 (by omega)).below bb (by have := b4.size; omega)
      have G4 := Lib.hid ((G3.out.below b4 (by omega)).below bb (by have := b4.size; omega))
      have X5 := Lib.hid (X4.out.below bb (Nat.le_refl _))
      have B4 := (B3.trans (b4.mono B3.size)).trans (bb.mono (by have := B3.size; have := b4.size; omega))
      have s4 := b4.size
      have s5 : (w4.alloc (.cells #[.slice ua' 6 l'.cap, .slice na' 6 nc'] 27)).heap.size = w4.heap.size + 1 := by simp
      have x4 := TwoAt.new w4 (.slice ua' 6 l'.cap) (.slice na' 6 nc') 27
      have t0 := y4.c0
      have t1 := y4.c1
      clear hx4 bb y3
      go_wp2_with fail
      generalize w4.alloc (.cells #[.slice ua' 6 l'.cap, .slice na' 6 nc'] 27) = w5 at y4 G4 X5 B4 s5 t0 t1 x4 ⊢
      go_at_call 16
      refine (sameLogic_any G4.out.logAt X5.out.logAt).mono ?_
      rintro e w6 ⟨rfl, b6⟩
      have y6 := y4.below b6 (by omega)
      have G6 := Lib.hid (G4.out.below b6 (by omega))
      have B6 := B4.trans (b6.mono B4.size)
      have s6 := b6.size
      clear t0 t1 y4 x4
      have HLG := Lib.hid (LogicData.isB ring_data)
      have HAT := Lib.hid (show (atomsV ⟨6, fun _ => 6, ringZ⟩).length = 2 by rw [LogicData.atoms ring_data]; exact ring_atoms)
      have t0 := y6.c0
      have t1 := y6.c1
      go_wp2_with fail
      go_at_call 19
      refine (LogicOk_any (m := ⟨6, fun _ => 6, ringZ⟩) G6.out.logAt).mono ?_
      rintro e w7 ⟨rfl, b7⟩
      rw [HLG.out]
      have y7 := y6.below b7 (by omega)
      have G7 := Lib.hid (G6.out.below b7 (by omega))
      have B7 := B6.trans (b7.mono B6.size)
      have s7 := b7.size
      clear t0 t1 y6 b7
      have t0 := y7.c0
      have t1 := y7.c1
      go_wp2_with fail
      go_at_call 20
      refine (AtomsOf_len (m := ⟨6, fun _ => 6, ringZ⟩) (k := 2) G7.out.logAt.hn G7.out.logAt.hL G7.out.logAt.mat G7.out.hB HAT.out).mono ?_
      rintro e w8 ⟨aa, ca, rfl, b8⟩
      have y8 := y7.below b8 (by omega)
      have B8 := B7.trans (b8.mono B7.size)
      clear t0 t1 y7 b8
      have t0 := y8.c0
      have t1 := y8.c1
      go_wp2_with fail
      go_ret
      exact ⟨rfl, B8⟩
    · have hi := Lib.hid (fun w => RingOf_res (w := w) (t := 4) (N := 0) (ok := false) (by decide) (by decide))
      have hsp := Lib.hid (fun w => spec_RingOf_res (w := w) (t := 4) (N := 0) (ok := false) (by decide) (by decide))
      clear t0 t1
      go_wp2_with fail
      go_at_call 22
      refine (hi.out _).mono ?_
      rintro e w2 ⟨ua, l, na, g, nc, rfl, hg2, b2⟩
      have y3 := TwoAt.new w2 (.slice ua 0 l.cap) (.slice na 0 nc) 27
      have bb := (Below.refl w2.heap.size w2).alloc (Nat.le_refl _) (.cells #[.slice ua 0 l.cap, .slice na 0 nc] 27)
      have G3 := Lib.hid (hg2.below bb (Nat.le_refl _))
      have B3 := (b1.trans (b2.mono b1.size)).trans (bb.mono (by have := b1.size; have := b2.size; omega))
      have s3 : (w2.alloc (.cells #[.slice ua 0 l.cap, .slice na 0 nc] 27)).heap.size = w2.heap.size + 1 := by simp
      clear hg2 bb
      go_wp2_with fail
      generalize w2.alloc (.cells #[.slice ua 0 l.cap, .slice na 0 nc] 27) = w3 at y3 G3 B3 s3 ⊢
      go_at_call 23
      refine (hsp.out _).mono ?_
      rintro e w4 ⟨ua', l', na', g', nc', rfl, hx4, b4⟩
      have X4 := Lib.hid hx4
      have bb := (Below.refl w4.heap.size w4).alloc (Nat.le_refl _) (.cells #[.slice ua' 0 l'.cap, .slice na' 0 nc'] 27)
      have y4 := (y3.below b4 (by omega)).below bb (by have := b4.size; omega)
      have G4 := Lib.hid ((G3.out.below b4 (by omega)).below bb (by have := b4.size; omega))
      have X5 := Lib.hid (X4.out.below bb (Nat.le_refl _))
      have B4 := (B3.trans (b4.mono B3.size)).trans (bb.mono (by have := B3.size; have := b4.size; omega))
      have s4 := b4.size
      have s5 : (w4.alloc (.cells #[.slice ua' 0 l'.cap, .slice na' 0 nc'] 27)).heap.size = w4.heap.size + 1 := by simp
      have x4 := TwoAt.new w4 (.slice ua' 0 l'.cap) (.slice na' 0 nc') 27
      have t0 := y4.c0
      have t1 := y4.c1
      clear hx4 bb y3
      go_wp2_with fail
      generalize w4.alloc (.cells #[.slice ua' 0 l'.cap, .slice na' 0 nc'] 27) = w5 at y4 G4 X5 B4 s5 t0 t1 x4 ⊢
      go_at_call 16
      refine (sameLogic_any G4.out.logAt X5.out.logAt).mono ?_
      rintro e w6 ⟨rfl, b6⟩
      have y6 := y4.below b6 (by omega)
      have G6 := Lib.hid (G4.out.below b6 (by omega))
      have B6 := B4.trans (b6.mono B4.size)
      have s6 := b6.size
      clear t0 t1 y4 x4
      have t0 := y6.c0
      have t1 := y6.c1
      go_wp2_with fail
      go_at_call 17
      refine noLogic_any.mono ?_
      rintro e w7 ⟨rfl, b7⟩
      have B7 := B6.trans (b7.mono B6.size)
      clear t0 t1 y6
      go_wp2_with fail
      go_at_call 18
      refine (alive_any _).mono ?_
      rintro e w8 ⟨rfl, b8⟩
      have B8 := B7.trans (b8.mono B7.size)
      go_wp2_with fail
      go_ret
      exact ⟨rfl, B8⟩
    · have hi := Lib.hid (fun w => RingOf_res (w := w) (t := 5) (N := 0) (ok := false) (by decide) (by decide))
      have hsp := Lib.hid (fun w => spec_RingOf_res (w := w) (t := 5) (N := 0) (ok := false) (by decide) (by decide))
      clear t0 t1
      go_wp2_with fail
      go_at_call 22
      refine (hi.out _).mono ?_
      rintro e w2 ⟨ua, l, na, g, nc, rfl, hg2, b2⟩
      have y3 := TwoAt.new w2 (.slice ua 0 l.cap) (.slice na 0 nc) 27
      have bb := (Below.refl w2.heap.size w2).alloc (Nat.le_refl _) (.cells #[.slice ua 0 l.cap, .slice na 0 nc] 27)
      have G3 := Lib.hid (hg2.below bb (Nat.le_refl _))
      have B3 := (b1.trans (b2.mono b1.size)).trans (bb.mono (by have := b1.size; have := b2.size; omega))
      have s3 : (w2.alloc (.cells #[.slice ua 0 l.cap, .slice na 0 nc] 27)).heap.size = w2.heap.size + 1 := by simp
      clear hg2 bb
      go_wp2_with fail
      generalize w2.alloc (.cells #[.slice ua 0 l.cap, .slice na 0 nc] 27) = w3 at y3 G3 B3 s3 ⊢
      go_at_call 23
      refine (hsp.out _).mono ?_
      rintro e w4 ⟨ua', l', na', g', nc', rfl, hx4, b4⟩
      have X4 := Lib.hid hx4
      have bb := (Below.refl w4.heap.size w4).alloc (Nat.le_refl _) (.cells #[.slice ua' 0 l'.cap, .slice na' 0 nc'] 27)
      have y4 := (y3.below b4 (by omega)).below bb (by have := b4.size; omega)
      have G4 := Lib.hid ((G3.out.below b4 (by omega)).below bb (by have := b4.size; omega))
      have X5 := Lib.hid (X4.out.below bb (Nat.le_refl _))
      have B4 := (B3.trans (b4.mono B3.size)).trans (bb.mono (by have := B3.size; have := b4.size; omega))
      have s4 := b4.size
      have s5 : (w4.alloc (.cells #[.slice ua' 0 l'.cap, .slice na' 0 nc'] 27)).heap.size = w4.heap.size + 1 := by simp
      have x4 := TwoAt.new w4 (.slice ua' 0 l'.cap) (.slice na' 0 nc') 27
      have t0 := y4.c0
      have t1 := y4.c1
      clear hx4 bb y3
      go_wp2_with fail
      generalize w4.alloc (.cells #[.slice ua' 0 l'.cap, .slice na' 0 nc'] 27) = w5 at y4 G4 X5 B4 s5 t0 t1 x4 ⊢
      go_at_call 16
      refine (sameLogic_any G4.out.logAt X5.out.logAt).mono ?_
      rintro e w6 ⟨rfl, b6⟩
      have y6 := y4.below b6 (by omega)
      have G6 := Lib.hid (G4.out.below b6 (by omega))
      have B6 := B4.trans (b6.mono B4.size)
      have s6 := b6.size
      clear t0 t1 y4 x4
      have t0 := y6.c0
      have t1 := y6.c1
      go_wp2_with fail
      go_at_call 17
      refine noLogic_any.mono ?_
      rintro e w7 ⟨rfl, b7⟩
      have B7 := B6.trans (b7.mono B6.size)
      clear t0 t1 y6
      go_wp2_with fail
      go_at_call 18
      refine (alive_any _).mono ?_
      rintro e w8 ⟨rfl, b8⟩
      have B8 := B7.trans (b8.mono B7.size)
      go_wp2_with fail
      go_ret
      exact ⟨rfl, B8⟩
    · have hi := Lib.hid (fun w => RingOf_res (w := w) (t := 7) (N := 0) (ok := false) (by decide) (by decide))
      have hsp := Lib.hid (fun w => spec_RingOf_res (w := w) (t := 7) (N := 0) (ok := false) (by decide) (by decide))
      clear t0 t1
      go_wp2_with fail
      go_at_call 22
      refine (hi.out _).mono ?_
      rintro e w2 ⟨ua, l, na, g, nc, rfl, hg2, b2⟩
      have y3 := TwoAt.new w2 (.slice ua 0 l.cap) (.slice na 0 nc) 27
      have bb := (Below.refl w2.heap.size w2).alloc (Nat.le_refl _) (.cells #[.slice ua 0 l.cap, .slice na 0 nc] 27)
      have G3 := Lib.hid (hg2.below bb (Nat.le_refl _))
      have B3 := (b1.trans (b2.mono b1.size)).trans (bb.mono (by have := b1.size; have := b2.size; omega))
      have s3 : (w2.alloc (.cells #[.slice ua 0 l.cap, .slice na 0 nc] 27)).heap.size = w2.heap.size + 1 := by simp
      clear hg2 bb
      go_wp2_with fail
      generalize w2.alloc (.cells #[.slice ua 0 l.cap, .slice na 0 nc] 27) = w3 at y3 G3 B3 s3 ⊢
      go_at_call 23
      refine (hsp.out _).mono ?_
      rintro e w4 ⟨ua', l', na', g', nc', rfl, hx4, b4⟩
      have X4 := Lib.hid hx4
      have bb := (Below.refl w4.heap.size w4).alloc (Nat.le_refl _) (.cells #[.slice ua' 0 l'.cap, .slice na' 0 nc'] 27)
      have y4 := (y3.below b4 (by omega)).below bb (by have := b4.size; omega)
      have G4 := Lib.hid ((G3.out.below b4 (by omega)).below bb (by have := b4.size; omega))
      have X5 := Lib.hid (X4.out.below bb (Nat.le_refl _))
      have B4 := (B3.trans (b4.mono B3.size)).trans (bb.mono (by have := B3.size; have := b4.size; omega))
      have s4 := b4.size
      have s5 : (w4.alloc (.cells #[.slice ua' 0 l'.cap, .slice na' 0 nc'] 27)).heap.size = w4.heap.size + 1 := by simp
      have x4 := TwoAt.new w4 (.slice ua' 0 l'.cap) (.slice na' 0 nc') 27
      have t0 := y4.c0
      have t1 := y4.c1
      clear hx4 bb y3
      go_wp2_with fail
      generalize w4.alloc (.cells #[.slice ua' 0 l'.cap, .slice na' 0 nc'] 27) = w5 at y4 G4 X5 B4 s5 t0 t1 x4 ⊢
      go_at_call 16
      refine (sameLogic_any G4.out.logAt X5.out.logAt).mono ?_
      rintro e w6 ⟨rfl, b6⟩
      have y6 := y4.below b6 (by omega)
      have G6 := Lib.hid (G4.out.below b6 (by omega))
      have B6 := B4.trans (b6.mono B4.size)
      have s6 := b6.size
      clear t0 t1 y4 x4
      have t0 := y6.c0
      have t1 := y6.c1
      go_wp2_with fail
      go_at_call 17
      refine noLogic_any.mono ?_
      rintro e w7 ⟨rfl, b7⟩
      have B7 := B6.trans (b7.mono B6.size)
      clear t0 t1 y6
      go_wp2_with fail
      go_at_call 18
      refine (alive_any _).mono ?_
      rintro e w8 ⟨rfl, b8⟩
      have B8 := B7.trans (b8.mono B7.size)
      go_wp2_with fail
      go_ret
      exact ⟨rfl, B8⟩
end Go.Proofs.Ytgjacinolenheaa
