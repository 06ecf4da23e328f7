import Derived.Test.YtojcgmgponnlpaaZDg
namespace Go.Proofs.Ytojcgmgponnlpaa
open Go.RowKit Go.Deep

set_option maxRecDepth 100000 in
set_option maxHeartbeats 1000000 in
theorem boole_0 (w : World) : Calls Try.prog 80 #[.int .i64 0] w (MadeL 1 w) := by
  obtain ⟨i0, hi, hz0, hz1, hz2⟩ := info_parts infoInt
  have HI := Lib.hid hi
  have HZ0 := Lib.hid hz0
  have HZ1 := Lib.hid hz1
  have HZ2 := Lib.hid hz2
  clear hi hz0 hz1 hz2
  have hr0 := TwoAt.new w (.slice none 0 0) (.slice none 0 0) 26
  have hbw0 := (Below.refl w.heap.size w).alloc (Nat.le_refl _) (.cells #[.slice none 0 0, .slice none 0 0] 26)
  have hsw0 : (w.alloc (.cells #[.slice none 0 0, .slice none 0 0] 26)).heap.size = w.heap.size + 1 := by simp
  go_enter Try.func80, Try.ntmps80
  go_wp2_with fail
  go_at_call 110
  refine (sets_0 _).mono ?_
  rintro e w2 ⟨u, rv, Z, rfl, hO, hb2⟩
  obtain ⟨gu, cu, rfl, _⟩ := hO.topv (by omega)
  have hs2 := hb2.size
  rw [hsw0] at hO hb2 hs2
  have hr2 := hr0.below hb2 (by omega)
  have hbw2 := hbw0.trans (hb2.mono (by omega))
  have hbx := TwoAt.new w2 (.slice (some ⟨gu, 0, none⟩) 1 cu) (.slice none 0 0) 26
  have hbb := (Below.refl w2.heap.size w2).alloc (Nat.le_refl _) (.cells #[.slice (some ⟨gu, 0, none⟩) 1 cu, .slice none 0 0] 26)
  clear hr0 hbw0 hsw0
  go_wp2_with fail
  go_loopw [4] (fun i wr => ∃ (k : Nat) (t : Value) (y : Nat → Int), k ≤ 1 ∧ i = .int .i64 k ∧ TwoAt wr w2.heap.size (.slice (some ⟨gu, 0, none⟩) 1 cu) t ∧ IntsAt wr (w2.heap.size + 1) t k y ∧ Hid (∀ c, c < k → 0 ≤ y c ∧ y c < 1) ∧ Below w2.heap.size w2 wr) (fun i _ => 1 - (intOf i).toNat)
  case atStart => exact ⟨0, .slice none 0 0, fun _ => 0, Nat.zero_le _, rfl, hbx, IntsAt.nil _ _ _, fun c hc => absurd hc (Nat.not_lt_zero _), hbb⟩
  case round =>
    clear hbx hbb
    obtain ⟨k, t, y, hk, rfl, hbx, hT, hy, hbb⟩ := hrel
    have q0 := hbx.c0
    have q1 := hbx.c1
    have q2 := hbx.f1
    have hsz := hbb.size
    have hps : w2.heap.size < wr.heap.size := World.block_lt_of_cell? wr ⟨w2.heap.size, 1, none⟩ q1
    by_cases hlt : k < 1
    · have hlt' : (k : Int) < 1 := by omega
      have hT1 : ∀ o, ((wr.drew).alloc o).ownsRow (w2.heap.size + 1) 3 1 t k ((List.range k).map fun c => .int .i64 (y c)) := fun o => ((Chg.drew (fun _ => False) wr).trans (Chg.alloc _ _ o)).own hT (fun _ _ h => h)
      have hx1 : ∀ o, TwoAt ((wr.drew).alloc o) w2.heap.size (.slice (some ⟨gu, 0, none⟩) 1 cu) t := fun o => ((Chg.drew (fun _ => False) wr).trans (Chg.alloc _ _ o)).two hbx (fun h => h)
      have hB1 : ∀ o, Below w2.heap.size w2 ((wr.drew).alloc o) := fun o => (hbb.drew).alloc (by simpa using hsz) o
      have htb := Lib.hid (ownsRow_block hT)
      have m1 := Lib.hid (show k + 1 ≤ maxLen by unfold maxLen; omega)
      have m2 := Lib.hid (show (k + 1) * 8 ≤ 140737488355328 by omega)
      have m3 := Lib.hid (show ∀ o, w2.heap.size + 1 ≤ ((wr.drew).alloc o).heap.size from fun o => by simp; omega)
      have m4 := Lib.hid (show ∀ u ∈ [Value.int .i64 (IntKind.i64.wrap (IntKind.i64.wrap (IntKind.i64.wrap 1 - 1) - (k : Int)))], u.oneCell' = true by simp [Value.oneCell'])
      have hX : Hid (IntKind.i64.wrap (IntKind.i64.wrap (IntKind.i64.wrap 1 - 1) - (k : Int)) = 0 - (k : Int)) := by
        show _ = _
        rw [show IntKind.i64.wrap (IntKind.i64.wrap 1 - 1) = 0 from rfl, IntWalk.i64_in _ (by omega)]
      go_wp2_with fail
      go_region_law (refine step_append_own rfl (.tmp 15) (.tmp 21) 24 rfl (w2.heap.size + 1) 3 i0 (.int .i64 0) 1 8 Try.underlying24 HI.out HZ0.out HZ1.out HZ2.out rfl (by decide) t k _ (by simp [Act.eval]) (hT1 _) ⟨wr.heap.size, 0, none⟩ 1 1 [.int .i64 (IntKind.i64.wrap (IntKind.i64.wrap (IntKind.i64.wrap 1 - 1) - (k : Int)))] (by simp [Act.eval]) rfl (cell_one_new _ _ _) m4.out m1.out m2.out (m3.out _) ?_; intro v' w4 hown4 hgrow _; obtain ⟨g4, c4, rfl, hg4, hl4, _⟩ := (IntsAt.step hown4).val (by omega); have hT4 := Lib.hid (IntsAt.step hown4); have hx4 := (Chg.of_grown (S := fun j => w2.heap.size + 1 ≤ j) hgrow htb.out).two (hx1 _) (by show ¬ (w2.heap.size + 1 ≤ w2.heap.size); omega); have hb4 := (hB1 _).trans ((Chg.of_grown (S := fun j => w2.heap.size + 1 ≤ j) hgrow htb.out).below (B := w2.heap.size) (by simp; omega) (fun j hj => by have hj' : w2.heap.size + 1 ≤ j := hj; omega)); clear hown4 hgrow; have r1 := hx4.c1; have r2 := hx4.f1)
      all_goals
        go_wp2_with fail
        go_roundw
        case rel => exact ⟨k + 1, _, _, by omega, by go_num, hx4.set1 _, (Chg.set (S := fun j => j = w2.heap.size) rfl _).ints hT4.out (fun g hg e => by
          have hg' : g4 = g := by simpa [Value.ownBlock] using hg
          have e' : g = w2.heap.size := e
          omega), fun c hc => by
          show 0 ≤ (if c = k then _ else y c) ∧ (if c = k then _ else y c) < _
          by_cases e : c = k
          · rw [if_pos e, hX.out]; omega
          · rw [if_neg e]; exact hy.out c (by omega), hb4.setCell (Nat.le_refl _) _⟩
        case measure => simp [intOf]; omega
    · have hlt' : ¬ (k : Int) < 1 := by omega
      have hkn : k = 1 := by omega
      have HT : Hid (IntsAt wr (w2.heap.size + 1) t 1 y) := by subst hkn; exact hT
      have HY : Hid (∀ c, c < 1 → 0 ≤ y c ∧ y c < 1) := fun c hc => hy.out c (by omega)
      obtain ⟨g4, c4, rfl, hg4, hl4, _⟩ := HT.out.val (by omega)
      have hO2 := Lib.hid (hO.below hbb (Nat.le_refl _))
      have hr4 := hr2.below hbb (by omega)
      have p0 := hr4.f0
      have p1 := hr4.f1
      have p2 := hr4.c0
      have p3 := hr4.c1
      have hall : Hid (MadeL 1 w (.returned (.agg #[.slice (some ⟨gu, 0, none⟩) 1 cu, .slice (some ⟨g4, 0, none⟩) 1 c4])) ((wr.setCell ⟨w.heap.size, 0, none⟩ (.slice (some ⟨gu, 0, none⟩) 1 cu)).setCell ⟨w.heap.size, 1, none⟩ (.slice (some ⟨g4, 0, none⟩) 1 c4))) := by
        have hc : Chg (fun j => j = w.heap.size) wr ((wr.setCell ⟨w.heap.size, 0, none⟩ (.slice (some ⟨gu, 0, none⟩) 1 cu)).setCell ⟨w.heap.size, 1, none⟩ (.slice (some ⟨g4, 0, none⟩) 1 c4)) := (Chg.set (S := fun j => j = w.heap.size) rfl _).trans (Chg.set (S := fun j => j = w.heap.size) rfl _)
        have hL : LogO wr (w.heap.size + 1) (.slice (some ⟨gu, 0, none⟩) 1 cu) (.slice (some ⟨g4, 0, none⟩) 1 c4) 1 rv Z y := ⟨by omega, by omega, hO2.out, ownsRow_base HT.out (by omega), fun r hr e => by
          have h1 := own_lt (hO.row r hr) g4 (by rw [e]; rfl)
          omega, HY.out⟩
        exact ⟨_, _, rv, Z, y, rfl, (hL.chg hc (fun j hj => by have hj' : j = w.heap.size := hj; omega)).base (by omega), (hbw2.trans (hbb.mono (by omega))).trans (hc.below (by have := hbb.size; omega) (fun j hj => by have hj' : j = w.heap.size := hj; omega))⟩
      have hfin := (hr4.set0 (.slice (some ⟨gu, 0, none⟩) 1 cu)).set1 (.slice (some ⟨g4, 0, none⟩) 1 c4)
      have t0 := hfin.c0
      have t1 := hfin.c1
      clear hkn hT hr4 hfin hbx
      go_wp2_with fail
      exact bodyPost_ret (v := .agg #[.slice (some ⟨gu, 0, none⟩) 1 cu, .slice (some ⟨g4, 0, none⟩) 1 c4]) (by simp [results, Try.results80, go_sem, t0, t1]) rfl hall.out

set_option maxRecDepth 100000 in
set_option maxHeartbeats 1000000 in
theorem boole_1 (w : World) : Calls Try.prog 80 #[.int .i64 1] w (MadeL 2 w) := by
  obtain ⟨i0, hi, hz0, hz1, hz2⟩ := info_parts infoInt
  have HI := Lib.hid hi
  have HZ0 := Lib.hid hz0
  have HZ1 := Lib.hid hz1
  have HZ2 := Lib.hid hz2
  clear hi hz0 hz1 hz2
  have hr0 := TwoAt.new w (.slice none 0 0) (.slice none 0 0) 26
  have hbw0 := (Below.refl w.heap.size w).alloc (Nat.le_refl _) (.cells #[.slice none 0 0, .slice none 0 0] 26)
  have hsw0 : (w.alloc (.cells #[.slice none 0 0, .slice none 0 0] 26)).heap.size = w.heap.size + 1 := by simp
  go_enter Try.func80, Try.ntmps80
  go_wp2_with fail
  go_at_call 110
  refine (sets_1 _).mono ?_
  rintro e w2 ⟨u, rv, Z, rfl, hO, hb2⟩
  obtain ⟨gu, cu, rfl, _⟩ := hO.topv (by omega)
  have hs2 := hb2.size
  rw [hsw0] at hO hb2 hs2
  have hr2 := hr0.below hb2 (by omega)
  have hbw2 := hbw0.trans (hb2.mono (by omega))
  have hbx := TwoAt.new w2 (.slice (some ⟨gu, 0, none⟩) 2 cu) (.slice none 0 0) 26
  have hbb := (Below.refl w2.heap.size w2).alloc (Nat.le_refl _) (.cells #[.slice (some ⟨gu, 0, none⟩) 2 cu, .slice none 0 0] 26)
  clear hr0 hbw0 hsw0
  go_wp2_with fail
  go_loopw [4] (fun i wr => ∃ (k : Nat) (t : Value) (y : Nat → Int), k ≤ 2 ∧ i = .int .i64 k ∧ TwoAt wr w2.heap.size (.slice (some ⟨gu, 0, none⟩) 2 cu) t ∧ IntsAt wr (w2.heap.size + 1) t k y ∧ Hid (∀ c, c < k → 0 ≤ y c ∧ y c < 2) ∧ Below w2.heap.size w2 wr) (fun i _ => 2 - (intOf i).toNat)
  case atStart => exact ⟨0, .slice none 0 0, fun _ => 0, Nat.zero_le _, rfl, hbx, IntsAt.nil _ _ _, fun c hc => absurd hc (Nat.not_lt_zero _), hbb⟩
  case round =>
    clear hbx hbb
    obtain ⟨k, t, y, hk, rfl, hbx, hT, hy, hbb⟩ := hrel
    have q0 := hbx.c0
    have q1 := hbx.c1
    have q2 := hbx.f1
    have hsz := hbb.size
    have hps : w2.heap.size < wr.heap.size := World.block_lt_of_cell? wr ⟨w2.heap.size, 1, none⟩ q1
    by_cases hlt : k < 2
    · have hlt' : (k : Int) < 2 := by omega
      have hT1 : ∀ o, ((wr.drew).alloc o).ownsRow (w2.heap.size + 1) 3 1 t k ((List.range k).map fun c => .int .i64 (y c)) := fun o => ((Chg.drew (fun _ => False) wr).trans (Chg.alloc _ _ o)).own hT (fun _ _ h => h)
      have hx1 : ∀ o, TwoAt ((wr.drew).alloc o) w2.heap.size (.slice (some ⟨gu, 0, none⟩) 2 cu) t := fun o => ((Chg.drew (fun _ => False) wr).trans (Chg.alloc _ _ o)).two hbx (fun h => h)
      have hB1 : ∀ o, Below w2.heap.size w2 ((wr.drew).alloc o) := fun o => (hbb.drew).alloc (by simpa using hsz) o
      have htb := Lib.hid (ownsRow_block hT)
      have m1 := Lib.hid (show k + 1 ≤ maxLen by unfold maxLen; omega)
      have m2 := Lib.hid (show (k + 1) * 8 ≤ 140737488355328 by omega)
      have m3 := Lib.hid (show ∀ o, w2.heap.size + 1 ≤ ((wr.drew).alloc o).heap.size from fun o => by simp; omega)
      have m4 := Lib.hid (show ∀ u ∈ [Value.int .i64 (IntKind.i64.wrap (IntKind.i64.wrap (IntKind.i64.wrap 2 - 1) - (k : Int)))], u.oneCell' = true by simp [Value.oneCell'])
      have hX : Hid (IntKind.i64.wrap (IntKind.i64.wrap (IntKind.i64.wrap 2 - 1) - (k : Int)) = 1 - (k : Int)) := by
        show _ = _
        rw [show IntKind.i64.wrap (IntKind.i64.wrap 2 - 1) = 1 from rfl, IntWalk.i64_in _ (by omega)]
      go_wp2_with fail
      go_region_law (refine step_append_own rfl (.tmp 15) (.tmp 21) 24 rfl (w2.heap.size + 1) 3 i0 (.int .i64 0) 1 8 Try.underlying24 HI.out HZ0.out HZ1.out HZ2.out rfl (by decide) t k _ (by simp [Act.eval]) (hT1 _) ⟨wr.heap.size, 0, none⟩ 1 1 [.int .i64 (IntKind.i64.wrap (IntKind.i64.wrap (IntKind.i64.wrap 2 - 1) - (k : Int)))] (by simp [Act.eval]) rfl (cell_one_new _ _ _) m4.out m1.out m2.out (m3.out _) ?_; intro v' w4 hown4 hgrow _; obtain ⟨g4, c4, rfl, hg4, hl4, _⟩ := (IntsAt.step hown4).val (by omega); have hT4 := Lib.hid (IntsAt.step hown4); have hx4 := (Chg.of_grown (S := fun j => w2.heap.size + 1 ≤ j) hgrow htb.out).two (hx1 _) (by show ¬ (w2.heap.size + 1 ≤ w2.heap.size); omega); have hb4 := (hB1 _).trans ((Chg.of_grown (S := fun j => w2.heap.size + 1 ≤ j) hgrow htb.out).below (B := w2.heap.size) (by simp; omega) (fun j hj => by have hj' : w2.heap.size + 1 ≤ j := hj; omega)); clear hown4 hgrow; have r1 := hx4.c1; have r2 := hx4.f1)
      all_goals
        go_wp2_with fail
        go_roundw
        case rel => exact ⟨k + 1, _, _, by omega, by go_num, hx4.set1 _, (Chg.set (S := fun j => j = w2.heap.size) rfl _).ints hT4.out (fun g hg e => by
          have hg' : g4 = g := by simpa [Value.ownBlock] using hg
          have e' : g = w2.heap.size := e
          omega), fun c hc => by
          show 0 ≤ (if c = k then _ else y c) ∧ (if c = k then _ else y c) < _
          by_cases e : c = k
          · rw [if_pos e, hX.out]; omega
          · rw [if_neg e]; exact hy.out c (by omega), hb4.setCell (Nat.le_refl _) _⟩
        case measure => simp [intOf]; omega
    · have hlt' : ¬ (k : Int) < 2 := by omega
      have hkn : k = 2 := by omega
      have HT : Hid (IntsAt wr (w2.heap.size + 1) t 2 y) := by subst hkn; exact hT
      have HY : Hid (∀ c, c < 2 → 0 ≤ y c ∧ y c < 2) := fun c hc => hy.out c (by omega)
      obtain ⟨g4, c4, rfl, hg4, hl4, _⟩ := HT.out.val (by omega)
      have hO2 := Lib.hid (hO.below hbb (Nat.le_refl _))
      have hr4 := hr2.below hbb (by omega)
      have p0 := hr4.f0
      have p1 := hr4.f1
      have p2 := hr4.c0
      have p3 := hr4.c1
      have hall : Hid (MadeL 2 w (.returned (.agg #[.slice (some ⟨gu, 0, none⟩) 2 cu, .slice (some ⟨g4, 0, none⟩) 2 c4])) ((wr.setCell ⟨w.heap.size, 0, none⟩ (.slice (some ⟨gu, 0, none⟩) 2 cu)).setCell ⟨w.heap.size, 1, none⟩ (.slice (some ⟨g4, 0, none⟩) 2 c4))) := by
        have hc : Chg (fun j => j = w.heap.size) wr ((wr.setCell ⟨w.heap.size, 0, none⟩ (.slice (some ⟨gu, 0, none⟩) 2 cu)).setCell ⟨w.heap.size, 1, none⟩ (.slice (some ⟨g4, 0, none⟩) 2 c4)) := (Chg.set (S := fun j => j = w.heap.size) rfl _).trans (Chg.set (S := fun j => j = w.heap.size) rfl _)
        have hL : LogO wr (w.heap.size + 1) (.slice (some ⟨gu, 0, none⟩) 2 cu) (.slice (some ⟨g4, 0, none⟩) 2 c4) 2 rv Z y := ⟨by omega, by omega, hO2.out, ownsRow_base HT.out (by omega), fun r hr e => by
          have h1 := own_lt (hO.row r hr) g4 (by rw [e]; rfl)
          omega, HY.out⟩
        exact ⟨_, _, rv, Z, y, rfl, (hL.chg hc (fun j hj => by have hj' : j = w.heap.size := hj; omega)).base (by omega), (hbw2.trans (hbb.mono (by omega))).trans (hc.below (by have := hbb.size; omega) (fun j hj => by have hj' : j = w.heap.size := hj; omega))⟩
      have hfin := (hr4.set0 (.slice (some ⟨gu, 0, none⟩) 2 cu)).set1 (.slice (some ⟨g4, 0, none⟩) 2 c4)
      have t0 := hfin.c0
      have t1 := hfin.c1
      clear hkn hT hr4 hfin hbx
      go_wp2_with fail
      exact bodyPost_ret (v := .agg #[.slice (some ⟨gu, 0, none⟩) 2 cu, .slice (some ⟨g4, 0, none⟩) 2 c4]) (by simp [results, Try.results80, go_sem, t0, t1]) rfl hall.out

set_option maxRecDepth 100000 in
set_option maxHeartbeats 1000000 in
theorem boole_2 (w : World) : Calls Try.prog 80 #[.int .i64 2] w (MadeL 4 w) := by
  obtain ⟨i0, hi, hz0, hz1, hz2⟩ := info_parts infoInt
  have HI := Lib.hid hi
  have HZ0 := Lib.hid hz0
  have HZ1 := Lib.hid hz1
  have HZ2 := Lib.hid hz2
  clear hi hz0 hz1 hz2
  have hr0 := TwoAt.new w (.slice none 0 0) (.slice none 0 0) 26
  have hbw0 := (Below.refl w.heap.size w).alloc (Nat.le_refl _) (.cells #[.slice none 0 0, .slice none 0 0] 26)
  have hsw0 : (w.alloc (.cells #[.slice none 0 0, .slice none 0 0] 26)).heap.size = w.heap.size + 1 := by simp
  go_enter Try.func80, Try.ntmps80
  go_wp2_with fail
  go_at_call 110
  refine (sets_2 _).mono ?_
  rintro e w2 ⟨u, rv, Z, rfl, hO, hb2⟩
  obtain ⟨gu, cu, rfl, _⟩ := hO.topv (by omega)
  have hs2 := hb2.size
  rw [hsw0] at hO hb2 hs2
  have hr2 := hr0.below hb2 (by omega)
  have hbw2 := hbw0.trans (hb2.mono (by omega))
  have hbx := TwoAt.new w2 (.slice (some ⟨gu, 0, none⟩) 4 cu) (.slice none 0 0) 26
  have hbb := (Below.refl w2.heap.size w2).alloc (Nat.le_refl _) (.cells #[.slice (some ⟨gu, 0, none⟩) 4 cu, .slice none 0 0] 26)
  clear hr0 hbw0 hsw0
  go_wp2_with fail
  go_loopw [4] (fun i wr => ∃ (k : Nat) (t : Value) (y : Nat → Int), k ≤ 4 ∧ i = .int .i64 k ∧ TwoAt wr w2.heap.size (.slice (some ⟨gu, 0, none⟩) 4 cu) t ∧ IntsAt wr (w2.heap.size + 1) t k y ∧ Hid (∀ c, c < k → 0 ≤ y c ∧ y c < 4) ∧ Below w2.heap.size w2 wr) (fun i _ => 4 - (intOf i).toNat)
  case atStart => exact ⟨0, .slice none 0 0, fun _ => 0, Nat.zero_le _, rfl, hbx, IntsAt.nil _ _ _, fun c hc => absurd hc (Nat.not_lt_zero _), hbb⟩
  case round =>
    clear hbx hbb
    obtain ⟨k, t, y, hk, rfl, hbx, hT, hy, hbb⟩ := hrel
    have q0 := hbx.c0
    have q1 := hbx.c1
    have q2 := hbx.f1
    have hsz := hbb.size
    have hps : w2.heap.size < wr.heap.size := World.block_lt_of_cell? wr ⟨w2.heap.size, 1, none⟩ q1
    by_cases hlt : k < 4
    · have hlt' : (k : Int) < 4 := by omega
      have hT1 : ∀ o, ((wr.drew).alloc o).ownsRow (w2.heap.size + 1) 3 1 t k ((List.range k).map fun c => .int .i64 (y c)) := fun o => ((Chg.drew (fun _ => False) wr).trans (Chg.alloc _ _ o)).own hT (fun _ _ h => h)
      have hx1 : ∀ o, TwoAt ((wr.drew).alloc o) w2.heap.size (.slice (some ⟨gu, 0, none⟩) 4 cu) t := fun o => ((Chg.drew (fun _ => False) wr).trans (Chg.alloc _ _ o)).two hbx (fun h => h)
      have hB1 : ∀ o, Below w2.heap.size w2 ((wr.drew).alloc o) := fun o => (hbb.drew).alloc (by simpa using hsz) o
      have htb := Lib.hid (ownsRow_block hT)
      have m1 := Lib.hid (show k + 1 ≤ maxLen by unfold maxLen; omega)
      have m2 := Lib.hid (show (k + 1) * 8 ≤ 140737488355328 by omega)
      have m3 := Lib.hid (show ∀ o, w2.heap.size + 1 ≤ ((wr.drew).alloc o).heap.size from fun o => by simp; omega)
      have m4 := Lib.hid (show ∀ u ∈ [Value.int .i64 (IntKind.i64.wrap (IntKind.i64.wrap (IntKind.i64.wrap 4 - 1) - (k : Int)))], u.oneCell' = true by simp [Value.oneCell'])
      have hX : Hid (IntKind.i64.wrap (IntKind.i64.wrap (IntKind.i64.wrap 4 - 1) - (k : Int)) = 3 - (k : Int)) := by
        show _ = _
        rw [show IntKind.i64.wrap (IntKind.i64.wrap 4 - 1) = 3 from rfl, IntWalk.i64_in _ (by omega)]
      go_wp2_with fail
      go_region_law (refine step_append_own rfl (.tmp 15) (.tmp 21) 24 rfl (w2.heap.size + 1) 3 i0 (.int .i64 0) 1 8 Try.underlying24 HI.out HZ0.out HZ1.out HZ2.out rfl (by decide) t k _ (by simp [Act.eval]) (hT1 _) ⟨wr.heap.size, 0, none⟩ 1 1 [.int .i64 (IntKind.i64.wrap (IntKind.i64.wrap (IntKind.i64.wrap 4 - 1) - (k : Int)))] (by simp [Act.eval]) rfl (cell_one_new _ _ _) m4.out m1.out m2.out (m3.out _) ?_; intro v' w4 hown4 hgrow _; obtain ⟨g4, c4, rfl, hg4, hl4, _⟩ := (IntsAt.step hown4).val (by omega); have hT4 := Lib.hid (IntsAt.step hown4); have hx4 := (Chg.of_grown (S := fun j => w2.heap.size + 1 ≤ j) hgrow htb.out).two (hx1 _) (by show ¬ (w2.heap.size + 1 ≤ w2.heap.size); omega); have hb4 := (hB1 _).trans ((Chg.of_grown (S := fun j => w2.heap.size + 1 ≤ j) hgrow htb.out).below (B := w2.heap.size) (by simp; omega) (fun j hj => by have hj' : w2.heap.size + 1 ≤ j := hj; omega)); clear hown4 hgrow; have r1 := hx4.c1; have r2 := hx4.f1)
      all_goals
        go_wp2_with fail
        go_roundw
        case rel => exact ⟨k + 1, _, _, by omega, by go_num, hx4.set1 _, (Chg.set (S := fun j => j = w2.heap.size) rfl _).ints hT4.out (fun g hg e => by
          have hg' : g4 = g := by simpa [Value.ownBlock] using hg
          have e' : g = w2.heap.size := e
          omega), fun c hc => by
          show 0 ≤ (if c = k then _ else y c) ∧ (if c = k then _ else y c) < _
          by_cases e : c = k
          · rw [if_pos e, hX.out]; omega
          · rw [if_neg e]; exact hy.out c (by omega), hb4.setCell (Nat.le_refl _) _⟩
        case measure => simp [intOf]; omega
    · have hlt' : ¬ (k : Int) < 4 := by omega
      have hkn : k = 4 := by omega
      have HT : Hid (IntsAt wr (w2.heap.size + 1) t 4 y) := by subst hkn; exact hT
      have HY : Hid (∀ c, c < 4 → 0 ≤ y c ∧ y c < 4) := fun c hc => hy.out c (by omega)
      obtain ⟨g4, c4, rfl, hg4, hl4, _⟩ := HT.out.val (by omega)
      have hO2 := Lib.hid (hO.below hbb (Nat.le_refl _))
      have hr4 := hr2.below hbb (by omega)
      have p0 := hr4.f0
      have p1 := hr4.f1
      have p2 := hr4.c0
      have p3 := hr4.c1
      have hall : Hid (MadeL 4 w (.returned (.agg #[.slice (some ⟨gu, 0, none⟩) 4 cu, .slice (some ⟨g4, 0, none⟩) 4 c4])) ((wr.setCell ⟨w.heap.size, 0, none⟩ (.slice (some ⟨gu, 0, none⟩) 4 cu)).setCell ⟨w.heap.size, 1, none⟩ (.slice (some ⟨g4, 0, none⟩) 4 c4))) := by
        have hc : Chg (fun j => j = w.heap.size) wr ((wr.setCell ⟨w.heap.size, 0, none⟩ (.slice (some ⟨gu, 0, none⟩) 4 cu)).setCell ⟨w.heap.size, 1, none⟩ (.slice (some ⟨g4, 0, none⟩) 4 c4)) := (Chg.set (S := fun j => j = w.heap.size) rfl _).trans (Chg.set (S := fun j => j = w.heap.size) rfl _)
        have hL : LogO wr (w.heap.size + 1) (.slice (some ⟨gu, 0, none⟩) 4 cu) (.slice (some ⟨g4, 0, none⟩) 4 c4) 4 rv Z y := ⟨by omega, by omega, hO2.out, ownsRow_base HT.out (by omega), fun r hr e => by
          have h1 := own_lt (hO.row r hr) g4 (by rw [e]; rfl)
          omega, HY.out⟩
        exact ⟨_, _, rv, Z, y, rfl, (hL.chg hc (fun j hj => by have hj' : j = w.heap.size := hj; omega)).base (by omega), (hbw2.trans (hbb.mono (by omega))).trans (hc.below (by have := hbb.size; omega) (fun j hj => by have hj' : j = w.heap.size := hj; omega))⟩
      have hfin := (hr4.set0 (.slice (some ⟨gu, 0, none⟩) 4 cu)).set1 (.slice (some ⟨g4, 0, none⟩) 4 c4)
      have t0 := hfin.c0
      have t1 := hfin.c1
      clear hkn hT hr4 hfin hbx
      go_wp2_with fail
      exact bodyPost_ret (v := .agg #[.slice (some ⟨gu, 0, none⟩) 4 cu, .slice (some ⟨g4, 0, none⟩) 4 c4]) (by simp [results, Try.results80, go_sem, t0, t1]) rfl hall.out

set_option maxRecDepth 100000 in
set_option maxHeartbeats 1000000 in
theorem boole_3 (w : World) : Calls Try.prog 80 #[.int .i64 3] w (MadeL 8 w) := by
  obtain ⟨i0, hi, hz0, hz1, hz2⟩ := info_parts infoInt
  have HI := Lib.hid hi
  have HZ0 := Lib.hid hz0
  have HZ1 := Lib.hid hz1
  have HZ2 := Lib.hid hz2
  clear hi hz0 hz1 hz2
  have hr0 := TwoAt.new w (.slice none 0 0) (.slice none 0 0) 26
  have hbw0 := (Below.refl w.heap.size w).alloc (Nat.le_refl _) (.cells #[.slice none 0 0, .slice none 0 0] 26)
  have hsw0 : (w.alloc (.cells #[.slice none 0 0, .slice none 0 0] 26)).heap.size = w.heap.size + 1 := by simp
  go_enter Try.func80, Try.ntmps80
  go_wp2_with fail
  go_at_call 110
  refine (sets_3 _).mono ?_
  rintro e w2 ⟨u, rv, Z, rfl, hO, hb2⟩
  obtain ⟨gu, cu, rfl, _⟩ := hO.topv (by omega)
  have hs2 := hb2.size
  rw [hsw0] at hO hb2 hs2
  have hr2 := hr0.below hb2 (by omega)
  have hbw2 := hbw0.trans (hb2.mono (by omega))
  have hbx := TwoAt.new w2 (.slice (some ⟨gu, 0, none⟩) 8 cu) (.slice none 0 0) 26
  have hbb := (Below.refl w2.heap.size w2).alloc (Nat.le_refl _) (.cells #[.slice (some ⟨gu, 0, none⟩) 8 cu, .slice none 0 0] 26)
  clear hr0 hbw0 hsw0
  go_wp2_with fail
  go_loopw [4] (fun i wr => ∃ (k : Nat) (t : Value) (y : Nat → Int), k ≤ 8 ∧ i = .int .i64 k ∧ TwoAt wr w2.heap.size (.slice (some ⟨gu, 0, none⟩) 8 cu) t ∧ IntsAt wr (w2.heap.size + 1) t k y ∧ Hid (∀ c, c < k → 0 ≤ y c ∧ y c < 8) ∧ Below w2.heap.size w2 wr) (fun i _ => 8 - (intOf i).toNat)
  case atStart => exact ⟨0, .slice none 0 0, fun _ => 0, Nat.zero_le _, rfl, hbx, IntsAt.nil _ _ _, fun c hc => absurd hc (Nat.not_lt_zero _), hbb⟩
  case round =>
    clear hbx hbb
    obtain ⟨k, t, y, hk, rfl, hbx, hT, hy, hbb⟩ := hrel
    have q0 := hbx.c0
    have q1 := hbx.c1
    have q2 := hbx.f1
    have hsz := hbb.size
    have hps : w2.heap.size < wr.heap.size := World.block_lt_of_cell? wr ⟨w2.heap.size, 1, none⟩ q1
    by_cases hlt : k < 8
    · have hlt' : (k : Int) < 8 := by omega
      have hT1 : ∀ o, ((wr.drew).alloc o).ownsRow (w2.heap.size + 1) 3 1 t k ((List.range k).map fun c => .int .i64 (y c)) := fun o => ((Chg.drew (fun _ => False) wr).trans (Chg.alloc _ _ o)).own hT (fun _ _ h => h)
      have hx1 : ∀ o, TwoAt ((wr.drew).alloc o) w2.heap.size (.slice (some ⟨gu, 0, none⟩) 8 cu) t := fun o => ((Chg.drew (fun _ => False) wr).trans (Chg.alloc _ _ o)).two hbx (fun h => h)
      have hB1 : ∀ o, Below w2.heap.size w2 ((wr.drew).alloc o) := fun o => (hbb.drew).alloc (by simpa using hsz) o
      have htb := Lib.hid (ownsRow_block hT)
      have m1 := Lib.hid (show k + 1 ≤ maxLen by unfold maxLen; omega)
      have m2 := Lib.hid (show (k + 1) * 8 ≤ 140737488355328 by omega)
      have m3 := Lib.hid (show ∀ o, w2.heap.size + 1 ≤ ((wr.drew).alloc o).heap.size from fun o => by simp; omega)
      have m4 := Lib.hid (show ∀ u ∈ [Value.int .i64 (IntKind.i64.wrap (IntKind.i64.wrap (IntKind.i64.wrap 8 - 1) - (k : Int)))], u.oneCell' = true by simp [Value.oneCell'])
      have hX : Hid (IntKind.i64.wrap (IntKind.i64.wrap (IntKind.i64.wrap 8 - 1) - (k : Int)) = 7 - (k : Int)) := by
        show _ = _
        rw [show IntKind.i64.wrap (IntKind.i64.wrap 8 - 1) = 7 from rfl, IntWalk.i64_in _ (by omega)]
      go_wp2_with fail
      go_region_law (refine step_append_own rfl (.tmp 15) (.tmp 21) 24 rfl (w2.heap.size + 1) 3 i0 (.int .i64 0) 1 8 Try.underlying24 HI.out HZ0.out HZ1.out HZ2.out rfl (by decide) t k _ (by simp [Act.eval]) (hT1 _) ⟨wr.heap.size, 0, none⟩ 1 1 [.int .i64 (IntKind.i64.wrap (IntKind.i64.wrap (IntKind.i64.wrap 8 - 1) - (k : Int)))] (by simp [Act.eval]) rfl (cell_one_new _ _ _) m4.out m1.out m2.out (m3.out _) ?_; intro v' w4 hown4 hgrow _; obtain ⟨g4, c4, rfl, hg4, hl4, _⟩ := (IntsAt.step hown4).val (by omega); have hT4 := Lib.hid (IntsAt.step hown4); have hx4 := (Chg.of_grown (S := fun j => w2.heap.size + 1 ≤ j) hgrow htb.out).two (hx1 _) (by show ¬ (w2.heap.size + 1 ≤ w2.heap.size); omega); have hb4 := (hB1 _).trans ((Chg.of_grown (S := fun j => w2.heap.size + 1 ≤ j) hgrow htb.out).below (B := w2.heap.size) (by simp; omega) (fun j hj => by have hj' : w2.heap.size + 1 ≤ j := hj; omega)); clear hown4 hgrow; have r1 := hx4.c1; have r2 := hx4.f1)
      all_goals
        go_wp2_with fail
        go_roundw
        case rel => exact ⟨k + 1, _, _, by omega, by go_num, hx4.set1 _, (Chg.set (S := fun j => j = w2.heap.size) rfl _).ints hT4.out (fun g hg e => by
          have hg' : g4 = g := by simpa [Value.ownBlock] using hg
          have e' : g = w2.heap.size := e
          omega), fun c hc => by
          show 0 ≤ (if c = k then _ else y c) ∧ (if c = k then _ else y c) < _
          by_cases e : c = k
          · rw [if_pos e, hX.out]; omega
          · rw [if_neg e]; exact hy.out c (by omega), hb4.setCell (Nat.le_refl _) _⟩
        case measure => simp [intOf]; omega
    · have hlt' : ¬ (k : Int) < 8 := by omega
      have hkn : k = 8 := by omega
      have HT : Hid (IntsAt wr (w2.heap.size + 1) t 8 y) := by subst hkn; exact hT
      have HY : Hid (∀ c, c < 8 → 0 ≤ y c ∧ y c < 8) := fun c hc => hy.out c (by omega)
      obtain ⟨g4, c4, rfl, hg4, hl4, _⟩ := HT.out.val (by omega)
      have hO2 := Lib.hid (hO.below hbb (Nat.le_refl _))
      have hr4 := hr2.below hbb (by omega)
      have p0 := hr4.f0
      have p1 := hr4.f1
      have p2 := hr4.c0
      have p3 := hr4.c1
      have hall : Hid (MadeL 8 w (.returned (.agg #[.slice (some ⟨gu, 0, none⟩) 8 cu, .slice (some ⟨g4, 0, none⟩) 8 c4])) ((wr.setCell ⟨w.heap.size, 0, none⟩ (.slice (some ⟨gu, 0, none⟩) 8 cu)).setCell ⟨w.heap.size, 1, none⟩ (.slice (some ⟨g4, 0, none⟩) 8 c4))) := by
        have hc : Chg (fun j => j = w.heap.size) wr ((wr.setCell ⟨w.heap.size, 0, none⟩ (.slice (some ⟨gu, 0, none⟩) 8 cu)).setCell ⟨w.heap.size, 1, none⟩ (.slice (some ⟨g4, 0, none⟩) 8 c4)) := (Chg.set (S := fun j => j = w.heap.size) rfl _).trans (Chg.set (S := fun j => j = w.heap.size) rfl _)
        have hL : LogO wr (w.heap.size + 1) (.slice (some ⟨gu, 0, none⟩) 8 cu) (.slice (some ⟨g4, 0, none⟩) 8 c4) 8 rv Z y := ⟨by omega, by omega, hO2.out, ownsRow_base HT.out (by omega), fun r hr e => by
          have h1 := own_lt (hO.row r hr) g4 (by rw [e]; rfl)
          omega, HY.out⟩
        exact ⟨_, _, rv, Z, y, rfl, (hL.chg hc (fun j hj => by have hj' : j = w.heap.size := hj; omega)).base (by omega), (hbw2.trans (hbb.mono (by omega))).trans (hc.below (by have := hbb.size; omega) (fun j hj => by have hj' : j = w.heap.size := hj; omega))⟩
      have hfin := (hr4.set0 (.slice (some ⟨gu, 0, none⟩) 8 cu)).set1 (.slice (some ⟨g4, 0, none⟩) 8 c4)
      have t0 := hfin.c0
      have t1 := hfin.c1
      clear hkn hT hr4 hfin hbx
      go_wp2_with fail
      exact bodyPost_ret (v := .agg #[.slice (some ⟨gu, 0, none⟩) 8 cu, .slice (some ⟨g4, 0, none⟩) 8 c4]) (by simp [results, Try.results80, go_sem, t0, t1]) rfl hall.out

/-- Whatever number of things, up to three. -/
theorem boole_any (w : World) {v : Int} (h0 : 0 ≤ v) (h4 : v < 4) : Calls Try.prog 80 #[.int .i64 v] w fun e w' => ∃ n, n ≤ 8 ∧ MadeL n w e w' := by
  have hv : v = 0 ∨ v = 1 ∨ v = 2 ∨ v = 3 := by omega
  rcases hv with rfl | rfl | rfl | rfl
  · exact (boole_0 w).mono fun _ _ h => ⟨1, by omega, h⟩
  · exact (boole_1 w).mono fun _ _ h => ⟨2, by omega, h⟩
  · exact (boole_2 w).mono fun _ _ h => ⟨4, by omega, h⟩
  · exact (boole_3 w).mono fun _ _ h => ⟨8, by omega, h⟩
end Go.Proofs.Ytojcgmgponnlpaa
