/- The walk of the reference's SetsOf. The walks of the laws' marks on logics: numbers written into all rows and opposites that may be written, and found there again. Logics that a law marks: as they lie in memory, each block apart; the walks of marking one, and of finding the marks. A copy of a logic, as one that may be marked. How large logics are, reckoned on from what is left. -/
import Derived.Test.YtojcgmgponnlpaaFe
import Derived.Test.YtojcgmgponnlpaaDi
import Derived.Test.YtojcgmgponnlpaaWv
import Derived.Test.YtojcgmgponnlpaaOa
namespace Go.Proofs.Ytojcgmgponnlpaa
open Go.RowKit Go.Deep

/-- What a loop that makes a logic row by row keeps: the result's box, and all that was. -/
structure BoxS (w : World) (p P0 : Nat) (wr : World) : Prop where
  res : TwoAt wr p (.slice none 0 0) (.slice none 0 0)
  old : Below w.heap.size w wr
  lt : p < P0
  wp : w.heap.size ≤ p
  size : P0 < wr.heap.size
theorem BoxS.chg {w wr w' : World} {p P0 : Nat} (h : BoxS w p P0 wr) (hc : Chg (fun j => j = P0 ∨ P0 + 1 ≤ j) wr w') : BoxS w p P0 w' :=
  have h1 := h.lt
  have h2 := h.wp
  ⟨hc.two h.res (by show ¬ (_ ∨ _); omega), h.old.trans (hc.below (by have := h.size; omega) fun j hj => by have hj' : j = P0 ∨ P0 + 1 ≤ j := hj; omega), h.lt, h.wp, Nat.lt_of_lt_of_le h.size hc.size⟩
theorem BoxS.below {w wr w' : World} {p P0 : Nat} (h : BoxS w p P0 wr) (hb : Below wr.heap.size wr w') : BoxS w p P0 w' :=
  h.chg (Chg.of_below hb fun j hj hB => absurd hj (by omega))
theorem sets_bits_t {x y : Nat} (hx : x < 8) (hy : y < 8) (h : setsZ x y = 1) : (bits BinOp.and IntKind.i64 (x : Int) (y : Int) == (x : Int)) = true := by
  rw [sets_bits x hx y hy]
  unfold setsZ at h
  unfold setsB
  split at h
  · simpa using ‹_›
  · cases h
theorem sets_bits_f {x y : Nat} (hx : x < 8) (hy : y < 8) (h : setsZ x y = 0) : (bits BinOp.and IntKind.i64 (x : Int) (y : Int) == (x : Int)) = false := by
  rw [sets_bits x hx y hy]
  unfold setsZ at h
  unfold setsB
  split at h
  · cases h
  · simpa using ‹_›
theorem setsZ_ways (x y : Nat) : setsZ x y = 0 ∨ setsZ x y = 1 := by
  unfold setsZ
  split
  · exact .inr rfl
  · exact .inl rfl
/-- A row under way: the numbers told so far. -/
theorem IntsAt.told {w : World} {base : Nat} {t : Value} {k : Nat} {z : Nat → Int} (h : w.ownsRow base 3 1 t (k + 1) ((List.range k).map (fun c => .int .i64 (z c)) ++ [.int .i64 (z k)])) : IntsAt w base t (k + 1) z := by
  have := IntsAt.step h
  have e : (fun c => if c = k then z k else z c) = z := by
    funext c
    by_cases e1 : c = k
    · rw [if_pos e1, e1]
    · rw [if_neg e1]
  rw [e] at this
  exact this

set_option maxRecDepth 100000 in
set_option maxHeartbeats 2000000 in
theorem spec_SetsOf_0 (w : World) : Calls Try.prog 31 #[.int .i64 0] w (MadeOk w 1 setsZ (setsY 1) true) := by
  obtain ⟨i0, hi, hz0, hz1, hz2⟩ := info_parts infoInt
  have HI := Lib.hid hi
  have HZ0 := Lib.hid hz0
  have HZ1 := Lib.hid hz1
  have HZ2 := Lib.hid hz2
  obtain ⟨i1, hj, hy0, hy1, hy2⟩ := info_parts infoInts
  have HJ := Lib.hid hj
  have HY0 := Lib.hid hy0
  have HY1 := Lib.hid hy1
  have HY2 := Lib.hid hy2
  clear hi hz0 hz1 hz2 hj hy0 hy1 hy2
  have hr0 := TwoAt.new w (.slice none 0 0) (.slice none 0 0) 26
  have hl0 := TwoAt.new (w.alloc (.cells #[.slice none 0 0, .slice none 0 0] 26)) (.slice none 0 0) (.slice none 0 0) 26
  have hr1 := hr0.below ((Below.refl _ (w.alloc (.cells #[.slice none 0 0, .slice none 0 0] 26))).alloc (Nat.le_refl _) (.cells #[.slice none 0 0, .slice none 0 0] 26)) (by simp)
  have B1 := ((Below.refl w.heap.size w).alloc (Nat.le_refl _) (.cells #[.slice none 0 0, .slice none 0 0] 26)).alloc (by simp) (.cells #[.slice none 0 0, .slice none 0 0] 26)
  simp only [World.size_alloc] at hl0
  have hX0 : BoxS w w.heap.size (w.heap.size + 1) _ := ⟨hr1, B1, by omega, Nat.le_refl _, by simp⟩
  have hM0 := MakeAt.begin (N := 1) (base := w.heap.size + 1 + 1) setsZ (fun c => (setsY 1 c : Int)) (by omega) hl0
  clear hr0 hl0 hr1 B1
  go_enter Try.func31, Try.ntmps31
  go_wp2_with fail
  go_at_call 56
  refine (l1In_any _ _ _ _).mono ?_
  rintro e w1 ⟨rfl, rfl⟩
  go_wp2_with fail
  generalize (w.alloc (.cells #[.slice none 0 0, .slice none 0 0] 26)).alloc (.cells #[.slice none 0 0, .slice none 0 0] 26) = w2 at hX0 hM0 ⊢
  go_loopw [5] (fun i wr => ∃ (k : Nat) (u t : Value) (rv : Nat → Value), k ≤ 1 ∧ i = .int .i64 k ∧ BoxS w w.heap.size (w.heap.size + 1) wr ∧ MakeAt wr (w.heap.size + 1) (w.heap.size + 1 + 1) u t k k 1 rv setsZ (fun c => (setsY 1 c : Int))) (fun i _ => 1 - (intOf i).toNat)
  case atStart => exact ⟨0, _, _, _, Nat.zero_le _, rfl, hX0, hM0⟩
  case round =>
    clear hX0 hM0
    obtain ⟨k, u, t, rv, hk, rfl, hX, hM⟩ := hrel
    have hS := hX.size
    by_cases hlt : k < 1
    · have hlt' : (k : Int) < 1 := by omega
      obtain ⟨wo, rfl⟩ : ∃ wo : World, wo = wr := ⟨_, rfl⟩
      have hrow0 : IntsAt (wo.alloc (.cells #[] 3)) wo.heap.size (.slice (some ⟨wo.heap.size, 0, none⟩) 0 0) 0 (setsZ k) := World.ownsRow_lit (base := wo.heap.size) (e := 3) (size := 1) wo #[] 0 (Nat.le_refl _) (Nat.zero_le _) rfl
      have hbr := (Below.refl wo.heap.size wo).alloc (Nat.le_refl _) (.cells #[] 3)
      go_wp2_with fail
      go_loopw [6, 7] (fun t i wi => ∃ j : Nat, j ≤ 1 ∧ i = .int .i64 j ∧ IntsAt wi wo.heap.size t j (setsZ k) ∧ Below wo.heap.size wo wi) (fun _ i _ => 1 - (intOf i).toNat)
      case atStart => exact ⟨0, Nat.zero_le _, rfl, hrow0, hbr⟩
      case round =>
        clear hrow0 hbr
        obtain ⟨j, hj, rfl, hown, hWi⟩ := hrel
        have hws := hWi.size
        by_cases hjt : j < 1
        · have hjt' : (j : Int) < 1 := by omega
          have htb := Lib.hid (ownsRow_block hown)
          rcases setsZ_ways k j with hz | hz
          · have hb := sets_bits_f (by omega) (by omega) hz
            have HZ := Lib.hid hz
            clear hz
            go_wp2_with (at_builtin; refine wpList_append_own _ rfl _ _ 24 rfl wo.heap.size 3 i0 (.int .i64 0) 1 8 Try.underlying24 HI.out HZ0.out HZ1.out HZ2.out rfl (by decide) _ _ _ rfl (hown.alloc _) ⟨wr.heap.size, 0, none⟩ 1 1 [.int .i64 0] rfl rfl (cell_one_new _ _ _) ?c2 ?c3 ?c4 ?c5 ?_)
            case c2 => simp [Value.oneCell']
            case c3 => unfold maxLen; omega
            case c4 => omega
            case c5 => first | omega | (simp; omega)
            intro v6 w6 hown6 hgrow6 _
            have hown7 : Hid (IntsAt w6 wo.heap.size v6 (j + 1) (setsZ k)) := IntsAt.told (by rw [HZ.out]; exact hown6)
            have hW6 := (hWi.alloc hws _).grown hgrow6 (by simp; omega) htb.out
            clear hown6 hgrow6 hown hb
            go_wp2_with fail
            go_roundw
            case rel => exact ⟨j + 1, by omega, by go_num, hown7.out, hW6⟩
            case measure => simp [intOf]; omega
          · have hb := sets_bits_t (by omega) (by omega) hz
            have HZ := Lib.hid hz
            clear hz
            go_wp2_with (at_builtin; refine wpList_append_own _ rfl _ _ 24 rfl wo.heap.size 3 i0 (.int .i64 0) 1 8 Try.underlying24 HI.out HZ0.out HZ1.out HZ2.out rfl (by decide) _ _ _ rfl (hown.alloc _) ⟨wr.heap.size, 0, none⟩ 1 1 [.int .i64 1] rfl rfl (cell_one_new _ _ _) ?e2 ?e3 ?e4 ?e5 ?_)
            case e2 => simp [Value.oneCell']
            case e3 => unfold maxLen; omega
            case e4 => omega
            case e5 => first | omega | (simp; omega)
            intro v6 w6 hown6 hgrow6 _
            have hown7 : Hid (IntsAt w6 wo.heap.size v6 (j + 1) (setsZ k)) := IntsAt.told (by rw [HZ.out]; exact hown6)
            have hW6 := (hWi.alloc hws _).grown hgrow6 (by simp; omega) htb.out
            clear hown6 hgrow6 hown hb
            go_wp2_with fail
            go_roundw
            case rel => exact ⟨j + 1, by omega, by go_num, hown7.out, hW6⟩
            case measure => simp [intOf]; omega
        · have hjt' : ¬ (j : Int) < 1 := by omega
          have hjn : j = 1 := by omega
          have hrow : IntsAt wr wo.heap.size u6 1 (setsZ k) := by subst hjn; exact hown
          have hM1 := Lib.hid (hM.below hWi)
          have hq := hM1.out.box.c0
          have hqf := hM1.out.box.f0
          obtain ⟨gk, ck, rfl, hgk, hgl, _⟩ := hrow.val (by omega)
          have hbl := Lib.hid (ownsRow_block hM1.out.out.top)
          have hsi := hWi.size
          clear hjn hown
          go_wp2_with (at_builtin; refine wpList_append_own _ rfl _ _ 23 rfl (w.heap.size + 1 + 1) 24 i1 (.slice none 0 0) 1 24 Try.underlying23 HJ.out HY0.out HY1.out HY2.out rfl (by decide) _ _ _ rfl (hM1.out.out.top.alloc _) ⟨wr.heap.size, 0, none⟩ 1 1 [.slice (some ⟨gk, 0, none⟩) 1 ck] rfl rfl (cell_one_new _ _ _) ?d2 ?d3 ?d4 ?d5 ?_)
          case d2 => simp [Value.oneCell']
          case d3 => unfold maxLen; omega
          case d4 => omega
          case d5 => first | omega | (simp; omega)
          intro v' w4 hown4 hgrow _
          have HX := hM.row' (by omega) hWi hrow (fun c _ => by have := setsZ_ways k c; omega) hown4 hgrow (by omega)
          have hb4 := (hM1.out.mid (Chg.alloc (fun _ => False) _ _) hgrow hbl.out).2
          obtain ⟨g4, c4, rfl, _⟩ := HX.1.out.topv (by omega)
          have hX5 := hX.chg HX.2
          have hM5 := HX.1
          have r0 := hb4.c0
          have r1 := hb4.f0
          clear hown4 hgrow hb4 HX hM hX hrow hWi hM1 hqf
          go_upto_region 16 with fail
          clear r0 r1 hq
          generalize hW5 : w4.setCell ⟨w.heap.size + 1, 0, none⟩ (.slice (some ⟨g4, 0, none⟩) (k + 1) c4) = w5 at hX5 hM5 ⊢
          clear hW5
          have q1 := hM5.box.c1
          have hsz5 := hX5.size
          have hY : Hid (IntKind.i64.wrap (IntKind.i64.wrap (IntKind.i64.wrap 1 - 1) - (k : Int)) = ((setsY 1 k : Nat) : Int)) := by
            show _ = _
            rw [show IntKind.i64.wrap (IntKind.i64.wrap 1 - 1) = 0 from rfl, IntWalk.i64_in _ (by omega)]
            unfold setsY
            omega
          have hYr : Hid (0 ≤ ((setsY 1 k : Nat) : Int) ∧ ((setsY 1 k : Nat) : Int) < ((1 : Nat) : Int)) := by show _ ∧ _; unfold setsY; omega
          have hT1 : ∀ o, ((w5.drew).alloc o).ownsRow (w.heap.size + 1 + 1) 3 1 t k ((List.range k).map fun c => .int .i64 (setsY 1 c : Int)) := fun o => ((Chg.drew (fun _ => False) w5).trans (Chg.alloc _ _ o)).own hM5.ints (fun _ _ h => h)
          have hCH : ∀ o, Chg (fun _ => False) w5 ((w5.drew).alloc o) := fun o => (Chg.drew (fun _ => False) w5).trans (Chg.alloc _ _ o)
          have htb := Lib.hid (ownsRow_block hM5.ints)
          have m1 := Lib.hid (show k + 1 ≤ maxLen by unfold maxLen; omega)
          have m2 := Lib.hid (show (k + 1) * 8 ≤ 140737488355328 by omega)
          have m3 := Lib.hid (show ∀ o, w.heap.size + 1 + 1 ≤ ((w5.drew).alloc o).heap.size from fun o => by simp; omega)
          have m4 := Lib.hid (show ∀ x : Int, ∀ u ∈ [Value.int .i64 x], u.oneCell' = true from fun x => by simp [Value.oneCell'])
          have HX5 := Lib.hid hX5
          have HM5 := Lib.hid hM5
          clear hX5 hM5
          go_region_law (refine step_append_own rfl (.tmp 43) (.tmp 49) 24 rfl (w.heap.size + 1 + 1) 3 i0 (.int .i64 0) 1 8 Try.underlying24 HI.out HZ0.out HZ1.out HZ2.out rfl (by decide) t k _ (by simp [Act.eval]) (hT1 _) ⟨w5.heap.size, 0, none⟩ 1 1 [.int .i64 (IntKind.i64.wrap (IntKind.i64.wrap (IntKind.i64.wrap 1 - 1) - (k : Int)))] (by simp [Act.eval]) rfl (cell_one_new _ _ _) (m4.out _) m1.out m2.out (m3.out _) ?_; intro v6 w6 hown6 hgrow6 hat6; rw [hY.out] at hown6; have HZ := Lib.hid (HM5.out.more' (hCH _) hYr.out hown6 hgrow6 hat6); have hb6 := (HM5.out.mid (hCH _) hgrow6 htb.out).2; obtain ⟨g6, c6, rfl, _⟩ := HZ.out.1.ints.val (by omega); have r0 := hb6.c1; have r1 := hb6.f1; clear hown6 hgrow6 hat6 hb6)
          all_goals
            go_wp2_with fail
            go_roundw
            case rel => exact ⟨k + 1, _, _, _, by omega, by go_num, HX5.out.chg HZ.out.2, HZ.out.1⟩
            case measure => simp [intOf]; omega
    · have hlt' : ¬ (k : Int) < 1 := by omega
      have hkn : k = 1 := by omega
      have hM1 : MakeAt wr (w.heap.size + 1) (w.heap.size + 1 + 1) u t 1 1 1 rv setsZ (fun c => (setsY 1 c : Int)) := by subst hkn; exact hM
      have hL := hM1.made (by omega) (by omega)
      obtain ⟨gu, cu, rfl, _⟩ := hL.out.topv (by omega)
      obtain ⟨gt, ct, rfl, _⟩ := hL.ints.val (by omega)
      have q0 := hM1.box.c0
      have q1 := hM1.box.c1
      have p0 := hX.res.f0
      have p1 := hX.res.f1
      have p2 := hX.res.c0
      have p3 := hX.res.c1
      have HL := Lib.hid hL
      have HX := Lib.hid hX
      clear hkn hM hM1 hL hX
      go_wp2_with fail
      have hfin := (HX.out.res.set0 (.slice (some ⟨gu, 0, none⟩) 1 cu)).set1 (.slice (some ⟨gt, 0, none⟩) 1 ct)
      have t0 := hfin.c0
      have t1 := hfin.c1
      have hon := set2_only wr w.heap.size (.slice (some ⟨gu, 0, none⟩) 1 cu) (.slice (some ⟨gt, 0, none⟩) 1 ct)
      refine bodyPost_ret (v := .tuple #[.agg #[.slice (some ⟨gu, 0, none⟩) 1 cu, .slice (some ⟨gt, 0, none⟩) 1 ct], .bool true]) (by simp [results, Try.results31, go_sem, t0, t1]) rfl ⟨HX.out.old.trans (hon.below fun j hj => by have hj' : j = w.heap.size := hj; omega), .inr ⟨rfl, _, _, rv, rfl, ((HL.out.chg (Chg.of_only hon) fun j hj => ?_).base (by omega))⟩⟩
      have hj' : j = w.heap.size := hj
      omega

set_option maxRecDepth 100000 in
set_option maxHeartbeats 2000000 in
theorem spec_SetsOf_1 (w : World) : Calls Try.prog 31 #[.int .i64 1] w (MadeOk w 2 setsZ (setsY 2) true) := by
  obtain ⟨i0, hi, hz0, hz1, hz2⟩ := info_parts infoInt
  have HI := Lib.hid hi
  have HZ0 := Lib.hid hz0
  have HZ1 := Lib.hid hz1
  have HZ2 := Lib.hid hz2
  obtain ⟨i1, hj, hy0, hy1, hy2⟩ := info_parts infoInts
  have HJ := Lib.hid hj
  have HY0 := Lib.hid hy0
  have HY1 := Lib.hid hy1
  have HY2 := Lib.hid hy2
  clear hi hz0 hz1 hz2 hj hy0 hy1 hy2
  have hr0 := TwoAt.new w (.slice none 0 0) (.slice none 0 0) 26
  have hl0 := TwoAt.new (w.alloc (.cells #[.slice none 0 0, .slice none 0 0] 26)) (.slice none 0 0) (.slice none 0 0) 26
  have hr1 := hr0.below ((Below.refl _ (w.alloc (.cells #[.slice none 0 0, .slice none 0 0] 26))).alloc (Nat.le_refl _) (.cells #[.slice none 0 0, .slice none 0 0] 26)) (by simp)
  have B1 := ((Below.refl w.heap.size w).alloc (Nat.le_refl _) (.cells #[.slice none 0 0, .slice none 0 0] 26)).alloc (by simp) (.cells #[.slice none 0 0, .slice none 0 0] 26)
  simp only [World.size_alloc] at hl0
  have hX0 : BoxS w w.heap.size (w.heap.size + 1) _ := ⟨hr1, B1, by omega, Nat.le_refl _, by simp⟩
  have hM0 := MakeAt.begin (N := 2) (base := w.heap.size + 1 + 1) setsZ (fun c => (setsY 2 c : Int)) (by omega) hl0
  clear hr0 hl0 hr1 B1
  go_enter Try.func31, Try.ntmps31
  go_wp2_with fail
  go_at_call 56
  refine (l1In_any _ _ _ _).mono ?_
  rintro e w1 ⟨rfl, rfl⟩
  go_wp2_with fail
  generalize (w.alloc (.cells #[.slice none 0 0, .slice none 0 0] 26)).alloc (.cells #[.slice none 0 0, .slice none 0 0] 26) = w2 at hX0 hM0 ⊢
  go_loopw [5] (fun i wr => ∃ (k : Nat) (u t : Value) (rv : Nat → Value), k ≤ 2 ∧ i = .int .i64 k ∧ BoxS w w.heap.size (w.heap.size + 1) wr ∧ MakeAt wr (w.heap.size + 1) (w.heap.size + 1 + 1) u t k k 2 rv setsZ (fun c => (setsY 2 c : Int))) (fun i _ => 2 - (intOf i).toNat)
  case atStart => exact ⟨0, _, _, _, Nat.zero_le _, rfl, hX0, hM0⟩
  case round =>
    clear hX0 hM0
    obtain ⟨k, u, t, rv, hk, rfl, hX, hM⟩ := hrel
    have hS := hX.size
    by_cases hlt : k < 2
    · have hlt' : (k : Int) < 2 := by omega
      obtain ⟨wo, rfl⟩ : ∃ wo : World, wo = wr := ⟨_, rfl⟩
      have hrow0 : IntsAt (wo.alloc (.cells #[] 3)) wo.heap.size (.slice (some ⟨wo.heap.size, 0, none⟩) 0 0) 0 (setsZ k) := World.ownsRow_lit (base := wo.heap.size) (e := 3) (size := 1) wo #[] 0 (Nat.le_refl _) (Nat.zero_le _) rfl
      have hbr := (Below.refl wo.heap.size wo).alloc (Nat.le_refl _) (.cells #[] 3)
      go_wp2_with fail
      go_loopw [6, 7] (fun t i wi => ∃ j : Nat, j ≤ 2 ∧ i = .int .i64 j ∧ IntsAt wi wo.heap.size t j (setsZ k) ∧ Below wo.heap.size wo wi) (fun _ i _ => 2 - (intOf i).toNat)
      case atStart => exact ⟨0, Nat.zero_le _, rfl, hrow0, hbr⟩
      case round =>
        clear hrow0 hbr
        obtain ⟨j, hj, rfl, hown, hWi⟩ := hrel
        have hws := hWi.size
        by_cases hjt : j < 2
        · have hjt' : (j : Int) < 2 := by omega
          have htb := Lib.hid (ownsRow_block hown)
          rcases setsZ_ways k j with hz | hz
          · have hb := sets_bits_f (by omega) (by omega) hz
            have HZ := Lib.hid hz
            clear hz
            go_wp2_with (at_builtin; refine wpList_append_own _ rfl _ _ 24 rfl wo.heap.size 3 i0 (.int .i64 0) 1 8 Try.underlying24 HI.out HZ0.out HZ1.out HZ2.out rfl (by decide) _ _ _ rfl (hown.alloc _) ⟨wr.heap.size, 0, none⟩ 1 1 [.int .i64 0] rfl rfl (cell_one_new _ _ _) ?c2 ?c3 ?c4 ?c5 ?_)
            case c2 => simp [Value.oneCell']
            case c3 => unfold maxLen; omega
            case c4 => omega
            case c5 => first | omega | (simp; omega)
            intro v6 w6 hown6 hgrow6 _
            have hown7 : Hid (IntsAt w6 wo.heap.size v6 (j + 1) (setsZ k)) := IntsAt.told (by rw [HZ.out]; exact hown6)
            have hW6 := (hWi.alloc hws _).grown hgrow6 (by simp; omega) htb.out
            clear hown6 hgrow6 hown hb
            go_wp2_with fail
            go_roundw
            case rel => exact ⟨j + 1, by omega, by go_num, hown7.out, hW6⟩
            case measure => simp [intOf]; omega
          · have hb := sets_bits_t (by omega) (by omega) hz
            have HZ := Lib.hid hz
            clear hz
            go_wp2_with (at_builtin; refine wpList_append_own _ rfl _ _ 24 rfl wo.heap.size 3 i0 (.int .i64 0) 1 8 Try.underlying24 HI.out HZ0.out HZ1.out HZ2.out rfl (by decide) _ _ _ rfl (hown.alloc _) ⟨wr.heap.size, 0, none⟩ 1 1 [.int .i64 1] rfl rfl (cell_one_new _ _ _) ?e2 ?e3 ?e4 ?e5 ?_)
            case e2 => simp [Value.oneCell']
            case e3 => unfold maxLen; omega
            case e4 => omega
            case e5 => first | omega | (simp; omega)
            intro v6 w6 hown6 hgrow6 _
            have hown7 : Hid (IntsAt w6 wo.heap.size v6 (j + 1) (setsZ k)) := IntsAt.told (by rw [HZ.out]; exact hown6)
            have hW6 := (hWi.alloc hws _).grown hgrow6 (by simp; omega) htb.out
            clear hown6 hgrow6 hown hb
            go_wp2_with fail
            go_roundw
            case rel => exact ⟨j + 1, by omega, by go_num, hown7.out, hW6⟩
            case measure => simp [intOf]; omega
        · have hjt' : ¬ (j : Int) < 2 := by omega
          have hjn : j = 2 := by omega
          have hrow : IntsAt wr wo.heap.size u6 2 (setsZ k) := by subst hjn; exact hown
          have hM1 := Lib.hid (hM.below hWi)
          have hq := hM1.out.box.c0
          have hqf := hM1.out.box.f0
          obtain ⟨gk, ck, rfl, hgk, hgl, _⟩ := hrow.val (by omega)
          have hbl := Lib.hid (ownsRow_block hM1.out.out.top)
          have hsi := hWi.size
          clear hjn hown
          go_wp2_with (at_builtin; refine wpList_append_own _ rfl _ _ 23 rfl (w.heap.size + 1 + 1) 24 i1 (.slice none 0 0) 1 24 Try.underlying23 HJ.out HY0.out HY1.out HY2.out rfl (by decide) _ _ _ rfl (hM1.out.out.top.alloc _) ⟨wr.heap.size, 0, none⟩ 1 1 [.slice (some ⟨gk, 0, none⟩) 2 ck] rfl rfl (cell_one_new _ _ _) ?d2 ?d3 ?d4 ?d5 ?_)
          case d2 => simp [Value.oneCell']
          case d3 => unfold maxLen; omega
          case d4 => omega
          case d5 => first | omega | (simp; omega)
          intro v' w4 hown4 hgrow _
          have HX := hM.row' (by omega) hWi hrow (fun c _ => by have := setsZ_ways k c; omega) hown4 hgrow (by omega)
          have hb4 := (hM1.out.mid (Chg.alloc (fun _ => False) _ _) hgrow hbl.out).2
          obtain ⟨g4, c4, rfl, _⟩ := HX.1.out.topv (by omega)
          have hX5 := hX.chg HX.2
          have hM5 := HX.1
          have r0 := hb4.c0
          have r1 := hb4.f0
          clear hown4 hgrow hb4 HX hM hX hrow hWi hM1 hqf
          go_upto_region 16 with fail
          clear r0 r1 hq
          generalize hW5 : w4.setCell ⟨w.heap.size + 1, 0, none⟩ (.slice (some ⟨g4, 0, none⟩) (k + 1) c4) = w5 at hX5 hM5 ⊢
          clear hW5
          have q1 := hM5.box.c1
          have hsz5 := hX5.size
          have hY : Hid (IntKind.i64.wrap (IntKind.i64.wrap (IntKind.i64.wrap 2 - 1) - (k : Int)) = ((setsY 2 k : Nat) : Int)) := by
            show _ = _
            rw [show IntKind.i64.wrap (IntKind.i64.wrap 2 - 1) = 1 from rfl, IntWalk.i64_in _ (by omega)]
            unfold setsY
            omega
          have hYr : Hid (0 ≤ ((setsY 2 k : Nat) : Int) ∧ ((setsY 2 k : Nat) : Int) < ((2 : Nat) : Int)) := by show _ ∧ _; unfold setsY; omega
          have hT1 : ∀ o, ((w5.drew).alloc o).ownsRow (w.heap.size + 1 + 1) 3 1 t k ((List.range k).map fun c => .int .i64 (setsY 2 c : Int)) := fun o => ((Chg.drew (fun _ => False) w5).trans (Chg.alloc _ _ o)).own hM5.ints (fun _ _ h => h)
          have hCH : ∀ o, Chg (fun _ => False) w5 ((w5.drew).alloc o) := fun o => (Chg.drew (fun _ => False) w5).trans (Chg.alloc _ _ o)
          have htb := Lib.hid (ownsRow_block hM5.ints)
          have m1 := Lib.hid (show k + 1 ≤ maxLen by unfold maxLen; omega)
          have m2 := Lib.hid (show (k + 1) * 8 ≤ 140737488355328 by omega)
          have m3 := Lib.hid (show ∀ o, w.heap.size + 1 + 1 ≤ ((w5.drew).alloc o).heap.size from fun o => by simp; omega)
          have m4 := Lib.hid (show ∀ x : Int, ∀ u ∈ [Value.int .i64 x], u.oneCell' = true from fun x => by simp [Value.oneCell'])
          have HX5 := Lib.hid hX5
          have HM5 := Lib.hid hM5
          clear hX5 hM5
          go_region_law (refine step_append_own rfl (.tmp 43) (.tmp 49) 24 rfl (w.heap.size + 1 + 1) 3 i0 (.int .i64 0) 1 8 Try.underlying24 HI.out HZ0.out HZ1.out HZ2.out rfl (by decide) t k _ (by simp [Act.eval]) (hT1 _) ⟨w5.heap.size, 0, none⟩ 1 1 [.int .i64 (IntKind.i64.wrap (IntKind.i64.wrap (IntKind.i64.wrap 2 - 1) - (k : Int)))] (by simp [Act.eval]) rfl (cell_one_new _ _ _) (m4.out _) m1.out m2.out (m3.out _) ?_; intro v6 w6 hown6 hgrow6 hat6; rw [hY.out] at hown6; have HZ := Lib.hid (HM5.out.more' (hCH _) hYr.out hown6 hgrow6 hat6); have hb6 := (HM5.out.mid (hCH _) hgrow6 htb.out).2; obtain ⟨g6, c6, rfl, _⟩ := HZ.out.1.ints.val (by omega); have r0 := hb6.c1; have r1 := hb6.f1; clear hown6 hgrow6 hat6 hb6)
          all_goals
            go_wp2_with fail
            go_roundw
            case rel => exact ⟨k + 1, _, _, _, by omega, by go_num, HX5.out.chg HZ.out.2, HZ.out.1⟩
            case measure => simp [intOf]; omega
    · have hlt' : ¬ (k : Int) < 2 := by omega
      have hkn : k = 2 := by omega
      have hM1 : MakeAt wr (w.heap.size + 1) (w.heap.size + 1 + 1) u t 2 2 2 rv setsZ (fun c => (setsY 2 c : Int)) := by subst hkn; exact hM
      have hL := hM1.made (by omega) (by omega)
      obtain ⟨gu, cu, rfl, _⟩ := hL.out.topv (by omega)
      obtain ⟨gt, ct, rfl, _⟩ := hL.ints.val (by omega)
      have q0 := hM1.box.c0
      have q1 := hM1.box.c1
      have p0 := hX.res.f0
      have p1 := hX.res.f1
      have p2 := hX.res.c0
      have p3 := hX.res.c1
      have HL := Lib.hid hL
      have HX := Lib.hid hX
      clear hkn hM hM1 hL hX
      go_wp2_with fail
      have hfin := (HX.out.res.set0 (.slice (some ⟨gu, 0, none⟩) 2 cu)).set1 (.slice (some ⟨gt, 0, none⟩) 2 ct)
      have t0 := hfin.c0
      have t1 := hfin.c1
      have hon := set2_only wr w.heap.size (.slice (some ⟨gu, 0, none⟩) 2 cu) (.slice (some ⟨gt, 0, none⟩) 2 ct)
      refine bodyPost_ret (v := .tuple #[.agg #[.slice (some ⟨gu, 0, none⟩) 2 cu, .slice (some ⟨gt, 0, none⟩) 2 ct], .bool true]) (by simp [results, Try.results31, go_sem, t0, t1]) rfl ⟨HX.out.old.trans (hon.below fun j hj => by have hj' : j = w.heap.size := hj; omega), .inr ⟨rfl, _, _, rv, rfl, ((HL.out.chg (Chg.of_only hon) fun j hj => ?_).base (by omega))⟩⟩
      have hj' : j = w.heap.size := hj
      omega

set_option maxRecDepth 100000 in
set_option maxHeartbeats 2000000 in
theorem spec_SetsOf_2 (w : World) : Calls Try.prog 31 #[.int .i64 2] w (MadeOk w 4 setsZ (setsY 4) true) := by
  obtain ⟨i0, hi, hz0, hz1, hz2⟩ := info_parts infoInt
  have HI := Lib.hid hi
  have HZ0 := Lib.hid hz0
  have HZ1 := Lib.hid hz1
  have HZ2 := Lib.hid hz2
  obtain ⟨i1, hj, hy0, hy1, hy2⟩ := info_parts infoInts
  have HJ := Lib.hid hj
  have HY0 := Lib.hid hy0
  have HY1 := Lib.hid hy1
  have HY2 := Lib.hid hy2
  clear hi hz0 hz1 hz2 hj hy0 hy1 hy2
  have hr0 := TwoAt.new w (.slice none 0 0) (.slice none 0 0) 26
  have hl0 := TwoAt.new (w.alloc (.cells #[.slice none 0 0, .slice none 0 0] 26)) (.slice none 0 0) (.slice none 0 0) 26
  have hr1 := hr0.below ((Below.refl _ (w.alloc (.cells #[.slice none 0 0, .slice none 0 0] 26))).alloc (Nat.le_refl _) (.cells #[.slice none 0 0, .slice none 0 0] 26)) (by simp)
  have B1 := ((Below.refl w.heap.size w).alloc (Nat.le_refl _) (.cells #[.slice none 0 0, .slice none 0 0] 26)).alloc (by simp) (.cells #[.slice none 0 0, .slice none 0 0] 26)
  simp only [World.size_alloc] at hl0
  have hX0 : BoxS w w.heap.size (w.heap.size + 1) _ := ⟨hr1, B1, by omega, Nat.le_refl _, by simp⟩
  have hM0 := MakeAt.begin (N := 4) (base := w.heap.size + 1 + 1) setsZ (fun c => (setsY 4 c : Int)) (by omega) hl0
  clear hr0 hl0 hr1 B1
  go_enter Try.func31, Try.ntmps31
  go_wp2_with fail
  go_at_call 56
  refine (l1In_any _ _ _ _).mono ?_
  rintro e w1 ⟨rfl, rfl⟩
  go_wp2_with fail
  generalize (w.alloc (.cells #[.slice none 0 0, .slice none 0 0] 26)).alloc (.cells #[.slice none 0 0, .slice none 0 0] 26) = w2 at hX0 hM0 ⊢
  go_loopw [5] (fun i wr => ∃ (k : Nat) (u t : Value) (rv : Nat → Value), k ≤ 4 ∧ i = .int .i64 k ∧ BoxS w w.heap.size (w.heap.size + 1) wr ∧ MakeAt wr (w.heap.size + 1) (w.heap.size + 1 + 1) u t k k 4 rv setsZ (fun c => (setsY 4 c : Int))) (fun i _ => 4 - (intOf i).toNat)
  case atStart => exact ⟨0, _, _, _, Nat.zero_le _, rfl, hX0, hM0⟩
  case round =>
    clear hX0 hM0
    obtain ⟨k, u, t, rv, hk, rfl, hX, hM⟩ := hrel
    have hS := hX.size
    by_cases hlt : k < 4
    · have hlt' : (k : Int) < 4 := by omega
      obtain ⟨wo, rfl⟩ : ∃ wo : World, wo = wr := ⟨_, rfl⟩
      have hrow0 : IntsAt (wo.alloc (.cells #[] 3)) wo.heap.size (.slice (some ⟨wo.heap.size, 0, none⟩) 0 0) 0 (setsZ k) := World.ownsRow_lit (base := wo.heap.size) (e := 3) (size := 1) wo #[] 0 (Nat.le_refl _) (Nat.zero_le _) rfl
      have hbr := (Below.refl wo.heap.size wo).alloc (Nat.le_refl _) (.cells #[] 3)
      go_wp2_with fail
      go_loopw [6, 7] (fun t i wi => ∃ j : Nat, j ≤ 4 ∧ i = .int .i64 j ∧ IntsAt wi wo.heap.size t j (setsZ k) ∧ Below wo.heap.size wo wi) (fun _ i _ => 4 - (intOf i).toNat)
      case atStart => exact ⟨0, Nat.zero_le _, rfl, hrow0, hbr⟩
      case round =>
        clear hrow0 hbr
        obtain ⟨j, hj, rfl, hown, hWi⟩ := hrel
        have hws := hWi.size
        by_cases hjt : j < 4
        · have hjt' : (j : Int) < 4 := by omega
          have htb := Lib.hid (ownsRow_block hown)
          rcases setsZ_ways k j with hz | hz
          · have hb := sets_bits_f (by omega) (by omega) hz
            have HZ := Lib.hid hz
            clear hz
            go_wp2_with (at_builtin; refine wpList_append_own _ rfl _ _ 24 rfl wo.heap.size 3 i0 (.int .i64 0) 1 8 Try.underlying24 HI.out HZ0.out HZ1.out HZ2.out rfl (by decide) _ _ _ rfl (hown.alloc _) ⟨wr.heap.size, 0, none⟩ 1 1 [.int .i64 0] rfl rfl (cell_one_new _ _ _) ?c2 ?c3 ?c4 ?c5 ?_)
            case c2 => simp [Value.oneCell']
            case c3 => unfold maxLen; omega
            case c4 => omega
            case c5 => first | omega | (simp; omega)
            intro v6 w6 hown6 hgrow6 _
            have hown7 : Hid (IntsAt w6 wo.heap.size v6 (j + 1) (setsZ k)) := IntsAt.told (by rw [HZ.out]; exact hown6)
            have hW6 := (hWi.alloc hws _).grown hgrow6 (by simp; omega) htb.out
            clear hown6 hgrow6 hown hb
            go_wp2_with fail
            go_roundw
            case rel => exact ⟨j + 1, by omega, by go_num, hown7.out, hW6⟩
            case measure => simp [intOf]; omega
          · have hb := sets_bits_t (by omega) (by omega) hz
            have HZ := Lib.hid hz
            clear hz
            go_wp2_with (at_builtin; refine wpList_append_own _ rfl _ _ 24 rfl wo.heap.size 3 i0 (.int .i64 0) 1 8 Try.underlying24 HI.out HZ0.out HZ1.out HZ2.out rfl (by decide) _ _ _ rfl (hown.alloc _) ⟨wr.heap.size, 0, none⟩ 1 1 [.int .i64 1] rfl rfl (cell_one_new _ _ _) ?e2 ?e3 ?e4 ?e5 ?_)
            case e2 => simp [Value.oneCell']
            case e3 => unfold maxLen; omega
            case e4 => omega
            case e5 => first | omega | (simp; omega)
            intro v6 w6 hown6 hgrow6 _
            have hown7 : Hid (IntsAt w6 wo.heap.size v6 (j + 1) (setsZ k)) := IntsAt.told (by rw [HZ.out]; exact hown6)
            have hW6 := (hWi.alloc hws _).grown hgrow6 (by simp; omega) htb.out
            clear hown6 hgrow6 hown hb
            go_wp2_with fail
            go_roundw
            case rel => exact ⟨j + 1, by omega, by go_num, hown7.out, hW6⟩
            case measure => simp [intOf]; omega
        · have hjt' : ¬ (j : Int) < 4 := by omega
          have hjn : j = 4 := by omega
          have hrow : IntsAt wr wo.heap.size u6 4 (setsZ k) := by subst hjn; exact hown
          have hM1 := Lib.hid (hM.below hWi)
          have hq := hM1.out.box.c0
          have hqf := hM1.out.box.f0
          obtain ⟨gk, ck, rfl, hgk, hgl, _⟩ := hrow.val (by omega)
          have hbl := Lib.hid (ownsRow_block hM1.out.out.top)
          have hsi := hWi.size
          clear hjn hown
          go_wp2_with (at_builtin; refine wpList_append_own _ rfl _ _ 23 rfl (w.heap.size + 1 + 1) 24 i1 (.slice none 0 0) 1 24 Try.underlying23 HJ.out HY0.out HY1.out HY2.out rfl (by decide) _ _ _ rfl (hM1.out.out.top.alloc _) ⟨wr.heap.size, 0, none⟩ 1 1 [.slice (some ⟨gk, 0, none⟩) 4 ck] rfl rfl (cell_one_new _ _ _) ?d2 ?d3 ?d4 ?d5 ?_)
          case d2 => simp [Value.oneCell']
          case d3 => unfold maxLen; omega
          case d4 => omega
          case d5 => first | omega | (simp; omega)
          intro v' w4 hown4 hgrow _
          have HX := hM.row' (by omega) hWi hrow (fun c _ => by have := setsZ_ways k c; omega) hown4 hgrow (by omega)
          have hb4 := (hM1.out.mid (Chg.alloc (fun _ => False) _ _) hgrow hbl.out).2
          obtain ⟨g4, c4, rfl, _⟩ := HX.1.out.topv (by omega)
          have hX5 := hX.chg HX.2
          have hM5 := HX.1
          have r0 := hb4.c0
          have r1 := hb4.f0
          clear hown4 hgrow hb4 HX hM hX hrow hWi hM1 hqf
          go_upto_region 16 with fail
          clear r0 r1 hq
          generalize hW5 : w4.setCell ⟨w.heap.size + 1, 0, none⟩ (.slice (some ⟨g4, 0, none⟩) (k + 1) c4) = w5 at hX5 hM5 ⊢
          clear hW5
          have q1 := hM5.box.c1
          have hsz5 := hX5.size
          have hY : Hid (IntKind.i64.wrap (IntKind.i64.wrap (IntKind.i64.wrap 4 - 1) - (k : Int)) = ((setsY 4 k : Nat) : Int)) := by
            show _ = _
            rw [show IntKind.i64.wrap (IntKind.i64.wrap 4 - 1) = 3 from rfl, IntWalk.i64_in _ (by omega)]
            unfold setsY
            omega
          have hYr : Hid (0 ≤ ((setsY 4 k : Nat) : Int) ∧ ((setsY 4 k : Nat) : Int) < ((4 : Nat) : Int)) := by show _ ∧ _; unfold setsY; omega
          have hT1 : ∀ o, ((w5.drew).alloc o).ownsRow (w.heap.size + 1 + 1) 3 1 t k ((List.range k).map fun c => .int .i64 (setsY 4 c : Int)) := fun o => ((Chg.drew (fun _ => False) w5).trans (Chg.alloc _ _ o)).own hM5.ints (fun _ _ h => h)
          have hCH : ∀ o, Chg (fun _ => False) w5 ((w5.drew).alloc o) := fun o => (Chg.drew (fun _ => False) w5).trans (Chg.alloc _ _ o)
          have htb := Lib.hid (ownsRow_block hM5.ints)
          have m1 := Lib.hid (show k + 1 ≤ maxLen by unfold maxLen; omega)
          have m2 := Lib.hid (show (k + 1) * 8 ≤ 140737488355328 by omega)
          have m3 := Lib.hid (show ∀ o, w.heap.size + 1 + 1 ≤ ((w5.drew).alloc o).heap.size from fun o => by simp; omega)
          have m4 := Lib.hid (show ∀ x : Int, ∀ u ∈ [Value.int .i64 x], u.oneCell' = true from fun x => by simp [Value.oneCell'])
          have HX5 := Lib.hid hX5
          have HM5 := Lib.hid hM5
          clear hX5 hM5
          go_region_law (refine step_append_own rfl (.tmp 43) (.tmp 49) 24 rfl (w.heap.size + 1 + 1) 3 i0 (.int .i64 0) 1 8 Try.underlying24 HI.out HZ0.out HZ1.out HZ2.out rfl (by decide) t k _ (by simp [Act.eval]) (hT1 _) ⟨w5.heap.size, 0, none⟩ 1 1 [.int .i64 (IntKind.i64.wrap (IntKind.i64.wrap (IntKind.i64.wrap 4 - 1) - (k : Int)))] (by simp [Act.eval]) rfl (cell_one_new _ _ _) (m4.out _) m1.out m2.out (m3.out _) ?_; intro v6 w6 hown6 hgrow6 hat6; rw [hY.out] at hown6; have HZ := Lib.hid (HM5.out.more' (hCH _) hYr.out hown6 hgrow6 hat6); have hb6 := (HM5.out.mid (hCH _) hgrow6 htb.out).2; obtain ⟨g6, c6, rfl, _⟩ := HZ.out.1.ints.val (by omega); have r0 := hb6.c1; have r1 := hb6.f1; clear hown6 hgrow6 hat6 hb6)
          all_goals
            go_wp2_with fail
            go_roundw
            case rel => exact ⟨k + 1, _, _, _, by omega, by go_num, HX5.out.chg HZ.out.2, HZ.out.1⟩
            case measure => simp [intOf]; omega
    · have hlt' : ¬ (k : Int) < 4 := by omega
      have hkn : k = 4 := by omega
      have hM1 : MakeAt wr (w.heap.size + 1) (w.heap.size + 1 + 1) u t 4 4 4 rv setsZ (fun c => (setsY 4 c : Int)) := by subst hkn; exact hM
      have hL := hM1.made (by omega) (by omega)
      obtain ⟨gu, cu, rfl, _⟩ := hL.out.topv (by omega)
      obtain ⟨gt, ct, rfl, _⟩ := hL.ints.val (by omega)
      have q0 := hM1.box.c0
      have q1 := hM1.box.c1
      have p0 := hX.res.f0
      have p1 := hX.res.f1
      have p2 := hX.res.c0
      have p3 := hX.res.c1
      have HL := Lib.hid hL
      have HX := Lib.hid hX
      clear hkn hM hM1 hL hX
      go_wp2_with fail
      have hfin := (HX.out.res.set0 (.slice (some ⟨gu, 0, none⟩) 4 cu)).set1 (.slice (some ⟨gt, 0, none⟩) 4 ct)
      have t0 := hfin.c0
      have t1 := hfin.c1
      have hon := set2_only wr w.heap.size (.slice (some ⟨gu, 0, none⟩) 4 cu) (.slice (some ⟨gt, 0, none⟩) 4 ct)
      refine bodyPost_ret (v := .tuple #[.agg #[.slice (some ⟨gu, 0, none⟩) 4 cu, .slice (some ⟨gt, 0, none⟩) 4 ct], .bool true]) (by simp [results, Try.results31, go_sem, t0, t1]) rfl ⟨HX.out.old.trans (hon.below fun j hj => by have hj' : j = w.heap.size := hj; omega), .inr ⟨rfl, _, _, rv, rfl, ((HL.out.chg (Chg.of_only hon) fun j hj => ?_).base (by omega))⟩⟩
      have hj' : j = w.heap.size := hj
      omega

set_option maxRecDepth 100000 in
set_option maxHeartbeats 2000000 in
theorem spec_SetsOf_3 (w : World) : Calls Try.prog 31 #[.int .i64 3] w (MadeOk w 8 setsZ (setsY 8) true) := by
  obtain ⟨i0, hi, hz0, hz1, hz2⟩ := info_parts infoInt
  have HI := Lib.hid hi
  have HZ0 := Lib.hid hz0
  have HZ1 := Lib.hid hz1
  have HZ2 := Lib.hid hz2
  obtain ⟨i1, hj, hy0, hy1, hy2⟩ := info_parts infoInts
  have HJ := Lib.hid hj
  have HY0 := Lib.hid hy0
  have HY1 := Lib.hid hy1
  have HY2 := Lib.hid hy2
  clear hi hz0 hz1 hz2 hj hy0 hy1 hy2
  have hr0 := TwoAt.new w (.slice none 0 0) (.slice none 0 0) 26
  have hl0 := TwoAt.new (w.alloc (.cells #[.slice none 0 0, .slice none 0 0] 26)) (.slice none 0 0) (.slice none 0 0) 26
  have hr1 := hr0.below ((Below.refl _ (w.alloc (.cells #[.slice none 0 0, .slice none 0 0] 26))).alloc (Nat.le_refl _) (.cells #[.slice none 0 0, .slice none 0 0] 26)) (by simp)
  have B1 := ((Below.refl w.heap.size w).alloc (Nat.le_refl _) (.cells #[.slice none 0 0, .slice none 0 0] 26)).alloc (by simp) (.cells #[.slice none 0 0, .slice none 0 0] 26)
  simp only [World.size_alloc] at hl0
  have hX0 : BoxS w w.heap.size (w.heap.size + 1) _ := ⟨hr1, B1, by omega, Nat.le_refl _, by simp⟩
  have hM0 := MakeAt.begin (N := 8) (base := w.heap.size + 1 + 1) setsZ (fun c => (setsY 8 c : Int)) (by omega) hl0
  clear hr0 hl0 hr1 B1
  go_enter Try.func31, Try.ntmps31
  go_wp2_with fail
  go_at_call 56
  refine (l1In_any _ _ _ _).mono ?_
  rintro e w1 ⟨rfl, rfl⟩
  go_wp2_with fail
  generalize (w.alloc (.cells #[.slice none 0 0, .slice none 0 0] 26)).alloc (.cells #[.slice none 0 0, .slice none 0 0] 26) = w2 at hX0 hM0 ⊢
  go_loopw [5] (fun i wr => ∃ (k : Nat) (u t : Value) (rv : Nat → Value), k ≤ 8 ∧ i = .int .i64 k ∧ BoxS w w.heap.size (w.heap.size + 1) wr ∧ MakeAt wr (w.heap.size + 1) (w.heap.size + 1 + 1) u t k k 8 rv setsZ (fun c => (setsY 8 c : Int))) (fun i _ => 8 - (intOf i).toNat)
  case atStart => exact ⟨0, _, _, _, Nat.zero_le _, rfl, hX0, hM0⟩
  case round =>
    clear hX0 hM0
    obtain ⟨k, u, t, rv, hk, rfl, hX, hM⟩ := hrel
    have hS := hX.size
    by_cases hlt : k < 8
    · have hlt' : (k : Int) < 8 := by omega
      obtain ⟨wo, rfl⟩ : ∃ wo : World, wo = wr := ⟨_, rfl⟩
      have hrow0 : IntsAt (wo.alloc (.cells #[] 3)) wo.heap.size (.slice (some ⟨wo.heap.size, 0, none⟩) 0 0) 0 (setsZ k) := World.ownsRow_lit (base := wo.heap.size) (e := 3) (size := 1) wo #[] 0 (Nat.le_refl _) (Nat.zero_le _) rfl
      have hbr := (Below.refl wo.heap.size wo).alloc (Nat.le_refl _) (.cells #[] 3)
      go_wp2_with fail
      go_loopw [6, 7] (fun t i wi => ∃ j : Nat, j ≤ 8 ∧ i = .int .i64 j ∧ IntsAt wi wo.heap.size t j (setsZ k) ∧ Below wo.heap.size wo wi) (fun _ i _ => 8 - (intOf i).toNat)
      case atStart => exact ⟨0, Nat.zero_le _, rfl, hrow0, hbr⟩
      case round =>
        clear hrow0 hbr
        obtain ⟨j, hj, rfl, hown, hWi⟩ := hrel
        have hws := hWi.size
        by_cases hjt : j < 8
        · have hjt' : (j : Int) < 8 := by omega
          have htb := Lib.hid (ownsRow_block hown)
          rcases setsZ_ways k j with hz | hz
          · have hb := sets_bits_f (by omega) (by omega) hz
            have HZ := Lib.hid hz
            clear hz
            go_wp2_with (at_builtin; refine wpList_append_own _ rfl _ _ 24 rfl wo.heap.size 3 i0 (.int .i64 0) 1 8 Try.underlying24 HI.out HZ0.out HZ1.out HZ2.out rfl (by decide) _ _ _ rfl (hown.alloc _) ⟨wr.heap.size, 0, none⟩ 1 1 [.int .i64 0] rfl rfl (cell_one_new _ _ _) ?c2 ?c3 ?c4 ?c5 ?_)
            case c2 => simp [Value.oneCell']
            case c3 => unfold maxLen; omega
            case c4 => omega
            case c5 => first | omega | (simp; omega)
            intro v6 w6 hown6 hgrow6 _
            have hown7 : Hid (IntsAt w6 wo.heap.size v6 (j + 1) (setsZ k)) := IntsAt.told (by rw [HZ.out]; exact hown6)
            have hW6 := (hWi.alloc hws _).grown hgrow6 (by simp; omega) htb.out
            clear hown6 hgrow6 hown hb
            go_wp2_with fail
            go_roundw
            case rel => exact ⟨j + 1, by omega, by go_num, hown7.out, hW6⟩
            case measure => simp [intOf]; omega
          · have hb := sets_bits_t (by omega) (by omega) hz
            have HZ := Lib.hid hz
            clear hz
            go_wp2_with (at_builtin; refine wpList_append_own _ rfl _ _ 24 rfl wo.heap.size 3 i0 (.int .i64 0) 1 8 Try.underlying24 HI.out HZ0.out HZ1.out HZ2.out rfl (by decide) _ _ _ rfl (hown.alloc _) ⟨wr.heap.size, 0, none⟩ 1 1 [.int .i64 1] rfl rfl (cell_one_new _ _ _) ?e2 ?e3 ?e4 ?e5 ?_)
            case e2 => simp [Value.oneCell']
            case e3 => unfold maxLen; omega
            case e4 => omega
            case e5 => first | omega | (simp; omega)
            intro v6 w6 hown6 hgrow6 _
            have hown7 : Hid (IntsAt w6 wo.heap.size v6 (j + 1) (setsZ k)) := IntsAt.told (by rw [HZ.out]; exact hown6)
            have hW6 := (hWi.alloc hws _).grown hgrow6 (by simp; omega) htb.out
            clear hown6 hgrow6 hown hb
            go_wp2_with fail
            go_roundw
            case rel => exact ⟨j + 1, by omega, by go_num, hown7.out, hW6⟩
            case measure => simp [intOf]; omega
        · have hjt' : ¬ (j : Int) < 8 := by omega
          have hjn : j = 8 := by omega
          have hrow : IntsAt wr wo.heap.size u6 8 (setsZ k) := by subst hjn; exact hown
          have hM1 := Lib.hid (hM.below hWi)
          have hq := hM1.out.box.c0
          have hqf := hM1.out.box.f0
          obtain ⟨gk, ck, rfl, hgk, hgl, _⟩ := hrow.val (by omega)
          have hbl := Lib.hid (ownsRow_block hM1.out.out.top)
          have hsi := hWi.size
          clear hjn hown
          go_wp2_with (at_builtin; refine wpList_append_own _ rfl _ _ 23 rfl (w.heap.size + 1 + 1) 24 i1 (.slice none 0 0) 1 24 Try.underlying23 HJ.out HY0.out HY1.out HY2.out rfl (by decide) _ _ _ rfl (hM1.out.out.top.alloc _) ⟨wr.heap.size, 0, none⟩ 1 1 [.slice (some ⟨gk, 0, none⟩) 8 ck] rfl rfl (cell_one_new _ _ _) ?d2 ?d3 ?d4 ?d5 ?_)
          case d2 => simp [Value.oneCell']
          case d3 => unfold maxLen; omega
          case d4 => omega
          case d5 => first | omega | (simp; omega)
          intro v' w4 hown4 hgrow _
          have HX := hM.row' (by omega) hWi hrow (fun c _ => by have := setsZ_ways k c; omega) hown4 hgrow (by omega)
          have hb4 := (hM1.out.mid (Chg.alloc (fun _ => False) _ _) hgrow hbl.out).2
          obtain ⟨g4, c4, rfl, _⟩ := HX.1.out.topv (by omega)
          have hX5 := hX.chg HX.2
          have hM5 := HX.1
          have r0 := hb4.c0
          have r1 := hb4.f0
          clear hown4 hgrow hb4 HX hM hX hrow hWi hM1 hqf
          go_upto_region 16 with fail
          clear r0 r1 hq
          generalize hW5 : w4.setCell ⟨w.heap.size + 1, 0, none⟩ (.slice (some ⟨g4, 0, none⟩) (k + 1) c4) = w5 at hX5 hM5 ⊢
          clear hW5
          have q1 := hM5.box.c1
          have hsz5 := hX5.size
          have hY : Hid (IntKind.i64.wrap (IntKind.i64.wrap (IntKind.i64.wrap 8 - 1) - (k : Int)) = ((setsY 8 k : Nat) : Int)) := by
            show _ = _
            rw [show IntKind.i64.wrap (IntKind.i64.wrap 8 - 1) = 7 from rfl, IntWalk.i64_in _ (by omega)]
            unfold setsY
            omega
          have hYr : Hid (0 ≤ ((setsY 8 k : Nat) : Int) ∧ ((setsY 8 k : Nat) : Int) < ((8 : Nat) : Int)) := by show _ ∧ _; unfold setsY; omega
          have hT1 : ∀ o, ((w5.drew).alloc o).ownsRow (w.heap.size + 1 + 1) 3 1 t k ((List.range k).map fun c => .int .i64 (setsY 8 c : Int)) := fun o => ((Chg.drew (fun _ => False) w5).trans (Chg.alloc _ _ o)).own hM5.ints (fun _ _ h => h)
          have hCH : ∀ o, Chg (fun _ => False) w5 ((w5.drew).alloc o) := fun o => (Chg.drew (fun _ => False) w5).trans (Chg.alloc _ _ o)
          have htb := Lib.hid (ownsRow_block hM5.ints)
          have m1 := Lib.hid (show k + 1 ≤ maxLen by unfold maxLen; omega)
          have m2 := Lib.hid (show (k + 1) * 8 ≤ 140737488355328 by omega)
          have m3 := Lib.hid (show ∀ o, w.heap.size + 1 + 1 ≤ ((w5.drew).alloc o).heap.size from fun o => by simp; omega)
          have m4 := Lib.hid (show ∀ x : Int, ∀ u ∈ [Value.int .i64 x], u.oneCell' = true from fun x => by simp [Value.oneCell'])
          have HX5 := Lib.hid hX5
          have HM5 := Lib.hid hM5
          clear hX5 hM5
          go_region_law (refine step_append_own rfl (.tmp 43) (.tmp 49) 24 rfl (w.heap.size + 1 + 1) 3 i0 (.int .i64 0) 1 8 Try.underlying24 HI.out HZ0.out HZ1.out HZ2.out rfl (by decide) t k _ (by simp [Act.eval]) (hT1 _) ⟨w5.heap.size, 0, none⟩ 1 1 [.int .i64 (IntKind.i64.wrap (IntKind.i64.wrap (IntKind.i64.wrap 8 - 1) - (k : Int)))] (by simp [Act.eval]) rfl (cell_one_new _ _ _) (m4.out _) m1.out m2.out (m3.out _) ?_; intro v6 w6 hown6 hgrow6 hat6; rw [hY.out] at hown6; have HZ := Lib.hid (HM5.out.more' (hCH _) hYr.out hown6 hgrow6 hat6); have hb6 := (HM5.out.mid (hCH _) hgrow6 htb.out).2; obtain ⟨g6, c6, rfl, _⟩ := HZ.out.1.ints.val (by omega); have r0 := hb6.c1; have r1 := hb6.f1; clear hown6 hgrow6 hat6 hb6)
          all_goals
            go_wp2_with fail
            go_roundw
            case rel => exact ⟨k + 1, _, _, _, by omega, by go_num, HX5.out.chg HZ.out.2, HZ.out.1⟩
            case measure => simp [intOf]; omega
    · have hlt' : ¬ (k : Int) < 8 := by omega
      have hkn : k = 8 := by omega
      have hM1 : MakeAt wr (w.heap.size + 1) (w.heap.size + 1 + 1) u t 8 8 8 rv setsZ (fun c => (setsY 8 c : Int)) := by subst hkn; exact hM
      have hL := hM1.made (by omega) (by omega)
      obtain ⟨gu, cu, rfl, _⟩ := hL.out.topv (by omega)
      obtain ⟨gt, ct, rfl, _⟩ := hL.ints.val (by omega)
      have q0 := hM1.box.c0
      have q1 := hM1.box.c1
      have p0 := hX.res.f0
      have p1 := hX.res.f1
      have p2 := hX.res.c0
      have p3 := hX.res.c1
      have HL := Lib.hid hL
      have HX := Lib.hid hX
      clear hkn hM hM1 hL hX
      go_wp2_with fail
      have hfin := (HX.out.res.set0 (.slice (some ⟨gu, 0, none⟩) 8 cu)).set1 (.slice (some ⟨gt, 0, none⟩) 8 ct)
      have t0 := hfin.c0
      have t1 := hfin.c1
      have hon := set2_only wr w.heap.size (.slice (some ⟨gu, 0, none⟩) 8 cu) (.slice (some ⟨gt, 0, none⟩) 8 ct)
      refine bodyPost_ret (v := .tuple #[.agg #[.slice (some ⟨gu, 0, none⟩) 8 cu, .slice (some ⟨gt, 0, none⟩) 8 ct], .bool true]) (by simp [results, Try.results31, go_sem, t0, t1]) rfl ⟨HX.out.old.trans (hon.below fun j hj => by have hj' : j = w.heap.size := hj; omega), .inr ⟨rfl, _, _, rv, rfl, ((HL.out.chg (Chg.of_only hon) fun j hj => ?_).base (by omega))⟩⟩
      have hj' : j = w.heap.size := hj
      omega

set_option maxRecDepth 100000 in
set_option maxHeartbeats 1000000 in
theorem spec_SetsOf_no {w : World} {t : Int} {N : Nat} {Z : Nat → Nat → Int} {y : Nat → Nat} (h : (decide (0 ≤ t) && decide (t ≤ 3)) = false) : Calls Try.prog 31 #[.int .i64 t] w (MadeOk w N Z y false) := by
  have H := Lib.hid h
  have hr0 := TwoAt.new w (.slice none 0 0) (.slice none 0 0) 26
  have hr1 := hr0.below ((Below.refl _ (w.alloc (.cells #[.slice none 0 0, .slice none 0 0] 26))).alloc (Nat.le_refl _) (.cells #[.slice none 0 0, .slice none 0 0] 26)) (by simp)
  have B1 := ((Below.refl w.heap.size w).alloc (Nat.le_refl _) (.cells #[.slice none 0 0, .slice none 0 0] 26)).alloc (by simp) (.cells #[.slice none 0 0, .slice none 0 0] 26)
  clear h
  go_enter Try.func31, Try.ntmps31
  go_wp2_with fail
  go_at_call 56
  refine (l1In_any _ _ _ _).mono ?_
  rintro e w1 ⟨rfl, rfl⟩
  rw [H.out]
  have t0 := hr1.c0
  have t1 := hr1.c1
  go_wp2_with fail
  exact bodyPost_ret (v := .tuple #[noLog, .bool false]) (by simp [results, Try.results31, go_sem, noLog]) rfl ⟨B1, .inl ⟨rfl, rfl⟩⟩
theorem spec_SetsOf_any {w : World} {t : Int} : Calls Try.prog 31 #[.int .i64 t] w (MadeOk w (2 ^ t.toNat) setsZ (setsY (2 ^ t.toNat)) (setsOkB t)) := by
  cases h : setsOkB t with
  | false =>
    refine spec_SetsOf_no ?_
    unfold setsOkB at h
    exact h
  | true =>
    unfold setsOkB at h
    simp at h
    rcases (show t = 0 ∨ t = 1 ∨ t = 2 ∨ t = 3 by omega) with rfl | rfl | rfl | rfl
    · exact spec_SetsOf_0 w
    · exact spec_SetsOf_1 w
    · exact spec_SetsOf_2 w
    · exact spec_SetsOf_3 w

theorem six_logO (w : World) : LogO (allocs w (sixOs w.heap.size)) w.heap.size (.slice (some ⟨w.heap.size + 1 + 1 + 1 + 1 + 1 + 1 + 1, 0, none⟩) 6 6) (.slice (some ⟨w.heap.size + 1 + 1 + 1 + 1 + 1 + 1 + 1 + 1, 0, none⟩) 6 6) 6 (fun r => .slice (some ⟨w.heap.size + 1 + r, 0, none⟩) 6 6) ringZ (fun c => (ringY c : Int)) := by
  have h : LogO (allocs w (sixOs w.heap.size)) w.heap.size (.slice (some ⟨w.heap.size + 1 + 1 + 1 + 1 + 1 + 1 + 1, 0, none⟩) 6 6) (.slice (some ⟨w.heap.size + 1 + 1 + 1 + 1 + 1 + 1 + 1 + 1, 0, none⟩) 6 6) 6 (fun r => .slice (some ⟨w.heap.size + 1 + r, 0, none⟩) 6 6) sixZ sixY := by
    refine ⟨by omega, by omega, ⟨?_, fun r hr => ?_, fun r s _ _ hne e => hne ?_, fun r c hr hc => ?_⟩, ?_, fun r hr e => ?_, fun c hc => ?_⟩
    · exact own_of_heap (allocs_get (sixOs w.heap.size) w 7 (six_len w 7 (by omega))) rfl rfl (by omega) (by decide)
    · have h6 : r = 0 ∨ r = 1 ∨ r = 2 ∨ r = 3 ∨ r = 4 ∨ r = 5 := by omega
      rcases h6 with rfl | rfl | rfl | rfl | rfl | rfl
      · exact own_of_heap (allocs_get (sixOs w.heap.size) w 1 (six_len w 1 (by omega))) rfl rfl (by omega) (by decide)
      · exact own_of_heap (allocs_get (sixOs w.heap.size) w 2 (six_len w 2 (by omega))) rfl rfl (by omega) (by decide)
      · exact own_of_heap (allocs_get (sixOs w.heap.size) w 3 (six_len w 3 (by omega))) rfl rfl (by omega) (by decide)
      · exact own_of_heap (allocs_get (sixOs w.heap.size) w 4 (six_len w 4 (by omega))) rfl rfl (by omega) (by decide)
      · exact own_of_heap (allocs_get (sixOs w.heap.size) w 5 (six_len w 5 (by omega))) rfl rfl (by omega) (by decide)
      · exact own_of_heap (allocs_get (sixOs w.heap.size) w 6 (six_len w 6 (by omega))) rfl rfl (by omega) (by decide)
    · have e' : w.heap.size + 1 + r = w.heap.size + 1 + s := by simpa [Value.ownBlock] using e
      omega
    · have h6 : ∀ r, r < 6 → ∀ c, c < 6 → 0 ≤ sixZ r c ∧ sixZ r c ≤ 2 := by decide
      exact h6 r hr c hc
    · exact own_of_heap (allocs_get (sixOs w.heap.size) w 8 (six_len w 8 (by omega))) rfl rfl (by omega) (by decide)
    · have e' : w.heap.size + 1 + r = w.heap.size + 1 + 1 + 1 + 1 + 1 + 1 + 1 + 1 := by simpa [Value.ownBlock] using e
      omega
    · have h6 : ∀ c, c < 6 → 0 ≤ sixY c ∧ sixY c < 6 := by decide
      exact h6 c hc
  exact h.congrZ (fun _ _ _ _ => rfl) (by decide)

set_option maxRecDepth 100000 in
set_option maxHeartbeats 1000000 in
theorem spec_RingOf_any {w : World} {t : Int} : Calls Try.prog 114 #[.int .i64 t] w (MadeOk w 6 ringZ ringY (decide (t = 6))) := by
  by_cases h : t = 6
  · subst h
    have hL := Lib.hid (six_logO w)
    have hB := allocs_below (sixOs w.heap.size) w
    have hc : (allocs w (sixOs w.heap.size)).heap[w.heap.size]? = (sixOs w.heap.size)[0]? := allocs_get (sixOs w.heap.size) w 0 (six_len w 0 (by omega))
    have t0 : (allocs w (sixOs w.heap.size)).cell? ⟨w.heap.size, 0, none⟩ = some (.slice (some ⟨w.heap.size + 1 + 1 + 1 + 1 + 1 + 1 + 1, 0, none⟩) 6 6) := by simp only [World.cell?]; rw [hc]; rfl
    have t1 : (allocs w (sixOs w.heap.size)).cell? ⟨w.heap.size, 1, none⟩ = some (.slice (some ⟨w.heap.size + 1 + 1 + 1 + 1 + 1 + 1 + 1 + 1, 0, none⟩) 6 6) := by simp only [World.cell?]; rw [hc]; rfl
    clear hc
    go_enter Try.func114, Try.ntmps114
    go_wp2_with fail
    change bodyPost _ _ _ _ _ (allocs w (sixOs w.heap.size))
    generalize allocs w (sixOs w.heap.size) = W at hL hB t0 t1 ⊢
    exact bodyPost_ret (v := .tuple #[.agg #[.slice (some ⟨w.heap.size + 1 + 1 + 1 + 1 + 1 + 1 + 1, 0, none⟩) 6 6, .slice (some ⟨w.heap.size + 1 + 1 + 1 + 1 + 1 + 1 + 1 + 1, 0, none⟩) 6 6], .bool true]) (by simp [results, Try.results114, go_sem, t0, t1]) rfl ⟨hB, .inr ⟨by simp, _, _, _, rfl, hL.out⟩⟩
  · have e1 : (t != 6) = true := by simp [h]
    have e2 : decide (t = 6) = false := by simp [h]
    have hB := (Below.refl w.heap.size w).alloc (Nat.le_refl _) (.cells #[.slice none 0 0, .slice none 0 0] 26)
    rw [e2]
    clear h e2
    go_enter Try.func114, Try.ntmps114
    go_wp2_with fail
    exact bodyPost_ret (v := .tuple #[noLog, .bool false]) (by simp [results, Try.results114, go_sem, noLog]) rfl ⟨hB, .inl ⟨rfl, rfl⟩⟩
end Go.Proofs.Ytojcgmgponnlpaa
namespace Go.Proofs.Ytojcgmgponnlpaa
open Go.RowKit Go.Deep

/-- A row of numbers that may be written. -/
structure RowW (w : World) (B : Nat) (a : Option Addr) (g o n : Nat) (z : Nat → Int) : Prop where
  row : RowAt w B a g o n z
  fro : ∀ c, c < n → w.frozen? ⟨g, o + c, none⟩ = false
theorem RowW.only {S : Nat → Prop} {w w' : World} {B : Nat} {a : Option Addr} {g o n : Nat} {z : Nat → Int} (h : RowW w B a g o n z) (ho : OnlyIn S w w') (hS : 0 < n → ¬ S g) : RowW w' B a g o n z :=
  ⟨⟨fun c hc => by
    obtain ⟨h1, h2, h3⟩ := h.row.row c hc
    exact ⟨h1, h2, (World.cell?_of_block (w := w) (ho.block g (hS (by omega)))).trans h3⟩⟩, fun c hc => (World.frozen?_of_block (w := w) (a := ⟨g, o + c, none⟩) (ho.block g (hS (by omega)))).trans (h.fro c hc)⟩
theorem RowW.set {w : World} {B : Nat} {a : Option Addr} {g o n : Nat} {z : Nat → Int} (h : RowW w B a g o n z) {k : Nat} (x : Int) (_ : k < n) : RowW (w.setCell ⟨g, o + k, none⟩ (.int .i64 x)) B a g o n (fun c => if c = k then x else z c) :=
  ⟨⟨fun c hc => by
    obtain ⟨h1, h2, h3⟩ := h.row.row c hc
    refine ⟨h1, h2, ?_⟩
    by_cases e : c = k
    · subst e
      rw [if_pos rfl]
      exact World.cell?_setCell_same _ _ _ h3
    · rw [if_neg e, World.cell?_setCell_other _ _ _ _ (fun e2 => by injection e2 with _ e3; omega)]
      exact h3⟩, fun c hc => by rw [World.frozen?_setCell]; exact h.fro c hc⟩
theorem RowAt.congr {w : World} {B : Nat} {a : Option Addr} {g o n : Nat} {z z' : Nat → Int} (h : RowAt w B a g o n z) (e : ∀ c, c < n → z c = z' c) : RowAt w B a g o n z' :=
  ⟨fun c hc => by obtain ⟨h1, h2, h3⟩ := h.row c hc; exact ⟨h1, h2, by rw [← e c hc]; exact h3⟩⟩
theorem RowW.congr {w : World} {B : Nat} {a : Option Addr} {g o n : Nat} {z z' : Nat → Int} (h : RowW w B a g o n z) (e : ∀ c, c < n → z c = z' c) : RowW w B a g o n z' := ⟨h.row.congr e, h.fro⟩

set_option maxHeartbeats 400000 in
theorem markIntS_w {B : Nat} {a : Option Addr} {g o n cap : Nat} {z : Nat → Int} {k0 : Int} {w : World} (hn : n ≤ 1048576) (h0 : 0 ≤ k0) (h1 : k0 ≤ 4398046511104) (h : RowW w B a g o n z) :
    Calls Try.prog 77 #[.slice a n cap, .int .i64 k0] w fun e w' => e = .returned (.int .i64 (k0 + n)) ∧ OnlyIn (fun j => 0 < n ∧ j = g) w w' ∧ RowW w' B a g o n (fun i => k0 + i) := by
  go_enter Try.func77, Try.ntmps77
  go_wp2
  go_loopw [1, 5] (fun t i wr => ∃ k : Nat, k ≤ n ∧ i = .int .i64 k ∧ t = .int .i64 (k0 + k) ∧ OnlyIn (fun j => 0 < n ∧ j = g) w wr ∧ RowW wr B a g o n (fun i => if i < k then k0 + i else z i)) (fun _ i _ => n - (intOf i).toNat)
  case atStart => exact ⟨0, Nat.zero_le _, rfl, by simp, OnlyIn.refl _ _, h.congr (fun i _ => by simp)⟩
  case round =>
    obtain ⟨k, hk, rfl, rfl, hO, hR⟩ := hrel
    by_cases hlt : k < n
    · obtain ⟨rfl, _, g4⟩ := hR.row.row k hlt
      have g5 := hR.fro k hlt
      have hlt' : (k : Int) < n := by omega
      have HR := Lib.hid hR
      have HO := Lib.hid hO
      clear hR hO h
      go_wp2
      go_roundw
      case rel =>
        refine ⟨k + 1, by omega, by go_num, by congr 1; omega, HO.out.set ⟨by omega, rfl⟩ _ _, (HR.out.set _ hlt).congr (fun i _ => ?_)⟩
        by_cases e : i = k
        · subst e; simp
        · rw [if_neg e]
          by_cases hi : i < k
          · rw [if_pos hi, if_pos (by omega)]
          · rw [if_neg hi, if_neg (by omega)]
      case measure => simp [intOf]; omega
    · have hlt' : ¬ (k : Int) < n := by omega
      have hkn : n = k := by omega
      have HK : Hid (n = k) := hkn
      clear hkn
      go_wp2
      go_ret
      exact ⟨ret_int (by have := HK.out; omega), hO, hR.congr (fun i hi => by rw [if_pos (by have := HK.out; omega)])⟩

set_option maxHeartbeats 400000 in
theorem heldIntS_any {B : Nat} {a : Option Addr} {g o n cap : Nat} {k0 : Int} {w : World} (hn : n ≤ 1048576) (h0 : 0 ≤ k0) (h1 : k0 ≤ 4398046511104) (h : RowAt w B a g o n (fun i => k0 + i)) :
    Calls Try.prog 79 #[.slice a n cap, .int .i64 k0] w fun e w' => e = .returned (.int .i64 (k0 + n)) ∧ w = w' := by
  go_enter Try.func79, Try.ntmps79
  go_wp2
  go_loop [1, 5] (fun t i => ∃ k : Nat, k ≤ n ∧ i = .int .i64 k ∧ t = .int .i64 (k0 + k)) (fun _ i => n - (intOf i).toNat)
  case atStart => exact ⟨0, Nat.zero_le _, rfl, by simp⟩
  case round =>
    obtain ⟨k, hk, rfl, rfl⟩ := hrel
    by_cases hlt : k < n
    · obtain ⟨rfl, _, c1⟩ := h.row k hlt
      have hlt' : (k : Int) < n := by omega
      go_wp2
      go_round
      case rel => exact ⟨k + 1, by omega, by go_num, by congr 1; omega⟩
      case measure => simp [intOf]; omega
    · have hlt' : ¬ (k : Int) < n := by omega
      have hkn : n = k := by omega
      have HK : Hid (n = k) := hkn
      clear hkn
      go_wp2
      go_ret
      exact ⟨ret_int (by have := HK.out; omega), rfl⟩

/-- Rows of numbers that may be written, each apart from the others and from the list of the rows. -/
structure MatW (w : World) (B : Nat) (a : Option Addr) (l : Lay) (m : Mx) : Prop where
  mat : MatAt w B a l m
  fro : ∀ r, r < m.n → ∀ c, c < m.L r → w.frozen? ⟨l.G r, l.O r + c, none⟩ = false
  sep : ∀ r s, r < m.n → s < m.n → r ≠ s → 0 < m.L r → 0 < m.L s → l.G r ≠ l.G s
  top : ∀ r, r < m.n → 0 < m.L r → l.G r ≠ l.b
theorem MatW.rowW {w : World} {B : Nat} {a : Option Addr} {l : Lay} {m : Mx} (h : MatW w B a l m) {r : Nat} (hr : r < m.n) : RowW w B (l.A r) (l.G r) (l.O r) (m.L r) (m.Z r) := ⟨h.mat.rowAt hr, h.fro r hr⟩
def marksOf (k0 : Nat) (m : Mx) : Mx := ⟨m.n, m.L, fun r c => ((k0 + offs m.L r + c : Nat) : Int)⟩
/-- The first k rows hold marks. -/
def marksTo (k0 k : Nat) (m : Mx) : Mx := ⟨m.n, m.L, fun r c => if r < k then ((k0 + offs m.L r + c : Nat) : Int) else m.Z r c⟩
/-- The blocks that hold rows. -/
def rowsS (l : Lay) (m : Mx) (j : Nat) : Prop := ∃ r, r < m.n ∧ 0 < m.L r ∧ j = l.G r
theorem MatW.congr {w : World} {B : Nat} {a : Option Addr} {l : Lay} {m : Mx} {Z : Nat → Nat → Int} (h : MatW w B a l m) (e : ∀ r, r < m.n → ∀ c, c < m.L r → m.Z r c = Z r c) : MatW w B a l ⟨m.n, m.L, Z⟩ :=
  ⟨⟨h.mat.top, fun r hr c hc => by show _ ∧ _ ∧ _ = some (Value.int .i64 (Z r c)); rw [← e r hr c hc]; exact h.mat.row r hr c hc⟩, h.fro, h.sep, h.top⟩
theorem MatW.only {S : Nat → Prop} {w w' : World} {B : Nat} {a : Option Addr} {l : Lay} {m : Mx} (h : MatW w B a l m) (ho : OnlyIn S w w') (hb : 0 < m.n → ¬ S l.b) (hG : ∀ r, r < m.n → 0 < m.L r → ¬ S (l.G r)) : MatW w' B a l m :=
  ⟨⟨fun r hr => by obtain ⟨h1, h2, h3⟩ := h.mat.top r hr; exact ⟨h1, h2, (World.cell?_of_block (w := w) (ho.block l.b (hb (by omega)))).trans h3⟩,
    fun r hr c hc => by obtain ⟨h1, h2, h3⟩ := h.mat.row r hr c hc; exact ⟨h1, h2, (World.cell?_of_block (w := w) (ho.block _ (hG r hr (by omega)))).trans h3⟩⟩,
   fun r hr c hc => (World.frozen?_of_block (w := w) (a := ⟨l.G r, l.O r + c, none⟩) (ho.block _ (hG r hr (by omega)))).trans (h.fro r hr c hc), h.sep, h.top⟩
/-- One row more is marked. -/
theorem MatW.mark {w w' : World} {B : Nat} {a : Option Addr} {l : Lay} {m : Mx} {k0 k : Nat} (h : MatW w B a l (marksTo k0 k m)) (hk : k < m.n) (ho : OnlyIn (fun j => 0 < m.L k ∧ j = l.G k) w w') (hr : RowW w' B (l.A k) (l.G k) (l.O k) (m.L k) (fun i => ((k0 + offs m.L k : Nat) : Int) + i)) : MatW w' B a l (marksTo k0 (k + 1) m) := by
  refine ⟨⟨fun r hr' => ?_, fun r hr' c hc => ?_⟩, fun r hr' c hc => ?_, h.sep, h.top⟩
  · obtain ⟨h1, h2, h3⟩ := h.mat.top r hr'
    exact ⟨h1, h2, (World.cell?_of_block (w := w) (ho.block l.b (fun e => h.top k hk e.1 e.2.symm))).trans h3⟩
  · have hc' : c < m.L r := hc
    by_cases e : r = k
    · subst e
      obtain ⟨h1, h2, h3⟩ := hr.row.row c hc'
      refine ⟨h1, h2, h3.trans ?_⟩
      show _ = some (Value.int .i64 (if r < r + 1 then ((k0 + offs m.L r + c : Nat) : Int) else m.Z r c))
      rw [if_pos (Nat.lt_succ_self r)]
      congr 1
    · obtain ⟨h1, h2, h3⟩ := h.mat.row r hr' c hc
      refine ⟨h1, h2, ((World.cell?_of_block (w := w) (ho.block (l.G r) (fun e2 => h.sep r k hr' hk e (by show 0 < m.L r; omega) e2.1 e2.2))).trans h3).trans ?_⟩
      show some (Value.int .i64 (if r < k then ((k0 + offs m.L r + c : Nat) : Int) else m.Z r c)) = some (Value.int .i64 (if r < k + 1 then ((k0 + offs m.L r + c : Nat) : Int) else m.Z r c))
      by_cases h4 : r < k
      · rw [if_pos h4, if_pos (by omega)]
      · rw [if_neg h4, if_neg (by omega)]
  · have hc' : c < m.L r := hc
    by_cases e : r = k
    · subst e
      exact hr.fro c hc'
    · exact (World.frozen?_of_block (w := w) (a := ⟨l.G r, l.O r + c, none⟩) (ho.block (l.G r) (fun e2 => h.sep r k hr' hk e (by show 0 < m.L r; omega) e2.1 e2.2))).trans (h.fro r hr' c hc)

set_option maxHeartbeats 400000 in
theorem markIntSS_w {B k0 : Nat} {a : Option Addr} {l : Lay} {m : Mx} {w : World} (hn : m.n ≤ 1048576) (hL : ∀ r, r < m.n → m.L r ≤ 1048576) (h0 : k0 ≤ 2199023255552) (h : MatW w B a l m) :
    Calls Try.prog 76 #[.slice a m.n l.cap, .int .i64 (k0 : Int)] w fun e w' => e = .returned (.int .i64 ((k0 + offs m.L m.n : Nat) : Int)) ∧ OnlyIn (rowsS l m) w w' ∧ MatW w' B a l (marksOf k0 m) := by
  go_enter Try.func76, Try.ntmps76
  go_wp2
  go_loopw [1, 5] (fun t i wr => ∃ k : Nat, k ≤ m.n ∧ i = .int .i64 k ∧ t = .int .i64 ((k0 + offs m.L k : Nat) : Int) ∧ OnlyIn (rowsS l m) w wr ∧ MatW wr B a l (marksTo k0 k m)) (fun _ i _ => m.n - (intOf i).toNat)
  case atStart => exact ⟨0, Nat.zero_le _, rfl, rfl, OnlyIn.refl _ _, h.congr (fun r _ c _ => by simp)⟩
  case round =>
    obtain ⟨k, hk, rfl, rfl, hO, hR⟩ := hrel
    by_cases hlt : k < m.n
    · obtain ⟨rfl, _, g4⟩ := hR.mat.top k hlt
      have hlt' : (k : Int) < m.n := by omega
      have hLk := hL k hlt
      have hoff := offs_le hL k (by omega)
      have hrow := Lib.hid (hR.rowW hlt)
      have HLL := Lib.hid hL
      have HR := Lib.hid hR
      have HO := Lib.hid hO
      have hL' : (marksTo k0 k m).L k = m.L k := rfl
      rw [hL'] at g4
      clear h hL hR hO hL'
      go_wp2_with fail
      go_at_call 77
      refine (markIntS_w hLk (by omega) (by omega) hrow.out).mono ?_
      rintro e w1 ⟨rfl, hO1, hR1⟩
      have hR2 := HR.out.mark hlt hO1 hR1
      have hO2 := HO.out.trans (hO1.mono fun j hj => ⟨k, hlt, hj.1, hj.2⟩)
      clear hR1 hO1
      go_wp2_with fail
      go_roundw
      case rel => exact ⟨k + 1, by omega, by go_num, by congr 1; simp only [offs]; omega, hO2, hR2⟩
      case measure => simp [intOf]; omega
    · have hlt' : ¬ (k : Int) < m.n := by omega
      have HK : Hid (k = m.n) := by show _ = _; omega
      clear h hL
      go_wp2_with fail
      go_ret
      exact ⟨ret_int (by rw [HK.out]), hO, hR.congr (fun r hr c _ => by
        have hr' : r < m.n := hr
        show (if r < k then _ else _) = _
        rw [if_pos (by have := HK.out; omega)])⟩

set_option maxHeartbeats 400000 in
theorem heldIntSS_w {B k0 : Nat} {a : Option Addr} {l : Lay} {m : Mx} {w : World} (hn : m.n ≤ 1048576) (hL : ∀ r, r < m.n → m.L r ≤ 1048576) (h0 : k0 ≤ 2199023255552) (h : MatAt w B a l (marksOf k0 m)) :
    Calls Try.prog 78 #[.slice a m.n l.cap, .int .i64 (k0 : Int)] w fun e w' => e = .returned (.int .i64 ((k0 + offs m.L m.n : Nat) : Int)) ∧ w = w' := by
  go_enter Try.func78, Try.ntmps78
  go_wp2
  go_loop [1, 5] (fun t i => ∃ k : Nat, k ≤ m.n ∧ i = .int .i64 k ∧ t = .int .i64 ((k0 + offs m.L k : Nat) : Int)) (fun _ i => m.n - (intOf i).toNat)
  case atStart => exact ⟨0, Nat.zero_le _, rfl, rfl⟩
  case round =>
    obtain ⟨k, hk, rfl, rfl⟩ := hrel
    by_cases hlt : k < m.n
    · obtain ⟨rfl, _, g4⟩ := h.top k hlt
      have hL' : (marksOf k0 m).L k = m.L k := rfl
      rw [hL'] at g4
      have hlt' : (k : Int) < m.n := by omega
      have hLk := hL k hlt
      have hoff := offs_le hL k (by omega)
      have hrow : RowAt w B (l.A k) (l.G k) (l.O k) (m.L k) (fun i => ((k0 + offs m.L k : Nat) : Int) + i) := ⟨fun c hc => by
        obtain ⟨h1, h2, h3⟩ := h.row k hlt c hc
        exact ⟨h1, h2, h3⟩⟩
      have HLL := Lib.hid hL
      have HROW := Lib.hid hrow
      clear h hL hL' hrow
      go_wp2_with fail
      go_at_call 79
      refine (heldIntS_any hLk (by omega) (by omega) HROW.out).mono ?_
      rintro e w1 ⟨rfl, rfl⟩
      go_wp2_with fail
      go_round
      case rel => exact ⟨k + 1, by omega, by go_num, by congr 1; simp only [offs]; omega⟩
      case measure => simp [intOf]; omega
    · have hlt' : ¬ (k : Int) < m.n := by omega
      have HK : Hid (k = m.n) := by show _ = _; omega
      clear h hL
      go_wp2_with fail
      go_ret
      exact ⟨ret_int (by rw [HK.out]), rfl⟩
end Go.Proofs.Ytojcgmgponnlpaa
namespace Go.Proofs.Ytojcgmgponnlpaa
open Go.RowKit Go.Deep

structure LogW (w : World) (B base : Nat) (ua : Option Addr) (l : Lay) (m : Mx) (na : Option Addr) (g o k : Nat) (z : Nat → Int) : Prop where
  mat : MatW w B ua l m
  row : RowW w B na g o k z
  ne : ∀ r, r < m.n → 0 < m.L r → 0 < k → l.G r ≠ g
  nb : 0 < m.n → 0 < k → l.b ≠ g
  bb : 0 < m.n → base ≤ l.b
  bG : ∀ r, r < m.n → 0 < m.L r → base ≤ l.G r
  bg : 0 < k → base ≤ g
  hn : m.n ≤ 1048576
  hL : ∀ r, r < m.n → m.L r ≤ 1048576
  hk : k ≤ 1048576
  hB : B ≤ w.heap.size
section
variable {w w' : World} {B base : Nat} {ua : Option Addr} {l : Lay} {m : Mx} {na : Option Addr} {g o k : Nat} {z : Nat → Int}
theorem LogW.logAt (h : LogW w B base ua l m na g o k z) : LogAt w B ua l m na g o k z :=
  ⟨h.mat.mat, h.row.row, by have := h.hn; omega, fun r hr => by have := h.hL r hr; omega, by have := h.hk; omega, h.hB⟩
theorem MatW.chg {S : Nat → Prop} (h : MatW w B ua l m) (hc : Chg S w w') (hB : B ≤ w.heap.size) (hb : 0 < m.n → ¬ S l.b) (hG : ∀ r, r < m.n → 0 < m.L r → ¬ S (l.G r)) : MatW w' B ua l m :=
  ⟨⟨fun r hr => by obtain ⟨h1, h2, h3⟩ := h.mat.top r hr; exact ⟨h1, h2, (World.cell?_of_block (w := w) (hc.block l.b (by omega) (hb (by omega)))).trans h3⟩,
    fun r hr c hc' => by obtain ⟨h1, h2, h3⟩ := h.mat.row r hr c hc'; exact ⟨h1, h2, (World.cell?_of_block (w := w) (hc.block (l.G r) (by omega) (hG r hr (by omega)))).trans h3⟩⟩,
   fun r hr c hc' => by
    obtain ⟨_, h2, _⟩ := h.mat.row r hr c hc'
    have hlt : l.G r < w.heap.size := by omega
    exact (World.frozen?_of_block (w := w) (a := ⟨l.G r, l.O r + c, none⟩) (hc.block (l.G r) hlt (hG r hr (by omega)))).trans (h.fro r hr c hc'), h.sep, h.top⟩
theorem RowW.chg {S : Nat → Prop} {a : Option Addr} {n : Nat} (h : RowW w B a g o n z) (hc : Chg S w w') (hB : B ≤ w.heap.size) (hg : 0 < n → ¬ S g) : RowW w' B a g o n z :=
  ⟨⟨fun c hc' => by obtain ⟨h1, h2, h3⟩ := h.row.row c hc'; exact ⟨h1, h2, (World.cell?_of_block (w := w) (hc.block g (by omega) (hg (by omega)))).trans h3⟩⟩,
   fun c hc' => by
    obtain ⟨_, h2, _⟩ := h.row.row c hc'
    exact (World.frozen?_of_block (w := w) (a := ⟨g, o + c, none⟩) (hc.block g (by omega) (hg (by omega)))).trans (h.fro c hc')⟩
theorem LogW.chg {S : Nat → Prop} (h : LogW w B base ua l m na g o k z) (hc : Chg S w w') (hS : ∀ j, S j → j < base ∨ B ≤ j) : LogW w' B base ua l m na g o k z := by
  have lt1 : 0 < m.n → l.b < B := fun h0 => (h.mat.mat.top 0 h0).2.1
  have lt2 : ∀ r, r < m.n → 0 < m.L r → l.G r < B := fun r hr h0 => (h.mat.mat.row r hr 0 h0).2.1
  have lt3 : 0 < k → g < B := fun h0 => (h.row.row.row 0 h0).2.1
  exact ⟨h.mat.chg hc h.hB (fun h0 e => by have := hS _ e; have := lt1 h0; have := h.bb h0; omega) (fun r hr h0 e => by have := hS _ e; have := lt2 r hr h0; have := h.bG r hr h0; omega),
    h.row.chg hc h.hB (fun h0 e => by have := hS _ e; have := lt3 h0; have := h.bg h0; omega), h.ne, h.nb, h.bb, h.bG, h.bg, h.hn, h.hL, h.hk, Nat.le_trans h.hB hc.size⟩
theorem LogW.below {B' : Nat} (h : LogW w B base ua l m na g o k z) (hb : Below B' w w') (hB : B ≤ B') : LogW w' B base ua l m na g o k z :=
  h.chg (Chg.of_below (S := fun j => B ≤ j) hb fun j _ hj => by omega) fun j hj => .inr hj
theorem LogW.more {B' : Nat} (h : LogW w B base ua l m na g o k z) (hB : B ≤ B') (hw : B' ≤ w.heap.size) : LogW w B' base ua l m na g o k z :=
  ⟨⟨h.mat.mat.more hB, h.mat.fro, h.mat.sep, h.mat.top⟩, ⟨⟨fun c hc => by obtain ⟨h1, h2, h3⟩ := h.row.row.row c hc; exact ⟨h1, by omega, h3⟩⟩, h.row.fro⟩, h.ne, h.nb, h.bb, h.bG, h.bg, h.hn, h.hL, h.hk, hw⟩
theorem LogW.rebase {b' : Nat} (h : LogW w B base ua l m na g o k z) (hb : b' ≤ base) : LogW w B b' ua l m na g o k z :=
  ⟨h.mat, h.row, h.ne, h.nb, fun h0 => Nat.le_trans hb (h.bb h0), fun r hr h0 => Nat.le_trans hb (h.bG r hr h0), fun h0 => Nat.le_trans hb (h.bg h0), h.hn, h.hL, h.hk, h.hB⟩
end

/-- Where the marks of a logic go on behind its rows. -/
def markAt (m : Mx) (k0 : Nat) : Nat := k0 + offs m.L m.n
theorem markAt_le {m : Mx} {k0 : Nat} (hn : m.n ≤ 1048576) (hL : ∀ r, r < m.n → m.L r ≤ 1048576) (h0 : k0 ≤ 2199023255552) : markAt m k0 ≤ 3298534883328 := by
  have := offs_le hL m.n (Nat.le_refl _)
  unfold markAt
  omega

set_option maxRecDepth 100000 in
set_option maxHeartbeats 1000000 in
theorem markLogic_w {w : World} {B base : Nat} {ua : Option Addr} {l : Lay} {m : Mx} {na : Option Addr} {g k nc k0 : Nat} {z : Nat → Int} (h : LogW w B base ua l m na g 0 k z) (h0 : k0 ≤ 2199023255552) :
    Calls Try.prog 41 #[.agg #[.slice ua m.n l.cap, .slice na k nc], .int .i64 (k0 : Int)] w fun e w' => e = .returned (.int .i64 ((markAt m k0 + k : Nat) : Int)) ∧ Chg (fun j => base ≤ j ∧ j < B) w w' ∧ LogW w' B base ua l (marksOf k0 m) na g 0 k (fun i => ((markAt m k0 : Nat) : Int) + i) := by
  have hX := BoxN.start w #[.slice ua m.n l.cap, .slice na k nc] 26
  have h1 := Lib.hid (h.below hX.below h.hB)
  have hma := markAt_le h.hn h.hL h0
  have lt2 := Lib.hid (fun r (hr : r < m.n) (hl : 0 < m.L r) => (h.mat.mat.row r hr 0 hl).2.1)
  have lt3 := Lib.hid (fun (hl : 0 < k) => (h.row.row.row 0 hl).2.1)
  have q0 := hX.cell 0 rfl
  have q1 := hX.cell 1 rfl
  have hBw := h.hB
  have hc0 := Chg.alloc (fun j => base ≤ j ∧ j < B) w (.cells #[.slice ua m.n l.cap, .slice na k nc] 26)
  clear h
  go_enter Try.func41, Try.ntmps41
  go_wp2_with fail
  go_at_call 76
  refine (markIntSS_w h1.out.hn h1.out.hL h0 h1.out.mat).mono ?_
  rintro e w2 ⟨rfl, hO, hM⟩
  have hO' := hO.mono (T := fun j => base ≤ j ∧ j < B) fun j ⟨r, hr, hl, e⟩ => ⟨by rw [e]; exact h1.out.bG r hr hl, by rw [e]; exact lt2.out r hr hl⟩
  have q2 := (World.cell?_of_block (w := w.alloc (.cells #[.slice ua m.n l.cap, .slice na k nc] 26)) (a := ⟨w.heap.size, 1, none⟩) (hO'.block w.heap.size (by omega))).trans q1
  have hR := h1.out.row.only hO fun hk ⟨r, hr, hl, e⟩ => h1.out.ne r hr hl hk e.symm
  have hR' := Lib.hid hR
  have HO := Lib.hid hO'
  have HM := Lib.hid hM
  clear hO hO' hM hR q0 q1
  go_wp2_with fail
  go_at_call 77
  refine (markIntS_w (k0 := ((k0 + offs m.L m.n : Nat) : Int)) h1.out.hk (by omega) (by unfold markAt at hma; omega) hR'.out).mono ?_
  rintro e w3 ⟨rfl, hO3, hR3⟩
  have hO3' := hO3.mono (T := fun j => base ≤ j ∧ j < B) fun j ⟨hl, e⟩ => ⟨by rw [e]; exact h1.out.bg hl, by rw [e]; exact lt3.out hl⟩
  have hM3 := HM.out.only hO3 (fun hn ⟨hk, e⟩ => h1.out.nb hn hk e) (fun r hr hl ⟨hk, e⟩ => h1.out.ne r hr hl hk e)
  have hsz : w.heap.size ≤ w3.heap.size := by have := hO3.size; have := HO.out.size; simp at this; omega
  have hall : Hid (LogW w3 B base ua l (marksOf k0 m) na g 0 k (fun i => ((markAt m k0 : Nat) : Int) + i)) := ⟨hM3, hR3, h1.out.ne, h1.out.nb, h1.out.bb, h1.out.bG, h1.out.bg, h1.out.hn, h1.out.hL, h1.out.hk, by omega⟩
  have hch := (hc0.trans (Chg.of_only HO.out)).trans (Chg.of_only hO3')
  clear hO3 hO3' hM3 hR3
  go_wp2_with fail
  go_ret
  exact ⟨ret_int (by unfold markAt; omega), hch, hall.out⟩

set_option maxRecDepth 100000 in
set_option maxHeartbeats 1000000 in
theorem heldLogic_w {w : World} {B : Nat} {ua : Option Addr} {l : Lay} {m : Mx} {na : Option Addr} {g k nc k0 : Nat} (hm : MatAt w B ua l (marksOf k0 m)) (hr : RowAt w B na g 0 k (fun i => ((markAt m k0 : Nat) : Int) + i)) (hB : B ≤ w.heap.size) (hn : m.n ≤ 1048576) (hL : ∀ r, r < m.n → m.L r ≤ 1048576) (hk : k ≤ 1048576) (h0 : k0 ≤ 2199023255552) :
    Calls Try.prog 43 #[.agg #[.slice ua m.n l.cap, .slice na k nc], .int .i64 (k0 : Int)] w fun e w' => e = .returned (.int .i64 ((markAt m k0 + k : Nat) : Int)) ∧ Below w.heap.size w w' := by
  have hX := BoxN.start w #[.slice ua m.n l.cap, .slice na k nc] 26
  have hm1 := Lib.hid (hm.below (hX.below.mono hB))
  have hr1 := Lib.hid (hr.below (hX.below.mono hB))
  have hma := markAt_le hn hL h0
  have q0 := hX.cell 0 rfl
  have q1 := hX.cell 1 rfl
  have HL := Lib.hid hL
  clear hm hr hL
  go_enter Try.func43, Try.ntmps43
  go_wp2_with fail
  go_at_call 78
  refine (heldIntSS_w hn HL.out h0 hm1.out).mono ?_
  rintro e w2 ⟨rfl, rfl⟩
  go_wp2_with fail
  go_at_call 79
  refine (heldIntS_any (k0 := ((k0 + offs m.L m.n : Nat) : Int)) hk (by omega) (by unfold markAt at hma; omega) hr1.out).mono ?_
  rintro e w3 ⟨rfl, rfl⟩
  go_wp2_with fail
  go_ret
  exact ⟨ret_int (by unfold markAt; omega), hX.below⟩

/-- A logic that comes back, or none: rows, opposites and all. -/
def ResL (w : World) (n : Nat) (Z : Nat → Nat → Int) (y : Nat → Nat) (e : Ending) (ok : Bool) (w' : World) : Prop :=
  ∃ (ua : Option Addr) (l : Lay) (na : Option Addr) (g nc : Nat), e = .returned (.tuple #[.agg #[.slice ua n l.cap, .slice na n nc], .bool ok]) ∧ LogW w' w'.heap.size w.heap.size ua l ⟨n, fun _ => n, Z⟩ na g 0 n (fun c => (y c : Int)) ∧ Below w.heap.size w w'
def noLay : Lay := ⟨0, 0, 0, fun _ => none, fun _ => 0, fun _ => 0, fun _ => 0⟩
theorem LogW.none (w : World) (Z : Nat → Nat → Int) (z : Nat → Int) (base : Nat) : LogW w w.heap.size base Option.none noLay ⟨0, fun _ => 0, Z⟩ Option.none 0 0 0 z :=
  ⟨⟨⟨fun _ hr => absurd hr (Nat.not_lt_zero _), fun _ hr => absurd hr (Nat.not_lt_zero _)⟩, fun _ hr => absurd hr (Nat.not_lt_zero _), fun _ _ hr => absurd hr (Nat.not_lt_zero _), fun _ hr => absurd hr (Nat.not_lt_zero _)⟩, ⟨⟨fun _ hr => absurd hr (Nat.not_lt_zero _)⟩, fun _ hr => absurd hr (Nat.not_lt_zero _)⟩,
   fun _ hr => absurd hr (Nat.not_lt_zero _), fun hr => absurd hr (Nat.not_lt_zero _), fun hr => absurd hr (Nat.not_lt_zero _), fun _ hr => absurd hr (Nat.not_lt_zero _), fun hr => absurd hr (Nat.not_lt_zero _), Nat.zero_le _, fun _ hr => absurd hr (Nat.not_lt_zero _), Nat.zero_le _, Nat.le_refl _⟩
theorem LogO.logW {w : World} {base : Nat} {u t : Value} {n : Nat} {rv : Nat → Value} {Z : Nat → Nat → Int} {y : Nat → Int} (h : LogO w base u t n rv Z y) :
    ∃ (ua : Option Addr) (l : Lay) (na : Option Addr) (g nc : Nat), u = .slice ua n l.cap ∧ t = .slice na n nc ∧ LogW w w.heap.size base ua l ⟨n, fun _ => n, Z⟩ na g 0 n y := by
  have hp := h.pos
  have hh := h.hi
  have hrv : ∀ r, r < n → ∃ y : Nat × Nat, rv r = .slice (some ⟨y.1, 0, none⟩) n y.2 ∧ y.1 < w.heap.size ∧ base ≤ y.1 ∧ (∀ j, j < n → w.cell? ⟨y.1, j, none⟩ = some (.int .i64 (Z r j))) ∧ (∀ j, w.frozen? ⟨y.1, j, none⟩ = false) := fun r hr => by
    obtain ⟨g, cap, h1, h2⟩ := h.out.bigN hr hp
    have h3 := h.out.row r hr
    rw [h1] at h3
    exact ⟨(g, cap), h1, own_lt h3 g rfl, ownsRow_block h3 g rfl, h2, fun j => World.ownsRow.frozenAt h3 j⟩
  obtain ⟨f, hf⟩ := choose_lt hrv
  obtain ⟨b, cap, rfl, hc⟩ := h.out.topv hp
  obtain ⟨g, nc, rfl, hg, hlt, _⟩ := h.ints.val (by omega)
  have hsep : ∀ r, r < n → (f r).1 ≠ g := fun r hr e => h.sep r hr (by rw [(hf r hr).1, e]; rfl)
  have hbg : b ≠ g := fun e => by
    have h1 := h.out.top
    have h2 := h.ints
    rcases owns_apart h1 h2 (by decide) with h3 | h3
    · simp [Value.ownBlock] at h3
    · exact h3 (by rw [e]; rfl)
  have hbr : ∀ r, r < n → (f r).1 ≠ b := fun r hr e => by
    have h1 := h.out.row r hr
    rw [(hf r hr).1] at h1
    rcases owns_apart h1 h.out.top (by decide) with h3 | h3
    · simp [Value.ownBlock] at h3
    · exact h3 (by rw [e]; rfl)
  have hrs : ∀ r s, r < n → s < n → r ≠ s → (f r).1 ≠ (f s).1 := fun r s hr hs hne e => h.out.apart r s hr hs hne (by rw [(hf r hr).1, (hf s hs).1, e]; rfl)
  refine ⟨some ⟨b, 0, Option.none⟩, ⟨b, 0, cap, fun r => some ⟨(f r).1, 0, Option.none⟩, fun r => (f r).2, fun r => (f r).1, fun _ => 0⟩, some ⟨g, 0, Option.none⟩, g, nc, rfl, rfl, ⟨⟨⟨fun r hr => ?_, fun r hr c hc' => ?_⟩, fun r hr c hc' => ?_, fun r s hr hs hne _ _ => hrs r s hr hs hne, fun r hr _ => hbr r hr⟩,
    ⟨⟨fun c hc' => ⟨rfl, hlt, by rw [Nat.zero_add]; exact h.ints.cell hc'⟩⟩, fun c _ => World.ownsRow.frozenAt h.ints _⟩, fun r hr _ _ => hsep r hr, fun _ _ => hbg, fun _ => ownsRow_block h.out.top b rfl, fun r hr _ => (hf r hr).2.2.1, fun _ => hg, by show n ≤ _; omega, fun _ _ => by show n ≤ _; omega, by omega, Nat.le_refl _⟩⟩
  · have hr' : r < n := hr
    refine ⟨rfl, own_lt h.out.top b rfl, ?_⟩
    rw [Nat.zero_add, hc r hr', (hf r hr').1]
  · have hr' : r < n := hr
    have hc'' : c < n := hc'
    refine ⟨rfl, (hf r hr').2.1, ?_⟩
    rw [Nat.zero_add]
    exact (hf r hr').2.2.2.1 c hc''
  · have hr' : r < n := hr
    exact (hf r hr').2.2.2.2 _
theorem MadeOk.res {w : World} {N : Nat} {Z : Nat → Nat → Int} {y : Nat → Nat} {ok : Bool} {e : Ending} {w' : World} (h : MadeOk w N Z y ok e w') : ResL w (if ok = true then N else 0) Z y e ok w' := by
  obtain ⟨hb, (⟨rfl, rfl⟩ | ⟨rfl, u, t, rv, rfl, hL⟩)⟩ := h
  · exact ⟨none, noLay, none, 0, 0, rfl, LogW.none w' Z _ _, hb⟩
  · obtain ⟨ua, l, na, g, nc, rfl, rfl, hW⟩ := hL.logW
    exact ⟨ua, l, na, g, nc, rfl, hW, hb⟩
end Go.Proofs.Ytojcgmgponnlpaa
namespace Go.Proofs.Ytojcgmgponnlpaa
open Go.RowKit Go.Deep

theorem OutS.matW {w wr : World} {m : Mx} (h : OutS w wr m m.n) : MatW wr wr.heap.size (some ⟨w.heap.size, 0, none⟩) (freshLay w.heap.size m) m :=
  ⟨h.mat, fun r hr _ _ => (h.row r hr).frozen _, fun r s _ _ hne _ _ e => hne (by have e' : w.heap.size + 1 + r = w.heap.size + 1 + s := e; omega), fun r _ _ e => by have e' : w.heap.size + 1 + r = w.heap.size := e; omega⟩
theorem CopyS.rowW {w w' : World} {n : Nat} {z : Nat → Int} (h : CopyS w w' n n z) : RowW w' w'.heap.size (some ⟨w.heap.size, 0, none⟩) w.heap.size 0 n z :=
  ⟨h.rowAt, fun _ _ => h.row.frozen _⟩
/-- What a copy is, as one that may be marked. -/
def CopyW (w : World) (m : Mx) (k : Nat) (z : Nat → Int) (e : Ending) (w' : World) : Prop :=
  ∃ N q : Nat, e = .returned (.agg #[.slice (some ⟨N, 0, none⟩) m.n m.n, .slice (some ⟨q, 0, none⟩) k k]) ∧ LogW w' w'.heap.size w.heap.size (some ⟨N, 0, none⟩) (freshLay N m) m (some ⟨q, 0, none⟩) q 0 k z ∧ Below w.heap.size w w'
theorem copy_made {w : World} {B1 B2 N q k base : Nat} {m : Mx} {z : Nat → Int} (h : MatW w B1 (some ⟨N, 0, none⟩) (freshLay N m) m) (h' : RowW w B2 (some ⟨q, 0, none⟩) q 0 k z) (hn : m.n ≤ 1048576) (hL : ∀ r, r < m.n → m.L r ≤ 1048576) (hk : k ≤ 1048576) (h1 : B1 ≤ q) (h2 : base ≤ N) (h3 : B1 ≤ w.heap.size) (h4 : B2 ≤ w.heap.size) (h5 : base ≤ q) :
    LogW w w.heap.size base (some ⟨N, 0, none⟩) (freshLay N m) m (some ⟨q, 0, none⟩) q 0 k z :=
  ⟨⟨h.mat.more h3, h.fro, h.sep, h.top⟩, ⟨⟨fun c hc => by obtain ⟨a, b, d⟩ := h'.row.row c hc; exact ⟨a, by omega, d⟩⟩, h'.fro⟩,
   fun r hr hl _ e => by have := (h.mat.row r hr 0 hl).2.1; omega, fun hr _ e => by have := (h.mat.top 0 hr).2.1; omega, fun _ => h2, fun r _ _ => by show base ≤ N + 1 + r; omega, fun _ => h5, hn, hL, hk, Nat.le_refl _⟩

set_option maxRecDepth 100000 in
set_option maxHeartbeats 2000000 in
theorem toLogic_w {w : World} {B : Nat} {ua : Option Addr} {l : Lay} {m : Mx} {na : Option Addr} {g o k nc : Nat} {z : Nat → Int} (h : LogAt w B ua l m na g o k z) (hn : m.n ≤ 1048576) (hL : ∀ r, r < m.n → m.L r ≤ 1048576) (hk : k ≤ 1048576) :
    Calls Try.prog 37 #[.agg #[.slice ua m.n l.cap, .slice na k nc]] w (CopyW w m k z) := by
  have hbx := TwoAt.new w (.slice ua m.n l.cap) (.slice na k nc) 41
  have b1 := (Below.refl w.heap.size w).alloc (Nat.le_refl _) (.cells #[.slice ua m.n l.cap, .slice na k nc] 41)
  have hrs := TwoAt.new (w.alloc (.cells #[.slice ua m.n l.cap, .slice na k nc] 41)) (.slice none 0 0) (.slice none 0 0) 26
  have hou := TwoAt.new ((w.alloc (.cells #[.slice ua m.n l.cap, .slice na k nc] 41)).alloc (.cells #[.slice none 0 0, .slice none 0 0] 26)) (.slice none 0 0) (.slice none 0 0) 26
  rw [World.size_alloc] at hrs
  rw [World.size_alloc, World.size_alloc] at hou
  have b2 := (Below.refl (w.heap.size + 1) (w.alloc (.cells #[.slice ua m.n l.cap, .slice na k nc] 41))).alloc (by simp) (.cells #[.slice none 0 0, .slice none 0 0] 26)
  have b3 := (Below.refl (w.heap.size + 1 + 1) ((w.alloc (.cells #[.slice ua m.n l.cap, .slice na k nc] 41)).alloc (.cells #[.slice none 0 0, .slice none 0 0] 26))).alloc (by simp) (.cells #[.slice none 0 0, .slice none 0 0] 26)
  have hbx2 := (hbx.below b2 (by omega)).below b3 (by omega)
  have hrs2 := hrs.below b3 (by omega)
  have bw : Below w.heap.size w (((w.alloc (.cells #[.slice ua m.n l.cap, .slice na k nc] 41)).alloc (.cells #[.slice none 0 0, .slice none 0 0] 26)).alloc (.cells #[.slice none 0 0, .slice none 0 0] 26)) := (b1.trans (b2.mono (by omega))).trans (b3.mono (by omega))
  have hsz : (((w.alloc (.cells #[.slice ua m.n l.cap, .slice na k nc] 41)).alloc (.cells #[.slice none 0 0, .slice none 0 0] 26)).alloc (.cells #[.slice none 0 0, .slice none 0 0] 26)).heap.size ≥ w.heap.size + 3 := by simp
  have HL := Lib.hid hL
  have HH := Lib.hid h
  clear hL h hbx hrs b1 b2 b3
  go_enter Try.func37, Try.ntmps37
  generalize hW : ((w.alloc (.cells #[.slice ua m.n l.cap, .slice na k nc] 41)).alloc (.cells #[.slice none 0 0, .slice none 0 0] 26)).alloc (.cells #[.slice none 0 0, .slice none 0 0] 26) = W at hbx2 hrs2 hou bw hsz
  have k0 := hbx2.c0
  have k1 := hbx2.c1
  have k4 := hou.c0
  have k5 := hou.f0
  go_wp2_with fail
  go_at_call 72
  refine (toIntSS_any B _ _ _ _ hn HL.out (HH.out.mat.below (bw.mono HH.out.hB)) (by have := HH.out.hB; omega)).mono ?_
  rintro e w2 ⟨rfl, hS⟩
  clear hW k0 k1 k4 k5
  have hb2 := hS.old
  have hs2 := hb2.size
  have hSW := Lib.hid hS.matW
  have c23 : Chg (fun j => j = w.heap.size + 1 + 1 ∨ j = w.heap.size + 1) w2 (w2.setCell ⟨w.heap.size + 1 + 1, 0, none⟩ (.slice (some ⟨W.heap.size, 0, none⟩) m.n m.n)) := Chg.set (.inl rfl) _
  have hbx3 := (hbx2.below hb2 (by omega)).other (q := w.heap.size + 1 + 1) (i := 0) (x := .slice (some ⟨W.heap.size, 0, none⟩) m.n m.n) (by omega)
  have hrs3 := (hrs2.below hb2 (by omega)).other (q := w.heap.size + 1 + 1) (i := 0) (x := .slice (some ⟨W.heap.size, 0, none⟩) m.n m.n) (by omega)
  have hou2 := hou.below hb2 (by omega)
  have hou3 := hou2.set0 (.slice (some ⟨W.heap.size, 0, none⟩) m.n m.n)
  have hM3 := hS.mat.only (S := fun x => x = w.heap.size + 1 + 1) (fresh_from W.heap.size m) ((OnlyIn.refl (fun x => x = w.heap.size + 1 + 1) w2).set (b := w.heap.size + 1 + 1) rfl 0 (.slice (some ⟨W.heap.size, 0, none⟩) m.n m.n)) (fun j hj => by have hj' : j = w.heap.size + 1 + 1 := hj; omega)
  have bw3 := (bw.trans (hb2.mono (by omega))).setCell (p := ⟨w.heap.size + 1 + 1, 0, none⟩) (by show w.heap.size ≤ w.heap.size + 1 + 1; omega) (.slice (some ⟨W.heap.size, 0, none⟩) m.n m.n)
  have k4 := hou2.c0
  have k5 := hou2.f0
  have hsz3 : (w2.setCell ⟨w.heap.size + 1 + 1, 0, none⟩ (.slice (some ⟨W.heap.size, 0, none⟩) m.n m.n)).heap.size ≤ w2.heap.size := by simp
  have hsy3 : w2.heap.size ≤ (w2.setCell ⟨w.heap.size + 1 + 1, 0, none⟩ (.slice (some ⟨W.heap.size, 0, none⟩) m.n m.n)).heap.size := by simp
  generalize hW3 : w2.setCell ⟨w.heap.size + 1 + 1, 0, none⟩ (.slice (some ⟨W.heap.size, 0, none⟩) m.n m.n) = w3 at hbx3 hrs3 hou3 hM3 bw3 hsz3 hsy3 c23
  clear hS hbx2 hrs2 hou hou2
  have k1 := hbx3.c1
  have k2 := hou3.c1
  have k3 := hou3.f1
  go_wp2_with fail
  go_at_call 73
  refine (toIntS_any B _ _ _ _ _ _ _ hk (HH.out.row.below (bw3.mono HH.out.hB)) (by have := HH.out.hB; have := bw3.size; omega)).mono ?_
  rintro e w4 ⟨rfl, hC⟩
  clear hW3 k1 k2 k3 k4 k5
  have hb4 := hC.old
  have hs4 := hb4.size
  have hCW := Lib.hid hC.rowW
  have c34 : Chg (fun j => j = w.heap.size + 1 + 1 ∨ j = w.heap.size + 1) w3 w4 := Chg.of_below hb4 fun j h1 h2 => absurd h1 (by omega)
  have c45 : Chg (fun j => j = w.heap.size + 1 + 1 ∨ j = w.heap.size + 1) w4 (w4.setCell ⟨w.heap.size + 1 + 1, 1, none⟩ (.slice (some ⟨w3.heap.size, 0, none⟩) k k)) := Chg.set (.inl rfl) _
  have hbw3 := bw3.size
  have hrs4 := (hrs3.below hb4 (by omega)).other (q := w.heap.size + 1 + 1) (i := 1) (x := .slice (some ⟨w3.heap.size, 0, none⟩) k k) (by omega)
  have hou4 := hou3.below hb4 (by omega)
  have hou5 := hou4.set1 (.slice (some ⟨w3.heap.size, 0, none⟩) k k)
  have hM4 := (hM3.below (B := w2.heap.size) (hb4.mono (by omega))).only (S := fun x => x = w.heap.size + 1 + 1) (fresh_from W.heap.size m) ((OnlyIn.refl (fun x => x = w.heap.size + 1 + 1) w4).set (b := w.heap.size + 1 + 1) rfl 1 (.slice (some ⟨w3.heap.size, 0, none⟩) k k)) (fun j hj => by have hj' : j = w.heap.size + 1 + 1 := hj; omega)
  have hR4 := hC.rowAt.only (S := fun x => x = w.heap.size + 1 + 1) ((OnlyIn.refl (fun x => x = w.heap.size + 1 + 1) w4).set (b := w.heap.size + 1 + 1) rfl 1 (.slice (some ⟨w3.heap.size, 0, none⟩) k k)) (fun hj => by have hj' : w3.heap.size = w.heap.size + 1 + 1 := hj; omega)
  have bw5 := (bw3.trans (hb4.mono (by omega))).setCell (p := ⟨w.heap.size + 1 + 1, 1, none⟩) (by show w.heap.size ≤ w.heap.size + 1 + 1; omega) (.slice (some ⟨w3.heap.size, 0, none⟩) k k)
  have k2 := hou4.c1
  have k3 := hou4.f1
  have hsz5 : (w4.setCell ⟨w.heap.size + 1 + 1, 1, none⟩ (.slice (some ⟨w3.heap.size, 0, none⟩) k k)).heap.size ≤ w4.heap.size := by simp
  have hsy5 : w4.heap.size ≤ (w4.setCell ⟨w.heap.size + 1 + 1, 1, none⟩ (.slice (some ⟨w3.heap.size, 0, none⟩) k k)).heap.size := by simp
  generalize hW5 : w4.setCell ⟨w.heap.size + 1 + 1, 1, none⟩ (.slice (some ⟨w3.heap.size, 0, none⟩) k k) = w5 at hrs4 hou5 hM4 hR4 bw5 hsz5 hsy5 c45
  clear hbx3 hrs3 hou3 hou4 hM3
  have r0 := hou5.c0
  have r1 := hou5.c1
  have r2 := hrs4.c0
  have r3 := hrs4.c1
  have r4 := hrs4.f0
  have r5 := hrs4.f1
  go_wp2_with fail
  clear hW5
  have hfin := (hrs4.set0 (.slice (some ⟨W.heap.size, 0, none⟩) m.n m.n)).set1 (.slice (some ⟨w3.heap.size, 0, none⟩) k k)
  have t0 := hfin.c0
  have t1 := hfin.c1
  have hon := ((OnlyIn.refl (fun x => x = w.heap.size + 1) w5).set (b := w.heap.size + 1) rfl 0 (.slice (some ⟨W.heap.size, 0, none⟩) m.n m.n)).set (b := w.heap.size + 1) rfl 1 (.slice (some ⟨w3.heap.size, 0, none⟩) k k)
  have hson := hon.size
  have cF : Chg (fun j => j = w.heap.size + 1 + 1 ∨ j = w.heap.size + 1) w5 _ := (Chg.of_only hon).mono fun j hj => .inr hj
  have cA := (c23.trans c34).trans (c45.trans cF)
  have cB := c45.trans cF
  have hall := Lib.hid (copy_made (hSW.out.chg cA (Nat.le_refl _) (fun _ => by show ¬ (_ ∨ _); unfold freshLay; simp only; omega) (fun r _ _ => by show ¬ (_ ∨ _); unfold freshLay; simp only; omega)) (hCW.out.chg cB (Nat.le_refl _) (fun _ => by show ¬ (_ ∨ _); omega)) (base := w.heap.size) hn HL.out hk (by omega) (by omega) (by omega) (by omega) (by omega))
  refine bodyPost_ret (v := .agg #[.slice (some ⟨W.heap.size, 0, none⟩) m.n m.n, .slice (some ⟨w3.heap.size, 0, none⟩) k k]) (by simp [results, Try.results37, go_sem, t0, t1]) rfl
    ⟨W.heap.size, w3.heap.size, rfl, hall.out, bw5.trans (hon.below fun j hj => by have hj' : j = w.heap.size + 1 := hj; omega)⟩
end Go.Proofs.Ytojcgmgponnlpaa
namespace Go.Proofs.Ytojcgmgponnlpaa
open Go.RowKit Go.Deep

set_option maxHeartbeats 400000 in
theorem szIntSS_v {v0 : Int} (h00 : 0 ≤ v0) (h01 : v0 ≤ 1048576) (B : Nat) (a : Option Addr) (l : Lay) (m : Mx) (w : World) (hn : m.n ≤ 9223372036854775807) (hL : ∀ r, r < m.n → m.L r ≤ 9223372036854775807) (h1 : MatAt w B a l m) :
    Calls Try.prog 70 #[.slice a m.n l.cap, .int .i64 v0] w fun e w' => SzPost m e ∧ w = w' := by
  by_cases hbig : v0 < (m.n : Int)
  · have hb' : v0 - m.n < 0 := by omega
    go_enter Try.func70, Try.ntmps70
    go_wp2
    go_ret
    exact ⟨⟨-1, rfl, .inl (by omega)⟩, rfl⟩
  have hb' : ¬ v0 - m.n < 0 := by omega
  go_enter Try.func70, Try.ntmps70
  go_wp2
  go_loop [1, 5] (fun t i => ∃ (k : Nat) (v : Int), k ≤ m.n ∧ i = .int .i64 k ∧ t = .int .i64 v ∧ 0 ≤ v ∧ v ≤ 1048576 ∧ ∀ r, r < k → m.L r ≤ 1048576) (fun _ i => m.n - (intOf i).toNat)
  case atStart => exact ⟨0, v0 - m.n, Nat.zero_le _, rfl, rfl, by omega, by omega, fun r hr => absurd hr (Nat.not_lt_zero _)⟩
  case round =>
    obtain ⟨k, v, hk, rfl, rfl, hv0, hv1, hR⟩ := hrel
    have HR := Lib.hid hR
    clear hR
    by_cases hlt : k < m.n
    · obtain ⟨rfl, _, c1⟩ := h1.top k hlt
      have hLk := hL k hlt
      have hlt' : (k : Int) < m.n := by omega
      clear hL h1
      by_cases hv : v < m.L k
      · go_wp2_with (go_at_call 71; refine (szIntS_neg _ _ _ _ _ hLk hv0 hv1 hv).mono ?_; rintro e w1 ⟨rfl, rfl⟩)
        go_ret
        exact ⟨⟨-1, rfl, .inl (by omega)⟩, rfl⟩
      · have hv' : ¬ v - (m.L k : Int) < 0 := by omega
        go_wp2_with (go_at_call 71; refine (szIntS_pos _ _ _ _ _ hLk hv0 hv1 hv).mono ?_; rintro e w1 ⟨rfl, rfl⟩)
        go_round
        case rel => exact ⟨k + 1, v - m.L k, by omega, by go_num, rfl, by omega, by omega, fun r hr => by
          by_cases e : r = k
          · subst e; omega
          · exact HR.out r (by omega)⟩
        case measure => simp [intOf]; omega
    · have hkn' : ¬ (k : Int) < m.n := by omega
      clear hL h1
      go_wp2
      go_ret
      exact ⟨⟨v, rfl, .inr ⟨by omega, fun r hr => HR.out r (by omega), hv0, hv1⟩⟩, rfl⟩

set_option maxRecDepth 100000 in
set_option maxHeartbeats 1000000 in
theorem szLogic_v {v0 : Int} (h00 : 0 ≤ v0) (h01 : v0 ≤ 1048576) {w : World} {B : Nat} {ua : Option Addr} {l : Lay} {m : Mx} {na : Option Addr} {g o k nc : Nat} {z : Nat → Int} (h : LogAt w B ua l m na g o k z) :
    Calls Try.prog 35 #[.agg #[.slice ua m.n l.cap, .slice na k nc], .int .i64 v0] w fun e w' => SzL m k e ∧ Below w.heap.size w w' := by
  have hX := BoxN.start w #[.slice ua m.n l.cap, .slice na k nc] 41
  have h1 := Lib.hid (h.alloc (.cells #[.slice ua m.n l.cap, .slice na k nc] 41))
  have q0 := hX.cell 0 rfl
  have q1 := hX.cell 1 rfl
  have hkk := h.hk
  clear h
  go_enter Try.func35, Try.ntmps35
  go_wp2_with fail
  go_at_call 70
  refine (szIntSS_v h00 h01 _ _ _ _ _ h1.out.hn h1.out.hL h1.out.mat).mono ?_
  rintro e w1 ⟨⟨v, rfl, hv⟩, rfl⟩
  by_cases hneg : v < 0
  · go_wp2_with fail
    go_ret
    exact ⟨⟨-1, rfl, .inl (by omega)⟩, hX.below⟩
  · obtain ⟨hn, hL, hv0, hv1⟩ : m.n ≤ 1048576 ∧ (∀ r, r < m.n → m.L r ≤ 1048576) ∧ 0 ≤ v ∧ v ≤ 1048576 := hv.resolve_left hneg
    clear hv
    have HL := Lib.hid hL
    clear hL
    by_cases hs : v < (k : Int)
    · go_wp2_with fail
      go_at_call 71
      refine (szIntS_neg _ _ _ _ _ hkk hv0 hv1 hs).mono ?_
      rintro e w2 ⟨rfl, rfl⟩
      go_wp2_with fail
      go_ret
      exact ⟨⟨-1, rfl, .inl (by omega)⟩, hX.below⟩
    · have hs' : ¬ v - (k : Int) < 0 := by omega
      go_wp2_with fail
      go_at_call 71
      refine (szIntS_pos _ _ _ _ _ hkk hv0 hv1 (by omega)).mono ?_
      rintro e w2 ⟨rfl, rfl⟩
      go_wp2_with fail
      go_ret
      exact ⟨⟨_, rfl, .inr ⟨hn, HL.out, by omega, by omega, by omega⟩⟩, hX.below⟩

theorem LogAt.lift {W W' : World} {B : Nat} {ua : Option Addr} {l : Lay} {m : Mx} {na : Option Addr} {g o k : Nat} {z : Nat → Int} (h : LogAt W B ua l m na g o k z) (hb : Below W.heap.size W W') : LogAt W' W'.heap.size ua l m na g o k z :=
  have h' := h.step hb
  ⟨h'.mat.more h'.hB, ⟨fun c hc => by obtain ⟨a, b, d⟩ := h'.row.row c hc; exact ⟨a, by have := h'.hB; omega, d⟩⟩, h'.hn, h'.hL, h'.hk, Nat.le_refl _⟩
/-- A result in its box, and where it lies. -/
def ResBox (wz : World) (n : Nat) (Z : Nat → Nat → Int) (y : Nat → Nat) (p : Nat) (wx : World) : Prop :=
  ∃ (ua : Option Addr) (l : Lay) (na : Option Addr) (g nc : Nat), TwoAt wx p (.slice ua n l.cap) (.slice na n nc) ∧ LogW wx wx.heap.size wz.heap.size ua l ⟨n, fun _ => n, Z⟩ na g 0 n (fun c => (y c : Int)) ∧ Below wz.heap.size wz wx ∧ wz.heap.size ≤ p
/-- Marks do not reach far. -/
theorem markAt_lo {m : Mx} {k0 : Nat} (hn : m.n ≤ 1048576) (hL : ∀ r, r < m.n → m.L r ≤ 1048576) (_ : k0 ≤ 2199023255552) : markAt m k0 ≤ k0 + 1099511627776 := by
  have h1 := markAt_le (m := m) (k0 := 0) hn hL (by omega)
  have h2 := offs_le hL m.n (Nat.le_refl _)
  unfold markAt at h1 ⊢
  have : m.n * 1048576 ≤ 1048576 * 1048576 := Nat.mul_le_mul_right _ hn
  omega
end Go.Proofs.Ytojcgmgponnlpaa
