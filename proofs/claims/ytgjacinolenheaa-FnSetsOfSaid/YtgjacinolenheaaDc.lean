/- The walk of the drawn order of sets. -/
import Derived.Test.YtgjacinolenheaaDb
namespace Go.Proofs.Ytgjacinolenheaa
open Go.RowKit Go.Deep

/-- Drawn rows, in memory from base on. -/
def Drawn (base : Nat) (N : Nat) (w : World) (e : Ending) (w' : World) : Prop :=
  ∃ (v : Value) (rv : Nat → Value) (Z : Nat → Nat → Int), e = .returned v ∧ Out w' base v N N rv Z ∧ Below w.heap.size w w'

set_option maxRecDepth 100000 in
set_option maxHeartbeats 1000000 in
theorem sets_0 (w : World) : Calls Try.prog 100 #[.int .i64 0] w (Drawn w.heap.size 1 w) := by
  have hown0 := World.ownsRow_lit (base := w.heap.size) (e := 25) (size := 1) w #[] 0 (Nat.le_refl _) (Nat.zero_le _) rfl
  have hb0 := (Below.refl w.heap.size w).alloc (Nat.le_refl _) (.cells #[] 25)
  obtain ⟨i0, hi, hz0, hz1, hz2⟩ := info_parts infoInt
  have HI := Lib.hid hi
  have HZ0 := Lib.hid hz0
  have HZ1 := Lib.hid hz1
  have HZ2 := Lib.hid hz2
  obtain ⟨i1, hj, hy0, hy1, hy2⟩ := info_parts infoInts
  have HJ := Lib.hid hj
  have HY0 := Lib.hid hy0
  have HY1 := Lib.hid hy1
  have HY2 := Lib.hid hy2
  clear hi hz0 hz1 hz2 hj hy0 hy1 hy2
  go_enter Try.func100, Try.ntmps100
  go_wp2_with fail
  go_loopw [3, 4] (fun v i wr => ∃ (k : Nat) (rv : Nat → Value) (Z : Nat → Nat → Int), k ≤ 1 ∧ i = .int .i64 k ∧ Out wr w.heap.size v k 1 rv Z ∧ Below w.heap.size w wr) (fun _ i _ => 1 - (intOf i).toNat)
  case atStart => exact ⟨0, fun _ => .slice none 0 0, fun _ _ => 0, Nat.zero_le _, rfl, ⟨hown0, fun r hr => absurd hr (Nat.not_lt_zero _), fun r s hr => absurd hr (Nat.not_lt_zero _), fun r c hr => absurd hr (Nat.not_lt_zero _)⟩, hb0⟩
  case round =>
    obtain ⟨k, rv, Z, hk, rfl, hO, hW⟩ := hrel
    by_cases hlt : k < 1
    · have hlt' : (k : Int) < 1 := by omega
      obtain ⟨wo, rfl⟩ : ∃ wo : World, wo = wr := ⟨_, rfl⟩
      have hsz := hW.size
      have hrow0 := World.ownsRow_lit (base := wo.heap.size) (e := 3) (size := 1) wo #[] 0 (Nat.le_refl _) (Nat.zero_le _) rfl
      have hbr := (Below.refl wo.heap.size wo).alloc (Nat.le_refl _) (.cells #[] 3)
      go_wp2_with fail
      go_loopw [5, 6] (fun t i wi => ∃ (j : Nat) (z : Nat → Int), j ≤ 1 ∧ i = .int .i64 j ∧ wi.ownsRow wo.heap.size 3 1 t j ((List.range j).map fun c => .int .i64 (z c)) ∧ Hid (∀ c, c < j → 0 ≤ z c ∧ z c ≤ 2) ∧ Below wo.heap.size wo wi) (fun _ i _ => 1 - (intOf i).toNat)
      case atStart => exact ⟨0, fun _ => 0, Nat.zero_le _, rfl, hrow0, fun c hc => absurd hc (Nat.not_lt_zero _), hbr⟩
      case round =>
        clear hrow0 hbr
        obtain ⟨j, z, hj, rfl, hown, hz, hWi⟩ := hrel
        have hws := hWi.size
        by_cases hjt : j < 1
        · have hjt' : (j : Int) < 1 := by omega
          obtain ⟨bx, hbx⟩ : ∃ bx : Bool, (bits .and .i64 (k : Int) (j : Int) == (k : Int)) = bx := ⟨_, rfl⟩
          cases bx with
          | true =>
            go_wp2_with (at_builtin; refine wpList_append_own _ rfl _ _ 25 rfl wo.heap.size 3 i0 (.int .i64 0) 1 8 Try.underlying25 HI.out HZ0.out HZ1.out HZ2.out rfl (by decide) _ _ _ rfl (hown.alloc _) ⟨wr.heap.size, 0, none⟩ 1 1 [.int .i64 1] rfl rfl (cell_one_new _ _ _) ?c2 ?c3 ?c4 ?c5 ?_)
            case c2 => simp [Value.oneCell']
            case c3 => unfold maxLen; omega
            case c4 => omega
            case c5 => first | omega | (simp; omega)
            intro v' w4 hown4 hgrow _
            have HO4 : Hid (w4.ownsRow wo.heap.size 3 1 v' (j + 1) ((List.range (j + 1)).map fun c => .int .i64 (if c = j then 1 else z c))) := by
              show World.ownsRow _ _ _ _ _ _ _
              have e1 : (List.range (j + 1)).map (fun c => Value.int .i64 (if c = j then 1 else z c)) = (List.range j).map (fun c => .int .i64 (z c)) ++ [.int .i64 1] := by
                rw [List.range_succ, List.map_append]
                congr 1
                · exact map_congr_range fun i hi => by rw [if_neg (by omega)]
                · simp
              rw [e1]
              exact hown4
            have hW4 : Below wo.heap.size wo w4 := (hWi.alloc hws _).grown hgrow (by first | omega | (simp; omega)) (ownsRow_block hown)
            clear hown4 hgrow hown
            go_wp2_with fail
            go_roundw
            case rel => exact ⟨j + 1, _, by omega, by go_num, HO4.out, fun c hc => by
              by_cases e : c = j
              · rw [if_pos e]; omega
              · rw [if_neg e]; exact hz.out c (by omega), hW4⟩
            case measure => simp [intOf]; omega
          | false =>
            go_wp2_with (at_builtin; refine wpList_append_own _ rfl _ _ 25 rfl wo.heap.size 3 i0 (.int .i64 0) 1 8 Try.underlying25 HI.out HZ0.out HZ1.out HZ2.out rfl (by decide) _ _ _ rfl (hown.alloc _) ⟨wr.heap.size, 0, none⟩ 1 1 [.int .i64 0] rfl rfl (cell_one_new _ _ _) ?c2 ?c3 ?c4 ?c5 ?_)
            case c2 => simp [Value.oneCell']
            case c3 => unfold maxLen; omega
            case c4 => omega
            case c5 => first | omega | (simp; omega)
            intro v' w4 hown4 hgrow _
            have HO4 : Hid (w4.ownsRow wo.heap.size 3 1 v' (j + 1) ((List.range (j + 1)).map fun c => .int .i64 (if c = j then 0 else z c))) := by
              show World.ownsRow _ _ _ _ _ _ _
              have e1 : (List.range (j + 1)).map (fun c => Value.int .i64 (if c = j then 0 else z c)) = (List.range j).map (fun c => .int .i64 (z c)) ++ [.int .i64 0] := by
                rw [List.range_succ, List.map_append]
                congr 1
                · exact map_congr_range fun i hi => by rw [if_neg (by omega)]
                · simp
              rw [e1]
              exact hown4
            have hW4 : Below wo.heap.size wo w4 := (hWi.alloc hws _).grown hgrow (by first | omega | (simp; omega)) (ownsRow_block hown)
            clear hown4 hgrow hown
            go_wp2_with fail
            go_roundw
            case rel => exact ⟨j + 1, _, by omega, by go_num, HO4.out, fun c hc => by
              by_cases e : c = j
              · rw [if_pos e]; omega
              · rw [if_neg e]; exact hz.out c (by omega), hW4⟩
            case measure => simp [intOf]; omega
        · have hjt' : ¬ (j : Int) < 1 := by omega
          have hjn : j = 1 := by omega
          have hrow : wr.ownsRow wo.heap.size 3 1 u5 1 ((List.range 1).map fun c => .int .i64 (z c)) := by rw [hjn] at hown; exact hown
          have hO' := hO.below hWi (Nat.le_refl _)
          obtain ⟨gk, ck, rfl⟩ : ∃ g cap, u5 = .slice (some ⟨g, 0, none⟩) 1 cap := by
            rcases owns_ways hrow with ⟨_, h1⟩ | ⟨g, cap, h1, _⟩
            · omega
            · exact ⟨g, cap, h1⟩
          have hne : ∀ r, r < k → (rv r).ownBlock ≠ (Value.slice (some ⟨gk, 0, none⟩) 1 ck).ownBlock := fun r hr e => by
            have h1 := own_lt (hO.row r hr) gk (by rw [e]; rfl)
            have h2 := ownsRow_block hrow gk rfl
            omega
          have HN := Lib.hid hne
          have hrw := ownsRow_base hrow hsz
          have HZZ : Hid (∀ c, c < 1 → 0 ≤ z c ∧ z c ≤ 2) := fun c hc => hz.out c (by omega)
          clear hjn hown hrow hne hO
          go_wp2_with (at_builtin; refine wpList_append_own _ rfl _ _ 24 rfl w.heap.size 25 i1 (.slice none 0 0) 1 24 Try.underlying24 HJ.out HY0.out HY1.out HY2.out rfl (by decide) _ _ _ rfl (hO'.top.alloc _) ⟨wr.heap.size, 0, none⟩ 1 1 [.slice (some ⟨gk, 0, none⟩) 1 ck] rfl rfl (cell_one_new _ _ _) ?c2 ?c3 ?c4 ?c5 ?_)
          case c2 => simp [Value.oneCell']
          case c3 => unfold maxLen; omega
          case c4 => omega
          case c5 => first | omega | (simp; omega)
          intro v' w4 hown4 hgrow _
          have HX := Lib.hid (hO'.append hrw HZZ.out HN.out hown4 hgrow)
          have hW4 : Below w.heap.size w w4 := ((hW.trans (hWi.mono hsz)).alloc (Nat.le_trans hsz hws) _).grown hgrow (by first | omega | (simp; omega)) (ownsRow_block hO'.top)
          clear hown4 hgrow hO' hrw
          go_wp2_with fail
          go_roundw
          case rel => exact ⟨k + 1, _, _, by omega, by go_num, HX.out, hW4⟩
          case measure => simp [intOf]; omega
    · have hlt' : ¬ (k : Int) < 1 := by omega
      have hkn : k = 1 := by omega
      have HX : Hid (Out wr w.heap.size u3 1 1 rv Z) := by show Out _ _ _ _ _ _ _; rw [hkn] at hO; exact hO
      clear hkn hO
      go_wp2_with fail
      go_ret
      exact ⟨_, _, _, rfl, HX.out, hW⟩

set_option maxRecDepth 100000 in
set_option maxHeartbeats 1000000 in
theorem sets_1 (w : World) : Calls Try.prog 100 #[.int .i64 1] w (Drawn w.heap.size 2 w) := by
  have hown0 := World.ownsRow_lit (base := w.heap.size) (e := 25) (size := 1) w #[] 0 (Nat.le_refl _) (Nat.zero_le _) rfl
  have hb0 := (Below.refl w.heap.size w).alloc (Nat.le_refl _) (.cells #[] 25)
  obtain ⟨i0, hi, hz0, hz1, hz2⟩ := info_parts infoInt
  have HI := Lib.hid hi
  have HZ0 := Lib.hid hz0
  have HZ1 := Lib.hid hz1
  have HZ2 := Lib.hid hz2
  obtain ⟨i1, hj, hy0, hy1, hy2⟩ := info_parts infoInts
  have HJ := Lib.hid hj
  have HY0 := Lib.hid hy0
  have HY1 := Lib.hid hy1
  have HY2 := Lib.hid hy2
  clear hi hz0 hz1 hz2 hj hy0 hy1 hy2
  go_enter Try.func100, Try.ntmps100
  go_wp2_with fail
  go_loopw [3, 4] (fun v i wr => ∃ (k : Nat) (rv : Nat → Value) (Z : Nat → Nat → Int), k ≤ 2 ∧ i = .int .i64 k ∧ Out wr w.heap.size v k 2 rv Z ∧ Below w.heap.size w wr) (fun _ i _ => 2 - (intOf i).toNat)
  case atStart => exact ⟨0, fun _ => .slice none 0 0, fun _ _ => 0, Nat.zero_le _, rfl, ⟨hown0, fun r hr => absurd hr (Nat.not_lt_zero _), fun r s hr => absurd hr (Nat.not_lt_zero _), fun r c hr => absurd hr (Nat.not_lt_zero _)⟩, hb0⟩
  case round =>
    obtain ⟨k, rv, Z, hk, rfl, hO, hW⟩ := hrel
    by_cases hlt : k < 2
    · have hlt' : (k : Int) < 2 := by omega
      obtain ⟨wo, rfl⟩ : ∃ wo : World, wo = wr := ⟨_, rfl⟩
      have hsz := hW.size
      have hrow0 := World.ownsRow_lit (base := wo.heap.size) (e := 3) (size := 1) wo #[] 0 (Nat.le_refl _) (Nat.zero_le _) rfl
      have hbr := (Below.refl wo.heap.size wo).alloc (Nat.le_refl _) (.cells #[] 3)
      go_wp2_with fail
      go_loopw [5, 6] (fun t i wi => ∃ (j : Nat) (z : Nat → Int), j ≤ 2 ∧ i = .int .i64 j ∧ wi.ownsRow wo.heap.size 3 1 t j ((List.range j).map fun c => .int .i64 (z c)) ∧ Hid (∀ c, c < j → 0 ≤ z c ∧ z c ≤ 2) ∧ Below wo.heap.size wo wi) (fun _ i _ => 2 - (intOf i).toNat)
      case atStart => exact ⟨0, fun _ => 0, Nat.zero_le _, rfl, hrow0, fun c hc => absurd hc (Nat.not_lt_zero _), hbr⟩
      case round =>
        clear hrow0 hbr
        obtain ⟨j, z, hj, rfl, hown, hz, hWi⟩ := hrel
        have hws := hWi.size
        by_cases hjt : j < 2
        · have hjt' : (j : Int) < 2 := by omega
          obtain ⟨bx, hbx⟩ : ∃ bx : Bool, (bits .and .i64 (k : Int) (j : Int) == (k : Int)) = bx := ⟨_, rfl⟩
          cases bx with
          | true =>
            go_wp2_with (at_builtin; refine wpList_append_own _ rfl _ _ 25 rfl wo.heap.size 3 i0 (.int .i64 0) 1 8 Try.underlying25 HI.out HZ0.out HZ1.out HZ2.out rfl (by decide) _ _ _ rfl (hown.alloc _) ⟨wr.heap.size, 0, none⟩ 1 1 [.int .i64 1] rfl rfl (cell_one_new _ _ _) ?c2 ?c3 ?c4 ?c5 ?_)
            case c2 => simp [Value.oneCell']
            case c3 => unfold maxLen; omega
            case c4 => omega
            case c5 => first | omega | (simp; omega)
            intro v' w4 hown4 hgrow _
            have HO4 : Hid (w4.ownsRow wo.heap.size 3 1 v' (j + 1) ((List.range (j + 1)).map fun c => .int .i64 (if c = j then 1 else z c))) := by
              show World.ownsRow _ _ _ _ _ _ _
              have e1 : (List.range (j + 1)).map (fun c => Value.int .i64 (if c = j then 1 else z c)) = (List.range j).map (fun c => .int .i64 (z c)) ++ [.int .i64 1] := by
                rw [List.range_succ, List.map_append]
                congr 1
                · exact map_congr_range fun i hi => by rw [if_neg (by omega)]
                · simp
              rw [e1]
              exact hown4
            have hW4 : Below wo.heap.size wo w4 := (hWi.alloc hws _).grown hgrow (by first | omega | (simp; omega)) (ownsRow_block hown)
            clear hown4 hgrow hown
            go_wp2_with fail
            go_roundw
            case rel => exact ⟨j + 1, _, by omega, by go_num, HO4.out, fun c hc => by
              by_cases e : c = j
              · rw [if_pos e]; omega
              · rw [if_neg e]; exact hz.out c (by omega), hW4⟩
            case measure => simp [intOf]; omega
          | false =>
            go_wp2_with (at_builtin; refine wpList_append_own _ rfl _ _ 25 rfl wo.heap.size 3 i0 (.int .i64 0) 1 8 Try.underlying25 HI.out HZ0.out HZ1.out HZ2.out rfl (by decide) _ _ _ rfl (hown.alloc _) ⟨wr.heap.size, 0, none⟩ 1 1 [.int .i64 0] rfl rfl (cell_one_new _ _ _) ?c2 ?c3 ?c4 ?c5 ?_)
            case c2 => simp [Value.oneCell']
            case c3 => unfold maxLen; omega
            case c4 => omega
            case c5 => first | omega | (simp; omega)
            intro v' w4 hown4 hgrow _
            have HO4 : Hid (w4.ownsRow wo.heap.size 3 1 v' (j + 1) ((List.range (j + 1)).map fun c => .int .i64 (if c = j then 0 else z c))) := by
              show World.ownsRow _ _ _ _ _ _ _
              have e1 : (List.range (j + 1)).map (fun c => Value.int .i64 (if c = j then 0 else z c)) = (List.range j).map (fun c => .int .i64 (z c)) ++ [.int .i64 0] := by
                rw [List.range_succ, List.map_append]
                congr 1
                · exact map_congr_range fun i hi => by rw [if_neg (by omega)]
                · simp
              rw [e1]
              exact hown4
            have hW4 : Below wo.heap.size wo w4 := (hWi.alloc hws _).grown hgrow (by first | omega | (simp; omega)) (ownsRow_block hown)
            clear hown4 hgrow hown
            go_wp2_with fail
            go_roundw
            case rel => exact ⟨j + 1, _, by omega, by go_num, HO4.out, fun c hc => by
              by_cases e : c = j
              · rw [if_pos e]; omega
              · rw [if_neg e]; exact hz.out c (by omega), hW4⟩
            case measure => simp [intOf]; omega
        · have hjt' : ¬ (j : Int) < 2 := by omega
          have hjn : j = 2 := by omega
          have hrow : wr.ownsRow wo.heap.size 3 1 u5 2 ((List.range 2).map fun c => .int .i64 (z c)) := by rw [hjn] at hown; exact hown
          have hO' := hO.below hWi (Nat.le_refl _)
          obtain ⟨gk, ck, rfl⟩ : ∃ g cap, u5 = .slice (some ⟨g, 0, none⟩) 2 cap := by
            rcases owns_ways hrow with ⟨_, h1⟩ | ⟨g, cap, h1, _⟩
            · omega
            · exact ⟨g, cap, h1⟩
          have hne : ∀ r, r < k → (rv r).ownBlock ≠ (Value.slice (some ⟨gk, 0, none⟩) 2 ck).ownBlock := fun r hr e => by
            have h1 := own_lt (hO.row r hr) gk (by rw [e]; rfl)
            have h2 := ownsRow_block hrow gk rfl
            omega
          have HN := Lib.hid hne
          have hrw := ownsRow_base hrow hsz
          have HZZ : Hid (∀ c, c < 2 → 0 ≤ z c ∧ z c ≤ 2) := fun c hc => hz.out c (by omega)
          clear hjn hown hrow hne hO
          go_wp2_with (at_builtin; refine wpList_append_own _ rfl _ _ 24 rfl w.heap.size 25 i1 (.slice none 0 0) 1 24 Try.underlying24 HJ.out HY0.out HY1.out HY2.out rfl (by decide) _ _ _ rfl (hO'.top.alloc _) ⟨wr.heap.size, 0, none⟩ 1 1 [.slice (some ⟨gk, 0, none⟩) 2 ck] rfl rfl (cell_one_new _ _ _) ?c2 ?c3 ?c4 ?c5 ?_)
          case c2 => simp [Value.oneCell']
          case c3 => unfold maxLen; omega
          case c4 => omega
          case c5 => first | omega | (simp; omega)
          intro v' w4 hown4 hgrow _
          have HX := Lib.hid (hO'.append hrw HZZ.out HN.out hown4 hgrow)
          have hW4 : Below w.heap.size w w4 := ((hW.trans (hWi.mono hsz)).alloc (Nat.le_trans hsz hws) _).grown hgrow (by first | omega | (simp; omega)) (ownsRow_block hO'.top)
          clear hown4 hgrow hO' hrw
          go_wp2_with fail
          go_roundw
          case rel => exact ⟨k + 1, _, _, by omega, by go_num, HX.out, hW4⟩
          case measure => simp [intOf]; omega
    · have hlt' : ¬ (k : Int) < 2 := by omega
      have hkn : k = 2 := by omega
      have HX : Hid (Out wr w.heap.size u3 2 2 rv Z) := by show Out _ _ _ _ _ _ _; rw [hkn] at hO; exact hO
      clear hkn hO
      go_wp2_with fail
      go_ret
      exact ⟨_, _, _, rfl, HX.out, hW⟩

set_option maxRecDepth 100000 in
set_option maxHeartbeats 1000000 in
theorem sets_2 (w : World) : Calls Try.prog 100 #[.int .i64 2] w (Drawn w.heap.size 4 w) := by
  have hown0 := World.ownsRow_lit (base := w.heap.size) (e := 25) (size := 1) w #[] 0 (Nat.le_refl _) (Nat.zero_le _) rfl
  have hb0 := (Below.refl w.heap.size w).alloc (Nat.le_refl _) (.cells #[] 25)
  obtain ⟨i0, hi, hz0, hz1, hz2⟩ := info_parts infoInt
  have HI := Lib.hid hi
  have HZ0 := Lib.hid hz0
  have HZ1 := Lib.hid hz1
  have HZ2 := Lib.hid hz2
  obtain ⟨i1, hj, hy0, hy1, hy2⟩ := info_parts infoInts
  have HJ := Lib.hid hj
  have HY0 := Lib.hid hy0
  have HY1 := Lib.hid hy1
  have HY2 := Lib.hid hy2
  clear hi hz0 hz1 hz2 hj hy0 hy1 hy2
  go_enter Try.func100, Try.ntmps100
  go_wp2_with fail
  go_loopw [3, 4] (fun v i wr => ∃ (k : Nat) (rv : Nat → Value) (Z : Nat → Nat → Int), k ≤ 4 ∧ i = .int .i64 k ∧ Out wr w.heap.size v k 4 rv Z ∧ Below w.heap.size w wr) (fun _ i _ => 4 - (intOf i).toNat)
  case atStart => exact ⟨0, fun _ => .slice none 0 0, fun _ _ => 0, Nat.zero_le _, rfl, ⟨hown0, fun r hr => absurd hr (Nat.not_lt_zero _), fun r s hr => absurd hr (Nat.not_lt_zero _), fun r c hr => absurd hr (Nat.not_lt_zero _)⟩, hb0⟩
  case round =>
    obtain ⟨k, rv, Z, hk, rfl, hO, hW⟩ := hrel
    by_cases hlt : k < 4
    · have hlt' : (k : Int) < 4 := by omega
      obtain ⟨wo, rfl⟩ : ∃ wo : World, wo = wr := ⟨_, rfl⟩
      have hsz := hW.size
      have hrow0 := World.ownsRow_lit (base := wo.heap.size) (e := 3) (size := 1) wo #[] 0 (Nat.le_refl _) (Nat.zero_le _) rfl
      have hbr := (Below.refl wo.heap.size wo).alloc (Nat.le_refl _) (.cells #[] 3)
      go_wp2_with fail
      go_loopw [5, 6] (fun t i wi => ∃ (j : Nat) (z : Nat → Int), j ≤ 4 ∧ i = .int .i64 j ∧ wi.ownsRow wo.heap.size 3 1 t j ((List.range j).map fun c => .int .i64 (z c)) ∧ Hid (∀ c, c < j → 0 ≤ z c ∧ z c ≤ 2) ∧ Below wo.heap.size wo wi) (fun _ i _ => 4 - (intOf i).toNat)
      case atStart => exact ⟨0, fun _ => 0, Nat.zero_le _, rfl, hrow0, fun c hc => absurd hc (Nat.not_lt_zero _), hbr⟩
      case round =>
        clear hrow0 hbr
        obtain ⟨j, z, hj, rfl, hown, hz, hWi⟩ := hrel
        have hws := hWi.size
        by_cases hjt : j < 4
        · have hjt' : (j : Int) < 4 := by omega
          obtain ⟨bx, hbx⟩ : ∃ bx : Bool, (bits .and .i64 (k : Int) (j : Int) == (k : Int)) = bx := ⟨_, rfl⟩
          cases bx with
          | true =>
            go_wp2_with (at_builtin; refine wpList_append_own _ rfl _ _ 25 rfl wo.heap.size 3 i0 (.int .i64 0) 1 8 Try.underlying25 HI.out HZ0.out HZ1.out HZ2.out rfl (by decide) _ _ _ rfl (hown.alloc _) ⟨wr.heap.size, 0, none⟩ 1 1 [.int .i64 1] rfl rfl (cell_one_new _ _ _) ?c2 ?c3 ?c4 ?c5 ?_)
            case c2 => simp [Value.oneCell']
            case c3 => unfold maxLen; omega
            case c4 => omega
            case c5 => first | omega | (simp; omega)
            intro v' w4 hown4 hgrow _
            have HO4 : Hid (w4.ownsRow wo.heap.size 3 1 v' (j + 1) ((List.range (j + 1)).map fun c => .int .i64 (if c = j then 1 else z c))) := by
              show World.ownsRow _ _ _ _ _ _ _
              have e1 : (List.range (j + 1)).map (fun c => Value.int .i64 (if c = j then 1 else z c)) = (List.range j).map (fun c => .int .i64 (z c)) ++ [.int .i64 1] := by
                rw [List.range_succ, List.map_append]
                congr 1
                · exact map_congr_range fun i hi => by rw [if_neg (by omega)]
                · simp
              rw [e1]
              exact hown4
            have hW4 : Below wo.heap.size wo w4 := (hWi.alloc hws _).grown hgrow (by first | omega | (simp; omega)) (ownsRow_block hown)
            clear hown4 hgrow hown
            go_wp2_with fail
            go_roundw
            case rel => exact ⟨j + 1, _, by omega, by go_num, HO4.out, fun c hc => by
              by_cases e : c = j
              · rw [if_pos e]; omega
              · rw [if_neg e]; exact hz.out c (by omega), hW4⟩
            case measure => simp [intOf]; omega
          | false =>
            go_wp2_with (at_builtin; refine wpList_append_own _ rfl _ _ 25 rfl wo.heap.size 3 i0 (.int .i64 0) 1 8 Try.underlying25 HI.out HZ0.out HZ1.out HZ2.out rfl (by decide) _ _ _ rfl (hown.alloc _) ⟨wr.heap.size, 0, none⟩ 1 1 [.int .i64 0] rfl rfl (cell_one_new _ _ _) ?c2 ?c3 ?c4 ?c5 ?_)
            case c2 => simp [Value.oneCell']
            case c3 => unfold maxLen; omega
            case c4 => omega
            case c5 => first | omega | (simp; omega)
            intro v' w4 hown4 hgrow _
            have HO4 : Hid (w4.ownsRow wo.heap.size 3 1 v' (j + 1) ((List.range (j + 1)).map fun c => .int .i64 (if c = j then 0 else z c))) := by
              show World.ownsRow _ _ _ _ _ _ _
              have e1 : (List.range (j + 1)).map (fun c => Value.int .i64 (if c = j then 0 else z c)) = (List.range j).map (fun c => .int .i64 (z c)) ++ [.int .i64 0] := by
                rw [List.range_succ, List.map_append]
                congr 1
                · exact map_congr_range fun i hi => by rw [if_neg (by omega)]
                · simp
              rw [e1]
              exact hown4
            have hW4 : Below wo.heap.size wo w4 := (hWi.alloc hws _).grown hgrow (by first | omega | (simp; omega)) (ownsRow_block hown)
            clear hown4 hgrow hown
            go_wp2_with fail
            go_roundw
            case rel => exact ⟨j + 1, _, by omega, by go_num, HO4.out, fun c hc => by
              by_cases e : c = j
              · rw [if_pos e]; omega
              · rw [if_neg e]; exact hz.out c (by omega), hW4⟩
            case measure => simp [intOf]; omega
        · have hjt' : ¬ (j : Int) < 4 := by omega
          have hjn : j = 4 := by omega
          have hrow : wr.ownsRow wo.heap.size 3 1 u5 4 ((List.range 4).map fun c => .int .i64 (z c)) := by rw [hjn] at hown; exact hown
          have hO' := hO.below hWi (Nat.le_refl _)
          obtain ⟨gk, ck, rfl⟩ : ∃ g cap, u5 = .slice (some ⟨g, 0, none⟩) 4 cap := by
            rcases owns_ways hrow with ⟨_, h1⟩ | ⟨g, cap, h1, _⟩
            · omega
            · exact ⟨g, cap, h1⟩
          have hne : ∀ r, r < k → (rv r).ownBlock ≠ (Value.slice (some ⟨gk, 0, none⟩) 4 ck).ownBlock := fun r hr e => by
            have h1 := own_lt (hO.row r hr) gk (by rw [e]; rfl)
            have h2 := ownsRow_block hrow gk rfl
            omega
          have HN := Lib.hid hne
          have hrw := ownsRow_base hrow hsz
          have HZZ : Hid (∀ c, c < 4 → 0 ≤ z c ∧ z c ≤ 2) := fun c hc => hz.out c (by omega)
          clear hjn hown hrow hne hO
          go_wp2_with (at_builtin; refine wpList_append_own _ rfl _ _ 24 rfl w.heap.size 25 i1 (.slice none 0 0) 1 24 Try.underlying24 HJ.out HY0.out HY1.out HY2.out rfl (by decide) _ _ _ rfl (hO'.top.alloc _) ⟨wr.heap.size, 0, none⟩ 1 1 [.slice (some ⟨gk, 0, none⟩) 4 ck] rfl rfl (cell_one_new _ _ _) ?c2 ?c3 ?c4 ?c5 ?_)
          case c2 => simp [Value.oneCell']
          case c3 => unfold maxLen; omega
          case c4 => omega
          case c5 => first | omega | (simp; omega)
          intro v' w4 hown4 hgrow _
          have HX := Lib.hid (hO'.append hrw HZZ.out HN.out hown4 hgrow)
          have hW4 : Below w.heap.size w w4 := ((hW.trans (hWi.mono hsz)).alloc (Nat.le_trans hsz hws) _).grown hgrow (by first | omega | (simp; omega)) (ownsRow_block hO'.top)
          clear hown4 hgrow hO' hrw
          go_wp2_with fail
          go_roundw
          case rel => exact ⟨k + 1, _, _, by omega, by go_num, HX.out, hW4⟩
          case measure => simp [intOf]; omega
    · have hlt' : ¬ (k : Int) < 4 := by omega
      have hkn : k = 4 := by omega
      have HX : Hid (Out wr w.heap.size u3 4 4 rv Z) := by show Out _ _ _ _ _ _ _; rw [hkn] at hO; exact hO
      clear hkn hO
      go_wp2_with fail
      go_ret
      exact ⟨_, _, _, rfl, HX.out, hW⟩

set_option maxRecDepth 100000 in
set_option maxHeartbeats 1000000 in
theorem sets_3 (w : World) : Calls Try.prog 100 #[.int .i64 3] w (Drawn w.heap.size 8 w) := by
  have hown0 := World.ownsRow_lit (base := w.heap.size) (e := 25) (size := 1) w #[] 0 (Nat.le_refl _) (Nat.zero_le _) rfl
  have hb0 := (Below.refl w.heap.size w).alloc (Nat.le_refl _) (.cells #[] 25)
  obtain ⟨i0, hi, hz0, hz1, hz2⟩ := info_parts infoInt
  have HI := Lib.hid hi
  have HZ0 := Lib.hid hz0
  have HZ1 := Lib.hid hz1
  have HZ2 := Lib.hid hz2
  obtain ⟨i1, hj, hy0, hy1, hy2⟩ := info_parts infoInts
  have HJ := Lib.hid hj
  have HY0 := Lib.hid hy0
  have HY1 := Lib.hid hy1
  have HY2 := Lib.hid hy2
  clear hi hz0 hz1 hz2 hj hy0 hy1 hy2
  go_enter Try.func100, Try.ntmps100
  go_wp2_with fail
  go_loopw [3, 4] (fun v i wr => ∃ (k : Nat) (rv : Nat → Value) (Z : Nat → Nat → Int), k ≤ 8 ∧ i = .int .i64 k ∧ Out wr w.heap.size v k 8 rv Z ∧ Below w.heap.size w wr) (fun _ i _ => 8 - (intOf i).toNat)
  case atStart => exact ⟨0, fun _ => .slice none 0 0, fun _ _ => 0, Nat.zero_le _, rfl, ⟨hown0, fun r hr => absurd hr (Nat.not_lt_zero _), fun r s hr => absurd hr (Nat.not_lt_zero _), fun r c hr => absurd hr (Nat.not_lt_zero _)⟩, hb0⟩
  case round =>
    obtain ⟨k, rv, Z, hk, rfl, hO, hW⟩ := hrel
    by_cases hlt : k < 8
    · have hlt' : (k : Int) < 8 := by omega
      obtain ⟨wo, rfl⟩ : ∃ wo : World, wo = wr := ⟨_, rfl⟩
      have hsz := hW.size
      have hrow0 := World.ownsRow_lit (base := wo.heap.size) (e := 3) (size := 1) wo #[] 0 (Nat.le_refl _) (Nat.zero_le _) rfl
      have hbr := (Below.refl wo.heap.size wo).alloc (Nat.le_refl _) (.cells #[] 3)
      go_wp2_with fail
      go_loopw [5, 6] (fun t i wi => ∃ (j : Nat) (z : Nat → Int), j ≤ 8 ∧ i = .int .i64 j ∧ wi.ownsRow wo.heap.size 3 1 t j ((List.range j).map fun c => .int .i64 (z c)) ∧ Hid (∀ c, c < j → 0 ≤ z c ∧ z c ≤ 2) ∧ Below wo.heap.size wo wi) (fun _ i _ => 8 - (intOf i).toNat)
      case atStart => exact ⟨0, fun _ => 0, Nat.zero_le _, rfl, hrow0, fun c hc => absurd hc (Nat.not_lt_zero _), hbr⟩
      case round =>
        clear hrow0 hbr
        obtain ⟨j, z, hj, rfl, hown, hz, hWi⟩ := hrel
        have hws := hWi.size
        by_cases hjt : j < 8
        · have hjt' : (j : Int) < 8 := by omega
          obtain ⟨bx, hbx⟩ : ∃ bx : Bool, (bits .and .i64 (k : Int) (j : Int) == (k : Int)) = bx := ⟨_, rfl⟩
          cases bx with
          | true =>
            go_wp2_with (at_builtin; refine wpList_append_own _ rfl _ _ 25 rfl wo.heap.size 3 i0 (.int .i64 0) 1 8 Try.underlying25 HI.out HZ0.out HZ1.out HZ2.out rfl (by decide) _ _ _ rfl (hown.alloc _) ⟨wr.heap.size, 0, none⟩ 1 1 [.int .i64 1] rfl rfl (cell_one_new _ _ _) ?c2 ?c3 ?c4 ?c5 ?_)
            case c2 => simp [Value.oneCell']
            case c3 => unfold maxLen; omega
            case c4 => omega
            case c5 => first | omega | (simp; omega)
            intro v' w4 hown4 hgrow _
            have HO4 : Hid (w4.ownsRow wo.heap.size 3 1 v' (j + 1) ((List.range (j + 1)).map fun c => .int .i64 (if c = j then 1 else z c))) := by
              show World.ownsRow _ _ _ _ _ _ _
              have e1 : (List.range (j + 1)).map (fun c => Value.int .i64 (if c = j then 1 else z c)) = (List.range j).map (fun c => .int .i64 (z c)) ++ [.int .i64 1] := by
                rw [List.range_succ, List.map_append]
                congr 1
                · exact map_congr_range fun i hi => by rw [if_neg (by omega)]
                · simp
              rw [e1]
              exact hown4
            have hW4 : Below wo.heap.size wo w4 := (hWi.alloc hws _).grown hgrow (by first | omega | (simp; omega)) (ownsRow_block hown)
            clear hown4 hgrow hown
            go_wp2_with fail
            go_roundw
            case rel => exact ⟨j + 1, _, by omega, by go_num, HO4.out, fun c hc => by
              by_cases e : c = j
              · rw [if_pos e]; omega
              · rw [if_neg e]; exact hz.out c (by omega), hW4⟩
            case measure => simp [intOf]; omega
          | false =>
            go_wp2_with (at_builtin; refine wpList_append_own _ rfl _ _ 25 rfl wo.heap.size 3 i0 (.int .i64 0) 1 8 Try.underlying25 HI.out HZ0.out HZ1.out HZ2.out rfl (by decide) _ _ _ rfl (hown.alloc _) ⟨wr.heap.size, 0, none⟩ 1 1 [.int .i64 0] rfl rfl (cell_one_new _ _ _) ?c2 ?c3 ?c4 ?c5 ?_)
            case c2 => simp [Value.oneCell']
            case c3 => unfold maxLen; omega
            case c4 => omega
            case c5 => first | omega | (simp; omega)
            intro v' w4 hown4 hgrow _
            have HO4 : Hid (w4.ownsRow wo.heap.size 3 1 v' (j + 1) ((List.range (j + 1)).map fun c => .int .i64 (if c = j then 0 else z c))) := by
              show World.ownsRow _ _ _ _ _ _ _
              have e1 : (List.range (j + 1)).map (fun c => Value.int .i64 (if c = j then 0 else z c)) = (List.range j).map (fun c => .int .i64 (z c)) ++ [.int .i64 0] := by
                rw [List.range_succ, List.map_append]
                congr 1
                · exact map_congr_range fun i hi => by rw [if_neg (by omega)]
                · simp
              rw [e1]
              exact hown4
            have hW4 : Below wo.heap.size wo w4 := (hWi.alloc hws _).grown hgrow (by first | omega | (simp; omega)) (ownsRow_block hown)
            clear hown4 hgrow hown
            go_wp2_with fail
            go_roundw
            case rel => exact ⟨j + 1, _, by omega, by go_num, HO4.out, fun c hc => by
              by_cases e : c = j
              · rw [if_pos e]; omega
              · rw [if_neg e]; exact hz.out c (by omega), hW4⟩
            case measure => simp [intOf]; omega
        · have hjt' : ¬ (j : Int) < 8 := by omega
          have hjn : j = 8 := by omega
          have hrow : wr.ownsRow wo.heap.size 3 1 u5 8 ((List.range 8).map fun c => .int .i64 (z c)) := by rw [hjn] at hown; exact hown
          have hO' := hO.below hWi (Nat.le_refl _)
          obtain ⟨gk, ck, rfl⟩ : ∃ g cap, u5 = .slice (some ⟨g, 0, none⟩) 8 cap := by
            rcases owns_ways hrow with ⟨_, h1⟩ | ⟨g, cap, h1, _⟩
            · omega
            · exact ⟨g, cap, h1⟩
          have hne : ∀ r, r < k → (rv r).ownBlock ≠ (Value.slice (some ⟨gk, 0, none⟩) 8 ck).ownBlock := fun r hr e => by
            have h1 := own_lt (hO.row r hr) gk (by rw [e]; rfl)
            have h2 := ownsRow_block hrow gk rfl
            omega
          have HN := Lib.hid hne
          have hrw := ownsRow_base hrow hsz
          have HZZ : Hid (∀ c, c < 8 → 0 ≤ z c ∧ z c ≤ 2) := fun c hc => hz.out c (by omega)
          clear hjn hown hrow hne hO
          go_wp2_with (at_builtin; refine wpList_append_own _ rfl _ _ 24 rfl w.heap.size 25 i1 (.slice none 0 0) 1 24 Try.underlying24 HJ.out HY0.out HY1.out HY2.out rfl (by decide) _ _ _ rfl (hO'.top.alloc _) ⟨wr.heap.size, 0, none⟩ 1 1 [.slice (some ⟨gk, 0, none⟩) 8 ck] rfl rfl (cell_one_new _ _ _) ?c2 ?c3 ?c4 ?c5 ?_)
          case c2 => simp [Value.oneCell']
          case c3 => unfold maxLen; omega
          case c4 => omega
          case c5 => first | omega | (simp; omega)
          intro v' w4 hown4 hgrow _
          have HX := Lib.hid (hO'.append hrw HZZ.out HN.out hown4 hgrow)
          have hW4 : Below w.heap.size w w4 := ((hW.trans (hWi.mono hsz)).alloc (Nat.le_trans hsz hws) _).grown hgrow (by first | omega | (simp; omega)) (ownsRow_block hO'.top)
          clear hown4 hgrow hO' hrw
          go_wp2_with fail
          go_roundw
          case rel => exact ⟨k + 1, _, _, by omega, by go_num, HX.out, hW4⟩
          case measure => simp [intOf]; omega
    · have hlt' : ¬ (k : Int) < 8 := by omega
      have hkn : k = 8 := by omega
      have HX : Hid (Out wr w.heap.size u3 8 8 rv Z) := by show Out _ _ _ _ _ _ _; rw [hkn] at hO; exact hO
      clear hkn hO
      go_wp2_with fail
      go_ret
      exact ⟨_, _, _, rfl, HX.out, hW⟩
end Go.Proofs.Ytgjacinolenheaa
