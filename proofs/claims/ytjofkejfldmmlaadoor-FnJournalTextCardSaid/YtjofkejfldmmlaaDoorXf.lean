/- The program's numbers of a line, and its reader of deeds. -/
import Derived.Test.YtjofkejfldmmlaaDoorXd
import Derived.Test.YtjofkejfldmmlaaDoorDg
import Derived.Test.YtjofkejfldmmlaaDoorWv
import Derived.Lib.SmallJoins
namespace Go.Proofs.YtjofkejfldmmlaaDoor
open Go.RowKit Go.Deep

theorem ba_ne {t s : ByteArray} (h : t.data.toList ≠ s.data.toList) : (t.toList == s.toList) = false := by
  rw [beq_eq_false_iff_ne]
  intro e
  rw [Lib.toList_data, Lib.toList_data] at e
  exact h e
theorem ba_same {t s : ByteArray} (h : t.data.toList = s.data.toList) : (t.toList == s.toList) = true := by
  rw [beq_iff_eq, Lib.toList_data, Lib.toList_data, h]
/-- What numberOf answers: the number of a text of one or two digits, or no. -/
def NumOf (s : ByteArray) (w : World) (e : Ending) (w' : World) : Prop :=
  Below w.heap.size w w' ∧ ∃ (n : Int) (b : Bool), e = .returned (.tuple #[.int .i64 n, .bool b]) ∧ match b with
    | true => digI s.data.toList = n ∧ 0 ≤ n ∧ n ≤ 99
    | false => digI s.data.toList < 0
set_option maxRecDepth 100000 in
set_option maxHeartbeats 2000000 in
theorem numberOf_any (s : ByteArray) (hs : s.size ≤ 281474976710656) {w : World} (hE : ErrOk w) : Calls Tryd.prog 60 #[.string s] w (NumOf s w) := by
  go_enter Tryd.func60, Tryd.ntmps60
  go_wp2_with fail
  go_at_call 70
  refine (atoi_any s hs hE).mono ?_
  rintro e w1 ⟨hb, n, v, rfl, h⟩
  rcases h with ⟨ha, rfl⟩ | ⟨ha, t, p, rfl⟩
  · have HA := Lib.hid ha
    have hmiss : ¬ (0 ≤ n ∧ n ≤ 99) → digI s.data.toList < 0 := fun hn => by
      apply Classical.byContradiction
      intro hd
      obtain ⟨m, hm, hs1, _⟩ := digI_yes hd
      have e1 := HA.out
      rw [hs1, atoi_num hm] at e1
      injection e1 with e2
      omega
    clear ha
    by_cases h0 : n < 0
    · have h0' : ¬ 0 ≤ n := by omega
      have HM := Lib.hid (hmiss (fun h => h0' h.1))
      clear hmiss
      go_wp2_with fail
      go_returns
      exact ⟨hb, n, false, rfl, HM.out⟩
    by_cases h9 : 99 < n
    · have h9' : ¬ n ≤ 99 := by omega
      have h0' : 0 ≤ n := by omega
      have HM := Lib.hid (hmiss (fun h => h9' h.2))
      clear hmiss
      go_wp2_with fail
      go_returns
      exact ⟨hb, n, false, rfl, HM.out⟩
    obtain ⟨m, rfl⟩ : ∃ m : Nat, n = (m : Int) := ⟨n.toNat, by omega⟩
    have hm : m ≤ 99 := by omega
    have h0' : (0 : Int) ≤ (m : Int) := by omega
    have h9' : (m : Int) ≤ 99 := by omega
    obtain ⟨tm, em, sm, lm⟩ := num_text hm
    have LM := itoa_small m hm
    rw [em] at LM
    have EM := Lib.hid em
    clear em hmiss
    go_wp2_with fail
    go_at_call 34
    refine (LM _).mono ?_
    rintro e w2 ⟨rfl, rfl⟩
    by_cases hq : tm.data.toList = s.data.toList
    · have hq' := ba_same hq
      have HQ : Hid (digI s.data.toList = (m : Int)) := by show _ = _; rw [← hq, lm]; exact digI_num hm
      clear hq
      go_wp2_with fail
      go_returns
      exact ⟨hb, m, true, rfl, HQ.out, by omega, by omega⟩
    · have hq' := ba_ne hq
      have HQ : Hid (digI s.data.toList < 0) := by
        show _ < _
        apply Classical.byContradiction
        intro hd
        obtain ⟨k, hk, hs1, _⟩ := digI_yes hd
        have e1 := HA.out
        rw [hs1, atoi_num hk] at e1
        injection e1 with e2
        have e3 : k = m := by omega
        subst e3
        exact hq (lm.trans hs1.symm)
      clear hq
      go_wp2_with fail
      go_returns
      exact ⟨hb, m, false, rfl, HQ.out⟩
  · have HM : Hid (digI s.data.toList < 0) := by
      show _ < _
      apply Classical.byContradiction
      intro hd
      obtain ⟨m, hm, hs1, _⟩ := digI_yes hd
      exact ha m (by rw [hs1]; exact atoi_num hm)
    clear ha
    go_wp2_with fail
    go_returns
    exact ⟨hb, n, false, rfl, HM.out⟩
/-- What a reader of deeds answers. -/
def ReadOf (x : Option Dd) (w : World) (e : Ending) (w' : World) : Prop :=
  Below w.heap.size w w' ∧ e = .returned (.tuple #[deedV (x.getD ⟨0, 0, 0⟩), .bool x.isSome])
theorem numsO_len : ∀ (ws : List (List UInt8)) (l : List Int), numsO ws = some l → l.length = ws.length
  | [], l, h => by cases h; rfl
  | x :: ws, l, h => by
    unfold numsO at h
    split at h
    · cases h
    · rw [Option.map_eq_some_iff] at h
      obtain ⟨l1, h1, rfl⟩ := h
      rw [List.length_cons, List.length_cons, numsO_len ws l1 h1]
theorem cutL_len (c : UInt8) : ∀ s : List UInt8, (cutL c s).length ≤ s.length + 1
  | [] => by simp [cutL]
  | x :: t => by
    have ih := cutL_len c t
    unfold cutL
    split
    · rw [List.length_cons, List.length_cons]; omega
    · split
      · next w ws e => rw [e] at ih; rw [List.length_cons] at ih ⊢; rw [List.length_cons]; omega
      · simp
theorem numsL_len (s : ByteArray) (hs : s.size ≤ 1099511627776) : (numsL s.data.toList).length ≤ 1099511627777 := by
  unfold numsL
  have h1 := cutL_len 32 s.data.toList
  have h2 : s.size = s.data.toList.length := rfl
  cases e : numsO (cutL 32 s.data.toList).tail with
  | none => simp
  | some l =>
    rw [Option.getD_some, numsO_len _ _ e, List.length_tail]; omega
theorem numAB_cells (s : List UInt8) : ((numsL s).map (Value.int .i64) ++ [.int .i64 0, .int .i64 0])[0]? = some (.int .i64 (numA s)) ∧ ((numsL s).map (Value.int .i64) ++ [.int .i64 0, .int .i64 0])[1]? = some (.int .i64 (numB s)) := by
  have e : (numsL s).map (Value.int .i64) ++ [Value.int .i64 0, .int .i64 0] = (numsL s ++ [0, 0]).map (Value.int .i64) := by simp
  rw [e, List.getElem?_map, List.getElem?_map]
  have hl : 2 ≤ (numsL s ++ [0, 0]).length := by simp
  unfold numA numB
  rw [List.getElem?_eq_getElem (show 0 < (numsL s ++ [0, 0]).length by omega), List.getElem?_eq_getElem (show 1 < (numsL s ++ [0, 0]).length by omega)]
  exact ⟨rfl, rfl⟩
theorem own_val {w : World} {base : Nat} {e : TypeId} {k n : Nat} {v : Value} {xs : List Value} (h : w.ownsRow base e k v n xs) (hn : 0 < n) : ∃ g cap, v = .slice (some ⟨g, 0, none⟩) n cap ∧ base ≤ g ∧ g < w.heap.size ∧ n ≤ cap := by
  rcases h.2 with ⟨_, h0⟩ | ⟨g, cap, cur, rfl, hb, hh, hc, _⟩
  · omega
  · exact ⟨g, cap, rfl, hb, (h.lt g rfl).2, hc⟩
theorem own_cell {w : World} {base g cap : Nat} {e : TypeId} {k n : Nat} {xs : List Value} (h : w.ownsRow base e k (.slice (some ⟨g, 0, none⟩) n cap) n xs) {j : Nat} {x : Value} (hx : xs[j]? = some x) : w.cell? ⟨g, j, none⟩ = some x := by
  have := h.cells (g := g) rfl j x hx
  have e9 : (⟨g, 0, none⟩ : Addr).add j = ⟨g, j, none⟩ := by unfold Addr.add; split <;> simp_all
  rw [e9] at this
  exact this
theorem BoxN.heap {w wr : World} {cs : Array Value} {t : TypeId} (h : BoxN w cs t wr) : wr.heap[w.heap.size]? = some (.cells cs t) :=
  (h.since.block w.heap.size (Nat.lt_succ_self _)).trans (World.alloc_heap_new w (.cells cs t))
theorem BoxN.frozen {w wr : World} {cs : Array Value} {t : TypeId} (h : BoxN w cs t wr) (i : Nat) : wr.frozen? ⟨w.heap.size, i, none⟩ = false := Go.Joins.unfrozen_of_block h.heap i
/-- A box of three is stored into, whole. -/
theorem BoxN.set3 {w wr : World} {a b c : Value} {t : TypeId} (h : BoxN w #[a, b, c] t wr) (x y z : Value) :
    ((((wr.setCell ⟨w.heap.size, 0, none⟩ x).setCell ⟨w.heap.size, 1, none⟩ y).setCell ⟨w.heap.size, 2, none⟩ z).cell? ⟨w.heap.size, 0, none⟩ = some x) ∧
    ((((wr.setCell ⟨w.heap.size, 0, none⟩ x).setCell ⟨w.heap.size, 1, none⟩ y).setCell ⟨w.heap.size, 2, none⟩ z).cell? ⟨w.heap.size, 1, none⟩ = some y) ∧
    ((((wr.setCell ⟨w.heap.size, 0, none⟩ x).setCell ⟨w.heap.size, 1, none⟩ y).setCell ⟨w.heap.size, 2, none⟩ z).cell? ⟨w.heap.size, 2, none⟩ = some z) ∧
    Below w.heap.size w (((wr.setCell ⟨w.heap.size, 0, none⟩ x).setCell ⟨w.heap.size, 1, none⟩ y).setCell ⟨w.heap.size, 2, none⟩ z) := by
  have h3 := Go.Joins.block_setCell (Go.Joins.block_setCell (Go.Joins.block_setCell (i := 0) h.heap x) (i := 1) y) (i := 2) z
  refine ⟨Go.Joins.cell_of_block h3 0, Go.Joins.cell_of_block h3 1, Go.Joins.cell_of_block h3 2, ?_⟩
  exact ((h.below.setCell (p := ⟨w.heap.size, 0, none⟩) (Nat.le_refl _) x).setCell (p := ⟨w.heap.size, 1, none⟩) (Nat.le_refl _) y).setCell (p := ⟨w.heap.size, 2, none⟩) (Nat.le_refl _) z
theorem Chg.at_cell {S : Nat → Prop} {w w' : World} {p : Addr} {v : Value} (h : Chg S w w') (hs : ¬ S p.block) (hc : w.cell? p = some v) : w'.cell? p = some v :=
  (World.cell?_of_block (h.block p.block (World.block_lt_of_cell? w p hc) hs)).trans hc
theorem cell_two_new (w : World) (t : TypeId) (x y : Value) : ∀ j u, [x, y][j]? = some u → (w.alloc (.cells #[x, y] t)).cell? ((⟨w.heap.size, 0, none⟩ : Addr).add j) = some u := by
  intro j u h
  have hX := BoxN.start w #[x, y] t
  match j, h with
  | 0, h => cases h; exact hX.cell 0 rfl
  | 1, h => cases h; exact hX.cell 1 rfl
theorem numsO_cons_no {x : List UInt8} {ws : List (List UInt8)} (h : digI x < 0) : numsO (x :: ws) = none := by unfold numsO; rw [if_pos h]
theorem numsO_cons {x : List UInt8} {ws : List (List UInt8)} (h : ¬ digI x < 0) : numsO (x :: ws) = (numsO ws).map (digI x :: ·) := by rw [numsO, if_neg h]
def cutM (r mo : Value) : Nat := match mo, r with
  | .bool true, .string s => s.size + 1
  | _, _ => 0
/-- What spoken answers: a word, and the numbers behind the first one. -/
def SpokeOf (s : ByteArray) (w : World) (e : Ending) (w' : World) : Prop :=
  Below w.heap.size w w' ∧ ∃ (x : ByteArray) (v : Value), e = .returned (.tuple #[.string x, v]) ∧ w'.ownsRow w.heap.size 3 1 v (numsL s.data.toList).length ((numsL s.data.toList).map (Value.int .i64))
set_option maxRecDepth 100000 in
set_option maxHeartbeats 4000000 in
theorem spoken_any (s : ByteArray) (hs : s.size ≤ 1099511627776) {w : World} (hE : ErrOk w) : Calls Tryd.prog 38 #[.string s] w (SpokeOf s w) := by
  obtain ⟨i0, hi, hz0, hz1, hz2⟩ := info_parts infoInt
  have HI := Lib.hid hi
  have HZ0 := Lib.hid hz0
  have HZ1 := Lib.hid hz1
  have HZ2 := Lib.hid hz2
  clear hi hz0 hz1 hz2
  go_enter Tryd.func38, Tryd.ntmps38
  go_wp2_with fail
  go_at_call 59
  refine (cut_any s (by omega) _).mono ?_
  rintro e w1 ⟨hb1, wd, R0, M0, rfl, hwd, hR0, hcut⟩
  have H0 : Hid (numsO (cutL 32 s.data.toList).tail = (numsO (if M0 = true then cutL 32 R0.data.toList else [])).map ([] ++ ·) ∧ 0 + (if M0 = true then R0.size + 1 else 0) ≤ s.size + 1) := by
    show _ ∧ _
    cases M0 with
    | false =>
      have h2 : (32 : UInt8) ∉ s.data.toList := hcut.2
      rw [cutL_none h2]; exact ⟨rfl, by simp⟩
    | true =>
      have h1 : s.data.toList = wd.data.toList ++ 32 :: R0.data.toList := hcut.1
      have h2 : (32 : UInt8) ∉ wd.data.toList := hcut.2
      rw [h1, cutL_app h2]
      refine ⟨?_, ?_⟩
      · show numsO (cutL 32 R0.data.toList) = _
        rw [if_pos rfl]
        cases numsO (cutL 32 R0.data.toList) <;> rfl
      · rw [if_pos rfl]; omega
  clear hcut hwd
  go_wp2_with fail
  go_loopw [5, 6, 7] (fun r mo v wr => ∃ (R : ByteArray) (M : Bool) (acc : List Int), r = .string R ∧ mo = .bool M ∧ wr.ownsRow w.heap.size 3 1 v acc.length (acc.map (Value.int .i64)) ∧ Below w.heap.size w wr ∧ R.size ≤ s.size ∧ Hid (numsO (cutL 32 s.data.toList).tail = (numsO (if M = true then cutL 32 R.data.toList else [])).map (acc ++ ·) ∧ acc.length + (if M = true then R.size + 1 else 0) ≤ s.size + 1)) (fun r mo _ _ => cutM r mo)
  case atStart => exact ⟨R0, M0, [], rfl, rfl, World.ownsRow_nil _ _ _ _, hb1, hR0, H0⟩
  case round =>
    obtain ⟨R, M, acc, rfl, rfl, hown, hB, hRs, hN⟩ := hrel
    cases M with
    | false =>
      have hL : Hid (numsL s.data.toList = acc) := by
        show _ = _
        unfold numsL
        rw [hN.out.1]
        show ((numsO []).map (acc ++ ·)).getD [] = acc
        show (some (acc ++ [])).getD [] = acc
        rw [List.append_nil]; rfl
      go_wp2_with fail
      go_returns
      exact ⟨hB, wd, _, rfl, by rw [hL.out]; exact hown⟩
    | true =>
      go_wp2_with fail
      go_at_call 59
      refine (cut_any R (by omega) _).mono ?_
      rintro e w2 ⟨hb2, tx, R2, M2, rfl, htx, hR2, hcut⟩
      have hE2 := (hE.below hB).below hb2
      have hB2 := hB.trans (hb2.mono hB.size)
      have hown2 := ownsRow_below hown hb2 (Nat.le_refl _)
      have HW : Hid (cutL 32 R.data.toList = tx.data.toList :: (if M2 = true then cutL 32 R2.data.toList else []) ∧ (if M2 = true then R2.size + 1 else 0) ≤ R.size) := by
        show _ ∧ _
        cases M2 with
        | false =>
          have h1 : tx.data.toList = R.data.toList := hcut.1
          have h2 : (32 : UInt8) ∉ R.data.toList := hcut.2
          rw [cutL_none h2, h1]; exact ⟨rfl, Nat.zero_le _⟩
        | true =>
          have h1 : R.data.toList = tx.data.toList ++ 32 :: R2.data.toList := hcut.1
          have h2 : (32 : UInt8) ∉ tx.data.toList := hcut.2
          refine ⟨by rw [h1, cutL_app h2]; rfl, ?_⟩
          have e1 : R.size = tx.size + (R2.size + 1) := by have := congrArg List.length h1; rw [List.length_append, List.length_cons] at this; exact this
          rw [if_pos rfl]; omega
      clear hcut hown hB hb2
      go_wp2_with fail
      go_at_call 60
      refine (numberOf_any tx (by omega) hE2).mono ?_
      rintro e w3 ⟨hb3, n, b, rfl, hnum⟩
      have hB3 := hB2.trans (hb3.mono hB2.size)
      have hown3 := ownsRow_below hown2 hb3 (Nat.le_refl _)
      clear hown2 hb3 hE2
      cases b with
      | false =>
        have hL : Hid (numsL s.data.toList = []) := by
          show _ = _
          unfold numsL
          have hN1 := hN.out.1
          simp only [if_true] at hN1
          rw [hN1, HW.out.1, numsO_cons_no hnum]; rfl
        clear hnum
        go_wp2_with fail
        go_returns
        exact ⟨hB3, _, _, rfl, by rw [hL.out]; exact World.ownsRow_nil _ _ _ _⟩
      | true =>
        obtain ⟨h1, h2, h3⟩ := hnum
        have HS : Hid (numsO (cutL 32 s.data.toList).tail = (numsO (if M2 = true then cutL 32 R2.data.toList else [])).map ((acc ++ [n]) ++ ·) ∧ (acc ++ [n]).length + (if M2 = true then R2.size + 1 else 0) ≤ s.size + 1) := by
          show _ ∧ _
          refine ⟨?_, ?_⟩
          · have hN1 := hN.out.1
            simp only [if_true] at hN1
            rw [hN1, HW.out.1, numsO_cons (by rw [h1]; omega), h1]
            cases numsO (if M2 = true then cutL 32 R2.data.toList else []) with
            | none => rfl
            | some x => simp
          · have e1 := hN.out.2
            have e2 := HW.out.2
            simp only [if_true] at e1
            rw [List.length_append, List.length_singleton]; omega
        have hacc : acc.length ≤ 1099511627777 := by have := hN.out.2; omega
        have hM9 : cutM (.string R2) (.bool M2) < cutM (.string R) (.bool true) := by
          have e2 := HW.out.2
          show cutM _ _ < R.size + 1
          cases M2 with
          | false => exact Nat.succ_pos _
          | true => rw [if_pos rfl] at e2; show R2.size + 1 < R.size + 1; omega
        clear HW
        go_wp2_with (at_builtin; refine wpList_append_own _ rfl _ _ 52 rfl w.heap.size 3 i0 (.int .i64 0) 1 8 Tryd.underlying52 HI.out HZ0.out HZ1.out HZ2.out rfl (by decide) _ _ _ rfl ((Chg.alloc (fun _ => False) _ _).own hown3 (fun _ _ h => h)) ⟨w3.heap.size, 0, none⟩ 1 1 [.int .i64 n] rfl rfl (cell_one_new _ _ _) ?c2 ?c3 ?c4 ?c5 ?_)
        case c2 => simp [Value.oneCell']
        case c3 => unfold maxLen; omega
        case c4 => omega
        case c5 => have := hB3.size; simp; omega
        intro v' w4 hown4 hgrow _
        have hW4 : Below w.heap.size w w4 := (hB3.alloc (by have := hB3.size; omega) _).grown hgrow (by have := hB3.size; simp; omega) (ownsRow_block hown3)
        have HO : Hid (w4.ownsRow w.heap.size 3 1 v' (acc ++ [n]).length ((acc ++ [n]).map (Value.int .i64))) := by
          show World.ownsRow _ _ _ _ _ _ _
          rw [List.length_append, List.map_append]; exact hown4
        clear hown4 hgrow hown3 h1 h2 h3
        go_wp2_with fail
        go_roundw
        case rel => exact ⟨R2, M2, acc ++ [n], rfl, rfl, HO.out, hW4, by omega, HS⟩
        case measure => exact hM9
set_option maxRecDepth 100000 in
set_option maxHeartbeats 4000000 in
theorem ReadDeed_any (s : ByteArray) (hs : s.size ≤ 1099511627776) {w : World} (hE : ErrOk w) : Calls Tryd.prog 14 #[.string s] w (ReadOf (readD s.data.toList) w) := by
  obtain ⟨i0, hi, hz0, hz1, hz2⟩ := info_parts infoInt
  have HI := Lib.hid hi
  have HZ0 := Lib.hid hz0
  have HZ1 := Lib.hid hz1
  have HZ2 := Lib.hid hz2
  have hX := BoxN.start w #[.int .i64 0, .int .i64 0, .int .i64 0] 24
  have bX := hX.below
  have hEX := hE.below bX
  have bX1 : w.heap.size + 1 ≤ (w.alloc (.cells #[.int .i64 0, .int .i64 0, .int .i64 0] 24)).heap.size := by simp
  clear hi hz0 hz1 hz2
  go_enter Tryd.func14, Tryd.ntmps14
  go_wp2_with fail
  generalize w.alloc (.cells #[.int .i64 0, .int .i64 0, .int .i64 0] 24) = W at hX bX bX1 hEX ⊢
  go_at_call 38
  refine (spoken_any s hs hEX).mono ?_
  rintro e w1 ⟨hb1, wd, v, rfl, hown⟩
  have hX1 := hX.step hb1
  have B1 := bX.trans (hb1.mono bX.size)
  have hlen : (numsL s.data.toList).length ≤ 1099511627777 := numsL_len s hs
  have HNA := Lib.hid (numAB_cells s.data.toList)
  generalize numsL s.data.toList = L at hown hlen HNA
  clear hX
  go_wp2_with (at_builtin; refine wpList_append_own _ rfl _ _ 52 rfl W.heap.size 3 i0 (.int .i64 0) 1 8 Tryd.underlying52 HI.out HZ0.out HZ1.out HZ2.out rfl (by decide) _ _ _ rfl ((Chg.alloc (fun _ => False) _ _).own hown (fun _ _ h => h)) ⟨w1.heap.size, 0, none⟩ 2 2 [.int .i64 0, .int .i64 0] rfl rfl (cell_two_new _ _ _ _) ?c2 ?c3 ?c4 ?c5 ?_)
  case c2 => simp [Value.oneCell']
  case c3 => unfold maxLen; omega
  case c4 => omega
  case c5 => have := hb1.size; simp; omega
  intro v2 w2 hown2 hgrow _
  have hb2 : Below W.heap.size w1 w2 := (((Below.refl W.heap.size w1).alloc hb1.size _)).grown hgrow (by have := hb1.size; simp; omega) (ownsRow_block hown)
  have hX2 := (⟨hX1.since.trans (hb2.mono bX1)⟩ : BoxN w #[.int .i64 0, .int .i64 0, .int .i64 0] 24 w2)
  have B2 := B1.trans (hb2.mono bX.size)
  obtain ⟨g, cap, rfl, hg0, hg1, hg2⟩ := own_val hown2 (by omega)
  have a0 := own_cell hown2 (j := 0) (x := .int .i64 (numA s.data.toList)) HNA.out.1
  have a1 := own_cell hown2 (j := 1) (x := .int .i64 (numB s.data.toList)) HNA.out.2
  clear hX1 hown hown2 hgrow hb1 hb2
  go_wp2_with fail
  go_at_call 33
  refine (wordings_any _).mono ?_
  rintro e w3 ⟨b3, rfl, _, hb3, _⟩
  have hX3 := hX2.step hb3
  have B3 := B2.trans (hb3.mono B2.size)
  obtain ⟨A, hA⟩ : ∃ A, numA s.data.toList = A := ⟨_, rfl⟩
  obtain ⟨Z, hZ⟩ : ∃ Z, numB s.data.toList = Z := ⟨_, rfl⟩
  have HA := Lib.hid hA
  have HZ := Lib.hid hZ
  rw [hA] at a0
  rw [hZ] at a1
  clear hA hZ HNA
  go_wp2_with fail
  have e0 : (0 : Int) < (L.length : Int) + 2 := by omega
  have e1 : (1 : Int) < (L.length : Int) + 2 := by omega
  go_loopw [18] (fun i wr => ∃ j : Nat, j ≤ 5 ∧ i = .int .i64 (j : Int) ∧ Below w3.heap.size w3 wr ∧ Hid (∀ k : Int, 0 ≤ k → k < j → deedL ⟨k, A, Z⟩ ≠ s.data.toList)) (fun i _ => 5 - (intOf i).toNat)
  case atStart => exact ⟨0, by omega, rfl, Below.refl _ _, fun k h0 h1 => by omega⟩
  case round =>
    obtain ⟨j, hj, rfl, hD, hM⟩ := hrel
    have c0 := (hb3.trans (hD.mono hb3.size)).cell (p := ⟨g, 0, none⟩) hg1
    have c1 := (hb3.trans (hD.mono hb3.size)).cell (p := ⟨g, 1, none⟩) hg1
    rw [a0] at c0
    rw [a1] at c1
    have hXr := hX3.step hD
    have Br := B3.trans (hD.mono B3.size)
    by_cases hlt : j < 5
    · have hlt' : (j : Int) < 5 := by omega
      have S0 : (fun w' => w'.cell? ⟨g, 0, none⟩ = some (.int .i64 A) ∧ w'.cell? ⟨g, 1, none⟩ = some (.int .i64 Z)) wr.drew := ⟨c0, c1⟩
      have dj : (0 : Int) ≤ j := by omega
      clear c0 c1
      go_wp2_with fail
      refine region_plain (fuel := 10) (listed := #[false, false, false, false, false, false, false, false, false, false]) (fun w' => w'.cell? ⟨g, 0, none⟩ = some (.int .i64 A) ∧ w'.cell? ⟨g, 1, none⟩ = some (.int .i64 Z)) (by kernel_rfl) (by kernel_rfl) (by kernel_rfl) ?_
      refine hold_take (i := 0) (d := 21) (v := ?vT0) (listed' := #[true, false, false, false, false, false, false, false, false, false]) rfl (by kernel_rfl) (by kernel_rfl) (by kernel_rfl) rfl (by rfl) (by kernel_rfl) S0 ?hT0 ?rT0
      case hT0 =>
        intro w' hSw
        obtain ⟨k0, k1⟩ := hSw
        go_simp
        try with_reducible rfl
      simp only [List.setIfInBounds_toArray, List.set_cons_zero, List.set_cons_succ]
      refine hold_take (i := 1) (d := 22) (v := ?vT1) (listed' := #[true, true, false, false, false, false, false, false, false, false]) rfl (by kernel_rfl) (by kernel_rfl) (by kernel_rfl) rfl (by rfl) (by kernel_rfl) S0 ?hT1 ?rT1
      case hT1 =>
        intro w' hSw
        obtain ⟨k0, k1⟩ := hSw
        go_simp
        try with_reducible rfl
      simp only [List.setIfInBounds_toArray, List.set_cons_zero, List.set_cons_succ]
      refine hold_take (i := 2) (d := 23) (v := ?vT2) (listed' := #[true, true, true, false, false, false, false, false, false, false]) rfl (by kernel_rfl) (by kernel_rfl) (by kernel_rfl) rfl (by rfl) (by kernel_rfl) S0 ?hT2 ?rT2
      case hT2 =>
        intro w' hSw
        obtain ⟨k0, k1⟩ := hSw
        go_simp
        try with_reducible rfl
      simp only [List.setIfInBounds_toArray, List.set_cons_zero, List.set_cons_succ]
      refine hold_take (i := 3) (d := 24) (v := ?vT3) (listed' := #[true, true, true, true, false, false, false, false, false, false]) rfl (by kernel_rfl) (by kernel_rfl) (by kernel_rfl) rfl (by rfl) (by kernel_rfl) S0 ?hT3 ?rT3
      case hT3 =>
        intro w' hSw
        obtain ⟨k0, k1⟩ := hSw
        go_simp
        try with_reducible rfl
      simp only [List.setIfInBounds_toArray, List.set_cons_zero, List.set_cons_succ]
      refine hold_take (i := 4) (d := 25) (v := ?vT4) (listed' := #[true, true, true, true, true, false, false, false, false, false]) rfl (by kernel_rfl) (by kernel_rfl) (by kernel_rfl) rfl (by rfl) (by kernel_rfl) S0 ?hT4 ?rT4
      case hT4 =>
        intro w' hSw
        obtain ⟨k0, k1⟩ := hSw
        go_simp
        try with_reducible rfl
      simp only [List.setIfInBounds_toArray, List.set_cons_zero, List.set_cons_succ]
      refine hold_take (i := 5) (d := 26) (v := ?vT5) (listed' := #[true, true, true, true, true, true, false, false, false, false]) rfl (by kernel_rfl) (by kernel_rfl) (by kernel_rfl) rfl (by rfl) (by kernel_rfl) S0 ?hT5 ?rT5
      case hT5 =>
        intro w' hSw
        obtain ⟨k0, k1⟩ := hSw
        go_simp
        try with_reducible rfl
      simp only [List.setIfInBounds_toArray, List.set_cons_zero, List.set_cons_succ]
      refine hold_take (i := 6) (d := 27) (v := ?vT6) (listed' := #[true, true, true, true, true, true, true, false, false, false]) rfl (by kernel_rfl) (by kernel_rfl) (by kernel_rfl) rfl (by rfl) (by kernel_rfl) S0 ?hT6 ?rT6
      case hT6 =>
        intro w' hSw
        obtain ⟨k0, k1⟩ := hSw
        go_simp
        try with_reducible rfl
      simp only [List.setIfInBounds_toArray, List.set_cons_zero, List.set_cons_succ]
      refine hold_take (i := 7) (d := 28) (v := ?vT7) (listed' := #[true, true, true, true, true, true, true, true, false, false]) rfl (by kernel_rfl) (by kernel_rfl) (by kernel_rfl) rfl (by rfl) (by kernel_rfl) S0 ?hT7 ?rT7
      case hT7 =>
        intro w' hSw
        obtain ⟨k0, k1⟩ := hSw
        go_simp
        try with_reducible rfl
      simp only [List.setIfInBounds_toArray, List.set_cons_zero, List.set_cons_succ]
      have S1 : (fun w' => w'.cell? ⟨g, 0, none⟩ = some (.int .i64 A) ∧ w'.cell? ⟨g, 1, none⟩ = some (.int .i64 Z)) (wr.drew.alloc (.cells #[.int .i64 0, .int .i64 0, .int .i64 0] 24)) := ⟨((Chg.alloc (fun _ => False) wr.drew _).at_cell (fun h => h) S0.1), ((Chg.alloc (fun _ => False) wr.drew _).at_cell (fun h => h) S0.2)⟩
      refine hold_value (i := 8) (d := 7) (listed' := #[true, true, true, true, true, true, true, true, true, false]) rfl (by kernel_rfl) rfl (by rfl) (by kernel_rfl) (v := .pointer (some ⟨wr.drew.heap.size, 0, none⟩)) (w' := wr.drew.alloc (.cells #[.int .i64 0, .int .i64 0, .int .i64 0] 24)) ?hvT8 S1 ?_
      case hvT8 =>
        go_simp
        try with_reducible rfl
      simp only [List.setIfInBounds_toArray, List.set_cons_zero, List.set_cons_succ]
      have S2 : (fun w' => w'.cell? ⟨g, 0, none⟩ = some (.int .i64 A) ∧ w'.cell? ⟨g, 1, none⟩ = some (.int .i64 Z)) (wr.drew.alloc (.cells #[.int .i64 (j : Int), .int .i64 A, .int .i64 Z] 24)) := ⟨((Chg.alloc (fun _ => False) wr.drew _).at_cell (fun h => h) S0.1), ((Chg.alloc (fun _ => False) wr.drew _).at_cell (fun h => h) S0.2)⟩
      refine hold_store (i := 9) (w' := wr.drew.alloc (.cells #[.int .i64 (j : Int), .int .i64 A, .int .i64 Z] 24)) (listed' := #[true, true, true, true, true, true, true, true, true, true]) rfl (by kernel_rfl) rfl (by rfl) (by kernel_rfl) ?hsT9 S2 ?hkT9
      case hsT9 => go_simp
      refine hold_done (by kernel_rfl) ?_ _
      have hY := BoxN.start wr.drew #[.int .i64 (j : Int), .int .i64 A, .int .i64 Z] 24
      have p0 : ((wr.drew.alloc (.cells #[.int .i64 (j : Int), .int .i64 A, .int .i64 Z] 24))).cell? ⟨wr.heap.size, 0, none⟩ = some (.int .i64 (j : Int)) := hY.cell 0 rfl
      have p1 : ((wr.drew.alloc (.cells #[.int .i64 (j : Int), .int .i64 A, .int .i64 Z] 24))).cell? ⟨wr.heap.size, 1, none⟩ = some (.int .i64 A) := hY.cell 1 rfl
      have p2 : ((wr.drew.alloc (.cells #[.int .i64 (j : Int), .int .i64 A, .int .i64 Z] 24))).cell? ⟨wr.heap.size, 2, none⟩ = some (.int .i64 Z) := hY.cell 2 rfl
      have hBy : Below wr.heap.size wr (wr.drew.alloc (.cells #[.int .i64 (j : Int), .int .i64 A, .int .i64 Z] 24)) := ((Below.refl wr.heap.size wr).drew).trans hY.below
      generalize wr.drew.alloc (.cells #[.int .i64 (j : Int), .int .i64 A, .int .i64 Z] 24) = V at hY p0 p1 p2 hBy S1 S2 ⊢
      clear S0 S1 S2
      go_wp2_with fail
      go_at_call 11
      refine (DeedText_any ⟨(j : Int), A, Z⟩ _).mono ?_
      rintro e w5 ⟨rfl, hb5⟩
      have hY5 := hY.step hb5
      have q0 : (w5).cell? ⟨wr.heap.size, 0, none⟩ = some (.int .i64 (j : Int)) := hY5.cell 0 rfl
      have q1 : (w5).cell? ⟨wr.heap.size, 1, none⟩ = some (.int .i64 A) := hY5.cell 1 rfl
      have q2 : (w5).cell? ⟨wr.heap.size, 2, none⟩ = some (.int .i64 Z) := hY5.cell 2 rfl
      have hB5 := hBy.trans (hb5.mono hBy.size)
      have hX5 := hXr.step hB5
      have B5 := Br.trans (hB5.mono Br.size)
      obtain ⟨tx, ex⟩ : ∃ t : ByteArray, (⟨(deedL ⟨(j : Int), A, Z⟩).toArray⟩ : ByteArray) = t := ⟨_, rfl⟩
      have lx : tx.data.toList = deedL ⟨(j : Int), A, Z⟩ := by rw [← ex]
      unfold strV
      rw [ex]
      clear ex p0 p1 p2 hY hY5
      by_cases hq : tx.data.toList = s.data.toList
      · have hq' := ba_same hq
        have r0 := hX5.cell 0 rfl
        have r1 := hX5.cell 1 rfl
        have r2 := hX5.cell 2 rfl
        have f0 := hX5.frozen 0
        have f1 := hX5.frozen 1
        have f2 := hX5.frozen 2
        obtain ⟨t0, t1, t2, tb⟩ := hX5.set3 (.int .i64 (j : Int)) (.int .i64 A) (.int .i64 Z)
        have HR : Hid (readD s.data.toList = some ⟨(j : Int), A, Z⟩) := by
          show _ = _
          have := readD_hit (s := s.data.toList) (k := (j : Int)) (by omega) (by omega) (by rw [HA.out, HZ.out, ← hq, lx])
          rw [HA.out, HZ.out] at this
          exact this
        clear hq
        go_wp2_with fail
        generalize ((w5.setCell ⟨w.heap.size, 0, none⟩ (.int .i64 (j : Int))).setCell ⟨w.heap.size, 1, none⟩ (.int .i64 A)).setCell ⟨w.heap.size, 2, none⟩ (.int .i64 Z) = V5 at t0 t1 t2 tb ⊢
        refine bodyPost_ret (v := .tuple #[.agg #[.int .i64 (j : Int), .int .i64 A, .int .i64 Z], .bool true]) (by simp [results, Tryd.results14, go_sem, t0, t1, t2]) rfl ?_
        exact ⟨tb, by rw [HR.out]; rfl⟩
      · have hq' := ba_ne hq
        have HQ : Hid (∀ k : Int, 0 ≤ k → k < ((j + 1 : Nat) : Int) → deedL ⟨k, A, Z⟩ ≠ s.data.toList) := fun k h0 h1 => by
          by_cases e : k = (j : Int)
          · subst e
            rw [← lx]; exact hq
          · exact hM k h0 (by omega)
        clear hq
        go_wp2_with fail
        exact ⟨⟨j + 1, by omega, by go_num, hD.trans (hB5.mono hD.size), HQ⟩, by simp [intOf]; omega⟩
    · have hlt' : ¬ (j : Int) < 5 := by omega
      have r0 := hXr.cell 0 rfl
      have r1 := hXr.cell 1 rfl
      have r2 := hXr.cell 2 rfl
      have f0 := hXr.frozen 0
      have f1 := hXr.frozen 1
      have f2 := hXr.frozen 2
      obtain ⟨t0, t1, t2, tb⟩ := hXr.set3 (.int .i64 0) (.int .i64 0) (.int .i64 0)
      have HR : Hid (readD s.data.toList = none) := by
        show _ = _
        refine readD_miss fun k h0 h4 => ?_
        rw [HA.out, HZ.out]
        exact hM.out k h0 (by omega)
      clear c0 c1
      go_wp2_with fail
      generalize ((wr.setCell ⟨w.heap.size, 0, none⟩ (.int .i64 0)).setCell ⟨w.heap.size, 1, none⟩ (.int .i64 0)).setCell ⟨w.heap.size, 2, none⟩ (.int .i64 0) = V5 at t0 t1 t2 tb ⊢
      refine bodyPost_ret (v := .tuple #[.agg #[.int .i64 0, .int .i64 0, .int .i64 0], .bool false]) (by simp [results, Tryd.results14, go_sem, t0, t1, t2]) rfl ?_
      exact ⟨tb, by rw [HR.out]; rfl⟩
end Go.Proofs.YtjofkejfldmmlaaDoor
