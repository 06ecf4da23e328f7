import Derived.Test.YtojcgmgponnlpaaZDg
import Derived.Deep.DeepCutAuto
namespace Go.Proofs.Ytojcgmgponnlpaa
open Go.RowKit Go.Deep

/-- A list of numbers each below n, as it reads. -/
structure NumsAt (w : World) (g n : Nat) (q : Nat → Nat) : Prop where
  cell : ∀ c, c < n → w.cell? ⟨g, c, none⟩ = some (.int .i64 (q c : Int))
  lt : ∀ c, c < n → q c < n
  bd : g < w.heap.size
theorem NumsAt.below {w w' : World} {g n : Nat} {q : Nat → Nat} (h : NumsAt w g n q) (hb : Below w.heap.size w w') : NumsAt w' g n q :=
  ⟨fun c hc => (hb.cell (p := ⟨g, c, none⟩) h.bd).trans (h.cell c hc), h.lt, Nat.lt_of_lt_of_le h.bd hb.size⟩

/-- The argument, the result, and the list of places, each in its box. -/
structure BoxR (w : World) (v1 v2 : Value) (n : Nat) (bk : Nat → Int) (p : Nat) (wr : World) : Prop where
  a : TwoAt wr w.heap.size v1 v2
  res : TwoAt wr (w.heap.size + 1) (.slice none 0 0) (.slice none 0 0)
  back : IntsAt wr (w.heap.size + 1 + 1) (.slice (some ⟨w.heap.size + 1 + 1, 0, none⟩) n n) n bk
  rng : ∀ c, c < n → 0 ≤ bk c ∧ bk c < (n : Int)
  old : Below w.heap.size w wr
  hp : w.heap.size + 1 + 1 < p
  size : p < wr.heap.size
theorem BoxR.chg {w wr w' : World} {v1 v2 : Value} {n p : Nat} {bk : Nat → Int} (h : BoxR w v1 v2 n bk p wr) (hc : Chg (fun j => j = p ∨ p + 1 ≤ j) wr w') : BoxR w v1 v2 n bk p w' :=
  have hp := h.hp
  ⟨hc.two h.a (by show ¬ (_ ∨ _); omega), hc.two h.res (by show ¬ (_ ∨ _); omega), hc.ints h.back (fun g hg e => by
    have hg' : w.heap.size + 1 + 1 = g := by simpa [Value.ownBlock] using hg
    have e' : g = p ∨ p + 1 ≤ g := e
    omega), h.rng, h.old.trans (hc.below (by have := h.size; omega) fun j hj => by have hj' : j = p ∨ p + 1 ≤ j := hj; omega), hp, Nat.lt_of_lt_of_le h.size hc.size⟩
theorem BoxR.below {w wr w' : World} {v1 v2 : Value} {n p : Nat} {bk : Nat → Int} (h : BoxR w v1 v2 n bk p wr) (hb : Below wr.heap.size wr w') : BoxR w v1 v2 n bk p w' :=
  h.chg (Chg.of_below hb fun j hj hB => absurd hj (by omega))

set_option maxRecDepth 100000 in
set_option maxHeartbeats 4000000 in
theorem rename_any {w : World} {b1 n og oc : Nat} {u1 t1 : Value} {rv1 : Nat → Value} {Z1 : Nat → Nat → Int} {y1 : Nat → Int} {q : Nat → Nat} (h1 : LogO w b1 u1 t1 n rv1 Z1 y1) (ho : NumsAt w og n q) :
    Calls Try.prog 84 #[.agg #[u1, t1], .slice (some ⟨og, 0, none⟩) n oc] w (MadeL n w) := by
  obtain ⟨i0, hi, hz0, hz1, hz2⟩ := info_parts infoInt
  have HI := Lib.hid hi
  have HZ0 := Lib.hid hz0
  have HZ1 := Lib.hid hz1
  have HZ2 := Lib.hid hz2
  obtain ⟨i1, hj, hy0, hy1, hy2⟩ := info_parts infoInts
  have HJ := Lib.hid hj
  have HY0 := Lib.hid hy0
  have HY1 := Lib.hid hy1
  have HY2 := Lib.hid hy2
  clear hi hz0 hz1 hz2 hj hy0 hy1 hy2
  have hn1 := h1.pos
  have hn12 := h1.hi
  have B1 : Hid (∀ r c, r < n → c < n → 0 ≤ Z1 r c ∧ Z1 r c ≤ 2) := h1.out.bit
  have Y1 : Hid (∀ c, c < n → 0 ≤ y1 c ∧ y1 c < (n : Int)) := h1.rng
  obtain ⟨ua, la, ga, ca, rfl, rfl, hA, _, _⟩ := h1.at_
  obtain ⟨h0, _, _⟩ := hA.mat.top 0 (by show 0 < n; omega)
  obtain rfl := h0
  clear h1
  have HA := Lib.hid hA
  have HO := Lib.hid ho
  clear hA ho
  have x1 := TwoAt.new w (.slice (some ⟨la.b, la.o, none⟩) n la.cap) (.slice (some ⟨ga, 0, none⟩) n ca) 26
  have x2 := TwoAt.new (w.alloc (.cells #[.slice (some ⟨la.b, la.o, none⟩) n la.cap, .slice (some ⟨ga, 0, none⟩) n ca] 26)) (.slice none 0 0) (.slice none 0 0) 26
  simp only [World.size_alloc] at x2
  have X1 := (Chg.alloc (fun _ => False) (w.alloc (.cells #[.slice (some ⟨la.b, la.o, none⟩) n la.cap, .slice (some ⟨ga, 0, none⟩) n ca] 26)) (.cells #[.slice none 0 0, .slice none 0 0] 26)).two x1 (fun h => h)
  have bw : Below w.heap.size w ((w.alloc (.cells #[.slice (some ⟨la.b, la.o, none⟩) n la.cap, .slice (some ⟨ga, 0, none⟩) n ca] 26)).alloc (.cells #[.slice none 0 0, .slice none 0 0] 26)) := ((Below.refl w.heap.size w).alloc (Nat.le_refl _) _).alloc (by simp) _
  have hS2 : ((w.alloc (.cells #[.slice (some ⟨la.b, la.o, none⟩) n la.cap, .slice (some ⟨ga, 0, none⟩) n ca] 26)).alloc (.cells #[.slice none 0 0, .slice none 0 0] 26)).heap.size = w.heap.size + 1 + 1 := by simp
  have hmk := run_make_row' (P := Try.prog) 24 3 (.int .i64 0) 8 Try.underlying24 infoInt rfl .i64 .i64 n (by omega) (by omega)
  clear x1
  go_enter Try.func84, Try.ntmps84
  generalize hW2 : (w.alloc (.cells #[.slice (some ⟨la.b, la.o, none⟩) n la.cap, .slice (some ⟨ga, 0, none⟩) n ca] 26)).alloc (.cells #[.slice none 0 0, .slice none 0 0] 26) = w2 at X1 x2 bw hS2
  go_wp2_with fail
  have hrow := World.rowIs_made w2 (.int .i64 0) n 3
  rw [hS2] at hrow
  have hI0 : IntsAt (w2.alloc (.cells (madeCells #[.int .i64 0] n) 3)) (w.heap.size + 1 + 1) (.slice (some ⟨w.heap.size + 1 + 1, 0, none⟩) n n) n (fun _ => 0) := owns_of_rowIs hrow (Nat.le_refl _) (by omega)
  have hB0 : Below (w.heap.size + 1 + 1) w2 (w2.alloc (.cells (madeCells #[.int .i64 0] n) 3)) := (Below.refl _ w2).alloc (by omega) _
  clear hrow hmk hW2
  go_loopw [6] (fun i wr => ∃ (k : Nat) (bk : Nat → Int), k ≤ n ∧ i = .int .i64 k ∧ IntsAt wr (w.heap.size + 1 + 1) (.slice (some ⟨w.heap.size + 1 + 1, 0, none⟩) n n) n bk ∧ Hid (∀ c, c < n → 0 ≤ bk c ∧ bk c < (n : Int)) ∧ Below (w.heap.size + 1 + 1) w2 wr) (fun i _ => n - (intOf i).toNat)
  case atStart => exact ⟨0, _, Nat.zero_le _, rfl, hI0, fun c hc => ⟨Int.le_refl 0, by omega⟩, hB0⟩
  case round =>
    clear hI0 hB0
    obtain ⟨k, bk, hk, rfl, hI, hbk, hW⟩ := hrel
    by_cases hlt : k < n
    · have hlt' : (k : Int) < n := by omega
      have hwr := bw.trans (hW.mono (by omega))
      have c1 := (HO.out.below hwr).cell k hlt
      have hq := HO.out.lt k hlt
      have c2 := hI.cell hq
      have c3 := hI.frozen (q k)
      have hq' : ((q k : Nat) : Int) < n := by omega
      have hI2 := hI.store (q k) (k : Int)
      have hW2 := hW.setCell (p := ⟨w.heap.size + 1 + 1, q k, none⟩) (Nat.le_refl _) (.int .i64 (k : Int))
      go_wp2_with fail
      go_roundw
      case rel => exact ⟨k + 1, _, by omega, by go_num, hI2, fun c hc => by
        show 0 ≤ (if c = q k then (k : Int) else bk c) ∧ (if c = q k then (k : Int) else bk c) < (n : Int)
        by_cases e : c = q k
        · rw [if_pos e]; omega
        · rw [if_neg e]; exact hbk.out c hc, hW2⟩
      case measure => simp [intOf]; omega
    · have hlt' : ¬ (k : Int) < n := by omega
      have hsz : w.heap.size + 1 + 1 < wr.heap.size := (World.ownsRow.lt hI _ rfl).2
      have hwr := bw.trans (hW.mono (by omega))
      have hc1 := Chg.of_below (S := fun _ => False) hW (fun j hj hB => absurd hj (by omega))
      have hXa := hc1.two X1 (fun h => h)
      have hXr := hc1.two x2 (fun h => h)
      have hxn := TwoAt.new wr (.slice none 0 0) (.slice none 0 0) 26
      have hc2 := Chg.alloc (fun _ => False) wr (.cells #[.slice none 0 0, .slice none 0 0] 26)
      have hBx : BoxR w (.slice (some ⟨la.b, la.o, none⟩) n la.cap) (.slice (some ⟨ga, 0, none⟩) n ca) n bk wr.heap.size (wr.alloc (.cells #[.slice none 0 0, .slice none 0 0] 26)) :=
        ⟨hc2.two hXa (fun h => h), hc2.two hXr (fun h => h), hc2.ints hI (fun _ _ h => h), hbk.out, hwr.alloc hwr.size _, hsz, by simp⟩
      have hM0 := MakeAt.start (N := n) (base := wr.heap.size + 1) (by omega) hxn
      obtain ⟨P0, hP0⟩ : ∃ P0, P0 = wr.heap.size := ⟨_, rfl⟩
      rw [← hP0] at hBx hM0
      clear hXa hXr hxn hc1 hc2 hI
      go_wp2_with fail
      rw [← hP0]
      generalize wr.alloc (.cells #[.slice none 0 0, .slice none 0 0] 26) = w3 at hBx hM0 ⊢
      clear hP0 hsz hwr hW hbk hlt hlt' hk X1 x2 bw hS2
      go_loopw [8] (fun i wr => ∃ (k : Nat) (u t : Value) (rv : Nat → Value) (Z : Nat → Nat → Int) (y : Nat → Int), k ≤ n ∧ i = .int .i64 k ∧ BoxR w (.slice (some ⟨la.b, la.o, none⟩) n la.cap) (.slice (some ⟨ga, 0, none⟩) n ca) n bk P0 wr ∧ MakeAt wr P0 (P0 + 1) u t k k n rv Z y) (fun i _ => n - (intOf i).toNat)
      case atStart => exact ⟨0, _, _, _, _, _, Nat.zero_le _, rfl, hBx, hM0⟩
      case round =>
        clear hBx hM0
        obtain ⟨k, u, t, rv, Z, y, hk, rfl, hX, hM⟩ := hrel
        have hS := hX.size
        have hP := hX.hp
        by_cases hlt : k < n
        · have hlt' : (k : Int) < (n : Int) := by omega
          obtain ⟨wo, rfl⟩ : ∃ wo : World, wo = wr := ⟨_, rfl⟩
          have hrow0 : IntsAt (wo.alloc (.cells #[] 3)) wo.heap.size (.slice (some ⟨wo.heap.size, 0, none⟩) 0 0) 0 (fun _ => 0) := World.ownsRow_lit (base := wo.heap.size) (e := 3) (size := 1) wo #[] 0 (Nat.le_refl _) (Nat.zero_le _) rfl
          have hbr := (Below.refl wo.heap.size wo).alloc (Nat.le_refl _) (.cells #[] 3)
          go_wp2_with fail
          go_loopw [9, 10] (fun t i wi => ∃ (j : Nat) (z : Nat → Int), j ≤ n ∧ i = .int .i64 j ∧ IntsAt wi wo.heap.size t j z ∧ Hid (∀ c, c < j → 0 ≤ z c ∧ z c ≤ 2) ∧ Below wo.heap.size wo wi) (fun _ i _ => n - (intOf i).toNat)
          case atStart => exact ⟨0, fun _ => 0, Nat.zero_le _, rfl, hrow0, fun c hc => absurd hc (Nat.not_lt_zero _), hbr⟩
          case round =>
            clear hrow0 hbr
            obtain ⟨j, z, hj, rfl, hown, hz, hWi⟩ := hrel
            have hws := hWi.size
            by_cases hjt : j < n
            · have hjt' : (j : Int) < (n : Int) := by omega
              have hXi := hX.below hWi
              have q0 := hXi.a.c0
              have hoi := HO.out.below hXi.old
              have q1 := hoi.cell k hlt
              have q2 := hoi.cell j hjt
              have l1 := hoi.lt k hlt
              have l2 := hoi.lt j hjt
              obtain ⟨q3, q4⟩ := (HA.out.step hXi.old).one (r := q k) (c := q j) l1 l2
              have hb := B1.out (q k) (q j) l1 l2
              have l1' : ((q k : Nat) : Int) < (n : Int) := by omega
              have l2' : ((q j : Nat) : Int) < (n : Int) := by omega
              have hT1 : ∀ o, ((wr.drew).alloc o).ownsRow wo.heap.size 3 1 u9 j ((List.range j).map fun c => .int .i64 (z c)) := fun o => ((Chg.drew (fun _ => False) wr).trans (Chg.alloc _ _ o)).own hown (fun _ _ h => h)
              have hW1 : ∀ o, Below wo.heap.size wo ((wr.drew).alloc o) := fun o => (hWi.drew).alloc (by simpa using hws) o
              have htb := Lib.hid (ownsRow_block hown)
              have m1 := Lib.hid (show j + 1 ≤ maxLen by unfold maxLen; omega)
              have m2 := Lib.hid (show (j + 1) * 8 ≤ 140737488355328 by omega)
              have m3 := Lib.hid (show ∀ o, wo.heap.size ≤ ((wr.drew).alloc o).heap.size from fun o => by simp; omega)
              have m4 := Lib.hid (show ∀ x : Int, ∀ u ∈ [Value.int .i64 x], u.oneCell' = true from fun x => by simp [Value.oneCell'])
              clear hXi hoi hX hM hown l1 l2
              go_wp2_with fail
              go_region_law (refine step_append_own rfl (.tmp 41) (.tmp 56) 24 rfl wo.heap.size 3 i0 (.int .i64 0) 1 8 Try.underlying24 HI.out HZ0.out HZ1.out HZ2.out rfl (by decide) u9 j _ (by simp [Act.eval]) (hT1 _) ⟨wr.heap.size, 0, none⟩ 1 1 [.int .i64 (Z1 (q k) (q j))] (by simp [Act.eval]) rfl (cell_one_new _ _ _) (m4.out _) m1.out m2.out (m3.out _) ?_; intro v6 w6 hown6 hgrow6 _; have HO4 := Lib.hid (IntsAt.step hown6); have hW4 := (hW1 _).grown hgrow6 (m3.out _) htb.out; clear hown6 hgrow6)
              all_goals
                go_wp2_with fail
                go_roundw
                case rel => exact ⟨j + 1, _, by omega, by go_num, HO4.out, fun c hc => by
                  show 0 ≤ (if c = j then _ else z c) ∧ (if c = j then _ else z c) ≤ 2
                  by_cases e : c = j
                  · rw [if_pos e]; exact hb
                  · rw [if_neg e]; exact hz.out c (by omega), hW4⟩
                case measure => simp [intOf]; omega
            · have hjt' : ¬ (j : Int) < (n : Int) := by omega
              have hjn : j = n := by omega
              have hrow : IntsAt wr wo.heap.size u9 n z := by subst hjn; exact hown
              have HZZ : Hid (∀ c, c < n → 0 ≤ z c ∧ z c ≤ 2) := fun c hc => hz.out c (by omega)
              have hM1 := Lib.hid (hM.below hWi)
              have hq := hM1.out.box.c0
              obtain ⟨gk, ck, rfl, hgk, hgl, _⟩ := hrow.val (by omega)
              have hbl := Lib.hid (ownsRow_block hM1.out.out.top)
              have hsi := hWi.size
              clear hjn hown hz
              go_wp2_with (at_builtin; refine wpList_append_own _ rfl _ _ 23 rfl (P0 + 1) 24 i1 (.slice none 0 0) 1 24 Try.underlying23 HJ.out HY0.out HY1.out HY2.out rfl (by decide) _ _ _ rfl (hM1.out.out.top.alloc _) ⟨wr.heap.size, 0, none⟩ 1 1 [.slice (some ⟨gk, 0, none⟩) n ck] rfl rfl (cell_one_new _ _ _) ?d2 ?d3 ?d4 ?d5 ?_)
              case d2 => simp [Value.oneCell']
              case d3 => unfold maxLen; omega
              case d4 => omega
              case d5 => first | omega | (simp; omega)
              intro v' w4 hown4 hgrow _
              have HX := hM.row (by omega) hWi hrow HZZ.out hown4 hgrow (by omega)
              have hb4 := (hM1.out.mid (Chg.alloc (fun _ => False) _ _) hgrow hbl.out).2
              obtain ⟨g4, c4, rfl, _⟩ := HX.1.out.topv (by omega)
              have hX5 := hX.chg HX.2
              have hM5 := HX.1
              have r0 := hb4.c0
              have r1 := hb4.f0
              clear hown4 hgrow hb4 HX hM hX hrow hWi hM1 HZZ
              go_upto_region 16 with fail
              clear r0 r1 hq
              generalize hW5 : w4.setCell ⟨P0, 0, none⟩ (.slice (some ⟨g4, 0, none⟩) (k + 1) c4) = w5 at hX5 hM5 ⊢
              clear hW5
              have q1 := hM5.box.c1
              have qa := hX5.a.c1
              have hoi := HO.out.below hX5.old
              have q2 := hoi.cell k hlt
              have l1 := hoi.lt k hlt
              have hy := Y1.out (q k) l1
              obtain ⟨x, hx⟩ : ∃ x : Nat, y1 (q k) = (x : Int) := ⟨(y1 (q k)).toNat, by omega⟩
              have q3 : w5.cell? ⟨ga, q k, none⟩ = some (.int .i64 (x : Int)) := by
                have h1 := ((HA.out.step hX5.old).row.row (q k) (by show q k < n; omega)).2.2
                rw [hx, Nat.zero_add] at h1
                exact h1
              have q4 := hX5.back.cell (c := x) (by omega)
              have hxr := hX5.rng x (by omega)
              have hXr : Hid (0 ≤ bk x ∧ bk x < (n : Int)) := hxr
              have l1' : ((q k : Nat) : Int) < (n : Int) := by omega
              have l2' : (x : Int) < (n : Int) := by omega
              have hsz6 : P0 < w5.heap.size := hX5.size
              have hT1 : ∀ o, ((w5.drew).alloc o).ownsRow (P0 + 1) 3 1 t k ((List.range k).map fun c => .int .i64 (y c)) := fun o => ((Chg.drew (fun _ => False) w5).trans (Chg.alloc _ _ o)).own hM5.ints (fun _ _ h => h)
              have hCH : ∀ o, Chg (fun _ => False) w5 ((w5.drew).alloc o) := fun o => (Chg.drew (fun _ => False) w5).trans (Chg.alloc _ _ o)
              have htb := Lib.hid (ownsRow_block hM5.ints)
              have m1 := Lib.hid (show k + 1 ≤ maxLen by unfold maxLen; omega)
              have m2 := Lib.hid (show (k + 1) * 8 ≤ 140737488355328 by omega)
              have m3 := Lib.hid (show ∀ o, P0 + 1 ≤ ((w5.drew).alloc o).heap.size from fun o => by simp; omega)
              have m4 := Lib.hid (show ∀ x : Int, ∀ u ∈ [Value.int .i64 x], u.oneCell' = true from fun x => by simp [Value.oneCell'])
              have HX5 := Lib.hid hX5
              have HM5 := Lib.hid hM5
              clear hX5 hM5 hoi l1 hy hx hxr
              go_region_law (refine step_append_own rfl (.tmp 65) (.tmp 77) 24 rfl (P0 + 1) 3 i0 (.int .i64 0) 1 8 Try.underlying24 HI.out HZ0.out HZ1.out HZ2.out rfl (by decide) t k _ (by simp [Act.eval]) (hT1 _) ⟨w5.heap.size, 0, none⟩ 1 1 [.int .i64 (bk x)] (by simp [Act.eval]) rfl (cell_one_new _ _ _) (m4.out _) m1.out m2.out (m3.out _) ?_; intro v6 w6 hown6 hgrow6 hat6; have HZ := Lib.hid (HM5.out.more (hCH _) hXr.out hown6 hgrow6 hat6); have hb6 := (HM5.out.mid (hCH _) hgrow6 htb.out).2; obtain ⟨g6, c6, rfl, _⟩ := HZ.out.1.ints.val (by omega); have r0 := hb6.c1; have r1 := hb6.f1; clear hown6 hgrow6 hat6 hb6)
              all_goals
                go_wp2_with fail
                go_roundw
                case rel => exact ⟨k + 1, _, _, _, _, _, by omega, by go_num, HX5.out.chg HZ.out.2, HZ.out.1⟩
                case measure => simp [intOf]; omega
        · have hlt' : ¬ (k : Int) < (n : Int) := by omega
          have hkn : k = n := by omega
          have hM1 : MakeAt wr P0 (P0 + 1) u t n n n rv Z y := by subst hkn; exact hM
          have hL := hM1.made (by omega) (by omega)
          obtain ⟨gu, cu, rfl, _⟩ := hL.out.topv (by omega)
          obtain ⟨gt, ct, rfl, _⟩ := hL.ints.val (by omega)
          have q0 := hM1.box.c0
          have q1 := hM1.box.c1
          have p0 := hX.res.f0
          have p1 := hX.res.f1
          have p2 := hX.res.c0
          have p3 := hX.res.c1
          have hc : Chg (fun j => j = w.heap.size + 1) wr ((wr.setCell ⟨w.heap.size + 1, 0, none⟩ (.slice (some ⟨gu, 0, none⟩) n cu)).setCell ⟨w.heap.size + 1, 1, none⟩ (.slice (some ⟨gt, 0, none⟩) n ct)) := (Chg.set (S := fun j => j = w.heap.size + 1) rfl _).trans (Chg.set (S := fun j => j = w.heap.size + 1) rfl _)
          have hall : Hid (MadeL n w (.returned (.agg #[.slice (some ⟨gu, 0, none⟩) n cu, .slice (some ⟨gt, 0, none⟩) n ct])) ((wr.setCell ⟨w.heap.size + 1, 0, none⟩ (.slice (some ⟨gu, 0, none⟩) n cu)).setCell ⟨w.heap.size + 1, 1, none⟩ (.slice (some ⟨gt, 0, none⟩) n ct))) :=
            ⟨_, _, rv, Z, y, rfl, (hL.chg hc (fun j hj => by have hj' : j = w.heap.size + 1 := hj; omega)).base (by omega), hX.old.trans (hc.below (by omega) (fun j hj => by have hj' : j = w.heap.size + 1 := hj; omega))⟩
          have hfin := (hX.res.set0 (.slice (some ⟨gu, 0, none⟩) n cu)).set1 (.slice (some ⟨gt, 0, none⟩) n ct)
          have t0 := hfin.c0
          have t1 := hfin.c1
          clear hkn hM hM1 hL hc hfin hX
          go_wp2_with fail
          exact bodyPost_ret (v := .agg #[.slice (some ⟨gu, 0, none⟩) n cu, .slice (some ⟨gt, 0, none⟩) n ct]) (by simp [results, Try.results84, go_sem, t0, t1]) rfl hall.out
end Go.Proofs.Ytojcgmgponnlpaa
