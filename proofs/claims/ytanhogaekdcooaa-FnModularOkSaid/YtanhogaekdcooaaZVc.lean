import Derived.Test.YtanhogaekdcooaaZVb
namespace Go.Proofs.Ytanhogaekdcooaa
open Go.RowKit Go.Deep

/-- A list of numbers of the call's own. -/
def OwnL (W : World) (base : Nat) (v : Value) (L : List Int) : Prop := W.ownsRow base 3 1 v L.length (L.map fun x => Value.int .i64 x)
theorem OwnL.more {W : World} {base m : Nat} {v : Value} {L M : List Int} (h : W.ownsRow base 3 1 v (L.length + m) ((L.map fun x => Value.int .i64 x) ++ (M.map fun x => Value.int .i64 x))) (hm : M.length = m) : OwnL W base v (L ++ M) := by
  unfold OwnL
  rw [List.length_append, List.map_append, hm]
  exact h
theorem OwnL.chg {S : Nat → Prop} {W W' : World} {base : Nat} {v : Value} {L : List Int} (h : OwnL W base v L) (hc : Chg S W W') (hs : ∀ j, base ≤ j → j < W.heap.size → ¬ S j) : OwnL W' base v L :=
  hc.own h fun g hg => hs g (ownsRow_block h g hg) (own_lt h g hg)
theorem OwnL.row {W : World} {base : Nat} {v : Value} {L : List Int} (h : OwnL W base v L) (h0 : 0 < L.length) : ∃ g cap, v = .slice (some ⟨g, 0, none⟩) L.length cap ∧ base ≤ g ∧ RowAt W W.heap.size (some ⟨g, 0, none⟩) g 0 L.length (fun k => L[k]?.getD 0) := by
  rcases h.2 with ⟨_, h1⟩ | ⟨g, cap, cur, rfl, hb, _⟩
  · omega
  · refine ⟨g, cap, rfl, hb, ⟨fun c hc => ⟨rfl, own_lt h g rfl, ?_⟩⟩⟩
    have := World.ownsRow.cellAt h c (by omega)
    rw [Nat.zero_add, this]
    simp [hc]
def spreadL (no yes n ahead behind : Nat) : List Int := [(no : Int)] ++ List.replicate ahead (-1) ++ (innerTo no yes n).map (fun c : Nat => (c : Int)) ++ List.replicate behind (-1) ++ [(yes : Int)]
theorem frozen_new4 (w : World) (a b c d : Value) (t : TypeId) (i : Nat) : (w.alloc (.cells #[a, b, c, d] t)).frozen? ⟨w.heap.size, i, none⟩ = false := by
  have h := World.alloc_heap_new w (.cells #[a, b, c, d] t)
  simp only [World.frozen?, h]
  show (decide (0 ≤ i) && decide (i < 0)) = false
  simp
def Spread (w : World) (u t f : Value) (L : List Int) (e : Ending) (w' : World) : Prop :=
  ∃ g cap : Nat, e = .returned (.agg #[u, t, f, .slice (some ⟨g, 0, none⟩) L.length cap]) ∧ RowAt w' w'.heap.size (some ⟨g, 0, none⟩) g 0 L.length (fun k => L[k]?.getD 0) ∧ w.heap.size ≤ g ∧ Below w.heap.size w w'
theorem four_new {w : World} {a b c d : Value} {p : Nat} : OnlyIn (fun j => j = p) w ((((w.setCell ⟨p, 0, none⟩ a).setCell ⟨p, 1, none⟩ b).setCell ⟨p, 2, none⟩ c).setCell ⟨p, 3, none⟩ d) :=
  ((((OnlyIn.refl (fun j => j = p) w).set (b := p) rfl 0 a).set (b := p) rfl 1 b).set (b := p) rfl 2 c).set (b := p) rfl 3 d
theorem four_told {w : World} {p : Nat} {a b c d a' b' c' d' : Value} (h0 : w.cell? ⟨p, 0, none⟩ = some a') (h1 : w.cell? ⟨p, 1, none⟩ = some b') (h2 : w.cell? ⟨p, 2, none⟩ = some c') (h3 : w.cell? ⟨p, 3, none⟩ = some d') :
    ((((w.setCell ⟨p, 0, none⟩ a).setCell ⟨p, 1, none⟩ b).setCell ⟨p, 2, none⟩ c).setCell ⟨p, 3, none⟩ d).cell? ⟨p, 0, none⟩ = some a ∧ ((((w.setCell ⟨p, 0, none⟩ a).setCell ⟨p, 1, none⟩ b).setCell ⟨p, 2, none⟩ c).setCell ⟨p, 3, none⟩ d).cell? ⟨p, 1, none⟩ = some b ∧ ((((w.setCell ⟨p, 0, none⟩ a).setCell ⟨p, 1, none⟩ b).setCell ⟨p, 2, none⟩ c).setCell ⟨p, 3, none⟩ d).cell? ⟨p, 2, none⟩ = some c ∧ ((((w.setCell ⟨p, 0, none⟩ a).setCell ⟨p, 1, none⟩ b).setCell ⟨p, 2, none⟩ c).setCell ⟨p, 3, none⟩ d).cell? ⟨p, 3, none⟩ = some d := by
  have ne : ∀ {i j : Nat}, i ≠ j → (⟨p, i, none⟩ : Addr) ≠ ⟨p, j, none⟩ := fun h e => h (by injection e)
  refine ⟨?_, ?_, ?_, ?_⟩
  · rw [World.cell?_setCell_other _ _ _ _ (ne (by omega)), World.cell?_setCell_other _ _ _ _ (ne (by omega)), World.cell?_setCell_other _ _ _ _ (ne (by omega))]
    exact World.cell?_setCell_same _ _ _ h0
  · rw [World.cell?_setCell_other _ _ _ _ (ne (by omega)), World.cell?_setCell_other _ _ _ _ (ne (by omega))]
    exact World.cell?_setCell_same _ _ _ ((World.cell?_setCell_other _ _ _ _ (ne (by omega))).trans h1)
  · rw [World.cell?_setCell_other _ _ _ _ (ne (by omega))]
    exact World.cell?_setCell_same _ _ _ ((World.cell?_setCell_other _ _ _ _ (ne (by omega))).trans ((World.cell?_setCell_other _ _ _ _ (ne (by omega))).trans h2))
  · exact World.cell?_setCell_same _ _ _ ((World.cell?_setCell_other _ _ _ _ (ne (by omega))).trans ((World.cell?_setCell_other _ _ _ _ (ne (by omega))).trans ((World.cell?_setCell_other _ _ _ _ (ne (by omega))).trans h3)))
theorem reps_cells {w : World} {g c : Nat} {x : Int} {t : TypeId} (h : w.heap[g]? = some (.cells (reps x c c).toArray t (0, 0))) : ∀ (j : Nat) u, (List.replicate c (Value.int .i64 x))[j]? = some u → w.cell? ((⟨g, 0, none⟩ : Addr).add j) = some u := fun j u hj => by
  obtain ⟨h1, h2⟩ := List.getElem?_eq_some_iff.1 hj
  rw [← h2]
  have h3 : j < c := by simpa using h1
  have e : (⟨g, 0, none⟩ : Addr).add j = ⟨g, j, none⟩ := by unfold Addr.add; split <;> simp_all
  rw [e]
  simpa using reps_cell h h3
theorem inner_le (no yes n : Nat) : (innerTo no yes n).length ≤ n := by
  induction n with
  | zero => simp [innerTo]
  | succ k ih =>
    by_cases h : k = no ∨ k = yes
    · rw [innerTo_no h]; omega
    · rw [innerTo_yes h]; simp; omega

set_option maxRecDepth 100000 in
set_option maxHeartbeats 4000000 in
theorem spread_any {w : World} {d : LD} {B p q0 ahead behind : Nat} {yy : Nat → Nat} (hd : d.Is w B yy p) (ha : ahead ≤ 10) (hb : behind ≤ 10) :
    Calls Try.prog 104 #[.agg #[d.u, d.t, .slice (some ⟨q0, 0, none⟩) 2 2], .int .i64 (ahead : Int), .int .i64 (behind : Int)] w (Spread w d.u d.t (.slice (some ⟨q0, 0, none⟩) 2 2) (spreadL p (yy p) d.m.n ahead behind)) := by
  obtain ⟨i0, hi, hz0, hz1, hz2⟩ := info_parts infoInt
  have HI := Lib.hid hi
  have HZ0 := Lib.hid hz0
  have HZ1 := Lib.hid hz1
  have HZ2 := Lib.hid hz2
  obtain ⟨i1, hj, hy0, hy1, hy2⟩ := info_parts infoInts
  have HJ := Lib.hid hj
  have HY0 := Lib.hid hy0
  have HY1 := Lib.hid hy1
  have HY2 := Lib.hid hy2
  clear hi hz0 hz1 hz2 hj hy0 hy1 hy2
  obtain ⟨ua, l, m, na, gg, oo, k, nc, zz⟩ := d
  have ek : k = m.n := hd.len
  subst ek
  have hn12 : 1 ≤ m.n ∧ m.n ≤ 12 := hd.hi
  have hp : p < m.n := hd.orth.ho
  have hna : na = some ⟨gg, oo, none⟩ := (hd.notAt hp).1
  subst hna
  have hls : leastI m = (p : Int) := hd.orth.eq
  show Calls Try.prog 104 #[.agg #[.slice ua m.n l.cap, .slice (some ⟨gg, oo, none⟩) m.n nc, .slice (some ⟨q0, 0, none⟩) 2 2], .int .i64 (ahead : Int), .int .i64 (behind : Int)] w (Spread w (.slice ua m.n l.cap) (.slice (some ⟨gg, oo, none⟩) m.n nc) (.slice (some ⟨q0, 0, none⟩) 2 2) (spreadL p (yy p) m.n ahead behind))
  have X := ThreeAt.new w (.slice ua m.n l.cap) (.slice (some ⟨gg, oo, none⟩) m.n nc) (.slice (some ⟨q0, 0, none⟩) 2 2) 56
  have B1 := (Below.refl w.heap.size w).alloc (Nat.le_refl _) (.cells #[.slice ua m.n l.cap, .slice (some ⟨gg, oo, none⟩) m.n nc, .slice (some ⟨q0, 0, none⟩) 2 2] 56)
  have bb := (Below.refl (w.heap.size + 1) (w.alloc (.cells #[.slice ua m.n l.cap, .slice (some ⟨gg, oo, none⟩) m.n nc, .slice (some ⟨q0, 0, none⟩) 2 2] 56))).alloc (by simp) (.cells #[.slice none 0 0, .slice none 0 0, .slice none 0 0, .slice none 0 0] 110)
  have Y := BoxN.start (w.alloc (.cells #[.slice ua m.n l.cap, .slice (some ⟨gg, oo, none⟩) m.n nc, .slice (some ⟨q0, 0, none⟩) 2 2] 56)) #[.slice none 0 0, .slice none 0 0, .slice none 0 0, .slice none 0 0] 110
  replace X := X.below bb (by omega)
  replace B1 := B1.trans (bb.mono (by omega))
  have s1 : ((w.alloc (.cells #[.slice ua m.n l.cap, .slice (some ⟨gg, oo, none⟩) m.n nc, .slice (some ⟨q0, 0, none⟩) 2 2] 56)).alloc (.cells #[.slice none 0 0, .slice none 0 0, .slice none 0 0, .slice none 0 0] 110)).heap.size = w.heap.size + 1 + 1 := by simp
  have y0 := Y.cell 0 (v := .slice none 0 0) rfl
  have y1 := Y.cell 1 (v := .slice none 0 0) rfl
  have y2 := Y.cell 2 (v := .slice none 0 0) rfl
  have y3 := Y.cell 3 (v := .slice none 0 0) rfl
  have yf := frozen_new4 (w.alloc (.cells #[.slice ua m.n l.cap, .slice (some ⟨gg, oo, none⟩) m.n nc, .slice (some ⟨q0, 0, none⟩) 2 2] 56)) (.slice none 0 0) (.slice none 0 0) (.slice none 0 0) (.slice none 0 0) 110
  simp only [World.size_alloc] at y0 y1 y2 y3 yf
  have q0' := X.c0
  have q1' := X.c1
  have q2' := X.c2
  clear bb Y
  go_enter Try.func104, Try.ntmps104
  go_wp2_with fail
  generalize (w.alloc (.cells #[.slice ua m.n l.cap, .slice (some ⟨gg, oo, none⟩) m.n nc, .slice (some ⟨q0, 0, none⟩) 2 2] 56)).alloc (.cells #[.slice none 0 0, .slice none 0 0, .slice none 0 0, .slice none 0 0] 110) = w2 at X B1 s1 y0 y1 y2 y3 yf q0' q1' q2' ⊢
  go_at_call 62
  refine (least_sq (hd.step B1).sq).mono ?_
  rintro e w3 ⟨rfl, b3⟩
  rw [show leastI _ = (p : Int) from hls]
  have s3 := b3.size
  have B3 := B1.trans (b3.mono B1.size)
  have D3 := Lib.hid (hd.step B3)
  replace q0' := (b3.cell (p := ⟨w.heap.size, 0, none⟩) (by show w.heap.size < _; omega)).trans q0'
  replace q1' := (b3.cell (p := ⟨w.heap.size, 1, none⟩) (by show w.heap.size < _; omega)).trans q1'
  replace q2' := (b3.cell (p := ⟨w.heap.size, 2, none⟩) (by show w.heap.size < _; omega)).trans q2'
  replace y0 := (b3.cell (p := ⟨w.heap.size + 1, 0, none⟩) (by show w.heap.size + 1 < _; omega)).trans y0
  replace y1 := (b3.cell (p := ⟨w.heap.size + 1, 1, none⟩) (by show w.heap.size + 1 < _; omega)).trans y1
  replace y2 := (b3.cell (p := ⟨w.heap.size + 1, 2, none⟩) (by show w.heap.size + 1 < _; omega)).trans y2
  replace y3 := (b3.cell (p := ⟨w.heap.size + 1, 3, none⟩) (by show w.heap.size + 1 < _; omega)).trans y3
  have z0 := Lib.hid q0'
  have z1 := Lib.hid q1'
  have z2 := Lib.hid q2'
  have zy := Lib.hid (And.intro y0 (And.intro y1 (And.intro y2 y3)))
  have yf3 : Hid (∀ i, w3.frozen? ⟨w.heap.size + 1, i, none⟩ = false) := fun i => (b3.frozen (p := ⟨w.heap.size + 1, i, none⟩) (by show w.heap.size + 1 < _; omega)).trans (yf i)
  obtain ⟨_, cn, ln⟩ := D3.out.notAt hp
  replace cn : w3.cell? ⟨gg, oo + p, none⟩ = some (.int .i64 (yy p : Int)) := cn
  have lyes : yy p < m.n := ln
  have hpn : (p : Int) < (m.n : Int) := by omega
  obtain ⟨yes, hyes⟩ : ∃ q, q = yy p := ⟨_, rfl⟩
  have HYES := Lib.hid hyes
  rw [← hyes] at cn lyes ⊢
  clear X B1 b3 yf ln hls hd hyes q2' y0 y1 y2 y3
  have r0 : (w3.alloc (.cells #[.int .i64 (-1)] 3)).cell? ⟨w3.heap.size, 0, none⟩ = some (.int .i64 (-1)) := by simp
  go_wp2_with fail
  have bR := (Below.refl (w3.heap.size + 1) (w3.alloc (.cells #[.int .i64 (-1)] 3))).alloc (by simp) (.cells #[.int .i64 (p : Int)] 3)
  have r1 := (bR.cell (p := ⟨w3.heap.size, 0, none⟩) (by show w3.heap.size < _; omega)).trans r0
  have hlit : OwnL ((w3.alloc (.cells #[.int .i64 (-1)] 3)).alloc (.cells #[.int .i64 (p : Int)] 3)) (w3.heap.size + 1) (.slice (some ⟨(w3.alloc (.cells #[.int .i64 (-1)] 3)).heap.size, 0, none⟩) 1 1) [(p : Int)] :=
    World.ownsRow_lit (base := w3.heap.size + 1) (e := 3) (size := 1) (w3.alloc (.cells #[.int .i64 (-1)] 3)) #[.int .i64 (p : Int)] 1 (by simp) (by unfold maxLen; omega) rfl
  have s4 : ((w3.alloc (.cells #[.int .i64 (-1)] 3)).alloc (.cells #[.int .i64 (p : Int)] 3)).heap.size = w3.heap.size + 1 + 1 := by simp
  have b34 : Below w3.heap.size w3 ((w3.alloc (.cells #[.int .i64 (-1)] 3)).alloc (.cells #[.int .i64 (p : Int)] 3)) := ((Below.refl w3.heap.size w3).alloc (Nat.le_refl _) _).alloc (by simp) _
  simp only [World.size_alloc] at hlit
  clear r0 bR
  generalize (w3.alloc (.cells #[.int .i64 (-1)] 3)).alloc (.cells #[.int .i64 (p : Int)] 3) = w4 at r1 hlit s4 b34 ⊢
  go_at_call 116
  refine (Repeat_one (by omega) r1).mono ?_
  rintro e w5 ⟨rfl, hrow, b5⟩
  rw [s4] at hrow
  have s5 := b5.size
  have H4 : Below (w3.heap.size + 1) w4 w5 := b5.mono (by omega)
  have hown := hlit.chg (Chg.of_below (S := fun _ => False) b5 fun j h1 h2 => absurd h1 (by omega)) (fun _ _ _ h => h)
  have hn1 := reps_cells hrow
  have hn2 : ∀ u ∈ List.replicate ahead (Value.int .i64 (-1)), u.oneCell' = true := by simp [Value.oneCell']
  have hn3 : (List.replicate ahead (Value.int .i64 (-1))).length = ahead * 1 := by simp
  have hblk := Lib.hid (ownsRow_block hown)
  clear hrow hlit b5
  go_wp2_with (at_builtin; refine wpList_append_own _ rfl _ _ 24 rfl (w3.heap.size + 1) 3 i0 (.int .i64 0) 1 8 Try.underlying24 HI.out HZ0.out HZ1.out HZ2.out rfl (by decide) _ _ _ rfl hown ⟨w3.heap.size + 1 + 1, 0, none⟩ ahead ahead (List.replicate ahead (Value.int .i64 (-1))) rfl hn3 hn1 hn2 ?a3 ?a4 ?a5 ?_)
  case a3 => unfold maxLen; simp only [List.length_cons, List.length_nil]; omega
  case a4 => simp only [List.length_cons, List.length_nil]; omega
  case a5 => first | omega | (simp; omega)
  intro v6 w6 hown6 hgrow6 _
  have H6 := H4.trans ((Chg.of_grown (S := fun j => w3.heap.size + 1 ≤ j) hgrow6 hblk.out).below (by omega) fun j hj => hj)
  have O6 : OwnL w6 (w3.heap.size + 1) v6 ([(p : Int)] ++ List.replicate ahead (-1)) := OwnL.more (m := ahead) (by simpa using hown6) (by simp)
  have s6 := H6.size
  have B6 := b34.trans (H6.mono (by omega))
  replace q0' := (B6.cell (p := ⟨w.heap.size, 0, none⟩) (by show w.heap.size < _; omega)).trans q0'
  replace q1' := (B6.cell (p := ⟨w.heap.size, 1, none⟩) (by show w.heap.size < _; omega)).trans q1'
  have r6 := (H6.cell (p := ⟨w3.heap.size, 0, none⟩) (by show w3.heap.size < _; omega)).trans r1
  clear hn1 hn2 hn3 hblk hown hown6 hgrow6 cn
  go_wp2_with fail
  have hl6 : ([(p : Int)] ++ List.replicate ahead (-1)).length ≤ 11 := by simp; omega
  obtain ⟨L6, hL6⟩ : ∃ L, L = [(p : Int)] ++ List.replicate ahead (-1) := ⟨_, rfl⟩
  rw [← hL6] at O6 hl6
  have HL6 := Lib.hid hL6
  have HO6 := Lib.hid O6
  have HB6 := Lib.hid B6
  clear hL6 O6 H6 B6 b34
  go_loopw [11, 34] (fun v i wr => ∃ k : Nat, k ≤ m.n ∧ i = .int .i64 k ∧ Hid (OwnL wr (w3.heap.size + 1) v (L6 ++ (innerTo p yes k).map (fun c : Nat => (c : Int)))) ∧ Hid (Below (w3.heap.size + 1) w6 wr)) (fun _ i _ => m.n - (intOf i).toNat)
  case atStart => exact ⟨0, Nat.zero_le _, rfl, by simpa [innerTo] using HO6, Below.refl _ _⟩
  case round =>
    clear HO6
    obtain ⟨k, hk, rfl, hO, hB⟩ := hrel
    have hs := hB.out.size
    by_cases hlt : k < m.n
    · have hlt' : (k : Int) < (m.n : Int) := by omega
      by_cases e1 : k = p
      · have HO' : Hid (OwnL wr (w3.heap.size + 1) u11 (L6 ++ (innerTo p yes (k + 1)).map (fun c : Nat => (c : Int)))) := by rw [innerTo_no (.inl e1)]; exact hO
        subst e1
        clear hO
        go_wp2_with fail
        go_roundw
        case rel => exact ⟨k + 1, by omega, by go_num, HO', hB⟩
        case measure => simp [intOf]; omega
      · by_cases e2 : k = yes
        · have HO' : Hid (OwnL wr (w3.heap.size + 1) u11 (L6 ++ (innerTo p yes (k + 1)).map (fun c : Nat => (c : Int)))) := by rw [innerTo_no (.inr e2)]; exact hO
          subst e2
          have e3 : ¬ (k : Int) = (p : Int) := by omega
          clear hO
          go_wp2_with fail
          go_roundw
          case rel => exact ⟨k + 1, by omega, by go_num, HO', hB⟩
          case measure => simp [intOf]; omega
        · have e3 : ((k : Int) != (p : Int)) = true := by simp; omega
          have e4 : ((k : Int) != (yes : Int)) = true := by simp; omega
          have HI2 := Lib.hid (innerTo_yes (lo := p) (hi := yes) (k := k) (fun h => h.elim e1 e2))
          have hlk : (L6 ++ (innerTo p yes k).map (fun c : Nat => (c : Int))).length ≤ 23 := by
            have := inner_le p yes k
            rw [List.length_append, List.length_map]
            omega
          obtain ⟨LK, hLK⟩ : ∃ L, L = L6 ++ (innerTo p yes k).map (fun c : Nat => (c : Int)) := ⟨_, rfl⟩
          rw [← hLK] at hO hlk
          have HLK := Lib.hid hLK
          have hown := hO.out.chg (Chg.alloc (fun _ => False) wr (.cells #[.int .i64 (k : Int)] 3)) (fun _ _ _ h => h)
          have hblk := Lib.hid (ownsRow_block hown)
          clear hO hLK
          go_wp2_with (at_builtin; refine wpList_append_own _ rfl _ _ 24 rfl (w3.heap.size + 1) 3 i0 (.int .i64 0) 1 8 Try.underlying24 HI.out HZ0.out HZ1.out HZ2.out rfl (by decide) _ _ _ rfl hown ⟨wr.heap.size, 0, none⟩ 1 1 [.int .i64 (k : Int)] rfl rfl (cell_one_new _ _ _) ?b2 ?b3 ?b4 ?b5 ?_)
          case b2 => simp [Value.oneCell']
          case b3 => unfold maxLen; omega
          case b4 => omega
          case b5 => first | omega | (simp; omega)
          intro v7 w7 hown7 hgrow7 _
          have H7 := Lib.hid (((hB.out).alloc (by omega) (.cells #[.int .i64 (k : Int)] 3)).trans ((Chg.of_grown (S := fun j => w3.heap.size + 1 ≤ j) hgrow7 hblk.out).below (by simp; omega) fun j hj => hj))
          have O7 : Hid (OwnL w7 (w3.heap.size + 1) v7 (L6 ++ (innerTo p yes (k + 1)).map (fun c : Nat => (c : Int)))) := by
            show OwnL _ _ _ _
            rw [HI2.out, List.map_append, ← List.append_assoc, ← HLK.out]
            exact OwnL.more (m := 1) (by simpa using hown7) rfl
          clear hown hblk hown7 hgrow7 hB
          go_wp2_with fail
          go_roundw
          case rel => exact ⟨k + 1, by omega, by go_num, O7, H7⟩
          case measure => simp [intOf]; omega
    · have hlt' : ¬ (k : Int) < (m.n : Int) := by omega
      have hkn : k = m.n := by omega
      have HO7 : Hid (OwnL wr (w3.heap.size + 1) u11 (L6 ++ (innerTo p yes m.n).map (fun c : Nat => (c : Int)))) := by rw [← hkn]; exact hO
      have hlk : (L6 ++ (innerTo p yes m.n).map (fun c : Nat => (c : Int))).length ≤ 23 := by
        have := inner_le p yes m.n
        rw [List.length_append, List.length_map]
        omega
      obtain ⟨LK, hLK⟩ : ∃ L, L = L6 ++ (innerTo p yes m.n).map (fun c : Nat => (c : Int)) := ⟨_, rfl⟩
      rw [← hLK] at HO7 hlk
      have HLK := Lib.hid hLK
      have r7 := (hB.out.cell (p := ⟨w3.heap.size, 0, none⟩) (by show w3.heap.size < _; omega)).trans r6
      have q0 := (hB.out.cell (p := ⟨w.heap.size, 0, none⟩) (by show w.heap.size < _; omega)).trans q0'
      have q1 := (hB.out.cell (p := ⟨w.heap.size, 1, none⟩) (by show w.heap.size < _; omega)).trans q1'
      clear hkn hO hLK r6 q0' q1'
      go_wp2_with fail
      go_at_call 116
      refine (Repeat_one (by omega) r7).mono ?_
      rintro e w8 ⟨rfl, hrow, b8⟩
      have s8 := b8.size
      have H8 := hB.out.trans (b8.mono (by omega))
      have hown := HO7.out.chg (Chg.of_below (S := fun _ => False) b8 fun j h1 h2 => absurd h1 (by omega)) (fun _ _ _ h => h)
      have hn1 := reps_cells hrow
      have hn2 : ∀ u ∈ List.replicate behind (Value.int .i64 (-1)), u.oneCell' = true := by simp [Value.oneCell']
      have hn3 : (List.replicate behind (Value.int .i64 (-1))).length = behind * 1 := by simp
      have hblk := Lib.hid (ownsRow_block hown)
      clear hrow HO7 r7 b8
      go_wp2_with (at_builtin; refine wpList_append_own _ rfl _ _ 24 rfl (w3.heap.size + 1) 3 i0 (.int .i64 0) 1 8 Try.underlying24 HI.out HZ0.out HZ1.out HZ2.out rfl (by decide) _ _ _ rfl hown ⟨wr.heap.size, 0, none⟩ behind behind (List.replicate behind (Value.int .i64 (-1))) rfl hn3 hn1 hn2 ?d3 ?d4 ?d5 ?_)
      case d3 => unfold maxLen; omega
      case d4 => omega
      case d5 => first | omega | (simp; omega)
      intro v9 w9 hown9 hgrow9 _
      have H9 := H8.trans ((Chg.of_grown (S := fun j => w3.heap.size + 1 ≤ j) hgrow9 hblk.out).below (by omega) fun j hj => hj)
      have O9 : OwnL w9 (w3.heap.size + 1) v9 (LK ++ List.replicate behind (-1)) := OwnL.more (m := behind) (by simpa using hown9) (by simp)
      have s9 := H9.size
      have hl9 : (LK ++ List.replicate behind (-1)).length ≤ 33 := by rw [List.length_append, List.length_replicate]; omega
      obtain ⟨L9, hL9⟩ : ∃ L, L = LK ++ List.replicate behind (-1) := ⟨_, rfl⟩
      rw [← hL9] at O9 hl9
      have HL9 := Lib.hid hL9
      clear hn1 hn2 hn3 hblk hown hown9 hgrow9 hB H8 hL9 q0 q1
      have BW9 := HB6.out.trans (H9.mono (by omega))
      have f0 := (BW9.cell (p := ⟨w.heap.size, 0, none⟩) (by show w.heap.size < _; omega)).trans z0.out
      have f1 := (BW9.cell (p := ⟨w.heap.size, 1, none⟩) (by show w.heap.size < _; omega)).trans z1.out
      have f2 := (BW9.cell (p := ⟨w.heap.size, 2, none⟩) (by show w.heap.size < _; omega)).trans z2.out
      have fl : w.heap.size < w3.heap.size + 1 := by omega
      go_wp2_with fail
      have K0 : Chg (fun j => j = w.heap.size + 1 ∨ w3.heap.size + 1 ≤ j) w9 w9.drew := Chg.drew _ _
      have K1 : ∀ o, Chg (fun j => j = w.heap.size + 1 ∨ w3.heap.size + 1 ≤ j) w9 ((w9.drew).alloc o) := fun o => K0.trans (Chg.alloc _ _ o)
      have fn : ¬ (w.heap.size = w.heap.size + 1 ∨ w3.heap.size + 1 ≤ w.heap.size) := by omega
      have fl9 : w.heap.size < w9.heap.size := by omega
      have O9a : ∀ o, OwnL ((w9.drew).alloc o) (w3.heap.size + 1) v9 L9 := fun o => O9.chg ((Chg.drew (fun _ => False) w9).trans (Chg.alloc _ _ o)) (fun _ _ _ h => h)
      have hblk := Lib.hid (ownsRow_block (O9a (.cells #[.int .i64 (yes : Int)] 3)))
      have ma1 := Lib.hid (show L9.length + 1 ≤ maxLen by unfold maxLen; omega)
      have ma2 := Lib.hid (show (L9.length + 1) * 8 ≤ 140737488355328 by omega)
      have ma3 := Lib.hid (show ∀ o, w3.heap.size + 1 ≤ ((w9.drew).alloc o).heap.size from fun o => by simp; omega)
      have ma4 := Lib.hid (show ∀ x : Int, ∀ u ∈ [Value.int .i64 x], u.oneCell' = true from fun x => by simp [Value.oneCell'])
      have O9A := Lib.hid O9a
      clear O9 O9a
      refine region_plain (fuel := 7) (listed := #[false, false, false, false, false, false, false]) (fun W' => Chg (fun j => j = w.heap.size + 1 ∨ w3.heap.size + 1 ≤ j) w9 W') (by kernel_rfl) (by kernel_rfl) (by kernel_rfl) ?_
      refine hold_take (i := 0) (d := 55) (v := ?ve0) (listed' := #[true, false, false, false, false, false, false]) rfl (by kernel_rfl) (by kernel_rfl) (by kernel_rfl) rfl (by rfl) (by kernel_rfl) K0 ?he0 ?re0
      case he0 =>
        intro w' hSw
        have hSb : Chg (fun j => j = w.heap.size + 1 ∨ w3.heap.size + 1 ≤ j) w9 w' := hSw; have y0 := (World.cell?_of_block (a := ⟨w.heap.size, 0, none⟩) (hSb.block _ fl9 fn)).trans f0; have y1 := (World.cell?_of_block (a := ⟨w.heap.size, 1, none⟩) (hSb.block _ fl9 fn)).trans f1; have y2 := (World.cell?_of_block (a := ⟨w.heap.size, 2, none⟩) (hSb.block _ fl9 fn)).trans f2
        go_simp
        try with_reducible rfl
      simp only [List.setIfInBounds_toArray, List.set_cons_zero, List.set_cons_succ]
      refine hold_take (i := 1) (d := 56) (v := ?ve1) (listed' := #[true, true, false, false, false, false, false]) rfl (by kernel_rfl) (by kernel_rfl) (by kernel_rfl) rfl (by rfl) (by kernel_rfl) K0 ?he1 ?re1
      case he1 =>
        intro w' hSw
        have hSb : Chg (fun j => j = w.heap.size + 1 ∨ w3.heap.size + 1 ≤ j) w9 w' := hSw; have y0 := (World.cell?_of_block (a := ⟨w.heap.size, 0, none⟩) (hSb.block _ fl9 fn)).trans f0; have y1 := (World.cell?_of_block (a := ⟨w.heap.size, 1, none⟩) (hSb.block _ fl9 fn)).trans f1; have y2 := (World.cell?_of_block (a := ⟨w.heap.size, 2, none⟩) (hSb.block _ fl9 fn)).trans f2
        go_simp
        try with_reducible rfl
      simp only [List.setIfInBounds_toArray, List.set_cons_zero, List.set_cons_succ]
      refine hold_take (i := 2) (d := 57) (v := ?ve2) (listed' := #[true, true, true, false, false, false, false]) rfl (by kernel_rfl) (by kernel_rfl) (by kernel_rfl) rfl (by rfl) (by kernel_rfl) K0 ?he2 ?re2
      case he2 =>
        intro w' hSw
        have hSb : Chg (fun j => j = w.heap.size + 1 ∨ w3.heap.size + 1 ≤ j) w9 w' := hSw; have y0 := (World.cell?_of_block (a := ⟨w.heap.size, 0, none⟩) (hSb.block _ fl9 fn)).trans f0; have y1 := (World.cell?_of_block (a := ⟨w.heap.size, 1, none⟩) (hSb.block _ fl9 fn)).trans f1; have y2 := (World.cell?_of_block (a := ⟨w.heap.size, 2, none⟩) (hSb.block _ fl9 fn)).trans f2
        go_simp
        try with_reducible rfl
      simp only [List.setIfInBounds_toArray, List.set_cons_zero, List.set_cons_succ]
      refine hold_value (i := 3) (d := 58) (listed' := #[true, true, true, true, false, false, false]) rfl (by kernel_rfl) rfl (by rfl) (by kernel_rfl) (v := .slice (some ⟨w9.heap.size, 0, none⟩) 1 1) (w' := ((w9.drew).alloc (.cells #[.int .i64 (yes : Int)] 3))) ?hve3 (K1 _) ?_
      case hve3 =>
        go_simp
        try with_reducible rfl
      simp only [List.setIfInBounds_toArray, List.set_cons_zero, List.set_cons_succ]
      refine hold_append (k := 4) (d := 59) (listed' := #[true, true, true, true, true, false, false]) rfl (by kernel_rfl) rfl (by kernel_rfl) rfl (.tmp 56) (.tmp 58) 24 rfl (w3.heap.size + 1) 3 i0 (.int .i64 0) 1 8 Try.underlying24 HI.out HZ0.out HZ1.out HZ2.out rfl (by decide) v9 L9.length _ (by simp [Act.eval]) (O9A.out _) ⟨w9.heap.size, 0, none⟩ 1 1 [.int .i64 (yes : Int)] (by simp [Act.eval]) rfl (cell_one_new _ _ _) (ma4.out _) ma1.out ma2.out (ma3.out _) ?_
      intro v10 w10 hown10 hgrow10 hat10
      have O10 : OwnL w10 (w3.heap.size + 1) v10 (L9 ++ [(yes : Int)]) := OwnL.more (m := 1) (by simpa using hown10) rfl
      have C2 := Chg.of_grown (S := fun j => w3.heap.size + 1 ≤ j) hgrow10 hblk.out
      have K2 := (K1 (.cells #[.int .i64 (yes : Int)] 3)).trans (C2.mono (T := fun j => j = w.heap.size + 1 ∨ w3.heap.size + 1 ≤ j) fun j hj => .inr hj)
      have H10 := (((Below.refl (w3.heap.size + 1) w9).drew).alloc (by simp; omega) (.cells #[.int .i64 (yes : Int)] 3)).trans (C2.below (by simp; omega) fun j hj => hj)
      obtain ⟨L10, hL10⟩ : ∃ L, L = L9 ++ [(yes : Int)] := ⟨_, rfl⟩
      rw [← hL10] at O10
      obtain ⟨g10, c10, rfl, hg10, hr10⟩ := O10.row (by rw [hL10]; simp)
      have HL10 := Lib.hid hL10
      clear hL10 hown10 hgrow10 hat10
      refine ⟨K2, ?_⟩
      simp only [List.setIfInBounds_toArray, List.set_cons_zero, List.set_cons_succ]
      refine hold_take (i := 5) (d := 60) (v := ?ve5) (listed' := #[true, true, true, true, true, true, false]) rfl (by kernel_rfl) (by kernel_rfl) (by kernel_rfl) rfl (by rfl) (by kernel_rfl) K2 ?he5 ?re5
      case he5 =>
        intro w' hSw
        have hSb : Chg (fun j => j = w.heap.size + 1 ∨ w3.heap.size + 1 ≤ j) w9 w' := hSw; have y0 := (World.cell?_of_block (a := ⟨w.heap.size, 0, none⟩) (hSb.block _ fl9 fn)).trans f0; have y1 := (World.cell?_of_block (a := ⟨w.heap.size, 1, none⟩) (hSb.block _ fl9 fn)).trans f1; have y2 := (World.cell?_of_block (a := ⟨w.heap.size, 2, none⟩) (hSb.block _ fl9 fn)).trans f2
        go_simp
        try with_reducible rfl
      simp only [List.setIfInBounds_toArray, List.set_cons_zero, List.set_cons_succ]
      have y0 := ((BW9.trans (H10.mono (by omega))).cell (p := ⟨w.heap.size + 1, 0, none⟩) (by show w.heap.size + 1 < _; omega)).trans zy.out.1
      have y1 := ((BW9.trans (H10.mono (by omega))).cell (p := ⟨w.heap.size + 1, 1, none⟩) (by show w.heap.size + 1 < _; omega)).trans zy.out.2.1
      have y2 := ((BW9.trans (H10.mono (by omega))).cell (p := ⟨w.heap.size + 1, 2, none⟩) (by show w.heap.size + 1 < _; omega)).trans zy.out.2.2.1
      have y3 := ((BW9.trans (H10.mono (by omega))).cell (p := ⟨w.heap.size + 1, 3, none⟩) (by show w.heap.size + 1 < _; omega)).trans zy.out.2.2.2
      have g0 := ((BW9.trans (H10.mono (by omega))).frozen (p := ⟨w.heap.size + 1, 0, none⟩) (by show w.heap.size + 1 < _; omega)).trans (yf3.out 0)
      have g1 := ((BW9.trans (H10.mono (by omega))).frozen (p := ⟨w.heap.size + 1, 1, none⟩) (by show w.heap.size + 1 < _; omega)).trans (yf3.out 1)
      have g2 := ((BW9.trans (H10.mono (by omega))).frozen (p := ⟨w.heap.size + 1, 2, none⟩) (by show w.heap.size + 1 < _; omega)).trans (yf3.out 2)
      have g3 := ((BW9.trans (H10.mono (by omega))).frozen (p := ⟨w.heap.size + 1, 3, none⟩) (by show w.heap.size + 1 < _; omega)).trans (yf3.out 3)
      have hon := four_new (w := w10) (p := w.heap.size + 1) (a := .slice ua m.n l.cap) (b := .slice (some ⟨gg, oo, none⟩) m.n nc) (c := .slice (some ⟨q0, 0, none⟩) 2 2) (d := .slice (some ⟨g10, 0, none⟩) L10.length c10)
      have fin := four_told (w := w10) (p := w.heap.size + 1) (a := .slice ua m.n l.cap) (b := .slice (some ⟨gg, oo, none⟩) m.n nc) (c := .slice (some ⟨q0, 0, none⟩) 2 2) (d := .slice (some ⟨g10, 0, none⟩) L10.length c10) y0 y1 y2 y3
      have K4 := K2.trans ((Chg.of_only hon).mono (T := fun j => j = w.heap.size + 1 ∨ w3.heap.size + 1 ≤ j) fun j hj => .inl hj)
      refine hold_store (i := 6) (w' := ((((w10.setCell ⟨w.heap.size + 1, 0, none⟩ (.slice ua m.n l.cap)).setCell ⟨w.heap.size + 1, 1, none⟩ (.slice (some ⟨gg, oo, none⟩) m.n nc)).setCell ⟨w.heap.size + 1, 2, none⟩ (.slice (some ⟨q0, 0, none⟩) 2 2)).setCell ⟨w.heap.size + 1, 3, none⟩ (.slice (some ⟨g10, 0, none⟩) L10.length c10))) (listed' := #[true, true, true, true, true, true, true]) rfl (by kernel_rfl) rfl (by rfl) (by kernel_rfl) ?hse6 K4 ?hke6
      case hse6 => go_simp
      refine hold_done (by kernel_rfl) ?_ _
      have t0 := fin.1
      have t1 := fin.2.1
      have t2 := fin.2.2.1
      have t3 := fin.2.2.2
      have hss := hon.size
      have hBF := Lib.hid ((B3.trans (BW9.mono (by have := B3.size; omega))).trans (K4.below (by omega) fun j hj => by have hj' : j = w.heap.size + 1 ∨ w3.heap.size + 1 ≤ j := hj; omega))
      have hRF := Lib.hid (hr10.only hon (by show ¬ (g10 = w.heap.size + 1); omega))
      have HLF : Hid (L10 = spreadL p (yy p) m.n ahead behind) := by
        show _ = _
        unfold spreadL
        rw [HL10.out, HL9.out, HLK.out, HL6.out, HYES.out]
      clear K4 K2 K1 K0 f0 f1 f2 hr10 O10 hon fin
      go_wp2_with fail
      refine bodyPost_ret (v := .agg #[.slice ua m.n l.cap, .slice (some ⟨gg, oo, none⟩) m.n nc, .slice (some ⟨q0, 0, none⟩) 2 2, .slice (some ⟨g10, 0, none⟩) L10.length c10]) (by simp [results, Try.results104, go_sem, t0, t1, t2, t3]) rfl ?_
      rw [← HLF.out]
      exact ⟨g10, c10, rfl, ⟨fun c hc => by obtain ⟨a1, a2, a3⟩ := hRF.out.row c hc; exact ⟨a1, by omega, a3⟩⟩, by omega, hBF.out⟩
end Go.Proofs.Ytanhogaekdcooaa
