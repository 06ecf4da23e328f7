/- New desks: the reference's walk and the program's, and the law against the reference. -/
import Derived.Test.YtojcgmgponnlpaaDkg
namespace Go.Proofs.Ytojcgmgponnlpaa
open Go.RowKit Go.Deep Go.Joins

theorem Chg.three {S : Nat → Prop} {w w' : World} {p : Nat} {u v x : Value} (h : Chg S w w') (ht : ThreeAt w p u v x) (hs : ¬ S p) : ThreeAt w' p u v x := by
  have hp : p < w.heap.size := World.block_lt_of_cell? w ⟨p, 0, none⟩ ht.c0
  have hb := h.block p hp hs
  exact ⟨(World.cell?_of_block (a := ⟨p, 0, none⟩) hb).trans ht.c0, (World.cell?_of_block (a := ⟨p, 1, none⟩) hb).trans ht.c1, (World.cell?_of_block (a := ⟨p, 2, none⟩) hb).trans ht.c2, (World.frozen?_of_block (a := ⟨p, 0, none⟩) hb).trans ht.f0, (World.frozen?_of_block (a := ⟨p, 1, none⟩) hb).trans ht.f1, (World.frozen?_of_block (a := ⟨p, 2, none⟩) hb).trans ht.f2⟩
theorem Chg.set3 (w : World) (p : Nat) (x y z : Value) : Chg (fun j => j = p) w (((w.setCell ⟨p, 0, none⟩ x).setCell ⟨p, 1, none⟩ y).setCell ⟨p, 2, none⟩ z) :=
  ((Chg.set (S := fun j => j = p) (b := p) (i := 0) rfl x).trans (Chg.set (S := fun j => j = p) (b := p) (i := 1) rfl y)).trans (Chg.set (S := fun j => j = p) (b := p) (i := 2) rfl z)
/-- A logic of one's own that a call hands back, and a word. -/
def CRes (w : World) (c : Lc) (b : Bool) (e : Ending) (w' : World) : Prop := ∃ u t, e = .returned (.tuple #[.agg #[u, t], .bool b]) ∧ Below w.heap.size w w' ∧ CW w' ⟨u, t, w.heap.size, w'.heap.size⟩ c
theorem MadeOk.cres {w : World} {N : Nat} {Z : Nat → Nat → Int} {y : Nat → Nat} {ok : Bool} {e : Ending} {w' : World} (h : MadeOk w N Z y ok e w') : CRes w (if ok = true then Lc.of N Z y else zeroC) ok e w' := by
  obtain ⟨hb, (⟨rfl, rfl⟩ | ⟨rfl, u, t, rv, rfl, hL⟩)⟩ := h
  · exact ⟨_, _, rfl, hb, none, noLay, none, 0, 0, rfl, rfl, LogW.none w' _ _ _⟩
  · obtain ⟨ua, l, na, g, nc, rfl, rfl, hW⟩ := hL.logW
    exact ⟨_, _, rfl, hb, ua, l, na, g, nc, rfl, rfl, hW⟩
theorem SetsOf_C {w : World} {t : Int} : Calls Try.prog 16 #[.int .i64 t] w (CRes w (setsC t) (setsOkB t)) := SetsOf_any.mono fun _ _ h => h.cres
theorem spec_SetsOf_C {w : World} {t : Int} : Calls Try.prog 31 #[.int .i64 t] w (CRes w (setsC t) (setsOkB t)) := spec_SetsOf_any.mono fun _ _ h => h.cres
/-- A desk of one logic. -/
theorem deskOne {w : World} {base hi : Nat} {u t : Value} {c : Lc} {lo : Nat} (h : CW w ⟨u, t, lo, hi⟩ c) (h1 : base ≤ lo) : DeskW w w.heap.size base (.agg #[u, t, .slice none 0 0]) ⟨c, []⟩ := by
  refine ⟨⟨u, t, lo, hi⟩, none, 0, 0, 0, [], rfl, h, PsW.nil .., List.pairwise_singleton .., fun y hy => ?_, fun h0 => absurd h0 (Nat.lt_irrefl 0), fun h0 => absurd h0 (Nat.lt_irrefl 0), Nat.zero_le _, fun y hy => ?_, fun h0 => absurd h0 (Nat.lt_irrefl 0), Nat.le_refl _⟩
  · rw [List.mem_singleton] at hy
    rw [hy]; exact h1
  · rw [List.mem_singleton] at hy
    rw [hy]; exact h.hi
set_option maxRecDepth 100000 in
set_option maxHeartbeats 4000000 in
theorem DeskNew_any {w : World} {x : Int} : Calls Try.prog 12 #[.int .i64 x] w (DkRes w ⟨setsC x, []⟩ (setsOkB x)) := by
  obtain ⟨c, hc⟩ : ∃ c, setsC x = c := ⟨_, rfl⟩
  obtain ⟨b, hb⟩ : ∃ b, setsOkB x = b := ⟨_, rfl⟩
  have HS : Hid (∀ w, Calls Try.prog 16 #[.int .i64 x] w (CRes w c b)) := fun w => by rw [← hc, ← hb]; exact SetsOf_C
  have HZ : Hid (b = false → c = zeroC) := fun h => by rw [← hc]; exact setsC_no (by rw [hb]; exact h)
  rw [hc, hb]
  clear hc hb
  have h3 := ThreeAt.new w (.slice none 0 0) (.slice none 0 0) (.slice none 0 0) 29
  have b0 := (Below.refl w.heap.size w).alloc (Nat.le_refl _) (.cells #[.slice none 0 0, .slice none 0 0, .slice none 0 0] 29)
  have s0 : (w.alloc (.cells #[.slice none 0 0, .slice none 0 0, .slice none 0 0] 29)).heap.size = w.heap.size + 1 := by simp
  go_enter Try.func12, Try.ntmps12
  go_wp2_with fail
  generalize w.alloc (.cells #[.slice none 0 0, .slice none 0 0, .slice none 0 0] 29) = W at h3 b0 s0 ⊢
  go_at_call 16
  refine (HS.out _).mono ?_
  rintro e w1 ⟨_, _, rfl, b1, ua, l, na, g, nc, rfl, rfl, hW⟩
  have hz1 := b1.size
  have HW : Hid (CW w1 ⟨.slice ua c.m.n l.cap, .slice na c.k nc, W.heap.size, w1.heap.size⟩ c) := ⟨ua, l, na, g, nc, rfl, rfl, hW⟩
  clear hW
  have B1 := b0.trans (b1.mono (by omega))
  have x1 := TwoAt.new w1 (.slice ua c.m.n l.cap) (.slice na c.k nc) 26
  have bb := (Below.refl w1.heap.size w1).alloc (Nat.le_refl _) (.cells #[.slice ua c.m.n l.cap, .slice na c.k nc] 26)
  have B2 := B1.trans (bb.mono (by omega))
  have h4 := (h3.below b1 (by omega)).below bb (by omega)
  have c12 : Chg (fun j => j = w.heap.size) w1 (w1.alloc (.cells #[.slice ua c.m.n l.cap, .slice na c.k nc] 26)) := Chg.alloc _ _ _
  have t0 := x1.c0
  have t1 := x1.c1
  have q0 := h4.c0
  have q1 := h4.c1
  have q2 := h4.c2
  have q3 := h4.f0
  have q4 := h4.f1
  have q5 := h4.f2
  have s2 : w1.heap.size ≤ (w1.alloc (.cells #[.slice ua c.m.n l.cap, .slice na c.k nc] 26)).heap.size := by simp
  go_wp2_with fail
  generalize w1.alloc (.cells #[.slice ua c.m.n l.cap, .slice na c.k nc] 26) = w2 at x1 B2 h4 c12 t0 t1 q0 q1 q2 q3 q4 q5 s2 ⊢
  have hfin := ((h4.put0 (.slice ua c.m.n l.cap)).put1 (.slice na c.k nc)).put2 (.slice none 0 0)
  have r0 := hfin.c0
  have r1 := hfin.c1
  have r2 := hfin.c2
  have c23 : Chg (fun j => j = w.heap.size) w2 (((w2.setCell ⟨w.heap.size, 0, none⟩ (.slice ua c.m.n l.cap)).setCell ⟨w.heap.size, 1, none⟩ (.slice na c.k nc)).setCell ⟨w.heap.size, 2, none⟩ (.slice none 0 0)) := Chg.set3 _ _ _ _ _
  have hD := deskOne (base := w.heap.size) (HW.out.chg (c12.trans c23) fun j hj => by have hj' : j = w.heap.size := hj; show j < W.heap.size ∨ _; omega) (by omega)
  refine bodyPost_ret (v := .tuple #[.agg #[.slice ua c.m.n l.cap, .slice na c.k nc, .slice none 0 0], .bool b]) (by simp [results, Try.results12, go_sem, r0, r1, r2]) rfl ⟨_, rfl, hD, B2.trans (c23.below (by omega) fun j hj => by have hj' : j = w.heap.size := hj; omega)⟩
set_option maxRecDepth 100000 in
set_option maxHeartbeats 4000000 in
theorem spec_DeskNew_any {w : World} {x : Int} : Calls Try.prog 13 #[.int .i64 x] w (DkRes w ⟨setsC x, []⟩ (setsOkB x)) := by
  obtain ⟨c, hc⟩ : ∃ c, setsC x = c := ⟨_, rfl⟩
  obtain ⟨b, hb⟩ : ∃ b, setsOkB x = b := ⟨_, rfl⟩
  have HS : Hid (∀ w, Calls Try.prog 31 #[.int .i64 x] w (CRes w c b)) := fun w => by rw [← hc, ← hb]; exact spec_SetsOf_C
  have HZ : Hid (b = false → c = zeroC) := fun h => by rw [← hc]; exact setsC_no (by rw [hb]; exact h)
  rw [hc, hb]
  clear hc hb
  have h3 := ThreeAt.new w (.slice none 0 0) (.slice none 0 0) (.slice none 0 0) 29
  have b0 := (Below.refl w.heap.size w).alloc (Nat.le_refl _) (.cells #[.slice none 0 0, .slice none 0 0, .slice none 0 0] 29)
  have s0 : (w.alloc (.cells #[.slice none 0 0, .slice none 0 0, .slice none 0 0] 29)).heap.size = w.heap.size + 1 := by simp
  go_enter Try.func13, Try.ntmps13
  go_wp2_with fail
  generalize w.alloc (.cells #[.slice none 0 0, .slice none 0 0, .slice none 0 0] 29) = W at h3 b0 s0 ⊢
  go_at_call 31
  refine (HS.out _).mono ?_
  rintro e w1 ⟨_, _, rfl, b1, ua, l, na, g, nc, rfl, rfl, hW⟩
  have hz1 := b1.size
  have HW : Hid (CW w1 ⟨.slice ua c.m.n l.cap, .slice na c.k nc, W.heap.size, w1.heap.size⟩ c) := ⟨ua, l, na, g, nc, rfl, rfl, hW⟩
  clear hW
  have B1 := b0.trans (b1.mono (by omega))
  have x1 := TwoAt.new w1 (.slice ua c.m.n l.cap) (.slice na c.k nc) 26
  have bb := (Below.refl w1.heap.size w1).alloc (Nat.le_refl _) (.cells #[.slice ua c.m.n l.cap, .slice na c.k nc] 26)
  have B2 := B1.trans (bb.mono (by omega))
  have h4 := (h3.below b1 (by omega)).below bb (by omega)
  have c12 : Chg (fun j => j = w.heap.size) w1 (w1.alloc (.cells #[.slice ua c.m.n l.cap, .slice na c.k nc] 26)) := Chg.alloc _ _ _
  have t0 := x1.c0
  have t1 := x1.c1
  have q0 := h4.c0
  have q1 := h4.c1
  have q2 := h4.c2
  have q3 := h4.f0
  have q4 := h4.f1
  have q5 := h4.f2
  have s2 : w1.heap.size ≤ (w1.alloc (.cells #[.slice ua c.m.n l.cap, .slice na c.k nc] 26)).heap.size := by simp
  cases b with
  | false =>
    obtain rfl : c = zeroC := HZ.out rfl
    go_wp2_with fail
    generalize w1.alloc (.cells #[.slice ua zeroC.m.n l.cap, .slice na zeroC.k nc] 26) = w2 at x1 B2 h4 c12 t0 t1 q0 q1 q2 q3 q4 q5 s2 ⊢
    have hfin := ((h4.put0 (.slice none 0 0)).put1 (.slice none 0 0)).put2 (.slice none 0 0)
    have r0 := hfin.c0
    have r1 := hfin.c1
    have r2 := hfin.c2
    have c23 : Chg (fun j => j = w.heap.size) w2 (((w2.setCell ⟨w.heap.size, 0, none⟩ (.slice none 0 0)).setCell ⟨w.heap.size, 1, none⟩ (.slice none 0 0)).setCell ⟨w.heap.size, 2, none⟩ (.slice none 0 0)) := Chg.set3 _ _ _ _ _
    have hD := zeroW (((w2.setCell ⟨w.heap.size, 0, none⟩ (.slice none 0 0)).setCell ⟨w.heap.size, 1, none⟩ (.slice none 0 0)).setCell ⟨w.heap.size, 2, none⟩ (.slice none 0 0)) w.heap.size (by simp; omega)
    refine bodyPost_ret (v := .tuple #[.agg #[.slice none 0 0, .slice none 0 0, .slice none 0 0], .bool false]) (by simp [results, Try.results13, go_sem, r0, r1, r2]) rfl ⟨_, rfl, hD, B2.trans (c23.below (by omega) fun j hj => by have hj' : j = w.heap.size := hj; omega)⟩
  | true =>
    go_wp2_with fail
    generalize w1.alloc (.cells #[.slice ua c.m.n l.cap, .slice na c.k nc] 26) = w2 at x1 B2 h4 c12 t0 t1 q0 q1 q2 q3 q4 q5 s2 ⊢
    have hfin := ((h4.put0 (.slice ua c.m.n l.cap)).put1 (.slice na c.k nc)).put2 (.slice none 0 0)
    have r0 := hfin.c0
    have r1 := hfin.c1
    have r2 := hfin.c2
    have c23 : Chg (fun j => j = w.heap.size) w2 (((w2.setCell ⟨w.heap.size, 0, none⟩ (.slice ua c.m.n l.cap)).setCell ⟨w.heap.size, 1, none⟩ (.slice na c.k nc)).setCell ⟨w.heap.size, 2, none⟩ (.slice none 0 0)) := Chg.set3 _ _ _ _ _
    have hD := deskOne (base := w.heap.size) (HW.out.chg (c12.trans c23) fun j hj => by have hj' : j = w.heap.size := hj; show j < W.heap.size ∨ _; omega) (by omega)
    refine bodyPost_ret (v := .tuple #[.agg #[.slice ua c.m.n l.cap, .slice na c.k nc, .slice none 0 0], .bool true]) (by simp [results, Try.results13, go_sem, r0, r1, r2]) rfl ⟨_, rfl, hD, B2.trans (c23.below (by omega) fun j hj => by have hj' : j = w.heap.size := hj; omega)⟩
set_option maxRecDepth 100000 in
set_option maxHeartbeats 4000000 in
theorem law_ExactDeskNew_at {w : World} {x : Int} {R : Dk Lc} {ok : Bool} (hs : ∀ w, Calls Try.prog 13 #[.int .i64 x] w (DkRes w R ok)) (hi : ∀ w, Calls Try.prog 12 #[.int .i64 x] w (DkRes w R ok)) :
    Calls Try.prog 6 #[.int .i64 x] w fun e w' => e = .returned (.bool true) ∧ Below w.heap.size w w' := by
  have HS := Lib.hid hs
  have HI := Lib.hid hi
  have e0 : (ok != ok) = false := by simp
  clear hs hi
  go_enter Try.func6, Try.ntmps6
  go_wp2_with fail
  go_at_call 13
  refine (HS.out _).mono ?_
  rintro e w1 ⟨v, rfl, hw1, b1⟩
  obtain ⟨ua, n, c, na, k, nc, pa, p, pc, rfl⟩ := hw1.form
  have x1 := ThreeAt.new w1 (.slice ua n c) (.slice na k nc) (.slice pa p pc) 29
  have B1 := b1.alloc b1.size (.cells #[.slice ua n c, .slice na k nc, .slice pa p pc] 29)
  have W1 := Lib.hid (hw1.below ((Below.refl w1.heap.size w1).alloc (Nat.le_refl _) (.cells #[.slice ua n c, .slice na k nc, .slice pa p pc] 29)) (Nat.le_refl _))
  have s1 : (w1.alloc (.cells #[.slice ua n c, .slice na k nc, .slice pa p pc] 29)).heap.size = w1.heap.size + 1 := by simp
  clear hw1
  go_wp2_with fail
  generalize w1.alloc (.cells #[.slice ua n c, .slice na k nc, .slice pa p pc] 29) = w2 at x1 B1 W1 s1 ⊢
  go_at_call 12
  refine (HI.out _).mono ?_
  rintro e w3 ⟨v', rfl, hg3, b3⟩
  obtain ⟨ua', n', c', na', k', nc', pa', p', pc', rfl⟩ := hg3.form
  have x3 := x1.below b3 (by omega)
  have B3 := B1.trans (b3.mono B1.size)
  have s3 := b3.size
  have W3 := Lib.hid (W1.out.below b3 (by omega))
  have G3 := Lib.hid hg3
  have bb := (Below.refl w3.heap.size w3).alloc (Nat.le_refl _) (.cells #[.slice ua' n' c', .slice na' k' nc', .slice pa' p' pc'] 29)
  have y4 := ThreeAt.new w3 (.slice ua' n' c') (.slice na' k' nc') (.slice pa' p' pc') 29
  have x4 := x3.below bb (by omega)
  have B4 := B3.trans (bb.mono B3.size)
  have W4 := Lib.hid (W3.out.below bb (by omega))
  have G4 := Lib.hid (G3.out.below bb (Nat.le_refl _))
  have s4 : (w3.alloc (.cells #[.slice ua' n' c', .slice na' k' nc', .slice pa' p' pc'] 29)).heap.size = w3.heap.size + 1 := by simp
  have SM := Lib.hid hg3.small
  clear hg3 x3 x1 bb
  have t0 := x4.c0
  have t1 := x4.c1
  have t2 := x4.c2
  go_wp2_with fail
  generalize w3.alloc (.cells #[.slice ua' n' c', .slice na' k' nc', .slice pa' p' pc'] 29) = w4 at y4 x4 B4 W4 G4 s4 t0 t1 t2 ⊢
  go_at_call 20
  refine (eqDesk_any G4.out.at_ W4.out.at_).mono ?_
  rintro e w5 ⟨rfl, b5⟩
  have y5 := y4.below b5 (by omega)
  have x5 := x4.below b5 (by omega)
  have B5 := B4.trans (b5.mono B4.size)
  have W5 := Lib.hid (W4.out.below b5 (by omega))
  have G5 := Lib.hid (G4.out.below b5 (by omega))
  have s5 := b5.size
  have t3 := y5.c0
  have t4 := y5.c1
  have t5 := y5.c2
  clear t0 t1 t2 x4 y4
  go_wp2_with fail
  go_at_call 21
  refine (markDesk_any (k0 := 1) G5.out (by omega)).mono ?_
  rintro e w6 ⟨rfl, c6, hg6⟩
  have y6 := c6.three y5 (by show ¬ (_ ∧ _); omega)
  have x6 := c6.three x5 (by show ¬ (_ ∧ _); omega)
  have B6 := B5.trans (c6.below B5.size fun j hj => by have hj' : w2.heap.size ≤ j ∧ j < w3.heap.size := hj; have := B1.size; omega)
  have W6 := Lib.hid (W5.out.chg c6 fun j hj => by have hj' : w2.heap.size ≤ j ∧ j < w3.heap.size := hj; omega)
  have G6 := Lib.hid hg6
  have s6 := c6.size
  have t0 := y6.c0
  have t1 := y6.c1
  have t2 := y6.c2
  clear t3 t4 t5 x5 y5 c6 hg6
  go_wp2_with fail
  go_at_call 22
  refine (heldDesk_any (k0 := 1) G6.out SM.out (by omega)).mono ?_
  rintro e w7 ⟨rfl, b7⟩
  have y7 := y6.below b7 (by omega)
  have x7 := x6.below b7 (by omega)
  have B7 := B6.trans (b7.mono B6.size)
  have W7 := Lib.hid (W6.out.below b7 (by omega))
  have G7 := Lib.hid (G6.out.below b7 (by omega))
  have s7 := b7.size
  clear t0 t1 t2 x6 y6
  go_wp2_with fail
  go_at_call 12
  refine (HI.out _).mono ?_
  rintro e w8 ⟨v2, rfl, hh8, b8⟩
  obtain ⟨ua2, n2, c2, na2, k2, nc2, pa2, p2, pc2, rfl⟩ := hh8.form
  have H8 := Lib.hid hh8
  have bb := (Below.refl w8.heap.size w8).alloc (Nat.le_refl _) (.cells #[.slice ua2 n2 c2, .slice na2 k2 nc2, .slice pa2 p2 pc2] 29)
  have s8 := b8.size
  have y9 := (y7.below b8 (by omega)).below bb (by omega)
  have x9 := (x7.below b8 (by omega)).below bb (by omega)
  have B9 := (B7.trans (b8.mono B7.size)).trans (bb.mono (by have := B7.size; omega))
  have W9 := Lib.hid ((W7.out.below b8 (by omega)).below bb (by omega))
  have G9 := Lib.hid ((G7.out.below b8 (by omega)).below bb (by omega))
  have H9 := Lib.hid (H8.out.below bb (Nat.le_refl _))
  have s9 : (w8.alloc (.cells #[.slice ua2 n2 c2, .slice na2 k2 nc2, .slice pa2 p2 pc2] 29)).heap.size = w8.heap.size + 1 := by simp
  have t0 := x9.c0
  have t1 := x9.c1
  have t2 := x9.c2
  clear hh8 bb x7 y7
  go_wp2_with fail
  generalize w8.alloc (.cells #[.slice ua2 n2 c2, .slice na2 k2 nc2, .slice pa2 p2 pc2] 29) = w9 at y9 x9 B9 W9 G9 H9 s9 t0 t1 t2 ⊢
  go_at_call 20
  refine (eqDesk_any H9.out.at_ W9.out.at_).mono ?_
  rintro e w10 ⟨rfl, b10⟩
  have y10 := y9.below b10 (by omega)
  have B10 := B9.trans (b10.mono B9.size)
  have G10 := Lib.hid (G9.out.below b10 (by omega))
  have t3 := y10.c0
  have t4 := y10.c1
  have t5 := y10.c2
  clear t0 t1 t2 y9
  go_wp2_with fail
  go_at_call 22
  refine (heldDesk_any (k0 := 1) G10.out SM.out (by omega)).mono ?_
  rintro e w11 ⟨rfl, b11⟩
  have B11 := B10.trans (b11.mono B10.size)
  clear t3 t4 t5
  go_wp2_with fail
  go_ret
  exact ⟨rfl, B11⟩
theorem law_ExactDeskNew {w : World} {x : Int} : Calls Try.prog 6 #[.int .i64 x] w fun e w' => e = .returned (.bool true) ∧ Below w.heap.size w w' :=
  law_ExactDeskNew_at (fun _ => spec_DeskNew_any) (fun _ => DeskNew_any)
end Go.Proofs.Ytojcgmgponnlpaa
