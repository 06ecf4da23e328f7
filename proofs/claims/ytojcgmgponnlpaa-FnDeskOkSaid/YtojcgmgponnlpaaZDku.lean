import Derived.Test.YtojcgmgponnlpaaZDkt
namespace Go.Proofs.Ytojcgmgponnlpaa
open Go.RowKit Go.Deep Go.Joins

theorem stepC_on {D : Dk Lc} {a : Dd} (h : ¬ (a.k = 4 ∧ a.a = 0 ∧ a.b = 0 ∧ D.past ≠ [])) : stepC D a = match mkC D.now a with
    | some x => if sameC x D.now = true then none else some (D.put x)
    | none => none := by
  unfold stepC Dk.step
  rw [if_neg h]
  cases mkC D.now a <;> rfl
theorem CpyD.deskN {w : World} {p base n : Nat} {v : Value} {X : List Iv} {x : Iv} {D : Dk Lc} (h : CpyD w p n v X D.past) (hn : D.past.length = n) (hx : CW w x D.now) (hb : base ≤ x.lo) (hb2 : base ≤ p) (hxp : x.hi ≤ p) (hl : D.past.length ≤ 1048576) : DeskW w w.heap.size base (.agg #[x.u, x.t, v]) D := by
  subst hn
  exact h.desk hx hb hb2 hxp hl
theorem DeskAt.nowC {w : World} {B : Nat} {u t pv : Value} {D : Dk Lc} (h : DeskAt w B (.agg #[u, t, pv]) D) : CAt w B u t D.now := by
  obtain ⟨ua, l, na, g, o, nc, pa, pg, po, pc, e, h1, h2, h3⟩ := h
  simp only [Value.agg.injEq, Array.mk.injEq, List.cons.injEq, and_true] at e
  obtain ⟨rfl, rfl, _⟩ := e
  exact ⟨ua, l, na, g, o, nc, rfl, rfl, h1⟩
set_option maxRecDepth 100000 in
set_option maxHeartbeats 4000000 in
theorem do_none {w : World} {B : Nat} {v : Value} {D : Dk Lc} {kk xx bb : Int} (h : DeskAt w B v D) (hI : D.Is) (ht : (kk == 4 && (xx == 0 && bb == 0)) = false) (hm : mkC D.now ⟨kk, xx, bb⟩ = none) :
    Calls Try.prog 46 #[v, deedV ⟨kk, xx, bb⟩] w (DkResO w D false) := by
  have HOK := Lib.hid hI.okB
  have HI := Lib.hid hI
  have HSM := Lib.hid hI.sm
  obtain ⟨cm, ecm⟩ : ∃ cm, zeroC = cm := ⟨_, rfl⟩
  have HMK : Hid (∀ (W : World) (Bk : Nat) (vd : Value), DeskAt W Bk vd D → ∀ u t pv, vd = .agg #[u, t, pv] → Calls Try.prog 86 #[.agg #[u, t], deedV ⟨kk, xx, bb⟩] W (CRes W cm false)) := fun W Bk vd hd u t pv e => by
    subst e
    have h1 := spec_l11Made (a := ⟨kk, xx, bb⟩) hd.nowC HI.out.1
    unfold OptRes at h1
    rw [hm] at h1
    rw [← ecm]
    exact h1
  clear hm ecm
  clear hI
  unfold deedV
  dsimp only
  obtain ⟨ua, l, na, g, o, nc, pa, pg, po, pc, rfl, hL, hP, hn63⟩ := id h
  obtain ⟨n, hn⟩ : ∃ n, D.past.length = n := ⟨_, rfl⟩
  have HN := Lib.hid hn
  rw [hn] at h hn63 ⊢
  have hBw := hL.hB
  have X0 := ThreeAt.new w (.slice ua D.now.m.n l.cap) (.slice na D.now.k nc) (.slice pa n pc) 29
  have V0 := ThreeAt.new (w.alloc (.cells #[.slice ua D.now.m.n l.cap, .slice na D.now.k nc, .slice pa n pc] 29)) (.int .i64 kk) (.int .i64 xx) (.int .i64 bb) 70
  have R := ThreeAt.new ((w.alloc (.cells #[.slice ua D.now.m.n l.cap, .slice na D.now.k nc, .slice pa n pc] 29)).alloc (.cells #[.int .i64 kk, .int .i64 xx, .int .i64 bb] 70)) (.slice none 0 0) (.slice none 0 0) (.slice none 0 0) 29
  have c1 := (Below.refl w.heap.size w).alloc (Nat.le_refl _) (.cells #[.slice ua D.now.m.n l.cap, .slice na D.now.k nc, .slice pa n pc] 29)
  have c2 := (Below.refl (w.alloc (.cells #[.slice ua D.now.m.n l.cap, .slice na D.now.k nc, .slice pa n pc] 29)).heap.size (w.alloc (.cells #[.slice ua D.now.m.n l.cap, .slice na D.now.k nc, .slice pa n pc] 29))).alloc (Nat.le_refl _) (.cells #[.int .i64 kk, .int .i64 xx, .int .i64 bb] 70)
  have c3 := (Below.refl ((w.alloc (.cells #[.slice ua D.now.m.n l.cap, .slice na D.now.k nc, .slice pa n pc] 29)).alloc (.cells #[.int .i64 kk, .int .i64 xx, .int .i64 bb] 70)).heap.size ((w.alloc (.cells #[.slice ua D.now.m.n l.cap, .slice na D.now.k nc, .slice pa n pc] 29)).alloc (.cells #[.int .i64 kk, .int .i64 xx, .int .i64 bb] 70))).alloc (Nat.le_refl _) (.cells #[.slice none 0 0, .slice none 0 0, .slice none 0 0] 29)
  have X2 := (X0.below c2 (by simp)).below c3 (by simp; omega)
  have V2 := V0.below c3 (by simp)
  rw [World.size_alloc] at V2
  rw [World.size_alloc, World.size_alloc] at R
  have bw : Below w.heap.size w (((w.alloc (.cells #[.slice ua D.now.m.n l.cap, .slice na D.now.k nc, .slice pa n pc] 29)).alloc (.cells #[.int .i64 kk, .int .i64 xx, .int .i64 bb] 70)).alloc (.cells #[.slice none 0 0, .slice none 0 0, .slice none 0 0] 29)) := (c1.trans (c2.mono (by simp))).trans (c3.mono (by simp; omega))
  have hsz : w.heap.size + 3 ≤ (((w.alloc (.cells #[.slice ua D.now.m.n l.cap, .slice na D.now.k nc, .slice pa n pc] 29)).alloc (.cells #[.int .i64 kk, .int .i64 xx, .int .i64 bb] 70)).alloc (.cells #[.slice none 0 0, .slice none 0 0, .slice none 0 0] 29)).heap.size := by simp
  have hszb : (((w.alloc (.cells #[.slice ua D.now.m.n l.cap, .slice na D.now.k nc, .slice pa n pc] 29)).alloc (.cells #[.int .i64 kk, .int .i64 xx, .int .i64 bb] 70)).alloc (.cells #[.slice none 0 0, .slice none 0 0, .slice none 0 0] 29)).heap.size ≤ w.heap.size + 3 := by simp
  have HA := Lib.hid (h.step bw)
  clear hn
  have q0 := X2.c0
  have q1 := X2.c1
  have q2 := X2.c2
  clear h hL hP c1 c2 c3 X0 V0
  have eD := fun w => (deed_eql kk xx bb 4 0 0 w).trans (by rw [ht])
  go_enter Try.func46, Try.ntmps46
  go_wp2_with fail
  generalize (((w.alloc (.cells #[.slice ua D.now.m.n l.cap, .slice na D.now.k nc, .slice pa n pc] 29)).alloc (.cells #[.int .i64 kk, .int .i64 xx, .int .i64 bb] 70)).alloc (.cells #[.slice none 0 0, .slice none 0 0, .slice none 0 0] 29)) = W at X2 V2 R bw hsz hszb HA q0 q1 q2 ⊢
  go_at_call 9
  refine (spec_DeskOk HA.out).mono ?_
  rintro e w1 ⟨rfl, b1⟩
  rw [HOK.out]
  have X3 := X2.below b1 (by omega)
  have V3 := V2.below b1 (by omega)
  have R3 := R.below b1 (by omega)
  have HA3 := Lib.hid (HA.out.step b1)
  have bw3 := bw.trans (b1.mono (by omega))
  have hz1 := b1.size
  clear q0 q1 q2 X2 V2 R HA
  have q0 := X3.c0
  have q1 := X3.c1
  have q2 := X3.c2
  have r0 := R3.c0
  have r1 := R3.c1
  have r2 := R3.c2
  have r3 := R3.f0
  have r4 := R3.f1
  have r5 := R3.f2
  go_wp2_with fail
  go_at_call 85
  refine (spec_l11Copy HA3.out HI.out).mono ?_
  rintro e w2 ⟨x, vP, X, p0, rfl, hx, hcp, hxlo, hxp, hwp, hp0, b2⟩
  rw [HN.out] at hcp
  obtain ⟨xu, xt, xlo, xhi⟩ := x
  dsimp only at hxlo hxp ⊢
  obtain ⟨ux, lx, nx, gx, ncx, e1, e2, _⟩ := id hx
  dsimp only at e1 e2
  subst e1 e2
  have hz2 := b2.size
  have X4 := X3.below b2 (by omega)
  have V4 := V3.below b2 (by omega)
  have R4 := R3.below b2 (by omega)
  have HA4 := Lib.hid (HA3.out.step b2)
  have bw4 := bw3.trans (b2.mono bw3.size)
  have hform : ∃ va vn vc, vP = .slice va vn vc := by
    rcases ownsRow_forms hcp.own with ⟨rfl, _⟩ | ⟨g, cap, rfl⟩
    · exact ⟨_, _, _, rfl⟩
    · exact ⟨_, _, _, rfl⟩
  obtain ⟨va, vn, vc, rfl⟩ := hform
  have HX2 := Lib.hid hx
  have HC2 := Lib.hid hcp
  have hxhi := hx.hi
  clear q0 q1 q2 r0 r1 r2 r3 r4 r5 X3 V3 R3 HA3 hx hcp b1 b2
  dsimp only at hxhi
  have aO := fun o => (Below.refl w2.heap.size w2).alloc (Nat.le_refl _) o
  have v0 := fun o => (V4.below (aO o) (by omega)).c0
  have v1 := fun o => (V4.below (aO o) (by omega)).c1
  have v2 := fun o => (V4.below (aO o) (by omega)).c2
  have q0 := fun o => (X4.below (aO o) (by omega)).c0
  have q1 := fun o => (X4.below (aO o) (by omega)).c1
  have q2 := fun o => (X4.below (aO o) (by omega)).c2
  have r0 := fun o => (R4.below (aO o) (by omega)).c0
  have r1 := fun o => (R4.below (aO o) (by omega)).c1
  have r2 := fun o => (R4.below (aO o) (by omega)).c2
  have r3 := fun o => (R4.below (aO o) (by omega)).f0
  have r4 := fun o => (R4.below (aO o) (by omega)).f1
  have r5 := fun o => (R4.below (aO o) (by omega)).f2
  have HX4 := Lib.hid X4
  have HV4 := Lib.hid V4
  have HR4 := Lib.hid R4
  clear X4 V4 R4
  have O5 := ThreeAt.new w2 (.slice ux D.now.m.n lx.cap) (.slice nx D.now.k ncx) (.slice va vn vc) 29
  have X5 := HX4.out.below (aO (.cells #[.slice ux D.now.m.n lx.cap, .slice nx D.now.k ncx, .slice va vn vc] 29)) (by omega)
  have R5 := HR4.out.below (aO (.cells #[.slice ux D.now.m.n lx.cap, .slice nx D.now.k ncx, .slice va vn vc] 29)) (by omega)
  have HA5 := Lib.hid (HA4.out.step (aO (.cells #[.slice ux D.now.m.n lx.cap, .slice nx D.now.k ncx, .slice va vn vc] 29)))
  have C25 : Chg (fun j => j = w2.heap.size ∨ j = w.heap.size + 1 + 1) w2 (w2.alloc (.cells #[.slice ux D.now.m.n lx.cap, .slice nx D.now.k ncx, .slice va vn vc] 29)) := Chg.alloc _ _ _
  have s5 : w2.heap.size < (w2.alloc (.cells #[.slice ux D.now.m.n lx.cap, .slice nx D.now.k ncx, .slice va vn vc] 29)).heap.size := by simp
  have bw5 := bw4.trans ((aO (.cells #[.slice ux D.now.m.n lx.cap, .slice nx D.now.k ncx, .slice va vn vc] 29)).mono bw4.size)
  go_wp2_with fail
  generalize (w2.alloc (.cells #[.slice ux D.now.m.n lx.cap, .slice nx D.now.k ncx, .slice va vn vc] 29)) = w5 at O5 X5 R5 HA5 C25 s5 bw5 ⊢
  clear aO v0 v1 v2 q0 q1 q2 r0 r1 r2 r3 r4 r5
  go_at_call 86
  refine (HMK.out _ _ _ HA5.out _ _ _ rfl).mono ?_
  rintro e w6 ⟨_, _, rfl, b6, um, lm, nm, gm, ncm, rfl, rfl, hWm⟩
  have hz6 := b6.size
  have O6 := O5.below b6 (by omega)
  have X6 := X5.below b6 (by omega)
  have R6 := R5.below b6 (by omega)
  have HM : Hid (CW w6 ⟨.slice um cm.m.n lm.cap, .slice nm cm.k ncm, w5.heap.size, w6.heap.size⟩ cm) := ⟨um, lm, nm, gm, ncm, rfl, rfl, hWm⟩
  have M7 := TwoAt.new w6 (.slice um cm.m.n lm.cap) (.slice nm cm.k ncm) 26
  have bM := (Below.refl w6.heap.size w6).alloc (Nat.le_refl _) (.cells #[.slice um cm.m.n lm.cap, .slice nm cm.k ncm] 26)
  have s7 : w6.heap.size < (w6.alloc (.cells #[.slice um cm.m.n lm.cap, .slice nm cm.k ncm] 26)).heap.size := by simp
  have HA7 := Lib.hid ((HA5.out.step b6).step bM)
  have O7 := O6.below bM (by omega)
  have X7 := X6.below bM (by omega)
  have R7 := R6.below bM (by omega)
  have C27 : Chg (fun j => j = w2.heap.size ∨ j = w.heap.size + 1 + 1) w2 (w6.alloc (.cells #[.slice um cm.m.n lm.cap, .slice nm cm.k ncm] 26)) := (C25.trans (Chg.of_below b6 fun j h1 h2 => absurd h1 (by omega))).trans (Chg.alloc _ _ _)
  have bw7 := (bw5.trans (b6.mono bw5.size)).trans (bM.mono (by have := bw5.size; omega))
  clear hWm O5 X5 R5 HA5 O6 X6 R6 bw5 C25
  have o0 := O7.c0
  have o1 := O7.c1
  have o2 := O7.c2
  have q0 := X7.c0
  have q1 := X7.c1
  have m0 := M7.c0
  have m1 := M7.c1
  have r0 := R7.c0
  have r1 := R7.c1
  have r2 := R7.c2
  have r3 := R7.f0
  have r4 := R7.f1
  have r5 := R7.f2
  go_wp2_with fail
  have hfin := ((R7.put0 (.slice ux D.now.m.n lx.cap)).put1 (.slice nx D.now.k ncx)).put2 (.slice va vn vc)
  have t0 := hfin.c0
  have t1 := hfin.c1
  have t2 := hfin.c2
  have hc3 := Chg.set3 (w6.alloc (.cells #[.slice um cm.m.n lm.cap, .slice nm cm.k ncm] 26)) (w.heap.size + 1 + 1) (.slice ux D.now.m.n lx.cap) (.slice nx D.now.k ncx) (.slice va vn vc)
  have hcF := C27.trans (hc3.mono (T := fun j => j = w2.heap.size ∨ j = w.heap.size + 1 + 1) fun j hj => .inr hj)
  have HCF := HC2.out.chg hcF fun j hj => by rcases hj with hj | hj <;> omega
  have HF := HCF.deskN (base := w.heap.size) HN.out (HX2.out.chg hcF fun j hj => by show j < xlo ∨ xhi ≤ j; rcases hj with hj | hj <;> omega) (by show w.heap.size ≤ xlo; omega) (by omega) hxp HSM.out.len
  have HO := HCF.deskO (base := w.heap.size) HN.out (HX2.out.chg hcF fun j hj => by show j < xlo ∨ xhi ≤ j; rcases hj with hj | hj <;> omega) (by show w.heap.size ≤ xlo; omega) (by omega) hxp HSM.out.len
  refine bodyPost_ret (v := .tuple #[.agg #[.slice ux D.now.m.n lx.cap, .slice nx D.now.k ncx, .slice va vn vc], .bool false]) (by simp [results, Try.results46, go_sem, t0, t1, t2]) rfl ⟨_, rfl, HF, bw7.trans (hc3.below (B := w.heap.size) (by omega) fun j hj => by have hj' : j = w.heap.size + 1 + 1 := hj; omega), fun _ => ⟨_, _, _, rfl, HO⟩⟩
set_option maxRecDepth 100000 in
set_option maxHeartbeats 4000000 in
theorem do_none0 {w : World} {B : Nat} {v : Value} {D : Dk Lc}  (h : DeskAt w B v D) (hI : D.Is) (h0 : D.past = []) (hm : mkC D.now ⟨4, 0, 0⟩ = none) :
    Calls Try.prog 46 #[v, deedV ⟨4, 0, 0⟩] w (DkResO w D false) := by
  have HOK := Lib.hid hI.okB
  have HI := Lib.hid hI
  have HSM := Lib.hid hI.sm
  obtain ⟨cm, ecm⟩ : ∃ cm, zeroC = cm := ⟨_, rfl⟩
  have HMK : Hid (∀ (W : World) (Bk : Nat) (vd : Value), DeskAt W Bk vd D → ∀ u t pv, vd = .agg #[u, t, pv] → Calls Try.prog 86 #[.agg #[u, t], deedV ⟨4, 0, 0⟩] W (CRes W cm false)) := fun W Bk vd hd u t pv e => by
    subst e
    have h1 := spec_l11Made (a := ⟨4, 0, 0⟩) hd.nowC HI.out.1
    unfold OptRes at h1
    rw [hm] at h1
    rw [← ecm]
    exact h1
  clear hm ecm
  have HL0 : Hid (D.past.length = 0) := by show _ = _; rw [h0]; rfl
  clear h0
  clear hI
  unfold deedV
  dsimp only
  obtain ⟨ua, l, na, g, o, nc, pa, pg, po, pc, rfl, hL, hP, hn63⟩ := id h
  obtain ⟨n, hn⟩ : ∃ n, D.past.length = n := ⟨_, rfl⟩
  have HN := Lib.hid hn
  rw [hn] at h hn63 ⊢
  have hBw := hL.hB
  have X0 := ThreeAt.new w (.slice ua D.now.m.n l.cap) (.slice na D.now.k nc) (.slice pa n pc) 29
  have V0 := ThreeAt.new (w.alloc (.cells #[.slice ua D.now.m.n l.cap, .slice na D.now.k nc, .slice pa n pc] 29)) (.int .i64 4) (.int .i64 0) (.int .i64 0) 70
  have R := ThreeAt.new ((w.alloc (.cells #[.slice ua D.now.m.n l.cap, .slice na D.now.k nc, .slice pa n pc] 29)).alloc (.cells #[.int .i64 4, .int .i64 0, .int .i64 0] 70)) (.slice none 0 0) (.slice none 0 0) (.slice none 0 0) 29
  have c1 := (Below.refl w.heap.size w).alloc (Nat.le_refl _) (.cells #[.slice ua D.now.m.n l.cap, .slice na D.now.k nc, .slice pa n pc] 29)
  have c2 := (Below.refl (w.alloc (.cells #[.slice ua D.now.m.n l.cap, .slice na D.now.k nc, .slice pa n pc] 29)).heap.size (w.alloc (.cells #[.slice ua D.now.m.n l.cap, .slice na D.now.k nc, .slice pa n pc] 29))).alloc (Nat.le_refl _) (.cells #[.int .i64 4, .int .i64 0, .int .i64 0] 70)
  have c3 := (Below.refl ((w.alloc (.cells #[.slice ua D.now.m.n l.cap, .slice na D.now.k nc, .slice pa n pc] 29)).alloc (.cells #[.int .i64 4, .int .i64 0, .int .i64 0] 70)).heap.size ((w.alloc (.cells #[.slice ua D.now.m.n l.cap, .slice na D.now.k nc, .slice pa n pc] 29)).alloc (.cells #[.int .i64 4, .int .i64 0, .int .i64 0] 70))).alloc (Nat.le_refl _) (.cells #[.slice none 0 0, .slice none 0 0, .slice none 0 0] 29)
  have X2 := (X0.below c2 (by simp)).below c3 (by simp; omega)
  have V2 := V0.below c3 (by simp)
  rw [World.size_alloc] at V2
  rw [World.size_alloc, World.size_alloc] at R
  have bw : Below w.heap.size w (((w.alloc (.cells #[.slice ua D.now.m.n l.cap, .slice na D.now.k nc, .slice pa n pc] 29)).alloc (.cells #[.int .i64 4, .int .i64 0, .int .i64 0] 70)).alloc (.cells #[.slice none 0 0, .slice none 0 0, .slice none 0 0] 29)) := (c1.trans (c2.mono (by simp))).trans (c3.mono (by simp; omega))
  have hsz : w.heap.size + 3 ≤ (((w.alloc (.cells #[.slice ua D.now.m.n l.cap, .slice na D.now.k nc, .slice pa n pc] 29)).alloc (.cells #[.int .i64 4, .int .i64 0, .int .i64 0] 70)).alloc (.cells #[.slice none 0 0, .slice none 0 0, .slice none 0 0] 29)).heap.size := by simp
  have hszb : (((w.alloc (.cells #[.slice ua D.now.m.n l.cap, .slice na D.now.k nc, .slice pa n pc] 29)).alloc (.cells #[.int .i64 4, .int .i64 0, .int .i64 0] 70)).alloc (.cells #[.slice none 0 0, .slice none 0 0, .slice none 0 0] 29)).heap.size ≤ w.heap.size + 3 := by simp
  have HA := Lib.hid (h.step bw)
  clear hn
  have q0 := X2.c0
  have q1 := X2.c1
  have q2 := X2.c2
  clear h hL hP c1 c2 c3 X0 V0
  have eD := deed_eql 4 0 0 4 0 0
  go_enter Try.func46, Try.ntmps46
  go_wp2_with fail
  generalize (((w.alloc (.cells #[.slice ua D.now.m.n l.cap, .slice na D.now.k nc, .slice pa n pc] 29)).alloc (.cells #[.int .i64 4, .int .i64 0, .int .i64 0] 70)).alloc (.cells #[.slice none 0 0, .slice none 0 0, .slice none 0 0] 29)) = W at X2 V2 R bw hsz hszb HA q0 q1 q2 ⊢
  go_at_call 9
  refine (spec_DeskOk HA.out).mono ?_
  rintro e w1 ⟨rfl, b1⟩
  rw [HOK.out]
  have X3 := X2.below b1 (by omega)
  have V3 := V2.below b1 (by omega)
  have R3 := R.below b1 (by omega)
  have HA3 := Lib.hid (HA.out.step b1)
  have bw3 := bw.trans (b1.mono (by omega))
  have hz1 := b1.size
  clear q0 q1 q2 X2 V2 R HA
  have q0 := X3.c0
  have q1 := X3.c1
  have q2 := X3.c2
  have r0 := R3.c0
  have r1 := R3.c1
  have r2 := R3.c2
  have r3 := R3.f0
  have r4 := R3.f1
  have r5 := R3.f2
  go_wp2_with fail
  go_at_call 85
  refine (spec_l11Copy HA3.out HI.out).mono ?_
  rintro e w2 ⟨x, vP, X, p0, rfl, hx, hcp, hxlo, hxp, hwp, hp0, b2⟩
  rw [HN.out] at hcp
  obtain ⟨xu, xt, xlo, xhi⟩ := x
  dsimp only at hxlo hxp ⊢
  obtain ⟨ux, lx, nx, gx, ncx, e1, e2, _⟩ := id hx
  dsimp only at e1 e2
  subst e1 e2
  have hz2 := b2.size
  have X4 := X3.below b2 (by omega)
  have V4 := V3.below b2 (by omega)
  have R4 := R3.below b2 (by omega)
  have HA4 := Lib.hid (HA3.out.step b2)
  have bw4 := bw3.trans (b2.mono bw3.size)
  have hform : ∃ va vn vc, vP = .slice va vn vc := by
    rcases ownsRow_forms hcp.own with ⟨rfl, _⟩ | ⟨g, cap, rfl⟩
    · exact ⟨_, _, _, rfl⟩
    · exact ⟨_, _, _, rfl⟩
  obtain ⟨va, vn, vc, rfl⟩ := hform
  have HX2 := Lib.hid hx
  have HC2 := Lib.hid hcp
  have hxhi := hx.hi
  clear q0 q1 q2 r0 r1 r2 r3 r4 r5 X3 V3 R3 HA3 hx hcp b1 b2
  dsimp only at hxhi
  have aO := fun o => (Below.refl w2.heap.size w2).alloc (Nat.le_refl _) o
  have v0 := fun o => (V4.below (aO o) (by omega)).c0
  have v1 := fun o => (V4.below (aO o) (by omega)).c1
  have v2 := fun o => (V4.below (aO o) (by omega)).c2
  have q0 := fun o => (X4.below (aO o) (by omega)).c0
  have q1 := fun o => (X4.below (aO o) (by omega)).c1
  have q2 := fun o => (X4.below (aO o) (by omega)).c2
  have r0 := fun o => (R4.below (aO o) (by omega)).c0
  have r1 := fun o => (R4.below (aO o) (by omega)).c1
  have r2 := fun o => (R4.below (aO o) (by omega)).c2
  have r3 := fun o => (R4.below (aO o) (by omega)).f0
  have r4 := fun o => (R4.below (aO o) (by omega)).f1
  have r5 := fun o => (R4.below (aO o) (by omega)).f2
  have HX4 := Lib.hid X4
  have HV4 := Lib.hid V4
  have HR4 := Lib.hid R4
  clear X4 V4 R4
  obtain rfl : n = 0 := by have := HL0.out; have := HN.out; omega
  have O5 := ThreeAt.new w2 (.slice ux D.now.m.n lx.cap) (.slice nx D.now.k ncx) (.slice va vn vc) 29
  have X5 := HX4.out.below (aO (.cells #[.slice ux D.now.m.n lx.cap, .slice nx D.now.k ncx, .slice va vn vc] 29)) (by omega)
  have R5 := HR4.out.below (aO (.cells #[.slice ux D.now.m.n lx.cap, .slice nx D.now.k ncx, .slice va vn vc] 29)) (by omega)
  have HA5 := Lib.hid (HA4.out.step (aO (.cells #[.slice ux D.now.m.n lx.cap, .slice nx D.now.k ncx, .slice va vn vc] 29)))
  have C25 : Chg (fun j => j = w2.heap.size ∨ j = w.heap.size + 1 + 1) w2 (w2.alloc (.cells #[.slice ux D.now.m.n lx.cap, .slice nx D.now.k ncx, .slice va vn vc] 29)) := Chg.alloc _ _ _
  have s5 : w2.heap.size < (w2.alloc (.cells #[.slice ux D.now.m.n lx.cap, .slice nx D.now.k ncx, .slice va vn vc] 29)).heap.size := by simp
  have bw5 := bw4.trans ((aO (.cells #[.slice ux D.now.m.n lx.cap, .slice nx D.now.k ncx, .slice va vn vc] 29)).mono bw4.size)
  go_wp2_with fail
  generalize (w2.alloc (.cells #[.slice ux D.now.m.n lx.cap, .slice nx D.now.k ncx, .slice va vn vc] 29)) = w5 at O5 X5 R5 HA5 C25 s5 bw5 ⊢
  clear aO v0 v1 v2 q0 q1 q2 r0 r1 r2 r3 r4 r5
  go_at_call 86
  refine (HMK.out _ _ _ HA5.out _ _ _ rfl).mono ?_
  rintro e w6 ⟨_, _, rfl, b6, um, lm, nm, gm, ncm, rfl, rfl, hWm⟩
  have hz6 := b6.size
  have O6 := O5.below b6 (by omega)
  have X6 := X5.below b6 (by omega)
  have R6 := R5.below b6 (by omega)
  have HM : Hid (CW w6 ⟨.slice um cm.m.n lm.cap, .slice nm cm.k ncm, w5.heap.size, w6.heap.size⟩ cm) := ⟨um, lm, nm, gm, ncm, rfl, rfl, hWm⟩
  have M7 := TwoAt.new w6 (.slice um cm.m.n lm.cap) (.slice nm cm.k ncm) 26
  have bM := (Below.refl w6.heap.size w6).alloc (Nat.le_refl _) (.cells #[.slice um cm.m.n lm.cap, .slice nm cm.k ncm] 26)
  have s7 : w6.heap.size < (w6.alloc (.cells #[.slice um cm.m.n lm.cap, .slice nm cm.k ncm] 26)).heap.size := by simp
  have HA7 := Lib.hid ((HA5.out.step b6).step bM)
  have O7 := O6.below bM (by omega)
  have X7 := X6.below bM (by omega)
  have R7 := R6.below bM (by omega)
  have C27 : Chg (fun j => j = w2.heap.size ∨ j = w.heap.size + 1 + 1) w2 (w6.alloc (.cells #[.slice um cm.m.n lm.cap, .slice nm cm.k ncm] 26)) := (C25.trans (Chg.of_below b6 fun j h1 h2 => absurd h1 (by omega))).trans (Chg.alloc _ _ _)
  have bw7 := (bw5.trans (b6.mono bw5.size)).trans (bM.mono (by have := bw5.size; omega))
  clear hWm O5 X5 R5 HA5 O6 X6 R6 bw5 C25
  have o0 := O7.c0
  have o1 := O7.c1
  have o2 := O7.c2
  have q0 := X7.c0
  have q1 := X7.c1
  have m0 := M7.c0
  have m1 := M7.c1
  have r0 := R7.c0
  have r1 := R7.c1
  have r2 := R7.c2
  have r3 := R7.f0
  have r4 := R7.f1
  have r5 := R7.f2
  go_wp2_with fail
  have hfin := ((R7.put0 (.slice ux D.now.m.n lx.cap)).put1 (.slice nx D.now.k ncx)).put2 (.slice va vn vc)
  have t0 := hfin.c0
  have t1 := hfin.c1
  have t2 := hfin.c2
  have hc3 := Chg.set3 (w6.alloc (.cells #[.slice um cm.m.n lm.cap, .slice nm cm.k ncm] 26)) (w.heap.size + 1 + 1) (.slice ux D.now.m.n lx.cap) (.slice nx D.now.k ncx) (.slice va vn vc)
  have hcF := C27.trans (hc3.mono (T := fun j => j = w2.heap.size ∨ j = w.heap.size + 1 + 1) fun j hj => .inr hj)
  have HCF := HC2.out.chg hcF fun j hj => by rcases hj with hj | hj <;> omega
  have HF := HCF.deskN (base := w.heap.size) HN.out (HX2.out.chg hcF fun j hj => by show j < xlo ∨ xhi ≤ j; rcases hj with hj | hj <;> omega) (by show w.heap.size ≤ xlo; omega) (by omega) hxp HSM.out.len
  have HO := HCF.deskO (base := w.heap.size) HN.out (HX2.out.chg hcF fun j hj => by show j < xlo ∨ xhi ≤ j; rcases hj with hj | hj <;> omega) (by show w.heap.size ≤ xlo; omega) (by omega) hxp HSM.out.len
  refine bodyPost_ret (v := .tuple #[.agg #[.slice ux D.now.m.n lx.cap, .slice nx D.now.k ncx, .slice va vn vc], .bool false]) (by simp [results, Try.results46, go_sem, t0, t1, t2]) rfl ⟨_, rfl, HF, bw7.trans (hc3.below (B := w.heap.size) (by omega) fun j hj => by have hj' : j = w.heap.size + 1 + 1 := hj; omega), fun _ => ⟨_, _, _, rfl, HO⟩⟩
set_option maxRecDepth 100000 in
set_option maxHeartbeats 4000000 in
theorem do_same {w : World} {B : Nat} {v : Value} {D : Dk Lc} {kk xx bb : Int} (h : DeskAt w B v D) (hI : D.Is) (ht : (kk == 4 && (xx == 0 && bb == 0)) = false) {cm : Lc} (hm : mkC D.now ⟨kk, xx, bb⟩ = some cm) (hs : sameC cm D.now = true) :
    Calls Try.prog 46 #[v, deedV ⟨kk, xx, bb⟩] w (DkResO w D false) := by
  have HOK := Lib.hid hI.okB
  have HI := Lib.hid hI
  have HSM := Lib.hid hI.sm
  have HMK : Hid (∀ (W : World) (Bk : Nat) (vd : Value), DeskAt W Bk vd D → ∀ u t pv, vd = .agg #[u, t, pv] → Calls Try.prog 86 #[.agg #[u, t], deedV ⟨kk, xx, bb⟩] W (CRes W cm true)) := fun W Bk vd hd u t pv e => by
    subst e
    have h1 := spec_l11Made (a := ⟨kk, xx, bb⟩) hd.nowC HI.out.1
    unfold OptRes at h1
    rw [hm] at h1
    exact h1
  have HIM := Lib.hid (mkC_is HI.out.1 hm).1
  have HSA : Hid (∀ (W : World) (B1 B2 : Nat) (u t : Value) (vd : Value), CAt W B1 u t cm → DeskAt W B2 vd D → ∀ u' t' pv, vd = .agg #[u', t', pv] → Calls Try.prog 87 #[.agg #[u, t], .agg #[u', t']] W fun e w' => e = .returned (.bool true) ∧ Below W.heap.size W w') := fun W B1 B2 u t vd hc hd u' t' pv e => by
    subst e
    rw [← hs]
    exact spec_l11Same hc hd.nowC HIM.out HI.out.1
  clear hm hs
  clear hI
  unfold deedV
  dsimp only
  obtain ⟨ua, l, na, g, o, nc, pa, pg, po, pc, rfl, hL, hP, hn63⟩ := id h
  obtain ⟨n, hn⟩ : ∃ n, D.past.length = n := ⟨_, rfl⟩
  have HN := Lib.hid hn
  rw [hn] at h hn63 ⊢
  have hBw := hL.hB
  have X0 := ThreeAt.new w (.slice ua D.now.m.n l.cap) (.slice na D.now.k nc) (.slice pa n pc) 29
  have V0 := ThreeAt.new (w.alloc (.cells #[.slice ua D.now.m.n l.cap, .slice na D.now.k nc, .slice pa n pc] 29)) (.int .i64 kk) (.int .i64 xx) (.int .i64 bb) 70
  have R := ThreeAt.new ((w.alloc (.cells #[.slice ua D.now.m.n l.cap, .slice na D.now.k nc, .slice pa n pc] 29)).alloc (.cells #[.int .i64 kk, .int .i64 xx, .int .i64 bb] 70)) (.slice none 0 0) (.slice none 0 0) (.slice none 0 0) 29
  have c1 := (Below.refl w.heap.size w).alloc (Nat.le_refl _) (.cells #[.slice ua D.now.m.n l.cap, .slice na D.now.k nc, .slice pa n pc] 29)
  have c2 := (Below.refl (w.alloc (.cells #[.slice ua D.now.m.n l.cap, .slice na D.now.k nc, .slice pa n pc] 29)).heap.size (w.alloc (.cells #[.slice ua D.now.m.n l.cap, .slice na D.now.k nc, .slice pa n pc] 29))).alloc (Nat.le_refl _) (.cells #[.int .i64 kk, .int .i64 xx, .int .i64 bb] 70)
  have c3 := (Below.refl ((w.alloc (.cells #[.slice ua D.now.m.n l.cap, .slice na D.now.k nc, .slice pa n pc] 29)).alloc (.cells #[.int .i64 kk, .int .i64 xx, .int .i64 bb] 70)).heap.size ((w.alloc (.cells #[.slice ua D.now.m.n l.cap, .slice na D.now.k nc, .slice pa n pc] 29)).alloc (.cells #[.int .i64 kk, .int .i64 xx, .int .i64 bb] 70))).alloc (Nat.le_refl _) (.cells #[.slice none 0 0, .slice none 0 0, .slice none 0 0] 29)
  have X2 := (X0.below c2 (by simp)).below c3 (by simp; omega)
  have V2 := V0.below c3 (by simp)
  rw [World.size_alloc] at V2
  rw [World.size_alloc, World.size_alloc] at R
  have bw : Below w.heap.size w (((w.alloc (.cells #[.slice ua D.now.m.n l.cap, .slice na D.now.k nc, .slice pa n pc] 29)).alloc (.cells #[.int .i64 kk, .int .i64 xx, .int .i64 bb] 70)).alloc (.cells #[.slice none 0 0, .slice none 0 0, .slice none 0 0] 29)) := (c1.trans (c2.mono (by simp))).trans (c3.mono (by simp; omega))
  have hsz : w.heap.size + 3 ≤ (((w.alloc (.cells #[.slice ua D.now.m.n l.cap, .slice na D.now.k nc, .slice pa n pc] 29)).alloc (.cells #[.int .i64 kk, .int .i64 xx, .int .i64 bb] 70)).alloc (.cells #[.slice none 0 0, .slice none 0 0, .slice none 0 0] 29)).heap.size := by simp
  have hszb : (((w.alloc (.cells #[.slice ua D.now.m.n l.cap, .slice na D.now.k nc, .slice pa n pc] 29)).alloc (.cells #[.int .i64 kk, .int .i64 xx, .int .i64 bb] 70)).alloc (.cells #[.slice none 0 0, .slice none 0 0, .slice none 0 0] 29)).heap.size ≤ w.heap.size + 3 := by simp
  have HA := Lib.hid (h.step bw)
  clear hn
  have q0 := X2.c0
  have q1 := X2.c1
  have q2 := X2.c2
  clear h hL hP c1 c2 c3 X0 V0
  have eD := fun w => (deed_eql kk xx bb 4 0 0 w).trans (by rw [ht])
  go_enter Try.func46, Try.ntmps46
  go_wp2_with fail
  generalize (((w.alloc (.cells #[.slice ua D.now.m.n l.cap, .slice na D.now.k nc, .slice pa n pc] 29)).alloc (.cells #[.int .i64 kk, .int .i64 xx, .int .i64 bb] 70)).alloc (.cells #[.slice none 0 0, .slice none 0 0, .slice none 0 0] 29)) = W at X2 V2 R bw hsz hszb HA q0 q1 q2 ⊢
  go_at_call 9
  refine (spec_DeskOk HA.out).mono ?_
  rintro e w1 ⟨rfl, b1⟩
  rw [HOK.out]
  have X3 := X2.below b1 (by omega)
  have V3 := V2.below b1 (by omega)
  have R3 := R.below b1 (by omega)
  have HA3 := Lib.hid (HA.out.step b1)
  have bw3 := bw.trans (b1.mono (by omega))
  have hz1 := b1.size
  clear q0 q1 q2 X2 V2 R HA
  have q0 := X3.c0
  have q1 := X3.c1
  have q2 := X3.c2
  have r0 := R3.c0
  have r1 := R3.c1
  have r2 := R3.c2
  have r3 := R3.f0
  have r4 := R3.f1
  have r5 := R3.f2
  go_wp2_with fail
  go_at_call 85
  refine (spec_l11Copy HA3.out HI.out).mono ?_
  rintro e w2 ⟨x, vP, X, p0, rfl, hx, hcp, hxlo, hxp, hwp, hp0, b2⟩
  rw [HN.out] at hcp
  obtain ⟨xu, xt, xlo, xhi⟩ := x
  dsimp only at hxlo hxp ⊢
  obtain ⟨ux, lx, nx, gx, ncx, e1, e2, _⟩ := id hx
  dsimp only at e1 e2
  subst e1 e2
  have hz2 := b2.size
  have X4 := X3.below b2 (by omega)
  have V4 := V3.below b2 (by omega)
  have R4 := R3.below b2 (by omega)
  have HA4 := Lib.hid (HA3.out.step b2)
  have bw4 := bw3.trans (b2.mono bw3.size)
  have hform : ∃ va vn vc, vP = .slice va vn vc := by
    rcases ownsRow_forms hcp.own with ⟨rfl, _⟩ | ⟨g, cap, rfl⟩
    · exact ⟨_, _, _, rfl⟩
    · exact ⟨_, _, _, rfl⟩
  obtain ⟨va, vn, vc, rfl⟩ := hform
  have HX2 := Lib.hid hx
  have HC2 := Lib.hid hcp
  have hxhi := hx.hi
  clear q0 q1 q2 r0 r1 r2 r3 r4 r5 X3 V3 R3 HA3 hx hcp b1 b2
  dsimp only at hxhi
  have aO := fun o => (Below.refl w2.heap.size w2).alloc (Nat.le_refl _) o
  have v0 := fun o => (V4.below (aO o) (by omega)).c0
  have v1 := fun o => (V4.below (aO o) (by omega)).c1
  have v2 := fun o => (V4.below (aO o) (by omega)).c2
  have q0 := fun o => (X4.below (aO o) (by omega)).c0
  have q1 := fun o => (X4.below (aO o) (by omega)).c1
  have q2 := fun o => (X4.below (aO o) (by omega)).c2
  have r0 := fun o => (R4.below (aO o) (by omega)).c0
  have r1 := fun o => (R4.below (aO o) (by omega)).c1
  have r2 := fun o => (R4.below (aO o) (by omega)).c2
  have r3 := fun o => (R4.below (aO o) (by omega)).f0
  have r4 := fun o => (R4.below (aO o) (by omega)).f1
  have r5 := fun o => (R4.below (aO o) (by omega)).f2
  have HX4 := Lib.hid X4
  have HV4 := Lib.hid V4
  have HR4 := Lib.hid R4
  clear X4 V4 R4
  have O5 := ThreeAt.new w2 (.slice ux D.now.m.n lx.cap) (.slice nx D.now.k ncx) (.slice va vn vc) 29
  have X5 := HX4.out.below (aO (.cells #[.slice ux D.now.m.n lx.cap, .slice nx D.now.k ncx, .slice va vn vc] 29)) (by omega)
  have R5 := HR4.out.below (aO (.cells #[.slice ux D.now.m.n lx.cap, .slice nx D.now.k ncx, .slice va vn vc] 29)) (by omega)
  have HA5 := Lib.hid (HA4.out.step (aO (.cells #[.slice ux D.now.m.n lx.cap, .slice nx D.now.k ncx, .slice va vn vc] 29)))
  have C25 : Chg (fun j => j = w2.heap.size ∨ j = w.heap.size + 1 + 1) w2 (w2.alloc (.cells #[.slice ux D.now.m.n lx.cap, .slice nx D.now.k ncx, .slice va vn vc] 29)) := Chg.alloc _ _ _
  have s5 : w2.heap.size < (w2.alloc (.cells #[.slice ux D.now.m.n lx.cap, .slice nx D.now.k ncx, .slice va vn vc] 29)).heap.size := by simp
  have bw5 := bw4.trans ((aO (.cells #[.slice ux D.now.m.n lx.cap, .slice nx D.now.k ncx, .slice va vn vc] 29)).mono bw4.size)
  go_wp2_with fail
  generalize (w2.alloc (.cells #[.slice ux D.now.m.n lx.cap, .slice nx D.now.k ncx, .slice va vn vc] 29)) = w5 at O5 X5 R5 HA5 C25 s5 bw5 ⊢
  clear aO v0 v1 v2 q0 q1 q2 r0 r1 r2 r3 r4 r5
  go_at_call 86
  refine (HMK.out _ _ _ HA5.out _ _ _ rfl).mono ?_
  rintro e w6 ⟨_, _, rfl, b6, um, lm, nm, gm, ncm, rfl, rfl, hWm⟩
  have hz6 := b6.size
  have O6 := O5.below b6 (by omega)
  have X6 := X5.below b6 (by omega)
  have R6 := R5.below b6 (by omega)
  have HM : Hid (CW w6 ⟨.slice um cm.m.n lm.cap, .slice nm cm.k ncm, w5.heap.size, w6.heap.size⟩ cm) := ⟨um, lm, nm, gm, ncm, rfl, rfl, hWm⟩
  have M7 := TwoAt.new w6 (.slice um cm.m.n lm.cap) (.slice nm cm.k ncm) 26
  have bM := (Below.refl w6.heap.size w6).alloc (Nat.le_refl _) (.cells #[.slice um cm.m.n lm.cap, .slice nm cm.k ncm] 26)
  have s7 : w6.heap.size < (w6.alloc (.cells #[.slice um cm.m.n lm.cap, .slice nm cm.k ncm] 26)).heap.size := by simp
  have HA7 := Lib.hid ((HA5.out.step b6).step bM)
  have O7 := O6.below bM (by omega)
  have X7 := X6.below bM (by omega)
  have R7 := R6.below bM (by omega)
  have C27 : Chg (fun j => j = w2.heap.size ∨ j = w.heap.size + 1 + 1) w2 (w6.alloc (.cells #[.slice um cm.m.n lm.cap, .slice nm cm.k ncm] 26)) := (C25.trans (Chg.of_below b6 fun j h1 h2 => absurd h1 (by omega))).trans (Chg.alloc _ _ _)
  have bw7 := (bw5.trans (b6.mono bw5.size)).trans (bM.mono (by have := bw5.size; omega))
  clear hWm O5 X5 R5 HA5 O6 X6 R6 bw5 C25
  have o0 := O7.c0
  have o1 := O7.c1
  have o2 := O7.c2
  have q0 := X7.c0
  have q1 := X7.c1
  have m0 := M7.c0
  have m1 := M7.c1
  have r0 := R7.c0
  have r1 := R7.c1
  have r2 := R7.c2
  have r3 := R7.f0
  have r4 := R7.f1
  have r5 := R7.f2
  go_wp2_with fail
  generalize w6.alloc (.cells #[.slice um cm.m.n lm.cap, .slice nm cm.k ncm] 26) = w7 at M7 bM HA7 O7 X7 R7 C27 bw7 s7 o0 o1 o2 q0 q1 m0 m1 r0 r1 r2 r3 r4 r5 ⊢
  go_at_call 87
  refine (HSA.out _ _ _ _ _ _ (HM.out.chg (Chg.of_below (S := fun _ => False) bM fun j h1 h2 => absurd h1 (by omega)) fun _ hj => hj.elim).at_ HA7.out _ _ _ rfl).mono ?_
  rintro e w8 ⟨rfl, b8⟩
  have hz8 := b8.size
  have O8 := O7.below b8 (by omega)
  have R8 := R7.below b8 (by omega)
  have M8 := M7.below b8 (by omega)
  have C28 := C27.trans (Chg.of_below (S := fun j => j = w2.heap.size ∨ j = w.heap.size + 1 + 1) b8 fun j h1 h2 => absurd h1 (by omega))
  have bw8 := bw7.trans (b8.mono bw7.size)
  have HM8 := Lib.hid (HM.out.chg (Chg.of_below (S := fun _ => False) (bM.trans (b8.mono (by omega))) fun j h1 h2 => absurd h1 (by omega)) fun _ hj => hj.elim)
  clear o0 o1 o2 q0 q1 m0 m1 r0 r1 r2 r3 r4 r5 M7 O7 X7 R7 C27 bw7
  have o0 := O8.c0
  have o1 := O8.c1
  have o2 := O8.c2
  have m0 := M8.c0
  have m1 := M8.c1
  have r0 := R8.c0
  have r1 := R8.c1
  have r2 := R8.c2
  have r3 := R8.f0
  have r4 := R8.f1
  have r5 := R8.f2
  go_wp2_with fail
  have hfin := ((R8.put0 (.slice ux D.now.m.n lx.cap)).put1 (.slice nx D.now.k ncx)).put2 (.slice va vn vc)
  have t0 := hfin.c0
  have t1 := hfin.c1
  have t2 := hfin.c2
  have hc3 := Chg.set3 w8 (w.heap.size + 1 + 1) (.slice ux D.now.m.n lx.cap) (.slice nx D.now.k ncx) (.slice va vn vc)
  have hcF := C28.trans (hc3.mono (T := fun j => j = w2.heap.size ∨ j = w.heap.size + 1 + 1) fun j hj => .inr hj)
  have HCF := HC2.out.chg hcF fun j hj => by rcases hj with hj | hj <;> omega
  have HF := HCF.deskN (base := w.heap.size) HN.out (HX2.out.chg hcF fun j hj => by show j < xlo ∨ xhi ≤ j; rcases hj with hj | hj <;> omega) (by show w.heap.size ≤ xlo; omega) (by omega) hxp HSM.out.len
  have HO := HCF.deskO (base := w.heap.size) HN.out (HX2.out.chg hcF fun j hj => by show j < xlo ∨ xhi ≤ j; rcases hj with hj | hj <;> omega) (by show w.heap.size ≤ xlo; omega) (by omega) hxp HSM.out.len
  refine bodyPost_ret (v := .tuple #[.agg #[.slice ux D.now.m.n lx.cap, .slice nx D.now.k ncx, .slice va vn vc], .bool false]) (by simp [results, Try.results46, go_sem, t0, t1, t2]) rfl ⟨_, rfl, HF, bw8.trans (hc3.below (B := w.heap.size) (by omega) fun j hj => by have hj' : j = w.heap.size + 1 + 1 := hj; omega), fun _ => ⟨_, _, _, rfl, HO⟩⟩
end Go.Proofs.Ytojcgmgponnlpaa
