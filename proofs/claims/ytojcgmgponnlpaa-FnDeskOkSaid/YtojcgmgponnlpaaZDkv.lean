import Derived.Test.YtojcgmgponnlpaaZDku
namespace Go.Proofs.Ytojcgmgponnlpaa
open Go.RowKit Go.Deep Go.Joins

set_option maxRecDepth 100000 in
set_option maxHeartbeats 4000000 in
theorem do_put {w : World} {B : Nat} {v : Value} {D : Dk Lc} {kk xx bb : Int} (h : DeskAt w B v D) (hI : D.Is) (ht : (kk == 4 && (xx == 0 && bb == 0)) = false) {cm : Lc} (hm : mkC D.now ⟨kk, xx, bb⟩ = some cm) (hs : sameC cm D.now = false) :
    Calls Try.prog 46 #[v, deedV ⟨kk, xx, bb⟩] w (DkResO w (D.put cm) true) := by
  have HOK := Lib.hid hI.okB
  have HI := Lib.hid hI
  have HSM := Lib.hid hI.sm
  have HMK : Hid (∀ (W : World) (Bk : Nat) (vd : Value), DeskAt W Bk vd D → ∀ u t pv, vd = .agg #[u, t, pv] → Calls Try.prog 86 #[.agg #[u, t], deedV ⟨kk, xx, bb⟩] W (CRes W cm true)) := fun W Bk vd hd u t pv e => by
    subst e
    have h1 := spec_l11Made (a := ⟨kk, xx, bb⟩) hd.nowC HI.out.1
    unfold OptRes at h1
    rw [hm] at h1
    exact h1
  have HIM := Lib.hid (mkC_is HI.out.1 hm).1
  have HSA : Hid (∀ (W : World) (B1 B2 : Nat) (u t : Value) (vd : Value), CAt W B1 u t cm → DeskAt W B2 vd D → ∀ u' t' pv, vd = .agg #[u', t', pv] → Calls Try.prog 87 #[.agg #[u, t], .agg #[u', t']] W fun e w' => e = .returned (.bool false) ∧ Below W.heap.size W w') := fun W B1 B2 u t vd hc hd u' t' pv e => by
    subst e
    rw [← hs]
    exact spec_l11Same hc hd.nowC HIM.out HI.out.1
  clear hm hs
  obtain ⟨i0, hi, hz0, hz1, hz2⟩ := info_parts infoLogic
  have HIN := Lib.hid hi
  have HZ0 := Lib.hid hz0
  have HZ1 := Lib.hid hz1
  have HZ2 := Lib.hid hz2
  clear hi hz0 hz1 hz2
  clear hI
  unfold deedV
  dsimp only
  obtain ⟨ua, l, na, g, o, nc, pa, pg, po, pc, rfl, hL, hP, hn63⟩ := id h
  obtain ⟨n, hn⟩ : ∃ n, D.past.length = n := ⟨_, rfl⟩
  have HN := Lib.hid hn
  rw [hn] at h hn63 ⊢
  have hBw := hL.hB
  have X0 := ThreeAt.new w (.slice ua D.now.m.n l.cap) (.slice na D.now.k nc) (.slice pa n pc) 29
  have V0 := ThreeAt.new (w.alloc (.cells #[.slice ua D.now.m.n l.cap, .slice na D.now.k nc, .slice pa n pc] 29)) (.int .i64 kk) (.int .i64 xx) (.int .i64 bb) 70
  have R := ThreeAt.new ((w.alloc (.cells #[.slice ua D.now.m.n l.cap, .slice na D.now.k nc, .slice pa n pc] 29)).alloc (.cells #[.int .i64 kk, .int .i64 xx, .int .i64 bb] 70)) (.slice none 0 0) (.slice none 0 0) (.slice none 0 0) 29
  have c1 := (Below.refl w.heap.size w).alloc (Nat.le_refl _) (.cells #[.slice ua D.now.m.n l.cap, .slice na D.now.k nc, .slice pa n pc] 29)
  have c2 := (Below.refl (w.alloc (.cells #[.slice ua D.now.m.n l.cap, .slice na D.now.k nc, .slice pa n pc] 29)).heap.size (w.alloc (.cells #[.slice ua D.now.m.n l.cap, .slice na D.now.k nc, .slice pa n pc] 29))).alloc (Nat.le_refl _) (.cells #[.int .i64 kk, .int .i64 xx, .int .i64 bb] 70)
  have c3 := (Below.refl ((w.alloc (.cells #[.slice ua D.now.m.n l.cap, .slice na D.now.k nc, .slice pa n pc] 29)).alloc (.cells #[.int .i64 kk, .int .i64 xx, .int .i64 bb] 70)).heap.size ((w.alloc (.cells #[.slice ua D.now.m.n l.cap, .slice na D.now.k nc, .slice pa n pc] 29)).alloc (.cells #[.int .i64 kk, .int .i64 xx, .int .i64 bb] 70))).alloc (Nat.le_refl _) (.cells #[.slice none 0 0, .slice none 0 0, .slice none 0 0] 29)
  have X2 := (X0.below c2 (by simp)).below c3 (by simp; omega)
  have V2 := V0.below c3 (by simp)
  rw [World.size_alloc] at V2
  rw [World.size_alloc, World.size_alloc] at R
  have bw : Below w.heap.size w (((w.alloc (.cells #[.slice ua D.now.m.n l.cap, .slice na D.now.k nc, .slice pa n pc] 29)).alloc (.cells #[.int .i64 kk, .int .i64 xx, .int .i64 bb] 70)).alloc (.cells #[.slice none 0 0, .slice none 0 0, .slice none 0 0] 29)) := (c1.trans (c2.mono (by simp))).trans (c3.mono (by simp; omega))
  have hsz : w.heap.size + 3 ≤ (((w.alloc (.cells #[.slice ua D.now.m.n l.cap, .slice na D.now.k nc, .slice pa n pc] 29)).alloc (.cells #[.int .i64 kk, .int .i64 xx, .int .i64 bb] 70)).alloc (.cells #[.slice none 0 0, .slice none 0 0, .slice none 0 0] 29)).heap.size := by simp
  have hszb : (((w.alloc (.cells #[.slice ua D.now.m.n l.cap, .slice na D.now.k nc, .slice pa n pc] 29)).alloc (.cells #[.int .i64 kk, .int .i64 xx, .int .i64 bb] 70)).alloc (.cells #[.slice none 0 0, .slice none 0 0, .slice none 0 0] 29)).heap.size ≤ w.heap.size + 3 := by simp
  have HA := Lib.hid (h.step bw)
  clear hn
  have q0 := X2.c0
  have q1 := X2.c1
  have q2 := X2.c2
  clear h hL hP c1 c2 c3 X0 V0
  have eD := fun w => (deed_eql kk xx bb 4 0 0 w).trans (by rw [ht])
  go_enter Try.func46, Try.ntmps46
  go_wp2_with fail
  generalize (((w.alloc (.cells #[.slice ua D.now.m.n l.cap, .slice na D.now.k nc, .slice pa n pc] 29)).alloc (.cells #[.int .i64 kk, .int .i64 xx, .int .i64 bb] 70)).alloc (.cells #[.slice none 0 0, .slice none 0 0, .slice none 0 0] 29)) = W at X2 V2 R bw hsz hszb HA q0 q1 q2 ⊢
  go_at_call 9
  refine (spec_DeskOk HA.out).mono ?_
  rintro e w1 ⟨rfl, b1⟩
  rw [HOK.out]
  have X3 := X2.below b1 (by omega)
  have V3 := V2.below b1 (by omega)
  have R3 := R.below b1 (by omega)
  have HA3 := Lib.hid (HA.out.step b1)
  have bw3 := bw.trans (b1.mono (by omega))
  have hz1 := b1.size
  clear q0 q1 q2 X2 V2 R HA
  have q0 := X3.c0
  have q1 := X3.c1
  have q2 := X3.c2
  have r0 := R3.c0
  have r1 := R3.c1
  have r2 := R3.c2
  have r3 := R3.f0
  have r4 := R3.f1
  have r5 := R3.f2
  go_wp2_with fail
  go_at_call 85
  refine (spec_l11Copy HA3.out HI.out).mono ?_
  rintro e w2 ⟨x, vP, X, p0, rfl, hx, hcp, hxlo, hxp, hwp, hp0, b2⟩
  rw [HN.out] at hcp
  obtain ⟨xu, xt, xlo, xhi⟩ := x
  dsimp only at hxlo hxp ⊢
  obtain ⟨ux, lx, nx, gx, ncx, e1, e2, _⟩ := id hx
  dsimp only at e1 e2
  subst e1 e2
  have hz2 := b2.size
  have X4 := X3.below b2 (by omega)
  have V4 := V3.below b2 (by omega)
  have R4 := R3.below b2 (by omega)
  have HA4 := Lib.hid (HA3.out.step b2)
  have bw4 := bw3.trans (b2.mono bw3.size)
  have hform : ∃ va vn vc, vP = .slice va vn vc := by
    rcases ownsRow_forms hcp.own with ⟨rfl, _⟩ | ⟨g, cap, rfl⟩
    · exact ⟨_, _, _, rfl⟩
    · exact ⟨_, _, _, rfl⟩
  obtain ⟨va, vn, vc, rfl⟩ := hform
  have HX2 := Lib.hid hx
  have HC2 := Lib.hid hcp
  have hxhi := hx.hi
  clear q0 q1 q2 r0 r1 r2 r3 r4 r5 X3 V3 R3 HA3 hx hcp b1 b2
  dsimp only at hxhi
  have aO := fun o => (Below.refl w2.heap.size w2).alloc (Nat.le_refl _) o
  have v0 := fun o => (V4.below (aO o) (by omega)).c0
  have v1 := fun o => (V4.below (aO o) (by omega)).c1
  have v2 := fun o => (V4.below (aO o) (by omega)).c2
  have q0 := fun o => (X4.below (aO o) (by omega)).c0
  have q1 := fun o => (X4.below (aO o) (by omega)).c1
  have q2 := fun o => (X4.below (aO o) (by omega)).c2
  have r0 := fun o => (R4.below (aO o) (by omega)).c0
  have r1 := fun o => (R4.below (aO o) (by omega)).c1
  have r2 := fun o => (R4.below (aO o) (by omega)).c2
  have r3 := fun o => (R4.below (aO o) (by omega)).f0
  have r4 := fun o => (R4.below (aO o) (by omega)).f1
  have r5 := fun o => (R4.below (aO o) (by omega)).f2
  have HX4 := Lib.hid X4
  have HV4 := Lib.hid V4
  have HR4 := Lib.hid R4
  clear X4 V4 R4
  have O5 := ThreeAt.new w2 (.slice ux D.now.m.n lx.cap) (.slice nx D.now.k ncx) (.slice va vn vc) 29
  have X5 := HX4.out.below (aO (.cells #[.slice ux D.now.m.n lx.cap, .slice nx D.now.k ncx, .slice va vn vc] 29)) (by omega)
  have R5 := HR4.out.below (aO (.cells #[.slice ux D.now.m.n lx.cap, .slice nx D.now.k ncx, .slice va vn vc] 29)) (by omega)
  have HA5 := Lib.hid (HA4.out.step (aO (.cells #[.slice ux D.now.m.n lx.cap, .slice nx D.now.k ncx, .slice va vn vc] 29)))
  have C25 : Chg (fun j => j = w2.heap.size ∨ j = w.heap.size + 1 + 1) w2 (w2.alloc (.cells #[.slice ux D.now.m.n lx.cap, .slice nx D.now.k ncx, .slice va vn vc] 29)) := Chg.alloc _ _ _
  have s5 : w2.heap.size < (w2.alloc (.cells #[.slice ux D.now.m.n lx.cap, .slice nx D.now.k ncx, .slice va vn vc] 29)).heap.size := by simp
  have bw5 := bw4.trans ((aO (.cells #[.slice ux D.now.m.n lx.cap, .slice nx D.now.k ncx, .slice va vn vc] 29)).mono bw4.size)
  go_wp2_with fail
  generalize (w2.alloc (.cells #[.slice ux D.now.m.n lx.cap, .slice nx D.now.k ncx, .slice va vn vc] 29)) = w5 at O5 X5 R5 HA5 C25 s5 bw5 ⊢
  clear aO v0 v1 v2 q0 q1 q2 r0 r1 r2 r3 r4 r5
  go_at_call 86
  refine (HMK.out _ _ _ HA5.out _ _ _ rfl).mono ?_
  rintro e w6 ⟨_, _, rfl, b6, um, lm, nm, gm, ncm, rfl, rfl, hWm⟩
  have hz6 := b6.size
  have O6 := O5.below b6 (by omega)
  have X6 := X5.below b6 (by omega)
  have R6 := R5.below b6 (by omega)
  have HM : Hid (CW w6 ⟨.slice um cm.m.n lm.cap, .slice nm cm.k ncm, w5.heap.size, w6.heap.size⟩ cm) := ⟨um, lm, nm, gm, ncm, rfl, rfl, hWm⟩
  have M7 := TwoAt.new w6 (.slice um cm.m.n lm.cap) (.slice nm cm.k ncm) 26
  have bM := (Below.refl w6.heap.size w6).alloc (Nat.le_refl _) (.cells #[.slice um cm.m.n lm.cap, .slice nm cm.k ncm] 26)
  have s7 : w6.heap.size < (w6.alloc (.cells #[.slice um cm.m.n lm.cap, .slice nm cm.k ncm] 26)).heap.size := by simp
  have HA7 := Lib.hid ((HA5.out.step b6).step bM)
  have O7 := O6.below bM (by omega)
  have X7 := X6.below bM (by omega)
  have R7 := R6.below bM (by omega)
  have C27 : Chg (fun j => j = w2.heap.size ∨ j = w.heap.size + 1 + 1) w2 (w6.alloc (.cells #[.slice um cm.m.n lm.cap, .slice nm cm.k ncm] 26)) := (C25.trans (Chg.of_below b6 fun j h1 h2 => absurd h1 (by omega))).trans (Chg.alloc _ _ _)
  have bw7 := (bw5.trans (b6.mono bw5.size)).trans (bM.mono (by have := bw5.size; omega))
  clear hWm O5 X5 R5 HA5 O6 X6 R6 bw5 C25
  have o0 := O7.c0
  have o1 := O7.c1
  have o2 := O7.c2
  have q0 := X7.c0
  have q1 := X7.c1
  have m0 := M7.c0
  have m1 := M7.c1
  have r0 := R7.c0
  have r1 := R7.c1
  have r2 := R7.c2
  have r3 := R7.f0
  have r4 := R7.f1
  have r5 := R7.f2
  go_wp2_with fail
  generalize w6.alloc (.cells #[.slice um cm.m.n lm.cap, .slice nm cm.k ncm] 26) = w7 at M7 bM HA7 O7 X7 R7 C27 bw7 s7 o0 o1 o2 q0 q1 m0 m1 r0 r1 r2 r3 r4 r5 ⊢
  go_at_call 87
  refine (HSA.out _ _ _ _ _ _ (HM.out.chg (Chg.of_below (S := fun _ => False) bM fun j h1 h2 => absurd h1 (by omega)) fun _ hj => hj.elim).at_ HA7.out _ _ _ rfl).mono ?_
  rintro e w8 ⟨rfl, b8⟩
  have hz8 := b8.size
  have O8 := O7.below b8 (by omega)
  have R8 := R7.below b8 (by omega)
  have M8 := M7.below b8 (by omega)
  have C28 := C27.trans (Chg.of_below (S := fun j => j = w2.heap.size ∨ j = w.heap.size + 1 + 1) b8 fun j h1 h2 => absurd h1 (by omega))
  have bw8 := bw7.trans (b8.mono bw7.size)
  have HM8 := Lib.hid (HM.out.chg (Chg.of_below (S := fun _ => False) (bM.trans (b8.mono (by omega))) fun j h1 h2 => absurd h1 (by omega)) fun _ hj => hj.elim)
  clear o0 o1 o2 q0 q1 m0 m1 r0 r1 r2 r3 r4 r5 M7 O7 X7 R7 C27 bw7
  have o0 := O8.c0
  have o1 := O8.c1
  have o2 := O8.c2
  have m0 := M8.c0
  have m1 := M8.c1
  have r0 := R8.c0
  have r1 := R8.c1
  have r2 := R8.c2
  have r3 := R8.f0
  have r4 := R8.f1
  have r5 := R8.f2
  have HX8 := HX2.out.chg C28 fun j hj => by show j < xlo ∨ xhi ≤ j; rcases hj with hj | hj <;> omega
  have HC8 := HC2.out.chg C28 fun j hj => by rcases hj with hj | hj <;> omega
  have hvb := ownsRow_block HC8.own
  have hvl := own_lt HC2.out.own
  have hn8 : n ≤ 8 := by have := HI.out.2.2; have := HN.out; omega
  have TOP8 := Lib.hid (World.ownsRow.alloc HC8.own (.cells #[.slice ux D.now.m.n lx.cap, .slice nx D.now.k ncx] 26))
  have aS := (Below.refl w8.heap.size w8).alloc (Nat.le_refl _) (.cells #[.slice ux D.now.m.n lx.cap, .slice nx D.now.k ncx] 26)
  have hO2 : w2.heap.size < w8.heap.size := by omega
  go_wp2_with (at_builtin; refine wpList_append_own_at _ rfl _ _ 27 rfl (p0 + 1) 26 i0 (.agg #[.slice none 0 0, .slice none 0 0]) 2 48 Try.underlying27 HIN.out HZ0.out HZ1.out HZ2.out rfl (by decide) (.slice va vn vc) n _ rfl TOP8.out ⟨w8.heap.size, 0, none⟩ 1 1 [.slice ux D.now.m.n lx.cap, .slice nx D.now.k ncx] rfl rfl (cells_newC w8 26 [.slice ux D.now.m.n lx.cap, .slice nx D.now.k ncx]) (fun u hu => by rcases List.mem_cons.1 hu with rfl | hu; rfl; rw [List.mem_singleton] at hu; rw [hu]; rfl) ?c3 ?c4 ?c5 ?_)
  case c3 => unfold maxLen; omega
  case c4 => omega
  case c5 => first | omega | (simp; omega)
  intro v' w10 hown10 hgrow10 _ hat10
  have hvf : Chg (fun j => Value.ownBlock (.slice va vn vc) = some j) w8 w10 := (Chg.alloc _ _ _).trans (Chg.of_grown hgrow10 fun j hj => hj)
  have hnot : ∀ j, Value.ownBlock (.slice va vn vc) = some j → p0 + 1 ≤ j ∧ j < w2.heap.size := fun j hj => ⟨hvb j hj, hvl j hj⟩
  have hz10 := hvf.size
  have O10 := hvf.three O8 (fun e => by have := hnot _ e; omega)
  have R10 := hvf.three R8 (fun e => by have := hnot _ e; omega)
  have M10 := hvf.two M8 (fun e => by have := hnot _ e; omega)
  have HX10 := Lib.hid (HX8.chg hvf fun j hj => .inr (by have := hnot j hj; show xhi ≤ j; omega))
  have HE10 : Hid (∀ (j : Nat) (y : Iv) (c : Lc), X[j]? = some y → D.past[j]? = some c → CW w10 y c) := fun j y c hy hc => (HC8.el j y c hy hc).chg hvf fun q hq => HC8.top q hq y (List.mem_of_getElem? hy)
  have HM10 := Lib.hid (HM8.out.chg hvf fun j hj => .inl (by have := hnot j hj; show j < w5.heap.size; omega))
  have HLO : Hid (∀ y ∈ X, p0 < y.lo ∧ y.hi ≤ w2.heap.size) := fun y hy => HC2.out.lo y hy
  have HTOP : Hid (∀ g, v'.ownBlock = some g → (∀ y ∈ X, g < y.lo ∨ y.hi ≤ g) ∧ (g < w5.heap.size ∨ w6.heap.size ≤ g)) := fun g hg => by
    rcases hat10 with e | e
    · rw [e] at hg
      exact ⟨HC8.top g hg, .inl (by have := hnot g hg; omega)⟩
    · have e2 : w8.heap.size + 1 = g := by
        rw [e] at hg
        first | exact Option.some.inj hg | (rw [World.size_alloc] at hg; exact Option.some.inj hg)
      exact ⟨fun y hy => .inr (by have := (HLO.out y hy).2; omega), .inr (by omega)⟩
  have HNE : Hid (∀ g, v'.ownBlock = some g → g ≠ w2.heap.size ∧ p0 + 1 ≤ g) := fun g hg => by
    rcases hat10 with e | e
    · rw [e] at hg
      have := hnot g hg
      exact ⟨by omega, this.1⟩
    · have e2 : w8.heap.size + 1 = g := by
        rw [e] at hg
        first | exact Option.some.inj hg | (rw [World.size_alloc] at hg; exact Option.some.inj hg)
      exact ⟨by omega, by omega⟩
  have HAP := Lib.hid HC2.out.apart
  have HLE := Lib.hid HC2.out.len
  obtain ⟨g10, c10, rfl⟩ := ownsRow_form hown10 (Nat.succ_pos n)
  have hcap : n + 1 ≤ c10 := by
    rcases hown10.2 with ⟨h0, _⟩ | ⟨g, cap, cur, hv, _, _, hc, _⟩
    · cases h0
    · simp only [Value.slice.injEq] at hv
      omega
  have HOWN := Lib.hid hown10
  have bw10 := bw8.trans (hvf.below (B := w.heap.size) (by omega) fun j hj => by have := hnot j hj; omega)
  have C2x : Chg (fun j => j = w2.heap.size ∨ j = w.heap.size + 1 + 1) w10 w10 := Chg.refl _ _
  clear hgrow10 hat10 hown10 hvf HX8 HC8 hvb hvl TOP8 aS o0 o1 o2 m0 m1 r0 r1 r2 r3 r4 r5 O8 R8 M8
  have o0 := O10.c0
  have o1 := O10.c1
  have o2 := O10.c2
  have o3 := O10.f0
  have o4 := O10.f1
  have o5 := O10.f2
  have m0 := M10.c0
  have m1 := M10.c1
  have r0 := R10.c0
  have r1 := R10.c1
  have r2 := R10.c2
  have r3 := R10.f0
  have r4 := R10.f1
  have r5 := R10.f2
  have H8o : Hid (n = 8) ∨ ¬ n = 8 := Nat.decEq n 8 |>.casesOn (fun h => .inr h) (fun h => .inl (Lib.hid h))
  rcases H8o with H8 | h8
  · have h8' : ((n : Int) + 1 > 8) := by have := H8.out; omega
    have h8b : (8 : Int) < (n : Int) + 1 := by have := H8.out; omega
    have hc1 : ¬ c10 = 1 := by have := H8.out; omega
    have HRES : Hid (D.put cm = ⟨cm, (D.past ++ [D.now]).drop 1⟩) := by show _ = _; unfold Dk.put; rw [if_pos (by have := HN.out; have := H8.out; omega)]
    go_wp2_with fail
    have R11 := ((((R10.otherC (q := w2.heap.size) (i := 2) (y := .slice (some ⟨g10, 0, none⟩) (n + 1) c10) (by omega)).otherC (q := w2.heap.size) (i := 2) (y := (.slice (some ⟨g10, 2, none⟩) n (c10 - 1))) (by omega)).otherC (q := w2.heap.size) (i := 0) (y := .slice um cm.m.n lm.cap) (by omega)).otherC (q := w2.heap.size) (i := 1) (y := .slice nm cm.k ncm) (by omega))
    have hfin := ((R11.put0 (.slice um cm.m.n lm.cap)).put1 (.slice nm cm.k ncm)).put2 (.slice (some ⟨g10, 2, none⟩) n (c10 - 1))
    have t0 := hfin.c0
    have t1 := hfin.c1
    have t2 := hfin.c2
    have C11 : Chg (fun j => j = w2.heap.size ∨ j = w.heap.size + 1 + 1) w10 ((((w10.setCell ⟨w2.heap.size, 2, none⟩ (.slice (some ⟨g10, 0, none⟩) (n + 1) c10)).setCell ⟨w2.heap.size, 2, none⟩ (.slice (some ⟨g10, 2, none⟩) n (c10 - 1))).setCell ⟨w2.heap.size, 0, none⟩ (.slice um cm.m.n lm.cap)).setCell ⟨w2.heap.size, 1, none⟩ (.slice nm cm.k ncm)) := ((((Chg.set (S := fun j => j = w2.heap.size ∨ j = w.heap.size + 1 + 1) (b := w2.heap.size) (i := 2) (.inl rfl) (.slice (some ⟨g10, 0, none⟩) (n + 1) c10)).trans (Chg.set (S := fun j => j = w2.heap.size ∨ j = w.heap.size + 1 + 1) (b := w2.heap.size) (i := 2) (.inl rfl) (.slice (some ⟨g10, 2, none⟩) n (c10 - 1)))).trans (Chg.set (S := fun j => j = w2.heap.size ∨ j = w.heap.size + 1 + 1) (b := w2.heap.size) (i := 0) (.inl rfl) (.slice um cm.m.n lm.cap))).trans (Chg.set (S := fun j => j = w2.heap.size ∨ j = w.heap.size + 1 + 1) (b := w2.heap.size) (i := 1) (.inl rfl) (.slice nm cm.k ncm)))
    have hc3 := Chg.set3 ((((w10.setCell ⟨w2.heap.size, 2, none⟩ (.slice (some ⟨g10, 0, none⟩) (n + 1) c10)).setCell ⟨w2.heap.size, 2, none⟩ (.slice (some ⟨g10, 2, none⟩) n (c10 - 1))).setCell ⟨w2.heap.size, 0, none⟩ (.slice um cm.m.n lm.cap)).setCell ⟨w2.heap.size, 1, none⟩ (.slice nm cm.k ncm)) (w.heap.size + 1 + 1) (.slice um cm.m.n lm.cap) (.slice nm cm.k ncm) (.slice (some ⟨g10, 2, none⟩) n (c10 - 1))
    have hcF := C11.trans (hc3.mono (T := fun j => j = w2.heap.size ∨ j = w.heap.size + 1 + 1) fun j hj => .inr hj)
    have HOF := hcF.own HOWN.out fun g hg e => by have h3 := HNE.out g hg; rcases e with e | e <;> omega
    obtain ⟨g, cap, e, h1, h2⟩ := put_desk (base := w.heap.size) HOF HLE.out HN.out (fun j y c hy hc => (HE10.out j y c hy hc).chg hcF fun q hq => by have h4 := HLO.out y (List.mem_of_getElem? hy); rcases hq with hq | hq <;> omega)
      (HX10.out.chg hcF fun q hq => by show q < xlo ∨ xhi ≤ q; rcases hq with hq | hq <;> omega) (HM10.out.chg hcF fun q hq => by show q < w5.heap.size ∨ w6.heap.size ≤ q; rcases hq with hq | hq <;> omega) HAP.out (fun y hy => by have h4 := HLO.out y hy; exact ⟨h4.1, by show y.hi ≤ w5.heap.size; omega⟩) hxp (by show p0 ≤ w5.heap.size; omega) HTOP.out (by show w.heap.size ≤ xlo; omega) (by omega) (by omega)
    simp only [Value.slice.injEq, Option.some.injEq, Addr.mk.injEq, and_true, true_and] at e
    obtain ⟨rfl, rfl⟩ := e
    have HF := h2 (c10 - 1)
    rw [← HRES.out] at HF
    refine bodyPost_ret (v := .tuple #[.agg #[.slice um cm.m.n lm.cap, .slice nm cm.k ncm, (.slice (some ⟨g10, 2, none⟩) n (c10 - 1))], .bool true]) (by simp [results, Try.results46, go_sem, t0, t1, t2]) rfl ⟨_, rfl, HF, bw10.trans (hcF.below (B := w.heap.size) (by omega) fun j hj => by rcases hj with hj | hj <;> omega), fun hlt => absurd (show ((D.past ++ [D.now]).drop 1).length < 8 by rw [HRES.out] at hlt; exact hlt) (by rw [List.length_drop, List.length_append]; have := HN.out; have := H8.out; simp; omega)⟩
  · have h8' : ¬ ((n : Int) + 1 > 8) := by omega
    have h8b : ¬ (8 : Int) < (n : Int) + 1 := by omega
    have HRES : Hid (D.put cm = ⟨cm, D.past ++ [D.now]⟩) := by show _ = _; unfold Dk.put; rw [if_neg (by have := HN.out; omega)]
    go_wp2_with fail
    have R11 := (((R10.otherC (q := w2.heap.size) (i := 2) (y := .slice (some ⟨g10, 0, none⟩) (n + 1) c10) (by omega)).otherC (q := w2.heap.size) (i := 0) (y := .slice um cm.m.n lm.cap) (by omega)).otherC (q := w2.heap.size) (i := 1) (y := .slice nm cm.k ncm) (by omega))
    have hfin := ((R11.put0 (.slice um cm.m.n lm.cap)).put1 (.slice nm cm.k ncm)).put2 (.slice (some ⟨g10, 0, none⟩) (n + 1) c10)
    have t0 := hfin.c0
    have t1 := hfin.c1
    have t2 := hfin.c2
    have C11 : Chg (fun j => j = w2.heap.size ∨ j = w.heap.size + 1 + 1) w10 (((w10.setCell ⟨w2.heap.size, 2, none⟩ (.slice (some ⟨g10, 0, none⟩) (n + 1) c10)).setCell ⟨w2.heap.size, 0, none⟩ (.slice um cm.m.n lm.cap)).setCell ⟨w2.heap.size, 1, none⟩ (.slice nm cm.k ncm)) := (((Chg.set (S := fun j => j = w2.heap.size ∨ j = w.heap.size + 1 + 1) (b := w2.heap.size) (i := 2) (.inl rfl) (.slice (some ⟨g10, 0, none⟩) (n + 1) c10)).trans (Chg.set (S := fun j => j = w2.heap.size ∨ j = w.heap.size + 1 + 1) (b := w2.heap.size) (i := 0) (.inl rfl) (.slice um cm.m.n lm.cap))).trans (Chg.set (S := fun j => j = w2.heap.size ∨ j = w.heap.size + 1 + 1) (b := w2.heap.size) (i := 1) (.inl rfl) (.slice nm cm.k ncm)))
    have hc3 := Chg.set3 (((w10.setCell ⟨w2.heap.size, 2, none⟩ (.slice (some ⟨g10, 0, none⟩) (n + 1) c10)).setCell ⟨w2.heap.size, 0, none⟩ (.slice um cm.m.n lm.cap)).setCell ⟨w2.heap.size, 1, none⟩ (.slice nm cm.k ncm)) (w.heap.size + 1 + 1) (.slice um cm.m.n lm.cap) (.slice nm cm.k ncm) (.slice (some ⟨g10, 0, none⟩) (n + 1) c10)
    have hcF := C11.trans (hc3.mono (T := fun j => j = w2.heap.size ∨ j = w.heap.size + 1 + 1) fun j hj => .inr hj)
    have HOF := hcF.own HOWN.out fun g hg e => by have h3 := HNE.out g hg; rcases e with e | e <;> omega
    have HO := put_deskO (base := w.heap.size) HOF HLE.out HN.out (fun j y c hy hc => (HE10.out j y c hy hc).chg hcF fun q hq => by have h4 := HLO.out y (List.mem_of_getElem? hy); rcases hq with hq | hq <;> omega)
      (HX10.out.chg hcF fun q hq => by show q < xlo ∨ xhi ≤ q; rcases hq with hq | hq <;> omega) (HM10.out.chg hcF fun q hq => by show q < w5.heap.size ∨ w6.heap.size ≤ q; rcases hq with hq | hq <;> omega) (fun y hy => by have h4 := HLO.out y hy; exact ⟨h4.1, by show y.hi ≤ w5.heap.size; omega⟩) hxp (by show p0 ≤ w5.heap.size; omega) HTOP.out (by show w.heap.size ≤ xlo; omega) (by omega) (by omega)
    obtain ⟨g, cap, e, h1, h2⟩ := put_desk (base := w.heap.size) HOF HLE.out HN.out (fun j y c hy hc => (HE10.out j y c hy hc).chg hcF fun q hq => by have h4 := HLO.out y (List.mem_of_getElem? hy); rcases hq with hq | hq <;> omega)
      (HX10.out.chg hcF fun q hq => by show q < xlo ∨ xhi ≤ q; rcases hq with hq | hq <;> omega) (HM10.out.chg hcF fun q hq => by show q < w5.heap.size ∨ w6.heap.size ≤ q; rcases hq with hq | hq <;> omega) HAP.out (fun y hy => by have h4 := HLO.out y hy; exact ⟨h4.1, by show y.hi ≤ w5.heap.size; omega⟩) hxp (by show p0 ≤ w5.heap.size; omega) HTOP.out (by show w.heap.size ≤ xlo; omega) (by omega) (by omega)
    simp only [Value.slice.injEq, Option.some.injEq, Addr.mk.injEq, and_true, true_and] at e
    obtain ⟨rfl, rfl⟩ := e
    have HF := h1
    rw [← HRES.out] at HF HO
    refine bodyPost_ret (v := .tuple #[.agg #[.slice um cm.m.n lm.cap, .slice nm cm.k ncm, (.slice (some ⟨g10, 0, none⟩) (n + 1) c10)], .bool true]) (by simp [results, Try.results46, go_sem, t0, t1, t2]) rfl ⟨_, rfl, HF, bw10.trans (hcF.below (B := w.heap.size) (by omega) fun j hj => by rcases hj with hj | hj <;> omega), fun hlt => ⟨_, _, _, rfl, HO⟩⟩
end Go.Proofs.Ytojcgmgponnlpaa
