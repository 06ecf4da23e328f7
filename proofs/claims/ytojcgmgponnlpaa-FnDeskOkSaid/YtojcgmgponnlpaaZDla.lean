import Derived.Test.YtojcgmgponnlpaaZDkz
namespace Go.Proofs.Ytojcgmgponnlpaa
open Go.RowKit Go.Deep Go.Joins

set_option maxRecDepth 100000 in
set_option maxHeartbeats 4000000 in
theorem l20Desk_any {rb n c p : Nat} {A : Option Addr} {q0 : Int} {B b o : Nat} {z0 : Nat → Nat} {w : World} (hq0 : 0 ≤ q0) (hq1 : q0 ≤ 1000000) (hp : p ≤ 900) (hn : n ≤ 2000) (h : Rd w rb A n c p) (hz : BytesAt w B A b o n z0) (hB : B ≤ rb) (hrb : rb < w.heap.size) :
    Calls Try.prog 23 #[.pointer (some ⟨rb, 0, none⟩), .int .i64 q0] w (DrawnDk rb A n c p w) := by
  obtain ⟨i0, hi, hz0, hz1, hz2⟩ := info_parts infoLogic
  have HIN := Lib.hid hi
  have HZ0 := Lib.hid hz0
  have HZ1 := Lib.hid hz1
  have HZ2 := Lib.hid hz2
  clear hi hz0 hz1 hz2
  have T0 := ThreeAt.new w (.slice none 0 0) (.slice none 0 0) (.slice none 0 0) 29
  have c0 := Chg.alloc (fun j => j = rb) w (.cells #[.slice none 0 0, .slice none 0 0, .slice none 0 0] 29)
  have R0 := (Chg.alloc (fun _ => False) w (.cells #[.slice none 0 0, .slice none 0 0, .slice none 0 0] 29)).rd h hrb (fun e => e)
  have s0 : (w.alloc (.cells #[.slice none 0 0, .slice none 0 0, .slice none 0 0] 29)).heap.size = w.heap.size + 1 := by simp
  have HZ := Lib.hid hz
  have HBY : ∀ {wx : World}, Chg (fun j => j = rb) w wx → BytesAt wx B A b o n z0 := fun hG => HZ.out.below ((hG.below (B := rb) (by omega) (fun j hj => by have hj' : j = rb := hj; omega)).mono hB)
  clear hz h
  go_enter Try.func23, Try.ntmps23
  go_wp2_with fail
  generalize w.alloc (.cells #[.slice none 0 0, .slice none 0 0, .slice none 0 0] 29) = w0 at T0 c0 R0 s0 ⊢
  go_at_call 45
  refine (l20Logic_zero (by omega) hn R0 (HBY c0) hB (by omega)).mono ?_
  rintro e w1 ⟨u, t, cc, p1, rfl, hW, hk1, hk12, hR1, hp1, hC⟩
  have hs1 := hC.size
  have T1 := hC.three T0 (by show ¬ (_ = rb); omega)
  have c1 := c0.trans hC
  have O1 := oneO hW (base := w.heap.size + 1) (by omega)
  obtain ⟨ua, l, na, g, nc, e1, e2, _⟩ := id hW
  dsimp only at e1 e2
  subst e1 e2
  have T5 := ThreeAt.new w1 (.slice ua cc.m.n l.cap) (.slice na cc.k nc) (.slice none 0 0) 29
  have c5 := Chg.alloc (fun j => j = rb) w1 (.cells #[.slice ua cc.m.n l.cap, .slice na cc.k nc, .slice none 0 0] 29)
  have s5 : (w1.alloc (.cells #[.slice ua cc.m.n l.cap, .slice na cc.k nc, .slice none 0 0] 29)).heap.size = w1.heap.size + 1 := by simp
  have HL5 : DkL w rb A n c p1 w1.heap.size ⟨cc, []⟩ (w1.alloc (.cells #[.slice ua cc.m.n l.cap, .slice na cc.k nc, .slice none 0 0] 29)) :=
    ⟨⟨_, _, _, _, _, T5, O1.chg (Chg.alloc (fun _ => False) w1 (.cells #[.slice ua cc.m.n l.cap, .slice na cc.k nc, .slice none 0 0] 29)) fun _ hj => hj.elim, Nat.le_refl _, by omega, by omega, .inr (Nat.le_refl _)⟩, (Chg.alloc (fun _ => False) w1 (.cells #[.slice ua cc.m.n l.cap, .slice na cc.k nc, .slice none 0 0] 29)).three T1 (fun e => e), (Chg.alloc (fun _ => False) w1 (.cells #[.slice ua cc.m.n l.cap, .slice na cc.k nc, .slice none 0 0] 29)).rd hR1 (by omega) (fun e => e), c1.trans c5, hk1, hk12, hrb⟩
  clear T0 c0 R0 T1 c1 O1 hW hR1 hC T5 c5 hk1 hk12
  go_wp2_with fail
  obtain ⟨bd, hbd⟩ : ∃ q, q = w1.heap.size := ⟨_, rfl⟩
  rw [← hbd] at HL5 ⊢
  generalize w1.alloc (.cells #[.slice ua cc.m.n l.cap, .slice na cc.k nc, .slice none 0 0] 29) = w5 at HL5 s5 ⊢
  have hbd0 : w.heap.size + 1 ≤ bd := by omega
  clear hbd hs1 s5
  go_at_call 30
  refine (pick_any (q := 4) (by omega) (by omega) (by omega) hn HL5.rd (HBY HL5.old) hB).mono ?_
  rintro e w6 ⟨v, rfl, v0, v1, R6, O6⟩
  have hL6 := HL5.chg (Chg.of_only O6) R6
  clear HL5 R6 O6
  obtain ⟨j0, rfl⟩ : ∃ j : Nat, v = (j : Int) := ⟨v.toNat, by omega⟩
  go_wp2_with fail
  go_loopw [6] (fun kv wr => ∃ (D : Dk Lc) (j p' : Nat), kv = .int .i64 (j : Int) ∧ DkL w rb A n c p' bd D wr ∧ D.past.length + j ≤ 3 ∧ p' + 6 * j ≤ p + 40) (fun kv _ => (intOf kv).toNat)
  case atStart => exact ⟨⟨cc, []⟩, j0, p1 + 1, rfl, hL6, by show 0 + j0 ≤ 3; omega, by omega⟩
  case round =>
    obtain ⟨D, j, p', rfl, hL, hlen, hpj⟩ := hrel
    obtain ⟨⟨xu, xt, xlo, xhi⟩, pv, X, Bx, bx, hT, hO, b1, b2, b3, b4⟩ := id hL.box
    obtain ⟨ua, l, na, nc, va, vc, e1, e2, e3⟩ := slices_of hO
    dsimp only at e1 e2 hT
    subst e1 e2 e3
    have HL := Lib.hid hL
    have HO := Lib.hid hO
    have hkk := hL.k12
    have hrbr := hL.rbW
    have hbb := hO.hB
    have hkeep : Hid (∀ w', Chg (fun j => j = rb) wr w' → ThreeAt w' bd (.slice ua D.now.m.n l.cap) (.slice na D.now.k nc) (.slice va D.past.length vc) ∧ DeskAt w' w'.heap.size (.agg #[.slice ua D.now.m.n l.cap, .slice na D.now.k nc, .slice va D.past.length vc]) D) := fun w' hc => ⟨hc.three hT (by show ¬ (_ = rb); omega), by
      have h2 := HO.out.chg hc fun j hj => .inl (by have hj' : j = rb := hj; omega)
      exact h2.at_.up h2.hB (Nat.le_refl _)⟩
    have hk3 : Hid (∀ w', Chg (fun j => j = rb) wr w' → w'.cell? ⟨bd, 0, none⟩ = some (.slice ua D.now.m.n l.cap) ∧ w'.cell? ⟨bd, 1, none⟩ = some (.slice na D.now.k nc) ∧ w'.cell? ⟨bd, 2, none⟩ = some (.slice va D.past.length vc)) := fun w' hc => ⟨(hkeep.out _ hc).1.c0, (hkeep.out _ hc).1.c1, (hkeep.out _ hc).1.c2⟩
    by_cases hj : j = 0
    · subst hj
      clear hL hO hT
      go_wp2_with fail
      go_at_call 48
      refine (odd_from_zero hq0 hq1 (by omega) hn HL.out.rd (HBY HL.out.old) hB).mono ?_
      rintro e wo ⟨⟨x, rfl⟩, p9, hp9, hR1, hO1⟩
      have hL1 := HL.out.chg (Chg.of_only hO1) hR1
      have hT1 := (hkeep.out _ (Chg.of_only hO1)).1
      have hD1 := HO.out.chg (Chg.of_only hO1) (fun j hj => .inl (by have hj' : j = rb := hj; omega))
      have CO := Chg.of_only hO1
      clear hR1 hO1
      have hne : bd ≠ w.heap.size := by omega
      cases x with
      | false =>
        have hall := Lib.hid (dk_end (w := w) (p := p) hD1 (by omega) hrb hL1.rd hL1.old hL1.k12 (by omega))
        dsimp only at hall
        have hfin := ((hL1.res.put0 (.slice ua D.now.m.n l.cap)).put1 (.slice na D.now.k nc)).put2 (.slice va D.past.length vc)
        have t0 := hfin.c0
        have t1 := hfin.c1
        have t2 := hfin.c2
        have e0 := hL1.res.c0
        have e1 := hL1.res.c1
        have e2 := hL1.res.c2
        have e3 := hL1.res.f0
        have e4 := hL1.res.f1
        have e5 := hL1.res.f2
        have g0 := hT1.c0
        have g1 := hT1.c1
        have g2 := hT1.c2
        clear hL1 hT1 hD1 hfin CO
        go_wp2_with fail
        exact bodyPost_ret (v := .agg #[.slice ua D.now.m.n l.cap, .slice na D.now.k nc, .slice va D.past.length vc]) (by simp [results, Try.results23, go_sem, t0, t1, t2]) rfl hall.out
      | true =>
        go_wp2_with fail
        go_at_call 30
        refine (pick_any (q := 3) (by omega) (by omega) (by omega) hn hL1.rd (HBY hL1.old) hB).mono ?_
        rintro e ws ⟨v, rfl, v0, v1, hR2, hO2⟩
        have hL2 := hL1.chg (Chg.of_only hO2) hR2
        have C2 := CO.trans (Chg.of_only hO2)
        obtain ⟨hT2, hA2⟩ := hkeep.out _ C2
        have hD2 := HO.out.chg C2 (fun j hj => .inl (by have hj' : j = rb := hj; omega))
        have hk1 := hL2.k1
        have hv : v = 0 ∨ v = 1 ∨ v = 2 := by omega
        have e0 := hL2.res.c0
        have e1 := hL2.res.c1
        have e2 := hL2.res.c2
        have e3 := hL2.res.f0
        have e4 := hL2.res.f1
        have e5 := hL2.res.f2
        have g0 := hT2.c0
        have g1 := hT2.c1
        have g2 := hT2.c2
        have g3 := hT2.f0
        have g4 := hT2.f1
        have g5 := hT2.f2
        have HL2 := Lib.hid hL2
        have HD2 := Lib.hid hD2
        have HT2 := Lib.hid hT2
        have hs2 := hD2.hB
        clear hL1 hT1 hD1 CO hR2 hO2 v0 v1 hL2 hT2 hD2
        rcases hv with rfl | rfl | rfl
        · obtain ⟨ga, oa, rfl⟩ := hA2.na_some hk1
          have l1 : (1 : Int) ≤ (D.now.k : Int) := by omega
          clear hA2
          by_cases hc1 : nc = 1
          · subst hc1
            have hcF : Chg (fun j => j = bd ∨ j = w.heap.size) ws ((((ws.setCell ⟨bd, 1, none⟩ (.slice (some ⟨ga, oa, none⟩) (D.now.k - 1) 0)).setCell ⟨w.heap.size, 0, none⟩ (.slice ua D.now.m.n l.cap)).setCell ⟨w.heap.size, 1, none⟩ (.slice (some ⟨ga, oa, none⟩) (D.now.k - 1) 0)).setCell ⟨w.heap.size, 2, none⟩ (.slice va D.past.length vc)) :=
              (((Chg.set (S := fun j => j = bd ∨ j = w.heap.size) (.inl rfl) _).trans (Chg.set (.inr rfl) _)).trans (Chg.set (.inr rfl) _)).trans (Chg.set (.inr rfl) _)
            have hall : Hid (DrawnDk rb A n c p w (.returned (.agg #[.slice ua D.now.m.n l.cap, .slice (some ⟨ga, oa, none⟩) (D.now.k - 1) 0, .slice va D.past.length vc])) _) := dk_close HL2.out hcF (fun j hj => by rcases hj with hj | hj <;> omega) (fun w'' hw => by
              have h2 := (HD2.out.chg hcF fun j hj => by rcases hj with hj | hj <;> omega).chg hw fun j hj => .inl (by have hj' : j < w.heap.size := hj; omega)
              exact (h2.at_.up h2.hB (Nat.le_refl _)).cut0 0) (by show D.now.k - 1 ≤ 12; omega) (by omega)
            have hfin := (((HL2.out.res.otherC (q := bd) (i := 1) (y := .slice (some ⟨ga, oa, none⟩) (D.now.k - 1) 0) (by omega)).put0 (.slice ua D.now.m.n l.cap)).put1 (.slice (some ⟨ga, oa, none⟩) (D.now.k - 1) 0)).put2 (.slice va D.past.length vc)
            have t0 := hfin.c0
            have t1 := hfin.c1
            have t2 := hfin.c2
            clear hfin hcF
            go_wp2_with fail
            exact bodyPost_ret (v := .agg #[.slice ua D.now.m.n l.cap, .slice (some ⟨ga, oa, none⟩) (D.now.k - 1) 0, .slice va D.past.length vc]) (by simp [results, Try.results23, go_sem, t0, t1, t2]) rfl hall.out
          · have hcF : Chg (fun j => j = bd ∨ j = w.heap.size) ws ((((ws.setCell ⟨bd, 1, none⟩ (.slice (some ⟨ga, oa + 1, none⟩) (D.now.k - 1) (nc - 1))).setCell ⟨w.heap.size, 0, none⟩ (.slice ua D.now.m.n l.cap)).setCell ⟨w.heap.size, 1, none⟩ (.slice (some ⟨ga, oa + 1, none⟩) (D.now.k - 1) (nc - 1))).setCell ⟨w.heap.size, 2, none⟩ (.slice va D.past.length vc)) :=
              (((Chg.set (S := fun j => j = bd ∨ j = w.heap.size) (.inl rfl) _).trans (Chg.set (.inr rfl) _)).trans (Chg.set (.inr rfl) _)).trans (Chg.set (.inr rfl) _)
            have hall : Hid (DrawnDk rb A n c p w (.returned (.agg #[.slice ua D.now.m.n l.cap, .slice (some ⟨ga, oa + 1, none⟩) (D.now.k - 1) (nc - 1), .slice va D.past.length vc])) _) := dk_close HL2.out hcF (fun j hj => by rcases hj with hj | hj <;> omega) (fun w'' hw => by
              have h2 := (HD2.out.chg hcF fun j hj => by rcases hj with hj | hj <;> omega).chg hw fun j hj => .inl (by have hj' : j < w.heap.size := hj; omega)
              exact (h2.at_.up h2.hB (Nat.le_refl _)).cut1 hk1 _ rfl (nc - 1)) (by show D.now.k - 1 ≤ 12; omega) (by omega)
            have hfin := (((HL2.out.res.otherC (q := bd) (i := 1) (y := .slice (some ⟨ga, oa + 1, none⟩) (D.now.k - 1) (nc - 1)) (by omega)).put0 (.slice ua D.now.m.n l.cap)).put1 (.slice (some ⟨ga, oa + 1, none⟩) (D.now.k - 1) (nc - 1))).put2 (.slice va D.past.length vc)
            have t0 := hfin.c0
            have t1 := hfin.c1
            have t2 := hfin.c2
            clear hfin hcF
            go_wp2_with fail
            exact bodyPost_ret (v := .agg #[.slice ua D.now.m.n l.cap, .slice (some ⟨ga, oa + 1, none⟩) (D.now.k - 1) (nc - 1), .slice va D.past.length vc]) (by simp [results, Try.results23, go_sem, t0, t1, t2]) rfl hall.out
        · have hblk := ownsRow_block HD2.out.own
          have htopb := HD2.out.top
          have OWN := Lib.hid (World.ownsRow.alloc HD2.out.own (.cells #[.slice none 0 0, .slice none 0 0] 26))
          have hl3 : D.past.length ≤ 3 := by omega
          have hsz2 := C2.size
          have hbx : bx ≤ Bx := by
            have h5 := HD2.out.lo _ (List.mem_cons_self ..)
            have h6 := HD2.out.now.lohi hk1
            dsimp only at h5 h6
            omega
          have hrb2 := HL2.out.rbW
          clear hA2
          go_wp2_with (at_builtin; refine wpList_append_own_at _ rfl _ _ 27 rfl bx 26 i0 (.agg #[.slice none 0 0, .slice none 0 0]) 2 48 Try.underlying27 HIN.out HZ0.out HZ1.out HZ2.out rfl (by decide) (.slice va D.past.length vc) D.past.length _ rfl OWN.out ⟨ws.heap.size, 0, none⟩ 1 1 [.slice none 0 0, .slice none 0 0] rfl rfl (cells_newC ws 26 [.slice none 0 0, .slice none 0 0]) (fun u hu => by rcases List.mem_cons.1 hu with rfl | hu; rfl; rw [List.mem_singleton] at hu; rw [hu]; rfl) ?c3 ?c4 ?c5 ?_)
          case c3 => unfold maxLen; omega
          case c4 => omega
          case c5 => first | omega | (simp; omega)
          intro v' w10 hown10 hgrow10 _ hat10
          have hvf : Chg (fun j => Value.ownBlock (.slice va D.past.length vc) = some j) ws w10 := (Chg.alloc _ _ _).trans (Chg.of_grown hgrow10 fun j hj => hj)
          have hz10 := hvf.size
          have hnbd : ¬ (Value.ownBlock (.slice va D.past.length vc) = some bd) := fun e => by have h1 := hblk bd e; have h2 := (htopb bd e).1; omega
          have hnr : ¬ (Value.ownBlock (.slice va D.past.length vc) = some w.heap.size) := fun e => by have h1 := hblk _ e; omega
          have hT10 := hvf.three HT2.out hnbd
          have hR10 := hvf.three HL2.out.res hnr
          obtain ⟨gv, cv, rfl⟩ := ownsRow_form hown10 (Nat.succ_pos _)
          have hgv : (some gv : Option Nat) = Value.ownBlock (.slice va D.past.length vc) ∨ ws.heap.size ≤ gv := by
            rcases hat10 with e | e
            · exact .inl (by rw [← e]; rfl)
            · have e2 : ws.heap.size + 1 = gv := by
                have e3 : some gv = some _ := e
                first | exact (Option.some.inj e3).symm | (rw [World.size_alloc] at e3; exact (Option.some.inj e3).symm)
              exact .inr (by omega)
          have hgvb : gv ≠ bd ∧ gv ≠ w.heap.size := by
            rcases hgv with e | e
            · exact ⟨fun h3 => hnbd (by rw [← e, h3]), fun h3 => hnr (by rw [← e, h3])⟩
            · exact ⟨by omega, by omega⟩
          have hst : Chg (fun j => j = bd ∨ j = w.heap.size) w10 ((((w10.setCell ⟨bd, 2, none⟩ (.slice (some ⟨gv, 0, none⟩) (D.past.length + 1) cv)).setCell ⟨w.heap.size, 0, none⟩ (.slice ua D.now.m.n l.cap)).setCell ⟨w.heap.size, 1, none⟩ (.slice na D.now.k nc)).setCell ⟨w.heap.size, 2, none⟩ (.slice (some ⟨gv, 0, none⟩) (D.past.length + 1) cv)) :=
            (((Chg.set (S := fun j => j = bd ∨ j = w.heap.size) (.inl rfl) _).trans (Chg.set (.inr rfl) _)).trans (Chg.set (.inr rfl) _)).trans (Chg.set (.inr rfl) _)
          have hcF : Chg (fun j => Value.ownBlock (.slice va D.past.length vc) = some j ∨ j = bd ∨ j = w.heap.size) ws ((((w10.setCell ⟨bd, 2, none⟩ (.slice (some ⟨gv, 0, none⟩) (D.past.length + 1) cv)).setCell ⟨w.heap.size, 0, none⟩ (.slice ua D.now.m.n l.cap)).setCell ⟨w.heap.size, 1, none⟩ (.slice na D.now.k nc)).setCell ⟨w.heap.size, 2, none⟩ (.slice (some ⟨gv, 0, none⟩) (D.past.length + 1) cv)) := (hvf.mono fun j hj => .inl hj).trans (hst.mono fun j hj => .inr hj)
          have hG := HD2.out.grow hcF (fun j hj y hy => by
            have h5 := HD2.out.lo y hy
            rcases hj with hj | hj | hj
            · exact (htopb j hj).2 y hy
            · omega
            · omega) rfl (by omega) (hst.own hown10 fun g hg e => by
              have e' : gv = g := by simpa [Value.ownBlock] using hg
              rcases e with e | e <;> omega) (by
            rcases hgv with e | e
            · exact .inl e
            · exact .inr ⟨gv, rfl, e⟩)
          have hall : Hid (DrawnDk rb A n c p w (.returned (.agg #[.slice ua D.now.m.n l.cap, .slice na D.now.k nc, .slice (some ⟨gv, 0, none⟩) (D.past.length + 1) cv])) ((((w10.setCell ⟨bd, 2, none⟩ (.slice (some ⟨gv, 0, none⟩) (D.past.length + 1) cv)).setCell ⟨w.heap.size, 0, none⟩ (.slice ua D.now.m.n l.cap)).setCell ⟨w.heap.size, 1, none⟩ (.slice na D.now.k nc)).setCell ⟨w.heap.size, 2, none⟩ (.slice (some ⟨gv, 0, none⟩) (D.past.length + 1) cv))) := dk_close (D' := ⟨D.now, D.past ++ [zeroC]⟩) HL2.out hcF (fun j hj => by
            rcases hj with hj | hj | hj
            · have := hblk j hj; omega
            · omega
            · omega) (fun w'' hw => by
            have h2 := hG.chg hw fun j hj => .inl (by have hj' : j < w.heap.size := hj; omega)
            exact h2.at_.up h2.hB (Nat.le_refl _)) HL2.out.k12 (by omega)
          have hfin := (((hR10.otherC (q := bd) (i := 2) (y := (.slice (some ⟨gv, 0, none⟩) (D.past.length + 1) cv)) (by omega)).put0 (.slice ua D.now.m.n l.cap)).put1 (.slice na D.now.k nc)).put2 (.slice (some ⟨gv, 0, none⟩) (D.past.length + 1) cv)
          have t0 := hfin.c0
          have t1 := hfin.c1
          have t2 := hfin.c2
          clear e0 e1 e2 e3 e4 e5 g0 g1 g2 g3 g4 g5
          have e0 := hR10.c0
          have e1 := hR10.c1
          have e2 := hR10.c2
          have e3 := hR10.f0
          have e4 := hR10.f1
          have e5 := hR10.f2
          have g0 := hT10.c0
          have g1 := hT10.c1
          have g2 := hT10.c2
          have g3 := hT10.f0
          have g4 := hT10.f1
          have g5 := hT10.f2
          clear hfin hcF hst hG hvf hat10 hgrow10 hown10 hR10 hT10 hblk htopb hnbd hnr hgv hgvb
          go_wp2_with fail
          exact bodyPost_ret (v := .agg #[.slice ua D.now.m.n l.cap, .slice na D.now.k nc, .slice (some ⟨gv, 0, none⟩) (D.past.length + 1) cv]) (by simp [results, Try.results23, go_sem, t0, t1, t2]) rfl hall.out
        · have hcF := Chg.set3 ws w.heap.size (.slice none 0 0) (.slice none 0 0) (.slice none 0 0)
          have hall := Lib.hid (dk_close (p := p) (D' := zeroD) (v := .agg #[.slice none 0 0, .slice none 0 0, .slice none 0 0]) HL2.out hcF (fun j hj => by have hj' : j = w.heap.size := hj; omega) (fun w'' _ => (zeroO w'' w''.heap.size (Nat.le_refl _)).at_) (Nat.zero_le _) (by omega))
          have hfin := ((HL2.out.res.put0 (.slice none 0 0)).put1 (.slice none 0 0)).put2 (.slice none 0 0)
          have t0 := hfin.c0
          have t1 := hfin.c1
          have t2 := hfin.c2
          clear hfin hcF hA2
          go_wp2_with fail
          exact bodyPost_ret (v := .agg #[.slice none 0 0, .slice none 0 0, .slice none 0 0]) (by simp [results, Try.results23, go_sem, t0, t1, t2]) rfl hall.out
    · have hj' : (0 : Int) < (j : Int) := by omega
      clear hL hO
      go_upto_region 5 with fail
      go_cut [7, 8] (fun s7 s8 wx => ∃ (p9 p1 : Nat) (R : Dk Lc) (ok : Bool), s7 = .pointer (some ⟨p9, 0, none⟩) ∧ s8 = .bool ok ∧ DkL w rb A n c p1 bd D wx ∧ BoxO wr.heap.size wx p9 R ∧ p1 ≤ p' + 6 ∧ (ok = true → R.Is) ∧ R.past.length ≤ D.past.length + 1)
      case first =>
        have C0 : Chg (fun j => j = rb) wr wr.drew := Chg.drew _ _
        have R0 : Rd wr.drew rb A n c p' := HL.out.rd
        refine region_plain (fuel := 12) (listed := #[false, false, false, false, false, false, false, false, false, false, false, false]) (fun W' => W'.cell? ⟨bd, 0, none⟩ = some (.slice ua D.now.m.n l.cap) ∧ W'.cell? ⟨bd, 1, none⟩ = some (.slice na D.now.k nc) ∧ W'.cell? ⟨bd, 2, none⟩ = some (.slice va D.past.length vc)) (by kernel_rfl) (by kernel_rfl) (by kernel_rfl) ?_
        refine hold_take (i := 0) (d := 19) (v := ?qv0) (listed' := #[true, false, false, false, false, false, false, false, false, false, false, false]) rfl (by kernel_rfl) (by kernel_rfl) (by kernel_rfl) rfl (by rfl) (by kernel_rfl) (hk3.out _ C0) ?qh0 ?qr0
        case qh0 => (intro w' hSw; obtain ⟨k0, k1, k2⟩ := hSw; go_simp; try with_reducible rfl)
        simp only [List.setIfInBounds_toArray, List.set_cons_zero, List.set_cons_succ]
        refine hold_take (i := 1) (d := 20) (v := ?qv1) (listed' := #[true, true, false, false, false, false, false, false, false, false, false, false]) rfl (by kernel_rfl) (by kernel_rfl) (by kernel_rfl) rfl (by rfl) (by kernel_rfl) (hk3.out _ C0) ?qh1 ?qr1
        case qh1 => (intro w' hSw; obtain ⟨k0, k1, k2⟩ := hSw; go_simp; try with_reducible rfl)
        simp only [List.setIfInBounds_toArray, List.set_cons_zero, List.set_cons_succ]
        refine hold_take (i := 2) (d := 21) (v := ?qv2) (listed' := #[true, true, true, false, false, false, false, false, false, false, false, false]) rfl (by kernel_rfl) (by kernel_rfl) (by kernel_rfl) rfl (by rfl) (by kernel_rfl) (hk3.out _ C0) ?qh2 ?qr2
        case qh2 => (intro w' hSw; obtain ⟨k0, k1, k2⟩ := hSw; go_simp; try with_reducible rfl)
        simp only [List.setIfInBounds_toArray, List.set_cons_zero, List.set_cons_succ]
        refine hold_take (i := 3) (d := 22) (v := ?qv3) (listed' := #[true, true, true, true, false, false, false, false, false, false, false, false]) rfl (by kernel_rfl) (by kernel_rfl) (by kernel_rfl) rfl (by rfl) (by kernel_rfl) (hk3.out _ C0) ?qh3 ?qr3
        case qh3 => (intro w' hSw; obtain ⟨k0, k1, k2⟩ := hSw; go_simp; try with_reducible rfl)
        simp only [List.setIfInBounds_toArray, List.set_cons_zero, List.set_cons_succ]
        refine hold_two (i := 4) (j := 9) (by kernel_rfl) ?zc ?zl
        case zc =>
          refine opH_call (i := 4) (d := 23) (listed' := #[true, true, true, true, true, false, false, false, false, false, false, false]) rfl rfl (by rfl) (by kernel_rfl) ?zce (l20Deed_any (ua := ua) (un := D.now.m.n) (uc := l.cap) (na := na) (k := D.now.k) (nc := nc) (by omega) (by omega) hn R0 (HBY (HL.out.old.trans C0)) hB (by have := C0.size; omega)) ?_
          case zce => go_simp
          rintro e w7 ⟨d, p7, rfl, hp7, R7, C7⟩
          have D7 := C0.trans C7
          refine ⟨_, rfl, (hk3.out _ D7), ?_⟩
          simp only [List.setIfInBounds_toArray, List.set_cons_zero, List.set_cons_succ]
          refine hold_two (i := 5) (j := 9) (by kernel_rfl) ?zcc ?zcl
          case zcc =>
            refine opH_call (i := 5) (d := 24) (listed' := #[true, true, true, true, true, true, false, false, false, false, false, false]) rfl rfl (by rfl) (by kernel_rfl) ?zcce (spec_DeskDo_own (a := d) (hkeep.out _ D7).2) ?_
            case zcce => go_simp
            rintro e w8 ⟨vR, rfl, _, b8, hOf⟩
            have C8 := D7.trans (Chg.of_below (S := fun j => j = rb) b8 fun j h1 h2 => absurd h1 (by omega))
            have R8 := (Chg.of_below (S := fun _ => False) b8 fun j h1 h2 => absurd h1 (by omega)).rd R7 (by have := D7.size; omega) (fun e => e)
            obtain ⟨hok, hlen8⟩ := doR_facts D d
            obtain ⟨⟨yu, yt, ylo, yhi⟩, pv8, Y, rfl, hO8⟩ := hOf (by omega)
            clear hOf
            obtain ⟨R, eR⟩ : ∃ R, (doR D d).1 = R := ⟨_, rfl⟩
            obtain ⟨ok, eok⟩ : ∃ ok, (doR D d).2 = ok := ⟨_, rfl⟩
            rw [eR, eok] at hok
            rw [eR] at hO8 hlen8
            rw [eok]
            obtain ⟨ua8, l8, na8, nc8, va8, vc8, e1, e2, e3⟩ := slices_of hO8
            dsimp only at e1 e2 ⊢
            subst e1 e2 e3
            have z8 := b8.size
            have zc8 := D7.size
            refine ⟨_, rfl, (hk3.out _ C8), ?_⟩
            simp only [List.setIfInBounds_toArray, List.set_cons_zero, List.set_cons_succ]
            refine hold_take (i := 6) (d := 18) (v := ?zcctv6) (listed' := #[true, true, true, true, true, true, true, false, false, false, false, false]) rfl (by kernel_rfl) (by kernel_rfl) (by kernel_rfl) rfl (by rfl) (by kernel_rfl) (hk3.out _ C8) ?zccth6 ?zcctr6
            case zccth6 => (intro w' hSw; obtain ⟨k0, k1, k2⟩ := hSw; go_simp; try with_reducible rfl)
            simp only [List.setIfInBounds_toArray, List.set_cons_zero, List.set_cons_succ]
            refine hold_take (i := 7) (d := 25) (v := ?zcctv7) (listed' := #[true, true, true, true, true, true, true, true, false, false, false, false]) rfl (by kernel_rfl) (by kernel_rfl) (by kernel_rfl) rfl (by rfl) (by kernel_rfl) (hk3.out _ C8) ?zccth7 ?zcctr7
            case zccth7 => (intro w' hSw; obtain ⟨k0, k1, k2⟩ := hSw; go_simp; try with_reducible rfl)
            simp only [List.setIfInBounds_toArray, List.set_cons_zero, List.set_cons_succ]
            refine hold_take (i := 8) (d := 26) (v := ?zcctv8) (listed' := #[true, true, true, true, true, true, true, true, true, false, false, false]) rfl (by kernel_rfl) (by kernel_rfl) (by kernel_rfl) rfl (by rfl) (by kernel_rfl) (hk3.out _ C8) ?zccth8 ?zcctr8
            case zccth8 => (intro w' hSw; obtain ⟨k0, k1, k2⟩ := hSw; go_simp; try with_reducible rfl)
            simp only [List.setIfInBounds_toArray, List.set_cons_zero, List.set_cons_succ]
            have CA := C8.trans (Chg.alloc (fun j => j = rb) w8 (.cells #[.slice none 0 0, .slice none 0 0, .slice none 0 0] 29))
            have RA := (Chg.alloc (fun _ => False) w8 (.cells #[.slice none 0 0, .slice none 0 0, .slice none 0 0] 29)).rd R8 (by have := C8.size; omega) (fun e => e)
            have XA := ThreeAt.new w8 (.slice none 0 0) (.slice none 0 0) (.slice none 0 0) 29
            have zA : w8.heap.size < (w8.alloc (.cells #[.slice none 0 0, .slice none 0 0, .slice none 0 0] 29)).heap.size := by simp
            have zW := C8.size
            have hOA := hO8.chg (Chg.alloc (fun _ => False) w8 (.cells #[.slice none 0 0, .slice none 0 0, .slice none 0 0] 29)) fun _ hj => hj.elim
            refine hold_value (i := 9) (d := 7) (listed' := #[true, true, true, true, true, true, true, true, true, true, false, false]) rfl (by kernel_rfl) rfl (by rfl) (by kernel_rfl) (v := .pointer (some ⟨w8.heap.size, 0, none⟩)) (w' := (w8.alloc (.cells #[.slice none 0 0, .slice none 0 0, .slice none 0 0] 29))) ?zccle (hk3.out _ CA) ?_
            case zccle =>
              go_simp
              try with_reducible rfl
            simp only [List.setIfInBounds_toArray, List.set_cons_zero, List.set_cons_succ]
            obtain ⟨pL, hpL⟩ : ∃ q, q = w8.heap.size := ⟨_, rfl⟩
            have hpL1 : wr.heap.size ≤ pL := by omega
            have hpL2 : pL ≤ w8.heap.size := by omega
            have hpL3 : w8.heap.size ≤ pL := by omega
            rw [← hpL] at XA zA ⊢
            generalize (w8.alloc (.cells #[.slice none 0 0, .slice none 0 0, .slice none 0 0] 29)) = wL at CA RA XA zA hOA ⊢
            clear hpL
            have k0 := XA.c0
            have k1 := XA.c1
            have k2 := XA.c2
            have k3 := XA.f0
            have k4 := XA.f1
            have k5 := XA.f2
            have CS := Chg.set3 wL pL (.slice ua8 R.now.m.n l8.cap) (.slice na8 R.now.k nc8) (.slice va8 R.past.length vc8)
            have CF := CA.fresh CS fun j hj => (by have hj' : j = pL := hj; omega)
            have XF := ((XA.put0 (.slice ua8 R.now.m.n l8.cap)).put1 (.slice na8 R.now.k nc8)).put2 (.slice va8 R.past.length vc8)
            have RF := CS.rd RA (by have := CA.size; omega) (by show ¬ (rb = pL); omega)
            have OF := hOA.chg CS fun j hj => (by have hj' : j = pL := hj; omega)
            have sF := CS.size
            have HF : Hid (DkL w rb A n c p7 bd D (((wL.setCell ⟨pL, 0, none⟩ (.slice ua8 R.now.m.n l8.cap)).setCell ⟨pL, 1, none⟩ (.slice na8 R.now.k nc8)).setCell ⟨pL, 2, none⟩ (.slice va8 R.past.length vc8)) ∧ BoxO wr.heap.size (((wL.setCell ⟨pL, 0, none⟩ (.slice ua8 R.now.m.n l8.cap)).setCell ⟨pL, 1, none⟩ (.slice na8 R.now.k nc8)).setCell ⟨pL, 2, none⟩ (.slice va8 R.past.length vc8)) pL R) := ⟨HL.out.chg CF RF, ⟨_, _, _, _, _, XF, OF, by omega, hpL1, by omega, by omega⟩⟩
            refine hold_store (i := 10) (w' := (((wL.setCell ⟨pL, 0, none⟩ (.slice ua8 R.now.m.n l8.cap)).setCell ⟨pL, 1, none⟩ (.slice na8 R.now.k nc8)).setCell ⟨pL, 2, none⟩ (.slice va8 R.past.length vc8))) (listed' := #[true, true, true, true, true, true, true, true, true, true, true, false]) rfl (by kernel_rfl) rfl (by rfl) (by kernel_rfl) ?zccls (hk3.out _ CF) ?_
            case zccls =>
              go_simp
              try with_reducible rfl
            refine hold_take (i := 11) (d := 8) (v := ?zccluv11) (listed' := #[true, true, true, true, true, true, true, true, true, true, true, true]) rfl (by kernel_rfl) (by kernel_rfl) (by kernel_rfl) rfl (by rfl) (by kernel_rfl) (hk3.out _ CF) ?zccluh11 ?zcclur11
            case zccluh11 => (intro w' hSw; obtain ⟨k0, k1, k2⟩ := hSw; go_simp; try with_reducible rfl)
            simp only [List.setIfInBounds_toArray, List.set_cons_zero, List.set_cons_succ]
            refine hold_done (by kernel_rfl) ?_ _
            clear k0 k1 k2 k3 k4 k5 XF
            go_wp2_with fail
            go_meet
            exact ⟨_, p7, R, ok, rfl, rfl, HF.out.1, HF.out.2, hp7, hok, hlen8⟩
          case zcl =>
            have CA := D7.trans (Chg.alloc (fun j => j = rb) w7 (.cells #[.slice none 0 0, .slice none 0 0, .slice none 0 0] 29))
            have RA := (Chg.alloc (fun _ => False) w7 (.cells #[.slice none 0 0, .slice none 0 0, .slice none 0 0] 29)).rd R7 (by have := D7.size; omega) (fun e => e)
            have XA := ThreeAt.new w7 (.slice none 0 0) (.slice none 0 0) (.slice none 0 0) 29
            have zA : w7.heap.size < (w7.alloc (.cells #[.slice none 0 0, .slice none 0 0, .slice none 0 0] 29)).heap.size := by simp
            have zW := D7.size
            refine opH_value (i := 9) (d := 7) (listed' := #[true, true, true, true, true, false, false, false, false, true, false, false]) rfl rfl (by rfl) (by kernel_rfl) (v := .pointer (some ⟨w7.heap.size, 0, none⟩)) (w' := (w7.alloc (.cells #[.slice none 0 0, .slice none 0 0, .slice none 0 0] 29))) ?zcle (hk3.out _ CA) ?_
            case zcle =>
              go_simp
              try with_reducible rfl
            simp only [List.setIfInBounds_toArray, List.set_cons_zero, List.set_cons_succ]
            obtain ⟨pL, hpL⟩ : ∃ q, q = w7.heap.size := ⟨_, rfl⟩
            have hpL1 : wr.heap.size ≤ pL := by omega
            have hpL2 : pL ≤ w7.heap.size := by omega
            have hpL3 : w7.heap.size ≤ pL := by omega
            rw [← hpL] at XA zA ⊢
            generalize (w7.alloc (.cells #[.slice none 0 0, .slice none 0 0, .slice none 0 0] 29)) = wL at CA RA XA zA ⊢
            clear hpL
            refine hold_call (i := 5) (d := 24) (listed' := #[true, true, true, true, true, true, false, false, false, true, false, false]) rfl (by kernel_rfl) rfl (by rfl) (by kernel_rfl) ?zclce (spec_DeskDo_own (a := d) (hkeep.out _ CA).2) ?_
            case zclce => go_simp
            rintro e w8 ⟨vR, rfl, _, b8, hOf⟩
            have C8 := CA.trans (Chg.of_below (S := fun j => j = rb) b8 fun j h1 h2 => absurd h1 (by omega))
            have R8 := (Chg.of_below (S := fun _ => False) b8 fun j h1 h2 => absurd h1 (by omega)).rd RA (by have := CA.size; omega) (fun e => e)
            obtain ⟨hok, hlen8⟩ := doR_facts D d
            obtain ⟨⟨yu, yt, ylo, yhi⟩, pv8, Y, rfl, hO8⟩ := hOf (by omega)
            clear hOf
            obtain ⟨R, eR⟩ : ∃ R, (doR D d).1 = R := ⟨_, rfl⟩
            obtain ⟨ok, eok⟩ : ∃ ok, (doR D d).2 = ok := ⟨_, rfl⟩
            rw [eR, eok] at hok
            rw [eR] at hO8 hlen8
            rw [eok]
            obtain ⟨ua8, l8, na8, nc8, va8, vc8, e1, e2, e3⟩ := slices_of hO8
            dsimp only at e1 e2 ⊢
            subst e1 e2 e3
            have z8 := b8.size
            replace XA := XA.below b8 (by have := CA.size; omega)
            have zc8 := CA.size
            refine ⟨_, rfl, (hk3.out _ C8), ?_⟩
            simp only [List.setIfInBounds_toArray, List.set_cons_zero, List.set_cons_succ]
            refine hold_take (i := 6) (d := 18) (v := ?zclctv6) (listed' := #[true, true, true, true, true, true, true, false, false, true, false, false]) rfl (by kernel_rfl) (by kernel_rfl) (by kernel_rfl) rfl (by rfl) (by kernel_rfl) (hk3.out _ C8) ?zclcth6 ?zclctr6
            case zclcth6 => (intro w' hSw; obtain ⟨k0, k1, k2⟩ := hSw; go_simp; try with_reducible rfl)
            simp only [List.setIfInBounds_toArray, List.set_cons_zero, List.set_cons_succ]
            refine hold_take (i := 7) (d := 25) (v := ?zclctv7) (listed' := #[true, true, true, true, true, true, true, true, false, true, false, false]) rfl (by kernel_rfl) (by kernel_rfl) (by kernel_rfl) rfl (by rfl) (by kernel_rfl) (hk3.out _ C8) ?zclcth7 ?zclctr7
            case zclcth7 => (intro w' hSw; obtain ⟨k0, k1, k2⟩ := hSw; go_simp; try with_reducible rfl)
            simp only [List.setIfInBounds_toArray, List.set_cons_zero, List.set_cons_succ]
            refine hold_take (i := 8) (d := 26) (v := ?zclctv8) (listed' := #[true, true, true, true, true, true, true, true, true, true, false, false]) rfl (by kernel_rfl) (by kernel_rfl) (by kernel_rfl) rfl (by rfl) (by kernel_rfl) (hk3.out _ C8) ?zclcth8 ?zclctr8
            case zclcth8 => (intro w' hSw; obtain ⟨k0, k1, k2⟩ := hSw; go_simp; try with_reducible rfl)
            simp only [List.setIfInBounds_toArray, List.set_cons_zero, List.set_cons_succ]
            have k0 := XA.c0
            have k1 := XA.c1
            have k2 := XA.c2
            have k3 := XA.f0
            have k4 := XA.f1
            have k5 := XA.f2
            have CS := Chg.set3 w8 pL (.slice ua8 R.now.m.n l8.cap) (.slice na8 R.now.k nc8) (.slice va8 R.past.length vc8)
            have CF := C8.fresh CS fun j hj => (by have hj' : j = pL := hj; omega)
            have XF := ((XA.put0 (.slice ua8 R.now.m.n l8.cap)).put1 (.slice na8 R.now.k nc8)).put2 (.slice va8 R.past.length vc8)
            have RF := CS.rd R8 (by have := C8.size; omega) (by show ¬ (rb = pL); omega)
            have OF := hO8.chg CS fun j hj => (by have hj' : j = pL := hj; omega)
            have sF := CS.size
            have HF : Hid (DkL w rb A n c p7 bd D (((w8.setCell ⟨pL, 0, none⟩ (.slice ua8 R.now.m.n l8.cap)).setCell ⟨pL, 1, none⟩ (.slice na8 R.now.k nc8)).setCell ⟨pL, 2, none⟩ (.slice va8 R.past.length vc8)) ∧ BoxO wr.heap.size (((w8.setCell ⟨pL, 0, none⟩ (.slice ua8 R.now.m.n l8.cap)).setCell ⟨pL, 1, none⟩ (.slice na8 R.now.k nc8)).setCell ⟨pL, 2, none⟩ (.slice va8 R.past.length vc8)) pL R) := ⟨HL.out.chg CF RF, ⟨_, _, _, _, _, XF, OF, by omega, hpL1, by omega, by omega⟩⟩
            refine hold_store (i := 10) (w' := (((w8.setCell ⟨pL, 0, none⟩ (.slice ua8 R.now.m.n l8.cap)).setCell ⟨pL, 1, none⟩ (.slice na8 R.now.k nc8)).setCell ⟨pL, 2, none⟩ (.slice va8 R.past.length vc8))) (listed' := #[true, true, true, true, true, true, true, true, true, true, true, false]) rfl (by kernel_rfl) rfl (by rfl) (by kernel_rfl) ?zclcs (hk3.out _ CF) ?_
            case zclcs =>
              go_simp
              try with_reducible rfl
            refine hold_take (i := 11) (d := 8) (v := ?zclcuv11) (listed' := #[true, true, true, true, true, true, true, true, true, true, true, true]) rfl (by kernel_rfl) (by kernel_rfl) (by kernel_rfl) rfl (by rfl) (by kernel_rfl) (hk3.out _ CF) ?zclcuh11 ?zclcur11
            case zclcuh11 => (intro w' hSw; obtain ⟨k0, k1, k2⟩ := hSw; go_simp; try with_reducible rfl)
            simp only [List.setIfInBounds_toArray, List.set_cons_zero, List.set_cons_succ]
            refine hold_done (by kernel_rfl) ?_ _
            clear k0 k1 k2 k3 k4 k5 XF
            go_wp2_with fail
            go_meet
            exact ⟨_, p7, R, ok, rfl, rfl, HF.out.1, HF.out.2, hp7, hok, hlen8⟩
        case zl =>
          have CA := C0.trans (Chg.alloc (fun j => j = rb) wr.drew (.cells #[.slice none 0 0, .slice none 0 0, .slice none 0 0] 29))
          have RA := (Chg.alloc (fun _ => False) wr.drew (.cells #[.slice none 0 0, .slice none 0 0, .slice none 0 0] 29)).rd R0 (by have := C0.size; omega) (fun e => e)
          have XA := ThreeAt.new wr.drew (.slice none 0 0) (.slice none 0 0) (.slice none 0 0) 29
          have zA : wr.drew.heap.size < (wr.drew.alloc (.cells #[.slice none 0 0, .slice none 0 0, .slice none 0 0] 29)).heap.size := by simp
          have zW := C0.size
          refine opH_value (i := 9) (d := 7) (listed' := #[true, true, true, true, false, false, false, false, false, true, false, false]) rfl rfl (by rfl) (by kernel_rfl) (v := .pointer (some ⟨wr.drew.heap.size, 0, none⟩)) (w' := (wr.drew.alloc (.cells #[.slice none 0 0, .slice none 0 0, .slice none 0 0] 29))) ?zle (hk3.out _ CA) ?_
          case zle =>
            go_simp
            try with_reducible rfl
          simp only [List.setIfInBounds_toArray, List.set_cons_zero, List.set_cons_succ]
          obtain ⟨pL, hpL⟩ : ∃ q, q = wr.drew.heap.size := ⟨_, rfl⟩
          have hpL1 : wr.heap.size ≤ pL := by omega
          have hpL2 : pL ≤ wr.drew.heap.size := by omega
          have hpL3 : wr.drew.heap.size ≤ pL := by omega
          rw [← hpL] at XA zA ⊢
          generalize (wr.drew.alloc (.cells #[.slice none 0 0, .slice none 0 0, .slice none 0 0] 29)) = wL at CA RA XA zA ⊢
          clear hpL
          refine hold_call (i := 4) (d := 23) (listed' := #[true, true, true, true, true, false, false, false, false, true, false, false]) rfl (by kernel_rfl) rfl (by rfl) (by kernel_rfl) ?zlce (l20Deed_any (ua := ua) (un := D.now.m.n) (uc := l.cap) (na := na) (k := D.now.k) (nc := nc) (by omega) (by omega) hn RA (HBY (HL.out.old.trans CA)) hB (by have := CA.size; omega)) ?_
          case zlce => go_simp
          rintro e w7 ⟨d, p7, rfl, hp7, R7, C7⟩
          have D7 := CA.trans C7
          replace XA := C7.three XA (by show ¬ (pL = rb); omega)
          have zA := Nat.lt_of_lt_of_le zA C7.size
          refine ⟨_, rfl, (hk3.out _ D7), ?_⟩
          simp only [List.setIfInBounds_toArray, List.set_cons_zero, List.set_cons_succ]
          refine hold_call (i := 5) (d := 24) (listed' := #[true, true, true, true, true, true, false, false, false, true, false, false]) rfl (by kernel_rfl) rfl (by rfl) (by kernel_rfl) ?zlcce (spec_DeskDo_own (a := d) (hkeep.out _ D7).2) ?_
          case zlcce => go_simp
          rintro e w8 ⟨vR, rfl, _, b8, hOf⟩
          have C8 := D7.trans (Chg.of_below (S := fun j => j = rb) b8 fun j h1 h2 => absurd h1 (by omega))
          have R8 := (Chg.of_below (S := fun _ => False) b8 fun j h1 h2 => absurd h1 (by omega)).rd R7 (by have := D7.size; omega) (fun e => e)
          obtain ⟨hok, hlen8⟩ := doR_facts D d
          obtain ⟨⟨yu, yt, ylo, yhi⟩, pv8, Y, rfl, hO8⟩ := hOf (by omega)
          clear hOf
          obtain ⟨R, eR⟩ : ∃ R, (doR D d).1 = R := ⟨_, rfl⟩
          obtain ⟨ok, eok⟩ : ∃ ok, (doR D d).2 = ok := ⟨_, rfl⟩
          rw [eR, eok] at hok
          rw [eR] at hO8 hlen8
          rw [eok]
          obtain ⟨ua8, l8, na8, nc8, va8, vc8, e1, e2, e3⟩ := slices_of hO8
          dsimp only at e1 e2 ⊢
          subst e1 e2 e3
          have z8 := b8.size
          replace XA := XA.below b8 (by have := D7.size; omega)
          have zc8 := D7.size
          refine ⟨_, rfl, (hk3.out _ C8), ?_⟩
          simp only [List.setIfInBounds_toArray, List.set_cons_zero, List.set_cons_succ]
          refine hold_take (i := 6) (d := 18) (v := ?zlcctv6) (listed' := #[true, true, true, true, true, true, true, false, false, true, false, false]) rfl (by kernel_rfl) (by kernel_rfl) (by kernel_rfl) rfl (by rfl) (by kernel_rfl) (hk3.out _ C8) ?zlccth6 ?zlcctr6
          case zlccth6 => (intro w' hSw; obtain ⟨k0, k1, k2⟩ := hSw; go_simp; try with_reducible rfl)
          simp only [List.setIfInBounds_toArray, List.set_cons_zero, List.set_cons_succ]
          refine hold_take (i := 7) (d := 25) (v := ?zlcctv7) (listed' := #[true, true, true, true, true, true, true, true, false, true, false, false]) rfl (by kernel_rfl) (by kernel_rfl) (by kernel_rfl) rfl (by rfl) (by kernel_rfl) (hk3.out _ C8) ?zlccth7 ?zlcctr7
          case zlccth7 => (intro w' hSw; obtain ⟨k0, k1, k2⟩ := hSw; go_simp; try with_reducible rfl)
          simp only [List.setIfInBounds_toArray, List.set_cons_zero, List.set_cons_succ]
          refine hold_take (i := 8) (d := 26) (v := ?zlcctv8) (listed' := #[true, true, true, true, true, true, true, true, true, true, false, false]) rfl (by kernel_rfl) (by kernel_rfl) (by kernel_rfl) rfl (by rfl) (by kernel_rfl) (hk3.out _ C8) ?zlccth8 ?zlcctr8
          case zlccth8 => (intro w' hSw; obtain ⟨k0, k1, k2⟩ := hSw; go_simp; try with_reducible rfl)
          simp only [List.setIfInBounds_toArray, List.set_cons_zero, List.set_cons_succ]
          have k0 := XA.c0
          have k1 := XA.c1
          have k2 := XA.c2
          have k3 := XA.f0
          have k4 := XA.f1
          have k5 := XA.f2
          have CS := Chg.set3 w8 pL (.slice ua8 R.now.m.n l8.cap) (.slice na8 R.now.k nc8) (.slice va8 R.past.length vc8)
          have CF := C8.fresh CS fun j hj => (by have hj' : j = pL := hj; omega)
          have XF := ((XA.put0 (.slice ua8 R.now.m.n l8.cap)).put1 (.slice na8 R.now.k nc8)).put2 (.slice va8 R.past.length vc8)
          have RF := CS.rd R8 (by have := C8.size; omega) (by show ¬ (rb = pL); omega)
          have OF := hO8.chg CS fun j hj => (by have hj' : j = pL := hj; omega)
          have sF := CS.size
          have HF : Hid (DkL w rb A n c p7 bd D (((w8.setCell ⟨pL, 0, none⟩ (.slice ua8 R.now.m.n l8.cap)).setCell ⟨pL, 1, none⟩ (.slice na8 R.now.k nc8)).setCell ⟨pL, 2, none⟩ (.slice va8 R.past.length vc8)) ∧ BoxO wr.heap.size (((w8.setCell ⟨pL, 0, none⟩ (.slice ua8 R.now.m.n l8.cap)).setCell ⟨pL, 1, none⟩ (.slice na8 R.now.k nc8)).setCell ⟨pL, 2, none⟩ (.slice va8 R.past.length vc8)) pL R) := ⟨HL.out.chg CF RF, ⟨_, _, _, _, _, XF, OF, by omega, hpL1, by omega, by omega⟩⟩
          refine hold_store (i := 10) (w' := (((w8.setCell ⟨pL, 0, none⟩ (.slice ua8 R.now.m.n l8.cap)).setCell ⟨pL, 1, none⟩ (.slice na8 R.now.k nc8)).setCell ⟨pL, 2, none⟩ (.slice va8 R.past.length vc8))) (listed' := #[true, true, true, true, true, true, true, true, true, true, true, false]) rfl (by kernel_rfl) rfl (by rfl) (by kernel_rfl) ?zlccs (hk3.out _ CF) ?_
          case zlccs =>
            go_simp
            try with_reducible rfl
          refine hold_take (i := 11) (d := 8) (v := ?zlccuv11) (listed' := #[true, true, true, true, true, true, true, true, true, true, true, true]) rfl (by kernel_rfl) (by kernel_rfl) (by kernel_rfl) rfl (by rfl) (by kernel_rfl) (hk3.out _ CF) ?zlccuh11 ?zlccur11
          case zlccuh11 => (intro w' hSw; obtain ⟨k0, k1, k2⟩ := hSw; go_simp; try with_reducible rfl)
          simp only [List.setIfInBounds_toArray, List.set_cons_zero, List.set_cons_succ]
          refine hold_done (by kernel_rfl) ?_ _
          clear k0 k1 k2 k3 k4 k5 XF
          go_wp2_with fail
          go_meet
          exact ⟨_, p7, R, ok, rfl, rfl, HF.out.1, HF.out.2, hp7, hok, hlen8⟩
      case rest =>
        obtain ⟨p9, p1, R, ok, rfl, rfl, hL9, hB9, hp9, hI9, hl9⟩ := hcut
        obtain ⟨⟨yu, yt, ylo, yhi⟩, pv9, Y, B9, b9, hT9, hO9, g1, g2, g3, g4⟩ := id hB9
        obtain ⟨ua9, l9, na9, nc9, va9, vc9, e1, e2, e3⟩ := slices_of hO9
        dsimp only at e1 e2 hT9
        subst e1 e2 e3
        have HL9 := Lib.hid hL9
        cases ok with
        | false =>
          clear hL9 hB9 hT hT9 hO9
          go_wp2_with fail
          go_roundw
          case rel => exact ⟨D, j - 1, p1, by go_num, HL9.out, by omega, by omega⟩
          case measure => simp [intOf]; omega
        | true =>
          have hIR := hI9 rfl
          obtain ⟨k1, k2, k3, k4⟩ := hIR.1.small
          have hput := Lib.hid (hL9.put hO9 g1 b3 (by omega) (by omega))
          dsimp only at hput
          clear k1 k2 k3 k4
          obtain ⟨⟨xu', xt', xlo', xhi'⟩, pv', X', Bx', bx', hT', _⟩ := hL9.box
          have q0 := hT9.c0
          have q1 := hT9.c1
          have q2 := hT9.c2
          have r0 := hT'.c0
          have r1 := hT'.c1
          have r2 := hT'.c2
          have r3 := hT'.f0
          have r4 := hT'.f1
          have r5 := hT'.f2
          have hne : bd ≠ p9 := by omega
          clear hL9 hB9 hT hT9 hO9 hT' hI9 hIR
          go_wp2_with fail
          go_roundw
          case rel => exact ⟨R, j - 1, p1, by go_num, hput.out, by omega, by omega⟩
          case measure => simp [intOf]; omega
end Go.Proofs.Ytojcgmgponnlpaa
