/- The laws' copies, comparisons and marks of desks. -/
import Derived.Test.YtojcgmgponnlpaaDke
namespace Go.Proofs.Ytojcgmgponnlpaa
open Go.RowKit Go.Deep Go.Joins

theorem ThreeAt.otherC {w : World} {p q i : Nat} {u v x y : Value} (h : ThreeAt w p u v x) (hne : p ≠ q) : ThreeAt (w.setCell ⟨q, i, none⟩ y) p u v x := by
  have hn : ∀ j, (⟨p, j, none⟩ : Addr) ≠ ⟨q, i, none⟩ := fun j e => hne (by injection e)
  refine ⟨?_, ?_, ?_, ?_, ?_, ?_⟩
  · rw [World.cell?_setCell_other _ _ _ _ (Ne.symm (hn 0))]; exact h.c0
  · rw [World.cell?_setCell_other _ _ _ _ (Ne.symm (hn 1))]; exact h.c1
  · rw [World.cell?_setCell_other _ _ _ _ (Ne.symm (hn 2))]; exact h.c2
  · rw [World.frozen?_setCell]; exact h.f0
  · rw [World.frozen?_setCell]; exact h.f1
  · rw [World.frozen?_setCell]; exact h.f2
theorem ThreeAt.put0 {w : World} {p : Nat} {u v x : Value} (h : ThreeAt w p u v x) (y : Value) : ThreeAt (w.setCell ⟨p, 0, none⟩ y) p y v x :=
  ⟨World.cell?_setCell_same _ _ _ h.c0, by rw [World.cell?_setCell_other _ _ _ _ (fun e => by injection e with _ e1; omega)]; exact h.c1, by rw [World.cell?_setCell_other _ _ _ _ (fun e => by injection e with _ e1; omega)]; exact h.c2,
   by rw [World.frozen?_setCell]; exact h.f0, by rw [World.frozen?_setCell]; exact h.f1, by rw [World.frozen?_setCell]; exact h.f2⟩
theorem ThreeAt.put1 {w : World} {p : Nat} {u v x : Value} (h : ThreeAt w p u v x) (y : Value) : ThreeAt (w.setCell ⟨p, 1, none⟩ y) p u y x :=
  ⟨by rw [World.cell?_setCell_other _ _ _ _ (fun e => by injection e with _ e1; omega)]; exact h.c0, World.cell?_setCell_same _ _ _ h.c1, by rw [World.cell?_setCell_other _ _ _ _ (fun e => by injection e with _ e1; omega)]; exact h.c2,
   by rw [World.frozen?_setCell]; exact h.f0, by rw [World.frozen?_setCell]; exact h.f1, by rw [World.frozen?_setCell]; exact h.f2⟩
theorem ThreeAt.put2 {w : World} {p : Nat} {u v x : Value} (h : ThreeAt w p u v x) (y : Value) : ThreeAt (w.setCell ⟨p, 2, none⟩ y) p u v y :=
  ⟨by rw [World.cell?_setCell_other _ _ _ _ (fun e => by injection e with _ e1; omega)]; exact h.c0, by rw [World.cell?_setCell_other _ _ _ _ (fun e => by injection e with _ e1; omega)]; exact h.c1, World.cell?_setCell_same _ _ _ h.c2,
   by rw [World.frozen?_setCell]; exact h.f0, by rw [World.frozen?_setCell]; exact h.f1, by rw [World.frozen?_setCell]; exact h.f2⟩
theorem DeskW.form {w : World} {B base : Nat} {v : Value} {D : Dk Lc} (h : DeskW w B base v D) : ∃ (ua : Option Addr) (n c : Nat) (na : Option Addr) (k nc : Nat) (pa : Option Addr) (p pc : Nat), v = .agg #[.slice ua n c, .slice na k nc, .slice pa p pc] := by
  obtain ⟨x, pa, pg, po, pc, X, rfl, h⟩ := h
  obtain ⟨ua, l, na, g, nc, e1, e2, _⟩ := h.now
  exact ⟨ua, _, _, na, _, nc, pa, _, pc, by rw [e1, e2]⟩
/-- What a copy of a desk is. -/
def CopyK (D : Dk Lc) (w : World) (e : Ending) (w' : World) : Prop := ∃ v, e = .returned v ∧ DeskW w' w'.heap.size w.heap.size v D ∧ Below w.heap.size w w'
set_option maxRecDepth 100000 in
set_option maxHeartbeats 4000000 in
theorem toDesk_any {w : World} {B : Nat} {v : Value} {D : Dk Lc} (h : DeskAt w B v D) (hs : D.Small) :
    Calls Try.prog 19 #[v] w (CopyK D w) := by
  obtain ⟨ua, l, na, g, o, nc, pa, pg, po, pc, rfl, hL, hP, hn63⟩ := h
  obtain ⟨n, hn⟩ : ∃ n, D.past.length = n := ⟨_, rfl⟩
  have HN := Lib.hid hn
  have hlen : n ≤ 1048576 := by rw [← hn]; exact hs.len
  have hBw := hL.hB
  rw [hn] at hn63 ⊢
  have hbx := ThreeAt.new w (.slice ua D.now.m.n l.cap) (.slice na D.now.k nc) (.slice pa n pc) 44
  have b1 := (Below.refl w.heap.size w).alloc (Nat.le_refl _) (.cells #[.slice ua D.now.m.n l.cap, .slice na D.now.k nc, .slice pa n pc] 44)
  have hrs := ThreeAt.new (w.alloc (.cells #[.slice ua D.now.m.n l.cap, .slice na D.now.k nc, .slice pa n pc] 44)) (.slice none 0 0) (.slice none 0 0) (.slice none 0 0) 29
  have hou := ThreeAt.new ((w.alloc (.cells #[.slice ua D.now.m.n l.cap, .slice na D.now.k nc, .slice pa n pc] 44)).alloc (.cells #[.slice none 0 0, .slice none 0 0, .slice none 0 0] 29)) (.slice none 0 0) (.slice none 0 0) (.slice none 0 0) 29
  rw [World.size_alloc] at hrs
  rw [World.size_alloc, World.size_alloc] at hou
  have b2 := (Below.refl (w.heap.size + 1) (w.alloc (.cells #[.slice ua D.now.m.n l.cap, .slice na D.now.k nc, .slice pa n pc] 44))).alloc (by simp) (.cells #[.slice none 0 0, .slice none 0 0, .slice none 0 0] 29)
  have b3 := (Below.refl (w.heap.size + 1 + 1) ((w.alloc (.cells #[.slice ua D.now.m.n l.cap, .slice na D.now.k nc, .slice pa n pc] 44)).alloc (.cells #[.slice none 0 0, .slice none 0 0, .slice none 0 0] 29))).alloc (by simp) (.cells #[.slice none 0 0, .slice none 0 0, .slice none 0 0] 29)
  have hbx2 := (hbx.below b2 (by omega)).below b3 (by omega)
  have hrs2 := hrs.below b3 (by omega)
  have bw := (b1.trans (b2.mono (by omega))).trans (b3.mono (by omega))
  have hsz : w.heap.size + 3 ≤ (((w.alloc (.cells #[.slice ua D.now.m.n l.cap, .slice na D.now.k nc, .slice pa n pc] 44)).alloc (.cells #[.slice none 0 0, .slice none 0 0, .slice none 0 0] 29)).alloc (.cells #[.slice none 0 0, .slice none 0 0, .slice none 0 0] 29)).heap.size := by simp
  have HL := Lib.hid (hL.step bw)
  have HP := Lib.hid (hP.step bw hBw)
  have HS := Lib.hid hs
  clear hL hP hn hbx hrs b1 b2 b3 hs
  go_enter Try.func19, Try.ntmps19
  have q0 := hbx2.c0
  have q1 := hbx2.c1
  go_wp2_with fail
  generalize ((w.alloc (.cells #[.slice ua D.now.m.n l.cap, .slice na D.now.k nc, .slice pa n pc] 44)).alloc (.cells #[.slice none 0 0, .slice none 0 0, .slice none 0 0] 29)).alloc (.cells #[.slice none 0 0, .slice none 0 0, .slice none 0 0] 29) = W at hbx2 hrs2 hou bw hsz HL HP q0 q1 ⊢
  go_at_call 37
  refine (toLogic_w HL.out HS.out.now.n HS.out.now.L HS.out.now.k).mono ?_
  rintro e w2 ⟨N, q, rfl, hW2, b2⟩
  have hz2 := b2.size
  have hb2 := hbx2.below b2 (by omega)
  have hr2 := hrs2.below b2 (by omega)
  have ho2 := hou.below b2 (by omega)
  have hHP2 := HP.out.step b2 (by omega)
  have HC : Hid (CW w2 ⟨.slice (some ⟨N, 0, none⟩) D.now.m.n D.now.m.n, .slice (some ⟨q, 0, none⟩) D.now.k D.now.k, W.heap.size, w2.heap.size⟩ D.now) := ⟨_, _, _, _, _, rfl, rfl, hW2⟩
  have ho3 := (ho2.put0 (.slice (some ⟨N, 0, none⟩) D.now.m.n D.now.m.n)).put1 (.slice (some ⟨q, 0, none⟩) D.now.k D.now.k)
  have hb3 := (hb2.otherC (q := w.heap.size + 1 + 1) (i := 0) (y := .slice (some ⟨N, 0, none⟩) D.now.m.n D.now.m.n) (by omega)).otherC (q := w.heap.size + 1 + 1) (i := 1) (y := .slice (some ⟨q, 0, none⟩) D.now.k D.now.k) (by omega)
  have hr3 := (hr2.otherC (q := w.heap.size + 1 + 1) (i := 0) (y := .slice (some ⟨N, 0, none⟩) D.now.m.n D.now.m.n) (by omega)).otherC (q := w.heap.size + 1 + 1) (i := 1) (y := .slice (some ⟨q, 0, none⟩) D.now.k D.now.k) (by omega)
  have c23 : Chg (fun j => j = w.heap.size + 1 + 1 ∨ j = w.heap.size + 1) w2 ((w2.setCell ⟨w.heap.size + 1 + 1, 0, none⟩ (.slice (some ⟨N, 0, none⟩) D.now.m.n D.now.m.n)).setCell ⟨w.heap.size + 1 + 1, 1, none⟩ (.slice (some ⟨q, 0, none⟩) D.now.k D.now.k)) := (Chg.set (.inl rfl) _).trans (Chg.set (.inl rfl) _)
  have HP3 := Lib.hid (hHP2.chg c23 (by omega) fun j hj => by show ¬ (_ ∨ _); omega)
  have s3 : ((w2.setCell ⟨w.heap.size + 1 + 1, 0, none⟩ (.slice (some ⟨N, 0, none⟩) D.now.m.n D.now.m.n)).setCell ⟨w.heap.size + 1 + 1, 1, none⟩ (.slice (some ⟨q, 0, none⟩) D.now.k D.now.k)).heap.size ≤ w2.heap.size := by simp
  have s3b : w2.heap.size ≤ ((w2.setCell ⟨w.heap.size + 1 + 1, 0, none⟩ (.slice (some ⟨N, 0, none⟩) D.now.m.n D.now.m.n)).setCell ⟨w.heap.size + 1 + 1, 1, none⟩ (.slice (some ⟨q, 0, none⟩) D.now.k D.now.k)).heap.size := by simp
  have k0 := ho2.c0
  have k1 := ho2.c1
  have k2 := ho2.f0
  have k3 := ho2.f1
  have q2 := hb2.c2
  clear q0 q1 hW2 hHP2
  go_wp2_with fail
  clear k0 k1 k2 k3 q2
  generalize (w2.setCell ⟨w.heap.size + 1 + 1, 0, none⟩ (.slice (some ⟨N, 0, none⟩) D.now.m.n D.now.m.n)).setCell ⟨w.heap.size + 1 + 1, 1, none⟩ (.slice (some ⟨q, 0, none⟩) D.now.k D.now.k) = w3 at ho3 hb3 hr3 c23 HP3 s3 s3b ⊢
  go_at_call 38
  refine (toLogicS_any HP3.out (by omega) HN.out HS.out.past hlen).mono ?_
  rintro e w4 ⟨b4, hcp, rfl, X, hX, hap, hlo⟩
  have hz4 := b4.size
  have ho4 := ho3.below b4 (by omega)
  have hr4 := hr3.below b4 (by omega)
  have c34 : Chg (fun j => j = w.heap.size + 1 + 1 ∨ j = w.heap.size + 1) w3 w4 := Chg.of_below b4 fun j h1 h2 => absurd h1 (by omega)
  have ho5 := ho4.put2 (.slice (some ⟨w3.heap.size, 0, none⟩) n n)
  have hr5 := hr4.otherC (q := w.heap.size + 1 + 1) (i := 2) (y := .slice (some ⟨w3.heap.size, 0, none⟩) n n) (by omega)
  have c45 : Chg (fun j => j = w.heap.size + 1 + 1 ∨ j = w.heap.size + 1) w4 (w4.setCell ⟨w.heap.size + 1 + 1, 2, none⟩ (.slice (some ⟨w3.heap.size, 0, none⟩) n n)) := Chg.set (.inl rfl) _
  have k0 := ho4.c0
  have k1 := ho4.c1
  have k2 := ho4.c2
  have k3 := ho4.f2
  have r0 := hr4.c0
  have r1 := hr4.c1
  have r2 := hr4.c2
  have r3 := hr4.f0
  have r4 := hr4.f1
  have r5 := hr4.f2
  have hpl : w3.heap.size < w4.heap.size := by
    have h1 := hcp
    omega
  have HX := Lib.hid hX
  have HA := Lib.hid hap
  have HLO := Lib.hid hlo
  clear hX hap hlo
  go_wp2_with fail
  have hfin := ((hr5.put0 (.slice (some ⟨N, 0, none⟩) D.now.m.n D.now.m.n)).put1 (.slice (some ⟨q, 0, none⟩) D.now.k D.now.k)).put2 (.slice (some ⟨w3.heap.size, 0, none⟩) n n)
  have t0 := hfin.c0
  have t1 := hfin.c1
  have t2 := hfin.c2
  have c56 : Chg (fun j => j = w.heap.size + 1 + 1 ∨ j = w.heap.size + 1) (w4.setCell ⟨w.heap.size + 1 + 1, 2, none⟩ (.slice (some ⟨w3.heap.size, 0, none⟩) n n)) ((((w4.setCell ⟨w.heap.size + 1 + 1, 2, none⟩ (.slice (some ⟨w3.heap.size, 0, none⟩) n n)).setCell ⟨w.heap.size + 1, 0, none⟩ (.slice (some ⟨N, 0, none⟩) D.now.m.n D.now.m.n)).setCell ⟨w.heap.size + 1, 1, none⟩ (.slice (some ⟨q, 0, none⟩) D.now.k D.now.k)).setCell ⟨w.heap.size + 1, 2, none⟩ (.slice (some ⟨w3.heap.size, 0, none⟩) n n)) := ((Chg.set (.inr rfl) _).trans (Chg.set (.inr rfl) _)).trans (Chg.set (.inr rfl) _)
  have c46 := c45.trans c56
  have c26 := (c23.trans c34).trans c46
  have s6 : ((((w4.setCell ⟨w.heap.size + 1 + 1, 2, none⟩ (.slice (some ⟨w3.heap.size, 0, none⟩) n n)).setCell ⟨w.heap.size + 1, 0, none⟩ (.slice (some ⟨N, 0, none⟩) D.now.m.n D.now.m.n)).setCell ⟨w.heap.size + 1, 1, none⟩ (.slice (some ⟨q, 0, none⟩) D.now.k D.now.k)).setCell ⟨w.heap.size + 1, 2, none⟩ (.slice (some ⟨w3.heap.size, 0, none⟩) n n)).heap.size = w4.heap.size := by simp
  have HF : Hid (DeskW ((((w4.setCell ⟨w.heap.size + 1 + 1, 2, none⟩ (.slice (some ⟨w3.heap.size, 0, none⟩) n n)).setCell ⟨w.heap.size + 1, 0, none⟩ (.slice (some ⟨N, 0, none⟩) D.now.m.n D.now.m.n)).setCell ⟨w.heap.size + 1, 1, none⟩ (.slice (some ⟨q, 0, none⟩) D.now.k D.now.k)).setCell ⟨w.heap.size + 1, 2, none⟩ (.slice (some ⟨w3.heap.size, 0, none⟩) n n)) ((((w4.setCell ⟨w.heap.size + 1 + 1, 2, none⟩ (.slice (some ⟨w3.heap.size, 0, none⟩) n n)).setCell ⟨w.heap.size + 1, 0, none⟩ (.slice (some ⟨N, 0, none⟩) D.now.m.n D.now.m.n)).setCell ⟨w.heap.size + 1, 1, none⟩ (.slice (some ⟨q, 0, none⟩) D.now.k D.now.k)).setCell ⟨w.heap.size + 1, 2, none⟩ (.slice (some ⟨w3.heap.size, 0, none⟩) n n)).heap.size w.heap.size (.agg #[.slice (some ⟨N, 0, none⟩) D.now.m.n D.now.m.n, .slice (some ⟨q, 0, none⟩) D.now.k D.now.k, .slice (some ⟨w3.heap.size, 0, none⟩) n n]) D) := by
    refine ⟨⟨.slice (some ⟨N, 0, none⟩) D.now.m.n D.now.m.n, .slice (some ⟨q, 0, none⟩) D.now.k D.now.k, W.heap.size, w2.heap.size⟩, some ⟨w3.heap.size, 0, none⟩, w3.heap.size, 0, n, X, by rw [HN.out], HC.out.chg c26 fun j hj => ?_, HX.out.chg c46 (fun y hy j hj => ?_) (fun _ hj => ?_), List.pairwise_cons.2 ⟨fun y hy => ?_, HA.out⟩, fun y hy => ?_, fun _ y hy => ?_, fun _ => ?_, HS.out.len, fun y hy => ?_, fun _ => ?_, Nat.le_refl _⟩
    · have hj' : j = w.heap.size + 1 + 1 ∨ j = w.heap.size + 1 := hj
      show j < W.heap.size ∨ _
      omega
    · have hj' : j = w.heap.size + 1 + 1 ∨ j = w.heap.size + 1 := hj
      have := HLO.out y hy
      omega
    · have hj' : w3.heap.size = w.heap.size + 1 + 1 ∨ w3.heap.size = w.heap.size + 1 := hj
      omega
    · have := HLO.out y hy
      exact .inl (by show w2.heap.size ≤ _; omega)
    · rcases List.mem_cons.1 hy with rfl | hy
      · show w.heap.size ≤ W.heap.size; omega
      · have := HLO.out y hy; omega
    · rcases List.mem_cons.1 hy with rfl | hy
      · exact .inr (by show w2.heap.size ≤ _; omega)
      · have := HLO.out y hy; omega
    · omega
    · rcases List.mem_cons.1 hy with rfl | hy
      · show w2.heap.size ≤ _; omega
      · have := HLO.out y hy; omega
    · show w3.heap.size < _
      have := b4.size
      rw [s6]
      exact hpl
  have hB6 : Below w.heap.size w ((((w4.setCell ⟨w.heap.size + 1 + 1, 2, none⟩ (.slice (some ⟨w3.heap.size, 0, none⟩) n n)).setCell ⟨w.heap.size + 1, 0, none⟩ (.slice (some ⟨N, 0, none⟩) D.now.m.n D.now.m.n)).setCell ⟨w.heap.size + 1, 1, none⟩ (.slice (some ⟨q, 0, none⟩) D.now.k D.now.k)).setCell ⟨w.heap.size + 1, 2, none⟩ (.slice (some ⟨w3.heap.size, 0, none⟩) n n)) :=
    (bw.trans (b2.mono (by omega))).trans (c26.below (by omega) fun j hj => by have hj' : j = w.heap.size + 1 + 1 ∨ j = w.heap.size + 1 := hj; omega)
  clear c56 c46 c26 c45 c23 c34
  refine bodyPost_ret (v := .agg #[.slice (some ⟨N, 0, none⟩) D.now.m.n D.now.m.n, .slice (some ⟨q, 0, none⟩) D.now.k D.now.k, .slice (some ⟨w3.heap.size, 0, none⟩) n n]) (by simp [results, Try.results19, go_sem, t0, t1, t2]) rfl ⟨_, rfl, HF.out, hB6⟩

/-! ### comparisons -/
set_option maxRecDepth 100000 in
set_option maxHeartbeats 4000000 in
theorem eqLogicS_any {w : World} {B B' : Nat} {a a' : Option Addr} {g o g' o' n cap cap' : Nat} {P : List Lc} (hP : PsAt w B a g o P) (hP' : PsAt w B' a' g' o' P) (hB : B ≤ w.heap.size) (hB' : B' ≤ w.heap.size) (hn : P.length = n) (hn63 : n ≤ 9223372036854775807) :
    Calls Try.prog 40 #[.slice a n cap, .slice a' n cap'] w fun e w' => e = .returned (.bool true) ∧ Below w.heap.size w w' := by
  have HP := Lib.hid hP
  have HP' := Lib.hid hP'
  have HN := Lib.hid hn
  clear hn hP hP'
  go_enter Try.func40, Try.ntmps40
  go_wp2_with fail
  go_loopw [5] (fun i wr => ∃ k : Nat, k ≤ n ∧ i = .int .i64 (k : Int) ∧ Below w.heap.size w wr) (fun i _ => n - (RowKit.intOf i).toNat)
  case atStart => exact ⟨0, Nat.zero_le _, rfl, Below.refl _ _⟩
  case round =>
    obtain ⟨k, hk, rfl, hB1⟩ := hrel
    by_cases hlt : k < n
    · have hlt' : (k : Int) < n := by omega
      have hk0 : (0 : Int) ≤ k := by omega
      obtain ⟨c, hc⟩ : ∃ c, P[k]? = some c := ⟨_, List.getElem?_eq_getElem (by rw [HN.out]; exact hlt)⟩
      have hz1 := hB1.size
      obtain ⟨rfl, hg, _, _, c0, c1, ua, l, na, g1, o1, nc, rfl, rfl, hL1⟩ := (HP.out.step hB1.drew hB) k c hc
      obtain ⟨rfl, hg', _, _, c0', c1', ua', l', na', g2, o2, nc', rfl, rfl, hL2⟩ := (HP'.out.step hB1.drew hB') k c hc
      have hgd : g < wr.drew.heap.size := by show g < wr.heap.size; omega
      have hgd' : g' < wr.drew.heap.size := by show g' < wr.heap.size; omega
      have HL1 := Lib.hid hL1
      have HL2 := Lib.hid hL2
      have S0 : (fun w' => w'.cell? ⟨g, o + k * 2, none⟩ = some (.slice ua c.m.n l.cap) ∧ w'.cell? ⟨g, o + k * 2 + 1, none⟩ = some (.slice na c.k nc) ∧ w'.cell? ⟨g', o' + k * 2, none⟩ = some (.slice ua' c.m.n l'.cap) ∧ w'.cell? ⟨g', o' + k * 2 + 1, none⟩ = some (.slice na' c.k nc')) wr.drew := ⟨c0, c1, c0', c1'⟩
      clear hc hL1 hL2 c0 c1 c0' c1'
      go_wp2_with fail
      refine region_plain (fuel := 10) (listed := #[false, false, false, false, false, false, false, false, false, false]) (fun w' => w'.cell? ⟨g, o + k * 2, none⟩ = some (.slice ua c.m.n l.cap) ∧ w'.cell? ⟨g, o + k * 2 + 1, none⟩ = some (.slice na c.k nc) ∧ w'.cell? ⟨g', o' + k * 2, none⟩ = some (.slice ua' c.m.n l'.cap) ∧ w'.cell? ⟨g', o' + k * 2 + 1, none⟩ = some (.slice na' c.k nc')) (by kernel_rfl) (by kernel_rfl) (by kernel_rfl) ?_
      refine hold_take (i := 0) (d := 17) (v := ?vE0) (listed' := #[true, false, false, false, false, false, false, false, false, false]) rfl (by kernel_rfl) (by kernel_rfl) (by kernel_rfl) rfl (by rfl) (by kernel_rfl) S0 ?hE0 ?rE0
      case hE0 =>
        intro w' hSw
        obtain ⟨k0, k1, k2, k3⟩ := hSw
        go_simp
        try with_reducible rfl
      simp only [List.setIfInBounds_toArray, List.set_cons_zero, List.set_cons_succ]
      refine hold_take (i := 1) (d := 18) (v := ?vE1) (listed' := #[true, true, false, false, false, false, false, false, false, false]) rfl (by kernel_rfl) (by kernel_rfl) (by kernel_rfl) rfl (by rfl) (by kernel_rfl) S0 ?hE1 ?rE1
      case hE1 =>
        intro w' hSw
        obtain ⟨k0, k1, k2, k3⟩ := hSw
        go_simp
        try with_reducible rfl
      simp only [List.setIfInBounds_toArray, List.set_cons_zero, List.set_cons_succ]
      refine hold_take (i := 2) (d := 19) (v := ?vE2) (listed' := #[true, true, true, false, false, false, false, false, false, false]) rfl (by kernel_rfl) (by kernel_rfl) (by kernel_rfl) rfl (by rfl) (by kernel_rfl) S0 ?hE2 ?rE2
      case hE2 =>
        intro w' hSw
        obtain ⟨k0, k1, k2, k3⟩ := hSw
        go_simp
        try with_reducible rfl
      simp only [List.setIfInBounds_toArray, List.set_cons_zero, List.set_cons_succ]
      refine hold_take (i := 3) (d := 20) (v := ?vE3) (listed' := #[true, true, true, true, false, false, false, false, false, false]) rfl (by kernel_rfl) (by kernel_rfl) (by kernel_rfl) rfl (by rfl) (by kernel_rfl) S0 ?hE3 ?rE3
      case hE3 =>
        intro w' hSw
        obtain ⟨k0, k1, k2, k3⟩ := hSw
        go_simp
        try with_reducible rfl
      simp only [List.setIfInBounds_toArray, List.set_cons_zero, List.set_cons_succ]
      refine hold_take (i := 4) (d := 21) (v := ?vE4) (listed' := #[true, true, true, true, true, false, false, false, false, false]) rfl (by kernel_rfl) (by kernel_rfl) (by kernel_rfl) rfl (by rfl) (by kernel_rfl) S0 ?hE4 ?rE4
      case hE4 =>
        intro w' hSw
        obtain ⟨k0, k1, k2, k3⟩ := hSw
        go_simp
        try with_reducible rfl
      simp only [List.setIfInBounds_toArray, List.set_cons_zero, List.set_cons_succ]
      refine hold_take (i := 5) (d := 22) (v := ?vE5) (listed' := #[true, true, true, true, true, true, false, false, false, false]) rfl (by kernel_rfl) (by kernel_rfl) (by kernel_rfl) rfl (by rfl) (by kernel_rfl) S0 ?hE5 ?rE5
      case hE5 =>
        intro w' hSw
        obtain ⟨k0, k1, k2, k3⟩ := hSw
        go_simp
        try with_reducible rfl
      simp only [List.setIfInBounds_toArray, List.set_cons_zero, List.set_cons_succ]
      refine hold_take (i := 6) (d := 23) (v := ?vE6) (listed' := #[true, true, true, true, true, true, true, false, false, false]) rfl (by kernel_rfl) (by kernel_rfl) (by kernel_rfl) rfl (by rfl) (by kernel_rfl) S0 ?hE6 ?rE6
      case hE6 =>
        intro w' hSw
        obtain ⟨k0, k1, k2, k3⟩ := hSw
        go_simp
        try with_reducible rfl
      simp only [List.setIfInBounds_toArray, List.set_cons_zero, List.set_cons_succ]
      refine hold_take (i := 7) (d := 24) (v := ?vE7) (listed' := #[true, true, true, true, true, true, true, true, false, false]) rfl (by kernel_rfl) (by kernel_rfl) (by kernel_rfl) rfl (by rfl) (by kernel_rfl) S0 ?hE7 ?rE7
      case hE7 =>
        intro w' hSw
        obtain ⟨k0, k1, k2, k3⟩ := hSw
        go_simp
        try with_reducible rfl
      simp only [List.setIfInBounds_toArray, List.set_cons_zero, List.set_cons_succ]
      refine hold_call (i := 8) (d := 25) (listed' := #[true, true, true, true, true, true, true, true, true, false]) rfl (by kernel_rfl) rfl (by rfl) (by kernel_rfl) ?heE8 (eqLogic_any (nc := nc) (nc' := nc') HL1.out HL2.out) ?hcE8
      case heE8 => go_simp
      rintro e x8 ⟨rfl, b8⟩
      obtain ⟨y0, y1, y2, y3⟩ := S0
      have S1 : (fun w' => w'.cell? ⟨g, o + k * 2, none⟩ = some (.slice ua c.m.n l.cap) ∧ w'.cell? ⟨g, o + k * 2 + 1, none⟩ = some (.slice na c.k nc) ∧ w'.cell? ⟨g', o' + k * 2, none⟩ = some (.slice ua' c.m.n l'.cap) ∧ w'.cell? ⟨g', o' + k * 2 + 1, none⟩ = some (.slice na' c.k nc')) x8 := ⟨(b8.cell (p := ⟨g, o + k * 2, none⟩) hgd).trans y0, (b8.cell (p := ⟨g, o + k * 2 + 1, none⟩) hgd).trans y1, (b8.cell (p := ⟨g', o' + k * 2, none⟩) hgd').trans y2, (b8.cell (p := ⟨g', o' + k * 2 + 1, none⟩) hgd').trans y3⟩
      refine ⟨_, rfl, S1, ?_⟩
      simp only [List.setIfInBounds_toArray, List.set_cons_zero, List.set_cons_succ]
      refine hold_take (i := 9) (d := 26) (v := ?vE9) (listed' := #[true, true, true, true, true, true, true, true, true, true]) rfl (by kernel_rfl) (by kernel_rfl) (by kernel_rfl) rfl (by rfl) (by kernel_rfl) S1 ?hE9 ?rE9
      case hE9 =>
        intro w' hSw
        obtain ⟨k0, k1, k2, k3⟩ := hSw
        go_simp
        try with_reducible rfl
      simp only [List.setIfInBounds_toArray, List.set_cons_zero, List.set_cons_succ]
      refine hold_done (by kernel_rfl) ?_ _
      go_wp2_with fail
      exact ⟨⟨k + 1, by omega, by go_num, hB1.trans (((Below.refl _ wr).drew.trans b8).mono hB1.size)⟩, by simp [RowKit.intOf]; omega⟩
    · have hlt' : ¬ (k : Int) < n := by omega
      go_wp2_with fail
      go_ret
      exact ⟨rfl, hB1⟩
set_option maxRecDepth 100000 in
set_option maxHeartbeats 4000000 in
theorem eqDesk_any {w : World} {B B' : Nat} {v v' : Value} {D : Dk Lc} (h : DeskAt w B v D) (h' : DeskAt w B' v' D) :
    Calls Try.prog 20 #[v, v'] w fun e w' => e = .returned (.bool true) ∧ Below w.heap.size w w' := by
  obtain ⟨ua, l, na, g, o, nc, pa, pg, po, pc, rfl, hL, hP, hn63⟩ := h
  obtain ⟨ua', l', na', g', o', nc', pa', pg', po', pc', rfl, hL', hP', _⟩ := h'
  obtain ⟨n, hn⟩ : ∃ n, D.past.length = n := ⟨_, rfl⟩
  have HN := Lib.hid hn
  rw [hn] at hn63 ⊢
  have X := BoxN.start w #[.slice ua D.now.m.n l.cap, .slice na D.now.k nc, .slice pa n pc] 29
  have Y := BoxN.start (w.alloc (.cells #[.slice ua D.now.m.n l.cap, .slice na D.now.k nc, .slice pa n pc] 29)) #[.slice ua' D.now.m.n l'.cap, .slice na' D.now.k nc', .slice pa' n pc'] 29
  have X2 := X.step Y.below
  have b0 := X2.below
  have hBw := hL.hB
  have hBw' := hL'.hB
  have HL := Lib.hid (hL.step b0)
  have HP := Lib.hid (hP.step b0 hBw)
  have HL' := Lib.hid (hL'.step b0)
  have HP' := Lib.hid (hP'.step b0 hBw')
  have q0 := X2.cell 0 rfl
  have q1 := X2.cell 1 rfl
  have q2 := X2.cell 2 rfl
  have y0 := Y.cell 0 rfl
  have y1 := Y.cell 1 rfl
  have y2 := Y.cell 2 rfl
  rw [World.size_alloc] at y0 y1 y2
  have hXW := X2.size
  clear hL hP hL' hP' hn X
  go_enter Try.func20, Try.ntmps20
  go_wp2_with fail
  generalize (w.alloc (.cells #[.slice ua D.now.m.n l.cap, .slice na D.now.k nc, .slice pa n pc] 29)).alloc (.cells #[.slice ua' D.now.m.n l'.cap, .slice na' D.now.k nc', .slice pa' n pc'] 29) = W at X2 Y b0 HL HP HL' HP' q0 q1 q2 y0 y1 y2 hXW ⊢
  go_at_call 39
  refine (eqLogic_any HL.out HL'.out).mono ?_
  rintro e w2 ⟨rfl, b2⟩
  have X3 := X2.step b2
  have Y3 := Y.step b2
  have B2 := b0.trans (b2.mono b0.size)
  have HP2 := Lib.hid (HP.out.step b2 (by omega))
  have HP2' := Lib.hid (HP'.out.step b2 (by omega))
  have hz2 := b2.size
  clear q0 q1 q2 y0 y1 y2
  have q2 := X3.cell 2 rfl
  have y2 := Y3.cell 2 rfl
  rw [World.size_alloc] at y2
  go_wp2_with fail
  go_at_call 40
  refine (eqLogicS_any HP2.out HP2'.out (by omega) (by omega) HN.out hn63).mono ?_
  rintro e w3 ⟨rfl, b3⟩
  go_wp2_with fail
  go_ret
  exact ⟨rfl, B2.trans (b3.mono B2.size)⟩

/-! ### marks -/
set_option maxRecDepth 100000 in
set_option maxHeartbeats 4000000 in
theorem markLogicS_any {w : World} {a : Option Addr} {g o n cap k0 : Nat} {X : List Iv} {P : List Lc} (h : PsW w a g o X P) (hn : P.length = n) (hn20 : n ≤ 1048576) (h0 : k0 ≤ 4398046511104) (hap : X.Pairwise Iv.Apart) (ht : ∀ y ∈ X, g < y.lo ∨ y.hi ≤ g) :
    Calls Try.prog 42 #[.slice a n cap, .int .i64 (k0 : Int)] w fun e w' => e = .returned (.int .i64 (atPs P k0 n : Int)) ∧ Chg (fun j => ∃ y ∈ X, y.lo ≤ j ∧ j < y.hi) w w' ∧ PsW w' a g o X (markTo P k0 n) := by
  have HS := Lib.hid h.small
  have HN := Lib.hid hn
  have HW : Hid (PsW w a g o X (markTo P k0 0)) := by show PsW ..; rw [markTo_zero]; exact h
  have HX : Hid (X.length = n) := by show _ = _; rw [h.len, hn]
  have HA := Lib.hid hap
  have HT := Lib.hid ht
  clear h hn hap ht
  go_enter Try.func42, Try.ntmps42
  go_wp2_with fail
  go_loopw [1, 5] (fun t i wr => ∃ k : Nat, k ≤ n ∧ i = .int .i64 k ∧ t = .int .i64 (atPs P k0 k : Int) ∧ Chg (fun j => ∃ y ∈ X, y.lo ≤ j ∧ j < y.hi) w wr ∧ PsW wr a g o X (markTo P k0 k)) (fun _ i _ => n - (RowKit.intOf i).toNat)
  case atStart => exact ⟨0, Nat.zero_le _, rfl, rfl, Chg.refl _ _, HW.out⟩
  case round =>
    obtain ⟨k, hk, rfl, rfl, hC, hR⟩ := hrel
    by_cases hlt : k < n
    · have hlt' : (k : Int) < n := by omega
      have hk0 : (0 : Int) ≤ k := by omega
      obtain ⟨c, hc⟩ : ∃ c, P[k]? = some c := ⟨_, List.getElem?_eq_getElem (by rw [HN.out]; exact hlt)⟩
      obtain ⟨y, hy⟩ : ∃ y, X[k]? = some y := ⟨_, List.getElem?_eq_getElem (by rw [HX.out]; exact hlt)⟩
      have HC := Lib.hid hc
      have HY := Lib.hid hy
      have HR := Lib.hid hR
      have HCh := Lib.hid hC
      have hK := atPs_le (k0 := k0) HS.out k
      have hm := mark_le (HS.out c (List.mem_of_getElem? hc)) (atPs P k0 k)
      have hkk := (HS.out c (List.mem_of_getElem? hc)).k
      have HK : Hid (atPs P k0 (k + 1) = nextK c (atPs P k0 k)) := atPs_succ hc
      obtain ⟨hw, rfl, hg, c0, c1⟩ := hR.el k y c hy (by rw [markTo_get, hc]; show some (if k < k then _ else _) = _; rw [if_neg (Nat.lt_irrefl k)])
      obtain ⟨ua, l, na, g1, nc, e1, e2, hW⟩ := hw
      have HU1 := Lib.hid e1
      have HU2 := Lib.hid e2
      rw [e1] at c0
      rw [e2] at c1
      obtain ⟨K, eK⟩ : ∃ K, atPs P k0 k = K := ⟨_, rfl⟩
      rw [eK] at hK hm HK
      have EK := Lib.hid eK
      have hgt := HT.out y (List.mem_of_getElem? hy)
      have lt2 := Lib.hid (fun r (hr : r < c.m.n) (hl : 0 < c.m.L r) => (hW.mat.mat.row r hr 0 hl).2.1)
      have lt3 := Lib.hid (fun (hl : 0 < c.k) => (hW.row.row.row 0 hl).2.1)
      have hW' := Lib.hid hW
      have hKb : K ≤ 2305843009213693952 := by have : k * 1099512676352 ≤ 1048576 * 1099512676352 := Nat.mul_le_mul_right _ (by omega); omega
      rw [eK]
      clear hc hy hR hC hW e1 e2 eK hK
      go_wp2_with fail
      go_at_call 76
      refine (markIntSS_x hW'.out.hn hW'.out.hL hKb hW'.out.mat).mono ?_
      rintro e w2 ⟨rfl, hO, hM⟩
      have hO' := hO.mono (T := fun j => y.lo ≤ j ∧ j < y.hi) fun j ⟨r, hr, hl, e⟩ => ⟨by rw [e]; exact hW'.out.bG r hr hl, by rw [e]; exact lt2.out r hr hl⟩
      have d1 := (World.cell?_of_block (w := wr) (a := ⟨g, o + k * 2 + 1, none⟩) (hO'.block g (by omega))).trans c1
      have hR2 := Lib.hid (hW'.out.row.only hO fun hk ⟨r, hr, hl, e⟩ => hW'.out.ne r hr hl hk e.symm)
      have HO := Lib.hid hO'
      have HM := Lib.hid hM
      clear hO hO' hM c0 c1
      have hma : K + offs c.m.L c.m.n ≤ K + 1099511627776 := hm
      go_wp2_with fail
      go_at_call 77
      refine (markIntS_x (k0 := ((K + offs c.m.L c.m.n : Nat) : Int)) hW'.out.hk (by omega) (by omega) hR2.out).mono ?_
      rintro e w3 ⟨rfl, hO3, hR3⟩
      have hO3' := hO3.mono (T := fun j => y.lo ≤ j ∧ j < y.hi) fun j ⟨hl, e⟩ => ⟨by rw [e]; exact hW'.out.bg hl, by rw [e]; exact lt3.out hl⟩
      have hM3 := HM.out.only hO3 (fun hn ⟨hk, e⟩ => hW'.out.nb hn hk e) (fun r hr hl ⟨hk, e⟩ => hW'.out.ne r hr hl hk e)
      have hch : Chg (fun j => y.lo ≤ j ∧ j < y.hi) wr w3 := (Chg.of_only HO.out).trans (Chg.of_only hO3')
      have hall : CW w3 y (markC c K) := ⟨ua, l, na, g1, nc, HU1.out, HU2.out, hM3, hR3, hW'.out.ne, hW'.out.nb, hW'.out.bb, hW'.out.bG, hW'.out.bg, hW'.out.hn, hW'.out.hL, hW'.out.hk, Nat.le_trans hW'.out.hB hch.size⟩
      have hnext : Hid (PsW w3 (some ⟨g, o, none⟩) g o X (markTo P k0 (k + 1))) := HR.out.mark hch (fun i hi => hi) HY.out HC.out (by rw [EK.out]; exact hall) HA.out HT.out
      have hchs : Hid (Chg (fun j => ∃ y ∈ X, y.lo ≤ j ∧ j < y.hi) w w3) := HCh.out.trans (hch.mono fun j hj => ⟨y, List.mem_of_getElem? HY.out, hj⟩)
      have HV : Hid (atPs P k0 (k + 1) = K + offs c.m.L c.m.n + c.k) := HK.out
      clear hO3 hO3' hM3 hR3 hch hall
      go_wp2_with fail
      exact ⟨⟨k + 1, by omega, by go_num, by rw [HV.out]; go_num, hchs.out, hnext.out⟩, by simp [RowKit.intOf]; omega⟩
    · have hlt' : ¬ (k : Int) < n := by omega
      obtain rfl : k = n := by omega
      go_wp2_with fail
      go_ret
      exact ⟨rfl, hC, hR⟩
set_option maxRecDepth 100000 in
set_option maxHeartbeats 4000000 in
theorem markDesk_any {w : World} {B base k0 : Nat} {v : Value} {D : Dk Lc} (h : DeskW w B base v D) (h0 : k0 ≤ 1048576) :
    Calls Try.prog 21 #[v, .int .i64 (k0 : Int)] w fun e w' => e = .returned (.int .i64 (nextD D k0 : Int)) ∧ Chg (fun j => base ≤ j ∧ j < B) w w' ∧ DeskW w' B base v (markD D k0) := by
  obtain ⟨x, pa, pg, po, pc, X, rfl, h⟩ := h
  obtain ⟨n, hn⟩ : ∃ n, D.past.length = n := ⟨_, rfl⟩
  have HN := Lib.hid hn
  have hlen : n ≤ 1048576 := by rw [← hn]; exact h.len
  have hhi := h.now.hi
  obtain ⟨ua, l, na, g1, nc, e1, e2, hW⟩ := h.now
  obtain ⟨xu, xt, lo, hi⟩ := x
  dsimp only at e1 e2 hW hhi
  subst e1 e2
  dsimp only
  rw [hn]
  have Y := BoxN.start w #[.slice ua D.now.m.n l.cap, .slice na D.now.k nc, .slice pa n pc] 29
  have b0 := Y.below
  have q0 := Y.cell 0 rfl
  have q1 := Y.cell 1 rfl
  have q2 := Y.cell 2 rfl
  have hI := h.chg (S := fun _ => False) (Chg.of_below b0 fun j h1 h2 => absurd h1 (by omega)) (fun _ hj => hj.elim)
  have HI := Lib.hid hI
  have hbl := h.base_ _ (List.mem_cons_self ..)
  have hm := nextK_le h.now.small k0
  have hYW := Y.size
  have hWW := Lib.hid (hW.below b0 (by omega))
  have Hhi : Hid (∀ y ∈ X, base ≤ y.lo ∧ y.hi ≤ B) := fun y hy => ⟨h.base_ _ (List.mem_cons_of_mem _ hy), h.hi _ (List.mem_cons_of_mem _ hy)⟩
  have hxB : hi ≤ B := h.hi _ (List.mem_cons_self ..)
  have hBw := h.hB
  clear h hI hW hn
  go_enter Try.func21, Try.ntmps21
  go_wp2_with fail
  generalize w.alloc (.cells #[.slice ua D.now.m.n l.cap, .slice na D.now.k nc, .slice pa n pc] 29) = W at Y b0 q0 q1 q2 HI hYW hWW ⊢
  go_at_call 41
  refine (markLogic_w hWW.out (by omega)).mono ?_
  rintro e w2 ⟨rfl, c2, hW2⟩
  have hz2 := c2.size
  have hP2 : PsW w2 pa pg po X D.past := HI.out.past.chg c2 (fun y hy j hj => by
      have h1 := (List.pairwise_cons.1 HI.out.apart).1 y hy
      have h2 : lo ≤ j ∧ j < hi := hj
      have h3 : hi ≤ y.lo ∨ y.hi ≤ lo := h1
      omega) fun h0 hj => by
    have h1 : pg < lo ∨ hi ≤ pg := HI.out.top h0 _ (List.mem_cons_self ..)
    have h2 : lo ≤ pg ∧ pg < hi := hj
    omega
  have HP2 := Lib.hid hP2
  have r2 := (World.cell?_of_block (w := W) (a := ⟨w.heap.size, 2, none⟩) (c2.block w.heap.size (by omega) (by show ¬ (_ ∧ _); omega))).trans q2
  have hch2 : Chg (fun j => base ≤ j ∧ j < B) w w2 := (Chg.of_below b0 fun j h1 h2 => absurd h1 (by omega)).trans (c2.mono fun j hj => by
    have h2 : lo ≤ j ∧ j < hi := hj
    have h3 : base ≤ lo := hbl
    exact ⟨by omega, by omega⟩)
  have HC2 := Lib.hid hch2
  have HW2 := Lib.hid hW2
  have ek : markAt D.now.m k0 + D.now.k = nextK D.now k0 := rfl
  rw [ek]
  clear q0 q1 q2 hP2 hW2 hch2 ek
  go_wp2_with fail
  go_at_call 42
  by_cases hn0 : 0 < n
  · refine (markLogicS_any HP2.out HN.out hlen (by omega) (List.pairwise_cons.1 HI.out.apart).2 (fun y hy => HI.out.top (by rw [HN.out]; exact hn0) y (List.mem_cons_of_mem _ hy)) ).mono ?_
    rintro e w3 ⟨rfl, c3, hP3⟩
    have hch3 := HC2.out.trans (c3.mono (T := fun j => base ≤ j ∧ j < B) fun j hj => by
      obtain ⟨y, hy, h1, h2⟩ := hj
      have := Hhi.out y hy
      exact ⟨by omega, by omega⟩)
    have HF : Hid (DeskW w3 B base (.agg #[.slice ua D.now.m.n l.cap, .slice na D.now.k nc, .slice pa n pc]) (markD D k0)) := by
      refine ⟨⟨.slice ua D.now.m.n l.cap, .slice na D.now.k nc, lo, hi⟩, pa, pg, po, pc, X, ?_, ⟨ua, l, na, g1, nc, rfl, rfl, HW2.out.chg c3 fun j hj => ?_⟩, ?_, HI.out.apart, HI.out.base_, fun h0 => ?_, fun h0 => ?_, ?_, HI.out.hi, fun h0 => ?_, Nat.le_trans (Nat.le_trans hBw b0.size) (Nat.le_trans hz2 c3.size)⟩
      · show Value.agg #[_, _, .slice pa n pc] = Value.agg #[_, _, .slice pa (markTo D.past _ _).length pc]
        rw [markTo_len, HN.out]
      · obtain ⟨y, hy, h1, h2⟩ := hj
        have h3 : hi ≤ y.lo ∨ y.hi ≤ lo := (List.pairwise_cons.1 HI.out.apart).1 y hy
        show j < lo ∨ hi ≤ j
        omega
      · show PsW w3 pa pg po X (markTo D.past (nextK D.now k0) D.past.length)
        rw [HN.out]
        exact hP3
      · exact HI.out.top (by have h1 : 0 < (markTo D.past (nextK D.now k0) D.past.length).length := h0; rwa [markTo_len] at h1)
      · exact HI.out.pgb (by have h1 : 0 < (markTo D.past (nextK D.now k0) D.past.length).length := h0; rwa [markTo_len] at h1)
      · show (markTo D.past (nextK D.now k0) D.past.length).length ≤ _
        rw [markTo_len]
        exact HI.out.len
      · exact HI.out.pgB (by have h1 : 0 < (markTo D.past (nextK D.now k0) D.past.length).length := h0; rwa [markTo_len] at h1)
    have HV : Hid (atPs D.past (nextK D.now k0) n = nextD D k0) := by show _ = _; unfold nextD; rw [HN.out]
    have HC3 := Lib.hid hch3
    clear hch3 c3 hP3
    go_wp2_with fail
    go_ret
    exact ⟨congrArg (fun t : Nat => Ending.returned (.int .i64 (t : Int))) HV.out, HC3.out, HF.out⟩
  · obtain rfl : n = 0 := by omega
    have hp0 : D.past = [] := List.length_eq_zero_iff.1 HN.out
    have hX0 : X = [] := by
      have h1 := HP2.out.len
      rw [hp0] at h1
      exact List.length_eq_zero_iff.1 h1
    subst hX0
    refine (markLogicS_any HP2.out HN.out hlen (by omega) List.Pairwise.nil (fun y hy => absurd hy (by simp))).mono ?_
    rintro e w3 ⟨rfl, c3, hP3⟩
    have hch3 := HC2.out.trans (c3.mono (T := fun j => base ≤ j ∧ j < B) fun j hj => by
      obtain ⟨y, hy, h1, h2⟩ := hj
      exact absurd hy (by simp))
    have HF : Hid (DeskW w3 B base (.agg #[.slice ua D.now.m.n l.cap, .slice na D.now.k nc, .slice pa 0 pc]) (markD D k0)) := by
      refine ⟨⟨.slice ua D.now.m.n l.cap, .slice na D.now.k nc, lo, hi⟩, pa, pg, po, pc, [], ?_, ⟨ua, l, na, g1, nc, rfl, rfl, HW2.out.chg c3 fun j hj => ?_⟩, ?_, HI.out.apart, HI.out.base_, fun h0 => ?_, fun h0 => ?_, ?_, HI.out.hi, fun h0 => ?_, Nat.le_trans (Nat.le_trans hBw b0.size) (Nat.le_trans hz2 c3.size)⟩
      · show Value.agg #[_, _, .slice pa 0 pc] = Value.agg #[_, _, .slice pa (markTo D.past _ _).length pc]
        rw [markTo_len, HN.out]
      · obtain ⟨y, hy, h1, h2⟩ := hj
        exact absurd hy (by simp)
      · show PsW w3 pa pg po [] (markTo D.past (nextK D.now k0) D.past.length)
        rw [HN.out]
        exact hP3
      · exact HI.out.top (by have h1 : 0 < (markTo D.past (nextK D.now k0) D.past.length).length := h0; rwa [markTo_len] at h1)
      · exact HI.out.pgb (by have h1 : 0 < (markTo D.past (nextK D.now k0) D.past.length).length := h0; rwa [markTo_len] at h1)
      · show (markTo D.past (nextK D.now k0) D.past.length).length ≤ _
        rw [markTo_len]
        exact HI.out.len
      · exact HI.out.pgB (by have h1 : 0 < (markTo D.past (nextK D.now k0) D.past.length).length := h0; rwa [markTo_len] at h1)
    have HV : Hid (atPs D.past (nextK D.now k0) 0 = nextD D k0) := by show _ = _; unfold nextD; rw [HN.out]
    have HC3 := Lib.hid hch3
    clear hch3 c3 hP3
    go_wp2_with fail
    go_ret
    exact ⟨congrArg (fun t : Nat => Ending.returned (.int .i64 (t : Int))) HV.out, HC3.out, HF.out⟩
set_option maxRecDepth 100000 in
set_option maxHeartbeats 4000000 in
theorem heldLogicS_any {w : World} {a : Option Addr} {g o n cap k0 : Nat} {X : List Iv} {P : List Lc} (h : PsW w a g o X (markTo P k0 n)) (hs : ∀ c ∈ P, c.Small) (hn : P.length = n) (hn20 : n ≤ 1048576) (h0 : k0 ≤ 4398046511104) :
    Calls Try.prog 44 #[.slice a n cap, .int .i64 (k0 : Int)] w fun e w' => e = .returned (.int .i64 (atPs P k0 n : Int)) ∧ w = w' := by
  have HS := Lib.hid hs
  have HN := Lib.hid hn
  have HX : Hid (X.length = n) := by show _ = _; rw [h.len, markTo_len, hn]
  have HR := Lib.hid h
  clear h hn hs
  go_enter Try.func44, Try.ntmps44
  go_wp2_with fail
  go_loop [1, 5] (fun t i => ∃ k : Nat, k ≤ n ∧ i = .int .i64 k ∧ t = .int .i64 (atPs P k0 k : Int)) (fun _ i => n - (RowKit.intOf i).toNat)
  case atStart => exact ⟨0, Nat.zero_le _, rfl, rfl⟩
  case round =>
    obtain ⟨k, hk, rfl, rfl⟩ := hrel
    by_cases hlt : k < n
    · have hlt' : (k : Int) < n := by omega
      have hk0 : (0 : Int) ≤ k := by omega
      obtain ⟨c, hc⟩ : ∃ c, P[k]? = some c := ⟨_, List.getElem?_eq_getElem (by rw [HN.out]; exact hlt)⟩
      obtain ⟨y, hy⟩ : ∃ y, X[k]? = some y := ⟨_, List.getElem?_eq_getElem (by rw [HX.out]; exact hlt)⟩
      have hK := atPs_le (k0 := k0) HS.out k
      have HSm := Lib.hid (HS.out c (List.mem_of_getElem? hc))
      have hm := mark_le HSm.out (atPs P k0 k)
      have HK : Hid (atPs P k0 (k + 1) = nextK c (atPs P k0 k)) := atPs_succ hc
      obtain ⟨hw, rfl, hg, c0, c1⟩ := HR.out.el k y (markC c (atPs P k0 k)) hy (by rw [markTo_get, hc]; show some (if k < n then _ else _) = _; rw [if_pos hlt])
      obtain ⟨ua, l, na, g1, nc, e1, e2, hW⟩ := hw
      rw [e1] at c0
      rw [e2] at c1
      obtain ⟨K, eK⟩ : ∃ K, atPs P k0 k = K := ⟨_, rfl⟩
      rw [eK] at hK hm HK hW c0 c1
      have hW' := Lib.hid hW
      have hKb : K ≤ 2305843009213693952 := by have : k * 1099512676352 ≤ 1048576 * 1099512676352 := Nat.mul_le_mul_right _ (by omega); omega
      have en : (markC c K).m.n = c.m.n := rfl
      have ek : (markC c K).k = c.k := rfl
      rw [en] at c0
      rw [ek] at c1
      have hkk := HSm.out.k
      have hma : K + offs c.m.L c.m.n ≤ K + 1099511627776 := hm
      rw [eK]
      clear hc hy hW e1 e2 eK hK en ek
      go_wp2_with fail
      go_at_call 78
      refine (heldIntSS_x (m := c.m) HSm.out.n HSm.out.L hKb hW'.out.mat.mat).mono ?_
      rintro e w2 ⟨rfl, rfl⟩
      go_wp2_with fail
      go_at_call 79
      refine (heldIntS_x (k0 := ((K + offs c.m.L c.m.n : Nat) : Int)) HSm.out.k (by omega) (by omega) hW'.out.row.row).mono ?_
      rintro e w3 ⟨rfl, rfl⟩
      have HV : Hid (atPs P k0 (k + 1) = K + offs c.m.L c.m.n + c.k) := HK.out
      go_wp2_with fail
      exact ⟨⟨k + 1, by omega, by go_num, by rw [HV.out]; go_num⟩, by simp [RowKit.intOf]; omega⟩
    · have hlt' : ¬ (k : Int) < n := by omega
      obtain rfl : k = n := by omega
      go_wp2_with fail
      go_ret
      exact ⟨rfl, rfl⟩
set_option maxRecDepth 100000 in
set_option maxHeartbeats 4000000 in
theorem heldDesk_any {w : World} {B base k0 : Nat} {v : Value} {D : Dk Lc} (h : DeskW w B base v (markD D k0)) (hs : D.Small) (h0 : k0 ≤ 1048576) :
    Calls Try.prog 22 #[v, .int .i64 (k0 : Int)] w fun e w' => e = .returned (.int .i64 (nextD D k0 : Int)) ∧ Below w.heap.size w w' := by
  obtain ⟨x, pa, pg, po, pc, X, rfl, h⟩ := h
  obtain ⟨n, hn⟩ : ∃ n, D.past.length = n := ⟨_, rfl⟩
  have HN := Lib.hid hn
  have hlen : n ≤ 1048576 := by rw [← hn]; exact hs.len
  have hhi := h.now.hi
  obtain ⟨ua, l, na, g1, nc, e1, e2, hW⟩ := h.now
  obtain ⟨xu, xt, lo, hi⟩ := x
  dsimp only at e1 e2 hW hhi
  subst e1 e2
  have el : (markD D k0).past.length = n := by show (markTo D.past _ _).length = n; rw [markTo_len, hn]
  rw [el]
  have en : (markD D k0).now.m.n = D.now.m.n := rfl
  have ek : (markD D k0).now.k = D.now.k := rfl
  rw [en, ek]
  have Y := BoxN.start w #[.slice ua D.now.m.n l.cap, .slice na D.now.k nc, .slice pa n pc] 29
  have b0 := Y.below
  have q0 := Y.cell 0 rfl
  have q1 := Y.cell 1 rfl
  have q2 := Y.cell 2 rfl
  have hI := h.chg (S := fun _ => False) (Chg.of_below b0 fun j h1 h2 => absurd h1 (by omega)) (fun _ hj => hj.elim)
  have HP : Hid (PsW (w.alloc (.cells #[.slice ua D.now.m.n l.cap, .slice na D.now.k nc, .slice pa n pc] 29)) pa pg po X (markTo D.past (nextK D.now k0) n)) := by
    have h1 := hI.past
    have e2 : (markD D k0).past = markTo D.past (nextK D.now k0) n := by show markTo D.past _ D.past.length = _; rw [hn]
    rw [e2] at h1
    exact h1
  have hm := nextK_le hs.now k0
  have hWW := Lib.hid (hW.below b0 (by omega))
  have HS := Lib.hid hs
  clear h hI hW hn el en ek hs
  go_enter Try.func22, Try.ntmps22
  go_wp2_with fail
  generalize w.alloc (.cells #[.slice ua D.now.m.n l.cap, .slice na D.now.k nc, .slice pa n pc] 29) = W at Y b0 q0 q1 q2 HP hWW ⊢
  go_at_call 43
  refine (heldLogic_w (m := D.now.m) (k := D.now.k) (k0 := k0) hWW.out.mat.mat hWW.out.row.row hWW.out.hB HS.out.now.n HS.out.now.L HS.out.now.k (by omega)).mono ?_
  rintro e w2 ⟨rfl, b2⟩
  have hz2 := b2.size
  have Y2 := Y.step b2
  have B2 := b0.trans (b2.mono b0.size)
  have HP2 := Lib.hid (HP.out.chg (S := fun _ => False) (Chg.of_below b2 fun j h1 h2 => absurd h1 (by omega)) (fun _ _ _ hj => hj.elim) fun _ hj => hj)
  have ek : markAt D.now.m k0 + D.now.k = nextK D.now k0 := rfl
  rw [ek]
  clear q0 q1 q2 ek
  have q2 := Y2.cell 2 rfl
  go_wp2_with fail
  go_at_call 44
  refine (heldLogicS_any HP2.out HS.out.past HN.out hlen (by omega)).mono ?_
  rintro e w3 ⟨rfl, rfl⟩
  have HV : Hid (atPs D.past (nextK D.now k0) n = nextD D k0) := by show _ = _; unfold nextD; rw [HN.out]
  go_wp2_with fail
  go_ret
  exact ⟨congrArg (fun t : Nat => Ending.returned (.int .i64 (t : Int))) HV.out, B2⟩
end Go.Proofs.Ytojcgmgponnlpaa
