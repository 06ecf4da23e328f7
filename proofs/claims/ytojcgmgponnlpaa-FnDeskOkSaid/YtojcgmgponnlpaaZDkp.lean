import Derived.Test.YtojcgmgponnlpaaZDko
namespace Go.Proofs.Ytojcgmgponnlpaa
open Go.RowKit Go.Deep Go.Joins

theorem addr_add0 (b j : Nat) : (⟨b, 0, none⟩ : Addr).add j = ⟨b, j, none⟩ := by unfold Addr.add; split <;> simp_all
def ivC (y : Iv) : List Value := [y.u, y.t]
theorem flat2_at {L : List Iv} {k : Nat} {d : Iv} (h : L[k]? = some d) : (L.flatMap ivC)[k * 2]? = some d.u ∧ (L.flatMap ivC)[k * 2 + 1]? = some d.t := by
  induction L generalizing k with
  | nil => simp at h
  | cons x L ih =>
    rw [List.flatMap_cons]
    cases k with
    | zero =>
      obtain rfl : x = d := by simpa using h
      exact ⟨rfl, rfl⟩
    | succ k =>
      obtain ⟨h1, h2⟩ := ih (k := k) (by simpa using h)
      have hl : (ivC x).length = 2 := rfl
      refine ⟨?_, ?_⟩
      · rw [List.getElem?_append_right (by rw [hl]; omega), hl, show (k + 1) * 2 - 2 = k * 2 by omega]; exact h1
      · rw [List.getElem?_append_right (by rw [hl]; omega), hl, show (k + 1) * 2 + 1 - 2 = k * 2 + 1 by omega]; exact h2
theorem cells_newC (w : World) (t : TypeId) (l : List Value) : ∀ j u, l[j]? = some u → (w.alloc (.cells l.toArray t)).cell? ((⟨w.heap.size, 0, none⟩ : Addr).add j) = some u := by
  intro j u h
  rw [addr_add0]
  exact (BoxN.start w l.toArray t).cell j (by simpa using h)
theorem own_cellC {w : World} {base g cap : Nat} {e : TypeId} {k n : Nat} {xs : List Value} (h : w.ownsRow base e k (.slice (some ⟨g, 0, none⟩) n cap) n xs) {j : Nat} {x : Value} (hx : xs[j]? = some x) : w.cell? ⟨g, j, none⟩ = some x := by
  have := h.cells (g := g) rfl j x hx
  rw [addr_add0] at this
  exact this
/-- Logics under way, behind block p. -/
structure CpyD (w : World) (p k : Nat) (v : Value) (X : List Iv) (P : List Lc) : Prop where
  own : w.ownsRow (p + 1) 26 2 v k (X.flatMap ivC)
  len : X.length = k
  el : ∀ (j : Nat) (y : Iv) (c : Lc), X[j]? = some y → P[j]? = some c → CW w y c
  apart : X.Pairwise Iv.Apart
  lo : ∀ y ∈ X, p < y.lo ∧ y.hi ≤ w.heap.size
  top : ∀ g, v.ownBlock = some g → ∀ y ∈ X, g < y.lo ∨ y.hi ≤ g
theorem CpyD.nil (w : World) (p : Nat) (P : List Lc) : CpyD w p 0 (.slice none 0 0) [] P :=
  ⟨World.ownsRow_nil _ _ _ 2, rfl, fun j y c hy => by simp at hy, List.Pairwise.nil, fun y hy => absurd hy (by simp), fun g hg => by cases hg⟩
theorem CpyD.chg {S : Nat → Prop} {w w' : World} {p k : Nat} {v : Value} {X : List Iv} {P : List Lc} (h : CpyD w p k v X P) (hc : Chg S w w') (hS : ∀ j, S j → j ≤ p ∨ w.heap.size ≤ j) : CpyD w' p k v X P :=
  ⟨hc.own h.own fun g hg e => by have h1 := ownsRow_block h.own g hg; have h2 := own_lt h.own g hg; have := hS g e; omega, h.len, fun j y c hy hP => (h.el j y c hy hP).chg hc fun q hq => by have h1 := h.lo y (List.mem_of_getElem? hy); have := hS q hq; omega,
   h.apart, fun y hy => ⟨(h.lo y hy).1, Nat.le_trans (h.lo y hy).2 hc.size⟩, h.top⟩
theorem CpyD.more {wo wi w4 : World} {p k : Nat} {v v' : Value} {X : List Iv} {P : List Lc} {y : Iv} {c : Lc} {o : Obj} (h : CpyD wo p k v X P) (hb : Below wo.heap.size wo wi) (hw : CW wi y c) (hy : wo.heap.size ≤ y.lo) (hP : P[k]? = some c) (hp : p < wo.heap.size)
    (hown : w4.ownsRow (p + 1) 26 2 v' (k + 1) (X.flatMap ivC ++ [y.u, y.t])) (hg : (wi.alloc o).grownBy w4 v.ownBlock) (hat : v'.ownBlock = v.ownBlock ∨ v'.ownBlock = some (wi.alloc o).heap.size) :
    CpyD w4 p (k + 1) v' (X ++ [y]) P ∧ Chg (fun j => p + 1 ≤ j) wo w4 := by
  have hvlt := own_lt h.own
  have hvb := ownsRow_block h.own
  have hc0 : Chg (fun j => v.ownBlock = some j) wo wi := Chg.of_below hb fun j h1 h2 => absurd h1 (by omega)
  have hc : Chg (fun j => v.ownBlock = some j) wi w4 := (Chg.alloc _ _ _).trans (Chg.of_grown hg fun j hj => hj)
  have hcc := hc0.trans hc
  have hsz := hb.size
  have hsz2 := hc.size
  have hhi := hw.hi
  refine ⟨⟨?_, by rw [List.length_append, h.len]; rfl, fun j y' c' hy' hc' => ?_, ?_, fun y' hy' => ?_, fun g hgv y' hy' => ?_⟩, hcc.mono fun j hj => hvb j hj⟩
  · rw [List.flatMap_append]
    simpa [ivC] using hown
  · by_cases hjk : j = k
    · subst hjk
      obtain rfl : c = c' := Option.some.inj (hP.symm.trans hc')
      have e : (X ++ [y])[j]? = some y := by rw [← h.len]; exact List.getElem?_concat_length ..
      obtain rfl : y = y' := Option.some.inj (e.symm.trans hy')
      exact hw.chg hc fun q hq => by have := hvlt q hq; omega
    · have hjl : j < X.length := by
        have := (List.getElem?_eq_some_iff.1 hy').1
        rw [List.length_append, List.length_singleton, h.len] at this
        rw [h.len]
        omega
      rw [List.getElem?_append_left hjl] at hy'
      exact (h.el j y' c' hy' hc').chg hcc fun q hq => h.top q hq y' (List.mem_of_getElem? hy')
  · refine List.pairwise_append.2 ⟨h.apart, List.pairwise_singleton .., fun x hx z hz => ?_⟩
    rw [List.mem_singleton] at hz
    rw [hz]
    have := (h.lo x hx).2
    exact .inl (by omega)
  · rcases List.mem_append.1 hy' with h7 | h7
    · have := h.lo y' h7
      omega
    · rw [List.mem_singleton] at h7
      rw [h7]
      omega
  · rcases hat with e | e
    · rw [e] at hgv
      rcases List.mem_append.1 hy' with h7 | h7
      · exact h.top g hgv y' h7
      · rw [List.mem_singleton] at h7
        rw [h7]
        have := hvlt g hgv
        omega
    · have e2 : (wi.alloc o).heap.size = g := by rw [e] at hgv; exact Option.some.inj hgv
      rw [World.size_alloc] at e2
      rcases List.mem_append.1 hy' with h7 | h7
      · have := h.lo y' h7
        omega
      · rw [List.mem_singleton] at h7
        rw [h7]
        omega
/-- A desk out of what is made. -/
theorem CpyD.desk {w : World} {p base : Nat} {v : Value} {X : List Iv} {x : Iv} {D : Dk Lc} (h : CpyD w p D.past.length v X D.past) (hx : CW w x D.now) (hb : base ≤ x.lo) (hb2 : base ≤ p) (hxp : x.hi ≤ p) (hl : D.past.length ≤ 1048576) : DeskW w w.heap.size base (.agg #[x.u, x.t, v]) D := by
  have hhi := hx.hi
  have hbase : ∀ y ∈ x :: X, base ≤ y.lo := fun y hy => by
    rcases List.mem_cons.1 hy with rfl | hy
    · exact hb
    · have := h.lo y hy; omega
  have hhis : ∀ y ∈ x :: X, y.hi ≤ w.heap.size := fun y hy => by
    rcases List.mem_cons.1 hy with rfl | hy
    · exact hhi
    · exact (h.lo y hy).2
  have hap : (x :: X).Pairwise Iv.Apart := List.pairwise_cons.2 ⟨fun y hy => .inl (by have := h.lo y hy; omega), h.apart⟩
  rcases ownsRow_forms h.own with ⟨rfl, h0⟩ | ⟨g, cap, rfl⟩
  · have hP : D.past = [] := List.length_eq_zero_iff.1 h0
    have hX : X = [] := List.length_eq_zero_iff.1 (by rw [h.len, h0])
    subst hX
    refine ⟨x, none, 0, 0, 0, [], by rw [h0], hx, by rw [hP]; exact PsW.nil .., hap, hbase, fun h1 => absurd h1 (by omega), fun h1 => absurd h1 (by omega), hl, hhis, fun h1 => absurd h1 (by omega), Nat.le_refl _⟩
  · have hgb := ownsRow_block h.own g rfl
    have hgl := own_lt h.own g rfl
    refine ⟨x, some ⟨g, 0, none⟩, g, 0, cap, X, rfl, hx, ⟨h.len, fun j y c hy hc => ?_⟩, hap, hbase, fun _ y hy => ?_, fun _ => by omega, hl, hhis, fun _ => hgl, Nat.le_refl _⟩
    · obtain ⟨h1, h2⟩ := flat2_at hy
      rw [Nat.zero_add]
      exact ⟨h.el j y c hy hc, rfl, hgl, own_cellC h.own h1, own_cellC h.own h2⟩
    · rcases List.mem_cons.1 hy with rfl | hy
      · right; omega
      · exact h.top g rfl y hy
/-- What the reference's copy of a desk is. -/
def CpyK (D : Dk Lc) (w : World) (e : Ending) (w' : World) : Prop := ∃ (x : Iv) (v : Value) (X : List Iv) (p : Nat), e = .returned (.agg #[x.u, x.t, v]) ∧ CW w' x D.now ∧ CpyD w' p D.past.length v X D.past ∧ w.heap.size ≤ x.lo ∧ x.hi ≤ p ∧ w.heap.size ≤ p ∧ p < w'.heap.size ∧ Below w.heap.size w w'
set_option maxRecDepth 100000 in
set_option maxHeartbeats 4000000 in
theorem spec_l11Copy {w : World} {B : Nat} {vD : Value} {D : Dk Lc} (h : DeskAt w B vD D) (hI : D.Is) :
    Calls Try.prog 85 #[vD] w (CpyK D w) := by
  obtain ⟨i0, hi, hz0, hz1, hz2⟩ := info_parts infoLogic
  have HI := Lib.hid hi
  have HZ0 := Lib.hid hz0
  have HZ1 := Lib.hid hz1
  have HZ2 := Lib.hid hz2
  clear hi hz0 hz1 hz2
  obtain ⟨ua, l, na, g, o, nc, pa, pg, po, pc, rfl, hL, hP, hn63⟩ := h
  obtain ⟨n, hn⟩ : ∃ n, D.past.length = n := ⟨_, rfl⟩
  have HN := Lib.hid hn
  have hn8 : n ≤ 8 := by rw [← hn]; exact hI.2.2
  have hBw := hL.hB
  rw [hn] at hn63 ⊢
  have HK : Hid (CpyK D w = fun e w' => ∃ (x : Iv) (v : Value) (X : List Iv) (p : Nat), e = .returned (.agg #[x.u, x.t, v]) ∧ CW w' x D.now ∧ CpyD w' p n v X D.past ∧ w.heap.size ≤ x.lo ∧ x.hi ≤ p ∧ w.heap.size ≤ p ∧ p < w'.heap.size ∧ Below w.heap.size w w') := by show _ = _; unfold CpyK; rw [hn]
  have hbx := ThreeAt.new w (.slice ua D.now.m.n l.cap) (.slice na D.now.k nc) (.slice pa n pc) 29
  have b1 := (Below.refl w.heap.size w).alloc (Nat.le_refl _) (.cells #[.slice ua D.now.m.n l.cap, .slice na D.now.k nc, .slice pa n pc] 29)
  have hrs := ThreeAt.new (w.alloc (.cells #[.slice ua D.now.m.n l.cap, .slice na D.now.k nc, .slice pa n pc] 29)) (.slice none 0 0) (.slice none 0 0) (.slice none 0 0) 29
  rw [World.size_alloc] at hrs
  have b2 := (Below.refl (w.heap.size + 1) (w.alloc (.cells #[.slice ua D.now.m.n l.cap, .slice na D.now.k nc, .slice pa n pc] 29))).alloc (by simp) (.cells #[.slice none 0 0, .slice none 0 0, .slice none 0 0] 29)
  have hbx2 := hbx.below b2 (by omega)
  have bw := b1.trans (b2.mono (by omega))
  have hsz : w.heap.size + 2 ≤ ((w.alloc (.cells #[.slice ua D.now.m.n l.cap, .slice na D.now.k nc, .slice pa n pc] 29)).alloc (.cells #[.slice none 0 0, .slice none 0 0, .slice none 0 0] 29)).heap.size := by simp
  have HL := Lib.hid (hL.step bw)
  have HP := Lib.hid (hP.step bw hBw)
  have HIs := Lib.hid hI
  clear hL hP hn hbx b1 b2 hI
  have q0 := hbx2.c0
  have q1 := hbx2.c1
  go_enter Try.func85, Try.ntmps85
  go_wp2_with fail
  generalize (w.alloc (.cells #[.slice ua D.now.m.n l.cap, .slice na D.now.k nc, .slice pa n pc] 29)).alloc (.cells #[.slice none 0 0, .slice none 0 0, .slice none 0 0] 29) = W at hbx2 hrs bw hsz HL HP q0 q1 ⊢
  go_at_call 111
  refine (spec_l11Logic (c := D.now) ⟨ua, l, na, g, o, nc, rfl, rfl, HL.out⟩ HIs.out.1).mono ?_
  rintro e w2 ⟨u2, t2, rfl, b2, hW2⟩
  have hz2 := b2.size
  obtain ⟨ux, lx, nx, gx, ncx, e1, e2, hWx⟩ := id hW2
  dsimp only at e1 e2
  subst e1 e2
  have hbx3 := hbx2.below b2 (by omega)
  have hrs3 := hrs.below b2 (by omega)
  have x1 := ThreeAt.new w2 (.slice ux D.now.m.n lx.cap) (.slice nx D.now.k ncx) (.slice none 0 0) 29
  have bb := (Below.refl w2.heap.size w2).alloc (Nat.le_refl _) (.cells #[.slice ux D.now.m.n lx.cap, .slice nx D.now.k ncx, .slice none 0 0] 29)
  have BB := b2.trans (bb.mono hz2)
  have hbx4 := hbx3.below bb (by omega)
  have hrs4 := hrs3.below bb (by omega)
  have HX0 : Hid (CW (w2.alloc (.cells #[.slice ux D.now.m.n lx.cap, .slice nx D.now.k ncx, .slice none 0 0] 29)) ⟨.slice ux D.now.m.n lx.cap, .slice nx D.now.k ncx, W.heap.size, w2.heap.size⟩ D.now) := hW2.chg (Chg.alloc (fun _ => False) _ _) fun _ hj => hj.elim
  have hlp : w2.heap.size < (w2.alloc (.cells #[.slice ux D.now.m.n lx.cap, .slice nx D.now.k ncx, .slice none 0 0] 29)).heap.size := by simp
  have hbx4W := Lib.hid hbx2
  have hrs4W := Lib.hid hrs
  clear q0 q1 hW2 hWx hbx3 hrs3 hbx2 hrs
  go_wp2_with fail
  generalize w2.alloc (.cells #[.slice ux D.now.m.n lx.cap, .slice nx D.now.k ncx, .slice none 0 0] 29) = w3 at x1 bb BB hbx4 hrs4 HX0 hlp ⊢
  obtain ⟨p, hp⟩ : ∃ p, w2.heap.size = p := ⟨_, rfl⟩
  have hWp : W.heap.size ≤ p := by omega
  rw [hp] at x1 HX0 hlp ⊢
  clear bb b2 hp hz2 hbx4 hrs4
  go_loopw [4] (fun i wr => ∃ (k : Nat) (v : Value) (X : List Iv), k ≤ n ∧ i = .int .i64 (k : Int) ∧ ThreeAt wr p (.slice ux D.now.m.n lx.cap) (.slice nx D.now.k ncx) v ∧ CpyD wr p k v X D.past ∧ CW wr ⟨.slice ux D.now.m.n lx.cap, .slice nx D.now.k ncx, W.heap.size, p⟩ D.now ∧ Below W.heap.size W wr ∧ p < wr.heap.size) (fun i _ => n - (RowKit.intOf i).toNat)
  case atStart => exact ⟨0, _, [], Nat.zero_le _, rfl, x1, CpyD.nil _ _ _, HX0.out, BB, hlp⟩
  case round =>
    obtain ⟨k, v, X, hk, rfl, hT, hC, hX, hB, hpl⟩ := hrel
    have hzr := hB.size
    by_cases hlt : k < n
    · have hlt' : (k : Int) < n := by omega
      have hk0 : (0 : Int) ≤ k := by omega
      obtain ⟨c, hc⟩ : ∃ c, D.past[k]? = some c := ⟨_, List.getElem?_eq_getElem (by rw [HN.out]; exact hlt)⟩
      have HC := Lib.hid hc
      have hbx5 := hbx4W.out.below hB (show w.heap.size < W.heap.size by omega)
      have q2 := hbx5.c2
      obtain ⟨rfl, hg', _, _, c0, c1, ua', l', na', g', o', nc', rfl, rfl, hL'⟩ := (HP.out.step hB (by omega)) k c hc
      have S0 : (fun w' => w'.cell? ⟨w.heap.size, 2, none⟩ = some (.slice (some ⟨pg, po, none⟩) n pc) ∧ w'.cell? ⟨p, 2, none⟩ = some v ∧ w'.cell? ⟨pg, po + k * 2, none⟩ = some (.slice ua' c.m.n l'.cap) ∧ w'.cell? ⟨pg, po + k * 2 + 1, none⟩ = some (.slice na' c.k nc')) wr := ⟨q2, hT.c2, c0, c1⟩
      have CA : Hid (CAt wr.drew B (.slice ua' c.m.n l'.cap) (.slice na' c.k nc') c) := ⟨ua', l', na', g', o', nc', rfl, rfl, hL'.step (Below.refl wr.heap.size wr).drew⟩
      have CI : Hid c.Is := HIs.out.2.1 c (List.mem_of_getElem? hc)
      have LS : Hid (w.heap.size < wr.heap.size) := by show _ < _; omega
      have LB : Hid (pg < wr.heap.size) := by show _ < _; omega
      have LP : Hid (p < wr.heap.size) := hpl
      have PP : Hid (w.heap.size < p) := by show _ < _; omega
      have PB : Hid (pg < p) := by show _ < _; omega
      have XP : Hid (W.heap.size ≤ p) := hWp
      have M4 : Hid (k + 1 ≤ maxLen) := by show _ ≤ _; unfold maxLen; omega
      have M5 : Hid ((k + 1) * 48 ≤ 140737488355328) := by show _ ≤ _; omega
      have HCD := Lib.hid hC
      have HX := Lib.hid hX
      have HB3 := Lib.hid hT
      have HBr := Lib.hid hB
      clear q2 c0 c1 hL' hC hX hT hbx5 hpl hc hg' hB
      go_wp2_with fail
      refine region_last (fuel := 12) (listed := #[false, false, false, false, false, false, false, false, false, false, false, false]) (fun w' => w'.cell? ⟨w.heap.size, 2, none⟩ = some (.slice (some ⟨pg, po, none⟩) n pc) ∧ w'.cell? ⟨p, 2, none⟩ = some v ∧ w'.cell? ⟨pg, po + k * 2, none⟩ = some (.slice ua' c.m.n l'.cap) ∧ w'.cell? ⟨pg, po + k * 2 + 1, none⟩ = some (.slice na' c.k nc')) 11 (by kernel_rfl) (by kernel_rfl) (by kernel_rfl) ?_
      refine last_take [0] (i := 0) (d := 16) (v := ?vD0) (listed' := #[true, false, false, false, false, false, false, false, false, false, false, false]) rfl (by kernel_rfl) (by kernel_rfl) (by kernel_rfl) rfl (by rfl) (by kernel_rfl) (by kernel_rfl) S0 ?hD0 ?rD0
      case hD0 =>
        intro w' hSw
        obtain ⟨k0, k1, k2, k3⟩ := hSw
        go_simp
        try with_reducible rfl
      simp only [List.setIfInBounds_toArray, List.set_cons_zero, List.set_cons_succ]
      refine last_take [1] (i := 1) (d := 17) (v := ?vD1) (listed' := #[true, true, false, false, false, false, false, false, false, false, false, false]) rfl (by kernel_rfl) (by kernel_rfl) (by kernel_rfl) rfl (by rfl) (by kernel_rfl) (by kernel_rfl) S0 ?hD1 ?rD1
      case hD1 =>
        intro w' hSw
        obtain ⟨k0, k1, k2, k3⟩ := hSw
        go_simp
        try with_reducible rfl
      simp only [List.setIfInBounds_toArray, List.set_cons_zero, List.set_cons_succ]
      refine last_take [2] (i := 2) (d := 18) (v := ?vD2) (listed' := #[true, true, true, false, false, false, false, false, false, false, false, false]) rfl (by kernel_rfl) (by kernel_rfl) (by kernel_rfl) rfl (by rfl) (by kernel_rfl) (by kernel_rfl) S0 ?hD2 ?rD2
      case hD2 =>
        intro w' hSw
        obtain ⟨k0, k1, k2, k3⟩ := hSw
        go_simp
        try with_reducible rfl
      simp only [List.setIfInBounds_toArray, List.set_cons_zero, List.set_cons_succ]
      refine last_take [3] (i := 3) (d := 19) (v := ?vD3) (listed' := #[true, true, true, true, false, false, false, false, false, false, false, false]) rfl (by kernel_rfl) (by kernel_rfl) (by kernel_rfl) rfl (by rfl) (by kernel_rfl) (by kernel_rfl) S0 ?hD3 ?rD3
      case hD3 =>
        intro w' hSw
        obtain ⟨k0, k1, k2, k3⟩ := hSw
        go_simp
        try with_reducible rfl
      simp only [List.setIfInBounds_toArray, List.set_cons_zero, List.set_cons_succ]
      refine last_take [4] (i := 4) (d := 20) (v := ?vD4) (listed' := #[true, true, true, true, true, false, false, false, false, false, false, false]) rfl (by kernel_rfl) (by kernel_rfl) (by kernel_rfl) rfl (by rfl) (by kernel_rfl) (by kernel_rfl) S0 ?hD4 ?rD4
      case hD4 =>
        intro w' hSw
        obtain ⟨k0, k1, k2, k3⟩ := hSw
        go_simp
        try with_reducible rfl
      simp only [List.setIfInBounds_toArray, List.set_cons_zero, List.set_cons_succ]
      refine last_take [5] (i := 5) (d := 21) (v := ?vD5) (listed' := #[true, true, true, true, true, true, false, false, false, false, false, false]) rfl (by kernel_rfl) (by kernel_rfl) (by kernel_rfl) rfl (by rfl) (by kernel_rfl) (by kernel_rfl) S0 ?hD5 ?rD5
      case hD5 =>
        intro w' hSw
        obtain ⟨k0, k1, k2, k3⟩ := hSw
        go_simp
        try with_reducible rfl
      simp only [List.setIfInBounds_toArray, List.set_cons_zero, List.set_cons_succ]
      refine last_take [6] (i := 6) (d := 22) (v := ?vD6) (listed' := #[true, true, true, true, true, true, true, false, false, false, false, false]) rfl (by kernel_rfl) (by kernel_rfl) (by kernel_rfl) rfl (by rfl) (by kernel_rfl) (by kernel_rfl) S0 ?hD6 ?rD6
      case hD6 =>
        intro w' hSw
        obtain ⟨k0, k1, k2, k3⟩ := hSw
        go_simp
        try with_reducible rfl
      simp only [List.setIfInBounds_toArray, List.set_cons_zero, List.set_cons_succ]
      refine last_call (i := 7) (d := 23) (listed' := #[true, true, true, true, true, true, true, true, false, false, false, false]) rfl (by kernel_rfl) rfl (by rfl) (by kernel_rfl) ?heD7 (spec_l11Logic (u := .slice ua' c.m.n l'.cap) (t := .slice na' c.k nc') CA.out CI.out) ?hcD7
      case heD7 => go_simp
      rintro e w7 ⟨u7, t7, rfl, b7, hW7⟩
      have hz7 := b7.size
      have b7' : Below wr.heap.size wr w7 := (Below.refl wr.heap.size wr).drew.trans b7
      have S1 : (fun w' => w'.cell? ⟨w.heap.size, 2, none⟩ = some (.slice (some ⟨pg, po, none⟩) n pc) ∧ w'.cell? ⟨p, 2, none⟩ = some v ∧ w'.cell? ⟨pg, po + k * 2, none⟩ = some (.slice ua' c.m.n l'.cap) ∧ w'.cell? ⟨pg, po + k * 2 + 1, none⟩ = some (.slice na' c.k nc')) w7 := ⟨(b7'.cell (p := ⟨w.heap.size, 2, none⟩) LS.out).trans S0.1, (b7'.cell (p := ⟨p, 2, none⟩) LP.out).trans S0.2.1, (b7'.cell (p := ⟨pg, po + k * 2, none⟩) LB.out).trans S0.2.2.1, (b7'.cell (p := ⟨pg, po + k * 2 + 1, none⟩) LB.out).trans S0.2.2.2⟩
      have S2 : ∀ o, (fun w' => w'.cell? ⟨w.heap.size, 2, none⟩ = some (.slice (some ⟨pg, po, none⟩) n pc) ∧ w'.cell? ⟨p, 2, none⟩ = some v ∧ w'.cell? ⟨pg, po + k * 2, none⟩ = some (.slice ua' c.m.n l'.cap) ∧ w'.cell? ⟨pg, po + k * 2 + 1, none⟩ = some (.slice na' c.k nc')) (w7.alloc o) := fun o => by
        have b := b7'.alloc b7'.size o
        exact ⟨(b.cell (p := ⟨w.heap.size, 2, none⟩) LS.out).trans S0.1, (b.cell (p := ⟨p, 2, none⟩) LP.out).trans S0.2.1, (b.cell (p := ⟨pg, po + k * 2, none⟩) LB.out).trans S0.2.2.1, (b.cell (p := ⟨pg, po + k * 2 + 1, none⟩) LB.out).trans S0.2.2.2⟩
      have HW7 := Lib.hid hW7
      have HB7 := Lib.hid b7'
      have TOP := Lib.hid (ownsRow_below HCD.out.own b7' (Nat.le_refl _))
      obtain ⟨ua7, l7, na7, g7, nc7, e1, e2, _⟩ := hW7
      dsimp only at e1 e2
      subst e1 e2
      clear b7 b7'
      refine ⟨_, rfl, S1, ?_⟩
      simp only [List.setIfInBounds_toArray, List.set_cons_zero, List.set_cons_succ]
      refine last_value (i := 8) (d := 24) (listed' := #[true, true, true, true, true, true, true, true, true, false, false, false]) rfl (by kernel_rfl) rfl (by rfl) (by kernel_rfl) (v := .slice (some ⟨w7.heap.size, 0, none⟩) 1 1) (w' := (w7.alloc (.cells #[.slice ua7 c.m.n l7.cap, .slice na7 c.k nc7] 26))) ?hvD8 (S2 (.cells #[.slice ua7 c.m.n l7.cap, .slice na7 c.k nc7] 26)) ?_
      case hvD8 =>
        go_simp
        try with_reducible rfl
      simp only [List.setIfInBounds_toArray, List.set_cons_zero, List.set_cons_succ]
      refine last_append (k := 9) (d := 25) (listed' := #[true, true, true, true, true, true, true, true, true, true, false, false]) rfl (by kernel_rfl) rfl (by kernel_rfl) rfl (.tmp 17) (.tmp 24) 27 rfl (p + 1) 26 i0 (.agg #[.slice none 0 0, .slice none 0 0]) 2 48 Try.underlying27 HI.out HZ0.out HZ1.out HZ2.out rfl (by decide) v k _ (by simp [Act.eval]) (World.ownsRow.alloc TOP.out _) ⟨w7.heap.size, 0, none⟩ 1 1 [.slice ua7 c.m.n l7.cap, .slice na7 c.k nc7] (by simp [Act.eval]) rfl (cells_newC w7 26 [.slice ua7 c.m.n l7.cap, .slice na7 c.k nc7]) (fun u hu => by rcases List.mem_cons.1 hu with rfl | hu; rfl; rw [List.mem_singleton] at hu; rw [hu]; rfl) M4.out M5.out (by rw [World.size_alloc]; have h1 := HB7.out.size; have h2 : p < wr.heap.size := LP.out; omega) ?_
      intro v10 w10 hown10 hgrow10 hat10
      obtain ⟨hR, hC10⟩ := HCD.out.more HB7.out HW7.out (Nat.le_refl _) HC.out LP.out hown10 hgrow10 hat10
      obtain ⟨g10, c10, rfl⟩ := ownsRow_form hown10 (Nat.succ_pos k)
      have S4 : (fun w' => w'.cell? ⟨w.heap.size, 2, none⟩ = some (.slice (some ⟨pg, po, none⟩) n pc) ∧ w'.cell? ⟨p, 2, none⟩ = some v ∧ w'.cell? ⟨pg, po + k * 2, none⟩ = some (.slice ua' c.m.n l'.cap) ∧ w'.cell? ⟨pg, po + k * 2 + 1, none⟩ = some (.slice na' c.k nc')) w10 := ⟨hC10.at_cellC (by show ¬ (p + 1 ≤ w.heap.size); have := PP.out; omega) S0.1, hC10.at_cellC (by show ¬ (p + 1 ≤ p); omega) S0.2.1, hC10.at_cellC (by show ¬ (p + 1 ≤ pg); have := PB.out; omega) S0.2.2.1, hC10.at_cellC (by show ¬ (p + 1 ≤ pg); have := PB.out; omega) S0.2.2.2⟩
      have HT := hC10.three HB3.out (by show ¬ (p + 1 ≤ p); omega)
      have F10 := HT.f2
      have HT2 := Lib.hid (HT.put2 (.slice (some ⟨g10, 0, none⟩) (k + 1) c10))
      have hs := Chg.set (S := fun j => j = p) (w := w10) (i := 2) rfl (.slice (some ⟨g10, 0, none⟩) (k + 1) c10)
      have HR := Lib.hid (hR.chg hs fun j hj => by have hj' : j = p := hj; omega)
      have HXC := Lib.hid ((HX.out.chg (hC10.mono (T := fun j => p ≤ j) fun j hj => by have : p + 1 ≤ j := hj; show p ≤ j; omega) fun j hj => .inr hj).chg hs fun j hj => .inr (by have hj' : j = p := hj; show p ≤ j; omega))
      have HC10 := Lib.hid ((hC10.mono (T := fun j => p ≤ j) fun j hj => by have : p + 1 ≤ j := hj; show p ≤ j; omega).trans (hs.mono fun j hj => by have hj' : j = p := hj; show p ≤ j; omega))
      clear hown10 hgrow10 hat10 hR hC10 HT hs
      refine ⟨S4, ?_⟩
      simp only [List.setIfInBounds_toArray, List.set_cons_zero, List.set_cons_succ]
      refine last_take [10] (i := 10) (d := 26) (v := ?vD10) (listed' := #[true, true, true, true, true, true, true, true, true, true, true, false]) rfl (by kernel_rfl) (by kernel_rfl) (by kernel_rfl) rfl (by rfl) (by kernel_rfl) (by kernel_rfl) S4 ?hD10 ?rD10
      case hD10 =>
        intro w' hSw
        obtain ⟨k0, k1, k2, k3⟩ := hSw
        go_simp
        try with_reducible rfl
      simp only [List.setIfInBounds_toArray, List.set_cons_zero, List.set_cons_succ]
      have F0 := S4.2.1
      refine last_store (w' := (w10.setCell ⟨p, 2, none⟩ (.slice (some ⟨g10, 0, none⟩) (k + 1) c10))) (listed' := #[true, true, true, true, true, true, true, true, true, true, true, true]) rfl (by kernel_rfl) rfl (by rfl) (by kernel_rfl) ?hsD11 ?hkD11
      case hsD11 => go_simp
      refine last_done (by kernel_rfl) ?_ _
      have HB10 : Hid (Below W.heap.size W (w10.setCell ⟨p, 2, none⟩ (.slice (some ⟨g10, 0, none⟩) (k + 1) c10))) := HBr.out.trans (HC10.out.below hzr fun j hj => by have hj' : p ≤ j := hj; omega)
      have HL10 : Hid (p < (w10.setCell ⟨p, 2, none⟩ (.slice (some ⟨g10, 0, none⟩) (k + 1) c10)).heap.size) := Nat.lt_of_lt_of_le LP.out HC10.out.size
      go_wp2_with fail
      exact ⟨⟨k + 1, _, _, by omega, by go_num, HT2.out, HR.out, HXC.out, HB10.out, HL10.out⟩, by simp [RowKit.intOf]; omega⟩
    · have hlt' : ¬ (k : Int) < n := by omega
      obtain rfl : k = n := by omega
      have hbx5 := hbx4W.out.below hB (show w.heap.size < W.heap.size by omega)
      have hrs5 := hrs4W.out.below hB (show w.heap.size + 1 < W.heap.size by omega)
      have q2 := hbx5.c2
      have hform : ∃ a m cc, v = .slice a m cc := by
        rcases ownsRow_forms hC.own with ⟨rfl, _⟩ | ⟨g, cap, rfl⟩
        · exact ⟨_, _, _, rfl⟩
        · exact ⟨_, _, _, rfl⟩
      obtain ⟨va, vn, vc, rfl⟩ := hform
      have k0 := hT.c0
      have k1 := hT.c1
      have k2 := hT.c2
      have r0 := hrs5.c0
      have r1 := hrs5.c1
      have r2 := hrs5.c2
      have r3 := hrs5.f0
      have r4 := hrs5.f1
      have r5 := hrs5.f2
      have hc3 := Chg.set3 wr (w.heap.size + 1) (.slice ux D.now.m.n lx.cap) (.slice nx D.now.k ncx) (.slice va vn vc)
      have HCF := Lib.hid (hC.chg hc3 fun j hj => by have hj' : j = w.heap.size + 1 := hj; omega)
      have HXF := Lib.hid (hX.chg hc3 fun j hj => by have hj' : j = w.heap.size + 1 := hj; show j < W.heap.size ∨ _; omega)
      have HBF := Lib.hid ((bw.trans (hB.mono (by omega))).trans (hc3.below (B := w.heap.size) (by omega) fun j hj => by have hj' : j = w.heap.size + 1 := hj; omega))
      have HPF : Hid (p < (((wr.setCell ⟨w.heap.size + 1, 0, none⟩ (.slice ux D.now.m.n lx.cap)).setCell ⟨w.heap.size + 1, 1, none⟩ (.slice nx D.now.k ncx)).setCell ⟨w.heap.size + 1, 2, none⟩ (.slice va vn vc)).heap.size) := Nat.lt_of_lt_of_le hpl hc3.size
      have hWs : w.heap.size ≤ W.heap.size := by omega
      clear hC hX hT hB hc3
      go_wp2_with fail
      have hfin := ((hrs5.put0 (.slice ux D.now.m.n lx.cap)).put1 (.slice nx D.now.k ncx)).put2 (.slice va vn vc)
      have t0 := hfin.c0
      have t1 := hfin.c1
      have t2 := hfin.c2
      refine bodyPost_ret (v := .agg #[.slice ux D.now.m.n lx.cap, .slice nx D.now.k ncx, .slice va vn vc]) (by simp [results, Try.results85, go_sem, t0, t1, t2]) rfl ?_
      rw [HK.out]
      exact ⟨⟨.slice ux D.now.m.n lx.cap, .slice nx D.now.k ncx, W.heap.size, p⟩, _, X, p, rfl, HXF.out, HCF.out, hWs, Nat.le_refl _, Nat.le_trans hWs hWp, HPF.out, HBF.out⟩
end Go.Proofs.Ytojcgmgponnlpaa
