import Derived.Test.YtojcgmgponnlpaaZDks
import Derived.Test.YtojcgmgponnlpaaZDky
import Derived.Test.YtojcgmgponnlpaaZDkf
namespace Go.Proofs.Ytojcgmgponnlpaa
open Go.RowKit Go.Deep Go.Joins

/-- What DeskDo hands back of a desk that is one. -/
noncomputable def doD (D : Dk Lc) (a : Dd) : Dk Lc × Bool := match stepC D a with
  | some E => (E, true)
  | none => (D, false)
noncomputable def doR (D : Dk Lc) (a : Dd) : Dk Lc × Bool := if D.okB = true then doD D.sq a else (zeroD, false)
theorem iv_pair {X : List Iv} {x : Iv} (h : (X ++ [x]).Pairwise Iv.Apart) : (x :: X).Pairwise Iv.Apart := by
  obtain ⟨h1, _, h3⟩ := List.pairwise_append.1 h
  exact List.pairwise_cons.2 ⟨fun y hy => (h3 y hy x (by simp)).symm, h1⟩
theorem split_last {α : Type} {X : List α} {n : Nat} {y : α} (hl : X.length = n + 1) (hy : X[n]? = some y) : X = X.dropLast ++ [y] := by
  have hne : X ≠ [] := fun e => by rw [e] at hl; simp at hl
  have h1 := List.dropLast_concat_getLast hne
  have h2 : X.getLast hne = y := by
    have h3 : X.getLast? = some y := by rw [List.getLast?_eq_getElem?, hl]; exact hy
    rw [List.getLast?_eq_some_getLast hne] at h3
    exact Option.some.inj h3
  rw [h2] at h1
  exact h1.symm
/-- The last logic of before put back. -/
theorem CpyD.back {w : World} {p n g cap base : Nat} {X : List Iv} {P : List Lc} {y : Iv} {c : Lc} (h : CpyD w p (n + 1) (.slice (some ⟨g, 0, none⟩) (n + 1) cap) X P) (hP : P.length = n + 1) (hy : X[n]? = some y) (hc : P[n]? = some c) (hb : base ≤ p) (hn : n ≤ 1048576) :
    DeskW w w.heap.size base (.agg #[y.u, y.t, .slice (some ⟨g, 0, none⟩) n cap]) ⟨c, P.dropLast⟩ := by
  have hgb := ownsRow_block h.own g rfl
  have hgl := own_lt h.own g rfl
  have hX := split_last h.len hy
  have hlX : X.dropLast.length = n := by rw [List.length_dropLast, h.len]; rfl
  have hlP : P.dropLast.length = n := by rw [List.length_dropLast, hP]; rfl
  have hmem : ∀ z ∈ y :: X.dropLast, z ∈ X := fun z hz => by
    rcases List.mem_cons.1 hz with rfl | hz
    · exact List.mem_of_getElem? hy
    · exact List.dropLast_subset _ hz
  refine ⟨y, some ⟨g, 0, none⟩, g, 0, cap, X.dropLast, by rw [hlP], h.el n y c hy hc, ⟨by rw [hlX, hlP], fun j z d hz hd => ?_⟩, iv_pair (by rw [← hX]; exact h.apart), fun z hz => by have := h.lo z (hmem z hz); omega, fun _ z hz => h.top g rfl z (hmem z hz), fun _ => by omega, by show P.dropLast.length ≤ _; omega,
    fun z hz => (h.lo z (hmem z hz)).2, fun _ => hgl, Nat.le_refl _⟩
  have hj : j < n := by have := (List.getElem?_eq_some_iff.1 hz).1; omega
  have hz' : X[j]? = some z := by rw [hX, List.getElem?_append_left (by omega)]; exact hz
  have hd' : P[j]? = some d := by
    rw [List.getElem?_dropLast] at hd
    split at hd
    · exact hd
    · cases hd
  obtain ⟨h1, h2⟩ := flat2_at hz'
  rw [Nat.zero_add]
  exact ⟨h.el j z d hz' hd', rfl, hgl, own_cellC h.own h1, own_cellC h.own h2⟩
theorem PsW.drop {w : World} {a : Option Addr} {g o : Nat} {X : List Iv} {P : List Lc} (h : PsW w a g o X P) : PsW w (some ⟨g, o + 2, none⟩) g (o + 2) (X.drop 1) (P.drop 1) := by
  refine ⟨by rw [List.length_drop, List.length_drop, h.len], fun j y c hy hc => ?_⟩
  rw [List.getElem?_drop] at hy hc
  obtain ⟨h1, h2, h3, h4, h5⟩ := h.el (1 + j) y c hy hc
  have e : o + 2 + j * 2 = o + (1 + j) * 2 := by omega
  refine ⟨h1, rfl, h3, ?_, ?_⟩
  · rw [e]; exact h4
  · rw [e]; exact h5
/-- A logic put on a desk: what was there is behind all of before. -/
theorem put_desk {w : World} {p base n : Nat} {v' : Value} {X : List Iv} {P : List Lc} {x m : Iv} {c cm : Lc} (hown : w.ownsRow (p + 1) 26 2 v' (n + 1) (X.flatMap ivC ++ [x.u, x.t])) (hlen : X.length = n) (hPl : P.length = n)
    (hel : ∀ (j : Nat) (y : Iv) (c : Lc), X[j]? = some y → P[j]? = some c → CW w y c) (hx : CW w x c) (hm : CW w m cm) (hap : X.Pairwise Iv.Apart) (hlo : ∀ y ∈ X, p < y.lo ∧ y.hi ≤ m.lo) (hxp : x.hi ≤ p) (hpm : p ≤ m.lo)
    (htop : ∀ g, v'.ownBlock = some g → (∀ y ∈ X, g < y.lo ∨ y.hi ≤ g) ∧ (g < m.lo ∨ m.hi ≤ g)) (hb : base ≤ x.lo) (hbp : base ≤ p) (hn : n + 1 ≤ 1048576) :
    ∃ g cap, v' = .slice (some ⟨g, 0, none⟩) (n + 1) cap ∧ DeskW w w.heap.size base (.agg #[m.u, m.t, .slice (some ⟨g, 0, none⟩) (n + 1) cap]) ⟨cm, P ++ [c]⟩ ∧ ∀ capd, DeskW w w.heap.size base (.agg #[m.u, m.t, .slice (some ⟨g, 2, none⟩) n capd]) ⟨cm, (P ++ [c]).drop 1⟩ := by
  obtain ⟨g, cap, rfl⟩ := ownsRow_form hown (Nat.succ_pos n)
  have hgb := ownsRow_block hown g rfl
  have hgl := own_lt hown g rfl
  obtain ⟨ht1, ht2⟩ := htop g rfl
  have hlen2 : (P ++ [c]).length = n + 1 := by rw [List.length_append, hPl]; rfl
  have hps : PsW w (some ⟨g, 0, none⟩) g 0 (X ++ [x]) (P ++ [c]) := by
    refine ⟨by rw [List.length_append, hlen2, hlen]; rfl, fun j y d hy hd => ?_⟩
    have hxs : X.flatMap ivC ++ [x.u, x.t] = (X ++ [x]).flatMap ivC := by rw [List.flatMap_append]; simp [ivC]
    rw [hxs] at hown
    obtain ⟨h1, h2⟩ := flat2_at hy
    rw [Nat.zero_add]
    refine ⟨?_, rfl, hgl, own_cellC hown h1, own_cellC hown h2⟩
    by_cases hj : j < n
    · rw [List.getElem?_append_left (by omega)] at hy hd
      exact hel j y d hy hd
    · have hjn : j = n := by have := (List.getElem?_eq_some_iff.1 hd).1; omega
      subst hjn
      have e1 : (X ++ [x])[X.length]? = some x := List.getElem?_concat_length ..
      have e2 : (P ++ [c])[P.length]? = some c := List.getElem?_concat_length ..
      rw [hlen] at e1
      rw [hPl] at e2
      obtain rfl : x = y := Option.some.inj (e1.symm.trans hy)
      obtain rfl : c = d := Option.some.inj (e2.symm.trans hd)
      exact hx
  have hall : ∀ y ∈ X ++ [x], base ≤ y.lo ∧ y.hi ≤ m.lo ∧ (g < y.lo ∨ y.hi ≤ g) := fun y hy => by
    rcases List.mem_append.1 hy with hy | hy
    · have := hlo y hy
      exact ⟨by omega, this.2, ht1 y hy⟩
    · rw [List.mem_singleton] at hy
      rw [hy]
      exact ⟨hb, by omega, by omega⟩
  have hapx : (X ++ [x]).Pairwise Iv.Apart := List.pairwise_append.2 ⟨hap, List.pairwise_singleton .., fun y hy z hz => by
    rw [List.mem_singleton] at hz
    rw [hz]
    have := hlo y hy
    exact .inr (by omega)⟩
  have hhm := hm.hi
  have hhi : ∀ y ∈ X ++ [x], y.hi ≤ w.heap.size := fun y hy => by
    obtain ⟨i, hi, rfl⟩ := List.getElem_of_mem hy
    exact (hps.el i (X ++ [x])[i] ((P ++ [c])[i]'(by rw [← hps.len]; exact hi)) (List.getElem?_eq_getElem hi) (List.getElem?_eq_getElem (by rw [← hps.len]; exact hi))).1.hi
  have key : ∀ (Y : List Iv), (∀ y ∈ Y, y ∈ X ++ [x]) → Y.Pairwise Iv.Apart → (m :: Y).Pairwise Iv.Apart ∧ (∀ y ∈ m :: Y, base ≤ y.lo) ∧ (∀ y ∈ m :: Y, g < y.lo ∨ y.hi ≤ g) ∧ ∀ y ∈ m :: Y, y.hi ≤ w.heap.size := fun Y hY hp =>
    ⟨List.pairwise_cons.2 ⟨fun y hy => .inr (hall y (hY y hy)).2.1, hp⟩, fun y hy => by
      rcases List.mem_cons.1 hy with rfl | hy
      · omega
      · exact (hall y (hY y hy)).1, fun y hy => by
      rcases List.mem_cons.1 hy with rfl | hy
      · exact ht2
      · exact (hall y (hY y hy)).2.2, fun y hy => by
      rcases List.mem_cons.1 hy with rfl | hy
      · exact hhm
      · exact hhi y (hY y hy)⟩
  refine ⟨g, cap, rfl, ?_, fun capd => ?_⟩
  · obtain ⟨k1, k2, k3, k4⟩ := key (X ++ [x]) (fun y hy => hy) hapx
    exact ⟨m, some ⟨g, 0, none⟩, g, 0, cap, X ++ [x], by rw [hlen2], hm, hps, k1, k2, fun _ => k3, fun _ => by omega, by rw [hlen2]; exact hn, k4, fun _ => hgl, Nat.le_refl _⟩
  · obtain ⟨k1, k2, k3, k4⟩ := key ((X ++ [x]).drop 1) (fun y hy => List.mem_of_mem_drop hy) (hapx.sublist (List.drop_sublist 1 _))
    have hl3 : ((P ++ [c]).drop 1).length = n := by rw [List.length_drop, hlen2]; rfl
    exact ⟨m, some ⟨g, 2, none⟩, g, 2, capd, (X ++ [x]).drop 1, by rw [hl3], hm, hps.drop, k1, k2, fun _ => k3, fun _ => by omega, by rw [hl3]; omega, k4, fun _ => hgl, Nat.le_refl _⟩
set_option maxRecDepth 100000 in
set_option maxHeartbeats 4000000 in
theorem spec_DeskDo_no {w : World} {B : Nat} {v : Value} {D : Dk Lc} {a : Dd} (h : DeskAt w B v D) (hok : D.okB = false) :
    Calls Try.prog 46 #[v, deedV a] w (DkResO w zeroD false) := by
  have HOK := Lib.hid hok
  clear hok
  obtain ⟨kk, xx, bb⟩ := a
  unfold deedV
  dsimp only
  obtain ⟨ua, l, na, g, o, nc, pa, pg, po, pc, rfl, hL, hP, hn63⟩ := id h
  obtain ⟨n, hn⟩ : ∃ n, D.past.length = n := ⟨_, rfl⟩
  have HN := Lib.hid hn
  rw [hn] at h hn63 ⊢
  have hBw := hL.hB
  have X0 := ThreeAt.new w (.slice ua D.now.m.n l.cap) (.slice na D.now.k nc) (.slice pa n pc) 29
  have V0 := ThreeAt.new (w.alloc (.cells #[.slice ua D.now.m.n l.cap, .slice na D.now.k nc, .slice pa n pc] 29)) (.int .i64 kk) (.int .i64 xx) (.int .i64 bb) 70
  have R := ThreeAt.new ((w.alloc (.cells #[.slice ua D.now.m.n l.cap, .slice na D.now.k nc, .slice pa n pc] 29)).alloc (.cells #[.int .i64 kk, .int .i64 xx, .int .i64 bb] 70)) (.slice none 0 0) (.slice none 0 0) (.slice none 0 0) 29
  have c1 := (Below.refl w.heap.size w).alloc (Nat.le_refl _) (.cells #[.slice ua D.now.m.n l.cap, .slice na D.now.k nc, .slice pa n pc] 29)
  have c2 := (Below.refl (w.alloc (.cells #[.slice ua D.now.m.n l.cap, .slice na D.now.k nc, .slice pa n pc] 29)).heap.size (w.alloc (.cells #[.slice ua D.now.m.n l.cap, .slice na D.now.k nc, .slice pa n pc] 29))).alloc (Nat.le_refl _) (.cells #[.int .i64 kk, .int .i64 xx, .int .i64 bb] 70)
  have c3 := (Below.refl ((w.alloc (.cells #[.slice ua D.now.m.n l.cap, .slice na D.now.k nc, .slice pa n pc] 29)).alloc (.cells #[.int .i64 kk, .int .i64 xx, .int .i64 bb] 70)).heap.size ((w.alloc (.cells #[.slice ua D.now.m.n l.cap, .slice na D.now.k nc, .slice pa n pc] 29)).alloc (.cells #[.int .i64 kk, .int .i64 xx, .int .i64 bb] 70))).alloc (Nat.le_refl _) (.cells #[.slice none 0 0, .slice none 0 0, .slice none 0 0] 29)
  have X2 := (X0.below c2 (by simp)).below c3 (by simp; omega)
  have V2 := V0.below c3 (by simp)
  rw [World.size_alloc] at V2
  rw [World.size_alloc, World.size_alloc] at R
  have bw : Below w.heap.size w (((w.alloc (.cells #[.slice ua D.now.m.n l.cap, .slice na D.now.k nc, .slice pa n pc] 29)).alloc (.cells #[.int .i64 kk, .int .i64 xx, .int .i64 bb] 70)).alloc (.cells #[.slice none 0 0, .slice none 0 0, .slice none 0 0] 29)) := (c1.trans (c2.mono (by simp))).trans (c3.mono (by simp; omega))
  have hsz : w.heap.size + 3 ≤ (((w.alloc (.cells #[.slice ua D.now.m.n l.cap, .slice na D.now.k nc, .slice pa n pc] 29)).alloc (.cells #[.int .i64 kk, .int .i64 xx, .int .i64 bb] 70)).alloc (.cells #[.slice none 0 0, .slice none 0 0, .slice none 0 0] 29)).heap.size := by simp
  have hszb : (((w.alloc (.cells #[.slice ua D.now.m.n l.cap, .slice na D.now.k nc, .slice pa n pc] 29)).alloc (.cells #[.int .i64 kk, .int .i64 xx, .int .i64 bb] 70)).alloc (.cells #[.slice none 0 0, .slice none 0 0, .slice none 0 0] 29)).heap.size ≤ w.heap.size + 3 := by simp
  have HA := Lib.hid (h.step bw)
  clear hn
  have q0 := X2.c0
  have q1 := X2.c1
  have q2 := X2.c2
  clear h hL hP c1 c2 c3 X0 V0
  have eD := deed_eql kk xx bb 4 0 0
  go_enter Try.func46, Try.ntmps46
  go_wp2_with fail
  generalize (((w.alloc (.cells #[.slice ua D.now.m.n l.cap, .slice na D.now.k nc, .slice pa n pc] 29)).alloc (.cells #[.int .i64 kk, .int .i64 xx, .int .i64 bb] 70)).alloc (.cells #[.slice none 0 0, .slice none 0 0, .slice none 0 0] 29)) = W at X2 V2 R bw hsz hszb HA q0 q1 q2 ⊢
  go_at_call 9
  refine (spec_DeskOk HA.out).mono ?_
  rintro e w1 ⟨rfl, b1⟩
  rw [HOK.out]
  have X3 := X2.below b1 (by omega)
  have V3 := V2.below b1 (by omega)
  have R3 := R.below b1 (by omega)
  have HA3 := Lib.hid (HA.out.step b1)
  have bw3 := bw.trans (b1.mono (by omega))
  have hz1 := b1.size
  clear q0 q1 q2 X2 V2 R HA
  have q0 := X3.c0
  have q1 := X3.c1
  have q2 := X3.c2
  have r0 := R3.c0
  have r1 := R3.c1
  have r2 := R3.c2
  have r3 := R3.f0
  have r4 := R3.f1
  have r5 := R3.f2
  go_wp2_with fail
  have hfin := ((R3.put0 (.slice none 0 0)).put1 (.slice none 0 0)).put2 (.slice none 0 0)
  have t0 := hfin.c0
  have t1 := hfin.c1
  have t2 := hfin.c2
  have hc := Chg.set3 w1 (w.heap.size + 1 + 1) (.slice none 0 0) (.slice none 0 0) (.slice none 0 0)
  have hsc := hc.size
  refine bodyPost_ret (v := .tuple #[.agg #[.slice none 0 0, .slice none 0 0, .slice none 0 0], .bool false]) (by simp [results, Try.results46, go_sem, t0, t1, t2]) rfl ⟨_, rfl, zeroW _ _ (by omega), bw3.trans (hc.below (B := w.heap.size) (by omega) fun j hj => by have hj' : j = w.heap.size + 1 + 1 := hj; omega), fun _ => ⟨_, _, _, rfl, zeroO _ _ (by omega)⟩⟩
set_option maxRecDepth 100000 in
set_option maxHeartbeats 4000000 in
theorem spec_DeskDo_back {w : World} {B : Nat} {v : Value} {D E : Dk Lc} (h : DeskAt w B v D) (hI : D.Is) (hE : D.back = some E) :
    Calls Try.prog 46 #[v, deedV ⟨4, 0, 0⟩] w (DkResO w E true) := by
  have HOK := Lib.hid hI.okB
  have HI := Lib.hid hI
  have HE := Lib.hid hE
  clear hI hE
  obtain ⟨a, ha⟩ : ∃ a : Dd, a = ⟨4, 0, 0⟩ := ⟨_, rfl⟩
  have HEX : Hid (∃ y, D.past.getLast? = some y) := by
    show ∃ y, _
    have h1 := HE.out
    unfold Dk.back at h1
    cases h2 : D.past.getLast? with
    | none => rw [h2] at h1; cases h1
    | some y => exact ⟨y, rfl⟩
  clear ha
  unfold deedV
  dsimp only
  obtain ⟨ua, l, na, g, o, nc, pa, pg, po, pc, rfl, hL, hP, hn63⟩ := id h
  obtain ⟨n, hn⟩ : ∃ n, D.past.length = n := ⟨_, rfl⟩
  have HN := Lib.hid hn
  rw [hn] at h hn63 ⊢
  have hBw := hL.hB
  have X0 := ThreeAt.new w (.slice ua D.now.m.n l.cap) (.slice na D.now.k nc) (.slice pa n pc) 29
  have V0 := ThreeAt.new (w.alloc (.cells #[.slice ua D.now.m.n l.cap, .slice na D.now.k nc, .slice pa n pc] 29)) (.int .i64 4) (.int .i64 0) (.int .i64 0) 70
  have R := ThreeAt.new ((w.alloc (.cells #[.slice ua D.now.m.n l.cap, .slice na D.now.k nc, .slice pa n pc] 29)).alloc (.cells #[.int .i64 4, .int .i64 0, .int .i64 0] 70)) (.slice none 0 0) (.slice none 0 0) (.slice none 0 0) 29
  have c1 := (Below.refl w.heap.size w).alloc (Nat.le_refl _) (.cells #[.slice ua D.now.m.n l.cap, .slice na D.now.k nc, .slice pa n pc] 29)
  have c2 := (Below.refl (w.alloc (.cells #[.slice ua D.now.m.n l.cap, .slice na D.now.k nc, .slice pa n pc] 29)).heap.size (w.alloc (.cells #[.slice ua D.now.m.n l.cap, .slice na D.now.k nc, .slice pa n pc] 29))).alloc (Nat.le_refl _) (.cells #[.int .i64 4, .int .i64 0, .int .i64 0] 70)
  have c3 := (Below.refl ((w.alloc (.cells #[.slice ua D.now.m.n l.cap, .slice na D.now.k nc, .slice pa n pc] 29)).alloc (.cells #[.int .i64 4, .int .i64 0, .int .i64 0] 70)).heap.size ((w.alloc (.cells #[.slice ua D.now.m.n l.cap, .slice na D.now.k nc, .slice pa n pc] 29)).alloc (.cells #[.int .i64 4, .int .i64 0, .int .i64 0] 70))).alloc (Nat.le_refl _) (.cells #[.slice none 0 0, .slice none 0 0, .slice none 0 0] 29)
  have X2 := (X0.below c2 (by simp)).below c3 (by simp; omega)
  have V2 := V0.below c3 (by simp)
  rw [World.size_alloc] at V2
  rw [World.size_alloc, World.size_alloc] at R
  have bw : Below w.heap.size w (((w.alloc (.cells #[.slice ua D.now.m.n l.cap, .slice na D.now.k nc, .slice pa n pc] 29)).alloc (.cells #[.int .i64 4, .int .i64 0, .int .i64 0] 70)).alloc (.cells #[.slice none 0 0, .slice none 0 0, .slice none 0 0] 29)) := (c1.trans (c2.mono (by simp))).trans (c3.mono (by simp; omega))
  have hsz : w.heap.size + 3 ≤ (((w.alloc (.cells #[.slice ua D.now.m.n l.cap, .slice na D.now.k nc, .slice pa n pc] 29)).alloc (.cells #[.int .i64 4, .int .i64 0, .int .i64 0] 70)).alloc (.cells #[.slice none 0 0, .slice none 0 0, .slice none 0 0] 29)).heap.size := by simp
  have hszb : (((w.alloc (.cells #[.slice ua D.now.m.n l.cap, .slice na D.now.k nc, .slice pa n pc] 29)).alloc (.cells #[.int .i64 4, .int .i64 0, .int .i64 0] 70)).alloc (.cells #[.slice none 0 0, .slice none 0 0, .slice none 0 0] 29)).heap.size ≤ w.heap.size + 3 := by simp
  have HA := Lib.hid (h.step bw)
  clear hn
  have q0 := X2.c0
  have q1 := X2.c1
  have q2 := X2.c2
  clear h hL hP c1 c2 c3 X0 V0
  have eD := deed_eql 4 0 0 4 0 0
  go_enter Try.func46, Try.ntmps46
  go_wp2_with fail
  generalize (((w.alloc (.cells #[.slice ua D.now.m.n l.cap, .slice na D.now.k nc, .slice pa n pc] 29)).alloc (.cells #[.int .i64 4, .int .i64 0, .int .i64 0] 70)).alloc (.cells #[.slice none 0 0, .slice none 0 0, .slice none 0 0] 29)) = W at X2 V2 R bw hsz hszb HA q0 q1 q2 ⊢
  go_at_call 9
  refine (spec_DeskOk HA.out).mono ?_
  rintro e w1 ⟨rfl, b1⟩
  rw [HOK.out]
  have X3 := X2.below b1 (by omega)
  have V3 := V2.below b1 (by omega)
  have R3 := R.below b1 (by omega)
  have HA3 := Lib.hid (HA.out.step b1)
  have bw3 := bw.trans (b1.mono (by omega))
  have hz1 := b1.size
  clear q0 q1 q2 X2 V2 R HA
  have q0 := X3.c0
  have q1 := X3.c1
  have q2 := X3.c2
  have r0 := R3.c0
  have r1 := R3.c1
  have r2 := R3.c2
  have r3 := R3.f0
  have r4 := R3.f1
  have r5 := R3.f2
  go_wp2_with fail
  go_at_call 85
  refine (spec_l11Copy HA3.out HI.out).mono ?_
  rintro e w2 ⟨x, vP, X, p0, rfl, hx, hcp, hxlo, hxp, hwp, hp0, b2⟩
  rw [HN.out] at hcp
  obtain ⟨xu, xt, xlo, xhi⟩ := x
  dsimp only at hxlo hxp ⊢
  obtain ⟨ux, lx, nx, gx, ncx, e1, e2, _⟩ := id hx
  dsimp only at e1 e2
  subst e1 e2
  have hz2 := b2.size
  have X4 := X3.below b2 (by omega)
  have V4 := V3.below b2 (by omega)
  have R4 := R3.below b2 (by omega)
  have HA4 := Lib.hid (HA3.out.step b2)
  have bw4 := bw3.trans (b2.mono bw3.size)
  have hform : ∃ va vn vc, vP = .slice va vn vc := by
    rcases ownsRow_forms hcp.own with ⟨rfl, _⟩ | ⟨g, cap, rfl⟩
    · exact ⟨_, _, _, rfl⟩
    · exact ⟨_, _, _, rfl⟩
  obtain ⟨va, vn, vc, rfl⟩ := hform
  have HX2 := Lib.hid hx
  have HC2 := Lib.hid hcp
  have hxhi := hx.hi
  clear q0 q1 q2 r0 r1 r2 r3 r4 r5 X3 V3 R3 HA3 hx hcp b1 b2
  dsimp only at hxhi
  have aO := fun o => (Below.refl w2.heap.size w2).alloc (Nat.le_refl _) o
  have v0 := fun o => (V4.below (aO o) (by omega)).c0
  have v1 := fun o => (V4.below (aO o) (by omega)).c1
  have v2 := fun o => (V4.below (aO o) (by omega)).c2
  have q0 := fun o => (X4.below (aO o) (by omega)).c0
  have q1 := fun o => (X4.below (aO o) (by omega)).c1
  have q2 := fun o => (X4.below (aO o) (by omega)).c2
  have r0 := fun o => (R4.below (aO o) (by omega)).c0
  have r1 := fun o => (R4.below (aO o) (by omega)).c1
  have r2 := fun o => (R4.below (aO o) (by omega)).c2
  have r3 := fun o => (R4.below (aO o) (by omega)).f0
  have r4 := fun o => (R4.below (aO o) (by omega)).f1
  have r5 := fun o => (R4.below (aO o) (by omega)).f2
  have HX4 := Lib.hid X4
  have HV4 := Lib.hid V4
  have HR4 := Lib.hid R4
  clear X4 V4 R4
  have hn0 : 0 < n := by
    obtain ⟨y, hy⟩ := HEX.out
    rw [← HN.out]
    apply Classical.byContradiction
    intro h0
    have : D.past = [] := List.length_eq_zero_iff.1 (by omega)
    rw [this] at hy
    cases hy
  have hn0' : (n : Int) > 0 := by omega
  have hn0'' : (0 : Int) < n := by omega
  obtain ⟨n', rfl⟩ : ∃ n', n = n' + 1 := ⟨n - 1, by omega⟩
  obtain ⟨gP, cP, eP⟩ := ownsRow_form HC2.out.own hn0
  simp only [Value.slice.injEq] at eP
  obtain ⟨rfl, rfl, rfl⟩ := eP
  obtain ⟨y, hy⟩ : ∃ y, X[n']? = some y := ⟨_, List.getElem?_eq_getElem (by rw [HC2.out.len]; exact Nat.lt_succ_self n')⟩
  obtain ⟨c, hc⟩ : ∃ c, D.past[n']? = some c := ⟨_, List.getElem?_eq_getElem (by rw [HN.out]; exact Nat.lt_succ_self n')⟩
  have HEQ : Hid (E = ⟨c, D.past.dropLast⟩) := by
    show E = _
    have h1 := HE.out
    unfold Dk.back at h1
    rw [List.getLast?_eq_getElem?, HN.out, Nat.add_sub_cancel, hc] at h1
    exact (Option.some.inj h1).symm
  have HY := Lib.hid hy
  have HCc := Lib.hid hc
  obtain ⟨f1, f2⟩ := flat2_at hy
  have d0 := own_cellC HC2.out.own f1
  have d1 := own_cellC HC2.out.own f2
  obtain ⟨yu, yt, ylo, yhi⟩ := y
  dsimp only at d0 d1
  obtain ⟨uy, ly, ny, gy, ncy, e1, e2, _⟩ := HC2.out.el n' _ c hy hc
  dsimp only at e1 e2
  subst e1 e2
  have hgP : p0 + 1 ≤ gP := ownsRow_block HC2.out.own gP rfl
  have hcap : n' ≤ vc := by
    rcases HC2.out.own.2 with ⟨h0, _⟩ | ⟨g, cap, cur, hv, _, _, hc, _⟩
    · cases h0
    · simp only [Value.slice.injEq] at hv
      omega
  have hn8 : n' + 1 ≤ 8 := by have := HI.out.2.2; have := HN.out; omega
  have hcast : ((n' + 1 : Nat) : Int) - 1 = (n' : Int) := by omega
  have hcast2 : (n' : Int) + 1 - 1 = (n' : Int) := by omega
  have hk0 : (0 : Int) ≤ n' := by omega
  have hklt : (n' : Int) < ((n' + 1 : Nat) : Int) := by omega
  have hgl := own_lt HC2.out.own gP rfl
  have d0' := fun o => ((aO o).cell (p := ⟨gP, n' * 2, none⟩) hgl).trans d0
  have d1' := fun o => ((aO o).cell (p := ⟨gP, n' * 2 + 1, none⟩) hgl).trans d1
  clear d0 d1
  clear hy hc f1 f2
  go_wp2_with fail
  have R6 := HR4.out.below (aO (.cells #[.slice uy c.m.n ly.cap, .slice ny c.k ncy, .slice (some ⟨gP, 0, none⟩) n' vc] 29)) (by omega)
  have hfin := ((R6.put0 (.slice uy c.m.n ly.cap)).put1 (.slice ny c.k ncy)).put2 (.slice (some ⟨gP, 0, none⟩) n' vc)
  have t0 := hfin.c0
  have t1 := hfin.c1
  have t2 := hfin.c2
  have hcF := (Chg.alloc (fun j => j = w.heap.size + 1 + 1) w2 (.cells #[.slice uy c.m.n ly.cap, .slice ny c.k ncy, .slice (some ⟨gP, 0, none⟩) n' vc] 29)).trans (Chg.set3 (w2.alloc (.cells #[.slice uy c.m.n ly.cap, .slice ny c.k ncy, .slice (some ⟨gP, 0, none⟩) n' vc] 29)) (w.heap.size + 1 + 1) (.slice uy c.m.n ly.cap) (.slice ny c.k ncy) (.slice (some ⟨gP, 0, none⟩) n' vc))
  have HCF := HC2.out.chg hcF fun j hj => .inl (by have hj' : j = w.heap.size + 1 + 1 := hj; omega)
  have HF := HCF.back (base := w.heap.size) HN.out HY.out HCc.out (by omega) (by omega)
  have HO := HCF.backO (base := w.heap.size) HN.out HY.out HCc.out (by omega) (by omega)
  rw [← HEQ.out] at HF HO
  refine bodyPost_ret (v := .tuple #[.agg #[.slice uy c.m.n ly.cap, .slice ny c.k ncy, .slice (some ⟨gP, 0, none⟩) n' vc], .bool true]) (by simp [results, Try.results46, go_sem, t0, t1, t2]) rfl ⟨_, rfl, HF, bw4.trans (hcF.below (B := w.heap.size) (by omega) fun j hj => by have hj' : j = w.heap.size + 1 + 1 := hj; omega), fun _ => ⟨_, _, _, rfl, HO⟩⟩
end Go.Proofs.Ytojcgmgponnlpaa
