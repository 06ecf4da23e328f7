import Derived.Test.YtojcgmgponnlpaaZDkv
import Derived.Test.YtojcgmgponnlpaaZDkx
import Derived.Test.YtojcgmgponnlpaaZXm
namespace Go.Proofs.Ytojcgmgponnlpaa
open Go.RowKit Go.Deep Go.Joins

theorem back_some {D : Dk Lc} (h : D.past ≠ []) : ∃ E, D.back = some E := by
  unfold Dk.back
  cases e : D.past.getLast? with
  | none => exact absurd (List.getLast?_eq_none_iff.1 e) h
  | some x => exact ⟨_, rfl⟩
theorem spec_DeskDo_is {w : World} {B : Nat} {v : Value} {D : Dk Lc} {a : Dd} (h : DeskAt w B v D) (hI : D.Is) :
    Calls Try.prog 46 #[v, deedV a] w (DkResO w (doD D a).1 (doD D a).2) := by
  obtain ⟨kk, xx, bb⟩ := a
  by_cases hb : kk = 4 ∧ xx = 0 ∧ bb = 0 ∧ D.past ≠ []
  · obtain ⟨rfl, rfl, rfl, hne⟩ := hb
    obtain ⟨E, hE⟩ := back_some hne
    have hd : doD D ⟨4, 0, 0⟩ = (E, true) := by
      have h1 : stepC D ⟨4, 0, 0⟩ = some E := by
        unfold stepC Dk.step
        rw [if_pos ⟨rfl, rfl, rfl, hne⟩]
        exact hE
      unfold doD
      rw [h1]
    rw [hd]
    exact spec_DeskDo_back h hI hE
  · have hs := stepC_on (D := D) (a := ⟨kk, xx, bb⟩) hb
    by_cases ht : (kk == 4 && (xx == 0 && bb == 0)) = true
    · rw [Bool.and_eq_true, Bool.and_eq_true, beq_iff_eq, beq_iff_eq, beq_iff_eq] at ht
      obtain ⟨rfl, rfl, rfl⟩ := ht
      have h0 : D.past = [] := Classical.byContradiction fun hne => hb ⟨rfl, rfl, rfl, hne⟩
      have hm : mkC D.now ⟨4, 0, 0⟩ = none := by
        unfold mkC
        rw [if_neg (by decide), if_neg (by decide), if_neg (by decide), if_neg (by decide)]
      rw [hm] at hs
      have hd : doD D ⟨4, 0, 0⟩ = (D, false) := by unfold doD; rw [hs]
      rw [hd]
      exact do_none0 h hI h0 hm
    · have ht := Bool.not_eq_true _ ▸ ht
      cases hm : mkC D.now ⟨kk, xx, bb⟩ with
      | none =>
        rw [hm] at hs
        have hd : doD D ⟨kk, xx, bb⟩ = (D, false) := by unfold doD; rw [hs]
        rw [hd]
        exact do_none h hI ht hm
      | some c =>
        rw [hm] at hs
        dsimp only at hs
        cases hsm : sameC c D.now with
        | true =>
          rw [hsm, if_pos rfl] at hs
          have hd : doD D ⟨kk, xx, bb⟩ = (D, false) := by unfold doD; rw [hs]
          rw [hd]
          exact do_same h hI ht hm hsm
        | false =>
          rw [hsm, if_neg (by decide)] at hs
          have hd : doD D ⟨kk, xx, bb⟩ = (D.put c, true) := by unfold doD; rw [hs]
          rw [hd]
          exact do_put h hI ht hm hsm
theorem spec_DeskDo_own {w : World} {B : Nat} {v : Value} {D : Dk Lc} {a : Dd} (h : DeskAt w B v D) :
    Calls Try.prog 46 #[v, deedV a] w (DkResO w (doR D a).1 (doR D a).2) := by
  unfold doR
  cases hok : D.okB with
  | false => exact spec_DeskDo_no h hok
  | true => exact spec_DeskDo_is (h.sq hok) (Dk.sq_is hok)
theorem doD_is {D : Dk Lc} {a : Dd} (h : D.Is) : (doD D a).1.Is := by
  unfold doD
  cases e : stepC D a with
  | none => exact h
  | some E => exact stepC_is h e
end Go.Proofs.Ytojcgmgponnlpaa
namespace Go.Proofs.Ytojcgmgponnlpaa
open Go.RowKit Go.Deep Go.Joins

/-- A desk of one's own in a box. -/
def BoxO (N : Nat) (wx : World) (p : Nat) (R : Dk Lc) : Prop := ∃ (x : Iv) (pv : Value) (X : List Iv) (B base : Nat), ThreeAt wx p x.u x.t pv ∧ DkO wx B base x pv X R ∧ N ≤ base ∧ N ≤ p ∧ p < wx.heap.size ∧ (p < base ∨ B ≤ p)
theorem BoxO.chg {S : Nat → Prop} {N p : Nat} {wx w' : World} {R : Dk Lc} (h : BoxO N wx p R) (hc : Chg S wx w') (hS : ∀ j, S j → j < N ∨ wx.heap.size ≤ j) : BoxO N w' p R := by
  obtain ⟨x, pv, X, B, base, hT, hO, h1, h2, h3, h4⟩ := h
  have hB := hO.hB
  refine ⟨x, pv, X, B, base, hc.three hT fun e => ?_, hO.chg hc fun j hj => ?_, h1, h2, Nat.lt_of_lt_of_le h3 hc.size, h4⟩
  · have := hS p e; omega
  · have := hS j hj; omega
theorem slices_of {w : World} {B base : Nat} {x : Iv} {pv : Value} {X : List Iv} {R : Dk Lc} (h : DkO w B base x pv X R) : ∃ ua l na nc va vc, x.u = .slice ua R.now.m.n (Lay.cap l) ∧ x.t = .slice na R.now.k nc ∧ pv = .slice va R.past.length vc := by
  obtain ⟨ua, l, na, g, nc, e1, e2, _⟩ := id h.now
  obtain ⟨va, g2, vc, e3, _⟩ := own_ps h.own h.len h.el (fun y hy => (h.lo y (List.mem_cons_of_mem _ hy)).2) (fun g hg => (h.top g hg).1) h.hB
  exact ⟨ua, l, na, nc, va, vc, e1, e2, e3⟩
/-- What turns but what came anew. -/
theorem Chg.fresh {S T : Nat → Prop} {w0 w w' : World} (h : Chg S w0 w) (h2 : Chg T w w') (hT : ∀ j, T j → w0.heap.size ≤ j) : Chg S w0 w' :=
  ⟨h2.os.trans h.os, h2.tape.trans h.tape, h2.output.trans h.output, Nat.le_trans h.size h2.size, fun j hj hs => (h2.block j (Nat.lt_of_lt_of_le hj h.size) fun e => by have := hT j e; omega).trans (h.block j hj hs)⟩
/-- The drawing under way. -/
structure DkL (w : World) (rb : Nat) (A : Option Addr) (n c p bd : Nat) (D : Dk Lc) (W : World) : Prop where
  box : BoxO (w.heap.size + 1) W bd D
  res : ThreeAt W w.heap.size (.slice none 0 0) (.slice none 0 0) (.slice none 0 0)
  rd : Rd W rb A n c p
  old : Chg (fun j => j = rb) w W
  k1 : 1 ≤ D.now.k
  k12 : D.now.k ≤ 12
  hrb : rb < w.heap.size
theorem DkL.rbW {w W : World} {rb n c p bd : Nat} {A : Option Addr} {D : Dk Lc} (h : DkL w rb A n c p bd D W) : rb < W.heap.size := Nat.lt_of_lt_of_le h.hrb h.old.size
theorem DkL.chg {w W W' : World} {rb n c p p' bd : Nat} {A : Option Addr} {D : Dk Lc} (h : DkL w rb A n c p bd D W) (hc : Chg (fun j => j = rb) W W') (hr : Rd W' rb A n c p') : DkL w rb A n c p' bd D W' := by
  have h1 := h.hrb
  exact ⟨h.box.chg hc fun j hj => .inl (by have hj' : j = rb := hj; omega), hc.three h.res (by show ¬ (_ = rb); omega), hr, h.old.trans hc, h.k1, h.k12, h1⟩
/-- Another desk in the box. -/
theorem DkL.put {w W : World} {rb n c p bd N B base : Nat} {A : Option Addr} {D R : Dk Lc} {x : Iv} {pv : Value} {X : List Iv} (h : DkL w rb A n c p bd D W) (hO : DkO W B base x pv X R) (hN : N ≤ base) (hbd : bd < N) (k1 : 1 ≤ R.now.k) (k12 : R.now.k ≤ 12) :
    DkL w rb A n c p bd R (((W.setCell ⟨bd, 0, none⟩ x.u).setCell ⟨bd, 1, none⟩ x.t).setCell ⟨bd, 2, none⟩ pv) := by
  have h1 := h.hrb
  have hc := Chg.set3 W bd x.u x.t pv
  obtain ⟨x0, pv0, X0, B0, b0, hT, hO0, g1, g2, g3, g4⟩ := h.box
  have hs := hc.size
  refine ⟨⟨x, pv, X, B, base, ((hT.put0 _).put1 _).put2 _, hO.chg hc fun j hj => .inl (by have hj' : j = bd := hj; omega), by omega, g2, by omega, .inl (by omega)⟩, hc.three h.res (by show ¬ (_ = bd); omega), hc.rd h.rd h.rbW (by show ¬ (_ = bd); omega), h.old.fresh hc fun j hj => (by have hj' : j = bd := hj; omega), k1, k12, h1⟩
/-- What is drawn. -/
def DrawnDk (rb : Nat) (A : Option Addr) (n c p : Nat) (w : World) (e : Ending) (w' : World) : Prop :=
  ∃ (v : Value) (D : Dk Lc) (p' : Nat), e = .returned v ∧ (∀ w'', Chg (fun j => j < w.heap.size) w' w'' → DeskAt w'' w''.heap.size v D) ∧ D.now.k ≤ 12 ∧ Rd w' rb A n c p' ∧ p' ≤ p + 60 ∧ Chg (fun j => j = rb) w w'
/-- The end: stored into the result's box. -/
theorem dk_end {w wx : World} {rb n c p p' B base : Nat} {A : Option Addr} {D : Dk Lc} {x : Iv} {pv : Value} {X : List Iv} (hO : DkO wx B base x pv X D) (hb : w.heap.size < base) (hrb : rb < w.heap.size) (hr : Rd wx rb A n c p') (hold : Chg (fun j => j = rb) w wx) (hk : D.now.k ≤ 12) (hp : p' ≤ p + 60) :
    DrawnDk rb A n c p w (.returned (.agg #[x.u, x.t, pv])) (((wx.setCell ⟨w.heap.size, 0, none⟩ x.u).setCell ⟨w.heap.size, 1, none⟩ x.t).setCell ⟨w.heap.size, 2, none⟩ pv) := by
  have hc := Chg.set3 wx w.heap.size x.u x.t pv
  have hs := hold.size
  refine ⟨_, D, p', rfl, fun w'' hw => ?_, hk, hc.rd hr (by omega) (by show ¬ (_ = w.heap.size); omega), hp, hold.fresh hc fun j hj => (by have hj' : j = w.heap.size := hj; omega)⟩
  have h2 := (hO.chg hc fun j hj => .inl (by have hj' : j = w.heap.size := hj; omega)).chg hw fun j hj => .inl (by have hj' : j < w.heap.size := hj; omega)
  exact h2.at_.up h2.hB (Nat.le_refl _)
/-- Its first opposite gone. -/
theorem DeskAt.cut1 {w : World} {B nc : Nat} {u pv : Value} {na : Option Addr} {D : Dk Lc} (h : DeskAt w B (.agg #[u, .slice na D.now.k nc, pv]) D) (hk : 1 ≤ D.now.k) (a : Addr) (ha : na = some a) (nc' : Nat) :
    DeskAt w B (.agg #[u, .slice (some (a.add 1)) (D.now.k - 1) nc', pv]) ⟨⟨D.now.m, D.now.k - 1, fun i => D.now.z (1 + i)⟩, D.past⟩ := by
  obtain ⟨ua, l, na', g, o, nc2, pa, pg, po, pc, e, hL, hP, h63⟩ := h
  simp only [Value.agg.injEq, Array.mk.injEq, List.cons.injEq, Value.slice.injEq, and_true, true_and] at e
  obtain ⟨rfl, ⟨rfl, rfl⟩, rfl⟩ := e
  obtain ⟨e0, _, _⟩ := hL.row.row 0 (by omega)
  obtain rfl : a = ⟨g, o, none⟩ := Option.some.inj (ha.symm.trans e0)
  have hadd : (⟨g, o, none⟩ : Addr).add 1 = ⟨g, o + 1, none⟩ := by unfold Addr.add; rfl
  rw [hadd]
  refine ⟨ua, l, some ⟨g, o + 1, none⟩, g, o + 1, nc', pa, pg, po, pc, rfl, ⟨hL.mat, ⟨fun i hi => ?_⟩, hL.hn, hL.hL, by have := hL.hk; show D.now.k - 1 ≤ _; omega, hL.hB⟩, hP, h63⟩
  have hi' : i < D.now.k - 1 := hi
  obtain ⟨_, h2, h3⟩ := hL.row.row (1 + i) (by omega)
  exact ⟨rfl, h2, by rw [show o + 1 + i = o + (1 + i) by omega]; exact h3⟩
theorem DeskAt.cut0 {w : World} {B nc : Nat} {u pv : Value} {na : Option Addr} {D : Dk Lc} (h : DeskAt w B (.agg #[u, .slice na D.now.k nc, pv]) D) (nc' : Nat) :
    DeskAt w B (.agg #[u, .slice na (D.now.k - 1) nc', pv]) ⟨⟨D.now.m, D.now.k - 1, D.now.z⟩, D.past⟩ := by
  obtain ⟨ua, l, na', g, o, nc2, pa, pg, po, pc, e, hL, hP, h63⟩ := h
  simp only [Value.agg.injEq, Array.mk.injEq, List.cons.injEq, Value.slice.injEq, and_true, true_and] at e
  obtain ⟨rfl, ⟨rfl, rfl⟩, rfl⟩ := e
  refine ⟨ua, l, na, g, o, nc', pa, pg, po, pc, rfl, ⟨hL.mat, ⟨fun i hi => ?_⟩, hL.hn, hL.hL, by have := hL.hk; show D.now.k - 1 ≤ _; omega, hL.hB⟩, hP, h63⟩
  have hi' : i < D.now.k - 1 := hi
  exact hL.row.row i (by omega)
/-- None appended behind all of before. -/
theorem DkO.grow {T : Nat → Prop} {w w4 : World} {B base n : Nat} {x : Iv} {pv v' : Value} {X : List Iv} {D : Dk Lc} (h : DkO w B base x pv X D) (hvf : Chg T w w4) (hT : ∀ j, T j → ∀ y ∈ x :: X, j < y.lo ∨ y.hi ≤ j) (hn : D.past.length = n) (hl : n + 1 ≤ 1048576) (hown : w4.ownsRow base 26 2 v' (n + 1) (X.flatMap ivC ++ [.slice none 0 0, .slice none 0 0]))
    (hat : v'.ownBlock = pv.ownBlock ∨ ∃ g, v'.ownBlock = some g ∧ w.heap.size ≤ g) : DkO w4 w4.heap.size base x v' (X ++ [⟨.slice none 0 0, .slice none 0 0, w4.heap.size, w4.heap.size⟩]) ⟨D.now, D.past ++ [zeroC]⟩ := by
  subst hn
  have hB := h.hB
  have hw := hvf.size
  have hel : ∀ (j : Nat) (y : Iv) (c : Lc), X[j]? = some y → D.past[j]? = some c → CW w4 y c := fun j y c hy hc => (h.el j y c hy hc).chg hvf fun q hq => hT q hq y (List.mem_cons_of_mem _ (List.mem_of_getElem? hy))
  have hlen2 : (D.past ++ [zeroC]).length = D.past.length + 1 := by rw [List.length_append]; rfl
  have hxs : X.flatMap ivC ++ [.slice none 0 0, .slice none 0 0] = (X ++ [(⟨.slice none 0 0, .slice none 0 0, w4.heap.size, w4.heap.size⟩ : Iv)]).flatMap ivC := by rw [List.flatMap_append]; simp [ivC]
  refine ⟨h.now.chg hvf fun q hq => hT q hq x (List.mem_cons_self ..), by show (X ++ [_]).length = (D.past ++ [zeroC]).length; rw [hlen2, List.length_append, h.len]; rfl, fun j y d hy hd => ?_, by show w4.ownsRow base _ 2 v' (D.past ++ [zeroC]).length _; rw [hlen2, ← hxs]; exact hown, fun y hy => ?_, fun g hg => ⟨own_lt hown g hg, fun y hy => ?_⟩, by show (D.past ++ [zeroC]).length ≤ _; omega, Nat.le_refl _⟩
  · have hd : (D.past ++ [zeroC])[j]? = some d := hd
    by_cases hj : j < D.past.length
    · rw [List.getElem?_append_left (by rw [h.len]; exact hj)] at hy
      rw [List.getElem?_append_left hj] at hd
      exact hel j y d hy hd
    · obtain rfl : j = D.past.length := by have := (List.getElem?_eq_some_iff.1 hd).1; omega
      have e1 : (X ++ [(⟨.slice none 0 0, .slice none 0 0, w4.heap.size, w4.heap.size⟩ : Iv)])[X.length]? = some _ := List.getElem?_concat_length ..
      have e2 : (D.past ++ [zeroC])[D.past.length]? = some zeroC := List.getElem?_concat_length ..
      rw [h.len] at e1
      obtain rfl := Option.some.inj (e1.symm.trans hy)
      obtain rfl := Option.some.inj (e2.symm.trans hd)
      exact ⟨none, noLay, none, 0, 0, rfl, rfl, LogW.none w4 _ _ _⟩
  · rcases List.mem_cons.1 hy with rfl | hy
    · have := h.lo y (List.mem_cons_self ..); exact ⟨this.1, by omega⟩
    · rcases List.mem_append.1 hy with hy | hy
      · have := h.lo y (List.mem_cons_of_mem _ hy); exact ⟨this.1, by omega⟩
      · rw [List.mem_singleton] at hy
        rw [hy]
        obtain ⟨g, cap, e⟩ := ownsRow_form hown (Nat.succ_pos _)
        have h3 := ownsRow_block hown g (by rw [e]; rfl)
        have h4 := own_lt hown g (by rw [e]; rfl)
        exact ⟨by show base ≤ w4.heap.size; omega, Nat.le_refl _⟩
  · have hlt := own_lt hown g hg
    rcases hat with e | ⟨g2, e, hg2⟩
    · rw [e] at hg
      rcases List.mem_cons.1 hy with rfl | hy
      · exact (h.top g hg).2 y (List.mem_cons_self ..)
      · rcases List.mem_append.1 hy with hy | hy
        · exact (h.top g hg).2 y (List.mem_cons_of_mem _ hy)
        · rw [List.mem_singleton] at hy
          rw [hy]
          exact .inl hlt
    · obtain rfl : g2 = g := Option.some.inj (e.symm.trans hg)
      rcases List.mem_cons.1 hy with rfl | hy
      · have := (h.lo y (List.mem_cons_self ..)).2; exact .inr (by omega)
      · rcases List.mem_append.1 hy with hy | hy
        · have := (h.lo y (List.mem_cons_of_mem _ hy)).2; exact .inr (by omega)
        · rw [List.mem_singleton] at hy
          rw [hy]
          exact .inl hlt
theorem DeskAt.na_some {w : World} {B nc : Nat} {u pv : Value} {na : Option Addr} {D : Dk Lc} (h : DeskAt w B (.agg #[u, .slice na D.now.k nc, pv]) D) (hk : 1 ≤ D.now.k) : ∃ g o, na = some ⟨g, o, none⟩ := by
  obtain ⟨ua, l, na', g, o, nc2, pa, pg, po, pc, e, hL, hP, h63⟩ := h
  simp only [Value.agg.injEq, Array.mk.injEq, List.cons.injEq, Value.slice.injEq, and_true, true_and] at e
  obtain ⟨rfl, ⟨rfl, rfl⟩, rfl⟩ := e
  exact ⟨g, o, (hL.row.row 0 (by omega)).1⟩
/-- The end, whatever was stored. -/
theorem dk_close {T : Nat → Prop} {w ws W' : World} {rb n c p p' bd : Nat} {A : Option Addr} {D D' : Dk Lc} {v : Value} (hL : DkL w rb A n c p' bd D ws) (hcF : Chg T ws W') (hT : ∀ j, T j → w.heap.size ≤ j) (hst : ∀ w'', Chg (fun j => j < w.heap.size) W' w'' → DeskAt w'' w''.heap.size v D') (hk : D'.now.k ≤ 12) (hp : p' ≤ p + 60) :
    DrawnDk rb A n c p w (.returned v) W' := by
  have h1 := hL.hrb
  exact ⟨v, D', p', rfl, hst, hk, hcF.rd hL.rd hL.rbW (fun e => by have := hT rb e; omega), hp, hL.old.fresh hcF hT⟩
theorem CW.lohi {w : World} {x : Iv} {c : Lc} (h : CW w x c) (hk : 1 ≤ c.k) : x.lo ≤ x.hi := by
  obtain ⟨ua, l, na, g, nc, _, _, hW⟩ := h
  have h1 := hW.bg (by omega)
  obtain ⟨_, h2, _⟩ := hW.logAt.row.row 0 (by omega)
  omega
theorem doR_facts (D : Dk Lc) (a : Dd) : ((doR D a).2 = true → (doR D a).1.Is) ∧ (doR D a).1.past.length ≤ D.past.length + 1 := by
  unfold doR
  cases hok : D.okB with
  | false =>
    rw [if_neg (by decide)]
    exact ⟨fun h => (by cases h), Nat.zero_le _⟩
  | true =>
    rw [if_pos rfl]
    have hI := Dk.sq_is hok
    refine ⟨fun _ => doD_is hI, ?_⟩
    have hl : D.sq.past.length = D.past.length := by show (D.past.map Lc.sq).length = _; rw [List.length_map]
    rw [← hl]
    unfold doD
    cases e : stepC D.sq a with
    | none => exact Nat.le_succ _
    | some E =>
      show E.past.length ≤ _
      unfold stepC Dk.step at e
      split at e
      · unfold Dk.back at e
        split at e
        · cases e
          show D.sq.past.dropLast.length ≤ _
          rw [List.length_dropLast]; omega
        · cases e
      · split at e
        · split at e
          · cases e
          · cases e
            unfold Dk.put
            dsimp only
            split
            · rw [List.length_drop, List.length_append, List.length_singleton]; omega
            · rw [List.length_append, List.length_singleton]; omega
        · cases e
end Go.Proofs.Ytojcgmgponnlpaa
