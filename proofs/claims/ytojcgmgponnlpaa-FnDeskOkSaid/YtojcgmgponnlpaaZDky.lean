import Derived.Test.YtojcgmgponnlpaaZDkp
namespace Go.Proofs.Ytojcgmgponnlpaa
open Go.RowKit Go.Deep Go.Joins

theorem own_base {w : World} {base base' : Nat} {e : TypeId} {size n : Nat} {v : Value} {xs : List Value} (h : w.ownsRow base e size v n xs) (hb : base' ≤ base) : w.ownsRow base' e size v n xs := by
  refine ⟨h.1, h.2.imp (fun h => h) ?_⟩
  rintro ⟨g, cap, cur, h1, h2, h3⟩
  exact ⟨g, cap, cur, h1, Nat.le_trans hb h2, h3⟩
/-- The last one is left out. -/
theorem own_cut {w : World} {base : Nat} {e : TypeId} {size n g cap : Nat} {xs : List Value} (h : w.ownsRow base e size (.slice (some ⟨g, 0, none⟩) (n + 1) cap) (n + 1) xs) : w.ownsRow base e size (.slice (some ⟨g, 0, none⟩) n cap) n (xs.take (n * size)) := by
  obtain ⟨h1, h2⟩ := h
  have hle : n * size ≤ (n + 1) * size := Nat.mul_le_mul_right _ (Nat.le_succ n)
  refine ⟨by rw [List.length_take, h1]; omega, .inr ?_⟩
  rcases h2 with ⟨h0, _⟩ | ⟨g', cap', cur, h3, h4, h5, h6, h7, h8, h9⟩
  · cases h0
  · simp only [Value.slice.injEq, Option.some.injEq, Addr.mk.injEq, and_true, true_and] at h3
    obtain ⟨rfl, rfl⟩ := h3
    refine ⟨g, cap, cur, rfl, h4, h5, by omega, h7, h8, ?_⟩
    rw [← h9, List.take_take, Nat.min_eq_left hle]
/-- A desk of one's own, the logics of before in a list of one's own. -/
structure DkO (w : World) (B base : Nat) (x : Iv) (pv : Value) (X : List Iv) (D : Dk Lc) : Prop where
  now : CW w x D.now
  len : X.length = D.past.length
  el : ∀ (j : Nat) (y : Iv) (c : Lc), X[j]? = some y → D.past[j]? = some c → CW w y c
  own : w.ownsRow base 26 2 pv D.past.length (X.flatMap ivC)
  lo : ∀ y ∈ x :: X, base ≤ y.lo ∧ y.hi ≤ B
  top : ∀ g, pv.ownBlock = some g → g < B ∧ ∀ y ∈ x :: X, g < y.lo ∨ y.hi ≤ g
  small : D.past.length ≤ 1048576
  hB : B ≤ w.heap.size
theorem DkO.chg {S : Nat → Prop} {w w' : World} {B base : Nat} {x : Iv} {pv : Value} {X : List Iv} {D : Dk Lc} (h : DkO w B base x pv X D) (hc : Chg S w w') (hS : ∀ j, S j → j < base ∨ B ≤ j) : DkO w' B base x pv X D :=
  ⟨h.now.chg hc fun j hj => by have h1 := h.lo x (List.mem_cons_self ..); have := hS j hj; omega, h.len,
   fun j y c hy hP => (h.el j y c hy hP).chg hc fun q hq => by have h1 := h.lo y (List.mem_cons_of_mem _ (List.mem_of_getElem? hy)); have := hS q hq; omega,
   hc.own h.own fun g hg e => by have h1 := ownsRow_block h.own g hg; have h2 := (h.top g hg).1; have := hS g e; omega, h.lo, h.top, h.small, Nat.le_trans h.hB hc.size⟩
/-- Lists that read as one's own. -/
theorem own_ps {w : World} {B base : Nat} {pv : Value} {X : List Iv} {P : List Lc} (own : w.ownsRow base 26 2 pv P.length (X.flatMap ivC)) (len : X.length = P.length) (el : ∀ (j : Nat) (y : Iv) (c : Lc), X[j]? = some y → P[j]? = some c → CW w y c) (lo : ∀ y ∈ X, y.hi ≤ B) (top : ∀ g, pv.ownBlock = some g → g < B) (hB : B ≤ w.heap.size) :
    ∃ pa pg pc, pv = .slice pa P.length pc ∧ PsAt w B pa pg 0 P := by
  rcases ownsRow_forms own with ⟨rfl, h0⟩ | ⟨g, cap, rfl⟩
  · have hP : P = [] := List.length_eq_zero_iff.1 h0
    rw [hP]
    exact ⟨none, 0, 0, rfl, PsAt.nil w B none 0 0⟩
  · refine ⟨some ⟨g, 0, none⟩, g, cap, rfl, fun j c hc => ?_⟩
    have hj : j < X.length := by rw [len]; exact (List.getElem?_eq_some_iff.1 hc).1
    have hy : X[j]? = some X[j] := List.getElem?_eq_getElem hj
    obtain ⟨h1, h2⟩ := flat2_at hy
    have hw := el j _ c hy hc
    refine ⟨rfl, top g rfl, X[j].u, X[j].t, ?_, ?_, (hw.at_).up (lo _ (List.mem_of_getElem? hy)) hB⟩
    · rw [Nat.zero_add]; exact own_cellC own h1
    · rw [Nat.zero_add]; exact own_cellC own h2
theorem DkO.at_ {w : World} {B base : Nat} {x : Iv} {pv : Value} {X : List Iv} {D : Dk Lc} (h : DkO w B base x pv X D) : DeskAt w B (.agg #[x.u, x.t, pv]) D := by
  obtain ⟨pa, pg, pc, rfl, hP⟩ := own_ps h.own h.len h.el (fun y hy => (h.lo y (List.mem_cons_of_mem _ hy)).2) (fun g hg => (h.top g hg).1) h.hB
  obtain ⟨ua, l, na, g, o, nc, e1, e2, hL⟩ := h.now.at_.up (h.lo x (List.mem_cons_self ..)).2 h.hB
  have hs := h.small
  rw [e1, e2]
  exact ⟨ua, l, na, g, o, nc, pa, pg, 0, pc, rfl, hL, hP, by omega⟩
theorem CpyD.deskO {w : World} {p base n : Nat} {v : Value} {X : List Iv} {x : Iv} {D : Dk Lc} (h : CpyD w p n v X D.past) (hn : D.past.length = n) (hx : CW w x D.now) (hb : base ≤ x.lo) (hb2 : base ≤ p) (hxp : x.hi ≤ p) (hl : D.past.length ≤ 1048576) : DkO w w.heap.size base x v X D := by
  subst hn
  refine ⟨hx, h.len, h.el, own_base h.own (by omega), fun y hy => ?_, fun g hg => ⟨own_lt h.own g hg, fun y hy => ?_⟩, hl, Nat.le_refl _⟩
  · rcases List.mem_cons.1 hy with rfl | hy
    · exact ⟨hb, hx.hi⟩
    · have := h.lo y hy; exact ⟨by omega, this.2⟩
  · rcases List.mem_cons.1 hy with rfl | hy
    · have := ownsRow_block h.own g hg; omega
    · exact h.top g hg y hy
theorem CpyD.backO {w : World} {p n g cap base : Nat} {X : List Iv} {P : List Lc} {y : Iv} {c : Lc} (h : CpyD w p (n + 1) (.slice (some ⟨g, 0, none⟩) (n + 1) cap) X P) (hP : P.length = n + 1) (hy : X[n]? = some y) (hc : P[n]? = some c) (hb : base ≤ p) (hn : n ≤ 1048576) :
    DkO w w.heap.size base y (.slice (some ⟨g, 0, none⟩) n cap) X.dropLast ⟨c, P.dropLast⟩ := by
  have hlX : X.dropLast.length = n := by rw [List.length_dropLast, h.len]; rfl
  have hlP : P.dropLast.length = n := by rw [List.length_dropLast, hP]; rfl
  have hmem : ∀ z ∈ y :: X.dropLast, z ∈ X := fun z hz => by
    rcases List.mem_cons.1 hz with rfl | hz
    · exact List.mem_of_getElem? hy
    · exact List.dropLast_subset _ hz
  have hcut := own_cut h.own
  have hf : (X.flatMap ivC).take (n * 2) = X.dropLast.flatMap ivC := by
    have hX : X = X.dropLast ++ [y] := by
      have hne : X ≠ [] := fun e => by have := h.len; rw [e] at this; simp at this
      have h1 := List.dropLast_concat_getLast hne
      have h2 : X.getLast hne = y := by
        have h3 : X.getLast? = some y := by rw [List.getLast?_eq_getElem?, h.len]; exact hy
        rw [List.getLast?_eq_some_getLast hne] at h3
        exact Option.some.inj h3
      rw [h2] at h1
      exact h1.symm
    have hall : ∀ Y : List Iv, (Y.flatMap ivC).length = Y.length * 2 := fun Y => by
      induction Y with
      | nil => rfl
      | cons a Y ih =>
        rw [List.flatMap_cons, List.length_append, ih, List.length_cons]
        show 2 + Y.length * 2 = _
        omega
    have hfl : (X.dropLast.flatMap ivC).length = n * 2 := by rw [hall, hlX]
    conv => lhs; rw [hX]
    rw [List.flatMap_append, ← hfl, List.take_left']
    rfl
  rw [hf] at hcut
  refine ⟨h.el n y c hy hc, by rw [hlX]; exact hlP.symm, fun j z d hz hd => ?_, by rw [show (⟨c, P.dropLast⟩ : Dk Lc).past.length = n from hlP]; exact own_base hcut (by omega), fun z hz => ?_, fun g' hg' => ⟨own_lt h.own g' hg', fun z hz => h.top g' hg' z (hmem z hz)⟩, by show P.dropLast.length ≤ _; omega, Nat.le_refl _⟩
  · have hj : j < n := by have := (List.getElem?_eq_some_iff.1 hz).1; omega
    have hd' : P[j]? = some d := by
      have hd : P.dropLast[j]? = some d := hd
      rw [List.getElem?_dropLast] at hd
      split at hd
      · exact hd
      · cases hd
    have hz' : X[j]? = some z := by
      rw [List.getElem?_dropLast] at hz
      split at hz
      · exact hz
      · cases hz
    exact h.el j z d hz' hd'
  · have := h.lo z (hmem z hz)
    exact ⟨by omega, this.2⟩
theorem put_deskO {w : World} {p base n : Nat} {v' : Value} {X : List Iv} {P : List Lc} {x m : Iv} {c cm : Lc} (hown : w.ownsRow (p + 1) 26 2 v' (n + 1) (X.flatMap ivC ++ [x.u, x.t])) (hlen : X.length = n) (hPl : P.length = n)
    (hel : ∀ (j : Nat) (y : Iv) (c : Lc), X[j]? = some y → P[j]? = some c → CW w y c) (hx : CW w x c) (hm : CW w m cm) (hlo : ∀ y ∈ X, p < y.lo ∧ y.hi ≤ m.lo) (hxp : x.hi ≤ p) (hpm : p ≤ m.lo)
    (htop : ∀ g, v'.ownBlock = some g → (∀ y ∈ X, g < y.lo ∨ y.hi ≤ g) ∧ (g < m.lo ∨ m.hi ≤ g)) (hb : base ≤ x.lo) (hbp : base ≤ p) (hn : n + 1 ≤ 1048576) :
    DkO w w.heap.size base m v' (X ++ [x]) ⟨cm, P ++ [c]⟩ := by
  have hlen2 : (P ++ [c]).length = n + 1 := by rw [List.length_append, hPl]; rfl
  have hmh := hm.hi
  have hxh := hx.hi
  have hxs : X.flatMap ivC ++ [x.u, x.t] = (X ++ [x]).flatMap ivC := by rw [List.flatMap_append]; simp [ivC]
  have hel2 : ∀ (j : Nat) (y : Iv) (d : Lc), (X ++ [x])[j]? = some y → (P ++ [c])[j]? = some d → CW w y d := fun j y d hy hd => by
    by_cases hj : j < n
    · rw [List.getElem?_append_left (by omega)] at hy hd
      exact hel j y d hy hd
    · have hjn : j = n := by have := (List.getElem?_eq_some_iff.1 hd).1; omega
      subst hjn
      have e1 : (X ++ [x])[X.length]? = some x := List.getElem?_concat_length ..
      have e2 : (P ++ [c])[P.length]? = some c := List.getElem?_concat_length ..
      rw [hlen] at e1
      rw [hPl] at e2
      obtain rfl : x = y := Option.some.inj (e1.symm.trans hy)
      obtain rfl : c = d := Option.some.inj (e2.symm.trans hd)
      exact hx
  refine ⟨hm, by show (X ++ [x]).length = (P ++ [c]).length; rw [hlen2, List.length_append, hlen]; rfl, hel2, by show w.ownsRow base _ 2 v' (P ++ [c]).length _; rw [hlen2, ← hxs]; exact own_base hown (by omega), fun y hy => ?_, fun g hg => ⟨own_lt hown g hg, fun y hy => ?_⟩, by show (P ++ [c]).length ≤ _; omega, Nat.le_refl _⟩
  · rcases List.mem_cons.1 hy with rfl | hy
    · exact ⟨by omega, hmh⟩
    · rcases List.mem_append.1 hy with hy | hy
      · have := hlo y hy
        have h3 : y.hi ≤ w.heap.size := by
          obtain ⟨i, hi, rfl⟩ := List.getElem_of_mem hy
          have hiP : i < P.length := by omega
          exact (hel i X[i] P[i] (List.getElem?_eq_getElem hi) (List.getElem?_eq_getElem hiP)).hi
        exact ⟨by omega, h3⟩
      · rw [List.mem_singleton] at hy
        rw [hy]
        exact ⟨hb, hxh⟩
  · obtain ⟨t1, t2⟩ := htop g hg
    rcases List.mem_cons.1 hy with rfl | hy
    · exact t2
    · rcases List.mem_append.1 hy with hy | hy
      · exact t1 y hy
      · rw [List.mem_singleton] at hy
        rw [hy]
        have := ownsRow_block hown g hg
        omega
theorem zeroO (w : World) (base : Nat) (hb : base ≤ w.heap.size) : DkO w w.heap.size base ⟨.slice none 0 0, .slice none 0 0, w.heap.size, w.heap.size⟩ (.slice none 0 0) [] zeroD := by
  refine ⟨⟨none, noLay, none, 0, 0, rfl, rfl, LogW.none w _ _ _⟩, rfl, fun j y c hy => (by simp at hy), World.ownsRow_nil _ _ _ 2, fun y hy => ?_, fun g hg => (by cases hg), Nat.zero_le _, Nat.le_refl _⟩
  rw [List.mem_singleton] at hy
  rw [hy]
  exact ⟨hb, Nat.le_refl _⟩
/-- A desk of one logic. -/
theorem oneO {w : World} {base hi lo : Nat} {u t : Value} {c : Lc} (h : CW w ⟨u, t, lo, hi⟩ c) (hb : base ≤ lo) : DkO w hi base ⟨u, t, lo, hi⟩ (.slice none 0 0) [] ⟨c, []⟩ := by
  refine ⟨h, rfl, fun j y c hy => (by simp at hy), World.ownsRow_nil _ _ _ 2, fun y hy => ?_, fun g hg => (by cases hg), Nat.zero_le _, h.hi⟩
  rw [List.mem_singleton] at hy
  rw [hy]
  exact ⟨hb, Nat.le_refl _⟩
/-- What a call hands back: a desk of its own, and a word; to its logics of before one may append if they are less than eight. -/
def DkResO (w : World) (R : Dk Lc) (b : Bool) (e : Ending) (w' : World) : Prop := ∃ v, e = .returned (.tuple #[v, .bool b]) ∧ DeskW w' w'.heap.size w.heap.size v R ∧ Below w.heap.size w w' ∧ (R.past.length < 8 → ∃ x pv X, v = .agg #[x.u, x.t, pv] ∧ DkO w' w'.heap.size w.heap.size x pv X R)
end Go.Proofs.Ytojcgmgponnlpaa
