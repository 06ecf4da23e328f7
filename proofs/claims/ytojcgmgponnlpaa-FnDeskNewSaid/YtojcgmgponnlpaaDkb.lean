/- Desks as they lie in memory: to be read, and to be written. -/
import Derived.Test.YtojcgmgponnlpaaDka
namespace Go.Proofs.Ytojcgmgponnlpaa
open Go.RowKit Go.Deep

/-! ### To be read -/
/-- A logic that is one, as square rows. -/
theorem LogAt.squareC {w : World} {B : Nat} {ua : Option Addr} {l : Lay} {m : Mx} {na : Option Addr} {g o k : Nat} {z : Nat → Int} (h : LogAt w B ua l m na g o k z) (hl : logicB m k z = true) :
    LogAt w B ua l ⟨m.n, fun _ => m.n, m.Z⟩ na g o m.n (fun c => ((z c).toNat : Int)) := by
  have hi := logicB_is hl
  obtain ⟨y, oo, hO⟩ := hi.ortho
  have hk : k = m.n := hi.pair.len
  subst hk
  refine ⟨⟨fun r hr => ?_, fun r hr c hc => ?_⟩, ⟨fun c hc => ?_⟩, h.hn, fun _ _ => h.hn, h.hk, h.hB⟩
  · obtain ⟨a, b, d⟩ := h.mat.top r hr
    exact ⟨a, b, by rw [d, hO.lat.order.sq.len r hr]⟩
  · exact h.mat.row r hr c (by rw [hO.lat.order.sq.len r hr]; exact hc)
  · obtain ⟨a, b, d⟩ := h.row.row c hc
    exact ⟨a, b, by rw [d, hO.zy c hc]; simp⟩
/-- Two slices that read as a logic. -/
def CAt (w : World) (B : Nat) (u t : Value) (c : Lc) : Prop := ∃ (ua : Option Addr) (l : Lay) (na : Option Addr) (g o nc : Nat), u = .slice ua c.m.n l.cap ∧ t = .slice na c.k nc ∧ LogAt w B ua l c.m na g o c.k c.z
theorem CAt.step {w w' : World} {B : Nat} {u t : Value} {c : Lc} (h : CAt w B u t c) (hb : Below w.heap.size w w') : CAt w' B u t c := by
  obtain ⟨ua, l, na, g, o, nc, e1, e2, h⟩ := h
  exact ⟨ua, l, na, g, o, nc, e1, e2, h.step hb⟩
theorem LogAt.up {w : World} {B B' : Nat} {ua : Option Addr} {l : Lay} {m : Mx} {na : Option Addr} {g o k : Nat} {z : Nat → Int} (h : LogAt w B ua l m na g o k z) (hB : B ≤ B') (hw : B' ≤ w.heap.size) : LogAt w B' ua l m na g o k z :=
  ⟨h.mat.more hB, ⟨fun c hc => by obtain ⟨h1, h2, h3⟩ := h.row.row c hc; exact ⟨h1, by omega, h3⟩⟩, h.hn, h.hL, h.hk, hw⟩
theorem CAt.up {w : World} {B B' : Nat} {u t : Value} {c : Lc} (h : CAt w B u t c) (hB : B ≤ B') (hw : B' ≤ w.heap.size) : CAt w B' u t c := by
  obtain ⟨ua, l, na, g, o, nc, e1, e2, h⟩ := h
  exact ⟨ua, l, na, g, o, nc, e1, e2, h.up hB hw⟩
theorem CAt.sq {w : World} {B : Nat} {u t : Value} {c : Lc} (h : CAt w B u t c) (hok : c.ok = true) : CAt w B u t c.sq := by
  obtain ⟨ua, l, na, g, o, nc, e1, e2, h⟩ := h
  have hk : c.k = c.m.n := (logicB_is hok).pair.len
  exact ⟨ua, l, na, g, o, nc, e1, by rw [e2, hk]; rfl, h.squareC hok⟩
theorem CAt.chg {S : Nat → Prop} {w w' : World} {B : Nat} {u t : Value} {c : Lc} (h : CAt w B u t c) (hc : Chg S w w') (hS : ∀ j, j < B → ¬ S j) : CAt w' B u t c := by
  obtain ⟨ua, l, na, g, o, nc, e1, e2, h⟩ := h
  have hk : ∀ p : Addr, p.block < B → w'.cell? p = w.cell? p := fun p hp => World.cell?_of_block (hc.block p.block (by have := h.hB; omega) (hS _ hp))
  exact ⟨ua, l, na, g, o, nc, e1, e2, h.mat.keep hk, h.row.keep hk, h.hn, h.hL, h.hk, Nat.le_trans h.hB hc.size⟩
/-- A list of logics, two slices each. -/
def PsAt (w : World) (B : Nat) (a : Option Addr) (g o : Nat) (P : List Lc) : Prop := ∀ j c, P[j]? = some c → a = some ⟨g, o, none⟩ ∧ g < B ∧ ∃ u t, w.cell? ⟨g, o + j * 2, none⟩ = some u ∧ w.cell? ⟨g, o + j * 2 + 1, none⟩ = some t ∧ CAt w B u t c
theorem PsAt.step {w w' : World} {B : Nat} {a : Option Addr} {g o : Nat} {P : List Lc} (h : PsAt w B a g o P) (hb : Below w.heap.size w w') (hB : B ≤ w.heap.size) : PsAt w' B a g o P := fun j c hc => by
  obtain ⟨h1, h2, u, t, h3, h4, h5⟩ := h j c hc
  exact ⟨h1, h2, u, t, by rw [hb.cell (by show g < w.heap.size; omega)]; exact h3, by rw [hb.cell (by show g < w.heap.size; omega)]; exact h4, h5.step hb⟩
theorem PsAt.up {w : World} {B B' : Nat} {a : Option Addr} {g o : Nat} {P : List Lc} (h : PsAt w B a g o P) (hB : B ≤ B') (hw : B' ≤ w.heap.size) : PsAt w B' a g o P := fun j c hc => by
  obtain ⟨h1, h2, u, t, h3, h4, h5⟩ := h j c hc
  exact ⟨h1, by omega, u, t, h3, h4, h5.up hB hw⟩
theorem PsAt.chg {S : Nat → Prop} {w w' : World} {B : Nat} {a : Option Addr} {g o : Nat} {P : List Lc} (h : PsAt w B a g o P) (hc : Chg S w w') (hB : B ≤ w.heap.size) (hS : ∀ j, j < B → ¬ S j) : PsAt w' B a g o P := fun j c hj => by
  obtain ⟨h1, h2, u, t, h3, h4, h5⟩ := h j c hj
  have hk : ∀ p : Addr, p.block < B → w'.cell? p = w.cell? p := fun p hp => World.cell?_of_block (hc.block p.block (by omega) (hS _ hp))
  exact ⟨h1, h2, u, t, (hk _ h2).trans h3, (hk _ h2).trans h4, h5.chg hc hS⟩
theorem PsAt.sq {w : World} {B : Nat} {a : Option Addr} {g o : Nat} {P : List Lc} (h : PsAt w B a g o P) (hok : ∀ c ∈ P, c.ok = true) : PsAt w B a g o (P.map Lc.sq) := fun j c hc => by
  rw [List.getElem?_map] at hc
  cases e : P[j]? with
  | none => rw [e] at hc; cases hc
  | some d =>
    rw [e] at hc
    cases hc
    obtain ⟨h1, h2, u, t, h3, h4, h5⟩ := h j d e
    exact ⟨h1, h2, u, t, h3, h4, h5.sq (hok d (List.mem_of_getElem? e))⟩
theorem PsAt.nil (w : World) (B : Nat) (a : Option Addr) (g o : Nat) : PsAt w B a g o [] := fun j c hc => by simp at hc
theorem PsAt.take {w : World} {B : Nat} {a : Option Addr} {g o : Nat} {P : List Lc} (h : PsAt w B a g o P) (k : Nat) : PsAt w B a g o (P.take k) := fun j c hc => by
  rw [List.getElem?_take] at hc
  split at hc
  · exact h j c hc
  · cases hc
theorem PsAt.get {w : World} {B : Nat} {a : Option Addr} {g o : Nat} {P : List Lc} (h : PsAt w B a g o P) {j : Nat} (hj : j < P.length) : ∃ (ua : Option Addr) (l : Lay) (na : Option Addr) (g' o' nc : Nat), a = some ⟨g, o, none⟩ ∧ g < B ∧ w.cell? ⟨g, o + j * 2, none⟩ = some (.slice ua P[j].m.n l.cap) ∧ w.cell? ⟨g, o + j * 2 + 1, none⟩ = some (.slice na P[j].k nc) ∧ LogAt w B ua l P[j].m na g' o' P[j].k P[j].z := by
  obtain ⟨h1, h2, u, t, h3, h4, ua, l, na, g', o', nc, rfl, rfl, h5⟩ := h j P[j] (List.getElem?_eq_getElem hj)
  exact ⟨ua, l, na, g', o', nc, h1, h2, h3, h4, h5⟩
/-- A desk, to be read. -/
def DeskAt (w : World) (B : Nat) (v : Value) (D : Dk Lc) : Prop := ∃ (ua : Option Addr) (l : Lay) (na : Option Addr) (g o nc : Nat) (pa : Option Addr) (pg po pc : Nat), v = .agg #[.slice ua D.now.m.n l.cap, .slice na D.now.k nc, .slice pa D.past.length pc] ∧ LogAt w B ua l D.now.m na g o D.now.k D.now.z ∧ PsAt w B pa pg po D.past ∧ D.past.length ≤ 9223372036854775807
theorem DeskAt.step {w w' : World} {B : Nat} {v : Value} {D : Dk Lc} (h : DeskAt w B v D) (hb : Below w.heap.size w w') : DeskAt w' B v D := by
  obtain ⟨ua, l, na, g, o, nc, pa, pg, po, pc, rfl, h1, h2, h3⟩ := h
  exact ⟨ua, l, na, g, o, nc, pa, pg, po, pc, rfl, h1.step hb, h2.step hb h1.hB, h3⟩
theorem DeskAt.hB {w : World} {B : Nat} {v : Value} {D : Dk Lc} (h : DeskAt w B v D) : B ≤ w.heap.size := by
  obtain ⟨ua, l, na, g, o, nc, pa, pg, po, pc, rfl, h1, h2, h3⟩ := h
  exact h1.hB
theorem DeskAt.up {w : World} {B B' : Nat} {v : Value} {D : Dk Lc} (h : DeskAt w B v D) (hB : B ≤ B') (hw : B' ≤ w.heap.size) : DeskAt w B' v D := by
  obtain ⟨ua, l, na, g, o, nc, pa, pg, po, pc, rfl, h1, h2, h3⟩ := h
  exact ⟨ua, l, na, g, o, nc, pa, pg, po, pc, rfl, h1.up hB hw, h2.up hB hw, h3⟩
theorem DeskAt.chg {S : Nat → Prop} {w w' : World} {B : Nat} {v : Value} {D : Dk Lc} (h : DeskAt w B v D) (hc : Chg S w w') (hS : ∀ j, j < B → ¬ S j) : DeskAt w' B v D := by
  obtain ⟨ua, l, na, g, o, nc, pa, pg, po, pc, rfl, h1, h2, h3⟩ := h
  have hk : ∀ p : Addr, p.block < B → w'.cell? p = w.cell? p := fun p hp => World.cell?_of_block (hc.block p.block (by have := h1.hB; omega) (hS _ hp))
  exact ⟨ua, l, na, g, o, nc, pa, pg, po, pc, rfl, ⟨h1.mat.keep hk, h1.row.keep hk, h1.hn, h1.hL, h1.hk, Nat.le_trans h1.hB hc.size⟩, h2.chg hc h1.hB hS, h3⟩
theorem DeskAt.sq {w : World} {B : Nat} {v : Value} {D : Dk Lc} (h : DeskAt w B v D) (hok : D.okB = true) : DeskAt w B v D.sq := by
  obtain ⟨ua, l, na, g, o, nc, pa, pg, po, pc, rfl, h1, h2, h3⟩ := h
  unfold Dk.okB at hok
  rw [Bool.and_eq_true, Bool.and_eq_true] at hok
  have hk : D.now.k = D.now.m.n := (logicB_is hok.1.2).pair.len
  refine ⟨ua, l, na, g, o, nc, pa, pg, po, pc, ?_, h1.squareC hok.1.2, h2.sq (List.all_eq_true.1 hok.1.1), by show (D.past.map Lc.sq).length ≤ _; rw [List.length_map]; exact h3⟩
  rw [hk]
  show _ = Value.agg #[_, _, .slice pa (D.past.map Lc.sq).length pc]
  rw [List.length_map]
  rfl

/-! ### To be written -/
/-- Where a logic of one's own lies: its slices, and the blocks between which it lies. -/
structure Iv where
  u : Value
  t : Value
  lo : Nat
  hi : Nat
def Iv.Apart (x y : Iv) : Prop := x.hi ≤ y.lo ∨ y.hi ≤ x.lo
theorem Iv.Apart.symm {x y : Iv} (h : x.Apart y) : y.Apart x := Or.symm h
def CW (w : World) (x : Iv) (c : Lc) : Prop := ∃ (ua : Option Addr) (l : Lay) (na : Option Addr) (g nc : Nat), x.u = .slice ua c.m.n l.cap ∧ x.t = .slice na c.k nc ∧ LogW w x.hi x.lo ua l c.m na g 0 c.k c.z
theorem CW.chg {S : Nat → Prop} {w w' : World} {x : Iv} {c : Lc} (h : CW w x c) (hc : Chg S w w') (hS : ∀ j, S j → j < x.lo ∨ x.hi ≤ j) : CW w' x c := by
  obtain ⟨ua, l, na, g, nc, e1, e2, h⟩ := h
  exact ⟨ua, l, na, g, nc, e1, e2, h.chg hc hS⟩
theorem CW.at_ {w : World} {x : Iv} {c : Lc} (h : CW w x c) : CAt w x.hi x.u x.t c := by
  obtain ⟨ua, l, na, g, nc, e1, e2, h⟩ := h
  exact ⟨ua, l, na, g, 0, nc, e1, e2, h.logAt⟩
theorem CW.hi {w : World} {x : Iv} {c : Lc} (h : CW w x c) : x.hi ≤ w.heap.size := by
  obtain ⟨ua, l, na, g, nc, e1, e2, h⟩ := h
  exact h.hB
/-- A list of logics of one's own. -/
structure PsW (w : World) (a : Option Addr) (g o : Nat) (X : List Iv) (P : List Lc) : Prop where
  len : X.length = P.length
  el : ∀ j y c, X[j]? = some y → P[j]? = some c → CW w y c ∧ a = some ⟨g, o, none⟩ ∧ g < w.heap.size ∧ w.cell? ⟨g, o + j * 2, none⟩ = some y.u ∧ w.cell? ⟨g, o + j * 2 + 1, none⟩ = some y.t
theorem PsW.chg {S : Nat → Prop} {w w' : World} {a : Option Addr} {g o : Nat} {X : List Iv} {P : List Lc} (h : PsW w a g o X P) (hc : Chg S w w') (hS : ∀ y ∈ X, ∀ j, S j → j < y.lo ∨ y.hi ≤ j) (hg : 0 < P.length → ¬ S g) : PsW w' a g o X P :=
  ⟨h.len, fun j y c hy hj => by
    obtain ⟨h1, h2, h3, h4, h5⟩ := h.el j y c hy hj
    have hg' := hg (Nat.lt_of_le_of_lt (Nat.zero_le _) (List.getElem?_eq_some_iff.1 hj).1)
    have hk : ∀ p : Addr, p.block = g → w'.cell? p = w.cell? p := fun p hp => World.cell?_of_block (hc.block p.block (by rw [hp]; exact h3) (by rw [hp]; exact hg'))
    exact ⟨h1.chg hc (hS y (List.mem_of_getElem? hy)), h2, Nat.lt_of_lt_of_le h3 hc.size, (hk _ rfl).trans h4, (hk _ rfl).trans h5⟩⟩
theorem PsW.atB {w : World} {B : Nat} {a : Option Addr} {g o : Nat} {X : List Iv} {P : List Lc} (h : PsW w a g o X P) (hB : ∀ y ∈ X, y.hi ≤ B) (hg : 0 < P.length → g < B) (hw : B ≤ w.heap.size) : PsAt w B a g o P := fun j c hc => by
  have hj := (List.getElem?_eq_some_iff.1 hc).1
  have hj' : j < X.length := by rw [h.len]; exact hj
  obtain ⟨h1, h2, h3, h4, h5⟩ := h.el j X[j] c (List.getElem?_eq_getElem hj') hc
  exact ⟨h2, hg (by omega), _, _, h4, h5, h1.at_.up (hB _ (List.getElem_mem hj')) hw⟩
theorem PsW.nil (w : World) (a : Option Addr) (g o : Nat) : PsW w a g o [] [] := ⟨rfl, fun j y c hc => by simp at hc⟩
/-- A desk of one's own. -/
structure DeskI (w : World) (B base : Nat) (x : Iv) (pa : Option Addr) (pg po : Nat) (X : List Iv) (D : Dk Lc) : Prop where
  now : CW w x D.now
  past : PsW w pa pg po X D.past
  apart : (x :: X).Pairwise Iv.Apart
  base_ : ∀ y ∈ x :: X, base ≤ y.lo
  top : 0 < D.past.length → ∀ y ∈ x :: X, pg < y.lo ∨ y.hi ≤ pg
  pgb : 0 < D.past.length → base ≤ pg
  len : D.past.length ≤ 1048576
  hi : ∀ y ∈ x :: X, y.hi ≤ B
  pgB : 0 < D.past.length → pg < B
  hB : B ≤ w.heap.size
def DeskW (w : World) (B base : Nat) (v : Value) (D : Dk Lc) : Prop := ∃ (x : Iv) (pa : Option Addr) (pg po pc : Nat) (X : List Iv), v = .agg #[x.u, x.t, .slice pa D.past.length pc] ∧ DeskI w B base x pa pg po X D
theorem DeskI.chg {S : Nat → Prop} {w w' : World} {B base : Nat} {x : Iv} {pa : Option Addr} {pg po : Nat} {X : List Iv} {D : Dk Lc} (h : DeskI w B base x pa pg po X D) (hc : Chg S w w') (hS : ∀ j, S j → j < base ∨ B ≤ j) : DeskI w' B base x pa pg po X D := by
  have key : ∀ y ∈ x :: X, ∀ j, S j → j < y.lo ∨ y.hi ≤ j := fun y hy j hj => by
    have h1 := h.base_ y hy
    have h2 := h.hi y hy
    have := hS j hj
    omega
  refine ⟨h.now.chg hc (key x (List.mem_cons_self ..)), h.past.chg hc (fun y hy j hj => key y (List.mem_cons_of_mem _ hy) j hj) fun h0 hs => ?_, h.apart, h.base_, h.top, h.pgb, h.len, h.hi, h.pgB, Nat.le_trans h.hB hc.size⟩
  have h1 := h.pgb h0
  have h2 := h.pgB h0
  have := hS _ hs
  omega
theorem DeskI.at_ {w : World} {B base : Nat} {x : Iv} {pa : Option Addr} {pg po pc : Nat} {X : List Iv} {D : Dk Lc} (h : DeskI w B base x pa pg po X D) : DeskAt w B (.agg #[x.u, x.t, .slice pa D.past.length pc]) D := by
  obtain ⟨ua, l, na, g, nc, e1, e2, hL⟩ := h.now
  exact ⟨ua, l, na, g, 0, nc, pa, pg, po, pc, by rw [e1, e2], hL.logAt.up (h.hi _ (List.mem_cons_self ..)) h.hB, h.past.atB (fun y hy => h.hi y (List.mem_cons_of_mem _ hy)) h.pgB h.hB, by have := h.len; omega⟩
theorem DeskW.at_ {w : World} {B base : Nat} {v : Value} {D : Dk Lc} (h : DeskW w B base v D) : DeskAt w B v D := by
  obtain ⟨x, pa, pg, po, pc, X, rfl, h⟩ := h
  exact h.at_
theorem DeskW.hB {w : World} {B base : Nat} {v : Value} {D : Dk Lc} (h : DeskW w B base v D) : B ≤ w.heap.size := by
  obtain ⟨x, pa, pg, po, pc, X, rfl, h⟩ := h
  exact h.hB
theorem DeskW.chg {S : Nat → Prop} {w w' : World} {B base : Nat} {v : Value} {D : Dk Lc} (h : DeskW w B base v D) (hc : Chg S w w') (hS : ∀ j, S j → j < base ∨ B ≤ j) : DeskW w' B base v D := by
  obtain ⟨x, pa, pg, po, pc, X, rfl, h⟩ := h
  exact ⟨x, pa, pg, po, pc, X, rfl, h.chg hc hS⟩
theorem DeskW.below {B' : Nat} {w w' : World} {B base : Nat} {v : Value} {D : Dk Lc} (h : DeskW w B base v D) (hb : Below B' w w') (hB : B ≤ B') : DeskW w' B base v D :=
  h.chg (Chg.of_below (S := fun j => B ≤ j) hb fun j _ hj => by omega) fun j hj => .inr hj
theorem DeskW.rebase {w : World} {B base b' : Nat} {v : Value} {D : Dk Lc} (h : DeskW w B base v D) (hb : b' ≤ base) : DeskW w B b' v D := by
  obtain ⟨x, pa, pg, po, pc, X, rfl, h⟩ := h
  exact ⟨x, pa, pg, po, pc, X, rfl, h.now, h.past, h.apart, fun y hy => Nat.le_trans hb (h.base_ y hy), h.top, fun h0 => Nat.le_trans hb (h.pgb h0), h.len, h.hi, h.pgB, h.hB⟩
theorem DeskW.more {w : World} {B B' base : Nat} {v : Value} {D : Dk Lc} (h : DeskW w B base v D) (hb : B ≤ B') (hw : B' ≤ w.heap.size) : DeskW w B' base v D := by
  obtain ⟨x, pa, pg, po, pc, X, rfl, h⟩ := h
  exact ⟨x, pa, pg, po, pc, X, rfl, h.now, h.past, h.apart, h.base_, h.top, h.pgb, h.len, fun y hy => Nat.le_trans (h.hi y hy) hb, fun h0 => Nat.lt_of_lt_of_le (h.pgB h0) hb, hw⟩
def zeroD : Dk Lc := ⟨zeroC, []⟩
theorem zeroD_no : zeroD.okB = false := by
  unfold Dk.okB zeroD
  rw [zeroC_no]
  rfl
theorem zeroW (w : World) (base : Nat) (hb : base ≤ w.heap.size) : DeskW w w.heap.size base (.agg #[.slice none 0 0, .slice none 0 0, .slice none 0 0]) zeroD := by
  refine ⟨⟨.slice none 0 0, .slice none 0 0, w.heap.size, w.heap.size⟩, none, 0, 0, 0, [], rfl, ⟨none, noLay, none, 0, 0, rfl, rfl, LogW.none w _ _ _⟩, PsW.nil .., List.pairwise_singleton .., fun y hy => ?_, fun h0 => absurd h0 (by decide), fun h0 => absurd h0 (by decide), Nat.zero_le _, fun y hy => ?_, fun h0 => absurd h0 (by decide), Nat.le_refl _⟩
  · rw [List.mem_singleton] at hy
    rw [hy]
    exact hb
  · rw [List.mem_singleton] at hy
    rw [hy]
    exact Nat.le_refl _
/-- What a call hands back: a desk of its own, and a word. -/
def DkRes (w : World) (R : Dk Lc) (b : Bool) (e : Ending) (w' : World) : Prop := ∃ v, e = .returned (.tuple #[v, .bool b]) ∧ DeskW w' w'.heap.size w.heap.size v R ∧ Below w.heap.size w w'
end Go.Proofs.Ytojcgmgponnlpaa
