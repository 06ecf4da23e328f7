import Derived.Test.YtojcgmgponnlpaaZMath
import Derived.Test.YtojcgmgponnlpaaZGa
import Derived.Lib.SmallJoins
import Derived.OwnWalk
import Derived.Laws.MakeOwn
import Derived.Test.YtojcgmgponnlpaaZDkn
namespace Go.Proofs.Ytojcgmgponnlpaa

structure Dd where
  k : Int
  a : Int
  b : Int
end Go.Proofs.Ytojcgmgponnlpaa
namespace Go.Proofs.Ytojcgmgponnlpaa

end Go.Proofs.Ytojcgmgponnlpaa
namespace Go.Proofs.Ytojcgmgponnlpaa

/-- A desk of whatever lies on it. -/
structure Dk (α : Type) where
  now : α
  past : List α
/-- Something new on it: what was there is behind all of before, of which the first goes if they are more than eight. -/
def Dk.put {α : Type} (d : Dk α) (x : α) : Dk α := ⟨x, if 8 < d.past.length + 1 then (d.past ++ [d.now]).drop 1 else d.past ++ [d.now]⟩
/-- The last one of before back. -/
def Dk.back {α : Type} (d : Dk α) : Option (Dk α) := match d.past.getLast? with
  | some x => some ⟨x, d.past.dropLast⟩
  | none => none
theorem Dk.put_len {α : Type} {d : Dk α} {x : α} (h : d.past.length ≤ 8) : (d.put x).past.length ≤ 8 := by
  unfold Dk.put
  dsimp only
  split
  · rw [List.length_drop, List.length_append]; simp; omega
  · rw [List.length_append]; simp; omega
/-- What is done with a desk: what a deed makes of what lies on it, unless it is the same. -/
def Dk.step {α : Type} (mk : α → Dd → Option α) (same : α → α → Bool) (d : Dk α) (a : Dd) : Option (Dk α) :=
  if a.k = 4 ∧ a.a = 0 ∧ a.b = 0 ∧ d.past ≠ [] then d.back else
  match mk d.now a with
  | some x => if same x d.now = true then none else some (d.put x)
  | none => none
section
variable {α : Type} {mk : α → Dd → Option α} {same : α → α → Bool} {d : Dk α}
end
/-- What holds of all on a desk, and is kept by what deeds make, holds behind any deeds. -/
def Dk.All {α : Type} (p : α → Prop) (d : Dk α) : Prop := p d.now ∧ (∀ x ∈ d.past, p x) ∧ d.past.length ≤ 8
theorem Dk.put_all {α : Type} {p : α → Prop} {d : Dk α} {x : α} (h : d.All p) (hx : p x) : (d.put x).All p := by
  refine ⟨hx, fun q hq => ?_, Dk.put_len h.2.2⟩
  have hq2 : q ∈ d.past ++ [d.now] := by
    unfold Dk.put at hq
    dsimp only at hq
    split at hq
    · exact List.mem_of_mem_drop hq
    · exact hq
  rcases List.mem_append.1 hq2 with h1 | h1
  · exact h.2.1 q h1
  · rw [List.mem_singleton] at h1
    rw [h1]; exact h.1
theorem Dk.back_all {α : Type} {p : α → Prop} {d e : Dk α} (h : d.All p) (hb : d.back = some e) : e.All p := by
  unfold Dk.back at hb
  cases hl : d.past.getLast? with
  | none => rw [hl] at hb; cases hb
  | some x =>
    rw [hl] at hb
    cases hb
    exact ⟨h.2.1 x (List.mem_of_getLast? hl), fun q hq => h.2.1 q (List.dropLast_subset _ hq), by show d.past.dropLast.length ≤ 8; rw [List.length_dropLast]; have := h.2.2; omega⟩
theorem Dk.step_all {α : Type} {p : α → Prop} {mk : α → Dd → Option α} {same : α → α → Bool} {d e : Dk α} {a : Dd} (hm : ∀ x y, p x → mk x a = some y → p y) (h : d.All p) (hs : d.step mk same a = some e) : e.All p := by
  unfold Dk.step at hs
  split at hs
  · exact Dk.back_all h hs
  · cases hk : mk d.now a with
    | none => rw [hk] at hs; cases hs
    | some x =>
      rw [hk] at hs
      dsimp only at hs
      split at hs
      · cases hs
      · cases hs
        exact Dk.put_all h (hm _ _ h.1 hk)
end Go.Proofs.Ytojcgmgponnlpaa
namespace Go.Proofs.Ytojcgmgponnlpaa
open Go.RowKit Go.Deep

/-- A logic by its numbers, one or none. -/
structure Lc where
  m : Mx
  k : Nat
  z : Nat → Int
noncomputable def Lc.ok (c : Lc) : Bool := logicB c.m c.k c.z
def Lc.y (c : Lc) (a : Nat) : Nat := (c.z a).toNat
def Lc.of (n : Nat) (Z : Nat → Nat → Int) (y : Nat → Nat) : Lc := ⟨⟨n, fun _ => n, Z⟩, n, fun a => (y a : Int)⟩
/-- It as square rows, and its opposites as numbers. -/
def Lc.sq (c : Lc) : Lc := Lc.of c.m.n c.m.Z c.y
/-- A logic that is one, as square rows. -/
def Lc.Is (c : Lc) : Prop := ∃ n Z y o, c = Lc.of n Z y ∧ LogicData n Z y o
theorem Lc.Is.ok {c : Lc} (h : c.Is) : c.ok = true := by
  obtain ⟨n, Z, y, o, rfl, h⟩ := h
  exact logicB_true h.logic
theorem LogicData.congrY {n o : Nat} {Z : Nat → Nat → Int} {y y' : Nat → Nat} (h : LogicData n Z y o) (e : ∀ a, a < n → y a = y' a) : LogicData n Z y' o :=
  ⟨h.pos, h.top, h.bit, h.refl, h.anti, h.trans, fun a ha => by rw [← e a ha]; exact h.lt a ha, fun a ha => by rw [← e a ha, ← e _ (h.lt a ha)]; exact h.inv a ha, fun a b ha hb hz => by rw [← e a ha, ← e b hb]; exact h.turn a b ha hb hz, h.meet, h.ho, h.least,
   fun a c ha hc h1 h2 => h.kept a c ha hc h1 (by rw [e a ha]; exact h2)⟩
theorem Lc.sq_is {c : Lc} (h : c.ok = true) : c.sq.Is := by
  obtain ⟨y, o, hO⟩ := (logicB_is h).ortho
  exact ⟨_, _, _, o, rfl, hO.data.congrY fun a ha => by unfold Lc.y; rw [hO.zy a ha]; simp⟩
theorem Lc.Is.small {c : Lc} (h : c.Is) : 1 ≤ c.m.n ∧ c.m.n ≤ 12 ∧ c.k = c.m.n ∧ ∀ r, c.m.L r = c.m.n := by
  obtain ⟨n, Z, y, o, rfl, h⟩ := h
  exact ⟨h.pos, h.top, rfl, fun _ => rfl⟩
/-- The zero value's numbers. -/
def zeroC : Lc := Lc.of 0 (fun _ _ => 0) (fun _ => 0)
theorem zeroC_no : zeroC.ok = false := by
  unfold Lc.ok
  refine logicB_false fun h => ?_
  have := h.lat.order.pos
  exact absurd this (by decide)
noncomputable def setsC (t : Int) : Lc := if setsOkB t = true then Lc.of (2 ^ t.toNat) setsZ (setsY (2 ^ t.toNat)) else zeroC
def ringC : Lc := Lc.of 6 ringZ ringY
theorem ringC_is : ringC.Is := ⟨_, _, _, _, rfl, ring_data⟩
theorem setsC_is {t : Int} (h : setsOkB t = true) : (setsC t).Is := by
  unfold setsC
  rw [if_pos h]
  unfold setsOkB at h
  rw [Bool.and_eq_true, decide_eq_true_iff, decide_eq_true_iff] at h
  exact ⟨_, _, _, _, rfl, sets_data t.toNat (by omega)⟩
theorem setsC_no {t : Int} (h : setsOkB t = false) : setsC t = zeroC := by
  unfold setsC
  rw [if_neg (by rw [h]; decide)]
theorem setsC_ok {t : Int} : (setsC t).ok = setsOkB t := by
  cases h : setsOkB t with
  | true => exact (setsC_is h).ok
  | false => rw [setsC_no h]; exact zeroC_no

noncomputable def Dk.okB (D : Dk Lc) : Bool := D.past.all Lc.ok && D.now.ok && decide (D.past.length ≤ 8)
def Dk.sq (D : Dk Lc) : Dk Lc := ⟨D.now.sq, D.past.map Lc.sq⟩
/-- A desk of logics, all as square rows. -/
abbrev Dk.Is (D : Dk Lc) : Prop := D.All Lc.Is
theorem Dk.sq_is {D : Dk Lc} (h : D.okB = true) : D.sq.Is := by
  unfold Dk.okB at h
  rw [Bool.and_eq_true, Bool.and_eq_true, decide_eq_true_iff] at h
  refine ⟨Lc.sq_is h.1.2, fun x hx => ?_, by show (D.past.map Lc.sq).length ≤ 8; rw [List.length_map]; exact h.2⟩
  obtain ⟨c, hc, rfl⟩ := List.mem_map.1 (show x ∈ D.past.map Lc.sq from hx)
  exact Lc.sq_is (List.all_eq_true.1 h.1.1 c hc)
theorem Dk.Is.okB {D : Dk Lc} (h : D.Is) : D.okB = true := by
  unfold Dk.okB
  rw [Bool.and_eq_true, Bool.and_eq_true, decide_eq_true_iff]
  exact ⟨⟨List.all_eq_true.2 fun c hc => (h.2.1 c hc).ok, h.1.ok⟩, h.2.2⟩
end Go.Proofs.Ytojcgmgponnlpaa
namespace Go.Proofs.Ytojcgmgponnlpaa
open Go.RowKit Go.Deep

/-- A logic that is one, as square rows. -/
theorem LogAt.squareC {w : World} {B : Nat} {ua : Option Addr} {l : Lay} {m : Mx} {na : Option Addr} {g o k : Nat} {z : Nat → Int} (h : LogAt w B ua l m na g o k z) (hl : logicB m k z = true) :
    LogAt w B ua l ⟨m.n, fun _ => m.n, m.Z⟩ na g o m.n (fun c => ((z c).toNat : Int)) := by
  have hi := logicB_is hl
  obtain ⟨y, oo, hO⟩ := hi.ortho
  have hk : k = m.n := hi.pair.len
  subst hk
  refine ⟨⟨fun r hr => ?_, fun r hr c hc => ?_⟩, ⟨fun c hc => ?_⟩, h.hn, fun _ _ => h.hn, h.hk, h.hB⟩
  · obtain ⟨a, b, d⟩ := h.mat.top r hr
    exact ⟨a, b, by rw [d, hO.lat.order.sq.len r hr]⟩
  · exact h.mat.row r hr c (by rw [hO.lat.order.sq.len r hr]; exact hc)
  · obtain ⟨a, b, d⟩ := h.row.row c hc
    exact ⟨a, b, by rw [d, hO.zy c hc]; simp⟩
/-- Two slices that read as a logic. -/
def CAt (w : World) (B : Nat) (u t : Value) (c : Lc) : Prop := ∃ (ua : Option Addr) (l : Lay) (na : Option Addr) (g o nc : Nat), u = .slice ua c.m.n l.cap ∧ t = .slice na c.k nc ∧ LogAt w B ua l c.m na g o c.k c.z
theorem CAt.step {w w' : World} {B : Nat} {u t : Value} {c : Lc} (h : CAt w B u t c) (hb : Below w.heap.size w w') : CAt w' B u t c := by
  obtain ⟨ua, l, na, g, o, nc, e1, e2, h⟩ := h
  exact ⟨ua, l, na, g, o, nc, e1, e2, h.step hb⟩
theorem LogAt.up {w : World} {B B' : Nat} {ua : Option Addr} {l : Lay} {m : Mx} {na : Option Addr} {g o k : Nat} {z : Nat → Int} (h : LogAt w B ua l m na g o k z) (hB : B ≤ B') (hw : B' ≤ w.heap.size) : LogAt w B' ua l m na g o k z :=
  ⟨h.mat.more hB, ⟨fun c hc => by obtain ⟨h1, h2, h3⟩ := h.row.row c hc; exact ⟨h1, by omega, h3⟩⟩, h.hn, h.hL, h.hk, hw⟩
theorem CAt.up {w : World} {B B' : Nat} {u t : Value} {c : Lc} (h : CAt w B u t c) (hB : B ≤ B') (hw : B' ≤ w.heap.size) : CAt w B' u t c := by
  obtain ⟨ua, l, na, g, o, nc, e1, e2, h⟩ := h
  exact ⟨ua, l, na, g, o, nc, e1, e2, h.up hB hw⟩
theorem CAt.sq {w : World} {B : Nat} {u t : Value} {c : Lc} (h : CAt w B u t c) (hok : c.ok = true) : CAt w B u t c.sq := by
  obtain ⟨ua, l, na, g, o, nc, e1, e2, h⟩ := h
  have hk : c.k = c.m.n := (logicB_is hok).pair.len
  exact ⟨ua, l, na, g, o, nc, e1, by rw [e2, hk]; rfl, h.squareC hok⟩
/-- A list of logics, two slices each. -/
def PsAt (w : World) (B : Nat) (a : Option Addr) (g o : Nat) (P : List Lc) : Prop := ∀ j c, P[j]? = some c → a = some ⟨g, o, none⟩ ∧ g < B ∧ ∃ u t, w.cell? ⟨g, o + j * 2, none⟩ = some u ∧ w.cell? ⟨g, o + j * 2 + 1, none⟩ = some t ∧ CAt w B u t c
theorem PsAt.step {w w' : World} {B : Nat} {a : Option Addr} {g o : Nat} {P : List Lc} (h : PsAt w B a g o P) (hb : Below w.heap.size w w') (hB : B ≤ w.heap.size) : PsAt w' B a g o P := fun j c hc => by
  obtain ⟨h1, h2, u, t, h3, h4, h5⟩ := h j c hc
  exact ⟨h1, h2, u, t, by rw [hb.cell (by show g < w.heap.size; omega)]; exact h3, by rw [hb.cell (by show g < w.heap.size; omega)]; exact h4, h5.step hb⟩
theorem PsAt.up {w : World} {B B' : Nat} {a : Option Addr} {g o : Nat} {P : List Lc} (h : PsAt w B a g o P) (hB : B ≤ B') (hw : B' ≤ w.heap.size) : PsAt w B' a g o P := fun j c hc => by
  obtain ⟨h1, h2, u, t, h3, h4, h5⟩ := h j c hc
  exact ⟨h1, by omega, u, t, h3, h4, h5.up hB hw⟩
theorem PsAt.sq {w : World} {B : Nat} {a : Option Addr} {g o : Nat} {P : List Lc} (h : PsAt w B a g o P) (hok : ∀ c ∈ P, c.ok = true) : PsAt w B a g o (P.map Lc.sq) := fun j c hc => by
  rw [List.getElem?_map] at hc
  cases e : P[j]? with
  | none => rw [e] at hc; cases hc
  | some d =>
    rw [e] at hc
    cases hc
    obtain ⟨h1, h2, u, t, h3, h4, h5⟩ := h j d e
    exact ⟨h1, h2, u, t, h3, h4, h5.sq (hok d (List.mem_of_getElem? e))⟩
theorem PsAt.nil (w : World) (B : Nat) (a : Option Addr) (g o : Nat) : PsAt w B a g o [] := fun j c hc => by simp at hc
/-- A desk, to be read. -/
def DeskAt (w : World) (B : Nat) (v : Value) (D : Dk Lc) : Prop := ∃ (ua : Option Addr) (l : Lay) (na : Option Addr) (g o nc : Nat) (pa : Option Addr) (pg po pc : Nat), v = .agg #[.slice ua D.now.m.n l.cap, .slice na D.now.k nc, .slice pa D.past.length pc] ∧ LogAt w B ua l D.now.m na g o D.now.k D.now.z ∧ PsAt w B pa pg po D.past ∧ D.past.length ≤ 9223372036854775807
theorem DeskAt.step {w w' : World} {B : Nat} {v : Value} {D : Dk Lc} (h : DeskAt w B v D) (hb : Below w.heap.size w w') : DeskAt w' B v D := by
  obtain ⟨ua, l, na, g, o, nc, pa, pg, po, pc, rfl, h1, h2, h3⟩ := h
  exact ⟨ua, l, na, g, o, nc, pa, pg, po, pc, rfl, h1.step hb, h2.step hb h1.hB, h3⟩
theorem DeskAt.up {w : World} {B B' : Nat} {v : Value} {D : Dk Lc} (h : DeskAt w B v D) (hB : B ≤ B') (hw : B' ≤ w.heap.size) : DeskAt w B' v D := by
  obtain ⟨ua, l, na, g, o, nc, pa, pg, po, pc, rfl, h1, h2, h3⟩ := h
  exact ⟨ua, l, na, g, o, nc, pa, pg, po, pc, rfl, h1.up hB hw, h2.up hB hw, h3⟩
theorem DeskAt.sq {w : World} {B : Nat} {v : Value} {D : Dk Lc} (h : DeskAt w B v D) (hok : D.okB = true) : DeskAt w B v D.sq := by
  obtain ⟨ua, l, na, g, o, nc, pa, pg, po, pc, rfl, h1, h2, h3⟩ := h
  unfold Dk.okB at hok
  rw [Bool.and_eq_true, Bool.and_eq_true] at hok
  have hk : D.now.k = D.now.m.n := (logicB_is hok.1.2).pair.len
  refine ⟨ua, l, na, g, o, nc, pa, pg, po, pc, ?_, h1.squareC hok.1.2, h2.sq (List.all_eq_true.1 hok.1.1), by show (D.past.map Lc.sq).length ≤ _; rw [List.length_map]; exact h3⟩
  rw [hk]
  show _ = Value.agg #[_, _, .slice pa (D.past.map Lc.sq).length pc]
  rw [List.length_map]
  rfl

/-- Where a logic of one's own lies: its slices, and the blocks between which it lies. -/
structure Iv where
  u : Value
  t : Value
  lo : Nat
  hi : Nat
def Iv.Apart (x y : Iv) : Prop := x.hi ≤ y.lo ∨ y.hi ≤ x.lo
theorem Iv.Apart.symm {x y : Iv} (h : x.Apart y) : y.Apart x := Or.symm h
def CW (w : World) (x : Iv) (c : Lc) : Prop := ∃ (ua : Option Addr) (l : Lay) (na : Option Addr) (g nc : Nat), x.u = .slice ua c.m.n l.cap ∧ x.t = .slice na c.k nc ∧ LogW w x.hi x.lo ua l c.m na g 0 c.k c.z
theorem CW.chg {S : Nat → Prop} {w w' : World} {x : Iv} {c : Lc} (h : CW w x c) (hc : Chg S w w') (hS : ∀ j, S j → j < x.lo ∨ x.hi ≤ j) : CW w' x c := by
  obtain ⟨ua, l, na, g, nc, e1, e2, h⟩ := h
  exact ⟨ua, l, na, g, nc, e1, e2, h.chg hc hS⟩
theorem CW.at_ {w : World} {x : Iv} {c : Lc} (h : CW w x c) : CAt w x.hi x.u x.t c := by
  obtain ⟨ua, l, na, g, nc, e1, e2, h⟩ := h
  exact ⟨ua, l, na, g, 0, nc, e1, e2, h.logAt⟩
theorem CW.hi {w : World} {x : Iv} {c : Lc} (h : CW w x c) : x.hi ≤ w.heap.size := by
  obtain ⟨ua, l, na, g, nc, e1, e2, h⟩ := h
  exact h.hB
/-- A list of logics of one's own. -/
structure PsW (w : World) (a : Option Addr) (g o : Nat) (X : List Iv) (P : List Lc) : Prop where
  len : X.length = P.length
  el : ∀ j y c, X[j]? = some y → P[j]? = some c → CW w y c ∧ a = some ⟨g, o, none⟩ ∧ g < w.heap.size ∧ w.cell? ⟨g, o + j * 2, none⟩ = some y.u ∧ w.cell? ⟨g, o + j * 2 + 1, none⟩ = some y.t
theorem PsW.nil (w : World) (a : Option Addr) (g o : Nat) : PsW w a g o [] [] := ⟨rfl, fun j y c hc => by simp at hc⟩
/-- A desk of one's own. -/
structure DeskI (w : World) (B base : Nat) (x : Iv) (pa : Option Addr) (pg po : Nat) (X : List Iv) (D : Dk Lc) : Prop where
  now : CW w x D.now
  past : PsW w pa pg po X D.past
  apart : (x :: X).Pairwise Iv.Apart
  base_ : ∀ y ∈ x :: X, base ≤ y.lo
  top : 0 < D.past.length → ∀ y ∈ x :: X, pg < y.lo ∨ y.hi ≤ pg
  pgb : 0 < D.past.length → base ≤ pg
  len : D.past.length ≤ 1048576
  hi : ∀ y ∈ x :: X, y.hi ≤ B
  pgB : 0 < D.past.length → pg < B
  hB : B ≤ w.heap.size
def DeskW (w : World) (B base : Nat) (v : Value) (D : Dk Lc) : Prop := ∃ (x : Iv) (pa : Option Addr) (pg po pc : Nat) (X : List Iv), v = .agg #[x.u, x.t, .slice pa D.past.length pc] ∧ DeskI w B base x pa pg po X D
def zeroD : Dk Lc := ⟨zeroC, []⟩
theorem zeroD_no : zeroD.okB = false := by
  unfold Dk.okB zeroD
  rw [zeroC_no]
  rfl
theorem zeroW (w : World) (base : Nat) (hb : base ≤ w.heap.size) : DeskW w w.heap.size base (.agg #[.slice none 0 0, .slice none 0 0, .slice none 0 0]) zeroD := by
  refine ⟨⟨.slice none 0 0, .slice none 0 0, w.heap.size, w.heap.size⟩, none, 0, 0, 0, [], rfl, ⟨none, noLay, none, 0, 0, rfl, rfl, LogW.none w _ _ _⟩, PsW.nil .., List.pairwise_singleton .., fun y hy => ?_, fun h0 => absurd h0 (by decide), fun h0 => absurd h0 (by decide), Nat.zero_le _, fun y hy => ?_, fun h0 => absurd h0 (by decide), Nat.le_refl _⟩
  · rw [List.mem_singleton] at hy
    rw [hy]
    exact hb
  · rw [List.mem_singleton] at hy
    rw [hy]
    exact Nat.le_refl _
end Go.Proofs.Ytojcgmgponnlpaa
namespace Go.Proofs.Ytojcgmgponnlpaa
open Go.RowKit Go.Deep

end Go.Proofs.Ytojcgmgponnlpaa
namespace Go.Proofs.Ytojcgmgponnlpaa
open Go.RowKit Go.Deep

structure Lc.Small (c : Lc) : Prop where
  n : c.m.n ≤ 1048576
  L : ∀ r, r < c.m.n → c.m.L r ≤ 1048576
  k : c.k ≤ 1048576
theorem Lc.Is.sm {c : Lc} (h : c.Is) : c.Small := by
  obtain ⟨h1, h2, h3, h4⟩ := h.small
  exact ⟨by omega, fun r _ => by rw [h4]; omega, by omega⟩
structure Dk.Small (D : Dk Lc) : Prop where
  now : D.now.Small
  past : ∀ c ∈ D.past, c.Small
  len : D.past.length ≤ 1048576
theorem Dk.Is.sm {D : Dk Lc} (h : D.Is) : D.Small := ⟨h.1.sm, fun c hc => (h.2.1 c hc).sm, by have := h.2.2; omega⟩
end Go.Proofs.Ytojcgmgponnlpaa
namespace Go.Proofs.Ytojcgmgponnlpaa
open Go.RowKit Go.Deep Go.Joins

theorem infoLogic : (Try.prog.info? 26).map (fun i => (i.zero, i.size, i.bytes)) = some (some (.agg #[.slice none 0 0, .slice none 0 0]), 2, 48) := by kernel_rfl
end Go.Proofs.Ytojcgmgponnlpaa
namespace Go.Proofs.Ytojcgmgponnlpaa
open Go.RowKit Go.Deep Go.Joins

theorem ThreeAt.otherC {w : World} {p q i : Nat} {u v x y : Value} (h : ThreeAt w p u v x) (hne : p ≠ q) : ThreeAt (w.setCell ⟨q, i, none⟩ y) p u v x := by
  have hn : ∀ j, (⟨p, j, none⟩ : Addr) ≠ ⟨q, i, none⟩ := fun j e => hne (by injection e)
  refine ⟨?_, ?_, ?_, ?_, ?_, ?_⟩
  · rw [World.cell?_setCell_other _ _ _ _ (Ne.symm (hn 0))]; exact h.c0
  · rw [World.cell?_setCell_other _ _ _ _ (Ne.symm (hn 1))]; exact h.c1
  · rw [World.cell?_setCell_other _ _ _ _ (Ne.symm (hn 2))]; exact h.c2
  · rw [World.frozen?_setCell]; exact h.f0
  · rw [World.frozen?_setCell]; exact h.f1
  · rw [World.frozen?_setCell]; exact h.f2
theorem ThreeAt.put0 {w : World} {p : Nat} {u v x : Value} (h : ThreeAt w p u v x) (y : Value) : ThreeAt (w.setCell ⟨p, 0, none⟩ y) p y v x :=
  ⟨World.cell?_setCell_same _ _ _ h.c0, by rw [World.cell?_setCell_other _ _ _ _ (fun e => by injection e with _ e1; omega)]; exact h.c1, by rw [World.cell?_setCell_other _ _ _ _ (fun e => by injection e with _ e1; omega)]; exact h.c2,
   by rw [World.frozen?_setCell]; exact h.f0, by rw [World.frozen?_setCell]; exact h.f1, by rw [World.frozen?_setCell]; exact h.f2⟩
theorem ThreeAt.put1 {w : World} {p : Nat} {u v x : Value} (h : ThreeAt w p u v x) (y : Value) : ThreeAt (w.setCell ⟨p, 1, none⟩ y) p u y x :=
  ⟨by rw [World.cell?_setCell_other _ _ _ _ (fun e => by injection e with _ e1; omega)]; exact h.c0, World.cell?_setCell_same _ _ _ h.c1, by rw [World.cell?_setCell_other _ _ _ _ (fun e => by injection e with _ e1; omega)]; exact h.c2,
   by rw [World.frozen?_setCell]; exact h.f0, by rw [World.frozen?_setCell]; exact h.f1, by rw [World.frozen?_setCell]; exact h.f2⟩
theorem ThreeAt.put2 {w : World} {p : Nat} {u v x : Value} (h : ThreeAt w p u v x) (y : Value) : ThreeAt (w.setCell ⟨p, 2, none⟩ y) p u v y :=
  ⟨by rw [World.cell?_setCell_other _ _ _ _ (fun e => by injection e with _ e1; omega)]; exact h.c0, by rw [World.cell?_setCell_other _ _ _ _ (fun e => by injection e with _ e1; omega)]; exact h.c1, World.cell?_setCell_same _ _ _ h.c2,
   by rw [World.frozen?_setCell]; exact h.f0, by rw [World.frozen?_setCell]; exact h.f1, by rw [World.frozen?_setCell]; exact h.f2⟩
end Go.Proofs.Ytojcgmgponnlpaa
namespace Go.Proofs.Ytojcgmgponnlpaa
open Go.RowKit Go.Deep Go.Joins

theorem Chg.three {S : Nat → Prop} {w w' : World} {p : Nat} {u v x : Value} (h : Chg S w w') (ht : ThreeAt w p u v x) (hs : ¬ S p) : ThreeAt w' p u v x := by
  have hp : p < w.heap.size := World.block_lt_of_cell? w ⟨p, 0, none⟩ ht.c0
  have hb := h.block p hp hs
  exact ⟨(World.cell?_of_block (a := ⟨p, 0, none⟩) hb).trans ht.c0, (World.cell?_of_block (a := ⟨p, 1, none⟩) hb).trans ht.c1, (World.cell?_of_block (a := ⟨p, 2, none⟩) hb).trans ht.c2, (World.frozen?_of_block (a := ⟨p, 0, none⟩) hb).trans ht.f0, (World.frozen?_of_block (a := ⟨p, 1, none⟩) hb).trans ht.f1, (World.frozen?_of_block (a := ⟨p, 2, none⟩) hb).trans ht.f2⟩
theorem Chg.set3 (w : World) (p : Nat) (x y z : Value) : Chg (fun j => j = p) w (((w.setCell ⟨p, 0, none⟩ x).setCell ⟨p, 1, none⟩ y).setCell ⟨p, 2, none⟩ z) :=
  ((Chg.set (S := fun j => j = p) (b := p) (i := 0) rfl x).trans (Chg.set (S := fun j => j = p) (b := p) (i := 1) rfl y)).trans (Chg.set (S := fun j => j = p) (b := p) (i := 2) rfl z)
/-- A logic of one's own that a call hands back, and a word. -/
def CRes (w : World) (c : Lc) (b : Bool) (e : Ending) (w' : World) : Prop := ∃ u t, e = .returned (.tuple #[.agg #[u, t], .bool b]) ∧ Below w.heap.size w w' ∧ CW w' ⟨u, t, w.heap.size, w'.heap.size⟩ c
theorem MadeOk.cres {w : World} {N : Nat} {Z : Nat → Nat → Int} {y : Nat → Nat} {ok : Bool} {e : Ending} {w' : World} (h : MadeOk w N Z y ok e w') : CRes w (if ok = true then Lc.of N Z y else zeroC) ok e w' := by
  obtain ⟨hb, (⟨rfl, rfl⟩ | ⟨rfl, u, t, rv, rfl, hL⟩)⟩ := h
  · exact ⟨_, _, rfl, hb, none, noLay, none, 0, 0, rfl, rfl, LogW.none w' _ _ _⟩
  · obtain ⟨ua, l, na, g, nc, rfl, rfl, hW⟩ := hL.logW
    exact ⟨_, _, rfl, hb, ua, l, na, g, nc, rfl, rfl, hW⟩
theorem spec_SetsOf_C {w : World} {t : Int} : Calls Try.prog 31 #[.int .i64 t] w (CRes w (setsC t) (setsOkB t)) := spec_SetsOf_any.mono fun _ _ h => h.cres
end Go.Proofs.Ytojcgmgponnlpaa
namespace Go.Proofs.Ytojcgmgponnlpaa
open Go.RowKit Go.Deep Go.Joins

/-- A copy under way: opposites ahead of the box, rows behind it. -/
structure CpyL (wr : World) (p base : Nat) (u t : Value) (k N : Nat) (rv : Nat → Value) (Z : Nat → Nat → Int) (y : Nat → Int) : Prop where
  box : TwoAt wr p u t
  out : Out wr (p + 1) u k N rv Z
  ints : IntsAt wr base t N y
  tb : ∀ g, t.ownBlock = some g → g < p
  pb : base ≤ p
theorem CpyL.lt {wr : World} {p base : Nat} {u t : Value} {k N : Nat} {rv : Nat → Value} {Z : Nat → Nat → Int} {y : Nat → Int} (h : CpyL wr p base u t k N rv Z y) : p < wr.heap.size := World.block_lt_of_cell? wr ⟨p, 0, none⟩ h.box.c0
theorem CpyL.below {wr w' : World} {p base : Nat} {u t : Value} {k N : Nat} {rv : Nat → Value} {Z : Nat → Nat → Int} {y : Nat → Int} (h : CpyL wr p base u t k N rv Z y) (hb : Below wr.heap.size wr w') : CpyL w' p base u t k N rv Z y :=
  ⟨h.box.below hb h.lt, h.out.below hb (Nat.le_refl _), ownsRow_below h.ints hb (Nat.le_refl _), h.tb, h.pb⟩
theorem CpyL.row {wo wi w4 : World} {p base : Nat} {u t v' u5 : Value} {k N : Nat} {rv : Nat → Value} {Z : Nat → Nat → Int} {y : Nat → Int} {o : Obj} (h : CpyL wo p base u t k N rv Z y) (hi : Below wo.heap.size wo wi)
    (hu : IntsAt wi wo.heap.size u5 N (Z k)) (hz : ∀ c, c < N → 0 ≤ Z k c ∧ Z k c ≤ 2) (hown : w4.ownsRow (p + 1) 24 1 v' (k + 1) ((List.range k).map rv ++ [u5])) (hg : (wi.alloc o).grownBy w4 u.ownBlock) (hN : 0 < N) :
    CpyL (w4.setCell ⟨p, 0, none⟩ v') p base v' t (k + 1) N (fun r => if r = k then u5 else rv r) Z y ∧ Chg (fun j => p ≤ j) wo (w4.setCell ⟨p, 0, none⟩ v') := by
  have hl := h.lt
  have hm := h.below hi
  obtain ⟨gk, ck, rfl, hgk, hgl, _⟩ := hu.val hN
  have hne : ∀ r, r < k → (rv r).ownBlock ≠ (Value.slice (some ⟨gk, 0, none⟩) N ck).ownBlock := fun r hr e => by
    have h1 := own_lt (h.out.row r hr) gk (by rw [e]; rfl)
    omega
  have hO := hm.out.append (ownsRow_base hu (by omega)) hz hne hown hg
  have e : (fun r c => if r = k then Z k c else Z r c) = Z := by
    funext r c
    by_cases e1 : r = k
    · rw [if_pos e1, e1]
    · rw [if_neg e1]
  rw [e] at hO
  have ha := Chg.alloc (fun _ => False) wi o
  have hgB := ownsRow_block hm.out.top
  have hc : Chg (fun j => p + 1 ≤ j) wi w4 := (ha.mono fun _ f => f.elim).trans (Chg.of_grown hg hgB)
  have hb4 : TwoAt w4 p u t := hc.two hm.box (by show ¬ (p + 1 ≤ p); omega)
  have hi4 : w4.ownsRow base 3 1 t N ((List.range N).map fun c => .int .i64 (y c)) := hc.own hm.ints fun g hg => by have := h.tb g hg; show ¬ (p + 1 ≤ g); omega
  have hs := Chg.set (S := fun j => j = p) (w := w4) (i := 0) rfl v'
  have nob : ∀ {e : TypeId} {n : Nat} {v : Value} {xs : List Value}, w4.ownsRow (p + 1) e 1 v n xs → ∀ g, v.ownBlock = some g → ¬ (fun j => j = p) g := fun ho g hg e => by
    have h1 := ownsRow_block ho g hg
    have e' : g = p := e
    omega
  exact ⟨⟨hb4.set0 v', hs.out hO (nob hO.top) (fun r hr => nob (hO.row r hr)), hs.own hi4 (fun g hg e => by have := h.tb g hg; have e' : g = p := e; omega), h.tb, h.pb⟩,
    ((Chg.of_below (S := fun j => p ≤ j) hi (fun j hj hB => absurd hj (by omega))).trans (hc.mono fun j hj => by have : p + 1 ≤ j := hj; show p ≤ j; omega)).trans (hs.mono fun j hj => by have : j = p := hj; show p ≤ j; omega)⟩
theorem CpyL.made {wr : World} {p base : Nat} {u t : Value} {N : Nat} {rv : Nat → Value} {Z : Nat → Nat → Int} {y : Nat → Int} (h : CpyL wr p base u t N N rv Z y) (h1 : 1 ≤ N) (h2 : N ≤ 12) (hr : ∀ c, c < N → 0 ≤ y c ∧ y c < (N : Int)) : LogO wr base u t N rv Z y := by
  have hpb := h.pb
  refine ⟨h1, h2, h.out.base (by omega), h.ints, fun r hr e => ?_, hr⟩
  obtain ⟨g, cap, e1, _⟩ := h.out.bigN hr h1
  have h3 := ownsRow_block (h.out.row r hr) g (by rw [e1]; rfl)
  have h4 := h.tb g (by rw [← e, e1]; rfl)
  omega
/-- Numbers as values. -/
theorem news_at {w : World} {B g o n : Nat} {a : Option Addr} {z : Nat → Int} (h : RowAt w B a g o n z) : ∀ j u, ((List.range n).map fun c => Value.int .i64 (z c))[j]? = some u → w.cell? ((⟨g, o, none⟩ : Addr).add j) = some u := fun j u hu => by
  rw [List.getElem?_map] at hu
  have hj : j < n := by
    apply Classical.byContradiction
    intro hn
    rw [List.getElem?_eq_none (by rw [List.length_range]; omega)] at hu
    cases hu
  rw [List.getElem?_eq_getElem (by rw [List.length_range]; exact hj), List.getElem_range] at hu
  cases hu
  have h1 := (h.row j hj).2.2
  have e : ((⟨g, o, none⟩ : Addr).add j) = ⟨g, o + j, none⟩ := by unfold Addr.add; split <;> simp_all
  rw [e]
  exact h1
theorem news_one (n : Nat) (z : Nat → Int) : ∀ u ∈ (List.range n).map fun c => Value.int .i64 (z c), u.oneCell' = true := fun u hu => by
  obtain ⟨c, _, rfl⟩ := List.mem_map.1 hu
  rfl
theorem Chg.at_cellC {S : Nat → Prop} {w w' : World} {p : Addr} {v : Value} (h : Chg S w w') (hs : ¬ S p.block) (hc : w.cell? p = some v) : w'.cell? p = some v :=
  (World.cell?_of_block (h.block p.block (World.block_lt_of_cell? w p hc) hs)).trans hc
set_option maxRecDepth 100000 in
set_option maxHeartbeats 4000000 in
theorem spec_l11Logic_at {w : World} {B : Nat} {ua : Option Addr} {l : Lay} {na : Option Addr} {g o nc n q : Nat} {Z : Nat → Nat → Int} {y : Nat → Nat} (h : LogAt w B ua l ⟨n, fun _ => n, Z⟩ na g o n (fun a => (y a : Int))) (hD : LogicData n Z y q) :
    Calls Try.prog 111 #[.agg #[.slice ua n l.cap, .slice na n nc]] w fun e w' => ∃ u t rv, e = .returned (.agg #[u, t]) ∧ LogO w' w.heap.size u t n rv Z (fun a => (y a : Int)) ∧ Below w.heap.size w w' := by
  obtain ⟨i0, hi, hz0, hz1, hz2⟩ := info_parts infoInt
  have HI := Lib.hid hi
  have HZ0 := Lib.hid hz0
  have HZ1 := Lib.hid hz1
  have HZ2 := Lib.hid hz2
  obtain ⟨i1, hj, hy0, hy1, hy2⟩ := info_parts infoInts
  have HJ := Lib.hid hj
  have HY0 := Lib.hid hy0
  have HY1 := Lib.hid hy1
  have HY2 := Lib.hid hy2
  clear hi hz0 hz1 hz2 hj hy0 hy1 hy2
  have hn1 := hD.pos
  have hn12 := hD.top
  have HN1 : Hid (0 < n) := hn1
  have hBw := h.hB
  obtain ⟨rfl, hgB, _⟩ := h.row.row 0 hn1
  obtain ⟨rfl, hlB, _⟩ := h.mat.top 0 hn1
  have hA : ∀ r, r < n → l.A r = some ⟨l.G r, l.O r, none⟩ := fun r hr => (h.mat.row r hr 0 hn1).1
  have hbx := TwoAt.new w (.slice (some ⟨l.b, l.o, none⟩) n l.cap) (.slice (some ⟨g, o, none⟩) n nc) 26
  have b1 := (Below.refl w.heap.size w).alloc (Nat.le_refl _) (.cells #[.slice (some ⟨l.b, l.o, none⟩) n l.cap, .slice (some ⟨g, o, none⟩) n nc] 26)
  have hrs := TwoAt.new (w.alloc (.cells #[.slice (some ⟨l.b, l.o, none⟩) n l.cap, .slice (some ⟨g, o, none⟩) n nc] 26)) (.slice none 0 0) (.slice none 0 0) 26
  rw [World.size_alloc] at hrs
  have b2 := (Below.refl (w.heap.size + 1) (w.alloc (.cells #[.slice (some ⟨l.b, l.o, none⟩) n l.cap, .slice (some ⟨g, o, none⟩) n nc] 26))).alloc (by simp) (.cells #[.slice none 0 0, .slice none 0 0] 26)
  have hbx2 := hbx.below b2 (by omega)
  have bw := b1.trans (b2.mono (by omega))
  have hsz : w.heap.size + 2 ≤ ((w.alloc (.cells #[.slice (some ⟨l.b, l.o, none⟩) n l.cap, .slice (some ⟨g, o, none⟩) n nc] 26)).alloc (.cells #[.slice none 0 0, .slice none 0 0] 26)).heap.size := by simp
  have HL := Lib.hid (h.step bw)
  have HA := Lib.hid hA
  have HD := Lib.hid hD
  clear h hbx b1 b2 hD hA
  have q0 := hbx2.c0
  have q1 := hbx2.c1
  go_enter Try.func111, Try.ntmps111
  have hszb : ((w.alloc (.cells #[.slice (some ⟨l.b, l.o, none⟩) n l.cap, .slice (some ⟨g, o, none⟩) n nc] 26)).alloc (.cells #[.slice none 0 0, .slice none 0 0] 26)).heap.size ≤ w.heap.size + 2 := by simp
  have LIT0 : Hid ((((w.alloc (.cells #[.slice (some ⟨l.b, l.o, none⟩) n l.cap, .slice (some ⟨g, o, none⟩) n nc] 26)).alloc (.cells #[.slice none 0 0, .slice none 0 0] 26)).alloc (.cells #[] 3)).ownsRow (w.heap.size + 1 + 1) 3 1 (.slice (some ⟨w.heap.size + 1 + 1, 0, none⟩) 0 0) 0 []) := by
    have h1 := World.ownsRow_lit (base := ((w.alloc (.cells #[.slice (some ⟨l.b, l.o, none⟩) n l.cap, .slice (some ⟨g, o, none⟩) n nc] 26)).alloc (.cells #[.slice none 0 0, .slice none 0 0] 26)).heap.size) (e := 3) (size := 1) ((w.alloc (.cells #[.slice (some ⟨l.b, l.o, none⟩) n l.cap, .slice (some ⟨g, o, none⟩) n nc] 26)).alloc (.cells #[.slice none 0 0, .slice none 0 0] 26)) #[] 0 (Nat.le_refl _) (Nat.zero_le _) rfl
    rw [World.size_alloc, World.size_alloc] at h1
    exact h1
  have NOT0 := Lib.hid (HL.out.step ((Below.refl ((w.alloc (.cells #[.slice (some ⟨l.b, l.o, none⟩) n l.cap, .slice (some ⟨g, o, none⟩) n nc] 26)).alloc (.cells #[.slice none 0 0, .slice none 0 0] 26)).heap.size ((w.alloc (.cells #[.slice (some ⟨l.b, l.o, none⟩) n l.cap, .slice (some ⟨g, o, none⟩) n nc] 26)).alloc (.cells #[.slice none 0 0, .slice none 0 0] 26))).alloc (Nat.le_refl _) (.cells #[] 3))).row
  go_wp2_with (at_builtin; refine wpList_append_own_at _ rfl _ _ 24 rfl (w.heap.size + 1 + 1) 3 i0 (.int .i64 0) 1 8 Try.underlying24 HI.out HZ0.out HZ1.out HZ2.out rfl (by decide) _ _ _ rfl LIT0.out ⟨g, o, none⟩ n nc ((List.range n).map fun c => .int .i64 (y c : Int)) rfl ?c0 (news_at NOT0.out) (news_one _ _) ?c3 ?c4 ?c5 ?_)
  case c3 => unfold maxLen; omega
  case c4 => omega
  intro v1 w1 hown1 hgrow1 _ _
  generalize ((w.alloc (.cells #[.slice (some ⟨l.b, l.o, none⟩) n l.cap, .slice (some ⟨g, o, none⟩) n nc] 26)).alloc (.cells #[.slice none 0 0, .slice none 0 0] 26)) = W at hbx2 hrs bw hsz hszb HL hgrow1
  have hI1 : IntsAt w1 (w.heap.size + 1 + 1) v1 n (fun a => (y a : Int)) := by
    have h1 := hown1
    try simp only [List.nil_append, Nat.zero_add] at h1
    exact h1
  obtain ⟨tb, tc, rfl, htb, htl, _⟩ := hI1.val hn1
  have C1 : Chg (fun j => W.heap.size ≤ j) W w1 := (Chg.alloc _ _ _).trans (Chg.of_grown hgrow1 fun j hj => by
    have hj' : w.heap.size + 1 + 1 = j := by simpa [Value.ownBlock] using hj
    show W.heap.size ≤ j
    omega)
  have B1 := C1.below (Nat.le_refl _) fun j hj => hj
  have hz1 := B1.size
  have x1 := TwoAt.new w1 (.slice none 0 0) (.slice (some ⟨tb, 0, none⟩) n tc) 26
  have bb := (Below.refl w1.heap.size w1).alloc (Nat.le_refl _) (.cells #[.slice none 0 0, .slice (some ⟨tb, 0, none⟩) n tc] 26)
  have CL : Hid (CpyL (w1.alloc (.cells #[.slice none 0 0, .slice (some ⟨tb, 0, none⟩) n tc] 26)) w1.heap.size (w.heap.size + 1 + 1) (.slice none 0 0) (.slice (some ⟨tb, 0, none⟩) n tc) 0 n (fun _ => .slice none 0 0) Z (fun a => (y a : Int))) :=
    ⟨x1, ⟨World.ownsRow_nil _ _ _ 1, fun _ hr => absurd hr (Nat.not_lt_zero _), fun _ _ hr => absurd hr (Nat.not_lt_zero _), fun _ _ hr => absurd hr (Nat.not_lt_zero _)⟩, ownsRow_below hI1 bb (Nat.le_refl _), fun j hj => by
      have hj' : tb = j := by simpa [Value.ownBlock] using hj
      omega, by omega⟩
  have BB := B1.trans (bb.mono hz1)
  clear hown1 hgrow1 C1 hI1 x1 q0 q1
  go_wp2_with fail
  generalize w1.alloc (.cells #[.slice none 0 0, .slice (some ⟨tb, 0, none⟩) n tc] 26) = w2 at bb CL BB ⊢
  obtain ⟨p, hp⟩ : ∃ p, w1.heap.size = p := ⟨_, rfl⟩
  have hWp : W.heap.size ≤ p := by omega
  rw [hp] at CL ⊢
  clear bb B1 hp htl
  go_loopw [4] (fun i wr => ∃ (k : Nat) (u : Value) (rv : Nat → Value), k ≤ n ∧ i = .int .i64 (k : Int) ∧ CpyL wr p (w.heap.size + 1 + 1) u (.slice (some ⟨tb, 0, none⟩) n tc) k n rv Z (fun a => (y a : Int)) ∧ Below W.heap.size W wr) (fun i _ => n - (RowKit.intOf i).toNat)
  case atStart => exact ⟨0, _, _, Nat.zero_le _, rfl, CL.out, BB⟩
  case round =>
    obtain ⟨k, u, rv, hk, rfl, hC, hB⟩ := hrel
    have hzr := hB.size
    have hbx3 := hbx2.below hB (by omega)
    have q0 := hbx3.c0
    by_cases hlt : k < n
    · have hlt' : (k : Int) < n := by omega
      have hk0 : (0 : Int) ≤ k := by omega
      have hLr := HL.out.step (hB.mono (Nat.le_refl _))
      obtain ⟨_, hlb, c0⟩ := hLr.mat.top k hlt
      have eA := HA.out k hlt
      rw [eA] at c0
      dsimp only at c0
      have S0 : (fun w' => w'.cell? ⟨w.heap.size, 0, none⟩ = some (.slice (some ⟨l.b, l.o, none⟩) n l.cap) ∧ w'.cell? ⟨l.b, l.o + k, none⟩ = some (.slice (some ⟨l.G k, l.O k, none⟩) n (l.C k)) ∧ w'.cell? ⟨p, 0, none⟩ = some u) wr := ⟨q0, c0, hC.box.c0⟩
      have ROW : Hid (RowAt (wr.drew.alloc (.cells #[] 3)) B (some ⟨l.G k, l.O k, none⟩) (l.G k) (l.O k) n (Z k)) := by
        have h1 := (hLr.step (((Below.refl wr.heap.size wr).drew).alloc (Nat.le_refl _) (.cells #[] 3))).mat.rowAt (r := k) hlt
        dsimp only at h1
        rw [eA] at h1
        exact h1
      have LIT : Hid ((wr.drew.alloc (.cells #[] 3)).ownsRow wr.heap.size 3 1 (.slice (some ⟨wr.heap.size, 0, none⟩) 0 0) 0 []) := World.ownsRow_lit (base := wr.heap.size) (e := 3) (size := 1) wr.drew #[] 0 (Nat.le_refl _) (Nat.zero_le _) rfl
      have hpl := hC.lt
      have LS : Hid (w.heap.size < wr.heap.size) := by show _ < _; omega
      have LB : Hid (l.b < wr.heap.size) := by show _ < _; omega
      have LP : Hid (p < wr.heap.size) := hpl
      have PP : Hid (w.heap.size < p) := by show _ < _; omega
      have PB : Hid (l.b < p) := by show _ < _; omega
      have M1 : Hid (0 + n ≤ maxLen) := by show _ ≤ _; unfold maxLen; omega
      have M2 : Hid ((0 + n) * 8 ≤ 140737488355328) := by show _ ≤ _; omega
      have M3 : Hid (wr.heap.size ≤ (wr.drew.alloc (.cells #[] 3)).heap.size) := by show _ ≤ _; rw [World.size_alloc]; exact Nat.le_succ _
      have M4 : Hid (k + 1 ≤ maxLen) := by show _ ≤ _; unfold maxLen; omega
      have M5 : Hid ((k + 1) * 24 ≤ 140737488355328) := by show _ ≤ _; omega
      have HBIT : Hid (∀ c, c < n → 0 ≤ Z k c ∧ Z k c ≤ 2) := fun c hc => by rcases HD.out.bit k c hlt hc with e | e <;> rw [e] <;> decide
      have S1 : ∀ o, (fun w' => w'.cell? ⟨w.heap.size, 0, none⟩ = some (.slice (some ⟨l.b, l.o, none⟩) n l.cap) ∧ w'.cell? ⟨l.b, l.o + k, none⟩ = some (.slice (some ⟨l.G k, l.O k, none⟩) n (l.C k)) ∧ w'.cell? ⟨p, 0, none⟩ = some u) (wr.drew.alloc o) := fun o => by
        have b := ((Below.refl wr.heap.size wr).drew).alloc (Nat.le_refl _) o
        exact ⟨(b.cell (p := ⟨w.heap.size, 0, none⟩) LS.out).trans S0.1, (b.cell (p := ⟨l.b, l.o + k, none⟩) LB.out).trans S0.2.1, (b.cell (p := ⟨p, 0, none⟩) LP.out).trans S0.2.2⟩
      have HCL := Lib.hid hC
      have HBr := Lib.hid hB
      clear q0 c0 eA hLr hC hbx3 hpl hlb hB
      go_wp2_with fail
      refine region_last (fuel := 13) (listed := #[false, false, false, false, false, false, false, false, false, false, false, false, false]) (fun w' => w'.cell? ⟨w.heap.size, 0, none⟩ = some (.slice (some ⟨l.b, l.o, none⟩) n l.cap) ∧ w'.cell? ⟨l.b, l.o + k, none⟩ = some (.slice (some ⟨l.G k, l.O k, none⟩) n (l.C k)) ∧ w'.cell? ⟨p, 0, none⟩ = some u) 12 (by kernel_rfl) (by kernel_rfl) (by kernel_rfl) ?_
      refine last_take [0] (i := 0) (d := 17) (v := ?vC0) (listed' := #[true, false, false, false, false, false, false, false, false, false, false, false, false]) rfl (by kernel_rfl) (by kernel_rfl) (by kernel_rfl) rfl (by rfl) (by kernel_rfl) (by kernel_rfl) S0 ?hC0 ?rC0
      case hC0 =>
        intro w' hSw
        obtain ⟨k0, k1, k2⟩ := hSw
        go_simp
        try with_reducible rfl
      simp only [List.setIfInBounds_toArray, List.set_cons_zero, List.set_cons_succ]
      refine last_take [1] (i := 1) (d := 18) (v := ?vC1) (listed' := #[true, true, false, false, false, false, false, false, false, false, false, false, false]) rfl (by kernel_rfl) (by kernel_rfl) (by kernel_rfl) rfl (by rfl) (by kernel_rfl) (by kernel_rfl) S0 ?hC1 ?rC1
      case hC1 =>
        intro w' hSw
        obtain ⟨k0, k1, k2⟩ := hSw
        go_simp
        try with_reducible rfl
      simp only [List.setIfInBounds_toArray, List.set_cons_zero, List.set_cons_succ]
      refine last_take [3] (i := 3) (d := 20) (v := ?vC3) (listed' := #[true, true, false, true, false, false, false, false, false, false, false, false, false]) rfl (by kernel_rfl) (by kernel_rfl) (by kernel_rfl) rfl (by rfl) (by kernel_rfl) (by kernel_rfl) S0 ?hC3 ?rC3
      case hC3 =>
        intro w' hSw
        obtain ⟨k0, k1, k2⟩ := hSw
        go_simp
        try with_reducible rfl
      simp only [List.setIfInBounds_toArray, List.set_cons_zero, List.set_cons_succ]
      refine last_take [4] (i := 4) (d := 21) (v := ?vC4) (listed' := #[true, true, false, true, true, false, false, false, false, false, false, false, false]) rfl (by kernel_rfl) (by kernel_rfl) (by kernel_rfl) rfl (by rfl) (by kernel_rfl) (by kernel_rfl) S0 ?hC4 ?rC4
      case hC4 =>
        intro w' hSw
        obtain ⟨k0, k1, k2⟩ := hSw
        go_simp
        try with_reducible rfl
      simp only [List.setIfInBounds_toArray, List.set_cons_zero, List.set_cons_succ]
      refine last_take [5] (i := 5) (d := 22) (v := ?vC5) (listed' := #[true, true, false, true, true, true, false, false, false, false, false, false, false]) rfl (by kernel_rfl) (by kernel_rfl) (by kernel_rfl) rfl (by rfl) (by kernel_rfl) (by kernel_rfl) S0 ?hC5 ?rC5
      case hC5 =>
        intro w' hSw
        obtain ⟨k0, k1, k2⟩ := hSw
        go_simp
        try with_reducible rfl
      simp only [List.setIfInBounds_toArray, List.set_cons_zero, List.set_cons_succ]
      refine last_take [6] (i := 6) (d := 23) (v := ?vC6) (listed' := #[true, true, false, true, true, true, true, false, false, false, false, false, false]) rfl (by kernel_rfl) (by kernel_rfl) (by kernel_rfl) rfl (by rfl) (by kernel_rfl) (by kernel_rfl) S0 ?hC6 ?rC6
      case hC6 =>
        intro w' hSw
        obtain ⟨k0, k1, k2⟩ := hSw
        go_simp
        try with_reducible rfl
      simp only [List.setIfInBounds_toArray, List.set_cons_zero, List.set_cons_succ]
      refine last_take [7] (i := 7) (d := 24) (v := ?vC7) (listed' := #[true, true, false, true, true, true, true, true, false, false, false, false, false]) rfl (by kernel_rfl) (by kernel_rfl) (by kernel_rfl) rfl (by rfl) (by kernel_rfl) (by kernel_rfl) S0 ?hC7 ?rC7
      case hC7 =>
        intro w' hSw
        obtain ⟨k0, k1, k2⟩ := hSw
        go_simp
        try with_reducible rfl
      simp only [List.setIfInBounds_toArray, List.set_cons_zero, List.set_cons_succ]
      refine last_value (i := 2) (d := 19) (listed' := #[true, true, true, true, true, true, true, true, false, false, false, false, false]) rfl (by kernel_rfl) rfl (by rfl) (by kernel_rfl) (v := .slice (some ⟨wr.heap.size, 0, none⟩) 0 0) (w' := (wr.drew.alloc (.cells #[] 3))) ?hvC2 (S1 (.cells #[] 3)) ?_
      case hvC2 =>
        go_simp
        try with_reducible rfl
      simp only [List.setIfInBounds_toArray, List.set_cons_zero, List.set_cons_succ]
      refine last_append (k := 8) (d := 25) (listed' := #[true, true, true, true, true, true, true, true, true, false, false, false, false]) rfl (by kernel_rfl) rfl (by kernel_rfl) rfl (.tmp 19) (.tmp 24) 24 rfl (wr.heap.size) 3 i0 (.int .i64 0) 1 8 Try.underlying24 HI.out HZ0.out HZ1.out HZ2.out rfl (by decide) (.slice (some ⟨wr.heap.size, 0, none⟩) 0 0) 0 _ (by simp [Act.eval]) LIT.out ⟨l.G k, l.O k, none⟩ n (l.C k) ((List.range n).map fun c => .int .i64 (Z k c)) (by simp [Act.eval]) (by simp) (news_at ROW.out) (news_one _ _) M1.out M2.out M3.out ?_
      intro v8 w8 hown8 hgrow8 hat8
      have hI8 : IntsAt w8 wr.heap.size v8 n (Z k) := by
        have h1 := hown8
        try simp only [List.nil_append, Nat.zero_add] at h1
        exact h1
      obtain ⟨g8, c8, rfl, hg8, hl8, _⟩ := hI8.val HN1.out
      have C8 : Chg (fun j => wr.heap.size ≤ j) wr w8 := ((Chg.drew _ _).trans (Chg.alloc _ _ _)).trans (Chg.of_grown hgrow8 fun j hj => by have hj' : wr.heap.size = j := (by simpa [Value.ownBlock] using hj); show wr.heap.size ≤ j; omega)
      have B8 := C8.below (Nat.le_refl _) fun j hj => hj
      have S2 : (fun w' => w'.cell? ⟨w.heap.size, 0, none⟩ = some (.slice (some ⟨l.b, l.o, none⟩) n l.cap) ∧ w'.cell? ⟨l.b, l.o + k, none⟩ = some (.slice (some ⟨l.G k, l.O k, none⟩) n (l.C k)) ∧ w'.cell? ⟨p, 0, none⟩ = some u) w8 := ⟨(B8.cell (p := ⟨w.heap.size, 0, none⟩) LS.out).trans S0.1, (B8.cell (p := ⟨l.b, l.o + k, none⟩) LB.out).trans S0.2.1, (B8.cell (p := ⟨p, 0, none⟩) LP.out).trans S0.2.2⟩
      have S3 : ∀ o, (fun w' => w'.cell? ⟨w.heap.size, 0, none⟩ = some (.slice (some ⟨l.b, l.o, none⟩) n l.cap) ∧ w'.cell? ⟨l.b, l.o + k, none⟩ = some (.slice (some ⟨l.G k, l.O k, none⟩) n (l.C k)) ∧ w'.cell? ⟨p, 0, none⟩ = some u) (w8.alloc o) := fun o => by
        have b := (Below.refl w8.heap.size w8).alloc (Nat.le_refl _) o
        have hz := B8.size
        have a1 := LS.out
        have a2 := LB.out
        have a3 := LP.out
        exact ⟨(b.cell (p := ⟨w.heap.size, 0, none⟩) (by show w.heap.size < _; have a1' : w.heap.size < wr.heap.size := a1; omega)).trans S2.1, (b.cell (p := ⟨l.b, l.o + k, none⟩) (by show l.b < _; have a2' : l.b < wr.heap.size := a2; omega)).trans S2.2.1, (b.cell (p := ⟨p, 0, none⟩) (by show p < _; have a3' : p < wr.heap.size := a3; omega)).trans S2.2.2⟩
      have HG8 := Lib.hid hgrow8
      have HB8 := Lib.hid B8
      have HI8 := Lib.hid hI8
      have TOP := Lib.hid (ownsRow_below HCL.out.out.top B8 (Nat.le_refl _))
      clear hown8 hgrow8 hat8 C8 B8 hI8
      refine ⟨S2, ?_⟩
      simp only [List.setIfInBounds_toArray, List.set_cons_zero, List.set_cons_succ]
      refine last_value (i := 9) (d := 26) (listed' := #[true, true, true, true, true, true, true, true, true, true, false, false, false]) rfl (by kernel_rfl) rfl (by rfl) (by kernel_rfl) (v := .slice (some ⟨w8.heap.size, 0, none⟩) 1 1) (w' := (w8.alloc (.cells #[.slice (some ⟨g8, 0, none⟩) n c8] 24))) ?hvC9 (S3 (.cells #[.slice (some ⟨g8, 0, none⟩) n c8] 24)) ?_
      case hvC9 =>
        go_simp
        try with_reducible rfl
      simp only [List.setIfInBounds_toArray, List.set_cons_zero, List.set_cons_succ]
      refine last_append (k := 10) (d := 27) (listed' := #[true, true, true, true, true, true, true, true, true, true, true, false, false]) rfl (by kernel_rfl) rfl (by kernel_rfl) rfl (.tmp 18) (.tmp 26) 23 rfl (p + 1) 24 i1 (.slice none 0 0) 1 24 Try.underlying23 HJ.out HY0.out HY1.out HY2.out rfl (by decide) u k _ (by simp [Act.eval]) (World.ownsRow.alloc TOP.out _) ⟨w8.heap.size, 0, none⟩ 1 1 [.slice (some ⟨g8, 0, none⟩) n c8] (by simp [Act.eval]) rfl (cell_one_new _ _ _) (fun u hu => by rw [List.mem_singleton] at hu; rw [hu]; rfl) M4.out M5.out (by simp; have h1 := HB8.out.size; have h2 : p < wr.heap.size := LP.out; omega) ?_
      intro v10 w10 hown10 hgrow10 hat10
      obtain ⟨hR, hC10⟩ := HCL.out.row HB8.out HI8.out HBIT.out hown10 hgrow10 HN1.out
      obtain ⟨g10, c10, rfl⟩ := ownsRow_form hown10 (Nat.succ_pos k)
      have hgB : ∀ g, u.ownBlock = some g → p + 1 ≤ g := ownsRow_block TOP.out
      have C10 : Chg (fun j => p + 1 ≤ j) w8 w10 := (Chg.alloc _ _ _).trans (Chg.of_grown hgrow10 hgB)
      have S4 : (fun w' => w'.cell? ⟨w.heap.size, 0, none⟩ = some (.slice (some ⟨l.b, l.o, none⟩) n l.cap) ∧ w'.cell? ⟨l.b, l.o + k, none⟩ = some (.slice (some ⟨l.G k, l.O k, none⟩) n (l.C k)) ∧ w'.cell? ⟨p, 0, none⟩ = some u) w10 := ⟨C10.at_cellC (by show ¬ (p + 1 ≤ w.heap.size); have := PP.out; omega) S2.1, C10.at_cellC (by show ¬ (p + 1 ≤ l.b); have := PB.out; omega) S2.2.1, C10.at_cellC (by show ¬ (p + 1 ≤ p); omega) S2.2.2⟩
      have F10 := hR.box.f0
      rw [World.frozen?_setCell] at F10
      have HR := Lib.hid hR
      have HC10 := Lib.hid hC10
      clear hown10 hgrow10 hat10 hR hC10 C10
      refine ⟨S4, ?_⟩
      simp only [List.setIfInBounds_toArray, List.set_cons_zero, List.set_cons_succ]
      refine last_take [11] (i := 11) (d := 28) (v := ?vC11) (listed' := #[true, true, true, true, true, true, true, true, true, true, true, true, false]) rfl (by kernel_rfl) (by kernel_rfl) (by kernel_rfl) rfl (by rfl) (by kernel_rfl) (by kernel_rfl) S4 ?hC11 ?rC11
      case hC11 =>
        intro w' hSw
        obtain ⟨k0, k1, k2⟩ := hSw
        go_simp
        try with_reducible rfl
      simp only [List.setIfInBounds_toArray, List.set_cons_zero, List.set_cons_succ]
      have F0 := S4.2.2
      refine last_store (w' := (w10.setCell ⟨p, 0, none⟩ (.slice (some ⟨g10, 0, none⟩) (k + 1) c10))) (listed' := #[true, true, true, true, true, true, true, true, true, true, true, true, true]) rfl (by kernel_rfl) rfl (by rfl) (by kernel_rfl) ?hsC12 ?hkC12
      case hsC12 => go_simp
      refine last_done (by kernel_rfl) ?_ _
      have HB10 : Hid (Below W.heap.size W (w10.setCell ⟨p, 0, none⟩ (.slice (some ⟨g10, 0, none⟩) (k + 1) c10))) := HBr.out.trans (HC10.out.below hzr fun j hj => by have hj' : p ≤ j := hj; omega)
      go_wp2_with fail
      exact ⟨⟨k + 1, _, _, by omega, by go_num, HR.out, HB10.out⟩, by simp [RowKit.intOf]; omega⟩
    · have hlt' : ¬ (k : Int) < n := by omega
      obtain rfl : k = n := by omega
      have HLO := Lib.hid (hC.made hn1 hn12 fun c hc => by have := HD.out.lt c hc; exact ⟨by omega, by omega⟩)
      have hrs3 := hrs.below hB (by omega)
      obtain ⟨gu, cu, rfl⟩ := ownsRow_form hC.out.top hn1
      have k0 := hC.box.c0
      have k1 := hC.box.c1
      have r0 := hrs3.c0
      have r1 := hrs3.c1
      have r2 := hrs3.f0
      have r3 := hrs3.f1
      have hBB := Lib.hid (bw.trans (hB.mono (by omega)))
      clear hC
      go_wp2_with fail
      have hfin := (hrs3.set0 (.slice (some ⟨gu, 0, none⟩) k cu)).set1 (.slice (some ⟨tb, 0, none⟩) k tc)
      have t0 := hfin.c0
      have t1 := hfin.c1
      have hon := set2_only wr (w.heap.size + 1) (.slice (some ⟨gu, 0, none⟩) k cu) (.slice (some ⟨tb, 0, none⟩) k tc)
      have hFin := (HLO.out.chg (Chg.of_only hon) fun j hj => by have hj' : j = w.heap.size + 1 := hj; omega).base (base' := w.heap.size) (by omega)
      refine bodyPost_ret (v := .agg #[.slice (some ⟨gu, 0, none⟩) k cu, .slice (some ⟨tb, 0, none⟩) k tc]) (by simp [results, Try.results111, go_sem, t0, t1]) rfl ⟨_, _, rfl, ⟨rv, hFin⟩, hBB.out.trans (hon.below fun j hj => by have hj' : j = w.heap.size + 1 := hj; omega)⟩
/-- What a copy of a logic is. -/
def CopyC (c : Lc) (w : World) (e : Ending) (w' : World) : Prop := ∃ u t, e = .returned (.agg #[u, t]) ∧ Below w.heap.size w w' ∧ CW w' ⟨u, t, w.heap.size, w'.heap.size⟩ c
theorem spec_l11Logic {w : World} {B : Nat} {u t : Value} {c : Lc} (h : CAt w B u t c) (hI : c.Is) : Calls Try.prog 111 #[.agg #[u, t]] w (CopyC c w) := by
  obtain ⟨n, Z, y, q, rfl, hD⟩ := hI
  obtain ⟨ua, l, na, g, o, nc, rfl, rfl, hL⟩ := h
  refine (spec_l11Logic_at hL hD).mono ?_
  rintro e w' ⟨u, t, rv, rfl, hLO, hb⟩
  obtain ⟨ua, l, na, g, nc, rfl, rfl, hW⟩ := hLO.logW
  exact ⟨_, _, rfl, hb, ua, l, na, g, nc, rfl, rfl, hW⟩
end Go.Proofs.Ytojcgmgponnlpaa
