/- Logics by their numbers, and desks of them. -/
import Derived.Test.YtojcgmgponnlpaaGa
import Derived.Test.YtojcgmgponnlpaaMathY
namespace Go.Proofs.Ytojcgmgponnlpaa
open Go.RowKit Go.Deep

/-! ### Logics by their numbers -/
/-- A logic by its numbers, one or none. -/
structure Lc where
  m : Mx
  k : Nat
  z : Nat → Int
noncomputable def Lc.ok (c : Lc) : Bool := logicB c.m c.k c.z
def Lc.y (c : Lc) (a : Nat) : Nat := (c.z a).toNat
def Lc.of (n : Nat) (Z : Nat → Nat → Int) (y : Nat → Nat) : Lc := ⟨⟨n, fun _ => n, Z⟩, n, fun a => (y a : Int)⟩
/-- It as square rows, and its opposites as numbers. -/
def Lc.sq (c : Lc) : Lc := Lc.of c.m.n c.m.Z c.y
/-- A logic that is one, as square rows. -/
def Lc.Is (c : Lc) : Prop := ∃ n Z y o, c = Lc.of n Z y ∧ LogicData n Z y o
theorem Lc.Is.ok {c : Lc} (h : c.Is) : c.ok = true := by
  obtain ⟨n, Z, y, o, rfl, h⟩ := h
  exact logicB_true h.logic
theorem LogicData.congrY {n o : Nat} {Z : Nat → Nat → Int} {y y' : Nat → Nat} (h : LogicData n Z y o) (e : ∀ a, a < n → y a = y' a) : LogicData n Z y' o :=
  ⟨h.pos, h.top, h.bit, h.refl, h.anti, h.trans, fun a ha => by rw [← e a ha]; exact h.lt a ha, fun a ha => by rw [← e a ha, ← e _ (h.lt a ha)]; exact h.inv a ha, fun a b ha hb hz => by rw [← e a ha, ← e b hb]; exact h.turn a b ha hb hz, h.meet, h.ho, h.least,
   fun a c ha hc h1 h2 => h.kept a c ha hc h1 (by rw [e a ha]; exact h2)⟩
theorem Lc.sq_is {c : Lc} (h : c.ok = true) : c.sq.Is := by
  obtain ⟨y, o, hO⟩ := (logicB_is h).ortho
  exact ⟨_, _, _, o, rfl, hO.data.congrY fun a ha => by unfold Lc.y; rw [hO.zy a ha]; simp⟩
theorem Lc.Is.sq {c : Lc} (h : c.Is) : c.sq = c := by
  obtain ⟨n, Z, y, o, rfl, h⟩ := h
  rfl
theorem Lc.Is.small {c : Lc} (h : c.Is) : 1 ≤ c.m.n ∧ c.m.n ≤ 12 ∧ c.k = c.m.n ∧ ∀ r, c.m.L r = c.m.n := by
  obtain ⟨n, Z, y, o, rfl, h⟩ := h
  exact ⟨h.pos, h.top, rfl, fun _ => rfl⟩
theorem Lc.Is.data {c : Lc} (h : c.Is) : ∃ o, LogicData c.m.n c.m.Z c.y o ∧ Ortho c.m c.z c.y o := by
  obtain ⟨n, Z, y, o, rfl, h⟩ := h
  exact ⟨o, h, h.ortho⟩
/-- The zero value's numbers. -/
def zeroC : Lc := Lc.of 0 (fun _ _ => 0) (fun _ => 0)
theorem zeroC_no : zeroC.ok = false := by
  unfold Lc.ok
  refine logicB_false fun h => ?_
  have := h.lat.order.pos
  exact absurd this (by decide)
noncomputable def setsC (t : Int) : Lc := if setsOkB t = true then Lc.of (2 ^ t.toNat) setsZ (setsY (2 ^ t.toNat)) else zeroC
def ringC : Lc := Lc.of 6 ringZ ringY
theorem ringC_is : ringC.Is := ⟨_, _, _, _, rfl, ring_data⟩
theorem setsC_is {t : Int} (h : setsOkB t = true) : (setsC t).Is := by
  unfold setsC
  rw [if_pos h]
  unfold setsOkB at h
  rw [Bool.and_eq_true, decide_eq_true_iff, decide_eq_true_iff] at h
  exact ⟨_, _, _, _, rfl, sets_data t.toNat (by omega)⟩
theorem setsC_no {t : Int} (h : setsOkB t = false) : setsC t = zeroC := by
  unfold setsC
  rw [if_neg (by rw [h]; decide)]
theorem setsC_ok {t : Int} : (setsC t).ok = setsOkB t := by
  cases h : setsOkB t with
  | true => exact (setsC_is h).ok
  | false => rw [setsC_no h]; exact zeroC_no

/-! ### Desks of logics -/
noncomputable def Dk.okB (D : Dk Lc) : Bool := D.past.all Lc.ok && D.now.ok && decide (D.past.length ≤ 8)
def Dk.sq (D : Dk Lc) : Dk Lc := ⟨D.now.sq, D.past.map Lc.sq⟩
/-- A desk of logics, all as square rows. -/
abbrev Dk.Is (D : Dk Lc) : Prop := D.All Lc.Is
theorem Dk.sq_is {D : Dk Lc} (h : D.okB = true) : D.sq.Is := by
  unfold Dk.okB at h
  rw [Bool.and_eq_true, Bool.and_eq_true, decide_eq_true_iff] at h
  refine ⟨Lc.sq_is h.1.2, fun x hx => ?_, by show (D.past.map Lc.sq).length ≤ 8; rw [List.length_map]; exact h.2⟩
  obtain ⟨c, hc, rfl⟩ := List.mem_map.1 (show x ∈ D.past.map Lc.sq from hx)
  exact Lc.sq_is (List.all_eq_true.1 h.1.1 c hc)
theorem Dk.Is.okB {D : Dk Lc} (h : D.Is) : D.okB = true := by
  unfold Dk.okB
  rw [Bool.and_eq_true, Bool.and_eq_true, decide_eq_true_iff]
  exact ⟨⟨List.all_eq_true.2 fun c hc => (h.2.1 c hc).ok, h.1.ok⟩, h.2.2⟩
theorem Dk.Is.sq {D : Dk Lc} (h : D.Is) : D.sq = D := by
  obtain ⟨now, past⟩ := D
  show Dk.mk _ _ = Dk.mk _ _
  rw [h.1.sq]
  congr 1
  refine (List.map_congr_left fun c hc => ?_).trans (List.map_id past)
  exact (h.2.1 c hc).sq
end Go.Proofs.Ytojcgmgponnlpaa
