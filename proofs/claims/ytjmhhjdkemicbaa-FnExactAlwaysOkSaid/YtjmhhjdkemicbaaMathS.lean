/- The plain mathematics of the lists of projections, and of what is cleared away. -/
import Derived.Test.YtjmhhjdkemicbaaMathP
namespace Go.Proofs.Ytjmhhjdkemicbaa

theorem listTo_mem {p : Nat → Bool} {k c : Nat} : (c : Int) ∈ listTo p k ↔ c < k ∧ p c = true := by
  constructor
  · intro h
    obtain ⟨d, e, h1, h2⟩ := listTo_in h
    obtain rfl : d = c := by omega
    exact ⟨h1, h2⟩
  · exact fun h => listTo_has h.1 h.2
/-- It is a projection on a. -/
def upB (m : Mx) (y : Nat → Nat) (a k : Nat) : Bool := anyB m.n fun b => decide (projN m y a b = k)
def upL (m : Mx) (y : Nat → Nat) (a : Nat) : List Int := listTo (upB m y a) m.n
/-- Its projection on a is no. -/
def clearB (m : Mx) (y : Nat → Nat) (o a b : Nat) : Bool := decide (projN m y a b = o)
def clearL (m : Mx) (y : Nat → Nat) (o a : Nat) : List Int := listTo (clearB m y o a) m.n
theorem upB_iff {m : Mx} {y : Nat → Nat} {a k : Nat} : upB m y a k = true ↔ ∃ b, b < m.n ∧ projN m y a b = k := by
  unfold upB anyB
  rw [List.any_eq_true]
  constructor
  · rintro ⟨b, hb, e⟩
    exact ⟨b, List.mem_range.1 hb, of_decide_eq_true e⟩
  · rintro ⟨b, hb, e⟩
    exact ⟨b, List.mem_range.2 hb, decide_eq_true e⟩
section
variable {m : Mx} {z : Nat → Int} {y : Nat → Nat} {o : Nat}
theorem Ortho.up_le (h : Ortho m z y o) {a k : Nat} (ha : a < m.n) (hk : upB m y a k = true) : k < m.n ∧ m.Z k a = 1 := by
  obtain ⟨b, hb, rfl⟩ := upB_iff.1 hk
  exact ⟨h.proj_lt ha hb, h.proj_le ha hb⟩
theorem Ortho.up_keeps (h : Ortho m z y o) (hk : keepsB m y = true) {a k : Nat} (ha : a < m.n) (hkn : k < m.n) : upB m y a k = leB m k a := by
  rw [Bool.eq_iff_iff]
  exact ⟨fun e => leB_mk (h.up_le ha e).2, fun e => upB_iff.2 ⟨k, hkn, h.proj_below hk ha hkn (leB_is e)⟩⟩
theorem Ortho.up_no (h : Ortho m z y o) {a : Nat} (ha : a < m.n) : upB m y a o = true := upB_iff.2 ⟨o, h.ho, h.proj_no ha⟩
theorem Ortho.clear_keeps (h : Ortho m z y o) (hk : keepsB m y = true) {a b : Nat} (ha : a < m.n) (hb : b < m.n) : clearB m y o a b = leB m b (y a) := h.proj_clear hk ha hb
theorem Ortho.clear_no (h : Ortho m z y o) {a : Nat} (ha : a < m.n) : clearB m y o a o = true := decide_eq_true (h.proj_no ha)
theorem Ortho.up_pos (h : Ortho m z y o) {a : Nat} (ha : a < m.n) : (upL m y a).length ≠ 0 := fun e => by
  have := listTo_has h.ho (h.up_no ha)
  rw [show listTo (upB m y a) m.n = [] from List.eq_nil_of_length_eq_zero e] at this
  cases this
theorem Ortho.clear_pos (h : Ortho m z y o) {a : Nat} (ha : a < m.n) : (clearL m y o a).length ≠ 0 := fun e => by
  have := listTo_has h.ho (h.clear_no ha)
  rw [show listTo (clearB m y o a) m.n = [] from List.eq_nil_of_length_eq_zero e] at this
  cases this
end
end Go.Proofs.Ytjmhhjdkemicbaa
