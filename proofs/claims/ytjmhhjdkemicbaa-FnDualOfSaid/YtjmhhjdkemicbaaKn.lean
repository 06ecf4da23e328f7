/- Values of formulas, told: of a whole formula, of its opposite, of a letter. -/
import Derived.Test.YtjmhhjdkemicbaaKg
import Derived.Test.YtjmhhjdkemicbaaNa
namespace Go.Proofs.Ytjmhhjdkemicbaa
open Go.RowKit Go.Deep

section
variable {m : Mx} {k : Nat} {z : Nat → Int} {s : List UInt8}
theorem value_at {a b d n0 : Nat} {f : Fm} (hl : logicB m m.n z = true) (hO : Ortho m z (fun c => (z c).toNat) n0) (ha : a < m.n) (hb : b < m.n) (hd : d < m.n) (hf : formB s = true) (he : fmOf s = some f) :
    valueV m m.n z s (a : Int) (b : Int) (d : Int) = ((valN m (fun c => (z c).toNat) n0 a b d f : Nat) : Int) :=
  valueV_yes hf he (by rw [hl, good_mk (by omega) (by omega) (by omega) (by omega)]; rfl) (by rw [hl, good_mk (by omega) (by omega) (by omega) (by omega)]; rfl) hO
theorem value_text {a b d n0 : Nat} (f : Fm) (hl : logicB m m.n z = true) (hO : Ortho m z (fun c => (z c).toNat) n0) (ha : a < m.n) (hb : b < m.n) (hd : d < m.n) (h60 : f.text.length ≤ 60) :
    valueV m m.n z f.text (a : Int) (b : Int) (d : Int) = ((valN m (fun c => (z c).toNat) n0 a b d f : Nat) : Int) := value_at hl hO ha hb hd (form_mk h60) (fmOf_text f)
/-- -1, or an answer. -/
theorem valueV_cases {x v t : Int} : valueV m k z s x v t = -1 ∨ ∃ (a b d n0 v0 : Nat) (f : Fm), x = (a : Int) ∧ v = (b : Int) ∧ t = (d : Int) ∧ a < m.n ∧ b < m.n ∧ d < m.n ∧ k = m.n ∧ logicB m k z = true ∧ Ortho m z (fun c => (z c).toNat) n0 ∧ s.length ≤ 60 ∧ s = f.text ∧
    valueV m k z s x v t = (v0 : Int) ∧ v0 = valN m (fun c => (z c).toNat) n0 a b d f ∧ v0 < m.n := by
  cases hf : formB s with
  | false => exact .inl (valueV_nof hf)
  | true =>
    cases hg : ((logicB m k z && goodB m.n 2 (two x v)) && (logicB m k z && goodB m.n 2 (two x t))) with
    | false => exact .inl (valueV_nol hg)
    | true =>
      rw [Bool.and_eq_true] at hg
      obtain ⟨a, b, d, n0, rfl, rfl, rfl, ha, hb, hd, rfl, hO⟩ := parts_split hg.1 hg.2
      obtain ⟨h60, f, hfm, hft⟩ := form_is hf
      have hl := ((Bool.and_eq_true _ _).mp hg.1).1
      exact .inr ⟨a, b, d, n0, _, f, rfl, rfl, rfl, ha, hb, hd, rfl, hl, hO, h60, hft, value_at hl hO ha hb hd hf hfm, rfl, hO.val_lt ha hb hd f⟩
end
end Go.Proofs.Ytjmhhjdkemicbaa
