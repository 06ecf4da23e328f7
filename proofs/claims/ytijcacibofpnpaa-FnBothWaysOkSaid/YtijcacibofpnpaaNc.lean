/- The law on NotOf, walked at whatever code; what the functions of logics answer of numbers that are answers. -/
import Derived.Test.YtijcacibofpnpaaNa
namespace Go.Proofs.Ytijcacibofpnpaa
open Go.RowKit Go.Deep

theorem good2 {n : Nat} {x y : Int} (h : goodB n 2 (two x y) = true) : ∃ a b : Nat, x = (a : Int) ∧ y = (b : Int) ∧ a < n ∧ b < n := by
  obtain ⟨h0, h1, h2, h3⟩ := good_two h
  exact ⟨x.toNat, y.toNat, by omega, by omega, by omega, by omega⟩
theorem Ortho.notV {m : Mx} {k : Nat} {z : Nat → Int} {y : Nat → Nat} {o a : Nat} (h : Ortho m z y o) (hl : logicB m k z = true) (ha : a < m.n) : notV m k z (a : Int) = (y a : Int) := by
  unfold Proofs.Ytijcacibofpnpaa.notV
  rw [hl, good_same, good_mk (by omega) (by omega) (by omega) (by omega)]
  exact h.zy a ha
theorem Ortho.andV {m : Mx} {k : Nat} {z : Nat → Int} {y : Nat → Nat} {o a b : Nat} (h : Ortho m z y o) (hl : logicB m k z = true) (ha : a < m.n) (hb : b < m.n) : andV m k z (a : Int) (b : Int) = meetI m a b := by
  have _ := h.ho
  unfold Proofs.Ytijcacibofpnpaa.andV
  rw [hl, good_mk (by omega) (by omega) (by omega) (by omega)]
  rfl
theorem Ortho.orV {m : Mx} {k : Nat} {z : Nat → Int} {y : Nat → Nat} {o a b : Nat} (h : Ortho m z y o) (hl : logicB m k z = true) (ha : a < m.n) (hb : b < m.n) : orV m k z (a : Int) (b : Int) = meetI (tr m) a b := by
  have _ := h.ho
  unfold Proofs.Ytijcacibofpnpaa.orV
  rw [hl, good_mk (by omega) (by omega) (by omega) (by omega)]
  rfl
theorem Ortho.apartB {m : Mx} {k : Nat} {z : Nat → Int} {y : Nat → Nat} {o a b : Nat} (h : Ortho m z y o) (hl : logicB m k z = true) (ha : a < m.n) (hb : b < m.n) : apartB m k z (a : Int) (b : Int) = leB m a (y b) := by
  unfold Proofs.Ytijcacibofpnpaa.apartB
  rw [hl, good_mk (by omega) (by omega) (by omega) (by omega)]
  show (true && leB m a (z b).toNat) = _
  rw [h.zy b hb]
  simp

end Go.Proofs.Ytijcacibofpnpaa
