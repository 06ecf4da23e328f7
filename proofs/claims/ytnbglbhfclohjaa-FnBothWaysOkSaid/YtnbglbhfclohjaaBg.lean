/- What the functions of agreeing answers tell of answers of a logic. -/
import Derived.Test.YtnbglbhfclohjaaAa
import Derived.Test.YtnbglbhfclohjaaBb
import Derived.Test.YtnbglbhfclohjaaNa
import Derived.Test.YtnbglbhfclohjaaOi
import Derived.Test.YtnbglbhfclohjaaLe
namespace Go.Proofs.Ytnbglbhfclohjaa
open Go.RowKit Go.Deep
section
variable {m : Mx} {k : Nat} {z : Nat → Int} {y : Nat → Nat} {o a b d : Nat}
theorem agB_congr {m : Mx} {y y' : Nat → Nat} {a b : Nat} (h : y b = y' b) : agB m y a b = agB m y' a b := by unfold agB; rw [h]
theorem Ortho.withV (h : Ortho m z y o) (hl : logicB m k z = true) (ha : a < m.n) (hb : b < m.n) : withV m k z (a : Int) (b : Int) = agB m y a b := by
  unfold Proofs.Ytnbglbhfclohjaa.withV
  rw [hl, good_mk (by omega) (by omega) (by omega) (by omega)]
  simp only [Bool.and_self, Bool.true_and, Int.toNat_natCast]
  exact agB_congr (h.toNat hb)
theorem Ortho.apV (h : Ortho m z y o) (hl : logicB m k z = true) (ha : a < m.n) (hb : b < m.n) : apV m k z (a : Int) (b : Int) = (apN m y a b : Nat) := by
  unfold Proofs.Ytnbglbhfclohjaa.apV
  rw [hl, good_mk (by omega) (by omega) (by omega) (by omega)]
  have e1 : (z a).toNat = y a := h.toNat ha
  have e2 : (z b).toNat = y b := h.toNat hb
  simp only [Bool.and_self, if_true, Int.toNat_natCast]
  unfold apN
  dsimp only
  rw [e1, e2]
theorem Ortho.splitV (h : Ortho m z y o) (hl : logicB m k z = true) (ha : a < m.n) (hb : b < m.n) (hd : d < m.n) : splitV m k z (a : Int) (b : Int) (d : Int) = splitB m a b d := by
  have _ := h.ho
  unfold Proofs.Ytnbglbhfclohjaa.splitV
  rw [hl, good_mk (by omega) (by omega) (by omega) (by omega), good_mk (by omega) (by omega) (by omega) (by omega)]
  simp only [Bool.and_self, Bool.true_and, Int.toNat_natCast]
theorem both_keeps (m : Mx) (k : Nat) (z : Nat → Int) : bothV m k z = keepsV m k z := by
  cases hl : logicB m k z with
  | false => unfold bothV keepsV; rw [hl]; rfl
  | true =>
    obtain ⟨y, o, hO⟩ := (logicB_is hl).ortho
    have hkn : k = m.n := (logicB_is hl).pair.len
    subst hkn
    rw [keepsV_is hO]
    unfold bothV
    rw [hl, hO.own.both_iff, keepsB_congr fun a ha => hO.toNat ha]
    rfl
theorem Ortho.keepsV (h : Ortho m z y o) (hl : logicB m k z = true) : keepsV m k z = keepsB m y := by
  have hkn : k = m.n := (logicB_is hl).pair.len
  subst hkn
  exact keepsV_is h
/-- Where the law is kept, agreeing goes both ways. -/
theorem Ortho.ag_comm (h : Ortho m z y o) (hk : keepsB m y = true) (ha : a < m.n) (hb : b < m.n) : agB m y a b = agB m y b a := by
  have hK := h.keeps_iff.1 hk
  rw [Bool.eq_iff_iff, h.ag_iff ha hb, h.ag_iff hb ha]
  exact ⟨hK.ag, hK.ag⟩
end
end Go.Proofs.Ytnbglbhfclohjaa
