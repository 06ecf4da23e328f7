/- What projections of answers of a logic are. -/
import Derived.Test.YtkfinkhdfbogjaaCb
import Derived.Test.YtkfinkhdfbogjaaNa
namespace Go.Proofs.Ytkfinkhdfbogjaa
open Go.RowKit Go.Deep
section
variable {m : Mx} {k : Nat} {z : Nat → Int} {y : Nat → Nat} {o a b d : Nat}
theorem Ortho.projV (h : Ortho m z y o) (hl : logicB m k z = true) (ha : a < m.n) (hb : b < m.n) : projV m k z (a : Int) (b : Int) = ((projN m y a b : Nat) : Int) := by
  unfold Proofs.Ytkfinkhdfbogjaa.projV
  rw [hl, good_mk (by omega) (by omega) (by omega) (by omega)]
  have e1 : (z a).toNat = y a := h.toNat ha
  simp only [Bool.and_self, if_true, Int.toNat_natCast]
  unfold projN
  dsimp only
  rw [e1]
theorem Ortho.hookV (h : Ortho m z y o) (hl : logicB m k z = true) (ha : a < m.n) (hb : b < m.n) : hookV m k z (a : Int) (b : Int) = ((hookN m y a b : Nat) : Int) := by
  unfold Proofs.Ytkfinkhdfbogjaa.hookV
  rw [hl, good_mk (by omega) (by omega) (by omega) (by omega)]
  have e1 : (z a).toNat = y a := h.toNat ha
  simp only [Bool.and_self, if_true, Int.toNat_natCast]
  unfold hookN
  dsimp only
  rw [e1]
theorem Ortho.behV (h : Ortho m z y o) (hl : logicB m k z = true) (ha : a < m.n) (hb : b < m.n) (hd : d < m.n) : behV m k z (a : Int) (b : Int) (d : Int) = ((projN m y b (projN m y a d) : Nat) : Int) := by
  unfold Proofs.Ytkfinkhdfbogjaa.behV
  rw [h.projV hl ha hd, h.projV hl hb (h.proj_lt ha hd)]
end
end Go.Proofs.Ytkfinkhdfbogjaa
