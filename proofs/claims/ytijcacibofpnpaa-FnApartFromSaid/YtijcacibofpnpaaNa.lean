/- The laws on no, yes and logics, walked at whatever code. -/
import Derived.Test.YtijcacibofpnpaaDn
import Derived.Test.YtijcacibofpnpaaLe
import Derived.Test.YtijcacibofpnpaaOj
import Derived.Test.YtijcacibofpnpaaMath
namespace Go.Proofs.Ytijcacibofpnpaa
open Go.RowKit Go.Deep

/-- The drawn logic in its box, and all that was there before. -/
structure Held (w : World) (ua : Option Addr) (l : Lay) (m : Mx) (na : Option Addr) (g o k nc : Nat) (z : Nat → Int) (P : Nat) (wx : World) : Prop where
  log : LogAt wx P ua l m na g o k z
  box : TwoAt wx P (.slice ua m.n l.cap) (.slice na k nc)
  old : Below w.heap.size w wx
theorem Held.step {w wx w' : World} {ua : Option Addr} {l : Lay} {m : Mx} {na : Option Addr} {g o k nc P : Nat} {z : Nat → Int} (h : Held w ua l m na g o k nc z P wx) (hb : Below wx.heap.size wx w') : Held w ua l m na g o k nc z P w' :=
  ⟨h.log.step hb, h.box.below hb (World.block_lt_of_cell? wx ⟨P, 0, none⟩ h.box.c0), h.old.trans (hb.mono h.old.size)⟩
theorem Held.start {w w1 : World} {ua : Option Addr} {l : Lay} {m : Mx} {na : Option Addr} {g o k : Nat} {z : Nat → Int} (h : Fresh w ua l m na g o k z w1) (nc : Nat) : Held w ua l m na g o k nc z w1.heap.size (w1.alloc (.cells #[.slice ua m.n l.cap, .slice na k nc] 26)) :=
  ⟨h.log.alloc _, TwoAt.new _ _ _ _, h.old.alloc h.old.size _⟩
theorem noV_no {m : Mx} {k : Nat} {z : Nat → Int} (h : logicB m k z = false) : noV m k z = -1 := by unfold noV; rw [h]; rfl
theorem yesV_no {m : Mx} {k : Nat} {z : Nat → Int} (h : logicB m k z = false) : yesV m k z = -1 := by unfold yesV; rw [h]; rfl
theorem Ortho.noV {m : Mx} {k : Nat} {z : Nat → Int} {y : Nat → Nat} {o : Nat} (h : Ortho m z y o) (hl : logicB m k z = true) : noV m k z = (o : Int) := by unfold Proofs.Ytijcacibofpnpaa.noV; rw [if_pos hl]; exact h.eq
theorem Ortho.yesV {m : Mx} {k : Nat} {z : Nat → Int} {y : Nat → Nat} {o : Nat} (h : Ortho m z y o) (hl : logicB m k z = true) : yesV m k z = (y o : Int) := by
  unfold Proofs.Ytijcacibofpnpaa.yesV
  rw [if_pos hl, h.eq]
  exact h.zy o h.ho
theorem Ortho.leastV {m : Mx} {z : Nat → Int} {y : Nat → Nat} {o : Nat} (h : Ortho m z y o) : leastV m = (o : Int) := by rw [leastV_yes (orderB_true h.lat.order)]; exact h.eq
theorem Ortho.greatV {m : Mx} {z : Nat → Int} {y : Nat → Nat} {o : Nat} (h : Ortho m z y o) : Proofs.Ytijcacibofpnpaa.leastV (tr m) = (y o : Int) := by rw [leastV_yes (orderB_true (tr_order h.lat.order))]; exact h.great

end Go.Proofs.Ytijcacibofpnpaa
