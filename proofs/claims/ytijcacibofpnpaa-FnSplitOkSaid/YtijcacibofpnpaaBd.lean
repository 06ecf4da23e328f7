/- The walk of the reference's ApartFrom. -/
import Derived.Test.YtijcacibofpnpaaBa
import Derived.Test.YtijcacibofpnpaaAa
namespace Go.Proofs.Ytijcacibofpnpaa
open Go.RowKit Go.Deep

theorem meetQ2 {B c n : Nat} {sa : Option Addr} {l : Lay} {m : Mx} {a b : Nat} {w : World} {z : Nat → Int} {y : Nat → Nat} {o : Nat} (h : MatAt w B sa l m) (hO : Ortho m z y o) (ha : a < m.n) (hb : b < m.n) :
    Calls Try.prog 49 #[.slice sa m.n l.cap, .int .i64 a, .int .i64 b] (w.drewN (c + n)) fun e w' => e = .returned (.int .i64 (mN m a b : Nat)) ∧ ∃ k, w' = w.drewN (c + k) :=
  (l1Meet_any (h.drewN (c + n)) hO.lat.order ha hb).mono fun _ _ ⟨he, hw⟩ => ⟨by rw [he, hO.mI ha hb], by subst hw; exact ⟨n, rfl⟩⟩
theorem joinQ2 {B c n : Nat} {sa : Option Addr} {l : Lay} {m : Mx} {a b : Nat} {w : World} {z : Nat → Int} {y : Nat → Nat} {o : Nat} (h : MatAt w B sa l m) (hO : Ortho m z y o) (ha : a < m.n) (hb : b < m.n) :
    Calls Try.prog 59 #[.slice sa m.n l.cap, .int .i64 a, .int .i64 b] (w.drewN (c + n)) fun e w' => e = .returned (.int .i64 (jN m a b : Nat)) ∧ ∃ k, w' = w.drewN (c + k) :=
  (l1Join_any (h.drewN (c + n)) hO.lat.order ha hb).mono fun _ _ ⟨he, hw⟩ => ⟨by rw [he, hO.jI ha hb], by subst hw; exact ⟨n, rfl⟩⟩
theorem joinD {B c : Nat} {sa : Option Addr} {l : Lay} {m : Mx} {a b : Nat} {w : World} {z : Nat → Int} {y : Nat → Nat} {o : Nat} (h : MatAt w B sa l m) (hO : Ortho m z y o) (ha : a < m.n) (hb : b < m.n) :
    Calls Try.prog 59 #[.slice sa m.n l.cap, .int .i64 a, .int .i64 b] (w.drewN c) fun e w' => e = .returned (.int .i64 (jN m a b : Nat)) ∧ Drew w w' :=
  (l1Join_any (h.drewN c) hO.lat.order ha hb).mono fun _ _ ⟨he, hw⟩ => ⟨by rw [he, hO.jI ha hb], by subst hw; exact (Drew.refl w).drewN c⟩

set_option maxRecDepth 100000 in
set_option maxHeartbeats 4000000 in
theorem spec_ApartFrom {w : World} {B : Nat} {ua : Option Addr} {l : Lay} {m : Mx} {na : Option Addr} {g o k nc : Nat} {z : Nat → Int} {x v : Int} (h : LogAt w B ua l m na g o k z) :
    Calls Try.prog 28 #[.agg #[.slice ua m.n l.cap, .slice na k nc], .int .i64 x, .int .i64 v] w fun e w' => e = .returned (.int .i64 (apV m k z x v)) ∧ Below w.heap.size w w' := by
  have hX := BoxN.start w #[.slice ua m.n l.cap, .slice na k nc] 26
  have h1 := Lib.hid (h.alloc (.cells #[.slice ua m.n l.cap, .slice na k nc] 26))
  have q0 := hX.cell 0 rfl
  have q1 := hX.cell 1 rfl
  clear h
  cases hg : (logicB m k z && goodB m.n 2 (two x v)) with
  | false =>
    have HF : Hid (-1 = apV m k z x v) := by show _ = _; unfold apV; rw [hg]; rfl
    have HG := Lib.hid hg
    clear hg
    go_enter Try.func28, Try.ntmps28
    go_wp2_with fail
    go_at_call 47
    refine (l2Both_any h1.out).mono ?_
    rintro e w2 ⟨rfl, b2⟩
    rw [HG.out]
    have hX2 := hX.step b2
    clear q0 q1
    go_wp2_with fail
    go_ret
    exact ⟨ret_int HF.out, hX2.below⟩
  | true =>
    have HG := Lib.hid hg
    obtain ⟨a, b, o', rfl, rfl, ha, hb, rfl, hO⟩ := good_parts hg
    have HV : Hid (((apN m (fun c => (z c).toNat) a b : Nat) : Int) = apV m m.n z (a : Int) (b : Int)) := by
      show _ = _
      unfold apV
      rw [if_pos hg]
      rfl
    have HO := Lib.hid hO
    clear hg hO
    go_enter Try.func28, Try.ntmps28
    go_wp2_with fail
    go_at_call 47
    refine (l2Both_any h1.out).mono ?_
    rintro e w2 ⟨rfl, b2⟩
    rw [HG.out]
    have hX2 := hX.step b2
    have h2 := h1.out.step b2
    obtain ⟨rfl, hg1, hg2⟩ := h2.row.row 0 (by omega)
    obtain ⟨rfl, hg3, hg4⟩ := h2.mat.top 0 (by omega)
    clear hg1 hg2 hg3 hg4
    obtain ⟨_, _, d1⟩ := h2.row.row a ha
    rw [HO.out.zy a ha] at d1
    obtain ⟨_, _, d2⟩ := h2.row.row b hb
    rw [HO.out.zy b hb] at d2
    have fa := HO.out.lt a ha
    have fb := HO.out.lt b hb
    obtain ⟨ya, hya⟩ : ∃ ya : Nat, ya = (z a).toNat := ⟨_, rfl⟩
    obtain ⟨yb, hyb⟩ : ∃ yb : Nat, yb = (z b).toNat := ⟨_, rfl⟩
    rw [← hya] at d1 fa
    rw [← hyb] at d2 fb
    have HYA := Lib.hid hya
    have HYB := Lib.hid hyb
    clear hya hyb
    have ha' : (a : Int) < m.n := by omega
    have hb' : (b : Int) < m.n := by omega
    have hmat := Lib.hid h2.mat
    have r0 := hX2.cell 0 rfl
    have r1 := hX2.cell 1 rfl
    have hB := hX2.below
    have m1 := (HO.out.mG ha hb).lt
    have m2 := (HO.out.mG ha fb).lt
    have m3 := (HO.out.mG fa hb).lt
    have m4 := (HO.out.mG fa fb).lt
    have m5 := (HO.out.jG m1 m2).lt
    have m6 := (HO.out.jG m3 m4).lt
    clear q0 q1 h2 h1 hX
    go_wp2_with fail
    go_quiet (first | (go_at_call 49; exact meetQ hmat.out HO.out ha hb) | (go_at_call 49; exact meetQ hmat.out HO.out ha fb) | (go_at_call 59; exact joinQ hmat.out HO.out m1 m2))
    go_wp2_with fail
    go_quiet (first | (go_at_call 49; exact meetQ2 hmat.out HO.out fa hb) | (go_at_call 49; exact meetQ2 hmat.out HO.out fa fb) | (go_at_call 59; exact joinQ2 hmat.out HO.out m3 m4))
    go_wp2_with fail
    go_at_call 59
    refine (joinD hmat.out HO.out m5 m6).mono ?_
    rintro e w3 ⟨rfl, hdr⟩
    go_wp2_with fail
    go_ret
    exact ⟨ret_int (by rw [← HV.out, HYA.out, HYB.out]; rfl), hB.trans (hdr.below _)⟩
end Go.Proofs.Ytijcacibofpnpaa
