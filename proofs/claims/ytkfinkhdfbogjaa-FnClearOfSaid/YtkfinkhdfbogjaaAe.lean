/- The walks of the reference's functions of two answers: what is told apart, projections, what follows; and of its tests of two and three answers. -/
import Derived.Test.YtkfinkhdfbogjaaAa
import Derived.Test.YtkfinkhdfbogjaaMathP
namespace Go.Proofs.Ytkfinkhdfbogjaa
open Go.RowKit Go.Deep

noncomputable def projV (m : Mx) (k : Nat) (z : Nat → Int) (x v : Int) : Int := if (logicB m k z && goodB m.n 2 (two x v)) = true then ((projN m (fun c => (z c).toNat) x.toNat v.toNat : Nat) : Int) else -1
noncomputable def hookV (m : Mx) (k : Nat) (z : Nat → Int) (x v : Int) : Int := if (logicB m k z && goodB m.n 2 (two x v)) = true then ((hookN m (fun c => (z c).toNat) x.toNat v.toNat : Nat) : Int) else -1

set_option maxRecDepth 100000 in
set_option maxHeartbeats 4000000 in
theorem spec_ProjectOf {w : World} {B : Nat} {ua : Option Addr} {l : Lay} {m : Mx} {na : Option Addr} {g o k nc : Nat} {z : Nat → Int} {x v : Int} (h : LogAt w B ua l m na g o k z) :
    Calls Try.prog 13 #[.agg #[.slice ua m.n l.cap, .slice na k nc], .int .i64 x, .int .i64 v] w fun e w' => e = .returned (.int .i64 (projV m k z x v)) ∧ Below w.heap.size w w' := by
  have hX := BoxN.start w #[.slice ua m.n l.cap, .slice na k nc] 26
  have h1 := Lib.hid (h.alloc (.cells #[.slice ua m.n l.cap, .slice na k nc] 26))
  have q0 := hX.cell 0 rfl
  have q1 := hX.cell 1 rfl
  clear h
  cases hg : (logicB m k z && goodB m.n 2 (two x v)) with
  | false =>
    have HF : Hid (-1 = projV m k z x v) := by show _ = _; unfold projV; rw [hg]; rfl
    have HG := Lib.hid hg
    clear hg
    go_enter Try.func13, Try.ntmps13
    go_wp2_with fail
    go_at_call 46
    refine (l2Both_any h1.out).mono ?_
    rintro e w2 ⟨rfl, b2⟩
    rw [HG.out]
    have hX2 := hX.step b2
    clear q0 q1
    go_wp2_with fail
    go_ret
    exact ⟨ret_int HF.out, hX2.below⟩
  | true =>
    have HG := Lib.hid hg
    obtain ⟨a, b, o', rfl, rfl, ha, hb, rfl, hO⟩ := good_parts hg
    have HV : Hid (((projN m (fun c => (z c).toNat) a b : Nat) : Int) = projV m m.n z (a : Int) (b : Int)) := by
      show _ = _
      unfold projV
      rw [if_pos hg]
      rfl
    have HO := Lib.hid hO
    clear hg hO
    go_enter Try.func13, Try.ntmps13
    go_wp2_with fail
    go_at_call 46
    refine (l2Both_any h1.out).mono ?_
    rintro e w2 ⟨rfl, b2⟩
    rw [HG.out]
    have hX2 := hX.step b2
    have h2 := h1.out.step b2
    obtain ⟨rfl, hg1, hg2⟩ := h2.row.row 0 (by omega)
    obtain ⟨rfl, hg3, hg4⟩ := h2.mat.top 0 (by omega)
    clear hg1 hg2 hg3 hg4
    obtain ⟨_, _, d1⟩ := h2.row.row a ha
    rw [HO.out.zy a ha] at d1
    obtain ⟨_, _, d2⟩ := h2.row.row b hb
    rw [HO.out.zy b hb] at d2
    have fa := HO.out.lt a ha
    have fb := HO.out.lt b hb
    obtain ⟨ya, hya⟩ : ∃ ya : Nat, ya = (z a).toNat := ⟨_, rfl⟩
    obtain ⟨yb, hyb⟩ : ∃ yb : Nat, yb = (z b).toNat := ⟨_, rfl⟩
    rw [← hya] at d1 fa
    rw [← hyb] at d2 fb
    have HYA := Lib.hid hya
    have HYB := Lib.hid hyb
    clear hya hyb
    have ha' : (a : Int) < m.n := by omega
    have hb' : (b : Int) < m.n := by omega
    have hmat := Lib.hid h2.mat
    have r0 := hX2.cell 0 rfl
    have r1 := hX2.cell 1 rfl
    have hB := hX2.below
    have m1 := (HO.out.jG fa hb).lt
    clear q0 q1 h2 h1 hX
    go_wp2_with fail
    go_quiet (first | (go_at_call 48; exact joinQ hmat.out HO.out fa hb) | (go_at_call 47; exact meetQ hmat.out HO.out ha m1))
    go_wp2_with fail
    go_ret
    exact ⟨ret_int (by rw [← HV.out, HYA.out]; rfl), Below.drewN' hB _⟩

set_option maxRecDepth 100000 in
set_option maxHeartbeats 4000000 in
theorem spec_HookOf {w : World} {B : Nat} {ua : Option Addr} {l : Lay} {m : Mx} {na : Option Addr} {g o k nc : Nat} {z : Nat → Int} {x v : Int} (h : LogAt w B ua l m na g o k z) :
    Calls Try.prog 20 #[.agg #[.slice ua m.n l.cap, .slice na k nc], .int .i64 x, .int .i64 v] w fun e w' => e = .returned (.int .i64 (hookV m k z x v)) ∧ Below w.heap.size w w' := by
  have hX := BoxN.start w #[.slice ua m.n l.cap, .slice na k nc] 26
  have h1 := Lib.hid (h.alloc (.cells #[.slice ua m.n l.cap, .slice na k nc] 26))
  have q0 := hX.cell 0 rfl
  have q1 := hX.cell 1 rfl
  clear h
  cases hg : (logicB m k z && goodB m.n 2 (two x v)) with
  | false =>
    have HF : Hid (-1 = hookV m k z x v) := by show _ = _; unfold hookV; rw [hg]; rfl
    have HG := Lib.hid hg
    clear hg
    go_enter Try.func20, Try.ntmps20
    go_wp2_with fail
    go_at_call 46
    refine (l2Both_any h1.out).mono ?_
    rintro e w2 ⟨rfl, b2⟩
    rw [HG.out]
    have hX2 := hX.step b2
    clear q0 q1
    go_wp2_with fail
    go_ret
    exact ⟨ret_int HF.out, hX2.below⟩
  | true =>
    have HG := Lib.hid hg
    obtain ⟨a, b, o', rfl, rfl, ha, hb, rfl, hO⟩ := good_parts hg
    have HV : Hid (((hookN m (fun c => (z c).toNat) a b : Nat) : Int) = hookV m m.n z (a : Int) (b : Int)) := by
      show _ = _
      unfold hookV
      rw [if_pos hg]
      rfl
    have HO := Lib.hid hO
    clear hg hO
    go_enter Try.func20, Try.ntmps20
    go_wp2_with fail
    go_at_call 46
    refine (l2Both_any h1.out).mono ?_
    rintro e w2 ⟨rfl, b2⟩
    rw [HG.out]
    have hX2 := hX.step b2
    have h2 := h1.out.step b2
    obtain ⟨rfl, hg1, hg2⟩ := h2.row.row 0 (by omega)
    obtain ⟨rfl, hg3, hg4⟩ := h2.mat.top 0 (by omega)
    clear hg1 hg2 hg3 hg4
    obtain ⟨_, _, d1⟩ := h2.row.row a ha
    rw [HO.out.zy a ha] at d1
    obtain ⟨_, _, d2⟩ := h2.row.row b hb
    rw [HO.out.zy b hb] at d2
    have fa := HO.out.lt a ha
    have fb := HO.out.lt b hb
    obtain ⟨ya, hya⟩ : ∃ ya : Nat, ya = (z a).toNat := ⟨_, rfl⟩
    obtain ⟨yb, hyb⟩ : ∃ yb : Nat, yb = (z b).toNat := ⟨_, rfl⟩
    rw [← hya] at d1 fa
    rw [← hyb] at d2 fb
    have HYA := Lib.hid hya
    have HYB := Lib.hid hyb
    clear hya hyb
    have ha' : (a : Int) < m.n := by omega
    have hb' : (b : Int) < m.n := by omega
    have hmat := Lib.hid h2.mat
    have r0 := hX2.cell 0 rfl
    have r1 := hX2.cell 1 rfl
    have hB := hX2.below
    have m1 := (HO.out.mG ha hb).lt
    clear q0 q1 h2 h1 hX
    go_wp2_with fail
    go_quiet (first | (go_at_call 47; exact meetQ hmat.out HO.out ha hb) | (go_at_call 48; exact joinQ hmat.out HO.out fa m1))
    go_wp2_with fail
    go_ret
    exact ⟨ret_int (by rw [← HV.out, HYA.out]; rfl), Below.drewN' hB _⟩
end Go.Proofs.Ytkfinkhdfbogjaa
