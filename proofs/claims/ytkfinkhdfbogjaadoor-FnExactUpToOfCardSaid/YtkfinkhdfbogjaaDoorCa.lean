/- The walks of the program's projection and of what it makes, of what is put behind each other, of ProjectOf, HookOf, BehindOf. -/
import Derived.Test.YtkfinkhdfbogjaaDoorAa
import Derived.Test.YtkfinkhdfbogjaaDoorCb
namespace Go.Proofs.YtkfinkhdfbogjaaDoor
open Go.RowKit Go.Deep

/-- The closure over an answer. -/
abbrev pjF (b : Nat) : Value := .func (.func 41) #[] #[.pointer (some ⟨b, 0, none⟩), .pointer (some ⟨b + 1, 0, none⟩), .pointer (some ⟨b + 1 + 1, 0, none⟩)]
/-- What the closure over the answer a has captured lies in memory. -/
structure PJ (w : World) (B ob tb : Nat) (tG : Nat → Nat) (ua : Option Addr) (l : Lay) (m : Mx) (g o nc : Nat) (z : Nat → Int) (y : Nat → Nat) (n0 a b1 : Nat) : Prop where
  L : AL w B ob tb tG ua l m g o z y n0
  ha : a < m.n
  lt : b1 + 1 + 1 < w.heap.size
  c0 : w.cell? ⟨b1, 0, none⟩ = some (.slice ua m.n l.cap)
  c1 : w.cell? ⟨b1, 1, none⟩ = some (.slice (some ⟨g, o, none⟩) m.n nc)
  c2 : w.cell? ⟨b1, 2, none⟩ = some (.slice (some ⟨ob, 0, none⟩) 2 2)
  c3 : w.cell? ⟨b1 + 1, 0, none⟩ = some (.int .i64 (a : Int))
  c4 : w.cell? ⟨b1 + 1 + 1, 0, none⟩ = some (.int .i64 ((y a : Nat) : Int))
theorem PJ.step {w w' : World} {B ob tb g o nc n0 a b1 : Nat} {tG : Nat → Nat} {ua : Option Addr} {l : Lay} {m : Mx} {z : Nat → Int} {y : Nat → Nat} (h : PJ w B ob tb tG ua l m g o nc z y n0 a b1) (hb : Below w.heap.size w w') : PJ w' B ob tb tG ua l m g o nc z y n0 a b1 :=
  have h1 := h.lt
  have h2 := hb.size
  ⟨h.L.step hb, h.ha, by omega, (hb.cell (p := ⟨b1, 0, none⟩) (by show b1 < _; omega)).trans h.c0, (hb.cell (p := ⟨b1, 1, none⟩) (by show b1 < _; omega)).trans h.c1, (hb.cell (p := ⟨b1, 2, none⟩) (by show b1 < _; omega)).trans h.c2,
    (hb.cell (p := ⟨b1 + 1, 0, none⟩) (by show b1 + 1 < _; omega)).trans h.c3, (hb.cell (p := ⟨b1 + 1 + 1, 0, none⟩) (by show b1 + 1 + 1 < _; omega)).trans h.c4⟩

set_option maxRecDepth 100000 in
set_option maxHeartbeats 4000000 in
theorem project_any {w : World} {B ob tb g o nc n0 a b b1 : Nat} {tG : Nat → Nat} {ua : Option Addr} {l : Lay} {m : Mx} {z : Nat → Int} {y : Nat → Nat} (h : PJ w B ob tb tG ua l m g o nc z y n0 a b1) (hb : b < m.n) :
    Calls Tryd.prog 41 #[.int .i64 b, .pointer (some ⟨b1, 0, none⟩), .pointer (some ⟨b1 + 1, 0, none⟩), .pointer (some ⟨b1 + 1 + 1, 0, none⟩)] w fun e w' => e = .returned (.int .i64 ((projN m y a b : Nat) : Int)) ∧ Below w.heap.size w w' := by
  have ha := h.ha
  have hya := h.L.O.lt a ha
  have hm1 := h.L.jlt hya hb
  have hP := Lib.hid h
  clear h
  go_enter Tryd.func41, Tryd.ntmps41
  go_wp2_with fail
  have hB0 : Below w.heap.size w w.drew := (Below.refl _ w).drew
  have hP0 := Lib.hid (hP.out.step hB0)
  have hS0 : (fun w' => w'.cell? ⟨b1, 0, none⟩ = some (.slice ua m.n l.cap) ∧ w'.cell? ⟨b1, 1, none⟩ = some (.slice (some ⟨g, o, none⟩) m.n nc) ∧ w'.cell? ⟨b1, 2, none⟩ = some (.slice (some ⟨ob, 0, none⟩) 2 2) ∧ w'.cell? ⟨b1 + 1, 0, none⟩ = some (.int .i64 (a : Int)) ∧ w'.cell? ⟨b1 + 1 + 1, 0, none⟩ = some (.int .i64 ((y a : Nat) : Int))) w.drew := ⟨hP0.out.c0, hP0.out.c1, hP0.out.c2, hP0.out.c3, hP0.out.c4⟩
  clear hP
  refine region_plain (fuel := 8) (listed := #[false, false, false, false, false, false, false, false]) (fun w' => w'.cell? ⟨b1, 0, none⟩ = some (.slice ua m.n l.cap) ∧ w'.cell? ⟨b1, 1, none⟩ = some (.slice (some ⟨g, o, none⟩) m.n nc) ∧ w'.cell? ⟨b1, 2, none⟩ = some (.slice (some ⟨ob, 0, none⟩) 2 2) ∧ w'.cell? ⟨b1 + 1, 0, none⟩ = some (.int .i64 (a : Int)) ∧ w'.cell? ⟨b1 + 1 + 1, 0, none⟩ = some (.int .i64 ((y a : Nat) : Int))) (by kernel_rfl) (by kernel_rfl) (by kernel_rfl) ?_
  refine hold_take (i := 0) (d := 6) (v := ?vp0) (listed' := #[true, false, false, false, false, false, false, false]) rfl (by kernel_rfl) (by kernel_rfl) (by kernel_rfl) rfl (by rfl) (by kernel_rfl) hS0 ?hp0 ?rp0
  case hp0 =>
    intro w' hSw
    obtain ⟨k0, k1, k2, k3, k4⟩ := hSw
    go_simp
    try with_reducible rfl
  simp only [List.setIfInBounds_toArray, List.set_cons_zero, List.set_cons_succ]
  refine hold_take (i := 1) (d := 7) (v := ?vp1) (listed' := #[true, true, false, false, false, false, false, false]) rfl (by kernel_rfl) (by kernel_rfl) (by kernel_rfl) rfl (by rfl) (by kernel_rfl) hS0 ?hp1 ?rp1
  case hp1 =>
    intro w' hSw
    obtain ⟨k0, k1, k2, k3, k4⟩ := hSw
    go_simp
    try with_reducible rfl
  simp only [List.setIfInBounds_toArray, List.set_cons_zero, List.set_cons_succ]
  refine hold_take (i := 2) (d := 8) (v := ?vp2) (listed' := #[true, true, true, false, false, false, false, false]) rfl (by kernel_rfl) (by kernel_rfl) (by kernel_rfl) rfl (by rfl) (by kernel_rfl) hS0 ?hp2 ?rp2
  case hp2 =>
    intro w' hSw
    obtain ⟨k0, k1, k2, k3, k4⟩ := hSw
    go_simp
    try with_reducible rfl
  simp only [List.setIfInBounds_toArray, List.set_cons_zero, List.set_cons_succ]
  refine hold_take (i := 3) (d := 9) (v := ?vp3) (listed' := #[true, true, true, true, false, false, false, false]) rfl (by kernel_rfl) (by kernel_rfl) (by kernel_rfl) rfl (by rfl) (by kernel_rfl) hS0 ?hp3 ?rp3
  case hp3 =>
    intro w' hSw
    obtain ⟨k0, k1, k2, k3, k4⟩ := hSw
    go_simp
    try with_reducible rfl
  simp only [List.setIfInBounds_toArray, List.set_cons_zero, List.set_cons_succ]
  refine hold_take (i := 4) (d := 10) (v := ?vp4) (listed' := #[true, true, true, true, true, false, false, false]) rfl (by kernel_rfl) (by kernel_rfl) (by kernel_rfl) rfl (by rfl) (by kernel_rfl) hS0 ?hp4 ?rp4
  case hp4 =>
    intro w' hSw
    obtain ⟨k0, k1, k2, k3, k4⟩ := hSw
    go_simp
    try with_reducible rfl
  simp only [List.setIfInBounds_toArray, List.set_cons_zero, List.set_cons_succ]
  refine hold_call (i := 5) (d := 11) (listed' := #[true, true, true, true, true, true, false, false]) rfl (by kernel_rfl) rfl (by rfl) (by kernel_rfl) ?hep5 (joinA (nc := nc) hP0.out.L hya hb) ?hcp5
  case hep5 => go_simp
  rintro e x1 ⟨rfl, bb1⟩
  have hP1 := Lib.hid (hP0.out.step bb1)
  have hB1 := hB0.trans (bb1.mono hB0.size)
  have hS1 : (fun w' => w'.cell? ⟨b1, 0, none⟩ = some (.slice ua m.n l.cap) ∧ w'.cell? ⟨b1, 1, none⟩ = some (.slice (some ⟨g, o, none⟩) m.n nc) ∧ w'.cell? ⟨b1, 2, none⟩ = some (.slice (some ⟨ob, 0, none⟩) 2 2) ∧ w'.cell? ⟨b1 + 1, 0, none⟩ = some (.int .i64 (a : Int)) ∧ w'.cell? ⟨b1 + 1 + 1, 0, none⟩ = some (.int .i64 ((y a : Nat) : Int))) x1 := ⟨hP1.out.c0, hP1.out.c1, hP1.out.c2, hP1.out.c3, hP1.out.c4⟩
  clear hS0 hP0 hB0 bb1
  refine ⟨_, rfl, hS1, ?_⟩
  simp only [List.setIfInBounds_toArray, List.set_cons_zero, List.set_cons_succ]
  refine hold_call (i := 6) (d := 12) (listed' := #[true, true, true, true, true, true, true, false]) rfl (by kernel_rfl) rfl (by rfl) (by kernel_rfl) ?hep6 (meetA (nc := nc) hP1.out.L ha hm1) ?hcp6
  case hep6 => go_simp
  rintro e x2 ⟨rfl, bb2⟩
  have hP2 := Lib.hid (hP1.out.step bb2)
  have hB2 := hB1.trans (bb2.mono hB1.size)
  have hS2 : (fun w' => w'.cell? ⟨b1, 0, none⟩ = some (.slice ua m.n l.cap) ∧ w'.cell? ⟨b1, 1, none⟩ = some (.slice (some ⟨g, o, none⟩) m.n nc) ∧ w'.cell? ⟨b1, 2, none⟩ = some (.slice (some ⟨ob, 0, none⟩) 2 2) ∧ w'.cell? ⟨b1 + 1, 0, none⟩ = some (.int .i64 (a : Int)) ∧ w'.cell? ⟨b1 + 1 + 1, 0, none⟩ = some (.int .i64 ((y a : Nat) : Int))) x2 := ⟨hP2.out.c0, hP2.out.c1, hP2.out.c2, hP2.out.c3, hP2.out.c4⟩
  clear hS1 hP1 hB1 bb2
  refine ⟨_, rfl, hS2, ?_⟩
  simp only [List.setIfInBounds_toArray, List.set_cons_zero, List.set_cons_succ]
  refine hold_take (i := 7) (d := 5) (v := ?vp7) (listed' := #[true, true, true, true, true, true, true, true]) rfl (by kernel_rfl) (by kernel_rfl) (by kernel_rfl) rfl (by rfl) (by kernel_rfl) hS2 ?hp7 ?rp7
  case hp7 =>
    intro w' hSw
    obtain ⟨k0, k1, k2, k3, k4⟩ := hSw
    go_simp
    try with_reducible rfl
  simp only [List.setIfInBounds_toArray, List.set_cons_zero, List.set_cons_succ]
  refine hold_done (by kernel_rfl) ?_ _
  go_wp2_with fail
  go_ret
  exact ⟨rfl, hB2⟩

def PjRes (w : World) (B ob tb : Nat) (tG : Nat → Nat) (ua : Option Addr) (l : Lay) (m : Mx) (g o nc : Nat) (z : Nat → Int) (y : Nat → Nat) (n0 a : Nat) (e : Ending) (w' : World) : Prop := ∃ b1, e = .returned (pjF b1) ∧ PJ w' B ob tb tG ua l m g o nc z y n0 a b1 ∧ Below w.heap.size w w'
theorem pj_made {w : World} {B ob tb g o nc n0 a : Nat} {tG : Nat → Nat} {ua : Option Addr} {l : Lay} {m : Mx} {z : Nat → Int} {y : Nat → Nat} (h : AL w B ob tb tG ua l m g o z y n0) (ha : a < m.n) : PJ (((w.alloc (.cells #[.slice ua m.n l.cap, .slice (some ⟨g, o, none⟩) m.n nc, .slice (some ⟨ob, 0, none⟩) 2 2] 51)).alloc (.cells #[.int .i64 (a : Int)] 3)).alloc (.cells #[.int .i64 ((y a : Nat) : Int)] 3)) B ob tb tG ua l m g o nc z y n0 a w.heap.size ∧ Below w.heap.size w (((w.alloc (.cells #[.slice ua m.n l.cap, .slice (some ⟨g, o, none⟩) m.n nc, .slice (some ⟨ob, 0, none⟩) 2 2] 51)).alloc (.cells #[.int .i64 (a : Int)] 3)).alloc (.cells #[.int .i64 ((y a : Nat) : Int)] 3)) := by
  have hX := BoxN.start w #[.slice ua m.n l.cap, .slice (some ⟨g, o, none⟩) m.n nc, .slice (some ⟨ob, 0, none⟩) 2 2] 51
  have s1 : (w.alloc (.cells #[.slice ua m.n l.cap, .slice (some ⟨g, o, none⟩) m.n nc, .slice (some ⟨ob, 0, none⟩) 2 2] 51)).heap.size = w.heap.size + 1 := World.size_alloc _ _
  have s2 : ((w.alloc (.cells #[.slice ua m.n l.cap, .slice (some ⟨g, o, none⟩) m.n nc, .slice (some ⟨ob, 0, none⟩) 2 2] 51)).alloc (.cells #[.int .i64 (a : Int)] 3)).heap.size = w.heap.size + 1 + 1 := by rw [World.size_alloc, s1]
  have s3 : (((w.alloc (.cells #[.slice ua m.n l.cap, .slice (some ⟨g, o, none⟩) m.n nc, .slice (some ⟨ob, 0, none⟩) 2 2] 51)).alloc (.cells #[.int .i64 (a : Int)] 3)).alloc (.cells #[.int .i64 ((y a : Nat) : Int)] 3)).heap.size = w.heap.size + 1 + 1 + 1 := by rw [World.size_alloc, s2]
  have hI := Boxd.start (w.alloc (.cells #[.slice ua m.n l.cap, .slice (some ⟨g, o, none⟩) m.n nc, .slice (some ⟨ob, 0, none⟩) 2 2] 51)) (.int .i64 (a : Int)) 3
  have hJ := Boxd.start ((w.alloc (.cells #[.slice ua m.n l.cap, .slice (some ⟨g, o, none⟩) m.n nc, .slice (some ⟨ob, 0, none⟩) 2 2] 51)).alloc (.cells #[.int .i64 (a : Int)] 3)) (.int .i64 ((y a : Nat) : Int)) 3
  have cI := (hI.step hJ.below).cell
  have cJ := hJ.cell
  rw [s1] at cI
  rw [s2] at cJ
  have hX3 := (hX.step hI.below).step hJ.below
  exact ⟨⟨h.step hX3.below, ha, by omega, hX3.cell 0 rfl, hX3.cell 1 rfl, hX3.cell 2 rfl, cI, cJ⟩, hX3.below⟩

set_option maxRecDepth 100000 in
set_option maxHeartbeats 4000000 in
theorem projection_any {w : World} {B ob tb g o nc n0 a : Nat} {tG : Nat → Nat} {ua : Option Addr} {l : Lay} {m : Mx} {z : Nat → Int} {y : Nat → Nat} (h : AL w B ob tb tG ua l m g o z y n0) (ha : a < m.n) :
    Calls Tryd.prog 23 #[.agg #[.slice ua m.n l.cap, .slice (some ⟨g, o, none⟩) m.n nc, .slice (some ⟨ob, 0, none⟩) 2 2], .int .i64 a] w (PjRes w B ob tb tG ua l m g o nc z y n0 a) := by
  obtain ⟨hp, hB⟩ := pj_made (nc := nc) h ha
  have HP := Lib.hid hp
  have hX := BoxN.start w #[.slice ua m.n l.cap, .slice (some ⟨g, o, none⟩) m.n nc, .slice (some ⟨ob, 0, none⟩) 2 2] 51
  have s1 : (w.alloc (.cells #[.slice ua m.n l.cap, .slice (some ⟨g, o, none⟩) m.n nc, .slice (some ⟨ob, 0, none⟩) 2 2] 51)).heap.size = w.heap.size + 1 := World.size_alloc _ _
  have hI := Boxd.start (w.alloc (.cells #[.slice ua m.n l.cap, .slice (some ⟨g, o, none⟩) m.n nc, .slice (some ⟨ob, 0, none⟩) 2 2] 51)) (.int .i64 (a : Int)) 3
  have cI := hI.cell
  rw [s1] at cI
  have hX2 := hX.step hI.below
  have r1 := hX2.cell 1 rfl
  have nA := (h.step hX2.below).notAt ha
  have ha' : (a : Int) < m.n := by omega
  clear h hp hX hI hX2 s1
  go_enter Tryd.func23, Tryd.ntmps23
  go_wp2_with fail
  go_ret
  exact ⟨_, rfl, HP.out, hB⟩

structure BH (w : World) (b2 p q : Nat) : Prop where
  lt : b2 + 1 < w.heap.size
  c0 : w.cell? ⟨b2, 0, none⟩ = some (pjF p)
  c1 : w.cell? ⟨b2 + 1, 0, none⟩ = some (pjF q)
theorem BH.step {w w' : World} {b2 p q : Nat} (h : BH w b2 p q) (hb : Below w.heap.size w w') : BH w' b2 p q :=
  have h1 := h.lt
  have h2 := hb.size
  ⟨by omega, (hb.cell (p := ⟨b2, 0, none⟩) (by show b2 < _; omega)).trans h.c0, (hb.cell (p := ⟨b2 + 1, 0, none⟩) (by show b2 + 1 < _; omega)).trans h.c1⟩
theorem behV_bad {m : Mx} {k : Nat} {z : Nat → Int} {x v t : Int} (h : (logicB m k z && (goodB m.n 2 (two x v) && goodB m.n 2 (two x t))) = false) : behV m k z x v t = -1 := by
  unfold behV
  cases hl : logicB m k z with
  | false => exact projV_bad1 (by rw [hl]; rfl)
  | true =>
    by_cases hx : 0 ≤ x ∧ x < (m.n : Int)
    · by_cases hv : 0 ≤ v ∧ v < (m.n : Int)
      · by_cases ht : 0 ≤ t ∧ t < (m.n : Int)
        · rw [hl, good_mk hx.1 hx.2 hv.1 hv.2, good_mk hx.1 hx.2 ht.1 ht.2] at h
          cases h
        · rw [projV_bad1 (x := x) (v := t) (by rw [good_no1 ht, Bool.and_false])]
          exact projV_bad1 (by rw [good_no1 (by omega), Bool.and_false])
      · exact projV_bad1 (by rw [good_no0 hv, Bool.and_false])
    · rw [projV_bad1 (x := x) (v := t) (by rw [good_no0 hx, Bool.and_false])]
      exact projV_bad1 (by rw [good_no1 (by omega), Bool.and_false])

end Go.Proofs.YtkfinkhdfbogjaaDoor
