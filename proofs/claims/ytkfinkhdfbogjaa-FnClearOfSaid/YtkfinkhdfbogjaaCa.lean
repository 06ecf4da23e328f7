/- The walks of the program's projection and of what it makes, of what is put behind each other, of ProjectOf, HookOf, BehindOf. -/
import Derived.Test.YtkfinkhdfbogjaaAa
import Derived.Test.YtkfinkhdfbogjaaCb
namespace Go.Proofs.Ytkfinkhdfbogjaa
open Go.RowKit Go.Deep

/-- The closure over an answer. -/
abbrev pjF (b : Nat) : Value := .func (.func 73) #[] #[.pointer (some ⟨b, 0, none⟩), .pointer (some ⟨b + 1, 0, none⟩), .pointer (some ⟨b + 1 + 1, 0, none⟩)]
/-- What the closure over the answer a has captured lies in memory. -/
structure PJ (w : World) (B ob tb : Nat) (tG : Nat → Nat) (ua : Option Addr) (l : Lay) (m : Mx) (g o nc : Nat) (z : Nat → Int) (y : Nat → Nat) (n0 a b1 : Nat) : Prop where
  L : AL w B ob tb tG ua l m g o z y n0
  ha : a < m.n
  lt : b1 + 1 + 1 < w.heap.size
  c0 : w.cell? ⟨b1, 0, none⟩ = some (.slice ua m.n l.cap)
  c1 : w.cell? ⟨b1, 1, none⟩ = some (.slice (some ⟨g, o, none⟩) m.n nc)
  c2 : w.cell? ⟨b1, 2, none⟩ = some (.slice (some ⟨ob, 0, none⟩) 2 2)
  c3 : w.cell? ⟨b1 + 1, 0, none⟩ = some (.int .i64 (a : Int))
  c4 : w.cell? ⟨b1 + 1 + 1, 0, none⟩ = some (.int .i64 ((y a : Nat) : Int))
theorem PJ.step {w w' : World} {B ob tb g o nc n0 a b1 : Nat} {tG : Nat → Nat} {ua : Option Addr} {l : Lay} {m : Mx} {z : Nat → Int} {y : Nat → Nat} (h : PJ w B ob tb tG ua l m g o nc z y n0 a b1) (hb : Below w.heap.size w w') : PJ w' B ob tb tG ua l m g o nc z y n0 a b1 :=
  have h1 := h.lt
  have h2 := hb.size
  ⟨h.L.step hb, h.ha, by omega, (hb.cell (p := ⟨b1, 0, none⟩) (by show b1 < _; omega)).trans h.c0, (hb.cell (p := ⟨b1, 1, none⟩) (by show b1 < _; omega)).trans h.c1, (hb.cell (p := ⟨b1, 2, none⟩) (by show b1 < _; omega)).trans h.c2,
    (hb.cell (p := ⟨b1 + 1, 0, none⟩) (by show b1 + 1 < _; omega)).trans h.c3, (hb.cell (p := ⟨b1 + 1 + 1, 0, none⟩) (by show b1 + 1 + 1 < _; omega)).trans h.c4⟩

set_option maxRecDepth 100000 in
set_option maxHeartbeats 4000000 in
theorem project_any {w : World} {B ob tb g o nc n0 a b b1 : Nat} {tG : Nat → Nat} {ua : Option Addr} {l : Lay} {m : Mx} {z : Nat → Int} {y : Nat → Nat} (h : PJ w B ob tb tG ua l m g o nc z y n0 a b1) (hb : b < m.n) :
    Calls Try.prog 73 #[.int .i64 b, .pointer (some ⟨b1, 0, none⟩), .pointer (some ⟨b1 + 1, 0, none⟩), .pointer (some ⟨b1 + 1 + 1, 0, none⟩)] w fun e w' => e = .returned (.int .i64 ((projN m y a b : Nat) : Int)) ∧ Below w.heap.size w w' := by
  have ha := h.ha
  have hya := h.L.O.lt a ha
  have hm1 := h.L.jlt hya hb
  have hP := Lib.hid h
  clear h
  go_enter Try.func73, Try.ntmps73
  go_wp2_with fail
  have hB0 : Below w.heap.size w w.drew := (Below.refl _ w).drew
  have hP0 := Lib.hid (hP.out.step hB0)
  have hS0 : (fun w' => w'.cell? ⟨b1, 0, none⟩ = some (.slice ua m.n l.cap) ∧ w'.cell? ⟨b1, 1, none⟩ = some (.slice (some ⟨g, o, none⟩) m.n nc) ∧ w'.cell? ⟨b1, 2, none⟩ = some (.slice (some ⟨ob, 0, none⟩) 2 2) ∧ w'.cell? ⟨b1 + 1, 0, none⟩ = some (.int .i64 (a : Int)) ∧ w'.cell? ⟨b1 + 1 + 1, 0, none⟩ = some (.int .i64 ((y a : Nat) : Int))) w.drew := ⟨hP0.out.c0, hP0.out.c1, hP0.out.c2, hP0.out.c3, hP0.out.c4⟩
  clear hP
  refine region_plain (fuel := 8) (listed := #[false, false, false, false, false, false, false, false]) (fun w' => w'.cell? ⟨b1, 0, none⟩ = some (.slice ua m.n l.cap) ∧ w'.cell? ⟨b1, 1, none⟩ = some (.slice (some ⟨g, o, none⟩) m.n nc) ∧ w'.cell? ⟨b1, 2, none⟩ = some (.slice (some ⟨ob, 0, none⟩) 2 2) ∧ w'.cell? ⟨b1 + 1, 0, none⟩ = some (.int .i64 (a : Int)) ∧ w'.cell? ⟨b1 + 1 + 1, 0, none⟩ = some (.int .i64 ((y a : Nat) : Int))) (by kernel_rfl) (by kernel_rfl) (by kernel_rfl) ?_
  refine hold_take (i := 0) (d := 6) (v := ?vp0) (listed' := #[true, false, false, false, false, false, false, false]) rfl (by kernel_rfl) (by kernel_rfl) (by kernel_rfl) rfl (by rfl) (by kernel_rfl) hS0 ?hp0 ?rp0
  case hp0 =>
    intro w' hSw
    obtain ⟨k0, k1, k2, k3, k4⟩ := hSw
    go_simp
    try with_reducible rfl
  simp only [List.setIfInBounds_toArray, List.set_cons_zero, List.set_cons_succ]
  refine hold_take (i := 1) (d := 7) (v := ?vp1) (listed' := #[true, true, false, false, false, false, false, false]) rfl (by kernel_rfl) (by kernel_rfl) (by kernel_rfl) rfl (by rfl) (by kernel_rfl) hS0 ?hp1 ?rp1
  case hp1 =>
    intro w' hSw
    obtain ⟨k0, k1, k2, k3, k4⟩ := hSw
    go_simp
    try with_reducible rfl
  simp only [List.setIfInBounds_toArray, List.set_cons_zero, List.set_cons_succ]
  refine hold_take (i := 2) (d := 8) (v := ?vp2) (listed' := #[true, true, true, false, false, false, false, false]) rfl (by kernel_rfl) (by kernel_rfl) (by kernel_rfl) rfl (by rfl) (by kernel_rfl) hS0 ?hp2 ?rp2
  case hp2 =>
    intro w' hSw
    obtain ⟨k0, k1, k2, k3, k4⟩ := hSw
    go_simp
    try with_reducible rfl
  simp only [List.setIfInBounds_toArray, List.set_cons_zero, List.set_cons_succ]
  refine hold_take (i := 3) (d := 9) (v := ?vp3) (listed' := #[true, true, true, true, false, false, false, false]) rfl (by kernel_rfl) (by kernel_rfl) (by kernel_rfl) rfl (by rfl) (by kernel_rfl) hS0 ?hp3 ?rp3
  case hp3 =>
    intro w' hSw
    obtain ⟨k0, k1, k2, k3, k4⟩ := hSw
    go_simp
    try with_reducible rfl
  simp only [List.setIfInBounds_toArray, List.set_cons_zero, List.set_cons_succ]
  refine hold_take (i := 4) (d := 10) (v := ?vp4) (listed' := #[true, true, true, true, true, false, false, false]) rfl (by kernel_rfl) (by kernel_rfl) (by kernel_rfl) rfl (by rfl) (by kernel_rfl) hS0 ?hp4 ?rp4
  case hp4 =>
    intro w' hSw
    obtain ⟨k0, k1, k2, k3, k4⟩ := hSw
    go_simp
    try with_reducible rfl
  simp only [List.setIfInBounds_toArray, List.set_cons_zero, List.set_cons_succ]
  refine hold_call (i := 5) (d := 11) (listed' := #[true, true, true, true, true, true, false, false]) rfl (by kernel_rfl) rfl (by rfl) (by kernel_rfl) ?hep5 (joinA (nc := nc) hP0.out.L hya hb) ?hcp5
  case hep5 => go_simp
  rintro e x1 ⟨rfl, bb1⟩
  have hP1 := Lib.hid (hP0.out.step bb1)
  have hB1 := hB0.trans (bb1.mono hB0.size)
  have hS1 : (fun w' => w'.cell? ⟨b1, 0, none⟩ = some (.slice ua m.n l.cap) ∧ w'.cell? ⟨b1, 1, none⟩ = some (.slice (some ⟨g, o, none⟩) m.n nc) ∧ w'.cell? ⟨b1, 2, none⟩ = some (.slice (some ⟨ob, 0, none⟩) 2 2) ∧ w'.cell? ⟨b1 + 1, 0, none⟩ = some (.int .i64 (a : Int)) ∧ w'.cell? ⟨b1 + 1 + 1, 0, none⟩ = some (.int .i64 ((y a : Nat) : Int))) x1 := ⟨hP1.out.c0, hP1.out.c1, hP1.out.c2, hP1.out.c3, hP1.out.c4⟩
  clear hS0 hP0 hB0 bb1
  refine ⟨_, rfl, hS1, ?_⟩
  simp only [List.setIfInBounds_toArray, List.set_cons_zero, List.set_cons_succ]
  refine hold_call (i := 6) (d := 12) (listed' := #[true, true, true, true, true, true, true, false]) rfl (by kernel_rfl) rfl (by rfl) (by kernel_rfl) ?hep6 (meetA (nc := nc) hP1.out.L ha hm1) ?hcp6
  case hep6 => go_simp
  rintro e x2 ⟨rfl, bb2⟩
  have hP2 := Lib.hid (hP1.out.step bb2)
  have hB2 := hB1.trans (bb2.mono hB1.size)
  have hS2 : (fun w' => w'.cell? ⟨b1, 0, none⟩ = some (.slice ua m.n l.cap) ∧ w'.cell? ⟨b1, 1, none⟩ = some (.slice (some ⟨g, o, none⟩) m.n nc) ∧ w'.cell? ⟨b1, 2, none⟩ = some (.slice (some ⟨ob, 0, none⟩) 2 2) ∧ w'.cell? ⟨b1 + 1, 0, none⟩ = some (.int .i64 (a : Int)) ∧ w'.cell? ⟨b1 + 1 + 1, 0, none⟩ = some (.int .i64 ((y a : Nat) : Int))) x2 := ⟨hP2.out.c0, hP2.out.c1, hP2.out.c2, hP2.out.c3, hP2.out.c4⟩
  clear hS1 hP1 hB1 bb2
  refine ⟨_, rfl, hS2, ?_⟩
  simp only [List.setIfInBounds_toArray, List.set_cons_zero, List.set_cons_succ]
  refine hold_take (i := 7) (d := 5) (v := ?vp7) (listed' := #[true, true, true, true, true, true, true, true]) rfl (by kernel_rfl) (by kernel_rfl) (by kernel_rfl) rfl (by rfl) (by kernel_rfl) hS2 ?hp7 ?rp7
  case hp7 =>
    intro w' hSw
    obtain ⟨k0, k1, k2, k3, k4⟩ := hSw
    go_simp
    try with_reducible rfl
  simp only [List.setIfInBounds_toArray, List.set_cons_zero, List.set_cons_succ]
  refine hold_done (by kernel_rfl) ?_ _
  go_wp2_with fail
  go_ret
  exact ⟨rfl, hB2⟩

def PjRes (w : World) (B ob tb : Nat) (tG : Nat → Nat) (ua : Option Addr) (l : Lay) (m : Mx) (g o nc : Nat) (z : Nat → Int) (y : Nat → Nat) (n0 a : Nat) (e : Ending) (w' : World) : Prop := ∃ b1, e = .returned (pjF b1) ∧ PJ w' B ob tb tG ua l m g o nc z y n0 a b1 ∧ Below w.heap.size w w'
theorem pj_made {w : World} {B ob tb g o nc n0 a : Nat} {tG : Nat → Nat} {ua : Option Addr} {l : Lay} {m : Mx} {z : Nat → Int} {y : Nat → Nat} (h : AL w B ob tb tG ua l m g o z y n0) (ha : a < m.n) : PJ (((w.alloc (.cells #[.slice ua m.n l.cap, .slice (some ⟨g, o, none⟩) m.n nc, .slice (some ⟨ob, 0, none⟩) 2 2] 60)).alloc (.cells #[.int .i64 (a : Int)] 3)).alloc (.cells #[.int .i64 ((y a : Nat) : Int)] 3)) B ob tb tG ua l m g o nc z y n0 a w.heap.size ∧ Below w.heap.size w (((w.alloc (.cells #[.slice ua m.n l.cap, .slice (some ⟨g, o, none⟩) m.n nc, .slice (some ⟨ob, 0, none⟩) 2 2] 60)).alloc (.cells #[.int .i64 (a : Int)] 3)).alloc (.cells #[.int .i64 ((y a : Nat) : Int)] 3)) := by
  have hX := BoxN.start w #[.slice ua m.n l.cap, .slice (some ⟨g, o, none⟩) m.n nc, .slice (some ⟨ob, 0, none⟩) 2 2] 60
  have s1 : (w.alloc (.cells #[.slice ua m.n l.cap, .slice (some ⟨g, o, none⟩) m.n nc, .slice (some ⟨ob, 0, none⟩) 2 2] 60)).heap.size = w.heap.size + 1 := World.size_alloc _ _
  have s2 : ((w.alloc (.cells #[.slice ua m.n l.cap, .slice (some ⟨g, o, none⟩) m.n nc, .slice (some ⟨ob, 0, none⟩) 2 2] 60)).alloc (.cells #[.int .i64 (a : Int)] 3)).heap.size = w.heap.size + 1 + 1 := by rw [World.size_alloc, s1]
  have s3 : (((w.alloc (.cells #[.slice ua m.n l.cap, .slice (some ⟨g, o, none⟩) m.n nc, .slice (some ⟨ob, 0, none⟩) 2 2] 60)).alloc (.cells #[.int .i64 (a : Int)] 3)).alloc (.cells #[.int .i64 ((y a : Nat) : Int)] 3)).heap.size = w.heap.size + 1 + 1 + 1 := by rw [World.size_alloc, s2]
  have hI := Boxd.start (w.alloc (.cells #[.slice ua m.n l.cap, .slice (some ⟨g, o, none⟩) m.n nc, .slice (some ⟨ob, 0, none⟩) 2 2] 60)) (.int .i64 (a : Int)) 3
  have hJ := Boxd.start ((w.alloc (.cells #[.slice ua m.n l.cap, .slice (some ⟨g, o, none⟩) m.n nc, .slice (some ⟨ob, 0, none⟩) 2 2] 60)).alloc (.cells #[.int .i64 (a : Int)] 3)) (.int .i64 ((y a : Nat) : Int)) 3
  have cI := (hI.step hJ.below).cell
  have cJ := hJ.cell
  rw [s1] at cI
  rw [s2] at cJ
  have hX3 := (hX.step hI.below).step hJ.below
  exact ⟨⟨h.step hX3.below, ha, by omega, hX3.cell 0 rfl, hX3.cell 1 rfl, hX3.cell 2 rfl, cI, cJ⟩, hX3.below⟩

set_option maxRecDepth 100000 in
set_option maxHeartbeats 4000000 in
theorem projection_any {w : World} {B ob tb g o nc n0 a : Nat} {tG : Nat → Nat} {ua : Option Addr} {l : Lay} {m : Mx} {z : Nat → Int} {y : Nat → Nat} (h : AL w B ob tb tG ua l m g o z y n0) (ha : a < m.n) :
    Calls Try.prog 45 #[.agg #[.slice ua m.n l.cap, .slice (some ⟨g, o, none⟩) m.n nc, .slice (some ⟨ob, 0, none⟩) 2 2], .int .i64 a] w (PjRes w B ob tb tG ua l m g o nc z y n0 a) := by
  obtain ⟨hp, hB⟩ := pj_made (nc := nc) h ha
  have HP := Lib.hid hp
  have hX := BoxN.start w #[.slice ua m.n l.cap, .slice (some ⟨g, o, none⟩) m.n nc, .slice (some ⟨ob, 0, none⟩) 2 2] 60
  have s1 : (w.alloc (.cells #[.slice ua m.n l.cap, .slice (some ⟨g, o, none⟩) m.n nc, .slice (some ⟨ob, 0, none⟩) 2 2] 60)).heap.size = w.heap.size + 1 := World.size_alloc _ _
  have hI := Boxd.start (w.alloc (.cells #[.slice ua m.n l.cap, .slice (some ⟨g, o, none⟩) m.n nc, .slice (some ⟨ob, 0, none⟩) 2 2] 60)) (.int .i64 (a : Int)) 3
  have cI := hI.cell
  rw [s1] at cI
  have hX2 := hX.step hI.below
  have r1 := hX2.cell 1 rfl
  have nA := (h.step hX2.below).notAt ha
  have ha' : (a : Int) < m.n := by omega
  clear h hp hX hI hX2 s1
  go_enter Try.func45, Try.ntmps45
  go_wp2_with fail
  go_ret
  exact ⟨_, rfl, HP.out, hB⟩

/-- One closure behind another one. -/
abbrev behF (b : Nat) : Value := .func (.func 81) #[] #[.pointer (some ⟨b + 1, 0, none⟩), .pointer (some ⟨b, 0, none⟩)]
structure BH (w : World) (b2 p q : Nat) : Prop where
  lt : b2 + 1 < w.heap.size
  c0 : w.cell? ⟨b2, 0, none⟩ = some (pjF p)
  c1 : w.cell? ⟨b2 + 1, 0, none⟩ = some (pjF q)
theorem BH.step {w w' : World} {b2 p q : Nat} (h : BH w b2 p q) (hb : Below w.heap.size w w') : BH w' b2 p q :=
  have h1 := h.lt
  have h2 := hb.size
  ⟨by omega, (hb.cell (p := ⟨b2, 0, none⟩) (by show b2 < _; omega)).trans h.c0, (hb.cell (p := ⟨b2 + 1, 0, none⟩) (by show b2 + 1 < _; omega)).trans h.c1⟩
def BhRes (w : World) (p q : Nat) (e : Ending) (w' : World) : Prop := ∃ b2, e = .returned (behF b2) ∧ BH w' b2 p q ∧ Below w.heap.size w w'
set_option maxRecDepth 100000 in
set_option maxHeartbeats 4000000 in
theorem behind_any {w : World} {p q : Nat} :
    Calls Try.prog 56 #[pjF p, pjF q] w (BhRes w p q) := by
  have hX := Boxd.start w (pjF p) 63
  have s1 : (w.alloc (.cells #[pjF p] 63)).heap.size = w.heap.size + 1 := World.size_alloc _ _
  have s2 : ((w.alloc (.cells #[pjF p] 63)).alloc (.cells #[pjF q] 63)).heap.size = w.heap.size + 1 + 1 := by rw [World.size_alloc, s1]
  have hI := Boxd.start (w.alloc (.cells #[pjF p] 63)) (pjF q) 63
  have cI := hI.cell
  rw [s1] at cI
  have hX2 := hX.step hI.below
  have HB : Hid (BH ((w.alloc (.cells #[pjF p] 63)).alloc (.cells #[pjF q] 63)) w.heap.size p q) := ⟨by omega, hX2.cell, cI⟩
  have hB := hX2.below
  clear hX hI hX2 s1 s2 cI
  go_enter Try.func56, Try.ntmps56
  go_wp2_with fail
  go_ret
  exact ⟨_, rfl, HB.out, hB⟩

set_option maxRecDepth 100000 in
set_option maxHeartbeats 4000000 in
theorem behinds_any {w : World} {B ob tb g o nc n0 a b c b2 p q : Nat} {tG : Nat → Nat} {ua : Option Addr} {l : Lay} {m : Mx} {z : Nat → Int} {y : Nat → Nat} (hP : PJ w B ob tb tG ua l m g o nc z y n0 a p) (hQ : PJ w B ob tb tG ua l m g o nc z y n0 b q) (hH : BH w b2 p q) (hc : c < m.n) :
    Calls Try.prog 81 #[.int .i64 c, .pointer (some ⟨b2 + 1, 0, none⟩), .pointer (some ⟨b2, 0, none⟩)] w fun e w' => e = .returned (.int .i64 ((projN m y b (projN m y a c) : Nat) : Int)) ∧ Below w.heap.size w w' := by
  have hpc : projN m y a c < m.n := hP.L.O.proj_lt hP.ha hc
  have HP := Lib.hid hP
  have HQ := Lib.hid hQ
  have HH := Lib.hid hH
  clear hP hQ hH
  go_enter Try.func81, Try.ntmps81
  go_wp2_with fail
  have hB0 : Below w.heap.size w w.drew := (Below.refl _ w).drew
  have hP0 := Lib.hid (HP.out.step hB0)
  have hQ0 := Lib.hid (HQ.out.step hB0)
  have hH0 := Lib.hid (HH.out.step hB0)
  have hS0 : (fun w' => w'.cell? ⟨b2, 0, none⟩ = some (pjF p) ∧ w'.cell? ⟨b2 + 1, 0, none⟩ = some (pjF q)) w.drew := ⟨hH0.out.c0, hH0.out.c1⟩
  clear HP HQ HH
  refine region_plain (fuel := 6) (listed := #[false, false, false, false, false, false]) (fun w' => w'.cell? ⟨b2, 0, none⟩ = some (pjF p) ∧ w'.cell? ⟨b2 + 1, 0, none⟩ = some (pjF q)) (by kernel_rfl) (by kernel_rfl) (by kernel_rfl) ?_
  refine hold_take (i := 0) (d := 5) (v := ?vb0) (listed' := #[true, false, false, false, false, false]) rfl (by kernel_rfl) (by kernel_rfl) (by kernel_rfl) rfl (by rfl) (by kernel_rfl) hS0 ?hb0 ?rb0
  case hb0 =>
    intro w' hSw
    obtain ⟨k0, k1⟩ := hSw
    go_simp
    try with_reducible rfl
  simp only [List.setIfInBounds_toArray, List.set_cons_zero, List.set_cons_succ]
  refine hold_take (i := 1) (d := 6) (v := ?vb1) (listed' := #[true, true, false, false, false, false]) rfl (by kernel_rfl) (by kernel_rfl) (by kernel_rfl) rfl (by rfl) (by kernel_rfl) hS0 ?hb1 ?rb1
  case hb1 =>
    intro w' hSw
    obtain ⟨k0, k1⟩ := hSw
    go_simp
    try with_reducible rfl
  simp only [List.setIfInBounds_toArray, List.set_cons_zero, List.set_cons_succ]
  refine hold_take (i := 2) (d := 7) (v := ?vb2) (listed' := #[true, true, true, false, false, false]) rfl (by kernel_rfl) (by kernel_rfl) (by kernel_rfl) rfl (by rfl) (by kernel_rfl) hS0 ?hb2 ?rb2
  case hb2 =>
    intro w' hSw
    obtain ⟨k0, k1⟩ := hSw
    go_simp
    try with_reducible rfl
  simp only [List.setIfInBounds_toArray, List.set_cons_zero, List.set_cons_succ]
  refine hold_call (i := 3) (d := 8) (listed' := #[true, true, true, true, false, false]) rfl (by kernel_rfl) rfl (by rfl) (by kernel_rfl) ?heb3 (project_any hP0.out hc) ?hcb3
  case heb3 => go_simp
  rintro e x1 ⟨rfl, bb1⟩
  have hP1 := Lib.hid (hP0.out.step bb1)
  have hQ1 := Lib.hid (hQ0.out.step bb1)
  have hH1 := Lib.hid (hH0.out.step bb1)
  have hB1 := hB0.trans (bb1.mono hB0.size)
  have hS1 : (fun w' => w'.cell? ⟨b2, 0, none⟩ = some (pjF p) ∧ w'.cell? ⟨b2 + 1, 0, none⟩ = some (pjF q)) x1 := ⟨hH1.out.c0, hH1.out.c1⟩
  clear hS0 hP0 hQ0 hH0 hB0 bb1
  refine ⟨_, rfl, hS1, ?_⟩
  simp only [List.setIfInBounds_toArray, List.set_cons_zero, List.set_cons_succ]
  refine hold_call (i := 4) (d := 9) (listed' := #[true, true, true, true, true, false]) rfl (by kernel_rfl) rfl (by rfl) (by kernel_rfl) ?heb4 (project_any hQ1.out hpc) ?hcb4
  case heb4 => go_simp
  rintro e x2 ⟨rfl, bb2⟩
  have hP2 := Lib.hid (hP1.out.step bb2)
  have hQ2 := Lib.hid (hQ1.out.step bb2)
  have hH2 := Lib.hid (hH1.out.step bb2)
  have hB2 := hB1.trans (bb2.mono hB1.size)
  have hS2 : (fun w' => w'.cell? ⟨b2, 0, none⟩ = some (pjF p) ∧ w'.cell? ⟨b2 + 1, 0, none⟩ = some (pjF q)) x2 := ⟨hH2.out.c0, hH2.out.c1⟩
  clear hS1 hP1 hQ1 hH1 hB1 bb2
  refine ⟨_, rfl, hS2, ?_⟩
  simp only [List.setIfInBounds_toArray, List.set_cons_zero, List.set_cons_succ]
  refine hold_take (i := 5) (d := 4) (v := ?vb5) (listed' := #[true, true, true, true, true, true]) rfl (by kernel_rfl) (by kernel_rfl) (by kernel_rfl) rfl (by rfl) (by kernel_rfl) hS2 ?hb5 ?rb5
  case hb5 =>
    intro w' hSw
    obtain ⟨k0, k1⟩ := hSw
    go_simp
    try with_reducible rfl
  simp only [List.setIfInBounds_toArray, List.set_cons_zero, List.set_cons_succ]
  refine hold_done (by kernel_rfl) ?_ _
  go_wp2_with fail
  go_ret
  exact ⟨rfl, hB2⟩

set_option maxRecDepth 100000 in
set_option maxHeartbeats 4000000 in
theorem ProjectOf_any {w : World} {B : Nat} {ua : Option Addr} {l : Lay} {m : Mx} {na : Option Addr} {g o k nc : Nat} {z : Nat → Int} {x v : Int} (h : LogAt w B ua l m na g o k z) :
    Calls Try.prog 12 #[.agg #[.slice ua m.n l.cap, .slice na k nc], .int .i64 x, .int .i64 v] w fun e w' => e = .returned (.int .i64 (projV m k z x v)) ∧ Below w.heap.size w w' := by
  have hX := BoxN.start w #[.slice ua m.n l.cap, .slice na k nc] 26
  have q0 := hX.cell 0 rfl
  have q1 := hX.cell 1 rfl
  have hrow := two_at (w.alloc (.cells #[.slice ua m.n l.cap, .slice na k nc] 26)) x v
  rw [World.size_alloc] at hrow
  have b2 := (Below.refl (w.heap.size + 1) (w.alloc (.cells #[.slice ua m.n l.cap, .slice na k nc] 26))).alloc (by simp) (.cells #[.int .i64 x, .int .i64 v] 3)
  have hX2 := hX.step (b2.mono (by simp))
  have bw := hX2.below
  have hsz : ((w.alloc (.cells #[.slice ua m.n l.cap, .slice na k nc] 26)).alloc (.cells #[.int .i64 x, .int .i64 v] 3)).heap.size ≥ w.heap.size + 1 + 1 := by simp
  have h2 := Lib.hid (h.step bw)
  go_enter Try.func12, Try.ntmps12
  generalize hW : (w.alloc (.cells #[.slice ua m.n l.cap, .slice na k nc] 26)).alloc (.cells #[.int .i64 x, .int .i64 v] 3) = W at hrow hX2 bw hsz h2
  have hrow2 : Hid (RowAt W W.heap.size (some ⟨w.heap.size + 1, 0, none⟩) (w.heap.size + 1) 0 2 (two x v)) := ⟨fun c hc => by obtain ⟨a1, a2, a3⟩ := hrow.row c hc; exact ⟨a1, by omega, a3⟩⟩
  clear hX b2 h hrow
  go_wp2_with fail
  go_at_call 44
  refine (algebraWith_any h2.out hrow2.out (by omega)).mono ?_
  rintro e w1 ⟨b1, (⟨hg, ob, tb, tG, rfl, hA⟩ | ⟨hg, rfl⟩)⟩
  · clear hW q0 q1 hrow2
    have B1 := bw.trans (b1.mono bw.size)
    have h3 := h2.out.step b1
    clear h2 hX2 bw hsz
    obtain ⟨a, b, n0, rfl, rfl, ha, hb, rfl, hO⟩ := good_parts hg
    obtain ⟨y, hy⟩ : ∃ y : Nat → Nat, y = fun c => (z c).toNat := ⟨_, rfl⟩
    rw [← hy] at hO
    obtain ⟨rfl, hL1⟩ := AL.of hA h3 hO
    have HV : Hid (((projN m y a b : Nat) : Int) = projV m m.n z (a : Int) (b : Int)) := by
      show _ = _
      rw [hy]
      unfold projV
      rw [if_pos hg]; rfl
    clear hg hy hA h3 hO
    have hY := BoxN.start w1 #[.slice ua m.n l.cap, .slice (some ⟨g, o, none⟩) m.n nc, .slice (some ⟨ob, 0, none⟩) 2 2] 60
    have BY := B1.trans (hY.below.mono B1.size)
    have hL := Lib.hid (hL1.step hY.below)
    clear hL1
    have r0 := hY.cell 0 rfl
    have r1 := hY.cell 1 rfl
    have r2 := hY.cell 2 rfl
    unfold algV
    go_wp2_with fail
    go_at_call 45
    refine (projection_any (nc := nc) hL.out ha).mono ?_
    rintro e w2 ⟨p, rfl, hP, b2⟩
    have BZ := BY.trans (b2.mono BY.size)
    have HP := Lib.hid hP
    clear hP r0 r1 r2
    go_wp2_with fail
    go_at_call 73
    refine (project_any HP.out hb).mono ?_
    rintro e w3 ⟨rfl, b3⟩
    go_wp2_with fail
    go_ret
    exact ⟨ret_int HV.out, BZ.trans (b3.mono BZ.size)⟩
  · have HV : Hid ((-1 : Int) = projV m k z x v) := by show _ = _; unfold projV; rw [if_neg (by rw [hg]; decide)]
    clear hW q0 q1 hrow2 hg
    have B1 := bw.trans (b1.mono bw.size)
    have B2 := B1.alloc B1.size (.cells #[.slice none 0 0, .slice none 0 0, .slice none 0 0] 60)
    unfold noAlg
    go_wp2_with fail
    go_ret
    exact ⟨ret_int HV.out, B2⟩

set_option maxRecDepth 100000 in
set_option maxHeartbeats 4000000 in
theorem HookOf_any {w : World} {B : Nat} {ua : Option Addr} {l : Lay} {m : Mx} {na : Option Addr} {g o k nc : Nat} {z : Nat → Int} {x v : Int} (h : LogAt w B ua l m na g o k z) :
    Calls Try.prog 19 #[.agg #[.slice ua m.n l.cap, .slice na k nc], .int .i64 x, .int .i64 v] w fun e w' => e = .returned (.int .i64 (hookV m k z x v)) ∧ Below w.heap.size w w' := by
  have hX := BoxN.start w #[.slice ua m.n l.cap, .slice na k nc] 26
  have q0 := hX.cell 0 rfl
  have q1 := hX.cell 1 rfl
  have hrow := two_at (w.alloc (.cells #[.slice ua m.n l.cap, .slice na k nc] 26)) x v
  rw [World.size_alloc] at hrow
  have b2 := (Below.refl (w.heap.size + 1) (w.alloc (.cells #[.slice ua m.n l.cap, .slice na k nc] 26))).alloc (by simp) (.cells #[.int .i64 x, .int .i64 v] 3)
  have hX2 := hX.step (b2.mono (by simp))
  have bw := hX2.below
  have hsz : ((w.alloc (.cells #[.slice ua m.n l.cap, .slice na k nc] 26)).alloc (.cells #[.int .i64 x, .int .i64 v] 3)).heap.size ≥ w.heap.size + 1 + 1 := by simp
  have h2 := Lib.hid (h.step bw)
  go_enter Try.func19, Try.ntmps19
  generalize hW : (w.alloc (.cells #[.slice ua m.n l.cap, .slice na k nc] 26)).alloc (.cells #[.int .i64 x, .int .i64 v] 3) = W at hrow hX2 bw hsz h2
  have hrow2 : Hid (RowAt W W.heap.size (some ⟨w.heap.size + 1, 0, none⟩) (w.heap.size + 1) 0 2 (two x v)) := ⟨fun c hc => by obtain ⟨a1, a2, a3⟩ := hrow.row c hc; exact ⟨a1, by omega, a3⟩⟩
  clear hX b2 h hrow
  go_wp2_with fail
  go_at_call 44
  refine (algebraWith_any h2.out hrow2.out (by omega)).mono ?_
  rintro e w1 ⟨b1, (⟨hg, ob, tb, tG, rfl, hA⟩ | ⟨hg, rfl⟩)⟩
  · clear hW q0 q1 hrow2
    have B1 := bw.trans (b1.mono bw.size)
    have h3 := h2.out.step b1
    clear h2 hX2 bw hsz
    obtain ⟨a, b, n0, rfl, rfl, ha, hb, rfl, hO⟩ := good_parts hg
    obtain ⟨y, hy⟩ : ∃ y : Nat → Nat, y = fun c => (z c).toNat := ⟨_, rfl⟩
    rw [← hy] at hO
    obtain ⟨rfl, hL1⟩ := AL.of hA h3 hO
    have HV : Hid (((hookN m y a b : Nat) : Int) = hookV m m.n z (a : Int) (b : Int)) := by
      show _ = _
      rw [hy]
      unfold hookV
      rw [if_pos hg]; rfl
    clear hg hy hA h3 hO
    have hY := BoxN.start w1 #[.slice ua m.n l.cap, .slice (some ⟨g, o, none⟩) m.n nc, .slice (some ⟨ob, 0, none⟩) 2 2] 60
    have BY := B1.trans (hY.below.mono B1.size)
    have hL := Lib.hid (hL1.step hY.below)
    clear hL1
    have r0 := hY.cell 0 rfl
    have r1 := hY.cell 1 rfl
    have r2 := hY.cell 2 rfl
    unfold algV
    have ha' : (a : Int) < m.n := by omega
    have hya := hL.out.O.lt a ha
    have hm1 := hL.out.mlt ha hb
    clear r0 r1 r2
    go_wp2_with fail
    generalize w1.alloc (.cells #[.slice ua m.n l.cap, .slice (some ⟨g, o, none⟩) m.n nc, .slice (some ⟨ob, 0, none⟩) 2 2] 60) = W at hY hL BY ⊢
    have hY0 := hY.step (Below.refl _ W).drew
    have hL0 := Lib.hid (hL.out.step (Below.refl _ W).drew)
    have hB0 : Below w.heap.size w W.drew := BY.drew
    have hS0 : (fun w' => w'.cell? ⟨w1.heap.size, 0, none⟩ = some (.slice ua m.n l.cap) ∧ w'.cell? ⟨w1.heap.size, 1, none⟩ = some (.slice (some ⟨g, o, none⟩) m.n nc) ∧ w'.cell? ⟨w1.heap.size, 2, none⟩ = some (.slice (some ⟨ob, 0, none⟩) 2 2) ∧ w'.cell? ⟨g, o + a, none⟩ = some (.int .i64 ((y a : Nat) : Int))) W.drew := ⟨hY0.cell 0 rfl, hY0.cell 1 rfl, hY0.cell 2 rfl, hL0.out.notAt ha⟩
    clear hY hL BY
    refine region_plain (fuel := 12) (listed := #[false, false, false, false, false, false, false, false, false, false, false, false]) (fun w' => w'.cell? ⟨w1.heap.size, 0, none⟩ = some (.slice ua m.n l.cap) ∧ w'.cell? ⟨w1.heap.size, 1, none⟩ = some (.slice (some ⟨g, o, none⟩) m.n nc) ∧ w'.cell? ⟨w1.heap.size, 2, none⟩ = some (.slice (some ⟨ob, 0, none⟩) 2 2) ∧ w'.cell? ⟨g, o + a, none⟩ = some (.int .i64 ((y a : Nat) : Int))) (by kernel_rfl) (by kernel_rfl) (by kernel_rfl) ?_
    refine hold_take (i := 0) (d := 19) (v := ?vh0) (listed' := #[true, false, false, false, false, false, false, false, false, false, false, false]) rfl (by kernel_rfl) (by kernel_rfl) (by kernel_rfl) rfl (by rfl) (by kernel_rfl) hS0 ?hh0 ?rh0
    case hh0 =>
      intro w' hSw
      obtain ⟨k0, k1, k2, k3⟩ := hSw
      go_simp
      try with_reducible rfl
    simp only [List.setIfInBounds_toArray, List.set_cons_zero, List.set_cons_succ]
    refine hold_take (i := 1) (d := 20) (v := ?vh1) (listed' := #[true, true, false, false, false, false, false, false, false, false, false, false]) rfl (by kernel_rfl) (by kernel_rfl) (by kernel_rfl) rfl (by rfl) (by kernel_rfl) hS0 ?hh1 ?rh1
    case hh1 =>
      intro w' hSw
      obtain ⟨k0, k1, k2, k3⟩ := hSw
      go_simp
      try with_reducible rfl
    simp only [List.setIfInBounds_toArray, List.set_cons_zero, List.set_cons_succ]
    refine hold_take (i := 2) (d := 21) (v := ?vh2) (listed' := #[true, true, true, false, false, false, false, false, false, false, false, false]) rfl (by kernel_rfl) (by kernel_rfl) (by kernel_rfl) rfl (by rfl) (by kernel_rfl) hS0 ?hh2 ?rh2
    case hh2 =>
      intro w' hSw
      obtain ⟨k0, k1, k2, k3⟩ := hSw
      go_simp
      try with_reducible rfl
    simp only [List.setIfInBounds_toArray, List.set_cons_zero, List.set_cons_succ]
    refine hold_take (i := 3) (d := 22) (v := ?vh3) (listed' := #[true, true, true, true, false, false, false, false, false, false, false, false]) rfl (by kernel_rfl) (by kernel_rfl) (by kernel_rfl) rfl (by rfl) (by kernel_rfl) hS0 ?hh3 ?rh3
    case hh3 =>
      intro w' hSw
      obtain ⟨k0, k1, k2, k3⟩ := hSw
      go_simp
      try with_reducible rfl
    simp only [List.setIfInBounds_toArray, List.set_cons_zero, List.set_cons_succ]
    refine hold_take (i := 4) (d := 23) (v := ?vh4) (listed' := #[true, true, true, true, true, false, false, false, false, false, false, false]) rfl (by kernel_rfl) (by kernel_rfl) (by kernel_rfl) rfl (by rfl) (by kernel_rfl) hS0 ?hh4 ?rh4
    case hh4 =>
      intro w' hSw
      obtain ⟨k0, k1, k2, k3⟩ := hSw
      go_simp
      try with_reducible rfl
    simp only [List.setIfInBounds_toArray, List.set_cons_zero, List.set_cons_succ]
    refine hold_take (i := 5) (d := 24) (v := ?vh5) (listed' := #[true, true, true, true, true, true, false, false, false, false, false, false]) rfl (by kernel_rfl) (by kernel_rfl) (by kernel_rfl) rfl (by rfl) (by kernel_rfl) hS0 ?hh5 ?rh5
    case hh5 =>
      intro w' hSw
      obtain ⟨k0, k1, k2, k3⟩ := hSw
      go_simp
      try with_reducible rfl
    simp only [List.setIfInBounds_toArray, List.set_cons_zero, List.set_cons_succ]
    refine hold_take (i := 6) (d := 25) (v := ?vh6) (listed' := #[true, true, true, true, true, true, true, false, false, false, false, false]) rfl (by kernel_rfl) (by kernel_rfl) (by kernel_rfl) rfl (by rfl) (by kernel_rfl) hS0 ?hh6 ?rh6
    case hh6 =>
      intro w' hSw
      obtain ⟨k0, k1, k2, k3⟩ := hSw
      go_simp
      try with_reducible rfl
    simp only [List.setIfInBounds_toArray, List.set_cons_zero, List.set_cons_succ]
    refine hold_take (i := 7) (d := 26) (v := ?vh7) (listed' := #[true, true, true, true, true, true, true, true, false, false, false, false]) rfl (by kernel_rfl) (by kernel_rfl) (by kernel_rfl) rfl (by rfl) (by kernel_rfl) hS0 ?hh7 ?rh7
    case hh7 =>
      intro w' hSw
      obtain ⟨k0, k1, k2, k3⟩ := hSw
      go_simp
      try with_reducible rfl
    simp only [List.setIfInBounds_toArray, List.set_cons_zero, List.set_cons_succ]
    refine hold_take (i := 8) (d := 27) (v := ?vh8) (listed' := #[true, true, true, true, true, true, true, true, true, false, false, false]) rfl (by kernel_rfl) (by kernel_rfl) (by kernel_rfl) rfl (by rfl) (by kernel_rfl) hS0 ?hh8 ?rh8
    case hh8 =>
      intro w' hSw
      obtain ⟨k0, k1, k2, k3⟩ := hSw
      go_simp
      try with_reducible rfl
    simp only [List.setIfInBounds_toArray, List.set_cons_zero, List.set_cons_succ]
    refine hold_call (i := 9) (d := 28) (listed' := #[true, true, true, true, true, true, true, true, true, true, false, false]) rfl (by kernel_rfl) rfl (by rfl) (by kernel_rfl) ?heh9 (meetA (nc := nc) hL0.out ha hb) ?hch9
    case heh9 => go_simp
    rintro e x1 ⟨rfl, bb1⟩
    have hY1 := hY0.step bb1
    have hL1 := Lib.hid (hL0.out.step bb1)
    have hB1 := hB0.trans (bb1.mono hB0.size)
    have hS1 : (fun w' => w'.cell? ⟨w1.heap.size, 0, none⟩ = some (.slice ua m.n l.cap) ∧ w'.cell? ⟨w1.heap.size, 1, none⟩ = some (.slice (some ⟨g, o, none⟩) m.n nc) ∧ w'.cell? ⟨w1.heap.size, 2, none⟩ = some (.slice (some ⟨ob, 0, none⟩) 2 2) ∧ w'.cell? ⟨g, o + a, none⟩ = some (.int .i64 ((y a : Nat) : Int))) x1 := ⟨hY1.cell 0 rfl, hY1.cell 1 rfl, hY1.cell 2 rfl, hL1.out.notAt ha⟩
    clear hS0 hL0 hY0 hB0 bb1
    refine ⟨_, rfl, hS1, ?_⟩
    simp only [List.setIfInBounds_toArray, List.set_cons_zero, List.set_cons_succ]
    refine hold_call (i := 10) (d := 29) (listed' := #[true, true, true, true, true, true, true, true, true, true, true, false]) rfl (by kernel_rfl) rfl (by rfl) (by kernel_rfl) ?heh10 (joinA (nc := nc) hL1.out hya hm1) ?hch10
    case heh10 => go_simp
    rintro e x2 ⟨rfl, bb2⟩
    have hY2 := hY1.step bb2
    have hL2 := Lib.hid (hL1.out.step bb2)
    have hB2 := hB1.trans (bb2.mono hB1.size)
    have hS2 : (fun w' => w'.cell? ⟨w1.heap.size, 0, none⟩ = some (.slice ua m.n l.cap) ∧ w'.cell? ⟨w1.heap.size, 1, none⟩ = some (.slice (some ⟨g, o, none⟩) m.n nc) ∧ w'.cell? ⟨w1.heap.size, 2, none⟩ = some (.slice (some ⟨ob, 0, none⟩) 2 2) ∧ w'.cell? ⟨g, o + a, none⟩ = some (.int .i64 ((y a : Nat) : Int))) x2 := ⟨hY2.cell 0 rfl, hY2.cell 1 rfl, hY2.cell 2 rfl, hL2.out.notAt ha⟩
    clear hS1 hL1 hY1 hB1 bb2
    refine ⟨_, rfl, hS2, ?_⟩
    simp only [List.setIfInBounds_toArray, List.set_cons_zero, List.set_cons_succ]
    refine hold_take (i := 11) (d := 6) (v := ?vh11) (listed' := #[true, true, true, true, true, true, true, true, true, true, true, true]) rfl (by kernel_rfl) (by kernel_rfl) (by kernel_rfl) rfl (by rfl) (by kernel_rfl) hS2 ?hh11 ?rh11
    case hh11 =>
      intro w' hSw
      obtain ⟨k0, k1, k2, k3⟩ := hSw
      go_simp
      try with_reducible rfl
    simp only [List.setIfInBounds_toArray, List.set_cons_zero, List.set_cons_succ]
    refine hold_done (by kernel_rfl) ?_ _
    go_wp2_with fail
    go_ret
    exact ⟨ret_int HV.out, hB2⟩
  · have HV : Hid ((-1 : Int) = hookV m k z x v) := by show _ = _; unfold hookV; rw [if_neg (by rw [hg]; decide)]
    clear hW q0 q1 hrow2 hg
    have B1 := bw.trans (b1.mono bw.size)
    have B2 := B1.alloc B1.size (.cells #[.slice none 0 0, .slice none 0 0, .slice none 0 0] 60)
    unfold noAlg
    go_wp2_with fail
    go_ret
    exact ⟨ret_int HV.out, B2⟩

theorem behV_bad {m : Mx} {k : Nat} {z : Nat → Int} {x v t : Int} (h : (logicB m k z && (goodB m.n 2 (two x v) && goodB m.n 2 (two x t))) = false) : behV m k z x v t = -1 := by
  unfold behV
  cases hl : logicB m k z with
  | false => exact projV_bad1 (by rw [hl]; rfl)
  | true =>
    by_cases hx : 0 ≤ x ∧ x < (m.n : Int)
    · by_cases hv : 0 ≤ v ∧ v < (m.n : Int)
      · by_cases ht : 0 ≤ t ∧ t < (m.n : Int)
        · rw [hl, good_mk hx.1 hx.2 hv.1 hv.2, good_mk hx.1 hx.2 ht.1 ht.2] at h
          cases h
        · rw [projV_bad1 (x := x) (v := t) (by rw [good_no1 ht, Bool.and_false])]
          exact projV_bad1 (by rw [good_no1 (by omega), Bool.and_false])
      · exact projV_bad1 (by rw [good_no0 hv, Bool.and_false])
    · rw [projV_bad1 (x := x) (v := t) (by rw [good_no0 hx, Bool.and_false])]
      exact projV_bad1 (by rw [good_no1 (by omega), Bool.and_false])

set_option maxRecDepth 100000 in
set_option maxHeartbeats 4000000 in
theorem BehindOf_any {w : World} {B : Nat} {ua : Option Addr} {l : Lay} {m : Mx} {na : Option Addr} {g o k nc : Nat} {z : Nat → Int} {x v t : Int} (h : LogAt w B ua l m na g o k z) :
    Calls Try.prog 25 #[.agg #[.slice ua m.n l.cap, .slice na k nc], .int .i64 x, .int .i64 v, .int .i64 t] w fun e w' => e = .returned (.int .i64 (behV m k z x v t)) ∧ Below w.heap.size w w' := by
  have hX := BoxN.start w #[.slice ua m.n l.cap, .slice na k nc] 26
  have q0 := hX.cell 0 rfl
  have q1 := hX.cell 1 rfl
  have hrow := three_at (w.alloc (.cells #[.slice ua m.n l.cap, .slice na k nc] 26)) x v t
  rw [World.size_alloc] at hrow
  have b2 := (Below.refl (w.heap.size + 1) (w.alloc (.cells #[.slice ua m.n l.cap, .slice na k nc] 26))).alloc (by simp) (.cells #[.int .i64 x, .int .i64 v, .int .i64 t] 3)
  have hX2 := hX.step (b2.mono (by simp))
  have bw := hX2.below
  have hsz : ((w.alloc (.cells #[.slice ua m.n l.cap, .slice na k nc] 26)).alloc (.cells #[.int .i64 x, .int .i64 v, .int .i64 t] 3)).heap.size ≥ w.heap.size + 1 + 1 := by simp
  have h2 := Lib.hid (h.step bw)
  go_enter Try.func25, Try.ntmps25
  generalize hW : (w.alloc (.cells #[.slice ua m.n l.cap, .slice na k nc] 26)).alloc (.cells #[.int .i64 x, .int .i64 v, .int .i64 t] 3) = W at hrow hX2 bw hsz h2
  have hrow2 : Hid (RowAt W W.heap.size (some ⟨w.heap.size + 1, 0, none⟩) (w.heap.size + 1) 0 3 (three x v t)) := ⟨fun c hc => by obtain ⟨a1, a2, a3⟩ := hrow.row c hc; exact ⟨a1, by omega, a3⟩⟩
  clear hX b2 h hrow
  go_wp2_with fail
  go_at_call 44
  refine (algebraWith_any h2.out hrow2.out (by omega)).mono ?_
  rintro e w1 ⟨b1, (⟨hg, ob, tb, tG, rfl, hA⟩ | ⟨hg, rfl⟩)⟩
  · clear hW q0 q1 hrow2
    have B1 := bw.trans (b1.mono bw.size)
    have h3 := h2.out.step b1
    clear h2 hX2 bw hsz
    rw [good_three, split_tests, Bool.and_eq_true] at hg
    obtain ⟨a, b, d, n0, rfl, rfl, rfl, ha, hb, hd, rfl, hO⟩ := parts_split hg.1 hg.2
    obtain ⟨y, hy⟩ : ∃ y : Nat → Nat, y = fun c => (z c).toNat := ⟨_, rfl⟩
    rw [← hy] at hO
    obtain ⟨rfl, hL1⟩ := AL.of hA h3 hO
    have HV : Hid (((projN m y b (projN m y a d) : Nat) : Int) = behV m m.n z (a : Int) (b : Int) (d : Int)) := by
      show _ = _
      have hl : logicB m m.n z = true := (Bool.and_eq_true _ _ ▸ hg.1).1
      unfold behV
      rw [projV_good hl ha hd, projV_good hl hb (by rw [← hy]; exact hO.proj_lt ha hd), hy]
    clear hg hy hA h3 hO
    have hY := BoxN.start w1 #[.slice ua m.n l.cap, .slice (some ⟨g, o, none⟩) m.n nc, .slice (some ⟨ob, 0, none⟩) 2 2] 60
    have BY := B1.trans (hY.below.mono B1.size)
    have hL := Lib.hid (hL1.step hY.below)
    clear hL1
    have r0 := hY.cell 0 rfl
    have r1 := hY.cell 1 rfl
    have r2 := hY.cell 2 rfl
    unfold algV
    clear r0 r1 r2
    go_wp2_with fail
    generalize w1.alloc (.cells #[.slice ua m.n l.cap, .slice (some ⟨g, o, none⟩) m.n nc, .slice (some ⟨ob, 0, none⟩) 2 2] 60) = W at hY hL BY ⊢
    have hY0 := hY.step (Below.refl _ W).drew
    have hL0 := Lib.hid (hL.out.step (Below.refl _ W).drew)
    have hB0 : Below w.heap.size w W.drew := BY.drew
    have hS0 : (fun w' => w'.cell? ⟨w1.heap.size, 0, none⟩ = some (.slice ua m.n l.cap) ∧ w'.cell? ⟨w1.heap.size, 1, none⟩ = some (.slice (some ⟨g, o, none⟩) m.n nc) ∧ w'.cell? ⟨w1.heap.size, 2, none⟩ = some (.slice (some ⟨ob, 0, none⟩) 2 2)) W.drew := ⟨hY0.cell 0 rfl, hY0.cell 1 rfl, hY0.cell 2 rfl⟩
    clear hY hL BY
    refine region_plain (fuel := 8) (listed := #[false, false, false, false, false, false, false, false]) (fun w' => w'.cell? ⟨w1.heap.size, 0, none⟩ = some (.slice ua m.n l.cap) ∧ w'.cell? ⟨w1.heap.size, 1, none⟩ = some (.slice (some ⟨g, o, none⟩) m.n nc) ∧ w'.cell? ⟨w1.heap.size, 2, none⟩ = some (.slice (some ⟨ob, 0, none⟩) 2 2)) (by kernel_rfl) (by kernel_rfl) (by kernel_rfl) ?_
    refine hold_take (i := 0) (d := 23) (v := ?vc0) (listed' := #[true, false, false, false, false, false, false, false]) rfl (by kernel_rfl) (by kernel_rfl) (by kernel_rfl) rfl (by rfl) (by kernel_rfl) hS0 ?hc0 ?rc0
    case hc0 =>
      intro w' hSw
      obtain ⟨k0, k1, k2⟩ := hSw
      go_simp
      try with_reducible rfl
    simp only [List.setIfInBounds_toArray, List.set_cons_zero, List.set_cons_succ]
    refine hold_take (i := 1) (d := 24) (v := ?vc1) (listed' := #[true, true, false, false, false, false, false, false]) rfl (by kernel_rfl) (by kernel_rfl) (by kernel_rfl) rfl (by rfl) (by kernel_rfl) hS0 ?hc1 ?rc1
    case hc1 =>
      intro w' hSw
      obtain ⟨k0, k1, k2⟩ := hSw
      go_simp
      try with_reducible rfl
    simp only [List.setIfInBounds_toArray, List.set_cons_zero, List.set_cons_succ]
    refine hold_take (i := 3) (d := 26) (v := ?vc3) (listed' := #[true, true, false, true, false, false, false, false]) rfl (by kernel_rfl) (by kernel_rfl) (by kernel_rfl) rfl (by rfl) (by kernel_rfl) hS0 ?hc3 ?rc3
    case hc3 =>
      intro w' hSw
      obtain ⟨k0, k1, k2⟩ := hSw
      go_simp
      try with_reducible rfl
    simp only [List.setIfInBounds_toArray, List.set_cons_zero, List.set_cons_succ]
    refine hold_take (i := 4) (d := 27) (v := ?vc4) (listed' := #[true, true, false, true, true, false, false, false]) rfl (by kernel_rfl) (by kernel_rfl) (by kernel_rfl) rfl (by rfl) (by kernel_rfl) hS0 ?hc4 ?rc4
    case hc4 =>
      intro w' hSw
      obtain ⟨k0, k1, k2⟩ := hSw
      go_simp
      try with_reducible rfl
    simp only [List.setIfInBounds_toArray, List.set_cons_zero, List.set_cons_succ]
    refine hold_call (i := 2) (d := 25) (listed' := #[true, true, true, true, true, false, false, false]) rfl (by kernel_rfl) rfl (by rfl) (by kernel_rfl) ?hec2 (projection_any (nc := nc) hL0.out ha) ?hcc2
    case hec2 => go_simp
    rintro e x1 ⟨p, rfl, hP, bb1⟩
    have hY1 := hY0.step bb1
    have hL1 := Lib.hid (hL0.out.step bb1)
    have hP1 := Lib.hid hP
    have hB1 := hB0.trans (bb1.mono hB0.size)
    have hS1 : (fun w' => w'.cell? ⟨w1.heap.size, 0, none⟩ = some (.slice ua m.n l.cap) ∧ w'.cell? ⟨w1.heap.size, 1, none⟩ = some (.slice (some ⟨g, o, none⟩) m.n nc) ∧ w'.cell? ⟨w1.heap.size, 2, none⟩ = some (.slice (some ⟨ob, 0, none⟩) 2 2)) x1 := ⟨hY1.cell 0 rfl, hY1.cell 1 rfl, hY1.cell 2 rfl⟩
    clear hS0 hL0 hY0 hB0 bb1 hP
    refine ⟨_, rfl, hS1, ?_⟩
    simp only [List.setIfInBounds_toArray, List.set_cons_zero, List.set_cons_succ]
    refine hold_call (i := 5) (d := 28) (listed' := #[true, true, true, true, true, true, false, false]) rfl (by kernel_rfl) rfl (by rfl) (by kernel_rfl) ?hec5 (projection_any (nc := nc) hL1.out hb) ?hcc5
    case hec5 => go_simp
    rintro e x2 ⟨q, rfl, hQ, bb2⟩
    have hY2 := hY1.step bb2
    have hL2 := Lib.hid (hL1.out.step bb2)
    have hP2 := Lib.hid (hP1.out.step bb2)
    have hQ2 := Lib.hid hQ
    have hB2 := hB1.trans (bb2.mono hB1.size)
    have hS2 : (fun w' => w'.cell? ⟨w1.heap.size, 0, none⟩ = some (.slice ua m.n l.cap) ∧ w'.cell? ⟨w1.heap.size, 1, none⟩ = some (.slice (some ⟨g, o, none⟩) m.n nc) ∧ w'.cell? ⟨w1.heap.size, 2, none⟩ = some (.slice (some ⟨ob, 0, none⟩) 2 2)) x2 := ⟨hY2.cell 0 rfl, hY2.cell 1 rfl, hY2.cell 2 rfl⟩
    clear hS1 hL1 hY1 hB1 hP1 bb2 hQ
    refine ⟨_, rfl, hS2, ?_⟩
    simp only [List.setIfInBounds_toArray, List.set_cons_zero, List.set_cons_succ]
    refine hold_call (i := 6) (d := 29) (listed' := #[true, true, true, true, true, true, true, false]) rfl (by kernel_rfl) rfl (by rfl) (by kernel_rfl) ?hec6 (behind_any (p := p) (q := q)) ?hcc6
    case hec6 => go_simp
    rintro e x3 ⟨r, rfl, hH, bb3⟩
    have hY3 := hY2.step bb3
    have hP3 := Lib.hid (hP2.out.step bb3)
    have hQ3 := Lib.hid (hQ2.out.step bb3)
    have hH3 := Lib.hid hH
    have hB3 := hB2.trans (bb3.mono hB2.size)
    have hS3 : (fun w' => w'.cell? ⟨w1.heap.size, 0, none⟩ = some (.slice ua m.n l.cap) ∧ w'.cell? ⟨w1.heap.size, 1, none⟩ = some (.slice (some ⟨g, o, none⟩) m.n nc) ∧ w'.cell? ⟨w1.heap.size, 2, none⟩ = some (.slice (some ⟨ob, 0, none⟩) 2 2)) x3 := ⟨hY3.cell 0 rfl, hY3.cell 1 rfl, hY3.cell 2 rfl⟩
    clear hS2 hL2 hY2 hB2 hP2 hQ2 bb3 hH
    refine ⟨_, rfl, hS3, ?_⟩
    simp only [List.setIfInBounds_toArray, List.set_cons_zero, List.set_cons_succ]
    refine hold_take (i := 7) (d := 11) (v := ?vc7) (listed' := #[true, true, true, true, true, true, true, true]) rfl (by kernel_rfl) (by kernel_rfl) (by kernel_rfl) rfl (by rfl) (by kernel_rfl) hS3 ?hc7 ?rc7
    case hc7 =>
      intro w' hSw
      obtain ⟨k0, k1, k2⟩ := hSw
      go_simp
      try with_reducible rfl
    simp only [List.setIfInBounds_toArray, List.set_cons_zero, List.set_cons_succ]
    refine hold_done (by kernel_rfl) ?_ _
    clear hS3
    go_wp2_with fail
    go_at_call 81
    refine (behinds_any hP3.out hQ3.out hH3.out hd).mono ?_
    rintro e w3 ⟨rfl, b3⟩
    go_wp2_with fail
    go_ret
    exact ⟨ret_int HV.out, hB3.trans (b3.mono hB3.size)⟩
  · have HV : Hid ((-1 : Int) = behV m k z x v t) := by rw [good_three] at hg; exact (behV_bad hg).symm
    clear hW q0 q1 hrow2 hg
    have B1 := bw.trans (b1.mono bw.size)
    have B2 := B1.alloc B1.size (.cells #[.slice none 0 0, .slice none 0 0, .slice none 0 0] 60)
    unfold noAlg
    go_wp2_with fail
    go_ret
    exact ⟨ret_int HV.out, B2⟩

end Go.Proofs.Ytkfinkhdfbogjaa
