import Derived.Test.YtanhogaekdcooaaZVe
namespace Go.Proofs.Ytanhogaekdcooaa
open Go.RowKit Go.Deep

def gLo (m : Mx) : Nat := (leastI m).toNat
def gN (m0 m1 : Mx) : Nat := (m0.n - 2) + (m1.n - 2) + 2
def gF (m : Mx) (y : Nat → Nat) : Nat → Nat := innerF (gLo m) (y (gLo m)) m.n
def gV0 (m0 m1 : Mx) (y0 : Nat → Nat) (c : Nat) : Int := (spreadL (gLo m0) (y0 (gLo m0)) m0.n 0 (m1.n - 2))[c]?.getD 0
def gV1 (m0 m1 : Mx) (y1 : Nat → Nat) (c : Nat) : Int := (spreadL (gLo m1) (y1 (gLo m1)) m1.n (m0.n - 2) 0)[c]?.getD 0
def gZ (m0 m1 : Mx) (y0 y1 : Nat → Nat) : Nat → Nat → Int := gluedZ (m0.n - 2) (m1.n - 2) m0.Z m1.Z (gF m0 y0) (gF m1 y1)
def gY (m0 m1 : Mx) (y0 y1 : Nat → Nat) (x : Nat) : Nat := gluedYv y0 y1 (gV0 m0 m1 y0) (gV1 m0 m1 y1) (gN m0 m1) x
def gOk (m0 m1 : Mx) : Bool := decide (2 ≤ m0.n) && decide (2 ≤ m1.n)
/-- All that is known of two logics to be glued. -/
structure Glue (m0 m1 : Mx) (y0 y1 : Nat → Nat) (o0 o1 : Nat) : Prop where
  a0 : SpotA (gV0 m0 m1 y0) (m0.n - 2) (m1.n - 2) o0 (y0 o0) (gF m0 y0)
  a1 : SpotB (gV1 m0 m1 y1) (m0.n - 2) (m1.n - 2) o1 (y1 o1) (gF m1 y1)
  e0 : Ends m0 o0 (y0 o0)
  e1 : Ends m1 o1 (y1 o1)
  i0 : Inner m0.n o0 (y0 o0) (m0.n - 2) (gF m0 y0)
  i1 : Inner m1.n o1 (y1 o1) (m1.n - 2) (gF m1 y1)
  d0 : LogicData m0.n m0.Z y0 o0
  d1 : LogicData m1.n m1.Z y1 o1
  q0 : (innerTo o0 (y0 o0) m0.n).length = m0.n - 2
  q1 : (innerTo o1 (y1 o1) m1.n).length = m1.n - 2
  l0 : gLo m0 = o0
  l1 : gLo m1 = o1
theorem Ortho.lo {m : Mx} {z : Nat → Int} {y : Nat → Nat} {o : Nat} (h : Ortho m z y o) : gLo m = o := by unfold gLo; rw [h.eq]; simp
theorem glue_of {m0 m1 : Mx} {z0 z1 : Nat → Int} {y0 y1 : Nat → Nat} {o0 o1 : Nat} (h0 : Ortho m0 z0 y0 o0) (h1 : Ortho m1 z1 y1 o1) (n0 : 2 ≤ m0.n) (n1 : 2 ≤ m1.n) : Glue m0 m1 y0 y1 o0 o1 := by
  have l0 := h0.lo
  have l1 := h1.lo
  have d0 := h0.data
  have d1 := h1.data
  have e0 := d0.ends n0
  have e1 := d1.ends n1
  have i0 := inner_is e0.ho e0.ht e0.ne.symm
  have i1 := inner_is e1.ho e1.ht e1.ne.symm
  have q0 : (innerTo o0 (y0 o0) m0.n).length = m0.n - 2 := by have := i0.len; omega
  have q1 : (innerTo o1 (y1 o1) m1.n).length = m1.n - 2 := by have := i1.len; omega
  have f0 : gF m0 y0 = innerF o0 (y0 o0) m0.n := by unfold gF; rw [l0]
  have f1 : gF m1 y1 = innerF o1 (y1 o1) m1.n := by unfold gF; rw [l1]
  have v0 : gV0 m0 m1 y0 = fun c => (spreadL o0 (y0 o0) m0.n 0 (m1.n - 2))[c]?.getD 0 := by funext c; unfold gV0; rw [l0]
  have v1 : gV1 m0 m1 y1 = fun c => (spreadL o1 (y1 o1) m1.n (m0.n - 2) 0)[c]?.getD 0 := by funext c; unfold gV1; rw [l1]
  rw [q0] at i0
  rw [q1] at i1
  exact ⟨by rw [v0, f0]; exact spotA q0, by rw [v1, f1]; exact spotB q1, e0, e1, by rw [f0]; exact i0, by rw [f1]; exact i1, d0, d1, q0, q1, l0, l1⟩
section
variable {m0 m1 : Mx} {y0 y1 : Nat → Nat} {o0 o1 : Nat}
theorem Glue.opp (g : Glue m0 m1 y0 y1 o0 o1) : gY m0 m1 y0 y1 0 = m0.n - 2 + (m1.n - 2) + 1 ∧ gY m0 m1 y0 y1 (m0.n - 2 + (m1.n - 2) + 1) = 0 ∧ SideY (m0.n - 2) 0 (gF m0 y0) y0 (gY m0 m1 y0 y1) ∧ SideY (m1.n - 2) (m0.n - 2) (gF m1 y1) y1 (gY m0 m1 y0 y1) ∧
    (∀ x, x < gN m0 m1 → 0 ≤ gV0 m0 m1 y0 x → viewY y0 (gV0 m0 m1 y0) (gN m0 m1) x = (gY m0 m1 y0 y1 x : Int)) ∧
    (∀ x, x < gN m0 m1 → ¬ 0 ≤ gV0 m0 m1 y0 x → 0 ≤ gV1 m0 m1 y1 x ∧ viewY y1 (gV1 m0 m1 y1) (gN m0 m1) x = (gY m0 m1 y0 y1 x : Int)) ∧ ∀ x, x < gN m0 m1 → gY m0 m1 y0 y1 x < gN m0 m1 := by
  obtain ⟨⟨b1, b2⟩, ⟨t1, t2⟩, hA, hB⟩ := glued_Y g.e0.ne g.e1.ne g.d0 g.d1 g.a0 g.a1 g.i0 g.i1
  have y_bot : gY m0 m1 y0 y1 0 = m0.n - 2 + (m1.n - 2) + 1 := by unfold gY gluedYv gN; rw [if_pos b1, b2]; omega
  have y_top : gY m0 m1 y0 y1 (m0.n - 2 + (m1.n - 2) + 1) = 0 := by unfold gY gluedYv gN; rw [if_pos t1, t2]; omega
  have y_A : ∀ i j, 0 ≤ gV0 m0 m1 y0 (i + 1) → viewY y0 (gV0 m0 m1 y0) (m0.n - 2 + (m1.n - 2) + 2) (i + 1) = ((j + 1 : Nat) : Int) → gY m0 m1 y0 y1 (i + 1) = j + 1 := fun i j h1 h2 => by unfold gY gluedYv gN; rw [if_pos h1, h2]; omega
  have y_B : ∀ i j, ¬ 0 ≤ gV0 m0 m1 y0 (m0.n - 2 + i + 1) → viewY y1 (gV1 m0 m1 y1) (m0.n - 2 + (m1.n - 2) + 2) (m0.n - 2 + i + 1) = ((m0.n - 2 + j + 1 : Nat) : Int) → gY m0 m1 y0 y1 (m0.n - 2 + i + 1) = m0.n - 2 + j + 1 := fun i j h1 h2 => by unfold gY gluedYv gN; rw [if_neg h1, h2]; omega
  refine ⟨y_bot, y_top, ⟨fun i hi => ?_⟩, ⟨fun i hi => ?_⟩, fun x hx h0 => ?_, fun x hx h0 => ?_, fun x hx => ?_⟩
  · obtain ⟨j, hj, e, h1, h2⟩ := hA i hi
    refine ⟨j, hj, ?_, e⟩
    rw [show 0 + i + 1 = i + 1 by omega, show 0 + j + 1 = j + 1 by omega]
    exact y_A i j h1 h2
  · obtain ⟨j, hj, e, h1, h2, h3⟩ := hB i hi
    exact ⟨j, hj, y_B i j h1 h3, e⟩
  · rcases stands (m0.n - 2) (m1.n - 2) x hx with rfl | rfl | ⟨i, hi, rfl⟩ | ⟨i, hi, rfl⟩
    · rw [y_bot]; exact b2
    · rw [y_top]; exact t2
    · obtain ⟨j, hj, e, h1, h2⟩ := hA i hi
      rw [y_A i j h1 h2]; exact h2
    · obtain ⟨j, hj, e, h1, h2, h3⟩ := hB i hi
      exact absurd h0 h1
  · rcases stands (m0.n - 2) (m1.n - 2) x hx with rfl | rfl | ⟨i, hi, rfl⟩ | ⟨i, hi, rfl⟩
    · exact absurd b1 h0
    · exact absurd t1 h0
    · obtain ⟨j, hj, e, h1, h2⟩ := hA i hi
      exact absurd h1 h0
    · obtain ⟨j, hj, e, h1, h2, h3⟩ := hB i hi
      exact ⟨h2, by rw [y_B i j h1 h3]; exact h3⟩
  · unfold gN at hx ⊢
    rcases stands (m0.n - 2) (m1.n - 2) x hx with rfl | rfl | ⟨i, hi, rfl⟩ | ⟨i, hi, rfl⟩
    · rw [y_bot]; omega
    · rw [y_top]; omega
    · obtain ⟨j, hj, e, h1, h2⟩ := hA i hi
      rw [y_A i j h1 h2]; omega
    · obtain ⟨j, hj, e, h1, h2, h3⟩ := hB i hi
      rw [y_B i j h1 h3]; omega
theorem Glue.bound (g : Glue m0 m1 y0 y1 o0 o1) {c : Nat} (hc : c < gN m0 m1) : gV0 m0 m1 y0 c < (m0.n : Int) ∧ gV1 m0 m1 y1 c < (m1.n : Int) := by
  have h0 := g.e0.ho
  have h1 := g.e0.ht
  have h2 := g.e1.ho
  have h3 := g.e1.ht
  rcases stands (m0.n - 2) (m1.n - 2) c hc with rfl | rfl | ⟨i, hi, rfl⟩ | ⟨i, hi, rfl⟩
  · rw [g.a0.bot, g.a1.bot]; omega
  · rw [g.a0.top, g.a1.top]; omega
  · rw [g.a0.own i hi, g.a1.oth i hi]; have := g.i0.lt i hi; omega
  · rw [g.a0.oth i hi, g.a1.own i hi]; have := g.i1.lt i hi; omega
/-- Glued logics are logics. -/
theorem Glue.data (g : Glue m0 m1 y0 y1 o0 o1) (h : gN m0 m1 ≤ 12) : LogicData (gN m0 m1) (gZ m0 m1 y0 y1) (gY m0 m1 y0 y1) 0 := by
  obtain ⟨h1, h2, h3, h4, _⟩ := g.opp
  exact glued_data g.d0 g.d1 g.i0 g.i1 h h1 h2 h3 h4
end

set_option maxRecDepth 100000 in
set_option maxHeartbeats 2000000 in
theorem planGlued_no {w : World} {d0 d1 : LD} {base q0 q1 N : Nat} {b : Nat → Nat → Bool} {y : Nat → Nat} {v numV : Value} (l0 : d0.k ≤ 12) (l1 : d1.k ≤ 12) (hk : d0.k < 2 ∨ d1.k < 2)
    (hv : w.ownsRow base 56 3 v 2 [d0.u, d0.t, .slice (some ⟨q0, 0, none⟩) 2 2, d1.u, d1.t, .slice (some ⟨q1, 0, none⟩) 2 2]) :
    Calls Try.prog 83 #[numV, v] w (Planned w N b y false) := by
  obtain ⟨g, cap, rfl, k0, k1, k2, k3, k4, k5⟩ := parts_two hv
  have gl : g < w.heap.size := World.block_lt_of_cell? w ⟨g, 0, none⟩ k0
  have P0 := ThreeAt.new w (.int .i64 0) .nilFunc .nilFunc 101
  have B0 := (Below.refl w.heap.size w).alloc (Nat.le_refl _) (.cells #[.int .i64 0, .nilFunc, .nilFunc] 101)
  have s0 : w.heap.size < (w.alloc (.cells #[.int .i64 0, .nilFunc, .nilFunc] 101)).heap.size := by simp
  replace k0 := (B0.cell (p := ⟨g, 0, none⟩) gl).trans k0
  replace k1 := (B0.cell (p := ⟨g, 1, none⟩) gl).trans k1
  replace k2 := (B0.cell (p := ⟨g, 2, none⟩) gl).trans k2
  replace k3 := (B0.cell (p := ⟨g, 3, none⟩) gl).trans k3
  replace k4 := (B0.cell (p := ⟨g, 4, none⟩) gl).trans k4
  replace k5 := (B0.cell (p := ⟨g, 5, none⟩) gl).trans k5
  obtain ⟨pz, hpz⟩ : ∃ q : Int, (d0.k : Int) - 2 = q := ⟨_, rfl⟩
  obtain ⟨rz, hrz⟩ : ∃ q : Int, (d1.k : Int) - 2 = q := ⟨_, rfl⟩
  have hlt : Hid (decide (pz < 0) || decide (rz < 0)) := by
    show _ = true
    rcases hk with h | h
    · rw [decide_eq_true (show pz < 0 by omega)]; rfl
    · rw [decide_eq_true (show rz < 0 by omega), Bool.or_true]
  clear hv hk
  go_enter Try.func83, Try.ntmps83
  go_upto_region 1 with fail
  generalize w.alloc (.cells #[.int .i64 0, .nilFunc, .nilFunc] 101) = w0 at P0 B0 s0 k0 k1 k2 k3 k4 k5 ⊢
  have gl0 : g < w0.heap.size := by omega
  have KA : Below w0.heap.size w0 w0.drew := (Below.refl _ _).drew
  refine region_plain (fuel := 14) (listed := #[false, false, false, false, false, false, false, false, false, false, false, false, false, false]) (fun W' => Below w0.heap.size w0 W') (by kernel_rfl) (by kernel_rfl) (by kernel_rfl) ?_
  refine hold_take (i := 0) (d := 12) (v := ?vp0) (listed' := #[true, false, false, false, false, false, false, false, false, false, false, false, false, false]) rfl (by kernel_rfl) (by kernel_rfl) (by kernel_rfl) rfl (by rfl) (by kernel_rfl) KA ?hp0 ?rp0
  case hp0 =>
    intro w' hSw
    have hSb : Below w0.heap.size w0 w' := hSw; have z0 := (hSb.cell (p := ⟨g, 0, none⟩) gl0).trans k0; have z1 := (hSb.cell (p := ⟨g, 1, none⟩) gl0).trans k1; have z2 := (hSb.cell (p := ⟨g, 2, none⟩) gl0).trans k2; have z3 := (hSb.cell (p := ⟨g, 3, none⟩) gl0).trans k3; have z4 := (hSb.cell (p := ⟨g, 4, none⟩) gl0).trans k4; have z5 := (hSb.cell (p := ⟨g, 5, none⟩) gl0).trans k5
    go_simp
    try with_reducible rfl
  simp only [List.setIfInBounds_toArray, List.set_cons_zero, List.set_cons_succ]
  refine hold_take (i := 1) (d := 13) (v := ?vp1) (listed' := #[true, true, false, false, false, false, false, false, false, false, false, false, false, false]) rfl (by kernel_rfl) (by kernel_rfl) (by kernel_rfl) rfl (by rfl) (by kernel_rfl) KA ?hp1 ?rp1
  case hp1 =>
    intro w' hSw
    have hSb : Below w0.heap.size w0 w' := hSw; have z0 := (hSb.cell (p := ⟨g, 0, none⟩) gl0).trans k0; have z1 := (hSb.cell (p := ⟨g, 1, none⟩) gl0).trans k1; have z2 := (hSb.cell (p := ⟨g, 2, none⟩) gl0).trans k2; have z3 := (hSb.cell (p := ⟨g, 3, none⟩) gl0).trans k3; have z4 := (hSb.cell (p := ⟨g, 4, none⟩) gl0).trans k4; have z5 := (hSb.cell (p := ⟨g, 5, none⟩) gl0).trans k5
    go_simp
    try with_reducible rfl
  simp only [List.setIfInBounds_toArray, List.set_cons_zero, List.set_cons_succ]
  refine hold_take (i := 2) (d := 14) (v := ?vp2) (listed' := #[true, true, true, false, false, false, false, false, false, false, false, false, false, false]) rfl (by kernel_rfl) (by kernel_rfl) (by kernel_rfl) rfl (by rfl) (by kernel_rfl) KA ?hp2 ?rp2
  case hp2 =>
    intro w' hSw
    have hSb : Below w0.heap.size w0 w' := hSw; have z0 := (hSb.cell (p := ⟨g, 0, none⟩) gl0).trans k0; have z1 := (hSb.cell (p := ⟨g, 1, none⟩) gl0).trans k1; have z2 := (hSb.cell (p := ⟨g, 2, none⟩) gl0).trans k2; have z3 := (hSb.cell (p := ⟨g, 3, none⟩) gl0).trans k3; have z4 := (hSb.cell (p := ⟨g, 4, none⟩) gl0).trans k4; have z5 := (hSb.cell (p := ⟨g, 5, none⟩) gl0).trans k5
    go_simp
    try with_reducible rfl
  simp only [List.setIfInBounds_toArray, List.set_cons_zero, List.set_cons_succ]
  refine hold_take (i := 3) (d := 15) (v := ?vp3) (listed' := #[true, true, true, true, false, false, false, false, false, false, false, false, false, false]) rfl (by kernel_rfl) (by kernel_rfl) (by kernel_rfl) rfl (by rfl) (by kernel_rfl) KA ?hp3 ?rp3
  case hp3 =>
    intro w' hSw
    have hSb : Below w0.heap.size w0 w' := hSw; have z0 := (hSb.cell (p := ⟨g, 0, none⟩) gl0).trans k0; have z1 := (hSb.cell (p := ⟨g, 1, none⟩) gl0).trans k1; have z2 := (hSb.cell (p := ⟨g, 2, none⟩) gl0).trans k2; have z3 := (hSb.cell (p := ⟨g, 3, none⟩) gl0).trans k3; have z4 := (hSb.cell (p := ⟨g, 4, none⟩) gl0).trans k4; have z5 := (hSb.cell (p := ⟨g, 5, none⟩) gl0).trans k5
    go_simp
    try with_reducible rfl
  simp only [List.setIfInBounds_toArray, List.set_cons_zero, List.set_cons_succ]
  refine hold_take (i := 4) (d := 16) (v := ?vp4) (listed' := #[true, true, true, true, true, false, false, false, false, false, false, false, false, false]) rfl (by kernel_rfl) (by kernel_rfl) (by kernel_rfl) rfl (by rfl) (by kernel_rfl) KA ?hp4 ?rp4
  case hp4 =>
    intro w' hSw
    have hSb : Below w0.heap.size w0 w' := hSw; have z0 := (hSb.cell (p := ⟨g, 0, none⟩) gl0).trans k0; have z1 := (hSb.cell (p := ⟨g, 1, none⟩) gl0).trans k1; have z2 := (hSb.cell (p := ⟨g, 2, none⟩) gl0).trans k2; have z3 := (hSb.cell (p := ⟨g, 3, none⟩) gl0).trans k3; have z4 := (hSb.cell (p := ⟨g, 4, none⟩) gl0).trans k4; have z5 := (hSb.cell (p := ⟨g, 5, none⟩) gl0).trans k5
    go_simp
    try with_reducible rfl
  simp only [List.setIfInBounds_toArray, List.set_cons_zero, List.set_cons_succ]
  refine hold_take (i := 5) (d := 17) (v := ?vp5) (listed' := #[true, true, true, true, true, true, false, false, false, false, false, false, false, false]) rfl (by kernel_rfl) (by kernel_rfl) (by kernel_rfl) rfl (by rfl) (by kernel_rfl) KA ?hp5 ?rp5
  case hp5 =>
    intro w' hSw
    have hSb : Below w0.heap.size w0 w' := hSw; have z0 := (hSb.cell (p := ⟨g, 0, none⟩) gl0).trans k0; have z1 := (hSb.cell (p := ⟨g, 1, none⟩) gl0).trans k1; have z2 := (hSb.cell (p := ⟨g, 2, none⟩) gl0).trans k2; have z3 := (hSb.cell (p := ⟨g, 3, none⟩) gl0).trans k3; have z4 := (hSb.cell (p := ⟨g, 4, none⟩) gl0).trans k4; have z5 := (hSb.cell (p := ⟨g, 5, none⟩) gl0).trans k5
    go_simp
    try with_reducible rfl
  simp only [List.setIfInBounds_toArray, List.set_cons_zero, List.set_cons_succ]
  refine hold_take (i := 6) (d := 18) (v := ?vp6) (listed' := #[true, true, true, true, true, true, true, false, false, false, false, false, false, false]) rfl (by kernel_rfl) (by kernel_rfl) (by kernel_rfl) rfl (by rfl) (by kernel_rfl) KA ?hp6 ?rp6
  case hp6 =>
    intro w' hSw
    have hSb : Below w0.heap.size w0 w' := hSw; have z0 := (hSb.cell (p := ⟨g, 0, none⟩) gl0).trans k0; have z1 := (hSb.cell (p := ⟨g, 1, none⟩) gl0).trans k1; have z2 := (hSb.cell (p := ⟨g, 2, none⟩) gl0).trans k2; have z3 := (hSb.cell (p := ⟨g, 3, none⟩) gl0).trans k3; have z4 := (hSb.cell (p := ⟨g, 4, none⟩) gl0).trans k4; have z5 := (hSb.cell (p := ⟨g, 5, none⟩) gl0).trans k5
    go_simp
    try with_reducible rfl
  simp only [List.setIfInBounds_toArray, List.set_cons_zero, List.set_cons_succ]
  refine hold_take (i := 7) (d := 19) (v := ?vp7) (listed' := #[true, true, true, true, true, true, true, true, false, false, false, false, false, false]) rfl (by kernel_rfl) (by kernel_rfl) (by kernel_rfl) rfl (by rfl) (by kernel_rfl) KA ?hp7 ?rp7
  case hp7 =>
    intro w' hSw
    have hSb : Below w0.heap.size w0 w' := hSw; have z0 := (hSb.cell (p := ⟨g, 0, none⟩) gl0).trans k0; have z1 := (hSb.cell (p := ⟨g, 1, none⟩) gl0).trans k1; have z2 := (hSb.cell (p := ⟨g, 2, none⟩) gl0).trans k2; have z3 := (hSb.cell (p := ⟨g, 3, none⟩) gl0).trans k3; have z4 := (hSb.cell (p := ⟨g, 4, none⟩) gl0).trans k4; have z5 := (hSb.cell (p := ⟨g, 5, none⟩) gl0).trans k5
    go_simp
    try with_reducible rfl
  simp only [List.setIfInBounds_toArray, List.set_cons_zero, List.set_cons_succ]
  refine hold_take (i := 8) (d := 20) (v := ?vp8) (listed' := #[true, true, true, true, true, true, true, true, true, false, false, false, false, false]) rfl (by kernel_rfl) (by kernel_rfl) (by kernel_rfl) rfl (by rfl) (by kernel_rfl) KA ?hp8 ?rp8
  case hp8 =>
    intro w' hSw
    have hSb : Below w0.heap.size w0 w' := hSw; have z0 := (hSb.cell (p := ⟨g, 0, none⟩) gl0).trans k0; have z1 := (hSb.cell (p := ⟨g, 1, none⟩) gl0).trans k1; have z2 := (hSb.cell (p := ⟨g, 2, none⟩) gl0).trans k2; have z3 := (hSb.cell (p := ⟨g, 3, none⟩) gl0).trans k3; have z4 := (hSb.cell (p := ⟨g, 4, none⟩) gl0).trans k4; have z5 := (hSb.cell (p := ⟨g, 5, none⟩) gl0).trans k5
    go_simp
    try with_reducible rfl
  simp only [List.setIfInBounds_toArray, List.set_cons_zero, List.set_cons_succ]
  refine hold_take (i := 9) (d := 21) (v := ?vp9) (listed' := #[true, true, true, true, true, true, true, true, true, true, false, false, false, false]) rfl (by kernel_rfl) (by kernel_rfl) (by kernel_rfl) rfl (by rfl) (by kernel_rfl) KA ?hp9 ?rp9
  case hp9 =>
    intro w' hSw
    have hSb : Below w0.heap.size w0 w' := hSw; have z0 := (hSb.cell (p := ⟨g, 0, none⟩) gl0).trans k0; have z1 := (hSb.cell (p := ⟨g, 1, none⟩) gl0).trans k1; have z2 := (hSb.cell (p := ⟨g, 2, none⟩) gl0).trans k2; have z3 := (hSb.cell (p := ⟨g, 3, none⟩) gl0).trans k3; have z4 := (hSb.cell (p := ⟨g, 4, none⟩) gl0).trans k4; have z5 := (hSb.cell (p := ⟨g, 5, none⟩) gl0).trans k5
    go_simp
    try with_reducible rfl
  simp only [List.setIfInBounds_toArray, List.set_cons_zero, List.set_cons_succ]
  refine hold_take (i := 10) (d := 22) (v := ?vp10) (listed' := #[true, true, true, true, true, true, true, true, true, true, true, false, false, false]) rfl (by kernel_rfl) (by kernel_rfl) (by kernel_rfl) rfl (by rfl) (by kernel_rfl) KA ?hp10 ?rp10
  case hp10 =>
    intro w' hSw
    have hSb : Below w0.heap.size w0 w' := hSw; have z0 := (hSb.cell (p := ⟨g, 0, none⟩) gl0).trans k0; have z1 := (hSb.cell (p := ⟨g, 1, none⟩) gl0).trans k1; have z2 := (hSb.cell (p := ⟨g, 2, none⟩) gl0).trans k2; have z3 := (hSb.cell (p := ⟨g, 3, none⟩) gl0).trans k3; have z4 := (hSb.cell (p := ⟨g, 4, none⟩) gl0).trans k4; have z5 := (hSb.cell (p := ⟨g, 5, none⟩) gl0).trans k5
    go_simp
    try with_reducible rfl
  simp only [List.setIfInBounds_toArray, List.set_cons_zero, List.set_cons_succ]
  refine hold_take (i := 11) (d := 23) (v := ?vp11) (listed' := #[true, true, true, true, true, true, true, true, true, true, true, true, false, false]) rfl (by kernel_rfl) (by kernel_rfl) (by kernel_rfl) rfl (by rfl) (by kernel_rfl) KA ?hp11 ?rp11
  case hp11 =>
    intro w' hSw
    have hSb : Below w0.heap.size w0 w' := hSw; have z0 := (hSb.cell (p := ⟨g, 0, none⟩) gl0).trans k0; have z1 := (hSb.cell (p := ⟨g, 1, none⟩) gl0).trans k1; have z2 := (hSb.cell (p := ⟨g, 2, none⟩) gl0).trans k2; have z3 := (hSb.cell (p := ⟨g, 3, none⟩) gl0).trans k3; have z4 := (hSb.cell (p := ⟨g, 4, none⟩) gl0).trans k4; have z5 := (hSb.cell (p := ⟨g, 5, none⟩) gl0).trans k5
    go_simp
    try with_reducible rfl
  simp only [List.setIfInBounds_toArray, List.set_cons_zero, List.set_cons_succ]
  refine hold_take (i := 12) (d := 6) (v := ?vp12) (listed' := #[true, true, true, true, true, true, true, true, true, true, true, true, true, false]) rfl (by kernel_rfl) (by kernel_rfl) (by kernel_rfl) rfl (by rfl) (by kernel_rfl) KA ?hp12 ?rp12
  case hp12 =>
    intro w' hSw
    have hSb : Below w0.heap.size w0 w' := hSw; have z0 := (hSb.cell (p := ⟨g, 0, none⟩) gl0).trans k0; have z1 := (hSb.cell (p := ⟨g, 1, none⟩) gl0).trans k1; have z2 := (hSb.cell (p := ⟨g, 2, none⟩) gl0).trans k2; have z3 := (hSb.cell (p := ⟨g, 3, none⟩) gl0).trans k3; have z4 := (hSb.cell (p := ⟨g, 4, none⟩) gl0).trans k4; have z5 := (hSb.cell (p := ⟨g, 5, none⟩) gl0).trans k5
    go_simp
    try with_reducible rfl
  simp only [List.setIfInBounds_toArray, List.set_cons_zero, List.set_cons_succ]
  refine hold_take (i := 13) (d := 7) (v := ?vp13) (listed' := #[true, true, true, true, true, true, true, true, true, true, true, true, true, true]) rfl (by kernel_rfl) (by kernel_rfl) (by kernel_rfl) rfl (by rfl) (by kernel_rfl) KA ?hp13 ?rp13
  case hp13 =>
    intro w' hSw
    have hSb : Below w0.heap.size w0 w' := hSw; have z0 := (hSb.cell (p := ⟨g, 0, none⟩) gl0).trans k0; have z1 := (hSb.cell (p := ⟨g, 1, none⟩) gl0).trans k1; have z2 := (hSb.cell (p := ⟨g, 2, none⟩) gl0).trans k2; have z3 := (hSb.cell (p := ⟨g, 3, none⟩) gl0).trans k3; have z4 := (hSb.cell (p := ⟨g, 4, none⟩) gl0).trans k4; have z5 := (hSb.cell (p := ⟨g, 5, none⟩) gl0).trans k5
    go_simp
    try with_reducible rfl
  simp only [List.setIfInBounds_toArray, List.set_cons_zero, List.set_cons_succ]
  refine hold_done (by kernel_rfl) ?_ _
  clear KA k0 k1 k2 k3 k4 k5
  have t0 := P0.c0
  have t1 := P0.c1
  have t2 := P0.c2
  have t3 := P0.f0
  have t4 := P0.f1
  have t5 := P0.f2
  by_cases h0 : pz < 0
  · have hlt2 := hlt
    go_wp2_with fail
    have hon := set3_only w0 w.heap.size (.int .i64 0) .nilFunc .nilFunc
    have hT := told3 (x := .int .i64 0) (y := .nilFunc) (z := .nilFunc) P0.c0 P0.c1 P0.c2
    have f0 := hT.1
    have f1 := hT.2.1
    have f2 := hT.2.2
    exact bodyPost_ret (v := .tuple #[.agg #[.int .i64 0, .nilFunc, .nilFunc], .bool false]) (by simp [results, Try.results83, go_sem, f0, f1, f2]) rfl ⟨(B0.trans (hon.below fun j hj => by have hj' : j = w.heap.size := hj; omega)).drew, .inl ⟨rfl, .inl rfl⟩⟩
  · have h1 : rz < 0 := by have h2 := hlt.out; rw [decide_eq_false h0] at h2; simpa using h2
    go_wp2_with fail
    have hon := set3_only w0 w.heap.size (.int .i64 0) .nilFunc .nilFunc
    have hT := told3 (x := .int .i64 0) (y := .nilFunc) (z := .nilFunc) P0.c0 P0.c1 P0.c2
    have f0 := hT.1
    have f1 := hT.2.1
    have f2 := hT.2.2
    exact bodyPost_ret (v := .tuple #[.agg #[.int .i64 0, .nilFunc, .nilFunc], .bool false]) (by simp [results, Try.results83, go_sem, f0, f1, f2]) rfl ⟨(B0.trans (hon.below fun j hj => by have hj' : j = w.heap.size := hj; omega)).drew, .inl ⟨rfl, .inl rfl⟩⟩

theorem GluedOf_any {w : World} {d0 d1 : LD} {B : Nat} (h0 : d0.At w B) (h1 : d1.At w B) :
    Calls Try.prog 16 #[.agg #[d0.u, d0.t], .agg #[d1.u, d1.t]] w (MadeOk w (gN d0.m d1.m) (gZ d0.m d1.m d0.y d1.y) (gY d0.m d1.m d0.y d1.y) (d0.ok && d1.ok && gOk d0.m d1.m && decide (gN d0.m d1.m ≤ 12))) := by
  cases e0 : d0.ok with
  | false =>
    refine (GluedOf_walk (N := 1) (b := fun _ _ => true) (y := fun _ => 0) (okp := true) h0 h1 (fun _ => by omega) (fun _ _ a _ => by omega) (fun f => by rw [e0] at f; cases f)).mono fun e w' h => ?_
    rw [e0] at h
    exact ⟨h.1, .inl ⟨rfl, (h.2.resolve_right fun ⟨f, _⟩ => by simp at f).2⟩⟩
  | true =>
    cases e1 : d1.ok with
    | false =>
      refine (GluedOf_walk (N := 1) (b := fun _ _ => true) (y := fun _ => 0) (okp := true) h0 h1 (fun _ => by omega) (fun _ _ a _ => by omega) (fun _ f => by rw [e1] at f; cases f)).mono fun e w' h => ?_
      rw [e1] at h
      exact ⟨h.1, .inl ⟨rfl, (h.2.resolve_right fun ⟨f, _⟩ => by simp at f).2⟩⟩
    | true =>
      obtain ⟨o0, i0⟩ := LD.isY h0 e0
      obtain ⟨o1, i1⟩ := LD.isY h1 e1
      have n0 := i0.hi
      have n1 := i1.hi
      have k0 : d0.k = d0.m.n := i0.len
      have k1 : d1.k = d1.m.n := i1.len
      cases ho : gOk d0.m d1.m with
      | false =>
        have hk : d0.k < 2 ∨ d1.k < 2 := by
          unfold gOk at ho
          simp only [Bool.and_eq_false_iff, decide_eq_false_iff_not] at ho
          omega
        refine (GluedOf_walk (N := 1) (b := fun _ _ => true) (y := fun _ => 0) (okp := false) h0 h1 (fun _ => by omega) (fun _ _ a _ => by omega) (fun _ _ W v base q0 q1 hW hv _ _ => planGlued_no (by omega) (by omega) hk hv)).mono fun e w' h => ?_
        rw [e0, e1] at h
        exact ⟨h.1, .inl ⟨rfl, (h.2.resolve_right fun ⟨f, _⟩ => by simp at f).2⟩⟩
      | true =>
        have hb : 2 ≤ d0.m.n ∧ 2 ≤ d1.m.n := by
          unfold gOk at ho
          simp only [Bool.and_eq_true, decide_eq_true_eq] at ho
          exact ho
        have g := glue_of i0.orth i1.orth hb.1 hb.2
        obtain ⟨_, _, _, _, y5, y6, y7⟩ := g.opp
        have lN : (spreadL o0 (d0.y o0) d0.m.n 0 (d1.m.n - 2)).length = gN d0.m d1.m := by rw [spread_len g.q0]; unfold gN; omega
        have lM : (spreadL o1 (d1.y o1) d1.m.n (d0.m.n - 2) 0).length = gN d0.m d1.m := by rw [spread_len g.q1]; unfold gN; omega
        have v0 : ∀ c, (spreadL o0 (d0.y o0) d0.m.n 0 (d1.m.n - 2))[c]?.getD 0 = gV0 d0.m d1.m d0.y c := fun c => by unfold gV0; rw [g.l0]
        have v1 : ∀ c, (spreadL o1 (d1.y o1) d1.m.n (d0.m.n - 2) 0)[c]?.getD 0 = gV1 d0.m d1.m d1.y c := fun c => by unfold gV1; rw [g.l1]
        refine (GluedOf_walk (N := gN d0.m d1.m) (b := gluedB d0.m d1.m (gV0 d0.m d1.m d0.y) (gV1 d0.m d1.m d1.y)) (y := gY d0.m d1.m d0.y d1.y) (okp := true) h0 h1 (fun _ => by unfold gN; omega) (fun _ _ a ha => y7 a ha)
          (fun _ _ W v base q0 q1 hW hv _ _ => planGlued_yes (i0.step hW) (i1.step hW) hv (by omega) (by omega) rfl lN v0 lM v1 (fun c hc => (g.bound hc).1) (fun c hc => (g.bound hc).2) y5 y6)).mono fun e w' h => h.congr ?_ (fun r hr c hc => ?_) fun _ _ => rfl
        · rw [e0, e1]
        · exact glued_Z g.a0 g.a1 g.e0 g.e1 g.i0 g.i1 (fun a c ha hc => g.d0.bit a c ha hc) (fun a c ha hc => g.d1.bit a c ha hc) hr hc
end Go.Proofs.Ytanhogaekdcooaa
