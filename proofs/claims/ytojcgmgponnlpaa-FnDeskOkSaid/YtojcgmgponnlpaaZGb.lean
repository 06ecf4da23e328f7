import Derived.Test.YtojcgmgponnlpaaZGa
import Derived.Test.YtojcgmgponnlpaaZVe
import Derived.Test.YtojcgmgponnlpaaZOa
namespace Go.Proofs.Ytojcgmgponnlpaa
open Go.RowKit Go.Deep

/-- Two logics in their boxes, and all that was, while a logic is made. -/
structure BoxT (w : World) (u0 t0 u1 t1 : Value) (P0 : Nat) (wr : World) : Prop where
  a : TwoAt wr w.heap.size u0 t0
  b : TwoAt wr (w.heap.size + 1) u1 t1
  s : BoxS w (w.heap.size + 1 + 1) P0 wr
theorem BoxT.chg {w wr w' : World} {u0 t0 u1 t1 : Value} {P0 : Nat} (h : BoxT w u0 t0 u1 t1 P0 wr) (hc : Chg (fun j => j = P0 ∨ P0 + 1 ≤ j) wr w') : BoxT w u0 t0 u1 t1 P0 w' :=
  have h1 := h.s.lt
  ⟨hc.two h.a (by show ¬ (_ ∨ _); omega), hc.two h.b (by show ¬ (_ ∨ _); omega), h.s.chg hc⟩
/-- A cell of square rows, and the row. -/
theorem SqAt.two {w : World} {B : Nat} {ua : Option Addr} {l : Lay} {m : Mx} (h : SqAt w B ua l m) {r c : Nat} (hr : r < m.n) (hc : c < m.n) :
    ua = some ⟨l.b, l.o, none⟩ ∧ w.cell? ⟨l.b, l.o + r, none⟩ = some (.slice (some ⟨l.G r, l.O r, none⟩) m.n (l.C r)) ∧ w.cell? ⟨l.G r, l.O r + c, none⟩ = some (.int .i64 (m.Z r c)) := h.mat.sq h.sq hr hc
theorem divs {x n N0 : Nat} (_ : 1 ≤ n) (hx : x < N0 * n) (hb : N0 * n ≤ 144) : ∃ q r : Nat, q = x / n ∧ r = x % n ∧ q < N0 ∧ r < n ∧ IntKind.i64.wrap ((x : Int) / (n : Int)) = (q : Int) ∧ (x : Int).tmod (n : Int) = (r : Int) := by
  obtain ⟨l1, l3, -⟩ := pair_parts hx
  refine ⟨x / n, x % n, rfl, rfl, l1, l3, ?_, ?_⟩
  · have key : ∀ q : Nat, q ≤ x → IntKind.i64.wrap (q : Int) = (q : Int) := fun q h => IntWalk.i64_in _ (by omega)
    rw [← Int.natCast_ediv]
    exact key _ (Nat.div_le_self x n)
  · rw [Int.tmod_eq_emod_of_nonneg (by omega), ← Int.natCast_emod]
theorem muls {a b : Int} (ha : a = 0 ∨ a = 1) (hb : b = 0 ∨ b = 1) : IntKind.i64.wrap (a * b) = a * b ∧ 0 ≤ a * b ∧ a * b ≤ 2 := by
  rcases ha with rfl | rfl <;> rcases hb with rfl | rfl <;> decide

set_option maxRecDepth 100000 in
set_option maxHeartbeats 4000000 in
theorem spec_TimesOf_yes {w : World} {d0 d1 : LD} {B p0 p1 : Nat} {y0 y1 : Nat → Nat} (h0 : d0.Is w B y0 p0) (h1 : d1.Is w B y1 p1) (hN12 : d0.m.n * d1.m.n ≤ 12) :
    Calls Try.prog 113 #[.agg #[d0.u, d0.t], .agg #[d1.u, d1.t]] w (MadeOk w (d0.m.n * d1.m.n) (timesZ d1.m.n d0.m.Z d1.m.Z) (timesY d1.m.n y0 y1) true) := by
  obtain ⟨i0, hi, hz0, hz1, hz2⟩ := info_parts infoInt
  have HI := Lib.hid hi
  have HZ0 := Lib.hid hz0
  have HZ1 := Lib.hid hz1
  have HZ2 := Lib.hid hz2
  obtain ⟨i1, hj, hy0, hy1, hy2⟩ := info_parts infoInts
  have HJ := Lib.hid hj
  have HY0 := Lib.hid hy0
  have HY1 := Lib.hid hy1
  have HY2 := Lib.hid hy2
  clear hi hz0 hz1 hz2 hj hy0 hy1 hy2
  obtain ⟨ua0, l0, m0, na0, g0, o0, k0, nc0, z0⟩ := d0
  obtain ⟨ua1, l1, m1, na1, g1, o1, k1, nc1, z1⟩ := d1
  have hk0 : k0 = m0.n := h0.len
  have hk1 : k1 = m1.n := h1.len
  subst hk0
  subst hk1
  have n0 : 1 ≤ m0.n ∧ m0.n ≤ 12 := h0.hi
  have n1 : 1 ≤ m1.n ∧ m1.n ≤ 12 := h1.hi
  have hu0 : ua0 = some ⟨l0.b, l0.o, none⟩ := (h0.sq.two (r := 0) (c := 0) n0.1 n0.1).1
  have hu1 : ua1 = some ⟨l1.b, l1.o, none⟩ := (h1.sq.two (r := 0) (c := 0) n1.1 n1.1).1
  have hv0 : na0 = some ⟨g0, o0, none⟩ := (h0.notAt (a := 0) n0.1).1
  have hv1 : na1 = some ⟨g1, o1, none⟩ := (h1.notAt (a := 0) n1.1).1
  subst hu0 hu1 hv0 hv1
  have hpos : 1 ≤ m0.n * m1.n := Nat.mul_pos n0.1 n1.1
  have hN12' : m0.n * m1.n ≤ 12 := hN12
  have L0 : logicB m0 m0.n z0 = true := h0.ok
  have L1 : logicB m1 m1.n z1 = true := h1.ok
  obtain ⟨N, hN⟩ : ∃ N, N = m0.n * m1.n := ⟨_, rfl⟩
  have eN : IntKind.i64.wrap ((m0.n : Int) * (m1.n : Int)) = (N : Int) := by rw [← Int.natCast_mul, ← hN]; exact IntWalk.i64_in _ (by omega)
  show Calls Try.prog 113 #[.agg #[.slice (some ⟨l0.b, l0.o, none⟩) m0.n l0.cap, .slice (some ⟨g0, o0, none⟩) m0.n nc0], .agg #[.slice (some ⟨l1.b, l1.o, none⟩) m1.n l1.cap, .slice (some ⟨g1, o1, none⟩) m1.n nc1]] w (MadeOk w (m0.n * m1.n) (timesZ m1.n m0.Z m1.Z) (timesY m1.n y0 y1) true)
  have HEN := Lib.hid hN
  rw [← hN] at hpos hN12' ⊢
  clear hN hN12
  have e12 : ¬ (12 : Int) < (N : Int) := by omega
  have xa := TwoAt.new w (.slice (some ⟨l0.b, l0.o, none⟩) m0.n l0.cap) (.slice (some ⟨g0, o0, none⟩) m0.n nc0) 26
  have ba := (Below.refl w.heap.size w).alloc (Nat.le_refl _) (.cells #[.slice (some ⟨l0.b, l0.o, none⟩) m0.n l0.cap, .slice (some ⟨g0, o0, none⟩) m0.n nc0] 26)
  have xb := TwoAt.new (w.alloc (.cells #[.slice (some ⟨l0.b, l0.o, none⟩) m0.n l0.cap, .slice (some ⟨g0, o0, none⟩) m0.n nc0] 26)) (.slice (some ⟨l1.b, l1.o, none⟩) m1.n l1.cap) (.slice (some ⟨g1, o1, none⟩) m1.n nc1) 26
  simp only [World.size_alloc] at xb
  have bb := (Below.refl (w.heap.size + 1) (w.alloc (.cells #[.slice (some ⟨l0.b, l0.o, none⟩) m0.n l0.cap, .slice (some ⟨g0, o0, none⟩) m0.n nc0] 26))).alloc (by simp) (.cells #[.slice (some ⟨l1.b, l1.o, none⟩) m1.n l1.cap, .slice (some ⟨g1, o1, none⟩) m1.n nc1] 26)
  have bc := (Below.refl (w.heap.size + 1 + 1) ((w.alloc (.cells #[.slice (some ⟨l0.b, l0.o, none⟩) m0.n l0.cap, .slice (some ⟨g0, o0, none⟩) m0.n nc0] 26)).alloc (.cells #[.slice (some ⟨l1.b, l1.o, none⟩) m1.n l1.cap, .slice (some ⟨g1, o1, none⟩) m1.n nc1] 26))).alloc (by simp) (.cells #[.slice none 0 0, .slice none 0 0] 26)
  have xr := TwoAt.new ((w.alloc (.cells #[.slice (some ⟨l0.b, l0.o, none⟩) m0.n l0.cap, .slice (some ⟨g0, o0, none⟩) m0.n nc0] 26)).alloc (.cells #[.slice (some ⟨l1.b, l1.o, none⟩) m1.n l1.cap, .slice (some ⟨g1, o1, none⟩) m1.n nc1] 26)) (.slice none 0 0) (.slice none 0 0) 26
  simp only [World.size_alloc] at xr
  replace xa := (xa.below bb (by omega)).below bc (by omega)
  replace xb := xb.below bc (by omega)
  have B0 := (ba.trans (bb.mono (by omega))).trans (bc.mono (by omega))
  have s0 : w.heap.size + 1 + 1 < (((w.alloc (.cells #[.slice (some ⟨l0.b, l0.o, none⟩) m0.n l0.cap, .slice (some ⟨g0, o0, none⟩) m0.n nc0] 26)).alloc (.cells #[.slice (some ⟨l1.b, l1.o, none⟩) m1.n l1.cap, .slice (some ⟨g1, o1, none⟩) m1.n nc1] 26)).alloc (.cells #[.slice none 0 0, .slice none 0 0] 26)).heap.size := by simp
  have HL0 := Lib.hid L0
  have HL1 := Lib.hid L1
  have H0 := Lib.hid h0
  have H1 := Lib.hid h1
  clear ba bb bc L0 L1 h0 h1
  go_enter Try.func113, Try.ntmps113
  have q0 := xa.c0
  have q1 := xa.c1
  have q2 := xb.c0
  have q3 := xb.c1
  go_wp2_with fail
  generalize ((w.alloc (.cells #[.slice (some ⟨l0.b, l0.o, none⟩) m0.n l0.cap, .slice (some ⟨g0, o0, none⟩) m0.n nc0] 26)).alloc (.cells #[.slice (some ⟨l1.b, l1.o, none⟩) m1.n l1.cap, .slice (some ⟨g1, o1, none⟩) m1.n nc1] 26)).alloc (.cells #[.slice none 0 0, .slice none 0 0] 26) = w2 at xa xb xr B0 s0 q0 q1 q2 q3 ⊢
  go_at_call 28
  refine (spec_LogicOk (H0.out.step B0).at_).mono ?_
  rintro e w3 ⟨rfl, b3⟩
  rw [show logicB _ _ _ = true from HL0.out]
  have s3 := b3.size
  have B3 := B0.trans (b3.mono B0.size)
  replace xa := xa.below b3 (by omega)
  replace xb := xb.below b3 (by omega)
  replace xr := xr.below b3 (by omega)
  clear q0 q1 q2 q3 B0
  have q2 := xb.c0
  have q3 := xb.c1
  go_wp2_with fail
  go_at_call 28
  refine (spec_LogicOk (H1.out.step B3).at_).mono ?_
  rintro e w4 ⟨rfl, b4⟩
  rw [show logicB _ _ _ = true from HL1.out]
  have s4 := b4.size
  have B4 := B3.trans (b4.mono B3.size)
  have bl := (Below.refl w4.heap.size w4).alloc (Nat.le_refl _) (.cells #[.slice none 0 0, .slice none 0 0] 26)
  have hX0 : BoxT w (.slice (some ⟨l0.b, l0.o, none⟩) m0.n l0.cap) (.slice (some ⟨g0, o0, none⟩) m0.n nc0) (.slice (some ⟨l1.b, l1.o, none⟩) m1.n l1.cap) (.slice (some ⟨g1, o1, none⟩) m1.n nc1) w4.heap.size (w4.alloc (.cells #[.slice none 0 0, .slice none 0 0] 26)) :=
    ⟨(xa.below b4 (by omega)).below bl (by omega), (xb.below b4 (by omega)).below bl (by omega), ⟨(xr.below b4 (by omega)).below bl (by omega), B4.trans (bl.mono B4.size), by omega, by omega, by simp⟩⟩
  have hM0 := MakeAt.begin (N := N) (base := w4.heap.size + 1) (timesZ m1.n m0.Z m1.Z) (fun c => (timesY m1.n y0 y1 c : Int)) (by omega) (TwoAt.new w4 (.slice none 0 0) (.slice none 0 0) 26)
  clear q2 q3 xa xb xr B3 b3 b4
  obtain ⟨P0, hP0⟩ : ∃ P0, P0 = w4.heap.size := ⟨_, rfl⟩
  rw [← hP0] at hX0 hM0
  go_wp2_with fail
  rw [← hP0]
  generalize w4.alloc (.cells #[.slice none 0 0, .slice none 0 0] 26) = w5 at hX0 hM0 ⊢
  clear hP0 bl B4 s4 s3 s0
  go_loopw [9] (fun i wr => ∃ (k : Nat) (u t : Value) (rv : Nat → Value), k ≤ N ∧ i = .int .i64 k ∧ BoxT w (.slice (some ⟨l0.b, l0.o, none⟩) m0.n l0.cap) (.slice (some ⟨g0, o0, none⟩) m0.n nc0) (.slice (some ⟨l1.b, l1.o, none⟩) m1.n l1.cap) (.slice (some ⟨g1, o1, none⟩) m1.n nc1) P0 wr ∧ MakeAt wr P0 (P0 + 1) u t k k N rv (timesZ m1.n m0.Z m1.Z) (fun c => (timesY m1.n y0 y1 c : Int))) (fun i _ => N - (intOf i).toNat)
  case atStart => exact ⟨0, _, _, _, Nat.zero_le _, rfl, hX0, hM0⟩
  case round =>
    clear hX0 hM0
    obtain ⟨k, u, t, rv, hk, rfl, hX, hM⟩ := hrel
    have hS := hX.s.size
    have hlp := hX.s.lt
    by_cases hlt : k < N
    · have hlt' : (k : Int) < (N : Int) := by omega
      obtain ⟨qk, rk, hqk, hrk, lqk, lrk, ek1, ek2⟩ := divs (x := k) (n := m1.n) (N0 := m0.n) n1.1 (by rw [← HEN.out]; exact hlt) (by rw [← HEN.out]; omega)
      have HQK := Lib.hid (And.intro hqk hrk)
      obtain ⟨wo, rfl⟩ : ∃ wo : World, wo = wr := ⟨_, rfl⟩
      have hrow0 : IntsAt (wo.alloc (.cells #[] 3)) wo.heap.size (.slice (some ⟨wo.heap.size, 0, none⟩) 0 0) 0 (timesZ m1.n m0.Z m1.Z k) := World.ownsRow_lit (base := wo.heap.size) (e := 3) (size := 1) wo #[] 0 (Nat.le_refl _) (Nat.zero_le _) rfl
      have hbr := (Below.refl wo.heap.size wo).alloc (Nat.le_refl _) (.cells #[] 3)
      clear hqk hrk
      go_wp2_with fail
      go_loopw [10, 11] (fun t i wi => ∃ j : Nat, j ≤ N ∧ i = .int .i64 j ∧ IntsAt wi wo.heap.size t j (timesZ m1.n m0.Z m1.Z k) ∧ Below wo.heap.size wo wi) (fun _ i _ => N - (intOf i).toNat)
      case atStart => exact ⟨0, Nat.zero_le _, rfl, hrow0, hbr⟩
      case round =>
        clear hrow0 hbr
        obtain ⟨j, hj, rfl, hown, hWi⟩ := hrel
        have hws := hWi.size
        by_cases hjt : j < N
        · have hjt' : (j : Int) < (N : Int) := by omega
          obtain ⟨qj, rj, hqj, hrj, lqj, lrj, ej1, ej2⟩ := divs (x := j) (n := m1.n) (N0 := m0.n) n1.1 (by rw [← HEN.out]; exact hjt) (by rw [← HEN.out]; omega)
          have HTZ : Hid (timesZ m1.n m0.Z m1.Z k j = m0.Z qk qj * m1.Z rk rj) := by show _ = _; unfold timesZ; rw [HQK.out.1, HQK.out.2, hqj, hrj]
          have I0 := H0.out.step hX.s.old
          have I1 := H1.out.step hX.s.old
          have hmu := muls (I0.orth.lat.order.sq.bit qk lqk qj lqj) (I1.orth.lat.order.sq.bit rk lrk rj lrj)
          have em : IntKind.i64.wrap (m0.Z qk qj * m1.Z rk rj) = m0.Z qk qj * m1.Z rk rj := hmu.1
          have f0 := hX.a.c0
          have f1 := hX.b.c0
          have f2 : wo.cell? ⟨l0.b, l0.o + qk, none⟩ = some (.slice (some ⟨l0.G qk, l0.O qk, none⟩) m0.n (l0.C qk)) := (I0.sq.two lqk lqj).2.1
          have f3 : wo.cell? ⟨l0.G qk, l0.O qk + qj, none⟩ = some (.int .i64 (m0.Z qk qj)) := (I0.sq.two lqk lqj).2.2
          have f4 : wo.cell? ⟨l1.b, l1.o + rk, none⟩ = some (.slice (some ⟨l1.G rk, l1.O rk, none⟩) m1.n (l1.C rk)) := (I1.sq.two lrk lrj).2.1
          have f5 : wo.cell? ⟨l1.G rk, l1.O rk + rj, none⟩ = some (.int .i64 (m1.Z rk rj)) := (I1.sq.two lrk lrj).2.2
          have fl0 := World.block_lt_of_cell? wo _ f0
          have fl1 := World.block_lt_of_cell? wo _ f1
          have fl2 := World.block_lt_of_cell? wo _ f2
          have fl3 := World.block_lt_of_cell? wo _ f3
          have fl4 := World.block_lt_of_cell? wo _ f4
          have fl5 := World.block_lt_of_cell? wo _ f5
          have hnz : ¬ m1.n = 0 := by omega
          have c1 : (qk : Int) < (m0.n : Int) := by omega
          have c2 : (qj : Int) < (m0.n : Int) := by omega
          have c3 : (rk : Int) < (m1.n : Int) := by omega
          have c4 : (rj : Int) < (m1.n : Int) := by omega
          have hT1 : ∀ o, ((wr.drew).alloc o).ownsRow wo.heap.size 3 1 u10 j ((List.range j).map fun c => .int .i64 (timesZ m1.n m0.Z m1.Z k c)) := fun o => ((Chg.drew (fun _ => False) wr).trans (Chg.alloc _ _ o)).own hown (fun _ _ h => h)
          have hW1 : ∀ o, Below wo.heap.size wo ((wr.drew).alloc o) := fun o => (hWi.drew).alloc (by simpa using hws) o
          have htb := Lib.hid (ownsRow_block hown)
          have ma1 := Lib.hid (show j + 1 ≤ maxLen by unfold maxLen; omega)
          have ma2 := Lib.hid (show (j + 1) * 8 ≤ 140737488355328 by omega)
          have ma3 := Lib.hid (show ∀ o, wo.heap.size ≤ ((wr.drew).alloc o).heap.size from fun o => by simp; omega)
          have ma4 := Lib.hid (show ∀ x : Int, ∀ u ∈ [Value.int .i64 x], u.oneCell' = true from fun x => by simp [Value.oneCell'])
          have HX := Lib.hid hX
          have HM := Lib.hid hM
          have K0 := hWi.drew
          clear hqj hrj I0 I1 hmu hX hM hown
          go_wp2_with fail
          refine region_plain (fuel := 29) (listed := #[false, false, false, false, false, false, false, false, false, false, false, false, false, false, false, false, false, false, false, false, false, false, false, false, false, false, false, false, false]) (fun W' => Below wo.heap.size wo W') (by kernel_rfl) (by kernel_rfl) (by kernel_rfl) ?_
          refine hold_take (i := 0) (d := 49) (v := ?va0) (listed' := #[true, false, false, false, false, false, false, false, false, false, false, false, false, false, false, false, false, false, false, false, false, false, false, false, false, false, false, false, false]) rfl (by kernel_rfl) (by kernel_rfl) (by kernel_rfl) rfl (by rfl) (by kernel_rfl) K0 ?ha0 ?ra0
          case ha0 =>
            intro w' hSw
            have hSb : Below wo.heap.size wo w' := hSw; have x0 := (hSb.cell (p := ⟨w.heap.size, 0, none⟩) fl0).trans f0; have x1 := (hSb.cell (p := ⟨w.heap.size + 1, 0, none⟩) fl1).trans f1; have x2 := (hSb.cell (p := ⟨l0.b, l0.o + qk, none⟩) fl2).trans f2; have x3 := (hSb.cell (p := ⟨l0.G qk, l0.O qk + qj, none⟩) fl3).trans f3; have x4 := (hSb.cell (p := ⟨l1.b, l1.o + rk, none⟩) fl4).trans f4; have x5 := (hSb.cell (p := ⟨l1.G rk, l1.O rk + rj, none⟩) fl5).trans f5
            go_simp
            try with_reducible rfl
          simp only [List.setIfInBounds_toArray, List.set_cons_zero, List.set_cons_succ]
          refine hold_take (i := 1) (d := 50) (v := ?va1) (listed' := #[true, true, false, false, false, false, false, false, false, false, false, false, false, false, false, false, false, false, false, false, false, false, false, false, false, false, false, false, false]) rfl (by kernel_rfl) (by kernel_rfl) (by kernel_rfl) rfl (by rfl) (by kernel_rfl) K0 ?ha1 ?ra1
          case ha1 =>
            intro w' hSw
            have hSb : Below wo.heap.size wo w' := hSw; have x0 := (hSb.cell (p := ⟨w.heap.size, 0, none⟩) fl0).trans f0; have x1 := (hSb.cell (p := ⟨w.heap.size + 1, 0, none⟩) fl1).trans f1; have x2 := (hSb.cell (p := ⟨l0.b, l0.o + qk, none⟩) fl2).trans f2; have x3 := (hSb.cell (p := ⟨l0.G qk, l0.O qk + qj, none⟩) fl3).trans f3; have x4 := (hSb.cell (p := ⟨l1.b, l1.o + rk, none⟩) fl4).trans f4; have x5 := (hSb.cell (p := ⟨l1.G rk, l1.O rk + rj, none⟩) fl5).trans f5
            go_simp
            try with_reducible rfl
          simp only [List.setIfInBounds_toArray, List.set_cons_zero, List.set_cons_succ]
          refine hold_take (i := 2) (d := 51) (v := ?va2) (listed' := #[true, true, true, false, false, false, false, false, false, false, false, false, false, false, false, false, false, false, false, false, false, false, false, false, false, false, false, false, false]) rfl (by kernel_rfl) (by kernel_rfl) (by kernel_rfl) rfl (by rfl) (by kernel_rfl) K0 ?ha2 ?ra2
          case ha2 =>
            intro w' hSw
            have hSb : Below wo.heap.size wo w' := hSw; have x0 := (hSb.cell (p := ⟨w.heap.size, 0, none⟩) fl0).trans f0; have x1 := (hSb.cell (p := ⟨w.heap.size + 1, 0, none⟩) fl1).trans f1; have x2 := (hSb.cell (p := ⟨l0.b, l0.o + qk, none⟩) fl2).trans f2; have x3 := (hSb.cell (p := ⟨l0.G qk, l0.O qk + qj, none⟩) fl3).trans f3; have x4 := (hSb.cell (p := ⟨l1.b, l1.o + rk, none⟩) fl4).trans f4; have x5 := (hSb.cell (p := ⟨l1.G rk, l1.O rk + rj, none⟩) fl5).trans f5
            go_simp
            try with_reducible rfl
          simp only [List.setIfInBounds_toArray, List.set_cons_zero, List.set_cons_succ]
          refine hold_take (i := 3) (d := 52) (v := ?va3) (listed' := #[true, true, true, true, false, false, false, false, false, false, false, false, false, false, false, false, false, false, false, false, false, false, false, false, false, false, false, false, false]) rfl (by kernel_rfl) (by kernel_rfl) (by kernel_rfl) rfl (by rfl) (by kernel_rfl) K0 ?ha3 ?ra3
          case ha3 =>
            intro w' hSw
            have hSb : Below wo.heap.size wo w' := hSw; have x0 := (hSb.cell (p := ⟨w.heap.size, 0, none⟩) fl0).trans f0; have x1 := (hSb.cell (p := ⟨w.heap.size + 1, 0, none⟩) fl1).trans f1; have x2 := (hSb.cell (p := ⟨l0.b, l0.o + qk, none⟩) fl2).trans f2; have x3 := (hSb.cell (p := ⟨l0.G qk, l0.O qk + qj, none⟩) fl3).trans f3; have x4 := (hSb.cell (p := ⟨l1.b, l1.o + rk, none⟩) fl4).trans f4; have x5 := (hSb.cell (p := ⟨l1.G rk, l1.O rk + rj, none⟩) fl5).trans f5
            go_simp
            try with_reducible rfl
          simp only [List.setIfInBounds_toArray, List.set_cons_zero, List.set_cons_succ]
          refine hold_take (i := 4) (d := 53) (v := ?va4) (listed' := #[true, true, true, true, true, false, false, false, false, false, false, false, false, false, false, false, false, false, false, false, false, false, false, false, false, false, false, false, false]) rfl (by kernel_rfl) (by kernel_rfl) (by kernel_rfl) rfl (by rfl) (by kernel_rfl) K0 ?ha4 ?ra4
          case ha4 =>
            intro w' hSw
            have hSb : Below wo.heap.size wo w' := hSw; have x0 := (hSb.cell (p := ⟨w.heap.size, 0, none⟩) fl0).trans f0; have x1 := (hSb.cell (p := ⟨w.heap.size + 1, 0, none⟩) fl1).trans f1; have x2 := (hSb.cell (p := ⟨l0.b, l0.o + qk, none⟩) fl2).trans f2; have x3 := (hSb.cell (p := ⟨l0.G qk, l0.O qk + qj, none⟩) fl3).trans f3; have x4 := (hSb.cell (p := ⟨l1.b, l1.o + rk, none⟩) fl4).trans f4; have x5 := (hSb.cell (p := ⟨l1.G rk, l1.O rk + rj, none⟩) fl5).trans f5
            go_simp
            try with_reducible rfl
          simp only [List.setIfInBounds_toArray, List.set_cons_zero, List.set_cons_succ]
          refine hold_take (i := 5) (d := 54) (v := ?va5) (listed' := #[true, true, true, true, true, true, false, false, false, false, false, false, false, false, false, false, false, false, false, false, false, false, false, false, false, false, false, false, false]) rfl (by kernel_rfl) (by kernel_rfl) (by kernel_rfl) rfl (by rfl) (by kernel_rfl) K0 ?ha5 ?ra5
          case ha5 =>
            intro w' hSw
            have hSb : Below wo.heap.size wo w' := hSw; have x0 := (hSb.cell (p := ⟨w.heap.size, 0, none⟩) fl0).trans f0; have x1 := (hSb.cell (p := ⟨w.heap.size + 1, 0, none⟩) fl1).trans f1; have x2 := (hSb.cell (p := ⟨l0.b, l0.o + qk, none⟩) fl2).trans f2; have x3 := (hSb.cell (p := ⟨l0.G qk, l0.O qk + qj, none⟩) fl3).trans f3; have x4 := (hSb.cell (p := ⟨l1.b, l1.o + rk, none⟩) fl4).trans f4; have x5 := (hSb.cell (p := ⟨l1.G rk, l1.O rk + rj, none⟩) fl5).trans f5
            go_simp
            try with_reducible rfl
          simp only [List.setIfInBounds_toArray, List.set_cons_zero, List.set_cons_succ]
          refine hold_take (i := 6) (d := 55) (v := ?va6) (listed' := #[true, true, true, true, true, true, true, false, false, false, false, false, false, false, false, false, false, false, false, false, false, false, false, false, false, false, false, false, false]) rfl (by kernel_rfl) (by kernel_rfl) (by kernel_rfl) rfl (by rfl) (by kernel_rfl) K0 ?ha6 ?ra6
          case ha6 =>
            intro w' hSw
            have hSb : Below wo.heap.size wo w' := hSw; have x0 := (hSb.cell (p := ⟨w.heap.size, 0, none⟩) fl0).trans f0; have x1 := (hSb.cell (p := ⟨w.heap.size + 1, 0, none⟩) fl1).trans f1; have x2 := (hSb.cell (p := ⟨l0.b, l0.o + qk, none⟩) fl2).trans f2; have x3 := (hSb.cell (p := ⟨l0.G qk, l0.O qk + qj, none⟩) fl3).trans f3; have x4 := (hSb.cell (p := ⟨l1.b, l1.o + rk, none⟩) fl4).trans f4; have x5 := (hSb.cell (p := ⟨l1.G rk, l1.O rk + rj, none⟩) fl5).trans f5
            go_simp
            try with_reducible rfl
          simp only [List.setIfInBounds_toArray, List.set_cons_zero, List.set_cons_succ]
          refine hold_take (i := 7) (d := 56) (v := ?va7) (listed' := #[true, true, true, true, true, true, true, true, false, false, false, false, false, false, false, false, false, false, false, false, false, false, false, false, false, false, false, false, false]) rfl (by kernel_rfl) (by kernel_rfl) (by kernel_rfl) rfl (by rfl) (by kernel_rfl) K0 ?ha7 ?ra7
          case ha7 =>
            intro w' hSw
            have hSb : Below wo.heap.size wo w' := hSw; have x0 := (hSb.cell (p := ⟨w.heap.size, 0, none⟩) fl0).trans f0; have x1 := (hSb.cell (p := ⟨w.heap.size + 1, 0, none⟩) fl1).trans f1; have x2 := (hSb.cell (p := ⟨l0.b, l0.o + qk, none⟩) fl2).trans f2; have x3 := (hSb.cell (p := ⟨l0.G qk, l0.O qk + qj, none⟩) fl3).trans f3; have x4 := (hSb.cell (p := ⟨l1.b, l1.o + rk, none⟩) fl4).trans f4; have x5 := (hSb.cell (p := ⟨l1.G rk, l1.O rk + rj, none⟩) fl5).trans f5
            go_simp
            try with_reducible rfl
          simp only [List.setIfInBounds_toArray, List.set_cons_zero, List.set_cons_succ]
          refine hold_take (i := 8) (d := 57) (v := ?va8) (listed' := #[true, true, true, true, true, true, true, true, true, false, false, false, false, false, false, false, false, false, false, false, false, false, false, false, false, false, false, false, false]) rfl (by kernel_rfl) (by kernel_rfl) (by kernel_rfl) rfl (by rfl) (by kernel_rfl) K0 ?ha8 ?ra8
          case ha8 =>
            intro w' hSw
            have hSb : Below wo.heap.size wo w' := hSw; have x0 := (hSb.cell (p := ⟨w.heap.size, 0, none⟩) fl0).trans f0; have x1 := (hSb.cell (p := ⟨w.heap.size + 1, 0, none⟩) fl1).trans f1; have x2 := (hSb.cell (p := ⟨l0.b, l0.o + qk, none⟩) fl2).trans f2; have x3 := (hSb.cell (p := ⟨l0.G qk, l0.O qk + qj, none⟩) fl3).trans f3; have x4 := (hSb.cell (p := ⟨l1.b, l1.o + rk, none⟩) fl4).trans f4; have x5 := (hSb.cell (p := ⟨l1.G rk, l1.O rk + rj, none⟩) fl5).trans f5
            go_simp
            try with_reducible rfl
          simp only [List.setIfInBounds_toArray, List.set_cons_zero, List.set_cons_succ]
          refine hold_take (i := 9) (d := 58) (v := ?va9) (listed' := #[true, true, true, true, true, true, true, true, true, true, false, false, false, false, false, false, false, false, false, false, false, false, false, false, false, false, false, false, false]) rfl (by kernel_rfl) (by kernel_rfl) (by kernel_rfl) rfl (by rfl) (by kernel_rfl) K0 ?ha9 ?ra9
          case ha9 =>
            intro w' hSw
            have hSb : Below wo.heap.size wo w' := hSw; have x0 := (hSb.cell (p := ⟨w.heap.size, 0, none⟩) fl0).trans f0; have x1 := (hSb.cell (p := ⟨w.heap.size + 1, 0, none⟩) fl1).trans f1; have x2 := (hSb.cell (p := ⟨l0.b, l0.o + qk, none⟩) fl2).trans f2; have x3 := (hSb.cell (p := ⟨l0.G qk, l0.O qk + qj, none⟩) fl3).trans f3; have x4 := (hSb.cell (p := ⟨l1.b, l1.o + rk, none⟩) fl4).trans f4; have x5 := (hSb.cell (p := ⟨l1.G rk, l1.O rk + rj, none⟩) fl5).trans f5
            go_simp
            try with_reducible rfl
          simp only [List.setIfInBounds_toArray, List.set_cons_zero, List.set_cons_succ]
          refine hold_take (i := 10) (d := 59) (v := ?va10) (listed' := #[true, true, true, true, true, true, true, true, true, true, true, false, false, false, false, false, false, false, false, false, false, false, false, false, false, false, false, false, false]) rfl (by kernel_rfl) (by kernel_rfl) (by kernel_rfl) rfl (by rfl) (by kernel_rfl) K0 ?ha10 ?ra10
          case ha10 =>
            intro w' hSw
            have hSb : Below wo.heap.size wo w' := hSw; have x0 := (hSb.cell (p := ⟨w.heap.size, 0, none⟩) fl0).trans f0; have x1 := (hSb.cell (p := ⟨w.heap.size + 1, 0, none⟩) fl1).trans f1; have x2 := (hSb.cell (p := ⟨l0.b, l0.o + qk, none⟩) fl2).trans f2; have x3 := (hSb.cell (p := ⟨l0.G qk, l0.O qk + qj, none⟩) fl3).trans f3; have x4 := (hSb.cell (p := ⟨l1.b, l1.o + rk, none⟩) fl4).trans f4; have x5 := (hSb.cell (p := ⟨l1.G rk, l1.O rk + rj, none⟩) fl5).trans f5
            go_simp
            try with_reducible rfl
          simp only [List.setIfInBounds_toArray, List.set_cons_zero, List.set_cons_succ]
          refine hold_take (i := 11) (d := 60) (v := ?va11) (listed' := #[true, true, true, true, true, true, true, true, true, true, true, true, false, false, false, false, false, false, false, false, false, false, false, false, false, false, false, false, false]) rfl (by kernel_rfl) (by kernel_rfl) (by kernel_rfl) rfl (by rfl) (by kernel_rfl) K0 ?ha11 ?ra11
          case ha11 =>
            intro w' hSw
            have hSb : Below wo.heap.size wo w' := hSw; have x0 := (hSb.cell (p := ⟨w.heap.size, 0, none⟩) fl0).trans f0; have x1 := (hSb.cell (p := ⟨w.heap.size + 1, 0, none⟩) fl1).trans f1; have x2 := (hSb.cell (p := ⟨l0.b, l0.o + qk, none⟩) fl2).trans f2; have x3 := (hSb.cell (p := ⟨l0.G qk, l0.O qk + qj, none⟩) fl3).trans f3; have x4 := (hSb.cell (p := ⟨l1.b, l1.o + rk, none⟩) fl4).trans f4; have x5 := (hSb.cell (p := ⟨l1.G rk, l1.O rk + rj, none⟩) fl5).trans f5
            go_simp
            try with_reducible rfl
          simp only [List.setIfInBounds_toArray, List.set_cons_zero, List.set_cons_succ]
          refine hold_take (i := 12) (d := 61) (v := ?va12) (listed' := #[true, true, true, true, true, true, true, true, true, true, true, true, true, false, false, false, false, false, false, false, false, false, false, false, false, false, false, false, false]) rfl (by kernel_rfl) (by kernel_rfl) (by kernel_rfl) rfl (by rfl) (by kernel_rfl) K0 ?ha12 ?ra12
          case ha12 =>
            intro w' hSw
            have hSb : Below wo.heap.size wo w' := hSw; have x0 := (hSb.cell (p := ⟨w.heap.size, 0, none⟩) fl0).trans f0; have x1 := (hSb.cell (p := ⟨w.heap.size + 1, 0, none⟩) fl1).trans f1; have x2 := (hSb.cell (p := ⟨l0.b, l0.o + qk, none⟩) fl2).trans f2; have x3 := (hSb.cell (p := ⟨l0.G qk, l0.O qk + qj, none⟩) fl3).trans f3; have x4 := (hSb.cell (p := ⟨l1.b, l1.o + rk, none⟩) fl4).trans f4; have x5 := (hSb.cell (p := ⟨l1.G rk, l1.O rk + rj, none⟩) fl5).trans f5
            go_simp
            try with_reducible rfl
          simp only [List.setIfInBounds_toArray, List.set_cons_zero, List.set_cons_succ]
          refine hold_take (i := 13) (d := 62) (v := ?va13) (listed' := #[true, true, true, true, true, true, true, true, true, true, true, true, true, true, false, false, false, false, false, false, false, false, false, false, false, false, false, false, false]) rfl (by kernel_rfl) (by kernel_rfl) (by kernel_rfl) rfl (by rfl) (by kernel_rfl) K0 ?ha13 ?ra13
          case ha13 =>
            intro w' hSw
            have hSb : Below wo.heap.size wo w' := hSw; have x0 := (hSb.cell (p := ⟨w.heap.size, 0, none⟩) fl0).trans f0; have x1 := (hSb.cell (p := ⟨w.heap.size + 1, 0, none⟩) fl1).trans f1; have x2 := (hSb.cell (p := ⟨l0.b, l0.o + qk, none⟩) fl2).trans f2; have x3 := (hSb.cell (p := ⟨l0.G qk, l0.O qk + qj, none⟩) fl3).trans f3; have x4 := (hSb.cell (p := ⟨l1.b, l1.o + rk, none⟩) fl4).trans f4; have x5 := (hSb.cell (p := ⟨l1.G rk, l1.O rk + rj, none⟩) fl5).trans f5
            go_simp
            try with_reducible rfl
          simp only [List.setIfInBounds_toArray, List.set_cons_zero, List.set_cons_succ]
          refine hold_take (i := 14) (d := 63) (v := ?va14) (listed' := #[true, true, true, true, true, true, true, true, true, true, true, true, true, true, true, false, false, false, false, false, false, false, false, false, false, false, false, false, false]) rfl (by kernel_rfl) (by kernel_rfl) (by kernel_rfl) rfl (by rfl) (by kernel_rfl) K0 ?ha14 ?ra14
          case ha14 =>
            intro w' hSw
            have hSb : Below wo.heap.size wo w' := hSw; have x0 := (hSb.cell (p := ⟨w.heap.size, 0, none⟩) fl0).trans f0; have x1 := (hSb.cell (p := ⟨w.heap.size + 1, 0, none⟩) fl1).trans f1; have x2 := (hSb.cell (p := ⟨l0.b, l0.o + qk, none⟩) fl2).trans f2; have x3 := (hSb.cell (p := ⟨l0.G qk, l0.O qk + qj, none⟩) fl3).trans f3; have x4 := (hSb.cell (p := ⟨l1.b, l1.o + rk, none⟩) fl4).trans f4; have x5 := (hSb.cell (p := ⟨l1.G rk, l1.O rk + rj, none⟩) fl5).trans f5
            go_simp
            try with_reducible rfl
          simp only [List.setIfInBounds_toArray, List.set_cons_zero, List.set_cons_succ]
          refine hold_take (i := 15) (d := 64) (v := ?va15) (listed' := #[true, true, true, true, true, true, true, true, true, true, true, true, true, true, true, true, false, false, false, false, false, false, false, false, false, false, false, false, false]) rfl (by kernel_rfl) (by kernel_rfl) (by kernel_rfl) rfl (by rfl) (by kernel_rfl) K0 ?ha15 ?ra15
          case ha15 =>
            intro w' hSw
            have hSb : Below wo.heap.size wo w' := hSw; have x0 := (hSb.cell (p := ⟨w.heap.size, 0, none⟩) fl0).trans f0; have x1 := (hSb.cell (p := ⟨w.heap.size + 1, 0, none⟩) fl1).trans f1; have x2 := (hSb.cell (p := ⟨l0.b, l0.o + qk, none⟩) fl2).trans f2; have x3 := (hSb.cell (p := ⟨l0.G qk, l0.O qk + qj, none⟩) fl3).trans f3; have x4 := (hSb.cell (p := ⟨l1.b, l1.o + rk, none⟩) fl4).trans f4; have x5 := (hSb.cell (p := ⟨l1.G rk, l1.O rk + rj, none⟩) fl5).trans f5
            go_simp
            try with_reducible rfl
          simp only [List.setIfInBounds_toArray, List.set_cons_zero, List.set_cons_succ]
          refine hold_take (i := 16) (d := 65) (v := ?va16) (listed' := #[true, true, true, true, true, true, true, true, true, true, true, true, true, true, true, true, true, false, false, false, false, false, false, false, false, false, false, false, false]) rfl (by kernel_rfl) (by kernel_rfl) (by kernel_rfl) rfl (by rfl) (by kernel_rfl) K0 ?ha16 ?ra16
          case ha16 =>
            intro w' hSw
            have hSb : Below wo.heap.size wo w' := hSw; have x0 := (hSb.cell (p := ⟨w.heap.size, 0, none⟩) fl0).trans f0; have x1 := (hSb.cell (p := ⟨w.heap.size + 1, 0, none⟩) fl1).trans f1; have x2 := (hSb.cell (p := ⟨l0.b, l0.o + qk, none⟩) fl2).trans f2; have x3 := (hSb.cell (p := ⟨l0.G qk, l0.O qk + qj, none⟩) fl3).trans f3; have x4 := (hSb.cell (p := ⟨l1.b, l1.o + rk, none⟩) fl4).trans f4; have x5 := (hSb.cell (p := ⟨l1.G rk, l1.O rk + rj, none⟩) fl5).trans f5
            go_simp
            try with_reducible rfl
          simp only [List.setIfInBounds_toArray, List.set_cons_zero, List.set_cons_succ]
          refine hold_take (i := 17) (d := 66) (v := ?va17) (listed' := #[true, true, true, true, true, true, true, true, true, true, true, true, true, true, true, true, true, true, false, false, false, false, false, false, false, false, false, false, false]) rfl (by kernel_rfl) (by kernel_rfl) (by kernel_rfl) rfl (by rfl) (by kernel_rfl) K0 ?ha17 ?ra17
          case ha17 =>
            intro w' hSw
            have hSb : Below wo.heap.size wo w' := hSw; have x0 := (hSb.cell (p := ⟨w.heap.size, 0, none⟩) fl0).trans f0; have x1 := (hSb.cell (p := ⟨w.heap.size + 1, 0, none⟩) fl1).trans f1; have x2 := (hSb.cell (p := ⟨l0.b, l0.o + qk, none⟩) fl2).trans f2; have x3 := (hSb.cell (p := ⟨l0.G qk, l0.O qk + qj, none⟩) fl3).trans f3; have x4 := (hSb.cell (p := ⟨l1.b, l1.o + rk, none⟩) fl4).trans f4; have x5 := (hSb.cell (p := ⟨l1.G rk, l1.O rk + rj, none⟩) fl5).trans f5
            go_simp
            try with_reducible rfl
          simp only [List.setIfInBounds_toArray, List.set_cons_zero, List.set_cons_succ]
          refine hold_take (i := 18) (d := 67) (v := ?va18) (listed' := #[true, true, true, true, true, true, true, true, true, true, true, true, true, true, true, true, true, true, true, false, false, false, false, false, false, false, false, false, false]) rfl (by kernel_rfl) (by kernel_rfl) (by kernel_rfl) rfl (by rfl) (by kernel_rfl) K0 ?ha18 ?ra18
          case ha18 =>
            intro w' hSw
            have hSb : Below wo.heap.size wo w' := hSw; have x0 := (hSb.cell (p := ⟨w.heap.size, 0, none⟩) fl0).trans f0; have x1 := (hSb.cell (p := ⟨w.heap.size + 1, 0, none⟩) fl1).trans f1; have x2 := (hSb.cell (p := ⟨l0.b, l0.o + qk, none⟩) fl2).trans f2; have x3 := (hSb.cell (p := ⟨l0.G qk, l0.O qk + qj, none⟩) fl3).trans f3; have x4 := (hSb.cell (p := ⟨l1.b, l1.o + rk, none⟩) fl4).trans f4; have x5 := (hSb.cell (p := ⟨l1.G rk, l1.O rk + rj, none⟩) fl5).trans f5
            go_simp
            try with_reducible rfl
          simp only [List.setIfInBounds_toArray, List.set_cons_zero, List.set_cons_succ]
          refine hold_take (i := 19) (d := 68) (v := ?va19) (listed' := #[true, true, true, true, true, true, true, true, true, true, true, true, true, true, true, true, true, true, true, true, false, false, false, false, false, false, false, false, false]) rfl (by kernel_rfl) (by kernel_rfl) (by kernel_rfl) rfl (by rfl) (by kernel_rfl) K0 ?ha19 ?ra19
          case ha19 =>
            intro w' hSw
            have hSb : Below wo.heap.size wo w' := hSw; have x0 := (hSb.cell (p := ⟨w.heap.size, 0, none⟩) fl0).trans f0; have x1 := (hSb.cell (p := ⟨w.heap.size + 1, 0, none⟩) fl1).trans f1; have x2 := (hSb.cell (p := ⟨l0.b, l0.o + qk, none⟩) fl2).trans f2; have x3 := (hSb.cell (p := ⟨l0.G qk, l0.O qk + qj, none⟩) fl3).trans f3; have x4 := (hSb.cell (p := ⟨l1.b, l1.o + rk, none⟩) fl4).trans f4; have x5 := (hSb.cell (p := ⟨l1.G rk, l1.O rk + rj, none⟩) fl5).trans f5
            go_simp
            try with_reducible rfl
          simp only [List.setIfInBounds_toArray, List.set_cons_zero, List.set_cons_succ]
          refine hold_take (i := 20) (d := 69) (v := ?va20) (listed' := #[true, true, true, true, true, true, true, true, true, true, true, true, true, true, true, true, true, true, true, true, true, false, false, false, false, false, false, false, false]) rfl (by kernel_rfl) (by kernel_rfl) (by kernel_rfl) rfl (by rfl) (by kernel_rfl) K0 ?ha20 ?ra20
          case ha20 =>
            intro w' hSw
            have hSb : Below wo.heap.size wo w' := hSw; have x0 := (hSb.cell (p := ⟨w.heap.size, 0, none⟩) fl0).trans f0; have x1 := (hSb.cell (p := ⟨w.heap.size + 1, 0, none⟩) fl1).trans f1; have x2 := (hSb.cell (p := ⟨l0.b, l0.o + qk, none⟩) fl2).trans f2; have x3 := (hSb.cell (p := ⟨l0.G qk, l0.O qk + qj, none⟩) fl3).trans f3; have x4 := (hSb.cell (p := ⟨l1.b, l1.o + rk, none⟩) fl4).trans f4; have x5 := (hSb.cell (p := ⟨l1.G rk, l1.O rk + rj, none⟩) fl5).trans f5
            go_simp
            try with_reducible rfl
          simp only [List.setIfInBounds_toArray, List.set_cons_zero, List.set_cons_succ]
          refine hold_take (i := 21) (d := 70) (v := ?va21) (listed' := #[true, true, true, true, true, true, true, true, true, true, true, true, true, true, true, true, true, true, true, true, true, true, false, false, false, false, false, false, false]) rfl (by kernel_rfl) (by kernel_rfl) (by kernel_rfl) rfl (by rfl) (by kernel_rfl) K0 ?ha21 ?ra21
          case ha21 =>
            intro w' hSw
            have hSb : Below wo.heap.size wo w' := hSw; have x0 := (hSb.cell (p := ⟨w.heap.size, 0, none⟩) fl0).trans f0; have x1 := (hSb.cell (p := ⟨w.heap.size + 1, 0, none⟩) fl1).trans f1; have x2 := (hSb.cell (p := ⟨l0.b, l0.o + qk, none⟩) fl2).trans f2; have x3 := (hSb.cell (p := ⟨l0.G qk, l0.O qk + qj, none⟩) fl3).trans f3; have x4 := (hSb.cell (p := ⟨l1.b, l1.o + rk, none⟩) fl4).trans f4; have x5 := (hSb.cell (p := ⟨l1.G rk, l1.O rk + rj, none⟩) fl5).trans f5
            go_simp
            try with_reducible rfl
          simp only [List.setIfInBounds_toArray, List.set_cons_zero, List.set_cons_succ]
          refine hold_take (i := 22) (d := 71) (v := ?va22) (listed' := #[true, true, true, true, true, true, true, true, true, true, true, true, true, true, true, true, true, true, true, true, true, true, true, false, false, false, false, false, false]) rfl (by kernel_rfl) (by kernel_rfl) (by kernel_rfl) rfl (by rfl) (by kernel_rfl) K0 ?ha22 ?ra22
          case ha22 =>
            intro w' hSw
            have hSb : Below wo.heap.size wo w' := hSw; have x0 := (hSb.cell (p := ⟨w.heap.size, 0, none⟩) fl0).trans f0; have x1 := (hSb.cell (p := ⟨w.heap.size + 1, 0, none⟩) fl1).trans f1; have x2 := (hSb.cell (p := ⟨l0.b, l0.o + qk, none⟩) fl2).trans f2; have x3 := (hSb.cell (p := ⟨l0.G qk, l0.O qk + qj, none⟩) fl3).trans f3; have x4 := (hSb.cell (p := ⟨l1.b, l1.o + rk, none⟩) fl4).trans f4; have x5 := (hSb.cell (p := ⟨l1.G rk, l1.O rk + rj, none⟩) fl5).trans f5
            go_simp
            try with_reducible rfl
          simp only [List.setIfInBounds_toArray, List.set_cons_zero, List.set_cons_succ]
          refine hold_take (i := 23) (d := 72) (v := ?va23) (listed' := #[true, true, true, true, true, true, true, true, true, true, true, true, true, true, true, true, true, true, true, true, true, true, true, true, false, false, false, false, false]) rfl (by kernel_rfl) (by kernel_rfl) (by kernel_rfl) rfl (by rfl) (by kernel_rfl) K0 ?ha23 ?ra23
          case ha23 =>
            intro w' hSw
            have hSb : Below wo.heap.size wo w' := hSw; have x0 := (hSb.cell (p := ⟨w.heap.size, 0, none⟩) fl0).trans f0; have x1 := (hSb.cell (p := ⟨w.heap.size + 1, 0, none⟩) fl1).trans f1; have x2 := (hSb.cell (p := ⟨l0.b, l0.o + qk, none⟩) fl2).trans f2; have x3 := (hSb.cell (p := ⟨l0.G qk, l0.O qk + qj, none⟩) fl3).trans f3; have x4 := (hSb.cell (p := ⟨l1.b, l1.o + rk, none⟩) fl4).trans f4; have x5 := (hSb.cell (p := ⟨l1.G rk, l1.O rk + rj, none⟩) fl5).trans f5
            go_simp
            try with_reducible rfl
          simp only [List.setIfInBounds_toArray, List.set_cons_zero, List.set_cons_succ]
          refine hold_take (i := 24) (d := 73) (v := ?va24) (listed' := #[true, true, true, true, true, true, true, true, true, true, true, true, true, true, true, true, true, true, true, true, true, true, true, true, true, false, false, false, false]) rfl (by kernel_rfl) (by kernel_rfl) (by kernel_rfl) rfl (by rfl) (by kernel_rfl) K0 ?ha24 ?ra24
          case ha24 =>
            intro w' hSw
            have hSb : Below wo.heap.size wo w' := hSw; have x0 := (hSb.cell (p := ⟨w.heap.size, 0, none⟩) fl0).trans f0; have x1 := (hSb.cell (p := ⟨w.heap.size + 1, 0, none⟩) fl1).trans f1; have x2 := (hSb.cell (p := ⟨l0.b, l0.o + qk, none⟩) fl2).trans f2; have x3 := (hSb.cell (p := ⟨l0.G qk, l0.O qk + qj, none⟩) fl3).trans f3; have x4 := (hSb.cell (p := ⟨l1.b, l1.o + rk, none⟩) fl4).trans f4; have x5 := (hSb.cell (p := ⟨l1.G rk, l1.O rk + rj, none⟩) fl5).trans f5
            go_simp
            try with_reducible rfl
          simp only [List.setIfInBounds_toArray, List.set_cons_zero, List.set_cons_succ]
          refine hold_take (i := 25) (d := 74) (v := ?va25) (listed' := #[true, true, true, true, true, true, true, true, true, true, true, true, true, true, true, true, true, true, true, true, true, true, true, true, true, true, false, false, false]) rfl (by kernel_rfl) (by kernel_rfl) (by kernel_rfl) rfl (by rfl) (by kernel_rfl) K0 ?ha25 ?ra25
          case ha25 =>
            intro w' hSw
            have hSb : Below wo.heap.size wo w' := hSw; have x0 := (hSb.cell (p := ⟨w.heap.size, 0, none⟩) fl0).trans f0; have x1 := (hSb.cell (p := ⟨w.heap.size + 1, 0, none⟩) fl1).trans f1; have x2 := (hSb.cell (p := ⟨l0.b, l0.o + qk, none⟩) fl2).trans f2; have x3 := (hSb.cell (p := ⟨l0.G qk, l0.O qk + qj, none⟩) fl3).trans f3; have x4 := (hSb.cell (p := ⟨l1.b, l1.o + rk, none⟩) fl4).trans f4; have x5 := (hSb.cell (p := ⟨l1.G rk, l1.O rk + rj, none⟩) fl5).trans f5
            go_simp
            try with_reducible rfl
          simp only [List.setIfInBounds_toArray, List.set_cons_zero, List.set_cons_succ]
          refine hold_value (i := 26) (d := 75) (listed' := #[true, true, true, true, true, true, true, true, true, true, true, true, true, true, true, true, true, true, true, true, true, true, true, true, true, true, true, false, false]) rfl (by kernel_rfl) rfl (by rfl) (by kernel_rfl) (v := .slice (some ⟨wr.heap.size, 0, none⟩) 1 1) (w' := (wr.drew).alloc (.cells #[.int .i64 (m0.Z qk qj * m1.Z rk rj)] 3)) ?hva26 (hW1 _) ?_
          case hva26 =>
            go_simp
            try with_reducible rfl
          simp only [List.setIfInBounds_toArray, List.set_cons_zero, List.set_cons_succ]
          refine hold_append (k := 27) (d := 76) (listed' := #[true, true, true, true, true, true, true, true, true, true, true, true, true, true, true, true, true, true, true, true, true, true, true, true, true, true, true, true, false]) rfl (by kernel_rfl) rfl (by kernel_rfl) rfl (.tmp 49) (.tmp 75) 24 rfl (wo.heap.size) 3 i0 (.int .i64 0) 1 8 Try.underlying24 HI.out HZ0.out HZ1.out HZ2.out rfl (by decide) u10 j _ (by simp [Act.eval]) (hT1 _) ⟨wr.heap.size, 0, none⟩ 1 1 [.int .i64 (m0.Z qk qj * m1.Z rk rj)] (by simp [Act.eval]) rfl (cell_one_new _ _ _) (ma4.out _) ma1.out ma2.out (ma3.out _) ?_
          intro v6 w6 hown6 hgrow6 hat6
          have HO6 : Hid (IntsAt w6 wo.heap.size v6 (j + 1) (timesZ m1.n m0.Z m1.Z k)) := IntsAt.told (by rw [HTZ.out]; exact hown6)
          have hW6 := (hW1 _).grown hgrow6 (ma3.out _) htb.out
          clear hown6 hgrow6 hat6
          refine ⟨hW6, ?_⟩
          simp only [List.setIfInBounds_toArray, List.set_cons_zero, List.set_cons_succ]
          refine hold_take (i := 28) (d := 10) (v := ?va28) (listed' := #[true, true, true, true, true, true, true, true, true, true, true, true, true, true, true, true, true, true, true, true, true, true, true, true, true, true, true, true, true]) rfl (by kernel_rfl) (by kernel_rfl) (by kernel_rfl) rfl (by rfl) (by kernel_rfl) hW6 ?ha28 ?ra28
          case ha28 =>
            intro w' hSw
            have hSb : Below wo.heap.size wo w' := hSw; have x0 := (hSb.cell (p := ⟨w.heap.size, 0, none⟩) fl0).trans f0; have x1 := (hSb.cell (p := ⟨w.heap.size + 1, 0, none⟩) fl1).trans f1; have x2 := (hSb.cell (p := ⟨l0.b, l0.o + qk, none⟩) fl2).trans f2; have x3 := (hSb.cell (p := ⟨l0.G qk, l0.O qk + qj, none⟩) fl3).trans f3; have x4 := (hSb.cell (p := ⟨l1.b, l1.o + rk, none⟩) fl4).trans f4; have x5 := (hSb.cell (p := ⟨l1.G rk, l1.O rk + rj, none⟩) fl5).trans f5
            go_simp
            try with_reducible rfl
          simp only [List.setIfInBounds_toArray, List.set_cons_zero, List.set_cons_succ]
          refine hold_done (by kernel_rfl) ?_ _
          have HW6 := Lib.hid hW6
          clear K0 hW6 f0 f1 f2 f3 f4 f5 hT1 hW1
          go_wp2_with fail
          go_roundw
          case rel => exact ⟨j + 1, by omega, by go_num, HO6.out, HW6.out⟩
          case measure => simp [intOf]; omega
        · have hjt' : ¬ (j : Int) < (N : Int) := by omega
          have hjn : j = N := by omega
          have hrow : IntsAt wr wo.heap.size u10 N (timesZ m1.n m0.Z m1.Z k) := by subst hjn; exact hown
          have hM1 := Lib.hid (hM.below hWi)
          have hq := hM1.out.box.c0
          have hqf := hM1.out.box.f0
          obtain ⟨gk, ck, rfl, hgk, hgl, _⟩ := hrow.val (by omega)
          have hbl := Lib.hid (ownsRow_block hM1.out.out.top)
          have hsi := hWi.size
          have I0 := H0.out.step hX.s.old
          have I1 := H1.out.step hX.s.old
          have hZb : Hid (∀ c, c < N → 0 ≤ timesZ m1.n m0.Z m1.Z k c ∧ timesZ m1.n m0.Z m1.Z k c ≤ 2) := fun c hc => by
            obtain ⟨qc, rc, hqc, hrc, lqc, lrc, _, _⟩ := divs (x := c) (n := m1.n) (N0 := m0.n) n1.1 (by rw [← HEN.out]; exact hc) (by rw [← HEN.out]; omega)
            have := (muls (I0.orth.lat.order.sq.bit qk lqk qc lqc) (I1.orth.lat.order.sq.bit rk lrk rc lrc)).2
            unfold timesZ
            rw [← HQK.out.1, ← HQK.out.2, ← hqc, ← hrc]
            exact this
          clear hjn hown I0 I1
          go_wp2_with (at_builtin; refine wpList_append_own _ rfl _ _ 23 rfl (P0 + 1) 24 i1 (.slice none 0 0) 1 24 Try.underlying23 HJ.out HY0.out HY1.out HY2.out rfl (by decide) _ _ _ rfl (hM1.out.out.top.alloc _) ⟨wr.heap.size, 0, none⟩ 1 1 [.slice (some ⟨gk, 0, none⟩) N ck] rfl rfl (cell_one_new _ _ _) ?d2 ?d3 ?d4 ?d5 ?_)
          case d2 => simp [Value.oneCell']
          case d3 => unfold maxLen; omega
          case d4 => omega
          case d5 => first | omega | (simp; omega)
          intro v' w4 hown4 hgrow _
          have HX := hM.row' (by omega) hWi hrow hZb.out hown4 hgrow (by omega)
          have hb4 := (hM1.out.mid (Chg.alloc (fun _ => False) _ _) hgrow hbl.out).2
          obtain ⟨g4, c4, rfl, _⟩ := HX.1.out.topv (by omega)
          have hX5 := hX.chg HX.2
          have hM5 := HX.1
          have r0 := hb4.c0
          have r1 := hb4.f0
          clear hown4 hgrow hb4 HX hM hX hrow hWi hM1 hqf hZb
          go_upto_region 15 with fail
          clear r0 r1 hq
          generalize hW5 : w4.setCell ⟨P0, 0, none⟩ (.slice (some ⟨g4, 0, none⟩) (k + 1) c4) = w5 at hX5 hM5 ⊢
          clear hW5
          have I0 := H0.out.step hX5.s.old
          have I1 := H1.out.step hX5.s.old
          have f0 := hX5.a.c1
          have f1 := hX5.b.c1
          have f2 : w5.cell? ⟨g0, o0 + qk, none⟩ = some (.int .i64 (y0 qk : Int)) := (I0.notAt lqk).2.1
          have f3 : w5.cell? ⟨g1, o1 + rk, none⟩ = some (.int .i64 (y1 rk : Int)) := (I1.notAt lrk).2.1
          have f4 := hM5.box.c1
          have hs5 := hX5.s.size
          have old5 := hX5.s.old
          have bnd : ∀ {a : Addr} {v : Value}, w.cell? a = some v → a.block < w5.heap.size ∧ ¬ (P0 ≤ a.block) := fun {a v} h => by
            have h1 := World.block_lt_of_cell? w _ h
            have h2 := old5.size
            have h3 := hX5.s.wp
            have h4 := hX5.s.lt
            omega
          have fl0 : w.heap.size < w5.heap.size ∧ ¬ (P0 ≤ w.heap.size) := by omega
          have fl1 : w.heap.size + 1 < w5.heap.size ∧ ¬ (P0 ≤ w.heap.size + 1) := by omega
          have fl2 := bnd (H0.out.notAt lqk).2.1
          have fl3 := bnd (H1.out.notAt lrk).2.1
          have ly0 : y0 qk < m0.n := (I0.notAt lqk).2.2
          have ly1 : y1 rk < m1.n := (I1.notAt lrk).2.2
          have hYl : Hid (timesY m1.n y0 y1 k < N) := by
            show _ < _
            unfold timesY
            rw [← HQK.out.1, ← HQK.out.2, HEN.out]
            exact pair_lt ly0 ly1
          have hYv : Hid (timesY m1.n y0 y1 k = y0 qk * m1.n + y1 rk) := by show _ = _; unfold timesY; rw [← HQK.out.1, ← HQK.out.2]
          obtain ⟨px, hpx⟩ : ∃ q : Nat, q = y0 qk * m1.n := ⟨_, rfl⟩
          have hpl : px ≤ 144 := by rw [hpx]; exact Nat.le_trans (Nat.mul_le_mul (Nat.le_of_lt (Nat.lt_of_lt_of_le ly0 n0.2)) n1.2) (by omega)
          have em1 : IntKind.i64.wrap ((y0 qk : Int) * (m1.n : Int)) = (px : Int) := by rw [← Int.natCast_mul, ← hpx]; exact IntWalk.i64_in _ (by omega)
          have em2 : IntKind.i64.wrap ((px : Int) + (y1 rk : Int)) = ((timesY m1.n y0 y1 k : Nat) : Int) := by rw [hYv.out, ← hpx, IntWalk.i64_in _ (by omega)]; omega
          have hYr : Hid (0 ≤ ((timesY m1.n y0 y1 k : Nat) : Int) ∧ ((timesY m1.n y0 y1 k : Nat) : Int) < (N : Int)) := by have := hYl.out; show _ ∧ _; omega
          have hnz : ¬ m1.n = 0 := by omega
          have c1 : (qk : Int) < (m0.n : Int) := by omega
          have c3 : (rk : Int) < (m1.n : Int) := by omega
          have hT1 : ∀ o, ((w5.drew).alloc o).ownsRow (P0 + 1) 3 1 t k ((List.range k).map fun c => .int .i64 (timesY m1.n y0 y1 c : Int)) := fun o => ((Chg.drew (fun _ => False) w5).trans (Chg.alloc _ _ o)).own hM5.ints (fun _ _ h => h)
          have hCH : ∀ o, Chg (fun _ => False) w5 ((w5.drew).alloc o) := fun o => (Chg.drew (fun _ => False) w5).trans (Chg.alloc _ _ o)
          have htb := Lib.hid (ownsRow_block hM5.ints)
          have ma1 := Lib.hid (show k + 1 ≤ maxLen by unfold maxLen; omega)
          have ma2 := Lib.hid (show (k + 1) * 8 ≤ 140737488355328 by omega)
          have ma3 := Lib.hid (show ∀ o, P0 + 1 ≤ ((w5.drew).alloc o).heap.size from fun o => by simp; omega)
          have ma4 := Lib.hid (show ∀ x : Int, ∀ u ∈ [Value.int .i64 x], u.oneCell' = true from fun x => by simp [Value.oneCell'])
          have HX5 := Lib.hid hX5
          have HM5 := Lib.hid hM5
          have K1 : Chg (fun j => P0 ≤ j) w5 w5.drew := Chg.drew _ _
          clear hX5 hM5 I0 I1 hpx ly0 ly1 old5 bnd
          refine region_plain (fuel := 23) (listed := #[false, false, false, false, false, false, false, false, false, false, false, false, false, false, false, false, false, false, false, false, false, false, false]) (fun W' => Chg (fun j => P0 ≤ j) w5 W') (by kernel_rfl) (by kernel_rfl) (by kernel_rfl) ?_
          refine hold_take (i := 0) (d := 83) (v := ?vb0) (listed' := #[true, false, false, false, false, false, false, false, false, false, false, false, false, false, false, false, false, false, false, false, false, false, false]) rfl (by kernel_rfl) (by kernel_rfl) (by kernel_rfl) rfl (by rfl) (by kernel_rfl) K1 ?hb0 ?rb0
          case hb0 =>
            intro w' hSw
            have hSb : Chg (fun j => P0 ≤ j) w5 w' := hSw; have x0 := (World.cell?_of_block (a := ⟨w.heap.size, 1, none⟩) (hSb.block _ fl0.1 fl0.2)).trans f0; have x1 := (World.cell?_of_block (a := ⟨w.heap.size + 1, 1, none⟩) (hSb.block _ fl1.1 fl1.2)).trans f1; have x2 := (World.cell?_of_block (a := ⟨g0, o0 + qk, none⟩) (hSb.block _ fl2.1 fl2.2)).trans f2; have x3 := (World.cell?_of_block (a := ⟨g1, o1 + rk, none⟩) (hSb.block _ fl3.1 fl3.2)).trans f3
            go_simp
            try with_reducible rfl
          simp only [List.setIfInBounds_toArray, List.set_cons_zero, List.set_cons_succ]
          refine hold_take (i := 2) (d := 85) (v := ?vb2) (listed' := #[true, false, true, false, false, false, false, false, false, false, false, false, false, false, false, false, false, false, false, false, false, false, false]) rfl (by kernel_rfl) (by kernel_rfl) (by kernel_rfl) rfl (by rfl) (by kernel_rfl) K1 ?hb2 ?rb2
          case hb2 =>
            intro w' hSw
            have hSb : Chg (fun j => P0 ≤ j) w5 w' := hSw; have x0 := (World.cell?_of_block (a := ⟨w.heap.size, 1, none⟩) (hSb.block _ fl0.1 fl0.2)).trans f0; have x1 := (World.cell?_of_block (a := ⟨w.heap.size + 1, 1, none⟩) (hSb.block _ fl1.1 fl1.2)).trans f1; have x2 := (World.cell?_of_block (a := ⟨g0, o0 + qk, none⟩) (hSb.block _ fl2.1 fl2.2)).trans f2; have x3 := (World.cell?_of_block (a := ⟨g1, o1 + rk, none⟩) (hSb.block _ fl3.1 fl3.2)).trans f3
            go_simp
            try with_reducible rfl
          simp only [List.setIfInBounds_toArray, List.set_cons_zero, List.set_cons_succ]
          refine hold_take (i := 3) (d := 86) (v := ?vb3) (listed' := #[true, false, true, true, false, false, false, false, false, false, false, false, false, false, false, false, false, false, false, false, false, false, false]) rfl (by kernel_rfl) (by kernel_rfl) (by kernel_rfl) rfl (by rfl) (by kernel_rfl) K1 ?hb3 ?rb3
          case hb3 =>
            intro w' hSw
            have hSb : Chg (fun j => P0 ≤ j) w5 w' := hSw; have x0 := (World.cell?_of_block (a := ⟨w.heap.size, 1, none⟩) (hSb.block _ fl0.1 fl0.2)).trans f0; have x1 := (World.cell?_of_block (a := ⟨w.heap.size + 1, 1, none⟩) (hSb.block _ fl1.1 fl1.2)).trans f1; have x2 := (World.cell?_of_block (a := ⟨g0, o0 + qk, none⟩) (hSb.block _ fl2.1 fl2.2)).trans f2; have x3 := (World.cell?_of_block (a := ⟨g1, o1 + rk, none⟩) (hSb.block _ fl3.1 fl3.2)).trans f3
            go_simp
            try with_reducible rfl
          simp only [List.setIfInBounds_toArray, List.set_cons_zero, List.set_cons_succ]
          refine hold_take (i := 4) (d := 87) (v := ?vb4) (listed' := #[true, false, true, true, true, false, false, false, false, false, false, false, false, false, false, false, false, false, false, false, false, false, false]) rfl (by kernel_rfl) (by kernel_rfl) (by kernel_rfl) rfl (by rfl) (by kernel_rfl) K1 ?hb4 ?rb4
          case hb4 =>
            intro w' hSw
            have hSb : Chg (fun j => P0 ≤ j) w5 w' := hSw; have x0 := (World.cell?_of_block (a := ⟨w.heap.size, 1, none⟩) (hSb.block _ fl0.1 fl0.2)).trans f0; have x1 := (World.cell?_of_block (a := ⟨w.heap.size + 1, 1, none⟩) (hSb.block _ fl1.1 fl1.2)).trans f1; have x2 := (World.cell?_of_block (a := ⟨g0, o0 + qk, none⟩) (hSb.block _ fl2.1 fl2.2)).trans f2; have x3 := (World.cell?_of_block (a := ⟨g1, o1 + rk, none⟩) (hSb.block _ fl3.1 fl3.2)).trans f3
            go_simp
            try with_reducible rfl
          simp only [List.setIfInBounds_toArray, List.set_cons_zero, List.set_cons_succ]
          refine hold_take (i := 5) (d := 88) (v := ?vb5) (listed' := #[true, false, true, true, true, true, false, false, false, false, false, false, false, false, false, false, false, false, false, false, false, false, false]) rfl (by kernel_rfl) (by kernel_rfl) (by kernel_rfl) rfl (by rfl) (by kernel_rfl) K1 ?hb5 ?rb5
          case hb5 =>
            intro w' hSw
            have hSb : Chg (fun j => P0 ≤ j) w5 w' := hSw; have x0 := (World.cell?_of_block (a := ⟨w.heap.size, 1, none⟩) (hSb.block _ fl0.1 fl0.2)).trans f0; have x1 := (World.cell?_of_block (a := ⟨w.heap.size + 1, 1, none⟩) (hSb.block _ fl1.1 fl1.2)).trans f1; have x2 := (World.cell?_of_block (a := ⟨g0, o0 + qk, none⟩) (hSb.block _ fl2.1 fl2.2)).trans f2; have x3 := (World.cell?_of_block (a := ⟨g1, o1 + rk, none⟩) (hSb.block _ fl3.1 fl3.2)).trans f3
            go_simp
            try with_reducible rfl
          simp only [List.setIfInBounds_toArray, List.set_cons_zero, List.set_cons_succ]
          refine hold_take (i := 6) (d := 89) (v := ?vb6) (listed' := #[true, false, true, true, true, true, true, false, false, false, false, false, false, false, false, false, false, false, false, false, false, false, false]) rfl (by kernel_rfl) (by kernel_rfl) (by kernel_rfl) rfl (by rfl) (by kernel_rfl) K1 ?hb6 ?rb6
          case hb6 =>
            intro w' hSw
            have hSb : Chg (fun j => P0 ≤ j) w5 w' := hSw; have x0 := (World.cell?_of_block (a := ⟨w.heap.size, 1, none⟩) (hSb.block _ fl0.1 fl0.2)).trans f0; have x1 := (World.cell?_of_block (a := ⟨w.heap.size + 1, 1, none⟩) (hSb.block _ fl1.1 fl1.2)).trans f1; have x2 := (World.cell?_of_block (a := ⟨g0, o0 + qk, none⟩) (hSb.block _ fl2.1 fl2.2)).trans f2; have x3 := (World.cell?_of_block (a := ⟨g1, o1 + rk, none⟩) (hSb.block _ fl3.1 fl3.2)).trans f3
            go_simp
            try with_reducible rfl
          simp only [List.setIfInBounds_toArray, List.set_cons_zero, List.set_cons_succ]
          refine hold_take (i := 7) (d := 90) (v := ?vb7) (listed' := #[true, false, true, true, true, true, true, true, false, false, false, false, false, false, false, false, false, false, false, false, false, false, false]) rfl (by kernel_rfl) (by kernel_rfl) (by kernel_rfl) rfl (by rfl) (by kernel_rfl) K1 ?hb7 ?rb7
          case hb7 =>
            intro w' hSw
            have hSb : Chg (fun j => P0 ≤ j) w5 w' := hSw; have x0 := (World.cell?_of_block (a := ⟨w.heap.size, 1, none⟩) (hSb.block _ fl0.1 fl0.2)).trans f0; have x1 := (World.cell?_of_block (a := ⟨w.heap.size + 1, 1, none⟩) (hSb.block _ fl1.1 fl1.2)).trans f1; have x2 := (World.cell?_of_block (a := ⟨g0, o0 + qk, none⟩) (hSb.block _ fl2.1 fl2.2)).trans f2; have x3 := (World.cell?_of_block (a := ⟨g1, o1 + rk, none⟩) (hSb.block _ fl3.1 fl3.2)).trans f3
            go_simp
            try with_reducible rfl
          simp only [List.setIfInBounds_toArray, List.set_cons_zero, List.set_cons_succ]
          refine hold_take (i := 8) (d := 91) (v := ?vb8) (listed' := #[true, false, true, true, true, true, true, true, true, false, false, false, false, false, false, false, false, false, false, false, false, false, false]) rfl (by kernel_rfl) (by kernel_rfl) (by kernel_rfl) rfl (by rfl) (by kernel_rfl) K1 ?hb8 ?rb8
          case hb8 =>
            intro w' hSw
            have hSb : Chg (fun j => P0 ≤ j) w5 w' := hSw; have x0 := (World.cell?_of_block (a := ⟨w.heap.size, 1, none⟩) (hSb.block _ fl0.1 fl0.2)).trans f0; have x1 := (World.cell?_of_block (a := ⟨w.heap.size + 1, 1, none⟩) (hSb.block _ fl1.1 fl1.2)).trans f1; have x2 := (World.cell?_of_block (a := ⟨g0, o0 + qk, none⟩) (hSb.block _ fl2.1 fl2.2)).trans f2; have x3 := (World.cell?_of_block (a := ⟨g1, o1 + rk, none⟩) (hSb.block _ fl3.1 fl3.2)).trans f3
            go_simp
            try with_reducible rfl
          simp only [List.setIfInBounds_toArray, List.set_cons_zero, List.set_cons_succ]
          refine hold_take (i := 9) (d := 92) (v := ?vb9) (listed' := #[true, false, true, true, true, true, true, true, true, true, false, false, false, false, false, false, false, false, false, false, false, false, false]) rfl (by kernel_rfl) (by kernel_rfl) (by kernel_rfl) rfl (by rfl) (by kernel_rfl) K1 ?hb9 ?rb9
          case hb9 =>
            intro w' hSw
            have hSb : Chg (fun j => P0 ≤ j) w5 w' := hSw; have x0 := (World.cell?_of_block (a := ⟨w.heap.size, 1, none⟩) (hSb.block _ fl0.1 fl0.2)).trans f0; have x1 := (World.cell?_of_block (a := ⟨w.heap.size + 1, 1, none⟩) (hSb.block _ fl1.1 fl1.2)).trans f1; have x2 := (World.cell?_of_block (a := ⟨g0, o0 + qk, none⟩) (hSb.block _ fl2.1 fl2.2)).trans f2; have x3 := (World.cell?_of_block (a := ⟨g1, o1 + rk, none⟩) (hSb.block _ fl3.1 fl3.2)).trans f3
            go_simp
            try with_reducible rfl
          simp only [List.setIfInBounds_toArray, List.set_cons_zero, List.set_cons_succ]
          refine hold_take (i := 10) (d := 93) (v := ?vb10) (listed' := #[true, false, true, true, true, true, true, true, true, true, true, false, false, false, false, false, false, false, false, false, false, false, false]) rfl (by kernel_rfl) (by kernel_rfl) (by kernel_rfl) rfl (by rfl) (by kernel_rfl) K1 ?hb10 ?rb10
          case hb10 =>
            intro w' hSw
            have hSb : Chg (fun j => P0 ≤ j) w5 w' := hSw; have x0 := (World.cell?_of_block (a := ⟨w.heap.size, 1, none⟩) (hSb.block _ fl0.1 fl0.2)).trans f0; have x1 := (World.cell?_of_block (a := ⟨w.heap.size + 1, 1, none⟩) (hSb.block _ fl1.1 fl1.2)).trans f1; have x2 := (World.cell?_of_block (a := ⟨g0, o0 + qk, none⟩) (hSb.block _ fl2.1 fl2.2)).trans f2; have x3 := (World.cell?_of_block (a := ⟨g1, o1 + rk, none⟩) (hSb.block _ fl3.1 fl3.2)).trans f3
            go_simp
            try with_reducible rfl
          simp only [List.setIfInBounds_toArray, List.set_cons_zero, List.set_cons_succ]
          refine hold_take (i := 11) (d := 94) (v := ?vb11) (listed' := #[true, false, true, true, true, true, true, true, true, true, true, true, false, false, false, false, false, false, false, false, false, false, false]) rfl (by kernel_rfl) (by kernel_rfl) (by kernel_rfl) rfl (by rfl) (by kernel_rfl) K1 ?hb11 ?rb11
          case hb11 =>
            intro w' hSw
            have hSb : Chg (fun j => P0 ≤ j) w5 w' := hSw; have x0 := (World.cell?_of_block (a := ⟨w.heap.size, 1, none⟩) (hSb.block _ fl0.1 fl0.2)).trans f0; have x1 := (World.cell?_of_block (a := ⟨w.heap.size + 1, 1, none⟩) (hSb.block _ fl1.1 fl1.2)).trans f1; have x2 := (World.cell?_of_block (a := ⟨g0, o0 + qk, none⟩) (hSb.block _ fl2.1 fl2.2)).trans f2; have x3 := (World.cell?_of_block (a := ⟨g1, o1 + rk, none⟩) (hSb.block _ fl3.1 fl3.2)).trans f3
            go_simp
            try with_reducible rfl
          simp only [List.setIfInBounds_toArray, List.set_cons_zero, List.set_cons_succ]
          refine hold_take (i := 12) (d := 95) (v := ?vb12) (listed' := #[true, false, true, true, true, true, true, true, true, true, true, true, true, false, false, false, false, false, false, false, false, false, false]) rfl (by kernel_rfl) (by kernel_rfl) (by kernel_rfl) rfl (by rfl) (by kernel_rfl) K1 ?hb12 ?rb12
          case hb12 =>
            intro w' hSw
            have hSb : Chg (fun j => P0 ≤ j) w5 w' := hSw; have x0 := (World.cell?_of_block (a := ⟨w.heap.size, 1, none⟩) (hSb.block _ fl0.1 fl0.2)).trans f0; have x1 := (World.cell?_of_block (a := ⟨w.heap.size + 1, 1, none⟩) (hSb.block _ fl1.1 fl1.2)).trans f1; have x2 := (World.cell?_of_block (a := ⟨g0, o0 + qk, none⟩) (hSb.block _ fl2.1 fl2.2)).trans f2; have x3 := (World.cell?_of_block (a := ⟨g1, o1 + rk, none⟩) (hSb.block _ fl3.1 fl3.2)).trans f3
            go_simp
            try with_reducible rfl
          simp only [List.setIfInBounds_toArray, List.set_cons_zero, List.set_cons_succ]
          refine hold_take (i := 13) (d := 96) (v := ?vb13) (listed' := #[true, false, true, true, true, true, true, true, true, true, true, true, true, true, false, false, false, false, false, false, false, false, false]) rfl (by kernel_rfl) (by kernel_rfl) (by kernel_rfl) rfl (by rfl) (by kernel_rfl) K1 ?hb13 ?rb13
          case hb13 =>
            intro w' hSw
            have hSb : Chg (fun j => P0 ≤ j) w5 w' := hSw; have x0 := (World.cell?_of_block (a := ⟨w.heap.size, 1, none⟩) (hSb.block _ fl0.1 fl0.2)).trans f0; have x1 := (World.cell?_of_block (a := ⟨w.heap.size + 1, 1, none⟩) (hSb.block _ fl1.1 fl1.2)).trans f1; have x2 := (World.cell?_of_block (a := ⟨g0, o0 + qk, none⟩) (hSb.block _ fl2.1 fl2.2)).trans f2; have x3 := (World.cell?_of_block (a := ⟨g1, o1 + rk, none⟩) (hSb.block _ fl3.1 fl3.2)).trans f3
            go_simp
            try with_reducible rfl
          simp only [List.setIfInBounds_toArray, List.set_cons_zero, List.set_cons_succ]
          refine hold_take (i := 14) (d := 97) (v := ?vb14) (listed' := #[true, false, true, true, true, true, true, true, true, true, true, true, true, true, true, false, false, false, false, false, false, false, false]) rfl (by kernel_rfl) (by kernel_rfl) (by kernel_rfl) rfl (by rfl) (by kernel_rfl) K1 ?hb14 ?rb14
          case hb14 =>
            intro w' hSw
            have hSb : Chg (fun j => P0 ≤ j) w5 w' := hSw; have x0 := (World.cell?_of_block (a := ⟨w.heap.size, 1, none⟩) (hSb.block _ fl0.1 fl0.2)).trans f0; have x1 := (World.cell?_of_block (a := ⟨w.heap.size + 1, 1, none⟩) (hSb.block _ fl1.1 fl1.2)).trans f1; have x2 := (World.cell?_of_block (a := ⟨g0, o0 + qk, none⟩) (hSb.block _ fl2.1 fl2.2)).trans f2; have x3 := (World.cell?_of_block (a := ⟨g1, o1 + rk, none⟩) (hSb.block _ fl3.1 fl3.2)).trans f3
            go_simp
            try with_reducible rfl
          simp only [List.setIfInBounds_toArray, List.set_cons_zero, List.set_cons_succ]
          refine hold_take (i := 15) (d := 98) (v := ?vb15) (listed' := #[true, false, true, true, true, true, true, true, true, true, true, true, true, true, true, true, false, false, false, false, false, false, false]) rfl (by kernel_rfl) (by kernel_rfl) (by kernel_rfl) rfl (by rfl) (by kernel_rfl) K1 ?hb15 ?rb15
          case hb15 =>
            intro w' hSw
            have hSb : Chg (fun j => P0 ≤ j) w5 w' := hSw; have x0 := (World.cell?_of_block (a := ⟨w.heap.size, 1, none⟩) (hSb.block _ fl0.1 fl0.2)).trans f0; have x1 := (World.cell?_of_block (a := ⟨w.heap.size + 1, 1, none⟩) (hSb.block _ fl1.1 fl1.2)).trans f1; have x2 := (World.cell?_of_block (a := ⟨g0, o0 + qk, none⟩) (hSb.block _ fl2.1 fl2.2)).trans f2; have x3 := (World.cell?_of_block (a := ⟨g1, o1 + rk, none⟩) (hSb.block _ fl3.1 fl3.2)).trans f3
            go_simp
            try with_reducible rfl
          simp only [List.setIfInBounds_toArray, List.set_cons_zero, List.set_cons_succ]
          refine hold_take (i := 16) (d := 99) (v := ?vb16) (listed' := #[true, false, true, true, true, true, true, true, true, true, true, true, true, true, true, true, true, false, false, false, false, false, false]) rfl (by kernel_rfl) (by kernel_rfl) (by kernel_rfl) rfl (by rfl) (by kernel_rfl) K1 ?hb16 ?rb16
          case hb16 =>
            intro w' hSw
            have hSb : Chg (fun j => P0 ≤ j) w5 w' := hSw; have x0 := (World.cell?_of_block (a := ⟨w.heap.size, 1, none⟩) (hSb.block _ fl0.1 fl0.2)).trans f0; have x1 := (World.cell?_of_block (a := ⟨w.heap.size + 1, 1, none⟩) (hSb.block _ fl1.1 fl1.2)).trans f1; have x2 := (World.cell?_of_block (a := ⟨g0, o0 + qk, none⟩) (hSb.block _ fl2.1 fl2.2)).trans f2; have x3 := (World.cell?_of_block (a := ⟨g1, o1 + rk, none⟩) (hSb.block _ fl3.1 fl3.2)).trans f3
            go_simp
            try with_reducible rfl
          simp only [List.setIfInBounds_toArray, List.set_cons_zero, List.set_cons_succ]
          refine hold_take (i := 17) (d := 100) (v := ?vb17) (listed' := #[true, false, true, true, true, true, true, true, true, true, true, true, true, true, true, true, true, true, false, false, false, false, false]) rfl (by kernel_rfl) (by kernel_rfl) (by kernel_rfl) rfl (by rfl) (by kernel_rfl) K1 ?hb17 ?rb17
          case hb17 =>
            intro w' hSw
            have hSb : Chg (fun j => P0 ≤ j) w5 w' := hSw; have x0 := (World.cell?_of_block (a := ⟨w.heap.size, 1, none⟩) (hSb.block _ fl0.1 fl0.2)).trans f0; have x1 := (World.cell?_of_block (a := ⟨w.heap.size + 1, 1, none⟩) (hSb.block _ fl1.1 fl1.2)).trans f1; have x2 := (World.cell?_of_block (a := ⟨g0, o0 + qk, none⟩) (hSb.block _ fl2.1 fl2.2)).trans f2; have x3 := (World.cell?_of_block (a := ⟨g1, o1 + rk, none⟩) (hSb.block _ fl3.1 fl3.2)).trans f3
            go_simp
            try with_reducible rfl
          simp only [List.setIfInBounds_toArray, List.set_cons_zero, List.set_cons_succ]
          refine hold_take (i := 18) (d := 101) (v := ?vb18) (listed' := #[true, false, true, true, true, true, true, true, true, true, true, true, true, true, true, true, true, true, true, false, false, false, false]) rfl (by kernel_rfl) (by kernel_rfl) (by kernel_rfl) rfl (by rfl) (by kernel_rfl) K1 ?hb18 ?rb18
          case hb18 =>
            intro w' hSw
            have hSb : Chg (fun j => P0 ≤ j) w5 w' := hSw; have x0 := (World.cell?_of_block (a := ⟨w.heap.size, 1, none⟩) (hSb.block _ fl0.1 fl0.2)).trans f0; have x1 := (World.cell?_of_block (a := ⟨w.heap.size + 1, 1, none⟩) (hSb.block _ fl1.1 fl1.2)).trans f1; have x2 := (World.cell?_of_block (a := ⟨g0, o0 + qk, none⟩) (hSb.block _ fl2.1 fl2.2)).trans f2; have x3 := (World.cell?_of_block (a := ⟨g1, o1 + rk, none⟩) (hSb.block _ fl3.1 fl3.2)).trans f3
            go_simp
            try with_reducible rfl
          simp only [List.setIfInBounds_toArray, List.set_cons_zero, List.set_cons_succ]
          clear f0 f1 f2 f3
          refine hold_two (i := 1) (j := 19) (by kernel_rfl) ?ca ?cb
          case ca =>
            refine opH_value (i := 1) (d := 84) (listed' := #[true, true, true, true, true, true, true, true, true, true, true, true, true, true, true, true, true, true, true, false, false, false, false]) rfl rfl (by rfl) (by kernel_rfl) (v := t) (w' := w5.drew) ?cav1 ((Chg.drew (fun j => P0 ≤ j) w5)) ?_
            case cav1 =>
              go_simp
              try with_reducible rfl
            simp only [List.setIfInBounds_toArray, List.set_cons_zero, List.set_cons_succ]
            refine hold_value (i := 19) (d := 102) (listed' := #[true, true, true, true, true, true, true, true, true, true, true, true, true, true, true, true, true, true, true, true, false, false, false]) rfl (by kernel_rfl) rfl (by rfl) (by kernel_rfl) (v := .slice (some ⟨w5.heap.size, 0, none⟩) 1 1) (w' := ((w5.drew).alloc (.cells #[.int .i64 ((timesY m1.n y0 y1 k : Nat) : Int)] 3))) ?cav19 (((Chg.drew (fun j => P0 ≤ j) w5)).trans (Chg.alloc _ _ _)) ?_
            case cav19 =>
              go_simp
              try with_reducible rfl
            simp only [List.setIfInBounds_toArray, List.set_cons_zero, List.set_cons_succ]
            refine hold_append (k := 20) (d := 103) (listed' := #[true, true, true, true, true, true, true, true, true, true, true, true, true, true, true, true, true, true, true, true, true, false, false]) rfl (by kernel_rfl) rfl (by kernel_rfl) rfl (.tmp 84) (.tmp 102) 24 rfl (P0 + 1) 3 i0 (.int .i64 0) 1 8 Try.underlying24 HI.out HZ0.out HZ1.out HZ2.out rfl (by decide) t k _ (by simp [Act.eval]) (hT1 _) ⟨w5.heap.size, 0, none⟩ 1 1 [.int .i64 ((timesY m1.n y0 y1 k : Nat) : Int)] (by simp [Act.eval]) rfl (cell_one_new _ _ _) (ma4.out _) ma1.out ma2.out (ma3.out _) ?_
            intro v6 w6 hown6 hgrow6 hat6
            have HZ := Lib.hid (HM5.out.more' (hCH _) hYr.out hown6 hgrow6 hat6)
            have hb6 := (HM5.out.mid (hCH _) hgrow6 htb.out).2
            have K2 := ((hCH _).mono (T := fun j => P0 ≤ j) fun _ h => h.elim).trans ((Chg.of_grown (S := fun j => P0 + 1 ≤ j) hgrow6 htb.out).mono (T := fun j => P0 ≤ j) fun j hj => by have hj' : P0 + 1 ≤ j := hj; show P0 ≤ j; omega)
            obtain ⟨g6, c6, rfl, _⟩ := HZ.out.1.ints.val (by omega)
            have r0 := hb6.c1
            have r1 := hb6.f1
            clear hown6 hgrow6 hat6 hb6
            refine ⟨K2, ?_⟩
            simp only [List.setIfInBounds_toArray, List.set_cons_zero, List.set_cons_succ]
            refine hold_value (i := 21) (d := 104) (listed' := #[true, true, true, true, true, true, true, true, true, true, true, true, true, true, true, true, true, true, true, true, true, true, false]) rfl (by kernel_rfl) rfl (by rfl) (by kernel_rfl) (v := .pointer (some ⟨P0, 1, none⟩)) (w' := w6) ?cafa K2 ?_
            case cafa =>
              go_simp
              try with_reducible rfl
            simp only [List.setIfInBounds_toArray, List.set_cons_zero, List.set_cons_succ]
            have K3 := K2.trans (Chg.set (S := fun j => P0 ≤ j) (w := w6) (b := P0) (i := 1) (Nat.le_refl _) (.slice (some ⟨g6, 0, none⟩) (k + 1) c6))
            refine hold_store (i := 22) (w' := (w6.setCell ⟨P0, 1, none⟩ (.slice (some ⟨g6, 0, none⟩) (k + 1) c6))) (listed' := #[true, true, true, true, true, true, true, true, true, true, true, true, true, true, true, true, true, true, true, true, true, true, true]) rfl (by kernel_rfl) rfl (by rfl) (by kernel_rfl) ?cast K3 ?_
            case cast =>
              go_simp
              try with_reducible rfl
            refine hold_done (by kernel_rfl) ?_ _
            have HC9 := Lib.hid HZ.out
            clear r0 r1 K1 K2 K3 f4 hT1 hCH
            go_wp2_with fail
            go_roundw
            case rel => exact ⟨k + 1, _, _, _, by omega, by go_num, HX5.out.chg HC9.out.2, HC9.out.1⟩
            case measure => simp [intOf]; omega
          case cb =>
            refine opH_value (i := 19) (d := 102) (listed' := #[true, false, true, true, true, true, true, true, true, true, true, true, true, true, true, true, true, true, true, true, false, false, false]) rfl rfl (by rfl) (by kernel_rfl) (v := .slice (some ⟨w5.heap.size, 0, none⟩) 1 1) (w' := ((w5.drew).alloc (.cells #[.int .i64 ((timesY m1.n y0 y1 k : Nat) : Int)] 3))) ?cbv19 (((Chg.drew (fun j => P0 ≤ j) w5)).trans (Chg.alloc _ _ _)) ?_
            case cbv19 =>
              go_simp
              try with_reducible rfl
            simp only [List.setIfInBounds_toArray, List.set_cons_zero, List.set_cons_succ]
            refine hold_value (i := 1) (d := 84) (listed' := #[true, true, true, true, true, true, true, true, true, true, true, true, true, true, true, true, true, true, true, true, false, false, false]) rfl (by kernel_rfl) rfl (by rfl) (by kernel_rfl) (v := t) (w' := ((w5.drew).alloc (.cells #[.int .i64 ((timesY m1.n y0 y1 k : Nat) : Int)] 3))) ?cbv1 (((Chg.drew (fun j => P0 ≤ j) w5)).trans (Chg.alloc _ _ _)) ?_
            case cbv1 =>
              go_simp
              try with_reducible rfl
            simp only [List.setIfInBounds_toArray, List.set_cons_zero, List.set_cons_succ]
            refine hold_append (k := 20) (d := 103) (listed' := #[true, true, true, true, true, true, true, true, true, true, true, true, true, true, true, true, true, true, true, true, true, false, false]) rfl (by kernel_rfl) rfl (by kernel_rfl) rfl (.tmp 84) (.tmp 102) 24 rfl (P0 + 1) 3 i0 (.int .i64 0) 1 8 Try.underlying24 HI.out HZ0.out HZ1.out HZ2.out rfl (by decide) t k _ (by simp [Act.eval]) (hT1 _) ⟨w5.heap.size, 0, none⟩ 1 1 [.int .i64 ((timesY m1.n y0 y1 k : Nat) : Int)] (by simp [Act.eval]) rfl (cell_one_new _ _ _) (ma4.out _) ma1.out ma2.out (ma3.out _) ?_
            intro v6 w6 hown6 hgrow6 hat6
            have HZ := Lib.hid (HM5.out.more' (hCH _) hYr.out hown6 hgrow6 hat6)
            have hb6 := (HM5.out.mid (hCH _) hgrow6 htb.out).2
            have K2 := ((hCH _).mono (T := fun j => P0 ≤ j) fun _ h => h.elim).trans ((Chg.of_grown (S := fun j => P0 + 1 ≤ j) hgrow6 htb.out).mono (T := fun j => P0 ≤ j) fun j hj => by have hj' : P0 + 1 ≤ j := hj; show P0 ≤ j; omega)
            obtain ⟨g6, c6, rfl, _⟩ := HZ.out.1.ints.val (by omega)
            have r0 := hb6.c1
            have r1 := hb6.f1
            clear hown6 hgrow6 hat6 hb6
            refine ⟨K2, ?_⟩
            simp only [List.setIfInBounds_toArray, List.set_cons_zero, List.set_cons_succ]
            refine hold_value (i := 21) (d := 104) (listed' := #[true, true, true, true, true, true, true, true, true, true, true, true, true, true, true, true, true, true, true, true, true, true, false]) rfl (by kernel_rfl) rfl (by rfl) (by kernel_rfl) (v := .pointer (some ⟨P0, 1, none⟩)) (w' := w6) ?cbfa K2 ?_
            case cbfa =>
              go_simp
              try with_reducible rfl
            simp only [List.setIfInBounds_toArray, List.set_cons_zero, List.set_cons_succ]
            have K3 := K2.trans (Chg.set (S := fun j => P0 ≤ j) (w := w6) (b := P0) (i := 1) (Nat.le_refl _) (.slice (some ⟨g6, 0, none⟩) (k + 1) c6))
            refine hold_store (i := 22) (w' := (w6.setCell ⟨P0, 1, none⟩ (.slice (some ⟨g6, 0, none⟩) (k + 1) c6))) (listed' := #[true, true, true, true, true, true, true, true, true, true, true, true, true, true, true, true, true, true, true, true, true, true, true]) rfl (by kernel_rfl) rfl (by rfl) (by kernel_rfl) ?cbst K3 ?_
            case cbst =>
              go_simp
              try with_reducible rfl
            refine hold_done (by kernel_rfl) ?_ _
            have HC9 := Lib.hid HZ.out
            clear r0 r1 K1 K2 K3 f4 hT1 hCH
            go_wp2_with fail
            go_roundw
            case rel => exact ⟨k + 1, _, _, _, by omega, by go_num, HX5.out.chg HC9.out.2, HC9.out.1⟩
            case measure => simp [intOf]; omega
    · have hlt' : ¬ (k : Int) < (N : Int) := by omega
      have hkn : k = N := by omega
      have hM1 : MakeAt wr P0 (P0 + 1) u t N N N rv (timesZ m1.n m0.Z m1.Z) (fun c => (timesY m1.n y0 y1 c : Int)) := by subst hkn; exact hM
      have hL := hM1.made (by omega) (by omega)
      obtain ⟨gu, cu, rfl, _⟩ := hL.out.topv (by omega)
      obtain ⟨gt, ct, rfl, _⟩ := hL.ints.val (by omega)
      have q0 := hM1.box.c0
      have q1 := hM1.box.c1
      have p0 := hX.s.res.f0
      have p1 := hX.s.res.f1
      have p2 := hX.s.res.c0
      have p3 := hX.s.res.c1
      have HL := Lib.hid hL
      have HX := Lib.hid hX
      have hwp := hX.s.wp
      clear hkn hM hM1 hL hX
      go_wp2_with fail
      have hfin := (HX.out.s.res.set0 (.slice (some ⟨gu, 0, none⟩) N cu)).set1 (.slice (some ⟨gt, 0, none⟩) N ct)
      have t0 := hfin.c0
      have t1 := hfin.c1
      have hon := set2_only wr (w.heap.size + 1 + 1) (.slice (some ⟨gu, 0, none⟩) N cu) (.slice (some ⟨gt, 0, none⟩) N ct)
      refine bodyPost_ret (v := .tuple #[.agg #[.slice (some ⟨gu, 0, none⟩) N cu, .slice (some ⟨gt, 0, none⟩) N ct], .bool true]) (by simp [results, Try.results113, go_sem, t0, t1]) rfl ⟨HX.out.s.old.trans (hon.below fun j hj => by have hj' : j = w.heap.size + 1 + 1 := hj; omega), .inr ⟨rfl, _, _, rv, rfl, ((HL.out.chg (Chg.of_only hon) fun j hj => ?_).base (by omega))⟩⟩
      have hj' : j = w.heap.size + 1 + 1 := hj
      omega

set_option maxRecDepth 100000 in
set_option maxHeartbeats 1000000 in
theorem spec_TimesOf_noa {w : World} {d0 d1 : LD} {B N : Nat} {Z : Nat → Nat → Int} {y : Nat → Nat} (h0 : d0.At w B) (h1 : d1.At w B) (e0 : d0.ok = false) :
    Calls Try.prog 113 #[.agg #[d0.u, d0.t], .agg #[d1.u, d1.t]] w (MadeOk w N Z y false) := by
  have xa := TwoAt.new w d0.u d0.t 26
  have ba := (Below.refl w.heap.size w).alloc (Nat.le_refl _) (.cells #[d0.u, d0.t] 26)
  have xb := TwoAt.new (w.alloc (.cells #[d0.u, d0.t] 26)) d1.u d1.t 26
  simp only [World.size_alloc] at xb
  have bb := (Below.refl (w.heap.size + 1) (w.alloc (.cells #[d0.u, d0.t] 26))).alloc (by simp) (.cells #[d1.u, d1.t] 26)
  have bc := (Below.refl (w.heap.size + 1 + 1) ((w.alloc (.cells #[d0.u, d0.t] 26)).alloc (.cells #[d1.u, d1.t] 26))).alloc (by simp) (.cells #[.slice none 0 0, .slice none 0 0] 26)
  have xr := TwoAt.new ((w.alloc (.cells #[d0.u, d0.t] 26)).alloc (.cells #[d1.u, d1.t] 26)) (.slice none 0 0) (.slice none 0 0) 26
  simp only [World.size_alloc] at xr
  replace xa := (xa.below bb (by omega)).below bc (by omega)
  replace xb := xb.below bc (by omega)
  have B0 := (ba.trans (bb.mono (by omega))).trans (bc.mono (by omega))
  have s0 : w.heap.size + 1 + 1 < (((w.alloc (.cells #[d0.u, d0.t] 26)).alloc (.cells #[d1.u, d1.t] 26)).alloc (.cells #[.slice none 0 0, .slice none 0 0] 26)).heap.size := by simp
  have HL0 : Hid (logicB d0.m d0.k d0.z = false) := e0
  skip
  have H0 := Lib.hid h0
  have H1 := Lib.hid h1
  clear ba bb bc h0 h1 e0
  go_enter Try.func113, Try.ntmps113
  have q0 := xa.c0
  have q1 := xa.c1
  have q2 := xb.c0
  have q3 := xb.c1
  go_wp2_with fail
  generalize ((w.alloc (.cells #[d0.u, d0.t] 26)).alloc (.cells #[d1.u, d1.t] 26)).alloc (.cells #[.slice none 0 0, .slice none 0 0] 26) = w2 at xa xb xr B0 s0 q0 q1 q2 q3 ⊢
  go_at_call 28
  refine (spec_LogicOk (LogAt.step H0.out B0)).mono ?_
  rintro e w3 ⟨rfl, b3⟩
  rw [HL0.out]
  have s3 := b3.size
  have B3 := B0.trans (b3.mono B0.size)
  replace xa := xa.below b3 (by omega)
  replace xb := xb.below b3 (by omega)
  replace xr := xr.below b3 (by omega)
  clear q0 q1 q2 q3 B0
  have t0 := xr.c0
  have t1 := xr.c1
  have t2 := xr.f0
  have t3 := xr.f1
  go_wp2_with fail
  have hfin := (xr.set0 (.slice none 0 0)).set1 (.slice none 0 0)
  have f0 := hfin.c0
  have f1 := hfin.c1
  exact bodyPost_ret (v := .tuple #[noLog, .bool false]) (by simp [results, Try.results113, go_sem, f0, f1, noLog]) rfl (made_no' (by omega) B3 rfl)

set_option maxRecDepth 100000 in
set_option maxHeartbeats 1000000 in
theorem spec_TimesOf_nob {w : World} {d0 d1 : LD} {B N : Nat} {Z : Nat → Nat → Int} {y : Nat → Nat} (h0 : d0.At w B) (h1 : d1.At w B) (e0 : d0.ok = true) (e1 : d1.ok = false) :
    Calls Try.prog 113 #[.agg #[d0.u, d0.t], .agg #[d1.u, d1.t]] w (MadeOk w N Z y false) := by
  have xa := TwoAt.new w d0.u d0.t 26
  have ba := (Below.refl w.heap.size w).alloc (Nat.le_refl _) (.cells #[d0.u, d0.t] 26)
  have xb := TwoAt.new (w.alloc (.cells #[d0.u, d0.t] 26)) d1.u d1.t 26
  simp only [World.size_alloc] at xb
  have bb := (Below.refl (w.heap.size + 1) (w.alloc (.cells #[d0.u, d0.t] 26))).alloc (by simp) (.cells #[d1.u, d1.t] 26)
  have bc := (Below.refl (w.heap.size + 1 + 1) ((w.alloc (.cells #[d0.u, d0.t] 26)).alloc (.cells #[d1.u, d1.t] 26))).alloc (by simp) (.cells #[.slice none 0 0, .slice none 0 0] 26)
  have xr := TwoAt.new ((w.alloc (.cells #[d0.u, d0.t] 26)).alloc (.cells #[d1.u, d1.t] 26)) (.slice none 0 0) (.slice none 0 0) 26
  simp only [World.size_alloc] at xr
  replace xa := (xa.below bb (by omega)).below bc (by omega)
  replace xb := xb.below bc (by omega)
  have B0 := (ba.trans (bb.mono (by omega))).trans (bc.mono (by omega))
  have s0 : w.heap.size + 1 + 1 < (((w.alloc (.cells #[d0.u, d0.t] 26)).alloc (.cells #[d1.u, d1.t] 26)).alloc (.cells #[.slice none 0 0, .slice none 0 0] 26)).heap.size := by simp
  have HL0 : Hid (logicB d0.m d0.k d0.z = true) := e0
  have HL1 : Hid (logicB d1.m d1.k d1.z = false) := e1
  have H0 := Lib.hid h0
  have H1 := Lib.hid h1
  clear ba bb bc h0 h1 e0 e1
  go_enter Try.func113, Try.ntmps113
  have q0 := xa.c0
  have q1 := xa.c1
  have q2 := xb.c0
  have q3 := xb.c1
  go_wp2_with fail
  generalize ((w.alloc (.cells #[d0.u, d0.t] 26)).alloc (.cells #[d1.u, d1.t] 26)).alloc (.cells #[.slice none 0 0, .slice none 0 0] 26) = w2 at xa xb xr B0 s0 q0 q1 q2 q3 ⊢
  go_at_call 28
  refine (spec_LogicOk (LogAt.step H0.out B0)).mono ?_
  rintro e w3 ⟨rfl, b3⟩
  rw [HL0.out]
  have s3 := b3.size
  have B3 := B0.trans (b3.mono B0.size)
  replace xa := xa.below b3 (by omega)
  replace xb := xb.below b3 (by omega)
  replace xr := xr.below b3 (by omega)
  clear q0 q1 q2 q3 B0
  have q2 := xb.c0
  have q3 := xb.c1
  go_wp2_with fail
  go_at_call 28
  refine (spec_LogicOk (LogAt.step H1.out B3)).mono ?_
  rintro e w4 ⟨rfl, b4⟩
  rw [HL1.out]
  replace xr := xr.below b4 (by omega)
  replace B3 := B3.trans (b4.mono B3.size)
  clear q2 q3
  have t0 := xr.c0
  have t1 := xr.c1
  have t2 := xr.f0
  have t3 := xr.f1
  go_wp2_with fail
  have hfin := (xr.set0 (.slice none 0 0)).set1 (.slice none 0 0)
  have f0 := hfin.c0
  have f1 := hfin.c1
  exact bodyPost_ret (v := .tuple #[noLog, .bool false]) (by simp [results, Try.results113, go_sem, f0, f1, noLog]) rfl (made_no' (by omega) B3 rfl)

set_option maxRecDepth 100000 in
set_option maxHeartbeats 1000000 in
theorem spec_TimesOf_noc {w : World} {d0 d1 : LD} {B N : Nat} {Z : Nat → Nat → Int} {y : Nat → Nat} (h0 : d0.At w B) (h1 : d1.At w B) (e0 : d0.ok = true) (e1 : d1.ok = true) (hN : ¬ d0.m.n * d1.m.n ≤ 12) :
    Calls Try.prog 113 #[.agg #[d0.u, d0.t], .agg #[d1.u, d1.t]] w (MadeOk w N Z y false) := by
  obtain ⟨_, i0⟩ := LD.isY h0 e0
  obtain ⟨_, i1⟩ := LD.isY h1 e1
  have n0 := i0.hi
  have n1 := i1.hi
  have hm : d0.m.n * d1.m.n ≤ 144 := Nat.le_trans (Nat.mul_le_mul n0.2 n1.2) (by omega)
  obtain ⟨M, hM⟩ : ∃ M, M = d0.m.n * d1.m.n := ⟨_, rfl⟩
  have eN : IntKind.i64.wrap ((d0.k : Int) * (d1.k : Int)) = (M : Int) := by rw [i0.len, i1.len, ← Int.natCast_mul, ← hM]; exact IntWalk.i64_in _ (by omega)
  have e12 : (12 : Int) < (M : Int) := by omega
  clear hM i0 i1 hm hN n0 n1
  have xa := TwoAt.new w d0.u d0.t 26
  have ba := (Below.refl w.heap.size w).alloc (Nat.le_refl _) (.cells #[d0.u, d0.t] 26)
  have xb := TwoAt.new (w.alloc (.cells #[d0.u, d0.t] 26)) d1.u d1.t 26
  simp only [World.size_alloc] at xb
  have bb := (Below.refl (w.heap.size + 1) (w.alloc (.cells #[d0.u, d0.t] 26))).alloc (by simp) (.cells #[d1.u, d1.t] 26)
  have bc := (Below.refl (w.heap.size + 1 + 1) ((w.alloc (.cells #[d0.u, d0.t] 26)).alloc (.cells #[d1.u, d1.t] 26))).alloc (by simp) (.cells #[.slice none 0 0, .slice none 0 0] 26)
  have xr := TwoAt.new ((w.alloc (.cells #[d0.u, d0.t] 26)).alloc (.cells #[d1.u, d1.t] 26)) (.slice none 0 0) (.slice none 0 0) 26
  simp only [World.size_alloc] at xr
  replace xa := (xa.below bb (by omega)).below bc (by omega)
  replace xb := xb.below bc (by omega)
  have B0 := (ba.trans (bb.mono (by omega))).trans (bc.mono (by omega))
  have s0 : w.heap.size + 1 + 1 < (((w.alloc (.cells #[d0.u, d0.t] 26)).alloc (.cells #[d1.u, d1.t] 26)).alloc (.cells #[.slice none 0 0, .slice none 0 0] 26)).heap.size := by simp
  have HL0 : Hid (logicB d0.m d0.k d0.z = true) := e0
  have HL1 : Hid (logicB d1.m d1.k d1.z = true) := e1
  have H0 := Lib.hid h0
  have H1 := Lib.hid h1
  clear ba bb bc h0 h1 e0 e1
  go_enter Try.func113, Try.ntmps113
  have q0 := xa.c0
  have q1 := xa.c1
  have q2 := xb.c0
  have q3 := xb.c1
  go_wp2_with fail
  generalize ((w.alloc (.cells #[d0.u, d0.t] 26)).alloc (.cells #[d1.u, d1.t] 26)).alloc (.cells #[.slice none 0 0, .slice none 0 0] 26) = w2 at xa xb xr B0 s0 q0 q1 q2 q3 ⊢
  go_at_call 28
  refine (spec_LogicOk (LogAt.step H0.out B0)).mono ?_
  rintro e w3 ⟨rfl, b3⟩
  rw [HL0.out]
  have s3 := b3.size
  have B3 := B0.trans (b3.mono B0.size)
  replace xa := xa.below b3 (by omega)
  replace xb := xb.below b3 (by omega)
  replace xr := xr.below b3 (by omega)
  clear q0 q1 q2 q3 B0
  have q2 := xb.c0
  have q3 := xb.c1
  go_wp2_with fail
  go_at_call 28
  refine (spec_LogicOk (LogAt.step H1.out B3)).mono ?_
  rintro e w4 ⟨rfl, b4⟩
  rw [HL1.out]
  replace xr := xr.below b4 (by omega)
  replace B3 := B3.trans (b4.mono B3.size)
  clear q2 q3
  have t0 := xr.c0
  have t1 := xr.c1
  have t2 := xr.f0
  have t3 := xr.f1
  go_wp2_with fail
  have hfin := (xr.set0 (.slice none 0 0)).set1 (.slice none 0 0)
  have f0 := hfin.c0
  have f1 := hfin.c1
  exact bodyPost_ret (v := .tuple #[noLog, .bool false]) (by simp [results, Try.results113, go_sem, f0, f1, noLog]) rfl (made_no' (by omega) B3 rfl)

theorem spec_TimesOf_any {w : World} {d0 d1 : LD} {B : Nat} (h0 : d0.At w B) (h1 : d1.At w B) :
    Calls Try.prog 113 #[.agg #[d0.u, d0.t], .agg #[d1.u, d1.t]] w (MadeOk w (d0.m.n * d1.m.n) (timesZ d1.m.n d0.m.Z d1.m.Z) (timesY d1.m.n d0.y d1.y) (d0.ok && d1.ok && decide (d0.m.n * d1.m.n ≤ 12))) := by
  cases e0 : d0.ok with
  | false => exact spec_TimesOf_noa h0 h1 e0
  | true =>
    cases e1 : d1.ok with
    | false => exact spec_TimesOf_nob h0 h1 e0 e1
    | true =>
      by_cases hN : d0.m.n * d1.m.n ≤ 12
      · obtain ⟨_, i0⟩ := LD.isY h0 e0
        obtain ⟨_, i1⟩ := LD.isY h1 e1
        rw [decide_eq_true hN]
        exact spec_TimesOf_yes i0 i1 hN
      · rw [decide_eq_false hN]
        exact spec_TimesOf_noc h0 h1 e0 e1 hN
end Go.Proofs.Ytojcgmgponnlpaa
