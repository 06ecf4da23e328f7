/- A desk that comes in, opened; the law on DeskOk against the reference. -/
import Derived.Test.YtojcgmgponnlpaaDkg
import Derived.Test.YtojcgmgponnlpaaDkf
import Derived.Test.YtojcgmgponnlpaaKl
import Derived.ChangeSame
namespace Go.Proofs.Ytojcgmgponnlpaa
open Go.ChangeShapes Go.WideShapes Go.RowKit Go.Deep Go.Joins

theorem cellsDesk : Try.prog.cellsOf 44 = 3 := by kernel_rfl
theorem cellsPast : Try.prog.cellsOf 42 = 1 := by kernel_rfl
set_option maxRecDepth 100000 in
theorem open_logicC {H : Type} {enc : TypeId × Value → H} {W : World} {base fuel : Nat} {cs : List Value} {y : DataW H × List MemPlace}
    (h : DataW.trod enc Try.prog W base (fun _ => true) true fuel 41 cs = some y) :
    ∃ (ua : Option Addr) (l : Lay) (m : Mx) (na : Option Addr) (g o k nc : Nat) (z : Nat → Int), cs = [.slice ua m.n l.cap, .slice na k nc] ∧ LogAt W W.heap.size ua l m na g o k z := by
  obtain ⟨y0, y1, n, _, hlen, h0, h1⟩ := trod_struct2 Try.underlying41 h
  rw [cellsLogic] at hlen
  match cs, hlen with
  | [c0, c1], _ =>
    have g0 : DataW.trod enc Try.prog W base (fun _ => true) true n 23 [c0] = some y0 := by simpa [cellsRows] using h0
    have g1 : DataW.trod enc Try.prog W base (fun _ => true) true n 24 [c1] = some y1 := by simpa [cellsInts] using h1
    obtain ⟨a, len, cap, e0⟩ := Joins.slice_form Try.underlying23 g0
    obtain ⟨a', len', cap', e1⟩ := Joins.slice_form Try.underlying24 g1
    simp only [List.cons.injEq, and_true] at e0 e1
    subst e0
    subst e1
    obtain ⟨l, m, rfl, rfl, hm⟩ := open_mx (H := H) (enc := enc) g0
    obtain ⟨g, o, z, hk, hr⟩ := open_row (H := H) (enc := enc) g1
    exact ⟨a, l, m, a', g, o, len', cap', z, rfl, hm.mat, hr, hm.hn, hm.hL, hk, Nat.le_refl _⟩
theorem addr_addC (b o j : Nat) : (⟨b, o, none⟩ : Addr).add j = ⟨b, o + j, none⟩ := by unfold Addr.add; split <;> simp_all
theorem cells_someC {w : World} {base : Nat} {a : Addr} {n : Nat} {cs : List Value} (h : w.cells? base a n = some cs) {j : Nat} {v : Value} (hj : cs[j]? = some v) : w.cell? (a.add j) = some v := by
  obtain ⟨_, hl, hat⟩ := World.cells?_some h
  have hlt : j < n := by have := (List.getElem?_eq_some_iff.1 hj).1; omega
  rw [hat j hlt]; exact hj
set_option maxRecDepth 100000 in
theorem open_logics {H : Type} {enc : TypeId × Value → H} {W : World} {base fuel : Nat} {a : Option Addr} {len cap : Nat} {x : DataW H × List MemPlace}
    (h : DataW.trod enc Try.prog W base (fun _ => true) true fuel 42 [.slice a len cap] = some x) :
    ∃ (g o : Nat) (P : List Lc), P.length = len ∧ len ≤ 9223372036854775807 ∧ PsAt W W.heap.size a g o P := by
  rcases open_slice Try.underlying42 h with ⟨hcs, _⟩ | ⟨a', len', cap', m, n', Dd', Pl, hcs, _, hl, hm, hmm, _, hel⟩
  · simp only [List.cons.injEq, and_true, Value.slice.injEq] at hcs
    obtain ⟨rfl, rfl, rfl⟩ := hcs
    exact ⟨0, 0, [], rfl, Nat.zero_le _, PsAt.nil _ _ _ _ _⟩
  · simp only [List.cons.injEq, and_true, Value.slice.injEq] at hcs
    obtain ⟨rfl, rfl, rfl⟩ := hcs
    simp only [if_true] at hmm
    have hml : maxLen = 9223372036854775807 := rfl
    have hall : ∀ i, i < len → ∃ c : Lc, ∃ u t, W.cell? (a'.add (i * 2)) = some u ∧ W.cell? ((a'.add (i * 2)).add 1) = some t ∧ CAt W W.heap.size u t c := fun i hi => by
      obtain ⟨cs', hc, ht⟩ := hel i (by omega)
      rw [cellsLogic] at hc
      obtain ⟨ua, l, mm, na, g, o, k, nc, z, rfl, hL⟩ := open_logicC ht
      have g0 := cells_someC hc (j := 0) rfl
      rw [Go.Deep.add_add] at g0
      exact ⟨⟨mm, k, z⟩, _, _, by simpa using g0, cells_someC hc (j := 1) rfl, ua, l, na, g, o, nc, rfl, rfl, hL⟩
    have hall2 : ∀ i, ∃ c : Lc, i < len → ∃ u t, W.cell? (a'.add (i * 2)) = some u ∧ W.cell? ((a'.add (i * 2)).add 1) = some t ∧ CAt W W.heap.size u t c := fun i => by
      by_cases hi : i < len
      · obtain ⟨d, hd⟩ := hall i hi
        exact ⟨d, fun _ => hd⟩
      · exact ⟨zeroC, fun h => absurd h hi⟩
    obtain ⟨F, hF⟩ : ∃ F : Nat → Lc, ∀ i, i < len → ∃ u t, W.cell? (a'.add (i * 2)) = some u ∧ W.cell? ((a'.add (i * 2)).add 1) = some t ∧ CAt W W.heap.size u t (F i) := ⟨fun i => Classical.choose (hall2 i), fun i hi => Classical.choose_spec (hall2 i) hi⟩
    refine ⟨a'.block, a'.off, (List.range len).map F, by simp, by omega, fun j d hd => ?_⟩
    rw [List.getElem?_map] at hd
    have hj : j < len := by
      apply Classical.byContradiction
      intro hn
      rw [List.getElem?_eq_none (by rw [List.length_range]; omega)] at hd
      cases hd
    rw [List.getElem?_eq_getElem (by rw [List.length_range]; exact hj), List.getElem_range] at hd
    obtain rfl : F j = d := Option.some.inj hd
    obtain ⟨u, t, h0, h1, h2⟩ := hF j hj
    obtain ⟨b, o, sp⟩ := a'
    have hs : sp = none := by
      obtain ⟨u', t', k0, _⟩ := hF 0 (by omega)
      simpa [Addr.add] using World.cell?_spot k0
    subst hs
    rw [addr_addC] at h0 h1
    rw [addr_addC] at h1
    exact ⟨rfl, World.block_lt_of_cell? W ⟨b, o + j * 2, none⟩ h0, u, t, h0, h1, h2⟩
set_option maxRecDepth 100000 in
theorem open_desk {H : Type} {enc : TypeId × Value → H} {W : World} {base b0 : Nat} {v : Value} {d : DataW H} {p : List MemPlace}
    (hv : Value.okWide Try.prog W .any b0 44 v) (h : DataW.Trod enc Try.prog W base (fun _ => true) true 44 v d p) : ∃ D : Dk Lc, DeskAt W W.heap.size v D := by
  obtain ⟨cs, rfl, hsz⟩ := okWide_struct Try.underlying44 hv
  obtain ⟨c0, c1, c2, rfl⟩ := array3 (hsz.trans cellsDesk)
  obtain ⟨fuel, hf⟩ := h
  obtain ⟨y0, y1, n, _, _, h0, h1⟩ := trod_struct2 Try.underlying44 hf
  have g0 : DataW.trod enc Try.prog W base (fun _ => true) true n 41 [c0, c1] = some y0 := by
    rw [cellsLogic] at h0
    exact h0
  have g1 : DataW.trod enc Try.prog W base (fun _ => true) true n 42 [c2] = some y1 := by
    rw [cellsPast] at h1
    exact h1
  obtain ⟨ua, l, m, na, g, o, k, nc, z, e, hL⟩ := open_logicC g0
  simp only [List.cons.injEq, and_true] at e
  obtain ⟨rfl, rfl⟩ := e
  obtain ⟨a, len, cap, e1⟩ := Joins.slice_form Try.underlying42 g1
  simp only [List.cons.injEq, and_true] at e1
  subst e1
  obtain ⟨pg, po, P, hlen, h63, hP⟩ := open_logics (H := H) (enc := enc) g1
  exact ⟨⟨⟨m, k, z⟩, P⟩, ua, l, na, g, o, nc, a, pg, po, cap, by rw [hlen], hL, hP, by show P.length ≤ _; omega⟩
theorem DeskAt.form {w : World} {B : Nat} {v : Value} {D : Dk Lc} (h : DeskAt w B v D) : ∃ (ua : Option Addr) (n c : Nat) (na : Option Addr) (k nc : Nat) (pa : Option Addr) (p pc : Nat), v = .agg #[.slice ua n c, .slice na k nc, .slice pa p pc] := by
  obtain ⟨ua, l, na, g, o, nc, pa, pg, po, pc, rfl, _⟩ := h
  exact ⟨_, _, _, _, _, _, _, _, _, rfl⟩
set_option maxRecDepth 100000 in
set_option maxHeartbeats 4000000 in
theorem law_ExactDeskOk {w : World} {v : Value} {D : Dk Lc} (h : DeskAt w w.heap.size v D) :
    Calls Try.prog 5 #[v] w fun e w' => e = .returned (.bool true) ∧ Below w.heap.size w w' := by
  obtain ⟨ua, n, c, na, k, nc, pa, p, pc, rfl⟩ := h.form
  have X := BoxN.start w #[.slice ua n c, .slice na k nc, .slice pa p pc] 44
  have B0 := X.below
  have H0 := Lib.hid (h.step B0)
  have q0 := X.cell 0 rfl
  have q1 := X.cell 1 rfl
  have q2 := X.cell 2 rfl
  clear h
  go_enter Try.func5, Try.ntmps5
  go_wp2_with fail
  generalize w.alloc (.cells #[.slice ua n c, .slice na k nc, .slice pa p pc] 44) = W at X B0 H0 q0 q1 q2 ⊢
  go_at_call 18
  refine (szDesk_any (by omega) (by omega) H0.out).mono ?_
  rintro e w1 ⟨⟨x, rfl, hx⟩, b1⟩
  have X1 := X.step b1
  have H1 := Lib.hid (H0.out.step b1)
  have B1 := B0.trans (b1.mono B0.size)
  clear q0 q1 q2 X H0
  have q0 := X1.cell 0 rfl
  have q1 := X1.cell 1 rfl
  have q2 := X1.cell 2 rfl
  by_cases hneg : x < 0
  · clear hx
    go_wp2_with fail
    go_ret
    exact ⟨rfl, B1⟩
  · obtain ⟨_, _, hsm⟩ := hx.resolve_left hneg
    have SM := Lib.hid hsm
    clear hx hsm
    go_wp2_with fail
    go_at_call 19
    refine (toDesk_any H1.out SM.out).mono ?_
    rintro e w2 ⟨v2, rfl, hW2, b2⟩
    obtain ⟨ua2, n2, c2, na2, k2, nc2, pa2, p2, pc2, rfl⟩ := hW2.form
    have X2 := X1.step b2
    have H2 := Lib.hid (H1.out.step b2)
    have B2 := B1.trans (b2.mono B1.size)
    have A2 := Lib.hid hW2.at_
    clear q0 q1 q2 X1 H1 hW2
    have q0 := X2.cell 0 rfl
    have q1 := X2.cell 1 rfl
    have q2 := X2.cell 2 rfl
    go_wp2_with fail
    go_at_call 9
    refine (spec_DeskOk A2.out).mono ?_
    rintro e w3 ⟨rfl, b3⟩
    have X3 := X2.step b3
    have H3 := Lib.hid (H2.out.step b3)
    have B3 := B2.trans (b3.mono B2.size)
    clear q0 q1 q2 X2 H2 A2
    have q0 := X3.cell 0 rfl
    have q1 := X3.cell 1 rfl
    have q2 := X3.cell 2 rfl
    go_wp2_with fail
    go_at_call 19
    refine (toDesk_any H3.out SM.out).mono ?_
    rintro e w4 ⟨v4, rfl, hW4, b4⟩
    obtain ⟨ua4, n4, c4, na4, k4, nc4, pa4, p4, pc4, rfl⟩ := hW4.form
    have X4 := X3.step b4
    have B4 := B3.trans (b4.mono B3.size)
    have Y := BoxN.start w4 #[.slice ua4 n4 c4, .slice na4 k4 nc4, .slice pa4 p4 pc4] 29
    have X5 := X4.step Y.below
    have H5 := Lib.hid ((H3.out.step b4).step Y.below)
    have G5 := Lib.hid (hW4.at_.step Y.below)
    have B5 := B4.trans (Y.below.mono B4.size)
    clear q0 q1 q2 X3 H3 X4 hW4
    have q0 := X5.cell 0 rfl
    have q1 := X5.cell 1 rfl
    have q2 := X5.cell 2 rfl
    have y0 := Y.cell 0 rfl
    have y1 := Y.cell 1 rfl
    have y2 := Y.cell 2 rfl
    go_wp2_with fail
    generalize w4.alloc (.cells #[.slice ua4 n4 c4, .slice na4 k4 nc4, .slice pa4 p4 pc4] 29) = w5 at Y X5 H5 G5 B5 q0 q1 q2 y0 y1 y2 ⊢
    go_at_call 8
    refine (DeskOk_any G5.out).mono ?_
    rintro e w6 ⟨rfl, b6⟩
    have X6 := X5.step (b6.drew)
    have Y6 := Y.step (b6.drew)
    have H6 := Lib.hid (H5.out.step (b6.drew))
    have G6 := Lib.hid (G5.out.step (b6.drew))
    have B6 := B5.trans ((b6.drew).mono B5.size)
    clear q0 q1 q2 y0 y1 y2 X5 Y H5 G5
    have e0 : (D.okB != D.okB) = false := by simp
    go_wp2_with fail
    clear e0
    have K0 : (fun w' => (w'.cell? ⟨w.heap.size, 0, none⟩ = some (.slice ua n c) ∧ w'.cell? ⟨w.heap.size, 1, none⟩ = some (.slice na k nc) ∧ w'.cell? ⟨w.heap.size, 2, none⟩ = some (.slice pa p pc)) ∧ w'.cell? ⟨w4.heap.size, 0, none⟩ = some (.slice ua4 n4 c4) ∧ w'.cell? ⟨w4.heap.size, 1, none⟩ = some (.slice na4 k4 nc4) ∧ w'.cell? ⟨w4.heap.size, 2, none⟩ = some (.slice pa4 p4 pc4)) w6.drew := ⟨⟨X6.cell 0 rfl, X6.cell 1 rfl, X6.cell 2 rfl⟩, Y6.cell 0 rfl, Y6.cell 1 rfl, Y6.cell 2 rfl⟩
    refine region_plain (fuel := 5) (listed := #[false, false, false, false, false]) (fun w' => (w'.cell? ⟨w.heap.size, 0, none⟩ = some (.slice ua n c) ∧ w'.cell? ⟨w.heap.size, 1, none⟩ = some (.slice na k nc) ∧ w'.cell? ⟨w.heap.size, 2, none⟩ = some (.slice pa p pc)) ∧ w'.cell? ⟨w4.heap.size, 0, none⟩ = some (.slice ua4 n4 c4) ∧ w'.cell? ⟨w4.heap.size, 1, none⟩ = some (.slice na4 k4 nc4) ∧ w'.cell? ⟨w4.heap.size, 2, none⟩ = some (.slice pa4 p4 pc4)) (by kernel_rfl) (by kernel_rfl) (by kernel_rfl) ?_
    refine hold_take (i := 0) (d := 22) (v := ?vX0) (listed' := #[true, false, false, false, false]) rfl (by kernel_rfl) (by kernel_rfl) (by kernel_rfl) rfl (by rfl) (by kernel_rfl) K0 ?hX0 ?rX0
    case hX0 =>
      intro w' hSw
      obtain ⟨⟨k0, k1, k2⟩, k3, k4, k5⟩ := hSw
      go_simp
      try with_reducible rfl
    simp only [List.setIfInBounds_toArray, List.set_cons_zero, List.set_cons_succ]
    refine hold_take (i := 1) (d := 23) (v := ?vX1) (listed' := #[true, true, false, false, false]) rfl (by kernel_rfl) (by kernel_rfl) (by kernel_rfl) rfl (by rfl) (by kernel_rfl) K0 ?hX1 ?rX1
    case hX1 =>
      intro w' hSw
      obtain ⟨⟨k0, k1, k2⟩, k3, k4, k5⟩ := hSw
      go_simp
      try with_reducible rfl
    simp only [List.setIfInBounds_toArray, List.set_cons_zero, List.set_cons_succ]
    refine hold_call (i := 2) (d := 24) (listed' := #[true, true, true, false, false]) rfl (by kernel_rfl) rfl (by rfl) (by kernel_rfl) ?heX2 (toDesk_any H6.out SM.out) ?hcX2
    case heX2 => go_simp
    rintro e w7 ⟨v7, rfl, hW7, b7⟩
    obtain ⟨ua7, n7, c7, na7, k7, nc7, pa7, p7, pc7, rfl⟩ := hW7.form
    have X7 := X6.step b7
    have Y7 := Y6.step b7
    have Z7 := Lib.hid (G6.out.step b7)
    have B7 := B6.trans (b7.mono B6.size)
    have Kw7 : (fun w' => (w'.cell? ⟨w.heap.size, 0, none⟩ = some (.slice ua n c) ∧ w'.cell? ⟨w.heap.size, 1, none⟩ = some (.slice na k nc) ∧ w'.cell? ⟨w.heap.size, 2, none⟩ = some (.slice pa p pc)) ∧ w'.cell? ⟨w4.heap.size, 0, none⟩ = some (.slice ua4 n4 c4) ∧ w'.cell? ⟨w4.heap.size, 1, none⟩ = some (.slice na4 k4 nc4) ∧ w'.cell? ⟨w4.heap.size, 2, none⟩ = some (.slice pa4 p4 pc4)) w7 := ⟨⟨X7.cell 0 rfl, X7.cell 1 rfl, X7.cell 2 rfl⟩, Y7.cell 0 rfl, Y7.cell 1 rfl, Y7.cell 2 rfl⟩
    have HW7 := Lib.hid hW7.at_
    clear hW7
    refine ⟨_, rfl, Kw7, ?_⟩
    simp only [List.setIfInBounds_toArray, List.set_cons_zero, List.set_cons_succ]
    refine hold_call (i := 3) (d := 25) (listed' := #[true, true, true, true, false]) rfl (by kernel_rfl) rfl (by rfl) (by kernel_rfl) ?heX3 (eqDesk_any Z7.out HW7.out) ?hcX3
    case heX3 => go_simp
    rintro e w8 ⟨rfl, b8⟩
    have X8 := X7.step b8
    have Y8 := Y7.step b8
    have Kw8 : (fun w' => (w'.cell? ⟨w.heap.size, 0, none⟩ = some (.slice ua n c) ∧ w'.cell? ⟨w.heap.size, 1, none⟩ = some (.slice na k nc) ∧ w'.cell? ⟨w.heap.size, 2, none⟩ = some (.slice pa p pc)) ∧ w'.cell? ⟨w4.heap.size, 0, none⟩ = some (.slice ua4 n4 c4) ∧ w'.cell? ⟨w4.heap.size, 1, none⟩ = some (.slice na4 k4 nc4) ∧ w'.cell? ⟨w4.heap.size, 2, none⟩ = some (.slice pa4 p4 pc4)) w8 := ⟨⟨X8.cell 0 rfl, X8.cell 1 rfl, X8.cell 2 rfl⟩, Y8.cell 0 rfl, Y8.cell 1 rfl, Y8.cell 2 rfl⟩
    have B8 := B7.trans (b8.mono B7.size)
    refine ⟨_, rfl, Kw8, ?_⟩
    simp only [List.setIfInBounds_toArray, List.set_cons_zero, List.set_cons_succ]
    refine hold_take (i := 4) (d := 26) (v := ?vX4) (listed' := #[true, true, true, true, true]) rfl (by kernel_rfl) (by kernel_rfl) (by kernel_rfl) rfl (by rfl) (by kernel_rfl) Kw8 ?hX4 ?rX4
    case hX4 =>
      intro w' hSw
      obtain ⟨⟨k0, k1, k2⟩, k3, k4, k5⟩ := hSw
      go_simp
      try with_reducible rfl
    simp only [List.setIfInBounds_toArray, List.set_cons_zero, List.set_cons_succ]
    refine hold_done (by kernel_rfl) ?_ _
    go_wp2_with fail
    go_ret
    exact ⟨rfl, B8⟩
end Go.Proofs.Ytojcgmgponnlpaa
