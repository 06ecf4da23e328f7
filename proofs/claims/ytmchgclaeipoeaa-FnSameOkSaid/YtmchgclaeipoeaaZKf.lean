import Derived.Test.YtmchgclaeipoeaaZKb
import Derived.Test.YtmchgclaeipoeaaZAa
namespace Go.Proofs.Ytmchgclaeipoeaa
open Go.RowKit Go.Deep

set_option maxRecDepth 100000 in
set_option maxHeartbeats 2000000 in
theorem noYes_any {w : World} {B ob tb g o nc n0 : Nat} {tG : Nat → Nat} {ua : Option Addr} {l : Lay} {m : Mx} {z : Nat → Int} {y : Nat → Nat} (h : AL w B ob tb tG ua l m g o z y n0) (x : Int) (v : Nat) (hx : (x = 0 ∧ v = n0) ∨ (x = 1 ∧ v = y n0)) :
    Calls Try.prog 43 #[.agg #[.slice ua m.n l.cap, .slice (some ⟨g, o, none⟩) m.n nc, .slice (some ⟨ob, 0, none⟩) 2 2], .int .i64 x] w fun e w' => e = .returned (.int .i64 (v : Int)) ∧ Below w.heap.size w w' := by
  have hX := BoxN.start w #[.slice ua m.n l.cap, .slice (some ⟨g, o, none⟩) m.n nc, .slice (some ⟨ob, 0, none⟩) 2 2] 42
  have BX := hX.below
  have HL := Lib.hid (h.step BX)
  have q0 := hX.cell 0 rfl
  have HQ := Lib.hid (least_sq HL.out.S)
  have hn0 := h.O.ho
  have hln : leastI m = (n0 : Int) := h.O.eq
  have hn12 := h.O.lat.order.top
  have hn0' : (n0 : Int) < m.n := by omega
  have hh : hasI (leastI m) = true := by rw [hln]; unfold hasI; exact decide_eq_true (by omega)
  rcases hx with ⟨rfl, rfl⟩ | ⟨rfl, rfl⟩
  · go_enter Try.func43, Try.ntmps43
    go_wp2_with fail
    go_at_call 59
    refine HQ.out.mono ?_
    rintro e w2 ⟨rfl, b2⟩
    rw [hln]
    have B2 := BX.trans (b2.mono BX.size)
    clear q0 hX
    go_wp2_with fail
    go_returns
    exact ⟨rfl, B2⟩
  · go_enter Try.func43, Try.ntmps43
    go_wp2_with fail
    go_at_call 59
    refine HQ.out.mono ?_
    rintro e w2 ⟨rfl, b2⟩
    rw [hln]
    have B2 := BX.trans (b2.mono BX.size)
    have q1 := (hX.step b2).cell 1 rfl
    have c1 := (HL.out.step b2).notAt hn0
    clear q0 hX
    go_wp2_with fail
    go_returns
    exact ⟨rfl, B2⟩
theorem as_letter_letter (v : Value) (w : World) : (Instr.typeAssert (.iface 78 v) 46 78 true).run Try.prog w = .ok (.tuple #[v, .bool true]) w := by kernel_rfl
theorem as_bound_letter (v : Value) (w : World) : (Instr.typeAssert (.iface 79 v) 46 78 true).run Try.prog w = .ok (.tuple #[.int .i64 0, .bool false]) w := by kernel_rfl
theorem as_bound_bound (v : Value) (w : World) : (Instr.typeAssert (.iface 79 v) 46 79 true).run Try.prog w = .ok (.tuple #[v, .bool true]) w := by kernel_rfl
theorem as_opposed_letter (v : Value) (w : World) : (Instr.typeAssert (.iface 82 v) 46 78 true).run Try.prog w = .ok (.tuple #[.int .i64 0, .bool false]) w := by kernel_rfl
theorem as_opposed_bound (v : Value) (w : World) : (Instr.typeAssert (.iface 82 v) 46 79 true).run Try.prog w = .ok (.tuple #[.int .i64 0, .bool false]) w := by kernel_rfl
theorem as_opposed_opposed (v : Value) (w : World) : (Instr.typeAssert (.iface 82 v) 46 82 true).run Try.prog w = .ok (.tuple #[v, .bool true]) w := by kernel_rfl
theorem as_compound_letter (v : Value) (w : World) : (Instr.typeAssert (.iface 84 v) 46 78 true).run Try.prog w = .ok (.tuple #[.int .i64 0, .bool false]) w := by kernel_rfl
theorem as_compound_bound (v : Value) (w : World) : (Instr.typeAssert (.iface 84 v) 46 79 true).run Try.prog w = .ok (.tuple #[.int .i64 0, .bool false]) w := by kernel_rfl
theorem as_compound_opposed (v : Value) (w : World) : (Instr.typeAssert (.iface 84 v) 46 82 true).run Try.prog w = .ok (.tuple #[.agg #[.nilIface], .bool false]) w := by kernel_rfl
theorem as_compound_compound (v : Value) (w : World) : (Instr.typeAssert (.iface 84 v) 46 84 true).run Try.prog w = .ok (.tuple #[v, .bool true]) w := by kernel_rfl
/-- What the program's value of a formula is. -/
def ValC (f : Fm) : Prop := ∀ {w : World} {B ob tb g o nc n0 : Nat} {tG : Nat → Nat} {ua : Option Addr} {l : Lay} {m : Mx} {z : Nat → Int} {y : Nat → Nat} {a b d : Nat}, AL w B ob tb tG ua l m g o z y n0 → a < m.n → b < m.n → d < m.n →
    Calls Try.prog 19 #[.agg #[.slice ua m.n l.cap, .slice (some ⟨g, o, none⟩) m.n nc, .slice (some ⟨ob, 0, none⟩) 2 2], fmV f, .agg #[.int .i64 (a : Int), .int .i64 (b : Int), .int .i64 (d : Int)]] w fun e w' => e = .returned (.int .i64 ((valN m y n0 a b d f : Nat) : Int)) ∧ Below w.heap.size w w'
set_option maxRecDepth 100000 in
set_option maxHeartbeats 2000000 in
theorem val_la : ValC .la := by
  intro w B ob tb g o nc n0 tG ua l m z y a b d h ha hb hd
  have HL := Lib.hid h
  clear h
  show Calls Try.prog _ #[_, .iface 78 (.int .i64 0), _] w _
  have hletter := as_letter_letter
  go_enter Try.func19, Try.ntmps19
  go_wp2_with fail
  go_returns
  exact ⟨rfl, ((Below.refl w.heap.size w).alloc (Nat.le_refl _) _).alloc (by simp) _⟩
set_option maxRecDepth 100000 in
set_option maxHeartbeats 2000000 in
theorem val_lb : ValC .lb := by
  intro w B ob tb g o nc n0 tG ua l m z y a b d h ha hb hd
  have HL := Lib.hid h
  clear h
  show Calls Try.prog _ #[_, .iface 78 (.int .i64 1), _] w _
  have hletter := as_letter_letter
  go_enter Try.func19, Try.ntmps19
  go_wp2_with fail
  go_returns
  exact ⟨rfl, ((Below.refl w.heap.size w).alloc (Nat.le_refl _) _).alloc (by simp) _⟩
set_option maxRecDepth 100000 in
set_option maxHeartbeats 2000000 in
theorem val_lc : ValC .lc := by
  intro w B ob tb g o nc n0 tG ua l m z y a b d h ha hb hd
  have HL := Lib.hid h
  clear h
  show Calls Try.prog _ #[_, .iface 78 (.int .i64 2), _] w _
  have hletter := as_letter_letter
  go_enter Try.func19, Try.ntmps19
  go_wp2_with fail
  go_returns
  exact ⟨rfl, ((Below.refl w.heap.size w).alloc (Nat.le_refl _) _).alloc (by simp) _⟩
set_option maxRecDepth 100000 in
set_option maxHeartbeats 2000000 in
theorem val_no : ValC .no := by
  intro w B ob tb g o nc n0 tG ua l m z y a b d h ha hb hd
  have HL := Lib.hid h
  have bx := ((Below.refl w.heap.size w).alloc (Nat.le_refl _) (.cells #[.slice ua m.n l.cap, .slice (some ⟨g, o, none⟩) m.n nc, .slice (some ⟨ob, 0, none⟩) 2 2] 42)).alloc (by simp) (.cells #[.int .i64 (a : Int), .int .i64 (b : Int), .int .i64 (d : Int)] 50)
  have HB := Lib.hid (h.step bx)
  clear h
  show Calls Try.prog _ #[_, .iface 79 (.int .i64 0), _] w _
  have hletter := as_bound_letter
  have hbound := as_bound_bound
  go_enter Try.func19, Try.ntmps19
  go_wp2_with fail
  go_at_call 43
  refine (noYes_any HB.out 0 _ (.inl ⟨rfl, rfl⟩)).mono ?_
  rintro e w2 ⟨rfl, b2⟩
  have B2 := bx.trans (b2.mono bx.size)
  go_wp2_with fail
  go_returns
  exact ⟨rfl, B2⟩
set_option maxRecDepth 100000 in
set_option maxHeartbeats 2000000 in
theorem val_yes : ValC .yes := by
  intro w B ob tb g o nc n0 tG ua l m z y a b d h ha hb hd
  have HL := Lib.hid h
  have bx := ((Below.refl w.heap.size w).alloc (Nat.le_refl _) (.cells #[.slice ua m.n l.cap, .slice (some ⟨g, o, none⟩) m.n nc, .slice (some ⟨ob, 0, none⟩) 2 2] 42)).alloc (by simp) (.cells #[.int .i64 (a : Int), .int .i64 (b : Int), .int .i64 (d : Int)] 50)
  have HB := Lib.hid (h.step bx)
  clear h
  show Calls Try.prog _ #[_, .iface 79 (.int .i64 1), _] w _
  have hletter := as_bound_letter
  have hbound := as_bound_bound
  go_enter Try.func19, Try.ntmps19
  go_wp2_with fail
  go_at_call 43
  refine (noYes_any HB.out 1 _ (.inr ⟨rfl, rfl⟩)).mono ?_
  rintro e w2 ⟨rfl, b2⟩
  have B2 := bx.trans (b2.mono bx.size)
  go_wp2_with fail
  go_returns
  exact ⟨rfl, B2⟩
/-- Three boxes made one after the other. -/
structure Box3 (w : World) (c1 : Array Value) (t1 : TypeId) (c2 : Array Value) (t2 : TypeId) (c3 : Array Value) (t3 : TypeId) (wr : World) : Prop where
  since : Below (w.heap.size + 3) (((w.alloc (.cells c1 t1)).alloc (.cells c2 t2)).alloc (.cells c3 t3)) wr
section
variable {w wr : World} {c1 c2 c3 : Array Value} {t1 t2 t3 : TypeId}
theorem Box3.start (w : World) (c1 : Array Value) (t1 : TypeId) (c2 : Array Value) (t2 : TypeId) (c3 : Array Value) (t3 : TypeId) : Box3 w c1 t1 c2 t2 c3 t3 (((w.alloc (.cells c1 t1)).alloc (.cells c2 t2)).alloc (.cells c3 t3)) := ⟨Below.refl _ _⟩
theorem Box3.size (h : Box3 w c1 t1 c2 t2 c3 t3 wr) : w.heap.size + 3 ≤ wr.heap.size := by
  have := h.since.size
  simp at this
  omega
theorem Box3.step {w1 : World} (h : Box3 w c1 t1 c2 t2 c3 t3 wr) (k : Below wr.heap.size wr w1) : Box3 w c1 t1 c2 t2 c3 t3 w1 := ⟨h.since.trans (k.mono h.size)⟩
theorem Box3.cell1 (h : Box3 w c1 t1 c2 t2 c3 t3 wr) (i : Nat) {v : Value} (hv : c1[i]? = some v) : wr.cell? ⟨w.heap.size, i, none⟩ = some v :=
  (h.since.cell (p := ⟨w.heap.size, i, none⟩) (by show w.heap.size < _; omega)).trans (((((BoxN.start w c1 t1).step ((Below.refl _ _).alloc (Nat.le_refl _) (.cells c2 t2))).step ((Below.refl _ _).alloc (Nat.le_refl _) (.cells c3 t3)))).cell i hv)
theorem Box3.cell2 (h : Box3 w c1 t1 c2 t2 c3 t3 wr) (i : Nat) {v : Value} (hv : c2[i]? = some v) : wr.cell? ⟨w.heap.size + 1, i, none⟩ = some v := by
  refine (h.since.cell (p := ⟨w.heap.size + 1, i, none⟩) (by show w.heap.size + 1 < _; omega)).trans ?_
  have e := ((BoxN.start (w.alloc (.cells c1 t1)) c2 t2).step ((Below.refl _ _).alloc (Nat.le_refl _) (.cells c3 t3))).cell i hv
  rw [World.size_alloc] at e
  exact e
theorem Box3.cell3 (h : Box3 w c1 t1 c2 t2 c3 t3 wr) (i : Nat) {v : Value} (hv : c3[i]? = some v) : wr.cell? ⟨w.heap.size + 1 + 1, i, none⟩ = some v := by
  refine (h.since.cell (p := ⟨w.heap.size + 1 + 1, i, none⟩) (by show w.heap.size + 1 + 1 < _; omega)).trans ?_
  have e := (BoxN.start ((w.alloc (.cells c1 t1)).alloc (.cells c2 t2)) c3 t3).cell i hv
  rw [World.size_alloc, World.size_alloc] at e
  exact e
theorem Box3.below (h : Box3 w c1 t1 c2 t2 c3 t3 wr) : Below w.heap.size w wr :=
  ((((Below.refl w.heap.size w).alloc (Nat.le_refl _) (.cells c1 t1)).alloc (by simp) (.cells c2 t2)).alloc (by simp; omega) (.cells c3 t3)).trans (h.since.mono (by omega))
end
set_option maxRecDepth 100000 in
set_option maxHeartbeats 4000000 in
theorem val_neg {f : Fm} (IHf : ValC f) : ValC (.neg f) := by
  intro w B ob tb g o nc n0 tG ua l m z y a b d h ha hb hd
  have hlt := h.O.val_lt ha hb hd
  have HL := Lib.hid h
  have hn12 := h.O.lat.order.top
  clear h
  show Calls Try.prog _ #[_, .iface 82 (.agg #[fmV f]), _] w _
  have hletter := as_opposed_letter
  have hbound := as_opposed_bound
  have hopposed := as_opposed_opposed
  obtain ⟨tf, vf, ef⟩ := fmV_iface f
  rw [ef]
  have EF := Lib.hid ef
  clear ef
  have hX := Box3.start w #[.slice ua m.n l.cap, .slice (some ⟨g, o, none⟩) m.n nc, .slice (some ⟨ob, 0, none⟩) 2 2] 42 #[.int .i64 (a : Int), .int .i64 (b : Int), .int .i64 (d : Int)] 50 #[.iface tf vf] 82
  have If : Hid (∀ W, AL W B ob tb tG ua l m g o z y n0 → Calls Try.prog 19 #[.agg #[.slice ua m.n l.cap, .slice (some ⟨g, o, none⟩) m.n nc, .slice (some ⟨ob, 0, none⟩) 2 2], .iface tf vf, .agg #[.int .i64 (a : Int), .int .i64 (b : Int), .int .i64 (d : Int)]] W fun e w' => e = .returned (.int .i64 ((valN m y n0 a b d f : Nat) : Int)) ∧ Below W.heap.size W w') := fun W hW => by
    have h9 := IHf (nc := nc) hW ha hb hd
    rw [EF.out] at h9
    exact h9
  obtain ⟨V, hV⟩ : ∃ V, valN m y n0 a b d f = V := ⟨_, rfl⟩
  have hVlt : V < m.n := by rw [← hV]; exact hlt f
  have hVlt' : (V : Int) < m.n := by omega
  have hYV : valN m y n0 a b d (.neg f) = y V := by show y _ = _; rw [hV]
  have HYV := Lib.hid hYV
  clear hYV hlt
  go_enter Try.func19, Try.ntmps19
  go_wp2_with fail
  generalize (((w.alloc (.cells #[.slice ua m.n l.cap, .slice (some ⟨g, o, none⟩) m.n nc, .slice (some ⟨ob, 0, none⟩) 2 2] 42)).alloc (.cells #[.int .i64 (a : Int), .int .i64 (b : Int), .int .i64 (d : Int)] 50)).alloc (.cells #[.iface tf vf] 82)) = W at hX ⊢
  have hX0 := hX.step (Below.refl _ W).drew
  have L0 := Lib.hid (HL.out.step hX0.below)
  clear hX HL
  have S0 : (fun w' => w'.cell? ⟨w.heap.size, 0, none⟩ = some (.slice ua m.n l.cap) ∧ w'.cell? ⟨w.heap.size, 1, none⟩ = some (.slice (some ⟨g, o, none⟩) m.n nc) ∧ w'.cell? ⟨w.heap.size, 2, none⟩ = some (.slice (some ⟨ob, 0, none⟩) 2 2) ∧ w'.cell? ⟨w.heap.size + 1, 0, none⟩ = some (.int .i64 (a : Int)) ∧ w'.cell? ⟨w.heap.size + 1, 1, none⟩ = some (.int .i64 (b : Int)) ∧ w'.cell? ⟨w.heap.size + 1, 2, none⟩ = some (.int .i64 (d : Int)) ∧ w'.cell? ⟨w.heap.size + 1 + 1, 0, none⟩ = some (.iface tf vf) ∧ w'.cell? ⟨g, o + V, none⟩ = some (.int .i64 ((y V : Nat) : Int))) W.drew := ⟨hX0.cell1 0 rfl, hX0.cell1 1 rfl, hX0.cell1 2 rfl, hX0.cell2 0 rfl, hX0.cell2 1 rfl, hX0.cell2 2 rfl, hX0.cell3 0 rfl, L0.out.notAt hVlt⟩
  refine region_plain (fuel := 10) (listed := #[false, false, false, false, false, false, false, false, false, false]) (fun w' => w'.cell? ⟨w.heap.size, 0, none⟩ = some (.slice ua m.n l.cap) ∧ w'.cell? ⟨w.heap.size, 1, none⟩ = some (.slice (some ⟨g, o, none⟩) m.n nc) ∧ w'.cell? ⟨w.heap.size, 2, none⟩ = some (.slice (some ⟨ob, 0, none⟩) 2 2) ∧ w'.cell? ⟨w.heap.size + 1, 0, none⟩ = some (.int .i64 (a : Int)) ∧ w'.cell? ⟨w.heap.size + 1, 1, none⟩ = some (.int .i64 (b : Int)) ∧ w'.cell? ⟨w.heap.size + 1, 2, none⟩ = some (.int .i64 (d : Int)) ∧ w'.cell? ⟨w.heap.size + 1 + 1, 0, none⟩ = some (.iface tf vf) ∧ w'.cell? ⟨g, o + V, none⟩ = some (.int .i64 ((y V : Nat) : Int))) (by kernel_rfl) (by kernel_rfl) (by kernel_rfl) ?_
  refine hold_take (i := 0) (d := 27) (v := ?vT0) (listed' := #[true, false, false, false, false, false, false, false, false, false]) rfl (by kernel_rfl) (by kernel_rfl) (by kernel_rfl) rfl (by rfl) (by kernel_rfl) S0 ?hT0 ?rT0
  case hT0 =>
    intro w' hSw
    obtain ⟨k0, k1, k2, k3, k4, k5, k6, k7⟩ := hSw
    go_simp
    try with_reducible rfl
  simp only [List.setIfInBounds_toArray, List.set_cons_zero, List.set_cons_succ]
  refine hold_take (i := 1) (d := 28) (v := ?vT1) (listed' := #[true, true, false, false, false, false, false, false, false, false]) rfl (by kernel_rfl) (by kernel_rfl) (by kernel_rfl) rfl (by rfl) (by kernel_rfl) S0 ?hT1 ?rT1
  case hT1 =>
    intro w' hSw
    obtain ⟨k0, k1, k2, k3, k4, k5, k6, k7⟩ := hSw
    go_simp
    try with_reducible rfl
  simp only [List.setIfInBounds_toArray, List.set_cons_zero, List.set_cons_succ]
  refine hold_take (i := 2) (d := 29) (v := ?vT2) (listed' := #[true, true, true, false, false, false, false, false, false, false]) rfl (by kernel_rfl) (by kernel_rfl) (by kernel_rfl) rfl (by rfl) (by kernel_rfl) S0 ?hT2 ?rT2
  case hT2 =>
    intro w' hSw
    obtain ⟨k0, k1, k2, k3, k4, k5, k6, k7⟩ := hSw
    go_simp
    try with_reducible rfl
  simp only [List.setIfInBounds_toArray, List.set_cons_zero, List.set_cons_succ]
  refine hold_take (i := 3) (d := 30) (v := ?vT3) (listed' := #[true, true, true, true, false, false, false, false, false, false]) rfl (by kernel_rfl) (by kernel_rfl) (by kernel_rfl) rfl (by rfl) (by kernel_rfl) S0 ?hT3 ?rT3
  case hT3 =>
    intro w' hSw
    obtain ⟨k0, k1, k2, k3, k4, k5, k6, k7⟩ := hSw
    go_simp
    try with_reducible rfl
  simp only [List.setIfInBounds_toArray, List.set_cons_zero, List.set_cons_succ]
  refine hold_take (i := 4) (d := 31) (v := ?vT4) (listed' := #[true, true, true, true, true, false, false, false, false, false]) rfl (by kernel_rfl) (by kernel_rfl) (by kernel_rfl) rfl (by rfl) (by kernel_rfl) S0 ?hT4 ?rT4
  case hT4 =>
    intro w' hSw
    obtain ⟨k0, k1, k2, k3, k4, k5, k6, k7⟩ := hSw
    go_simp
    try with_reducible rfl
  simp only [List.setIfInBounds_toArray, List.set_cons_zero, List.set_cons_succ]
  refine hold_take (i := 5) (d := 32) (v := ?vT5) (listed' := #[true, true, true, true, true, true, false, false, false, false]) rfl (by kernel_rfl) (by kernel_rfl) (by kernel_rfl) rfl (by rfl) (by kernel_rfl) S0 ?hT5 ?rT5
  case hT5 =>
    intro w' hSw
    obtain ⟨k0, k1, k2, k3, k4, k5, k6, k7⟩ := hSw
    go_simp
    try with_reducible rfl
  simp only [List.setIfInBounds_toArray, List.set_cons_zero, List.set_cons_succ]
  refine hold_call (i := 6) (d := 33) (listed' := #[true, true, true, true, true, true, true, false, false, false]) rfl (by kernel_rfl) rfl (by rfl) (by kernel_rfl) ?heT6 (If.out _ L0.out) ?hcT6
  case heT6 => go_simp
  rintro e x1 ⟨rfl, bb1⟩
  have hX1 := hX0.step bb1
  have L1 := Lib.hid (L0.out.step bb1)
  rw [hV]
  have S1 : (fun w' => w'.cell? ⟨w.heap.size, 0, none⟩ = some (.slice ua m.n l.cap) ∧ w'.cell? ⟨w.heap.size, 1, none⟩ = some (.slice (some ⟨g, o, none⟩) m.n nc) ∧ w'.cell? ⟨w.heap.size, 2, none⟩ = some (.slice (some ⟨ob, 0, none⟩) 2 2) ∧ w'.cell? ⟨w.heap.size + 1, 0, none⟩ = some (.int .i64 (a : Int)) ∧ w'.cell? ⟨w.heap.size + 1, 1, none⟩ = some (.int .i64 (b : Int)) ∧ w'.cell? ⟨w.heap.size + 1, 2, none⟩ = some (.int .i64 (d : Int)) ∧ w'.cell? ⟨w.heap.size + 1 + 1, 0, none⟩ = some (.iface tf vf) ∧ w'.cell? ⟨g, o + V, none⟩ = some (.int .i64 ((y V : Nat) : Int))) x1 := ⟨hX1.cell1 0 rfl, hX1.cell1 1 rfl, hX1.cell1 2 rfl, hX1.cell2 0 rfl, hX1.cell2 1 rfl, hX1.cell2 2 rfl, hX1.cell3 0 rfl, L1.out.notAt hVlt⟩
  clear S0 hX0 L0 bb1
  refine ⟨_, rfl, S1, ?_⟩
  simp only [List.setIfInBounds_toArray, List.set_cons_zero, List.set_cons_succ]
  refine hold_take (i := 7) (d := 34) (v := ?vT7) (listed' := #[true, true, true, true, true, true, true, true, false, false]) rfl (by kernel_rfl) (by kernel_rfl) (by kernel_rfl) rfl (by rfl) (by kernel_rfl) S1 ?hT7 ?rT7
  case hT7 =>
    intro w' hSw
    obtain ⟨k0, k1, k2, k3, k4, k5, k6, k7⟩ := hSw
    go_simp
    try with_reducible rfl
  simp only [List.setIfInBounds_toArray, List.set_cons_zero, List.set_cons_succ]
  refine hold_take (i := 8) (d := 35) (v := ?vT8) (listed' := #[true, true, true, true, true, true, true, true, true, false]) rfl (by kernel_rfl) (by kernel_rfl) (by kernel_rfl) rfl (by rfl) (by kernel_rfl) S1 ?hT8 ?rT8
  case hT8 =>
    intro w' hSw
    obtain ⟨k0, k1, k2, k3, k4, k5, k6, k7⟩ := hSw
    go_simp
    try with_reducible rfl
  simp only [List.setIfInBounds_toArray, List.set_cons_zero, List.set_cons_succ]
  refine hold_take (i := 9) (d := 6) (v := ?vT9) (listed' := #[true, true, true, true, true, true, true, true, true, true]) rfl (by kernel_rfl) (by kernel_rfl) (by kernel_rfl) rfl (by rfl) (by kernel_rfl) S1 ?hT9 ?rT9
  case hT9 =>
    intro w' hSw
    obtain ⟨k0, k1, k2, k3, k4, k5, k6, k7⟩ := hSw
    go_simp
    try with_reducible rfl
  simp only [List.setIfInBounds_toArray, List.set_cons_zero, List.set_cons_succ]
  refine hold_done (by kernel_rfl) ?_ _
  go_wp2_with fail
  go_returns
  exact ⟨by rw [HYV.out]; rfl, hX1.below⟩
set_option maxRecDepth 100000 in
set_option maxHeartbeats 4000000 in
theorem val_meet {f g : Fm} (IHf : ValC f) (IHg : ValC g) : ValC (.meet f g) := by
  intro w B ob tb gg o nc n0 tG ua l m z y a b d h ha hb hd
  have hlt := h.O.val_lt ha hb hd
  have HL := Lib.hid h
  have hn12 := h.O.lat.order.top
  clear h
  show Calls Try.prog _ #[_, .iface 84 (.agg #[.int .i64 0, fmV f, fmV g]), _] w _
  have hletter := as_compound_letter
  have hbound := as_compound_bound
  have hopposed := as_compound_opposed
  have hcompound := as_compound_compound
  obtain ⟨tf, vf, ef⟩ := fmV_iface f
  rw [ef]
  have EF := Lib.hid ef
  clear ef
  obtain ⟨tg, vg, eg⟩ := fmV_iface g
  rw [eg]
  have EG := Lib.hid eg
  clear eg
  have hX := Box3.start w #[.slice ua m.n l.cap, .slice (some ⟨gg, o, none⟩) m.n nc, .slice (some ⟨ob, 0, none⟩) 2 2] 42 #[.int .i64 (a : Int), .int .i64 (b : Int), .int .i64 (d : Int)] 50 #[.int .i64 0, .iface tf vf, .iface tg vg] 84
  have If : Hid (∀ W, AL W B ob tb tG ua l m gg o z y n0 → Calls Try.prog 19 #[.agg #[.slice ua m.n l.cap, .slice (some ⟨gg, o, none⟩) m.n nc, .slice (some ⟨ob, 0, none⟩) 2 2], .iface tf vf, .agg #[.int .i64 (a : Int), .int .i64 (b : Int), .int .i64 (d : Int)]] W fun e w' => e = .returned (.int .i64 ((valN m y n0 a b d f : Nat) : Int)) ∧ Below W.heap.size W w') := fun W hW => by
    have h9 := IHf (nc := nc) hW ha hb hd
    rw [EF.out] at h9
    exact h9
  have Ig : Hid (∀ W, AL W B ob tb tG ua l m gg o z y n0 → Calls Try.prog 19 #[.agg #[.slice ua m.n l.cap, .slice (some ⟨gg, o, none⟩) m.n nc, .slice (some ⟨ob, 0, none⟩) 2 2], .iface tg vg, .agg #[.int .i64 (a : Int), .int .i64 (b : Int), .int .i64 (d : Int)]] W fun e w' => e = .returned (.int .i64 ((valN m y n0 a b d g : Nat) : Int)) ∧ Below W.heap.size W w') := fun W hW => by
    have h9 := IHg (nc := nc) hW ha hb hd
    rw [EG.out] at h9
    exact h9
  go_enter Try.func19, Try.ntmps19
  go_wp2_with fail
  generalize (((w.alloc (.cells #[.slice ua m.n l.cap, .slice (some ⟨gg, o, none⟩) m.n nc, .slice (some ⟨ob, 0, none⟩) 2 2] 42)).alloc (.cells #[.int .i64 (a : Int), .int .i64 (b : Int), .int .i64 (d : Int)] 50)).alloc (.cells #[.int .i64 0, .iface tf vf, .iface tg vg] 84)) = W at hX ⊢
  have hX0 := hX.step (Below.refl _ W).drew
  have L0 := Lib.hid (HL.out.step hX0.below)
  clear hX HL
  have S0 : (fun w' => w'.cell? ⟨w.heap.size, 0, none⟩ = some (.slice ua m.n l.cap) ∧ w'.cell? ⟨w.heap.size, 1, none⟩ = some (.slice (some ⟨gg, o, none⟩) m.n nc) ∧ w'.cell? ⟨w.heap.size, 2, none⟩ = some (.slice (some ⟨ob, 0, none⟩) 2 2) ∧ w'.cell? ⟨w.heap.size + 1, 0, none⟩ = some (.int .i64 (a : Int)) ∧ w'.cell? ⟨w.heap.size + 1, 1, none⟩ = some (.int .i64 (b : Int)) ∧ w'.cell? ⟨w.heap.size + 1, 2, none⟩ = some (.int .i64 (d : Int)) ∧ w'.cell? ⟨w.heap.size + 1 + 1, 0, none⟩ = some (.int .i64 0) ∧ w'.cell? ⟨w.heap.size + 1 + 1, 1, none⟩ = some (.iface tf vf) ∧ w'.cell? ⟨w.heap.size + 1 + 1, 2, none⟩ = some (.iface tg vg)) W.drew := ⟨hX0.cell1 0 rfl, hX0.cell1 1 rfl, hX0.cell1 2 rfl, hX0.cell2 0 rfl, hX0.cell2 1 rfl, hX0.cell2 2 rfl, hX0.cell3 0 rfl, hX0.cell3 1 rfl, hX0.cell3 2 rfl⟩
  refine region_plain (fuel := 15) (listed := #[false, false, false, false, false, false, false, false, false, false, false, false, false, false, false]) (fun w' => w'.cell? ⟨w.heap.size, 0, none⟩ = some (.slice ua m.n l.cap) ∧ w'.cell? ⟨w.heap.size, 1, none⟩ = some (.slice (some ⟨gg, o, none⟩) m.n nc) ∧ w'.cell? ⟨w.heap.size, 2, none⟩ = some (.slice (some ⟨ob, 0, none⟩) 2 2) ∧ w'.cell? ⟨w.heap.size + 1, 0, none⟩ = some (.int .i64 (a : Int)) ∧ w'.cell? ⟨w.heap.size + 1, 1, none⟩ = some (.int .i64 (b : Int)) ∧ w'.cell? ⟨w.heap.size + 1, 2, none⟩ = some (.int .i64 (d : Int)) ∧ w'.cell? ⟨w.heap.size + 1 + 1, 0, none⟩ = some (.int .i64 0) ∧ w'.cell? ⟨w.heap.size + 1 + 1, 1, none⟩ = some (.iface tf vf) ∧ w'.cell? ⟨w.heap.size + 1 + 1, 2, none⟩ = some (.iface tg vg)) (by kernel_rfl) (by kernel_rfl) (by kernel_rfl) ?_
  refine hold_take (i := 0) (d := 39) (v := ?vT0) (listed' := #[true, false, false, false, false, false, false, false, false, false, false, false, false, false, false]) rfl (by kernel_rfl) (by kernel_rfl) (by kernel_rfl) rfl (by rfl) (by kernel_rfl) S0 ?hT0 ?rT0
  case hT0 =>
    intro w' hSw
    obtain ⟨k0, k1, k2, k3, k4, k5, k6, k7, k8⟩ := hSw
    go_simp
    try with_reducible rfl
  simp only [List.setIfInBounds_toArray, List.set_cons_zero, List.set_cons_succ]
  refine hold_take (i := 1) (d := 40) (v := ?vT1) (listed' := #[true, true, false, false, false, false, false, false, false, false, false, false, false, false, false]) rfl (by kernel_rfl) (by kernel_rfl) (by kernel_rfl) rfl (by rfl) (by kernel_rfl) S0 ?hT1 ?rT1
  case hT1 =>
    intro w' hSw
    obtain ⟨k0, k1, k2, k3, k4, k5, k6, k7, k8⟩ := hSw
    go_simp
    try with_reducible rfl
  simp only [List.setIfInBounds_toArray, List.set_cons_zero, List.set_cons_succ]
  refine hold_take (i := 2) (d := 41) (v := ?vT2) (listed' := #[true, true, true, false, false, false, false, false, false, false, false, false, false, false, false]) rfl (by kernel_rfl) (by kernel_rfl) (by kernel_rfl) rfl (by rfl) (by kernel_rfl) S0 ?hT2 ?rT2
  case hT2 =>
    intro w' hSw
    obtain ⟨k0, k1, k2, k3, k4, k5, k6, k7, k8⟩ := hSw
    go_simp
    try with_reducible rfl
  simp only [List.setIfInBounds_toArray, List.set_cons_zero, List.set_cons_succ]
  refine hold_take (i := 3) (d := 42) (v := ?vT3) (listed' := #[true, true, true, true, false, false, false, false, false, false, false, false, false, false, false]) rfl (by kernel_rfl) (by kernel_rfl) (by kernel_rfl) rfl (by rfl) (by kernel_rfl) S0 ?hT3 ?rT3
  case hT3 =>
    intro w' hSw
    obtain ⟨k0, k1, k2, k3, k4, k5, k6, k7, k8⟩ := hSw
    go_simp
    try with_reducible rfl
  simp only [List.setIfInBounds_toArray, List.set_cons_zero, List.set_cons_succ]
  refine hold_take (i := 4) (d := 43) (v := ?vT4) (listed' := #[true, true, true, true, true, false, false, false, false, false, false, false, false, false, false]) rfl (by kernel_rfl) (by kernel_rfl) (by kernel_rfl) rfl (by rfl) (by kernel_rfl) S0 ?hT4 ?rT4
  case hT4 =>
    intro w' hSw
    obtain ⟨k0, k1, k2, k3, k4, k5, k6, k7, k8⟩ := hSw
    go_simp
    try with_reducible rfl
  simp only [List.setIfInBounds_toArray, List.set_cons_zero, List.set_cons_succ]
  refine hold_take (i := 5) (d := 44) (v := ?vT5) (listed' := #[true, true, true, true, true, true, false, false, false, false, false, false, false, false, false]) rfl (by kernel_rfl) (by kernel_rfl) (by kernel_rfl) rfl (by rfl) (by kernel_rfl) S0 ?hT5 ?rT5
  case hT5 =>
    intro w' hSw
    obtain ⟨k0, k1, k2, k3, k4, k5, k6, k7, k8⟩ := hSw
    go_simp
    try with_reducible rfl
  simp only [List.setIfInBounds_toArray, List.set_cons_zero, List.set_cons_succ]
  refine hold_take (i := 6) (d := 45) (v := ?vT6) (listed' := #[true, true, true, true, true, true, true, false, false, false, false, false, false, false, false]) rfl (by kernel_rfl) (by kernel_rfl) (by kernel_rfl) rfl (by rfl) (by kernel_rfl) S0 ?hT6 ?rT6
  case hT6 =>
    intro w' hSw
    obtain ⟨k0, k1, k2, k3, k4, k5, k6, k7, k8⟩ := hSw
    go_simp
    try with_reducible rfl
  simp only [List.setIfInBounds_toArray, List.set_cons_zero, List.set_cons_succ]
  refine hold_take (i := 8) (d := 47) (v := ?vT8) (listed' := #[true, true, true, true, true, true, true, false, true, false, false, false, false, false, false]) rfl (by kernel_rfl) (by kernel_rfl) (by kernel_rfl) rfl (by rfl) (by kernel_rfl) S0 ?hT8 ?rT8
  case hT8 =>
    intro w' hSw
    obtain ⟨k0, k1, k2, k3, k4, k5, k6, k7, k8⟩ := hSw
    go_simp
    try with_reducible rfl
  simp only [List.setIfInBounds_toArray, List.set_cons_zero, List.set_cons_succ]
  refine hold_take (i := 9) (d := 48) (v := ?vT9) (listed' := #[true, true, true, true, true, true, true, false, true, true, false, false, false, false, false]) rfl (by kernel_rfl) (by kernel_rfl) (by kernel_rfl) rfl (by rfl) (by kernel_rfl) S0 ?hT9 ?rT9
  case hT9 =>
    intro w' hSw
    obtain ⟨k0, k1, k2, k3, k4, k5, k6, k7, k8⟩ := hSw
    go_simp
    try with_reducible rfl
  simp only [List.setIfInBounds_toArray, List.set_cons_zero, List.set_cons_succ]
  refine hold_take (i := 10) (d := 49) (v := ?vT10) (listed' := #[true, true, true, true, true, true, true, false, true, true, true, false, false, false, false]) rfl (by kernel_rfl) (by kernel_rfl) (by kernel_rfl) rfl (by rfl) (by kernel_rfl) S0 ?hT10 ?rT10
  case hT10 =>
    intro w' hSw
    obtain ⟨k0, k1, k2, k3, k4, k5, k6, k7, k8⟩ := hSw
    go_simp
    try with_reducible rfl
  simp only [List.setIfInBounds_toArray, List.set_cons_zero, List.set_cons_succ]
  refine hold_take (i := 11) (d := 50) (v := ?vT11) (listed' := #[true, true, true, true, true, true, true, false, true, true, true, true, false, false, false]) rfl (by kernel_rfl) (by kernel_rfl) (by kernel_rfl) rfl (by rfl) (by kernel_rfl) S0 ?hT11 ?rT11
  case hT11 =>
    intro w' hSw
    obtain ⟨k0, k1, k2, k3, k4, k5, k6, k7, k8⟩ := hSw
    go_simp
    try with_reducible rfl
  simp only [List.setIfInBounds_toArray, List.set_cons_zero, List.set_cons_succ]
  refine hold_call (i := 7) (d := 46) (listed' := #[true, true, true, true, true, true, true, true, true, true, true, true, false, false, false]) rfl (by kernel_rfl) rfl (by rfl) (by kernel_rfl) ?heT7 (If.out _ L0.out) ?hcT7
  case heT7 => go_simp
  rintro e x1 ⟨rfl, bb1⟩
  have hX1 := hX0.step bb1
  have L1 := Lib.hid (L0.out.step bb1)
  have S1 : (fun w' => w'.cell? ⟨w.heap.size, 0, none⟩ = some (.slice ua m.n l.cap) ∧ w'.cell? ⟨w.heap.size, 1, none⟩ = some (.slice (some ⟨gg, o, none⟩) m.n nc) ∧ w'.cell? ⟨w.heap.size, 2, none⟩ = some (.slice (some ⟨ob, 0, none⟩) 2 2) ∧ w'.cell? ⟨w.heap.size + 1, 0, none⟩ = some (.int .i64 (a : Int)) ∧ w'.cell? ⟨w.heap.size + 1, 1, none⟩ = some (.int .i64 (b : Int)) ∧ w'.cell? ⟨w.heap.size + 1, 2, none⟩ = some (.int .i64 (d : Int)) ∧ w'.cell? ⟨w.heap.size + 1 + 1, 0, none⟩ = some (.int .i64 0) ∧ w'.cell? ⟨w.heap.size + 1 + 1, 1, none⟩ = some (.iface tf vf) ∧ w'.cell? ⟨w.heap.size + 1 + 1, 2, none⟩ = some (.iface tg vg)) x1 := ⟨hX1.cell1 0 rfl, hX1.cell1 1 rfl, hX1.cell1 2 rfl, hX1.cell2 0 rfl, hX1.cell2 1 rfl, hX1.cell2 2 rfl, hX1.cell3 0 rfl, hX1.cell3 1 rfl, hX1.cell3 2 rfl⟩
  clear S0 hX0 L0 bb1
  refine ⟨_, rfl, S1, ?_⟩
  simp only [List.setIfInBounds_toArray, List.set_cons_zero, List.set_cons_succ]
  refine hold_call (i := 12) (d := 51) (listed' := #[true, true, true, true, true, true, true, true, true, true, true, true, true, false, false]) rfl (by kernel_rfl) rfl (by rfl) (by kernel_rfl) ?heT12 (Ig.out _ L1.out) ?hcT12
  case heT12 => go_simp
  rintro e x2 ⟨rfl, bb2⟩
  have hX2 := hX1.step bb2
  have L2 := Lib.hid (L1.out.step bb2)
  have S2 : (fun w' => w'.cell? ⟨w.heap.size, 0, none⟩ = some (.slice ua m.n l.cap) ∧ w'.cell? ⟨w.heap.size, 1, none⟩ = some (.slice (some ⟨gg, o, none⟩) m.n nc) ∧ w'.cell? ⟨w.heap.size, 2, none⟩ = some (.slice (some ⟨ob, 0, none⟩) 2 2) ∧ w'.cell? ⟨w.heap.size + 1, 0, none⟩ = some (.int .i64 (a : Int)) ∧ w'.cell? ⟨w.heap.size + 1, 1, none⟩ = some (.int .i64 (b : Int)) ∧ w'.cell? ⟨w.heap.size + 1, 2, none⟩ = some (.int .i64 (d : Int)) ∧ w'.cell? ⟨w.heap.size + 1 + 1, 0, none⟩ = some (.int .i64 0) ∧ w'.cell? ⟨w.heap.size + 1 + 1, 1, none⟩ = some (.iface tf vf) ∧ w'.cell? ⟨w.heap.size + 1 + 1, 2, none⟩ = some (.iface tg vg)) x2 := ⟨hX2.cell1 0 rfl, hX2.cell1 1 rfl, hX2.cell1 2 rfl, hX2.cell2 0 rfl, hX2.cell2 1 rfl, hX2.cell2 2 rfl, hX2.cell3 0 rfl, hX2.cell3 1 rfl, hX2.cell3 2 rfl⟩
  clear S1 hX1 L1 bb2
  refine ⟨_, rfl, S2, ?_⟩
  simp only [List.setIfInBounds_toArray, List.set_cons_zero, List.set_cons_succ]
  refine hold_call (i := 13) (d := 52) (listed' := #[true, true, true, true, true, true, true, true, true, true, true, true, true, true, false]) rfl (by kernel_rfl) rfl (by rfl) (by kernel_rfl) ?heT13 (meetA (nc := nc) L2.out (hlt f) (hlt g)) ?hcT13
  case heT13 => go_simp
  rintro e x3 ⟨rfl, bb3⟩
  have hX3 := hX2.step bb3
  have L3 := Lib.hid (L2.out.step bb3)
  have S3 : (fun w' => w'.cell? ⟨w.heap.size, 0, none⟩ = some (.slice ua m.n l.cap) ∧ w'.cell? ⟨w.heap.size, 1, none⟩ = some (.slice (some ⟨gg, o, none⟩) m.n nc) ∧ w'.cell? ⟨w.heap.size, 2, none⟩ = some (.slice (some ⟨ob, 0, none⟩) 2 2) ∧ w'.cell? ⟨w.heap.size + 1, 0, none⟩ = some (.int .i64 (a : Int)) ∧ w'.cell? ⟨w.heap.size + 1, 1, none⟩ = some (.int .i64 (b : Int)) ∧ w'.cell? ⟨w.heap.size + 1, 2, none⟩ = some (.int .i64 (d : Int)) ∧ w'.cell? ⟨w.heap.size + 1 + 1, 0, none⟩ = some (.int .i64 0) ∧ w'.cell? ⟨w.heap.size + 1 + 1, 1, none⟩ = some (.iface tf vf) ∧ w'.cell? ⟨w.heap.size + 1 + 1, 2, none⟩ = some (.iface tg vg)) x3 := ⟨hX3.cell1 0 rfl, hX3.cell1 1 rfl, hX3.cell1 2 rfl, hX3.cell2 0 rfl, hX3.cell2 1 rfl, hX3.cell2 2 rfl, hX3.cell3 0 rfl, hX3.cell3 1 rfl, hX3.cell3 2 rfl⟩
  clear S2 hX2 L2 bb3
  refine ⟨_, rfl, S3, ?_⟩
  simp only [List.setIfInBounds_toArray, List.set_cons_zero, List.set_cons_succ]
  refine hold_take (i := 14) (d := 6) (v := ?vT14) (listed' := #[true, true, true, true, true, true, true, true, true, true, true, true, true, true, true]) rfl (by kernel_rfl) (by kernel_rfl) (by kernel_rfl) rfl (by rfl) (by kernel_rfl) S3 ?hT14 ?rT14
  case hT14 =>
    intro w' hSw
    obtain ⟨k0, k1, k2, k3, k4, k5, k6, k7, k8⟩ := hSw
    go_simp
    try with_reducible rfl
  simp only [List.setIfInBounds_toArray, List.set_cons_zero, List.set_cons_succ]
  refine hold_done (by kernel_rfl) ?_ _
  go_wp2_with fail
  go_returns
  exact ⟨rfl, hX3.below⟩
set_option maxRecDepth 100000 in
set_option maxHeartbeats 4000000 in
theorem val_join {f g : Fm} (IHf : ValC f) (IHg : ValC g) : ValC (.join f g) := by
  intro w B ob tb gg o nc n0 tG ua l m z y a b d h ha hb hd
  have hlt := h.O.val_lt ha hb hd
  have HL := Lib.hid h
  have hn12 := h.O.lat.order.top
  clear h
  show Calls Try.prog _ #[_, .iface 84 (.agg #[.int .i64 1, fmV f, fmV g]), _] w _
  have hletter := as_compound_letter
  have hbound := as_compound_bound
  have hopposed := as_compound_opposed
  have hcompound := as_compound_compound
  obtain ⟨tf, vf, ef⟩ := fmV_iface f
  rw [ef]
  have EF := Lib.hid ef
  clear ef
  obtain ⟨tg, vg, eg⟩ := fmV_iface g
  rw [eg]
  have EG := Lib.hid eg
  clear eg
  have hX := Box3.start w #[.slice ua m.n l.cap, .slice (some ⟨gg, o, none⟩) m.n nc, .slice (some ⟨ob, 0, none⟩) 2 2] 42 #[.int .i64 (a : Int), .int .i64 (b : Int), .int .i64 (d : Int)] 50 #[.int .i64 1, .iface tf vf, .iface tg vg] 84
  have If : Hid (∀ W, AL W B ob tb tG ua l m gg o z y n0 → Calls Try.prog 19 #[.agg #[.slice ua m.n l.cap, .slice (some ⟨gg, o, none⟩) m.n nc, .slice (some ⟨ob, 0, none⟩) 2 2], .iface tf vf, .agg #[.int .i64 (a : Int), .int .i64 (b : Int), .int .i64 (d : Int)]] W fun e w' => e = .returned (.int .i64 ((valN m y n0 a b d f : Nat) : Int)) ∧ Below W.heap.size W w') := fun W hW => by
    have h9 := IHf (nc := nc) hW ha hb hd
    rw [EF.out] at h9
    exact h9
  have Ig : Hid (∀ W, AL W B ob tb tG ua l m gg o z y n0 → Calls Try.prog 19 #[.agg #[.slice ua m.n l.cap, .slice (some ⟨gg, o, none⟩) m.n nc, .slice (some ⟨ob, 0, none⟩) 2 2], .iface tg vg, .agg #[.int .i64 (a : Int), .int .i64 (b : Int), .int .i64 (d : Int)]] W fun e w' => e = .returned (.int .i64 ((valN m y n0 a b d g : Nat) : Int)) ∧ Below W.heap.size W w') := fun W hW => by
    have h9 := IHg (nc := nc) hW ha hb hd
    rw [EG.out] at h9
    exact h9
  go_enter Try.func19, Try.ntmps19
  go_wp2_with fail
  generalize (((w.alloc (.cells #[.slice ua m.n l.cap, .slice (some ⟨gg, o, none⟩) m.n nc, .slice (some ⟨ob, 0, none⟩) 2 2] 42)).alloc (.cells #[.int .i64 (a : Int), .int .i64 (b : Int), .int .i64 (d : Int)] 50)).alloc (.cells #[.int .i64 1, .iface tf vf, .iface tg vg] 84)) = W at hX ⊢
  have hX0 := hX.step (Below.refl _ W).drew
  have L0 := Lib.hid (HL.out.step hX0.below)
  clear hX HL
  have S0 : (fun w' => w'.cell? ⟨w.heap.size, 0, none⟩ = some (.slice ua m.n l.cap) ∧ w'.cell? ⟨w.heap.size, 1, none⟩ = some (.slice (some ⟨gg, o, none⟩) m.n nc) ∧ w'.cell? ⟨w.heap.size, 2, none⟩ = some (.slice (some ⟨ob, 0, none⟩) 2 2) ∧ w'.cell? ⟨w.heap.size + 1, 0, none⟩ = some (.int .i64 (a : Int)) ∧ w'.cell? ⟨w.heap.size + 1, 1, none⟩ = some (.int .i64 (b : Int)) ∧ w'.cell? ⟨w.heap.size + 1, 2, none⟩ = some (.int .i64 (d : Int)) ∧ w'.cell? ⟨w.heap.size + 1 + 1, 0, none⟩ = some (.int .i64 1) ∧ w'.cell? ⟨w.heap.size + 1 + 1, 1, none⟩ = some (.iface tf vf) ∧ w'.cell? ⟨w.heap.size + 1 + 1, 2, none⟩ = some (.iface tg vg)) W.drew := ⟨hX0.cell1 0 rfl, hX0.cell1 1 rfl, hX0.cell1 2 rfl, hX0.cell2 0 rfl, hX0.cell2 1 rfl, hX0.cell2 2 rfl, hX0.cell3 0 rfl, hX0.cell3 1 rfl, hX0.cell3 2 rfl⟩
  refine region_plain (fuel := 15) (listed := #[false, false, false, false, false, false, false, false, false, false, false, false, false, false, false]) (fun w' => w'.cell? ⟨w.heap.size, 0, none⟩ = some (.slice ua m.n l.cap) ∧ w'.cell? ⟨w.heap.size, 1, none⟩ = some (.slice (some ⟨gg, o, none⟩) m.n nc) ∧ w'.cell? ⟨w.heap.size, 2, none⟩ = some (.slice (some ⟨ob, 0, none⟩) 2 2) ∧ w'.cell? ⟨w.heap.size + 1, 0, none⟩ = some (.int .i64 (a : Int)) ∧ w'.cell? ⟨w.heap.size + 1, 1, none⟩ = some (.int .i64 (b : Int)) ∧ w'.cell? ⟨w.heap.size + 1, 2, none⟩ = some (.int .i64 (d : Int)) ∧ w'.cell? ⟨w.heap.size + 1 + 1, 0, none⟩ = some (.int .i64 1) ∧ w'.cell? ⟨w.heap.size + 1 + 1, 1, none⟩ = some (.iface tf vf) ∧ w'.cell? ⟨w.heap.size + 1 + 1, 2, none⟩ = some (.iface tg vg)) (by kernel_rfl) (by kernel_rfl) (by kernel_rfl) ?_
  refine hold_take (i := 0) (d := 39) (v := ?vT0) (listed' := #[true, false, false, false, false, false, false, false, false, false, false, false, false, false, false]) rfl (by kernel_rfl) (by kernel_rfl) (by kernel_rfl) rfl (by rfl) (by kernel_rfl) S0 ?hT0 ?rT0
  case hT0 =>
    intro w' hSw
    obtain ⟨k0, k1, k2, k3, k4, k5, k6, k7, k8⟩ := hSw
    go_simp
    try with_reducible rfl
  simp only [List.setIfInBounds_toArray, List.set_cons_zero, List.set_cons_succ]
  refine hold_take (i := 1) (d := 40) (v := ?vT1) (listed' := #[true, true, false, false, false, false, false, false, false, false, false, false, false, false, false]) rfl (by kernel_rfl) (by kernel_rfl) (by kernel_rfl) rfl (by rfl) (by kernel_rfl) S0 ?hT1 ?rT1
  case hT1 =>
    intro w' hSw
    obtain ⟨k0, k1, k2, k3, k4, k5, k6, k7, k8⟩ := hSw
    go_simp
    try with_reducible rfl
  simp only [List.setIfInBounds_toArray, List.set_cons_zero, List.set_cons_succ]
  refine hold_take (i := 2) (d := 41) (v := ?vT2) (listed' := #[true, true, true, false, false, false, false, false, false, false, false, false, false, false, false]) rfl (by kernel_rfl) (by kernel_rfl) (by kernel_rfl) rfl (by rfl) (by kernel_rfl) S0 ?hT2 ?rT2
  case hT2 =>
    intro w' hSw
    obtain ⟨k0, k1, k2, k3, k4, k5, k6, k7, k8⟩ := hSw
    go_simp
    try with_reducible rfl
  simp only [List.setIfInBounds_toArray, List.set_cons_zero, List.set_cons_succ]
  refine hold_take (i := 3) (d := 42) (v := ?vT3) (listed' := #[true, true, true, true, false, false, false, false, false, false, false, false, false, false, false]) rfl (by kernel_rfl) (by kernel_rfl) (by kernel_rfl) rfl (by rfl) (by kernel_rfl) S0 ?hT3 ?rT3
  case hT3 =>
    intro w' hSw
    obtain ⟨k0, k1, k2, k3, k4, k5, k6, k7, k8⟩ := hSw
    go_simp
    try with_reducible rfl
  simp only [List.setIfInBounds_toArray, List.set_cons_zero, List.set_cons_succ]
  refine hold_take (i := 4) (d := 43) (v := ?vT4) (listed' := #[true, true, true, true, true, false, false, false, false, false, false, false, false, false, false]) rfl (by kernel_rfl) (by kernel_rfl) (by kernel_rfl) rfl (by rfl) (by kernel_rfl) S0 ?hT4 ?rT4
  case hT4 =>
    intro w' hSw
    obtain ⟨k0, k1, k2, k3, k4, k5, k6, k7, k8⟩ := hSw
    go_simp
    try with_reducible rfl
  simp only [List.setIfInBounds_toArray, List.set_cons_zero, List.set_cons_succ]
  refine hold_take (i := 5) (d := 44) (v := ?vT5) (listed' := #[true, true, true, true, true, true, false, false, false, false, false, false, false, false, false]) rfl (by kernel_rfl) (by kernel_rfl) (by kernel_rfl) rfl (by rfl) (by kernel_rfl) S0 ?hT5 ?rT5
  case hT5 =>
    intro w' hSw
    obtain ⟨k0, k1, k2, k3, k4, k5, k6, k7, k8⟩ := hSw
    go_simp
    try with_reducible rfl
  simp only [List.setIfInBounds_toArray, List.set_cons_zero, List.set_cons_succ]
  refine hold_take (i := 6) (d := 45) (v := ?vT6) (listed' := #[true, true, true, true, true, true, true, false, false, false, false, false, false, false, false]) rfl (by kernel_rfl) (by kernel_rfl) (by kernel_rfl) rfl (by rfl) (by kernel_rfl) S0 ?hT6 ?rT6
  case hT6 =>
    intro w' hSw
    obtain ⟨k0, k1, k2, k3, k4, k5, k6, k7, k8⟩ := hSw
    go_simp
    try with_reducible rfl
  simp only [List.setIfInBounds_toArray, List.set_cons_zero, List.set_cons_succ]
  refine hold_take (i := 8) (d := 47) (v := ?vT8) (listed' := #[true, true, true, true, true, true, true, false, true, false, false, false, false, false, false]) rfl (by kernel_rfl) (by kernel_rfl) (by kernel_rfl) rfl (by rfl) (by kernel_rfl) S0 ?hT8 ?rT8
  case hT8 =>
    intro w' hSw
    obtain ⟨k0, k1, k2, k3, k4, k5, k6, k7, k8⟩ := hSw
    go_simp
    try with_reducible rfl
  simp only [List.setIfInBounds_toArray, List.set_cons_zero, List.set_cons_succ]
  refine hold_take (i := 9) (d := 48) (v := ?vT9) (listed' := #[true, true, true, true, true, true, true, false, true, true, false, false, false, false, false]) rfl (by kernel_rfl) (by kernel_rfl) (by kernel_rfl) rfl (by rfl) (by kernel_rfl) S0 ?hT9 ?rT9
  case hT9 =>
    intro w' hSw
    obtain ⟨k0, k1, k2, k3, k4, k5, k6, k7, k8⟩ := hSw
    go_simp
    try with_reducible rfl
  simp only [List.setIfInBounds_toArray, List.set_cons_zero, List.set_cons_succ]
  refine hold_take (i := 10) (d := 49) (v := ?vT10) (listed' := #[true, true, true, true, true, true, true, false, true, true, true, false, false, false, false]) rfl (by kernel_rfl) (by kernel_rfl) (by kernel_rfl) rfl (by rfl) (by kernel_rfl) S0 ?hT10 ?rT10
  case hT10 =>
    intro w' hSw
    obtain ⟨k0, k1, k2, k3, k4, k5, k6, k7, k8⟩ := hSw
    go_simp
    try with_reducible rfl
  simp only [List.setIfInBounds_toArray, List.set_cons_zero, List.set_cons_succ]
  refine hold_take (i := 11) (d := 50) (v := ?vT11) (listed' := #[true, true, true, true, true, true, true, false, true, true, true, true, false, false, false]) rfl (by kernel_rfl) (by kernel_rfl) (by kernel_rfl) rfl (by rfl) (by kernel_rfl) S0 ?hT11 ?rT11
  case hT11 =>
    intro w' hSw
    obtain ⟨k0, k1, k2, k3, k4, k5, k6, k7, k8⟩ := hSw
    go_simp
    try with_reducible rfl
  simp only [List.setIfInBounds_toArray, List.set_cons_zero, List.set_cons_succ]
  refine hold_call (i := 7) (d := 46) (listed' := #[true, true, true, true, true, true, true, true, true, true, true, true, false, false, false]) rfl (by kernel_rfl) rfl (by rfl) (by kernel_rfl) ?heT7 (If.out _ L0.out) ?hcT7
  case heT7 => go_simp
  rintro e x1 ⟨rfl, bb1⟩
  have hX1 := hX0.step bb1
  have L1 := Lib.hid (L0.out.step bb1)
  have S1 : (fun w' => w'.cell? ⟨w.heap.size, 0, none⟩ = some (.slice ua m.n l.cap) ∧ w'.cell? ⟨w.heap.size, 1, none⟩ = some (.slice (some ⟨gg, o, none⟩) m.n nc) ∧ w'.cell? ⟨w.heap.size, 2, none⟩ = some (.slice (some ⟨ob, 0, none⟩) 2 2) ∧ w'.cell? ⟨w.heap.size + 1, 0, none⟩ = some (.int .i64 (a : Int)) ∧ w'.cell? ⟨w.heap.size + 1, 1, none⟩ = some (.int .i64 (b : Int)) ∧ w'.cell? ⟨w.heap.size + 1, 2, none⟩ = some (.int .i64 (d : Int)) ∧ w'.cell? ⟨w.heap.size + 1 + 1, 0, none⟩ = some (.int .i64 1) ∧ w'.cell? ⟨w.heap.size + 1 + 1, 1, none⟩ = some (.iface tf vf) ∧ w'.cell? ⟨w.heap.size + 1 + 1, 2, none⟩ = some (.iface tg vg)) x1 := ⟨hX1.cell1 0 rfl, hX1.cell1 1 rfl, hX1.cell1 2 rfl, hX1.cell2 0 rfl, hX1.cell2 1 rfl, hX1.cell2 2 rfl, hX1.cell3 0 rfl, hX1.cell3 1 rfl, hX1.cell3 2 rfl⟩
  clear S0 hX0 L0 bb1
  refine ⟨_, rfl, S1, ?_⟩
  simp only [List.setIfInBounds_toArray, List.set_cons_zero, List.set_cons_succ]
  refine hold_call (i := 12) (d := 51) (listed' := #[true, true, true, true, true, true, true, true, true, true, true, true, true, false, false]) rfl (by kernel_rfl) rfl (by rfl) (by kernel_rfl) ?heT12 (Ig.out _ L1.out) ?hcT12
  case heT12 => go_simp
  rintro e x2 ⟨rfl, bb2⟩
  have hX2 := hX1.step bb2
  have L2 := Lib.hid (L1.out.step bb2)
  have S2 : (fun w' => w'.cell? ⟨w.heap.size, 0, none⟩ = some (.slice ua m.n l.cap) ∧ w'.cell? ⟨w.heap.size, 1, none⟩ = some (.slice (some ⟨gg, o, none⟩) m.n nc) ∧ w'.cell? ⟨w.heap.size, 2, none⟩ = some (.slice (some ⟨ob, 0, none⟩) 2 2) ∧ w'.cell? ⟨w.heap.size + 1, 0, none⟩ = some (.int .i64 (a : Int)) ∧ w'.cell? ⟨w.heap.size + 1, 1, none⟩ = some (.int .i64 (b : Int)) ∧ w'.cell? ⟨w.heap.size + 1, 2, none⟩ = some (.int .i64 (d : Int)) ∧ w'.cell? ⟨w.heap.size + 1 + 1, 0, none⟩ = some (.int .i64 1) ∧ w'.cell? ⟨w.heap.size + 1 + 1, 1, none⟩ = some (.iface tf vf) ∧ w'.cell? ⟨w.heap.size + 1 + 1, 2, none⟩ = some (.iface tg vg)) x2 := ⟨hX2.cell1 0 rfl, hX2.cell1 1 rfl, hX2.cell1 2 rfl, hX2.cell2 0 rfl, hX2.cell2 1 rfl, hX2.cell2 2 rfl, hX2.cell3 0 rfl, hX2.cell3 1 rfl, hX2.cell3 2 rfl⟩
  clear S1 hX1 L1 bb2
  refine ⟨_, rfl, S2, ?_⟩
  simp only [List.setIfInBounds_toArray, List.set_cons_zero, List.set_cons_succ]
  refine hold_call (i := 13) (d := 52) (listed' := #[true, true, true, true, true, true, true, true, true, true, true, true, true, true, false]) rfl (by kernel_rfl) rfl (by rfl) (by kernel_rfl) ?heT13 (joinA (nc := nc) L2.out (hlt f) (hlt g)) ?hcT13
  case heT13 => go_simp
  rintro e x3 ⟨rfl, bb3⟩
  have hX3 := hX2.step bb3
  have L3 := Lib.hid (L2.out.step bb3)
  have S3 : (fun w' => w'.cell? ⟨w.heap.size, 0, none⟩ = some (.slice ua m.n l.cap) ∧ w'.cell? ⟨w.heap.size, 1, none⟩ = some (.slice (some ⟨gg, o, none⟩) m.n nc) ∧ w'.cell? ⟨w.heap.size, 2, none⟩ = some (.slice (some ⟨ob, 0, none⟩) 2 2) ∧ w'.cell? ⟨w.heap.size + 1, 0, none⟩ = some (.int .i64 (a : Int)) ∧ w'.cell? ⟨w.heap.size + 1, 1, none⟩ = some (.int .i64 (b : Int)) ∧ w'.cell? ⟨w.heap.size + 1, 2, none⟩ = some (.int .i64 (d : Int)) ∧ w'.cell? ⟨w.heap.size + 1 + 1, 0, none⟩ = some (.int .i64 1) ∧ w'.cell? ⟨w.heap.size + 1 + 1, 1, none⟩ = some (.iface tf vf) ∧ w'.cell? ⟨w.heap.size + 1 + 1, 2, none⟩ = some (.iface tg vg)) x3 := ⟨hX3.cell1 0 rfl, hX3.cell1 1 rfl, hX3.cell1 2 rfl, hX3.cell2 0 rfl, hX3.cell2 1 rfl, hX3.cell2 2 rfl, hX3.cell3 0 rfl, hX3.cell3 1 rfl, hX3.cell3 2 rfl⟩
  clear S2 hX2 L2 bb3
  refine ⟨_, rfl, S3, ?_⟩
  simp only [List.setIfInBounds_toArray, List.set_cons_zero, List.set_cons_succ]
  refine hold_take (i := 14) (d := 6) (v := ?vT14) (listed' := #[true, true, true, true, true, true, true, true, true, true, true, true, true, true, true]) rfl (by kernel_rfl) (by kernel_rfl) (by kernel_rfl) rfl (by rfl) (by kernel_rfl) S3 ?hT14 ?rT14
  case hT14 =>
    intro w' hSw
    obtain ⟨k0, k1, k2, k3, k4, k5, k6, k7, k8⟩ := hSw
    go_simp
    try with_reducible rfl
  simp only [List.setIfInBounds_toArray, List.set_cons_zero, List.set_cons_succ]
  refine hold_done (by kernel_rfl) ?_ _
  go_wp2_with fail
  go_returns
  exact ⟨rfl, hX3.below⟩
theorem val_all : ∀ f, ValC f
  | .la => val_la
  | .lb => val_lb
  | .lc => val_lc
  | .no => val_no
  | .yes => val_yes
  | .neg f => val_neg (val_all f)
  | .meet f g => val_meet (val_all f) (val_all g)
  | .join f g => val_join (val_all f) (val_all g)
end Go.Proofs.Ytmchgclaeipoeaa
