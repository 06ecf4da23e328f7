/- The walks of the plans of sets and of the ring. -/
import Derived.Test.YtgjacinolenheaaFc
import Derived.Test.YtgjacinolenheaaMathJ
import Derived.Laws.EntriesVeiled
import Derived.BigQuiet
namespace Go.Proofs.Ytgjacinolenheaa
open Go.RowKit Go.Deep

def setsB (x y : Nat) : Bool := decide (x &&& y = x)
def ringB (x y : Nat) : Bool := decide (x = y) || decide (x = 0) || decide (y = 5) || (decide (x = 1) && decide (y = 2)) || (decide (x = 3) && decide (y = 4))
theorem setsB_Z : bitZ setsB = setsZ := by
  funext x y
  unfold bitZ setsB setsZ
  simp
theorem ringB_Z : ∀ x, x < 6 → ∀ y, y < 6 → bitZ ringB x y = ringZ x y := by decide +kernel

theorem sets_bits : ∀ x : Nat, x < 8 → ∀ y : Nat, y < 8 → (bits BinOp.and IntKind.i64 (x : Int) (y : Int) == (x : Int)) = setsB x y := by decide +kernel

set_option maxRecDepth 100000 in
theorem sets_below (w : World) (N : Nat) (hN : N ≤ 8) : Fun2At w 101 #[] #[] N setsB := by
  refine ⟨enters_of Try.func101 (by kernel_rfl) rfl, fun W x y _ hx hy => ?_⟩
  show Calls Try.prog 101 #[.int .i64 (x : Int), .int .i64 (y : Int)] W _
  go_enter Try.func101, Try.ntmps101
  go_wp2_with fail
  go_ret
  exact ⟨ret_bool (sets_bits x (by omega) y (by omega)), Below.refl _ _⟩
set_option maxRecDepth 100000 in
theorem sets_not (w : World) (N Bx : Nat) (hN : N ≤ 8) (hB : Bx < w.heap.size) (hc : w.cell? ⟨Bx, 0, none⟩ = some (.int .i64 (N : Int))) : Fun1At w 102 #[] #[.pointer (some ⟨Bx, 0, none⟩)] N (setsY N) := by
  refine ⟨enters_of Try.func102 (by kernel_rfl) rfl, fun W x hW hx => ?_⟩
  show Calls Try.prog 102 #[.int .i64 (x : Int), .pointer (some ⟨Bx, 0, none⟩)] W _
  have c0 := (hW.cell (p := ⟨Bx, 0, none⟩) hB).trans hc
  go_enter Try.func102, Try.ntmps102
  go_wp2_with fail
  go_ret
  exact ⟨ret_int (by unfold setsY; omega), Below.refl _ _⟩
set_option maxRecDepth 100000 in
theorem ring_below (w : World) (Bx : Nat) (hB : Bx < w.heap.size) (hc : w.cell? ⟨Bx, 0, none⟩ = some (.int .i64 5)) : Fun2At w 103 #[] #[.pointer (some ⟨Bx, 0, none⟩)] 6 ringB := by
  refine ⟨enters_of Try.func103 (by kernel_rfl) rfl, fun W x y hW hx hy => ?_⟩
  show Calls Try.prog 103 #[.int .i64 (x : Int), .int .i64 (y : Int), .pointer (some ⟨Bx, 0, none⟩)] W _
  have c0 := (hW.cell (p := ⟨Bx, 0, none⟩) hB).trans hc
  go_enter Try.func103, Try.ntmps103
  go_wp2_with fail
  all_goals
    go_ret
    exact ⟨ret_bool (by unfold ringB; rw [Bool.eq_iff_iff]; simp; omega), Below.refl _ _⟩
set_option maxRecDepth 100000 in
theorem ring_not (w : World) (Bx : Nat) (hB : Bx < w.heap.size) (hc : w.cell? ⟨Bx, 0, none⟩ = some (.int .i64 5)) : Fun1At w 104 #[] #[.pointer (some ⟨Bx, 0, none⟩)] 6 ringY := by
  refine ⟨enters_of Try.func104 (by kernel_rfl) rfl, fun W x hW hx => ?_⟩
  show Calls Try.prog 104 #[.int .i64 (x : Int), .pointer (some ⟨Bx, 0, none⟩)] W _
  have c0 := (hW.cell (p := ⟨Bx, 0, none⟩) hB).trans hc
  go_enter Try.func104, Try.ntmps104
  go_wp2_with fail
  go_ret
  exact ⟨ret_int (by unfold ringY; omega), Below.refl _ _⟩

def planV (N g1 : Nat) (f1 c1 : Array Value) (g2 : Nat) (f2 c2 : Array Value) : Value := .agg #[.int .i64 (N : Int), .func (.func g1) f1 c1, .func (.func g2) f2 c2]
def noPlan : Value := .agg #[.int .i64 0, .nilFunc, .nilFunc]
/-- What a maker hands back: a plan of so many answers, or none. -/
def Planned (w : World) (N : Nat) (b : Nat → Nat → Bool) (y : Nat → Nat) (ok : Bool) (e : Ending) (w' : World) : Prop :=
  Below w.heap.size w w' ∧ ((ok = false ∧ (e = .returned (.tuple #[noPlan, .bool false]) ∨ ∃ N' g1 f1 c1 g2 f2 c2, e = .returned (.tuple #[planV N' g1 f1 c1 g2 f2 c2, .bool false]))) ∨ (ok = true ∧ ∃ v, e = .returned (.tuple #[v, .bool true]) ∧ Nonempty (PlanAt w' v N b y)))
def setsOkB (t : Int) : Bool := decide (0 ≤ t) && decide (t ≤ 3)

set_option maxRecDepth 100000 in
set_option maxHeartbeats 1000000 in
theorem planSets_any {w : World} {B : Nat} {na : Option Addr} {g o nc : Nat} {t : Int} {pv : Value} (h : RowAt w B na g o 1 (fun _ => t)) (hB : B ≤ w.heap.size) :
    Calls Try.prog 78 #[.slice na 1 nc, pv] w (Planned w (2 ^ t.toNat) setsB (setsY (2 ^ t.toNat)) (setsOkB t)) := by
  obtain ⟨rfl, hg, c0⟩ := h.row 0 (by omega)
  rw [Nat.add_zero] at c0
  have c1 := (World.cell?_alloc_lt w (.cells #[.int .i64 0, .nilFunc, .nilFunc] 90) ⟨g, o, none⟩ (by show g < _; omega)).trans c0
  have B1 := (Below.refl w.heap.size w).alloc (Nat.le_refl _) (.cells #[.int .i64 0, .nilFunc, .nilFunc] 90)
  clear c0 h
  by_cases h0 : t < 0
  · have HF : Hid (setsOkB t = false) := by show _ = _; unfold setsOkB; simp; omega
    go_enter Try.func78, Try.ntmps78
    go_wp2_with fail
    exact bodyPost_ret (v := .tuple #[noPlan, .bool false]) (by simp [results, Try.results78, go_sem, noPlan]) rfl ⟨B1, .inl ⟨HF.out, .inl rfl⟩⟩
  · by_cases h3 : 3 < t
    · have HF : Hid (setsOkB t = false) := by show _ = _; unfold setsOkB; simp; omega
      go_enter Try.func78, Try.ntmps78
      go_wp2_with fail
      exact bodyPost_ret (v := .tuple #[noPlan, .bool false]) (by simp [results, Try.results78, go_sem, noPlan]) rfl ⟨B1, .inl ⟨HF.out, .inl rfl⟩⟩
    · have HF : Hid (setsOkB t = true) := by show _ = _; unfold setsOkB; simp; omega
      have h3' : t ≤ 3 := by omega
      have h0' : 0 ≤ t := by omega
      rcases (show t = 0 ∨ t = 1 ∨ t = 2 ∨ t = 3 by omega) with rfl | rfl | rfl | rfl
      · go_enter Try.func78, Try.ntmps78
        go_wp2_with fail
        refine bodyPost_ret (v := .tuple #[planV (2 ^ 0) 101 #[] #[] 102 #[] #[.pointer (some ⟨w.heap.size + 1, 0, none⟩)], .bool true]) (by simp [results, Try.results78, go_sem, planV]) rfl ⟨?_, .inr ⟨HF.out, _, rfl, ⟨⟨_, _, _, _, _, _, rfl, sets_below _ _ (by omega), sets_not _ _ _ (by omega) (by simp) (by simp)⟩⟩⟩⟩
        exact ((Below.refl w.heap.size w).alloc (Nat.le_refl _) _).alloc (by simp) _
      · go_enter Try.func78, Try.ntmps78
        go_wp2_with fail
        refine bodyPost_ret (v := .tuple #[planV (2 ^ 1) 101 #[] #[] 102 #[] #[.pointer (some ⟨w.heap.size + 1, 0, none⟩)], .bool true]) (by simp [results, Try.results78, go_sem, planV]) rfl ⟨?_, .inr ⟨HF.out, _, rfl, ⟨⟨_, _, _, _, _, _, rfl, sets_below _ _ (by omega), sets_not _ _ _ (by omega) (by simp) (by simp)⟩⟩⟩⟩
        exact ((Below.refl w.heap.size w).alloc (Nat.le_refl _) _).alloc (by simp) _
      · go_enter Try.func78, Try.ntmps78
        go_wp2_with fail
        refine bodyPost_ret (v := .tuple #[planV (2 ^ 2) 101 #[] #[] 102 #[] #[.pointer (some ⟨w.heap.size + 1, 0, none⟩)], .bool true]) (by simp [results, Try.results78, go_sem, planV]) rfl ⟨?_, .inr ⟨HF.out, _, rfl, ⟨⟨_, _, _, _, _, _, rfl, sets_below _ _ (by omega), sets_not _ _ _ (by omega) (by simp) (by simp)⟩⟩⟩⟩
        exact ((Below.refl w.heap.size w).alloc (Nat.le_refl _) _).alloc (by simp) _
      · go_enter Try.func78, Try.ntmps78
        go_wp2_with fail
        refine bodyPost_ret (v := .tuple #[planV (2 ^ 3) 101 #[] #[] 102 #[] #[.pointer (some ⟨w.heap.size + 1, 0, none⟩)], .bool true]) (by simp [results, Try.results78, go_sem, planV]) rfl ⟨?_, .inr ⟨HF.out, _, rfl, ⟨⟨_, _, _, _, _, _, rfl, sets_below _ _ (by omega), sets_not _ _ _ (by omega) (by simp) (by simp)⟩⟩⟩⟩
        exact ((Below.refl w.heap.size w).alloc (Nat.le_refl _) _).alloc (by simp) _

set_option maxRecDepth 100000 in
set_option maxHeartbeats 1000000 in
theorem planRing_any {w : World} {B : Nat} {na : Option Addr} {g o nc : Nat} {t : Int} {pv : Value} (h : RowAt w B na g o 1 (fun _ => t)) (hB : B ≤ w.heap.size) :
    Calls Try.prog 79 #[.slice na 1 nc, pv] w (Planned w 6 ringB ringY (decide (t = 6))) := by
  obtain ⟨rfl, hg, c0⟩ := h.row 0 (by omega)
  rw [Nat.add_zero] at c0
  have c1 := (World.cell?_alloc_lt w (.cells #[.int .i64 0, .nilFunc, .nilFunc] 90) ⟨g, o, none⟩ (by show g < _; omega)).trans c0
  go_enter Try.func79, Try.ntmps79
  go_wp2_with fail
  have c8 : (((w.alloc (.cells #[.int .i64 6, .func (.func 103) #[] #[.pointer (some ⟨w.heap.size + 1, 0, none⟩)], .func (.func 104) #[] #[.pointer (some ⟨w.heap.size + 1, 0, none⟩)]] 90)).alloc (.cells #[.int .i64 5] 3)).drew).cell? ⟨g, o, none⟩ = some (.int .i64 t) := ((World.cell?_alloc_lt _ _ ⟨g, o, none⟩ (by show g < _; simp; omega)).trans (World.cell?_alloc_lt w _ ⟨g, o, none⟩ (by show g < _; omega))).trans c0
  have hS0 : (fun W' : World => W'.cell? ⟨g, o, none⟩ = some (.int .i64 t)) ((w.alloc (.cells #[.int .i64 0, .nilFunc, .nilFunc] 90)).alloc (.cells #[.int .i64 5] 3)).drew := (World.cell?_alloc_lt _ _ ⟨g, o, none⟩ (by show g < _; simp; omega)).trans c1
  refine region_plain (fuel := 9) (listed := #[false, false, false, false, false, false, false, false, false]) (fun W' => W'.cell? ⟨g, o, none⟩ = some (.int .i64 t)) (by kernel_rfl) (by kernel_rfl) (by kernel_rfl) ?_
  refine hold_take (i := 0) (d := 11) (v := ?vp0) (listed' := #[true, false, false, false, false, false, false, false, false]) rfl (by kernel_rfl) (by kernel_rfl) (by kernel_rfl) rfl (by rfl) (by kernel_rfl) hS0 ?hp0 ?rp0
  case hp0 =>
    intro w' hSw
    have k0 : w'.cell? ⟨g, o, none⟩ = some (.int .i64 t) := hSw
    go_simp
    try with_reducible rfl
  simp only [List.setIfInBounds_toArray, List.set_cons_zero, List.set_cons_succ]
  refine hold_take (i := 1) (d := 12) (v := ?vp1) (listed' := #[true, true, false, false, false, false, false, false, false]) rfl (by kernel_rfl) (by kernel_rfl) (by kernel_rfl) rfl (by rfl) (by kernel_rfl) hS0 ?hp1 ?rp1
  case hp1 =>
    intro w' hSw
    have k0 : w'.cell? ⟨g, o, none⟩ = some (.int .i64 t) := hSw
    go_simp
    try with_reducible rfl
  simp only [List.setIfInBounds_toArray, List.set_cons_zero, List.set_cons_succ]
  refine hold_take (i := 2) (d := 13) (v := ?vp2) (listed' := #[true, true, true, false, false, false, false, false, false]) rfl (by kernel_rfl) (by kernel_rfl) (by kernel_rfl) rfl (by rfl) (by kernel_rfl) hS0 ?hp2 ?rp2
  case hp2 =>
    intro w' hSw
    have k0 : w'.cell? ⟨g, o, none⟩ = some (.int .i64 t) := hSw
    go_simp
    try with_reducible rfl
  simp only [List.setIfInBounds_toArray, List.set_cons_zero, List.set_cons_succ]
  refine hold_take (i := 3) (d := 14) (v := ?vp3) (listed' := #[true, true, true, true, false, false, false, false, false]) rfl (by kernel_rfl) (by kernel_rfl) (by kernel_rfl) rfl (by rfl) (by kernel_rfl) hS0 ?hp3 ?rp3
  case hp3 =>
    intro w' hSw
    have k0 : w'.cell? ⟨g, o, none⟩ = some (.int .i64 t) := hSw
    go_simp
    try with_reducible rfl
  simp only [List.setIfInBounds_toArray, List.set_cons_zero, List.set_cons_succ]
  refine hold_take (i := 4) (d := 15) (v := ?vp4) (listed' := #[true, true, true, true, true, false, false, false, false]) rfl (by kernel_rfl) (by kernel_rfl) (by kernel_rfl) rfl (by rfl) (by kernel_rfl) hS0 ?hp4 ?rp4
  case hp4 =>
    intro w' hSw
    have k0 : w'.cell? ⟨g, o, none⟩ = some (.int .i64 t) := hSw
    go_simp
    try with_reducible rfl
  simp only [List.setIfInBounds_toArray, List.set_cons_zero, List.set_cons_succ]
  refine hold_take (i := 5) (d := 16) (v := ?vp5) (listed' := #[true, true, true, true, true, true, false, false, false]) rfl (by kernel_rfl) (by kernel_rfl) (by kernel_rfl) rfl (by rfl) (by kernel_rfl) hS0 ?hp5 ?rp5
  case hp5 =>
    intro w' hSw
    have k0 : w'.cell? ⟨g, o, none⟩ = some (.int .i64 t) := hSw
    go_simp
    try with_reducible rfl
  simp only [List.setIfInBounds_toArray, List.set_cons_zero, List.set_cons_succ]
  refine hold_take (i := 6) (d := 17) (v := ?vp6) (listed' := #[true, true, true, true, true, true, true, false, false]) rfl (by kernel_rfl) (by kernel_rfl) (by kernel_rfl) rfl (by rfl) (by kernel_rfl) hS0 ?hp6 ?rp6
  case hp6 =>
    intro w' hSw
    have k0 : w'.cell? ⟨g, o, none⟩ = some (.int .i64 t) := hSw
    go_simp
    try with_reducible rfl
  simp only [List.setIfInBounds_toArray, List.set_cons_zero, List.set_cons_succ]
  refine hold_store (i := 7) (w' := ?w7) (listed' := #[true, true, true, true, true, true, true, true, false]) rfl (by kernel_rfl) rfl (by rfl) (by kernel_rfl) ?hs7 ?hS7 ?hk7
  case hs7 =>
    go_simp
    rfl
  case hS7 => exact c8
  have hS8 : (fun W' : World => W'.cell? ⟨g, o, none⟩ = some (.int .i64 t)) ((w.alloc (.cells #[.int .i64 6, .func (.func 103) #[] #[.pointer (some ⟨w.heap.size + 1, 0, none⟩)], .func (.func 104) #[] #[.pointer (some ⟨w.heap.size + 1, 0, none⟩)]] 90)).alloc (.cells #[.int .i64 5] 3)).drew := c8
  refine hold_take (i := 8) (d := 5) (v := ?vq8) (listed' := #[true, true, true, true, true, true, true, true, true]) rfl (by kernel_rfl) (by kernel_rfl) (by kernel_rfl) rfl (by rfl) (by kernel_rfl) hS8 ?hq8 ?rq8
  case hq8 =>
    intro w' hSw
    have k0 : w'.cell? ⟨g, o, none⟩ = some (.int .i64 t) := hSw
    go_simp
    try with_reducible rfl
  simp only [List.setIfInBounds_toArray, List.set_cons_zero, List.set_cons_succ]
  refine hold_done (by kernel_rfl) ?_ _
  have HC := Lib.hid (by assumption : ∀ (a : Act) (w_1 : World), Code.wp Try.prog Code.ret (bodyPost Try.prog Try.f79 (Planned w 6 ringB ringY (decide (t = 6)))) a w_1 → _)
  clear c0 c1 hS0 hS8 c8
  go_wp2_with fail
  clear HC
  have hB2 := (((Below.refl w.heap.size w).alloc (Nat.le_refl _) (.cells #[.int .i64 6, .func (.func 103) #[] #[.pointer (some ⟨w.heap.size + 1, 0, none⟩)], .func (.func 104) #[] #[.pointer (some ⟨w.heap.size + 1, 0, none⟩)]] 90)).alloc (by simp) (.cells #[.int .i64 5] 3)).drew
  refine bodyPost_ret (v := .tuple #[planV 6 103 #[] #[.pointer (some ⟨w.heap.size + 1, 0, none⟩)] 104 #[] #[.pointer (some ⟨w.heap.size + 1, 0, none⟩)], .bool (t == 6)]) (by simp [results, Try.results79, go_sem, planV]) rfl ⟨hB2, ?_⟩
  by_cases e : t = 6
  · have e6 : (t == 6) = true := by simp [e]
    rw [e6]
    exact .inr ⟨by simp [e], _, rfl, ⟨⟨_, _, _, _, _, _, rfl, ring_below _ (w.heap.size + 1) (by simp) (by simp), ring_not _ (w.heap.size + 1) (by simp) (by simp)⟩⟩⟩
  · have e6 : (t == 6) = false := by simp [e]
    rw [e6]
    exact .inl ⟨by simp [e], .inr ⟨_, _, _, _, _, _, _, rfl⟩⟩
end Go.Proofs.Ytgjacinolenheaa
