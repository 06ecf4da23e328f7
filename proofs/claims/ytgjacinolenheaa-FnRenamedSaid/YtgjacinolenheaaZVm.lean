/- The walks of the program's plan of renamed logics and of Renamed. -/
import Derived.Test.YtgjacinolenheaaZVl
import Derived.Test.YtgjacinolenheaaZVd
import Derived.Test.YtgjacinolenheaaZFh
namespace Go.Proofs.Ytgjacinolenheaa
open Go.RowKit Go.Deep

/-- An algebra in a list, as it reads. -/
theorem parts_one {w : World} {base : Nat} {v a0 a1 a2 : Value} (h : w.ownsRow base 65 3 v 1 [a0, a1, a2]) :
    ∃ g cap : Nat, v = .slice (some ⟨g, 0, none⟩) 1 cap ∧ w.cell? ⟨g, 0, none⟩ = some a0 ∧ w.cell? ⟨g, 1, none⟩ = some a1 ∧ w.cell? ⟨g, 2, none⟩ = some a2 := by
  rcases h.2 with ⟨_, h0⟩ | ⟨g, cap, cur, rfl, _⟩
  · omega
  · exact ⟨g, cap, rfl, World.ownsRow.cellAt h 0 (by omega), World.ownsRow.cellAt h 1 (by omega), World.ownsRow.cellAt h 2 (by omega)⟩
theorem Each.view {m : Mx} {n : Nat} {z : Nat → Int} (h : Each n z) {x y : Nat} (hx : x < n) (hy : y < n) (hb : m.Z (z x).toNat (z y).toNat = 0 ∨ m.Z (z x).toNat (z y).toNat = 1) : bitZ (viewB m z) x y = nameZ m.Z (fun c => (z c).toNat) x y := by
  have h1 := h.nat x hx
  have h2 := h.nat y hy
  have e1 : decide (0 ≤ z x) = true := decide_eq_true (by omega)
  have e2 : decide (0 ≤ z y) = true := decide_eq_true (by omega)
  unfold bitZ viewB nameZ
  rw [e1, e2]
  show (if (true && (true && leB m (z x).toNat (z y).toNat)) = true then (1 : Int) else 0) = m.Z (z x).toNat (z y).toNat
  unfold leB
  rcases hb with e | e <;> rw [e] <;> rfl
theorem Each.opp {n : Nat} {z : Nat → Int} {y : Nat → Nat} (h : Each n z) {x : Nat} (hx : x < n) (hy : ∀ a, a < n → y a < n) : viewY y z n x = (placeN n z (y (z x).toNat) : Int) := by
  unfold viewY
  exact h.at_ _ (hy _ (h.perm.lt x hx))
/-- A logic, or none. -/
def MadeLog (w : World) (N : Nat) (Z : Nat → Nat → Int) (y : Nat → Nat) (ok : Bool) (e : Ending) (w' : World) : Prop :=
  Below w.heap.size w w' ∧ ((ok = false ∧ e = .returned noLog) ∨ (ok = true ∧ ∃ u t rv, e = .returned (.agg #[u, t]) ∧ LogO w' w.heap.size u t N rv Z (fun c => (y c : Int))))
theorem madeLog_no {w W : World} {ok : Bool} {p N : Nat} {Z : Nat → Nat → Int} {y : Nat → Nat} {x x' : Value} (hp : w.heap.size ≤ p) (hB : Below w.heap.size w W) (hok : ok = false) : MadeLog w N Z y ok (.returned noLog) ((W.setCell ⟨p, 0, none⟩ x).setCell ⟨p, 1, none⟩ x') :=
  ⟨hB.trans ((set2_only W p x x').below fun j hj => by have hj' : j = p := hj; omega), .inl ⟨hok, rfl⟩⟩
theorem MadeLog.congr {w w' : World} {e : Ending} {N : Nat} {Z Z' : Nat → Nat → Int} {y y' : Nat → Nat} {ok ok' : Bool} (h : MadeLog w N Z y ok e w') (ho : ok = ok') (hZ : ok = true → ∀ r, r < N → ∀ c, c < N → Z r c = Z' r c) (hy : ok = true → ∀ c, c < N → y c = y' c) : MadeLog w N Z' y' ok' e w' := by
  subst ho
  refine ⟨h.1, ?_⟩
  rcases h.2 with h2 | ⟨hok, u, t, rv, rfl, hL⟩
  · exact .inl h2
  · exact .inr ⟨hok, u, t, rv, rfl, hL.congrZ (hZ hok) fun c hc => by rw [hy hok c hc]⟩
theorem RowAt.wide {w : World} {B B' : Nat} {a : Option Addr} {g o n : Nat} {z : Nat → Int} (h : RowAt w B a g o n z) (hB : B ≤ B') : RowAt w B' a g o n z :=
  ⟨fun c hc => by obtain ⟨h1, h2, h3⟩ := h.row c hc; exact ⟨h1, by omega, h3⟩⟩

set_option maxRecDepth 100000 in
set_option maxHeartbeats 2000000 in
theorem planRenamed_any {w : World} {d0 : LD} {B base q0 o0 : Nat} {y0 : Nat → Nat} {v : Value} {a : Option Addr} {g o n cap : Nat} {z : Nat → Int} (h0 : d0.Is w B y0 o0) (hr : RowAt w w.heap.size a g o n z) (hn : n ≤ 9223372036854775807)
    (hv : w.ownsRow base 65 3 v 1 [d0.u, d0.t, .slice (some ⟨q0, 0, none⟩) 2 2]) :
    Calls Try.prog 82 #[.slice a n cap, v] w (Planned w n (viewB d0.m z) (fun x => placeN n z (y0 (z x).toNat)) (eachB d0.m.n n z)) := by
  obtain ⟨gv, cv, rfl, k0, k1, k2⟩ := parts_one hv
  have gl : gv < w.heap.size := World.block_lt_of_cell? w ⟨gv, 0, none⟩ k0
  have P0 := ThreeAt.new w (.int .i64 0) .nilFunc .nilFunc 90
  have B0 := (Below.refl w.heap.size w).alloc (Nat.le_refl _) (.cells #[.int .i64 0, .nilFunc, .nilFunc] 90)
  have s0 : (w.alloc (.cells #[.int .i64 0, .nilFunc, .nilFunc] 90)).heap.size = w.heap.size + 1 := by simp
  replace k0 := (B0.cell (p := ⟨gv, 0, none⟩) gl).trans k0
  replace k1 := (B0.cell (p := ⟨gv, 1, none⟩) gl).trans k1
  replace k2 := (B0.cell (p := ⟨gv, 2, none⟩) gl).trans k2
  have X0 := FourAt.new (w.alloc (.cells #[.int .i64 0, .nilFunc, .nilFunc] 90)) d0.u d0.t (.slice (some ⟨q0, 0, none⟩) 2 2) (.slice a n cap) 103
  have b1 := (Below.refl (w.heap.size + 1) (w.alloc (.cells #[.int .i64 0, .nilFunc, .nilFunc] 90))).alloc (by omega) (.cells #[d0.u, d0.t, .slice (some ⟨q0, 0, none⟩) 2 2, .slice a n cap] 103)
  have s1 : ((w.alloc (.cells #[.int .i64 0, .nilFunc, .nilFunc] 90)).alloc (.cells #[d0.u, d0.t, .slice (some ⟨q0, 0, none⟩) 2 2, .slice a n cap] 103)).heap.size = w.heap.size + 1 + 1 := by simp
  have P1 := P0.below b1 (by omega)
  have B1 := B0.trans (b1.mono (by omega))
  rw [s0] at X0
  have lk : d0.k = d0.m.n := h0.len
  have hhi := h0.hi
  rw [show eachB d0.m.n n z = eachB d0.k n z by rw [lk]]
  have HLK := Lib.hid lk
  have HH0 := Lib.hid h0
  have HR := Lib.hid hr
  clear hv b1 P0 B0 h0 hr lk
  go_enter Try.func82, Try.ntmps82
  go_upto_region 2 with fail
  clear k0 k1 k2 gl s0
  generalize (w.alloc (.cells #[.int .i64 0, .nilFunc, .nilFunc] 90)).alloc (.cells #[d0.u, d0.t, .slice (some ⟨q0, 0, none⟩) 2 2, .slice a n cap] 103) = w2 at X0 P1 B1 s1 ⊢
  have f0 := X0.c0
  have f1 := X0.c1
  have f2 := X0.c2
  have f3 := X0.c3
  have l1 : w.heap.size + 1 < w2.heap.size := by omega
  have l2 : ¬ (w.heap.size + 1 = w.heap.size) := by omega
  have K0 : OnlyIn (fun j => j = w.heap.size) w2 w2.drew := ⟨rfl, rfl, rfl, rfl, fun _ _ => rfl⟩
  have t0 : w2.drew.cell? ⟨w.heap.size, 0, none⟩ = some (.int .i64 0) := P1.c0
  have t1 : w2.drew.cell? ⟨w.heap.size, 1, none⟩ = some .nilFunc := P1.c1
  have t2 : w2.drew.cell? ⟨w.heap.size, 2, none⟩ = some .nilFunc := P1.c2
  have t3 : w2.drew.frozen? ⟨w.heap.size, 0, none⟩ = false := P1.f0
  have t4 : w2.drew.frozen? ⟨w.heap.size, 1, none⟩ = false := P1.f1
  have t5 : w2.drew.frozen? ⟨w.heap.size, 2, none⟩ = false := P1.f2
  refine region_plain (fuel := 15) (listed := #[false, false, false, false, false, false, false, false, false, false, false, false, false, false, false]) (fun W' => OnlyIn (fun j => j = w.heap.size) w2 W') (by kernel_rfl) (by kernel_rfl) (by kernel_rfl) ?_
  refine hold_take (i := 0) (d := 12) (v := ?vp0) (listed' := #[true, false, false, false, false, false, false, false, false, false, false, false, false, false, false]) rfl (by kernel_rfl) (by kernel_rfl) (by kernel_rfl) rfl (by rfl) (by kernel_rfl) K0 ?hp0 ?rp0
  case hp0 =>
    intro w' hSw
    have hSb : OnlyIn (fun j => j = w.heap.size) w2 w' := hSw; have x0 := (World.cell?_of_block (a := ⟨w.heap.size + 1, 0, none⟩) (hSb.block _ l2)).trans f0; have x1 := (World.cell?_of_block (a := ⟨w.heap.size + 1, 1, none⟩) (hSb.block _ l2)).trans f1; have x2 := (World.cell?_of_block (a := ⟨w.heap.size + 1, 2, none⟩) (hSb.block _ l2)).trans f2; have x3 := (World.cell?_of_block (a := ⟨w.heap.size + 1, 3, none⟩) (hSb.block _ l2)).trans f3
    go_simp
    try with_reducible rfl
  simp only [List.setIfInBounds_toArray, List.set_cons_zero, List.set_cons_succ]
  refine hold_take (i := 1) (d := 13) (v := ?vp1) (listed' := #[true, true, false, false, false, false, false, false, false, false, false, false, false, false, false]) rfl (by kernel_rfl) (by kernel_rfl) (by kernel_rfl) rfl (by rfl) (by kernel_rfl) K0 ?hp1 ?rp1
  case hp1 =>
    intro w' hSw
    have hSb : OnlyIn (fun j => j = w.heap.size) w2 w' := hSw; have x0 := (World.cell?_of_block (a := ⟨w.heap.size + 1, 0, none⟩) (hSb.block _ l2)).trans f0; have x1 := (World.cell?_of_block (a := ⟨w.heap.size + 1, 1, none⟩) (hSb.block _ l2)).trans f1; have x2 := (World.cell?_of_block (a := ⟨w.heap.size + 1, 2, none⟩) (hSb.block _ l2)).trans f2; have x3 := (World.cell?_of_block (a := ⟨w.heap.size + 1, 3, none⟩) (hSb.block _ l2)).trans f3
    go_simp
    try with_reducible rfl
  simp only [List.setIfInBounds_toArray, List.set_cons_zero, List.set_cons_succ]
  refine hold_take (i := 2) (d := 14) (v := ?vp2) (listed' := #[true, true, true, false, false, false, false, false, false, false, false, false, false, false, false]) rfl (by kernel_rfl) (by kernel_rfl) (by kernel_rfl) rfl (by rfl) (by kernel_rfl) K0 ?hp2 ?rp2
  case hp2 =>
    intro w' hSw
    have hSb : OnlyIn (fun j => j = w.heap.size) w2 w' := hSw; have x0 := (World.cell?_of_block (a := ⟨w.heap.size + 1, 0, none⟩) (hSb.block _ l2)).trans f0; have x1 := (World.cell?_of_block (a := ⟨w.heap.size + 1, 1, none⟩) (hSb.block _ l2)).trans f1; have x2 := (World.cell?_of_block (a := ⟨w.heap.size + 1, 2, none⟩) (hSb.block _ l2)).trans f2; have x3 := (World.cell?_of_block (a := ⟨w.heap.size + 1, 3, none⟩) (hSb.block _ l2)).trans f3
    go_simp
    try with_reducible rfl
  simp only [List.setIfInBounds_toArray, List.set_cons_zero, List.set_cons_succ]
  refine hold_take (i := 3) (d := 15) (v := ?vp3) (listed' := #[true, true, true, true, false, false, false, false, false, false, false, false, false, false, false]) rfl (by kernel_rfl) (by kernel_rfl) (by kernel_rfl) rfl (by rfl) (by kernel_rfl) K0 ?hp3 ?rp3
  case hp3 =>
    intro w' hSw
    have hSb : OnlyIn (fun j => j = w.heap.size) w2 w' := hSw; have x0 := (World.cell?_of_block (a := ⟨w.heap.size + 1, 0, none⟩) (hSb.block _ l2)).trans f0; have x1 := (World.cell?_of_block (a := ⟨w.heap.size + 1, 1, none⟩) (hSb.block _ l2)).trans f1; have x2 := (World.cell?_of_block (a := ⟨w.heap.size + 1, 2, none⟩) (hSb.block _ l2)).trans f2; have x3 := (World.cell?_of_block (a := ⟨w.heap.size + 1, 3, none⟩) (hSb.block _ l2)).trans f3
    go_simp
    try with_reducible rfl
  simp only [List.setIfInBounds_toArray, List.set_cons_zero, List.set_cons_succ]
  refine hold_take (i := 4) (d := 16) (v := ?vp4) (listed' := #[true, true, true, true, true, false, false, false, false, false, false, false, false, false, false]) rfl (by kernel_rfl) (by kernel_rfl) (by kernel_rfl) rfl (by rfl) (by kernel_rfl) K0 ?hp4 ?rp4
  case hp4 =>
    intro w' hSw
    have hSb : OnlyIn (fun j => j = w.heap.size) w2 w' := hSw; have x0 := (World.cell?_of_block (a := ⟨w.heap.size + 1, 0, none⟩) (hSb.block _ l2)).trans f0; have x1 := (World.cell?_of_block (a := ⟨w.heap.size + 1, 1, none⟩) (hSb.block _ l2)).trans f1; have x2 := (World.cell?_of_block (a := ⟨w.heap.size + 1, 2, none⟩) (hSb.block _ l2)).trans f2; have x3 := (World.cell?_of_block (a := ⟨w.heap.size + 1, 3, none⟩) (hSb.block _ l2)).trans f3
    go_simp
    try with_reducible rfl
  simp only [List.setIfInBounds_toArray, List.set_cons_zero, List.set_cons_succ]
  refine hold_take (i := 5) (d := 17) (v := ?vp5) (listed' := #[true, true, true, true, true, true, false, false, false, false, false, false, false, false, false]) rfl (by kernel_rfl) (by kernel_rfl) (by kernel_rfl) rfl (by rfl) (by kernel_rfl) K0 ?hp5 ?rp5
  case hp5 =>
    intro w' hSw
    have hSb : OnlyIn (fun j => j = w.heap.size) w2 w' := hSw; have x0 := (World.cell?_of_block (a := ⟨w.heap.size + 1, 0, none⟩) (hSb.block _ l2)).trans f0; have x1 := (World.cell?_of_block (a := ⟨w.heap.size + 1, 1, none⟩) (hSb.block _ l2)).trans f1; have x2 := (World.cell?_of_block (a := ⟨w.heap.size + 1, 2, none⟩) (hSb.block _ l2)).trans f2; have x3 := (World.cell?_of_block (a := ⟨w.heap.size + 1, 3, none⟩) (hSb.block _ l2)).trans f3
    go_simp
    try with_reducible rfl
  simp only [List.setIfInBounds_toArray, List.set_cons_zero, List.set_cons_succ]
  refine hold_take (i := 6) (d := 18) (v := ?vp6) (listed' := #[true, true, true, true, true, true, true, false, false, false, false, false, false, false, false]) rfl (by kernel_rfl) (by kernel_rfl) (by kernel_rfl) rfl (by rfl) (by kernel_rfl) K0 ?hp6 ?rp6
  case hp6 =>
    intro w' hSw
    have hSb : OnlyIn (fun j => j = w.heap.size) w2 w' := hSw; have x0 := (World.cell?_of_block (a := ⟨w.heap.size + 1, 0, none⟩) (hSb.block _ l2)).trans f0; have x1 := (World.cell?_of_block (a := ⟨w.heap.size + 1, 1, none⟩) (hSb.block _ l2)).trans f1; have x2 := (World.cell?_of_block (a := ⟨w.heap.size + 1, 2, none⟩) (hSb.block _ l2)).trans f2; have x3 := (World.cell?_of_block (a := ⟨w.heap.size + 1, 3, none⟩) (hSb.block _ l2)).trans f3
    go_simp
    try with_reducible rfl
  simp only [List.setIfInBounds_toArray, List.set_cons_zero, List.set_cons_succ]
  refine hold_take (i := 7) (d := 19) (v := ?vp7) (listed' := #[true, true, true, true, true, true, true, true, false, false, false, false, false, false, false]) rfl (by kernel_rfl) (by kernel_rfl) (by kernel_rfl) rfl (by rfl) (by kernel_rfl) K0 ?hp7 ?rp7
  case hp7 =>
    intro w' hSw
    have hSb : OnlyIn (fun j => j = w.heap.size) w2 w' := hSw; have x0 := (World.cell?_of_block (a := ⟨w.heap.size + 1, 0, none⟩) (hSb.block _ l2)).trans f0; have x1 := (World.cell?_of_block (a := ⟨w.heap.size + 1, 1, none⟩) (hSb.block _ l2)).trans f1; have x2 := (World.cell?_of_block (a := ⟨w.heap.size + 1, 2, none⟩) (hSb.block _ l2)).trans f2; have x3 := (World.cell?_of_block (a := ⟨w.heap.size + 1, 3, none⟩) (hSb.block _ l2)).trans f3
    go_simp
    try with_reducible rfl
  simp only [List.setIfInBounds_toArray, List.set_cons_zero, List.set_cons_succ]
  refine hold_take (i := 8) (d := 20) (v := ?vp8) (listed' := #[true, true, true, true, true, true, true, true, true, false, false, false, false, false, false]) rfl (by kernel_rfl) (by kernel_rfl) (by kernel_rfl) rfl (by rfl) (by kernel_rfl) K0 ?hp8 ?rp8
  case hp8 =>
    intro w' hSw
    have hSb : OnlyIn (fun j => j = w.heap.size) w2 w' := hSw; have x0 := (World.cell?_of_block (a := ⟨w.heap.size + 1, 0, none⟩) (hSb.block _ l2)).trans f0; have x1 := (World.cell?_of_block (a := ⟨w.heap.size + 1, 1, none⟩) (hSb.block _ l2)).trans f1; have x2 := (World.cell?_of_block (a := ⟨w.heap.size + 1, 2, none⟩) (hSb.block _ l2)).trans f2; have x3 := (World.cell?_of_block (a := ⟨w.heap.size + 1, 3, none⟩) (hSb.block _ l2)).trans f3
    go_simp
    try with_reducible rfl
  simp only [List.setIfInBounds_toArray, List.set_cons_zero, List.set_cons_succ]
  refine hold_take (i := 9) (d := 21) (v := ?vp9) (listed' := #[true, true, true, true, true, true, true, true, true, true, false, false, false, false, false]) rfl (by kernel_rfl) (by kernel_rfl) (by kernel_rfl) rfl (by rfl) (by kernel_rfl) K0 ?hp9 ?rp9
  case hp9 =>
    intro w' hSw
    have hSb : OnlyIn (fun j => j = w.heap.size) w2 w' := hSw; have x0 := (World.cell?_of_block (a := ⟨w.heap.size + 1, 0, none⟩) (hSb.block _ l2)).trans f0; have x1 := (World.cell?_of_block (a := ⟨w.heap.size + 1, 1, none⟩) (hSb.block _ l2)).trans f1; have x2 := (World.cell?_of_block (a := ⟨w.heap.size + 1, 2, none⟩) (hSb.block _ l2)).trans f2; have x3 := (World.cell?_of_block (a := ⟨w.heap.size + 1, 3, none⟩) (hSb.block _ l2)).trans f3
    go_simp
    try with_reducible rfl
  simp only [List.setIfInBounds_toArray, List.set_cons_zero, List.set_cons_succ]
  refine hold_take (i := 10) (d := 22) (v := ?vp10) (listed' := #[true, true, true, true, true, true, true, true, true, true, true, false, false, false, false]) rfl (by kernel_rfl) (by kernel_rfl) (by kernel_rfl) rfl (by rfl) (by kernel_rfl) K0 ?hp10 ?rp10
  case hp10 =>
    intro w' hSw
    have hSb : OnlyIn (fun j => j = w.heap.size) w2 w' := hSw; have x0 := (World.cell?_of_block (a := ⟨w.heap.size + 1, 0, none⟩) (hSb.block _ l2)).trans f0; have x1 := (World.cell?_of_block (a := ⟨w.heap.size + 1, 1, none⟩) (hSb.block _ l2)).trans f1; have x2 := (World.cell?_of_block (a := ⟨w.heap.size + 1, 2, none⟩) (hSb.block _ l2)).trans f2; have x3 := (World.cell?_of_block (a := ⟨w.heap.size + 1, 3, none⟩) (hSb.block _ l2)).trans f3
    go_simp
    try with_reducible rfl
  simp only [List.setIfInBounds_toArray, List.set_cons_zero, List.set_cons_succ]
  refine hold_take (i := 11) (d := 23) (v := ?vp11) (listed' := #[true, true, true, true, true, true, true, true, true, true, true, true, false, false, false]) rfl (by kernel_rfl) (by kernel_rfl) (by kernel_rfl) rfl (by rfl) (by kernel_rfl) K0 ?hp11 ?rp11
  case hp11 =>
    intro w' hSw
    have hSb : OnlyIn (fun j => j = w.heap.size) w2 w' := hSw; have x0 := (World.cell?_of_block (a := ⟨w.heap.size + 1, 0, none⟩) (hSb.block _ l2)).trans f0; have x1 := (World.cell?_of_block (a := ⟨w.heap.size + 1, 1, none⟩) (hSb.block _ l2)).trans f1; have x2 := (World.cell?_of_block (a := ⟨w.heap.size + 1, 2, none⟩) (hSb.block _ l2)).trans f2; have x3 := (World.cell?_of_block (a := ⟨w.heap.size + 1, 3, none⟩) (hSb.block _ l2)).trans f3
    go_simp
    try with_reducible rfl
  simp only [List.setIfInBounds_toArray, List.set_cons_zero, List.set_cons_succ]
  have HE := Lib.hid (eachOnce_any (cap := cap) (n := d0.k) (w := w2.drew) hn (by have := HLK.out; omega) (B := w.heap.size) (a := a) (g := g) (o := o) (z := z) ⟨fun c hc => (HR.out.below B1).row c hc⟩)
  refine hold_call (i := 12) (d := 24) (listed' := #[true, true, true, true, true, true, true, true, true, true, true, true, true, false, false]) rfl (by kernel_rfl) rfl (by rfl) (by kernel_rfl) ?hep12 (HE.out) ?hcp12
  case hep12 => go_simp
  rintro e w3 ⟨rfl, rfl⟩
  refine ⟨_, rfl, K0, ?_⟩
  simp only [List.setIfInBounds_toArray, List.set_cons_zero, List.set_cons_succ]
  have K3 : OnlyIn (fun j => j = w.heap.size) w2 (((w2.drew.setCell ⟨w.heap.size, 0, none⟩ (.int .i64 (n : Int))).setCell ⟨w.heap.size, 1, none⟩ (.func (.func 107) #[.agg #[d0.u, d0.t, .slice (some ⟨q0, 0, none⟩) 2 2, .slice a n cap]] #[])).setCell ⟨w.heap.size, 2, none⟩ (.func (.func 110) #[.agg #[d0.u, d0.t, .slice (some ⟨q0, 0, none⟩) 2 2, .slice a n cap]] #[])) := ((K0.set (b := w.heap.size) rfl 0 (.int .i64 (n : Int))).set (b := w.heap.size) rfl 1 (.func (.func 107) #[.agg #[d0.u, d0.t, .slice (some ⟨q0, 0, none⟩) 2 2, .slice a n cap]] #[])).set (b := w.heap.size) rfl 2 (.func (.func 110) #[.agg #[d0.u, d0.t, .slice (some ⟨q0, 0, none⟩) 2 2, .slice a n cap]] #[])
  refine hold_store (i := 13) (w' := (((w2.drew.setCell ⟨w.heap.size, 0, none⟩ (.int .i64 (n : Int))).setCell ⟨w.heap.size, 1, none⟩ (.func (.func 107) #[.agg #[d0.u, d0.t, .slice (some ⟨q0, 0, none⟩) 2 2, .slice a n cap]] #[])).setCell ⟨w.heap.size, 2, none⟩ (.func (.func 110) #[.agg #[d0.u, d0.t, .slice (some ⟨q0, 0, none⟩) 2 2, .slice a n cap]] #[]))) (listed' := #[true, true, true, true, true, true, true, true, true, true, true, true, true, true, false]) rfl (by kernel_rfl) rfl (by rfl) (by kernel_rfl) ?ps K3 ?_
  case ps =>
    have u0 := P1.c0
    have u1 := P1.c1
    have u2 := P1.c2
    have u3 := P1.f0
    have u4 := P1.f1
    have u5 := P1.f2
    go_simp
    try rfl
  refine hold_take (i := 14) (d := 5) (v := ?vp14) (listed' := #[true, true, true, true, true, true, true, true, true, true, true, true, true, true, true]) rfl (by kernel_rfl) (by kernel_rfl) (by kernel_rfl) rfl (by rfl) (by kernel_rfl) K3 ?hp14 ?rp14
  case hp14 =>
    intro w' hSw
    have hSb := hSw
    go_simp
    try with_reducible rfl
  simp only [List.setIfInBounds_toArray, List.set_cons_zero, List.set_cons_succ]
  refine hold_done (by kernel_rfl) ?_ _
  have hT := told3 (x := .int .i64 (n : Int)) (y := (.func (.func 107) #[.agg #[d0.u, d0.t, .slice (some ⟨q0, 0, none⟩) 2 2, .slice a n cap]] #[])) (z := (.func (.func 110) #[.agg #[d0.u, d0.t, .slice (some ⟨q0, 0, none⟩) 2 2, .slice a n cap]] #[])) t0 t1 t2
  have BF : Below w.heap.size w (((w2.drew.setCell ⟨w.heap.size, 0, none⟩ (.int .i64 (n : Int))).setCell ⟨w.heap.size, 1, none⟩ (.func (.func 107) #[.agg #[d0.u, d0.t, .slice (some ⟨q0, 0, none⟩) 2 2, .slice a n cap]] #[])).setCell ⟨w.heap.size, 2, none⟩ (.func (.func 110) #[.agg #[d0.u, d0.t, .slice (some ⟨q0, 0, none⟩) 2 2, .slice a n cap]] #[])) := B1.trans (K3.below fun j hj => by have hj' : j = w.heap.size := hj; omega)
  clear t0 t1 t2 t3 t4 t5 K0 HE
  generalize (((w2.drew.setCell ⟨w.heap.size, 0, none⟩ (.int .i64 (n : Int))).setCell ⟨w.heap.size, 1, none⟩ (.func (.func 107) #[.agg #[d0.u, d0.t, .slice (some ⟨q0, 0, none⟩) 2 2, .slice a n cap]] #[])).setCell ⟨w.heap.size, 2, none⟩ (.func (.func 110) #[.agg #[d0.u, d0.t, .slice (some ⟨q0, 0, none⟩) 2 2, .slice a n cap]] #[])) = w4 at hT K3 BF ⊢
  have r0 := hT.1
  have r1 := hT.2.1
  have r2 := hT.2.2
  obtain ⟨ok, hok⟩ : ∃ ok, ok = eachB d0.k n z := ⟨_, rfl⟩
  rw [← hok]
  have HOK := Lib.hid hok
  clear hok
  go_wp2_with fail
  refine bodyPost_ret (v := .tuple #[.agg #[.int .i64 (n : Int), (.func (.func 107) #[.agg #[d0.u, d0.t, .slice (some ⟨q0, 0, none⟩) 2 2, .slice a n cap]] #[]), (.func (.func 110) #[.agg #[d0.u, d0.t, .slice (some ⟨q0, 0, none⟩) 2 2, .slice a n cap]] #[])], .bool ok]) (by simp [results, Try.results82, go_sem, r0, r1, r2]) rfl ⟨BF, ?_⟩
  cases hk : ok with
  | false => exact .inl ⟨by rw [← HOK.out]; exact hk, .inr ⟨_, _, _, _, _, _, _, rfl⟩⟩
  | true =>
    have he : eachB d0.k n z = true := by rw [← HOK.out]; exact hk
    have hE0 := he
    rw [HLK.out] at hE0
    obtain ⟨rfl, hE⟩ := eachB_is hE0
    obtain ⟨rfl, _, _⟩ := HR.out.row 0 (by omega)
    have hI : d0.Is w4 B y0 o0 := HH0.out.step BF
    have hR : RowAt w4 w.heap.size (some ⟨g, o, none⟩) g o d0.m.n z := HR.out.below BF
    have hs4 := BF.size
    refine .inr ⟨he, _, rfl, ⟨⟨_, _, _, _, _, _, rfl, ⟨enters_of Try.func107 (by kernel_rfl) rfl, fun W x y hW hx hy => ?_⟩, ⟨enters_of Try.func110 (by kernel_rfl) rfl, fun W x hW hx => ?_⟩⟩⟩⟩
    · have hs5 := hW.size
      exact view_below (hI.step hW) ((hR.below (hW.mono hs4)).wide (by omega)) hn (fun c hc => by have h1 := hE.nat c hc; have h2 := hE.perm.lt c hc; have h3 : (z c).toNat < d0.m.n := h2; omega) hx hy
    · have hs5 := hW.size
      have h1 := hE.nat x hx
      have h2 : (z x).toNat < d0.m.n := hE.perm.lt x hx
      refine (view_opp (hI.step hW) ((hR.below (hW.mono hs4)).wide (by omega)) hn (by omega) hx (by omega)).mono fun e w' h => ?_
      rw [← hE.opp hx fun a ha => hI.orth.lt a ha]
      exact h

set_option maxRecDepth 100000 in
set_option maxHeartbeats 2000000 in
theorem Renamed_walk {w : World} {d0 : LD} {B N : Nat} {b : Nat → Nat → Bool} {y : Nat → Nat} {okp : Bool} {numV : Value} (h0 : d0.At w B) (hN : okp = true → 1 ≤ N ∧ N ≤ 1000) (hy : okp = true → N ≤ 12 → ∀ a, a < N → y a < N)
    (hp : d0.ok = true → ∀ (W : World) (v : Value) (base o0 : Nat), Below w.heap.size w W → W.ownsRow base 65 3 v 1 [d0.u, d0.t, .slice (some ⟨o0, 0, none⟩) 2 2] → Calls Try.prog 82 #[numV, v] W (Planned W N b y okp)) :
    Calls Try.prog 35 #[.agg #[d0.u, d0.t], numV] w (MadeLog w N (bitZ b) y (d0.ok && okp && decide (N ≤ 12))) := by
  have xa := TwoAt.new w d0.u d0.t 27
  have ba := (Below.refl w.heap.size w).alloc (Nat.le_refl _) (.cells #[d0.u, d0.t] 27)
  have hV := TwoAt.new (w.alloc (.cells #[d0.u, d0.t] 27)) (.slice none 0 0) (.slice none 0 0) 27
  have bb := (Below.refl (w.heap.size + 1) (w.alloc (.cells #[d0.u, d0.t] 27))).alloc (by simp) (.cells #[.slice none 0 0, .slice none 0 0] 27)
  simp only [World.size_alloc] at hV
  replace xa := xa.below bb (by omega)
  have xs := TwoAt.new ((w.alloc (.cells #[d0.u, d0.t] 27)).alloc (.cells #[.slice none 0 0, .slice none 0 0] 27)) d0.u d0.t 27
  simp only [World.size_alloc] at xs
  have bs := (Below.refl (w.heap.size + 1 + 1) ((w.alloc (.cells #[d0.u, d0.t] 27)).alloc (.cells #[.slice none 0 0, .slice none 0 0] 27))).alloc (by simp) (.cells #[d0.u, d0.t] 27)
  have hV1 := hV.below bs (by omega)
  have B1 := (ba.trans (bb.mono (by omega))).trans (bs.mono (by omega))
  have s1 : (((w.alloc (.cells #[d0.u, d0.t] 27)).alloc (.cells #[.slice none 0 0, .slice none 0 0] 27)).alloc (.cells #[d0.u, d0.t] 27)).heap.size = w.heap.size + 1 + 1 + 1 := by simp
  have hm : Calls Try.prog 48 #[.int .i64 4, numV, .slice (some ⟨w.heap.size + 1 + 1, 0, none⟩) 1 1] (((w.alloc (.cells #[d0.u, d0.t] 27)).alloc (.cells #[.slice none 0 0, .slice none 0 0] 27)).alloc (.cells #[d0.u, d0.t] 27)) (MadeOk _ N (bitZ b) y (d0.ok && okp && decide (N ≤ 12))) :=
    made_Renamed (d0 := d0) (B := B) (LogAt.step h0 B1) (by omega) xs.c0 xs.c1 (fun e0 W v o0 hW hv _ => hp e0 W v _ o0 (B1.trans (hW.mono (by omega))) hv) hN hy
  have HM := Lib.hid hm
  have q0 := xa.c0
  have q1 := xa.c1
  clear hN hy hp hV hm ba bb bs h0 xs
  go_enter Try.func35, Try.ntmps35
  go_wp2_with fail
  go_at_call 48
  refine HM.out.mono ?_
  clear q0 q1 xa
  generalize ((w.alloc (.cells #[d0.u, d0.t] 27)).alloc (.cells #[.slice none 0 0, .slice none 0 0] 27)).alloc (.cells #[d0.u, d0.t] 27) = w2 at hV1 B1 s1 ⊢
  rintro e w3 ⟨b3, (⟨hok, rfl⟩ | ⟨hok, u, t, rv, rfl, hL⟩)⟩
  · have s3 := b3.size
    have B3 := B1.trans (b3.mono B1.size)
    have bn := (Below.refl w3.heap.size w3).alloc (Nat.le_refl _) (.cells #[.slice none 0 0, .slice none 0 0] 27)
    have hV2 := (hV1.below b3 (by omega)).below bn (by omega)
    have HOK := Lib.hid hok
    have B4 := B3.trans (bn.mono B3.size)
    have t0 := hV2.c0
    have t1 := hV2.c1
    have t2 := hV2.f0
    have t3 := hV2.f1
    clear hok b3 bn B3
    unfold noLog
    go_wp2_with fail
    have hfin := (hV2.set0 (.slice none 0 0)).set1 (.slice none 0 0)
    have f0 := hfin.c0
    have f1 := hfin.c1
    exact bodyPost_ret (v := noLog) (by simp [results, Try.results35, go_sem, f0, f1, noLog]) rfl (madeLog_no (by omega) B4 HOK.out)
  · have hp := hL.pos
    obtain ⟨gu, cu, rfl, _⟩ := hL.out.topv (by omega)
    obtain ⟨gt, ct, rfl, _⟩ := hL.ints.val (by omega)
    have s3 := b3.size
    have B3 := B1.trans (b3.mono B1.size)
    have bn := (Below.refl w3.heap.size w3).alloc (Nat.le_refl _) (.cells #[.slice (some ⟨gu, 0, none⟩) N cu, .slice (some ⟨gt, 0, none⟩) N ct] 27)
    have hV2 := (hV1.below b3 (by omega)).below bn (by omega)
    have HOK := Lib.hid hok
    have HL := Lib.hid (hL.below bn (Nat.le_refl _))
    have B4 := B3.trans (bn.mono B3.size)
    have t0 := hV2.c0
    have t1 := hV2.c1
    have t2 := hV2.f0
    have t3 := hV2.f1
    clear hok hL b3 bn B3
    go_wp2_with fail
    have hfin := (hV2.set0 (.slice (some ⟨gu, 0, none⟩) N cu)).set1 (.slice (some ⟨gt, 0, none⟩) N ct)
    have q0 := hfin.c0
    have q1 := hfin.c1
    have hon := set2_only (w3.alloc (.cells #[.slice (some ⟨gu, 0, none⟩) N cu, .slice (some ⟨gt, 0, none⟩) N ct] 27)) (w.heap.size + 1) (.slice (some ⟨gu, 0, none⟩) N cu) (.slice (some ⟨gt, 0, none⟩) N ct)
    refine bodyPost_ret (v := .agg #[.slice (some ⟨gu, 0, none⟩) N cu, .slice (some ⟨gt, 0, none⟩) N ct]) (by simp [results, Try.results35, go_sem, q0, q1]) rfl ⟨B4.trans (hon.below fun j hj => by have hj' : j = (w.heap.size + 1) := hj; omega), .inr ⟨HOK.out, _, _, rv, rfl, ((HL.out.chg (Chg.of_only hon) fun j hj => ?_).base (by omega))⟩⟩
    have hj' : j = (w.heap.size + 1) := hj
    omega

theorem Renamed_any {w : World} {d0 : LD} {B : Nat} {a : Option Addr} {g o n cap : Nat} {z : Nat → Int} (h0 : d0.At w B) (hr : RowAt w w.heap.size a g o n z) (hn : n ≤ 9223372036854775807) :
    Calls Try.prog 35 #[.agg #[d0.u, d0.t], .slice a n cap] w (MadeLog w n (nameZ d0.m.Z (fun c => (z c).toNat)) (fun x => placeN n z (d0.y (z x).toNat)) (d0.ok && eachB d0.m.n n z)) := by
  cases e0 : d0.ok with
  | false =>
    refine (Renamed_walk (N := 1) (b := fun _ _ => true) (y := fun _ => 0) (okp := true) (numV := .slice a n cap) h0 (fun _ => by omega) (fun _ _ a _ => by omega) (fun f => by rw [e0] at f; cases f)).mono fun e w' h => ?_
    rw [e0] at h
    exact ⟨h.1, .inl ⟨rfl, (h.2.resolve_right fun ⟨f, _⟩ => by simp at f).2⟩⟩
  | true =>
    obtain ⟨o0, i0⟩ := LD.isY h0 e0
    have hh := i0.hi
    cases he : eachB d0.m.n n z with
    | false =>
      refine (Renamed_walk (N := n) (b := viewB d0.m z) (y := fun x => placeN n z (d0.y (z x).toNat)) (okp := false) (numV := .slice a n cap) h0 (fun f => by cases f) (fun f => by cases f) (fun _ W v base q0 hW hv => ?_)).mono fun e w' h => ?_
      · have := planRenamed_any (cap := cap) (i0.step hW) ((hr.below hW).wide hW.size) hn hv
        rw [he] at this
        exact this
      · rw [e0] at h
        exact ⟨h.1, .inl ⟨rfl, (h.2.resolve_right fun ⟨f, _⟩ => by simp at f).2⟩⟩
    | true =>
      obtain ⟨rfl, hE⟩ := eachB_is he
      refine (Renamed_walk (N := d0.m.n) (b := viewB d0.m z) (y := fun x => placeN d0.m.n z (d0.y (z x).toNat)) (okp := true) (numV := .slice a d0.m.n cap) h0 (fun _ => by omega) (fun _ _ x hx => ?_) (fun _ W v base q0 hW hv => ?_)).mono fun e w' h => ?_
      · exact hE.perm.blt _ (i0.orth.lt _ (hE.perm.lt x hx))
      · have := planRenamed_any (cap := cap) (i0.step hW) ((hr.below hW).wide hW.size) hn hv
        rw [he] at this
        exact this
      · rw [e0] at h
        exact h.congr (by simp; omega) (fun _ r hr c hc => hE.view hr hc (i0.orth.lat.order.sq.bit _ (hE.perm.lt r hr) _ (hE.perm.lt c hc))) (fun _ _ _ => rfl)
end Go.Proofs.Ytgjacinolenheaa
