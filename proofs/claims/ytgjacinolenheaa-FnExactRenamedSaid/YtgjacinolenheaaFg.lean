/- The walk of the plan of pairs. -/
import Derived.Test.YtgjacinolenheaaFe
namespace Go.Proofs.Ytgjacinolenheaa
open Go.RowKit Go.Deep

/-- A logic of this kind that is one: its opposites as plain numbers, its least answer. -/
structure LD.Is (d : LD) (w : World) (B : Nat) (y : Nat → Nat) (o : Nat) : Prop where
  at_ : d.At w B
  ok : logicB d.m d.k d.z = true
  orth : Ortho d.m d.z y o
  len : d.k = d.m.n
theorem LD.is {d : LD} {w : World} {B : Nat} (h : d.At w B) (hok : d.ok = true) : ∃ y o, d.Is w B y o := by
  have hl := logicB_is hok
  obtain ⟨y, o, hO⟩ := hl.ortho
  exact ⟨y, o, h, hok, hO, hl.pair.len⟩
theorem LD.Is.step {d : LD} {w w' : World} {B o : Nat} {y : Nat → Nat} (h : d.Is w B y o) (hb : Below w.heap.size w w') : d.Is w' B y o := ⟨LogAt.step h.at_ hb, h.ok, h.orth, h.len⟩
theorem LD.Is.sq {d : LD} {w : World} {B o : Nat} {y : Nat → Nat} (h : d.Is w B y o) : SqAt w B d.ua d.l d.m := LogAt.sq h.at_ h.orth.lat.order
theorem LD.Is.hi {d : LD} {w : World} {B o : Nat} {y : Nat → Nat} (h : d.Is w B y o) : 1 ≤ d.m.n ∧ d.m.n ≤ 12 := ⟨h.orth.lat.order.pos, h.orth.lat.order.top⟩
theorem LD.Is.notAt {d : LD} {w : World} {B o : Nat} {y : Nat → Nat} (h : d.Is w B y o) {a : Nat} (ha : a < d.m.n) : d.na = some ⟨d.g, d.o, none⟩ ∧ w.cell? ⟨d.g, d.o + a, none⟩ = some (.int .i64 (y a : Int)) ∧ y a < d.m.n := by
  obtain ⟨h1, _, h3⟩ := h.at_.row.row a (by rw [h.len]; exact ha)
  rw [h.orth.zy a ha] at h3
  exact ⟨h1, h3, h.orth.lt a ha⟩
def pairsB (m1 m2 : Mx) (x y : Nat) : Bool := leB m1 (x / m2.n) (y / m2.n) && leB m2 (x % m2.n) (y % m2.n)
def pairsY (n : Nat) (y1 y2 : Nat → Nat) (x : Nat) : Nat := y1 (x / n) * n + y2 (x % n)

set_option maxRecDepth 100000 in
set_option maxHeartbeats 2000000 in
theorem pairs_below {w : World} {d0 d1 : LD} {B o0 o1 p6 p7 p8 : Nat} {y0 y1 : Nat → Nat} (h0 : d0.Is w B y0 o0) (h1 : d1.Is w B y1 o1)
    (c6 : w.cell? ⟨p6, 0, none⟩ = some d0.u) (c8 : w.cell? ⟨p8, 0, none⟩ = some (.int .i64 (d1.m.n : Int))) (c7 : w.cell? ⟨p7, 0, none⟩ = some d1.u) :
    Fun2At w 111 #[] #[.pointer (some ⟨p6, 0, none⟩), .pointer (some ⟨p8, 0, none⟩), .pointer (some ⟨p7, 0, none⟩)] (d0.m.n * d1.m.n) (pairsB d0.m d1.m) := by
  have g6 := World.block_lt_of_cell? w ⟨p6, 0, none⟩ c6
  have g7 := World.block_lt_of_cell? w ⟨p7, 0, none⟩ c7
  have g8 := World.block_lt_of_cell? w ⟨p8, 0, none⟩ c8
  refine ⟨enters_of Try.func111 (by kernel_rfl) rfl, fun W x y hW hx hy => ?_⟩
  show Calls Try.prog 111 #[.int .i64 (x : Int), .int .i64 (y : Int), .pointer (some ⟨p6, 0, none⟩), .pointer (some ⟨p8, 0, none⟩), .pointer (some ⟨p7, 0, none⟩)] W _
  obtain ⟨l1, l3, -⟩ := pair_parts hx
  obtain ⟨l2, l4, -⟩ := pair_parts hy
  replace c6 := (hW.cell (p := ⟨p6, 0, none⟩) g6).trans c6
  replace c7 := (hW.cell (p := ⟨p7, 0, none⟩) g7).trans c7
  replace c8 := (hW.cell (p := ⟨p8, 0, none⟩) g8).trans c8
  have hs := hW.size
  replace g6 : p6 < W.heap.size := by have : p6 < w.heap.size := g6; omega
  replace g7 : p7 < W.heap.size := by have : p7 < w.heap.size := g7; omega
  replace g8 : p8 < W.heap.size := by have : p8 < w.heap.size := g8; omega
  have S0 := Lib.hid (h0.step hW).sq
  have HS1 := Lib.hid (h1.step hW).sq
  have n0 := h0.hi
  have n1 := h1.hi
  have hxs : x < 144 := Nat.lt_of_lt_of_le hx (Nat.le_trans (Nat.mul_le_mul n0.2 n1.2) (by omega))
  have hys : y < 144 := Nat.lt_of_lt_of_le hy (Nat.le_trans (Nat.mul_le_mul n0.2 n1.2) (by omega))
  have hnz : ¬ d1.m.n = 0 := by omega
  obtain ⟨qx, hqx⟩ : ∃ q : Nat, q = x / d1.m.n := ⟨_, rfl⟩
  obtain ⟨qy, hqy⟩ : ∃ q : Nat, q = y / d1.m.n := ⟨_, rfl⟩
  obtain ⟨rx, hrx⟩ : ∃ q : Nat, q = x % d1.m.n := ⟨_, rfl⟩
  obtain ⟨ry, hry⟩ : ∃ q : Nat, q = y % d1.m.n := ⟨_, rfl⟩
  have HB : Hid (pairsB d0.m d1.m x y = (leB d0.m qx qy && leB d1.m rx ry)) := by show _ = _; unfold pairsB; rw [hqx, hqy, hrx, hry]
  rw [← hqx] at l1
  rw [← hqy] at l2
  rw [← hrx] at l3
  rw [← hry] at l4
  have e1 : IntKind.i64.wrap ((x : Int) / (d1.m.n : Int)) = (qx : Int) := by rw [← Int.natCast_ediv, ← hqx]; exact IntWalk.i64_in _ (by omega)
  have e2 : IntKind.i64.wrap ((y : Int) / (d1.m.n : Int)) = (qy : Int) := by rw [← Int.natCast_ediv, ← hqy]; exact IntWalk.i64_in _ (by omega)
  have e3 : (x : Int).tmod (d1.m.n : Int) = (rx : Int) := by rw [Int.tmod_eq_emod_of_nonneg (by omega), ← Int.natCast_emod, ← hrx]
  have e4 : (y : Int).tmod (d1.m.n : Int) = (ry : Int) := by rw [Int.tmod_eq_emod_of_nonneg (by omega), ← Int.natCast_emod, ← hry]
  clear hqx hqy hrx hry hx hy hxs hys
  have K0 := (show _ ∧ _ ∧ _ from ⟨c6, c8, c7⟩)
  cases hv : leB d0.m qx qy with
  | true =>
    have HV1 := Lib.hid hv
    have HR : Hid (pairsB d0.m d1.m x y = leB d1.m rx ry) := by show _ = _; rw [HB.out, hv]; rfl
    clear hv
    go_enter Try.func111, Try.ntmps111
    go_wp2_with fail
    refine region_plain (fuel := 21) (listed := #[false, false, false, false, false, false, false, false, false, false, false, false, false, false, false, false, false, false, false, false, false]) (fun w' => w'.cell? ⟨p6, 0, none⟩ = some d0.u ∧ w'.cell? ⟨p8, 0, none⟩ = some (.int .i64 (d1.m.n : Int)) ∧ w'.cell? ⟨p7, 0, none⟩ = some d1.u) (by kernel_rfl) (by kernel_rfl) (by kernel_rfl) ?_
    refine hold_take (i := 0) (d := 8) (v := ?vpt0) (listed' := #[true, false, false, false, false, false, false, false, false, false, false, false, false, false, false, false, false, false, false, false, false]) rfl (by kernel_rfl) (by kernel_rfl) (by kernel_rfl) rfl (by rfl) (by kernel_rfl) K0 ?hpt0 ?rpt0
    case hpt0 =>
      intro w' hSw
      obtain ⟨k0, k1, k2⟩ := hSw
      go_simp
      try with_reducible rfl
    simp only [List.setIfInBounds_toArray, List.set_cons_zero, List.set_cons_succ]
    refine hold_take (i := 1) (d := 9) (v := ?vpt1) (listed' := #[true, true, false, false, false, false, false, false, false, false, false, false, false, false, false, false, false, false, false, false, false]) rfl (by kernel_rfl) (by kernel_rfl) (by kernel_rfl) rfl (by rfl) (by kernel_rfl) K0 ?hpt1 ?rpt1
    case hpt1 =>
      intro w' hSw
      obtain ⟨k0, k1, k2⟩ := hSw
      go_simp
      try with_reducible rfl
    simp only [List.setIfInBounds_toArray, List.set_cons_zero, List.set_cons_succ]
    refine hold_take (i := 2) (d := 10) (v := ?vpt2) (listed' := #[true, true, true, false, false, false, false, false, false, false, false, false, false, false, false, false, false, false, false, false, false]) rfl (by kernel_rfl) (by kernel_rfl) (by kernel_rfl) rfl (by rfl) (by kernel_rfl) K0 ?hpt2 ?rpt2
    case hpt2 =>
      intro w' hSw
      obtain ⟨k0, k1, k2⟩ := hSw
      go_simp
      try with_reducible rfl
    simp only [List.setIfInBounds_toArray, List.set_cons_zero, List.set_cons_succ]
    refine hold_take (i := 3) (d := 11) (v := ?vpt3) (listed' := #[true, true, true, true, false, false, false, false, false, false, false, false, false, false, false, false, false, false, false, false, false]) rfl (by kernel_rfl) (by kernel_rfl) (by kernel_rfl) rfl (by rfl) (by kernel_rfl) K0 ?hpt3 ?rpt3
    case hpt3 =>
      intro w' hSw
      obtain ⟨k0, k1, k2⟩ := hSw
      go_simp
      try with_reducible rfl
    simp only [List.setIfInBounds_toArray, List.set_cons_zero, List.set_cons_succ]
    refine hold_take (i := 4) (d := 12) (v := ?vpt4) (listed' := #[true, true, true, true, true, false, false, false, false, false, false, false, false, false, false, false, false, false, false, false, false]) rfl (by kernel_rfl) (by kernel_rfl) (by kernel_rfl) rfl (by rfl) (by kernel_rfl) K0 ?hpt4 ?rpt4
    case hpt4 =>
      intro w' hSw
      obtain ⟨k0, k1, k2⟩ := hSw
      go_simp
      try with_reducible rfl
    simp only [List.setIfInBounds_toArray, List.set_cons_zero, List.set_cons_succ]
    refine hold_take (i := 5) (d := 13) (v := ?vpt5) (listed' := #[true, true, true, true, true, true, false, false, false, false, false, false, false, false, false, false, false, false, false, false, false]) rfl (by kernel_rfl) (by kernel_rfl) (by kernel_rfl) rfl (by rfl) (by kernel_rfl) K0 ?hpt5 ?rpt5
    case hpt5 =>
      intro w' hSw
      obtain ⟨k0, k1, k2⟩ := hSw
      go_simp
      try with_reducible rfl
    simp only [List.setIfInBounds_toArray, List.set_cons_zero, List.set_cons_succ]
    refine hold_take (i := 6) (d := 14) (v := ?vpt6) (listed' := #[true, true, true, true, true, true, true, false, false, false, false, false, false, false, false, false, false, false, false, false, false]) rfl (by kernel_rfl) (by kernel_rfl) (by kernel_rfl) rfl (by rfl) (by kernel_rfl) K0 ?hpt6 ?rpt6
    case hpt6 =>
      intro w' hSw
      obtain ⟨k0, k1, k2⟩ := hSw
      go_simp
      try with_reducible rfl
    simp only [List.setIfInBounds_toArray, List.set_cons_zero, List.set_cons_succ]
    refine hold_take (i := 7) (d := 15) (v := ?vpt7) (listed' := #[true, true, true, true, true, true, true, true, false, false, false, false, false, false, false, false, false, false, false, false, false]) rfl (by kernel_rfl) (by kernel_rfl) (by kernel_rfl) rfl (by rfl) (by kernel_rfl) K0 ?hpt7 ?rpt7
    case hpt7 =>
      intro w' hSw
      obtain ⟨k0, k1, k2⟩ := hSw
      go_simp
      try with_reducible rfl
    simp only [List.setIfInBounds_toArray, List.set_cons_zero, List.set_cons_succ]
    refine hold_call (i := 8) (d := 16) (listed' := #[true, true, true, true, true, true, true, true, true, false, false, false, false, false, false, false, false, false, false, false, false]) rfl (by kernel_rfl) rfl (by rfl) (by kernel_rfl) ?hept8 (below_sq (S0.out.step (Below.refl _ W).drew) l1 l2) ?hcpt8
    case hept8 => go_simp
    rintro e w1 ⟨rfl, b1⟩
    rw [HV1.out]
    have bd := ((Below.refl W.heap.size W).drew).trans (b1.mono (by simp))
    have K1 := (show _ ∧ _ ∧ _ from ⟨(bd.cell (p := ⟨p6, 0, none⟩) g6).trans c6, (bd.cell (p := ⟨p8, 0, none⟩) g8).trans c8, (bd.cell (p := ⟨p7, 0, none⟩) g7).trans c7⟩)
    have S1 := Lib.hid (HS1.out.step bd)
    have B1 := bd
    clear K0 b1 bd
    refine ⟨_, rfl, K1, ?_⟩
    simp only [List.setIfInBounds_toArray, List.set_cons_zero, List.set_cons_succ]
    refine hold_take (i := 9) (d := 17) (v := ?vpt9) (listed' := #[true, true, true, true, true, true, true, true, true, true, false, false, false, false, false, false, false, false, false, false, false]) rfl (by kernel_rfl) (by kernel_rfl) (by kernel_rfl) rfl (by rfl) (by kernel_rfl) K1 ?hpt9 ?rpt9
    case hpt9 =>
      intro w' hSw
      obtain ⟨k0, k1, k2⟩ := hSw
      go_simp
      try with_reducible rfl
    simp only [List.setIfInBounds_toArray, List.set_cons_zero, List.set_cons_succ]
    refine hold_take (i := 10) (d := 18) (v := ?vpt10) (listed' := #[true, true, true, true, true, true, true, true, true, true, true, false, false, false, false, false, false, false, false, false, false]) rfl (by kernel_rfl) (by kernel_rfl) (by kernel_rfl) rfl (by rfl) (by kernel_rfl) K1 ?hpt10 ?rpt10
    case hpt10 =>
      intro w' hSw
      obtain ⟨k0, k1, k2⟩ := hSw
      go_simp
      try with_reducible rfl
    simp only [List.setIfInBounds_toArray, List.set_cons_zero, List.set_cons_succ]
    refine hold_take (i := 11) (d := 19) (v := ?vpt11) (listed' := #[true, true, true, true, true, true, true, true, true, true, true, true, false, false, false, false, false, false, false, false, false]) rfl (by kernel_rfl) (by kernel_rfl) (by kernel_rfl) rfl (by rfl) (by kernel_rfl) K1 ?hpt11 ?rpt11
    case hpt11 =>
      intro w' hSw
      obtain ⟨k0, k1, k2⟩ := hSw
      go_simp
      try with_reducible rfl
    simp only [List.setIfInBounds_toArray, List.set_cons_zero, List.set_cons_succ]
    refine hold_take (i := 12) (d := 20) (v := ?vpt12) (listed' := #[true, true, true, true, true, true, true, true, true, true, true, true, true, false, false, false, false, false, false, false, false]) rfl (by kernel_rfl) (by kernel_rfl) (by kernel_rfl) rfl (by rfl) (by kernel_rfl) K1 ?hpt12 ?rpt12
    case hpt12 =>
      intro w' hSw
      obtain ⟨k0, k1, k2⟩ := hSw
      go_simp
      try with_reducible rfl
    simp only [List.setIfInBounds_toArray, List.set_cons_zero, List.set_cons_succ]
    refine hold_take (i := 13) (d := 21) (v := ?vpt13) (listed' := #[true, true, true, true, true, true, true, true, true, true, true, true, true, true, false, false, false, false, false, false, false]) rfl (by kernel_rfl) (by kernel_rfl) (by kernel_rfl) rfl (by rfl) (by kernel_rfl) K1 ?hpt13 ?rpt13
    case hpt13 =>
      intro w' hSw
      obtain ⟨k0, k1, k2⟩ := hSw
      go_simp
      try with_reducible rfl
    simp only [List.setIfInBounds_toArray, List.set_cons_zero, List.set_cons_succ]
    refine hold_take (i := 14) (d := 22) (v := ?vpt14) (listed' := #[true, true, true, true, true, true, true, true, true, true, true, true, true, true, true, false, false, false, false, false, false]) rfl (by kernel_rfl) (by kernel_rfl) (by kernel_rfl) rfl (by rfl) (by kernel_rfl) K1 ?hpt14 ?rpt14
    case hpt14 =>
      intro w' hSw
      obtain ⟨k0, k1, k2⟩ := hSw
      go_simp
      try with_reducible rfl
    simp only [List.setIfInBounds_toArray, List.set_cons_zero, List.set_cons_succ]
    refine hold_take (i := 15) (d := 23) (v := ?vpt15) (listed' := #[true, true, true, true, true, true, true, true, true, true, true, true, true, true, true, true, false, false, false, false, false]) rfl (by kernel_rfl) (by kernel_rfl) (by kernel_rfl) rfl (by rfl) (by kernel_rfl) K1 ?hpt15 ?rpt15
    case hpt15 =>
      intro w' hSw
      obtain ⟨k0, k1, k2⟩ := hSw
      go_simp
      try with_reducible rfl
    simp only [List.setIfInBounds_toArray, List.set_cons_zero, List.set_cons_succ]
    refine hold_take (i := 16) (d := 24) (v := ?vpt16) (listed' := #[true, true, true, true, true, true, true, true, true, true, true, true, true, true, true, true, true, false, false, false, false]) rfl (by kernel_rfl) (by kernel_rfl) (by kernel_rfl) rfl (by rfl) (by kernel_rfl) K1 ?hpt16 ?rpt16
    case hpt16 =>
      intro w' hSw
      obtain ⟨k0, k1, k2⟩ := hSw
      go_simp
      try with_reducible rfl
    simp only [List.setIfInBounds_toArray, List.set_cons_zero, List.set_cons_succ]
    refine hold_take (i := 17) (d := 25) (v := ?vpt17) (listed' := #[true, true, true, true, true, true, true, true, true, true, true, true, true, true, true, true, true, true, false, false, false]) rfl (by kernel_rfl) (by kernel_rfl) (by kernel_rfl) rfl (by rfl) (by kernel_rfl) K1 ?hpt17 ?rpt17
    case hpt17 =>
      intro w' hSw
      obtain ⟨k0, k1, k2⟩ := hSw
      go_simp
      try with_reducible rfl
    simp only [List.setIfInBounds_toArray, List.set_cons_zero, List.set_cons_succ]
    refine hold_call (i := 18) (d := 26) (listed' := #[true, true, true, true, true, true, true, true, true, true, true, true, true, true, true, true, true, true, true, false, false]) rfl (by kernel_rfl) rfl (by rfl) (by kernel_rfl) ?hept18 (below_sq S1.out l3 l4) ?hcpt18
    case hept18 => go_simp
    rintro e w2 ⟨rfl, b2⟩
    have B2 := B1.trans (b2.mono B1.size)
    have K2 := (show _ ∧ _ ∧ _ from ⟨(B2.cell (p := ⟨p6, 0, none⟩) g6).trans c6, (B2.cell (p := ⟨p8, 0, none⟩) g8).trans c8, (B2.cell (p := ⟨p7, 0, none⟩) g7).trans c7⟩)
    clear K1 b2
    refine ⟨_, rfl, K2, ?_⟩
    simp only [List.setIfInBounds_toArray, List.set_cons_zero, List.set_cons_succ]
    refine hold_take (i := 19) (d := 27) (v := ?vpt19) (listed' := #[true, true, true, true, true, true, true, true, true, true, true, true, true, true, true, true, true, true, true, true, false]) rfl (by kernel_rfl) (by kernel_rfl) (by kernel_rfl) rfl (by rfl) (by kernel_rfl) K2 ?hpt19 ?rpt19
    case hpt19 =>
      intro w' hSw
      obtain ⟨k0, k1, k2⟩ := hSw
      go_simp
      try with_reducible rfl
    simp only [List.setIfInBounds_toArray, List.set_cons_zero, List.set_cons_succ]
    refine hold_take (i := 20) (d := 7) (v := ?vpt20) (listed' := #[true, true, true, true, true, true, true, true, true, true, true, true, true, true, true, true, true, true, true, true, true]) rfl (by kernel_rfl) (by kernel_rfl) (by kernel_rfl) rfl (by rfl) (by kernel_rfl) K2 ?hpt20 ?rpt20
    case hpt20 =>
      intro w' hSw
      obtain ⟨k0, k1, k2⟩ := hSw
      go_simp
      try with_reducible rfl
    simp only [List.setIfInBounds_toArray, List.set_cons_zero, List.set_cons_succ]
    refine hold_done (by kernel_rfl) ?_ _
    clear K2
    go_wp2_with fail
    go_ret
    exact ⟨ret_bool HR.out.symm, B2⟩
  | false =>
    have HV1 := Lib.hid hv
    have HR : Hid (pairsB d0.m d1.m x y = false) := by show _ = _; rw [HB.out, hv]; rfl
    clear hv
    go_enter Try.func111, Try.ntmps111
    go_wp2_with fail
    refine region_plain (fuel := 21) (listed := #[false, false, false, false, false, false, false, false, false, false, false, false, false, false, false, false, false, false, false, false, false]) (fun w' => w'.cell? ⟨p6, 0, none⟩ = some d0.u ∧ w'.cell? ⟨p8, 0, none⟩ = some (.int .i64 (d1.m.n : Int)) ∧ w'.cell? ⟨p7, 0, none⟩ = some d1.u) (by kernel_rfl) (by kernel_rfl) (by kernel_rfl) ?_
    refine hold_take (i := 0) (d := 8) (v := ?vpf0) (listed' := #[true, false, false, false, false, false, false, false, false, false, false, false, false, false, false, false, false, false, false, false, false]) rfl (by kernel_rfl) (by kernel_rfl) (by kernel_rfl) rfl (by rfl) (by kernel_rfl) K0 ?hpf0 ?rpf0
    case hpf0 =>
      intro w' hSw
      obtain ⟨k0, k1, k2⟩ := hSw
      go_simp
      try with_reducible rfl
    simp only [List.setIfInBounds_toArray, List.set_cons_zero, List.set_cons_succ]
    refine hold_take (i := 1) (d := 9) (v := ?vpf1) (listed' := #[true, true, false, false, false, false, false, false, false, false, false, false, false, false, false, false, false, false, false, false, false]) rfl (by kernel_rfl) (by kernel_rfl) (by kernel_rfl) rfl (by rfl) (by kernel_rfl) K0 ?hpf1 ?rpf1
    case hpf1 =>
      intro w' hSw
      obtain ⟨k0, k1, k2⟩ := hSw
      go_simp
      try with_reducible rfl
    simp only [List.setIfInBounds_toArray, List.set_cons_zero, List.set_cons_succ]
    refine hold_take (i := 2) (d := 10) (v := ?vpf2) (listed' := #[true, true, true, false, false, false, false, false, false, false, false, false, false, false, false, false, false, false, false, false, false]) rfl (by kernel_rfl) (by kernel_rfl) (by kernel_rfl) rfl (by rfl) (by kernel_rfl) K0 ?hpf2 ?rpf2
    case hpf2 =>
      intro w' hSw
      obtain ⟨k0, k1, k2⟩ := hSw
      go_simp
      try with_reducible rfl
    simp only [List.setIfInBounds_toArray, List.set_cons_zero, List.set_cons_succ]
    refine hold_take (i := 3) (d := 11) (v := ?vpf3) (listed' := #[true, true, true, true, false, false, false, false, false, false, false, false, false, false, false, false, false, false, false, false, false]) rfl (by kernel_rfl) (by kernel_rfl) (by kernel_rfl) rfl (by rfl) (by kernel_rfl) K0 ?hpf3 ?rpf3
    case hpf3 =>
      intro w' hSw
      obtain ⟨k0, k1, k2⟩ := hSw
      go_simp
      try with_reducible rfl
    simp only [List.setIfInBounds_toArray, List.set_cons_zero, List.set_cons_succ]
    refine hold_take (i := 4) (d := 12) (v := ?vpf4) (listed' := #[true, true, true, true, true, false, false, false, false, false, false, false, false, false, false, false, false, false, false, false, false]) rfl (by kernel_rfl) (by kernel_rfl) (by kernel_rfl) rfl (by rfl) (by kernel_rfl) K0 ?hpf4 ?rpf4
    case hpf4 =>
      intro w' hSw
      obtain ⟨k0, k1, k2⟩ := hSw
      go_simp
      try with_reducible rfl
    simp only [List.setIfInBounds_toArray, List.set_cons_zero, List.set_cons_succ]
    refine hold_take (i := 5) (d := 13) (v := ?vpf5) (listed' := #[true, true, true, true, true, true, false, false, false, false, false, false, false, false, false, false, false, false, false, false, false]) rfl (by kernel_rfl) (by kernel_rfl) (by kernel_rfl) rfl (by rfl) (by kernel_rfl) K0 ?hpf5 ?rpf5
    case hpf5 =>
      intro w' hSw
      obtain ⟨k0, k1, k2⟩ := hSw
      go_simp
      try with_reducible rfl
    simp only [List.setIfInBounds_toArray, List.set_cons_zero, List.set_cons_succ]
    refine hold_take (i := 6) (d := 14) (v := ?vpf6) (listed' := #[true, true, true, true, true, true, true, false, false, false, false, false, false, false, false, false, false, false, false, false, false]) rfl (by kernel_rfl) (by kernel_rfl) (by kernel_rfl) rfl (by rfl) (by kernel_rfl) K0 ?hpf6 ?rpf6
    case hpf6 =>
      intro w' hSw
      obtain ⟨k0, k1, k2⟩ := hSw
      go_simp
      try with_reducible rfl
    simp only [List.setIfInBounds_toArray, List.set_cons_zero, List.set_cons_succ]
    refine hold_take (i := 7) (d := 15) (v := ?vpf7) (listed' := #[true, true, true, true, true, true, true, true, false, false, false, false, false, false, false, false, false, false, false, false, false]) rfl (by kernel_rfl) (by kernel_rfl) (by kernel_rfl) rfl (by rfl) (by kernel_rfl) K0 ?hpf7 ?rpf7
    case hpf7 =>
      intro w' hSw
      obtain ⟨k0, k1, k2⟩ := hSw
      go_simp
      try with_reducible rfl
    simp only [List.setIfInBounds_toArray, List.set_cons_zero, List.set_cons_succ]
    refine hold_call (i := 8) (d := 16) (listed' := #[true, true, true, true, true, true, true, true, true, false, false, false, false, false, false, false, false, false, false, false, false]) rfl (by kernel_rfl) rfl (by rfl) (by kernel_rfl) ?hepf8 (below_sq (S0.out.step (Below.refl _ W).drew) l1 l2) ?hcpf8
    case hepf8 => go_simp
    rintro e w1 ⟨rfl, b1⟩
    rw [HV1.out]
    have bd := ((Below.refl W.heap.size W).drew).trans (b1.mono (by simp))
    have K1 := (show _ ∧ _ ∧ _ from ⟨(bd.cell (p := ⟨p6, 0, none⟩) g6).trans c6, (bd.cell (p := ⟨p8, 0, none⟩) g8).trans c8, (bd.cell (p := ⟨p7, 0, none⟩) g7).trans c7⟩)
    have S1 := Lib.hid (HS1.out.step bd)
    have B1 := bd
    clear K0 b1 bd
    refine ⟨_, rfl, K1, ?_⟩
    simp only [List.setIfInBounds_toArray, List.set_cons_zero, List.set_cons_succ]
    refine hold_take (i := 9) (d := 17) (v := ?vpf9) (listed' := #[true, true, true, true, true, true, true, true, true, true, false, false, false, false, false, false, false, false, false, false, false]) rfl (by kernel_rfl) (by kernel_rfl) (by kernel_rfl) rfl (by rfl) (by kernel_rfl) K1 ?hpf9 ?rpf9
    case hpf9 =>
      intro w' hSw
      obtain ⟨k0, k1, k2⟩ := hSw
      go_simp
      try with_reducible rfl
    simp only [List.setIfInBounds_toArray, List.set_cons_zero, List.set_cons_succ]
    refine hold_skip (i := 10) (d := 18) (listed' := #[true, true, true, true, true, true, true, true, true, true, true, false, false, false, false, false, false, false, false, false, false]) rfl (by kernel_rfl) (by kernel_rfl) (by kernel_rfl) rfl (by rfl) (by kernel_rfl) K1 ?_
    simp only [List.setIfInBounds_toArray, List.set_cons_zero, List.set_cons_succ]
    refine hold_skip (i := 11) (d := 19) (listed' := #[true, true, true, true, true, true, true, true, true, true, true, true, false, false, false, false, false, false, false, false, false]) rfl (by kernel_rfl) (by kernel_rfl) (by kernel_rfl) rfl (by rfl) (by kernel_rfl) K1 ?_
    simp only [List.setIfInBounds_toArray, List.set_cons_zero, List.set_cons_succ]
    refine hold_skip (i := 12) (d := 20) (listed' := #[true, true, true, true, true, true, true, true, true, true, true, true, true, false, false, false, false, false, false, false, false]) rfl (by kernel_rfl) (by kernel_rfl) (by kernel_rfl) rfl (by rfl) (by kernel_rfl) K1 ?_
    simp only [List.setIfInBounds_toArray, List.set_cons_zero, List.set_cons_succ]
    refine hold_skip (i := 13) (d := 21) (listed' := #[true, true, true, true, true, true, true, true, true, true, true, true, true, true, false, false, false, false, false, false, false]) rfl (by kernel_rfl) (by kernel_rfl) (by kernel_rfl) rfl (by rfl) (by kernel_rfl) K1 ?_
    simp only [List.setIfInBounds_toArray, List.set_cons_zero, List.set_cons_succ]
    refine hold_skip (i := 14) (d := 22) (listed' := #[true, true, true, true, true, true, true, true, true, true, true, true, true, true, true, false, false, false, false, false, false]) rfl (by kernel_rfl) (by kernel_rfl) (by kernel_rfl) rfl (by rfl) (by kernel_rfl) K1 ?_
    simp only [List.setIfInBounds_toArray, List.set_cons_zero, List.set_cons_succ]
    refine hold_skip (i := 15) (d := 23) (listed' := #[true, true, true, true, true, true, true, true, true, true, true, true, true, true, true, true, false, false, false, false, false]) rfl (by kernel_rfl) (by kernel_rfl) (by kernel_rfl) rfl (by rfl) (by kernel_rfl) K1 ?_
    simp only [List.setIfInBounds_toArray, List.set_cons_zero, List.set_cons_succ]
    refine hold_skip (i := 16) (d := 24) (listed' := #[true, true, true, true, true, true, true, true, true, true, true, true, true, true, true, true, true, false, false, false, false]) rfl (by kernel_rfl) (by kernel_rfl) (by kernel_rfl) rfl (by rfl) (by kernel_rfl) K1 ?_
    simp only [List.setIfInBounds_toArray, List.set_cons_zero, List.set_cons_succ]
    refine hold_skip (i := 17) (d := 25) (listed' := #[true, true, true, true, true, true, true, true, true, true, true, true, true, true, true, true, true, true, false, false, false]) rfl (by kernel_rfl) (by kernel_rfl) (by kernel_rfl) rfl (by rfl) (by kernel_rfl) K1 ?_
    simp only [List.setIfInBounds_toArray, List.set_cons_zero, List.set_cons_succ]
    refine hold_skip (i := 18) (d := 26) (listed' := #[true, true, true, true, true, true, true, true, true, true, true, true, true, true, true, true, true, true, true, false, false]) rfl (by kernel_rfl) (by kernel_rfl) (by kernel_rfl) rfl (by rfl) (by kernel_rfl) K1 ?_
    simp only [List.setIfInBounds_toArray, List.set_cons_zero, List.set_cons_succ]
    refine hold_take (i := 19) (d := 27) (v := ?vpf19) (listed' := #[true, true, true, true, true, true, true, true, true, true, true, true, true, true, true, true, true, true, true, true, false]) rfl (by kernel_rfl) (by kernel_rfl) (by kernel_rfl) rfl (by rfl) (by kernel_rfl) K1 ?hpf19 ?rpf19
    case hpf19 =>
      intro w' hSw
      obtain ⟨k0, k1, k2⟩ := hSw
      go_simp
      try with_reducible rfl
    simp only [List.setIfInBounds_toArray, List.set_cons_zero, List.set_cons_succ]
    refine hold_take (i := 20) (d := 7) (v := ?vpf20) (listed' := #[true, true, true, true, true, true, true, true, true, true, true, true, true, true, true, true, true, true, true, true, true]) rfl (by kernel_rfl) (by kernel_rfl) (by kernel_rfl) rfl (by rfl) (by kernel_rfl) K1 ?hpf20 ?rpf20
    case hpf20 =>
      intro w' hSw
      obtain ⟨k0, k1, k2⟩ := hSw
      go_simp
      try with_reducible rfl
    simp only [List.setIfInBounds_toArray, List.set_cons_zero, List.set_cons_succ]
    refine hold_done (by kernel_rfl) ?_ _
    clear K1
    go_wp2_with fail
    go_ret
    exact ⟨ret_bool HR.out.symm, B1⟩

set_option maxRecDepth 100000 in
set_option maxHeartbeats 2000000 in
theorem pairs_not {w : World} {d0 d1 : LD} {B o0 o1 p6 p7 p8 : Nat} {y0 y1 : Nat → Nat} (h0 : d0.Is w B y0 o0) (h1 : d1.Is w B y1 o1)
    (c6 : w.cell? ⟨p6, 1, none⟩ = some d0.t) (c8 : w.cell? ⟨p8, 0, none⟩ = some (.int .i64 (d1.m.n : Int))) (c7 : w.cell? ⟨p7, 1, none⟩ = some d1.t) :
    Fun1At w 112 #[] #[.pointer (some ⟨p6, 0, none⟩), .pointer (some ⟨p8, 0, none⟩), .pointer (some ⟨p7, 0, none⟩)] (d0.m.n * d1.m.n) (pairsY d1.m.n y0 y1) := by
  have g6 := World.block_lt_of_cell? w ⟨p6, 1, none⟩ c6
  have g7 := World.block_lt_of_cell? w ⟨p7, 1, none⟩ c7
  have g8 := World.block_lt_of_cell? w ⟨p8, 0, none⟩ c8
  refine ⟨enters_of Try.func112 (by kernel_rfl) rfl, fun W x hW hx => ?_⟩
  show Calls Try.prog 112 #[.int .i64 (x : Int), .pointer (some ⟨p6, 0, none⟩), .pointer (some ⟨p8, 0, none⟩), .pointer (some ⟨p7, 0, none⟩)] W _
  obtain ⟨l1, l3, -⟩ := pair_parts hx
  replace c6 := (hW.cell (p := ⟨p6, 1, none⟩) g6).trans c6
  replace c7 := (hW.cell (p := ⟨p7, 1, none⟩) g7).trans c7
  replace c8 := (hW.cell (p := ⟨p8, 0, none⟩) g8).trans c8
  have n0 := h0.hi
  have n1 := h1.hi
  have hxs : x < 144 := Nat.lt_of_lt_of_le hx (Nat.le_trans (Nat.mul_le_mul n0.2 n1.2) (by omega))
  have hnz : ¬ d1.m.n = 0 := by omega
  obtain ⟨qx, hqx⟩ : ∃ q : Nat, q = x / d1.m.n := ⟨_, rfl⟩
  obtain ⟨rx, hrx⟩ : ∃ q : Nat, q = x % d1.m.n := ⟨_, rfl⟩
  rw [← hqx] at l1
  rw [← hrx] at l3
  have HB : Hid (pairsY d1.m.n y0 y1 x = y0 qx * d1.m.n + y1 rx) := by show _ = _; unfold pairsY; rw [hqx, hrx]
  have e1 : IntKind.i64.wrap ((x : Int) / (d1.m.n : Int)) = (qx : Int) := by rw [← Int.natCast_ediv, ← hqx]; exact IntWalk.i64_in _ (by omega)
  have e3 : (x : Int).tmod (d1.m.n : Int) = (rx : Int) := by rw [Int.tmod_eq_emod_of_nonneg (by omega), ← Int.natCast_emod, ← hrx]
  clear hqx hrx hx hxs
  obtain ⟨a1, a2, a3⟩ := (h0.step hW).notAt l1
  obtain ⟨b1, b2, b3⟩ := (h1.step hW).notAt l3
  have lk0 := h0.len
  have lk1 := h1.len
  unfold LD.t at c6 c7
  rw [a1] at c6
  rw [b1] at c7
  have m1 : y0 qx * d1.m.n ≤ 144 := Nat.le_trans (Nat.mul_le_mul (Nat.le_of_lt (Nat.lt_of_lt_of_le a3 n0.2)) n1.2) (by omega)
  obtain ⟨px, hpx⟩ : ∃ q : Nat, q = y0 qx * d1.m.n := ⟨_, rfl⟩
  have e5 : IntKind.i64.wrap ((y0 qx : Int) * (d1.m.n : Int)) = (px : Int) := by rw [← Int.natCast_mul, ← hpx]; exact IntWalk.i64_in _ (by omega)
  have e6 : IntKind.i64.wrap ((px : Int) + (y1 rx : Int)) = ((px + y1 rx : Nat) : Int) := by rw [IntWalk.i64_in _ (by omega)]; omega
  have HE6 := Lib.hid e6
  have HPX := Lib.hid hpx
  have i1 : (qx : Int) < (d0.k : Int) := by omega
  have i2 : (rx : Int) < (d1.k : Int) := by omega
  have i3 : qx < d0.k := by omega
  have i4 : rx < d1.k := by omega
  have K0 := (show _ ∧ _ ∧ _ ∧ _ ∧ _ from ⟨c6, c8, c7, a2, b2⟩)
  clear a1 b1 lk0 lk1 e6 hpx m1
  go_enter Try.func112, Try.ntmps112
  go_wp2_with fail
  refine region_plain (fuel := 18) (listed := #[false, false, false, false, false, false, false, false, false, false, false, false, false, false, false, false, false, false]) (fun w' => w'.cell? ⟨p6, 1, none⟩ = some (.slice (some ⟨d0.g, d0.o, none⟩) d0.k d0.nc) ∧ w'.cell? ⟨p8, 0, none⟩ = some (.int .i64 (d1.m.n : Int)) ∧ w'.cell? ⟨p7, 1, none⟩ = some (.slice (some ⟨d1.g, d1.o, none⟩) d1.k d1.nc) ∧ w'.cell? ⟨d0.g, d0.o + qx, none⟩ = some (.int .i64 (y0 qx : Int)) ∧ w'.cell? ⟨d1.g, d1.o + rx, none⟩ = some (.int .i64 (y1 rx : Int))) (by kernel_rfl) (by kernel_rfl) (by kernel_rfl) ?_
  refine hold_take (i := 0) (d := 6) (v := ?vn0) (listed' := #[true, false, false, false, false, false, false, false, false, false, false, false, false, false, false, false, false, false]) rfl (by kernel_rfl) (by kernel_rfl) (by kernel_rfl) rfl (by rfl) (by kernel_rfl) K0 ?hn0 ?rn0
  case hn0 =>
    intro w' hSw
    obtain ⟨k0, k1, k2, k3, k4⟩ := hSw
    go_simp
    try with_reducible rfl
  simp only [List.setIfInBounds_toArray, List.set_cons_zero, List.set_cons_succ]
  refine hold_take (i := 1) (d := 7) (v := ?vn1) (listed' := #[true, true, false, false, false, false, false, false, false, false, false, false, false, false, false, false, false, false]) rfl (by kernel_rfl) (by kernel_rfl) (by kernel_rfl) rfl (by rfl) (by kernel_rfl) K0 ?hn1 ?rn1
  case hn1 =>
    intro w' hSw
    obtain ⟨k0, k1, k2, k3, k4⟩ := hSw
    go_simp
    try with_reducible rfl
  simp only [List.setIfInBounds_toArray, List.set_cons_zero, List.set_cons_succ]
  refine hold_take (i := 2) (d := 8) (v := ?vn2) (listed' := #[true, true, true, false, false, false, false, false, false, false, false, false, false, false, false, false, false, false]) rfl (by kernel_rfl) (by kernel_rfl) (by kernel_rfl) rfl (by rfl) (by kernel_rfl) K0 ?hn2 ?rn2
  case hn2 =>
    intro w' hSw
    obtain ⟨k0, k1, k2, k3, k4⟩ := hSw
    go_simp
    try with_reducible rfl
  simp only [List.setIfInBounds_toArray, List.set_cons_zero, List.set_cons_succ]
  refine hold_take (i := 3) (d := 9) (v := ?vn3) (listed' := #[true, true, true, true, false, false, false, false, false, false, false, false, false, false, false, false, false, false]) rfl (by kernel_rfl) (by kernel_rfl) (by kernel_rfl) rfl (by rfl) (by kernel_rfl) K0 ?hn3 ?rn3
  case hn3 =>
    intro w' hSw
    obtain ⟨k0, k1, k2, k3, k4⟩ := hSw
    go_simp
    try with_reducible rfl
  simp only [List.setIfInBounds_toArray, List.set_cons_zero, List.set_cons_succ]
  refine hold_take (i := 4) (d := 10) (v := ?vn4) (listed' := #[true, true, true, true, true, false, false, false, false, false, false, false, false, false, false, false, false, false]) rfl (by kernel_rfl) (by kernel_rfl) (by kernel_rfl) rfl (by rfl) (by kernel_rfl) K0 ?hn4 ?rn4
  case hn4 =>
    intro w' hSw
    obtain ⟨k0, k1, k2, k3, k4⟩ := hSw
    go_simp
    try with_reducible rfl
  simp only [List.setIfInBounds_toArray, List.set_cons_zero, List.set_cons_succ]
  refine hold_take (i := 5) (d := 11) (v := ?vn5) (listed' := #[true, true, true, true, true, true, false, false, false, false, false, false, false, false, false, false, false, false]) rfl (by kernel_rfl) (by kernel_rfl) (by kernel_rfl) rfl (by rfl) (by kernel_rfl) K0 ?hn5 ?rn5
  case hn5 =>
    intro w' hSw
    obtain ⟨k0, k1, k2, k3, k4⟩ := hSw
    go_simp
    try with_reducible rfl
  simp only [List.setIfInBounds_toArray, List.set_cons_zero, List.set_cons_succ]
  refine hold_take (i := 6) (d := 12) (v := ?vn6) (listed' := #[true, true, true, true, true, true, true, false, false, false, false, false, false, false, false, false, false, false]) rfl (by kernel_rfl) (by kernel_rfl) (by kernel_rfl) rfl (by rfl) (by kernel_rfl) K0 ?hn6 ?rn6
  case hn6 =>
    intro w' hSw
    obtain ⟨k0, k1, k2, k3, k4⟩ := hSw
    go_simp
    try with_reducible rfl
  simp only [List.setIfInBounds_toArray, List.set_cons_zero, List.set_cons_succ]
  refine hold_take (i := 7) (d := 13) (v := ?vn7) (listed' := #[true, true, true, true, true, true, true, true, false, false, false, false, false, false, false, false, false, false]) rfl (by kernel_rfl) (by kernel_rfl) (by kernel_rfl) rfl (by rfl) (by kernel_rfl) K0 ?hn7 ?rn7
  case hn7 =>
    intro w' hSw
    obtain ⟨k0, k1, k2, k3, k4⟩ := hSw
    go_simp
    try with_reducible rfl
  simp only [List.setIfInBounds_toArray, List.set_cons_zero, List.set_cons_succ]
  refine hold_take (i := 8) (d := 14) (v := ?vn8) (listed' := #[true, true, true, true, true, true, true, true, true, false, false, false, false, false, false, false, false, false]) rfl (by kernel_rfl) (by kernel_rfl) (by kernel_rfl) rfl (by rfl) (by kernel_rfl) K0 ?hn8 ?rn8
  case hn8 =>
    intro w' hSw
    obtain ⟨k0, k1, k2, k3, k4⟩ := hSw
    go_simp
    try with_reducible rfl
  simp only [List.setIfInBounds_toArray, List.set_cons_zero, List.set_cons_succ]
  refine hold_take (i := 9) (d := 15) (v := ?vn9) (listed' := #[true, true, true, true, true, true, true, true, true, true, false, false, false, false, false, false, false, false]) rfl (by kernel_rfl) (by kernel_rfl) (by kernel_rfl) rfl (by rfl) (by kernel_rfl) K0 ?hn9 ?rn9
  case hn9 =>
    intro w' hSw
    obtain ⟨k0, k1, k2, k3, k4⟩ := hSw
    go_simp
    try with_reducible rfl
  simp only [List.setIfInBounds_toArray, List.set_cons_zero, List.set_cons_succ]
  refine hold_take (i := 10) (d := 16) (v := ?vn10) (listed' := #[true, true, true, true, true, true, true, true, true, true, true, false, false, false, false, false, false, false]) rfl (by kernel_rfl) (by kernel_rfl) (by kernel_rfl) rfl (by rfl) (by kernel_rfl) K0 ?hn10 ?rn10
  case hn10 =>
    intro w' hSw
    obtain ⟨k0, k1, k2, k3, k4⟩ := hSw
    go_simp
    try with_reducible rfl
  simp only [List.setIfInBounds_toArray, List.set_cons_zero, List.set_cons_succ]
  refine hold_take (i := 11) (d := 17) (v := ?vn11) (listed' := #[true, true, true, true, true, true, true, true, true, true, true, true, false, false, false, false, false, false]) rfl (by kernel_rfl) (by kernel_rfl) (by kernel_rfl) rfl (by rfl) (by kernel_rfl) K0 ?hn11 ?rn11
  case hn11 =>
    intro w' hSw
    obtain ⟨k0, k1, k2, k3, k4⟩ := hSw
    go_simp
    try with_reducible rfl
  simp only [List.setIfInBounds_toArray, List.set_cons_zero, List.set_cons_succ]
  refine hold_take (i := 12) (d := 18) (v := ?vn12) (listed' := #[true, true, true, true, true, true, true, true, true, true, true, true, true, false, false, false, false, false]) rfl (by kernel_rfl) (by kernel_rfl) (by kernel_rfl) rfl (by rfl) (by kernel_rfl) K0 ?hn12 ?rn12
  case hn12 =>
    intro w' hSw
    obtain ⟨k0, k1, k2, k3, k4⟩ := hSw
    go_simp
    try with_reducible rfl
  simp only [List.setIfInBounds_toArray, List.set_cons_zero, List.set_cons_succ]
  refine hold_take (i := 13) (d := 19) (v := ?vn13) (listed' := #[true, true, true, true, true, true, true, true, true, true, true, true, true, true, false, false, false, false]) rfl (by kernel_rfl) (by kernel_rfl) (by kernel_rfl) rfl (by rfl) (by kernel_rfl) K0 ?hn13 ?rn13
  case hn13 =>
    intro w' hSw
    obtain ⟨k0, k1, k2, k3, k4⟩ := hSw
    go_simp
    try with_reducible rfl
  simp only [List.setIfInBounds_toArray, List.set_cons_zero, List.set_cons_succ]
  refine hold_take (i := 14) (d := 20) (v := ?vn14) (listed' := #[true, true, true, true, true, true, true, true, true, true, true, true, true, true, true, false, false, false]) rfl (by kernel_rfl) (by kernel_rfl) (by kernel_rfl) rfl (by rfl) (by kernel_rfl) K0 ?hn14 ?rn14
  case hn14 =>
    intro w' hSw
    obtain ⟨k0, k1, k2, k3, k4⟩ := hSw
    go_simp
    try with_reducible rfl
  simp only [List.setIfInBounds_toArray, List.set_cons_zero, List.set_cons_succ]
  refine hold_take (i := 15) (d := 21) (v := ?vn15) (listed' := #[true, true, true, true, true, true, true, true, true, true, true, true, true, true, true, true, false, false]) rfl (by kernel_rfl) (by kernel_rfl) (by kernel_rfl) rfl (by rfl) (by kernel_rfl) K0 ?hn15 ?rn15
  case hn15 =>
    intro w' hSw
    obtain ⟨k0, k1, k2, k3, k4⟩ := hSw
    go_simp
    try with_reducible rfl
  simp only [List.setIfInBounds_toArray, List.set_cons_zero, List.set_cons_succ]
  refine hold_take (i := 16) (d := 22) (v := ?vn16) (listed' := #[true, true, true, true, true, true, true, true, true, true, true, true, true, true, true, true, true, false]) rfl (by kernel_rfl) (by kernel_rfl) (by kernel_rfl) rfl (by rfl) (by kernel_rfl) K0 ?hn16 ?rn16
  case hn16 =>
    intro w' hSw
    obtain ⟨k0, k1, k2, k3, k4⟩ := hSw
    go_simp
    try with_reducible rfl
  simp only [List.setIfInBounds_toArray, List.set_cons_zero, List.set_cons_succ]
  refine hold_take (i := 17) (d := 5) (v := ?vn17) (listed' := #[true, true, true, true, true, true, true, true, true, true, true, true, true, true, true, true, true, true]) rfl (by kernel_rfl) (by kernel_rfl) (by kernel_rfl) rfl (by rfl) (by kernel_rfl) K0 ?hn17 ?rn17
  case hn17 =>
    intro w' hSw
    obtain ⟨k0, k1, k2, k3, k4⟩ := hSw
    go_simp
    try with_reducible rfl
  simp only [List.setIfInBounds_toArray, List.set_cons_zero, List.set_cons_succ]
  refine hold_done (by kernel_rfl) ?_ _
  clear K0 c6 c7 c8 a2 b2
  go_wp2_with fail
  go_ret
  exact ⟨ret_int (by rw [HE6.out, HB.out, HPX.out]), (Below.refl _ W).drew⟩

structure ThreeAt2 (w : World) (p : Nat) (u v x : Value) : Prop where
  c0 : w.cell? ⟨p, 0, none⟩ = some u
  c1 : w.cell? ⟨p, 1, none⟩ = some v
  c2 : w.cell? ⟨p, 2, none⟩ = some x
theorem ThreeAt.only {S : Nat → Prop} {w w' : World} {p : Nat} {u v x : Value} (h : ThreeAt w p u v x) (ho : OnlyIn S w w') (hp : ¬ S p) : ThreeAt w' p u v x :=
  have hb := ho.block p hp
  ⟨(World.cell?_of_block (a := ⟨p, 0, none⟩) hb).trans h.c0, (World.cell?_of_block (a := ⟨p, 1, none⟩) hb).trans h.c1, (World.cell?_of_block (a := ⟨p, 2, none⟩) hb).trans h.c2, (World.frozen?_of_block (a := ⟨p, 0, none⟩) hb).trans h.f0, (World.frozen?_of_block (a := ⟨p, 1, none⟩) hb).trans h.f1, (World.frozen?_of_block (a := ⟨p, 2, none⟩) hb).trans h.f2⟩
/-- Two algebras in a list, as they read. -/
theorem parts_two {w : World} {base : Nat} {v a0 a1 a2 b0 b1 b2 : Value} (h : w.ownsRow base 65 3 v 2 [a0, a1, a2, b0, b1, b2]) :
    ∃ g cap : Nat, v = .slice (some ⟨g, 0, none⟩) 2 cap ∧ w.cell? ⟨g, 0, none⟩ = some a0 ∧ w.cell? ⟨g, 1, none⟩ = some a1 ∧ w.cell? ⟨g, 2, none⟩ = some a2 ∧ w.cell? ⟨g, 3, none⟩ = some b0 ∧ w.cell? ⟨g, 4, none⟩ = some b1 ∧ w.cell? ⟨g, 5, none⟩ = some b2 := by
  rcases h.2 with ⟨_, h0⟩ | ⟨g, cap, cur, rfl, _⟩
  · omega
  · exact ⟨g, cap, rfl, World.ownsRow.cellAt h 0 (by omega), World.ownsRow.cellAt h 1 (by omega), World.ownsRow.cellAt h 2 (by omega), World.ownsRow.cellAt h 3 (by omega), World.ownsRow.cellAt h 4 (by omega), World.ownsRow.cellAt h 5 (by omega)⟩

set_option maxRecDepth 100000 in
set_option maxHeartbeats 2000000 in
theorem planPairs_any {w : World} {d0 d1 : LD} {B base q0 q1 o0 o1 : Nat} {y0 y1 : Nat → Nat} {v numV : Value} (h0 : d0.Is w B y0 o0) (h1 : d1.Is w B y1 o1)
    (hv : w.ownsRow base 65 3 v 2 [d0.u, d0.t, .slice (some ⟨q0, 0, none⟩) 2 2, d1.u, d1.t, .slice (some ⟨q1, 0, none⟩) 2 2]) :
    Calls Try.prog 81 #[numV, v] w (Planned w (d0.m.n * d1.m.n) (pairsB d0.m d1.m) (pairsY d1.m.n y0 y1) true) := by
  obtain ⟨g, cap, rfl, k0, k1, k2, k3, k4, k5⟩ := parts_two hv
  have gl : g < w.heap.size := World.block_lt_of_cell? w ⟨g, 0, none⟩ k0
  have P0 := ThreeAt.new w (.int .i64 0) .nilFunc .nilFunc 90
  have B0 := (Below.refl w.heap.size w).alloc (Nat.le_refl _) (.cells #[.int .i64 0, .nilFunc, .nilFunc] 90)
  have s0 : w.heap.size < (w.alloc (.cells #[.int .i64 0, .nilFunc, .nilFunc] 90)).heap.size := by simp
  replace k0 := (B0.cell (p := ⟨g, 0, none⟩) gl).trans k0
  replace k1 := (B0.cell (p := ⟨g, 1, none⟩) gl).trans k1
  replace k2 := (B0.cell (p := ⟨g, 2, none⟩) gl).trans k2
  replace k3 := (B0.cell (p := ⟨g, 3, none⟩) gl).trans k3
  replace k4 := (B0.cell (p := ⟨g, 4, none⟩) gl).trans k4
  replace k5 := (B0.cell (p := ⟨g, 5, none⟩) gl).trans k5
  clear hv
  have gl0 : g < (w.alloc (.cells #[.int .i64 0, .nilFunc, .nilFunc] 90)).heap.size := by omega
  go_enter Try.func81, Try.ntmps81
  go_upto_region 1 with fail
  generalize w.alloc (.cells #[.int .i64 0, .nilFunc, .nilFunc] 90) = w0 at P0 B0 s0 k0 k1 k2 k3 k4 k5 gl0 ⊢
  have gl1 : g < w0.heap.size + 1 := by omega
  have gl2 : ¬ g = w0.heap.size := by omega
  have gl3 : ¬ g = w0.heap.size + 1 := by omega
  go_cut [6, 7] (fun s6 s7 wx => ∃ p6 p7 : Nat, s6 = .pointer (some ⟨p6, 0, none⟩) ∧ s7 = .pointer (some ⟨p7, 0, none⟩) ∧ ThreeAt wx p6 d0.u d0.t (.slice (some ⟨q0, 0, none⟩) 2 2) ∧ ThreeAt wx p7 d1.u d1.t (.slice (some ⟨q1, 0, none⟩) 2 2) ∧ Below w0.heap.size w0 wx ∧ w0.heap.size ≤ p6 ∧ w0.heap.size ≤ p7)
  case first =>
    have hS0 : (fun W' : World => Below w0.heap.size w0 W') w0.drew := (Below.refl _ _).drew
    refine region_plain (fuel := 10) (listed := #[false, false, false, false, false, false, false, false, false, false]) (fun W' => Below w0.heap.size w0 W') (by kernel_rfl) (by kernel_rfl) (by kernel_rfl) ?_
    refine hold_take (i := 0) (d := 11) (v := ?vr0) (listed' := #[true, false, false, false, false, false, false, false, false, false]) rfl (by kernel_rfl) (by kernel_rfl) (by kernel_rfl) rfl (by rfl) (by kernel_rfl) hS0 ?hr0 ?rr0
    case hr0 =>
      intro w' hSw
      have hSb : Below w0.heap.size w0 w' := hSw; have z0 := (hSb.cell (p := ⟨g, 0, none⟩) gl0).trans k0; have z1 := (hSb.cell (p := ⟨g, 1, none⟩) gl0).trans k1; have z2 := (hSb.cell (p := ⟨g, 2, none⟩) gl0).trans k2; have z3 := (hSb.cell (p := ⟨g, 3, none⟩) gl0).trans k3; have z4 := (hSb.cell (p := ⟨g, 4, none⟩) gl0).trans k4; have z5 := (hSb.cell (p := ⟨g, 5, none⟩) gl0).trans k5
      go_simp
      try with_reducible rfl
    simp only [List.setIfInBounds_toArray, List.set_cons_zero, List.set_cons_succ]
    refine hold_take (i := 1) (d := 12) (v := ?vr1) (listed' := #[true, true, false, false, false, false, false, false, false, false]) rfl (by kernel_rfl) (by kernel_rfl) (by kernel_rfl) rfl (by rfl) (by kernel_rfl) hS0 ?hr1 ?rr1
    case hr1 =>
      intro w' hSw
      have hSb : Below w0.heap.size w0 w' := hSw; have z0 := (hSb.cell (p := ⟨g, 0, none⟩) gl0).trans k0; have z1 := (hSb.cell (p := ⟨g, 1, none⟩) gl0).trans k1; have z2 := (hSb.cell (p := ⟨g, 2, none⟩) gl0).trans k2; have z3 := (hSb.cell (p := ⟨g, 3, none⟩) gl0).trans k3; have z4 := (hSb.cell (p := ⟨g, 4, none⟩) gl0).trans k4; have z5 := (hSb.cell (p := ⟨g, 5, none⟩) gl0).trans k5
      go_simp
      try with_reducible rfl
    simp only [List.setIfInBounds_toArray, List.set_cons_zero, List.set_cons_succ]
    refine hold_take (i := 2) (d := 13) (v := ?vr2) (listed' := #[true, true, true, false, false, false, false, false, false, false]) rfl (by kernel_rfl) (by kernel_rfl) (by kernel_rfl) rfl (by rfl) (by kernel_rfl) hS0 ?hr2 ?rr2
    case hr2 =>
      intro w' hSw
      have hSb : Below w0.heap.size w0 w' := hSw; have z0 := (hSb.cell (p := ⟨g, 0, none⟩) gl0).trans k0; have z1 := (hSb.cell (p := ⟨g, 1, none⟩) gl0).trans k1; have z2 := (hSb.cell (p := ⟨g, 2, none⟩) gl0).trans k2; have z3 := (hSb.cell (p := ⟨g, 3, none⟩) gl0).trans k3; have z4 := (hSb.cell (p := ⟨g, 4, none⟩) gl0).trans k4; have z5 := (hSb.cell (p := ⟨g, 5, none⟩) gl0).trans k5
      go_simp
      try with_reducible rfl
    simp only [List.setIfInBounds_toArray, List.set_cons_zero, List.set_cons_succ]
    refine hold_take (i := 3) (d := 14) (v := ?vr3) (listed' := #[true, true, true, true, false, false, false, false, false, false]) rfl (by kernel_rfl) (by kernel_rfl) (by kernel_rfl) rfl (by rfl) (by kernel_rfl) hS0 ?hr3 ?rr3
    case hr3 =>
      intro w' hSw
      have hSb : Below w0.heap.size w0 w' := hSw; have z0 := (hSb.cell (p := ⟨g, 0, none⟩) gl0).trans k0; have z1 := (hSb.cell (p := ⟨g, 1, none⟩) gl0).trans k1; have z2 := (hSb.cell (p := ⟨g, 2, none⟩) gl0).trans k2; have z3 := (hSb.cell (p := ⟨g, 3, none⟩) gl0).trans k3; have z4 := (hSb.cell (p := ⟨g, 4, none⟩) gl0).trans k4; have z5 := (hSb.cell (p := ⟨g, 5, none⟩) gl0).trans k5
      go_simp
      try with_reducible rfl
    simp only [List.setIfInBounds_toArray, List.set_cons_zero, List.set_cons_succ]
    refine hold_take (i := 4) (d := 15) (v := ?vr4) (listed' := #[true, true, true, true, true, false, false, false, false, false]) rfl (by kernel_rfl) (by kernel_rfl) (by kernel_rfl) rfl (by rfl) (by kernel_rfl) hS0 ?hr4 ?rr4
    case hr4 =>
      intro w' hSw
      have hSb : Below w0.heap.size w0 w' := hSw; have z0 := (hSb.cell (p := ⟨g, 0, none⟩) gl0).trans k0; have z1 := (hSb.cell (p := ⟨g, 1, none⟩) gl0).trans k1; have z2 := (hSb.cell (p := ⟨g, 2, none⟩) gl0).trans k2; have z3 := (hSb.cell (p := ⟨g, 3, none⟩) gl0).trans k3; have z4 := (hSb.cell (p := ⟨g, 4, none⟩) gl0).trans k4; have z5 := (hSb.cell (p := ⟨g, 5, none⟩) gl0).trans k5
      go_simp
      try with_reducible rfl
    simp only [List.setIfInBounds_toArray, List.set_cons_zero, List.set_cons_succ]
    refine hold_take (i := 5) (d := 16) (v := ?vr5) (listed' := #[true, true, true, true, true, true, false, false, false, false]) rfl (by kernel_rfl) (by kernel_rfl) (by kernel_rfl) rfl (by rfl) (by kernel_rfl) hS0 ?hr5 ?rr5
    case hr5 =>
      intro w' hSw
      have hSb : Below w0.heap.size w0 w' := hSw; have z0 := (hSb.cell (p := ⟨g, 0, none⟩) gl0).trans k0; have z1 := (hSb.cell (p := ⟨g, 1, none⟩) gl0).trans k1; have z2 := (hSb.cell (p := ⟨g, 2, none⟩) gl0).trans k2; have z3 := (hSb.cell (p := ⟨g, 3, none⟩) gl0).trans k3; have z4 := (hSb.cell (p := ⟨g, 4, none⟩) gl0).trans k4; have z5 := (hSb.cell (p := ⟨g, 5, none⟩) gl0).trans k5
      go_simp
      try with_reducible rfl
    simp only [List.setIfInBounds_toArray, List.set_cons_zero, List.set_cons_succ]
    clear k0 k1 k2 k3 k4 k5
    refine hold_two (i := 6) (j := 7) (by kernel_rfl) ?ra ?rb
    case ra =>
      refine opH_value (i := 6) (d := 6) (listed' := #[true, true, true, true, true, true, true, false, false, false]) rfl rfl (by rfl) (by kernel_rfl) (v := .pointer (some ⟨w0.heap.size, 0, none⟩)) (w' := (w0.alloc (.cells #[.slice none 0 0, .slice none 0 0, .slice none 0 0] 65)).drew) ?ha6 ((Below.refl w0.heap.size w0).alloc (Nat.le_refl _) (.cells #[.slice none 0 0, .slice none 0 0, .slice none 0 0] 65)).drew ?_
      case ha6 =>
        go_simp
        try rfl
      simp only [List.setIfInBounds_toArray, List.set_cons_zero, List.set_cons_succ]
      refine hold_value (i := 7) (d := 7) (listed' := #[true, true, true, true, true, true, true, true, false, false]) rfl (by kernel_rfl) rfl (by rfl) (by kernel_rfl) (v := .pointer (some ⟨w0.heap.size + 1, 0, none⟩)) (w' := ((w0.alloc (.cells #[.slice none 0 0, .slice none 0 0, .slice none 0 0] 65)).alloc (.cells #[.slice none 0 0, .slice none 0 0, .slice none 0 0] 65)).drew) ?hb6 (((Below.refl w0.heap.size w0).alloc (Nat.le_refl _) (.cells #[.slice none 0 0, .slice none 0 0, .slice none 0 0] 65)).alloc (by simp only [World.size_alloc]; omega) (.cells #[.slice none 0 0, .slice none 0 0, .slice none 0 0] 65)).drew ?_
      case hb6 =>
        go_simp
        try rfl
      simp only [List.setIfInBounds_toArray, List.set_cons_zero, List.set_cons_succ]
      refine hold_store (i := 8) (w' := ((w0.alloc (.cells #[d0.u, d0.t, .slice (some ⟨q0, 0, none⟩) 2 2] 65)).alloc (.cells #[.slice none 0 0, .slice none 0 0, .slice none 0 0] 65)).drew) (listed' := #[true, true, true, true, true, true, true, true, true, false]) rfl (by kernel_rfl) rfl (by rfl) (by kernel_rfl) ?hc6 (((Below.refl w0.heap.size w0).alloc (Nat.le_refl _) (.cells #[d0.u, d0.t, .slice (some ⟨q0, 0, none⟩) 2 2] 65)).alloc (by simp only [World.size_alloc]; omega) (.cells #[.slice none 0 0, .slice none 0 0, .slice none 0 0] 65)).drew ?_
      case hc6 =>
        go_simp
        try rfl
      refine hold_store (i := 9) (w' := ((w0.alloc (.cells #[d0.u, d0.t, .slice (some ⟨q0, 0, none⟩) 2 2] 65)).alloc (.cells #[d1.u, d1.t, .slice (some ⟨q1, 0, none⟩) 2 2] 65)).drew) (listed' := #[true, true, true, true, true, true, true, true, true, true]) rfl (by kernel_rfl) rfl (by rfl) (by kernel_rfl) ?hd6 (((Below.refl w0.heap.size w0).alloc (Nat.le_refl _) (.cells #[d0.u, d0.t, .slice (some ⟨q0, 0, none⟩) 2 2] 65)).alloc (by simp only [World.size_alloc]; omega) (.cells #[d1.u, d1.t, .slice (some ⟨q1, 0, none⟩) 2 2] 65)).drew ?_
      case hd6 =>
        go_simp
        try rfl
      refine hold_done (by kernel_rfl) ?_ _
      have x1 := ThreeAt.new w0 d0.u d0.t (.slice (some ⟨q0, 0, none⟩) 2 2) 65
      have x2 := ThreeAt.new (w0.alloc (.cells #[d0.u, d0.t, .slice (some ⟨q0, 0, none⟩) 2 2] 65)) d1.u d1.t (.slice (some ⟨q1, 0, none⟩) 2 2) 65
      have x3 := (x1.below ((Below.refl _ (w0.alloc (.cells #[d0.u, d0.t, .slice (some ⟨q0, 0, none⟩) 2 2] 65))).alloc (Nat.le_refl _) (.cells #[d1.u, d1.t, .slice (some ⟨q1, 0, none⟩) 2 2] 65)) (by simp)).below ((Below.refl (w0.heap.size + 1) _).drew) (by omega)
      have x4 := x2.below ((Below.refl (((w0.alloc (.cells #[d0.u, d0.t, .slice (some ⟨q0, 0, none⟩) 2 2] 65)).alloc (.cells #[d1.u, d1.t, .slice (some ⟨q1, 0, none⟩) 2 2] 65)).heap.size) _).drew) (by simp only [World.size_alloc]; omega)
      simp only [World.size_alloc] at x4
      have bx := (((Below.refl w0.heap.size w0).alloc (Nat.le_refl _) (.cells #[d0.u, d0.t, .slice (some ⟨q0, 0, none⟩) 2 2] 65)).alloc (by simp only [World.size_alloc]; omega) (.cells #[d1.u, d1.t, .slice (some ⟨q1, 0, none⟩) 2 2] 65)).drew
      have X3 := Lib.hid x3
      have X4 := Lib.hid x4
      have BX := Lib.hid bx
      clear x1 x2 x3 x4 bx
      go_wp2_with fail
      go_meet
      exact ⟨_, _, rfl, rfl, X3.out, X4.out, BX.out, by omega, by omega⟩
    case rb =>
      refine opH_value (i := 7) (d := 7) (listed' := #[true, true, true, true, true, true, false, true, false, false]) rfl rfl (by rfl) (by kernel_rfl) (v := .pointer (some ⟨w0.heap.size, 0, none⟩)) (w' := (w0.alloc (.cells #[.slice none 0 0, .slice none 0 0, .slice none 0 0] 65)).drew) ?ha7 ((Below.refl w0.heap.size w0).alloc (Nat.le_refl _) (.cells #[.slice none 0 0, .slice none 0 0, .slice none 0 0] 65)).drew ?_
      case ha7 =>
        go_simp
        try rfl
      simp only [List.setIfInBounds_toArray, List.set_cons_zero, List.set_cons_succ]
      refine hold_value (i := 6) (d := 6) (listed' := #[true, true, true, true, true, true, true, true, false, false]) rfl (by kernel_rfl) rfl (by rfl) (by kernel_rfl) (v := .pointer (some ⟨w0.heap.size + 1, 0, none⟩)) (w' := ((w0.alloc (.cells #[.slice none 0 0, .slice none 0 0, .slice none 0 0] 65)).alloc (.cells #[.slice none 0 0, .slice none 0 0, .slice none 0 0] 65)).drew) ?hb7 (((Below.refl w0.heap.size w0).alloc (Nat.le_refl _) (.cells #[.slice none 0 0, .slice none 0 0, .slice none 0 0] 65)).alloc (by simp only [World.size_alloc]; omega) (.cells #[.slice none 0 0, .slice none 0 0, .slice none 0 0] 65)).drew ?_
      case hb7 =>
        go_simp
        try rfl
      simp only [List.setIfInBounds_toArray, List.set_cons_zero, List.set_cons_succ]
      refine hold_store (i := 8) (w' := ((w0.alloc (.cells #[.slice none 0 0, .slice none 0 0, .slice none 0 0] 65)).alloc (.cells #[d0.u, d0.t, .slice (some ⟨q0, 0, none⟩) 2 2] 65)).drew) (listed' := #[true, true, true, true, true, true, true, true, true, false]) rfl (by kernel_rfl) rfl (by rfl) (by kernel_rfl) ?hc7 (((Below.refl w0.heap.size w0).alloc (Nat.le_refl _) (.cells #[.slice none 0 0, .slice none 0 0, .slice none 0 0] 65)).alloc (by simp only [World.size_alloc]; omega) (.cells #[d0.u, d0.t, .slice (some ⟨q0, 0, none⟩) 2 2] 65)).drew ?_
      case hc7 =>
        go_simp
        try rfl
      refine hold_store (i := 9) (w' := ((w0.alloc (.cells #[d1.u, d1.t, .slice (some ⟨q1, 0, none⟩) 2 2] 65)).alloc (.cells #[d0.u, d0.t, .slice (some ⟨q0, 0, none⟩) 2 2] 65)).drew) (listed' := #[true, true, true, true, true, true, true, true, true, true]) rfl (by kernel_rfl) rfl (by rfl) (by kernel_rfl) ?hd7 (((Below.refl w0.heap.size w0).alloc (Nat.le_refl _) (.cells #[d1.u, d1.t, .slice (some ⟨q1, 0, none⟩) 2 2] 65)).alloc (by simp only [World.size_alloc]; omega) (.cells #[d0.u, d0.t, .slice (some ⟨q0, 0, none⟩) 2 2] 65)).drew ?_
      case hd7 =>
        go_simp
        try rfl
      refine hold_done (by kernel_rfl) ?_ _
      have x1 := ThreeAt.new w0 d1.u d1.t (.slice (some ⟨q1, 0, none⟩) 2 2) 65
      have x2 := ThreeAt.new (w0.alloc (.cells #[d1.u, d1.t, .slice (some ⟨q1, 0, none⟩) 2 2] 65)) d0.u d0.t (.slice (some ⟨q0, 0, none⟩) 2 2) 65
      have x3 := (x1.below ((Below.refl _ (w0.alloc (.cells #[d1.u, d1.t, .slice (some ⟨q1, 0, none⟩) 2 2] 65))).alloc (Nat.le_refl _) (.cells #[d0.u, d0.t, .slice (some ⟨q0, 0, none⟩) 2 2] 65)) (by simp)).below ((Below.refl (w0.heap.size + 1) _).drew) (by omega)
      have x4 := x2.below ((Below.refl (((w0.alloc (.cells #[d1.u, d1.t, .slice (some ⟨q1, 0, none⟩) 2 2] 65)).alloc (.cells #[d0.u, d0.t, .slice (some ⟨q0, 0, none⟩) 2 2] 65)).heap.size) _).drew) (by simp only [World.size_alloc]; omega)
      simp only [World.size_alloc] at x4
      have bx := (((Below.refl w0.heap.size w0).alloc (Nat.le_refl _) (.cells #[d1.u, d1.t, .slice (some ⟨q1, 0, none⟩) 2 2] 65)).alloc (by simp only [World.size_alloc]; omega) (.cells #[d0.u, d0.t, .slice (some ⟨q0, 0, none⟩) 2 2] 65)).drew
      have X3 := Lib.hid x3
      have X4 := Lib.hid x4
      have BX := Lib.hid bx
      clear x1 x2 x3 x4 bx
      go_wp2_with fail
      go_meet
      exact ⟨_, _, rfl, rfl, X4.out, X3.out, BX.out, by omega, by omega⟩
  case rest =>
    obtain ⟨p6, p7, rfl, rfl, x6, x7, bc, l6, l7⟩ := hcut
    have hi0 := h0.hi
    have hi1 := h1.hi
    have lk0 := h0.len
    have lk1 := h1.len
    have hm : d0.m.n * d1.m.n ≤ 144 := Nat.le_trans (Nat.mul_le_mul hi0.2 hi1.2) (by omega)
    have Pc := P0.below bc (by omega)
    have Bc := B0.trans (bc.mono B0.size)
    have r0 := x6.c0
    have r1 := x6.c1
    have r2 := x7.c0
    have r3 := x7.c1
    have t0 := Pc.c0
    have t1 := Pc.c1
    have t2 := Pc.c2
    have t3 := Pc.f0
    have t4 := Pc.f1
    have t5 := Pc.f2
    have hsc := bc.size
    have e1 : IntKind.i64.wrap ((d0.k : Int) * (d1.k : Int)) = ((d0.m.n * d1.m.n : Nat) : Int) := by rw [lk0, lk1, ← Int.natCast_mul]; exact IntWalk.i64_in _ (by omega)
    have l8 : w.heap.size < wc.heap.size := by omega
    have l9 := World.block_lt_of_cell? wc ⟨p6, 0, none⟩ r0
    have l10 := World.block_lt_of_cell? wc ⟨p7, 0, none⟩ r2
    have HH0 := Lib.hid h0
    have HH1 := Lib.hid h1
    clear lk0 lk1 h0 h1 P0 B0
    go_wp2_with fail
    have ec : ((d0.m.n * d1.m.n : Nat) : Int) = (d0.m.n : Int) * (d1.m.n : Int) := Int.natCast_mul _ _
    have hon := set3_only wc w.heap.size (.int .i64 ((d0.m.n : Int) * (d1.m.n : Int))) (.func (.func 111) #[] #[.pointer (some ⟨p6, 0, none⟩), .pointer (some ⟨wc.heap.size, 0, none⟩), .pointer (some ⟨p7, 0, none⟩)]) (.func (.func 112) #[] #[.pointer (some ⟨p6, 0, none⟩), .pointer (some ⟨wc.heap.size, 0, none⟩), .pointer (some ⟨p7, 0, none⟩)])
    have hT := told3 (x := .int .i64 ((d0.m.n : Int) * (d1.m.n : Int))) (y := .func (.func 111) #[] #[.pointer (some ⟨p6, 0, none⟩), .pointer (some ⟨wc.heap.size, 0, none⟩), .pointer (some ⟨p7, 0, none⟩)]) (z := .func (.func 112) #[] #[.pointer (some ⟨p6, 0, none⟩), .pointer (some ⟨wc.heap.size, 0, none⟩), .pointer (some ⟨p7, 0, none⟩)]) t0 t1 t2
    generalize ((wc.setCell ⟨w.heap.size, 0, none⟩ (.int .i64 ((d0.m.n : Int) * (d1.m.n : Int)))).setCell ⟨w.heap.size, 1, none⟩ (.func (.func 111) #[] #[.pointer (some ⟨p6, 0, none⟩), .pointer (some ⟨wc.heap.size, 0, none⟩), .pointer (some ⟨p7, 0, none⟩)])).setCell ⟨w.heap.size, 2, none⟩ (.func (.func 112) #[] #[.pointer (some ⟨p6, 0, none⟩), .pointer (some ⟨wc.heap.size, 0, none⟩), .pointer (some ⟨p7, 0, none⟩)]) = W2 at hon hT ⊢
    have hz := hon.size
    have ba := (Below.refl W2.heap.size W2).alloc (Nat.le_refl _) (.cells #[.int .i64 (d1.k : Int)] 3)
    have hT' : ThreeAt2 (W2.alloc (.cells #[.int .i64 (d1.k : Int)] 3)) w.heap.size _ _ _ := ⟨(ba.cell (p := ⟨w.heap.size, 0, none⟩) (by show w.heap.size < _; omega)).trans hT.1, (ba.cell (p := ⟨w.heap.size, 1, none⟩) (by show w.heap.size < _; omega)).trans hT.2.1, (ba.cell (p := ⟨w.heap.size, 2, none⟩) (by show w.heap.size < _; omega)).trans hT.2.2⟩
    have x6' := (x6.only hon (by show ¬ (_ = _); omega)).below ba (by omega)
    have x7' := (x7.only hon (by show ¬ (_ = _); omega)).below ba (by omega)
    have c8 : (W2.alloc (.cells #[.int .i64 (d1.k : Int)] 3)).cell? ⟨wc.heap.size, 0, none⟩ = some (.int .i64 (d1.m.n : Int)) := by
      rw [← hz, HH1.out.len]
      simp
    have BF := (Bc.trans (hon.below fun j hj => by have hj' : j = w.heap.size := hj; omega)).trans (ba.mono (by omega))
    have f0 := hT'.c0
    have f1 := hT'.c1
    have f2 := hT'.c2
    refine bodyPost_ret (v := .tuple #[.agg #[.int .i64 ((d0.m.n : Int) * (d1.m.n : Int)), .func (.func 111) #[] #[.pointer (some ⟨p6, 0, none⟩), .pointer (some ⟨wc.heap.size, 0, none⟩), .pointer (some ⟨p7, 0, none⟩)], .func (.func 112) #[] #[.pointer (some ⟨p6, 0, none⟩), .pointer (some ⟨wc.heap.size, 0, none⟩), .pointer (some ⟨p7, 0, none⟩)]], .bool true]) (by simp [results, Try.results81, go_sem, f0, f1, f2]) rfl
      ⟨BF, .inr ⟨rfl, _, rfl, ⟨⟨_, _, _, _, _, _, by rw [ec], pairs_below (HH0.out.step BF) (HH1.out.step BF) x6'.c0 c8 x7'.c0, pairs_not (HH0.out.step BF) (HH1.out.step BF) x6'.c1 c8 x7'.c1⟩⟩⟩⟩
end Go.Proofs.Ytgjacinolenheaa
