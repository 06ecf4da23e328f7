/- The walks of the program's partWith, SubOk, MadeBy. -/
import Derived.Test.YtijcacibofpnpaaDoorZYf
namespace Go.Proofs.YtijcacibofpnpaaDoor
open Go.RowKit Go.Deep

/-- What partWith hands back. -/
def PartRes (w : World) (ua : Option Addr) (l : Lay) (m : Mx) (na : Option Addr) (k nc : Nat) (ok : Bool) (e : Ending) (w' : World) : Prop :=
  Below w.heap.size w w' ∧ ((ok = true ∧ ∃ (ob tb : Nat) (tG : Nat → Nat), e = .returned (.tuple #[algV ua l m na k nc ob, .bool true]) ∧ Alg w' ob tb tG ua l m) ∨ (ok = false ∧ ∃ (a b c : Option Addr) (n1 c1 n2 c2 n3 c3 : Nat), e = .returned (.tuple #[.agg #[.slice a n1 c1, .slice b n2 c2, .slice c n3 c3], .bool false])))
theorem Alg.apart {w w' : World} {ob tb p : Nat} {tG : Nat → Nat} {sa : Option Addr} {l : Lay} {m : Mx} {u v : Value} (h : Alg w ob tb tG sa l m) (hp : ThreeAt w p (.slice none 0 0) u v) (hn : 1 ≤ m.n) (ho : OnlyIn (fun q => q = p) w w') : Alg w' ob tb tG sa l m := by
  have h0 : ob ≠ p := fun e => by
    have := h.op0
    rw [e, hp.c0] at this
    cases this
  have h1 : tb ≠ p := fun e => by
    have := h.own.top.cell (show 0 < (tr m).n from hn)
    rw [e, hp.c0] at this
    cases this
  have h2 : ∀ r, r < (tr m).n → tG r ≠ p := fun r hr e => by
    have := (h.own.row r hr).cell (show 0 < (tr m).L r from hn)
    rw [e, hp.c0] at this
    cases this
  exact ⟨h.own.only ho h1 h2, by have := h.lt; have := ho.size; omega, (World.cell?_of_block (w := w) (ho.block ob h0)).trans h.op0, (World.cell?_of_block (w := w) (ho.block ob h0)).trans h.op1⟩

set_option maxRecDepth 100000 in
set_option maxHeartbeats 2000000 in
theorem partWith_no {w : World} {B : Nat} {ua : Option Addr} {l : Lay} {m : Mx} {na : Option Addr} {g o k nc : Nat} {z : Nat → Int} {x : Int} (h : LogAt w B ua l m na g o k z) (hl : logicB m k z = false) :
    Calls Tryd.prog 33 #[.agg #[.slice ua m.n l.cap, .slice na k nc], .int .i64 x] w (PartRes w ua l m na k nc (subV m k z x)) := by
  have HF : Hid (subV m k z x = false) := by show _ = _; unfold subV; rw [hl]; rfl
  have HL := Lib.hid hl
  have hX := BoxN.start w #[.slice ua m.n l.cap, .slice na k nc] 26
  have hV := ThreeAt.new (w.alloc (.cells #[.slice ua m.n l.cap, .slice na k nc] 26)) (.slice none 0 0) (.slice none 0 0) (.slice none 0 0) 45
  rw [World.size_alloc] at hV
  have bz := (Below.refl (w.heap.size + 1) (w.alloc (.cells #[.slice ua m.n l.cap, .slice na k nc] 26))).alloc (by simp) (.cells #[.slice none 0 0, .slice none 0 0, .slice none 0 0] 45)
  have hX2 := hX.step (bz.mono (by simp))
  have bw := hX2.below
  have hge : ((w.alloc (.cells #[.slice ua m.n l.cap, .slice na k nc] 26)).alloc (.cells #[.slice none 0 0, .slice none 0 0, .slice none 0 0] 45)).heap.size ≥ w.heap.size + 2 := by simp
  have q0 := hX2.cell 0 rfl
  have q1 := hX2.cell 1 rfl
  have h2 := Lib.hid (h.step bw)
  have hrow2 : Hid (RowAt ((w.alloc (.cells #[.slice ua m.n l.cap, .slice na k nc] 26)).alloc (.cells #[.slice none 0 0, .slice none 0 0, .slice none 0 0] 45)) ((w.alloc (.cells #[.slice ua m.n l.cap, .slice na k nc] 26)).alloc (.cells #[.slice none 0 0, .slice none 0 0, .slice none 0 0] 45)).heap.size none 0 0 0 (fun _ => 0)) := ⟨fun c hc => absurd hc (Nat.not_lt_zero _)⟩
  clear h hl hX bz
  go_enter Tryd.func33, Tryd.ntmps33
  go_wp2_with fail
  generalize hW : (w.alloc (.cells #[.slice ua m.n l.cap, .slice na k nc] 26)).alloc (.cells #[.slice none 0 0, .slice none 0 0, .slice none 0 0] 45) = W at hV hX2 bw hge h2 hrow2 q0 q1 ⊢
  clear hW
  go_at_call 18
  refine (algebraWith_any h2.out hrow2.out (by omega)).mono ?_
  rintro e w1 ⟨b1, (⟨hg, ob, tb, tG, rfl, hA⟩ | ⟨hg, rfl⟩)⟩
  · exfalso
    rw [HL.out] at hg
    cases hg
  clear q0 q1 hrow2 hg
  have s1 := b1.size
  have B1 := bw.trans (b1.mono bw.size)
  have hV1 := hV.below b1 (by omega)
  have hY := BoxN.start w1 #[.slice none 0 0, .slice none 0 0, .slice none 0 0] 45
  have hYb := hY.below
  have hV2 := hV1.below hYb (by omega)
  have BY := B1.trans (hYb.mono B1.size)
  have ys : (w1.alloc (.cells #[.slice none 0 0, .slice none 0 0, .slice none 0 0] 45)).heap.size = w1.heap.size + 1 := World.size_alloc _ _
  unfold noAlg
  go_wp2_with fail
  generalize hW1 : w1.alloc (.cells #[.slice none 0 0, .slice none 0 0, .slice none 0 0] 45) = W1 at hY hV2 BY ys  ⊢
  clear hW1
  have hY1 := hY.step (Below.refl _ W1).drew
  have hS : (fun w' => ((w'.cell? ⟨w1.heap.size, 0, none⟩ = some (.slice none 0 0) ∧ w'.cell? ⟨w1.heap.size, 1, none⟩ = some (.slice none 0 0)) ∧ w'.cell? ⟨w1.heap.size, 2, none⟩ = some (.slice none 0 0))) W1.drew := ⟨⟨hY1.cell 0 rfl, hY1.cell 1 rfl⟩, hY1.cell 2 rfl⟩
  refine region_plain (fuel := 16) (listed := #[false, false, false, false, false, false, false, false, false, false, false, false, false, false, false, false]) (fun w' => ((w'.cell? ⟨w1.heap.size, 0, none⟩ = some (.slice none 0 0) ∧ w'.cell? ⟨w1.heap.size, 1, none⟩ = some (.slice none 0 0)) ∧ w'.cell? ⟨w1.heap.size, 2, none⟩ = some (.slice none 0 0))) (by kernel_rfl) (by kernel_rfl) (by kernel_rfl) ?_
  have hVd := hV2.below (Below.refl W1.heap.size W1).drew (by omega)
  have BYd := BY.trans (Below.refl w.heap.size W1).drew
  clear hY1
  generalize W1.drew = wd at hS hVd BYd ⊢
  refine hold_take (i := 0) (d := 13) (v := ?va0) (listed' := #[true, false, false, false, false, false, false, false, false, false, false, false, false, false, false, false]) rfl (by kernel_rfl) (by kernel_rfl) (by kernel_rfl) rfl (by rfl) (by kernel_rfl) hS ?ha0 ?ra0
  case ha0 =>
    intro w' hSw
    obtain ⟨⟨k0, k1⟩, k2⟩ := hSw
    go_simp
    try with_reducible rfl
  simp only [List.setIfInBounds_toArray, List.set_cons_zero, List.set_cons_succ]
  refine hold_take (i := 1) (d := 14) (v := ?va1) (listed' := #[true, true, false, false, false, false, false, false, false, false, false, false, false, false, false, false]) rfl (by kernel_rfl) (by kernel_rfl) (by kernel_rfl) rfl (by rfl) (by kernel_rfl) hS ?ha1 ?ra1
  case ha1 =>
    intro w' hSw
    obtain ⟨⟨k0, k1⟩, k2⟩ := hSw
    go_simp
    try with_reducible rfl
  simp only [List.setIfInBounds_toArray, List.set_cons_zero, List.set_cons_succ]
  refine hold_take (i := 2) (d := 15) (v := ?va2) (listed' := #[true, true, true, false, false, false, false, false, false, false, false, false, false, false, false, false]) rfl (by kernel_rfl) (by kernel_rfl) (by kernel_rfl) rfl (by rfl) (by kernel_rfl) hS ?ha2 ?ra2
  case ha2 =>
    intro w' hSw
    obtain ⟨⟨k0, k1⟩, k2⟩ := hSw
    go_simp
    try with_reducible rfl
  simp only [List.setIfInBounds_toArray, List.set_cons_zero, List.set_cons_succ]
  refine hold_skip (i := 3) (d := 16) (listed' := #[true, true, true, true, false, false, false, false, false, false, false, false, false, false, false, false]) rfl (by kernel_rfl) (by kernel_rfl) (by kernel_rfl) rfl (by rfl) (by kernel_rfl) hS ?_
  simp only [List.setIfInBounds_toArray, List.set_cons_zero, List.set_cons_succ]
  refine hold_skip (i := 4) (d := 17) (listed' := #[true, true, true, true, true, false, false, false, false, false, false, false, false, false, false, false]) rfl (by kernel_rfl) (by kernel_rfl) (by kernel_rfl) rfl (by rfl) (by kernel_rfl) hS ?_
  simp only [List.setIfInBounds_toArray, List.set_cons_zero, List.set_cons_succ]
  refine hold_skip (i := 5) (d := 18) (listed' := #[true, true, true, true, true, true, false, false, false, false, false, false, false, false, false, false]) rfl (by kernel_rfl) (by kernel_rfl) (by kernel_rfl) rfl (by rfl) (by kernel_rfl) hS ?_
  simp only [List.setIfInBounds_toArray, List.set_cons_zero, List.set_cons_succ]
  refine hold_take (i := 6) (d := 19) (v := ?va6) (listed' := #[true, true, true, true, true, true, true, false, false, false, false, false, false, false, false, false]) rfl (by kernel_rfl) (by kernel_rfl) (by kernel_rfl) rfl (by rfl) (by kernel_rfl) hS ?ha6 ?ra6
  case ha6 =>
    intro w' hSw
    obtain ⟨⟨k0, k1⟩, k2⟩ := hSw
    go_simp
    try with_reducible rfl
  simp only [List.setIfInBounds_toArray, List.set_cons_zero, List.set_cons_succ]
  refine hold_take (i := 7) (d := 20) (v := ?va7) (listed' := #[true, true, true, true, true, true, true, true, false, false, false, false, false, false, false, false]) rfl (by kernel_rfl) (by kernel_rfl) (by kernel_rfl) rfl (by rfl) (by kernel_rfl) hS ?ha7 ?ra7
  case ha7 =>
    intro w' hSw
    obtain ⟨⟨k0, k1⟩, k2⟩ := hSw
    go_simp
    try with_reducible rfl
  simp only [List.setIfInBounds_toArray, List.set_cons_zero, List.set_cons_succ]
  refine hold_skip (i := 8) (d := 21) (listed' := #[true, true, true, true, true, true, true, true, true, false, false, false, false, false, false, false]) rfl (by kernel_rfl) (by kernel_rfl) (by kernel_rfl) rfl (by rfl) (by kernel_rfl) hS ?_
  simp only [List.setIfInBounds_toArray, List.set_cons_zero, List.set_cons_succ]
  refine hold_skip (i := 9) (d := 22) (listed' := #[true, true, true, true, true, true, true, true, true, true, false, false, false, false, false, false]) rfl (by kernel_rfl) (by kernel_rfl) (by kernel_rfl) rfl (by rfl) (by kernel_rfl) hS ?_
  simp only [List.setIfInBounds_toArray, List.set_cons_zero, List.set_cons_succ]
  refine hold_skip (i := 11) (d := 24) (listed' := #[true, true, true, true, true, true, true, true, true, true, false, true, false, false, false, false]) rfl (by kernel_rfl) (by kernel_rfl) (by kernel_rfl) rfl (by rfl) (by kernel_rfl) hS ?_
  simp only [List.setIfInBounds_toArray, List.set_cons_zero, List.set_cons_succ]
  refine hold_skip (i := 10) (d := 23) (listed' := #[true, true, true, true, true, true, true, true, true, true, true, true, false, false, false, false]) rfl (by kernel_rfl) (by kernel_rfl) (by kernel_rfl) rfl (by rfl) (by kernel_rfl) hS ?_
  simp only [List.setIfInBounds_toArray, List.set_cons_zero, List.set_cons_succ]
  refine hold_skip (i := 12) (d := 25) (listed' := #[true, true, true, true, true, true, true, true, true, true, true, true, true, false, false, false]) rfl (by kernel_rfl) (by kernel_rfl) (by kernel_rfl) rfl (by rfl) (by kernel_rfl) hS ?_
  simp only [List.setIfInBounds_toArray, List.set_cons_zero, List.set_cons_succ]
  refine hold_take (i := 13) (d := 26) (v := ?va13) (listed' := #[true, true, true, true, true, true, true, true, true, true, true, true, true, true, false, false]) rfl (by kernel_rfl) (by kernel_rfl) (by kernel_rfl) rfl (by rfl) (by kernel_rfl) hS ?ha13 ?ra13
  case ha13 =>
    intro w' hSw
    obtain ⟨⟨k0, k1⟩, k2⟩ := hSw
    go_simp
    try with_reducible rfl
  simp only [List.setIfInBounds_toArray, List.set_cons_zero, List.set_cons_succ]
  have v0 := hVd.c0
  have v1 := hVd.c1
  have v2 := hVd.c2
  have v3 := hVd.f0
  have v4 := hVd.f1
  have v5 := hVd.f2
  have hon := set3_only wd (w.heap.size + 1) (.slice none 0 0) (.slice none 0 0) (.slice none 0 0)
  have hS9 : (fun w' => ((w'.cell? ⟨w1.heap.size, 0, none⟩ = some (.slice none 0 0) ∧ w'.cell? ⟨w1.heap.size, 1, none⟩ = some (.slice none 0 0)) ∧ w'.cell? ⟨w1.heap.size, 2, none⟩ = some (.slice none 0 0))) (((wd.setCell ⟨w.heap.size + 1, 0, none⟩ (.slice none 0 0)).setCell ⟨w.heap.size + 1, 1, none⟩ (.slice none 0 0)).setCell ⟨w.heap.size + 1, 2, none⟩ (.slice none 0 0)) := ⟨⟨(World.cell?_of_block (hon.block _ (by show ¬ w1.heap.size = _; omega))).trans hS.1.1, (World.cell?_of_block (hon.block _ (by show ¬ w1.heap.size = _; omega))).trans hS.1.2⟩, (World.cell?_of_block (hon.block _ (by show ¬ w1.heap.size = _; omega))).trans hS.2⟩
  refine hold_store (i := 14) (w' := (((wd.setCell ⟨w.heap.size + 1, 0, none⟩ (.slice none 0 0)).setCell ⟨w.heap.size + 1, 1, none⟩ (.slice none 0 0)).setCell ⟨w.heap.size + 1, 2, none⟩ (.slice none 0 0))) (listed' := #[true, true, true, true, true, true, true, true, true, true, true, true, true, true, true, false]) rfl (by kernel_rfl) rfl (by rfl) (by kernel_rfl) ?hsa14 hS9 ?hka14
  case hsa14 => go_simp
  refine hold_take (i := 15) (d := 5) (v := ?va15) (listed' := #[true, true, true, true, true, true, true, true, true, true, true, true, true, true, true, true]) rfl (by kernel_rfl) (by kernel_rfl) (by kernel_rfl) rfl (by rfl) (by kernel_rfl) hS9 ?ha15 ?ra15
  case ha15 =>
    intro w' hSw
    obtain ⟨⟨k0, k1⟩, k2⟩ := hSw
    go_simp
    try with_reducible rfl
  simp only [List.setIfInBounds_toArray, List.set_cons_zero, List.set_cons_succ]
  refine hold_done (by kernel_rfl) ?_ _
  go_wp2_with fail
  have hT := told3 (x := .slice none 0 0) (y := .slice none 0 0) (z := .slice none 0 0) v0 v1 v2
  have t0 := hT.1
  have t1 := hT.2.1
  have t2 := hT.2.2
  refine bodyPost_ret (v := .tuple #[.agg #[.slice none 0 0, .slice none 0 0, .slice none 0 0], .bool false]) (by simp [results, Tryd.results33, go_sem, t0, t1, t2]) rfl ⟨BYd.trans (hon.below fun j hj => by have hj' : j = w.heap.size + 1 := hj; omega), .inr ⟨HF.out, _, _, _, _, _, _, _, _, _, rfl⟩⟩

set_option maxRecDepth 100000 in
set_option maxHeartbeats 2000000 in
theorem partWith_out {w : World} {B g o nc o' : Nat} {ua : Option Addr} {l : Lay} {m : Mx} {z : Nat → Int} {y : Nat → Nat} {x : Int} (h : LogAt w B ua l m (some ⟨g, o, none⟩) g o m.n z) (hO : Ortho m z y o') (hi : inB m.n x = false) :
    Calls Tryd.prog 33 #[.agg #[.slice ua m.n l.cap, .slice (some ⟨g, o, none⟩) m.n nc], .int .i64 x] w (PartRes w ua l m (some ⟨g, o, none⟩) m.n nc (subV m m.n z x)) := by
  have HF : Hid (subV m m.n z x = false) := by show _ = _; unfold subV; rw [hi, Bool.and_false]; rfl
  have HI := Lib.hid hi
  have hn := hO.lat.order.top
  have HL : Hid (logicB m m.n z = true) := logicB_true hO.logic
  have hX := BoxN.start w #[.slice ua m.n l.cap, .slice (some ⟨g, o, none⟩) m.n nc] 26
  have hV := ThreeAt.new (w.alloc (.cells #[.slice ua m.n l.cap, .slice (some ⟨g, o, none⟩) m.n nc] 26)) (.slice none 0 0) (.slice none 0 0) (.slice none 0 0) 45
  rw [World.size_alloc] at hV
  have bz := (Below.refl (w.heap.size + 1) (w.alloc (.cells #[.slice ua m.n l.cap, .slice (some ⟨g, o, none⟩) m.n nc] 26))).alloc (by simp) (.cells #[.slice none 0 0, .slice none 0 0, .slice none 0 0] 45)
  have hX2 := hX.step (bz.mono (by simp))
  have bw := hX2.below
  have hge : ((w.alloc (.cells #[.slice ua m.n l.cap, .slice (some ⟨g, o, none⟩) m.n nc] 26)).alloc (.cells #[.slice none 0 0, .slice none 0 0, .slice none 0 0] 45)).heap.size ≥ w.heap.size + 2 := by simp
  have q0 := hX2.cell 0 rfl
  have q1 := hX2.cell 1 rfl
  have h2 := Lib.hid (h.step bw)
  have hrow2 : Hid (RowAt ((w.alloc (.cells #[.slice ua m.n l.cap, .slice (some ⟨g, o, none⟩) m.n nc] 26)).alloc (.cells #[.slice none 0 0, .slice none 0 0, .slice none 0 0] 45)) ((w.alloc (.cells #[.slice ua m.n l.cap, .slice (some ⟨g, o, none⟩) m.n nc] 26)).alloc (.cells #[.slice none 0 0, .slice none 0 0, .slice none 0 0] 45)).heap.size none 0 0 0 (fun _ => 0)) := ⟨fun c hc => absurd hc (Nat.not_lt_zero _)⟩
  clear h hi hX bz hO
  go_enter Tryd.func33, Tryd.ntmps33
  go_wp2_with fail
  generalize hW : (w.alloc (.cells #[.slice ua m.n l.cap, .slice (some ⟨g, o, none⟩) m.n nc] 26)).alloc (.cells #[.slice none 0 0, .slice none 0 0, .slice none 0 0] 45) = W at hV hX2 bw hge h2 hrow2 q0 q1 ⊢
  clear hW
  go_at_call 18
  refine (algebraWith_any h2.out hrow2.out (by omega)).mono ?_
  rintro e w1 ⟨b1, (⟨hg, ob, tb, tG, rfl, hA⟩ | ⟨hg, rfl⟩)⟩
  case inr =>
    exfalso
    rw [HL.out, good_nil] at hg
    cases hg
  clear q0 q1 hrow2 hg hA
  have s1 := b1.size
  have B1 := bw.trans (b1.mono bw.size)
  have hV1 := hV.below b1 (by omega)
  have hY := BoxN.start w1 #[.slice ua m.n l.cap, .slice (some ⟨g, o, none⟩) m.n nc, .slice (some ⟨ob, 0, none⟩) 2 2] 45
  have hYb := hY.below
  have hV2 := hV1.below hYb (by omega)
  have BY := B1.trans (hYb.mono B1.size)
  have ys : (w1.alloc (.cells #[.slice ua m.n l.cap, .slice (some ⟨g, o, none⟩) m.n nc, .slice (some ⟨ob, 0, none⟩) 2 2] 45)).heap.size = w1.heap.size + 1 := World.size_alloc _ _
  unfold algV
  go_wp2_with fail
  generalize hW1 : w1.alloc (.cells #[.slice ua m.n l.cap, .slice (some ⟨g, o, none⟩) m.n nc, .slice (some ⟨ob, 0, none⟩) 2 2] 45) = W1 at hY hV2 BY ys  ⊢
  clear hW1
  have hY1 := hY.step (Below.refl _ W1).drew
  have hS : (fun w' => ((w'.cell? ⟨w1.heap.size, 0, none⟩ = some (.slice ua m.n l.cap) ∧ w'.cell? ⟨w1.heap.size, 1, none⟩ = some (.slice (some ⟨g, o, none⟩) m.n nc)) ∧ w'.cell? ⟨w1.heap.size, 2, none⟩ = some (.slice (some ⟨ob, 0, none⟩) 2 2))) W1.drew := ⟨⟨hY1.cell 0 rfl, hY1.cell 1 rfl⟩, hY1.cell 2 rfl⟩
  have hcs := setOk_any (w := W1.drew) (ob := ob) (nc := nc) (g := g) (o := o) (sa := ua) (l := l) (m := m) (k := m.n) (x := x) hn
  unfold algV at hcs
  refine region_plain (fuel := 16) (listed := #[false, false, false, false, false, false, false, false, false, false, false, false, false, false, false, false]) (fun w' => ((w'.cell? ⟨w1.heap.size, 0, none⟩ = some (.slice ua m.n l.cap) ∧ w'.cell? ⟨w1.heap.size, 1, none⟩ = some (.slice (some ⟨g, o, none⟩) m.n nc)) ∧ w'.cell? ⟨w1.heap.size, 2, none⟩ = some (.slice (some ⟨ob, 0, none⟩) 2 2))) (by kernel_rfl) (by kernel_rfl) (by kernel_rfl) ?_
  refine hold_take (i := 0) (d := 13) (v := ?vb0) (listed' := #[true, false, false, false, false, false, false, false, false, false, false, false, false, false, false, false]) rfl (by kernel_rfl) (by kernel_rfl) (by kernel_rfl) rfl (by rfl) (by kernel_rfl) hS ?hb0 ?rb0
  case hb0 =>
    intro w' hSw
    obtain ⟨⟨k0, k1⟩, k2⟩ := hSw
    go_simp
    try with_reducible rfl
  simp only [List.setIfInBounds_toArray, List.set_cons_zero, List.set_cons_succ]
  refine hold_take (i := 1) (d := 14) (v := ?vb1) (listed' := #[true, true, false, false, false, false, false, false, false, false, false, false, false, false, false, false]) rfl (by kernel_rfl) (by kernel_rfl) (by kernel_rfl) rfl (by rfl) (by kernel_rfl) hS ?hb1 ?rb1
  case hb1 =>
    intro w' hSw
    obtain ⟨⟨k0, k1⟩, k2⟩ := hSw
    go_simp
    try with_reducible rfl
  simp only [List.setIfInBounds_toArray, List.set_cons_zero, List.set_cons_succ]
  refine hold_take (i := 2) (d := 15) (v := ?vb2) (listed' := #[true, true, true, false, false, false, false, false, false, false, false, false, false, false, false, false]) rfl (by kernel_rfl) (by kernel_rfl) (by kernel_rfl) rfl (by rfl) (by kernel_rfl) hS ?hb2 ?rb2
  case hb2 =>
    intro w' hSw
    obtain ⟨⟨k0, k1⟩, k2⟩ := hSw
    go_simp
    try with_reducible rfl
  simp only [List.setIfInBounds_toArray, List.set_cons_zero, List.set_cons_succ]
  refine hold_take (i := 3) (d := 16) (v := ?vb3) (listed' := #[true, true, true, true, false, false, false, false, false, false, false, false, false, false, false, false]) rfl (by kernel_rfl) (by kernel_rfl) (by kernel_rfl) rfl (by rfl) (by kernel_rfl) hS ?hb3 ?rb3
  case hb3 =>
    intro w' hSw
    obtain ⟨⟨k0, k1⟩, k2⟩ := hSw
    go_simp
    try with_reducible rfl
  simp only [List.setIfInBounds_toArray, List.set_cons_zero, List.set_cons_succ]
  refine hold_take (i := 4) (d := 17) (v := ?vb4) (listed' := #[true, true, true, true, true, false, false, false, false, false, false, false, false, false, false, false]) rfl (by kernel_rfl) (by kernel_rfl) (by kernel_rfl) rfl (by rfl) (by kernel_rfl) hS ?hb4 ?rb4
  case hb4 =>
    intro w' hSw
    obtain ⟨⟨k0, k1⟩, k2⟩ := hSw
    go_simp
    try with_reducible rfl
  simp only [List.setIfInBounds_toArray, List.set_cons_zero, List.set_cons_succ]
  refine hold_call (i := 5) (d := 18) (listed' := #[true, true, true, true, true, true, false, false, false, false, false, false, false, false, false, false]) rfl (by kernel_rfl) rfl (by rfl) (by kernel_rfl) ?heb5 (hcs) ?hcb5
  case heb5 => go_simp
  rintro e w2 ⟨rfl, b2⟩
  rw [HI.out]
  have hY2 := hY1.step b2
  have hS2 : (fun w' => ((w'.cell? ⟨w1.heap.size, 0, none⟩ = some (.slice ua m.n l.cap) ∧ w'.cell? ⟨w1.heap.size, 1, none⟩ = some (.slice (some ⟨g, o, none⟩) m.n nc)) ∧ w'.cell? ⟨w1.heap.size, 2, none⟩ = some (.slice (some ⟨ob, 0, none⟩) 2 2))) w2 := ⟨⟨hY2.cell 0 rfl, hY2.cell 1 rfl⟩, hY2.cell 2 rfl⟩
  refine ⟨_, rfl, hS2, ?_⟩
  simp only [List.setIfInBounds_toArray, List.set_cons_zero, List.set_cons_succ]
  refine hold_take (i := 6) (d := 19) (v := ?vb6) (listed' := #[true, true, true, true, true, true, true, false, false, false, false, false, false, false, false, false]) rfl (by kernel_rfl) (by kernel_rfl) (by kernel_rfl) rfl (by rfl) (by kernel_rfl) hS2 ?hb6 ?rb6
  case hb6 =>
    intro w' hSw
    obtain ⟨⟨k0, k1⟩, k2⟩ := hSw
    go_simp
    try with_reducible rfl
  simp only [List.setIfInBounds_toArray, List.set_cons_zero, List.set_cons_succ]
  refine hold_take (i := 7) (d := 20) (v := ?vb7) (listed' := #[true, true, true, true, true, true, true, true, false, false, false, false, false, false, false, false]) rfl (by kernel_rfl) (by kernel_rfl) (by kernel_rfl) rfl (by rfl) (by kernel_rfl) hS2 ?hb7 ?rb7
  case hb7 =>
    intro w' hSw
    obtain ⟨⟨k0, k1⟩, k2⟩ := hSw
    go_simp
    try with_reducible rfl
  simp only [List.setIfInBounds_toArray, List.set_cons_zero, List.set_cons_succ]
  refine hold_skip (i := 8) (d := 21) (listed' := #[true, true, true, true, true, true, true, true, true, false, false, false, false, false, false, false]) rfl (by kernel_rfl) (by kernel_rfl) (by kernel_rfl) rfl (by rfl) (by kernel_rfl) hS2 ?_
  simp only [List.setIfInBounds_toArray, List.set_cons_zero, List.set_cons_succ]
  refine hold_skip (i := 9) (d := 22) (listed' := #[true, true, true, true, true, true, true, true, true, true, false, false, false, false, false, false]) rfl (by kernel_rfl) (by kernel_rfl) (by kernel_rfl) rfl (by rfl) (by kernel_rfl) hS2 ?_
  simp only [List.setIfInBounds_toArray, List.set_cons_zero, List.set_cons_succ]
  refine hold_skip (i := 11) (d := 24) (listed' := #[true, true, true, true, true, true, true, true, true, true, false, true, false, false, false, false]) rfl (by kernel_rfl) (by kernel_rfl) (by kernel_rfl) rfl (by rfl) (by kernel_rfl) hS2 ?_
  simp only [List.setIfInBounds_toArray, List.set_cons_zero, List.set_cons_succ]
  refine hold_skip (i := 10) (d := 23) (listed' := #[true, true, true, true, true, true, true, true, true, true, true, true, false, false, false, false]) rfl (by kernel_rfl) (by kernel_rfl) (by kernel_rfl) rfl (by rfl) (by kernel_rfl) hS2 ?_
  simp only [List.setIfInBounds_toArray, List.set_cons_zero, List.set_cons_succ]
  refine hold_skip (i := 12) (d := 25) (listed' := #[true, true, true, true, true, true, true, true, true, true, true, true, true, false, false, false]) rfl (by kernel_rfl) (by kernel_rfl) (by kernel_rfl) rfl (by rfl) (by kernel_rfl) hS2 ?_
  simp only [List.setIfInBounds_toArray, List.set_cons_zero, List.set_cons_succ]
  refine hold_take (i := 13) (d := 26) (v := ?vb13) (listed' := #[true, true, true, true, true, true, true, true, true, true, true, true, true, true, false, false]) rfl (by kernel_rfl) (by kernel_rfl) (by kernel_rfl) rfl (by rfl) (by kernel_rfl) hS2 ?hb13 ?rb13
  case hb13 =>
    intro w' hSw
    obtain ⟨⟨k0, k1⟩, k2⟩ := hSw
    go_simp
    try with_reducible rfl
  simp only [List.setIfInBounds_toArray, List.set_cons_zero, List.set_cons_succ]
  have s2 : W1.heap.size ≤ w2.heap.size := b2.size
  have hVd := (hV2.below (Below.refl W1.heap.size W1).drew (by omega)).below b2 (by show _ < W1.heap.size; omega)
  have v0 := hVd.c0
  have v1 := hVd.c1
  have v2 := hVd.c2
  have v3 := hVd.f0
  have v4 := hVd.f1
  have v5 := hVd.f2
  have hon := set3_only w2 (w.heap.size + 1) (.slice ua m.n l.cap) (.slice (some ⟨g, o, none⟩) m.n nc) (.slice (some ⟨ob, 0, none⟩) 2 2)
  have hS9 : (fun w' => ((w'.cell? ⟨w1.heap.size, 0, none⟩ = some (.slice ua m.n l.cap) ∧ w'.cell? ⟨w1.heap.size, 1, none⟩ = some (.slice (some ⟨g, o, none⟩) m.n nc)) ∧ w'.cell? ⟨w1.heap.size, 2, none⟩ = some (.slice (some ⟨ob, 0, none⟩) 2 2))) (((w2.setCell ⟨w.heap.size + 1, 0, none⟩ (.slice ua m.n l.cap)).setCell ⟨w.heap.size + 1, 1, none⟩ (.slice (some ⟨g, o, none⟩) m.n nc)).setCell ⟨w.heap.size + 1, 2, none⟩ (.slice (some ⟨ob, 0, none⟩) 2 2)) := ⟨⟨(World.cell?_of_block (hon.block _ (by show ¬ w1.heap.size = _; omega))).trans hS2.1.1, (World.cell?_of_block (hon.block _ (by show ¬ w1.heap.size = _; omega))).trans hS2.1.2⟩, (World.cell?_of_block (hon.block _ (by show ¬ w1.heap.size = _; omega))).trans hS2.2⟩
  refine hold_store (i := 14) (w' := (((w2.setCell ⟨w.heap.size + 1, 0, none⟩ (.slice ua m.n l.cap)).setCell ⟨w.heap.size + 1, 1, none⟩ (.slice (some ⟨g, o, none⟩) m.n nc)).setCell ⟨w.heap.size + 1, 2, none⟩ (.slice (some ⟨ob, 0, none⟩) 2 2))) (listed' := #[true, true, true, true, true, true, true, true, true, true, true, true, true, true, true, false]) rfl (by kernel_rfl) rfl (by rfl) (by kernel_rfl) ?hsb14 hS9 ?hkb14
  case hsb14 => go_simp
  refine hold_take (i := 15) (d := 5) (v := ?vb15) (listed' := #[true, true, true, true, true, true, true, true, true, true, true, true, true, true, true, true]) rfl (by kernel_rfl) (by kernel_rfl) (by kernel_rfl) rfl (by rfl) (by kernel_rfl) hS9 ?hb15 ?rb15
  case hb15 =>
    intro w' hSw
    obtain ⟨⟨k0, k1⟩, k2⟩ := hSw
    go_simp
    try with_reducible rfl
  simp only [List.setIfInBounds_toArray, List.set_cons_zero, List.set_cons_succ]
  refine hold_done (by kernel_rfl) ?_ _
  go_wp2_with fail
  have hT := told3 (x := .slice ua m.n l.cap) (y := .slice (some ⟨g, o, none⟩) m.n nc) (z := .slice (some ⟨ob, 0, none⟩) 2 2) v0 v1 v2
  have t0 := hT.1
  have t1 := hT.2.1
  have t2 := hT.2.2
  refine bodyPost_ret (v := .tuple #[.agg #[.slice ua m.n l.cap, .slice (some ⟨g, o, none⟩) m.n nc, .slice (some ⟨ob, 0, none⟩) 2 2], .bool false]) (by simp [results, Tryd.results33, go_sem, t0, t1, t2]) rfl ⟨((BY.trans (Below.refl _ W1).drew).trans (b2.mono (by show _ ≤ W1.heap.size; omega))).trans (hon.below fun j hj => by have hj' : j = w.heap.size + 1 := hj; omega), .inr ⟨HF.out, _, _, _, _, _, _, _, _, _, rfl⟩⟩

set_option maxRecDepth 100000 in
set_option maxHeartbeats 2000000 in
theorem partWith_in {w : World} {B g o nc o' s : Nat} {ua : Option Addr} {l : Lay} {m : Mx} {z : Nat → Int} {y : Nat → Nat} (h : LogAt w B ua l m (some ⟨g, o, none⟩) g o m.n z) (hO : Ortho m z y o') (h1 : 1 ≤ s) (hs : s < 2 ^ m.n) (hT : TabOk w) :
    Calls Tryd.prog 33 #[.agg #[.slice ua m.n l.cap, .slice (some ⟨g, o, none⟩) m.n nc], .int .i64 s] w (PartRes w ua l m (some ⟨g, o, none⟩) m.n nc (closedB m y s)) := by
  have HI : Hid (inB m.n (s : Int) = true) := decide_eq_true ⟨by omega, by omega⟩
  have hn := hO.lat.order.top
  have hpos := hO.lat.order.pos
  have HL : Hid (logicB m m.n z = true) := logicB_true hO.logic
  have HO := Lib.hid hO
  have H1s := Lib.hid h1
  have H2s := Lib.hid hs
  have hX := BoxN.start w #[.slice ua m.n l.cap, .slice (some ⟨g, o, none⟩) m.n nc] 26
  have hV := ThreeAt.new (w.alloc (.cells #[.slice ua m.n l.cap, .slice (some ⟨g, o, none⟩) m.n nc] 26)) (.slice none 0 0) (.slice none 0 0) (.slice none 0 0) 45
  rw [World.size_alloc] at hV
  have bz := (Below.refl (w.heap.size + 1) (w.alloc (.cells #[.slice ua m.n l.cap, .slice (some ⟨g, o, none⟩) m.n nc] 26))).alloc (by simp) (.cells #[.slice none 0 0, .slice none 0 0, .slice none 0 0] 45)
  have hX2 := hX.step (bz.mono (by simp))
  have bw := hX2.below
  have hge : ((w.alloc (.cells #[.slice ua m.n l.cap, .slice (some ⟨g, o, none⟩) m.n nc] 26)).alloc (.cells #[.slice none 0 0, .slice none 0 0, .slice none 0 0] 45)).heap.size ≥ w.heap.size + 2 := by simp
  have q0 := hX2.cell 0 rfl
  have q1 := hX2.cell 1 rfl
  have h := h.step bw
  have HT := Lib.hid (hT.step bw hT.size)
  have hrow2 : Hid (RowAt ((w.alloc (.cells #[.slice ua m.n l.cap, .slice (some ⟨g, o, none⟩) m.n nc] 26)).alloc (.cells #[.slice none 0 0, .slice none 0 0, .slice none 0 0] 45)) ((w.alloc (.cells #[.slice ua m.n l.cap, .slice (some ⟨g, o, none⟩) m.n nc] 26)).alloc (.cells #[.slice none 0 0, .slice none 0 0, .slice none 0 0] 45)).heap.size none 0 0 0 (fun _ => 0)) := ⟨fun c hc => absurd hc (Nat.not_lt_zero _)⟩
  clear hs hX bz hO h1 hT
  go_enter Tryd.func33, Tryd.ntmps33
  go_wp2_with fail
  generalize hW : (w.alloc (.cells #[.slice ua m.n l.cap, .slice (some ⟨g, o, none⟩) m.n nc] 26)).alloc (.cells #[.slice none 0 0, .slice none 0 0, .slice none 0 0] 45) = W at hV hX2 bw hge h hrow2 q0 q1 HT ⊢
  clear hW
  go_at_call 18
  refine (algebraWith_any h hrow2.out (by omega)).mono ?_
  rintro e w1 ⟨b1, (⟨hg, ob, tb, tG, rfl, hA⟩ | ⟨hg, rfl⟩)⟩
  case inr =>
    exfalso
    rw [HL.out, good_nil] at hg
    cases hg
  clear q0 q1 hrow2 hg
  have s1 := b1.size
  have B1 := bw.trans (b1.mono bw.size)
  have hV1 := hV.below b1 (by omega)
  have hY := BoxN.start w1 #[.slice ua m.n l.cap, .slice (some ⟨g, o, none⟩) m.n nc, .slice (some ⟨ob, 0, none⟩) 2 2] 45
  have hYb := hY.below
  have hV2 := hV1.below hYb (by omega)
  have BY := B1.trans (hYb.mono B1.size)
  have ys : (w1.alloc (.cells #[.slice ua m.n l.cap, .slice (some ⟨g, o, none⟩) m.n nc, .slice (some ⟨ob, 0, none⟩) 2 2] 45)).heap.size = w1.heap.size + 1 := World.size_alloc _ _
  have h2 := (h.step b1).step hYb
  have HSq := Lib.hid (h2.sq HO.out.lat.order)
  have HRow := Lib.hid h2.row
  have HB2 := h2.hB
  have HA2 := Lib.hid (hA.step hYb)
  have HT2 := Lib.hid ((HT.out.step b1 HT.out.size).step hYb (by have := HT.out.size; omega))
  clear h2 hA h
  unfold algV
  go_wp2_with fail
  generalize hW1 : w1.alloc (.cells #[.slice ua m.n l.cap, .slice (some ⟨g, o, none⟩) m.n nc, .slice (some ⟨ob, 0, none⟩) 2 2] 45) = W1 at hY hV2 BY ys HSq HRow HB2 HA2 HT2 ⊢
  clear hW1
  have hY1 := hY.step (Below.refl _ W1).drew
  have hS : (fun w' => ((w'.cell? ⟨w1.heap.size, 0, none⟩ = some (.slice ua m.n l.cap) ∧ w'.cell? ⟨w1.heap.size, 1, none⟩ = some (.slice (some ⟨g, o, none⟩) m.n nc)) ∧ w'.cell? ⟨w1.heap.size, 2, none⟩ = some (.slice (some ⟨ob, 0, none⟩) 2 2))) W1.drew := ⟨⟨hY1.cell 0 rfl, hY1.cell 1 rfl⟩, hY1.cell 2 rfl⟩
  have hcs := setOk_any (w := W1.drew) (ob := ob) (nc := nc) (g := g) (o := o) (sa := ua) (l := l) (m := m) (k := m.n) (x := (s : Int)) hn
  unfold algV at hcs
  refine region_plain (fuel := 16) (listed := #[false, false, false, false, false, false, false, false, false, false, false, false, false, false, false, false]) (fun w' => ((w'.cell? ⟨w1.heap.size, 0, none⟩ = some (.slice ua m.n l.cap) ∧ w'.cell? ⟨w1.heap.size, 1, none⟩ = some (.slice (some ⟨g, o, none⟩) m.n nc)) ∧ w'.cell? ⟨w1.heap.size, 2, none⟩ = some (.slice (some ⟨ob, 0, none⟩) 2 2))) (by kernel_rfl) (by kernel_rfl) (by kernel_rfl) ?_
  refine hold_take (i := 0) (d := 13) (v := ?vc0) (listed' := #[true, false, false, false, false, false, false, false, false, false, false, false, false, false, false, false]) rfl (by kernel_rfl) (by kernel_rfl) (by kernel_rfl) rfl (by rfl) (by kernel_rfl) hS ?hc0 ?rc0
  case hc0 =>
    intro w' hSw
    obtain ⟨⟨k0, k1⟩, k2⟩ := hSw
    go_simp
    try with_reducible rfl
  simp only [List.setIfInBounds_toArray, List.set_cons_zero, List.set_cons_succ]
  refine hold_take (i := 1) (d := 14) (v := ?vc1) (listed' := #[true, true, false, false, false, false, false, false, false, false, false, false, false, false, false, false]) rfl (by kernel_rfl) (by kernel_rfl) (by kernel_rfl) rfl (by rfl) (by kernel_rfl) hS ?hc1 ?rc1
  case hc1 =>
    intro w' hSw
    obtain ⟨⟨k0, k1⟩, k2⟩ := hSw
    go_simp
    try with_reducible rfl
  simp only [List.setIfInBounds_toArray, List.set_cons_zero, List.set_cons_succ]
  refine hold_take (i := 2) (d := 15) (v := ?vc2) (listed' := #[true, true, true, false, false, false, false, false, false, false, false, false, false, false, false, false]) rfl (by kernel_rfl) (by kernel_rfl) (by kernel_rfl) rfl (by rfl) (by kernel_rfl) hS ?hc2 ?rc2
  case hc2 =>
    intro w' hSw
    obtain ⟨⟨k0, k1⟩, k2⟩ := hSw
    go_simp
    try with_reducible rfl
  simp only [List.setIfInBounds_toArray, List.set_cons_zero, List.set_cons_succ]
  refine hold_take (i := 3) (d := 16) (v := ?vc3) (listed' := #[true, true, true, true, false, false, false, false, false, false, false, false, false, false, false, false]) rfl (by kernel_rfl) (by kernel_rfl) (by kernel_rfl) rfl (by rfl) (by kernel_rfl) hS ?hc3 ?rc3
  case hc3 =>
    intro w' hSw
    obtain ⟨⟨k0, k1⟩, k2⟩ := hSw
    go_simp
    try with_reducible rfl
  simp only [List.setIfInBounds_toArray, List.set_cons_zero, List.set_cons_succ]
  refine hold_take (i := 4) (d := 17) (v := ?vc4) (listed' := #[true, true, true, true, true, false, false, false, false, false, false, false, false, false, false, false]) rfl (by kernel_rfl) (by kernel_rfl) (by kernel_rfl) rfl (by rfl) (by kernel_rfl) hS ?hc4 ?rc4
  case hc4 =>
    intro w' hSw
    obtain ⟨⟨k0, k1⟩, k2⟩ := hSw
    go_simp
    try with_reducible rfl
  simp only [List.setIfInBounds_toArray, List.set_cons_zero, List.set_cons_succ]
  refine hold_call (i := 5) (d := 18) (listed' := #[true, true, true, true, true, true, false, false, false, false, false, false, false, false, false, false]) rfl (by kernel_rfl) rfl (by rfl) (by kernel_rfl) ?hec5 (hcs) ?hcc5
  case hec5 => go_simp
  rintro e w2 ⟨rfl, b2⟩
  rw [HI.out]
  have hY2 := hY1.step b2
  have hS2 : (fun w' => ((w'.cell? ⟨w1.heap.size, 0, none⟩ = some (.slice ua m.n l.cap) ∧ w'.cell? ⟨w1.heap.size, 1, none⟩ = some (.slice (some ⟨g, o, none⟩) m.n nc)) ∧ w'.cell? ⟨w1.heap.size, 2, none⟩ = some (.slice (some ⟨ob, 0, none⟩) 2 2))) w2 := ⟨⟨hY2.cell 0 rfl, hY2.cell 1 rfl⟩, hY2.cell 2 rfl⟩
  have hall : Below W1.heap.size W1 w2 := (Below.refl _ W1).drew.trans b2
  have hcg := grown_any (nc := nc) (HA2.out.step hall) (HSq.out.step hall) (HRow.out.below (hall.mono HB2)) (HT2.out.step hall HT2.out.size) HO.out H1s.out H2s.out
  unfold algV at hcg
  refine ⟨_, rfl, hS2, ?_⟩
  simp only [List.setIfInBounds_toArray, List.set_cons_zero, List.set_cons_succ]
  refine hold_take (i := 6) (d := 19) (v := ?vc6) (listed' := #[true, true, true, true, true, true, true, false, false, false, false, false, false, false, false, false]) rfl (by kernel_rfl) (by kernel_rfl) (by kernel_rfl) rfl (by rfl) (by kernel_rfl) hS2 ?hc6 ?rc6
  case hc6 =>
    intro w' hSw
    obtain ⟨⟨k0, k1⟩, k2⟩ := hSw
    go_simp
    try with_reducible rfl
  simp only [List.setIfInBounds_toArray, List.set_cons_zero, List.set_cons_succ]
  refine hold_take (i := 7) (d := 20) (v := ?vc7) (listed' := #[true, true, true, true, true, true, true, true, false, false, false, false, false, false, false, false]) rfl (by kernel_rfl) (by kernel_rfl) (by kernel_rfl) rfl (by rfl) (by kernel_rfl) hS2 ?hc7 ?rc7
  case hc7 =>
    intro w' hSw
    obtain ⟨⟨k0, k1⟩, k2⟩ := hSw
    go_simp
    try with_reducible rfl
  simp only [List.setIfInBounds_toArray, List.set_cons_zero, List.set_cons_succ]
  refine hold_take (i := 8) (d := 21) (v := ?vc8) (listed' := #[true, true, true, true, true, true, true, true, true, false, false, false, false, false, false, false]) rfl (by kernel_rfl) (by kernel_rfl) (by kernel_rfl) rfl (by rfl) (by kernel_rfl) hS2 ?hc8 ?rc8
  case hc8 =>
    intro w' hSw
    obtain ⟨⟨k0, k1⟩, k2⟩ := hSw
    go_simp
    try with_reducible rfl
  simp only [List.setIfInBounds_toArray, List.set_cons_zero, List.set_cons_succ]
  refine hold_take (i := 9) (d := 22) (v := ?vc9) (listed' := #[true, true, true, true, true, true, true, true, true, true, false, false, false, false, false, false]) rfl (by kernel_rfl) (by kernel_rfl) (by kernel_rfl) rfl (by rfl) (by kernel_rfl) hS2 ?hc9 ?rc9
  case hc9 =>
    intro w' hSw
    obtain ⟨⟨k0, k1⟩, k2⟩ := hSw
    go_simp
    try with_reducible rfl
  simp only [List.setIfInBounds_toArray, List.set_cons_zero, List.set_cons_succ]
  refine hold_take (i := 11) (d := 24) (v := ?vc11) (listed' := #[true, true, true, true, true, true, true, true, true, true, false, true, false, false, false, false]) rfl (by kernel_rfl) (by kernel_rfl) (by kernel_rfl) rfl (by rfl) (by kernel_rfl) hS2 ?hc11 ?rc11
  case hc11 =>
    intro w' hSw
    obtain ⟨⟨k0, k1⟩, k2⟩ := hSw
    go_simp
    try with_reducible rfl
  simp only [List.setIfInBounds_toArray, List.set_cons_zero, List.set_cons_succ]
  refine hold_call (i := 10) (d := 23) (listed' := #[true, true, true, true, true, true, true, true, true, true, true, true, false, false, false, false]) rfl (by kernel_rfl) rfl (by rfl) (by kernel_rfl) ?hec10 (hcg) ?hcc10
  case hec10 => go_simp
  rintro e w3 ⟨t, rfl, hG, b3⟩
  have hY3 := hY2.step b3
  have hS3 : (fun w' => ((w'.cell? ⟨w1.heap.size, 0, none⟩ = some (.slice ua m.n l.cap) ∧ w'.cell? ⟨w1.heap.size, 1, none⟩ = some (.slice (some ⟨g, o, none⟩) m.n nc)) ∧ w'.cell? ⟨w1.heap.size, 2, none⟩ = some (.slice (some ⟨ob, 0, none⟩) 2 2))) w3 := ⟨⟨hY3.cell 0 rfl, hY3.cell 1 rfl⟩, hY3.cell 2 rfl⟩
  have HE : Hid (((t : Int) == (s : Int)) = closedB m y s) := by
    show _ = _
    rw [← hG.same, Bool.eq_iff_iff, beq_iff_eq, decide_eq_true_iff]; omega
  clear hG
  refine ⟨_, rfl, hS3, ?_⟩
  simp only [List.setIfInBounds_toArray, List.set_cons_zero, List.set_cons_succ]
  refine hold_take (i := 12) (d := 25) (v := ?vc12) (listed' := #[true, true, true, true, true, true, true, true, true, true, true, true, true, false, false, false]) rfl (by kernel_rfl) (by kernel_rfl) (by kernel_rfl) rfl (by rfl) (by kernel_rfl) hS3 ?hc12 ?rc12
  case hc12 =>
    intro w' hSw
    obtain ⟨⟨k0, k1⟩, k2⟩ := hSw
    go_simp
    try with_reducible rfl
  simp only [List.setIfInBounds_toArray, List.set_cons_zero, List.set_cons_succ]
  refine hold_take (i := 13) (d := 26) (v := ?vc13) (listed' := #[true, true, true, true, true, true, true, true, true, true, true, true, true, true, false, false]) rfl (by kernel_rfl) (by kernel_rfl) (by kernel_rfl) rfl (by rfl) (by kernel_rfl) hS3 ?hc13 ?rc13
  case hc13 =>
    intro w' hSw
    obtain ⟨⟨k0, k1⟩, k2⟩ := hSw
    go_simp
    try with_reducible rfl
  simp only [List.setIfInBounds_toArray, List.set_cons_zero, List.set_cons_succ]
  have s2 : W1.heap.size ≤ w2.heap.size := b2.size
  have s3 := b3.size
  have hall3 : Below W1.heap.size W1 w3 := hall.trans (b3.mono (by omega))
  have hVd := hV2.below hall3 (by omega)
  have v0 := hVd.c0
  have v1 := hVd.c1
  have v2 := hVd.c2
  have v3 := hVd.f0
  have v4 := hVd.f1
  have v5 := hVd.f2
  have hon := set3_only w3 (w.heap.size + 1) (.slice ua m.n l.cap) (.slice (some ⟨g, o, none⟩) m.n nc) (.slice (some ⟨ob, 0, none⟩) 2 2)
  have hS9 : (fun w' => ((w'.cell? ⟨w1.heap.size, 0, none⟩ = some (.slice ua m.n l.cap) ∧ w'.cell? ⟨w1.heap.size, 1, none⟩ = some (.slice (some ⟨g, o, none⟩) m.n nc)) ∧ w'.cell? ⟨w1.heap.size, 2, none⟩ = some (.slice (some ⟨ob, 0, none⟩) 2 2))) (((w3.setCell ⟨w.heap.size + 1, 0, none⟩ (.slice ua m.n l.cap)).setCell ⟨w.heap.size + 1, 1, none⟩ (.slice (some ⟨g, o, none⟩) m.n nc)).setCell ⟨w.heap.size + 1, 2, none⟩ (.slice (some ⟨ob, 0, none⟩) 2 2)) := ⟨⟨(World.cell?_of_block (hon.block _ (by show ¬ w1.heap.size = _; omega))).trans hS3.1.1, (World.cell?_of_block (hon.block _ (by show ¬ w1.heap.size = _; omega))).trans hS3.1.2⟩, (World.cell?_of_block (hon.block _ (by show ¬ w1.heap.size = _; omega))).trans hS3.2⟩
  refine hold_store (i := 14) (w' := (((w3.setCell ⟨w.heap.size + 1, 0, none⟩ (.slice ua m.n l.cap)).setCell ⟨w.heap.size + 1, 1, none⟩ (.slice (some ⟨g, o, none⟩) m.n nc)).setCell ⟨w.heap.size + 1, 2, none⟩ (.slice (some ⟨ob, 0, none⟩) 2 2))) (listed' := #[true, true, true, true, true, true, true, true, true, true, true, true, true, true, true, false]) rfl (by kernel_rfl) rfl (by rfl) (by kernel_rfl) ?hsc14 hS9 ?hkc14
  case hsc14 => go_simp
  refine hold_take (i := 15) (d := 5) (v := ?vc15) (listed' := #[true, true, true, true, true, true, true, true, true, true, true, true, true, true, true, true]) rfl (by kernel_rfl) (by kernel_rfl) (by kernel_rfl) rfl (by rfl) (by kernel_rfl) hS9 ?hc15 ?rc15
  case hc15 =>
    intro w' hSw
    obtain ⟨⟨k0, k1⟩, k2⟩ := hSw
    go_simp
    try with_reducible rfl
  simp only [List.setIfInBounds_toArray, List.set_cons_zero, List.set_cons_succ]
  refine hold_done (by kernel_rfl) ?_ _
  rw [HE.out]
  clear HE
  cases hcl : closedB m y s with
  | false =>
    go_wp2_with fail
    have hT := told3 (x := .slice ua m.n l.cap) (y := .slice (some ⟨g, o, none⟩) m.n nc) (z := .slice (some ⟨ob, 0, none⟩) 2 2) v0 v1 v2
    have t0 := hT.1
    have t1 := hT.2.1
    have t2 := hT.2.2
    refine bodyPost_ret (v := .tuple #[.agg #[.slice ua m.n l.cap, .slice (some ⟨g, o, none⟩) m.n nc, .slice (some ⟨ob, 0, none⟩) 2 2], .bool false]) (by simp [results, Tryd.results33, go_sem, t0, t1, t2]) rfl ⟨(BY.trans (hall3.mono BY.size)).trans (hon.below fun j hj => by have hj' : j = w.heap.size + 1 := hj; omega), .inr ⟨rfl, _, _, _, _, _, _, _, _, _, rfl⟩⟩
  | true =>
    go_wp2_with fail
    have hT := told3 (x := .slice ua m.n l.cap) (y := .slice (some ⟨g, o, none⟩) m.n nc) (z := .slice (some ⟨ob, 0, none⟩) 2 2) v0 v1 v2
    have t0 := hT.1
    have t1 := hT.2.1
    have t2 := hT.2.2
    refine bodyPost_ret (v := .tuple #[.agg #[.slice ua m.n l.cap, .slice (some ⟨g, o, none⟩) m.n nc, .slice (some ⟨ob, 0, none⟩) 2 2], .bool true]) (by simp [results, Tryd.results33, go_sem, t0, t1, t2]) rfl ⟨(BY.trans (hall3.mono BY.size)).trans (hon.below fun j hj => by have hj' : j = w.heap.size + 1 := hj; omega), .inl ⟨rfl, ob, tb, tG, rfl, (HA2.out.step hall3).apart hVd hpos hon⟩⟩

theorem partWith_any {w : World} {B : Nat} {ua : Option Addr} {l : Lay} {m : Mx} {na : Option Addr} {g o k nc : Nat} {z : Nat → Int} {x : Int} (h : LogAt w B ua l m na g o k z) (hT : TabOk w) :
    Calls Tryd.prog 33 #[.agg #[.slice ua m.n l.cap, .slice na k nc], .int .i64 x] w (PartRes w ua l m na k nc (subV m k z x)) := by
  cases hl : logicB m k z with
  | false => exact partWith_no h hl
  | true =>
    obtain ⟨y, o', hO⟩ := (logicB_is hl).ortho
    have hkn : k = m.n := (logicB_is hl).pair.len
    subst hkn
    obtain ⟨rfl, _, _⟩ := h.row.row 0 hO.lat.order.pos
    by_cases hi : inB m.n x = true
    · obtain ⟨i1, i2⟩ : 1 ≤ x ∧ x < (2 ^ m.n : Nat) := of_decide_eq_true hi
      obtain ⟨s, rfl⟩ := Int.eq_ofNat_of_zero_le (show 0 ≤ x by omega)
      have j1 : 1 ≤ s := by omega
      have j2 : s < 2 ^ m.n := by omega
      rw [subV_is hO j1 j2]
      exact partWith_in h hO j1 j2 hT
    · exact partWith_out h hO (Bool.eq_false_iff.2 hi)

set_option maxRecDepth 100000 in
set_option maxHeartbeats 1000000 in
theorem SubOk_any {w : World} {B : Nat} {ua : Option Addr} {l : Lay} {m : Mx} {na : Option Addr} {g o k nc : Nat} {z : Nat → Int} {x : Int} (h : LogAt w B ua l m na g o k z) (hT : TabOk w) :
    Calls Tryd.prog 12 #[.agg #[.slice ua m.n l.cap, .slice na k nc], .int .i64 x] w fun e w' => e = .returned (.bool (subV m k z x)) ∧ Below w.heap.size w w' := by
  have hX := BoxN.start w #[.slice ua m.n l.cap, .slice na k nc] 26
  have q0 := hX.cell 0 rfl
  have q1 := hX.cell 1 rfl
  have bw := hX.below
  have h2 := Lib.hid (h.step bw)
  have HT := Lib.hid (hT.step bw hT.size)
  clear h hX hT
  go_enter Tryd.func12, Tryd.ntmps12
  go_wp2_with fail
  go_at_call 33
  refine (partWith_any h2.out HT.out).mono ?_
  rintro e w1 ⟨b1, (⟨hs, ob, tb, tG, rfl, hA⟩ | ⟨hs, a1, a2, a3, n1, c1, n2, c2, n3, c3, rfl⟩)⟩
  · have HF := Lib.hid hs.symm
    have B1 := (bw.trans (b1.mono bw.size)).alloc (by have := bw.size; have := b1.size; omega) (.cells #[.slice ua m.n l.cap, .slice na k nc, .slice (some ⟨ob, 0, none⟩) 2 2] 45)
    clear q0 q1 hs hA
    unfold algV
    go_wp2_with fail
    go_ret
    exact ⟨ret_bool HF.out, B1⟩
  · have HF := Lib.hid hs.symm
    have B1 := (bw.trans (b1.mono bw.size)).alloc (by have := bw.size; have := b1.size; omega) (.cells #[.slice a1 n1 c1, .slice a2 n2 c2, .slice a3 n3 c3] 45)
    clear q0 q1 hs
    go_wp2_with fail
    go_ret
    exact ⟨ret_bool HF.out, B1⟩

end Go.Proofs.YtijcacibofpnpaaDoor
