import Derived.Test.YtmchgclaeipoeaaZOi
import Derived.Test.YtmchgclaeipoeaaZMath
import Derived.Test.YtmchgclaeipoeaaZWv
namespace Go.Proofs.Ytmchgclaeipoeaa
open Go.RowKit Go.Deep

end Go.Proofs.Ytmchgclaeipoeaa
namespace Go.Proofs.Ytmchgclaeipoeaa
open Go.RowKit Go.Deep

end Go.Proofs.Ytmchgclaeipoeaa
namespace Go.Proofs.Ytmchgclaeipoeaa
open Go.RowKit Go.Deep

/-- The algebra of a logic lies in memory, and its rows and opposites. -/
structure AL (w : World) (B ob tb : Nat) (tG : Nat → Nat) (ua : Option Addr) (l : Lay) (m : Mx) (g o : Nat) (z : Nat → Int) (y : Nat → Nat) (n0 : Nat) : Prop where
  A : Alg w ob tb tG ua l m
  S : SqAt w B ua l m
  R : RowAt w B (some ⟨g, o, none⟩) g o m.n z
  O : Ortho m z y n0
theorem AL.step {w w' : World} {B ob tb g o n0 : Nat} {tG : Nat → Nat} {ua : Option Addr} {l : Lay} {m : Mx} {z : Nat → Int} {y : Nat → Nat} (h : AL w B ob tb tG ua l m g o z y n0) (hb : Below w.heap.size w w') : AL w' B ob tb tG ua l m g o z y n0 :=
  ⟨h.A.step hb, h.S.step hb, h.R.below (hb.mono h.S.hB), h.O⟩
theorem AL.notAt {w : World} {B ob tb g o n0 b : Nat} {tG : Nat → Nat} {ua : Option Addr} {l : Lay} {m : Mx} {z : Nat → Int} {y : Nat → Nat} (h : AL w B ob tb tG ua l m g o z y n0) (hb : b < m.n) : w.cell? ⟨g, o + b, none⟩ = some (.int .i64 ((y b : Nat) : Int)) := by
  have := (h.R.row b hb).2.2
  rw [h.O.zy b hb] at this
  exact this
theorem AL.of {w : World} {B ob tb g o n0 : Nat} {tG : Nat → Nat} {ua na : Option Addr} {l : Lay} {m : Mx} {z : Nat → Int} {y : Nat → Nat} (hA : Alg w ob tb tG ua l m) (h : LogAt w B ua l m na g o m.n z) (hO : Ortho m z y n0) :
    na = some ⟨g, o, none⟩ ∧ AL w B ob tb tG ua l m g o z y n0 := by
  have hp := hO.lat.order.pos
  obtain ⟨rfl, _, _⟩ := h.row.row 0 (by omega)
  exact ⟨rfl, hA, h.sq hO.lat.order, h.row, hO⟩
theorem meetA {w : World} {B ob tb g o nc n0 a b : Nat} {tG : Nat → Nat} {ua : Option Addr} {l : Lay} {m : Mx} {z : Nat → Int} {y : Nat → Nat} (h : AL w B ob tb tG ua l m g o z y n0) (ha : a < m.n) (hb : b < m.n) :
    Calls Try.prog 29 #[.agg #[.slice ua m.n l.cap, .slice (some ⟨g, o, none⟩) m.n nc, .slice (some ⟨ob, 0, none⟩) 2 2], .int .i64 0, .int .i64 a, .int .i64 b] w fun e w' => e = .returned (.int .i64 ((mN m a b : Nat) : Int)) ∧ Below w.heap.size w w' := by
  have e := made_meet (na := some ⟨g, o, none⟩) (k := m.n) (nc := nc) h.A h.S ha hb
  unfold algV at e
  rw [h.O.mI ha hb] at e
  exact e
theorem joinA {w : World} {B ob tb g o nc n0 a b : Nat} {tG : Nat → Nat} {ua : Option Addr} {l : Lay} {m : Mx} {z : Nat → Int} {y : Nat → Nat} (h : AL w B ob tb tG ua l m g o z y n0) (ha : a < m.n) (hb : b < m.n) :
    Calls Try.prog 29 #[.agg #[.slice ua m.n l.cap, .slice (some ⟨g, o, none⟩) m.n nc, .slice (some ⟨ob, 0, none⟩) 2 2], .int .i64 1, .int .i64 a, .int .i64 b] w fun e w' => e = .returned (.int .i64 ((jN m a b : Nat) : Int)) ∧ Below w.heap.size w w' := by
  have e := made_join (na := some ⟨g, o, none⟩) (k := m.n) (nc := nc) h.A h.S ha hb
  unfold algV at e
  rw [h.O.jI ha hb] at e
  exact e
theorem AL.mlt {w : World} {B ob tb g o n0 a b : Nat} {tG : Nat → Nat} {ua : Option Addr} {l : Lay} {m : Mx} {z : Nat → Int} {y : Nat → Nat} (h : AL w B ob tb tG ua l m g o z y n0) (ha : a < m.n) (hb : b < m.n) : mN m a b < m.n := (h.O.mG ha hb).lt
theorem AL.jlt {w : World} {B ob tb g o n0 a b : Nat} {tG : Nat → Nat} {ua : Option Addr} {l : Lay} {m : Mx} {z : Nat → Int} {y : Nat → Nat} (h : AL w B ob tb tG ua l m g o z y n0) (ha : a < m.n) (hb : b < m.n) : jN m a b < m.n := (h.O.jG ha hb).lt
def three (a b c : Int) : Nat → Int := fun i => if i = 0 then a else if i = 1 then b else c
set_option maxRecDepth 100000 in
set_option maxHeartbeats 2000000 in
theorem splits_any {w : World} {B ob tb g o nc n0 a b d : Nat} {tG : Nat → Nat} {ua : Option Addr} {l : Lay} {m : Mx} {z : Nat → Int} {y : Nat → Nat} (h : AL w B ob tb tG ua l m g o z y n0) (ha : a < m.n) (hb : b < m.n) (hd : d < m.n) :
    Calls Try.prog 31 #[.agg #[.slice ua m.n l.cap, .slice (some ⟨g, o, none⟩) m.n nc, .slice (some ⟨ob, 0, none⟩) 2 2], .int .i64 a, .int .i64 b, .int .i64 d] w fun e w' => e = .returned (.bool (splitB m a b d)) ∧ Below w.heap.size w w' := by
  have hY := BoxN.start w #[.slice ua m.n l.cap, .slice (some ⟨g, o, none⟩) m.n nc, .slice (some ⟨ob, 0, none⟩) 2 2] 42
  have hL := Lib.hid (h.step hY.below)
  have hm1 := h.mlt ha hb
  have hm2 := h.mlt ha hd
  have hj := h.jlt hb hd
  clear h
  go_enter Try.func31, Try.ntmps31
  go_wp2_with fail
  generalize w.alloc (.cells #[.slice ua m.n l.cap, .slice (some ⟨g, o, none⟩) m.n nc, .slice (some ⟨ob, 0, none⟩) 2 2] 42) = W at hY hL ⊢
  have hY0 := hY.step (Below.refl _ W).drew
  have hL0 := Lib.hid (hL.out.step (Below.refl _ W).drew)
  have hS0 : (fun w' => ((w'.cell? ⟨w.heap.size, 0, none⟩ = some (.slice ua m.n l.cap) ∧ w'.cell? ⟨w.heap.size, 1, none⟩ = some (.slice (some ⟨g, o, none⟩) m.n nc)) ∧ w'.cell? ⟨w.heap.size, 2, none⟩ = some (.slice (some ⟨ob, 0, none⟩) 2 2))) W.drew := ⟨⟨hY0.cell 0 rfl, hY0.cell 1 rfl⟩, hY0.cell 2 rfl⟩
  clear hY hL
  refine region_plain (fuel := 8) (listed := #[false, false, false, false, false, false, false, false]) (fun w' => ((w'.cell? ⟨w.heap.size, 0, none⟩ = some (.slice ua m.n l.cap) ∧ w'.cell? ⟨w.heap.size, 1, none⟩ = some (.slice (some ⟨g, o, none⟩) m.n nc)) ∧ w'.cell? ⟨w.heap.size, 2, none⟩ = some (.slice (some ⟨ob, 0, none⟩) 2 2))) (by kernel_rfl) (by kernel_rfl) (by kernel_rfl) ?_
  refine hold_take (i := 0) (d := 10) (v := ?va0) (listed' := #[true, false, false, false, false, false, false, false]) rfl (by kernel_rfl) (by kernel_rfl) (by kernel_rfl) rfl (by rfl) (by kernel_rfl) hS0 ?ha0 ?ra0
  case ha0 =>
    intro w' hSw
    obtain ⟨⟨k0, k1⟩, k2⟩ := hSw
    go_simp
    try with_reducible rfl
  simp only [List.setIfInBounds_toArray, List.set_cons_zero, List.set_cons_succ]
  refine hold_take (i := 1) (d := 11) (v := ?va1) (listed' := #[true, true, false, false, false, false, false, false]) rfl (by kernel_rfl) (by kernel_rfl) (by kernel_rfl) rfl (by rfl) (by kernel_rfl) hS0 ?ha1 ?ra1
  case ha1 =>
    intro w' hSw
    obtain ⟨⟨k0, k1⟩, k2⟩ := hSw
    go_simp
    try with_reducible rfl
  simp only [List.setIfInBounds_toArray, List.set_cons_zero, List.set_cons_succ]
  refine hold_take (i := 2) (d := 12) (v := ?va2) (listed' := #[true, true, true, false, false, false, false, false]) rfl (by kernel_rfl) (by kernel_rfl) (by kernel_rfl) rfl (by rfl) (by kernel_rfl) hS0 ?ha2 ?ra2
  case ha2 =>
    intro w' hSw
    obtain ⟨⟨k0, k1⟩, k2⟩ := hSw
    go_simp
    try with_reducible rfl
  simp only [List.setIfInBounds_toArray, List.set_cons_zero, List.set_cons_succ]
  refine hold_take (i := 3) (d := 13) (v := ?va3) (listed' := #[true, true, true, true, false, false, false, false]) rfl (by kernel_rfl) (by kernel_rfl) (by kernel_rfl) rfl (by rfl) (by kernel_rfl) hS0 ?ha3 ?ra3
  case ha3 =>
    intro w' hSw
    obtain ⟨⟨k0, k1⟩, k2⟩ := hSw
    go_simp
    try with_reducible rfl
  simp only [List.setIfInBounds_toArray, List.set_cons_zero, List.set_cons_succ]
  refine hold_take (i := 4) (d := 14) (v := ?va4) (listed' := #[true, true, true, true, true, false, false, false]) rfl (by kernel_rfl) (by kernel_rfl) (by kernel_rfl) rfl (by rfl) (by kernel_rfl) hS0 ?ha4 ?ra4
  case ha4 =>
    intro w' hSw
    obtain ⟨⟨k0, k1⟩, k2⟩ := hSw
    go_simp
    try with_reducible rfl
  simp only [List.setIfInBounds_toArray, List.set_cons_zero, List.set_cons_succ]
  refine hold_call (i := 5) (d := 15) (listed' := #[true, true, true, true, true, true, false, false]) rfl (by kernel_rfl) rfl (by rfl) (by kernel_rfl) ?hea5 (joinA (nc := nc) hL0.out hb hd) ?hca5
  case hea5 => go_simp
  rintro e x1 ⟨rfl, bb1⟩
  have hY1 := hY0.step bb1
  have hL1 := Lib.hid (hL0.out.step bb1)
  have hS1 : (fun w' => ((w'.cell? ⟨w.heap.size, 0, none⟩ = some (.slice ua m.n l.cap) ∧ w'.cell? ⟨w.heap.size, 1, none⟩ = some (.slice (some ⟨g, o, none⟩) m.n nc)) ∧ w'.cell? ⟨w.heap.size, 2, none⟩ = some (.slice (some ⟨ob, 0, none⟩) 2 2))) x1 := ⟨⟨hY1.cell 0 rfl, hY1.cell 1 rfl⟩, hY1.cell 2 rfl⟩
  clear hS0 hL0 hY0 bb1
  refine ⟨_, rfl, hS1, ?_⟩
  simp only [List.setIfInBounds_toArray, List.set_cons_zero, List.set_cons_succ]
  refine hold_call (i := 6) (d := 16) (listed' := #[true, true, true, true, true, true, true, false]) rfl (by kernel_rfl) rfl (by rfl) (by kernel_rfl) ?hea6 (meetA (nc := nc) hL1.out ha hj) ?hca6
  case hea6 => go_simp
  rintro e x2 ⟨rfl, bb2⟩
  have hY2 := hY1.step bb2
  have hL2 := Lib.hid (hL1.out.step bb2)
  have hS2 : (fun w' => ((w'.cell? ⟨w.heap.size, 0, none⟩ = some (.slice ua m.n l.cap) ∧ w'.cell? ⟨w.heap.size, 1, none⟩ = some (.slice (some ⟨g, o, none⟩) m.n nc)) ∧ w'.cell? ⟨w.heap.size, 2, none⟩ = some (.slice (some ⟨ob, 0, none⟩) 2 2))) x2 := ⟨⟨hY2.cell 0 rfl, hY2.cell 1 rfl⟩, hY2.cell 2 rfl⟩
  clear hS1 hL1 hY1 bb2
  refine ⟨_, rfl, hS2, ?_⟩
  simp only [List.setIfInBounds_toArray, List.set_cons_zero, List.set_cons_succ]
  refine hold_take (i := 7) (d := 9) (v := ?va7) (listed' := #[true, true, true, true, true, true, true, true]) rfl (by kernel_rfl) (by kernel_rfl) (by kernel_rfl) rfl (by rfl) (by kernel_rfl) hS2 ?ha7 ?ra7
  case ha7 =>
    intro w' hSw
    obtain ⟨⟨k0, k1⟩, k2⟩ := hSw
    go_simp
    try with_reducible rfl
  simp only [List.setIfInBounds_toArray, List.set_cons_zero, List.set_cons_succ]
  refine hold_done (by kernel_rfl) ?_ _
  go_wp2_with fail
  have hY3 := hY2.step (Below.refl _ x2).drew
  have hL3 := Lib.hid (hL2.out.step (Below.refl _ x2).drew)
  have hS3 : (fun w' => ((w'.cell? ⟨w.heap.size, 0, none⟩ = some (.slice ua m.n l.cap) ∧ w'.cell? ⟨w.heap.size, 1, none⟩ = some (.slice (some ⟨g, o, none⟩) m.n nc)) ∧ w'.cell? ⟨w.heap.size, 2, none⟩ = some (.slice (some ⟨ob, 0, none⟩) 2 2))) x2.drew := ⟨⟨hY3.cell 0 rfl, hY3.cell 1 rfl⟩, hY3.cell 2 rfl⟩
  clear hS2 hY2 hL2
  cases hk : splitB m a b d with
  | true =>
    have n1 : (((mN m a (jN m b d) : Nat) : Int) == ((jN m (mN m a b) (mN m a d) : Nat) : Int)) = true := by have := of_decide_eq_true hk; rw [this]; simp
    have HK := Lib.hid hk
    clear hk
    refine region_plain (fuel := 13) (listed := #[false, false, false, false, false, false, false, false, false, false, false, false, false]) (fun w' => ((w'.cell? ⟨w.heap.size, 0, none⟩ = some (.slice ua m.n l.cap) ∧ w'.cell? ⟨w.heap.size, 1, none⟩ = some (.slice (some ⟨g, o, none⟩) m.n nc)) ∧ w'.cell? ⟨w.heap.size, 2, none⟩ = some (.slice (some ⟨ob, 0, none⟩) 2 2))) (by kernel_rfl) (by kernel_rfl) (by kernel_rfl) ?_
    refine hold_take (i := 0) (d := 17) (v := ?vbt0) (listed' := #[true, false, false, false, false, false, false, false, false, false, false, false, false]) rfl (by kernel_rfl) (by kernel_rfl) (by kernel_rfl) rfl (by rfl) (by kernel_rfl) hS3 ?hbt0 ?rbt0
    case hbt0 =>
      intro w' hSw
      obtain ⟨⟨k0, k1⟩, k2⟩ := hSw
      go_simp
      try with_reducible rfl
    simp only [List.setIfInBounds_toArray, List.set_cons_zero, List.set_cons_succ]
    refine hold_take (i := 1) (d := 18) (v := ?vbt1) (listed' := #[true, true, false, false, false, false, false, false, false, false, false, false, false]) rfl (by kernel_rfl) (by kernel_rfl) (by kernel_rfl) rfl (by rfl) (by kernel_rfl) hS3 ?hbt1 ?rbt1
    case hbt1 =>
      intro w' hSw
      obtain ⟨⟨k0, k1⟩, k2⟩ := hSw
      go_simp
      try with_reducible rfl
    simp only [List.setIfInBounds_toArray, List.set_cons_zero, List.set_cons_succ]
    refine hold_take (i := 2) (d := 19) (v := ?vbt2) (listed' := #[true, true, true, false, false, false, false, false, false, false, false, false, false]) rfl (by kernel_rfl) (by kernel_rfl) (by kernel_rfl) rfl (by rfl) (by kernel_rfl) hS3 ?hbt2 ?rbt2
    case hbt2 =>
      intro w' hSw
      obtain ⟨⟨k0, k1⟩, k2⟩ := hSw
      go_simp
      try with_reducible rfl
    simp only [List.setIfInBounds_toArray, List.set_cons_zero, List.set_cons_succ]
    refine hold_take (i := 3) (d := 20) (v := ?vbt3) (listed' := #[true, true, true, true, false, false, false, false, false, false, false, false, false]) rfl (by kernel_rfl) (by kernel_rfl) (by kernel_rfl) rfl (by rfl) (by kernel_rfl) hS3 ?hbt3 ?rbt3
    case hbt3 =>
      intro w' hSw
      obtain ⟨⟨k0, k1⟩, k2⟩ := hSw
      go_simp
      try with_reducible rfl
    simp only [List.setIfInBounds_toArray, List.set_cons_zero, List.set_cons_succ]
    refine hold_take (i := 4) (d := 21) (v := ?vbt4) (listed' := #[true, true, true, true, true, false, false, false, false, false, false, false, false]) rfl (by kernel_rfl) (by kernel_rfl) (by kernel_rfl) rfl (by rfl) (by kernel_rfl) hS3 ?hbt4 ?rbt4
    case hbt4 =>
      intro w' hSw
      obtain ⟨⟨k0, k1⟩, k2⟩ := hSw
      go_simp
      try with_reducible rfl
    simp only [List.setIfInBounds_toArray, List.set_cons_zero, List.set_cons_succ]
    refine hold_take (i := 6) (d := 23) (v := ?vbt6) (listed' := #[true, true, true, true, true, false, true, false, false, false, false, false, false]) rfl (by kernel_rfl) (by kernel_rfl) (by kernel_rfl) rfl (by rfl) (by kernel_rfl) hS3 ?hbt6 ?rbt6
    case hbt6 =>
      intro w' hSw
      obtain ⟨⟨k0, k1⟩, k2⟩ := hSw
      go_simp
      try with_reducible rfl
    simp only [List.setIfInBounds_toArray, List.set_cons_zero, List.set_cons_succ]
    refine hold_take (i := 7) (d := 24) (v := ?vbt7) (listed' := #[true, true, true, true, true, false, true, true, false, false, false, false, false]) rfl (by kernel_rfl) (by kernel_rfl) (by kernel_rfl) rfl (by rfl) (by kernel_rfl) hS3 ?hbt7 ?rbt7
    case hbt7 =>
      intro w' hSw
      obtain ⟨⟨k0, k1⟩, k2⟩ := hSw
      go_simp
      try with_reducible rfl
    simp only [List.setIfInBounds_toArray, List.set_cons_zero, List.set_cons_succ]
    refine hold_take (i := 8) (d := 25) (v := ?vbt8) (listed' := #[true, true, true, true, true, false, true, true, true, false, false, false, false]) rfl (by kernel_rfl) (by kernel_rfl) (by kernel_rfl) rfl (by rfl) (by kernel_rfl) hS3 ?hbt8 ?rbt8
    case hbt8 =>
      intro w' hSw
      obtain ⟨⟨k0, k1⟩, k2⟩ := hSw
      go_simp
      try with_reducible rfl
    simp only [List.setIfInBounds_toArray, List.set_cons_zero, List.set_cons_succ]
    refine hold_call (i := 5) (d := 22) (listed' := #[true, true, true, true, true, true, true, true, true, false, false, false, false]) rfl (by kernel_rfl) rfl (by rfl) (by kernel_rfl) ?hebt5 (meetA (nc := nc) hL3.out ha hb) ?hcbt5
    case hebt5 => go_simp
    rintro e x4 ⟨rfl, bb4⟩
    have hY4 := hY3.step bb4
    have hL4 := Lib.hid (hL3.out.step bb4)
    have hS4 : (fun w' => ((w'.cell? ⟨w.heap.size, 0, none⟩ = some (.slice ua m.n l.cap) ∧ w'.cell? ⟨w.heap.size, 1, none⟩ = some (.slice (some ⟨g, o, none⟩) m.n nc)) ∧ w'.cell? ⟨w.heap.size, 2, none⟩ = some (.slice (some ⟨ob, 0, none⟩) 2 2))) x4 := ⟨⟨hY4.cell 0 rfl, hY4.cell 1 rfl⟩, hY4.cell 2 rfl⟩
    clear hS3 hL3 hY3 bb4
    refine ⟨_, rfl, hS4, ?_⟩
    simp only [List.setIfInBounds_toArray, List.set_cons_zero, List.set_cons_succ]
    refine hold_call (i := 9) (d := 26) (listed' := #[true, true, true, true, true, true, true, true, true, true, false, false, false]) rfl (by kernel_rfl) rfl (by rfl) (by kernel_rfl) ?hebt9 (meetA (nc := nc) hL4.out ha hd) ?hcbt9
    case hebt9 => go_simp
    rintro e x5 ⟨rfl, bb5⟩
    have hY5 := hY4.step bb5
    have hL5 := Lib.hid (hL4.out.step bb5)
    have hS5 : (fun w' => ((w'.cell? ⟨w.heap.size, 0, none⟩ = some (.slice ua m.n l.cap) ∧ w'.cell? ⟨w.heap.size, 1, none⟩ = some (.slice (some ⟨g, o, none⟩) m.n nc)) ∧ w'.cell? ⟨w.heap.size, 2, none⟩ = some (.slice (some ⟨ob, 0, none⟩) 2 2))) x5 := ⟨⟨hY5.cell 0 rfl, hY5.cell 1 rfl⟩, hY5.cell 2 rfl⟩
    clear hS4 hL4 hY4 bb5
    refine ⟨_, rfl, hS5, ?_⟩
    simp only [List.setIfInBounds_toArray, List.set_cons_zero, List.set_cons_succ]
    refine hold_call (i := 10) (d := 27) (listed' := #[true, true, true, true, true, true, true, true, true, true, true, false, false]) rfl (by kernel_rfl) rfl (by rfl) (by kernel_rfl) ?hebt10 (joinA (nc := nc) hL5.out hm1 hm2) ?hcbt10
    case hebt10 => go_simp
    rintro e x6 ⟨rfl, bb6⟩
    have hY6 := hY5.step bb6
    have hL6 := Lib.hid (hL5.out.step bb6)
    have hS6 : (fun w' => ((w'.cell? ⟨w.heap.size, 0, none⟩ = some (.slice ua m.n l.cap) ∧ w'.cell? ⟨w.heap.size, 1, none⟩ = some (.slice (some ⟨g, o, none⟩) m.n nc)) ∧ w'.cell? ⟨w.heap.size, 2, none⟩ = some (.slice (some ⟨ob, 0, none⟩) 2 2))) x6 := ⟨⟨hY6.cell 0 rfl, hY6.cell 1 rfl⟩, hY6.cell 2 rfl⟩
    clear hS5 hL5 hY5 bb6
    refine ⟨_, rfl, hS6, ?_⟩
    simp only [List.setIfInBounds_toArray, List.set_cons_zero, List.set_cons_succ]
    refine hold_take (i := 11) (d := 28) (v := ?vbt11) (listed' := #[true, true, true, true, true, true, true, true, true, true, true, true, false]) rfl (by kernel_rfl) (by kernel_rfl) (by kernel_rfl) rfl (by rfl) (by kernel_rfl) hS6 ?hbt11 ?rbt11
    case hbt11 =>
      intro w' hSw
      obtain ⟨⟨k0, k1⟩, k2⟩ := hSw
      go_simp
      try with_reducible rfl
    simp only [List.setIfInBounds_toArray, List.set_cons_zero, List.set_cons_succ]
    refine hold_take (i := 12) (d := 8) (v := ?vbt12) (listed' := #[true, true, true, true, true, true, true, true, true, true, true, true, true]) rfl (by kernel_rfl) (by kernel_rfl) (by kernel_rfl) rfl (by rfl) (by kernel_rfl) hS6 ?hbt12 ?rbt12
    case hbt12 =>
      intro w' hSw
      obtain ⟨⟨k0, k1⟩, k2⟩ := hSw
      go_simp
      try with_reducible rfl
    simp only [List.setIfInBounds_toArray, List.set_cons_zero, List.set_cons_succ]
    refine hold_done (by kernel_rfl) ?_ _
    go_wp2_with fail
    go_ret
    exact ⟨ret_bool HK.out.symm, hY6.below⟩
  | false =>
    have n1 : (((mN m a (jN m b d) : Nat) : Int) == ((jN m (mN m a b) (mN m a d) : Nat) : Int)) = false := by have := of_decide_eq_false hk; rw [beq_eq_false_iff_ne]; omega
    have HK := Lib.hid hk
    clear hk
    refine region_plain (fuel := 13) (listed := #[false, false, false, false, false, false, false, false, false, false, false, false, false]) (fun w' => ((w'.cell? ⟨w.heap.size, 0, none⟩ = some (.slice ua m.n l.cap) ∧ w'.cell? ⟨w.heap.size, 1, none⟩ = some (.slice (some ⟨g, o, none⟩) m.n nc)) ∧ w'.cell? ⟨w.heap.size, 2, none⟩ = some (.slice (some ⟨ob, 0, none⟩) 2 2))) (by kernel_rfl) (by kernel_rfl) (by kernel_rfl) ?_
    refine hold_take (i := 0) (d := 17) (v := ?vbf0) (listed' := #[true, false, false, false, false, false, false, false, false, false, false, false, false]) rfl (by kernel_rfl) (by kernel_rfl) (by kernel_rfl) rfl (by rfl) (by kernel_rfl) hS3 ?hbf0 ?rbf0
    case hbf0 =>
      intro w' hSw
      obtain ⟨⟨k0, k1⟩, k2⟩ := hSw
      go_simp
      try with_reducible rfl
    simp only [List.setIfInBounds_toArray, List.set_cons_zero, List.set_cons_succ]
    refine hold_take (i := 1) (d := 18) (v := ?vbf1) (listed' := #[true, true, false, false, false, false, false, false, false, false, false, false, false]) rfl (by kernel_rfl) (by kernel_rfl) (by kernel_rfl) rfl (by rfl) (by kernel_rfl) hS3 ?hbf1 ?rbf1
    case hbf1 =>
      intro w' hSw
      obtain ⟨⟨k0, k1⟩, k2⟩ := hSw
      go_simp
      try with_reducible rfl
    simp only [List.setIfInBounds_toArray, List.set_cons_zero, List.set_cons_succ]
    refine hold_take (i := 2) (d := 19) (v := ?vbf2) (listed' := #[true, true, true, false, false, false, false, false, false, false, false, false, false]) rfl (by kernel_rfl) (by kernel_rfl) (by kernel_rfl) rfl (by rfl) (by kernel_rfl) hS3 ?hbf2 ?rbf2
    case hbf2 =>
      intro w' hSw
      obtain ⟨⟨k0, k1⟩, k2⟩ := hSw
      go_simp
      try with_reducible rfl
    simp only [List.setIfInBounds_toArray, List.set_cons_zero, List.set_cons_succ]
    refine hold_take (i := 3) (d := 20) (v := ?vbf3) (listed' := #[true, true, true, true, false, false, false, false, false, false, false, false, false]) rfl (by kernel_rfl) (by kernel_rfl) (by kernel_rfl) rfl (by rfl) (by kernel_rfl) hS3 ?hbf3 ?rbf3
    case hbf3 =>
      intro w' hSw
      obtain ⟨⟨k0, k1⟩, k2⟩ := hSw
      go_simp
      try with_reducible rfl
    simp only [List.setIfInBounds_toArray, List.set_cons_zero, List.set_cons_succ]
    refine hold_take (i := 4) (d := 21) (v := ?vbf4) (listed' := #[true, true, true, true, true, false, false, false, false, false, false, false, false]) rfl (by kernel_rfl) (by kernel_rfl) (by kernel_rfl) rfl (by rfl) (by kernel_rfl) hS3 ?hbf4 ?rbf4
    case hbf4 =>
      intro w' hSw
      obtain ⟨⟨k0, k1⟩, k2⟩ := hSw
      go_simp
      try with_reducible rfl
    simp only [List.setIfInBounds_toArray, List.set_cons_zero, List.set_cons_succ]
    refine hold_take (i := 6) (d := 23) (v := ?vbf6) (listed' := #[true, true, true, true, true, false, true, false, false, false, false, false, false]) rfl (by kernel_rfl) (by kernel_rfl) (by kernel_rfl) rfl (by rfl) (by kernel_rfl) hS3 ?hbf6 ?rbf6
    case hbf6 =>
      intro w' hSw
      obtain ⟨⟨k0, k1⟩, k2⟩ := hSw
      go_simp
      try with_reducible rfl
    simp only [List.setIfInBounds_toArray, List.set_cons_zero, List.set_cons_succ]
    refine hold_take (i := 7) (d := 24) (v := ?vbf7) (listed' := #[true, true, true, true, true, false, true, true, false, false, false, false, false]) rfl (by kernel_rfl) (by kernel_rfl) (by kernel_rfl) rfl (by rfl) (by kernel_rfl) hS3 ?hbf7 ?rbf7
    case hbf7 =>
      intro w' hSw
      obtain ⟨⟨k0, k1⟩, k2⟩ := hSw
      go_simp
      try with_reducible rfl
    simp only [List.setIfInBounds_toArray, List.set_cons_zero, List.set_cons_succ]
    refine hold_take (i := 8) (d := 25) (v := ?vbf8) (listed' := #[true, true, true, true, true, false, true, true, true, false, false, false, false]) rfl (by kernel_rfl) (by kernel_rfl) (by kernel_rfl) rfl (by rfl) (by kernel_rfl) hS3 ?hbf8 ?rbf8
    case hbf8 =>
      intro w' hSw
      obtain ⟨⟨k0, k1⟩, k2⟩ := hSw
      go_simp
      try with_reducible rfl
    simp only [List.setIfInBounds_toArray, List.set_cons_zero, List.set_cons_succ]
    refine hold_call (i := 5) (d := 22) (listed' := #[true, true, true, true, true, true, true, true, true, false, false, false, false]) rfl (by kernel_rfl) rfl (by rfl) (by kernel_rfl) ?hebf5 (meetA (nc := nc) hL3.out ha hb) ?hcbf5
    case hebf5 => go_simp
    rintro e x4 ⟨rfl, bb4⟩
    have hY4 := hY3.step bb4
    have hL4 := Lib.hid (hL3.out.step bb4)
    have hS4 : (fun w' => ((w'.cell? ⟨w.heap.size, 0, none⟩ = some (.slice ua m.n l.cap) ∧ w'.cell? ⟨w.heap.size, 1, none⟩ = some (.slice (some ⟨g, o, none⟩) m.n nc)) ∧ w'.cell? ⟨w.heap.size, 2, none⟩ = some (.slice (some ⟨ob, 0, none⟩) 2 2))) x4 := ⟨⟨hY4.cell 0 rfl, hY4.cell 1 rfl⟩, hY4.cell 2 rfl⟩
    clear hS3 hL3 hY3 bb4
    refine ⟨_, rfl, hS4, ?_⟩
    simp only [List.setIfInBounds_toArray, List.set_cons_zero, List.set_cons_succ]
    refine hold_call (i := 9) (d := 26) (listed' := #[true, true, true, true, true, true, true, true, true, true, false, false, false]) rfl (by kernel_rfl) rfl (by rfl) (by kernel_rfl) ?hebf9 (meetA (nc := nc) hL4.out ha hd) ?hcbf9
    case hebf9 => go_simp
    rintro e x5 ⟨rfl, bb5⟩
    have hY5 := hY4.step bb5
    have hL5 := Lib.hid (hL4.out.step bb5)
    have hS5 : (fun w' => ((w'.cell? ⟨w.heap.size, 0, none⟩ = some (.slice ua m.n l.cap) ∧ w'.cell? ⟨w.heap.size, 1, none⟩ = some (.slice (some ⟨g, o, none⟩) m.n nc)) ∧ w'.cell? ⟨w.heap.size, 2, none⟩ = some (.slice (some ⟨ob, 0, none⟩) 2 2))) x5 := ⟨⟨hY5.cell 0 rfl, hY5.cell 1 rfl⟩, hY5.cell 2 rfl⟩
    clear hS4 hL4 hY4 bb5
    refine ⟨_, rfl, hS5, ?_⟩
    simp only [List.setIfInBounds_toArray, List.set_cons_zero, List.set_cons_succ]
    refine hold_call (i := 10) (d := 27) (listed' := #[true, true, true, true, true, true, true, true, true, true, true, false, false]) rfl (by kernel_rfl) rfl (by rfl) (by kernel_rfl) ?hebf10 (joinA (nc := nc) hL5.out hm1 hm2) ?hcbf10
    case hebf10 => go_simp
    rintro e x6 ⟨rfl, bb6⟩
    have hY6 := hY5.step bb6
    have hL6 := Lib.hid (hL5.out.step bb6)
    have hS6 : (fun w' => ((w'.cell? ⟨w.heap.size, 0, none⟩ = some (.slice ua m.n l.cap) ∧ w'.cell? ⟨w.heap.size, 1, none⟩ = some (.slice (some ⟨g, o, none⟩) m.n nc)) ∧ w'.cell? ⟨w.heap.size, 2, none⟩ = some (.slice (some ⟨ob, 0, none⟩) 2 2))) x6 := ⟨⟨hY6.cell 0 rfl, hY6.cell 1 rfl⟩, hY6.cell 2 rfl⟩
    clear hS5 hL5 hY5 bb6
    refine ⟨_, rfl, hS6, ?_⟩
    simp only [List.setIfInBounds_toArray, List.set_cons_zero, List.set_cons_succ]
    refine hold_take (i := 11) (d := 28) (v := ?vbf11) (listed' := #[true, true, true, true, true, true, true, true, true, true, true, true, false]) rfl (by kernel_rfl) (by kernel_rfl) (by kernel_rfl) rfl (by rfl) (by kernel_rfl) hS6 ?hbf11 ?rbf11
    case hbf11 =>
      intro w' hSw
      obtain ⟨⟨k0, k1⟩, k2⟩ := hSw
      go_simp
      try with_reducible rfl
    simp only [List.setIfInBounds_toArray, List.set_cons_zero, List.set_cons_succ]
    refine hold_take (i := 12) (d := 8) (v := ?vbf12) (listed' := #[true, true, true, true, true, true, true, true, true, true, true, true, true]) rfl (by kernel_rfl) (by kernel_rfl) (by kernel_rfl) rfl (by rfl) (by kernel_rfl) hS6 ?hbf12 ?rbf12
    case hbf12 =>
      intro w' hSw
      obtain ⟨⟨k0, k1⟩, k2⟩ := hSw
      go_simp
      try with_reducible rfl
    simp only [List.setIfInBounds_toArray, List.set_cons_zero, List.set_cons_succ]
    refine hold_done (by kernel_rfl) ?_ _
    go_wp2_with fail
    go_ret
    exact ⟨ret_bool HK.out.symm, hY6.below⟩

end Go.Proofs.Ytmchgclaeipoeaa
namespace Go.Proofs.Ytmchgclaeipoeaa
open Go.RowKit Go.Deep

end Go.Proofs.Ytmchgclaeipoeaa
