/- The law on AlwaysOk against the reference, walked at whatever logic and texts. -/
import Derived.Test.YtjmhhjdkemicbaaKj
import Derived.Deep.RegionHeld3
namespace Go.Proofs.Ytjmhhjdkemicbaa
open Go.RowKit Go.Deep

set_option maxRecDepth 100000 in
set_option maxHeartbeats 2000000 in
theorem law_ExactAlwaysOk {w : World} {ua : Option Addr} {l : Lay} {m : Mx} {na : Option Addr} {g o k nc : Nat} {z : Nat → Int} {s : ByteArray} (h : LogAt w w.heap.size ua l m na g o k z) (hws : s.size ≤ maxLen) :
    Calls Try.prog 8 #[.agg #[.slice ua m.n l.cap, .slice na k nc], .string s] w fun e w' => e = .returned (.bool true) ∧ Below w.heap.size w w' := by
  have hxs : s.size ≤ 9223372036854775807 := hws
  by_cases hbigs : 1048576 < s.size
  · have hbigs' : (1048576 : Int) < s.size := by omega
    have hX := BoxN.start w #[.slice ua m.n l.cap, .slice na k nc] 38
    have B0 := hX.below
    clear h
    go_enter Try.func8, Try.ntmps8
    go_wp2_with fail
    go_ret
    exact ⟨rfl, B0⟩
  have hbigs' : ¬ (1048576 : Int) < s.size := by omega
  go_enter Try.func8, Try.ntmps8
  have hX := BoxN.start w #[.slice ua m.n l.cap, .slice na k nc] 38
  have h0 := Lib.hid (h.alloc (.cells #[.slice ua m.n l.cap, .slice na k nc] 38))
  have q0 := hX.cell 0 rfl
  have q1 := hX.cell 1 rfl
  have B0 := hX.below
  clear h
  go_wp2_with fail
  go_at_call 23
  refine (szLogic_any h0.out).mono ?_
  rintro e w1 ⟨⟨v, rfl, hv⟩, b1⟩
  have hX1 := hX.step b1
  have h1 := Lib.hid (h0.out.step b1)
  have B1 := hX1.below
  have q2 := hX1.cell 0 rfl
  have q3 := hX1.cell 1 rfl
  clear q0 q1 hX h0 B0
  by_cases hneg : v < 0
  · go_wp2_with fail
    go_ret
    exact ⟨rfl, B1⟩
  · obtain ⟨hn, hL, hk, hv0, hv1⟩ : m.n ≤ 1048576 ∧ (∀ r, r < m.n → m.L r ≤ 1048576) ∧ k ≤ 1048576 ∧ 0 ≤ v ∧ v ≤ 1048576 := hv.resolve_left hneg
    clear hv
    have HL := Lib.hid hL
    clear hL
    go_wp2_with fail
    go_at_call 24
    refine (toLogic_any h1.out hn HL.out hk).mono ?_
    rintro e w2 ⟨N2, p2, rfl, x2, b2⟩
    have hX2 := hX1.step b2
    have h2 := Lib.hid (h1.out.step b2)
    have X2 := Lib.hid x2
    have q4 := hX2.cell 0 rfl
    have q5 := hX2.cell 1 rfl
    clear q2 q3 x2 h1 B1
    go_wp2_with fail
    go_at_call 26
    refine (spec_AlwaysOk X2.out s (by omega)).mono ?_
    rintro e w3 ⟨rfl, b3⟩
    have hX3 := hX2.step b3
    have h3 := Lib.hid (h2.out.step b3)
    have r0 := hX3.cell 0 rfl
    have r1 := hX3.cell 1 rfl
    clear q4 q5 X2 h2
    go_wp2_with fail
    go_at_call 24
    refine (toLogic_any h3.out hn HL.out hk).mono ?_
    rintro e w4 ⟨N4, p4, rfl, x4, b4⟩
    have hX4 := hX3.step b4
    have h4 := Lib.hid (h3.out.step b4)
    have X4 := Lib.hid x4
    have hY := BoxN.start w4 #[.slice (some ⟨N4, 0, none⟩) m.n m.n, .slice (some ⟨p4, 0, none⟩) k k] 30
    have hX5 := hX4.step hY.below
    have h5 := Lib.hid (h4.out.step hY.below)
    have X5 := Lib.hid (x4.step hY.below)
    have q0 := hX5.cell 0 rfl
    have q1 := hX5.cell 1 rfl
    have y0 := hY.cell 0 rfl
    have y1 := hY.cell 1 rfl
    clear r0 r1 x4 h3 h4 X4
    go_wp2_with fail
    go_at_call 27
    refine (AlwaysOk_any X5.out s hxs).mono ?_
    rintro e w6 ⟨rfl, b6⟩
    have hX6 := hX5.step b6
    have hY6 := hY.step b6
    have h6 := Lib.hid (h5.out.step b6)
    have X6 := Lib.hid (X5.out.step b6)
    have q2 := hX6.cell 0 rfl
    have q3 := hX6.cell 1 rfl
    have y2 := hY6.cell 0 rfl
    have y3 := hY6.cell 1 rfl
    clear q0 q1 y0 y1 h5 X5
    have e0 : ((alwaysV m k z s.data.toList) != (alwaysV m k z s.data.toList)) = false := by simp
    go_wp2_with fail
    clear e0
    have h6d := Lib.hid (h6.out.step (Below.refl _ w6).drew)
    have X6d := Lib.hid (X6.out.step (Below.refl _ w6).drew)
    have hX6d := hX6.step (Below.refl _ w6).drew
    have hY6d := hY6.step (Below.refl _ w6).drew
    have K6 : w6.drew.cell? ⟨w.heap.size, 0, none⟩ = some (.slice ua m.n l.cap) ∧ w6.drew.cell? ⟨w.heap.size, 1, none⟩ = some (.slice na k nc) ∧ w6.drew.cell? ⟨w4.heap.size, 0, none⟩ = some (.slice (some ⟨N4, 0, none⟩) m.n m.n) ∧ w6.drew.cell? ⟨w4.heap.size, 1, none⟩ = some (.slice (some ⟨p4, 0, none⟩) k k) := ⟨hX6d.cell 0 rfl, hX6d.cell 1 rfl, hY6d.cell 0 rfl, hY6d.cell 1 rfl⟩
    clear q2 q3 y2 y3
    go_region_held3 (fun w' => w'.cell? ⟨w.heap.size, 0, none⟩ = some (.slice ua m.n l.cap) ∧ w'.cell? ⟨w.heap.size, 1, none⟩ = some (.slice na k nc) ∧ w'.cell? ⟨w4.heap.size, 0, none⟩ = some (.slice (some ⟨N4, 0, none⟩) m.n m.n) ∧ w'.cell? ⟨w4.heap.size, 1, none⟩ = some (.slice (some ⟨p4, 0, none⟩) k k))
      (first | with_reducible exact K6 | with_reducible exact K7 | with_reducible exact K8)
      (first
        | (go_at_call 24; refine (toLogic_any h6d.out hn HL.out hk).mono ?_; rintro e w7 ⟨N7, p7, rfl, x7, b7⟩; have hX7 := hX6d.step b7; have hY7 := hY6d.step b7; have K7 : w7.cell? ⟨w.heap.size, 0, none⟩ = some (.slice ua m.n l.cap) ∧ w7.cell? ⟨w.heap.size, 1, none⟩ = some (.slice na k nc) ∧ w7.cell? ⟨w4.heap.size, 0, none⟩ = some (.slice (some ⟨N4, 0, none⟩) m.n m.n) ∧ w7.cell? ⟨w4.heap.size, 1, none⟩ = some (.slice (some ⟨p4, 0, none⟩) k k) := ⟨hX7.cell 0 rfl, hX7.cell 1 rfl, hY7.cell 0 rfl, hY7.cell 1 rfl⟩; have X7 := Lib.hid (X6d.out.step b7); have x7' := Lib.hid x7; have b7' := Lib.hid b7; clear x7 b7)
        | (go_at_call 25; refine (eqLogic_any X7.out x7'.out).mono ?_; rintro e w8 ⟨rfl, b8⟩; have hX8 := hX7.step b8; have hY8 := hY7.step b8; have K8 : w8.cell? ⟨w.heap.size, 0, none⟩ = some (.slice ua m.n l.cap) ∧ w8.cell? ⟨w.heap.size, 1, none⟩ = some (.slice na k nc) ∧ w8.cell? ⟨w4.heap.size, 0, none⟩ = some (.slice (some ⟨N4, 0, none⟩) m.n m.n) ∧ w8.cell? ⟨w4.heap.size, 1, none⟩ = some (.slice (some ⟨p4, 0, none⟩) k k) := ⟨hX8.cell 0 rfl, hX8.cell 1 rfl, hY8.cell 0 rfl, hY8.cell 1 rfl⟩; have B8 := hX8.below))
    all_goals
      go_wp2_with fail
      go_ret
      exact ⟨rfl, B8⟩
end Go.Proofs.Ytjmhhjdkemicbaa
