/- The law on AddsUpOk, walked at whatever code. -/
import Derived.Test.YtanhogaekdcooaaCj
import Derived.Test.YtanhogaekdcooaaDn
import Derived.Test.YtanhogaekdcooaaNa
namespace Go.Proofs.Ytanhogaekdcooaa
open Go.RowKit Go.Deep

theorem adds_is_mod (m : Mx) (k : Nat) (z : Nat → Int) : addsV m k z = modV m k z := by
  unfold addsV modV
  cases hl : logicB m k z with
  | false => rfl
  | true =>
    obtain ⟨y, o, hO⟩ := (logicB_is hl).ortho
    rw [hO.adds_mod]

set_option maxRecDepth 100000 in
set_option maxHeartbeats 4000000 in
theorem law_AddsUpOk {A : Option Addr} {b o n cap : Nat} {z : Nat → Nat} {w : World} (h : CodeAt w A b o n cap z) :
    Calls Try.prog 6 #[.slice A n cap] w fun e w' => e = .returned (.bool true) ∧ Below w.heap.size w w' := by
  have hn := h.hn
  have hc := h.hc
  by_cases hbig : 1048576 < n
  · have hbig' : (1048576 : Int) < n := by omega
    clear h
    go_enter Try.func6, Try.ntmps6
    go_wp2_with fail
    go_ret
    exact ⟨rfl, Below.refl _ _⟩
  · have hbig' : ¬ (1048576 : Int) < n := by omega
    go_enter Try.func6, Try.ntmps6
    go_wp2_with fail
    go_at_call 33
    refine (draw_AddsUpOk h).mono ?_
    rintro e w1 ⟨ua, l, m, na, g, o2, k, nc, zz, rfl, hF⟩
    have H1 := Held.start hF nc
    clear h hF
    have q0 := H1.box.c0
    have q1 := H1.box.c1
    go_wp2_with fail
    go_at_call 34
    refine (AddsUpOk_any H1.log).mono ?_
    rintro e w2 ⟨rfl, b2⟩
    have H2 := H1.step b2
    clear H1 q0 q1 b2
    have q0 := H2.box.c0
    have q1 := H2.box.c1
    go_wp2_with fail
    go_at_call 35
    refine (spec_AddsUpOk H2.log).mono ?_
    rintro e w3 ⟨rfl, b3⟩
    have H3 := H2.step b3
    clear H2 q0 q1 b3
    have q0 := H3.box.c0
    have q1 := H3.box.c1
    rw [adds_is_mod]
    obtain ⟨v, hv⟩ : ∃ v, modV m k zz = v := ⟨_, rfl⟩
    rw [hv]
    have HV := Lib.hid hv
    have n1 : (v == v) = true := by simp
    clear hv
    go_wp2_with fail
    go_at_call 13
    refine (ModularOk_any H3.log).mono ?_
    rintro e w4 ⟨rfl, b4⟩
    rw [HV.out]
    have H4 := H3.step b4
    clear H3 q0 q1 b4
    have q0 := H4.box.c0
    have q1 := H4.box.c1
    go_wp2_with fail
    go_at_call 23
    refine (alive_any _).mono ?_
    rintro e w5 ⟨rfl, b5⟩
    have H5 := H4.step b5
    go_wp2_with fail
    go_ret
    exact ⟨rfl, H5.old⟩
end Go.Proofs.Ytanhogaekdcooaa
