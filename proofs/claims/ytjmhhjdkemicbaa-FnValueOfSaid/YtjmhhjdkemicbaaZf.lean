/- The law of FormulaOk, walked at whatever code. -/
import Derived.Test.YtjmhhjdkemicbaaKk
import Derived.Test.YtjmhhjdkemicbaaKc
import Derived.Test.YtjmhhjdkemicbaaNa
namespace Go.Proofs.Ytjmhhjdkemicbaa
open Go.RowKit Go.Deep

theorem form_a : formB (ByteArray.mk #[97]).data.toList = true := form_mk (f := .la) (by decide)
theorem form_e : formB (ByteArray.mk #[]).data.toList = false := rfl
theorem form_neg_app {s : ByteArray} (h : s.size < 60) : formB ((ByteArray.mk #[33]) ++ s).data.toList = formB s.data.toList := by
  rw [app_data]
  exact form_neg h
theorem neg_app_size (s : ByteArray) : ((ByteArray.mk #[33]) ++ s).size = s.size + 1 := by rw [ByteArray.size_append, lit1]; omega
set_option maxRecDepth 100000 in
set_option maxHeartbeats 4000000 in
theorem law_FormulaOk {A : Option Addr} {b o n cap : Nat} {z : Nat → Nat} {w : World} (h : CodeAt w A b o n cap z) :
    Calls Try.prog 3 #[.slice A n cap] w fun e w' => e = .returned (.bool true) ∧ Below w.heap.size w w' := by
  have hn := h.hn
  have hc := h.hc
  by_cases hbig : 1048576 < n
  · have hbig' : (1048576 : Int) < n := by omega
    clear h
    go_enter Try.func3, Try.ntmps3
    go_wp2_with fail
    go_ret
    exact ⟨rfl, Below.refl _ _⟩
  · have hbig' : ¬ (1048576 : Int) < n := by omega
    go_enter Try.func3, Try.ntmps3
    go_wp2_with fail
    go_at_call 11
    refine (draw_FormulaOk h).mono ?_
    rintro e w1 ⟨s, rfl, hs60, b1⟩
    clear h
    go_wp2_with fail
    go_at_call 12
    refine (FormulaOk_any s w1 (by omega)).mono ?_
    rintro e w2 ⟨rfl, b2⟩
    have B2 := b1.trans (b2.mono b1.size)
    obtain ⟨bv, hbv⟩ : ∃ bv, formB s.data.toList = bv := ⟨_, rfl⟩
    rw [hbv]
    have HBV := Lib.hid hbv
    have hb1 : (bv != bv) = false := by cases bv <;> rfl
    have hb2 : (bv == bv) = true := by cases bv <;> rfl
    clear hbv b1 b2
    go_wp2_with fail
    go_at_call 13
    refine (spec_FormulaOk s (by omega) w2).mono ?_
    rintro e w3 ⟨rfl, rfl⟩
    rw [HBV.out]
    by_cases h60 : s.size < 60
    · have h60' : ¬ (60 : Int) ≤ s.size := by omega
      have HN := Lib.hid (form_neg_app h60)
      have hsz := neg_app_size s
      have hle : ((ByteArray.mk #[33]) ++ s).size ≤ 9223372036854775807 := by omega
      clear hsz
      go_wp2_with fail
      go_at_call 12
      refine (FormulaOk_any _ _ hle).mono ?_
      rintro e w4 ⟨rfl, b4⟩
      rw [HN.out, HBV.out]
      have B4 := B2.trans (b4.mono B2.size)
      go_wp2_with fail
      go_at_call 12
      refine (FormulaOk_any _ _ (by decide)).mono ?_
      rintro e w5 ⟨rfl, b5⟩
      rw [form_a]
      have B5 := B4.trans (b5.mono B4.size)
      go_wp2_with fail
      go_at_call 12
      refine (FormulaOk_any _ _ (by decide)).mono ?_
      rintro e w6 ⟨rfl, b6⟩
      rw [form_e]
      have B6 := B5.trans (b6.mono B5.size)
      go_wp2_with fail
      go_at_call 14
      refine (alive_any _).mono ?_
      rintro e w7 ⟨rfl, b7⟩
      have B7 := B6.trans (b7.mono B6.size)
      go_wp2_with fail
      go_ret
      exact ⟨rfl, B7⟩
    · have h60' : (60 : Int) ≤ s.size := by omega
      go_wp2_with fail
      go_at_call 12
      refine (FormulaOk_any _ _ (by decide)).mono ?_
      rintro e w5 ⟨rfl, b5⟩
      rw [form_a]
      have B5 := B2.trans (b5.mono B2.size)
      go_wp2_with fail
      go_at_call 12
      refine (FormulaOk_any _ _ (by decide)).mono ?_
      rintro e w6 ⟨rfl, b6⟩
      rw [form_e]
      have B6 := B5.trans (b6.mono B5.size)
      go_wp2_with fail
      go_at_call 14
      refine (alive_any _).mono ?_
      rintro e w7 ⟨rfl, b7⟩
      have B7 := B6.trans (b7.mono B6.size)
      go_wp2_with fail
      go_ret
      exact ⟨rfl, B7⟩
end Go.Proofs.Ytjmhhjdkemicbaa
