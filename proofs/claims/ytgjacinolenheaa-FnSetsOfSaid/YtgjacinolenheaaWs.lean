/- The walk of the reference's LatticeOk. -/
import Derived.Test.YtgjacinolenheaaWo
namespace Go.Proofs.Ytgjacinolenheaa
open Go.RowKit Go.Deep

theorem MJ_of {m : Mx} {a b : Nat} (h1 : ¬ meetI m a b < 0) (h2 : ¬ meetI (tr m) a b < 0) : MJ m a b := ⟨hasI_yes (by omega), hasI_yes (by omega)⟩

set_option maxRecDepth 100000 in
set_option maxHeartbeats 1000000 in
theorem spec_LatticeOk {B : Nat} {sa : Option Addr} {l : Lay} {m : Mx} {w : World} (hn : m.n ≤ 9223372036854775807) (hL : ∀ r, r < m.n → m.L r ≤ 9223372036854775807) (h : MatAt w B sa l m) :
    Calls Try.prog 63 #[.slice sa m.n l.cap] w fun e w' => e = .returned (.bool (latticeB m)) ∧ w = w' := by
  have HL := Lib.hid hL
  clear hL
  cases ho : orderB m with
  | false =>
    have HR : Hid (false = latticeB m) := (latticeB_false fun h => orderB_not ho h.order).symm
    have HO := Lib.hid ho
    clear ho
    go_enter Try.func63, Try.ntmps63
    go_wp2_with fail
    go_loop [3] (fun i => i = .int .i64 0) (fun _ => 0)
    case atStart => exact rfl
    case round =>
      obtain rfl := hrel
      by_cases h0 : 0 < m.n
      · have h0' : (0 : Int) < m.n := by omega
        go_wp2_with fail
        go_at_call 98
        refine (spec_OrderOk B sa l m _ hn HL.out h).mono ?_
        rintro e w1 ⟨rfl, rfl⟩
        rw [HO.out]
        go_wp2_with fail
        go_at_call 98
        refine (spec_OrderOk B sa l m _ hn HL.out h).mono ?_
        rintro e w1 ⟨rfl, rfl⟩
        rw [HO.out]
        go_wp2_with fail
        go_ret
        exact ⟨ret_bool HR.out, rfl⟩
      · have h0' : ¬ (0 : Int) < m.n := by omega
        go_wp2_with fail
        go_at_call 98
        refine (spec_OrderOk B sa l m _ hn HL.out h).mono ?_
        rintro e w1 ⟨rfl, rfl⟩
        rw [HO.out]
        go_wp2_with fail
        go_ret
        exact ⟨ret_bool HR.out, rfl⟩
  | true =>
    have hord := orderB_is ho
    have hhi := hord.top
    have HORD := Lib.hid hord
    have HO := Lib.hid ho
    clear ho hord
    go_enter Try.func63, Try.ntmps63
    go_wp2_with fail
    go_loop [3] (fun i => ∃ k : Nat, k ≤ m.n ∧ i = .int .i64 k ∧ Hid (∀ a, a < k → ∀ b, b < a → MJ m a b)) (fun i => m.n - (intOf i).toNat)
    case atStart => exact ⟨0, Nat.zero_le _, rfl, fun r hr => absurd hr (Nat.not_lt_zero _)⟩
    case round =>
      obtain ⟨k, hk, rfl, hR⟩ := hrel
      by_cases hlt : k < m.n
      · have hlt' : (k : Int) < m.n := by omega
        go_wp2_with fail
        go_at_call 98
        refine (spec_OrderOk B sa l m _ hn HL.out h).mono ?_
        rintro e w1 ⟨rfl, rfl⟩
        rw [HO.out]
        go_wp2_with fail
        go_loop [4] (fun i => ∃ j : Nat, j ≤ k ∧ i = .int .i64 j ∧ Hid (∀ b, b < j → MJ m k b)) (fun i => k - (intOf i).toNat)
        case atStart => exact ⟨0, Nat.zero_le _, rfl, fun r hr => absurd hr (Nat.not_lt_zero _)⟩
        case round =>
          obtain ⟨j, hj, rfl, hC⟩ := hrel
          by_cases hjt : j < k
          · have hjt' : (j : Int) < k := by omega
            have hjn : j < m.n := by omega
            have hr1 := meetI_range m k j
            have hr2 := meetI_range (tr m) k j
            by_cases hm : meetI m k j < 0
            · have HB : Hid (false = latticeB m) := (latticeB_false fun h => by have := hasI_is (h.both k j hlt hjn).meets; omega).symm
              go_wp2_with fail
              go_at_call 65
              refine (l1Meet_any h HORD.out hlt hjn).mono ?_
              rintro e w1 ⟨rfl, rfl⟩
              go_wp2_with fail
              go_ret
              exact ⟨ret_bool HB.out, rfl⟩
            · by_cases hm2 : meetI (tr m) k j < 0
              · have HB : Hid (false = latticeB m) := (latticeB_false fun h => by have := hasI_is (h.both k j hlt hjn).joins; omega).symm
                go_wp2_with fail
                go_at_call 65
                refine (l1Meet_any h HORD.out hlt hjn).mono ?_
                rintro e w1 ⟨rfl, rfl⟩
                go_wp2_with fail
                go_at_call 99
                refine (l1Join_any h HORD.out hlt hjn).mono ?_
                rintro e w1 ⟨rfl, rfl⟩
                go_wp2_with fail
                go_ret
                exact ⟨ret_bool HB.out, rfl⟩
              · have HJ : Hid (MJ m k j) := MJ_of hm hm2
                go_wp2_with fail
                go_at_call 65
                refine (l1Meet_any h HORD.out hlt hjn).mono ?_
                rintro e w1 ⟨rfl, rfl⟩
                go_wp2_with fail
                go_at_call 99
                refine (l1Join_any h HORD.out hlt hjn).mono ?_
                rintro e w1 ⟨rfl, rfl⟩
                go_wp2_with fail
                go_round
                case rel => exact ⟨j + 1, by omega, by go_num, fun b hb => by
                  by_cases e : b = j
                  · subst e; exact HJ.out
                  · exact hC.out b (by omega)⟩
                case measure => simp [intOf]; omega
          · have hjt' : ¬ (j : Int) < k := by omega
            go_wp2_with fail
            go_round
            case rel => exact ⟨k + 1, by omega, by go_num, fun a ha => by
              by_cases e : a = k
              · subst e; exact fun b hb => hC.out b (by omega)
              · exact hR.out a (by omega)⟩
            case measure => simp [intOf]; omega
      · have hlt' : ¬ (k : Int) < m.n := by omega
        have HT : Hid (true = latticeB m) := (latticeB_true (lattice_of_less HORD.out fun a ha => hR.out a (by omega))).symm
        go_wp2_with fail
        go_at_call 98
        refine (spec_OrderOk B sa l m _ hn HL.out h).mono ?_
        rintro e w1 ⟨rfl, rfl⟩
        rw [HO.out]
        go_wp2_with fail
        go_ret
        exact ⟨ret_bool HT.out, rfl⟩
end Go.Proofs.Ytgjacinolenheaa
