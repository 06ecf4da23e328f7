/- The walk of the reference's AtomsOf. -/
import Derived.Test.YtcplljeglaolgaaWv
namespace Go.Proofs.Ytcplljeglaolgaa
open Go.RowKit Go.Deep

set_option maxRecDepth 100000 in
set_option maxHeartbeats 1000000 in
theorem spec_AtomsOf {B : Nat} {sa : Option Addr} {l : Lay} {m : Mx} {w : World} (hn : m.n ≤ 9223372036854775807) (hL : ∀ r, r < m.n → m.L r ≤ 9223372036854775807) (h : MatAt w B sa l m) (hB : B ≤ w.heap.size) :
    Calls Try.prog 41 #[.slice sa m.n l.cap] w (ListRes w (atomsV m)) := by
  have HL := Lib.hid hL
  have h1 := h.alloc hB (.cells #[] 3)
  have hown0 := World.ownsRow_lit (base := w.heap.size) (e := 3) (size := 1) w #[] 0 (Nat.le_refl _) (Nat.zero_le _) rfl
  have hb0 := (Below.refl w.heap.size w).alloc (Nat.le_refl _) (.cells #[] 3)
  have H0 := Lib.hid h
  clear hL h
  by_cases hyes : orderB m = true ∧ hasI (leastI m) = true
  · obtain ⟨ho, hl⟩ := hyes
    have hord := orderB_is ho
    have hhi := hord.top
    have HORD := Lib.hid hord
    have hs := Lib.hid hord.sq
    have HR : Hid (atomsV m = atomsTo m m.n) := atomsV_yes ho hl
    have HV : Hid (leastV m = leastI m) := leastV_yes ho
    have HHL := Lib.hid hl
    obtain ⟨x, hx, hlx⟩ : ∃ x : Nat, x < m.n ∧ leastI m = (x : Int) := by
      rcases firstI_ways m.n (belowAllB m) with ⟨h1, _⟩ | ⟨x, hx, h1, _⟩
      · have : leastI m = -1 := h1
        have := hasI_is hl
        omega
      · exact ⟨x, hx, h1⟩
    have HX := Lib.hid hlx
    clear ho hl hord hlx
    obtain ⟨i0, hi, hz0, hz1, hz2⟩ := info_parts infoInt
    have HI := Lib.hid hi
    have HZ0 := Lib.hid hz0
    have HZ1 := Lib.hid hz1
    have HZ2 := Lib.hid hz2
    clear hi hz0 hz1 hz2
    go_enter Try.func41, Try.ntmps41
    go_wp2_with fail
    go_at_call 42
    refine (spec_LeastOf hn HL.out h1).mono ?_
    rintro e w1 ⟨rfl, rfl⟩
    rw [HV.out, HHL.out, HX.out]
    go_wp2_with fail
    go_loopw [3, 6] (fun v i wr => ∃ k : Nat, k ≤ m.n ∧ i = .int .i64 k ∧ wr.ownsRow w.heap.size 3 1 v (atomsTo m k).length ((atomsTo m k).map (Value.int .i64)) ∧ Below w.heap.size w wr) (fun _ i _ => m.n - (intOf i).toNat)
    case atStart => exact ⟨0, Nat.zero_le _, rfl, hown0, hb0⟩
    case round =>
      obtain ⟨k, hk, rfl, hown, hW⟩ := hrel
      by_cases hlt : k < m.n
      · have hlt' : (k : Int) < m.n := by omega
        have hM := H0.out.below (hW.mono hB)
        go_wp2_with fail
        go_loop [7, 8] (fun t i => ∃ (j : Nat) (v : Int), j ≤ m.n ∧ i = .int .i64 j ∧ t = .int .i64 v ∧ 0 ≤ v ∧ v ≤ (j : Int) ∧ Hid (v = sumTo j (fun r => m.Z r k))) (fun _ i => m.n - (intOf i).toNat)
        case atStart => exact ⟨0, 0, Nat.zero_le _, rfl, rfl, by omega, by omega, rfl⟩
        case round =>
          obtain ⟨j, v, hj, rfl, rfl, hv0, hv1, hV⟩ := hrel
          by_cases hjt : j < m.n
          · have hjt' : (j : Int) < m.n := by omega
            obtain ⟨rfl, t1, t2⟩ := hM.sq hs.out hjt hlt
            have hbit := hs.out.bit j hjt k hlt
            have hz0 : 0 ≤ m.Z j k := by omega
            have hz1 : m.Z j k ≤ 1 := by omega
            clear hbit hM
            go_wp2_with fail
            go_round
            case rel => exact ⟨j + 1, v + m.Z j k, by omega, by go_num, rfl, by omega, by omega, by show _ = _; simp only [sumTo]; rw [hV.out]⟩
            case measure => simp [intOf]; omega
          · have hjt' : ¬ (j : Int) < m.n := by omega
            have HK : Hid (v = countI m k) := by
              show _ = _
              have e : j = m.n := by omega
              rw [hV.out, e]
              rfl
            have hlen := atomsTo_len m k
            have hws := hW.size
            clear hV hM
            by_cases hc : v = 2
            · have HC : Hid (countI m k = 2) := by show _ = _; rw [← HK.out]; exact hc
              have hne : ((k : Int) != (x : Int)) = true := by
                have : k ≠ x := by
                  rintro rfl
                  have h1 := least_count HORD.out hlt HX.out
                  have h2 := HC.out
                  omega
                simp; omega
              subst hc
              go_wp2_with (at_builtin; refine wpList_append_own _ rfl _ _ 29 rfl w.heap.size 3 i0 (.int .i64 0) 1 8 Try.underlying29 HI.out HZ0.out HZ1.out HZ2.out rfl (by decide) _ _ _ rfl (hown.alloc _) ⟨wr.heap.size, 0, none⟩ 1 1 [.int .i64 k] rfl rfl ?c1 ?c2 ?c3 ?c4 ?c5 ?_)
              case c2 => simp [Value.oneCell']
              case c3 => unfold maxLen; omega
              case c4 => omega
              case c5 => first | omega | (simp; omega)
              intro v' w4 hown4 hgrow _
              have HO4 : Hid (w4.ownsRow w.heap.size 3 1 v' (atomsTo m (k + 1)).length ((atomsTo m (k + 1)).map (Value.int .i64))) := by
                show World.ownsRow _ _ _ _ _ _ _
                rw [atomsTo_yes HC.out, List.length_append, List.map_append]
                exact hown4
              have hW4 : Below w.heap.size w w4 := (hW.alloc hws _).grown hgrow (by simp; omega) (ownsRow_block hown)
              clear hown4 hgrow hown
              go_wp2_with fail
              go_roundw
              case rel => exact ⟨k + 1, by omega, by go_num, HO4.out, hW4⟩
              case measure => simp [intOf]; omega
            · have e1 : (v == 2) = false := by simp; exact hc
              have HO4 : Hid (atomsTo m (k + 1) = atomsTo m k) := atomsTo_no (by rw [← HK.out]; exact hc)
              clear hc
              go_wp2_with fail
              go_roundw
              case rel => exact ⟨k + 1, by omega, by go_num, by rw [HO4.out]; exact hown, hW⟩
              case measure => simp [intOf]; omega
      · have hlt' : ¬ (k : Int) < m.n := by omega
        have HK : Hid (k = m.n) := by show _ = _; omega
        go_wp2_with fail
        go_ret
        exact ⟨_, rfl, by rw [HR.out, ← HK.out]; exact hown, hW⟩
  · have HR : Hid (atomsV m = []) := atomsV_no hyes
    have HH : Hid (hasI (leastV m) = false) := by
      show _ = _
      cases ho : orderB m with
      | false => rw [leastV_no ho]; rfl
      | true =>
        rw [leastV_yes ho]
        cases hl : hasI (leastI m) with
        | false => rfl
        | true => exact absurd ⟨ho, hl⟩ hyes
    clear hyes
    go_enter Try.func41, Try.ntmps41
    go_wp2_with fail
    go_at_call 42
    refine (spec_LeastOf hn HL.out h1).mono ?_
    rintro e w1 ⟨rfl, rfl⟩
    rw [HH.out]
    go_wp2_with fail
    go_loop [3, 6] (fun v i => v = .slice (some ⟨w.heap.size, 0, none⟩) 0 0 ∧ i = .int .i64 0) (fun _ _ => 0)
    case atStart => exact ⟨rfl, rfl⟩
    case round =>
      obtain ⟨rfl, rfl⟩ := hrel
      by_cases h0 : 0 < m.n
      · have h0' : (0 : Int) < m.n := by omega
        go_wp2_with fail
        go_ret
        exact ⟨_, rfl, by rw [HR.out]; exact hown0, hb0⟩
      · have h0' : ¬ (0 : Int) < m.n := by omega
        go_wp2_with fail
        go_ret
        exact ⟨_, rfl, by rw [HR.out]; exact hown0, hb0⟩
end Go.Proofs.Ytcplljeglaolgaa
