import Derived.Test.YtojcgmgponnlpaaZWc
import Derived.Test.YtojcgmgponnlpaaZMath
namespace Go.Proofs.Ytojcgmgponnlpaa
open Go.RowKit Go.Deep

set_option maxRecDepth 100000 in
set_option maxHeartbeats 1000000 in
theorem l1Meet_any {B : Nat} {sa : Option Addr} {l : Lay} {m : Mx} {a b : Nat} {w : World} (h : MatAt w B sa l m) (ho : IsOrder m) (ha : a < m.n) (hb : b < m.n) :
    Calls Try.prog 58 #[.slice sa m.n l.cap, .int .i64 a, .int .i64 b] w fun e w' => e = .returned (.int .i64 (meetI m a b)) ∧ w = w' := by
  have hn := ho.top
  have hs := ho.sq
  have HO : Hid (IsOrder m) := ho
  have hsq : Hid (Square m) := HO.out.sq
  clear ho
  obtain ⟨rfl, hgb, htopa⟩ := h.top a ha
  clear hgb htopa
  go_enter Try.func58, Try.ntmps58
  go_wp2_with fail
  go_loop [7, 8] (fun t i => ∃ (k : Nat) (v : Int), k ≤ m.n ∧ i = .int .i64 k ∧ t = .int .i64 v ∧ Hid (v = bestI m a b k)) (fun _ i => m.n - (intOf i).toNat)
  case atStart => exact ⟨0, -1, Nat.zero_le _, rfl, rfl, rfl⟩
  case round =>
    obtain ⟨k, v, hk, rfl, rfl, hv⟩ := hrel
    by_cases hlt : k < m.n
    · have hlt' : (k : Int) < m.n := by omega
      obtain ⟨_, t1, t2⟩ := h.sq hs hlt ha
      obtain ⟨_, t3, t4⟩ := h.sq hs hlt hb
      have H0 := Lib.hid h
      clear h
      rcases leB_cases hsq.out hlt ha with ⟨la, za⟩ | ⟨la, za⟩
      · replace za : m.Z k a = 1 := za
        rw [za] at t2
        have LA := Lib.hid la
        clear la za
        rcases leB_cases hsq.out hlt hb with ⟨lb, zb⟩ | ⟨lb, zb⟩
        · replace zb : m.Z k b = 1 := zb
          rw [zb] at t4
          have LB : Hid (bothB m k a b = true) := by show _ = _; unfold bothB; rw [LA.out, lb]; rfl
          clear lb zb
          rcases bestI_ways m a b k with ⟨h1, h2⟩ | ⟨x, hx, h1, h2⟩
          · obtain rfl : v = -1 := hv.out.trans h1
            clear h1 h2
            go_wp2_with fail
            go_round
            case rel => exact ⟨k + 1, (k : Int), by omega, by go_num, rfl, (bestI_step_yes LB.out (.inl (by rw [← hv.out]; omega))).symm⟩
            case measure => simp [intOf]; omega
          · obtain rfl : v = (x : Int) := hv.out.trans h1
            have hxn : x < m.n := by omega
            clear h1 h2
            obtain ⟨_, t5, t6⟩ := H0.out.sq hs hxn hlt
            rcases leB_cases hsq.out hxn hlt with ⟨lx, zx⟩ | ⟨lx, zx⟩
            · replace zx : m.Z x k = 1 := zx
              rw [zx] at t6
              have LX := Lib.hid lx
              clear lx zx
              go_wp2_with fail
              go_round
              case rel => exact ⟨k + 1, (k : Int), by omega, by go_num, rfl, (bestI_step_yes LB.out (.inr (by rw [← hv.out]; exact LX.out))).symm⟩
              case measure => simp [intOf]; omega
            · replace zx : m.Z x k = 0 := zx
              rw [zx] at t6
              have LX := Lib.hid lx
              clear lx zx
              go_wp2_with fail
              go_round
              case rel => exact ⟨k + 1, (x : Int), by omega, by go_num, rfl, hv.out.trans (bestI_step_no (by
                rw [← hv.out]
                rintro ⟨_, h | h⟩
                · omega
                · have h' : leB m x k = true := h
                  rw [LX.out] at h'; cases h')).symm⟩
              case measure => simp [intOf]; omega
        · replace zb : m.Z k b = 0 := zb
          rw [zb] at t4
          have LB : Hid (bothB m k a b = false) := by show _ = _; unfold bothB; rw [LA.out, lb]; rfl
          clear lb zb
          go_wp2_with fail
          go_round
          case rel => exact ⟨k + 1, v, by omega, by go_num, rfl, hv.out.trans (bestI_step_no (by rintro ⟨h, _⟩; rw [LB.out] at h; cases h)).symm⟩
          case measure => simp [intOf]; omega
      · replace za : m.Z k a = 0 := za
        rw [za] at t2
        have LB : Hid (bothB m k a b = false) := by show _ = _; unfold bothB; rw [la]; rfl
        clear la za
        go_wp2_with fail
        go_round
        case rel => exact ⟨k + 1, v, by omega, by go_num, rfl, hv.out.trans (bestI_step_no (by rintro ⟨h, _⟩; rw [LB.out] at h; cases h)).symm⟩
        case measure => simp [intOf]; omega
    · have hlt' : ¬ (k : Int) < m.n := by omega
      obtain hkn : k = m.n := by omega
      have HV : Hid (v = bestI m a b m.n) := by show _ = _; rw [← hkn]; exact hv.out
      clear hkn hv
      rcases bestI_ways m a b m.n with ⟨h1, h2⟩ | ⟨x, hx, h1, h2⟩
      · obtain rfl : v = -1 := HV.out.trans h1
        have H2 := Lib.hid h2
        clear h1 h2
        go_wp2_with fail
        go_loop [9] (fun i => ∃ j : Nat, j ≤ m.n ∧ i = .int .i64 j) (fun i => m.n - (intOf i).toNat)
        case atStart => exact ⟨0, Nat.zero_le _, rfl⟩
        case round =>
          obtain ⟨j, hj, rfl⟩ := hrel
          by_cases hjt : j < m.n
          · have hjt' : (j : Int) < m.n := by omega
            obtain ⟨_, t1, t2⟩ := h.sq hs hjt ha
            obtain ⟨_, t3, t4⟩ := h.sq hs hjt hb
            have hlo := H2.out j hjt
            rcases leB_cases hsq.out hjt ha with ⟨la, za⟩ | ⟨la, za⟩
            · replace za : m.Z j a = 1 := za
              rw [za] at t2
              rcases leB_cases hsq.out hjt hb with ⟨lb, zb⟩ | ⟨lb, zb⟩
              · unfold bothB at hlo
                rw [la, lb] at hlo
                cases hlo
              · replace zb : m.Z j b = 0 := zb
                rw [zb] at t4
                clear la lb za zb hlo
                go_wp2_with fail
                go_round
                case rel => exact ⟨j + 1, by omega, by go_num⟩
                case measure => simp [intOf]; omega
            · replace za : m.Z j a = 0 := za
              rw [za] at t2
              clear la za hlo
              go_wp2_with fail
              go_round
              case rel => exact ⟨j + 1, by omega, by go_num⟩
              case measure => simp [intOf]; omega
          · have hjt' : ¬ (j : Int) < m.n := by omega
            go_wp2_with fail
            go_ret
            exact ⟨ret_int (HV.out.trans (meetI_pass HO.out (fun c hc hb' => by rw [H2.out c hc] at hb'; cases hb')).symm), rfl⟩
      · obtain rfl : v = (x : Int) := HV.out.trans h1
        replace hx : x < m.n := hx
        clear h1 h2
        go_wp2_with fail
        go_loop [9] (fun i => ∃ j : Nat, j ≤ m.n ∧ i = .int .i64 j ∧ Hid (∀ c, c < j → bothB m c a b = true → leB m c x = true)) (fun i => m.n - (intOf i).toNat)
        case atStart => exact ⟨0, Nat.zero_le _, rfl, fun r hr => absurd hr (Nat.not_lt_zero _)⟩
        case round =>
          obtain ⟨j, hj, rfl, hR⟩ := hrel
          by_cases hjt : j < m.n
          · have hjt' : (j : Int) < m.n := by omega
            obtain ⟨_, t1, t2⟩ := h.sq hs hjt ha
            obtain ⟨_, t3, t4⟩ := h.sq hs hjt hb
            obtain ⟨_, t5, t6⟩ := h.sq hs hjt hx
            rcases leB_cases hsq.out hjt ha with ⟨la, za⟩ | ⟨la, za⟩
            · replace za : m.Z j a = 1 := za
              rw [za] at t2
              have LA := Lib.hid la
              clear la za
              rcases leB_cases hsq.out hjt hb with ⟨lb, zb⟩ | ⟨lb, zb⟩
              · replace zb : m.Z j b = 1 := zb
                rw [zb] at t4
                have LB : Hid (bothB m j a b = true) := by show _ = _; unfold bothB; rw [LA.out, lb]; rfl
                clear lb zb
                rcases leB_cases hsq.out hjt hx with ⟨lx, zx⟩ | ⟨lx, zx⟩
                · replace zx : m.Z j x = 1 := zx
                  rw [zx] at t6
                  have LX := Lib.hid lx
                  clear lx zx
                  go_wp2_with fail
                  go_round
                  case rel => exact ⟨j + 1, by omega, by go_num, fun c hc hb' => by
                    by_cases e : c = j
                    · subst e; exact LX.out
                    · exact hR.out c (by omega) hb'⟩
                  case measure => simp [intOf]; omega
                · replace zx : m.Z j x = 0 := zx
                  rw [zx] at t6
                  have LX := Lib.hid lx
                  clear lx zx
                  go_wp2_with fail
                  go_ret
                  exact ⟨ret_int (meetI_fail HO.out hjt LB.out HV.out.symm LX.out).symm, rfl⟩
              · replace zb : m.Z j b = 0 := zb
                rw [zb] at t4
                have LB : Hid (bothB m j a b = false) := by show _ = _; unfold bothB; rw [LA.out, lb]; rfl
                clear lb zb
                go_wp2_with fail
                go_round
                case rel => exact ⟨j + 1, by omega, by go_num, fun c hc hb' => by
                  by_cases e : c = j
                  · subst e; rw [LB.out] at hb'; cases hb'
                  · exact hR.out c (by omega) hb'⟩
                case measure => simp [intOf]; omega
            · replace za : m.Z j a = 0 := za
              rw [za] at t2
              have LB : Hid (bothB m j a b = false) := by show _ = _; unfold bothB; rw [la]; rfl
              clear la za
              go_wp2_with fail
              go_round
              case rel => exact ⟨j + 1, by omega, by go_num, fun c hc hb' => by
                by_cases e : c = j
                · subst e; rw [LB.out] at hb'; cases hb'
                · exact hR.out c (by omega) hb'⟩
              case measure => simp [intOf]; omega
          · have hjt' : ¬ (j : Int) < m.n := by omega
            go_wp2_with fail
            go_ret
            exact ⟨ret_int (HV.out.trans (meetI_pass HO.out (fun c hc hb' y hy => by
              have hxy' : (x : Int) = (y : Int) := HV.out.trans hy
              have hxy : x = y := by omega
              subst hxy
              have hc' : c < m.n := hc
              exact hR.out c (by omega) hb')).symm), rfl⟩
end Go.Proofs.Ytojcgmgponnlpaa
namespace Go.Proofs.Ytojcgmgponnlpaa
open Go.RowKit Go.Deep

set_option maxRecDepth 100000 in
set_option maxHeartbeats 1000000 in
theorem l1Join_any {B : Nat} {sa : Option Addr} {l : Lay} {m : Mx} {a b : Nat} {w : World} (h : MatAt w B sa l m) (ho : IsOrder m) (ha : a < m.n) (hb : b < m.n) :
    Calls Try.prog 94 #[.slice sa m.n l.cap, .int .i64 a, .int .i64 b] w fun e w' => e = .returned (.int .i64 (meetI (tr m) a b)) ∧ w = w' := by
  have hn := ho.top
  have hs := ho.sq
  have HO : Hid (IsOrder (tr m)) := tr_order ho
  have hsq : Hid (Square (tr m)) := HO.out.sq
  clear ho
  obtain ⟨rfl, hgb, htopa⟩ := h.top a ha
  clear hgb htopa
  go_enter Try.func94, Try.ntmps94
  go_wp2_with fail
  go_loop [7, 8] (fun t i => ∃ (k : Nat) (v : Int), k ≤ m.n ∧ i = .int .i64 k ∧ t = .int .i64 v ∧ Hid (v = bestI (tr m) a b k)) (fun _ i => m.n - (intOf i).toNat)
  case atStart => exact ⟨0, -1, Nat.zero_le _, rfl, rfl, rfl⟩
  case round =>
    obtain ⟨k, v, hk, rfl, rfl, hv⟩ := hrel
    by_cases hlt : k < m.n
    · have hlt' : (k : Int) < m.n := by omega
      obtain ⟨_, t1, t2⟩ := h.sq hs ha hlt
      obtain ⟨_, t3, t4⟩ := h.sq hs hb hlt
      have H0 := Lib.hid h
      clear h
      rcases leB_cases hsq.out hlt ha with ⟨la, za⟩ | ⟨la, za⟩
      · replace za : m.Z a k = 1 := za
        rw [za] at t2
        have LA := Lib.hid la
        clear la za
        rcases leB_cases hsq.out hlt hb with ⟨lb, zb⟩ | ⟨lb, zb⟩
        · replace zb : m.Z b k = 1 := zb
          rw [zb] at t4
          have LB : Hid (bothB (tr m) k a b = true) := by show _ = _; unfold bothB; rw [LA.out, lb]; rfl
          clear lb zb
          rcases bestI_ways (tr m) a b k with ⟨h1, h2⟩ | ⟨x, hx, h1, h2⟩
          · obtain rfl : v = -1 := hv.out.trans h1
            clear h1 h2
            go_wp2_with fail
            go_round
            case rel => exact ⟨k + 1, (k : Int), by omega, by go_num, rfl, (bestI_step_yes LB.out (.inl (by rw [← hv.out]; omega))).symm⟩
            case measure => simp [intOf]; omega
          · obtain rfl : v = (x : Int) := hv.out.trans h1
            have hxn : x < m.n := by omega
            clear h1 h2
            obtain ⟨_, t5, t6⟩ := H0.out.sq hs hlt hxn
            rcases leB_cases hsq.out hxn hlt with ⟨lx, zx⟩ | ⟨lx, zx⟩
            · replace zx : m.Z k x = 1 := zx
              rw [zx] at t6
              have LX := Lib.hid lx
              clear lx zx
              go_wp2_with fail
              go_round
              case rel => exact ⟨k + 1, (k : Int), by omega, by go_num, rfl, (bestI_step_yes LB.out (.inr (by rw [← hv.out]; exact LX.out))).symm⟩
              case measure => simp [intOf]; omega
            · replace zx : m.Z k x = 0 := zx
              rw [zx] at t6
              have LX := Lib.hid lx
              clear lx zx
              go_wp2_with fail
              go_round
              case rel => exact ⟨k + 1, (x : Int), by omega, by go_num, rfl, hv.out.trans (bestI_step_no (by
                rw [← hv.out]
                rintro ⟨_, h | h⟩
                · omega
                · have h' : leB (tr m) x k = true := h
                  rw [LX.out] at h'; cases h')).symm⟩
              case measure => simp [intOf]; omega
        · replace zb : m.Z b k = 0 := zb
          rw [zb] at t4
          have LB : Hid (bothB (tr m) k a b = false) := by show _ = _; unfold bothB; rw [LA.out, lb]; rfl
          clear lb zb
          go_wp2_with fail
          go_round
          case rel => exact ⟨k + 1, v, by omega, by go_num, rfl, hv.out.trans (bestI_step_no (by rintro ⟨h, _⟩; rw [LB.out] at h; cases h)).symm⟩
          case measure => simp [intOf]; omega
      · replace za : m.Z a k = 0 := za
        rw [za] at t2
        have LB : Hid (bothB (tr m) k a b = false) := by show _ = _; unfold bothB; rw [la]; rfl
        clear la za
        go_wp2_with fail
        go_round
        case rel => exact ⟨k + 1, v, by omega, by go_num, rfl, hv.out.trans (bestI_step_no (by rintro ⟨h, _⟩; rw [LB.out] at h; cases h)).symm⟩
        case measure => simp [intOf]; omega
    · have hlt' : ¬ (k : Int) < m.n := by omega
      obtain hkn : k = m.n := by omega
      have HV : Hid (v = bestI (tr m) a b m.n) := by show _ = _; rw [← hkn]; exact hv.out
      clear hkn hv
      rcases bestI_ways (tr m) a b m.n with ⟨h1, h2⟩ | ⟨x, hx, h1, h2⟩
      · obtain rfl : v = -1 := HV.out.trans h1
        have H2 := Lib.hid h2
        clear h1 h2
        go_wp2_with fail
        go_loop [9] (fun i => ∃ j : Nat, j ≤ m.n ∧ i = .int .i64 j) (fun i => m.n - (intOf i).toNat)
        case atStart => exact ⟨0, Nat.zero_le _, rfl⟩
        case round =>
          obtain ⟨j, hj, rfl⟩ := hrel
          by_cases hjt : j < m.n
          · have hjt' : (j : Int) < m.n := by omega
            obtain ⟨_, t1, t2⟩ := h.sq hs ha hjt
            obtain ⟨_, t3, t4⟩ := h.sq hs hb hjt
            have hlo := H2.out j hjt
            rcases leB_cases hsq.out hjt ha with ⟨la, za⟩ | ⟨la, za⟩
            · replace za : m.Z a j = 1 := za
              rw [za] at t2
              rcases leB_cases hsq.out hjt hb with ⟨lb, zb⟩ | ⟨lb, zb⟩
              · unfold bothB at hlo
                rw [la, lb] at hlo
                cases hlo
              · replace zb : m.Z b j = 0 := zb
                rw [zb] at t4
                clear la lb za zb hlo
                go_wp2_with fail
                go_round
                case rel => exact ⟨j + 1, by omega, by go_num⟩
                case measure => simp [intOf]; omega
            · replace za : m.Z a j = 0 := za
              rw [za] at t2
              clear la za hlo
              go_wp2_with fail
              go_round
              case rel => exact ⟨j + 1, by omega, by go_num⟩
              case measure => simp [intOf]; omega
          · have hjt' : ¬ (j : Int) < m.n := by omega
            go_wp2_with fail
            go_ret
            exact ⟨ret_int (HV.out.trans (meetI_pass HO.out (fun c hc hb' => by rw [H2.out c hc] at hb'; cases hb')).symm), rfl⟩
      · obtain rfl : v = (x : Int) := HV.out.trans h1
        replace hx : x < m.n := hx
        clear h1 h2
        go_wp2_with fail
        go_loop [9] (fun i => ∃ j : Nat, j ≤ m.n ∧ i = .int .i64 j ∧ Hid (∀ c, c < j → bothB (tr m) c a b = true → leB (tr m) c x = true)) (fun i => m.n - (intOf i).toNat)
        case atStart => exact ⟨0, Nat.zero_le _, rfl, fun r hr => absurd hr (Nat.not_lt_zero _)⟩
        case round =>
          obtain ⟨j, hj, rfl, hR⟩ := hrel
          by_cases hjt : j < m.n
          · have hjt' : (j : Int) < m.n := by omega
            obtain ⟨_, t1, t2⟩ := h.sq hs ha hjt
            obtain ⟨_, t3, t4⟩ := h.sq hs hb hjt
            obtain ⟨_, t5, t6⟩ := h.sq hs hx hjt
            rcases leB_cases hsq.out hjt ha with ⟨la, za⟩ | ⟨la, za⟩
            · replace za : m.Z a j = 1 := za
              rw [za] at t2
              have LA := Lib.hid la
              clear la za
              rcases leB_cases hsq.out hjt hb with ⟨lb, zb⟩ | ⟨lb, zb⟩
              · replace zb : m.Z b j = 1 := zb
                rw [zb] at t4
                have LB : Hid (bothB (tr m) j a b = true) := by show _ = _; unfold bothB; rw [LA.out, lb]; rfl
                clear lb zb
                rcases leB_cases hsq.out hjt hx with ⟨lx, zx⟩ | ⟨lx, zx⟩
                · replace zx : m.Z x j = 1 := zx
                  rw [zx] at t6
                  have LX := Lib.hid lx
                  clear lx zx
                  go_wp2_with fail
                  go_round
                  case rel => exact ⟨j + 1, by omega, by go_num, fun c hc hb' => by
                    by_cases e : c = j
                    · subst e; exact LX.out
                    · exact hR.out c (by omega) hb'⟩
                  case measure => simp [intOf]; omega
                · replace zx : m.Z x j = 0 := zx
                  rw [zx] at t6
                  have LX := Lib.hid lx
                  clear lx zx
                  go_wp2_with fail
                  go_ret
                  exact ⟨ret_int (meetI_fail HO.out hjt LB.out HV.out.symm LX.out).symm, rfl⟩
              · replace zb : m.Z b j = 0 := zb
                rw [zb] at t4
                have LB : Hid (bothB (tr m) j a b = false) := by show _ = _; unfold bothB; rw [LA.out, lb]; rfl
                clear lb zb
                go_wp2_with fail
                go_round
                case rel => exact ⟨j + 1, by omega, by go_num, fun c hc hb' => by
                  by_cases e : c = j
                  · subst e; rw [LB.out] at hb'; cases hb'
                  · exact hR.out c (by omega) hb'⟩
                case measure => simp [intOf]; omega
            · replace za : m.Z a j = 0 := za
              rw [za] at t2
              have LB : Hid (bothB (tr m) j a b = false) := by show _ = _; unfold bothB; rw [la]; rfl
              clear la za
              go_wp2_with fail
              go_round
              case rel => exact ⟨j + 1, by omega, by go_num, fun c hc hb' => by
                by_cases e : c = j
                · subst e; rw [LB.out] at hb'; cases hb'
                · exact hR.out c (by omega) hb'⟩
              case measure => simp [intOf]; omega
          · have hjt' : ¬ (j : Int) < m.n := by omega
            go_wp2_with fail
            go_ret
            exact ⟨ret_int (HV.out.trans (meetI_pass HO.out (fun c hc hb' y hy => by
              have hxy' : (x : Int) = (y : Int) := HV.out.trans hy
              have hxy : x = y := by omega
              subst hxy
              have hc' : c < m.n := hc
              exact hR.out c (by omega) hb')).symm), rfl⟩
end Go.Proofs.Ytojcgmgponnlpaa
