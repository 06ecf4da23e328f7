import Derived.Test.YtnbglbhfclohjaaDoorUDn
import Derived.Test.YtnbglbhfclohjaaDoorUYu
import Derived.Test.YtnbglbhfclohjaaDoorUAa
import Derived.Test.YtnbglbhfclohjaaDoorUMath
import Derived.Test.YtnbglbhfclohjaaDoorUMathN
import Derived.Test.YtnbglbhfclohjaaDoorUSi
import Derived.BigQuiet
namespace Go.Proofs.YtnbglbhfclohjaaDoor
open Go.RowKit Go.Deep

/-- The drawn logic in its box, and all that was there before. -/
structure Held (w : World) (ua : Option Addr) (l : Lay) (m : Mx) (na : Option Addr) (g o k nc : Nat) (z : Nat → Int) (P : Nat) (wx : World) : Prop where
  log : LogAt wx P ua l m na g o k z
  box : TwoAt wx P (.slice ua m.n l.cap) (.slice na k nc)
  old : Below w.heap.size w wx
theorem Held.step {w wx w' : World} {ua : Option Addr} {l : Lay} {m : Mx} {na : Option Addr} {g o k nc P : Nat} {z : Nat → Int} (h : Held w ua l m na g o k nc z P wx) (hb : Below wx.heap.size wx w') : Held w ua l m na g o k nc z P w' :=
  ⟨h.log.step hb, h.box.below hb (World.block_lt_of_cell? wx ⟨P, 0, none⟩ h.box.c0), h.old.trans (hb.mono h.old.size)⟩
theorem Held.start {w w1 : World} {ua : Option Addr} {l : Lay} {m : Mx} {na : Option Addr} {g o k : Nat} {z : Nat → Int} (h : Fresh w ua l m na g o k z w1) (nc : Nat) : Held w ua l m na g o k nc z w1.heap.size (w1.alloc (.cells #[.slice ua m.n l.cap, .slice na k nc] 26)) :=
  ⟨h.log.alloc _, TwoAt.new _ _ _ _, h.old.alloc h.old.size _⟩
theorem Ortho.leastV {m : Mx} {z : Nat → Int} {y : Nat → Nat} {o : Nat} (h : Ortho m z y o) : leastV m = (o : Int) := by rw [leastV_yes (orderB_true h.lat.order)]; exact h.eq
end Go.Proofs.YtnbglbhfclohjaaDoor
namespace Go.Proofs.YtnbglbhfclohjaaDoor
open Go.RowKit Go.Deep

end Go.Proofs.YtnbglbhfclohjaaDoor
namespace Go.Proofs.YtnbglbhfclohjaaDoor
open Go.RowKit Go.Deep

end Go.Proofs.YtnbglbhfclohjaaDoor
namespace Go.Proofs.YtnbglbhfclohjaaDoor
open Go.RowKit Go.Deep

theorem get_in {xs : List Int} {j : Nat} (h : j < xs.length) : xs[j]?.getD 0 ∈ xs := by simp [h]
end Go.Proofs.YtnbglbhfclohjaaDoor
namespace Go.Proofs.YtnbglbhfclohjaaDoor
open Go.RowKit Go.Deep

/-- Some of them holds all of the set. -/
def hasL (xs : List Int) (s : Nat) : Bool := xs.any fun x => x.toNat &&& s == s
theorem hasL_take {xs : List Int} {j t s : Nat} (hj : j < xs.length) (ht : xs[j]?.getD 0 = (t : Int)) : hasL (xs.take (j + 1)) s = (hasL (xs.take j) s || (t &&& s == s)) := by
  rw [List.getElem?_eq_getElem hj] at ht
  have ht : xs[j] = (t : Int) := ht
  rw [List.take_succ_eq_append_getElem hj]
  unfold hasL
  rw [List.any_append, List.any_cons, List.any_nil, Bool.or_false, ht, Int.toNat_natCast]
theorem sub_and {s t : Nat} : t &&& s = s ↔ Sub s t := by
  constructor
  · intro h a ha
    rw [← h, Nat.testBit_and, Bool.and_eq_true] at ha
    exact ha.1
  · intro h
    refine Nat.eq_of_testBit_eq fun i => ?_
    rw [Nat.testBit_and]
    cases hs : s.testBit i with
    | false => rw [Bool.and_false]
    | true => rw [h i hs]; rfl
theorem agree_has {m : Mx} {z : Nat → Int} {y : Nat → Nat} {o s : Nat} (h : Ortho m z y o) (hs : s < 2 ^ m.n) : cliqB m y s = hasL (blockL m y) s := by
  rw [Bool.eq_iff_iff, h.cliq_iff, h.clique_iff hs]
  unfold hasL
  rw [List.any_eq_true]
  constructor
  · rintro ⟨t, h1, h2⟩
    exact ⟨_, blockL_has h1, by rw [Int.toNat_natCast, beq_iff_eq]; exact sub_and.2 h2⟩
  · rintro ⟨x, hx, hb⟩
    obtain ⟨t, rfl, ht⟩ := blockL_in hx
    rw [Int.toNat_natCast, beq_iff_eq] at hb
    exact ⟨t, ht, sub_and.1 hb⟩
theorem pow_wraps9 {n P : Nat} (hP : P = 2 ^ n) (h2 : P ≤ 4096) : (2 : Int) ^ n = (P : Int) ∧ wrap64 ((2 : Int) ^ n) = (P : Int) := by
  have e0 : (2 : Int) ^ n = (P : Int) := by rw [hP]; push_cast; rfl
  exact ⟨e0, by rw [e0]; exact IntWalk.wrap64_in _ (by omega)⟩

set_option maxRecDepth 100000 in
set_option maxHeartbeats 4000000 in
theorem law_AgreeOk {A : Option Addr} {b o n cap : Nat} {z : Nat → Nat} {w : World} (h : CodeAt w A b o n cap z) (hT : TabOk w) :
    Calls Tryd.prog 4 #[.slice A n cap] w fun e w' => e = .returned (.bool true) ∧ Below w.heap.size w w' := by
  have hn := h.hn
  have hc := h.hc
  by_cases hbig : 1048576 < n
  · have hbig' : (1048576 : Int) < n := by omega
    clear h hT
    go_enter Tryd.func4, Tryd.ntmps4
    go_wp2_with fail
    go_ret
    exact ⟨rfl, Below.refl _ _⟩
  · have hbig' : ¬ (1048576 : Int) < n := by omega
    have HT := Lib.hid hT
    clear hT
    go_enter Tryd.func4, Tryd.ntmps4
    go_wp2_with fail
    go_at_call 23
    refine (draw_AgreeOk h).mono ?_
    rintro e w1 ⟨ua, l, m, na, g, o2, k, nc, zz, x, rfl, hF⟩
    have H1 := Held.start hF nc
    clear h hF
    have q0 := H1.box.c0
    have q1 := H1.box.c1
    go_wp2_with fail
    go_at_call 24
    refine (AgreeOk_any H1.log (HT.out.step H1.old HT.out.size)).mono ?_
    rintro e w2 ⟨rfl, b2⟩
    have H2 := H1.step b2
    clear H1 q0 q1 b2
    have q0 := H2.box.c0
    have q1 := H2.box.c1
    go_wp2_with fail
    go_at_call 25
    refine (spec_AgreeOk H2.log).mono ?_
    rintro e w3 ⟨rfl, b3⟩
    have H3 := H2.step b3
    clear H2 q0 q1 b3
    have q0 := H3.box.c0
    have q1 := H3.box.c1
    cases hl : logicB m k zz with
    | false =>
      have hv : agreeV m k zz x = false := by unfold agreeV; rw [hl]; rfl
      have HLg := Lib.hid hl
      rw [hv]
      clear hl hv
      go_wp2_with fail
      go_at_call 26
      refine (spec_LogicOk H3.log).mono ?_
      rintro e w4 ⟨rfl, b4⟩
      rw [HLg.out]
      have H4 := H3.step b4
      clear H3 q0 q1 b4
      have q0 := H4.box.c0
      have q1 := H4.box.c1
      go_wp2_with fail
      go_at_call 16
      refine (alive_any _).mono ?_
      rintro e w5 ⟨rfl, b5⟩
      have H5 := H4.step b5
      go_wp2_with fail
      go_ret
      exact ⟨rfl, H5.old⟩
    | true =>
      have HLg := Lib.hid hl
      obtain ⟨y0, o3, hO0⟩ := (logicB_is hl).ortho
      have hkn : k = m.n := (logicB_is hl).pair.len
      subst hkn
      have hO := hO0.own
      have h12 := hO.lat.order.top
      have hpos := hO.lat.order.pos
      have hB : blocksV m m.n zz = blockL m (fun c => (zz c).toNat) := by unfold blocksV; rw [if_pos hl]
      obtain ⟨y, hy⟩ : ∃ y : Nat → Nat, y = fun c => (zz c).toNat := ⟨_, rfl⟩
      rw [← hy] at hO hB
      have HO := Lib.hid hO
      have HBl := Lib.hid hB
      have hp12 := pow_le_12 h12
      obtain ⟨P, hP⟩ : ∃ P, P = 2 ^ m.n := ⟨_, rfl⟩
      rw [← hP] at hp12
      have HPe := Lib.hid hP
      obtain ⟨e0, e1⟩ := pow_wraps9 hP hp12
      clear hO0 hO hB hy hP
      by_cases h1 : x < 1
      · have hv : agreeV m m.n zz x = false := by
          have e : inB m.n x = false := decide_eq_false (by omega)
          unfold agreeV; rw [e, Bool.false_and, Bool.and_false]
        rw [hv]
        clear hl hv
        go_wp2_with fail
        go_at_call 26
        refine (spec_LogicOk H3.log).mono ?_
        rintro e w4 ⟨rfl, b4⟩
        rw [HLg.out]
        have H4 := H3.step b4
        clear H3 q0 q1 b4
        have q0 := H4.box.c0
        have q1 := H4.box.c1
        go_wp2_with fail
        go_at_call 16
        refine (alive_any _).mono ?_
        rintro e w5 ⟨rfl, b5⟩
        have H5 := H4.step b5
        go_wp2_with fail
        go_ret
        exact ⟨rfl, H5.old⟩
      · obtain ⟨s, rfl⟩ := Int.eq_ofNat_of_zero_le (show 0 ≤ x by omega)
        have h1' : 1 ≤ s := by omega
        by_cases h2 : P ≤ s
        · have h2' : (P : Int) ≤ (s : Int) := by omega
          have hv : agreeV m m.n zz (s : Int) = false := by
            have e : inB m.n (s : Int) = false := decide_eq_false (by rw [← HPe.out]; omega)
            unfold agreeV; rw [e, Bool.false_and, Bool.and_false]
          rw [hv]
          clear hl hv
          go_wp2_with fail
          go_at_call 26
          refine (spec_LogicOk H3.log).mono ?_
          rintro e w4 ⟨rfl, b4⟩
          rw [HLg.out]
          have H4 := H3.step b4
          clear H3 q0 q1 b4
          have q0 := H4.box.c0
          have q1 := H4.box.c1
          go_wp2_with fail
          go_at_call 16
          refine (alive_any _).mono ?_
          rintro e w5 ⟨rfl, b5⟩
          have H5 := H4.step b5
          go_wp2_with fail
          go_ret
          exact ⟨rfl, H5.old⟩
        · have h2' : ¬ (P : Int) ≤ (s : Int) := by omega
          have hs2 : s < 2 ^ m.n := by rw [← HPe.out]; omega
          have hv : agreeV m m.n zz (s : Int) = hasL (blockL m y) s := by rw [agreeV_is HO.out h1' hs2, agree_has HO.out hs2]
          rw [hv]
          clear hl hv hs2
          go_wp2_with fail
          go_at_call 26
          refine (spec_LogicOk H3.log).mono ?_
          rintro e w4 ⟨rfl, b4⟩
          rw [HLg.out]
          have H4 := H3.step b4
          clear H3 q0 q1 b4
          have q0 := H4.box.c0
          have q1 := H4.box.c1
          go_wp2_with fail
          go_at_call 27
          refine (BlocksOf_any (nc := nc) H4.log (HT.out.step H4.old HT.out.size)).mono ?_
          rintro e w5 ⟨v, rfl, hv5, b5⟩
          have H5 := H4.step b5
          rw [HBl.out, map_range] at hv5
          have HIN : Hid (∀ j, j < (blockL m y).length → ∃ t : Nat, (blockL m y)[j]?.getD 0 = (t : Int) ∧ t < P) := fun j hj => by
            obtain ⟨t, e9, ht⟩ := blockL_in (get_in hj)
            exact ⟨t, e9, by rw [HPe.out]; exact ht.lt⟩
          clear H4 q0 q1 b5 HBl
          have hLn : (blockL m y).length ≤ 4096 := Nat.le_trans (listTo_len _ _) (pow_le_12 h12)
          generalize blockL m y = L at hv5 HIN hLn ⊢
          have hcx : ∃ a c, v = .slice a L.length c ∧ ∀ j, j < L.length → ∃ g9, a = some ⟨g9, 0, none⟩ ∧ w5.cell? ⟨g9, j, none⟩ = some (.int .i64 (L[j]?.getD 0)) := by
            rcases owns_ways hv5 with ⟨rfl, e9⟩ | ⟨g9, c9, rfl, hc9⟩
            · exact ⟨none, 0, by rw [e9], fun j hj => by omega⟩
            · exact ⟨_, c9, rfl, fun j hj => ⟨g9, rfl, hc9 j hj⟩⟩
          obtain ⟨am, cm, rfl, hcm⟩ := hcx
          have HCM := Lib.hid hcm
          have H5h := Lib.hid H5
          clear hcm hv5 H5
          obtain ⟨B, hB⟩ : ∃ B, hasL L s = B := ⟨_, rfl⟩
          rw [hB]
          have HBq := Lib.hid hB
          have e9 : (B == B) = true := by simp
          clear hB
          go_wp2_with fail
          go_loopw [7, 8] (fun a i wr => ∃ j : Nat, j ≤ L.length ∧ i = .int .i64 j ∧ a = .bool (hasL (L.take j) s) ∧ wr = w5) (fun _ i _ => L.length - (intOf i).toNat)
          case atStart => exact ⟨0, Nat.zero_le _, rfl, rfl, rfl⟩
          case round =>
            obtain ⟨j, hj, rfl, rfl, rfl⟩ := hrel
            by_cases hlt : j < L.length
            · have hlt' : (j : Int) < L.length := by omega
              obtain ⟨t, ht1, ht2⟩ := HIN.out j hlt
              obtain ⟨g9, rfl, hc9⟩ := HCM.out j hlt
              rw [ht1] at hc9
              have hst := hasL_take (s := s) hlt ht1
              have ha : bits .and .i64 (t : Int) (s : Int) = ((t &&& s : Nat) : Int) := i64_and_nat _ _ (by omega) (by omega)
              have HAnd := Lib.hid ha
              clear ht1
              cases hb : hasL (L.take j) s with
              | true =>
                rw [hb, Bool.true_or] at hst
                have Hst := Lib.hid hst
                clear hst hb hc9 ha
                go_wp2_with fail
                go_roundw
                case rel => exact ⟨j + 1, by omega, by go_num, by rw [Hst.out], by trivial⟩
                case measure => simp [intOf]; omega
              | false =>
                rw [hb, Bool.false_or] at hst
                have Hst := Lib.hid hst
                clear hst hb
                by_cases hts : t &&& s = s
                · have hts' : bits .and .i64 (t : Int) (s : Int) = (s : Int) := by rw [ha, hts]
                  have Hts := Lib.hid hts
                  clear ha hts
                  go_wp2_with fail
                  go_roundw
                  case rel => exact ⟨j + 1, by omega, by go_num, by rw [Hst.out, Hts.out]; simp, by trivial⟩
                  case measure => simp [intOf]; omega
                · have hts' : (((t &&& s : Nat) : Int) == (s : Int)) = false := by rw [beq_eq_false_iff_ne]; omega
                  have Hts := Lib.hid hts
                  clear hts
                  go_wp2_with fail
                  go_roundw
                  case rel => exact ⟨j + 1, by omega, by go_num, by rw [Hst.out, show (t &&& s == s) = false from beq_eq_false_iff_ne.2 Hts.out], by trivial⟩
                  case measure => simp [intOf]; omega
            · have hlt' : ¬ (j : Int) < L.length := by omega
              have ej : L.take j = L := List.take_of_length_le (by omega)
              rw [ej, HBq.out]
              have H5 := H5h.out
              clear ej
              go_wp2_with fail
              go_at_call 16
              refine (alive_any _).mono ?_
              rintro e w6 ⟨rfl, b6⟩
              have H6 := H5.step b6
              go_wp2_with fail
              go_ret
              exact ⟨rfl, H6.old⟩
end Go.Proofs.YtnbglbhfclohjaaDoor
