/- The law on GluedOf against the reference, walked at whatever logics. -/
import Derived.Test.YtgjacinolenheaaHa
import Derived.Test.YtgjacinolenheaaOa
namespace Go.Proofs.Ytgjacinolenheaa
open Go.RowKit Go.Deep

set_option maxRecDepth 100000 in
set_option maxHeartbeats 8000000 in
theorem law_ExactGluedOf_at {w : World} {ua0 na0 ua1 na1 : Option Addr} {l0 l1 : Lay} {m0 m1 : Mx} {g0 o0 k0 nc0 g1 o1 k1 nc1 n : Nat} {z0 z1 : Nat → Int} {Z : Nat → Nat → Int} {y : Nat → Nat} {ok : Bool}
    (h0 : LogAt w w.heap.size ua0 l0 m0 na0 g0 o0 k0 z0) (h1 : LogAt w w.heap.size ua1 l1 m1 na1 g1 o1 k1 z1)
    (hs : ∀ (W : World) (N0 q0 N1 q1 : Nat), LogAt W W.heap.size (some ⟨N0, 0, none⟩) (freshLay N0 m0) m0 (some ⟨q0, 0, none⟩) q0 0 k0 z0 → LogAt W W.heap.size (some ⟨N1, 0, none⟩) (freshLay N1 m1) m1 (some ⟨q1, 0, none⟩) q1 0 k1 z1 → k0 ≤ 1048576 → k1 ≤ 1048576 → Calls Try.prog 26 #[.agg #[.slice (some ⟨N0, 0, none⟩) m0.n m0.n, .slice (some ⟨q0, 0, none⟩) k0 k0], .agg #[.slice (some ⟨N1, 0, none⟩) m1.n m1.n, .slice (some ⟨q1, 0, none⟩) k1 k1]] W fun e w' => ResL W n Z y e ok w')
    (hi : ∀ (W : World) (N0 q0 N1 q1 : Nat), LogAt W W.heap.size (some ⟨N0, 0, none⟩) (freshLay N0 m0) m0 (some ⟨q0, 0, none⟩) q0 0 k0 z0 → LogAt W W.heap.size (some ⟨N1, 0, none⟩) (freshLay N1 m1) m1 (some ⟨q1, 0, none⟩) q1 0 k1 z1 → Calls Try.prog 25 #[.agg #[.slice (some ⟨N0, 0, none⟩) m0.n m0.n, .slice (some ⟨q0, 0, none⟩) k0 k0], .agg #[.slice (some ⟨N1, 0, none⟩) m1.n m1.n, .slice (some ⟨q1, 0, none⟩) k1 k1]] W fun e w' => ResL W n Z y e ok w') :
    Calls Try.prog 10 #[.agg #[.slice ua0 m0.n l0.cap, .slice na0 k0 nc0], .agg #[.slice ua1 m1.n l1.cap, .slice na1 k1 nc1]] w fun e w' => e = .returned (.bool true) ∧ Below w.heap.size w w' := by
  have HS := Lib.hid hs
  have HI := Lib.hid hi
  have H0 := Lib.hid h0
  have H1 := Lib.hid h1
  have e0 : (ok != ok) = false := by simp
  clear hs hi h0 h1
  have xa := TwoAt.new w (.slice ua0 m0.n l0.cap) (.slice na0 k0 nc0) 45
  have xb := TwoAt.new (w.alloc (.cells #[.slice ua0 m0.n l0.cap, .slice na0 k0 nc0] 45)) (.slice ua1 m1.n l1.cap) (.slice na1 k1 nc1) 45
  simp only [World.size_alloc] at xb
  have ba := (Below.refl w.heap.size w).alloc (Nat.le_refl _) (.cells #[.slice ua0 m0.n l0.cap, .slice na0 k0 nc0] 45)
  have bb := (Below.refl (w.heap.size + 1) (w.alloc (.cells #[.slice ua0 m0.n l0.cap, .slice na0 k0 nc0] 45))).alloc (by simp) (.cells #[.slice ua1 m1.n l1.cap, .slice na1 k1 nc1] 45)
  replace xa := xa.below bb (by omega)
  have B1 := ba.trans (bb.mono (by omega))
  have s1 : w.heap.size + 1 < ((w.alloc (.cells #[.slice ua0 m0.n l0.cap, .slice na0 k0 nc0] 45)).alloc (.cells #[.slice ua1 m1.n l1.cap, .slice na1 k1 nc1] 45)).heap.size := by simp
  clear ba bb
  have f0 := xa.c0
  have f1 := xa.c1
  have f2 := xb.c0
  have f3 := xb.c1
  go_enter Try.func10, Try.ntmps10
  go_wp2_with fail
  generalize ((w.alloc (.cells #[.slice ua0 m0.n l0.cap, .slice na0 k0 nc0] 45)).alloc (.cells #[.slice ua1 m1.n l1.cap, .slice na1 k1 nc1] 45)) = w1 at xa xb B1 s1 f0 f1 f2 f3 ⊢
  go_at_call 41
  refine (szLogic_v (by omega) (by omega) (LogAt.step H0.out B1)).mono ?_
  rintro e w2 ⟨⟨v, rfl, hv⟩, b2⟩
  have s2 := b2.size
  replace xa := xa.below b2 (by omega)
  replace xb := xb.below b2 (by omega)
  have B2 := B1.trans (b2.mono B1.size)
  clear f0 f1 f2 f3 b2
  by_cases hneg : v < 0
  · go_wp2_with fail
    go_ret
    exact ⟨rfl, B2⟩
  · obtain ⟨hn0, hL0, hk0, hv0, hv1⟩ : m0.n ≤ 1048576 ∧ (∀ r, r < m0.n → m0.L r ≤ 1048576) ∧ k0 ≤ 1048576 ∧ 0 ≤ v ∧ v ≤ 1048576 := hv.resolve_left hneg
    clear hv
    have HL0 := Lib.hid hL0
    clear hL0
    have f2 := xb.c0
    have f3 := xb.c1
    go_wp2_with fail
    go_at_call 41
    refine (szLogic_v hv0 hv1 (LogAt.step H1.out B2)).mono ?_
    rintro e wz ⟨⟨v', rfl, hv'⟩, b3⟩
    have s3 := b3.size
    replace xa := xa.below b3 (by omega)
    replace xb := xb.below b3 (by omega)
    have BZ := B2.trans (b3.mono B2.size)
    clear f2 f3 b3
    by_cases hneg' : v' < 0
    · go_wp2_with fail
      go_ret
      exact ⟨rfl, BZ⟩
    · obtain ⟨hn1, hL1, hk1, hv0', hv1'⟩ : m1.n ≤ 1048576 ∧ (∀ r, r < m1.n → m1.L r ≤ 1048576) ∧ k1 ≤ 1048576 ∧ 0 ≤ v' ∧ v' ≤ 1048576 := hv'.resolve_left hneg'
      clear hv'
      have HL1 := Lib.hid hL1
      clear hL1 B1 B2
      go_upto_region 8 with fail
      go_cut [6, 7] (fun s6 s7 wx => ∃ p : Nat, s6 = .pointer (some ⟨p, 0, none⟩) ∧ s7 = .bool ok ∧ ResBox wz n Z y p wx)
      case first =>
        have f0 := xa.c0
        have f1 := xa.c1
        have f2 := xb.c0
        have f3 := xb.c1
        have bz0 : Below wz.heap.size wz wz.drew := (Below.refl _ _).drew
        have fl0 : w.heap.size < wz.heap.size := by omega
        have fl1 : w.heap.size + 1 < wz.heap.size := by omega
        refine region_plain (fuel := 11) (listed := #[false, false, false, false, false, false, false, false, false, false, false]) (fun W' => Below wz.heap.size wz W') (by kernel_rfl) (by kernel_rfl) (by kernel_rfl) ?_
        refine hold_take (i := 0) (d := 28) (v := ?vA0) (listed' := #[true, false, false, false, false, false, false, false, false, false, false]) rfl (by kernel_rfl) (by kernel_rfl) (by kernel_rfl) rfl (by rfl) (by kernel_rfl) bz0 ?hA0 ?rA0
        case hA0 =>
          intro w' hSw
          have hSb : Below wz.heap.size wz w' := hSw; have x0 := (hSb.cell (p := ⟨w.heap.size, 0, none⟩) fl0).trans f0; have x1 := (hSb.cell (p := ⟨w.heap.size, 1, none⟩) fl0).trans f1; have x2 := (hSb.cell (p := ⟨w.heap.size + 1, 0, none⟩) fl1).trans f2; have x3 := (hSb.cell (p := ⟨w.heap.size + 1, 1, none⟩) fl1).trans f3
          go_simp
          try with_reducible rfl
        simp only [List.setIfInBounds_toArray, List.set_cons_zero, List.set_cons_succ]
        refine hold_take (i := 2) (d := 30) (v := ?vA2) (listed' := #[true, false, true, false, false, false, false, false, false, false, false]) rfl (by kernel_rfl) (by kernel_rfl) (by kernel_rfl) rfl (by rfl) (by kernel_rfl) bz0 ?hA2 ?rA2
        case hA2 =>
          intro w' hSw
          have hSb : Below wz.heap.size wz w' := hSw; have x0 := (hSb.cell (p := ⟨w.heap.size, 0, none⟩) fl0).trans f0; have x1 := (hSb.cell (p := ⟨w.heap.size, 1, none⟩) fl0).trans f1; have x2 := (hSb.cell (p := ⟨w.heap.size + 1, 0, none⟩) fl1).trans f2; have x3 := (hSb.cell (p := ⟨w.heap.size + 1, 1, none⟩) fl1).trans f3
          go_simp
          try with_reducible rfl
        simp only [List.setIfInBounds_toArray, List.set_cons_zero, List.set_cons_succ]
        clear f0 f1 f2 f3
        refine hold_two (i := 1) (j := 8) (by kernel_rfl) ?Ac ?Al
        case Ac =>
          refine opH_call (i := 1) (d := 29) (listed' := #[true, true, true, false, false, false, false, false, false, false, false]) rfl rfl (by rfl) (by kernel_rfl) ?Ace (toLogic_w (nc := nc0) (LogAt.step H0.out (BZ.trans (bz0.mono BZ.size))) hn0 HL0.out hk0) ?_
          case Ace => go_simp
          rintro e wA ⟨N0, q0, rfl, cA, bA⟩
          have bc1 : Below wz.heap.size wz wA := bz0.trans (bA.mono bz0.size)
          have zwA := bA.size
          have LA := Lib.hid cA.logAt
          clear cA
          refine ⟨_, rfl, bc1, ?_⟩
          simp only [List.setIfInBounds_toArray, List.set_cons_zero, List.set_cons_succ]
          refine hold_two (i := 3) (j := 8) (by kernel_rfl) ?Acc ?Acl
          case Acc =>
            refine opH_call (i := 3) (d := 31) (listed' := #[true, true, true, true, false, false, false, false, false, false, false]) rfl rfl (by rfl) (by kernel_rfl) ?Acce (toLogic_w (nc := nc1) (LogAt.step H1.out (BZ.trans (bc1.mono BZ.size))) hn1 HL1.out hk1) ?_
            case Acce => go_simp
            rintro e wB ⟨N1, q1, rfl, cB, bB⟩
            have bc2 : Below wz.heap.size wz wB := bc1.trans (bB.mono bc1.size)
            have zwB := bB.size
            replace LA := Lib.hid (LA.out.lift bB)
            have LB := Lib.hid cB.logAt
            clear cB
            refine ⟨_, rfl, bc2, ?_⟩
            simp only [List.setIfInBounds_toArray, List.set_cons_zero, List.set_cons_succ]
            refine hold_two (i := 4) (j := 8) (by kernel_rfl) ?Accc ?Accl
            case Accc =>
              refine opH_call (i := 4) (d := 32) (listed' := #[true, true, true, true, true, false, false, false, false, false, false]) rfl rfl (by rfl) (by kernel_rfl) ?Accce (HS.out _ N0 q0 N1 q1 LA.out LB.out hk0 hk1) ?_
              case Accce => go_simp
              rintro e wR ⟨ua, l, na, g, nc, rfl, hR, bR⟩
              have bc3 : Below wz.heap.size wz wR := bc2.trans (bR.mono bc2.size)
              have zwR := bR.size
              have HR := Lib.hid hR
              clear hR LA LB
              refine ⟨_, rfl, bc3, ?_⟩
              simp only [List.setIfInBounds_toArray, List.set_cons_zero, List.set_cons_succ]
              refine hold_take (i := 5) (d := 27) (v := ?Acccv5) (listed' := #[true, true, true, true, true, true, false, false, false, false, false]) rfl (by kernel_rfl) (by kernel_rfl) (by kernel_rfl) rfl (by rfl) (by kernel_rfl) bc3 ?Accch5 ?Acccr5
              case Accch5 =>
                intro w' hSw
                go_simp
                try with_reducible rfl
              simp only [List.setIfInBounds_toArray, List.set_cons_zero, List.set_cons_succ]
              refine hold_take (i := 6) (d := 33) (v := ?Acccv6) (listed' := #[true, true, true, true, true, true, true, false, false, false, false]) rfl (by kernel_rfl) (by kernel_rfl) (by kernel_rfl) rfl (by rfl) (by kernel_rfl) bc3 ?Accch6 ?Acccr6
              case Accch6 =>
                intro w' hSw
                go_simp
                try with_reducible rfl
              simp only [List.setIfInBounds_toArray, List.set_cons_zero, List.set_cons_succ]
              refine hold_take (i := 7) (d := 34) (v := ?Acccv7) (listed' := #[true, true, true, true, true, true, true, true, false, false, false]) rfl (by kernel_rfl) (by kernel_rfl) (by kernel_rfl) rfl (by rfl) (by kernel_rfl) bc3 ?Accch7 ?Acccr7
              case Accch7 =>
                intro w' hSw
                go_simp
                try with_reducible rfl
              simp only [List.setIfInBounds_toArray, List.set_cons_zero, List.set_cons_succ]
              have bal : Below wz.heap.size wz (wR.alloc (.cells #[.slice none 0 0, .slice none 0 0] 27)) := bc3.alloc (by have := bc3.size; omega) _
              have xp := TwoAt.new wR (.slice none 0 0) (.slice none 0 0) 27
              refine hold_value (i := 8) (d := 6) (listed' := #[true, true, true, true, true, true, true, true, true, false, false]) rfl (by kernel_rfl) rfl (by rfl) (by kernel_rfl) (v := .pointer (some ⟨wR.heap.size, 0, none⟩)) (w' := (wR.alloc (.cells #[.slice none 0 0, .slice none 0 0] 27))) ?Acccle bal ?_
              case Acccle =>
                go_simp
                try with_reducible rfl
              simp only [List.setIfInBounds_toArray, List.set_cons_zero, List.set_cons_succ]
              have bst : Below wz.heap.size wz (wR.alloc (.cells #[.slice ua n l.cap, .slice na n nc] 27)) := bc3.alloc (by have := bc3.size; omega) _
              clear xp
              refine hold_store (i := 9) (w' := wR.alloc (.cells #[.slice ua n l.cap, .slice na n nc] 27)) (listed' := #[true, true, true, true, true, true, true, true, true, true, false]) rfl (by kernel_rfl) rfl (by rfl) (by kernel_rfl) ?Acccls bst ?_
              case Acccls =>
                go_simp
                try with_reducible rfl
              refine hold_take (i := 10) (d := 7) (v := ?Accclva) (listed' := #[true, true, true, true, true, true, true, true, true, true, true]) rfl (by kernel_rfl) (by kernel_rfl) (by kernel_rfl) rfl (by rfl) (by kernel_rfl) bst ?Accclha ?Accclra
              case Accclha =>
                intro w' hSw
                go_simp
                try with_reducible rfl
              simp only [List.setIfInBounds_toArray, List.set_cons_zero, List.set_cons_succ]
              refine hold_done (by kernel_rfl) ?_ _
              have bLL := (Below.refl wR.heap.size wR).alloc (Nat.le_refl _) (.cells #[.slice ua n l.cap, .slice na n nc] 27)
              have hX : Hid (ResBox wz n Z y wR.heap.size (wR.alloc (.cells #[.slice ua n l.cap, .slice na n nc] 27))) := ⟨_, _, _, g, _, TwoAt.new _ _ _ _, ((HR.out.below bLL (Nat.le_refl _)).more bLL.size (Nat.le_refl _)).rebase (by have := bc2.size; omega), bst, bc3.size⟩
              clear bst bLL
              go_wp2_with fail
              go_meet
              exact ⟨_, rfl, rfl, hX.out⟩
            case Accl =>
              have bal : Below wz.heap.size wz (wB.alloc (.cells #[.slice none 0 0, .slice none 0 0] 27)) := bc2.alloc (by have := bc2.size; omega) _
              have xp := TwoAt.new wB (.slice none 0 0) (.slice none 0 0) 27
              refine opH_value (i := 8) (d := 6) (listed' := #[true, true, true, true, false, false, false, false, true, false, false]) rfl rfl (by rfl) (by kernel_rfl) (v := .pointer (some ⟨wB.heap.size, 0, none⟩)) (w' := (wB.alloc (.cells #[.slice none 0 0, .slice none 0 0] 27))) ?Accle bal ?_
              case Accle =>
                go_simp
                try with_reducible rfl
              simp only [List.setIfInBounds_toArray, List.set_cons_zero, List.set_cons_succ]
              have zal : wB.heap.size < (wB.alloc (.cells #[.slice none 0 0, .slice none 0 0] 27)).heap.size := by simp
              have zbl := bc2.size
              have bLL := (Below.refl wB.heap.size wB).alloc (Nat.le_refl _) (.cells #[.slice none 0 0, .slice none 0 0] 27)
              replace LA := Lib.hid (LA.out.lift bLL)
              replace LB := Lib.hid (LB.out.lift bLL)
              obtain ⟨pL, hpL⟩ : ∃ q, q = wB.heap.size := ⟨_, rfl⟩
              rw [← hpL] at xp zal zbl
              rw [← hpL]
              generalize (wB.alloc (.cells #[.slice none 0 0, .slice none 0 0] 27)) = wL at LA LB xp bal zal ⊢
              clear hpL bLL
              refine hold_call (i := 4) (d := 32) (listed' := #[true, true, true, true, true, false, false, false, true, false, false]) rfl (by kernel_rfl) rfl (by rfl) (by kernel_rfl) ?Acclce (HS.out _ N0 q0 N1 q1 LA.out LB.out hk0 hk1) ?_
              case Acclce => go_simp
              rintro e wR ⟨ua, l, na, g, nc, rfl, hR, bR⟩
              have bc3a : Below wz.heap.size wz wR := bal.trans (bR.mono bal.size)
              have zwR := bR.size
              replace xp := xp.below bR (by omega)
              have HR := Lib.hid hR
              clear hR LA LB
              refine ⟨_, rfl, bc3a, ?_⟩
              simp only [List.setIfInBounds_toArray, List.set_cons_zero, List.set_cons_succ]
              refine hold_take (i := 5) (d := 27) (v := ?Acclcv5) (listed' := #[true, true, true, true, true, true, false, false, true, false, false]) rfl (by kernel_rfl) (by kernel_rfl) (by kernel_rfl) rfl (by rfl) (by kernel_rfl) bc3a ?Acclch5 ?Acclcr5
              case Acclch5 =>
                intro w' hSw
                go_simp
                try with_reducible rfl
              simp only [List.setIfInBounds_toArray, List.set_cons_zero, List.set_cons_succ]
              refine hold_take (i := 6) (d := 33) (v := ?Acclcv6) (listed' := #[true, true, true, true, true, true, true, false, true, false, false]) rfl (by kernel_rfl) (by kernel_rfl) (by kernel_rfl) rfl (by rfl) (by kernel_rfl) bc3a ?Acclch6 ?Acclcr6
              case Acclch6 =>
                intro w' hSw
                go_simp
                try with_reducible rfl
              simp only [List.setIfInBounds_toArray, List.set_cons_zero, List.set_cons_succ]
              refine hold_take (i := 7) (d := 34) (v := ?Acclcv7) (listed' := #[true, true, true, true, true, true, true, true, true, false, false]) rfl (by kernel_rfl) (by kernel_rfl) (by kernel_rfl) rfl (by rfl) (by kernel_rfl) bc3a ?Acclch7 ?Acclcr7
              case Acclch7 =>
                intro w' hSw
                go_simp
                try with_reducible rfl
              simp only [List.setIfInBounds_toArray, List.set_cons_zero, List.set_cons_succ]
              have k0 := xp.c0
              have k1 := xp.c1
              have k2 := xp.f0
              have k3 := xp.f1
              have hon := set2_only wR pL (.slice ua n l.cap) (.slice na n nc)
              have bst : Below wz.heap.size wz ((wR.setCell ⟨pL, 0, none⟩ (.slice ua n l.cap)).setCell ⟨pL, 1, none⟩ (.slice na n nc)) := bc3a.trans (hon.below fun j hj => by have hj' : j = pL := hj; omega)
              refine hold_store (i := 9) (w' := ((wR.setCell ⟨pL, 0, none⟩ (.slice ua n l.cap)).setCell ⟨pL, 1, none⟩ (.slice na n nc))) (listed' := #[true, true, true, true, true, true, true, true, true, true, false]) rfl (by kernel_rfl) rfl (by rfl) (by kernel_rfl) ?Acclcs bst ?_
              case Acclcs =>
                go_simp
                try with_reducible rfl
              clear k0 k1 k2 k3
              refine hold_take (i := 10) (d := 7) (v := ?Acclcva) (listed' := #[true, true, true, true, true, true, true, true, true, true, true]) rfl (by kernel_rfl) (by kernel_rfl) (by kernel_rfl) rfl (by rfl) (by kernel_rfl) bst ?Acclcha ?Acclcra
              case Acclcha =>
                intro w' hSw
                go_simp
                try with_reducible rfl
              simp only [List.setIfInBounds_toArray, List.set_cons_zero, List.set_cons_succ]
              refine hold_done (by kernel_rfl) ?_ _
              have hX : Hid (ResBox wz n Z y pL ((wR.setCell ⟨pL, 0, none⟩ (.slice ua n l.cap)).setCell ⟨pL, 1, none⟩ (.slice na n nc))) := ⟨_, _, _, g, _, (xp.set0 _).set1 _, ((HR.out.chg (Chg.of_only hon) (fun j hj => by have hj' : j = pL := hj; omega)).more (Nat.le_of_eq hon.size.symm) (Nat.le_refl _)).rebase (by omega), bst, by omega⟩
              clear bst xp hon
              go_wp2_with fail
              go_meet
              exact ⟨_, rfl, rfl, hX.out⟩
          case Acl =>
            have bal : Below wz.heap.size wz (wA.alloc (.cells #[.slice none 0 0, .slice none 0 0] 27)) := bc1.alloc (by have := bc1.size; omega) _
            have xp := TwoAt.new wA (.slice none 0 0) (.slice none 0 0) 27
            refine opH_value (i := 8) (d := 6) (listed' := #[true, true, true, false, false, false, false, false, true, false, false]) rfl rfl (by rfl) (by kernel_rfl) (v := .pointer (some ⟨wA.heap.size, 0, none⟩)) (w' := (wA.alloc (.cells #[.slice none 0 0, .slice none 0 0] 27))) ?Acle bal ?_
            case Acle =>
              go_simp
              try with_reducible rfl
            simp only [List.setIfInBounds_toArray, List.set_cons_zero, List.set_cons_succ]
            have zal : wA.heap.size < (wA.alloc (.cells #[.slice none 0 0, .slice none 0 0] 27)).heap.size := by simp
            have zbl := bc1.size
            have bLL := (Below.refl wA.heap.size wA).alloc (Nat.le_refl _) (.cells #[.slice none 0 0, .slice none 0 0] 27)
            replace LA := Lib.hid (LA.out.lift bLL)
            obtain ⟨pL, hpL⟩ : ∃ q, q = wA.heap.size := ⟨_, rfl⟩
            rw [← hpL] at xp zal zbl
            rw [← hpL]
            generalize (wA.alloc (.cells #[.slice none 0 0, .slice none 0 0] 27)) = wL at LA xp bal zal ⊢
            clear hpL bLL
            refine hold_call (i := 3) (d := 31) (listed' := #[true, true, true, true, false, false, false, false, true, false, false]) rfl (by kernel_rfl) rfl (by rfl) (by kernel_rfl) ?Aclce (toLogic_w (nc := nc1) (LogAt.step H1.out (BZ.trans (bal.mono BZ.size))) hn1 HL1.out hk1) ?_
            case Aclce => go_simp
            rintro e wB ⟨N1, q1, rfl, cB, bB⟩
            have bc2a : Below wz.heap.size wz wB := bal.trans (bB.mono bal.size)
            have zwB := bB.size
            replace xp := xp.below bB (by omega)
            replace LA := Lib.hid (LA.out.lift bB)
            have LB := Lib.hid cB.logAt
            clear cB
            refine ⟨_, rfl, bc2a, ?_⟩
            simp only [List.setIfInBounds_toArray, List.set_cons_zero, List.set_cons_succ]
            refine hold_call (i := 4) (d := 32) (listed' := #[true, true, true, true, true, false, false, false, true, false, false]) rfl (by kernel_rfl) rfl (by rfl) (by kernel_rfl) ?Aclcce (HS.out _ N0 q0 N1 q1 LA.out LB.out hk0 hk1) ?_
            case Aclcce => go_simp
            rintro e wR ⟨ua, l, na, g, nc, rfl, hR, bR⟩
            have bc3a : Below wz.heap.size wz wR := bc2a.trans (bR.mono bc2a.size)
            have zwR := bR.size
            replace xp := xp.below bR (by omega)
            have HR := Lib.hid hR
            clear hR LA LB
            refine ⟨_, rfl, bc3a, ?_⟩
            simp only [List.setIfInBounds_toArray, List.set_cons_zero, List.set_cons_succ]
            refine hold_take (i := 5) (d := 27) (v := ?Aclccv5) (listed' := #[true, true, true, true, true, true, false, false, true, false, false]) rfl (by kernel_rfl) (by kernel_rfl) (by kernel_rfl) rfl (by rfl) (by kernel_rfl) bc3a ?Aclcch5 ?Aclccr5
            case Aclcch5 =>
              intro w' hSw
              go_simp
              try with_reducible rfl
            simp only [List.setIfInBounds_toArray, List.set_cons_zero, List.set_cons_succ]
            refine hold_take (i := 6) (d := 33) (v := ?Aclccv6) (listed' := #[true, true, true, true, true, true, true, false, true, false, false]) rfl (by kernel_rfl) (by kernel_rfl) (by kernel_rfl) rfl (by rfl) (by kernel_rfl) bc3a ?Aclcch6 ?Aclccr6
            case Aclcch6 =>
              intro w' hSw
              go_simp
              try with_reducible rfl
            simp only [List.setIfInBounds_toArray, List.set_cons_zero, List.set_cons_succ]
            refine hold_take (i := 7) (d := 34) (v := ?Aclccv7) (listed' := #[true, true, true, true, true, true, true, true, true, false, false]) rfl (by kernel_rfl) (by kernel_rfl) (by kernel_rfl) rfl (by rfl) (by kernel_rfl) bc3a ?Aclcch7 ?Aclccr7
            case Aclcch7 =>
              intro w' hSw
              go_simp
              try with_reducible rfl
            simp only [List.setIfInBounds_toArray, List.set_cons_zero, List.set_cons_succ]
            have k0 := xp.c0
            have k1 := xp.c1
            have k2 := xp.f0
            have k3 := xp.f1
            have hon := set2_only wR pL (.slice ua n l.cap) (.slice na n nc)
            have bst : Below wz.heap.size wz ((wR.setCell ⟨pL, 0, none⟩ (.slice ua n l.cap)).setCell ⟨pL, 1, none⟩ (.slice na n nc)) := bc3a.trans (hon.below fun j hj => by have hj' : j = pL := hj; omega)
            refine hold_store (i := 9) (w' := ((wR.setCell ⟨pL, 0, none⟩ (.slice ua n l.cap)).setCell ⟨pL, 1, none⟩ (.slice na n nc))) (listed' := #[true, true, true, true, true, true, true, true, true, true, false]) rfl (by kernel_rfl) rfl (by rfl) (by kernel_rfl) ?Aclccs bst ?_
            case Aclccs =>
              go_simp
              try with_reducible rfl
            clear k0 k1 k2 k3
            refine hold_take (i := 10) (d := 7) (v := ?Aclccva) (listed' := #[true, true, true, true, true, true, true, true, true, true, true]) rfl (by kernel_rfl) (by kernel_rfl) (by kernel_rfl) rfl (by rfl) (by kernel_rfl) bst ?Aclccha ?Aclccra
            case Aclccha =>
              intro w' hSw
              go_simp
              try with_reducible rfl
            simp only [List.setIfInBounds_toArray, List.set_cons_zero, List.set_cons_succ]
            refine hold_done (by kernel_rfl) ?_ _
            have hX : Hid (ResBox wz n Z y pL ((wR.setCell ⟨pL, 0, none⟩ (.slice ua n l.cap)).setCell ⟨pL, 1, none⟩ (.slice na n nc))) := ⟨_, _, _, g, _, (xp.set0 _).set1 _, ((HR.out.chg (Chg.of_only hon) (fun j hj => by have hj' : j = pL := hj; omega)).more (Nat.le_of_eq hon.size.symm) (Nat.le_refl _)).rebase (by omega), bst, by omega⟩
            clear bst xp hon
            go_wp2_with fail
            go_meet
            exact ⟨_, rfl, rfl, hX.out⟩
        case Al =>
          have bal : Below wz.heap.size wz (wz.drew.alloc (.cells #[.slice none 0 0, .slice none 0 0] 27)) := bz0.alloc (by have := bz0.size; omega) _
          have xp := TwoAt.new wz.drew (.slice none 0 0) (.slice none 0 0) 27
          refine opH_value (i := 8) (d := 6) (listed' := #[true, false, true, false, false, false, false, false, true, false, false]) rfl rfl (by rfl) (by kernel_rfl) (v := .pointer (some ⟨wz.drew.heap.size, 0, none⟩)) (w' := (wz.drew.alloc (.cells #[.slice none 0 0, .slice none 0 0] 27))) ?Ale bal ?_
          case Ale =>
            go_simp
            try with_reducible rfl
          simp only [List.setIfInBounds_toArray, List.set_cons_zero, List.set_cons_succ]
          have zal : wz.drew.heap.size < (wz.drew.alloc (.cells #[.slice none 0 0, .slice none 0 0] 27)).heap.size := by simp
          have zbl := bz0.size
          have bLL := (Below.refl wz.drew.heap.size wz.drew).alloc (Nat.le_refl _) (.cells #[.slice none 0 0, .slice none 0 0] 27)
          obtain ⟨pL, hpL⟩ : ∃ q, q = wz.drew.heap.size := ⟨_, rfl⟩
          rw [← hpL] at xp zal zbl
          rw [← hpL]
          generalize (wz.drew.alloc (.cells #[.slice none 0 0, .slice none 0 0] 27)) = wL at xp bal zal ⊢
          clear hpL bLL
          refine hold_call (i := 1) (d := 29) (listed' := #[true, true, true, false, false, false, false, false, true, false, false]) rfl (by kernel_rfl) rfl (by rfl) (by kernel_rfl) ?Alce (toLogic_w (nc := nc0) (LogAt.step H0.out (BZ.trans (bal.mono BZ.size))) hn0 HL0.out hk0) ?_
          case Alce => go_simp
          rintro e wA ⟨N0, q0, rfl, cA, bA⟩
          have bc1a : Below wz.heap.size wz wA := bal.trans (bA.mono bal.size)
          have zwA := bA.size
          replace xp := xp.below bA (by omega)
          have LA := Lib.hid cA.logAt
          clear cA
          refine ⟨_, rfl, bc1a, ?_⟩
          simp only [List.setIfInBounds_toArray, List.set_cons_zero, List.set_cons_succ]
          refine hold_call (i := 3) (d := 31) (listed' := #[true, true, true, true, false, false, false, false, true, false, false]) rfl (by kernel_rfl) rfl (by rfl) (by kernel_rfl) ?Alcce (toLogic_w (nc := nc1) (LogAt.step H1.out (BZ.trans (bc1a.mono BZ.size))) hn1 HL1.out hk1) ?_
          case Alcce => go_simp
          rintro e wB ⟨N1, q1, rfl, cB, bB⟩
          have bc2a : Below wz.heap.size wz wB := bc1a.trans (bB.mono bc1a.size)
          have zwB := bB.size
          replace xp := xp.below bB (by omega)
          replace LA := Lib.hid (LA.out.lift bB)
          have LB := Lib.hid cB.logAt
          clear cB
          refine ⟨_, rfl, bc2a, ?_⟩
          simp only [List.setIfInBounds_toArray, List.set_cons_zero, List.set_cons_succ]
          refine hold_call (i := 4) (d := 32) (listed' := #[true, true, true, true, true, false, false, false, true, false, false]) rfl (by kernel_rfl) rfl (by rfl) (by kernel_rfl) ?Alccce (HS.out _ N0 q0 N1 q1 LA.out LB.out hk0 hk1) ?_
          case Alccce => go_simp
          rintro e wR ⟨ua, l, na, g, nc, rfl, hR, bR⟩
          have bc3a : Below wz.heap.size wz wR := bc2a.trans (bR.mono bc2a.size)
          have zwR := bR.size
          replace xp := xp.below bR (by omega)
          have HR := Lib.hid hR
          clear hR LA LB
          refine ⟨_, rfl, bc3a, ?_⟩
          simp only [List.setIfInBounds_toArray, List.set_cons_zero, List.set_cons_succ]
          refine hold_take (i := 5) (d := 27) (v := ?Alcccv5) (listed' := #[true, true, true, true, true, true, false, false, true, false, false]) rfl (by kernel_rfl) (by kernel_rfl) (by kernel_rfl) rfl (by rfl) (by kernel_rfl) bc3a ?Alccch5 ?Alcccr5
          case Alccch5 =>
            intro w' hSw
            go_simp
            try with_reducible rfl
          simp only [List.setIfInBounds_toArray, List.set_cons_zero, List.set_cons_succ]
          refine hold_take (i := 6) (d := 33) (v := ?Alcccv6) (listed' := #[true, true, true, true, true, true, true, false, true, false, false]) rfl (by kernel_rfl) (by kernel_rfl) (by kernel_rfl) rfl (by rfl) (by kernel_rfl) bc3a ?Alccch6 ?Alcccr6
          case Alccch6 =>
            intro w' hSw
            go_simp
            try with_reducible rfl
          simp only [List.setIfInBounds_toArray, List.set_cons_zero, List.set_cons_succ]
          refine hold_take (i := 7) (d := 34) (v := ?Alcccv7) (listed' := #[true, true, true, true, true, true, true, true, true, false, false]) rfl (by kernel_rfl) (by kernel_rfl) (by kernel_rfl) rfl (by rfl) (by kernel_rfl) bc3a ?Alccch7 ?Alcccr7
          case Alccch7 =>
            intro w' hSw
            go_simp
            try with_reducible rfl
          simp only [List.setIfInBounds_toArray, List.set_cons_zero, List.set_cons_succ]
          have k0 := xp.c0
          have k1 := xp.c1
          have k2 := xp.f0
          have k3 := xp.f1
          have hon := set2_only wR pL (.slice ua n l.cap) (.slice na n nc)
          have bst : Below wz.heap.size wz ((wR.setCell ⟨pL, 0, none⟩ (.slice ua n l.cap)).setCell ⟨pL, 1, none⟩ (.slice na n nc)) := bc3a.trans (hon.below fun j hj => by have hj' : j = pL := hj; omega)
          refine hold_store (i := 9) (w' := ((wR.setCell ⟨pL, 0, none⟩ (.slice ua n l.cap)).setCell ⟨pL, 1, none⟩ (.slice na n nc))) (listed' := #[true, true, true, true, true, true, true, true, true, true, false]) rfl (by kernel_rfl) rfl (by rfl) (by kernel_rfl) ?Alcccs bst ?_
          case Alcccs =>
            go_simp
            try with_reducible rfl
          clear k0 k1 k2 k3
          refine hold_take (i := 10) (d := 7) (v := ?Alcccva) (listed' := #[true, true, true, true, true, true, true, true, true, true, true]) rfl (by kernel_rfl) (by kernel_rfl) (by kernel_rfl) rfl (by rfl) (by kernel_rfl) bst ?Alcccha ?Alcccra
          case Alcccha =>
            intro w' hSw
            go_simp
            try with_reducible rfl
          simp only [List.setIfInBounds_toArray, List.set_cons_zero, List.set_cons_succ]
          refine hold_done (by kernel_rfl) ?_ _
          have hX : Hid (ResBox wz n Z y pL ((wR.setCell ⟨pL, 0, none⟩ (.slice ua n l.cap)).setCell ⟨pL, 1, none⟩ (.slice na n nc))) := ⟨_, _, _, g, _, (xp.set0 _).set1 _, ((HR.out.chg (Chg.of_only hon) (fun j hj => by have hj' : j = pL := hj; omega)).more (Nat.le_of_eq hon.size.symm) (Nat.le_refl _)).rebase (by omega), bst, by omega⟩
          clear bst xp hon
          go_wp2_with fail
          go_meet
          exact ⟨_, rfl, rfl, hX.out⟩
      case rest =>
        generalize wc = wx at hcut ⊢
        obtain ⟨p6, rfl, rfl, uaW, lW, naW, gW, ncW, x6, hW, bW, l6⟩ := hcut
        have BX := BZ
        have s10 := bW.size
        have L6 : p6 < wx.heap.size := World.block_lt_of_cell? wx ⟨p6, 0, none⟩ x6.c0
        replace xa := xa.below bW (by omega)
        replace xb := xb.below bW (by omega)
        replace BX := BX.trans (bW.mono BX.size)
        have W := Lib.hid hW
        clear hW bW
        have cxa0 := xa.c0
        have cxa1 := xa.c1
        go_wp2_with fail
        go_at_call 42
        refine (toLogic_w (nc := nc0) (LogAt.step H0.out BX) hn0 HL0.out hk0).mono ?_
        rintro e wc0 ⟨N0, q0, rfl, hc, b⟩
        have s11 := b.size
        clear cxa0 cxa1
        replace xa := xa.below b (by omega)
        replace xb := xb.below b (by omega)
        replace x6 := x6.below b (by omega)
        replace W := Lib.hid (W.out.below b (by omega))
        replace BX := BX.trans (b.mono BX.size)
        have X0 := Lib.hid hc
        clear hc b
        have xx0 := TwoAt.new wc0 (.slice (some ⟨N0, 0, none⟩) m0.n m0.n) (.slice (some ⟨q0, 0, none⟩) k0 k0) 27
        have ba := (Below.refl wc0.heap.size wc0).alloc (Nat.le_refl _) (.cells #[.slice (some ⟨N0, 0, none⟩) m0.n m0.n, .slice (some ⟨q0, 0, none⟩) k0 k0] 27)
        replace xa := xa.below ba (by omega)
        replace xb := xb.below ba (by omega)
        replace x6 := x6.below ba (by omega)
        replace W := Lib.hid (W.out.below ba (by omega))
        replace X0 := Lib.hid (X0.out.below ba (by omega))
        replace BX := BX.trans (ba.mono BX.size)
        have s12 : (wc0.alloc (.cells #[.slice (some ⟨N0, 0, none⟩) m0.n m0.n, .slice (some ⟨q0, 0, none⟩) k0 k0] 27)).heap.size = wc0.heap.size + 1 := by simp
        clear ba
        have cxb0 := xb.c0
        have cxb1 := xb.c1
        go_wp2_with fail
        generalize wc0.alloc (.cells #[.slice (some ⟨N0, 0, none⟩) m0.n m0.n, .slice (some ⟨q0, 0, none⟩) k0 k0] 27) = wd0 at xa xb x6 xx0 W X0 BX s12 cxb0 cxb1 ⊢
        go_at_call 42
        refine (toLogic_w (nc := nc1) (LogAt.step H1.out BX) hn1 HL1.out hk1).mono ?_
        rintro e wc1 ⟨N1, q1, rfl, hc, b⟩
        have s13 := b.size
        clear cxb0 cxb1
        replace xa := xa.below b (by omega)
        replace xb := xb.below b (by omega)
        replace x6 := x6.below b (by omega)
        replace xx0 := xx0.below b (by omega)
        replace W := Lib.hid (W.out.below b (by omega))
        replace X0 := Lib.hid (X0.out.below b (by omega))
        replace BX := BX.trans (b.mono BX.size)
        have X1 := Lib.hid hc
        clear hc b
        have xx1 := TwoAt.new wc1 (.slice (some ⟨N1, 0, none⟩) m1.n m1.n) (.slice (some ⟨q1, 0, none⟩) k1 k1) 27
        have ba := (Below.refl wc1.heap.size wc1).alloc (Nat.le_refl _) (.cells #[.slice (some ⟨N1, 0, none⟩) m1.n m1.n, .slice (some ⟨q1, 0, none⟩) k1 k1] 27)
        replace xa := xa.below ba (by omega)
        replace xb := xb.below ba (by omega)
        replace x6 := x6.below ba (by omega)
        replace xx0 := xx0.below ba (by omega)
        replace W := Lib.hid (W.out.below ba (by omega))
        replace X0 := Lib.hid (X0.out.below ba (by omega))
        replace X1 := Lib.hid (X1.out.below ba (by omega))
        replace BX := BX.trans (ba.mono BX.size)
        have s14 : (wc1.alloc (.cells #[.slice (some ⟨N1, 0, none⟩) m1.n m1.n, .slice (some ⟨q1, 0, none⟩) k1 k1] 27)).heap.size = wc1.heap.size + 1 := by simp
        clear ba
        have cxx00 := xx0.c0
        have cxx01 := xx0.c1
        have cxx10 := xx1.c0
        have cxx11 := xx1.c1
        go_wp2_with fail
        generalize wc1.alloc (.cells #[.slice (some ⟨N1, 0, none⟩) m1.n m1.n, .slice (some ⟨q1, 0, none⟩) k1 k1] 27) = wd1 at xa xb x6 xx0 xx1 W X0 X1 BX s14 cxx00 cxx01 cxx10 cxx11 ⊢
        go_at_call 25
        refine (HI.out _ N0 q0 N1 q1 (X0.out.more (B' := wd1.heap.size) (by omega) (Nat.le_refl _)).logAt (X1.out.more (B' := wd1.heap.size) (by omega) (Nat.le_refl _)).logAt).mono ?_
        rintro e we ⟨uaG, lG, naG, gG, ncG, rfl, hG, b⟩
        have s15 := b.size
        clear cxx00 cxx01 cxx10 cxx11
        replace xa := xa.below b (by omega)
        replace xb := xb.below b (by omega)
        replace x6 := x6.below b (by omega)
        replace xx0 := xx0.below b (by omega)
        replace xx1 := xx1.below b (by omega)
        replace W := Lib.hid (W.out.below b (by omega))
        replace X0 := Lib.hid (X0.out.below b (by omega))
        replace X1 := Lib.hid (X1.out.below b (by omega))
        replace BX := BX.trans (b.mono BX.size)
        have G := Lib.hid hG
        clear hG b
        have xg := TwoAt.new we (.slice uaG n lG.cap) (.slice naG n ncG) 27
        have ba := (Below.refl we.heap.size we).alloc (Nat.le_refl _) (.cells #[.slice uaG n lG.cap, .slice naG n ncG] 27)
        replace xa := xa.below ba (by omega)
        replace xb := xb.below ba (by omega)
        replace x6 := x6.below ba (by omega)
        replace xx0 := xx0.below ba (by omega)
        replace xx1 := xx1.below ba (by omega)
        replace W := Lib.hid (W.out.below ba (by omega))
        replace X0 := Lib.hid (X0.out.below ba (by omega))
        replace X1 := Lib.hid (X1.out.below ba (by omega))
        replace G := Lib.hid (G.out.below ba (by omega))
        replace BX := BX.trans (ba.mono BX.size)
        have s16 : (we.alloc (.cells #[.slice uaG n lG.cap, .slice naG n ncG] 27)).heap.size = we.heap.size + 1 := by simp
        clear ba
        have cxg0 := xg.c0
        have cxg1 := xg.c1
        have cx60 := x6.c0
        have cx61 := x6.c1
        go_wp2_with fail
        generalize we.alloc (.cells #[.slice uaG n lG.cap, .slice naG n ncG] 27) = wf at xa xb x6 xx0 xx1 xg W X0 X1 G BX s16 cxg0 cxg1 cx60 cx61 ⊢
        go_at_call 38
        refine (eqLogic_any G.out.logAt W.out.logAt).mono ?_
        rintro e wg ⟨rfl, b⟩
        have s17 := b.size
        clear cxg0 cxg1 cx60 cx61
        replace xa := xa.below b (by omega)
        replace xb := xb.below b (by omega)
        replace x6 := x6.below b (by omega)
        replace xx0 := xx0.below b (by omega)
        replace xx1 := xx1.below b (by omega)
        replace xg := xg.below b (by omega)
        replace W := Lib.hid (W.out.below b (by omega))
        replace X0 := Lib.hid (X0.out.below b (by omega))
        replace X1 := Lib.hid (X1.out.below b (by omega))
        replace G := Lib.hid (G.out.below b (by omega))
        replace BX := BX.trans (b.mono BX.size)
        clear b
        have cxx00 := xx0.c0
        have cxx01 := xx0.c1
        have cxa0 := xa.c0
        have cxa1 := xa.c1
        have Kb : Below wg.heap.size wg wg.drew := (Below.refl _ _).drew
        have fl0 : wc0.heap.size < wg.heap.size := by omega
        have fl1 : w.heap.size < wg.heap.size := by omega
        go_wp2_with fail
        refine region_plain (fuel := 5) (listed := #[false, false, false, false, false]) (fun W' => Below wg.heap.size wg W') (by kernel_rfl) (by kernel_rfl) (by kernel_rfl) ?_
        refine hold_take (i := 0) (d := 54) (v := ?vq140) (listed' := #[true, false, false, false, false]) rfl (by kernel_rfl) (by kernel_rfl) (by kernel_rfl) rfl (by rfl) (by kernel_rfl) Kb ?hq140 ?rq140
        case hq140 =>
          intro w' hSw
          have hSb : Below wg.heap.size wg w' := hSw; have y0 := (hSb.cell (p := ⟨wc0.heap.size, 0, none⟩) fl0).trans cxx00; have y1 := (hSb.cell (p := ⟨wc0.heap.size, 1, none⟩) fl0).trans cxx01; have y2 := (hSb.cell (p := ⟨w.heap.size, 0, none⟩) fl1).trans cxa0; have y3 := (hSb.cell (p := ⟨w.heap.size, 1, none⟩) fl1).trans cxa1
          go_simp
          try with_reducible rfl
        simp only [List.setIfInBounds_toArray, List.set_cons_zero, List.set_cons_succ]
        refine hold_take (i := 1) (d := 55) (v := ?vq141) (listed' := #[true, true, false, false, false]) rfl (by kernel_rfl) (by kernel_rfl) (by kernel_rfl) rfl (by rfl) (by kernel_rfl) Kb ?hq141 ?rq141
        case hq141 =>
          intro w' hSw
          have hSb : Below wg.heap.size wg w' := hSw; have y0 := (hSb.cell (p := ⟨wc0.heap.size, 0, none⟩) fl0).trans cxx00; have y1 := (hSb.cell (p := ⟨wc0.heap.size, 1, none⟩) fl0).trans cxx01; have y2 := (hSb.cell (p := ⟨w.heap.size, 0, none⟩) fl1).trans cxa0; have y3 := (hSb.cell (p := ⟨w.heap.size, 1, none⟩) fl1).trans cxa1
          go_simp
          try with_reducible rfl
        simp only [List.setIfInBounds_toArray, List.set_cons_zero, List.set_cons_succ]
        refine hold_call (i := 2) (d := 56) (listed' := #[true, true, true, false, false]) rfl (by kernel_rfl) rfl (by rfl) (by kernel_rfl) ?heq142 (toLogic_w (nc := nc0) (LogAt.step H0.out (BX.trans (Kb.mono BX.size))) hn0 HL0.out hk0) ?hcq142
        case heq142 => go_simp
        rintro e wh0 ⟨NN0, qq0, rfl, hc, b⟩
        have Kc : Below wg.heap.size wg wh0 := Kb.trans (b.mono Kb.size)
        have Y0 := Lib.hid hc
        clear hc b
        have sk := Kc.size
        refine ⟨_, rfl, Kc, ?_⟩
        simp only [List.setIfInBounds_toArray, List.set_cons_zero, List.set_cons_succ]
        refine hold_call (i := 3) (d := 57) (listed' := #[true, true, true, true, false]) rfl (by kernel_rfl) rfl (by rfl) (by kernel_rfl) ?heq143 (eqLogic_any (nc := k0) (nc' := k0) (X0.out.below Kc (by omega)).logAt Y0.out.logAt) ?hcq143
        case heq143 =>
          go_simp
          try exact ⟨rfl, rfl⟩
        rintro e wi0 ⟨rfl, b⟩
        have Kd : Below wg.heap.size wg wi0 := Kc.trans (b.mono Kc.size)
        clear b Y0 Kc sk
        refine ⟨_, rfl, Kd, ?_⟩
        simp only [List.setIfInBounds_toArray, List.set_cons_zero, List.set_cons_succ]
        refine hold_take (i := 4) (d := 58) (v := ?vq144) (listed' := #[true, true, true, true, true]) rfl (by kernel_rfl) (by kernel_rfl) (by kernel_rfl) rfl (by rfl) (by kernel_rfl) Kd ?hq144 ?rq144
        case hq144 =>
          intro w' hSw
          have hSb : Below wg.heap.size wg w' := hSw; have y0 := (hSb.cell (p := ⟨wc0.heap.size, 0, none⟩) fl0).trans cxx00; have y1 := (hSb.cell (p := ⟨wc0.heap.size, 1, none⟩) fl0).trans cxx01; have y2 := (hSb.cell (p := ⟨w.heap.size, 0, none⟩) fl1).trans cxa0; have y3 := (hSb.cell (p := ⟨w.heap.size, 1, none⟩) fl1).trans cxa1
          go_simp
          try with_reducible rfl
        simp only [List.setIfInBounds_toArray, List.set_cons_zero, List.set_cons_succ]
        refine hold_done (by kernel_rfl) ?_ _
        clear cxx00 cxx01 cxa0 cxa1
        have s18 := Kd.size
        replace xa := xa.below Kd (by omega)
        replace xb := xb.below Kd (by omega)
        replace x6 := x6.below Kd (by omega)
        replace xx0 := xx0.below Kd (by omega)
        replace xx1 := xx1.below Kd (by omega)
        replace xg := xg.below Kd (by omega)
        replace W := Lib.hid (W.out.below Kd (by omega))
        replace X0 := Lib.hid (X0.out.below Kd (by omega))
        replace X1 := Lib.hid (X1.out.below Kd (by omega))
        replace G := Lib.hid (G.out.below Kd (by omega))
        replace BX := BX.trans (Kd.mono BX.size)
        clear Kb Kd fl0 fl1
        go_wp2_with fail
        have cxx10 := xx1.c0
        have cxx11 := xx1.c1
        have cxb0 := xb.c0
        have cxb1 := xb.c1
        have Kb : Below wi0.heap.size wi0 wi0.drew := (Below.refl _ _).drew
        have fl0 : wc1.heap.size < wi0.heap.size := by omega
        have fl1 : w.heap.size + 1 < wi0.heap.size := by omega
        go_wp2_with fail
        refine region_plain (fuel := 5) (listed := #[false, false, false, false, false]) (fun W' => Below wi0.heap.size wi0 W') (by kernel_rfl) (by kernel_rfl) (by kernel_rfl) ?_
        refine hold_take (i := 0) (d := 59) (v := ?vq160) (listed' := #[true, false, false, false, false]) rfl (by kernel_rfl) (by kernel_rfl) (by kernel_rfl) rfl (by rfl) (by kernel_rfl) Kb ?hq160 ?rq160
        case hq160 =>
          intro w' hSw
          have hSb : Below wi0.heap.size wi0 w' := hSw; have y0 := (hSb.cell (p := ⟨wc1.heap.size, 0, none⟩) fl0).trans cxx10; have y1 := (hSb.cell (p := ⟨wc1.heap.size, 1, none⟩) fl0).trans cxx11; have y2 := (hSb.cell (p := ⟨w.heap.size + 1, 0, none⟩) fl1).trans cxb0; have y3 := (hSb.cell (p := ⟨w.heap.size + 1, 1, none⟩) fl1).trans cxb1
          go_simp
          try with_reducible rfl
        simp only [List.setIfInBounds_toArray, List.set_cons_zero, List.set_cons_succ]
        refine hold_take (i := 1) (d := 60) (v := ?vq161) (listed' := #[true, true, false, false, false]) rfl (by kernel_rfl) (by kernel_rfl) (by kernel_rfl) rfl (by rfl) (by kernel_rfl) Kb ?hq161 ?rq161
        case hq161 =>
          intro w' hSw
          have hSb : Below wi0.heap.size wi0 w' := hSw; have y0 := (hSb.cell (p := ⟨wc1.heap.size, 0, none⟩) fl0).trans cxx10; have y1 := (hSb.cell (p := ⟨wc1.heap.size, 1, none⟩) fl0).trans cxx11; have y2 := (hSb.cell (p := ⟨w.heap.size + 1, 0, none⟩) fl1).trans cxb0; have y3 := (hSb.cell (p := ⟨w.heap.size + 1, 1, none⟩) fl1).trans cxb1
          go_simp
          try with_reducible rfl
        simp only [List.setIfInBounds_toArray, List.set_cons_zero, List.set_cons_succ]
        refine hold_call (i := 2) (d := 61) (listed' := #[true, true, true, false, false]) rfl (by kernel_rfl) rfl (by rfl) (by kernel_rfl) ?heq162 (toLogic_w (nc := nc1) (LogAt.step H1.out (BX.trans (Kb.mono BX.size))) hn1 HL1.out hk1) ?hcq162
        case heq162 => go_simp
        rintro e wh1 ⟨NN1, qq1, rfl, hc, b⟩
        have Kc : Below wi0.heap.size wi0 wh1 := Kb.trans (b.mono Kb.size)
        have Y1 := Lib.hid hc
        clear hc b
        have sk := Kc.size
        refine ⟨_, rfl, Kc, ?_⟩
        simp only [List.setIfInBounds_toArray, List.set_cons_zero, List.set_cons_succ]
        refine hold_call (i := 3) (d := 62) (listed' := #[true, true, true, true, false]) rfl (by kernel_rfl) rfl (by rfl) (by kernel_rfl) ?heq163 (eqLogic_any (nc := k1) (nc' := k1) (X1.out.below Kc (by omega)).logAt Y1.out.logAt) ?hcq163
        case heq163 =>
          go_simp
          try exact ⟨rfl, rfl⟩
        rintro e wi1 ⟨rfl, b⟩
        have Kd : Below wi0.heap.size wi0 wi1 := Kc.trans (b.mono Kc.size)
        clear b Y1 Kc sk
        refine ⟨_, rfl, Kd, ?_⟩
        simp only [List.setIfInBounds_toArray, List.set_cons_zero, List.set_cons_succ]
        refine hold_take (i := 4) (d := 63) (v := ?vq164) (listed' := #[true, true, true, true, true]) rfl (by kernel_rfl) (by kernel_rfl) (by kernel_rfl) rfl (by rfl) (by kernel_rfl) Kd ?hq164 ?rq164
        case hq164 =>
          intro w' hSw
          have hSb : Below wi0.heap.size wi0 w' := hSw; have y0 := (hSb.cell (p := ⟨wc1.heap.size, 0, none⟩) fl0).trans cxx10; have y1 := (hSb.cell (p := ⟨wc1.heap.size, 1, none⟩) fl0).trans cxx11; have y2 := (hSb.cell (p := ⟨w.heap.size + 1, 0, none⟩) fl1).trans cxb0; have y3 := (hSb.cell (p := ⟨w.heap.size + 1, 1, none⟩) fl1).trans cxb1
          go_simp
          try with_reducible rfl
        simp only [List.setIfInBounds_toArray, List.set_cons_zero, List.set_cons_succ]
        refine hold_done (by kernel_rfl) ?_ _
        clear cxx10 cxx11 cxb0 cxb1
        have s19 := Kd.size
        replace xa := xa.below Kd (by omega)
        replace xb := xb.below Kd (by omega)
        replace x6 := x6.below Kd (by omega)
        replace xx0 := xx0.below Kd (by omega)
        replace xx1 := xx1.below Kd (by omega)
        replace xg := xg.below Kd (by omega)
        replace W := Lib.hid (W.out.below Kd (by omega))
        replace X0 := Lib.hid (X0.out.below Kd (by omega))
        replace X1 := Lib.hid (X1.out.below Kd (by omega))
        replace G := Lib.hid (G.out.below Kd (by omega))
        replace BX := BX.trans (Kd.mono BX.size)
        clear Kb Kd fl0 fl1
        have ma0 := markAt_lo (m := m0) (k0 := 1) hn0 HL0.out (by omega)
        have ma1 := markAt_lo (m := m1) (k0 := markAt m0 1 + k0) hn1 HL1.out (by omega)
        have cxx00 := xx0.c0
        have cxx01 := xx0.c1
        go_wp2_with fail
        go_at_call 39
        refine (markLogic_w (k0 := 1) X0.out (by omega)).mono ?_
        rintro e wj0 ⟨rfl, c, hX⟩
        have s20 := c.size
        clear cxx00 cxx01
        replace xa := c.two xa (by show ¬ (_ ∧ _); omega)
        replace xb := c.two xb (by show ¬ (_ ∧ _); omega)
        replace x6 := c.two x6 (by show ¬ (_ ∧ _); omega)
        replace xx0 := c.two xx0 (by show ¬ (_ ∧ _); omega)
        replace xx1 := c.two xx1 (by show ¬ (_ ∧ _); omega)
        replace xg := c.two xg (by show ¬ (_ ∧ _); omega)
        replace W := Lib.hid (W.out.chg c (fun j hj => by have hj' : wx.heap.size ≤ j ∧ j < wc0.heap.size := hj; omega))
        replace X1 := Lib.hid (X1.out.chg c (fun j hj => by have hj' : wx.heap.size ≤ j ∧ j < wc0.heap.size := hj; omega))
        replace G := Lib.hid (G.out.chg c (fun j hj => by have hj' : wx.heap.size ≤ j ∧ j < wc0.heap.size := hj; omega))
        replace BX := BX.trans (c.below (by omega) fun j hj => by have hj' : wx.heap.size ≤ j ∧ j < wc0.heap.size := hj; omega)
        clear c hX X0
        have cxx10 := xx1.c0
        have cxx11 := xx1.c1
        go_wp2_with fail
        go_at_call 39
        refine (markLogic_w (k0 := markAt m0 1 + k0) X1.out (by omega)).mono ?_
        rintro e wj1 ⟨rfl, c, hX⟩
        have s21 := c.size
        clear cxx10 cxx11
        replace xa := c.two xa (by show ¬ (_ ∧ _); omega)
        replace xb := c.two xb (by show ¬ (_ ∧ _); omega)
        replace x6 := c.two x6 (by show ¬ (_ ∧ _); omega)
        replace xx0 := c.two xx0 (by show ¬ (_ ∧ _); omega)
        replace xx1 := c.two xx1 (by show ¬ (_ ∧ _); omega)
        replace xg := c.two xg (by show ¬ (_ ∧ _); omega)
        replace W := Lib.hid (W.out.chg c (fun j hj => by have hj' : wd0.heap.size ≤ j ∧ j < wc1.heap.size := hj; omega))
        replace G := Lib.hid (G.out.chg c (fun j hj => by have hj' : wd0.heap.size ≤ j ∧ j < wc1.heap.size := hj; omega))
        replace BX := BX.trans (c.below (by omega) fun j hj => by have hj' : wd0.heap.size ≤ j ∧ j < wc1.heap.size := hj; omega)
        clear c hX X1
        have cxg0 := xg.c0
        have cxg1 := xg.c1
        have cx60 := x6.c0
        have cx61 := x6.c1
        go_wp2_with fail
        go_at_call 38
        refine (eqLogic_any G.out.logAt W.out.logAt).mono ?_
        rintro e wk ⟨rfl, b⟩
        have s22 := b.size
        clear cxg0 cxg1 cx60 cx61
        replace xa := xa.below b (by omega)
        replace xb := xb.below b (by omega)
        replace x6 := x6.below b (by omega)
        replace xx0 := xx0.below b (by omega)
        replace xx1 := xx1.below b (by omega)
        replace xg := xg.below b (by omega)
        replace W := Lib.hid (W.out.below b (by omega))
        replace G := Lib.hid (G.out.below b (by omega))
        replace BX := BX.trans (b.mono BX.size)
        clear b
        have hbn := G.out.hn
        have hbk := G.out.hk
        have cxg0 := xg.c0
        have cxg1 := xg.c1
        go_wp2_with fail
        go_at_call 39
        refine (markLogic_w (m := ⟨n, fun _ => n, Z⟩) (k0 := 1) G.out (by omega)).mono ?_
        rintro e wl ⟨rfl, c, hg⟩
        have s23 := c.size
        clear cxg0 cxg1
        have ma2 := markAt_lo (m := ⟨n, fun _ => n, Z⟩) (k0 := 1) G.out.hn G.out.hL (by omega)
        have GL := Lib.hid G.out.hL
        replace xa := c.two xa (by show ¬ (_ ∧ _); omega)
        replace xb := c.two xb (by show ¬ (_ ∧ _); omega)
        replace x6 := c.two x6 (by show ¬ (_ ∧ _); omega)
        replace xx0 := c.two xx0 (by show ¬ (_ ∧ _); omega)
        replace xx1 := c.two xx1 (by show ¬ (_ ∧ _); omega)
        replace xg := c.two xg (by show ¬ (_ ∧ _); omega)
        replace W := Lib.hid (W.out.chg c (fun j hj => by have hj' : wd1.heap.size ≤ j ∧ j < we.heap.size := hj; omega))
        replace BX := BX.trans (c.below (by omega) fun j hj => by have hj' : wd1.heap.size ≤ j ∧ j < we.heap.size := hj; omega)
        have M := Lib.hid hg
        clear c hg G
        have cxg0 := xg.c0
        have cxg1 := xg.c1
        go_wp2_with fail
        go_at_call 40
        refine (heldLogic_w (m := ⟨n, fun _ => n, Z⟩) (k0 := 1) M.out.mat.mat M.out.row.row M.out.hB hbn GL.out hbk (by omega)).mono ?_
        rintro e wy ⟨rfl, b⟩
        have s24 := b.size
        clear cxg0 cxg1
        replace xa := xa.below b (by omega)
        replace xb := xb.below b (by omega)
        replace x6 := x6.below b (by omega)
        replace xx0 := xx0.below b (by omega)
        replace xx1 := xx1.below b (by omega)
        replace xg := xg.below b (by omega)
        replace W := Lib.hid (W.out.below b (by omega))
        replace M := Lib.hid (M.out.below b (by omega))
        replace BX := BX.trans (b.mono BX.size)
        clear b
        go_upto_region 31 with fail
        go_cut [15, 16] (fun s6 s7 wx => ∃ p : Nat, s6 = .pointer (some ⟨p, 0, none⟩) ∧ s7 = .bool ok ∧ ResBox wy n Z y p wx)
        case first =>
          have f0 := xa.c0
          have f1 := xa.c1
          have f2 := xb.c0
          have f3 := xb.c1
          have by0 : Below wy.heap.size wy wy.drew := (Below.refl _ _).drew
          have fl0 : w.heap.size < wy.heap.size := by omega
          have fl1 : w.heap.size + 1 < wy.heap.size := by omega
          refine region_plain (fuel := 11) (listed := #[false, false, false, false, false, false, false, false, false, false, false]) (fun W' => Below wy.heap.size wy W') (by kernel_rfl) (by kernel_rfl) (by kernel_rfl) ?_
          refine hold_take (i := 0) (d := 95) (v := ?vB0) (listed' := #[true, false, false, false, false, false, false, false, false, false, false]) rfl (by kernel_rfl) (by kernel_rfl) (by kernel_rfl) rfl (by rfl) (by kernel_rfl) by0 ?hB0 ?rB0
          case hB0 =>
            intro w' hSw
            have hSb : Below wy.heap.size wy w' := hSw; have x0 := (hSb.cell (p := ⟨w.heap.size, 0, none⟩) fl0).trans f0; have x1 := (hSb.cell (p := ⟨w.heap.size, 1, none⟩) fl0).trans f1; have x2 := (hSb.cell (p := ⟨w.heap.size + 1, 0, none⟩) fl1).trans f2; have x3 := (hSb.cell (p := ⟨w.heap.size + 1, 1, none⟩) fl1).trans f3
            go_simp
            try with_reducible rfl
          simp only [List.setIfInBounds_toArray, List.set_cons_zero, List.set_cons_succ]
          refine hold_take (i := 2) (d := 97) (v := ?vB2) (listed' := #[true, false, true, false, false, false, false, false, false, false, false]) rfl (by kernel_rfl) (by kernel_rfl) (by kernel_rfl) rfl (by rfl) (by kernel_rfl) by0 ?hB2 ?rB2
          case hB2 =>
            intro w' hSw
            have hSb : Below wy.heap.size wy w' := hSw; have x0 := (hSb.cell (p := ⟨w.heap.size, 0, none⟩) fl0).trans f0; have x1 := (hSb.cell (p := ⟨w.heap.size, 1, none⟩) fl0).trans f1; have x2 := (hSb.cell (p := ⟨w.heap.size + 1, 0, none⟩) fl1).trans f2; have x3 := (hSb.cell (p := ⟨w.heap.size + 1, 1, none⟩) fl1).trans f3
            go_simp
            try with_reducible rfl
          simp only [List.setIfInBounds_toArray, List.set_cons_zero, List.set_cons_succ]
          clear f0 f1 f2 f3
          refine hold_two (i := 1) (j := 8) (by kernel_rfl) ?Bc ?Bl
          case Bc =>
            refine opH_call (i := 1) (d := 96) (listed' := #[true, true, true, false, false, false, false, false, false, false, false]) rfl rfl (by rfl) (by kernel_rfl) ?Bce (toLogic_w (nc := nc0) (LogAt.step H0.out (BX.trans (by0.mono BX.size))) hn0 HL0.out hk0) ?_
            case Bce => go_simp
            rintro e wA ⟨N0, q0, rfl, cA, bA⟩
            have bc1 : Below wy.heap.size wy wA := by0.trans (bA.mono by0.size)
            have zwA := bA.size
            have LA := Lib.hid cA.logAt
            clear cA
            refine ⟨_, rfl, bc1, ?_⟩
            simp only [List.setIfInBounds_toArray, List.set_cons_zero, List.set_cons_succ]
            refine hold_two (i := 3) (j := 8) (by kernel_rfl) ?Bcc ?Bcl
            case Bcc =>
              refine opH_call (i := 3) (d := 98) (listed' := #[true, true, true, true, false, false, false, false, false, false, false]) rfl rfl (by rfl) (by kernel_rfl) ?Bcce (toLogic_w (nc := nc1) (LogAt.step H1.out (BX.trans (bc1.mono BX.size))) hn1 HL1.out hk1) ?_
              case Bcce => go_simp
              rintro e wB ⟨N1, q1, rfl, cB, bB⟩
              have bc2 : Below wy.heap.size wy wB := bc1.trans (bB.mono bc1.size)
              have zwB := bB.size
              replace LA := Lib.hid (LA.out.lift bB)
              have LB := Lib.hid cB.logAt
              clear cB
              refine ⟨_, rfl, bc2, ?_⟩
              simp only [List.setIfInBounds_toArray, List.set_cons_zero, List.set_cons_succ]
              refine hold_two (i := 4) (j := 8) (by kernel_rfl) ?Bccc ?Bccl
              case Bccc =>
                refine opH_call (i := 4) (d := 99) (listed' := #[true, true, true, true, true, false, false, false, false, false, false]) rfl rfl (by rfl) (by kernel_rfl) ?Bccce (HI.out _ N0 q0 N1 q1 LA.out LB.out) ?_
                case Bccce => go_simp
                rintro e wR ⟨ua, l, na, g, nc, rfl, hR, bR⟩
                have bc3 : Below wy.heap.size wy wR := bc2.trans (bR.mono bc2.size)
                have zwR := bR.size
                have HR := Lib.hid hR
                clear hR LA LB
                refine ⟨_, rfl, bc3, ?_⟩
                simp only [List.setIfInBounds_toArray, List.set_cons_zero, List.set_cons_succ]
                refine hold_take (i := 5) (d := 94) (v := ?Bcccv5) (listed' := #[true, true, true, true, true, true, false, false, false, false, false]) rfl (by kernel_rfl) (by kernel_rfl) (by kernel_rfl) rfl (by rfl) (by kernel_rfl) bc3 ?Bccch5 ?Bcccr5
                case Bccch5 =>
                  intro w' hSw
                  go_simp
                  try with_reducible rfl
                simp only [List.setIfInBounds_toArray, List.set_cons_zero, List.set_cons_succ]
                refine hold_take (i := 6) (d := 100) (v := ?Bcccv6) (listed' := #[true, true, true, true, true, true, true, false, false, false, false]) rfl (by kernel_rfl) (by kernel_rfl) (by kernel_rfl) rfl (by rfl) (by kernel_rfl) bc3 ?Bccch6 ?Bcccr6
                case Bccch6 =>
                  intro w' hSw
                  go_simp
                  try with_reducible rfl
                simp only [List.setIfInBounds_toArray, List.set_cons_zero, List.set_cons_succ]
                refine hold_take (i := 7) (d := 101) (v := ?Bcccv7) (listed' := #[true, true, true, true, true, true, true, true, false, false, false]) rfl (by kernel_rfl) (by kernel_rfl) (by kernel_rfl) rfl (by rfl) (by kernel_rfl) bc3 ?Bccch7 ?Bcccr7
                case Bccch7 =>
                  intro w' hSw
                  go_simp
                  try with_reducible rfl
                simp only [List.setIfInBounds_toArray, List.set_cons_zero, List.set_cons_succ]
                have bal : Below wy.heap.size wy (wR.alloc (.cells #[.slice none 0 0, .slice none 0 0] 27)) := bc3.alloc (by have := bc3.size; omega) _
                have xp := TwoAt.new wR (.slice none 0 0) (.slice none 0 0) 27
                refine hold_value (i := 8) (d := 15) (listed' := #[true, true, true, true, true, true, true, true, true, false, false]) rfl (by kernel_rfl) rfl (by rfl) (by kernel_rfl) (v := .pointer (some ⟨wR.heap.size, 0, none⟩)) (w' := (wR.alloc (.cells #[.slice none 0 0, .slice none 0 0] 27))) ?Bcccle bal ?_
                case Bcccle =>
                  go_simp
                  try with_reducible rfl
                simp only [List.setIfInBounds_toArray, List.set_cons_zero, List.set_cons_succ]
                have bst : Below wy.heap.size wy (wR.alloc (.cells #[.slice ua n l.cap, .slice na n nc] 27)) := bc3.alloc (by have := bc3.size; omega) _
                clear xp
                refine hold_store (i := 9) (w' := wR.alloc (.cells #[.slice ua n l.cap, .slice na n nc] 27)) (listed' := #[true, true, true, true, true, true, true, true, true, true, false]) rfl (by kernel_rfl) rfl (by rfl) (by kernel_rfl) ?Bcccls bst ?_
                case Bcccls =>
                  go_simp
                  try with_reducible rfl
                refine hold_take (i := 10) (d := 16) (v := ?Bccclva) (listed' := #[true, true, true, true, true, true, true, true, true, true, true]) rfl (by kernel_rfl) (by kernel_rfl) (by kernel_rfl) rfl (by rfl) (by kernel_rfl) bst ?Bccclha ?Bccclra
                case Bccclha =>
                  intro w' hSw
                  go_simp
                  try with_reducible rfl
                simp only [List.setIfInBounds_toArray, List.set_cons_zero, List.set_cons_succ]
                refine hold_done (by kernel_rfl) ?_ _
                have bLL := (Below.refl wR.heap.size wR).alloc (Nat.le_refl _) (.cells #[.slice ua n l.cap, .slice na n nc] 27)
                have hX : Hid (ResBox wy n Z y wR.heap.size (wR.alloc (.cells #[.slice ua n l.cap, .slice na n nc] 27))) := ⟨_, _, _, g, _, TwoAt.new _ _ _ _, ((HR.out.below bLL (Nat.le_refl _)).more bLL.size (Nat.le_refl _)).rebase (by have := bc2.size; omega), bst, bc3.size⟩
                clear bst bLL
                go_wp2_with fail
                go_meet
                exact ⟨_, rfl, rfl, hX.out⟩
              case Bccl =>
                have bal : Below wy.heap.size wy (wB.alloc (.cells #[.slice none 0 0, .slice none 0 0] 27)) := bc2.alloc (by have := bc2.size; omega) _
                have xp := TwoAt.new wB (.slice none 0 0) (.slice none 0 0) 27
                refine opH_value (i := 8) (d := 15) (listed' := #[true, true, true, true, false, false, false, false, true, false, false]) rfl rfl (by rfl) (by kernel_rfl) (v := .pointer (some ⟨wB.heap.size, 0, none⟩)) (w' := (wB.alloc (.cells #[.slice none 0 0, .slice none 0 0] 27))) ?Bccle bal ?_
                case Bccle =>
                  go_simp
                  try with_reducible rfl
                simp only [List.setIfInBounds_toArray, List.set_cons_zero, List.set_cons_succ]
                have zal : wB.heap.size < (wB.alloc (.cells #[.slice none 0 0, .slice none 0 0] 27)).heap.size := by simp
                have zbl := bc2.size
                have bLL := (Below.refl wB.heap.size wB).alloc (Nat.le_refl _) (.cells #[.slice none 0 0, .slice none 0 0] 27)
                replace LA := Lib.hid (LA.out.lift bLL)
                replace LB := Lib.hid (LB.out.lift bLL)
                obtain ⟨pL, hpL⟩ : ∃ q, q = wB.heap.size := ⟨_, rfl⟩
                rw [← hpL] at xp zal zbl
                rw [← hpL]
                generalize (wB.alloc (.cells #[.slice none 0 0, .slice none 0 0] 27)) = wL at LA LB xp bal zal ⊢
                clear hpL bLL
                refine hold_call (i := 4) (d := 99) (listed' := #[true, true, true, true, true, false, false, false, true, false, false]) rfl (by kernel_rfl) rfl (by rfl) (by kernel_rfl) ?Bcclce (HI.out _ N0 q0 N1 q1 LA.out LB.out) ?_
                case Bcclce => go_simp
                rintro e wR ⟨ua, l, na, g, nc, rfl, hR, bR⟩
                have bc3a : Below wy.heap.size wy wR := bal.trans (bR.mono bal.size)
                have zwR := bR.size
                replace xp := xp.below bR (by omega)
                have HR := Lib.hid hR
                clear hR LA LB
                refine ⟨_, rfl, bc3a, ?_⟩
                simp only [List.setIfInBounds_toArray, List.set_cons_zero, List.set_cons_succ]
                refine hold_take (i := 5) (d := 94) (v := ?Bcclcv5) (listed' := #[true, true, true, true, true, true, false, false, true, false, false]) rfl (by kernel_rfl) (by kernel_rfl) (by kernel_rfl) rfl (by rfl) (by kernel_rfl) bc3a ?Bcclch5 ?Bcclcr5
                case Bcclch5 =>
                  intro w' hSw
                  go_simp
                  try with_reducible rfl
                simp only [List.setIfInBounds_toArray, List.set_cons_zero, List.set_cons_succ]
                refine hold_take (i := 6) (d := 100) (v := ?Bcclcv6) (listed' := #[true, true, true, true, true, true, true, false, true, false, false]) rfl (by kernel_rfl) (by kernel_rfl) (by kernel_rfl) rfl (by rfl) (by kernel_rfl) bc3a ?Bcclch6 ?Bcclcr6
                case Bcclch6 =>
                  intro w' hSw
                  go_simp
                  try with_reducible rfl
                simp only [List.setIfInBounds_toArray, List.set_cons_zero, List.set_cons_succ]
                refine hold_take (i := 7) (d := 101) (v := ?Bcclcv7) (listed' := #[true, true, true, true, true, true, true, true, true, false, false]) rfl (by kernel_rfl) (by kernel_rfl) (by kernel_rfl) rfl (by rfl) (by kernel_rfl) bc3a ?Bcclch7 ?Bcclcr7
                case Bcclch7 =>
                  intro w' hSw
                  go_simp
                  try with_reducible rfl
                simp only [List.setIfInBounds_toArray, List.set_cons_zero, List.set_cons_succ]
                have k0 := xp.c0
                have k1 := xp.c1
                have k2 := xp.f0
                have k3 := xp.f1
                have hon := set2_only wR pL (.slice ua n l.cap) (.slice na n nc)
                have bst : Below wy.heap.size wy ((wR.setCell ⟨pL, 0, none⟩ (.slice ua n l.cap)).setCell ⟨pL, 1, none⟩ (.slice na n nc)) := bc3a.trans (hon.below fun j hj => by have hj' : j = pL := hj; omega)
                refine hold_store (i := 9) (w' := ((wR.setCell ⟨pL, 0, none⟩ (.slice ua n l.cap)).setCell ⟨pL, 1, none⟩ (.slice na n nc))) (listed' := #[true, true, true, true, true, true, true, true, true, true, false]) rfl (by kernel_rfl) rfl (by rfl) (by kernel_rfl) ?Bcclcs bst ?_
                case Bcclcs =>
                  go_simp
                  try with_reducible rfl
                clear k0 k1 k2 k3
                refine hold_take (i := 10) (d := 16) (v := ?Bcclcva) (listed' := #[true, true, true, true, true, true, true, true, true, true, true]) rfl (by kernel_rfl) (by kernel_rfl) (by kernel_rfl) rfl (by rfl) (by kernel_rfl) bst ?Bcclcha ?Bcclcra
                case Bcclcha =>
                  intro w' hSw
                  go_simp
                  try with_reducible rfl
                simp only [List.setIfInBounds_toArray, List.set_cons_zero, List.set_cons_succ]
                refine hold_done (by kernel_rfl) ?_ _
                have hX : Hid (ResBox wy n Z y pL ((wR.setCell ⟨pL, 0, none⟩ (.slice ua n l.cap)).setCell ⟨pL, 1, none⟩ (.slice na n nc))) := ⟨_, _, _, g, _, (xp.set0 _).set1 _, ((HR.out.chg (Chg.of_only hon) (fun j hj => by have hj' : j = pL := hj; omega)).more (Nat.le_of_eq hon.size.symm) (Nat.le_refl _)).rebase (by omega), bst, by omega⟩
                clear bst xp hon
                go_wp2_with fail
                go_meet
                exact ⟨_, rfl, rfl, hX.out⟩
            case Bcl =>
              have bal : Below wy.heap.size wy (wA.alloc (.cells #[.slice none 0 0, .slice none 0 0] 27)) := bc1.alloc (by have := bc1.size; omega) _
              have xp := TwoAt.new wA (.slice none 0 0) (.slice none 0 0) 27
              refine opH_value (i := 8) (d := 15) (listed' := #[true, true, true, false, false, false, false, false, true, false, false]) rfl rfl (by rfl) (by kernel_rfl) (v := .pointer (some ⟨wA.heap.size, 0, none⟩)) (w' := (wA.alloc (.cells #[.slice none 0 0, .slice none 0 0] 27))) ?Bcle bal ?_
              case Bcle =>
                go_simp
                try with_reducible rfl
              simp only [List.setIfInBounds_toArray, List.set_cons_zero, List.set_cons_succ]
              have zal : wA.heap.size < (wA.alloc (.cells #[.slice none 0 0, .slice none 0 0] 27)).heap.size := by simp
              have zbl := bc1.size
              have bLL := (Below.refl wA.heap.size wA).alloc (Nat.le_refl _) (.cells #[.slice none 0 0, .slice none 0 0] 27)
              replace LA := Lib.hid (LA.out.lift bLL)
              obtain ⟨pL, hpL⟩ : ∃ q, q = wA.heap.size := ⟨_, rfl⟩
              rw [← hpL] at xp zal zbl
              rw [← hpL]
              generalize (wA.alloc (.cells #[.slice none 0 0, .slice none 0 0] 27)) = wL at LA xp bal zal ⊢
              clear hpL bLL
              refine hold_call (i := 3) (d := 98) (listed' := #[true, true, true, true, false, false, false, false, true, false, false]) rfl (by kernel_rfl) rfl (by rfl) (by kernel_rfl) ?Bclce (toLogic_w (nc := nc1) (LogAt.step H1.out (BX.trans (bal.mono BX.size))) hn1 HL1.out hk1) ?_
              case Bclce => go_simp
              rintro e wB ⟨N1, q1, rfl, cB, bB⟩
              have bc2a : Below wy.heap.size wy wB := bal.trans (bB.mono bal.size)
              have zwB := bB.size
              replace xp := xp.below bB (by omega)
              replace LA := Lib.hid (LA.out.lift bB)
              have LB := Lib.hid cB.logAt
              clear cB
              refine ⟨_, rfl, bc2a, ?_⟩
              simp only [List.setIfInBounds_toArray, List.set_cons_zero, List.set_cons_succ]
              refine hold_call (i := 4) (d := 99) (listed' := #[true, true, true, true, true, false, false, false, true, false, false]) rfl (by kernel_rfl) rfl (by rfl) (by kernel_rfl) ?Bclcce (HI.out _ N0 q0 N1 q1 LA.out LB.out) ?_
              case Bclcce => go_simp
              rintro e wR ⟨ua, l, na, g, nc, rfl, hR, bR⟩
              have bc3a : Below wy.heap.size wy wR := bc2a.trans (bR.mono bc2a.size)
              have zwR := bR.size
              replace xp := xp.below bR (by omega)
              have HR := Lib.hid hR
              clear hR LA LB
              refine ⟨_, rfl, bc3a, ?_⟩
              simp only [List.setIfInBounds_toArray, List.set_cons_zero, List.set_cons_succ]
              refine hold_take (i := 5) (d := 94) (v := ?Bclccv5) (listed' := #[true, true, true, true, true, true, false, false, true, false, false]) rfl (by kernel_rfl) (by kernel_rfl) (by kernel_rfl) rfl (by rfl) (by kernel_rfl) bc3a ?Bclcch5 ?Bclccr5
              case Bclcch5 =>
                intro w' hSw
                go_simp
                try with_reducible rfl
              simp only [List.setIfInBounds_toArray, List.set_cons_zero, List.set_cons_succ]
              refine hold_take (i := 6) (d := 100) (v := ?Bclccv6) (listed' := #[true, true, true, true, true, true, true, false, true, false, false]) rfl (by kernel_rfl) (by kernel_rfl) (by kernel_rfl) rfl (by rfl) (by kernel_rfl) bc3a ?Bclcch6 ?Bclccr6
              case Bclcch6 =>
                intro w' hSw
                go_simp
                try with_reducible rfl
              simp only [List.setIfInBounds_toArray, List.set_cons_zero, List.set_cons_succ]
              refine hold_take (i := 7) (d := 101) (v := ?Bclccv7) (listed' := #[true, true, true, true, true, true, true, true, true, false, false]) rfl (by kernel_rfl) (by kernel_rfl) (by kernel_rfl) rfl (by rfl) (by kernel_rfl) bc3a ?Bclcch7 ?Bclccr7
              case Bclcch7 =>
                intro w' hSw
                go_simp
                try with_reducible rfl
              simp only [List.setIfInBounds_toArray, List.set_cons_zero, List.set_cons_succ]
              have k0 := xp.c0
              have k1 := xp.c1
              have k2 := xp.f0
              have k3 := xp.f1
              have hon := set2_only wR pL (.slice ua n l.cap) (.slice na n nc)
              have bst : Below wy.heap.size wy ((wR.setCell ⟨pL, 0, none⟩ (.slice ua n l.cap)).setCell ⟨pL, 1, none⟩ (.slice na n nc)) := bc3a.trans (hon.below fun j hj => by have hj' : j = pL := hj; omega)
              refine hold_store (i := 9) (w' := ((wR.setCell ⟨pL, 0, none⟩ (.slice ua n l.cap)).setCell ⟨pL, 1, none⟩ (.slice na n nc))) (listed' := #[true, true, true, true, true, true, true, true, true, true, false]) rfl (by kernel_rfl) rfl (by rfl) (by kernel_rfl) ?Bclccs bst ?_
              case Bclccs =>
                go_simp
                try with_reducible rfl
              clear k0 k1 k2 k3
              refine hold_take (i := 10) (d := 16) (v := ?Bclccva) (listed' := #[true, true, true, true, true, true, true, true, true, true, true]) rfl (by kernel_rfl) (by kernel_rfl) (by kernel_rfl) rfl (by rfl) (by kernel_rfl) bst ?Bclccha ?Bclccra
              case Bclccha =>
                intro w' hSw
                go_simp
                try with_reducible rfl
              simp only [List.setIfInBounds_toArray, List.set_cons_zero, List.set_cons_succ]
              refine hold_done (by kernel_rfl) ?_ _
              have hX : Hid (ResBox wy n Z y pL ((wR.setCell ⟨pL, 0, none⟩ (.slice ua n l.cap)).setCell ⟨pL, 1, none⟩ (.slice na n nc))) := ⟨_, _, _, g, _, (xp.set0 _).set1 _, ((HR.out.chg (Chg.of_only hon) (fun j hj => by have hj' : j = pL := hj; omega)).more (Nat.le_of_eq hon.size.symm) (Nat.le_refl _)).rebase (by omega), bst, by omega⟩
              clear bst xp hon
              go_wp2_with fail
              go_meet
              exact ⟨_, rfl, rfl, hX.out⟩
          case Bl =>
            have bal : Below wy.heap.size wy (wy.drew.alloc (.cells #[.slice none 0 0, .slice none 0 0] 27)) := by0.alloc (by have := by0.size; omega) _
            have xp := TwoAt.new wy.drew (.slice none 0 0) (.slice none 0 0) 27
            refine opH_value (i := 8) (d := 15) (listed' := #[true, false, true, false, false, false, false, false, true, false, false]) rfl rfl (by rfl) (by kernel_rfl) (v := .pointer (some ⟨wy.drew.heap.size, 0, none⟩)) (w' := (wy.drew.alloc (.cells #[.slice none 0 0, .slice none 0 0] 27))) ?Ble bal ?_
            case Ble =>
              go_simp
              try with_reducible rfl
            simp only [List.setIfInBounds_toArray, List.set_cons_zero, List.set_cons_succ]
            have zal : wy.drew.heap.size < (wy.drew.alloc (.cells #[.slice none 0 0, .slice none 0 0] 27)).heap.size := by simp
            have zbl := by0.size
            have bLL := (Below.refl wy.drew.heap.size wy.drew).alloc (Nat.le_refl _) (.cells #[.slice none 0 0, .slice none 0 0] 27)
            obtain ⟨pL, hpL⟩ : ∃ q, q = wy.drew.heap.size := ⟨_, rfl⟩
            rw [← hpL] at xp zal zbl
            rw [← hpL]
            generalize (wy.drew.alloc (.cells #[.slice none 0 0, .slice none 0 0] 27)) = wL at xp bal zal ⊢
            clear hpL bLL
            refine hold_call (i := 1) (d := 96) (listed' := #[true, true, true, false, false, false, false, false, true, false, false]) rfl (by kernel_rfl) rfl (by rfl) (by kernel_rfl) ?Blce (toLogic_w (nc := nc0) (LogAt.step H0.out (BX.trans (bal.mono BX.size))) hn0 HL0.out hk0) ?_
            case Blce => go_simp
            rintro e wA ⟨N0, q0, rfl, cA, bA⟩
            have bc1a : Below wy.heap.size wy wA := bal.trans (bA.mono bal.size)
            have zwA := bA.size
            replace xp := xp.below bA (by omega)
            have LA := Lib.hid cA.logAt
            clear cA
            refine ⟨_, rfl, bc1a, ?_⟩
            simp only [List.setIfInBounds_toArray, List.set_cons_zero, List.set_cons_succ]
            refine hold_call (i := 3) (d := 98) (listed' := #[true, true, true, true, false, false, false, false, true, false, false]) rfl (by kernel_rfl) rfl (by rfl) (by kernel_rfl) ?Blcce (toLogic_w (nc := nc1) (LogAt.step H1.out (BX.trans (bc1a.mono BX.size))) hn1 HL1.out hk1) ?_
            case Blcce => go_simp
            rintro e wB ⟨N1, q1, rfl, cB, bB⟩
            have bc2a : Below wy.heap.size wy wB := bc1a.trans (bB.mono bc1a.size)
            have zwB := bB.size
            replace xp := xp.below bB (by omega)
            replace LA := Lib.hid (LA.out.lift bB)
            have LB := Lib.hid cB.logAt
            clear cB
            refine ⟨_, rfl, bc2a, ?_⟩
            simp only [List.setIfInBounds_toArray, List.set_cons_zero, List.set_cons_succ]
            refine hold_call (i := 4) (d := 99) (listed' := #[true, true, true, true, true, false, false, false, true, false, false]) rfl (by kernel_rfl) rfl (by rfl) (by kernel_rfl) ?Blccce (HI.out _ N0 q0 N1 q1 LA.out LB.out) ?_
            case Blccce => go_simp
            rintro e wR ⟨ua, l, na, g, nc, rfl, hR, bR⟩
            have bc3a : Below wy.heap.size wy wR := bc2a.trans (bR.mono bc2a.size)
            have zwR := bR.size
            replace xp := xp.below bR (by omega)
            have HR := Lib.hid hR
            clear hR LA LB
            refine ⟨_, rfl, bc3a, ?_⟩
            simp only [List.setIfInBounds_toArray, List.set_cons_zero, List.set_cons_succ]
            refine hold_take (i := 5) (d := 94) (v := ?Blcccv5) (listed' := #[true, true, true, true, true, true, false, false, true, false, false]) rfl (by kernel_rfl) (by kernel_rfl) (by kernel_rfl) rfl (by rfl) (by kernel_rfl) bc3a ?Blccch5 ?Blcccr5
            case Blccch5 =>
              intro w' hSw
              go_simp
              try with_reducible rfl
            simp only [List.setIfInBounds_toArray, List.set_cons_zero, List.set_cons_succ]
            refine hold_take (i := 6) (d := 100) (v := ?Blcccv6) (listed' := #[true, true, true, true, true, true, true, false, true, false, false]) rfl (by kernel_rfl) (by kernel_rfl) (by kernel_rfl) rfl (by rfl) (by kernel_rfl) bc3a ?Blccch6 ?Blcccr6
            case Blccch6 =>
              intro w' hSw
              go_simp
              try with_reducible rfl
            simp only [List.setIfInBounds_toArray, List.set_cons_zero, List.set_cons_succ]
            refine hold_take (i := 7) (d := 101) (v := ?Blcccv7) (listed' := #[true, true, true, true, true, true, true, true, true, false, false]) rfl (by kernel_rfl) (by kernel_rfl) (by kernel_rfl) rfl (by rfl) (by kernel_rfl) bc3a ?Blccch7 ?Blcccr7
            case Blccch7 =>
              intro w' hSw
              go_simp
              try with_reducible rfl
            simp only [List.setIfInBounds_toArray, List.set_cons_zero, List.set_cons_succ]
            have k0 := xp.c0
            have k1 := xp.c1
            have k2 := xp.f0
            have k3 := xp.f1
            have hon := set2_only wR pL (.slice ua n l.cap) (.slice na n nc)
            have bst : Below wy.heap.size wy ((wR.setCell ⟨pL, 0, none⟩ (.slice ua n l.cap)).setCell ⟨pL, 1, none⟩ (.slice na n nc)) := bc3a.trans (hon.below fun j hj => by have hj' : j = pL := hj; omega)
            refine hold_store (i := 9) (w' := ((wR.setCell ⟨pL, 0, none⟩ (.slice ua n l.cap)).setCell ⟨pL, 1, none⟩ (.slice na n nc))) (listed' := #[true, true, true, true, true, true, true, true, true, true, false]) rfl (by kernel_rfl) rfl (by rfl) (by kernel_rfl) ?Blcccs bst ?_
            case Blcccs =>
              go_simp
              try with_reducible rfl
            clear k0 k1 k2 k3
            refine hold_take (i := 10) (d := 16) (v := ?Blcccva) (listed' := #[true, true, true, true, true, true, true, true, true, true, true]) rfl (by kernel_rfl) (by kernel_rfl) (by kernel_rfl) rfl (by rfl) (by kernel_rfl) bst ?Blcccha ?Blcccra
            case Blcccha =>
              intro w' hSw
              go_simp
              try with_reducible rfl
            simp only [List.setIfInBounds_toArray, List.set_cons_zero, List.set_cons_succ]
            refine hold_done (by kernel_rfl) ?_ _
            have hX : Hid (ResBox wy n Z y pL ((wR.setCell ⟨pL, 0, none⟩ (.slice ua n l.cap)).setCell ⟨pL, 1, none⟩ (.slice na n nc))) := ⟨_, _, _, g, _, (xp.set0 _).set1 _, ((HR.out.chg (Chg.of_only hon) (fun j hj => by have hj' : j = pL := hj; omega)).more (Nat.le_of_eq hon.size.symm) (Nat.le_refl _)).rebase (by omega), bst, by omega⟩
            clear bst xp hon
            go_wp2_with fail
            go_meet
            exact ⟨_, rfl, rfl, hX.out⟩
        case rest =>
          generalize wc = wx2 at hcut ⊢
          obtain ⟨p15, rfl, rfl, uaQ, lQ, naQ, gQ, ncQ, x15, hQ, bQ, l15⟩ := hcut
          have sq := bQ.size
          have L15 : p15 < wx2.heap.size := World.block_lt_of_cell? wx2 ⟨p15, 0, none⟩ x15.c0
          replace xa := xa.below bQ (by omega)
          replace xb := xb.below bQ (by omega)
          replace x6 := x6.below bQ (by omega)
          replace xx0 := xx0.below bQ (by omega)
          replace xx1 := xx1.below bQ (by omega)
          replace xg := xg.below bQ (by omega)
          replace W := Lib.hid (W.out.below bQ (by omega))
          replace M := Lib.hid (M.out.below bQ (by omega))
          replace BX := BX.trans (bQ.mono BX.size)
          have Q := Lib.hid hQ
          clear hQ bQ
          have cx150 := x15.c0
          have cx151 := x15.c1
          have cx60 := x6.c0
          have cx61 := x6.c1
          go_wp2_with fail
          go_at_call 38
          refine (eqLogic_any Q.out.logAt W.out.logAt).mono ?_
          rintro e wm ⟨rfl, b⟩
          have s25 := b.size
          clear cx150 cx151 cx60 cx61
          replace xa := xa.below b (by omega)
          replace xb := xb.below b (by omega)
          replace x6 := x6.below b (by omega)
          replace xx0 := xx0.below b (by omega)
          replace xx1 := xx1.below b (by omega)
          replace xg := xg.below b (by omega)
          replace x15 := x15.below b (by omega)
          replace W := Lib.hid (W.out.below b (by omega))
          replace M := Lib.hid (M.out.below b (by omega))
          replace Q := Lib.hid (Q.out.below b (by omega))
          replace BX := BX.trans (b.mono BX.size)
          clear b
          have cxg0 := xg.c0
          have cxg1 := xg.c1
          go_wp2_with fail
          go_at_call 40
          refine (heldLogic_w (m := ⟨n, fun _ => n, Z⟩) (k0 := 1) M.out.mat.mat M.out.row.row M.out.hB hbn GL.out hbk (by omega)).mono ?_
          rintro e wn ⟨rfl, b⟩
          have s26 := b.size
          clear cxg0 cxg1
          replace xa := xa.below b (by omega)
          replace xb := xb.below b (by omega)
          replace x6 := x6.below b (by omega)
          replace xx0 := xx0.below b (by omega)
          replace xx1 := xx1.below b (by omega)
          replace xg := xg.below b (by omega)
          replace x15 := x15.below b (by omega)
          replace W := Lib.hid (W.out.below b (by omega))
          replace M := Lib.hid (M.out.below b (by omega))
          replace Q := Lib.hid (Q.out.below b (by omega))
          replace BX := BX.trans (b.mono BX.size)
          clear b
          go_wp2_with fail
          go_ret
          exact ⟨rfl, BX⟩
end Go.Proofs.Ytgjacinolenheaa
