/- The law on Renamed, walked at whatever code. -/
import Derived.Test.YtgjacinolenheaaZJr
import Derived.Test.YtgjacinolenheaaZJb
import Derived.Test.YtgjacinolenheaaZVo
namespace Go.Proofs.Ytgjacinolenheaa
open Go.RowKit Go.Deep

theorem RowAt.step {w w' : World} {a : Option Addr} {g o n : Nat} {z : Nat → Int} (h : RowAt w w.heap.size a g o n z) (hb : Below w.heap.size w w') : RowAt w' w'.heap.size a g o n z := (h.below hb).wide hb.size
theorem RowAt.num {w : World} {B : Nat} {a : Option Addr} {g n : Nat} {z : Nat → Int} (h : RowAt w B a g 0 n z) {c : Nat} (hc : c < n) : a = some ⟨g, 0, none⟩ ∧ g < B ∧ w.cell? ⟨g, c, none⟩ = some (.int .i64 (z c)) := by
  obtain ⟨h1, h2, h3⟩ := h.row c hc
  exact ⟨h1, h2, by rw [Nat.zero_add] at h3; exact h3⟩

set_option maxRecDepth 100000 in
set_option maxHeartbeats 8000000 in
theorem law_Renamed {A : Option Addr} {b o n cap : Nat} {z : Nat → Nat} {w : World} (h : CodeAt w A b o n cap z) :
    Calls Try.prog 7 #[.slice A n cap] w fun e w' => e = .returned (.bool true) ∧ Below w.heap.size w w' := by
  have hn := h.hn
  have hc := h.hc
  by_cases hbig : 1048576 < n
  · have hbig' : (1048576 : Int) < n := by omega
    clear h
    go_enter Try.func7, Try.ntmps7
    go_wp2_with fail
    go_ret
    exact ⟨rfl, Below.refl _ _⟩
  · have hbig' : ¬ (1048576 : Int) < n := by omega
    go_enter Try.func7, Try.ntmps7
    go_wp2_with fail
    go_at_call 34
    refine (draw_Renamed h).mono ?_
    rintro e w1 ⟨⟨ua0, l0, m0, na0, g0, o0, k0, nc0, z0⟩, aR, gR, cR, zr, he, hK0, hR, b1⟩
    replace he : e = .returned (.tuple #[.agg #[.slice ua0 m0.n l0.cap, .slice na0 k0 nc0], .slice aR k0 cR]) := he
    subst he
    have s1 := b1.size
    clear h hn hc hbig hbig'
    have K0 := Lib.hid hK0
    have R := Lib.hid hR
    have BX := b1
    clear hK0 hR b1
    have hk12 : k0 ≤ 12 := K0.out.hk
    have xa := TwoAt.new w1 (.slice ua0 m0.n l0.cap) (.slice na0 k0 nc0) 27
    have ba := (Below.refl w1.heap.size w1).alloc (Nat.le_refl _) (.cells #[.slice ua0 m0.n l0.cap, .slice na0 k0 nc0] 27)
    replace K0 := Lib.hid (K0.out.step ba)
    replace R := Lib.hid (R.out.step ba)
    replace BX := BX.trans (ba.mono BX.size)
    have s2 : (w1.alloc (.cells #[.slice ua0 m0.n l0.cap, .slice na0 k0 nc0] 27)).heap.size = w1.heap.size + 1 := by simp
    clear ba
    obtain ⟨ok, hok⟩ : ∃ ok, ok = (logicB m0 k0 z0 && eachB m0.n k0 zr) := ⟨_, rfl⟩
    obtain ⟨N, hN⟩ : ∃ N, N = if ok = true then k0 else 0 := ⟨_, rfl⟩
    obtain ⟨ZT, hZT⟩ : ∃ ZT, ZT = nameZ m0.Z (fun c => (zr c).toNat) := ⟨_, rfl⟩
    obtain ⟨yT, hyT⟩ : ∃ yT : Nat → Nat, yT = fun x => placeN k0 zr ((z0 (zr x).toNat).toNat) := ⟨_, rfl⟩
    have HI : Hid (∀ (W : World), Kept w.heap.size ⟨ua0, l0, m0, na0, g0, o0, k0, nc0, z0⟩ W → RowAt W W.heap.size aR gR 0 k0 zr → Calls Try.prog 35 #[.agg #[.slice ua0 m0.n l0.cap, .slice na0 k0 nc0], .slice aR k0 cR] W (ResG W N ZT yT)) := by
      intro W c0 c1
      subst hyT hZT hN hok
      exact (Renamed_any (d0 := ⟨ua0, l0, m0, na0, g0, o0, k0, nc0, z0⟩) c0.log c1 (by omega)).mono fun _ _ h => h.res
    have HS : Hid (∀ (W : World), Kept w.heap.size ⟨ua0, l0, m0, na0, g0, o0, k0, nc0, z0⟩ W → RowAt W W.heap.size aR gR 0 k0 zr → Calls Try.prog 36 #[.agg #[.slice ua0 m0.n l0.cap, .slice na0 k0 nc0], .slice aR k0 cR] W (ResG W N ZT yT)) := by
      intro W c0 c1
      subst hyT hZT hN hok
      exact (spec_Renamed_any (d0 := ⟨ua0, l0, m0, na0, g0, o0, k0, nc0, z0⟩) c0.log c1).mono fun _ _ h => h.res
    have HN := Lib.hid hN
    have HOK := Lib.hid hok
    have HZT := Lib.hid hZT
    have HYT := Lib.hid hyT
    clear hN hok hZT hyT
    have cxa0 := xa.c0
    have cxa1 := xa.c1
    go_wp2_with fail
    generalize w1.alloc (.cells #[.slice ua0 m0.n l0.cap, .slice na0 k0 nc0] 27) = w2 at xa K0 R BX s2 cxa0 cxa1 ⊢
    go_at_call 35
    refine (HI.out _ K0.out R.out).mono ?_
    rintro e w3 ⟨uaL, lL, naL, gL, ncL, rfl, hh, b⟩
    have s3 := b.size
    clear cxa0 cxa1
    replace K0 := Lib.hid (K0.out.step b)
    replace R := Lib.hid (R.out.step b)
    replace xa := xa.below b (by omega)
    replace BX := BX.trans (b.mono BX.size)
    have L := Lib.hid hh
    clear hh b
    have xl := TwoAt.new w3 (.slice uaL N lL.cap) (.slice naL N ncL) 27
    have ba := (Below.refl w3.heap.size w3).alloc (Nat.le_refl _) (.cells #[.slice uaL N lL.cap, .slice naL N ncL] 27)
    replace K0 := Lib.hid (K0.out.step ba)
    replace R := Lib.hid (R.out.step ba)
    replace xa := xa.below ba (by omega)
    replace L := Lib.hid (L.out.below ba (by omega))
    replace BX := BX.trans (ba.mono BX.size)
    have s4 : (w3.alloc (.cells #[.slice uaL N lL.cap, .slice naL N ncL] 27)).heap.size = w3.heap.size + 1 := by simp
    clear ba
    have cxa0 := xa.c0
    have cxa1 := xa.c1
    have cxl0 := xl.c0
    have cxl1 := xl.c1
    go_wp2_with fail
    generalize w3.alloc (.cells #[.slice uaL N lL.cap, .slice naL N ncL] 27) = w4 at xa xl L K0 R BX s4 cxa0 cxa1 cxl0 cxl1 ⊢
    have fl0 : w1.heap.size < w4.heap.size := by omega
    have fl1 : w3.heap.size < w4.heap.size := by omega
    have KK0 : Below w4.heap.size w4 w4.drew := (Below.refl _ _).drew
    refine region_plain (fuel := 6) (listed := #[false, false, false, false, false, false]) (fun W' => Below w4.heap.size w4 W') (by kernel_rfl) (by kernel_rfl) (by kernel_rfl) ?_
    refine hold_take (i := 0) (d := 21) (v := ?va0) (listed' := #[true, false, false, false, false, false]) rfl (by kernel_rfl) (by kernel_rfl) (by kernel_rfl) rfl (by rfl) (by kernel_rfl) KK0 ?ha0 ?ra0
    case ha0 =>
      intro w' hSw
      have hSb : Below w4.heap.size w4 w' := hSw; have yy0 := (hSb.cell (p := ⟨w1.heap.size, 0, none⟩) fl0).trans cxa0; have yy1 := (hSb.cell (p := ⟨w1.heap.size, 1, none⟩) fl0).trans cxa1; have yy2 := (hSb.cell (p := ⟨w3.heap.size, 0, none⟩) fl1).trans cxl0; have yy3 := (hSb.cell (p := ⟨w3.heap.size, 1, none⟩) fl1).trans cxl1
      go_simp
      try with_reducible rfl
    simp only [List.setIfInBounds_toArray, List.set_cons_zero, List.set_cons_succ]
    refine hold_take (i := 1) (d := 22) (v := ?va1) (listed' := #[true, true, false, false, false, false]) rfl (by kernel_rfl) (by kernel_rfl) (by kernel_rfl) rfl (by rfl) (by kernel_rfl) KK0 ?ha1 ?ra1
    case ha1 =>
      intro w' hSw
      have hSb : Below w4.heap.size w4 w' := hSw; have yy0 := (hSb.cell (p := ⟨w1.heap.size, 0, none⟩) fl0).trans cxa0; have yy1 := (hSb.cell (p := ⟨w1.heap.size, 1, none⟩) fl0).trans cxa1; have yy2 := (hSb.cell (p := ⟨w3.heap.size, 0, none⟩) fl1).trans cxl0; have yy3 := (hSb.cell (p := ⟨w3.heap.size, 1, none⟩) fl1).trans cxl1
      go_simp
      try with_reducible rfl
    simp only [List.setIfInBounds_toArray, List.set_cons_zero, List.set_cons_succ]
    refine hold_take (i := 2) (d := 23) (v := ?va2) (listed' := #[true, true, true, false, false, false]) rfl (by kernel_rfl) (by kernel_rfl) (by kernel_rfl) rfl (by rfl) (by kernel_rfl) KK0 ?ha2 ?ra2
    case ha2 =>
      intro w' hSw
      have hSb : Below w4.heap.size w4 w' := hSw; have yy0 := (hSb.cell (p := ⟨w1.heap.size, 0, none⟩) fl0).trans cxa0; have yy1 := (hSb.cell (p := ⟨w1.heap.size, 1, none⟩) fl0).trans cxa1; have yy2 := (hSb.cell (p := ⟨w3.heap.size, 0, none⟩) fl1).trans cxl0; have yy3 := (hSb.cell (p := ⟨w3.heap.size, 1, none⟩) fl1).trans cxl1
      go_simp
      try with_reducible rfl
    simp only [List.setIfInBounds_toArray, List.set_cons_zero, List.set_cons_succ]
    refine hold_call (i := 3) (d := 24) (listed' := #[true, true, true, true, false, false]) rfl (by kernel_rfl) rfl (by rfl) (by kernel_rfl) ?hea3 (HS.out _ (K0.out.step KK0) (R.out.step KK0)) ?hca3
    case hea3 => go_simp
    rintro e v1 ⟨uaX, lX, naX, gX, ncX, rfl, hx, b⟩
    have KK1 : Below w4.heap.size w4 v1 := KK0.trans (b.mono KK0.size)
    clear b
    refine ⟨_, rfl, KK1, ?_⟩
    simp only [List.setIfInBounds_toArray, List.set_cons_zero, List.set_cons_succ]
    refine hold_call (i := 4) (d := 25) (listed' := #[true, true, true, true, true, false]) rfl (by kernel_rfl) rfl (by rfl) (by kernel_rfl) ?hea4 (sameLogic_any (nc := ncL) (nc' := ncX) (L.out.below KK1 (by omega)).logAt hx.logAt) ?hca4
    case hea4 => go_simp
    rintro e v2 ⟨rfl, b⟩
    have KK2 : Below w4.heap.size w4 v2 := KK1.trans (b.mono KK1.size)
    clear b hx
    refine ⟨_, rfl, KK2, ?_⟩
    simp only [List.setIfInBounds_toArray, List.set_cons_zero, List.set_cons_succ]
    refine hold_take (i := 5) (d := 26) (v := ?va5) (listed' := #[true, true, true, true, true, true]) rfl (by kernel_rfl) (by kernel_rfl) (by kernel_rfl) rfl (by rfl) (by kernel_rfl) KK2 ?ha5 ?ra5
    case ha5 =>
      intro w' hSw
      have hSb : Below w4.heap.size w4 w' := hSw; have yy0 := (hSb.cell (p := ⟨w1.heap.size, 0, none⟩) fl0).trans cxa0; have yy1 := (hSb.cell (p := ⟨w1.heap.size, 1, none⟩) fl0).trans cxa1; have yy2 := (hSb.cell (p := ⟨w3.heap.size, 0, none⟩) fl1).trans cxl0; have yy3 := (hSb.cell (p := ⟨w3.heap.size, 1, none⟩) fl1).trans cxl1
      go_simp
      try with_reducible rfl
    simp only [List.setIfInBounds_toArray, List.set_cons_zero, List.set_cons_succ]
    refine hold_done (by kernel_rfl) ?_ _
    clear cxa0 cxa1 cxl0 cxl1
    have s5 := KK2.size
    replace K0 := Lib.hid (K0.out.step KK2)
    replace R := Lib.hid (R.out.step KK2)
    replace xa := xa.below KK2 (by omega)
    replace xl := xl.below KK2 (by omega)
    replace L := Lib.hid (L.out.below KK2 (by omega))
    replace BX := BX.trans (KK2.mono BX.size)
    clear KK0 KK1 KK2
    cases hok : ok with
    | false =>
      obtain rfl : N = 0 := by rw [HN.out, hok]; rfl
      clear hok HN HOK HI HS
      have cxl0 := xl.c0
      have cxl1 := xl.c1
      go_wp2_with fail
      go_at_call 18
      refine (alive_any _).mono ?_
      rintro e wn2 ⟨rfl, b⟩
      have s6 := b.size
      clear cxl0 cxl1
      replace K0 := Lib.hid (K0.out.step b)
      replace R := Lib.hid (R.out.step b)
      replace xa := xa.below b (by omega)
      replace xl := xl.below b (by omega)
      replace L := Lib.hid (L.out.below b (by omega))
      replace BX := BX.trans (b.mono BX.size)
      clear b
      go_wp2_with fail
      go_ret
      exact ⟨rfl, BX⟩
    | true =>
      have hb := HOK.out
      rw [hok] at hb
      have hb' := hb.symm
      simp only [Bool.and_eq_true] at hb'
      obtain ⟨hl0, he0⟩ := hb'
      obtain ⟨ek0, EA⟩ := eachB_is he0
      have hNk : N = m0.n := by rw [HN.out, hok]; exact ek0
      have HL0 := Lib.hid hl0
      have HE := Lib.hid EA
      clear hb hl0 he0 EA HN HOK HI HS hok
      subst ek0
      subst hNk
      obtain ⟨p0, i0⟩ := LD.isY (d := ⟨ua0, l0, m0, na0, g0, o0, m0.n, nc0, z0⟩) K0.out.log HL0.out
      have n0 : 1 ≤ m0.n ∧ m0.n ≤ 12 := i0.hi
      have n00 : ¬ m0.n = 0 := by omega
      have O0 : Ortho m0 z0 (fun a => (z0 a).toNat) p0 := i0.orth
      have LD1 := Lib.hid (name_data O0.data HE.out.perm)
      have HLT : Hid (logicB ⟨m0.n, fun _ => m0.n, ZT⟩ m0.n (fun c => (yT c : Int)) = true) := by show _ = _; rw [HZT.out, HYT.out]; exact LD1.out.isB
      have HAT : Hid ((atomsV ⟨m0.n, fun _ => m0.n, ZT⟩).length = (atomsV ⟨m0.n, fun _ => m0.n, m0.Z⟩).length) := by show _ = _; rw [HZT.out, LD1.out.atoms, O0.data.atoms]; exact name_atoms HE.out.perm
      have HM : Hid (∀ a b, a < m0.n → b < m0.n → ∃ x, x < m0.n ∧ andV ⟨m0.n, fun _ => m0.n, ZT⟩ m0.n (fun c => (yT c : Int)) (a : Int) (b : Int) = (x : Int) ∧ andV m0 m0.n z0 (zr a) (zr b) = zr x) := by
        intro a b ha hb
        obtain ⟨x, hx, e⟩ := LD1.out.ortho.meets ha hb
        refine ⟨x, hx, ?_, ?_⟩
        · rw [HZT.out, HYT.out]
          exact (andV_is LD1.out.ortho LD1.out.isB ha hb).trans e
        · rw [HE.out.nat a ha, HE.out.nat b hb, HE.out.nat x hx]
          exact (andV_is O0 HL0.out (HE.out.perm.lt a ha) (HE.out.perm.lt b hb)).trans (name_meet O0.data HE.out.perm ha hb hx e)
      clear LD1 O0 i0
      have BL := Below.refl v2.heap.size v2
      have cxl0 := xl.c0
      have cxl1 := xl.c1
      go_wp2_with fail
      clear cxl0 cxl1
      go_loopw [7] (fun i wr => ∃ k : Nat, k ≤ m0.n ∧ i = .int .i64 k ∧ Below v2.heap.size v2 wr) (fun i _ => m0.n - (intOf i).toNat)
      case atStart => exact ⟨0, Nat.zero_le _, rfl, BL⟩
      case round =>
        clear BL
        obtain ⟨k, hk, rfl, b⟩ := hrel
        have BL := b
        have s6 := b.size
        replace K0 := Lib.hid (K0.out.step b)
        replace R := Lib.hid (R.out.step b)
        replace xa := xa.below b (by omega)
        replace xl := xl.below b (by omega)
        replace L := Lib.hid (L.out.below b (by omega))
        replace BX := BX.trans (b.mono BX.size)
        clear b
        by_cases hlt : k < m0.n
        · have hlt' : (k : Int) < (m0.n : Int) := by omega
          obtain ⟨k5, hk5⟩ : ∃ q : Nat, q = k * 5 := ⟨_, rfl⟩
          obtain ⟨k6, hk6⟩ : ∃ q : Nat, q = k5 + 1 := ⟨_, rfl⟩
          have e5 : IntKind.i64.wrap ((k : Int) * 5) = (k5 : Int) := by rw [show (k : Int) * 5 = (k5 : Int) by omega]; exact IntWalk.i64_in _ (by omega)
          have e6 : IntKind.i64.wrap ((k5 : Int) + 1) = (k6 : Int) := by rw [show (k5 : Int) + 1 = (k6 : Int) by omega]; exact IntWalk.i64_in _ (by omega)
          obtain ⟨bb, hbb⟩ : ∃ q : Nat, q = k6 % m0.n := ⟨_, rfl⟩
          have lbb : bb < m0.n := by rw [hbb]; exact Nat.mod_lt _ (by omega)
          have lbb' : (bb : Int) < (m0.n : Int) := by omega
          have e7 : (k6 : Int).tmod (m0.n : Int) = (bb : Int) := by rw [Int.tmod_eq_emod_of_nonneg (by omega), ← Int.natCast_emod, hbb]
          have ek1 : IntKind.i64.wrap ((k : Int) + 1) = (k : Int) + 1 := IntWalk.i64_in _ (by omega)
          obtain ⟨mt, lmt, hV1, hV2⟩ := HM.out k bb hlt lbb
          have HV1 := Lib.hid hV1
          have HV2 := Lib.hid hV2
          clear hk5 hk6 hbb hV1 hV2
          have cxl0 := xl.c0
          have cxl1 := xl.c1
          go_wp2_with fail
          go_at_call 37
          refine (spec_AndOf (m := ⟨m0.n, fun _ => m0.n, ZT⟩) (x := (k : Int)) (y := (bb : Int)) L.out.logAt).mono ?_
          rintro e v3 ⟨rfl, b⟩
          rw [HV1.out]
          have s7 := b.size
          clear cxl0 cxl1
          replace K0 := Lib.hid (K0.out.step b)
          replace R := Lib.hid (R.out.step b)
          replace xa := xa.below b (by omega)
          replace xl := xl.below b (by omega)
          replace L := Lib.hid (L.out.below b (by omega))
          replace BX := BX.trans (b.mono BX.size)
          replace BL := BL.trans (b.mono BL.size)
          clear b
          have lmt' : (mt : Int) < (m0.n : Int) := by omega
          have e8 : (zr mt != zr mt) = false := by simp
          obtain ⟨eaR, lgR, rk⟩ := R.out.num hlt
          obtain ⟨-, -, rb⟩ := R.out.num lbb
          obtain ⟨-, -, rm⟩ := R.out.num lmt
          subst eaR
          have cxa0 := xa.c0
          have cxa1 := xa.c1
          go_wp2_with fail
          have fl0 : w1.heap.size < v3.heap.size := by omega
          have KK0 : Below v3.heap.size v3 v3.drew := (Below.refl _ _).drew
          refine region_plain (fuel := 19) (listed := #[false, false, false, false, false, false, false, false, false, false, false, false, false, false, false, false, false, false, false]) (fun W' => Below v3.heap.size v3 W') (by kernel_rfl) (by kernel_rfl) (by kernel_rfl) ?_
          refine hold_take (i := 0) (d := 48) (v := ?vb0) (listed' := #[true, false, false, false, false, false, false, false, false, false, false, false, false, false, false, false, false, false, false]) rfl (by kernel_rfl) (by kernel_rfl) (by kernel_rfl) rfl (by rfl) (by kernel_rfl) KK0 ?hb0 ?rb0
          case hb0 =>
            intro w' hSw
            have hSb : Below v3.heap.size v3 w' := hSw; have yy0 := (hSb.cell (p := ⟨w1.heap.size, 0, none⟩) fl0).trans cxa0; have yy1 := (hSb.cell (p := ⟨w1.heap.size, 1, none⟩) fl0).trans cxa1; have yy2 := (hSb.cell (p := ⟨gR, k, none⟩) lgR).trans rk; have yy3 := (hSb.cell (p := ⟨gR, bb, none⟩) lgR).trans rb; have yy4 := (hSb.cell (p := ⟨gR, mt, none⟩) lgR).trans rm
            go_simp
            try with_reducible rfl
          simp only [List.setIfInBounds_toArray, List.set_cons_zero, List.set_cons_succ]
          refine hold_take (i := 1) (d := 49) (v := ?vb1) (listed' := #[true, true, false, false, false, false, false, false, false, false, false, false, false, false, false, false, false, false, false]) rfl (by kernel_rfl) (by kernel_rfl) (by kernel_rfl) rfl (by rfl) (by kernel_rfl) KK0 ?hb1 ?rb1
          case hb1 =>
            intro w' hSw
            have hSb : Below v3.heap.size v3 w' := hSw; have yy0 := (hSb.cell (p := ⟨w1.heap.size, 0, none⟩) fl0).trans cxa0; have yy1 := (hSb.cell (p := ⟨w1.heap.size, 1, none⟩) fl0).trans cxa1; have yy2 := (hSb.cell (p := ⟨gR, k, none⟩) lgR).trans rk; have yy3 := (hSb.cell (p := ⟨gR, bb, none⟩) lgR).trans rb; have yy4 := (hSb.cell (p := ⟨gR, mt, none⟩) lgR).trans rm
            go_simp
            try with_reducible rfl
          simp only [List.setIfInBounds_toArray, List.set_cons_zero, List.set_cons_succ]
          refine hold_take (i := 2) (d := 50) (v := ?vb2) (listed' := #[true, true, true, false, false, false, false, false, false, false, false, false, false, false, false, false, false, false, false]) rfl (by kernel_rfl) (by kernel_rfl) (by kernel_rfl) rfl (by rfl) (by kernel_rfl) KK0 ?hb2 ?rb2
          case hb2 =>
            intro w' hSw
            have hSb : Below v3.heap.size v3 w' := hSw; have yy0 := (hSb.cell (p := ⟨w1.heap.size, 0, none⟩) fl0).trans cxa0; have yy1 := (hSb.cell (p := ⟨w1.heap.size, 1, none⟩) fl0).trans cxa1; have yy2 := (hSb.cell (p := ⟨gR, k, none⟩) lgR).trans rk; have yy3 := (hSb.cell (p := ⟨gR, bb, none⟩) lgR).trans rb; have yy4 := (hSb.cell (p := ⟨gR, mt, none⟩) lgR).trans rm
            go_simp
            try with_reducible rfl
          simp only [List.setIfInBounds_toArray, List.set_cons_zero, List.set_cons_succ]
          refine hold_take (i := 3) (d := 51) (v := ?vb3) (listed' := #[true, true, true, true, false, false, false, false, false, false, false, false, false, false, false, false, false, false, false]) rfl (by kernel_rfl) (by kernel_rfl) (by kernel_rfl) rfl (by rfl) (by kernel_rfl) KK0 ?hb3 ?rb3
          case hb3 =>
            intro w' hSw
            have hSb : Below v3.heap.size v3 w' := hSw; have yy0 := (hSb.cell (p := ⟨w1.heap.size, 0, none⟩) fl0).trans cxa0; have yy1 := (hSb.cell (p := ⟨w1.heap.size, 1, none⟩) fl0).trans cxa1; have yy2 := (hSb.cell (p := ⟨gR, k, none⟩) lgR).trans rk; have yy3 := (hSb.cell (p := ⟨gR, bb, none⟩) lgR).trans rb; have yy4 := (hSb.cell (p := ⟨gR, mt, none⟩) lgR).trans rm
            go_simp
            try with_reducible rfl
          simp only [List.setIfInBounds_toArray, List.set_cons_zero, List.set_cons_succ]
          refine hold_take (i := 4) (d := 52) (v := ?vb4) (listed' := #[true, true, true, true, true, false, false, false, false, false, false, false, false, false, false, false, false, false, false]) rfl (by kernel_rfl) (by kernel_rfl) (by kernel_rfl) rfl (by rfl) (by kernel_rfl) KK0 ?hb4 ?rb4
          case hb4 =>
            intro w' hSw
            have hSb : Below v3.heap.size v3 w' := hSw; have yy0 := (hSb.cell (p := ⟨w1.heap.size, 0, none⟩) fl0).trans cxa0; have yy1 := (hSb.cell (p := ⟨w1.heap.size, 1, none⟩) fl0).trans cxa1; have yy2 := (hSb.cell (p := ⟨gR, k, none⟩) lgR).trans rk; have yy3 := (hSb.cell (p := ⟨gR, bb, none⟩) lgR).trans rb; have yy4 := (hSb.cell (p := ⟨gR, mt, none⟩) lgR).trans rm
            go_simp
            try with_reducible rfl
          simp only [List.setIfInBounds_toArray, List.set_cons_zero, List.set_cons_succ]
          refine hold_take (i := 5) (d := 53) (v := ?vb5) (listed' := #[true, true, true, true, true, true, false, false, false, false, false, false, false, false, false, false, false, false, false]) rfl (by kernel_rfl) (by kernel_rfl) (by kernel_rfl) rfl (by rfl) (by kernel_rfl) KK0 ?hb5 ?rb5
          case hb5 =>
            intro w' hSw
            have hSb : Below v3.heap.size v3 w' := hSw; have yy0 := (hSb.cell (p := ⟨w1.heap.size, 0, none⟩) fl0).trans cxa0; have yy1 := (hSb.cell (p := ⟨w1.heap.size, 1, none⟩) fl0).trans cxa1; have yy2 := (hSb.cell (p := ⟨gR, k, none⟩) lgR).trans rk; have yy3 := (hSb.cell (p := ⟨gR, bb, none⟩) lgR).trans rb; have yy4 := (hSb.cell (p := ⟨gR, mt, none⟩) lgR).trans rm
            go_simp
            try with_reducible rfl
          simp only [List.setIfInBounds_toArray, List.set_cons_zero, List.set_cons_succ]
          refine hold_take (i := 6) (d := 54) (v := ?vb6) (listed' := #[true, true, true, true, true, true, true, false, false, false, false, false, false, false, false, false, false, false, false]) rfl (by kernel_rfl) (by kernel_rfl) (by kernel_rfl) rfl (by rfl) (by kernel_rfl) KK0 ?hb6 ?rb6
          case hb6 =>
            intro w' hSw
            have hSb : Below v3.heap.size v3 w' := hSw; have yy0 := (hSb.cell (p := ⟨w1.heap.size, 0, none⟩) fl0).trans cxa0; have yy1 := (hSb.cell (p := ⟨w1.heap.size, 1, none⟩) fl0).trans cxa1; have yy2 := (hSb.cell (p := ⟨gR, k, none⟩) lgR).trans rk; have yy3 := (hSb.cell (p := ⟨gR, bb, none⟩) lgR).trans rb; have yy4 := (hSb.cell (p := ⟨gR, mt, none⟩) lgR).trans rm
            go_simp
            try with_reducible rfl
          simp only [List.setIfInBounds_toArray, List.set_cons_zero, List.set_cons_succ]
          refine hold_take (i := 7) (d := 55) (v := ?vb7) (listed' := #[true, true, true, true, true, true, true, true, false, false, false, false, false, false, false, false, false, false, false]) rfl (by kernel_rfl) (by kernel_rfl) (by kernel_rfl) rfl (by rfl) (by kernel_rfl) KK0 ?hb7 ?rb7
          case hb7 =>
            intro w' hSw
            have hSb : Below v3.heap.size v3 w' := hSw; have yy0 := (hSb.cell (p := ⟨w1.heap.size, 0, none⟩) fl0).trans cxa0; have yy1 := (hSb.cell (p := ⟨w1.heap.size, 1, none⟩) fl0).trans cxa1; have yy2 := (hSb.cell (p := ⟨gR, k, none⟩) lgR).trans rk; have yy3 := (hSb.cell (p := ⟨gR, bb, none⟩) lgR).trans rb; have yy4 := (hSb.cell (p := ⟨gR, mt, none⟩) lgR).trans rm
            go_simp
            try with_reducible rfl
          simp only [List.setIfInBounds_toArray, List.set_cons_zero, List.set_cons_succ]
          refine hold_take (i := 8) (d := 56) (v := ?vb8) (listed' := #[true, true, true, true, true, true, true, true, true, false, false, false, false, false, false, false, false, false, false]) rfl (by kernel_rfl) (by kernel_rfl) (by kernel_rfl) rfl (by rfl) (by kernel_rfl) KK0 ?hb8 ?rb8
          case hb8 =>
            intro w' hSw
            have hSb : Below v3.heap.size v3 w' := hSw; have yy0 := (hSb.cell (p := ⟨w1.heap.size, 0, none⟩) fl0).trans cxa0; have yy1 := (hSb.cell (p := ⟨w1.heap.size, 1, none⟩) fl0).trans cxa1; have yy2 := (hSb.cell (p := ⟨gR, k, none⟩) lgR).trans rk; have yy3 := (hSb.cell (p := ⟨gR, bb, none⟩) lgR).trans rb; have yy4 := (hSb.cell (p := ⟨gR, mt, none⟩) lgR).trans rm
            go_simp
            try with_reducible rfl
          simp only [List.setIfInBounds_toArray, List.set_cons_zero, List.set_cons_succ]
          refine hold_take (i := 9) (d := 57) (v := ?vb9) (listed' := #[true, true, true, true, true, true, true, true, true, true, false, false, false, false, false, false, false, false, false]) rfl (by kernel_rfl) (by kernel_rfl) (by kernel_rfl) rfl (by rfl) (by kernel_rfl) KK0 ?hb9 ?rb9
          case hb9 =>
            intro w' hSw
            have hSb : Below v3.heap.size v3 w' := hSw; have yy0 := (hSb.cell (p := ⟨w1.heap.size, 0, none⟩) fl0).trans cxa0; have yy1 := (hSb.cell (p := ⟨w1.heap.size, 1, none⟩) fl0).trans cxa1; have yy2 := (hSb.cell (p := ⟨gR, k, none⟩) lgR).trans rk; have yy3 := (hSb.cell (p := ⟨gR, bb, none⟩) lgR).trans rb; have yy4 := (hSb.cell (p := ⟨gR, mt, none⟩) lgR).trans rm
            go_simp
            try with_reducible rfl
          simp only [List.setIfInBounds_toArray, List.set_cons_zero, List.set_cons_succ]
          refine hold_take (i := 10) (d := 58) (v := ?vb10) (listed' := #[true, true, true, true, true, true, true, true, true, true, true, false, false, false, false, false, false, false, false]) rfl (by kernel_rfl) (by kernel_rfl) (by kernel_rfl) rfl (by rfl) (by kernel_rfl) KK0 ?hb10 ?rb10
          case hb10 =>
            intro w' hSw
            have hSb : Below v3.heap.size v3 w' := hSw; have yy0 := (hSb.cell (p := ⟨w1.heap.size, 0, none⟩) fl0).trans cxa0; have yy1 := (hSb.cell (p := ⟨w1.heap.size, 1, none⟩) fl0).trans cxa1; have yy2 := (hSb.cell (p := ⟨gR, k, none⟩) lgR).trans rk; have yy3 := (hSb.cell (p := ⟨gR, bb, none⟩) lgR).trans rb; have yy4 := (hSb.cell (p := ⟨gR, mt, none⟩) lgR).trans rm
            go_simp
            try with_reducible rfl
          simp only [List.setIfInBounds_toArray, List.set_cons_zero, List.set_cons_succ]
          refine hold_take (i := 11) (d := 59) (v := ?vb11) (listed' := #[true, true, true, true, true, true, true, true, true, true, true, true, false, false, false, false, false, false, false]) rfl (by kernel_rfl) (by kernel_rfl) (by kernel_rfl) rfl (by rfl) (by kernel_rfl) KK0 ?hb11 ?rb11
          case hb11 =>
            intro w' hSw
            have hSb : Below v3.heap.size v3 w' := hSw; have yy0 := (hSb.cell (p := ⟨w1.heap.size, 0, none⟩) fl0).trans cxa0; have yy1 := (hSb.cell (p := ⟨w1.heap.size, 1, none⟩) fl0).trans cxa1; have yy2 := (hSb.cell (p := ⟨gR, k, none⟩) lgR).trans rk; have yy3 := (hSb.cell (p := ⟨gR, bb, none⟩) lgR).trans rb; have yy4 := (hSb.cell (p := ⟨gR, mt, none⟩) lgR).trans rm
            go_simp
            try with_reducible rfl
          simp only [List.setIfInBounds_toArray, List.set_cons_zero, List.set_cons_succ]
          refine hold_take (i := 12) (d := 60) (v := ?vb12) (listed' := #[true, true, true, true, true, true, true, true, true, true, true, true, true, false, false, false, false, false, false]) rfl (by kernel_rfl) (by kernel_rfl) (by kernel_rfl) rfl (by rfl) (by kernel_rfl) KK0 ?hb12 ?rb12
          case hb12 =>
            intro w' hSw
            have hSb : Below v3.heap.size v3 w' := hSw; have yy0 := (hSb.cell (p := ⟨w1.heap.size, 0, none⟩) fl0).trans cxa0; have yy1 := (hSb.cell (p := ⟨w1.heap.size, 1, none⟩) fl0).trans cxa1; have yy2 := (hSb.cell (p := ⟨gR, k, none⟩) lgR).trans rk; have yy3 := (hSb.cell (p := ⟨gR, bb, none⟩) lgR).trans rb; have yy4 := (hSb.cell (p := ⟨gR, mt, none⟩) lgR).trans rm
            go_simp
            try with_reducible rfl
          simp only [List.setIfInBounds_toArray, List.set_cons_zero, List.set_cons_succ]
          refine hold_take (i := 13) (d := 61) (v := ?vb13) (listed' := #[true, true, true, true, true, true, true, true, true, true, true, true, true, true, false, false, false, false, false]) rfl (by kernel_rfl) (by kernel_rfl) (by kernel_rfl) rfl (by rfl) (by kernel_rfl) KK0 ?hb13 ?rb13
          case hb13 =>
            intro w' hSw
            have hSb : Below v3.heap.size v3 w' := hSw; have yy0 := (hSb.cell (p := ⟨w1.heap.size, 0, none⟩) fl0).trans cxa0; have yy1 := (hSb.cell (p := ⟨w1.heap.size, 1, none⟩) fl0).trans cxa1; have yy2 := (hSb.cell (p := ⟨gR, k, none⟩) lgR).trans rk; have yy3 := (hSb.cell (p := ⟨gR, bb, none⟩) lgR).trans rb; have yy4 := (hSb.cell (p := ⟨gR, mt, none⟩) lgR).trans rm
            go_simp
            try with_reducible rfl
          simp only [List.setIfInBounds_toArray, List.set_cons_zero, List.set_cons_succ]
          refine hold_take (i := 14) (d := 62) (v := ?vb14) (listed' := #[true, true, true, true, true, true, true, true, true, true, true, true, true, true, true, false, false, false, false]) rfl (by kernel_rfl) (by kernel_rfl) (by kernel_rfl) rfl (by rfl) (by kernel_rfl) KK0 ?hb14 ?rb14
          case hb14 =>
            intro w' hSw
            have hSb : Below v3.heap.size v3 w' := hSw; have yy0 := (hSb.cell (p := ⟨w1.heap.size, 0, none⟩) fl0).trans cxa0; have yy1 := (hSb.cell (p := ⟨w1.heap.size, 1, none⟩) fl0).trans cxa1; have yy2 := (hSb.cell (p := ⟨gR, k, none⟩) lgR).trans rk; have yy3 := (hSb.cell (p := ⟨gR, bb, none⟩) lgR).trans rb; have yy4 := (hSb.cell (p := ⟨gR, mt, none⟩) lgR).trans rm
            go_simp
            try with_reducible rfl
          simp only [List.setIfInBounds_toArray, List.set_cons_zero, List.set_cons_succ]
          refine hold_take (i := 15) (d := 63) (v := ?vb15) (listed' := #[true, true, true, true, true, true, true, true, true, true, true, true, true, true, true, true, false, false, false]) rfl (by kernel_rfl) (by kernel_rfl) (by kernel_rfl) rfl (by rfl) (by kernel_rfl) KK0 ?hb15 ?rb15
          case hb15 =>
            intro w' hSw
            have hSb : Below v3.heap.size v3 w' := hSw; have yy0 := (hSb.cell (p := ⟨w1.heap.size, 0, none⟩) fl0).trans cxa0; have yy1 := (hSb.cell (p := ⟨w1.heap.size, 1, none⟩) fl0).trans cxa1; have yy2 := (hSb.cell (p := ⟨gR, k, none⟩) lgR).trans rk; have yy3 := (hSb.cell (p := ⟨gR, bb, none⟩) lgR).trans rb; have yy4 := (hSb.cell (p := ⟨gR, mt, none⟩) lgR).trans rm
            go_simp
            try with_reducible rfl
          simp only [List.setIfInBounds_toArray, List.set_cons_zero, List.set_cons_succ]
          refine hold_call (i := 16) (d := 64) (listed' := #[true, true, true, true, true, true, true, true, true, true, true, true, true, true, true, true, true, false, false]) rfl (by kernel_rfl) rfl (by rfl) (by kernel_rfl) ?heb16 (AndOf_any (nc := nc0) (x := zr k) (y := zr bb) (LogAtK (K0.out.step KK0))) ?hcb16
          case heb16 => go_simp
          rintro e v4 ⟨rfl, b⟩
          rw [HV2.out]
          have KK1 : Below v3.heap.size v3 v4 := KK0.trans (b.mono KK0.size)
          clear b
          refine ⟨_, rfl, KK1, ?_⟩
          simp only [List.setIfInBounds_toArray, List.set_cons_zero, List.set_cons_succ]
          refine hold_take (i := 17) (d := 65) (v := ?vb17) (listed' := #[true, true, true, true, true, true, true, true, true, true, true, true, true, true, true, true, true, true, false]) rfl (by kernel_rfl) (by kernel_rfl) (by kernel_rfl) rfl (by rfl) (by kernel_rfl) KK1 ?hb17 ?rb17
          case hb17 =>
            intro w' hSw
            have hSb : Below v3.heap.size v3 w' := hSw; have yy0 := (hSb.cell (p := ⟨w1.heap.size, 0, none⟩) fl0).trans cxa0; have yy1 := (hSb.cell (p := ⟨w1.heap.size, 1, none⟩) fl0).trans cxa1; have yy2 := (hSb.cell (p := ⟨gR, k, none⟩) lgR).trans rk; have yy3 := (hSb.cell (p := ⟨gR, bb, none⟩) lgR).trans rb; have yy4 := (hSb.cell (p := ⟨gR, mt, none⟩) lgR).trans rm
            go_simp
            try with_reducible rfl
          simp only [List.setIfInBounds_toArray, List.set_cons_zero, List.set_cons_succ]
          refine hold_take (i := 18) (d := 66) (v := ?vb18) (listed' := #[true, true, true, true, true, true, true, true, true, true, true, true, true, true, true, true, true, true, true]) rfl (by kernel_rfl) (by kernel_rfl) (by kernel_rfl) rfl (by rfl) (by kernel_rfl) KK1 ?hb18 ?rb18
          case hb18 =>
            intro w' hSw
            have hSb : Below v3.heap.size v3 w' := hSw; have yy0 := (hSb.cell (p := ⟨w1.heap.size, 0, none⟩) fl0).trans cxa0; have yy1 := (hSb.cell (p := ⟨w1.heap.size, 1, none⟩) fl0).trans cxa1; have yy2 := (hSb.cell (p := ⟨gR, k, none⟩) lgR).trans rk; have yy3 := (hSb.cell (p := ⟨gR, bb, none⟩) lgR).trans rb; have yy4 := (hSb.cell (p := ⟨gR, mt, none⟩) lgR).trans rm
            go_simp
            try with_reducible rfl
          simp only [List.setIfInBounds_toArray, List.set_cons_zero, List.set_cons_succ]
          refine hold_done (by kernel_rfl) ?_ _
          clear cxa0 cxa1
          have s8 := KK1.size
          replace K0 := Lib.hid (K0.out.step KK1)
          replace R := Lib.hid (R.out.step KK1)
          replace xa := xa.below KK1 (by omega)
          replace xl := xl.below KK1 (by omega)
          replace L := Lib.hid (L.out.below KK1 (by omega))
          replace BX := BX.trans (KK1.mono BX.size)
          replace BL := BL.trans (KK1.mono BL.size)
          clear KK0 KK1 rk rb rm
          go_wp2_with fail
          go_roundw
          case rel => exact ⟨k + 1, by omega, by go_num, BL⟩
          case measure => simp [intOf]; omega
        · have hlt' : ¬ (k : Int) < (m0.n : Int) := by omega
          have cxa0 := xa.c0
          have cxa1 := xa.c1
          have cxl0 := xl.c0
          have cxl1 := xl.c1
          go_wp2_with fail
          have fl0 : w1.heap.size < wr.heap.size := by omega
          have fl1 : w3.heap.size < wr.heap.size := by omega
          obtain ⟨nA, hnA⟩ : ∃ q : Nat, q = (atomsV ⟨m0.n, fun _ => m0.n, m0.Z⟩).length := ⟨_, rfl⟩
          have hA1 := Lib.hid (HAT.out.trans hnA.symm)
          have hA2 := Lib.hid hnA.symm
          clear hnA
          have KK0 : Below wr.heap.size wr wr.drew := (Below.refl _ _).drew
          refine region_plain (fuel := 14) (listed := #[false, false, false, false, false, false, false, false, false, false, false, false, false, false]) (fun W' => Below wr.heap.size wr W') (by kernel_rfl) (by kernel_rfl) (by kernel_rfl) ?_
          refine hold_take (i := 0) (d := 67) (v := ?vc0) (listed' := #[true, false, false, false, false, false, false, false, false, false, false, false, false, false]) rfl (by kernel_rfl) (by kernel_rfl) (by kernel_rfl) rfl (by rfl) (by kernel_rfl) KK0 ?hc0 ?rc0
          case hc0 =>
            intro w' hSw
            have hSb : Below wr.heap.size wr w' := hSw; have yy0 := (hSb.cell (p := ⟨w1.heap.size, 0, none⟩) fl0).trans cxa0; have yy1 := (hSb.cell (p := ⟨w1.heap.size, 1, none⟩) fl0).trans cxa1; have yy2 := (hSb.cell (p := ⟨w3.heap.size, 0, none⟩) fl1).trans cxl0; have yy3 := (hSb.cell (p := ⟨w3.heap.size, 1, none⟩) fl1).trans cxl1
            go_simp
            try with_reducible rfl
          simp only [List.setIfInBounds_toArray, List.set_cons_zero, List.set_cons_succ]
          refine hold_call (i := 1) (d := 68) (listed' := #[true, true, false, false, false, false, false, false, false, false, false, false, false, false]) rfl (by kernel_rfl) rfl (by rfl) (by kernel_rfl) ?hec1 (LogicOk_any (nc := ncL) (m := ⟨m0.n, fun _ => m0.n, ZT⟩) (L.out.below KK0 (by omega)).logAt) ?hcc1
          case hec1 => go_simp
          rintro e v5 ⟨rfl, b⟩
          rw [HLT.out]
          have KK1 : Below wr.heap.size wr v5 := KK0.trans (b.mono KK0.size)
          clear b
          refine ⟨_, rfl, KK1, ?_⟩
          simp only [List.setIfInBounds_toArray, List.set_cons_zero, List.set_cons_succ]
          refine hold_take (i := 2) (d := 69) (v := ?vc2) (listed' := #[true, true, true, false, false, false, false, false, false, false, false, false, false, false]) rfl (by kernel_rfl) (by kernel_rfl) (by kernel_rfl) rfl (by rfl) (by kernel_rfl) KK1 ?hc2 ?rc2
          case hc2 =>
            intro w' hSw
            have hSb : Below wr.heap.size wr w' := hSw; have yy0 := (hSb.cell (p := ⟨w1.heap.size, 0, none⟩) fl0).trans cxa0; have yy1 := (hSb.cell (p := ⟨w1.heap.size, 1, none⟩) fl0).trans cxa1; have yy2 := (hSb.cell (p := ⟨w3.heap.size, 0, none⟩) fl1).trans cxl0; have yy3 := (hSb.cell (p := ⟨w3.heap.size, 1, none⟩) fl1).trans cxl1
            go_simp
            try with_reducible rfl
          simp only [List.setIfInBounds_toArray, List.set_cons_zero, List.set_cons_succ]
          refine hold_take (i := 3) (d := 70) (v := ?vc3) (listed' := #[true, true, true, true, false, false, false, false, false, false, false, false, false, false]) rfl (by kernel_rfl) (by kernel_rfl) (by kernel_rfl) rfl (by rfl) (by kernel_rfl) KK1 ?hc3 ?rc3
          case hc3 =>
            intro w' hSw
            have hSb : Below wr.heap.size wr w' := hSw; have yy0 := (hSb.cell (p := ⟨w1.heap.size, 0, none⟩) fl0).trans cxa0; have yy1 := (hSb.cell (p := ⟨w1.heap.size, 1, none⟩) fl0).trans cxa1; have yy2 := (hSb.cell (p := ⟨w3.heap.size, 0, none⟩) fl1).trans cxl0; have yy3 := (hSb.cell (p := ⟨w3.heap.size, 1, none⟩) fl1).trans cxl1
            go_simp
            try with_reducible rfl
          simp only [List.setIfInBounds_toArray, List.set_cons_zero, List.set_cons_succ]
          refine hold_take (i := 4) (d := 71) (v := ?vc4) (listed' := #[true, true, true, true, true, false, false, false, false, false, false, false, false, false]) rfl (by kernel_rfl) (by kernel_rfl) (by kernel_rfl) rfl (by rfl) (by kernel_rfl) KK1 ?hc4 ?rc4
          case hc4 =>
            intro w' hSw
            have hSb : Below wr.heap.size wr w' := hSw; have yy0 := (hSb.cell (p := ⟨w1.heap.size, 0, none⟩) fl0).trans cxa0; have yy1 := (hSb.cell (p := ⟨w1.heap.size, 1, none⟩) fl0).trans cxa1; have yy2 := (hSb.cell (p := ⟨w3.heap.size, 0, none⟩) fl1).trans cxl0; have yy3 := (hSb.cell (p := ⟨w3.heap.size, 1, none⟩) fl1).trans cxl1
            go_simp
            try with_reducible rfl
          simp only [List.setIfInBounds_toArray, List.set_cons_zero, List.set_cons_succ]
          refine hold_take (i := 7) (d := 74) (v := ?vc7) (listed' := #[true, true, true, true, true, false, false, true, false, false, false, false, false, false]) rfl (by kernel_rfl) (by kernel_rfl) (by kernel_rfl) rfl (by rfl) (by kernel_rfl) KK1 ?hc7 ?rc7
          case hc7 =>
            intro w' hSw
            have hSb : Below wr.heap.size wr w' := hSw; have yy0 := (hSb.cell (p := ⟨w1.heap.size, 0, none⟩) fl0).trans cxa0; have yy1 := (hSb.cell (p := ⟨w1.heap.size, 1, none⟩) fl0).trans cxa1; have yy2 := (hSb.cell (p := ⟨w3.heap.size, 0, none⟩) fl1).trans cxl0; have yy3 := (hSb.cell (p := ⟨w3.heap.size, 1, none⟩) fl1).trans cxl1
            go_simp
            try with_reducible rfl
          simp only [List.setIfInBounds_toArray, List.set_cons_zero, List.set_cons_succ]
          refine hold_take (i := 8) (d := 75) (v := ?vc8) (listed' := #[true, true, true, true, true, false, false, true, true, false, false, false, false, false]) rfl (by kernel_rfl) (by kernel_rfl) (by kernel_rfl) rfl (by rfl) (by kernel_rfl) KK1 ?hc8 ?rc8
          case hc8 =>
            intro w' hSw
            have hSb : Below wr.heap.size wr w' := hSw; have yy0 := (hSb.cell (p := ⟨w1.heap.size, 0, none⟩) fl0).trans cxa0; have yy1 := (hSb.cell (p := ⟨w1.heap.size, 1, none⟩) fl0).trans cxa1; have yy2 := (hSb.cell (p := ⟨w3.heap.size, 0, none⟩) fl1).trans cxl0; have yy3 := (hSb.cell (p := ⟨w3.heap.size, 1, none⟩) fl1).trans cxl1
            go_simp
            try with_reducible rfl
          simp only [List.setIfInBounds_toArray, List.set_cons_zero, List.set_cons_succ]
          refine hold_call (i := 5) (d := 72) (listed' := #[true, true, true, true, true, true, false, true, true, false, false, false, false, false]) rfl (by kernel_rfl) rfl (by rfl) (by kernel_rfl) ?hec5 (AtomsOf_len (m := ⟨m0.n, fun _ => m0.n, ZT⟩) (k := nA) (L.out.below KK1 (by omega)).logAt.hn (L.out.below KK1 (by omega)).logAt.hL (L.out.below KK1 (by omega)).logAt.mat (L.out.below KK1 (by omega)).hB hA1.out) ?hcc5
          case hec5 => go_simp
          rintro e v6 ⟨aa, ca, rfl, b⟩
          have KK2 : Below wr.heap.size wr v6 := KK1.trans (b.mono KK1.size)
          clear b
          refine ⟨_, rfl, KK2, ?_⟩
          simp only [List.setIfInBounds_toArray, List.set_cons_zero, List.set_cons_succ]
          refine hold_take (i := 6) (d := 73) (v := ?vc6) (listed' := #[true, true, true, true, true, true, true, true, true, false, false, false, false, false]) rfl (by kernel_rfl) (by kernel_rfl) (by kernel_rfl) rfl (by rfl) (by kernel_rfl) KK2 ?hc6 ?rc6
          case hc6 =>
            intro w' hSw
            have hSb : Below wr.heap.size wr w' := hSw; have yy0 := (hSb.cell (p := ⟨w1.heap.size, 0, none⟩) fl0).trans cxa0; have yy1 := (hSb.cell (p := ⟨w1.heap.size, 1, none⟩) fl0).trans cxa1; have yy2 := (hSb.cell (p := ⟨w3.heap.size, 0, none⟩) fl1).trans cxl0; have yy3 := (hSb.cell (p := ⟨w3.heap.size, 1, none⟩) fl1).trans cxl1
            go_simp
            try with_reducible rfl
          simp only [List.setIfInBounds_toArray, List.set_cons_zero, List.set_cons_succ]
          have LS := LogAt.square (LogAtK (K0.out.step KK2)) HL0.out
          refine hold_call (i := 9) (d := 76) (listed' := #[true, true, true, true, true, true, true, true, true, true, false, false, false, false]) rfl (by kernel_rfl) rfl (by rfl) (by kernel_rfl) ?hec9 (AtomsOf_len (m := ⟨m0.n, fun _ => m0.n, m0.Z⟩) (k := nA) LS.hn LS.hL LS.mat (Nat.le_refl _) hA2.out) ?hcc9
          case hec9 => go_simp
          rintro e v7 ⟨ab, cb, rfl, b⟩
          have KK3 : Below wr.heap.size wr v7 := KK2.trans (b.mono KK2.size)
          clear b
          refine ⟨_, rfl, KK3, ?_⟩
          simp only [List.setIfInBounds_toArray, List.set_cons_zero, List.set_cons_succ]
          refine hold_take (i := 10) (d := 77) (v := ?vc10) (listed' := #[true, true, true, true, true, true, true, true, true, true, true, false, false, false]) rfl (by kernel_rfl) (by kernel_rfl) (by kernel_rfl) rfl (by rfl) (by kernel_rfl) KK3 ?hc10 ?rc10
          case hc10 =>
            intro w' hSw
            have hSb : Below wr.heap.size wr w' := hSw; have yy0 := (hSb.cell (p := ⟨w1.heap.size, 0, none⟩) fl0).trans cxa0; have yy1 := (hSb.cell (p := ⟨w1.heap.size, 1, none⟩) fl0).trans cxa1; have yy2 := (hSb.cell (p := ⟨w3.heap.size, 0, none⟩) fl1).trans cxl0; have yy3 := (hSb.cell (p := ⟨w3.heap.size, 1, none⟩) fl1).trans cxl1
            go_simp
            try with_reducible rfl
          simp only [List.setIfInBounds_toArray, List.set_cons_zero, List.set_cons_succ]
          refine hold_take (i := 11) (d := 78) (v := ?vc11) (listed' := #[true, true, true, true, true, true, true, true, true, true, true, true, false, false]) rfl (by kernel_rfl) (by kernel_rfl) (by kernel_rfl) rfl (by rfl) (by kernel_rfl) KK3 ?hc11 ?rc11
          case hc11 =>
            intro w' hSw
            have hSb : Below wr.heap.size wr w' := hSw; have yy0 := (hSb.cell (p := ⟨w1.heap.size, 0, none⟩) fl0).trans cxa0; have yy1 := (hSb.cell (p := ⟨w1.heap.size, 1, none⟩) fl0).trans cxa1; have yy2 := (hSb.cell (p := ⟨w3.heap.size, 0, none⟩) fl1).trans cxl0; have yy3 := (hSb.cell (p := ⟨w3.heap.size, 1, none⟩) fl1).trans cxl1
            go_simp
            try with_reducible rfl
          simp only [List.setIfInBounds_toArray, List.set_cons_zero, List.set_cons_succ]
          refine hold_take (i := 12) (d := 79) (v := ?vc12) (listed' := #[true, true, true, true, true, true, true, true, true, true, true, true, true, false]) rfl (by kernel_rfl) (by kernel_rfl) (by kernel_rfl) rfl (by rfl) (by kernel_rfl) KK3 ?hc12 ?rc12
          case hc12 =>
            intro w' hSw
            have hSb : Below wr.heap.size wr w' := hSw; have yy0 := (hSb.cell (p := ⟨w1.heap.size, 0, none⟩) fl0).trans cxa0; have yy1 := (hSb.cell (p := ⟨w1.heap.size, 1, none⟩) fl0).trans cxa1; have yy2 := (hSb.cell (p := ⟨w3.heap.size, 0, none⟩) fl1).trans cxl0; have yy3 := (hSb.cell (p := ⟨w3.heap.size, 1, none⟩) fl1).trans cxl1
            go_simp
            try with_reducible rfl
          simp only [List.setIfInBounds_toArray, List.set_cons_zero, List.set_cons_succ]
          refine hold_take (i := 13) (d := 2) (v := ?vc13) (listed' := #[true, true, true, true, true, true, true, true, true, true, true, true, true, true]) rfl (by kernel_rfl) (by kernel_rfl) (by kernel_rfl) rfl (by rfl) (by kernel_rfl) KK3 ?hc13 ?rc13
          case hc13 =>
            intro w' hSw
            have hSb : Below wr.heap.size wr w' := hSw; have yy0 := (hSb.cell (p := ⟨w1.heap.size, 0, none⟩) fl0).trans cxa0; have yy1 := (hSb.cell (p := ⟨w1.heap.size, 1, none⟩) fl0).trans cxa1; have yy2 := (hSb.cell (p := ⟨w3.heap.size, 0, none⟩) fl1).trans cxl0; have yy3 := (hSb.cell (p := ⟨w3.heap.size, 1, none⟩) fl1).trans cxl1
            go_simp
            try with_reducible rfl
          simp only [List.setIfInBounds_toArray, List.set_cons_zero, List.set_cons_succ]
          refine hold_done (by kernel_rfl) ?_ _
          clear cxa0 cxa1 cxl0 cxl1
          have s7 := KK3.size
          replace K0 := Lib.hid (K0.out.step KK3)
          replace R := Lib.hid (R.out.step KK3)
          replace xa := xa.below KK3 (by omega)
          replace xl := xl.below KK3 (by omega)
          replace L := Lib.hid (L.out.below KK3 (by omega))
          replace BX := BX.trans (KK3.mono BX.size)
          replace BL := BL.trans (KK3.mono BL.size)
          clear KK0 KK1 KK2 KK3
          go_wp2_with fail
          go_ret
          exact ⟨rfl, BX⟩
end Go.Proofs.Ytgjacinolenheaa
