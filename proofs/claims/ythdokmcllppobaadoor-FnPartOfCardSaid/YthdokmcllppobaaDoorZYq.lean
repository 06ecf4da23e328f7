/- The law on PartOf, walked at whatever code. -/
import Derived.Test.YthdokmcllppobaaDoorZLe
import Derived.Test.YthdokmcllppobaaDoorZSa
import Derived.Test.YthdokmcllppobaaDoorZYb
import Derived.Test.YthdokmcllppobaaDoorZYj
import Derived.Test.YthdokmcllppobaaDoorZYl
import Derived.Test.YthdokmcllppobaaDoorZYo
import Derived.Test.YthdokmcllppobaaDoorZVo
namespace Go.Proofs.YthdokmcllppobaaDoor
open Go.RowKit Go.Deep

/-- What comes back of a part: a logic, and one that keeps the law if the whole does. -/
theorem part_told {m : Mx} {k : Nat} {z : Nat → Int} {x : Int} {N : Nat} {ZT : Nat → Nat → Int} {yT : Nat → Nat} (hs : subV m k z x = true) (hN : N = memK x.toNat 12) (hZ : ZT = nameZ m.Z (memF x.toNat 12)) (hy : yT = partY (fun a => (z a).toNat) (memF x.toNat 12) (memB x.toNat 12)) :
    (1 ≤ N ∧ N ≤ 12) ∧ logicB ⟨N, fun _ => N, ZT⟩ N (fun c => (yT c : Int)) = true ∧ (keepsV m k z = true → keepsV ⟨N, fun _ => N, ZT⟩ N (fun c => (yT c : Int)) = true) := by
  unfold subV at hs
  rw [Bool.and_eq_true, Bool.and_eq_true] at hs
  obtain ⟨⟨hl, hi⟩, hc⟩ := hs
  obtain ⟨y0, o, hO0⟩ := (logicB_is hl).ortho
  have hkn : k = m.n := (logicB_is hl).pair.len
  subst hkn
  have hO : Ortho m z (fun a => (z a).toNat) o := hO0.congr fun a ha => by rw [hO0.zy a ha]; simp
  obtain ⟨i1, i2⟩ : 1 ≤ x ∧ x < (2 ^ m.n : Nat) := of_decide_eq_true hi
  obtain ⟨s, rfl⟩ := Int.eq_ofNat_of_zero_le (show 0 ≤ x by omega)
  have j1 : 1 ≤ s := by omega
  have j2 : s < 2 ^ m.n := by omega
  have hcl : Closed m (fun a => (z a).toNat) s := closedB_is hc
  have e0 : ((s : Nat) : Int).toNat = s := by simp
  rw [e0] at hN hZ hy
  have hE : Emb m.n (memK s 12) s (memF s 12) (memB s 12) := Emb.down hO.lat.order.top j2
  have ho := hcl.no hO j2 j1
  have hk : memK s 12 ≤ 12 := memsTo_len s 12
  have hc2 : Closed ⟨m.n, fun _ => m.n, m.Z⟩ (fun a => (z a).toNat) s := ⟨hcl.meet, hcl.not⟩
  have hD := part_data hO.data hc2 ho hE hk
  subst hN hZ hy
  refine ⟨⟨hD.pos, hk⟩, hD.isB, fun hkv => ?_⟩
  rw [keepsV_is hO] at hkv
  have hkv2 : keepsB ⟨m.n, fun _ => m.n, m.Z⟩ (fun a => (z a).toNat) = true := hkv
  have := part_keeps hO.data hc2 ho hE hk hkv2
  rw [← this]
  exact keepsV_is hD.ortho

set_option maxRecDepth 100000 in
set_option maxHeartbeats 4000000 in
theorem law_PartOf {A : Option Addr} {b o n cap : Nat} {z : Nat → Nat} {w : World} (h : CodeAt w A b o n cap z) (hT : TabOk w) :
    Calls Tryd.prog 5 #[.slice A n cap] w fun e w' => e = .returned (.bool true) ∧ Below w.heap.size w w' := by
  have hn := h.hn
  have hc := h.hc
  by_cases hbig : 1048576 < n
  · have hbig' : (1048576 : Int) < n := by omega
    clear h
    go_enter Tryd.func5, Tryd.ntmps5
    go_wp2_with fail
    go_ret
    exact ⟨rfl, Below.refl _ _⟩
  · have hbig' : ¬ (1048576 : Int) < n := by omega
    have HT := Lib.hid hT
    clear hT
    go_enter Tryd.func5, Tryd.ntmps5
    go_wp2_with fail
    go_at_call 19
    refine (draw_PartOf h).mono ?_
    rintro e w1 ⟨ua, l, m, na, g, o2, k, nc, zz, x, rfl, hF⟩
    have H1 := Held.start hF nc
    have s1 : (w1.alloc (.cells #[.slice ua m.n l.cap, .slice na k nc] 26)).heap.size = w1.heap.size + 1 := by simp
    obtain ⟨ok, hok⟩ : ∃ ok, ok = subV m k zz x := ⟨_, rfl⟩
    obtain ⟨N, hN⟩ : ∃ N, N = if ok = true then memK x.toNat 12 else 0 := ⟨_, rfl⟩
    obtain ⟨ZT, hZT⟩ : ∃ ZT, ZT = nameZ m.Z (memF x.toNat 12) := ⟨_, rfl⟩
    obtain ⟨yT, hyT⟩ : ∃ yT : Nat → Nat, yT = partY (fun a => (zz a).toNat) (memF x.toNat 12) (memB x.toNat 12) := ⟨_, rfl⟩
    have HI : Hid (∀ (W : World) (B : Nat), LogAt W B ua l m na g o2 k zz → TabOk W → Calls Tryd.prog 20 #[.agg #[.slice ua m.n l.cap, .slice na k nc], .int .i64 x] W (ResG W N ZT yT)) := by
      intro W B c0 c1
      subst hyT hZT hN hok
      exact (PartOf_any c0 c1).mono fun _ _ h => h.res
    have HS : Hid (∀ (W : World) (B : Nat), LogAt W B ua l m na g o2 k zz → Calls Tryd.prog 22 #[.agg #[.slice ua m.n l.cap, .slice na k nc], .int .i64 x] W (ResG W N ZT yT)) := by
      intro W B c0
      subst hyT hZT hN hok
      exact (spec_PartOf c0).mono fun _ _ h => h.res
    have HP : Hid (ok = true → (1 ≤ N ∧ N ≤ 12) ∧ logicB ⟨N, fun _ => N, ZT⟩ N (fun c => (yT c : Int)) = true ∧ (keepsV m k zz = true → keepsV ⟨N, fun _ => N, ZT⟩ N (fun c => (yT c : Int)) = true)) := fun e =>
      part_told (hok.symm.trans e) (hN.trans (if_pos e)) hZT hyT
    have HZ : Hid (ok = false → N = 0) := fun e => hN.trans (if_neg (by rw [e]; exact Bool.false_ne_true))
    clear h hF hok hN hZT hyT hn hc hbig hbig'
    have q0 := H1.box.c0
    have q1 := H1.box.c1
    go_wp2_with fail
    go_at_call 20
    refine (HI.out _ _ H1.log (HT.out.step H1.old HT.out.size)).mono ?_
    rintro e w3 ⟨uaL, lL, naL, gL, ncL, rfl, hh, b3⟩
    have H3 := H1.step b3
    have s3 : w1.heap.size < w3.heap.size := by have := b3.size; omega
    have xl := TwoAt.new w3 (.slice uaL N lL.cap) (.slice naL N ncL) 26
    have ba := (Below.refl w3.heap.size w3).alloc (Nat.le_refl _) (.cells #[.slice uaL N lL.cap, .slice naL N ncL] 26)
    have H4 := H3.step ba
    have L := Lib.hid (hh.below ba (by omega))
    have s4 : w3.heap.size + 1 ≤ (w3.alloc (.cells #[.slice uaL N lL.cap, .slice naL N ncL] 26)).heap.size ∧ (w3.alloc (.cells #[.slice uaL N lL.cap, .slice naL N ncL] 26)).heap.size ≤ w3.heap.size + 1 := by simp
    clear ba hh b3 H1 H3 s1 q0 q1 HI
    have q0 := H4.box.c0
    have q1 := H4.box.c1
    have y0 := xl.c0
    have y1 := xl.c1
    go_wp2_with fail
    generalize w3.alloc (.cells #[.slice uaL N lL.cap, .slice naL N ncL] 26) = w4 at xl L H4 s4 q0 q1 y0 y1 ⊢
    have fl0 : w1.heap.size < w4.heap.size := by omega
    have fl1 : w3.heap.size < w4.heap.size := by omega
    have KK0 : Below w4.heap.size w4 w4.drew := (Below.refl _ _).drew
    refine region_plain (fuel := 6) (listed := #[false, false, false, false, false, false]) (fun W' => Below w4.heap.size w4 W') (by kernel_rfl) (by kernel_rfl) (by kernel_rfl) ?_
    refine hold_take (i := 0) (d := 17) (v := ?va0) (listed' := #[true, false, false, false, false, false]) rfl (by kernel_rfl) (by kernel_rfl) (by kernel_rfl) rfl (by rfl) (by kernel_rfl) KK0 ?ha0 ?ra0
    case ha0 =>
      intro w' hSw
      have hSb : Below w4.heap.size w4 w' := hSw; have yy0 := (hSb.cell (p := ⟨w3.heap.size, 0, none⟩) fl1).trans y0; have yy1 := (hSb.cell (p := ⟨w3.heap.size, 1, none⟩) fl1).trans y1; have yy2 := (hSb.cell (p := ⟨w1.heap.size, 0, none⟩) fl0).trans q0; have yy3 := (hSb.cell (p := ⟨w1.heap.size, 1, none⟩) fl0).trans q1
      go_simp
      try with_reducible rfl
    simp only [List.setIfInBounds_toArray, List.set_cons_zero, List.set_cons_succ]
    refine hold_take (i := 1) (d := 18) (v := ?va1) (listed' := #[true, true, false, false, false, false]) rfl (by kernel_rfl) (by kernel_rfl) (by kernel_rfl) rfl (by rfl) (by kernel_rfl) KK0 ?ha1 ?ra1
    case ha1 =>
      intro w' hSw
      have hSb : Below w4.heap.size w4 w' := hSw; have yy0 := (hSb.cell (p := ⟨w3.heap.size, 0, none⟩) fl1).trans y0; have yy1 := (hSb.cell (p := ⟨w3.heap.size, 1, none⟩) fl1).trans y1; have yy2 := (hSb.cell (p := ⟨w1.heap.size, 0, none⟩) fl0).trans q0; have yy3 := (hSb.cell (p := ⟨w1.heap.size, 1, none⟩) fl0).trans q1
      go_simp
      try with_reducible rfl
    simp only [List.setIfInBounds_toArray, List.set_cons_zero, List.set_cons_succ]
    refine hold_take (i := 2) (d := 19) (v := ?va2) (listed' := #[true, true, true, false, false, false]) rfl (by kernel_rfl) (by kernel_rfl) (by kernel_rfl) rfl (by rfl) (by kernel_rfl) KK0 ?ha2 ?ra2
    case ha2 =>
      intro w' hSw
      have hSb : Below w4.heap.size w4 w' := hSw; have yy0 := (hSb.cell (p := ⟨w3.heap.size, 0, none⟩) fl1).trans y0; have yy1 := (hSb.cell (p := ⟨w3.heap.size, 1, none⟩) fl1).trans y1; have yy2 := (hSb.cell (p := ⟨w1.heap.size, 0, none⟩) fl0).trans q0; have yy3 := (hSb.cell (p := ⟨w1.heap.size, 1, none⟩) fl0).trans q1
      go_simp
      try with_reducible rfl
    simp only [List.setIfInBounds_toArray, List.set_cons_zero, List.set_cons_succ]
    refine hold_call (i := 3) (d := 20) (listed' := #[true, true, true, true, false, false]) rfl (by kernel_rfl) rfl (by rfl) (by kernel_rfl) ?hea3 (HS.out _ _ (H4.step KK0).log) ?hca3
    case hea3 => go_simp
    rintro e v1 ⟨uaX, lX, naX, gX, ncX, rfl, hx, b⟩
    have KK1 : Below w4.heap.size w4 v1 := KK0.trans (b.mono KK0.size)
    clear b
    refine ⟨_, rfl, KK1, ?_⟩
    simp only [List.setIfInBounds_toArray, List.set_cons_zero, List.set_cons_succ]
    refine hold_call (i := 4) (d := 21) (listed' := #[true, true, true, true, true, false]) rfl (by kernel_rfl) rfl (by rfl) (by kernel_rfl) ?hea4 (sameLogic_any (nc := ncL) (nc' := ncX) (L.out.below KK1 (by omega)).logAt hx.logAt) ?hca4
    case hea4 => go_simp
    rintro e v2 ⟨rfl, b⟩
    have KK2 : Below w4.heap.size w4 v2 := KK1.trans (b.mono KK1.size)
    clear b hx
    refine ⟨_, rfl, KK2, ?_⟩
    simp only [List.setIfInBounds_toArray, List.set_cons_zero, List.set_cons_succ]
    refine hold_take (i := 5) (d := 22) (v := ?va5) (listed' := #[true, true, true, true, true, true]) rfl (by kernel_rfl) (by kernel_rfl) (by kernel_rfl) rfl (by rfl) (by kernel_rfl) KK2 ?ha5 ?ra5
    case ha5 =>
      intro w' hSw
      have hSb : Below w4.heap.size w4 w' := hSw; have yy0 := (hSb.cell (p := ⟨w3.heap.size, 0, none⟩) fl1).trans y0; have yy1 := (hSb.cell (p := ⟨w3.heap.size, 1, none⟩) fl1).trans y1; have yy2 := (hSb.cell (p := ⟨w1.heap.size, 0, none⟩) fl0).trans q0; have yy3 := (hSb.cell (p := ⟨w1.heap.size, 1, none⟩) fl0).trans q1
      go_simp
      try with_reducible rfl
    simp only [List.setIfInBounds_toArray, List.set_cons_zero, List.set_cons_succ]
    refine hold_done (by kernel_rfl) ?_ _
    clear q0 q1 y0 y1
    have H5 := H4.step KK2
    have s5 := KK2.size
    replace xl := xl.below KK2 (by omega)
    replace L := Lib.hid (L.out.below KK2 (by omega))
    clear KK0 KK1 KK2 H4 HS fl0 fl1
    cases hok : ok with
    | false =>
      obtain rfl : N = 0 := HZ.out hok
      clear HZ HP hok
      have y0 := xl.c0
      have y1 := xl.c1
      go_wp2_with fail
      go_at_call 13
      refine (alive_any _).mono ?_
      rintro e w6 ⟨rfl, b⟩
      have H6 := H5.step b
      clear y0 y1 b
      go_wp2_with fail
      go_ret
      exact ⟨rfl, H6.old⟩
    | true =>
      obtain ⟨n0, hlog, hkeep⟩ := HP.out hok
      have HLG := Lib.hid hlog
      have HKP := Lib.hid hkeep
      have n00 : ¬ N = 0 := by omega
      clear HZ HP hok hlog hkeep
      have q0 := H5.box.c0
      have q1 := H5.box.c1
      have y0 := xl.c0
      have y1 := xl.c1
      go_wp2_with fail
      go_at_call 23
      refine (LogicOk_any (nc := ncL) (m := ⟨N, fun _ => N, ZT⟩) L.out.logAt).mono ?_
      rintro e w6 ⟨rfl, b⟩
      rw [HLG.out]
      have H6 := H5.step b
      have s6 := b.size
      replace xl := xl.below b (by omega)
      replace L := Lib.hid (L.out.below b (by omega))
      clear q0 q1 y0 y1 b H5
      have q0 := H6.box.c0
      have q1 := H6.box.c1
      have y0 := xl.c0
      have y1 := xl.c1
      go_wp2_with fail
      go_at_call 24
      refine (KeepsOk_any (nc := nc) H6.log).mono ?_
      rintro e w7 ⟨rfl, b⟩
      have H7 := H6.step b
      have s7 := b.size
      replace xl := xl.below b (by omega)
      replace L := Lib.hid (L.out.below b (by omega))
      clear q0 q1 y0 y1 b H6
      cases hkv : keepsV m k zz with
      | false =>
        go_wp2_with fail
        go_ret
        exact ⟨rfl, H7.old⟩
      | true =>
        have HK2 := Lib.hid (HKP.out hkv)
        clear HKP hkv
        have y0 := xl.c0
        have y1 := xl.c1
        go_wp2_with fail
        go_at_call 24
        refine (KeepsOk_any (nc := ncL) (m := ⟨N, fun _ => N, ZT⟩) L.out.logAt).mono ?_
        rintro e w8 ⟨rfl, b⟩
        rw [HK2.out]
        have H8 := H7.step b
        clear y0 y1 b H7
        go_wp2_with fail
        go_ret
        exact ⟨rfl, H8.old⟩
end Go.Proofs.YthdokmcllppobaaDoor
