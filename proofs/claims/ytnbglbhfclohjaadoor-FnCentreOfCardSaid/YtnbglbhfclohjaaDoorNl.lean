/- The law on CentreOf, walked at whatever code. -/
import Derived.Test.YtnbglbhfclohjaaDoorBh
import Derived.Test.YtnbglbhfclohjaaDoorBb
import Derived.Test.YtnbglbhfclohjaaDoorDn
import Derived.Test.YtnbglbhfclohjaaDoorNa
import Derived.Test.YtnbglbhfclohjaaDoorIb
import Derived.Test.YtnbglbhfclohjaaDoorYi
import Derived.Test.YtnbglbhfclohjaaDoorOi
import Derived.Test.YtnbglbhfclohjaaDoorLe
namespace Go.Proofs.YtnbglbhfclohjaaDoor
open Go.RowKit Go.Deep

theorem eight_mid : (midV ⟨8, fun _ => 8, setsZ⟩ 8 (fun c => (setsY 8 c : Int))).length = 8 := by
  unfold midV
  rw [if_pos (LogicData.isB (sets_data 3 (by omega)))]
  refine midTo_all fun a ha => ?_
  have e : (fun a => ((fun c => (setsY 8 c : Int)) a).toNat) = setsY 8 := by funext c; simp
  rw [e]
  exact sets_mid ha
theorem mid_empty {m : Mx} {k : Nat} {z : Nat → Int} (h : (midV m k z).length = 0) : logicB m k z = false := by
  cases hl : logicB m k z with
  | false => rfl
  | true =>
    exfalso
    obtain ⟨y, o, hO⟩ := (logicB_is hl).ortho
    unfold midV at h
    rw [if_pos hl] at h
    have := midTo_has (k := m.n) hO.own.ho hO.own.mid_ends.1
    rw [List.eq_nil_of_length_eq_zero h] at this
    cases this
theorem mid_some {m : Mx} {k : Nat} {z : Nat → Int} (h : ¬ (midV m k z).length = 0) : logicB m k z = true := by
  cases hl : logicB m k z with
  | true => rfl
  | false =>
    exfalso
    apply h
    unfold midV
    rw [hl]; rfl

set_option maxRecDepth 100000 in
set_option maxHeartbeats 4000000 in
theorem law_CentreOf {A : Option Addr} {b o n cap : Nat} {z : Nat → Nat} {w : World} (h : CodeAt w A b o n cap z) (hT : TabOk w) :
    Calls Tryd.prog 3 #[.slice A n cap] w fun e w' => e = .returned (.bool true) ∧ Below w.heap.size w w' := by
  have hn := h.hn
  have hc := h.hc
  by_cases hbig : 1048576 < n
  · have hbig' : (1048576 : Int) < n := by omega
    clear h hT
    go_enter Tryd.func3, Tryd.ntmps3
    go_wp2_with fail
    go_ret
    exact ⟨rfl, Below.refl _ _⟩
  · have hbig' : ¬ (1048576 : Int) < n := by omega
    have HT := Lib.hid hT
    clear hT
    go_enter Tryd.func3, Tryd.ntmps3
    go_wp2_with fail
    go_at_call 11
    refine (draw_CentreOf h).mono ?_
    rintro e w1 ⟨ua, l, m, na, g, o2, k, nc, zz, rfl, hF⟩
    have H1 := Held.start hF nc
    clear h hF
    have q0 := H1.box.c0
    have q1 := H1.box.c1
    go_wp2_with fail
    go_at_call 12
    refine (CentreOf_any H1.log).mono ?_
    rintro e w2 ⟨v, rfl, hv, b2⟩
    have H2 := H1.step b2
    have hlen := midV_len m k zz
    have HR := Lib.hid (map_range (midV m k zz))
    clear H1 q0 q1 b2
    have q0 := H2.box.c0
    have q1 := H2.box.c1
    go_wp2_with fail
    go_at_call 14
    refine (spec_CentreOf H2.log).mono ?_
    rintro e w3 ⟨v', rfl, hv', b3⟩
    have H3 := H2.step b3
    have hv3 := ownsRow_below hv b3 (Nat.le_refl _)
    rw [HR.out] at hv3 hv'
    clear H2 q0 q1 b3 hv
    go_wp2_with fail
    go_at_call 13
    refine (sameList (by omega) hv3 hv').mono ?_
    rintro e w4 ⟨rfl, d4⟩
    have b4 : Below w3.heap.size w3 w4 := d4.below _
    have H4 := H3.step b4
    have hv4 := ownsRow_below hv3 b4 (Nat.le_refl _)
    clear H3 b4 d4 hv3 hv'
    have q0 := H4.box.c0
    have q1 := H4.box.c1
    by_cases h0 : (midV m k zz).length = 0
    · have HL := Lib.hid (mid_empty h0)
      obtain ⟨cv, rfl⟩ : ∃ (a : Option Addr × Nat), v = .slice a.1 0 a.2 := by
        rcases owns_ways hv4 with ⟨rfl, _⟩ | ⟨g, cap, rfl, _⟩
        · exact ⟨(none, 0), rfl⟩
        · rw [h0]; exact ⟨(_, cap), rfl⟩
      obtain ⟨av, nv⟩ := cv
      clear h0 hv4 HR hlen
      go_wp2_with fail
      go_at_call 15
      refine (LogicOk_any H4.log).mono ?_
      rintro e w5 ⟨rfl, b5⟩
      rw [HL.out]
      have H5 := H4.step b5
      clear H4 q0 q1 b5
      go_wp2_with fail
      go_at_call 16
      refine (alive_any _).mono ?_
      rintro e w6 ⟨rfl, b6⟩
      have H6 := H5.step b6
      go_wp2_with fail
      go_ret
      exact ⟨rfl, H6.old⟩
    · have hl := mid_some h0
      obtain ⟨y0, o3, hO0⟩ := (logicB_is hl).ortho
      have hkn : k = m.n := (logicB_is hl).pair.len
      subst hkn
      have hO := hO0.own
      obtain ⟨y, hy⟩ : ∃ y : Nat → Nat, y = fun c => (zz c).toNat := ⟨_, rfl⟩
      rw [← hy] at hO
      have hm : midV m m.n zz = midTo m y m.n := by unfold midV; rw [if_pos hl, hy]
      have h12 := hO.lat.order.top
      have hpos := hO.lat.order.pos
      rw [hm] at hv4 h0 hlen HR
      obtain ⟨xs, hxs⟩ : ∃ xs, midTo m y m.n = xs := ⟨_, rfl⟩
      have hin : ∀ j, j < xs.length → ∃ c : Nat, xs[j]?.getD 0 = (c : Int) ∧ c < 12 := fun j hj => by
        rw [← hxs] at hj ⊢
        obtain ⟨c, e1, e2, _⟩ := midTo_in m y m.n _ (get_in hj)
        exact ⟨c, e1, by omega⟩
      have hsum : sumL xs = bitS (midB m y) m.n := by rw [← hxs]; exact sumL_mid m y m.n
      obtain ⟨hs1, hs2⟩ := bitS_is (midB m y) m.n
      rw [← hsum] at hs1 hs2
      have hbit : ∀ a, a < m.n → ((sumL xs).testBit a = true ↔ midB m y a = true) := fun a ha => by rw [hs2 a]; simp [ha]
      obtain ⟨jo, hjo, ejo⟩ := at_some (midTo_has hO.ho hO.mid_ends.1)
      obtain ⟨jy, hjy, ejy⟩ := at_some (midTo_has (hO.lt _ hO.ho) hO.mid_ends.2)
      rw [hxs] at hjo ejo hjy ejy hv4 h0 hlen HR
      have h4096 : sumL xs < 4096 := Nat.lt_of_lt_of_le hs1 (pow_le_12 h12)
      have hsp : 1 ≤ sumL xs := by
        have := (hbit o3 hO.ho).2 hO.mid_ends.1
        rcases Nat.eq_zero_or_pos (sumL xs) with e | e
        · rw [e] at this; simp at this
        · exact e
      have NO : Hid (noV m m.n zz = (o3 : Int)) := hO.noV hl
      have NY : Hid (yesV m m.n zz = ((y o3 : Nat) : Int)) := hO.yesV hl
      have hk0 : keepsV m m.n zz = keepsB m y := keepsV_is hO
      have hsub : keepsB m y = true → subV m m.n zz ((sumL xs : Nat) : Int) = true := fun hk => by
        rw [subV_is hO hsp hs1]
        exact closedB_mk (hO.mid_closed hk hbit)
      have HIN := Lib.hid hin
      have EJO := Lib.hid ejo
      have EJY := Lib.hid ejy
      have HSU := Lib.hid hsub
      have HK0 := Lib.hid hk0
      rcases owns_ways hv4 with ⟨_, e0⟩ | ⟨gl, cl, rfl, hcell⟩
      · exact absurd e0 h0
      have HC := Lib.hid hcell
      have hl0 : ¬ ((xs.length : Nat) : Int) = 0 := by omega
      have hl1 : (((xs.length : Nat) : Int) == 0) = false := by rw [beq_eq_false_iff_ne]; omega
      clear hl hO hO0 hy hm hxs hin hsum hs1 hs2 hbit ejo ejy hsub hk0 hcell h0
      go_wp2_with fail
      go_loopw [5, 6] (fun s i wr => ∃ j : Nat, j ≤ xs.length ∧ i = .int .i64 j ∧ s = .int .i64 ((sumL (xs.take j) : Nat) : Int) ∧ wr = w4) (fun _ i _ => xs.length - (intOf i).toNat)
      case atStart => exact ⟨0, Nat.zero_le _, rfl, rfl, rfl⟩
      case round =>
        obtain ⟨j, hj, rfl, rfl, rfl⟩ := hrel
        by_cases hlt : j < xs.length
        · have hlt' : (j : Int) < xs.length := by omega
          obtain ⟨c, hc1, hc2⟩ := HIN.out j hlt
          have hcell := HC.out j hlt
          rw [hc1] at hcell
          have HS : Hid (sumL (xs.take (j + 1)) = sumL (xs.take j) + 2 ^ c) := by
            show _ = _
            rw [sumL_take hlt, hc1]; simp
          have hle : sumL (xs.take (j + 1)) ≤ sumL xs := sumL_le xs (j + 1)
          rw [HS.out] at hle
          obtain ⟨S, hS⟩ : ∃ S, sumL (xs.take j) = S := ⟨_, rfl⟩
          rw [hS] at HS hle ⊢
          have hc11 : ¬ (11 : Int) < (c : Int) := by omega
          have hc64 : (c : Int) ≤ 64 := by omega
          have hp1 : 1 ≤ 2 ^ c := Nat.one_le_two_pow
          have es : IntKind.i64.wrap ((S : Int) + ((2 ^ c : Nat) : Int)) = ((S + 2 ^ c : Nat) : Int) := by
            rw [← Int.natCast_add]; exact IntWalk.i64_in _ (by omega)
          have ew : IntKind.i64.wrap (2 ^ c) = ((2 ^ c : Nat) : Int) := one_wrap (by omega)
          have E9 : Hid (wrap64 ((S : Int) + 2 ^ c) = ((S + 2 ^ c : Nat) : Int)) := by
            show _ = _
            rw [show ((2 ^ c : Nat) : Int) = (2 : Int) ^ c from by simp] at es
            rw [← IntWalk.i64_left]; exact es
          clear hS hle hc1 es
          go_wp2_with fail
          go_roundw
          case rel => exact ⟨j + 1, by omega, by go_num, by rw [HS.out]; exact congrArg (Value.int .i64) E9.out, trivial⟩
          case measure => simp [intOf]; omega
        · have hlt' : ¬ (j : Int) < xs.length := by omega
          have ej : xs.take j = xs := List.take_of_length_le (by omega)
          rw [ej]
          clear ej
          go_wp2_with fail
          go_at_call 17
          refine (SetsOf_res (t := 3) (N := 8) (ok := true) (by decide) (by decide) (fun _ => by decide)).mono ?_
          rintro e w5 ⟨ua2, l2, na2, g2, nc2, rfl, hg5, b5⟩
          have H5 := H4.step b5
          have hv5 := ownsRow_below hv4 b5 (Nat.le_refl _)
          have bb := (Below.refl w5.heap.size w5).alloc (Nat.le_refl _) (.cells #[.slice ua2 8 l2.cap, .slice na2 8 nc2] 26)
          have Y6 := TwoAt.new w5 (.slice ua2 8 l2.cap) (.slice na2 8 nc2) 26
          have H6 := H5.step bb
          have hv6 := ownsRow_below hv5 bb (Nat.le_refl _)
          have G6 := Lib.hid (hg5.below bb (Nat.le_refl _))
          have s6 : w5.heap.size < (w5.alloc (.cells #[.slice ua2 8 l2.cap, .slice na2 8 nc2] 26)).heap.size := by simp
          clear H4 hv4 H5 hv5 bb hg5 q0 q1 b5 HC HIN
          have q0 := H6.box.c0
          have q1 := H6.box.c1
          go_wp2_with fail
          generalize w5.alloc (.cells #[.slice ua2 8 l2.cap, .slice na2 8 nc2] 26) = w6 at Y6 H6 hv6 G6 s6 q0 q1 ⊢
          go_at_call 18
          refine (KeepsOk_any (nc := nc) H6.log).mono ?_
          rintro e w7 ⟨rfl, b7⟩
          rw [HK0.out]
          have H7 := H6.step b7
          have hv7 := ownsRow_below hv6 b7 (Nat.le_refl _)
          have Y7 := Y6.below b7 (by omega)
          have sz7 := b7.size
          have G7 := Lib.hid (G6.out.below b7 (by omega))
          clear H6 hv6 Y6 G6 q0 q1 b7
          have q0 := H7.box.c0
          have q1 := H7.box.c1
          cases hkk : keepsB m y with
          | false =>
            clear hkk
            go_wp2_with fail
            go_at_call 21
            refine (NoOf_any (nc := nc) H7.log).mono ?_
            rintro e w8 ⟨rfl, b8⟩
            rw [NO.out]
            have H8 := H7.step b8
            have hv8 := ownsRow_below hv7 b8 (Nat.le_refl _)
            have Y8 := Y7.below b8 (by omega)
            have sz8 := b8.size
            have G8 := Lib.hid (G7.out.below b8 (by omega))
            clear H7 hv7 Y7 G7 q0 q1 b8
            have q0 := H8.box.c0
            have q1 := H8.box.c1
            go_wp2_with fail
            go_at_call 20
            refine (hasInt_any (z := fun i => xs[i]?.getD 0) hlen hv8 hjo EJO.out).mono ?_
            rintro e w8' ⟨rfl, rfl⟩
            go_wp2_with fail
            go_at_call 22
            refine (YesOf_any (nc := nc) H8.log).mono ?_
            rintro e w9 ⟨rfl, b9⟩
            rw [NY.out]
            have H9 := H8.step b9
            have hv9 := ownsRow_below hv8 b9 (Nat.le_refl _)
            have Y9 := Y8.below b9 (by omega)
            have sz9 := b9.size
            have G9 := Lib.hid (G8.out.below b9 (by omega))
            clear H8 hv8 Y8 G8 q0 q1 b9
            have q0 := H9.box.c0
            have q1 := H9.box.c1
            go_wp2_with fail
            go_at_call 20
            refine (hasInt_any (z := fun i => xs[i]?.getD 0) hlen hv9 hjy EJY.out).mono ?_
            rintro e w9' ⟨rfl, rfl⟩
            have p0 := Y9.c0
            have p1 := Y9.c1
            clear q0 q1
            go_wp2_with fail
            go_at_call 12
            refine (CentreOf_any (m := ⟨8, fun _ => 8, setsZ⟩) G9.out.logAt).mono ?_
            rintro e wz ⟨v8, rfl, hv8, b8⟩
            have HZ := H9.step b8
            obtain ⟨c8, rfl⟩ : ∃ (a : Option Addr × Nat), v8 = .slice a.1 8 a.2 := by
              rw [map_range] at hv8
              rcases owns_ways hv8 with ⟨rfl, e⟩ | ⟨g, cap, rfl, _⟩
              · rw [eight_mid] at e; omega
              · rw [eight_mid]; exact ⟨(_, cap), rfl⟩
            obtain ⟨a8, n8⟩ := c8
            clear hv8 p0 p1
            go_wp2_with fail
            go_ret
            exact ⟨rfl, HZ.old⟩
          | true =>
            have HSV := Lib.hid (HSU.out hkk)
            clear hkk
            go_wp2_with fail
            go_at_call 19
            refine (SubOk_any (nc := nc) (x := ((sumL xs : Nat) : Int)) H7.log (HT.out.step H7.old HT.out.size)).mono ?_
            rintro e w8 ⟨rfl, b8⟩
            rw [HSV.out]
            have H8 := H7.step b8
            have hv8 := ownsRow_below hv7 b8 (Nat.le_refl _)
            have Y8 := Y7.below b8 (by omega)
            have sz8 := b8.size
            have G8 := Lib.hid (G7.out.below b8 (by omega))
            clear H7 hv7 Y7 G7 q0 q1 b8
            have q0 := H8.box.c0
            have q1 := H8.box.c1
            go_wp2_with fail
            go_at_call 21
            refine (NoOf_any (nc := nc) H8.log).mono ?_
            rintro e w9 ⟨rfl, b9⟩
            rw [NO.out]
            have H9 := H8.step b9
            have hv9 := ownsRow_below hv8 b9 (Nat.le_refl _)
            have Y9 := Y8.below b9 (by omega)
            have sz9 := b9.size
            have G9 := Lib.hid (G8.out.below b9 (by omega))
            clear H8 hv8 Y8 G8 q0 q1 b9
            have q0 := H9.box.c0
            have q1 := H9.box.c1
            go_wp2_with fail
            go_at_call 20
            refine (hasInt_any (z := fun i => xs[i]?.getD 0) hlen hv9 hjo EJO.out).mono ?_
            rintro e w9' ⟨rfl, rfl⟩
            go_wp2_with fail
            go_at_call 22
            refine (YesOf_any (nc := nc) H9.log).mono ?_
            rintro e w10 ⟨rfl, b10⟩
            rw [NY.out]
            have H10 := H9.step b10
            have hv10 := ownsRow_below hv9 b10 (Nat.le_refl _)
            have Y10 := Y9.below b10 (by omega)
            have sz10 := b10.size
            have G10 := Lib.hid (G9.out.below b10 (by omega))
            clear H9 hv9 Y9 G9 q0 q1 b10
            have q0 := H10.box.c0
            have q1 := H10.box.c1
            go_wp2_with fail
            go_at_call 20
            refine (hasInt_any (z := fun i => xs[i]?.getD 0) hlen hv10 hjy EJY.out).mono ?_
            rintro e w10' ⟨rfl, rfl⟩
            have p0 := Y10.c0
            have p1 := Y10.c1
            clear q0 q1
            go_wp2_with fail
            go_at_call 12
            refine (CentreOf_any (m := ⟨8, fun _ => 8, setsZ⟩) G10.out.logAt).mono ?_
            rintro e wz ⟨v8, rfl, hv8, b8⟩
            have HZ := H10.step b8
            obtain ⟨c8, rfl⟩ : ∃ (a : Option Addr × Nat), v8 = .slice a.1 8 a.2 := by
              rw [map_range] at hv8
              rcases owns_ways hv8 with ⟨rfl, e⟩ | ⟨g, cap, rfl, _⟩
              · rw [eight_mid] at e; omega
              · rw [eight_mid]; exact ⟨(_, cap), rfl⟩
            obtain ⟨a8, n8⟩ := c8
            clear hv8 p0 p1
            go_wp2_with fail
            go_ret
            exact ⟨rfl, HZ.old⟩
end Go.Proofs.YtnbglbhfclohjaaDoor
