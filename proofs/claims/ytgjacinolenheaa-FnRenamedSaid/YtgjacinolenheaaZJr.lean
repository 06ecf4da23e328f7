/- The walk of the draw of a logic and a row of numbers. -/
import Derived.Test.YtgjacinolenheaaZJa
namespace Go.Proofs.Ytgjacinolenheaa
open Go.RowKit Go.Deep

/-- A drawn logic, and so many numbers. -/
def DrewR (w : World) (e : Ending) (w' : World) : Prop :=
  ∃ (d0 : LD) (a : Option Addr) (g cap : Nat) (z : Nat → Int), e = .returned (.tuple #[.agg #[d0.u, d0.t], .slice a d0.k cap]) ∧ Kept w.heap.size d0 w' ∧ RowAt w' w'.heap.size a g 0 d0.k z ∧ Below w.heap.size w w'
theorem IntsAt.row_of {w : World} {base : Nat} {t : Value} {k : Nat} {y : Nat → Int} (h : IntsAt w base t k y) : ∃ a g c, t = .slice a k c ∧ RowAt w w.heap.size a g 0 k y := by
  by_cases hk : 0 < k
  · obtain ⟨g, c, rfl, _, h3, _⟩ := IntsAt.val h hk
    exact ⟨_, g, c, rfl, ⟨fun i hi => ⟨rfl, h3, by rw [Nat.zero_add]; exact IntsAt.cell h hi⟩⟩⟩
  · rcases h.2 with ⟨rfl, rfl⟩ | ⟨g, cap, cur, rfl, _⟩
    · exact ⟨_, 0, _, rfl, ⟨fun i hi => absurd hi (by omega)⟩⟩
    · exact ⟨_, 0, _, rfl, ⟨fun i hi => absurd hi (by omega)⟩⟩

theorem drewR_mk {w W : World} {d0 : LD} {base cb : Nat} {t x y : Value} {z : Nat → Int} (hk : Kept cb d0 W) (hc : w.heap.size < cb) (hI : IntsAt W base t d0.k z) (hb : w.heap.size < base) (hB : Below w.heap.size w W) :
    DrewR w (.returned (.tuple #[.agg #[d0.u, d0.t], t])) ((W.setCell ⟨w.heap.size, 0, none⟩ x).setCell ⟨w.heap.size, 1, none⟩ y) := by
  have ho := set2_only W w.heap.size x y
  have hC := Chg.of_only ho
  have h1 := hC.ints hI (fun gg hgg => by have := ownsRow_block hI gg hgg; show ¬ (_ = _); omega)
  obtain ⟨a, g, c, rfl, hR⟩ := h1.row_of
  exact ⟨d0, a, g, c, z, rfl, (hk.chg hC fun j hj => by have hj' : j = w.heap.size := hj; omega).base (by omega), hR, hB.trans (ho.below fun j hj => by have hj' : j = w.heap.size := hj; omega)⟩

set_option maxRecDepth 100000 in
set_option maxHeartbeats 4000000 in
theorem draw_Renamed {A : Option Addr} {b o n cap : Nat} {z : Nat → Nat} {w : World} (h : CodeAt w A b o n cap z) :
    Calls Try.prog 34 #[.slice A n cap] w (DrewR w) := by
  obtain ⟨i0, hi0, hz0, hz1, hz2⟩ := info_parts infoInt
  have HI := Lib.hid hi0
  have HZ0 := Lib.hid hz0
  have HZ1 := Lib.hid hz1
  have HZ2 := Lib.hid hz2
  clear hi0 hz0 hz1 hz2
  have hT0 := TwoAt.new w (.slice none 0 0) (.slice none 0 0) 27
  have HB := (Below.refl w.heap.size w).alloc (Nat.le_refl _) (.cells #[.slice none 0 0, .slice none 0 0] 27)
  have hc := h.alloc (.cells #[.slice none 0 0, .slice none 0 0] 27)
  have hsA : (w.alloc (.cells #[.slice none 0 0, .slice none 0 0] 27)).heap.size = w.heap.size + 1 := by simp
  go_enter Try.func34, Try.ntmps34
  go_wp2_with fail
  go_at_call 46
  refine (l20Open_any hc).mono ?_
  rintro e w1 ⟨A1, b1, o1, n1, c1, z1, rfl, hn1, hR, hz, hb, hs⟩
  rw [hsA] at hR hz hs ⊢
  have hT0' := hT0.below hb (by omega)
  have HB' := HB.trans (hb.mono (by omega))
  obtain ⟨rb, hrb⟩ : ∃ r : Nat, r = w.heap.size + 1 := ⟨_, rfl⟩
  rw [← hrb] at hR hz hs ⊢
  have hrb1 : w.heap.size < rb := by omega
  have hs' : rb < w1.heap.size := by omega
  have HZ := Lib.hid hz
  have HBY : ∀ {wx : World}, Below rb w1 wx → BytesAt wx rb A1 b1 o1 n1 z1 := fun hG => HZ.out.below hG
  clear h hc hs hT0 HB hb hz hrb hsA
  replace hT0 := hT0'
  replace HB := HB'
  clear hT0' HB'
  go_wp2_with fail
  go_at_call 61
  refine (l20Logic_any (by omega) (by omega) (by omega) hn1 hR (HBY (Below.refl _ _)) (Nat.le_refl _) (by omega)).mono ?_
  rintro e w2 ⟨ua, l, m, na, g, oo, k0, nc, zz0, p, rfl, hlog, hf, hg, hnn, hL, hk0, hR2, hp, hC⟩
  have s2 := hC.size
  have hK : Kept w1.heap.size ⟨ua, l, m, na, g, oo, k0, nc, zz0⟩ w2 := ⟨hlog, hf.top, hf.row, hg, hnn, hL, hk0⟩
  have hk12 : k0 ≤ 12 := hk0
  replace hT0 := hC.two hT0 (by show ¬ (_ = _); omega)
  have B2 : Below rb w1 w2 := hC.below (by omega) (fun j hj => by have hj' : j = rb := hj; omega)
  have xl := TwoAt.new w2 (.slice ua m.n l.cap) (.slice na k0 nc) 27
  have ba := (Below.refl w2.heap.size w2).alloc (Nat.le_refl _) (.cells #[.slice ua m.n l.cap, .slice na k0 nc] 27)
  have sa : (w2.alloc (.cells #[.slice ua m.n l.cap, .slice na k0 nc] 27)).heap.size = w2.heap.size + 1 := by simp
  have hrow0 : IntsAt ((w2.alloc (.cells #[.slice ua m.n l.cap, .slice na k0 nc] 27)).alloc (.cells #[] 3)) (w2.heap.size + 1) (.slice (some ⟨w2.heap.size + 1, 0, none⟩) 0 0) 0 (fun _ => 0) := by
    have := World.ownsRow_lit (base := (w2.alloc (.cells #[.slice ua m.n l.cap, .slice na k0 nc] 27)).heap.size) (e := 3) (size := 1) (w2.alloc (.cells #[.slice ua m.n l.cap, .slice na k0 nc] 27)) #[] 0 (Nat.le_refl _) (Nat.zero_le _) rfl
    rw [sa] at this
    exact this
  have bb := (Below.refl (w2.heap.size + 1) (w2.alloc (.cells #[.slice ua m.n l.cap, .slice na k0 nc] 27))).alloc (by omega) (.cells #[] 3)
  have sb : ((w2.alloc (.cells #[.slice ua m.n l.cap, .slice na k0 nc] 27)).alloc (.cells #[] 3)).heap.size = w2.heap.size + 1 + 1 := by simp
  have bab := ba.trans (bb.mono (by omega))
  replace xl := xl.below bb (by omega)
  replace hT0 := hT0.below bab (by omega)
  have hK2 := Lib.hid hK
  have hC23 := Lib.hid (Chg.of_below (S := fun _ => False) bab fun j h1 h2 => absurd h1 (by omega))
  have hR3 := (Chg.of_below (S := fun _ => False) bab fun j h1 h2 => absurd h1 (by omega)).rd hR2 (by omega) (fun h => h)
  have B3 := B2.trans (bab.mono (by omega))
  have HB3 := HB.trans (B3.mono (by omega))
  obtain ⟨xb, hxb⟩ : ∃ q : Nat, q = w2.heap.size := ⟨_, rfl⟩
  have hxb1 : rb < xb := by omega
  have hxb2 : w1.heap.size ≤ xb := by omega
  rw [← hxb] at xl hrow0
  have sb1 : xb + 1 < ((w2.alloc (.cells #[.slice ua m.n l.cap, .slice na k0 nc] 27)).alloc (.cells #[] 3)).heap.size := by omega
  have q0 := xl.c0
  have q1 := xl.c1
  clear hlog hf hg hnn hL hk0 hR2 hC hK ba bb bab sa sb hR HB B2
  go_wp2_with fail
  rw [← hxb]
  generalize (w2.alloc (.cells #[.slice ua m.n l.cap, .slice na k0 nc] 27)).alloc (.cells #[] 3) = w3 at xl hT0 hC23 hR3 B3 HB3 hrow0 sb1 q0 q1 ⊢
  have hs5 : w1.heap.size ≤ w3.heap.size := by omega
  have C0 : Chg (fun j => j = rb ∨ xb + 1 ≤ j) w3 w3 := Chg.refl _ _
  have HXB := Lib.hid hxb
  clear hxb q0 q1 s2
  go_loopw [6, 7] (fun t i wr => ∃ (k p' : Nat) (zz : Nat → Int), k ≤ k0 ∧ i = .int .i64 k ∧ IntsAt wr (xb + 1) t k zz ∧ Rd wr rb A1 n1 c1 p' ∧ p' ≤ p + k ∧ Chg (fun j => j = rb ∨ xb + 1 ≤ j) w3 wr) (fun _ i _ => k0 - (intOf i).toNat)
  case atStart => exact ⟨0, p, _, Nat.zero_le _, rfl, hrow0, hR3, by omega, C0⟩
  case round =>
    clear hrow0 hR3 C0
    obtain ⟨k, p', zz, hk, rfl, hI, hR, hp', hC⟩ := hrel
    have hsz := hC.size
    have xlw := hC.two xl (by show ¬ (_ ∨ _); omega)
    by_cases hlt : k < k0
    · have hlt' : (k : Int) < (k0 : Int) := by omega
      have q1 := xlw.c1
      have ek1 : IntKind.i64.wrap ((k : Int) + 1) = (k : Int) + 1 := IntWalk.i64_in _ (by omega)
      go_wp2_with fail
      go_at_call 47
      refine (pick_any (by omega) (by omega) (by omega) hn1 hR (HBY (B3.trans (hC.below (by omega) fun j hj => by have hj' : j = rb ∨ xb + 1 ≤ j := hj; omega))) (Nat.le_refl _)).mono ?_
      rintro e w4 ⟨v, rfl, v0, v1, hR4, hO⟩
      obtain ⟨at', hat⟩ : ∃ q : Nat, (q : Int) = v := ⟨v.toNat, by omega⟩
      subst hat
      have c4 := (Chg.of_only hO).mono (T := fun j => j = rb ∨ xb + 1 ≤ j) fun j hj => .inl hj
      have hI4 := (Chg.of_only hO).ints hI (fun gg hgg => by have := ownsRow_block hI gg hgg; show ¬ (_ = _); omega)
      have hC4 := hC.trans c4
      have hs4 := hC4.size
      clear q1 xlw hI hR hC c4 hO ek1
      go_wp2_with (at_builtin; refine wpList_append_own _ rfl _ _ 25 rfl (xb + 1) 3 i0 (.int .i64 0) 1 8 Try.underlying25 HI.out HZ0.out HZ1.out HZ2.out rfl (by decide) _ _ _ rfl (World.ownsRow.alloc hI4 _) ⟨w4.heap.size, 0, none⟩ 1 1 [.int .i64 (k : Int)] rfl rfl (cell_one_new _ _ _) ?c2 ?c3 ?c4 ?c5 ?_)
      case c2 => simp [Value.oneCell']
      case c3 => unfold maxLen; omega
      case c4 => omega
      case c5 => first | omega | (simp; omega)
      intro v' w5 hown5 hgrow _
      have hI5 := IntsAt.step hown5
      have cA := (Chg.alloc (fun j => j = rb ∨ xb + 1 ≤ j) w4 (.cells #[.int .i64 (k : Int)] 3)).trans ((Chg.of_grown (S := fun j => xb + 1 ≤ j) hgrow (ownsRow_block hI4)).mono (T := fun j => j = rb ∨ xb + 1 ≤ j) fun j hj => .inr hj)
      have cB := (Chg.alloc (fun j => xb + 1 ≤ j) w4 (.cells #[.int .i64 (k : Int)] 3)).trans (Chg.of_grown (S := fun j => xb + 1 ≤ j) hgrow (ownsRow_block hI4))
      have hR5 := cB.rd hR4 (by omega) (by show ¬ (_ ≤ _); omega)
      have hC5 := hC4.trans cA
      have hs5' := hC5.size
      obtain ⟨gg, cc, rfl, hgg, _⟩ := hI5.val (by omega)
      have HI5 := Lib.hid hI5
      clear hI4 hown5 hgrow cA cB hI5 hR4 hC4
      go_wp2_with fail
      go_loopw [9] (fun i wr => ∃ (j : Nat) (zz : Nat → Int), at' ≤ j ∧ j ≤ k ∧ i = .int .i64 j ∧ IntsAt wr (xb + 1) (.slice (some ⟨gg, 0, none⟩) (k + 1) cc) (k + 1) zz ∧ Rd wr rb A1 n1 c1 (p' + 1) ∧ Chg (fun j => j = rb ∨ xb + 1 ≤ j) w3 wr) (fun i _ => (intOf i).toNat)
      case atStart => exact ⟨k, _, by omega, Nat.le_refl _, rfl, HI5.out, hR5, hC5⟩
      case round =>
        clear HI5 hR5 hC5 zz
        obtain ⟨j, zz, hj1, hj2, rfl, hI, hR, hC⟩ := hrel
        have hsw := hC.size
        by_cases hgt : at' < j
        · have hgt' : (at' : Int) < (j : Int) := by omega
          obtain ⟨j1, hj3⟩ : ∃ q : Nat, q = j - 1 := ⟨_, rfl⟩
          have ej1 : (j : Int) - 1 = (j1 : Int) := by omega
          have ej2 : IntKind.i64.wrap (j1 : Int) = (j1 : Int) := IntWalk.i64_in _ (by omega)
          have lj1 : (j1 : Int) < (k : Int) + 1 := by omega
          have lja : j1 + 1 ≤ j := by omega
          have ljb : j ≤ j1 + 1 := by omega
          have ljk : j1 < k + 1 := by omega
          have ljt : at' ≤ j1 := by omega
          clear hj3
          have lj : (j : Int) < (k : Int) + 1 := by omega
          have r0 := IntsAt.frozen hI j
          have r1 := IntsAt.cell hI (show j < k + 1 by omega)
          have r2 := IntsAt.cell hI ljk
          have hI2 := Lib.hid (IntsAt.store hI j (zz j1))
          have c2 : Chg (fun j => j = rb ∨ xb + 1 ≤ j) wr (wr.setCell ⟨gg, j, none⟩ (.int .i64 (zz j1))) := Chg.set (S := fun j => j = rb ∨ xb + 1 ≤ j) (.inr hgg) _
          have c3 : Chg (fun q => q = gg) wr (wr.setCell ⟨gg, j, none⟩ (.int .i64 (zz j1))) := Chg.set (S := fun q => q = gg) rfl _
          have hR2 := Lib.hid (c3.rd hR (by omega) (by show ¬ (_ = _); omega))
          have hC2 := Lib.hid (hC.trans c2)
          clear hI hR hC c2 c3
          go_wp2_with fail
          go_roundw
          case rel => exact ⟨j1, _, by omega, by omega, by go_num, hI2.out, hR2.out, hC2.out⟩
          case measure => simp [intOf]; omega
        · have hgt' : ¬ (at' : Int) < (j : Int) := by omega
          have lat : (at' : Int) < (k : Int) + 1 := by omega
          have r0 := IntsAt.frozen hI at'
          have r1 := IntsAt.cell hI (show at' < k + 1 by omega)
          have hI2 := Lib.hid (IntsAt.store hI at' (k : Int))
          have c2 : Chg (fun j => j = rb ∨ xb + 1 ≤ j) wr (wr.setCell ⟨gg, at', none⟩ (.int .i64 (k : Int))) := Chg.set (S := fun j => j = rb ∨ xb + 1 ≤ j) (.inr hgg) _
          have c3 : Chg (fun q => q = gg) wr (wr.setCell ⟨gg, at', none⟩ (.int .i64 (k : Int))) := Chg.set (S := fun q => q = gg) rfl _
          have hR2 := Lib.hid (c3.rd hR (by omega) (by show ¬ (_ = _); omega))
          have hC2 := Lib.hid (hC.trans c2)
          clear hI hR hC c2 c3
          go_wp2_with fail
          go_roundw
          case rel => exact ⟨k + 1, p' + 1, _, by omega, by go_num, hI2.out, hR2.out, by omega, hC2.out⟩
          case measure => simp [intOf]; omega
    · have hlt' : ¬ (k : Int) < (k0 : Int) := by omega
      obtain rfl : k = k0 := by omega
      have q0 := xlw.c0
      have q1 := xlw.c1
      obtain ⟨a', g', c', rfl, hRW⟩ := hI.row_of
      have hTw := hC.two hT0 (by show ¬ (_ ∨ _); omega)
      have HBw := HB3.trans (hC.below (by omega) fun j hj => by have hj' : j = rb ∨ xb + 1 ≤ j := hj; omega)
      have HC := Lib.hid ((hC23.out.mono fun _ hj => hj.elim).trans hC)
      have HKH : Hid (∀ W : World, Chg (fun j => j = rb ∨ xb + 1 ≤ j) w2 W → Kept w1.heap.size ⟨ua, l, m, na, g, oo, k, nc, zz0⟩ W) := fun W h => hK2.out.chg h fun j hj => by have hj' : j = rb ∨ xb + 1 ≤ j := hj; have e : xb = w2.heap.size := HXB.out; omega
      have hIw := Lib.hid hI
      have HZw := Lib.hid (HBY (B3.trans (hC.below (by omega) fun j hj => by have hj' : j = rb ∨ xb + 1 ≤ j := hj; omega)))
      clear hC hC23 hRW
      by_cases h0 : 0 < k
      · have h0' : (0 : Int) < (k : Int) := by omega
        obtain ⟨gg, cc, hv, hgg, _⟩ := hI.val h0
        cases hv
        go_wp2_with fail
        go_at_call 69
        refine (odd_any (by omega) (by omega) (by omega) hn1 hR HZw.out (Nat.le_refl _)).mono ?_
        rintro e w4 ⟨⟨x, rfl⟩, _, hO⟩
        have cO := Chg.of_only hO
        replace hTw := cO.two hTw (by show ¬ (_ = _); omega)
        replace xlw := cO.two xlw (by show ¬ (_ = _); omega)
        replace HC := Lib.hid (HC.out.trans (cO.mono fun j hj => .inl hj))
        replace hI := cO.ints hI (fun g1 hg1 => by have := ownsRow_block hI g1 hg1; show ¬ (_ = _); omega)
        replace HBw := HBw.trans (hO.below fun j hj => by have hj' : j = rb := hj; omega)
        have s4 := cO.size
        replace hIw := Lib.hid hI
        clear cO hO q0 q1 hR HZw
        have q0 := xlw.c0
        have q1 := xlw.c1
        cases x with
        | false =>
          have f2 := hTw.c0
          have f3 := hTw.c1
          have f0 := hTw.f0
          have f1 := hTw.f1
          have xx := (hTw.set0 (.slice ua m.n l.cap)).set1 (.slice na k nc)
          have t0 := xx.c0
          have t1 := xx.c1
          clear hI hTw xx
          go_wp2_with fail
          exact bodyPost_ret (v := .tuple #[.agg #[.slice ua m.n l.cap, .slice na k nc], .slice (some ⟨gg, 0, none⟩) k c']) (by simp [results, Try.results34, go_sem, t0, t1]) rfl (drewR_mk (d0 := ⟨ua, l, m, na, g, oo, k, nc, zz0⟩) (HKH.out _ HC.out) (by omega) hIw.out (by omega) HBw)
        | true =>
          obtain ⟨k1, hk1⟩ : ∃ k1 : Nat, k1 = k - 1 := ⟨_, rfl⟩
          have lk1 : k1 < k := by omega
          have ek1 : (k : Int) - 1 = (k1 : Int) := by omega
          have ek2 : IntKind.i64.wrap (k1 : Int) = (k1 : Int) := IntWalk.i64_in _ (by omega)
          have lk1' : (k1 : Int) < (k : Int) := by omega
          have r0 := IntsAt.frozen hI 0
          have r1 := IntsAt.cell hI lk1
          have r2 := IntsAt.cell hI h0
          have cS : Chg (fun q => q = gg) w4 (w4.setCell ⟨gg, 0, none⟩ (.int .i64 (zz k1))) := Chg.set (S := fun q => q = gg) rfl _
          have hI2 := Lib.hid (IntsAt.store hI 0 (zz k1))
          replace hTw := cS.two hTw (by show ¬ (_ = _); omega)
          replace xlw := cS.two xlw (by show ¬ (_ = _); omega)
          replace HC := Lib.hid (HC.out.trans (cS.mono fun j hj => .inr (by have hj' : j = gg := hj; omega)))
          replace HBw := HBw.trans (cS.below (by omega) fun j hj => by have hj' : j = gg := hj; omega)
          clear q0 q1 hk1 hI cS
          have q0 := xlw.c0
          have q1 := xlw.c1
          have f2 := hTw.c0
          have f3 := hTw.c1
          have f0 := hTw.f0
          have f1 := hTw.f1
          have xx := (hTw.set0 (.slice ua m.n l.cap)).set1 (.slice na k nc)
          have t0 := xx.c0
          have t1 := xx.c1
          clear hTw xx xlw
          go_wp2_with fail
          exact bodyPost_ret (v := .tuple #[.agg #[.slice ua m.n l.cap, .slice na k nc], .slice (some ⟨gg, 0, none⟩) k c']) (by simp [results, Try.results34, go_sem, t0, t1]) rfl (drewR_mk (d0 := ⟨ua, l, m, na, g, oo, k, nc, zz0⟩) (HKH.out _ HC.out) (by omega) hI2.out (by omega) HBw)
      · have h0' : ¬ (0 : Int) < (k : Int) := by omega
        have f2 := hTw.c0
        have f3 := hTw.c1
        have f0 := hTw.f0
        have f1 := hTw.f1
        have xx := (hTw.set0 (.slice ua m.n l.cap)).set1 (.slice na k nc)
        have t0 := xx.c0
        have t1 := xx.c1
        clear hI hTw xx hR
        go_wp2_with fail
        exact bodyPost_ret (v := .tuple #[.agg #[.slice ua m.n l.cap, .slice na k nc], .slice a' k c']) (by simp [results, Try.results34, go_sem, t0, t1]) rfl (drewR_mk (d0 := ⟨ua, l, m, na, g, oo, k, nc, zz0⟩) (HKH.out _ HC.out) (by omega) hIw.out (by omega) HBw)
end Go.Proofs.Ytgjacinolenheaa
