/- The law on TimesOf, walked at whatever code. -/
import Derived.Test.YtgjacinolenheaaJa
import Derived.Test.YtgjacinolenheaaIa
import Derived.Test.YtgjacinolenheaaGb
import Derived.Test.YtgjacinolenheaaOj
namespace Go.Proofs.Ytgjacinolenheaa
open Go.RowKit Go.Deep

/-- Meetings of pairs are pairs of meetings. -/
theorem times_meet {n1 n2 o1 o2 : Nat} {Z1 Z2 : Nat → Nat → Int} {y1 y2 : Nat → Nat} (h1 : LogicData n1 Z1 y1 o1) (h2 : LogicData n2 Z2 y2 o2) (hn : n1 * n2 ≤ 12) {p q a b : Nat} (hp : p < n1 * n2) (hq : q < n1 * n2)
    (ha : meetI ⟨n1, fun _ => n1, Z1⟩ (p / n2) (q / n2) = (a : Int)) (hb : meetI ⟨n2, fun _ => n2, Z2⟩ (p % n2) (q % n2) = (b : Int)) :
    meetI ⟨n1 * n2, fun _ => n1 * n2, timesZ n2 Z1 Z2⟩ p q = ((a * n2 + b : Nat) : Int) := by
  obtain ⟨a', la, ea, a1, a2, a3⟩ := meetI_parts (m := ⟨n1, fun _ => n1, Z1⟩) (a := p / n2) (b := q / n2) (by rw [ha]; exact hasI_nat _)
  obtain ⟨b', lb, eb, b1, b2, b3⟩ := meetI_parts (m := ⟨n2, fun _ => n2, Z2⟩) (a := p % n2) (b := q % n2) (by rw [hb]; exact hasI_nat _)
  obtain rfl : a' = a := by rw [ha] at ea; omega
  obtain rfl : b' = b := by rw [hb] at eb; omega
  have la' : a' < n1 := la
  have lb' : b' < n2 := lb
  have q1 : (a' * n2 + b') / n2 = a' := div_pair lb'
  have q2 : (a' * n2 + b') % n2 = b' := mod_pair lb'
  refine hasI_of (times_data h1 h2 hn).order (pair_lt la' lb') ?_ ?_ fun c hc c1 c2 => ?_
  · show timesZ n2 Z1 Z2 _ p = 1
    unfold timesZ
    rw [q1, q2, show Z1 a' (p / n2) = 1 from a1, show Z2 b' (p % n2) = 1 from b1]
    rfl
  · show timesZ n2 Z1 Z2 _ q = 1
    unfold timesZ
    rw [q1, q2, show Z1 a' (q / n2) = 1 from a2, show Z2 b' (q % n2) = 1 from b2]
    rfl
  · obtain ⟨c3, c4, _⟩ := pair_parts hc
    obtain ⟨p3, p4, _⟩ := pair_parts hp
    obtain ⟨r3, r4, _⟩ := pair_parts hq
    have k1 : timesZ n2 Z1 Z2 c p = 1 := c1
    have k2 : timesZ n2 Z1 Z2 c q = 1 := c2
    unfold timesZ at k1 k2
    have m1 := (bits_mul (h1.order.sq.bit _ c3 _ p3) (h2.order.sq.bit _ c4 _ p4)).2.1 k1
    have m2 := (bits_mul (h1.order.sq.bit _ c3 _ r3) (h2.order.sq.bit _ c4 _ r4)).2.1 k2
    show timesZ n2 Z1 Z2 c _ = 1
    unfold timesZ
    rw [q1, q2, show Z1 (c / n2) a' = 1 from a3 _ c3 m1.1 m2.1, show Z2 (c % n2) b' = 1 from b3 _ c4 m1.2 m2.2]
    rfl
theorem Kept.step {base : Nat} {d : LD} {w w' : World} (h : Kept base d w) (hb : Below w.heap.size w w') : Kept base d w' :=
  h.chg (Chg.of_below (S := fun _ => False) hb fun j h1 h2 => absurd h1 (by omega)) fun _ hj => hj.elim
/-- A logic that is one, as square rows. -/
theorem LogAt.square {w : World} {B : Nat} {ua : Option Addr} {l : Lay} {m : Mx} {na : Option Addr} {g o k : Nat} {z : Nat → Int} (h : LogAt w B ua l m na g o k z) (hl : logicB m k z = true) :
    LogAt w B ua l ⟨m.n, fun _ => m.n, m.Z⟩ na g o m.n (fun c => ((z c).toNat : Int)) := by
  have hi := logicB_is hl
  obtain ⟨y, oo, hO⟩ := hi.ortho
  have hk : k = m.n := hi.pair.len
  subst hk
  refine ⟨⟨fun r hr => ?_, fun r hr c hc => ?_⟩, ⟨fun c hc => ?_⟩, h.hn, fun _ _ => h.hn, h.hk, h.hB⟩
  · obtain ⟨a, b, d⟩ := h.mat.top r hr
    exact ⟨a, b, by rw [d, hO.lat.order.sq.len r hr]⟩
  · exact h.mat.row r hr c (by rw [hO.lat.order.sq.len r hr]; exact hc)
  · obtain ⟨a, b, d⟩ := h.row.row c hc
    exact ⟨a, b, by rw [d, hO.zy c hc]; simp⟩
theorem LogAt.like {w : World} {B : Nat} {ua : Option Addr} {l : Lay} {m : Mx} {na : Option Addr} {g o k : Nat} {z : Nat → Int} (h : LogAt w B ua l m na g o k z) {Z : Nat → Nat → Int} {z' : Nat → Int} (hL : ∀ r, r < m.n → ∀ c, c < m.L r → m.Z r c = Z r c) (hz : ∀ c, c < k → z c = z' c) : LogAt w B ua l ⟨m.n, m.L, Z⟩ na g o k z' :=
  ⟨⟨h.mat.top, fun r hr c hc => by obtain ⟨a, b, d⟩ := h.mat.row r hr c hc; exact ⟨a, b, by rw [d, hL r hr c hc]⟩⟩, h.row.congr hz, h.hn, h.hL, h.hk, h.hB⟩
theorem setsOne : logicB ⟨1, fun _ => 1, setsZ⟩ 1 (fun c => (setsY 1 c : Int)) = true := (sets_data 0 (by omega)).isB
/-- A logic times the logic of one answer. -/
theorem TimesOf_one {w : World} {d0 : LD} {B B' : Nat} {ua na : Option Addr} {l : Lay} {g nc : Nat} (h0 : d0.At w B) (h1 : LogAt w B' ua l ⟨1, fun _ => 1, setsZ⟩ na g 0 1 (fun c => (setsY 1 c : Int))) (hB : B = B') :
    Calls Try.prog 31 #[.agg #[d0.u, d0.t], .agg #[.slice ua 1 l.cap, .slice na 1 nc]] w fun e w' => ResL w (if d0.ok = true then d0.m.n else 0) d0.m.Z d0.y e d0.ok w' := by
  subst hB
  refine (TimesOf_any (d1 := ⟨ua, l, ⟨1, fun _ => 1, setsZ⟩, na, g, 0, 1, nc, fun c => (setsY 1 c : Int)⟩) h0 h1).mono fun e w' h => ?_
  have e1 : (⟨ua, l, ⟨1, fun _ => 1, setsZ⟩, na, g, 0, 1, nc, fun c => (setsY 1 c : Int)⟩ : LD).ok = true := setsOne
  rw [e1] at h
  cases hd : d0.ok with
  | false =>
    rw [hd] at h
    obtain ⟨hb, (⟨_, rfl⟩ | ⟨h2, _⟩)⟩ := h
    · exact ⟨none, noLay, none, 0, 0, rfl, LogW.none w' _ _ _, hb⟩
    · exact absurd h2 (by simp)
  | true =>
    rw [hd] at h
    obtain ⟨_, i0⟩ := LD.isY h0 hd
    have hh := i0.hi
    have h' : MadeOk w d0.m.n d0.m.Z d0.y true e w' := by
      have h2 : MadeOk w (d0.m.n * 1) (timesZ 1 d0.m.Z setsZ) (timesY 1 d0.y (fun c => setsY 1 c)) (true && true && decide (d0.m.n * 1 ≤ 12)) e w' := h
      rw [Nat.mul_one] at h2
      refine h2.congr (by simp; omega) (fun r hr c hc => ?_) (fun c hc => ?_)
      · unfold timesZ setsZ
        simp [Nat.mod_one]
      · unfold timesY setsY
        simp [Nat.mod_one]
    exact h'.res

theorem andV_is {m : Mx} {k : Nat} {z : Nat → Int} {y : Nat → Nat} {o a b : Nat} (h : Ortho m z y o) (hl : logicB m k z = true) (ha : a < m.n) (hb : b < m.n) : andV m k z (a : Int) (b : Int) = meetI m a b := by
  have _ := h.ho
  unfold andV
  rw [hl, good_mk (by omega) (by omega) (by omega) (by omega)]
  rfl
theorem SetsOf_one {w : World} : Calls Try.prog 14 #[.int .i64 0] w fun e w' => ResL w 1 setsZ (setsY 1) e true w' := SetsOf_any.mono fun _ _ h => h.res
theorem LogAtK {base : Nat} {ua : Option Addr} {l : Lay} {m : Mx} {na : Option Addr} {g o k nc : Nat} {z : Nat → Int} {w : World} (h : Kept base ⟨ua, l, m, na, g, o, k, nc, z⟩ w) : LogAt w w.heap.size ua l m na g o k z := h.log

set_option maxRecDepth 100000 in
set_option maxHeartbeats 8000000 in
theorem law_TimesOf {A : Option Addr} {b o n cap : Nat} {z : Nat → Nat} {w : World} (h : CodeAt w A b o n cap z) :
    Calls Try.prog 6 #[.slice A n cap] w fun e w' => e = .returned (.bool true) ∧ Below w.heap.size w w' := by
  have hn := h.hn
  have hc := h.hc
  by_cases hbig : 1048576 < n
  · have hbig' : (1048576 : Int) < n := by omega
    clear h
    go_enter Try.func6, Try.ntmps6
    go_wp2_with fail
    go_ret
    exact ⟨rfl, Below.refl _ _⟩
  · have hbig' : ¬ (1048576 : Int) < n := by omega
    go_enter Try.func6, Try.ntmps6
    go_wp2_with fail
    go_at_call 30
    refine (draw_TimesOf h).mono ?_
    rintro e w1 ⟨⟨ua0, l0, m0, na0, g0, o0, k0, nc0, z0⟩, ⟨ua1, l1, m1, na1, g1, o1, k1, nc1, z1⟩, he, hK0, hK1, b1⟩
    replace he : e = .returned (.tuple #[.agg #[.slice ua0 m0.n l0.cap, .slice na0 k0 nc0], .agg #[.slice ua1 m1.n l1.cap, .slice na1 k1 nc1]]) := he
    subst he
    have s1 := b1.size
    clear h hn hc hbig hbig'
    have xa := TwoAt.new w1 (.slice ua0 m0.n l0.cap) (.slice na0 k0 nc0) 27
    have xb := TwoAt.new (w1.alloc (.cells #[.slice ua0 m0.n l0.cap, .slice na0 k0 nc0] 27)) (.slice ua1 m1.n l1.cap) (.slice na1 k1 nc1) 27
    have ba := (Below.refl w1.heap.size w1).alloc (Nat.le_refl _) (.cells #[.slice ua0 m0.n l0.cap, .slice na0 k0 nc0] 27)
    have bb := (Below.refl (w1.heap.size + 1) (w1.alloc (.cells #[.slice ua0 m0.n l0.cap, .slice na0 k0 nc0] 27))).alloc (by simp) (.cells #[.slice ua1 m1.n l1.cap, .slice na1 k1 nc1] 27)
    simp only [World.size_alloc] at xb
    replace xa := xa.below bb (by omega)
    have bab := ba.trans (bb.mono (by omega))
    have BX := b1.trans (bab.mono (by omega))
    have K0 := Lib.hid (hK0.step bab)
    have K1 := Lib.hid (hK1.step bab)
    have s2 : ((w1.alloc (.cells #[.slice ua0 m0.n l0.cap, .slice na0 k0 nc0] 27)).alloc (.cells #[.slice ua1 m1.n l1.cap, .slice na1 k1 nc1] 27)).heap.size = w1.heap.size + 1 + 1 := by simp
    clear ba bb bab b1 hK0 hK1
    obtain ⟨ok, hok⟩ : ∃ ok, ok = (logicB m0 k0 z0 && logicB m1 k1 z1 && decide (m0.n * m1.n ≤ 12)) := ⟨_, rfl⟩
    obtain ⟨N, hN⟩ : ∃ N, N = if ok = true then m0.n * m1.n else 0 := ⟨_, rfl⟩
    obtain ⟨ZT, hZT⟩ : ∃ ZT, ZT = timesZ m1.n m0.Z m1.Z := ⟨_, rfl⟩
    obtain ⟨yT, hyT⟩ : ∃ yT, yT = timesY m1.n (fun a => (z0 a).toNat) (fun a => (z1 a).toNat) := ⟨_, rfl⟩
    have HI : Hid (∀ (W : World), Kept w.heap.size ⟨ua0, l0, m0, na0, g0, o0, k0, nc0, z0⟩ W → Kept w.heap.size ⟨ua1, l1, m1, na1, g1, o1, k1, nc1, z1⟩ W → Calls Try.prog 31 #[.agg #[.slice ua0 m0.n l0.cap, .slice na0 k0 nc0], .agg #[.slice ua1 m1.n l1.cap, .slice na1 k1 nc1]] W fun e w' => ResL W N ZT yT e ok w') := by
      intro W c0 c1
      subst hyT hZT hN hok
      exact (TimesOf_any (d0 := ⟨ua0, l0, m0, na0, g0, o0, k0, nc0, z0⟩) (d1 := ⟨ua1, l1, m1, na1, g1, o1, k1, nc1, z1⟩) c0.log c1.log).mono fun _ _ h => h.res
    have HS : Hid (∀ (W : World), Kept w.heap.size ⟨ua0, l0, m0, na0, g0, o0, k0, nc0, z0⟩ W → Kept w.heap.size ⟨ua1, l1, m1, na1, g1, o1, k1, nc1, z1⟩ W → Calls Try.prog 32 #[.agg #[.slice ua0 m0.n l0.cap, .slice na0 k0 nc0], .agg #[.slice ua1 m1.n l1.cap, .slice na1 k1 nc1]] W fun e w' => ResL W N ZT yT e ok w') := by
      intro W c0 c1
      subst hyT hZT hN hok
      exact (spec_TimesOf_any (d0 := ⟨ua0, l0, m0, na0, g0, o0, k0, nc0, z0⟩) (d1 := ⟨ua1, l1, m1, na1, g1, o1, k1, nc1, z1⟩) c0.log c1.log).mono fun _ _ h => h.res
    have HO : Hid (∀ (W : World) (ua na : Option Addr) (l : Lay) (g nc : Nat), Kept w.heap.size ⟨ua0, l0, m0, na0, g0, o0, k0, nc0, z0⟩ W → LogAt W W.heap.size ua l ⟨1, fun _ => 1, setsZ⟩ na g 0 1 (fun c => (setsY 1 c : Int)) → Calls Try.prog 31 #[.agg #[.slice ua0 m0.n l0.cap, .slice na0 k0 nc0], .agg #[.slice ua 1 l.cap, .slice na 1 nc]] W fun e w' => ResL W (if logicB m0 k0 z0 = true then m0.n else 0) m0.Z (fun a => (z0 a).toNat) e (logicB m0 k0 z0) w') := by
      intro W ua na l g nc c0 c1
      exact TimesOf_one (d0 := ⟨ua0, l0, m0, na0, g0, o0, k0, nc0, z0⟩) c0.log c1 rfl
    have HN := Lib.hid hN
    have HOK := Lib.hid hok
    have HZT := Lib.hid hZT
    have HYT := Lib.hid hyT
    clear hN hok hZT hyT
    have cxa0 := xa.c0
    have cxa1 := xa.c1
    have cxb0 := xb.c0
    have cxb1 := xb.c1
    go_wp2_with fail
    generalize (w1.alloc (.cells #[.slice ua0 m0.n l0.cap, .slice na0 k0 nc0] 27)).alloc (.cells #[.slice ua1 m1.n l1.cap, .slice na1 k1 nc1] 27) = w2 at xa xb K0 K1 BX s2 cxa0 cxa1 cxb0 cxb1 ⊢
    go_at_call 31
    refine (HI.out _ K0.out K1.out).mono ?_
    rintro e w3 ⟨uaL, lL, naL, gL, ncL, rfl, hh, b⟩
    have s3 := b.size
    clear cxa0 cxa1 cxb0 cxb1
    replace K0 := Lib.hid (K0.out.step b)
    replace K1 := Lib.hid (K1.out.step b)
    replace xa := xa.below b (by omega)
    replace xb := xb.below b (by omega)
    replace BX := BX.trans (b.mono BX.size)
    have L := Lib.hid hh
    clear hh b
    have xl := TwoAt.new w3 (.slice uaL N lL.cap) (.slice naL N ncL) 27
    have ba := (Below.refl w3.heap.size w3).alloc (Nat.le_refl _) (.cells #[.slice uaL N lL.cap, .slice naL N ncL] 27)
    replace K0 := Lib.hid (K0.out.step ba)
    replace K1 := Lib.hid (K1.out.step ba)
    replace xa := xa.below ba (by omega)
    replace xb := xb.below ba (by omega)
    replace L := Lib.hid (L.out.below ba (by omega))
    replace BX := BX.trans (ba.mono BX.size)
    have s4 : (w3.alloc (.cells #[.slice uaL N lL.cap, .slice naL N ncL] 27)).heap.size = w3.heap.size + 1 := by simp
    clear ba
    have cxa0 := xa.c0
    have cxa1 := xa.c1
    have cxb0 := xb.c0
    have cxb1 := xb.c1
    go_wp2_with fail
    generalize w3.alloc (.cells #[.slice uaL N lL.cap, .slice naL N ncL] 27) = w4 at xa xb xl L K0 K1 BX s4 cxa0 cxa1 cxb0 cxb1 ⊢
    go_at_call 32
    refine (HS.out _ K0.out K1.out).mono ?_
    rintro e w5 ⟨uaX, lX, naX, gX, ncX, rfl, hh, b⟩
    have s5 := b.size
    clear cxa0 cxa1 cxb0 cxb1
    replace K0 := Lib.hid (K0.out.step b)
    replace K1 := Lib.hid (K1.out.step b)
    replace xa := xa.below b (by omega)
    replace xb := xb.below b (by omega)
    replace xl := xl.below b (by omega)
    replace L := Lib.hid (L.out.below b (by omega))
    replace BX := BX.trans (b.mono BX.size)
    have X := Lib.hid hh
    clear hh b
    have xx := TwoAt.new w5 (.slice uaX N lX.cap) (.slice naX N ncX) 27
    have ba := (Below.refl w5.heap.size w5).alloc (Nat.le_refl _) (.cells #[.slice uaX N lX.cap, .slice naX N ncX] 27)
    replace K0 := Lib.hid (K0.out.step ba)
    replace K1 := Lib.hid (K1.out.step ba)
    replace xa := xa.below ba (by omega)
    replace xb := xb.below ba (by omega)
    replace xl := xl.below ba (by omega)
    replace L := Lib.hid (L.out.below ba (by omega))
    replace X := Lib.hid (X.out.below ba (by omega))
    replace BX := BX.trans (ba.mono BX.size)
    have s6 : (w5.alloc (.cells #[.slice uaX N lX.cap, .slice naX N ncX] 27)).heap.size = w5.heap.size + 1 := by simp
    clear ba
    have e0 : (ok != ok) = false := by simp
    have cxl0 := xl.c0
    have cxl1 := xl.c1
    have cxx0 := xx.c0
    have cxx1 := xx.c1
    go_wp2_with fail
    generalize w5.alloc (.cells #[.slice uaX N lX.cap, .slice naX N ncX] 27) = w6 at xa xb xl xx L X K0 K1 BX s6 cxl0 cxl1 cxx0 cxx1 ⊢
    go_at_call 16
    refine (sameLogic_any L.out.logAt X.out.logAt).mono ?_
    rintro e w7 ⟨rfl, b⟩
    have s7 := b.size
    clear cxl0 cxl1 cxx0 cxx1
    replace K0 := Lib.hid (K0.out.step b)
    replace K1 := Lib.hid (K1.out.step b)
    replace xa := xa.below b (by omega)
    replace xb := xb.below b (by omega)
    replace xl := xl.below b (by omega)
    replace xx := xx.below b (by omega)
    replace L := Lib.hid (L.out.below b (by omega))
    replace X := Lib.hid (X.out.below b (by omega))
    replace BX := BX.trans (b.mono BX.size)
    clear b
    go_wp2_with fail
    go_at_call 14
    refine (SetsOf_one (w := _)).mono ?_
    rintro e w8 ⟨uaO, lO, naO, gO, ncO, rfl, hh, b⟩
    have s8 := b.size
    replace K0 := Lib.hid (K0.out.step b)
    replace K1 := Lib.hid (K1.out.step b)
    replace xa := xa.below b (by omega)
    replace xb := xb.below b (by omega)
    replace xl := xl.below b (by omega)
    replace xx := xx.below b (by omega)
    replace L := Lib.hid (L.out.below b (by omega))
    replace X := Lib.hid (X.out.below b (by omega))
    replace BX := BX.trans (b.mono BX.size)
    have O := Lib.hid hh
    clear hh b
    have xo := TwoAt.new w8 (.slice uaO 1 lO.cap) (.slice naO 1 ncO) 27
    have ba := (Below.refl w8.heap.size w8).alloc (Nat.le_refl _) (.cells #[.slice uaO 1 lO.cap, .slice naO 1 ncO] 27)
    replace K0 := Lib.hid (K0.out.step ba)
    replace K1 := Lib.hid (K1.out.step ba)
    replace xa := xa.below ba (by omega)
    replace xb := xb.below ba (by omega)
    replace xl := xl.below ba (by omega)
    replace xx := xx.below ba (by omega)
    replace L := Lib.hid (L.out.below ba (by omega))
    replace X := Lib.hid (X.out.below ba (by omega))
    replace O := Lib.hid (O.out.below ba (by omega))
    replace BX := BX.trans (ba.mono BX.size)
    have s9 : (w8.alloc (.cells #[.slice uaO 1 lO.cap, .slice naO 1 ncO] 27)).heap.size = w8.heap.size + 1 := by simp
    clear ba
    have cxa0 := xa.c0
    have cxa1 := xa.c1
    have cxo0 := xo.c0
    have cxo1 := xo.c1
    go_wp2_with fail
    generalize w8.alloc (.cells #[.slice uaO 1 lO.cap, .slice naO 1 ncO] 27) = w9 at xa xb xl xx xo L X O K0 K1 BX s9 cxa0 cxa1 cxo0 cxo1 ⊢
    go_at_call 31
    refine (HO.out _ _ _ _ _ _ K0.out (O.out.more (B' := w9.heap.size) (by omega) (Nat.le_refl _)).logAt).mono ?_
    obtain ⟨N2, hN2⟩ : ∃ N2, N2 = if logicB m0 k0 z0 = true then m0.n else 0 := ⟨_, rfl⟩
    rw [← hN2]
    rintro e w10 ⟨uaQ, lQ, naQ, gQ, ncQ, rfl, hh, b⟩
    have s10 := b.size
    clear cxa0 cxa1 cxo0 cxo1
    replace K0 := Lib.hid (K0.out.step b)
    replace K1 := Lib.hid (K1.out.step b)
    replace xa := xa.below b (by omega)
    replace xb := xb.below b (by omega)
    replace xl := xl.below b (by omega)
    replace xx := xx.below b (by omega)
    replace xo := xo.below b (by omega)
    replace L := Lib.hid (L.out.below b (by omega))
    replace X := Lib.hid (X.out.below b (by omega))
    replace O := Lib.hid (O.out.below b (by omega))
    replace BX := BX.trans (b.mono BX.size)
    have Q := Lib.hid hh
    clear hh b
    have xq := TwoAt.new w10 (.slice uaQ N2 lQ.cap) (.slice naQ N2 ncQ) 27
    have ba := (Below.refl w10.heap.size w10).alloc (Nat.le_refl _) (.cells #[.slice uaQ N2 lQ.cap, .slice naQ N2 ncQ] 27)
    replace K0 := Lib.hid (K0.out.step ba)
    replace K1 := Lib.hid (K1.out.step ba)
    replace xa := xa.below ba (by omega)
    replace xb := xb.below ba (by omega)
    replace xl := xl.below ba (by omega)
    replace xx := xx.below ba (by omega)
    replace xo := xo.below ba (by omega)
    replace L := Lib.hid (L.out.below ba (by omega))
    replace X := Lib.hid (X.out.below ba (by omega))
    replace O := Lib.hid (O.out.below ba (by omega))
    replace Q := Lib.hid (Q.out.below ba (by omega))
    replace BX := BX.trans (ba.mono BX.size)
    have s11 : (w10.alloc (.cells #[.slice uaQ N2 lQ.cap, .slice naQ N2 ncQ] 27)).heap.size = w10.heap.size + 1 := by simp
    clear ba
    have HN2 := Lib.hid hN2
    clear hN2
    have cxa0 := xa.c0
    have cxa1 := xa.c1
    go_wp2_with fail
    generalize w10.alloc (.cells #[.slice uaQ N2 lQ.cap, .slice naQ N2 ncQ] 27) = w11 at xa xb xl xx xo xq L X O Q K0 K1 BX s11 cxa0 cxa1 ⊢
    go_at_call 27
    refine (spec_LogicOk (LogAtK K0.out)).mono ?_
    rintro e w12 ⟨rfl, b⟩
    have s12 := b.size
    clear cxa0 cxa1
    replace K0 := Lib.hid (K0.out.step b)
    replace K1 := Lib.hid (K1.out.step b)
    replace xa := xa.below b (by omega)
    replace xb := xb.below b (by omega)
    replace xl := xl.below b (by omega)
    replace xx := xx.below b (by omega)
    replace xo := xo.below b (by omega)
    replace xq := xq.below b (by omega)
    replace L := Lib.hid (L.out.below b (by omega))
    replace X := Lib.hid (X.out.below b (by omega))
    replace O := Lib.hid (O.out.below b (by omega))
    replace Q := Lib.hid (Q.out.below b (by omega))
    replace BX := BX.trans (b.mono BX.size)
    clear b
    cases hl0 : logicB m0 k0 z0 with
    | false =>
      have eok : ok = false := by rw [HOK.out, hl0]; rfl
      obtain rfl : N = 0 := by rw [HN.out, eok]; rfl
      subst eok
      clear hl0 HN HOK HN2 HI HS HO
      have cxl0 := xl.c0
      have cxl1 := xl.c1
      go_wp2_with fail
      go_at_call 17
      refine noLogic_any.mono ?_
      rintro e wn1 ⟨rfl, b⟩
      have s13 := b.size
      clear cxl0 cxl1
      replace K0 := Lib.hid (K0.out.step b)
      replace K1 := Lib.hid (K1.out.step b)
      replace xa := xa.below b (by omega)
      replace xb := xb.below b (by omega)
      replace xl := xl.below b (by omega)
      replace xx := xx.below b (by omega)
      replace xo := xo.below b (by omega)
      replace xq := xq.below b (by omega)
      replace L := Lib.hid (L.out.below b (by omega))
      replace X := Lib.hid (X.out.below b (by omega))
      replace O := Lib.hid (O.out.below b (by omega))
      replace Q := Lib.hid (Q.out.below b (by omega))
      replace BX := BX.trans (b.mono BX.size)
      clear b
      go_wp2_with fail
      go_at_call 18
      refine (alive_any _).mono ?_
      rintro e wn2 ⟨rfl, b⟩
      have s14 := b.size
      replace K0 := Lib.hid (K0.out.step b)
      replace K1 := Lib.hid (K1.out.step b)
      replace xa := xa.below b (by omega)
      replace xb := xb.below b (by omega)
      replace xl := xl.below b (by omega)
      replace xx := xx.below b (by omega)
      replace xo := xo.below b (by omega)
      replace xq := xq.below b (by omega)
      replace L := Lib.hid (L.out.below b (by omega))
      replace X := Lib.hid (X.out.below b (by omega))
      replace O := Lib.hid (O.out.below b (by omega))
      replace Q := Lib.hid (Q.out.below b (by omega))
      replace BX := BX.trans (b.mono BX.size)
      clear b
      go_wp2_with fail
      go_ret
      exact ⟨rfl, BX⟩
    | true =>
      have eN2 : N2 = m0.n := by rw [HN2.out, hl0]; rfl
      subst eN2
      have ek0 : k0 = m0.n := (logicB_is hl0).pair.len
      subst ek0
      have HL0 := Lib.hid hl0
      clear hl0
      have cxq0 := xq.c0
      have cxq1 := xq.c1
      have cxa0 := xa.c0
      have cxa1 := xa.c1
      go_wp2_with fail
      go_at_call 16
      refine (sameLogic_any (m := ⟨m0.n, fun _ => m0.n, m0.Z⟩) (k := m0.n) Q.out.logAt (LogAt.square (LogAtK K0.out) HL0.out)).mono ?_
      rintro e w13 ⟨rfl, b⟩
      have s13 := b.size
      clear cxq0 cxq1 cxa0 cxa1
      replace K0 := Lib.hid (K0.out.step b)
      replace K1 := Lib.hid (K1.out.step b)
      replace xa := xa.below b (by omega)
      replace xb := xb.below b (by omega)
      replace xl := xl.below b (by omega)
      replace xx := xx.below b (by omega)
      replace xo := xo.below b (by omega)
      replace xq := xq.below b (by omega)
      replace L := Lib.hid (L.out.below b (by omega))
      replace X := Lib.hid (X.out.below b (by omega))
      replace O := Lib.hid (O.out.below b (by omega))
      replace Q := Lib.hid (Q.out.below b (by omega))
      replace BX := BX.trans (b.mono BX.size)
      clear b
      cases hok : ok with
      | false =>
        obtain rfl : N = 0 := by rw [HN.out, hok]; rfl
        subst hok
        clear HN HOK HN2 HI HS HO
        have cxl0 := xl.c0
        have cxl1 := xl.c1
        go_wp2_with fail
        go_at_call 17
        refine noLogic_any.mono ?_
        rintro e wn1 ⟨rfl, b⟩
        have s14 := b.size
        clear cxl0 cxl1
        replace K0 := Lib.hid (K0.out.step b)
        replace K1 := Lib.hid (K1.out.step b)
        replace xa := xa.below b (by omega)
        replace xb := xb.below b (by omega)
        replace xl := xl.below b (by omega)
        replace xx := xx.below b (by omega)
        replace xo := xo.below b (by omega)
        replace xq := xq.below b (by omega)
        replace L := Lib.hid (L.out.below b (by omega))
        replace X := Lib.hid (X.out.below b (by omega))
        replace O := Lib.hid (O.out.below b (by omega))
        replace Q := Lib.hid (Q.out.below b (by omega))
        replace BX := BX.trans (b.mono BX.size)
        clear b
        go_wp2_with fail
        go_at_call 18
        refine (alive_any _).mono ?_
        rintro e wn2 ⟨rfl, b⟩
        have s15 := b.size
        replace K0 := Lib.hid (K0.out.step b)
        replace K1 := Lib.hid (K1.out.step b)
        replace xa := xa.below b (by omega)
        replace xb := xb.below b (by omega)
        replace xl := xl.below b (by omega)
        replace xx := xx.below b (by omega)
        replace xo := xo.below b (by omega)
        replace xq := xq.below b (by omega)
        replace L := Lib.hid (L.out.below b (by omega))
        replace X := Lib.hid (X.out.below b (by omega))
        replace O := Lib.hid (O.out.below b (by omega))
        replace Q := Lib.hid (Q.out.below b (by omega))
        replace BX := BX.trans (b.mono BX.size)
        clear b
        go_wp2_with fail
        go_ret
        exact ⟨rfl, BX⟩
      | true =>
        have hb := HOK.out
        rw [hok] at hb
        have hb' := hb.symm
        simp only [Bool.and_eq_true, decide_eq_true_eq] at hb'
        obtain ⟨⟨_, hl1⟩, h12⟩ := hb'
        have hN1 : N = m0.n * m1.n := by rw [HN.out, hok]; rfl
        subst hok
        have HL1 := Lib.hid hl1
        clear hb hl1 HN HOK HN2 HI HS HO
        obtain ⟨p0, i0⟩ := LD.isY (d := ⟨ua0, l0, m0, na0, g0, o0, m0.n, nc0, z0⟩) K0.out.log HL0.out
        obtain ⟨p1, i1⟩ := LD.isY (d := ⟨ua1, l1, m1, na1, g1, o1, k1, nc1, z1⟩) K1.out.log HL1.out
        have ek1 : k1 = m1.n := i1.len
        subst ek1
        have O0 : Ortho m0 z0 (fun a => (z0 a).toNat) p0 := i0.orth
        have O1 : Ortho m1 z1 (fun a => (z1 a).toNat) p1 := i1.orth
        have n0 : 1 ≤ m0.n ∧ m0.n ≤ 12 := i0.hi
        have n1 : 1 ≤ m1.n ∧ m1.n ≤ 12 := i1.hi
        have hNpos : 1 ≤ N := by rw [hN1]; exact Nat.mul_pos n0.1 n1.1
        have hN12 : N ≤ 12 := by rw [hN1]; exact h12
        obtain ⟨p, hp⟩ : ∃ p : Nat, p = N / 2 := ⟨_, rfl⟩
        obtain ⟨p2, hp2⟩ : ∃ p2 : Nat, p2 = p / 2 := ⟨_, rfl⟩
        obtain ⟨q, hq⟩ : ∃ q : Nat, q = N - 1 - p2 := ⟨_, rfl⟩
        have lp : p < N := by omega
        have lq : q < N := by omega
        obtain ⟨pd, pm, hpd, hpm, lpd, lpm, epd, epm⟩ := divs (x := p) (n := m1.n) (N0 := m0.n) n1.1 (by rw [← hN1]; exact lp) (by rw [← hN1]; omega)
        obtain ⟨qd, qm, hqd, hqm, lqd, lqm, eqd, eqm⟩ := divs (x := q) (n := m1.n) (N0 := m0.n) n1.1 (by rw [← hN1]; exact lq) (by rw [← hN1]; omega)
        obtain ⟨ma, lma, ema⟩ := O0.meets lpd lqd
        obtain ⟨mb, lmb, emb⟩ := O1.meets lpm lqm
        have LDT := Lib.hid (times_data O0.data O1.data h12)
        have hMT : Hid (meetI ⟨m0.n * m1.n, fun _ => m0.n * m1.n, timesZ m1.n m0.Z m1.Z⟩ p q = ((ma * m1.n + mb : Nat) : Int)) := times_meet O0.data O1.data h12 (by rw [← hN1]; exact lp) (by rw [← hN1]; exact lq) (by rw [← hpd, ← hqd]; exact ema) (by rw [← hpm, ← hqm]; exact emb)
        have hlt : ma * m1.n + mb < N := by rw [hN1]; exact pair_lt lma lmb
        obtain ⟨mu, hmu⟩ : ∃ mu : Nat, mu = ma * m1.n := ⟨_, rfl⟩
        obtain ⟨mt, hmt⟩ : ∃ mt : Nat, mt = ma * m1.n + mb := ⟨_, rfl⟩
        have emt0 : mu + mb = mt := by rw [hmu, hmt]
        have lmt : mt < N := by rw [hmt]; exact hlt
        have eP : IntKind.i64.wrap ((N : Int) / 2) = (p : Int) := by rw [show (N : Int) / 2 = ((N / 2 : Nat) : Int) by omega, ← hp]; exact IntWalk.i64_in _ (by omega)
        have eP2 : IntKind.i64.wrap ((p : Int) / 2) = (p2 : Int) := by rw [show (p : Int) / 2 = ((p / 2 : Nat) : Int) by omega, ← hp2]; exact IntWalk.i64_in _ (by omega)
        have eP0 := Lib.hid (show (N : Int) / 2 = (p : Int) by omega)
        have eP20 := Lib.hid (show (p : Int) / 2 = (p2 : Int) by omega)
        have eQ : (N : Int) - 1 - (p2 : Int) = (q : Int) := by omega
        have eQw : IntKind.i64.wrap ((N : Int) - 1 - (p2 : Int)) = (q : Int) := by rw [eQ]; exact IntWalk.i64_in _ (by omega)
        have emu : IntKind.i64.wrap ((ma : Int) * (m1.n : Int)) = (mu : Int) := by rw [← Int.natCast_mul, ← hmu]; exact IntWalk.i64_in _ (by omega)
        have emt : IntKind.i64.wrap ((mu : Int) + (mb : Int)) = (mt : Int) := by rw [← Int.natCast_add, emt0]; exact IntWalk.i64_in _ (by omega)
        have eNN : IntKind.i64.wrap ((m0.n : Int) * (m1.n : Int)) = (N : Int) := by rw [← Int.natCast_mul, ← hN1]; exact IntWalk.i64_in _ (by omega)
        have HV0 : Hid (andV m0 m0.n z0 (pd : Int) (qd : Int) = (ma : Int)) := (andV_is O0 HL0.out lpd lqd).trans ema
        have HV1 : Hid (andV m1 m1.n z1 (pm : Int) (qm : Int) = (mb : Int)) := (andV_is O1 HL1.out lpm lqm).trans emb
        have HLT : Hid (logicB ⟨N, fun _ => N, ZT⟩ N (fun c => (yT c : Int)) = true) := by show _ = _; rw [HZT.out, HYT.out, hN1]; exact LDT.out.isB
        have HVT : Hid (andV ⟨N, fun _ => N, ZT⟩ N (fun c => (yT c : Int)) (p : Int) (q : Int) = (mt : Int)) := by
          show _ = _
          have lp' : p < m0.n * m1.n := by rw [← hN1]; exact lp
          have lq' : q < m0.n * m1.n := by rw [← hN1]; exact lq
          rw [HZT.out, HYT.out, hN1, hmt]
          exact (andV_is LDT.out.ortho LDT.out.isB lp' lq').trans hMT.out
        have hnz : ¬ m1.n = 0 := by omega
        clear hp hp2 hq hpd hpm hqd hqm ema emb LDT hMT hlt hmu hmt emt0 h12 O0 O1 i0 i1 HZT HYT
        have ePn : (N : Int) / 2 = (p : Int) := eP0.out
        have ePn2 : (p : Int) / 2 = (p2 : Int) := eP20.out
        have HN1 := Lib.hid hN1
        clear hN1
        have cxa0 := xa.c0
        have cxa1 := xa.c1
        have cxb0 := xb.c0
        have cxb1 := xb.c1
        have cxl0 := xl.c0
        have cxl1 := xl.c1
        go_wp2_with fail
        clear ePn ePn2 eQ
        have fl0 : w1.heap.size < w13.heap.size := by omega
        have fl1 : w1.heap.size + 1 < w13.heap.size := by omega
        have KK0 : Below w13.heap.size w13 w13.drew := (Below.refl _ _).drew
        refine region_plain (fuel := 20) (listed := #[false, false, false, false, false, false, false, false, false, false, false, false, false, false, false, false, false, false, false, false]) (fun W' => Below w13.heap.size w13 W') (by kernel_rfl) (by kernel_rfl) (by kernel_rfl) ?_
        refine hold_take (i := 0) (d := 93) (v := ?vr0) (listed' := #[true, false, false, false, false, false, false, false, false, false, false, false, false, false, false, false, false, false, false, false]) rfl (by kernel_rfl) (by kernel_rfl) (by kernel_rfl) rfl (by rfl) (by kernel_rfl) KK0 ?hr0 ?rr0
        case hr0 =>
          intro w' hSw
          have hSb : Below w13.heap.size w13 w' := hSw; have yy0 := (hSb.cell (p := ⟨w1.heap.size, 0, none⟩) fl0).trans cxa0; have yy1 := (hSb.cell (p := ⟨w1.heap.size, 1, none⟩) fl0).trans cxa1; have yy2 := (hSb.cell (p := ⟨w1.heap.size + 1, 0, none⟩) fl1).trans cxb0; have yy3 := (hSb.cell (p := ⟨w1.heap.size + 1, 1, none⟩) fl1).trans cxb1
          go_simp
          try with_reducible rfl
        simp only [List.setIfInBounds_toArray, List.set_cons_zero, List.set_cons_succ]
        refine hold_take (i := 1) (d := 94) (v := ?vr1) (listed' := #[true, true, false, false, false, false, false, false, false, false, false, false, false, false, false, false, false, false, false, false]) rfl (by kernel_rfl) (by kernel_rfl) (by kernel_rfl) rfl (by rfl) (by kernel_rfl) KK0 ?hr1 ?rr1
        case hr1 =>
          intro w' hSw
          have hSb : Below w13.heap.size w13 w' := hSw; have yy0 := (hSb.cell (p := ⟨w1.heap.size, 0, none⟩) fl0).trans cxa0; have yy1 := (hSb.cell (p := ⟨w1.heap.size, 1, none⟩) fl0).trans cxa1; have yy2 := (hSb.cell (p := ⟨w1.heap.size + 1, 0, none⟩) fl1).trans cxb0; have yy3 := (hSb.cell (p := ⟨w1.heap.size + 1, 1, none⟩) fl1).trans cxb1
          go_simp
          try with_reducible rfl
        simp only [List.setIfInBounds_toArray, List.set_cons_zero, List.set_cons_succ]
        refine hold_take (i := 2) (d := 95) (v := ?vr2) (listed' := #[true, true, true, false, false, false, false, false, false, false, false, false, false, false, false, false, false, false, false, false]) rfl (by kernel_rfl) (by kernel_rfl) (by kernel_rfl) rfl (by rfl) (by kernel_rfl) KK0 ?hr2 ?rr2
        case hr2 =>
          intro w' hSw
          have hSb : Below w13.heap.size w13 w' := hSw; have yy0 := (hSb.cell (p := ⟨w1.heap.size, 0, none⟩) fl0).trans cxa0; have yy1 := (hSb.cell (p := ⟨w1.heap.size, 1, none⟩) fl0).trans cxa1; have yy2 := (hSb.cell (p := ⟨w1.heap.size + 1, 0, none⟩) fl1).trans cxb0; have yy3 := (hSb.cell (p := ⟨w1.heap.size + 1, 1, none⟩) fl1).trans cxb1
          go_simp
          try with_reducible rfl
        simp only [List.setIfInBounds_toArray, List.set_cons_zero, List.set_cons_succ]
        refine hold_take (i := 3) (d := 96) (v := ?vr3) (listed' := #[true, true, true, true, false, false, false, false, false, false, false, false, false, false, false, false, false, false, false, false]) rfl (by kernel_rfl) (by kernel_rfl) (by kernel_rfl) rfl (by rfl) (by kernel_rfl) KK0 ?hr3 ?rr3
        case hr3 =>
          intro w' hSw
          have hSb : Below w13.heap.size w13 w' := hSw; have yy0 := (hSb.cell (p := ⟨w1.heap.size, 0, none⟩) fl0).trans cxa0; have yy1 := (hSb.cell (p := ⟨w1.heap.size, 1, none⟩) fl0).trans cxa1; have yy2 := (hSb.cell (p := ⟨w1.heap.size + 1, 0, none⟩) fl1).trans cxb0; have yy3 := (hSb.cell (p := ⟨w1.heap.size + 1, 1, none⟩) fl1).trans cxb1
          go_simp
          try with_reducible rfl
        simp only [List.setIfInBounds_toArray, List.set_cons_zero, List.set_cons_succ]
        refine hold_take (i := 4) (d := 97) (v := ?vr4) (listed' := #[true, true, true, true, true, false, false, false, false, false, false, false, false, false, false, false, false, false, false, false]) rfl (by kernel_rfl) (by kernel_rfl) (by kernel_rfl) rfl (by rfl) (by kernel_rfl) KK0 ?hr4 ?rr4
        case hr4 =>
          intro w' hSw
          have hSb : Below w13.heap.size w13 w' := hSw; have yy0 := (hSb.cell (p := ⟨w1.heap.size, 0, none⟩) fl0).trans cxa0; have yy1 := (hSb.cell (p := ⟨w1.heap.size, 1, none⟩) fl0).trans cxa1; have yy2 := (hSb.cell (p := ⟨w1.heap.size + 1, 0, none⟩) fl1).trans cxb0; have yy3 := (hSb.cell (p := ⟨w1.heap.size + 1, 1, none⟩) fl1).trans cxb1
          go_simp
          try with_reducible rfl
        simp only [List.setIfInBounds_toArray, List.set_cons_zero, List.set_cons_succ]
        refine hold_take (i := 5) (d := 98) (v := ?vr5) (listed' := #[true, true, true, true, true, true, false, false, false, false, false, false, false, false, false, false, false, false, false, false]) rfl (by kernel_rfl) (by kernel_rfl) (by kernel_rfl) rfl (by rfl) (by kernel_rfl) KK0 ?hr5 ?rr5
        case hr5 =>
          intro w' hSw
          have hSb : Below w13.heap.size w13 w' := hSw; have yy0 := (hSb.cell (p := ⟨w1.heap.size, 0, none⟩) fl0).trans cxa0; have yy1 := (hSb.cell (p := ⟨w1.heap.size, 1, none⟩) fl0).trans cxa1; have yy2 := (hSb.cell (p := ⟨w1.heap.size + 1, 0, none⟩) fl1).trans cxb0; have yy3 := (hSb.cell (p := ⟨w1.heap.size + 1, 1, none⟩) fl1).trans cxb1
          go_simp
          try with_reducible rfl
        simp only [List.setIfInBounds_toArray, List.set_cons_zero, List.set_cons_succ]
        refine hold_take (i := 6) (d := 99) (v := ?vr6) (listed' := #[true, true, true, true, true, true, true, false, false, false, false, false, false, false, false, false, false, false, false, false]) rfl (by kernel_rfl) (by kernel_rfl) (by kernel_rfl) rfl (by rfl) (by kernel_rfl) KK0 ?hr6 ?rr6
        case hr6 =>
          intro w' hSw
          have hSb : Below w13.heap.size w13 w' := hSw; have yy0 := (hSb.cell (p := ⟨w1.heap.size, 0, none⟩) fl0).trans cxa0; have yy1 := (hSb.cell (p := ⟨w1.heap.size, 1, none⟩) fl0).trans cxa1; have yy2 := (hSb.cell (p := ⟨w1.heap.size + 1, 0, none⟩) fl1).trans cxb0; have yy3 := (hSb.cell (p := ⟨w1.heap.size + 1, 1, none⟩) fl1).trans cxb1
          go_simp
          try with_reducible rfl
        simp only [List.setIfInBounds_toArray, List.set_cons_zero, List.set_cons_succ]
        refine hold_take (i := 8) (d := 101) (v := ?vr8) (listed' := #[true, true, true, true, true, true, true, false, true, false, false, false, false, false, false, false, false, false, false, false]) rfl (by kernel_rfl) (by kernel_rfl) (by kernel_rfl) rfl (by rfl) (by kernel_rfl) KK0 ?hr8 ?rr8
        case hr8 =>
          intro w' hSw
          have hSb : Below w13.heap.size w13 w' := hSw; have yy0 := (hSb.cell (p := ⟨w1.heap.size, 0, none⟩) fl0).trans cxa0; have yy1 := (hSb.cell (p := ⟨w1.heap.size, 1, none⟩) fl0).trans cxa1; have yy2 := (hSb.cell (p := ⟨w1.heap.size + 1, 0, none⟩) fl1).trans cxb0; have yy3 := (hSb.cell (p := ⟨w1.heap.size + 1, 1, none⟩) fl1).trans cxb1
          go_simp
          try with_reducible rfl
        simp only [List.setIfInBounds_toArray, List.set_cons_zero, List.set_cons_succ]
        refine hold_take (i := 10) (d := 103) (v := ?vr10) (listed' := #[true, true, true, true, true, true, true, false, true, false, true, false, false, false, false, false, false, false, false, false]) rfl (by kernel_rfl) (by kernel_rfl) (by kernel_rfl) rfl (by rfl) (by kernel_rfl) KK0 ?hr10 ?rr10
        case hr10 =>
          intro w' hSw
          have hSb : Below w13.heap.size w13 w' := hSw; have yy0 := (hSb.cell (p := ⟨w1.heap.size, 0, none⟩) fl0).trans cxa0; have yy1 := (hSb.cell (p := ⟨w1.heap.size, 1, none⟩) fl0).trans cxa1; have yy2 := (hSb.cell (p := ⟨w1.heap.size + 1, 0, none⟩) fl1).trans cxb0; have yy3 := (hSb.cell (p := ⟨w1.heap.size + 1, 1, none⟩) fl1).trans cxb1
          go_simp
          try with_reducible rfl
        simp only [List.setIfInBounds_toArray, List.set_cons_zero, List.set_cons_succ]
        refine hold_take (i := 11) (d := 104) (v := ?vr11) (listed' := #[true, true, true, true, true, true, true, false, true, false, true, true, false, false, false, false, false, false, false, false]) rfl (by kernel_rfl) (by kernel_rfl) (by kernel_rfl) rfl (by rfl) (by kernel_rfl) KK0 ?hr11 ?rr11
        case hr11 =>
          intro w' hSw
          have hSb : Below w13.heap.size w13 w' := hSw; have yy0 := (hSb.cell (p := ⟨w1.heap.size, 0, none⟩) fl0).trans cxa0; have yy1 := (hSb.cell (p := ⟨w1.heap.size, 1, none⟩) fl0).trans cxa1; have yy2 := (hSb.cell (p := ⟨w1.heap.size + 1, 0, none⟩) fl1).trans cxb0; have yy3 := (hSb.cell (p := ⟨w1.heap.size + 1, 1, none⟩) fl1).trans cxb1
          go_simp
          try with_reducible rfl
        simp only [List.setIfInBounds_toArray, List.set_cons_zero, List.set_cons_succ]
        refine hold_take (i := 12) (d := 105) (v := ?vr12) (listed' := #[true, true, true, true, true, true, true, false, true, false, true, true, true, false, false, false, false, false, false, false]) rfl (by kernel_rfl) (by kernel_rfl) (by kernel_rfl) rfl (by rfl) (by kernel_rfl) KK0 ?hr12 ?rr12
        case hr12 =>
          intro w' hSw
          have hSb : Below w13.heap.size w13 w' := hSw; have yy0 := (hSb.cell (p := ⟨w1.heap.size, 0, none⟩) fl0).trans cxa0; have yy1 := (hSb.cell (p := ⟨w1.heap.size, 1, none⟩) fl0).trans cxa1; have yy2 := (hSb.cell (p := ⟨w1.heap.size + 1, 0, none⟩) fl1).trans cxb0; have yy3 := (hSb.cell (p := ⟨w1.heap.size + 1, 1, none⟩) fl1).trans cxb1
          go_simp
          try with_reducible rfl
        simp only [List.setIfInBounds_toArray, List.set_cons_zero, List.set_cons_succ]
        refine hold_take (i := 13) (d := 106) (v := ?vr13) (listed' := #[true, true, true, true, true, true, true, false, true, false, true, true, true, true, false, false, false, false, false, false]) rfl (by kernel_rfl) (by kernel_rfl) (by kernel_rfl) rfl (by rfl) (by kernel_rfl) KK0 ?hr13 ?rr13
        case hr13 =>
          intro w' hSw
          have hSb : Below w13.heap.size w13 w' := hSw; have yy0 := (hSb.cell (p := ⟨w1.heap.size, 0, none⟩) fl0).trans cxa0; have yy1 := (hSb.cell (p := ⟨w1.heap.size, 1, none⟩) fl0).trans cxa1; have yy2 := (hSb.cell (p := ⟨w1.heap.size + 1, 0, none⟩) fl1).trans cxb0; have yy3 := (hSb.cell (p := ⟨w1.heap.size + 1, 1, none⟩) fl1).trans cxb1
          go_simp
          try with_reducible rfl
        simp only [List.setIfInBounds_toArray, List.set_cons_zero, List.set_cons_succ]
        refine hold_take (i := 14) (d := 107) (v := ?vr14) (listed' := #[true, true, true, true, true, true, true, false, true, false, true, true, true, true, true, false, false, false, false, false]) rfl (by kernel_rfl) (by kernel_rfl) (by kernel_rfl) rfl (by rfl) (by kernel_rfl) KK0 ?hr14 ?rr14
        case hr14 =>
          intro w' hSw
          have hSb : Below w13.heap.size w13 w' := hSw; have yy0 := (hSb.cell (p := ⟨w1.heap.size, 0, none⟩) fl0).trans cxa0; have yy1 := (hSb.cell (p := ⟨w1.heap.size, 1, none⟩) fl0).trans cxa1; have yy2 := (hSb.cell (p := ⟨w1.heap.size + 1, 0, none⟩) fl1).trans cxb0; have yy3 := (hSb.cell (p := ⟨w1.heap.size + 1, 1, none⟩) fl1).trans cxb1
          go_simp
          try with_reducible rfl
        simp only [List.setIfInBounds_toArray, List.set_cons_zero, List.set_cons_succ]
        refine hold_take (i := 15) (d := 108) (v := ?vr15) (listed' := #[true, true, true, true, true, true, true, false, true, false, true, true, true, true, true, true, false, false, false, false]) rfl (by kernel_rfl) (by kernel_rfl) (by kernel_rfl) rfl (by rfl) (by kernel_rfl) KK0 ?hr15 ?rr15
        case hr15 =>
          intro w' hSw
          have hSb : Below w13.heap.size w13 w' := hSw; have yy0 := (hSb.cell (p := ⟨w1.heap.size, 0, none⟩) fl0).trans cxa0; have yy1 := (hSb.cell (p := ⟨w1.heap.size, 1, none⟩) fl0).trans cxa1; have yy2 := (hSb.cell (p := ⟨w1.heap.size + 1, 0, none⟩) fl1).trans cxb0; have yy3 := (hSb.cell (p := ⟨w1.heap.size + 1, 1, none⟩) fl1).trans cxb1
          go_simp
          try with_reducible rfl
        simp only [List.setIfInBounds_toArray, List.set_cons_zero, List.set_cons_succ]
        refine hold_take (i := 16) (d := 109) (v := ?vr16) (listed' := #[true, true, true, true, true, true, true, false, true, false, true, true, true, true, true, true, true, false, false, false]) rfl (by kernel_rfl) (by kernel_rfl) (by kernel_rfl) rfl (by rfl) (by kernel_rfl) KK0 ?hr16 ?rr16
        case hr16 =>
          intro w' hSw
          have hSb : Below w13.heap.size w13 w' := hSw; have yy0 := (hSb.cell (p := ⟨w1.heap.size, 0, none⟩) fl0).trans cxa0; have yy1 := (hSb.cell (p := ⟨w1.heap.size, 1, none⟩) fl0).trans cxa1; have yy2 := (hSb.cell (p := ⟨w1.heap.size + 1, 0, none⟩) fl1).trans cxb0; have yy3 := (hSb.cell (p := ⟨w1.heap.size + 1, 1, none⟩) fl1).trans cxb1
          go_simp
          try with_reducible rfl
        simp only [List.setIfInBounds_toArray, List.set_cons_zero, List.set_cons_succ]
        refine hold_call (i := 7) (d := 100) (listed' := #[true, true, true, true, true, true, true, true, true, false, true, true, true, true, true, true, true, false, false, false]) rfl (by kernel_rfl) rfl (by rfl) (by kernel_rfl) ?her7 (AndOf_any (nc := nc0) (x := (pd : Int)) (y := (qd : Int)) (LogAtK (K0.out.step KK0))) ?hcr7
        case her7 => go_simp
        rintro e wr1 ⟨rfl, b⟩
        rw [HV0.out]
        have KK1 : Below w13.heap.size w13 wr1 := KK0.trans (b.mono KK0.size)
        clear b
        refine ⟨_, rfl, KK1, ?_⟩
        simp only [List.setIfInBounds_toArray, List.set_cons_zero, List.set_cons_succ]
        refine hold_take (i := 9) (d := 102) (v := ?vr9) (listed' := #[true, true, true, true, true, true, true, true, true, true, true, true, true, true, true, true, true, false, false, false]) rfl (by kernel_rfl) (by kernel_rfl) (by kernel_rfl) rfl (by rfl) (by kernel_rfl) KK1 ?hr9 ?rr9
        case hr9 =>
          intro w' hSw
          have hSb : Below w13.heap.size w13 w' := hSw; have yy0 := (hSb.cell (p := ⟨w1.heap.size, 0, none⟩) fl0).trans cxa0; have yy1 := (hSb.cell (p := ⟨w1.heap.size, 1, none⟩) fl0).trans cxa1; have yy2 := (hSb.cell (p := ⟨w1.heap.size + 1, 0, none⟩) fl1).trans cxb0; have yy3 := (hSb.cell (p := ⟨w1.heap.size + 1, 1, none⟩) fl1).trans cxb1
          go_simp
          try with_reducible rfl
        simp only [List.setIfInBounds_toArray, List.set_cons_zero, List.set_cons_succ]
        refine hold_call (i := 17) (d := 110) (listed' := #[true, true, true, true, true, true, true, true, true, true, true, true, true, true, true, true, true, true, false, false]) rfl (by kernel_rfl) rfl (by rfl) (by kernel_rfl) ?her17 (AndOf_any (nc := nc1) (x := (pm : Int)) (y := (qm : Int)) (LogAtK (K1.out.step KK1))) ?hcr17
        case her17 => go_simp
        rintro e wr2 ⟨rfl, b⟩
        rw [HV1.out]
        have KK2 : Below w13.heap.size w13 wr2 := KK1.trans (b.mono KK1.size)
        clear b
        refine ⟨_, rfl, KK2, ?_⟩
        simp only [List.setIfInBounds_toArray, List.set_cons_zero, List.set_cons_succ]
        refine hold_take (i := 18) (d := 111) (v := ?vr18) (listed' := #[true, true, true, true, true, true, true, true, true, true, true, true, true, true, true, true, true, true, true, false]) rfl (by kernel_rfl) (by kernel_rfl) (by kernel_rfl) rfl (by rfl) (by kernel_rfl) KK2 ?hr18 ?rr18
        case hr18 =>
          intro w' hSw
          have hSb : Below w13.heap.size w13 w' := hSw; have yy0 := (hSb.cell (p := ⟨w1.heap.size, 0, none⟩) fl0).trans cxa0; have yy1 := (hSb.cell (p := ⟨w1.heap.size, 1, none⟩) fl0).trans cxa1; have yy2 := (hSb.cell (p := ⟨w1.heap.size + 1, 0, none⟩) fl1).trans cxb0; have yy3 := (hSb.cell (p := ⟨w1.heap.size + 1, 1, none⟩) fl1).trans cxb1
          go_simp
          try with_reducible rfl
        simp only [List.setIfInBounds_toArray, List.set_cons_zero, List.set_cons_succ]
        refine hold_take (i := 19) (d := 16) (v := ?vr19) (listed' := #[true, true, true, true, true, true, true, true, true, true, true, true, true, true, true, true, true, true, true, true]) rfl (by kernel_rfl) (by kernel_rfl) (by kernel_rfl) rfl (by rfl) (by kernel_rfl) KK2 ?hr19 ?rr19
        case hr19 =>
          intro w' hSw
          have hSb : Below w13.heap.size w13 w' := hSw; have yy0 := (hSb.cell (p := ⟨w1.heap.size, 0, none⟩) fl0).trans cxa0; have yy1 := (hSb.cell (p := ⟨w1.heap.size, 1, none⟩) fl0).trans cxa1; have yy2 := (hSb.cell (p := ⟨w1.heap.size + 1, 0, none⟩) fl1).trans cxb0; have yy3 := (hSb.cell (p := ⟨w1.heap.size + 1, 1, none⟩) fl1).trans cxb1
          go_simp
          try with_reducible rfl
        simp only [List.setIfInBounds_toArray, List.set_cons_zero, List.set_cons_succ]
        refine hold_done (by kernel_rfl) ?_ _
        clear cxa0 cxa1 cxb0 cxb1 cxl0 cxl1
        have s14 := KK2.size
        replace K0 := Lib.hid (K0.out.step KK2)
        replace K1 := Lib.hid (K1.out.step KK2)
        replace xa := xa.below KK2 (by omega)
        replace xb := xb.below KK2 (by omega)
        replace xl := xl.below KK2 (by omega)
        replace xx := xx.below KK2 (by omega)
        replace xo := xo.below KK2 (by omega)
        replace xq := xq.below KK2 (by omega)
        replace L := Lib.hid (L.out.below KK2 (by omega))
        replace X := Lib.hid (X.out.below KK2 (by omega))
        replace O := Lib.hid (O.out.below KK2 (by omega))
        replace Q := Lib.hid (Q.out.below KK2 (by omega))
        replace BX := BX.trans (KK2.mono BX.size)
        clear KK0 KK1 KK2
        have cxa0 := xa.c0
        have cxa1 := xa.c1
        have cxl0 := xl.c0
        have cxl1 := xl.c1
        go_wp2_with fail
        go_at_call 19
        refine (LogicOk_any (m := ⟨N, fun _ => N, ZT⟩) L.out.logAt).mono ?_
        rintro e wr3 ⟨rfl, b⟩
        rw [HLT.out]
        have s15 := b.size
        clear cxa0 cxa1 cxl0 cxl1
        replace K0 := Lib.hid (K0.out.step b)
        replace K1 := Lib.hid (K1.out.step b)
        replace xa := xa.below b (by omega)
        replace xb := xb.below b (by omega)
        replace xl := xl.below b (by omega)
        replace xx := xx.below b (by omega)
        replace xo := xo.below b (by omega)
        replace xq := xq.below b (by omega)
        replace L := Lib.hid (L.out.below b (by omega))
        replace X := Lib.hid (X.out.below b (by omega))
        replace O := Lib.hid (O.out.below b (by omega))
        replace Q := Lib.hid (Q.out.below b (by omega))
        replace BX := BX.trans (b.mono BX.size)
        clear b
        have cxa0 := xa.c0
        have cxa1 := xa.c1
        have cxl0 := xl.c0
        have cxl1 := xl.c1
        go_wp2_with fail
        go_at_call 33
        refine (AndOf_any (m := ⟨N, fun _ => N, ZT⟩) (x := (p : Int)) (y := (q : Int)) L.out.logAt).mono ?_
        rintro e wr4 ⟨rfl, b⟩
        rw [HVT.out]
        have s16 := b.size
        clear cxa0 cxa1 cxl0 cxl1
        replace K0 := Lib.hid (K0.out.step b)
        replace K1 := Lib.hid (K1.out.step b)
        replace xa := xa.below b (by omega)
        replace xb := xb.below b (by omega)
        replace xl := xl.below b (by omega)
        replace xx := xx.below b (by omega)
        replace xo := xo.below b (by omega)
        replace xq := xq.below b (by omega)
        replace L := Lib.hid (L.out.below b (by omega))
        replace X := Lib.hid (X.out.below b (by omega))
        replace O := Lib.hid (O.out.below b (by omega))
        replace Q := Lib.hid (Q.out.below b (by omega))
        replace BX := BX.trans (b.mono BX.size)
        clear b
        go_wp2_with fail
        go_ret
        exact ⟨rfl, BX⟩
end Go.Proofs.Ytgjacinolenheaa
