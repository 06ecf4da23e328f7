/- The law on GluedOf, walked at whatever code. -/
import Derived.Test.YtgjacinolenheaaZJb
import Derived.Test.YtgjacinolenheaaZVi
import Derived.Test.YtgjacinolenheaaZVf
namespace Go.Proofs.Ytgjacinolenheaa
open Go.RowKit Go.Deep

theorem LogicData.noV {n o : Nat} {Z : Nat → Nat → Int} {y : Nat → Nat} (h : LogicData n Z y o) : noV ⟨n, fun _ => n, Z⟩ n (fun c => (y c : Int)) = (o : Int) := by
  unfold Go.Proofs.Ytgjacinolenheaa.noV
  rw [if_pos h.isB, h.ortho.eq]
theorem LogicData.yesV {n o : Nat} {Z : Nat → Nat → Int} {y : Nat → Nat} (h : LogicData n Z y o) : yesV ⟨n, fun _ => n, Z⟩ n (fun c => (y c : Int)) = (y o : Int) := by
  unfold Go.Proofs.Ytgjacinolenheaa.yesV
  rw [if_pos h.isB, h.ortho.eq]
  rfl
theorem SetsOf_two {w : World} : Calls Try.prog 14 #[.int .i64 1] w fun e w' => ResL w 2 setsZ (setsY 2) e true w' := SetsOf_any.mono fun _ _ h => h.res
theorem setsTwo : logicB ⟨2, fun _ => 2, setsZ⟩ 2 (fun c => (setsY 2 c : Int)) = true := (sets_data 1 (by omega)).isB
theorem setsTwoO : Ortho ⟨2, fun _ => 2, setsZ⟩ (fun c => (setsY 2 c : Int)) (setsY 2) 0 := (sets_data 1 (by omega)).ortho
theorem Glue.logic {m0 m1 : Mx} {y0 y1 : Nat → Nat} {o0 o1 : Nat} (g : Glue m0 m1 y0 y1 o0 o1) (hn : gN m0 m1 ≤ 12) : LogicData (gN m0 m1) (gZ m0 m1 y0 y1) (gY m0 m1 y0 y1) 0 := by
  obtain ⟨a1, a2, a3, a4, _⟩ := g.opp
  exact glued_data g.d0 g.d1 g.i0 g.i1 hn a1 a2 a3 a4
/-- A logic glued to the logic of two answers. -/
theorem GluedOf_two (d0 : LD) : ∃ (N2 : Nat) (Z2 : Nat → Nat → Int) (y2 : Nat → Nat) (ok2 : Bool),
    (∀ (W : World) (B : Nat) (ua na : Option Addr) (l : Lay) (g nc : Nat), d0.At W B → LogAt W B ua l ⟨2, fun _ => 2, setsZ⟩ na g 0 2 (fun c => (setsY 2 c : Int)) →
      Calls Try.prog 25 #[.agg #[d0.u, d0.t], .agg #[.slice ua 2 l.cap, .slice na 2 nc]] W fun e w' => ResL W N2 Z2 y2 e ok2 w') ∧
    (∀ (W : World) (B : Nat), d0.At W B → d0.ok = true → 2 ≤ d0.m.n → ok2 = true ∧ N2 = d0.m.n ∧ noV ⟨N2, fun _ => N2, Z2⟩ N2 (fun c => (y2 c : Int)) = 0 ∧ yesV ⟨N2, fun _ => N2, Z2⟩ N2 (fun c => (y2 c : Int)) = (N2 : Int) - 1) := by
  refine ⟨if (d0.ok && true && gOk d0.m ⟨2, fun _ => 2, setsZ⟩ && decide (gN d0.m ⟨2, fun _ => 2, setsZ⟩ ≤ 12)) = true then gN d0.m ⟨2, fun _ => 2, setsZ⟩ else 0, gZ d0.m ⟨2, fun _ => 2, setsZ⟩ d0.y (setsY 2), gY d0.m ⟨2, fun _ => 2, setsZ⟩ d0.y (setsY 2), d0.ok && true && gOk d0.m ⟨2, fun _ => 2, setsZ⟩ && decide (gN d0.m ⟨2, fun _ => 2, setsZ⟩ ≤ 12), fun W B ua na l g nc h0 h1 => ?_, fun W B h0 hok h2 => ?_⟩
  · refine (GluedOf_any (d1 := ⟨ua, l, ⟨2, fun _ => 2, setsZ⟩, na, g, 0, 2, nc, fun c => (setsY 2 c : Int)⟩) h0 h1).mono fun e w' h => ?_
    have e1 : (⟨ua, l, ⟨2, fun _ => 2, setsZ⟩, na, g, 0, 2, nc, fun c => (setsY 2 c : Int)⟩ : LD).ok = true := setsTwo
    rw [e1] at h
    exact h.res
  · obtain ⟨o, i0⟩ := LD.isY h0 hok
    have hn := i0.hi
    have eN : gN d0.m ⟨2, fun _ => 2, setsZ⟩ = d0.m.n := by unfold gN; show d0.m.n - 2 + (2 - 2) + 2 = _; omega
    have eO : gOk d0.m ⟨2, fun _ => 2, setsZ⟩ = true := by unfold gOk; rw [decide_eq_true h2]; rfl
    have g := (glue_of i0.orth setsTwoO h2 (show 2 ≤ 2 by omega))
    have hL := g.logic (by omega)
    have ey := g.opp.1
    have eall : (d0.ok && true && gOk d0.m ⟨2, fun _ => 2, setsZ⟩ && decide (gN d0.m ⟨2, fun _ => 2, setsZ⟩ ≤ 12)) = true := by rw [hok, eO, decide_eq_true (by omega)]; rfl
    rw [if_pos eall]
    refine ⟨eall, eN, hL.noV, ?_⟩
    rw [hL.yesV, ey, eN]
    show ((d0.m.n - 2 + (2 - 2) + 1 : Nat) : Int) = _
    omega

set_option maxRecDepth 100000 in
set_option maxHeartbeats 8000000 in
theorem law_GluedOf {A : Option Addr} {b o n cap : Nat} {z : Nat → Nat} {w : World} (h : CodeAt w A b o n cap z) :
    Calls Try.prog 5 #[.slice A n cap] w fun e w' => e = .returned (.bool true) ∧ Below w.heap.size w w' := by
  have hn := h.hn
  have hc := h.hc
  by_cases hbig : 1048576 < n
  · have hbig' : (1048576 : Int) < n := by omega
    clear h
    go_enter Try.func5, Try.ntmps5
    go_wp2_with fail
    go_ret
    exact ⟨rfl, Below.refl _ _⟩
  · have hbig' : ¬ (1048576 : Int) < n := by omega
    go_enter Try.func5, Try.ntmps5
    go_wp2_with fail
    go_at_call 24
    refine (draw_GluedOf h).mono ?_
    rintro e w1 ⟨⟨ua0, l0, m0, na0, g0, o0, k0, nc0, z0⟩, ⟨ua1, l1, m1, na1, g1, o1, k1, nc1, z1⟩, he, hK0, hK1, b1⟩
    replace he : e = .returned (.tuple #[.agg #[.slice ua0 m0.n l0.cap, .slice na0 k0 nc0], .agg #[.slice ua1 m1.n l1.cap, .slice na1 k1 nc1]]) := he
    subst he
    have s1 := b1.size
    clear h hn hc hbig hbig'
    have xa := TwoAt.new w1 (.slice ua0 m0.n l0.cap) (.slice na0 k0 nc0) 27
    have xb := TwoAt.new (w1.alloc (.cells #[.slice ua0 m0.n l0.cap, .slice na0 k0 nc0] 27)) (.slice ua1 m1.n l1.cap) (.slice na1 k1 nc1) 27
    have ba := (Below.refl w1.heap.size w1).alloc (Nat.le_refl _) (.cells #[.slice ua0 m0.n l0.cap, .slice na0 k0 nc0] 27)
    have bb := (Below.refl (w1.heap.size + 1) (w1.alloc (.cells #[.slice ua0 m0.n l0.cap, .slice na0 k0 nc0] 27))).alloc (by simp) (.cells #[.slice ua1 m1.n l1.cap, .slice na1 k1 nc1] 27)
    simp only [World.size_alloc] at xb
    replace xa := xa.below bb (by omega)
    have bab := ba.trans (bb.mono (by omega))
    have BX := b1.trans (bab.mono (by omega))
    have K0 := Lib.hid (hK0.step bab)
    have K1 := Lib.hid (hK1.step bab)
    have s2 : ((w1.alloc (.cells #[.slice ua0 m0.n l0.cap, .slice na0 k0 nc0] 27)).alloc (.cells #[.slice ua1 m1.n l1.cap, .slice na1 k1 nc1] 27)).heap.size = w1.heap.size + 1 + 1 := by simp
    clear ba bb bab b1 hK0 hK1
    obtain ⟨ok, hok⟩ : ∃ ok, ok = (logicB m0 k0 z0 && logicB m1 k1 z1 && gOk m0 m1 && decide (gN m0 m1 ≤ 12)) := ⟨_, rfl⟩
    obtain ⟨N, hN⟩ : ∃ N, N = if ok = true then gN m0 m1 else 0 := ⟨_, rfl⟩
    obtain ⟨ZT, hZT⟩ : ∃ ZT, ZT = gZ m0 m1 (fun a => (z0 a).toNat) (fun a => (z1 a).toNat) := ⟨_, rfl⟩
    obtain ⟨yT, hyT⟩ : ∃ yT, yT = gY m0 m1 (fun a => (z0 a).toNat) (fun a => (z1 a).toNat) := ⟨_, rfl⟩
    have HI : Hid (∀ (W : World), Kept w.heap.size ⟨ua0, l0, m0, na0, g0, o0, k0, nc0, z0⟩ W → Kept w.heap.size ⟨ua1, l1, m1, na1, g1, o1, k1, nc1, z1⟩ W → Calls Try.prog 25 #[.agg #[.slice ua0 m0.n l0.cap, .slice na0 k0 nc0], .agg #[.slice ua1 m1.n l1.cap, .slice na1 k1 nc1]] W fun e w' => ResL W N ZT yT e ok w') := by
      intro W c0 c1
      subst hyT hZT hN hok
      exact (GluedOf_any (d0 := ⟨ua0, l0, m0, na0, g0, o0, k0, nc0, z0⟩) (d1 := ⟨ua1, l1, m1, na1, g1, o1, k1, nc1, z1⟩) c0.log c1.log).mono fun _ _ h => h.res
    have HS : Hid (∀ (W : World), Kept w.heap.size ⟨ua0, l0, m0, na0, g0, o0, k0, nc0, z0⟩ W → Kept w.heap.size ⟨ua1, l1, m1, na1, g1, o1, k1, nc1, z1⟩ W → Calls Try.prog 26 #[.agg #[.slice ua0 m0.n l0.cap, .slice na0 k0 nc0], .agg #[.slice ua1 m1.n l1.cap, .slice na1 k1 nc1]] W fun e w' => ResL W N ZT yT e ok w') := by
      intro W c0 c1
      subst hyT hZT hN hok
      exact (spec_GluedOf_any (d0 := ⟨ua0, l0, m0, na0, g0, o0, k0, nc0, z0⟩) (d1 := ⟨ua1, l1, m1, na1, g1, o1, k1, nc1, z1⟩) c0.log c1.log (Nat.le_trans c0.hk (by omega)) (Nat.le_trans c1.hk (by omega))).mono fun _ _ h => h.res
    obtain ⟨N2, Z2, y2, ok2, hO, hF⟩ := GluedOf_two ⟨ua0, l0, m0, na0, g0, o0, k0, nc0, z0⟩
    have HO : Hid (∀ (W : World) (ua na : Option Addr) (l : Lay) (g nc : Nat), Kept w.heap.size ⟨ua0, l0, m0, na0, g0, o0, k0, nc0, z0⟩ W → LogAt W W.heap.size ua l ⟨2, fun _ => 2, setsZ⟩ na g 0 2 (fun c => (setsY 2 c : Int)) → Calls Try.prog 25 #[.agg #[.slice ua0 m0.n l0.cap, .slice na0 k0 nc0], .agg #[.slice ua 2 l.cap, .slice na 2 nc]] W fun e w' => ResL W N2 Z2 y2 e ok2 w') := by
      intro W ua na l g nc c0 c1
      exact hO W _ ua na l g nc c0.log c1
    have HF : Hid (∀ (W : World), Kept w.heap.size ⟨ua0, l0, m0, na0, g0, o0, k0, nc0, z0⟩ W → logicB m0 k0 z0 = true → 2 ≤ m0.n → ok2 = true ∧ N2 = m0.n ∧ noV ⟨N2, fun _ => N2, Z2⟩ N2 (fun c => (y2 c : Int)) = 0 ∧ yesV ⟨N2, fun _ => N2, Z2⟩ N2 (fun c => (y2 c : Int)) = (N2 : Int) - 1) := fun W c0 h1 h2 => hF W _ c0.log h1 h2
    have HN := Lib.hid hN
    have HOK := Lib.hid hok
    have HZT := Lib.hid hZT
    have HYT := Lib.hid hyT
    clear hN hok hZT hyT hO hF
    have cxa0 := xa.c0
    have cxa1 := xa.c1
    have cxb0 := xb.c0
    have cxb1 := xb.c1
    go_wp2_with fail
    generalize (w1.alloc (.cells #[.slice ua0 m0.n l0.cap, .slice na0 k0 nc0] 27)).alloc (.cells #[.slice ua1 m1.n l1.cap, .slice na1 k1 nc1] 27) = w2 at xa xb K0 K1 BX s2 cxa0 cxa1 cxb0 cxb1 ⊢
    go_at_call 25
    refine (HI.out _ K0.out K1.out).mono ?_
    rintro e w3 ⟨uaL, lL, naL, gL, ncL, rfl, hh, b⟩
    have s3 := b.size
    clear cxa0 cxa1 cxb0 cxb1
    replace K0 := Lib.hid (K0.out.step b)
    replace K1 := Lib.hid (K1.out.step b)
    replace xa := xa.below b (by omega)
    replace xb := xb.below b (by omega)
    replace BX := BX.trans (b.mono BX.size)
    have L := Lib.hid hh
    clear hh b
    have xl := TwoAt.new w3 (.slice uaL N lL.cap) (.slice naL N ncL) 27
    have ba := (Below.refl w3.heap.size w3).alloc (Nat.le_refl _) (.cells #[.slice uaL N lL.cap, .slice naL N ncL] 27)
    replace K0 := Lib.hid (K0.out.step ba)
    replace K1 := Lib.hid (K1.out.step ba)
    replace xa := xa.below ba (by omega)
    replace xb := xb.below ba (by omega)
    replace L := Lib.hid (L.out.below ba (by omega))
    replace BX := BX.trans (ba.mono BX.size)
    have s4 : (w3.alloc (.cells #[.slice uaL N lL.cap, .slice naL N ncL] 27)).heap.size = w3.heap.size + 1 := by simp
    clear ba
    have cxa0 := xa.c0
    have cxa1 := xa.c1
    have cxb0 := xb.c0
    have cxb1 := xb.c1
    go_wp2_with fail
    generalize w3.alloc (.cells #[.slice uaL N lL.cap, .slice naL N ncL] 27) = w4 at xa xb xl L K0 K1 BX s4 cxa0 cxa1 cxb0 cxb1 ⊢
    go_at_call 26
    refine (HS.out _ K0.out K1.out).mono ?_
    rintro e w5 ⟨uaX, lX, naX, gX, ncX, rfl, hh, b⟩
    have s5 := b.size
    clear cxa0 cxa1 cxb0 cxb1
    replace K0 := Lib.hid (K0.out.step b)
    replace K1 := Lib.hid (K1.out.step b)
    replace xa := xa.below b (by omega)
    replace xb := xb.below b (by omega)
    replace xl := xl.below b (by omega)
    replace L := Lib.hid (L.out.below b (by omega))
    replace BX := BX.trans (b.mono BX.size)
    have X := Lib.hid hh
    clear hh b
    have xx := TwoAt.new w5 (.slice uaX N lX.cap) (.slice naX N ncX) 27
    have ba := (Below.refl w5.heap.size w5).alloc (Nat.le_refl _) (.cells #[.slice uaX N lX.cap, .slice naX N ncX] 27)
    replace K0 := Lib.hid (K0.out.step ba)
    replace K1 := Lib.hid (K1.out.step ba)
    replace xa := xa.below ba (by omega)
    replace xb := xb.below ba (by omega)
    replace xl := xl.below ba (by omega)
    replace L := Lib.hid (L.out.below ba (by omega))
    replace X := Lib.hid (X.out.below ba (by omega))
    replace BX := BX.trans (ba.mono BX.size)
    have s6 : (w5.alloc (.cells #[.slice uaX N lX.cap, .slice naX N ncX] 27)).heap.size = w5.heap.size + 1 := by simp
    clear ba
    have e0 : (ok != ok) = false := by simp
    have cxl0 := xl.c0
    have cxl1 := xl.c1
    have cxx0 := xx.c0
    have cxx1 := xx.c1
    go_wp2_with fail
    generalize w5.alloc (.cells #[.slice uaX N lX.cap, .slice naX N ncX] 27) = w6 at xa xb xl xx L X K0 K1 BX s6 cxl0 cxl1 cxx0 cxx1 ⊢
    go_at_call 16
    refine (sameLogic_any L.out.logAt X.out.logAt).mono ?_
    rintro e w7 ⟨rfl, b⟩
    have s7 := b.size
    clear cxl0 cxl1 cxx0 cxx1
    replace K0 := Lib.hid (K0.out.step b)
    replace K1 := Lib.hid (K1.out.step b)
    replace xa := xa.below b (by omega)
    replace xb := xb.below b (by omega)
    replace xl := xl.below b (by omega)
    replace xx := xx.below b (by omega)
    replace L := Lib.hid (L.out.below b (by omega))
    replace X := Lib.hid (X.out.below b (by omega))
    replace BX := BX.trans (b.mono BX.size)
    clear b
    go_wp2_with fail
    go_at_call 14
    refine (SetsOf_two (w := _)).mono ?_
    rintro e w8 ⟨uaO, lO, naO, gO, ncO, rfl, hh, b⟩
    have s8 := b.size
    replace K0 := Lib.hid (K0.out.step b)
    replace K1 := Lib.hid (K1.out.step b)
    replace xa := xa.below b (by omega)
    replace xb := xb.below b (by omega)
    replace xl := xl.below b (by omega)
    replace xx := xx.below b (by omega)
    replace L := Lib.hid (L.out.below b (by omega))
    replace X := Lib.hid (X.out.below b (by omega))
    replace BX := BX.trans (b.mono BX.size)
    have O := Lib.hid hh
    clear hh b
    have xo := TwoAt.new w8 (.slice uaO 2 lO.cap) (.slice naO 2 ncO) 27
    have ba := (Below.refl w8.heap.size w8).alloc (Nat.le_refl _) (.cells #[.slice uaO 2 lO.cap, .slice naO 2 ncO] 27)
    replace K0 := Lib.hid (K0.out.step ba)
    replace K1 := Lib.hid (K1.out.step ba)
    replace xa := xa.below ba (by omega)
    replace xb := xb.below ba (by omega)
    replace xl := xl.below ba (by omega)
    replace xx := xx.below ba (by omega)
    replace L := Lib.hid (L.out.below ba (by omega))
    replace X := Lib.hid (X.out.below ba (by omega))
    replace O := Lib.hid (O.out.below ba (by omega))
    replace BX := BX.trans (ba.mono BX.size)
    have s9 : (w8.alloc (.cells #[.slice uaO 2 lO.cap, .slice naO 2 ncO] 27)).heap.size = w8.heap.size + 1 := by simp
    clear ba
    have cxa0 := xa.c0
    have cxa1 := xa.c1
    have cxo0 := xo.c0
    have cxo1 := xo.c1
    go_wp2_with fail
    generalize w8.alloc (.cells #[.slice uaO 2 lO.cap, .slice naO 2 ncO] 27) = w9 at xa xb xl xx xo L X O K0 K1 BX s9 cxa0 cxa1 cxo0 cxo1 ⊢
    go_at_call 25
    refine (HO.out _ _ _ _ _ _ K0.out (O.out.more (B' := w9.heap.size) (by omega) (Nat.le_refl _)).logAt).mono ?_
    rintro e w10 ⟨uaQ, lQ, naQ, gQ, ncQ, rfl, hh, b⟩
    have s10 := b.size
    clear cxa0 cxa1 cxo0 cxo1
    replace K0 := Lib.hid (K0.out.step b)
    replace K1 := Lib.hid (K1.out.step b)
    replace xa := xa.below b (by omega)
    replace xb := xb.below b (by omega)
    replace xl := xl.below b (by omega)
    replace xx := xx.below b (by omega)
    replace xo := xo.below b (by omega)
    replace L := Lib.hid (L.out.below b (by omega))
    replace X := Lib.hid (X.out.below b (by omega))
    replace O := Lib.hid (O.out.below b (by omega))
    replace BX := BX.trans (b.mono BX.size)
    have Q := Lib.hid hh
    clear hh b
    have xq := TwoAt.new w10 (.slice uaQ N2 lQ.cap) (.slice naQ N2 ncQ) 27
    have ba := (Below.refl w10.heap.size w10).alloc (Nat.le_refl _) (.cells #[.slice uaQ N2 lQ.cap, .slice naQ N2 ncQ] 27)
    replace K0 := Lib.hid (K0.out.step ba)
    replace K1 := Lib.hid (K1.out.step ba)
    replace xa := xa.below ba (by omega)
    replace xb := xb.below ba (by omega)
    replace xl := xl.below ba (by omega)
    replace xx := xx.below ba (by omega)
    replace xo := xo.below ba (by omega)
    replace L := Lib.hid (L.out.below ba (by omega))
    replace X := Lib.hid (X.out.below ba (by omega))
    replace O := Lib.hid (O.out.below ba (by omega))
    replace Q := Lib.hid (Q.out.below ba (by omega))
    replace BX := BX.trans (ba.mono BX.size)
    have s11 : (w10.alloc (.cells #[.slice uaQ N2 lQ.cap, .slice naQ N2 ncQ] 27)).heap.size = w10.heap.size + 1 := by simp
    clear ba
    have cxa0 := xa.c0
    have cxa1 := xa.c1
    go_wp2_with fail
    generalize w10.alloc (.cells #[.slice uaQ N2 lQ.cap, .slice naQ N2 ncQ] 27) = w11 at xa xb xl xx xo xq L X O Q K0 K1 BX s11 cxa0 cxa1 ⊢
    go_at_call 27
    refine (spec_LogicOk (LogAtK K0.out)).mono ?_
    rintro e w12 ⟨rfl, b⟩
    have s12 := b.size
    clear cxa0 cxa1
    replace K0 := Lib.hid (K0.out.step b)
    replace K1 := Lib.hid (K1.out.step b)
    replace xa := xa.below b (by omega)
    replace xb := xb.below b (by omega)
    replace xl := xl.below b (by omega)
    replace xx := xx.below b (by omega)
    replace xo := xo.below b (by omega)
    replace xq := xq.below b (by omega)
    replace L := Lib.hid (L.out.below b (by omega))
    replace X := Lib.hid (X.out.below b (by omega))
    replace O := Lib.hid (O.out.below b (by omega))
    replace Q := Lib.hid (Q.out.below b (by omega))
    replace BX := BX.trans (b.mono BX.size)
    clear b
    cases hl0 : logicB m0 k0 z0 with
    | false =>
      have eok : ok = false := by rw [HOK.out, hl0]; rfl
      obtain rfl : N = 0 := by rw [HN.out, eok]; rfl
      subst eok
      clear hl0 HN HOK HI HS HO HF
      have cxl0 := xl.c0
      have cxl1 := xl.c1
      go_wp2_with fail
      go_at_call 17
      refine noLogic_any.mono ?_
      rintro e wn1 ⟨rfl, b⟩
      have s13 := b.size
      clear cxl0 cxl1
      replace K0 := Lib.hid (K0.out.step b)
      replace K1 := Lib.hid (K1.out.step b)
      replace xa := xa.below b (by omega)
      replace xb := xb.below b (by omega)
      replace xl := xl.below b (by omega)
      replace xx := xx.below b (by omega)
      replace xo := xo.below b (by omega)
      replace xq := xq.below b (by omega)
      replace L := Lib.hid (L.out.below b (by omega))
      replace X := Lib.hid (X.out.below b (by omega))
      replace O := Lib.hid (O.out.below b (by omega))
      replace Q := Lib.hid (Q.out.below b (by omega))
      replace BX := BX.trans (b.mono BX.size)
      clear b
      go_wp2_with fail
      go_at_call 18
      refine (alive_any _).mono ?_
      rintro e wn2 ⟨rfl, b⟩
      have s14 := b.size
      replace K0 := Lib.hid (K0.out.step b)
      replace K1 := Lib.hid (K1.out.step b)
      replace xa := xa.below b (by omega)
      replace xb := xb.below b (by omega)
      replace xl := xl.below b (by omega)
      replace xx := xx.below b (by omega)
      replace xo := xo.below b (by omega)
      replace xq := xq.below b (by omega)
      replace L := Lib.hid (L.out.below b (by omega))
      replace X := Lib.hid (X.out.below b (by omega))
      replace O := Lib.hid (O.out.below b (by omega))
      replace Q := Lib.hid (Q.out.below b (by omega))
      replace BX := BX.trans (b.mono BX.size)
      clear b
      go_wp2_with fail
      go_ret
      exact ⟨rfl, BX⟩
    | true =>
      have ek0 : k0 = m0.n := (logicB_is hl0).pair.len
      subst ek0
      have HL0 := Lib.hid hl0
      clear hl0
      by_cases h2 : m0.n < 2
      · have eok : ok = false := by rw [HOK.out, show gOk m0 m1 = false by unfold gOk; rw [decide_eq_false (by omega)]; rfl]; cases logicB m0 m0.n z0 <;> cases logicB m1 k1 z1 <;> rfl
        obtain rfl : N = 0 := by rw [HN.out, eok]; rfl
        subst eok
        clear HN HOK HI HS HO HF HL0
        have h2i : ¬ (2 : Int) ≤ (m0.n : Int) := by omega
        have cxa1 := xa.c1
        have cya1 := cxa1
        clear cxa1
        have cxl0 := xl.c0
        have cxl1 := xl.c1
        go_wp2_with fail
        go_at_call 17
        refine noLogic_any.mono ?_
        rintro e wn1 ⟨rfl, b⟩
        have s13 := b.size
        clear cxl0 cxl1
        replace K0 := Lib.hid (K0.out.step b)
        replace K1 := Lib.hid (K1.out.step b)
        replace xa := xa.below b (by omega)
        replace xb := xb.below b (by omega)
        replace xl := xl.below b (by omega)
        replace xx := xx.below b (by omega)
        replace xo := xo.below b (by omega)
        replace xq := xq.below b (by omega)
        replace L := Lib.hid (L.out.below b (by omega))
        replace X := Lib.hid (X.out.below b (by omega))
        replace O := Lib.hid (O.out.below b (by omega))
        replace Q := Lib.hid (Q.out.below b (by omega))
        replace BX := BX.trans (b.mono BX.size)
        clear b
        go_wp2_with fail
        go_at_call 18
        refine (alive_any _).mono ?_
        rintro e wn2 ⟨rfl, b⟩
        have s14 := b.size
        replace K0 := Lib.hid (K0.out.step b)
        replace K1 := Lib.hid (K1.out.step b)
        replace xa := xa.below b (by omega)
        replace xb := xb.below b (by omega)
        replace xl := xl.below b (by omega)
        replace xx := xx.below b (by omega)
        replace xo := xo.below b (by omega)
        replace xq := xq.below b (by omega)
        replace L := Lib.hid (L.out.below b (by omega))
        replace X := Lib.hid (X.out.below b (by omega))
        replace O := Lib.hid (O.out.below b (by omega))
        replace Q := Lib.hid (Q.out.below b (by omega))
        replace BX := BX.trans (b.mono BX.size)
        clear b
        go_wp2_with fail
        go_ret
        exact ⟨rfl, BX⟩
      · have h2i : (2 : Int) ≤ (m0.n : Int) := by omega
        obtain ⟨eok2, eN2, hno, hyes⟩ := HF.out _ K0.out HL0.out (by omega)
        subst eok2
        subst eN2
        obtain ⟨M1, hM1⟩ : ∃ M1 : Nat, M1 = m0.n - 1 := ⟨_, rfl⟩
        have eM1 : (m0.n : Int) - 1 = (M1 : Int) := by omega
        have eM2 : IntKind.i64.wrap (M1 : Int) = (M1 : Int) := IntWalk.i64_in _ (by have := K0.out.hn; have h3 : m0.n ≤ 12 := this; omega)
        have HNO := Lib.hid hno
        have HYES : Hid (yesV ⟨m0.n, fun _ => m0.n, Z2⟩ m0.n (fun c => (y2 c : Int)) = (M1 : Int)) := by show _ = _; rw [hyes]; omega
        clear hM1 hno hyes HF HO
        have cxa0 := xa.c0
        have cxa1 := xa.c1
        have cxq0 := xq.c0
        have cxq1 := xq.c1
        go_wp2_with fail
        have fl0 : w1.heap.size < w12.heap.size := by omega
        have fl1 : w10.heap.size < w12.heap.size := by omega
        have KK0 : Below w12.heap.size w12 w12.drew := (Below.refl _ _).drew
        refine region_plain (fuel := 29) (listed := #[false, false, false, false, false, false, false, false, false, false, false, false, false, false, false, false, false, false, false, false, false, false, false, false, false, false, false, false, false]) (fun W' => Below w12.heap.size w12 W') (by kernel_rfl) (by kernel_rfl) (by kernel_rfl) ?_
        refine hold_take (i := 0) (d := 60) (v := ?vr0) (listed' := #[true, false, false, false, false, false, false, false, false, false, false, false, false, false, false, false, false, false, false, false, false, false, false, false, false, false, false, false, false]) rfl (by kernel_rfl) (by kernel_rfl) (by kernel_rfl) rfl (by rfl) (by kernel_rfl) KK0 ?hr0 ?rr0
        case hr0 =>
          intro w' hSw
          have hSb : Below w12.heap.size w12 w' := hSw; have yy0 := (hSb.cell (p := ⟨w1.heap.size, 0, none⟩) fl0).trans cxa0; have yy1 := (hSb.cell (p := ⟨w1.heap.size, 1, none⟩) fl0).trans cxa1; have yy2 := (hSb.cell (p := ⟨w10.heap.size, 0, none⟩) fl1).trans cxq0; have yy3 := (hSb.cell (p := ⟨w10.heap.size, 1, none⟩) fl1).trans cxq1
          go_simp
          try with_reducible rfl
        simp only [List.setIfInBounds_toArray, List.set_cons_zero, List.set_cons_succ]
        refine hold_take (i := 1) (d := 61) (v := ?vr1) (listed' := #[true, true, false, false, false, false, false, false, false, false, false, false, false, false, false, false, false, false, false, false, false, false, false, false, false, false, false, false, false]) rfl (by kernel_rfl) (by kernel_rfl) (by kernel_rfl) rfl (by rfl) (by kernel_rfl) KK0 ?hr1 ?rr1
        case hr1 =>
          intro w' hSw
          have hSb : Below w12.heap.size w12 w' := hSw; have yy0 := (hSb.cell (p := ⟨w1.heap.size, 0, none⟩) fl0).trans cxa0; have yy1 := (hSb.cell (p := ⟨w1.heap.size, 1, none⟩) fl0).trans cxa1; have yy2 := (hSb.cell (p := ⟨w10.heap.size, 0, none⟩) fl1).trans cxq0; have yy3 := (hSb.cell (p := ⟨w10.heap.size, 1, none⟩) fl1).trans cxq1
          go_simp
          try with_reducible rfl
        simp only [List.setIfInBounds_toArray, List.set_cons_zero, List.set_cons_succ]
        refine hold_take (i := 2) (d := 62) (v := ?vr2) (listed' := #[true, true, true, false, false, false, false, false, false, false, false, false, false, false, false, false, false, false, false, false, false, false, false, false, false, false, false, false, false]) rfl (by kernel_rfl) (by kernel_rfl) (by kernel_rfl) rfl (by rfl) (by kernel_rfl) KK0 ?hr2 ?rr2
        case hr2 =>
          intro w' hSw
          have hSb : Below w12.heap.size w12 w' := hSw; have yy0 := (hSb.cell (p := ⟨w1.heap.size, 0, none⟩) fl0).trans cxa0; have yy1 := (hSb.cell (p := ⟨w1.heap.size, 1, none⟩) fl0).trans cxa1; have yy2 := (hSb.cell (p := ⟨w10.heap.size, 0, none⟩) fl1).trans cxq0; have yy3 := (hSb.cell (p := ⟨w10.heap.size, 1, none⟩) fl1).trans cxq1
          go_simp
          try with_reducible rfl
        simp only [List.setIfInBounds_toArray, List.set_cons_zero, List.set_cons_succ]
        refine hold_take (i := 3) (d := 63) (v := ?vr3) (listed' := #[true, true, true, true, false, false, false, false, false, false, false, false, false, false, false, false, false, false, false, false, false, false, false, false, false, false, false, false, false]) rfl (by kernel_rfl) (by kernel_rfl) (by kernel_rfl) rfl (by rfl) (by kernel_rfl) KK0 ?hr3 ?rr3
        case hr3 =>
          intro w' hSw
          have hSb : Below w12.heap.size w12 w' := hSw; have yy0 := (hSb.cell (p := ⟨w1.heap.size, 0, none⟩) fl0).trans cxa0; have yy1 := (hSb.cell (p := ⟨w1.heap.size, 1, none⟩) fl0).trans cxa1; have yy2 := (hSb.cell (p := ⟨w10.heap.size, 0, none⟩) fl1).trans cxq0; have yy3 := (hSb.cell (p := ⟨w10.heap.size, 1, none⟩) fl1).trans cxq1
          go_simp
          try with_reducible rfl
        simp only [List.setIfInBounds_toArray, List.set_cons_zero, List.set_cons_succ]
        refine hold_take (i := 4) (d := 64) (v := ?vr4) (listed' := #[true, true, true, true, true, false, false, false, false, false, false, false, false, false, false, false, false, false, false, false, false, false, false, false, false, false, false, false, false]) rfl (by kernel_rfl) (by kernel_rfl) (by kernel_rfl) rfl (by rfl) (by kernel_rfl) KK0 ?hr4 ?rr4
        case hr4 =>
          intro w' hSw
          have hSb : Below w12.heap.size w12 w' := hSw; have yy0 := (hSb.cell (p := ⟨w1.heap.size, 0, none⟩) fl0).trans cxa0; have yy1 := (hSb.cell (p := ⟨w1.heap.size, 1, none⟩) fl0).trans cxa1; have yy2 := (hSb.cell (p := ⟨w10.heap.size, 0, none⟩) fl1).trans cxq0; have yy3 := (hSb.cell (p := ⟨w10.heap.size, 1, none⟩) fl1).trans cxq1
          go_simp
          try with_reducible rfl
        simp only [List.setIfInBounds_toArray, List.set_cons_zero, List.set_cons_succ]
        refine hold_take (i := 5) (d := 65) (v := ?vr5) (listed' := #[true, true, true, true, true, true, false, false, false, false, false, false, false, false, false, false, false, false, false, false, false, false, false, false, false, false, false, false, false]) rfl (by kernel_rfl) (by kernel_rfl) (by kernel_rfl) rfl (by rfl) (by kernel_rfl) KK0 ?hr5 ?rr5
        case hr5 =>
          intro w' hSw
          have hSb : Below w12.heap.size w12 w' := hSw; have yy0 := (hSb.cell (p := ⟨w1.heap.size, 0, none⟩) fl0).trans cxa0; have yy1 := (hSb.cell (p := ⟨w1.heap.size, 1, none⟩) fl0).trans cxa1; have yy2 := (hSb.cell (p := ⟨w10.heap.size, 0, none⟩) fl1).trans cxq0; have yy3 := (hSb.cell (p := ⟨w10.heap.size, 1, none⟩) fl1).trans cxq1
          go_simp
          try with_reducible rfl
        simp only [List.setIfInBounds_toArray, List.set_cons_zero, List.set_cons_succ]
        refine hold_take (i := 6) (d := 66) (v := ?vr6) (listed' := #[true, true, true, true, true, true, true, false, false, false, false, false, false, false, false, false, false, false, false, false, false, false, false, false, false, false, false, false, false]) rfl (by kernel_rfl) (by kernel_rfl) (by kernel_rfl) rfl (by rfl) (by kernel_rfl) KK0 ?hr6 ?rr6
        case hr6 =>
          intro w' hSw
          have hSb : Below w12.heap.size w12 w' := hSw; have yy0 := (hSb.cell (p := ⟨w1.heap.size, 0, none⟩) fl0).trans cxa0; have yy1 := (hSb.cell (p := ⟨w1.heap.size, 1, none⟩) fl0).trans cxa1; have yy2 := (hSb.cell (p := ⟨w10.heap.size, 0, none⟩) fl1).trans cxq0; have yy3 := (hSb.cell (p := ⟨w10.heap.size, 1, none⟩) fl1).trans cxq1
          go_simp
          try with_reducible rfl
        simp only [List.setIfInBounds_toArray, List.set_cons_zero, List.set_cons_succ]
        refine hold_take (i := 7) (d := 67) (v := ?vr7) (listed' := #[true, true, true, true, true, true, true, true, false, false, false, false, false, false, false, false, false, false, false, false, false, false, false, false, false, false, false, false, false]) rfl (by kernel_rfl) (by kernel_rfl) (by kernel_rfl) rfl (by rfl) (by kernel_rfl) KK0 ?hr7 ?rr7
        case hr7 =>
          intro w' hSw
          have hSb : Below w12.heap.size w12 w' := hSw; have yy0 := (hSb.cell (p := ⟨w1.heap.size, 0, none⟩) fl0).trans cxa0; have yy1 := (hSb.cell (p := ⟨w1.heap.size, 1, none⟩) fl0).trans cxa1; have yy2 := (hSb.cell (p := ⟨w10.heap.size, 0, none⟩) fl1).trans cxq0; have yy3 := (hSb.cell (p := ⟨w10.heap.size, 1, none⟩) fl1).trans cxq1
          go_simp
          try with_reducible rfl
        simp only [List.setIfInBounds_toArray, List.set_cons_zero, List.set_cons_succ]
        refine hold_take (i := 8) (d := 68) (v := ?vr8) (listed' := #[true, true, true, true, true, true, true, true, true, false, false, false, false, false, false, false, false, false, false, false, false, false, false, false, false, false, false, false, false]) rfl (by kernel_rfl) (by kernel_rfl) (by kernel_rfl) rfl (by rfl) (by kernel_rfl) KK0 ?hr8 ?rr8
        case hr8 =>
          intro w' hSw
          have hSb : Below w12.heap.size w12 w' := hSw; have yy0 := (hSb.cell (p := ⟨w1.heap.size, 0, none⟩) fl0).trans cxa0; have yy1 := (hSb.cell (p := ⟨w1.heap.size, 1, none⟩) fl0).trans cxa1; have yy2 := (hSb.cell (p := ⟨w10.heap.size, 0, none⟩) fl1).trans cxq0; have yy3 := (hSb.cell (p := ⟨w10.heap.size, 1, none⟩) fl1).trans cxq1
          go_simp
          try with_reducible rfl
        simp only [List.setIfInBounds_toArray, List.set_cons_zero, List.set_cons_succ]
        refine hold_take (i := 9) (d := 69) (v := ?vr9) (listed' := #[true, true, true, true, true, true, true, true, true, true, false, false, false, false, false, false, false, false, false, false, false, false, false, false, false, false, false, false, false]) rfl (by kernel_rfl) (by kernel_rfl) (by kernel_rfl) rfl (by rfl) (by kernel_rfl) KK0 ?hr9 ?rr9
        case hr9 =>
          intro w' hSw
          have hSb : Below w12.heap.size w12 w' := hSw; have yy0 := (hSb.cell (p := ⟨w1.heap.size, 0, none⟩) fl0).trans cxa0; have yy1 := (hSb.cell (p := ⟨w1.heap.size, 1, none⟩) fl0).trans cxa1; have yy2 := (hSb.cell (p := ⟨w10.heap.size, 0, none⟩) fl1).trans cxq0; have yy3 := (hSb.cell (p := ⟨w10.heap.size, 1, none⟩) fl1).trans cxq1
          go_simp
          try with_reducible rfl
        simp only [List.setIfInBounds_toArray, List.set_cons_zero, List.set_cons_succ]
        refine hold_take (i := 10) (d := 70) (v := ?vr10) (listed' := #[true, true, true, true, true, true, true, true, true, true, true, false, false, false, false, false, false, false, false, false, false, false, false, false, false, false, false, false, false]) rfl (by kernel_rfl) (by kernel_rfl) (by kernel_rfl) rfl (by rfl) (by kernel_rfl) KK0 ?hr10 ?rr10
        case hr10 =>
          intro w' hSw
          have hSb : Below w12.heap.size w12 w' := hSw; have yy0 := (hSb.cell (p := ⟨w1.heap.size, 0, none⟩) fl0).trans cxa0; have yy1 := (hSb.cell (p := ⟨w1.heap.size, 1, none⟩) fl0).trans cxa1; have yy2 := (hSb.cell (p := ⟨w10.heap.size, 0, none⟩) fl1).trans cxq0; have yy3 := (hSb.cell (p := ⟨w10.heap.size, 1, none⟩) fl1).trans cxq1
          go_simp
          try with_reducible rfl
        simp only [List.setIfInBounds_toArray, List.set_cons_zero, List.set_cons_succ]
        refine hold_take (i := 11) (d := 71) (v := ?vr11) (listed' := #[true, true, true, true, true, true, true, true, true, true, true, true, false, false, false, false, false, false, false, false, false, false, false, false, false, false, false, false, false]) rfl (by kernel_rfl) (by kernel_rfl) (by kernel_rfl) rfl (by rfl) (by kernel_rfl) KK0 ?hr11 ?rr11
        case hr11 =>
          intro w' hSw
          have hSb : Below w12.heap.size w12 w' := hSw; have yy0 := (hSb.cell (p := ⟨w1.heap.size, 0, none⟩) fl0).trans cxa0; have yy1 := (hSb.cell (p := ⟨w1.heap.size, 1, none⟩) fl0).trans cxa1; have yy2 := (hSb.cell (p := ⟨w10.heap.size, 0, none⟩) fl1).trans cxq0; have yy3 := (hSb.cell (p := ⟨w10.heap.size, 1, none⟩) fl1).trans cxq1
          go_simp
          try with_reducible rfl
        simp only [List.setIfInBounds_toArray, List.set_cons_zero, List.set_cons_succ]
        refine hold_take (i := 12) (d := 72) (v := ?vr12) (listed' := #[true, true, true, true, true, true, true, true, true, true, true, true, true, false, false, false, false, false, false, false, false, false, false, false, false, false, false, false, false]) rfl (by kernel_rfl) (by kernel_rfl) (by kernel_rfl) rfl (by rfl) (by kernel_rfl) KK0 ?hr12 ?rr12
        case hr12 =>
          intro w' hSw
          have hSb : Below w12.heap.size w12 w' := hSw; have yy0 := (hSb.cell (p := ⟨w1.heap.size, 0, none⟩) fl0).trans cxa0; have yy1 := (hSb.cell (p := ⟨w1.heap.size, 1, none⟩) fl0).trans cxa1; have yy2 := (hSb.cell (p := ⟨w10.heap.size, 0, none⟩) fl1).trans cxq0; have yy3 := (hSb.cell (p := ⟨w10.heap.size, 1, none⟩) fl1).trans cxq1
          go_simp
          try with_reducible rfl
        simp only [List.setIfInBounds_toArray, List.set_cons_zero, List.set_cons_succ]
        refine hold_take (i := 13) (d := 73) (v := ?vr13) (listed' := #[true, true, true, true, true, true, true, true, true, true, true, true, true, true, false, false, false, false, false, false, false, false, false, false, false, false, false, false, false]) rfl (by kernel_rfl) (by kernel_rfl) (by kernel_rfl) rfl (by rfl) (by kernel_rfl) KK0 ?hr13 ?rr13
        case hr13 =>
          intro w' hSw
          have hSb : Below w12.heap.size w12 w' := hSw; have yy0 := (hSb.cell (p := ⟨w1.heap.size, 0, none⟩) fl0).trans cxa0; have yy1 := (hSb.cell (p := ⟨w1.heap.size, 1, none⟩) fl0).trans cxa1; have yy2 := (hSb.cell (p := ⟨w10.heap.size, 0, none⟩) fl1).trans cxq0; have yy3 := (hSb.cell (p := ⟨w10.heap.size, 1, none⟩) fl1).trans cxq1
          go_simp
          try with_reducible rfl
        simp only [List.setIfInBounds_toArray, List.set_cons_zero, List.set_cons_succ]
        refine hold_take (i := 14) (d := 74) (v := ?vr14) (listed' := #[true, true, true, true, true, true, true, true, true, true, true, true, true, true, true, false, false, false, false, false, false, false, false, false, false, false, false, false, false]) rfl (by kernel_rfl) (by kernel_rfl) (by kernel_rfl) rfl (by rfl) (by kernel_rfl) KK0 ?hr14 ?rr14
        case hr14 =>
          intro w' hSw
          have hSb : Below w12.heap.size w12 w' := hSw; have yy0 := (hSb.cell (p := ⟨w1.heap.size, 0, none⟩) fl0).trans cxa0; have yy1 := (hSb.cell (p := ⟨w1.heap.size, 1, none⟩) fl0).trans cxa1; have yy2 := (hSb.cell (p := ⟨w10.heap.size, 0, none⟩) fl1).trans cxq0; have yy3 := (hSb.cell (p := ⟨w10.heap.size, 1, none⟩) fl1).trans cxq1
          go_simp
          try with_reducible rfl
        simp only [List.setIfInBounds_toArray, List.set_cons_zero, List.set_cons_succ]
        refine hold_take (i := 15) (d := 75) (v := ?vr15) (listed' := #[true, true, true, true, true, true, true, true, true, true, true, true, true, true, true, true, false, false, false, false, false, false, false, false, false, false, false, false, false]) rfl (by kernel_rfl) (by kernel_rfl) (by kernel_rfl) rfl (by rfl) (by kernel_rfl) KK0 ?hr15 ?rr15
        case hr15 =>
          intro w' hSw
          have hSb : Below w12.heap.size w12 w' := hSw; have yy0 := (hSb.cell (p := ⟨w1.heap.size, 0, none⟩) fl0).trans cxa0; have yy1 := (hSb.cell (p := ⟨w1.heap.size, 1, none⟩) fl0).trans cxa1; have yy2 := (hSb.cell (p := ⟨w10.heap.size, 0, none⟩) fl1).trans cxq0; have yy3 := (hSb.cell (p := ⟨w10.heap.size, 1, none⟩) fl1).trans cxq1
          go_simp
          try with_reducible rfl
        simp only [List.setIfInBounds_toArray, List.set_cons_zero, List.set_cons_succ]
        refine hold_take (i := 16) (d := 76) (v := ?vr16) (listed' := #[true, true, true, true, true, true, true, true, true, true, true, true, true, true, true, true, true, false, false, false, false, false, false, false, false, false, false, false, false]) rfl (by kernel_rfl) (by kernel_rfl) (by kernel_rfl) rfl (by rfl) (by kernel_rfl) KK0 ?hr16 ?rr16
        case hr16 =>
          intro w' hSw
          have hSb : Below w12.heap.size w12 w' := hSw; have yy0 := (hSb.cell (p := ⟨w1.heap.size, 0, none⟩) fl0).trans cxa0; have yy1 := (hSb.cell (p := ⟨w1.heap.size, 1, none⟩) fl0).trans cxa1; have yy2 := (hSb.cell (p := ⟨w10.heap.size, 0, none⟩) fl1).trans cxq0; have yy3 := (hSb.cell (p := ⟨w10.heap.size, 1, none⟩) fl1).trans cxq1
          go_simp
          try with_reducible rfl
        simp only [List.setIfInBounds_toArray, List.set_cons_zero, List.set_cons_succ]
        refine hold_call (i := 17) (d := 77) (listed' := #[true, true, true, true, true, true, true, true, true, true, true, true, true, true, true, true, true, true, false, false, false, false, false, false, false, false, false, false, false]) rfl (by kernel_rfl) rfl (by rfl) (by kernel_rfl) ?her17 (NoOf_any (nc := ncQ) (m := ⟨m0.n, fun _ => m0.n, Z2⟩) (k := m0.n) (Q.out.below KK0 (by omega)).logAt) ?hcr17
        case her17 => go_simp
        rintro e wr1 ⟨rfl, b⟩
        rw [HNO.out]
        have KK1 : Below w12.heap.size w12 wr1 := KK0.trans (b.mono KK0.size)
        clear b
        refine ⟨_, rfl, KK1, ?_⟩
        simp only [List.setIfInBounds_toArray, List.set_cons_zero, List.set_cons_succ]
        refine hold_take (i := 18) (d := 78) (v := ?vr18) (listed' := #[true, true, true, true, true, true, true, true, true, true, true, true, true, true, true, true, true, true, true, false, false, false, false, false, false, false, false, false, false]) rfl (by kernel_rfl) (by kernel_rfl) (by kernel_rfl) rfl (by rfl) (by kernel_rfl) KK1 ?hr18 ?rr18
        case hr18 =>
          intro w' hSw
          have hSb : Below w12.heap.size w12 w' := hSw; have yy0 := (hSb.cell (p := ⟨w1.heap.size, 0, none⟩) fl0).trans cxa0; have yy1 := (hSb.cell (p := ⟨w1.heap.size, 1, none⟩) fl0).trans cxa1; have yy2 := (hSb.cell (p := ⟨w10.heap.size, 0, none⟩) fl1).trans cxq0; have yy3 := (hSb.cell (p := ⟨w10.heap.size, 1, none⟩) fl1).trans cxq1
          go_simp
          try with_reducible rfl
        simp only [List.setIfInBounds_toArray, List.set_cons_zero, List.set_cons_succ]
        refine hold_take (i := 19) (d := 79) (v := ?vr19) (listed' := #[true, true, true, true, true, true, true, true, true, true, true, true, true, true, true, true, true, true, true, true, false, false, false, false, false, false, false, false, false]) rfl (by kernel_rfl) (by kernel_rfl) (by kernel_rfl) rfl (by rfl) (by kernel_rfl) KK1 ?hr19 ?rr19
        case hr19 =>
          intro w' hSw
          have hSb : Below w12.heap.size w12 w' := hSw; have yy0 := (hSb.cell (p := ⟨w1.heap.size, 0, none⟩) fl0).trans cxa0; have yy1 := (hSb.cell (p := ⟨w1.heap.size, 1, none⟩) fl0).trans cxa1; have yy2 := (hSb.cell (p := ⟨w10.heap.size, 0, none⟩) fl1).trans cxq0; have yy3 := (hSb.cell (p := ⟨w10.heap.size, 1, none⟩) fl1).trans cxq1
          go_simp
          try with_reducible rfl
        simp only [List.setIfInBounds_toArray, List.set_cons_zero, List.set_cons_succ]
        refine hold_take (i := 20) (d := 80) (v := ?vr20) (listed' := #[true, true, true, true, true, true, true, true, true, true, true, true, true, true, true, true, true, true, true, true, true, false, false, false, false, false, false, false, false]) rfl (by kernel_rfl) (by kernel_rfl) (by kernel_rfl) rfl (by rfl) (by kernel_rfl) KK1 ?hr20 ?rr20
        case hr20 =>
          intro w' hSw
          have hSb : Below w12.heap.size w12 w' := hSw; have yy0 := (hSb.cell (p := ⟨w1.heap.size, 0, none⟩) fl0).trans cxa0; have yy1 := (hSb.cell (p := ⟨w1.heap.size, 1, none⟩) fl0).trans cxa1; have yy2 := (hSb.cell (p := ⟨w10.heap.size, 0, none⟩) fl1).trans cxq0; have yy3 := (hSb.cell (p := ⟨w10.heap.size, 1, none⟩) fl1).trans cxq1
          go_simp
          try with_reducible rfl
        simp only [List.setIfInBounds_toArray, List.set_cons_zero, List.set_cons_succ]
        refine hold_take (i := 21) (d := 81) (v := ?vr21) (listed' := #[true, true, true, true, true, true, true, true, true, true, true, true, true, true, true, true, true, true, true, true, true, true, false, false, false, false, false, false, false]) rfl (by kernel_rfl) (by kernel_rfl) (by kernel_rfl) rfl (by rfl) (by kernel_rfl) KK1 ?hr21 ?rr21
        case hr21 =>
          intro w' hSw
          have hSb : Below w12.heap.size w12 w' := hSw; have yy0 := (hSb.cell (p := ⟨w1.heap.size, 0, none⟩) fl0).trans cxa0; have yy1 := (hSb.cell (p := ⟨w1.heap.size, 1, none⟩) fl0).trans cxa1; have yy2 := (hSb.cell (p := ⟨w10.heap.size, 0, none⟩) fl1).trans cxq0; have yy3 := (hSb.cell (p := ⟨w10.heap.size, 1, none⟩) fl1).trans cxq1
          go_simp
          try with_reducible rfl
        simp only [List.setIfInBounds_toArray, List.set_cons_zero, List.set_cons_succ]
        refine hold_take (i := 23) (d := 83) (v := ?vr23) (listed' := #[true, true, true, true, true, true, true, true, true, true, true, true, true, true, true, true, true, true, true, true, true, true, false, true, false, false, false, false, false]) rfl (by kernel_rfl) (by kernel_rfl) (by kernel_rfl) rfl (by rfl) (by kernel_rfl) KK1 ?hr23 ?rr23
        case hr23 =>
          intro w' hSw
          have hSb : Below w12.heap.size w12 w' := hSw; have yy0 := (hSb.cell (p := ⟨w1.heap.size, 0, none⟩) fl0).trans cxa0; have yy1 := (hSb.cell (p := ⟨w1.heap.size, 1, none⟩) fl0).trans cxa1; have yy2 := (hSb.cell (p := ⟨w10.heap.size, 0, none⟩) fl1).trans cxq0; have yy3 := (hSb.cell (p := ⟨w10.heap.size, 1, none⟩) fl1).trans cxq1
          go_simp
          try with_reducible rfl
        simp only [List.setIfInBounds_toArray, List.set_cons_zero, List.set_cons_succ]
        refine hold_take (i := 24) (d := 84) (v := ?vr24) (listed' := #[true, true, true, true, true, true, true, true, true, true, true, true, true, true, true, true, true, true, true, true, true, true, false, true, true, false, false, false, false]) rfl (by kernel_rfl) (by kernel_rfl) (by kernel_rfl) rfl (by rfl) (by kernel_rfl) KK1 ?hr24 ?rr24
        case hr24 =>
          intro w' hSw
          have hSb : Below w12.heap.size w12 w' := hSw; have yy0 := (hSb.cell (p := ⟨w1.heap.size, 0, none⟩) fl0).trans cxa0; have yy1 := (hSb.cell (p := ⟨w1.heap.size, 1, none⟩) fl0).trans cxa1; have yy2 := (hSb.cell (p := ⟨w10.heap.size, 0, none⟩) fl1).trans cxq0; have yy3 := (hSb.cell (p := ⟨w10.heap.size, 1, none⟩) fl1).trans cxq1
          go_simp
          try with_reducible rfl
        simp only [List.setIfInBounds_toArray, List.set_cons_zero, List.set_cons_succ]
        refine hold_take (i := 25) (d := 85) (v := ?vr25) (listed' := #[true, true, true, true, true, true, true, true, true, true, true, true, true, true, true, true, true, true, true, true, true, true, false, true, true, true, false, false, false]) rfl (by kernel_rfl) (by kernel_rfl) (by kernel_rfl) rfl (by rfl) (by kernel_rfl) KK1 ?hr25 ?rr25
        case hr25 =>
          intro w' hSw
          have hSb : Below w12.heap.size w12 w' := hSw; have yy0 := (hSb.cell (p := ⟨w1.heap.size, 0, none⟩) fl0).trans cxa0; have yy1 := (hSb.cell (p := ⟨w1.heap.size, 1, none⟩) fl0).trans cxa1; have yy2 := (hSb.cell (p := ⟨w10.heap.size, 0, none⟩) fl1).trans cxq0; have yy3 := (hSb.cell (p := ⟨w10.heap.size, 1, none⟩) fl1).trans cxq1
          go_simp
          try with_reducible rfl
        simp only [List.setIfInBounds_toArray, List.set_cons_zero, List.set_cons_succ]
        refine hold_take (i := 26) (d := 86) (v := ?vr26) (listed' := #[true, true, true, true, true, true, true, true, true, true, true, true, true, true, true, true, true, true, true, true, true, true, false, true, true, true, true, false, false]) rfl (by kernel_rfl) (by kernel_rfl) (by kernel_rfl) rfl (by rfl) (by kernel_rfl) KK1 ?hr26 ?rr26
        case hr26 =>
          intro w' hSw
          have hSb : Below w12.heap.size w12 w' := hSw; have yy0 := (hSb.cell (p := ⟨w1.heap.size, 0, none⟩) fl0).trans cxa0; have yy1 := (hSb.cell (p := ⟨w1.heap.size, 1, none⟩) fl0).trans cxa1; have yy2 := (hSb.cell (p := ⟨w10.heap.size, 0, none⟩) fl1).trans cxq0; have yy3 := (hSb.cell (p := ⟨w10.heap.size, 1, none⟩) fl1).trans cxq1
          go_simp
          try with_reducible rfl
        simp only [List.setIfInBounds_toArray, List.set_cons_zero, List.set_cons_succ]
        refine hold_call (i := 22) (d := 82) (listed' := #[true, true, true, true, true, true, true, true, true, true, true, true, true, true, true, true, true, true, true, true, true, true, true, true, true, true, true, false, false]) rfl (by kernel_rfl) rfl (by rfl) (by kernel_rfl) ?her22 (YesOf_any (nc := ncQ) (m := ⟨m0.n, fun _ => m0.n, Z2⟩) (k := m0.n) (Q.out.below KK1 (by omega)).logAt) ?hcr22
        case her22 => go_simp
        rintro e wr2 ⟨rfl, b⟩
        rw [HYES.out]
        have KK2 : Below w12.heap.size w12 wr2 := KK1.trans (b.mono KK1.size)
        clear b
        refine ⟨_, rfl, KK2, ?_⟩
        simp only [List.setIfInBounds_toArray, List.set_cons_zero, List.set_cons_succ]
        refine hold_take (i := 27) (d := 87) (v := ?vr27) (listed' := #[true, true, true, true, true, true, true, true, true, true, true, true, true, true, true, true, true, true, true, true, true, true, true, true, true, true, true, true, false]) rfl (by kernel_rfl) (by kernel_rfl) (by kernel_rfl) rfl (by rfl) (by kernel_rfl) KK2 ?hr27 ?rr27
        case hr27 =>
          intro w' hSw
          have hSb : Below w12.heap.size w12 w' := hSw; have yy0 := (hSb.cell (p := ⟨w1.heap.size, 0, none⟩) fl0).trans cxa0; have yy1 := (hSb.cell (p := ⟨w1.heap.size, 1, none⟩) fl0).trans cxa1; have yy2 := (hSb.cell (p := ⟨w10.heap.size, 0, none⟩) fl1).trans cxq0; have yy3 := (hSb.cell (p := ⟨w10.heap.size, 1, none⟩) fl1).trans cxq1
          go_simp
          try with_reducible rfl
        simp only [List.setIfInBounds_toArray, List.set_cons_zero, List.set_cons_succ]
        refine hold_take (i := 28) (d := 88) (v := ?vr28) (listed' := #[true, true, true, true, true, true, true, true, true, true, true, true, true, true, true, true, true, true, true, true, true, true, true, true, true, true, true, true, true]) rfl (by kernel_rfl) (by kernel_rfl) (by kernel_rfl) rfl (by rfl) (by kernel_rfl) KK2 ?hr28 ?rr28
        case hr28 =>
          intro w' hSw
          have hSb : Below w12.heap.size w12 w' := hSw; have yy0 := (hSb.cell (p := ⟨w1.heap.size, 0, none⟩) fl0).trans cxa0; have yy1 := (hSb.cell (p := ⟨w1.heap.size, 1, none⟩) fl0).trans cxa1; have yy2 := (hSb.cell (p := ⟨w10.heap.size, 0, none⟩) fl1).trans cxq0; have yy3 := (hSb.cell (p := ⟨w10.heap.size, 1, none⟩) fl1).trans cxq1
          go_simp
          try with_reducible rfl
        simp only [List.setIfInBounds_toArray, List.set_cons_zero, List.set_cons_succ]
        refine hold_done (by kernel_rfl) ?_ _
        clear cxa0 cxa1 cxq0 cxq1
        have s13 := KK2.size
        replace K0 := Lib.hid (K0.out.step KK2)
        replace K1 := Lib.hid (K1.out.step KK2)
        replace xa := xa.below KK2 (by omega)
        replace xb := xb.below KK2 (by omega)
        replace xl := xl.below KK2 (by omega)
        replace xx := xx.below KK2 (by omega)
        replace xo := xo.below KK2 (by omega)
        replace xq := xq.below KK2 (by omega)
        replace L := Lib.hid (L.out.below KK2 (by omega))
        replace X := Lib.hid (X.out.below KK2 (by omega))
        replace O := Lib.hid (O.out.below KK2 (by omega))
        replace Q := Lib.hid (Q.out.below KK2 (by omega))
        replace BX := BX.trans (KK2.mono BX.size)
        clear KK0 KK1 KK2
        cases hok : ok with
        | false =>
          obtain rfl : N = 0 := by rw [HN.out, hok]; rfl
          subst hok
          clear HN HOK HI HS
          have cxl0 := xl.c0
          have cxl1 := xl.c1
          go_wp2_with fail
          go_at_call 17
          refine noLogic_any.mono ?_
          rintro e wn1 ⟨rfl, b⟩
          have s14 := b.size
          clear cxl0 cxl1
          replace K0 := Lib.hid (K0.out.step b)
          replace K1 := Lib.hid (K1.out.step b)
          replace xa := xa.below b (by omega)
          replace xb := xb.below b (by omega)
          replace xl := xl.below b (by omega)
          replace xx := xx.below b (by omega)
          replace xo := xo.below b (by omega)
          replace xq := xq.below b (by omega)
          replace L := Lib.hid (L.out.below b (by omega))
          replace X := Lib.hid (X.out.below b (by omega))
          replace O := Lib.hid (O.out.below b (by omega))
          replace Q := Lib.hid (Q.out.below b (by omega))
          replace BX := BX.trans (b.mono BX.size)
          clear b
          go_wp2_with fail
          go_at_call 18
          refine (alive_any _).mono ?_
          rintro e wn2 ⟨rfl, b⟩
          have s15 := b.size
          replace K0 := Lib.hid (K0.out.step b)
          replace K1 := Lib.hid (K1.out.step b)
          replace xa := xa.below b (by omega)
          replace xb := xb.below b (by omega)
          replace xl := xl.below b (by omega)
          replace xx := xx.below b (by omega)
          replace xo := xo.below b (by omega)
          replace xq := xq.below b (by omega)
          replace L := Lib.hid (L.out.below b (by omega))
          replace X := Lib.hid (X.out.below b (by omega))
          replace O := Lib.hid (O.out.below b (by omega))
          replace Q := Lib.hid (Q.out.below b (by omega))
          replace BX := BX.trans (b.mono BX.size)
          clear b
          go_wp2_with fail
          go_ret
          exact ⟨rfl, BX⟩
        | true =>
          have hb := HOK.out
          rw [hok] at hb
          have hb' := hb.symm
          simp only [Bool.and_eq_true, decide_eq_true_eq] at hb'
          obtain ⟨⟨⟨_, hl1⟩, hgo⟩, h12⟩ := hb'
          have hN1 : N = gN m0 m1 := by rw [HN.out, hok]; rfl
          subst hok
          clear hb HN HOK HI HS
          obtain ⟨p0, i0⟩ := LD.isY (d := ⟨ua0, l0, m0, na0, g0, o0, m0.n, nc0, z0⟩) K0.out.log HL0.out
          obtain ⟨p1, i1⟩ := LD.isY (d := ⟨ua1, l1, m1, na1, g1, o1, k1, nc1, z1⟩) K1.out.log hl1
          have ek1 : k1 = m1.n := i1.len
          subst ek1
          have hgo' : 2 ≤ m0.n ∧ 2 ≤ m1.n := by unfold gOk at hgo; simp only [Bool.and_eq_true, decide_eq_true_eq] at hgo; exact hgo
          have G := (glue_of (m0 := m0) (m1 := m1) i0.orth i1.orth hgo'.1 hgo'.2).logic h12
          have hge : gN m0 m1 = m0.n - 2 + (m1.n - 2) + 2 := rfl
          have hn0 : m0.n ≤ 12 := K0.out.hn
          have hn1 : m1.n ≤ 12 := K1.out.hn
          have eNN : (m0.n : Int) + (m1.n : Int) - 2 = (N : Int) := by omega
          have eNw : IntKind.i64.wrap ((m0.n : Int) + (m1.n : Int)) = (m0.n : Int) + (m1.n : Int) := IntWalk.i64_in _ (by omega)
          have eNx : IntKind.i64.wrap (N : Int) = (N : Int) := IntWalk.i64_in _ (by omega)
          have HLT : Hid (logicB ⟨N, fun _ => N, ZT⟩ N (fun c => (yT c : Int)) = true) := by show _ = _; rw [HZT.out, HYT.out, hN1]; exact G.isB
          clear hN1 hge G i0 i1 HZT HYT hgo h12 hl1
          have cxa0 := xa.c0
          have cxa1 := xa.c1
          have cxb0 := xb.c0
          have cxb1 := xb.c1
          have cxl0 := xl.c0
          have cxl1 := xl.c1
          go_wp2_with fail
          go_at_call 19
          refine (LogicOk_any (m := ⟨N, fun _ => N, ZT⟩) L.out.logAt).mono ?_
          rintro e wr3 ⟨rfl, b⟩
          rw [HLT.out]
          have s14 := b.size
          clear cxa0 cxa1 cxb0 cxb1 cxl0 cxl1
          replace K0 := Lib.hid (K0.out.step b)
          replace K1 := Lib.hid (K1.out.step b)
          replace xa := xa.below b (by omega)
          replace xb := xb.below b (by omega)
          replace xl := xl.below b (by omega)
          replace xx := xx.below b (by omega)
          replace xo := xo.below b (by omega)
          replace xq := xq.below b (by omega)
          replace L := Lib.hid (L.out.below b (by omega))
          replace X := Lib.hid (X.out.below b (by omega))
          replace O := Lib.hid (O.out.below b (by omega))
          replace Q := Lib.hid (Q.out.below b (by omega))
          replace BX := BX.trans (b.mono BX.size)
          clear b
          have cxa0 := xa.c0
          have cxa1 := xa.c1
          have cxb0 := xb.c0
          have cxb1 := xb.c1
          have cxl0 := xl.c0
          have cxl1 := xl.c1
          go_wp2_with fail
          go_ret
          exact ⟨rfl, BX⟩
end Go.Proofs.Ytgjacinolenheaa
