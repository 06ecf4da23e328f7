import Derived.Test.YtanhogaekdcooaaZFe
import Derived.Test.YtanhogaekdcooaaZVa
import Derived.Test.YtanhogaekdcooaaZMath
import Derived.Test.YtanhogaekdcooaaZVc
namespace Go.Proofs.Ytanhogaekdcooaa
open Go.RowKit Go.Deep

theorem Ortho.congr {m : Mx} {z : Nat → Int} {y y' : Nat → Nat} {o : Nat} (h : Ortho m z y o) (e : ∀ a, a < m.n → y a = y' a) : Ortho m z y' o := by
  have l : ∀ a, a < m.n → y' a < m.n := fun a ha => by rw [← e a ha]; exact h.lt a ha
  exact ⟨h.lat, fun a ha => by rw [h.zy a ha, e a ha], l, fun a ha => by rw [← e a ha, ← e _ (h.lt a ha)]; exact h.inv a ha, fun a b ha hb hab => by rw [← e a ha, ← e b hb]; exact h.turn a b ha hb hab, h.ho, h.least, h.eq, fun a ha => by rw [← e a ha]; exact h.kept a ha⟩
theorem made_no' {w W : World} {ok : Bool} {p N : Nat} {Z : Nat → Nat → Int} {y : Nat → Nat} {x x' : Value} (hp : w.heap.size ≤ p) (hB : Below w.heap.size w W) (hok : ok = false) : MadeOk w N Z y ok (.returned (.tuple #[noLog, .bool false])) ((W.setCell ⟨p, 0, none⟩ x).setCell ⟨p, 1, none⟩ x') :=
  ⟨hB.trans ((set2_only _ _ _ _).below fun j hj => by have hj' : j = p := hj; omega), .inl ⟨hok, rfl⟩⟩
/-- Its opposites, as plain numbers. -/
def LD.y (d : LD) (a : Nat) : Nat := (d.z a).toNat
theorem LD.isY {d : LD} {w : World} {B : Nat} (h : d.At w B) (hok : d.ok = true) : ∃ o, d.Is w B d.y o := by
  obtain ⟨y, o, hI⟩ := LD.is h hok
  exact ⟨o, hI.at_, hI.ok, hI.orth.congr fun a ha => by unfold LD.y; rw [hI.orth.zy a ha]; simp, hI.len⟩

set_option maxRecDepth 100000 in
set_option maxHeartbeats 2000000 in
theorem GluedOf_walk {w : World} {d0 d1 : LD} {B N : Nat} {b : Nat → Nat → Bool} {y : Nat → Nat} {okp : Bool} (h0 : d0.At w B) (h1 : d1.At w B) (hN : okp = true → 1 ≤ N ∧ N ≤ 1000) (hy : okp = true → N ≤ 12 → ∀ a, a < N → y a < N)
    (hp : d0.ok = true → d1.ok = true → ∀ (W : World) (v : Value) (base o0 o1 : Nat), Below w.heap.size w W → W.ownsRow base 56 3 v 2 [d0.u, d0.t, .slice (some ⟨o0, 0, none⟩) 2 2, d1.u, d1.t, .slice (some ⟨o1, 0, none⟩) 2 2] → d0.Alg W o0 → d1.Alg W o1 → Calls Try.prog 83 #[.slice none 0 0, v] W (Planned W N b y okp)) :
    Calls Try.prog 16 #[.agg #[d0.u, d0.t], .agg #[d1.u, d1.t]] w (MadeOk w N (bitZ b) y (d0.ok && d1.ok && okp && decide (N ≤ 12))) := by
  have bA := (((Below.refl w.heap.size w).alloc (Nat.le_refl _) (.cells #[d0.u, d0.t] 26)).alloc (by simp) (.cells #[d1.u, d1.t] 26)).alloc (by simp only [World.size_alloc]; omega) (.cells #[.slice none 0 0, .slice none 0 0] 26)
  have hV := TwoAt.new ((w.alloc (.cells #[d0.u, d0.t] 26)).alloc (.cells #[d1.u, d1.t] 26)) (.slice none 0 0) (.slice none 0 0) 26
  simp only [World.size_alloc] at hV
  have hE := World.alloc_heap_new (((w.alloc (.cells #[d0.u, d0.t] 26)).alloc (.cells #[d1.u, d1.t] 26)).alloc (.cells #[.slice none 0 0, .slice none 0 0] 26)) (.cells #[d0.u, d0.t, d1.u, d1.t] 26)
  simp only [World.size_alloc] at hE
  have bB := (Below.refl (((w.alloc (.cells #[d0.u, d0.t] 26)).alloc (.cells #[d1.u, d1.t] 26)).alloc (.cells #[.slice none 0 0, .slice none 0 0] 26)).heap.size (((w.alloc (.cells #[d0.u, d0.t] 26)).alloc (.cells #[d1.u, d1.t] 26)).alloc (.cells #[.slice none 0 0, .slice none 0 0] 26))).alloc (Nat.le_refl _) (.cells #[d0.u, d0.t, d1.u, d1.t] 26)
  have hV1 := hV.below bB (by simp only [World.size_alloc]; omega)
  have B1 := bA.trans (bB.mono (by simp only [World.size_alloc]; omega))
  have ce : ∀ (i : Nat) (x : Value), #[d0.u, d0.t, d1.u, d1.t][i]? = some x → ((((w.alloc (.cells #[d0.u, d0.t] 26)).alloc (.cells #[d1.u, d1.t] 26)).alloc (.cells #[.slice none 0 0, .slice none 0 0] 26)).alloc (.cells #[d0.u, d0.t, d1.u, d1.t] 26)).cell? ⟨w.heap.size + 1 + 1 + 1, i, none⟩ = some x := fun i x hx => by
    simp only [World.cell?, hE]
    exact hx
  have hm : Calls Try.prog 47 #[.int .i64 2, .slice none 0 0, .slice (some ⟨w.heap.size + 1 + 1 + 1, 0, none⟩) 2 2] ((((w.alloc (.cells #[d0.u, d0.t] 26)).alloc (.cells #[d1.u, d1.t] 26)).alloc (.cells #[.slice none 0 0, .slice none 0 0] 26)).alloc (.cells #[d0.u, d0.t, d1.u, d1.t] 26)) (MadeOk _ N (bitZ b) y (d0.ok && d1.ok && okp && decide (N ≤ 12))) :=
    made_Glued (d0 := d0) (d1 := d1) (B := B) (LogAt.step h0 B1) (LogAt.step h1 B1) (by simp) (ce 0 _ rfl) (ce 1 _ rfl) (ce 2 _ rfl) (ce 3 _ rfl) (fun e0 e1 W v q0 q1 hW hv a0 a1 => hp e0 e1 W v _ q0 q1 (B1.trans (hW.mono (by simp only [World.size_alloc]; omega))) hv a0 a1) hN hy
  have HM := Lib.hid hm
  clear hN hy hp hV hm hE ce bA bB h0 h1
  go_enter Try.func16, Try.ntmps16
  go_wp2_with fail
  go_at_call 47
  refine HM.out.mono ?_
  rintro e w1 ⟨b1, (⟨hok, rfl⟩ | ⟨hok, u, t, rv, rfl, hL⟩)⟩
  · have hV2 := hV1.below b1 (by simp only [World.size_alloc]; omega)
    have B2 := B1.trans (b1.mono B1.size)
    have HOK := Lib.hid hok
    have t0 := hV2.c0
    have t1 := hV2.c1
    have t2 := hV2.f0
    have t3 := hV2.f1
    clear hok b1
    unfold noLog
    go_wp2_with fail
    have hfin := (hV2.set0 (.slice none 0 0)).set1 (.slice none 0 0)
    have f0 := hfin.c0
    have f1 := hfin.c1
    exact bodyPost_ret (v := .tuple #[noLog, .bool false]) (by simp [results, Try.results16, go_sem, f0, f1, noLog]) rfl (made_no' (by omega) B2 HOK.out)
  · have hV2 := hV1.below b1 (by simp only [World.size_alloc]; omega)
    have B2 := B1.trans (b1.mono B1.size)
    have HOK := Lib.hid hok
    have hp := hL.pos
    obtain ⟨gu, cu, rfl, _⟩ := hL.out.topv (by omega)
    obtain ⟨gt, ct, rfl, _⟩ := hL.ints.val (by omega)
    have HL := Lib.hid hL
    have t0 := hV2.c0
    have t1 := hV2.c1
    have t2 := hV2.f0
    have t3 := hV2.f1
    have sB := B1.size
    clear hok hL b1
    go_wp2_with fail
    have hfin := (hV2.set0 (.slice (some ⟨gu, 0, none⟩) N cu)).set1 (.slice (some ⟨gt, 0, none⟩) N ct)
    have q0 := hfin.c0
    have q1 := hfin.c1
    have hon := set2_only w1 (w.heap.size + 1 + 1) (.slice (some ⟨gu, 0, none⟩) N cu) (.slice (some ⟨gt, 0, none⟩) N ct)
    refine bodyPost_ret (v := .tuple #[.agg #[.slice (some ⟨gu, 0, none⟩) N cu, .slice (some ⟨gt, 0, none⟩) N ct], .bool true]) (by simp [results, Try.results16, go_sem, q0, q1]) rfl ⟨B2.trans (hon.below fun j hj => by have hj' : j = (w.heap.size + 1 + 1) := hj; omega), .inr ⟨HOK.out, _, _, rv, rfl, ((HL.out.chg (Chg.of_only hon) fun j hj => ?_).base (by first | omega | (simp; omega)))⟩⟩
    have hj' : j = (w.heap.size + 1 + 1) := hj
    simp
    omega

end Go.Proofs.Ytanhogaekdcooaa
namespace Go.Proofs.Ytanhogaekdcooaa
open Go.RowKit Go.Deep

/-- Four values in a box. -/
structure FourAt (w : World) (p : Nat) (a b c d : Value) : Prop where
  c0 : w.cell? ⟨p, 0, none⟩ = some a
  c1 : w.cell? ⟨p, 1, none⟩ = some b
  c2 : w.cell? ⟨p, 2, none⟩ = some c
  c3 : w.cell? ⟨p, 3, none⟩ = some d
  fz : ∀ i, w.frozen? ⟨p, i, none⟩ = false
theorem FourAt.new (w : World) (a b c d : Value) (t : TypeId) : FourAt (w.alloc (.cells #[a, b, c, d] t)) w.heap.size a b c d := by
  have Y := BoxN.start w #[a, b, c, d] t
  exact ⟨Y.cell 0 rfl, Y.cell 1 rfl, Y.cell 2 rfl, Y.cell 3 rfl, frozen_new4 w a b c d t⟩
theorem FourAt.lt {w : World} {p : Nat} {a b c d : Value} (h : FourAt w p a b c d) : p < w.heap.size := World.block_lt_of_cell? w ⟨p, 0, none⟩ h.c0
theorem FourAt.below {w w' : World} {p : Nat} {a b c d : Value} (h : FourAt w p a b c d) (hb : Below w.heap.size w w') : FourAt w' p a b c d :=
  ⟨(hb.cell (p := ⟨p, 0, none⟩) h.lt).trans h.c0, (hb.cell (p := ⟨p, 1, none⟩) h.lt).trans h.c1, (hb.cell (p := ⟨p, 2, none⟩) h.lt).trans h.c2, (hb.cell (p := ⟨p, 3, none⟩) h.lt).trans h.c3, fun i => (hb.frozen (p := ⟨p, i, none⟩) h.lt).trans (h.fz i)⟩
theorem FourAt.only {S : Nat → Prop} {w w' : World} {p : Nat} {a b c d : Value} (h : FourAt w p a b c d) (ho : OnlyIn S w w') (hp : ¬ S p) : FourAt w' p a b c d :=
  have hb := ho.block p hp
  ⟨(World.cell?_of_block (a := ⟨p, 0, none⟩) hb).trans h.c0, (World.cell?_of_block (a := ⟨p, 1, none⟩) hb).trans h.c1, (World.cell?_of_block (a := ⟨p, 2, none⟩) hb).trans h.c2, (World.cell?_of_block (a := ⟨p, 3, none⟩) hb).trans h.c3, fun i => (World.frozen?_of_block (a := ⟨p, i, none⟩) hb).trans (h.fz i)⟩
abbrev put4 (w : World) (p : Nat) (a b c d : Value) : World := (((w.setCell ⟨p, 0, none⟩ a).setCell ⟨p, 1, none⟩ b).setCell ⟨p, 2, none⟩ c).setCell ⟨p, 3, none⟩ d
theorem FourAt.put {w : World} {p : Nat} {a b c d a' b' c' d' : Value} (h : FourAt w p a b c d) : FourAt (put4 w p a' b' c' d') p a' b' c' d' := by
  obtain ⟨h0, h1, h2, h3⟩ := four_told (a := a') (b := b') (c := c') (d := d') h.c0 h.c1 h.c2 h.c3
  exact ⟨h0, h1, h2, h3, fun i => by unfold put4; rw [World.frozen?_setCell, World.frozen?_setCell, World.frozen?_setCell, World.frozen?_setCell]; exact h.fz i⟩
theorem hold_three {P : Program} {md : Region.Mode} {ops : Array Oper} {Q : Exit → Act → World → Prop} {S : World → Prop} {i j l fuel : Nat} {listed : Array Bool} {a : Act} {w : World} (hr : Region.ready md ops listed = [i, j, l])
    (h1 : wpOp P ops Q i (fun a' w' => S w' ∧ wpAnyH P md ops Q S fuel (listed.setIfInBounds i true) a' w') a w) (h2 : wpOp P ops Q j (fun a' w' => S w' ∧ wpAnyH P md ops Q S fuel (listed.setIfInBounds j true) a' w') a w) (h3 : wpOp P ops Q l (fun a' w' => S w' ∧ wpAnyH P md ops Q S fuel (listed.setIfInBounds l true) a' w') a w) : wpAnyH P md ops Q S (fuel + 1) listed a w := by
  refine wpAnyH_all hr (by simp) fun k hk => ?_
  rcases (by simpa using hk : k = i ∨ k = j ∨ k = l) with rfl | rfl | rfl
  · exact h1
  · exact h2
  · exact h3

/-- The glued order as two views tell it, and the glued opposites. -/
def gluedB (m0 m1 : Mx) (V0 V1 : Nat → Int) (x y : Nat) : Bool := viewB m0 V0 x y || viewB m1 V1 x y

set_option maxRecDepth 100000 in
set_option maxHeartbeats 1000000 in
theorem glued_below {w : World} {d0 d1 : LD} {B o0 o1 p8 p9 q0 q1 g0 g1 N c0 c1 : Nat} {y0 y1 : Nat → Nat} {V0 V1 : Nat → Int} (h0 : d0.Is w B y0 o0) (h1 : d1.Is w B y1 o1)
    (x8 : FourAt w p8 d0.u d0.t (.slice (some ⟨q0, 0, none⟩) 2 2) (.slice (some ⟨g0, 0, none⟩) N c0)) (x9 : FourAt w p9 d1.u d1.t (.slice (some ⟨q1, 0, none⟩) 2 2) (.slice (some ⟨g1, 0, none⟩) N c1))
    (r0 : RowAt w w.heap.size (some ⟨g0, 0, none⟩) g0 0 N V0) (r1 : RowAt w w.heap.size (some ⟨g1, 0, none⟩) g1 0 N V1) (hN : N ≤ 1000) (v0 : ∀ c, c < N → V0 c < (d0.m.n : Int)) (v1 : ∀ c, c < N → V1 c < (d1.m.n : Int)) :
    Fun2At w 105 #[] #[.pointer (some ⟨p8, 0, none⟩), .pointer (some ⟨p9, 0, none⟩)] N (gluedB d0.m d1.m V0 V1) := by
  refine ⟨enters_of Try.func105 (by kernel_rfl) rfl, fun W x y hW hx hy => ?_⟩
  show Calls Try.prog 105 #[.int .i64 (x : Int), .int .i64 (y : Int), .pointer (some ⟨p8, 0, none⟩), .pointer (some ⟨p9, 0, none⟩)] W _
  have hs := hW.size
  replace x8 := x8.below hW
  replace x9 := Lib.hid (x9.below hW)
  have R0 : RowAt W W.heap.size (some ⟨g0, 0, none⟩) g0 0 N V0 := ⟨fun c hc => by obtain ⟨a1, a2, a3⟩ := (r0.below hW).row c hc; exact ⟨a1, by omega, a3⟩⟩
  have R1 := Lib.hid (r1.below hW)
  have HA := Lib.hid (view_below (cap := c0) (fa := some ⟨q0, 0, none⟩) (fn := 2) (fc := 2) (h0.step hW) R0 (by omega) v0 hx hy)
  have H1 := Lib.hid (h1.step hW)
  have k0 := x8.c0
  have k1 := x8.c1
  have k2 := x8.c2
  have k3 := x8.c3
  clear h0 h1 x8 r0 r1 R0
  go_enter Try.func105, Try.ntmps105
  go_wp2_with fail
  go_at_call 106
  refine HA.out.mono ?_
  rintro e w1 ⟨rfl, b1⟩
  have hs1 := b1.size
  clear k0 k1 k2 k3
  cases hv : viewB d0.m V0 x y with
  | true =>
    have HR : Hid (gluedB d0.m d1.m V0 V1 x y = true) := by show _ = _; unfold gluedB; rw [hv]; rfl
    clear hv
    go_wp2_with fail
    go_ret
    exact ⟨ret_bool HR.out.symm, b1⟩
  | false =>
    have HR : Hid (gluedB d0.m d1.m V0 V1 x y = viewB d1.m V1 x y) := by show _ = _; unfold gluedB; rw [hv]; rfl
    have X9 := x9.out.below b1
    have k0 := X9.c0
    have k1 := X9.c1
    have k2 := X9.c2
    have k3 := X9.c3
    have R1' : RowAt w1 w1.heap.size (some ⟨g1, 0, none⟩) g1 0 N V1 := ⟨fun c hc => by obtain ⟨a1, a2, a3⟩ := (R1.out.below (b1.mono (by omega))).row c hc; exact ⟨a1, by omega, a3⟩⟩
    have HA1 := Lib.hid (view_below (cap := c1) (fa := some ⟨q1, 0, none⟩) (fn := 2) (fc := 2) (H1.out.step b1) R1' (by omega) v1 hx hy)
    clear hv X9 R1'
    go_wp2_with fail
    go_at_call 106
    refine HA1.out.mono ?_
    rintro e w2 ⟨rfl, b2⟩
    clear k0 k1 k2 k3
    go_wp2_with fail
    go_ret
    exact ⟨ret_bool HR.out.symm, b1.trans (b2.mono hs1)⟩

set_option maxRecDepth 100000 in
set_option maxHeartbeats 1000000 in
theorem glued_not {w : World} {d0 d1 : LD} {B o0 o1 p8 p9 q0 q1 g0 g1 N c0 c1 : Nat} {y0 y1 yv : Nat → Nat} {V0 V1 : Nat → Int} (h0 : d0.Is w B y0 o0) (h1 : d1.Is w B y1 o1)
    (x8 : FourAt w p8 d0.u d0.t (.slice (some ⟨q0, 0, none⟩) 2 2) (.slice (some ⟨g0, 0, none⟩) N c0)) (x9 : FourAt w p9 d1.u d1.t (.slice (some ⟨q1, 0, none⟩) 2 2) (.slice (some ⟨g1, 0, none⟩) N c1))
    (r0 : RowAt w w.heap.size (some ⟨g0, 0, none⟩) g0 0 N V0) (r1 : RowAt w w.heap.size (some ⟨g1, 0, none⟩) g1 0 N V1) (hN : N ≤ 1000) (v0 : ∀ c, c < N → V0 c < (d0.m.n : Int)) (v1 : ∀ c, c < N → V1 c < (d1.m.n : Int))
    (e0 : ∀ x, x < N → 0 ≤ V0 x → viewY y0 V0 N x = (yv x : Int)) (e1 : ∀ x, x < N → ¬ 0 ≤ V0 x → 0 ≤ V1 x ∧ viewY y1 V1 N x = (yv x : Int)) :
    Fun1At w 107 #[] #[.pointer (some ⟨p8, 0, none⟩), .pointer (some ⟨p9, 0, none⟩)] N yv := by
  refine ⟨enters_of Try.func107 (by kernel_rfl) rfl, fun W x hW hx => ?_⟩
  show Calls Try.prog 107 #[.int .i64 (x : Int), .pointer (some ⟨p8, 0, none⟩), .pointer (some ⟨p9, 0, none⟩)] W _
  have hs := hW.size
  replace x8 := x8.below hW
  replace x9 := Lib.hid (x9.below hW)
  have R0 : RowAt W W.heap.size (some ⟨g0, 0, none⟩) g0 0 N V0 := ⟨fun c hc => by obtain ⟨a1, a2, a3⟩ := (r0.below hW).row c hc; exact ⟨a1, by omega, a3⟩⟩
  have HR0 := Lib.hid R0
  have R1 := Lib.hid (r1.below hW)
  have HS := Lib.hid (shows_any (ua := d0.ua) (na := d0.na) (fa := some ⟨q0, 0, none⟩) (n0 := d0.m.n) (c0 := d0.l.cap) (k := d0.k) (nc := d0.nc) (fn := 2) (fc := 2) (cap := c0) R0 (Nat.le_refl _) (by omega) hx)
  have H0 := Lib.hid (h0.step hW)
  have H1 := Lib.hid (h1.step hW)
  have X8 := Lib.hid x8
  have E0 := Lib.hid e0
  have E1 := Lib.hid e1
  have k0 := x8.c0
  have k1 := x8.c1
  have k2 := x8.c2
  have k3 := x8.c3
  clear h0 h1 x8 r0 r1 R0 e0 e1
  go_enter Try.func107, Try.ntmps107
  go_wp2_with fail
  go_at_call 108
  refine HS.out.mono ?_
  rintro e w1 ⟨rfl, b1⟩
  have hs1 := b1.size
  clear k0 k1 k2 k3
  by_cases hv : 0 ≤ V0 x
  · rw [decide_eq_true hv]
    have HY : Hid (viewY y0 V0 N x = (yv x : Int)) := E0.out x hx hv
    have X9 := X8.out.below b1
    have k0 := X9.c0
    have k1 := X9.c1
    have k2 := X9.c2
    have k3 := X9.c3
    have R1' : RowAt w1 w1.heap.size (some ⟨g0, 0, none⟩) g0 0 N V0 := ⟨fun c hc => by obtain ⟨a1, a2, a3⟩ := (HR0.out.below (b1.mono (by omega))).row c hc; exact ⟨a1, by omega, a3⟩⟩
    have HA1 := Lib.hid (view_opp (cap := c0) (fa := some ⟨q0, 0, none⟩) (fn := 2) (fc := 2) (H0.out.step b1) R1' (by omega) (v0 x hx) hx hv)
    clear hv X9 R1'
    go_wp2_with fail
    go_at_call 109
    refine HA1.out.mono ?_
    rintro e w2 ⟨rfl, b2⟩
    clear k0 k1 k2 k3
    go_wp2_with fail
    go_ret
    exact ⟨ret_int HY.out, b1.trans (b2.mono hs1)⟩
  · rw [decide_eq_false hv]
    obtain ⟨hv1, hy1⟩ := E1.out x hx (by omega)
    have HY : Hid (viewY y1 V1 N x = (yv x : Int)) := hy1
    have X9 := x9.out.below b1
    have k0 := X9.c0
    have k1 := X9.c1
    have k2 := X9.c2
    have k3 := X9.c3
    have R1' : RowAt w1 w1.heap.size (some ⟨g1, 0, none⟩) g1 0 N V1 := ⟨fun c hc => by obtain ⟨a1, a2, a3⟩ := (R1.out.below (b1.mono (by omega))).row c hc; exact ⟨a1, by omega, a3⟩⟩
    have HA1 := Lib.hid (view_opp (cap := c1) (fa := some ⟨q1, 0, none⟩) (fn := 2) (fc := 2) (H1.out.step b1) R1' (by omega) (v1 x hx) hx hv1)
    clear hv X9 R1' hv1 hy1
    go_wp2_with fail
    go_at_call 109
    refine HA1.out.mono ?_
    rintro e w2 ⟨rfl, b2⟩
    clear k0 k1 k2 k3
    go_wp2_with fail
    go_ret
    exact ⟨ret_int HY.out, b1.trans (b2.mono hs1)⟩
/-- Spreading, with its numbers told. -/
theorem spread_told {w : World} {d : LD} {B p q0 ahead behind N : Nat} {yy : Nat → Nat} {V : Nat → Int} (hd : d.Is w B yy p) (ha : ahead ≤ 10) (hb : behind ≤ 10) (hN : (spreadL p (yy p) d.m.n ahead behind).length = N) (hV : ∀ c, (spreadL p (yy p) d.m.n ahead behind)[c]?.getD 0 = V c) :
    Calls Try.prog 104 #[.agg #[d.u, d.t, .slice (some ⟨q0, 0, none⟩) 2 2], .int .i64 (ahead : Int), .int .i64 (behind : Int)] w fun e w' => ∃ g cap : Nat, e = .returned (.agg #[d.u, d.t, .slice (some ⟨q0, 0, none⟩) 2 2, .slice (some ⟨g, 0, none⟩) N cap]) ∧ RowAt w' w'.heap.size (some ⟨g, 0, none⟩) g 0 N V ∧ w.heap.size ≤ g ∧ g < w'.heap.size ∧ Below w.heap.size w w' := by
  subst hN
  obtain rfl : (fun c => (spreadL p (yy p) d.m.n ahead behind)[c]?.getD 0) = V := funext hV
  refine (spread_any hd ha hb).mono fun e w' ⟨g, cap, h1, h2, h3, h4⟩ => ⟨g, cap, h1, h2, h3, ?_, h4⟩
  exact (h2.row 0 (by unfold spreadL; simp)).2.1

theorem spread_parts {w : World} {ua na : Option Addr} {l : Lay} {m : Mx} {g0 o0 k nc : Nat} {z : Nat → Int} {B p q0 ahead behind N : Nat} {yy : Nat → Nat} {V : Nat → Int} (hd : (⟨ua, l, m, na, g0, o0, k, nc, z⟩ : LD).Is w B yy p) (ha : ahead ≤ 10) (hb : behind ≤ 10) (hN : (spreadL p (yy p) m.n ahead behind).length = N) (hV : ∀ c, (spreadL p (yy p) m.n ahead behind)[c]?.getD 0 = V c) :
    Calls Try.prog 104 #[.agg #[.slice ua m.n l.cap, .slice na k nc, .slice (some ⟨q0, 0, none⟩) 2 2], .int .i64 (ahead : Int), .int .i64 (behind : Int)] w fun e w' => ∃ g cap : Nat, e = .returned (.agg #[.slice ua m.n l.cap, .slice na k nc, .slice (some ⟨q0, 0, none⟩) 2 2, .slice (some ⟨g, 0, none⟩) N cap]) ∧ RowAt w' w'.heap.size (some ⟨g, 0, none⟩) g 0 N V ∧ w.heap.size ≤ g ∧ g < w'.heap.size ∧ Below w.heap.size w w' :=
  spread_told hd ha hb hN hV

theorem rowUp {w : World} {B g n : Nat} {a : Option Addr} {z : Nat → Int} (h : RowAt w B a g 0 n z) (hB : B ≤ w.heap.size) : RowAt w w.heap.size a g 0 n z :=
  ⟨fun c hc => by obtain ⟨a1, a2, a3⟩ := h.row c hc; exact ⟨a1, by omega, a3⟩⟩
set_option maxRecDepth 100000 in
set_option maxHeartbeats 8000000 in
theorem planGlued_yes {w : World} {ua0 na0 ua1 na1 : Option Addr} {l0 l1 : Lay} {m0 m1 : Mx} {gg0 oo0 kk0 nc0 gg1 oo1 kk1 nc1 : Nat} {zz0 zz1 : Nat → Int} {B base q0 q1 o0 o1 N pp r : Nat} {y0 y1 yv : Nat → Nat} {V0 V1 : Nat → Int} {v numV : Value} (h0 : (⟨ua0, l0, m0, na0, gg0, oo0, kk0, nc0, zz0⟩ : LD).Is w B y0 o0) (h1 : (⟨ua1, l1, m1, na1, gg1, oo1, kk1, nc1, zz1⟩ : LD).Is w B y1 o1)
    (hv : w.ownsRow base 56 3 v 2 [(.slice ua0 m0.n l0.cap), (.slice na0 kk0 nc0), .slice (some ⟨q0, 0, none⟩) 2 2, (.slice ua1 m1.n l1.cap), (.slice na1 kk1 nc1), .slice (some ⟨q1, 0, none⟩) 2 2])
    (ep : pp + 2 = m0.n) (er : r + 2 = m1.n) (eN : N = pp + r + 2)
    (hL0 : (spreadL o0 (y0 o0) m0.n 0 r).length = N) (hV0 : ∀ c, (spreadL o0 (y0 o0) m0.n 0 r)[c]?.getD 0 = V0 c) (hL1 : (spreadL o1 (y1 o1) m1.n pp 0).length = N) (hV1 : ∀ c, (spreadL o1 (y1 o1) m1.n pp 0)[c]?.getD 0 = V1 c)
    (v0 : ∀ c, c < N → V0 c < (m0.n : Int)) (v1 : ∀ c, c < N → V1 c < (m1.n : Int))
    (e0 : ∀ x, x < N → 0 ≤ V0 x → viewY y0 V0 N x = (yv x : Int)) (e1 : ∀ x, x < N → ¬ 0 ≤ V0 x → 0 ≤ V1 x ∧ viewY y1 V1 N x = (yv x : Int)) :
    Calls Try.prog 83 #[numV, v] w (Planned w N (gluedB m0 m1 V0 V1) yv true) := by
  obtain ⟨g, cap, rfl, k0, k1, k2, k3, k4, k5⟩ := parts_two hv
  have gl : g < w.heap.size := World.block_lt_of_cell? w ⟨g, 0, none⟩ k0
  have P0 := ThreeAt.new w (.int .i64 0) .nilFunc .nilFunc 101
  have B0 := (Below.refl w.heap.size w).alloc (Nat.le_refl _) (.cells #[.int .i64 0, .nilFunc, .nilFunc] 101)
  have s0 : w.heap.size < (w.alloc (.cells #[.int .i64 0, .nilFunc, .nilFunc] 101)).heap.size := by simp
  replace k0 := (B0.cell (p := ⟨g, 0, none⟩) gl).trans k0
  replace k1 := (B0.cell (p := ⟨g, 1, none⟩) gl).trans k1
  replace k2 := (B0.cell (p := ⟨g, 2, none⟩) gl).trans k2
  replace k3 := (B0.cell (p := ⟨g, 3, none⟩) gl).trans k3
  replace k4 := (B0.cell (p := ⟨g, 4, none⟩) gl).trans k4
  replace k5 := (B0.cell (p := ⟨g, 5, none⟩) gl).trans k5
  have hi0 : 1 ≤ m0.n ∧ m0.n ≤ 12 := h0.hi
  have hi1 : 1 ≤ m1.n ∧ m1.n ≤ 12 := h1.hi
  have lk0 : kk0 = m0.n := h0.len
  have lk1 : kk1 = m1.n := h1.len
  have H0 := Lib.hid (h0.step B0)
  have H1 := Lib.hid (h1.step B0)
  have HH0 := Lib.hid h0
  have HH1 := Lib.hid h1
  have HL0 := Lib.hid hL0
  have HL1 := Lib.hid hL1
  have HV0 := Lib.hid hV0
  have HV1 := Lib.hid hV1
  have HE0 := Lib.hid e0
  have HE1 := Lib.hid e1
  have hr10 : r ≤ 10 := by omega
  have hp10 : pp ≤ 10 := by omega
  have ea : (kk0 : Int) - 2 = (pp : Int) := by omega
  have eb : (kk1 : Int) - 2 = (r : Int) := by omega
  have LK0 := Lib.hid lk0
  have LK1 := Lib.hid lk1
  have HEN := Lib.hid eN
  clear hv h0 h1 hL0 hL1 hV0 hV1 e0 e1 lk0 lk1 eN
  go_enter Try.func83, Try.ntmps83
  go_upto_region 1 with fail
  generalize w.alloc (.cells #[.int .i64 0, .nilFunc, .nilFunc] 101) = w0 at P0 B0 s0 k0 k1 k2 k3 k4 k5 H0 H1 ⊢
  have gl0 : g < w0.heap.size := by omega
  have KA : Below w0.heap.size w0 w0.drew := (Below.refl _ _).drew
  refine region_plain (fuel := 14) (listed := #[false, false, false, false, false, false, false, false, false, false, false, false, false, false]) (fun W' => Below w0.heap.size w0 W') (by kernel_rfl) (by kernel_rfl) (by kernel_rfl) ?_
  refine hold_take (i := 0) (d := 12) (v := ?vp0) (listed' := #[true, false, false, false, false, false, false, false, false, false, false, false, false, false]) rfl (by kernel_rfl) (by kernel_rfl) (by kernel_rfl) rfl (by rfl) (by kernel_rfl) KA ?hp0 ?rp0
  case hp0 =>
    intro w' hSw
    have hSb : Below w0.heap.size w0 w' := hSw; have z0 := (hSb.cell (p := ⟨g, 0, none⟩) gl0).trans k0; have z1 := (hSb.cell (p := ⟨g, 1, none⟩) gl0).trans k1; have z2 := (hSb.cell (p := ⟨g, 2, none⟩) gl0).trans k2; have z3 := (hSb.cell (p := ⟨g, 3, none⟩) gl0).trans k3; have z4 := (hSb.cell (p := ⟨g, 4, none⟩) gl0).trans k4; have z5 := (hSb.cell (p := ⟨g, 5, none⟩) gl0).trans k5
    go_simp
    try with_reducible rfl
  simp only [List.setIfInBounds_toArray, List.set_cons_zero, List.set_cons_succ]
  refine hold_take (i := 1) (d := 13) (v := ?vp1) (listed' := #[true, true, false, false, false, false, false, false, false, false, false, false, false, false]) rfl (by kernel_rfl) (by kernel_rfl) (by kernel_rfl) rfl (by rfl) (by kernel_rfl) KA ?hp1 ?rp1
  case hp1 =>
    intro w' hSw
    have hSb : Below w0.heap.size w0 w' := hSw; have z0 := (hSb.cell (p := ⟨g, 0, none⟩) gl0).trans k0; have z1 := (hSb.cell (p := ⟨g, 1, none⟩) gl0).trans k1; have z2 := (hSb.cell (p := ⟨g, 2, none⟩) gl0).trans k2; have z3 := (hSb.cell (p := ⟨g, 3, none⟩) gl0).trans k3; have z4 := (hSb.cell (p := ⟨g, 4, none⟩) gl0).trans k4; have z5 := (hSb.cell (p := ⟨g, 5, none⟩) gl0).trans k5
    go_simp
    try with_reducible rfl
  simp only [List.setIfInBounds_toArray, List.set_cons_zero, List.set_cons_succ]
  refine hold_take (i := 2) (d := 14) (v := ?vp2) (listed' := #[true, true, true, false, false, false, false, false, false, false, false, false, false, false]) rfl (by kernel_rfl) (by kernel_rfl) (by kernel_rfl) rfl (by rfl) (by kernel_rfl) KA ?hp2 ?rp2
  case hp2 =>
    intro w' hSw
    have hSb : Below w0.heap.size w0 w' := hSw; have z0 := (hSb.cell (p := ⟨g, 0, none⟩) gl0).trans k0; have z1 := (hSb.cell (p := ⟨g, 1, none⟩) gl0).trans k1; have z2 := (hSb.cell (p := ⟨g, 2, none⟩) gl0).trans k2; have z3 := (hSb.cell (p := ⟨g, 3, none⟩) gl0).trans k3; have z4 := (hSb.cell (p := ⟨g, 4, none⟩) gl0).trans k4; have z5 := (hSb.cell (p := ⟨g, 5, none⟩) gl0).trans k5
    go_simp
    try with_reducible rfl
  simp only [List.setIfInBounds_toArray, List.set_cons_zero, List.set_cons_succ]
  refine hold_take (i := 3) (d := 15) (v := ?vp3) (listed' := #[true, true, true, true, false, false, false, false, false, false, false, false, false, false]) rfl (by kernel_rfl) (by kernel_rfl) (by kernel_rfl) rfl (by rfl) (by kernel_rfl) KA ?hp3 ?rp3
  case hp3 =>
    intro w' hSw
    have hSb : Below w0.heap.size w0 w' := hSw; have z0 := (hSb.cell (p := ⟨g, 0, none⟩) gl0).trans k0; have z1 := (hSb.cell (p := ⟨g, 1, none⟩) gl0).trans k1; have z2 := (hSb.cell (p := ⟨g, 2, none⟩) gl0).trans k2; have z3 := (hSb.cell (p := ⟨g, 3, none⟩) gl0).trans k3; have z4 := (hSb.cell (p := ⟨g, 4, none⟩) gl0).trans k4; have z5 := (hSb.cell (p := ⟨g, 5, none⟩) gl0).trans k5
    go_simp
    try with_reducible rfl
  simp only [List.setIfInBounds_toArray, List.set_cons_zero, List.set_cons_succ]
  refine hold_take (i := 4) (d := 16) (v := ?vp4) (listed' := #[true, true, true, true, true, false, false, false, false, false, false, false, false, false]) rfl (by kernel_rfl) (by kernel_rfl) (by kernel_rfl) rfl (by rfl) (by kernel_rfl) KA ?hp4 ?rp4
  case hp4 =>
    intro w' hSw
    have hSb : Below w0.heap.size w0 w' := hSw; have z0 := (hSb.cell (p := ⟨g, 0, none⟩) gl0).trans k0; have z1 := (hSb.cell (p := ⟨g, 1, none⟩) gl0).trans k1; have z2 := (hSb.cell (p := ⟨g, 2, none⟩) gl0).trans k2; have z3 := (hSb.cell (p := ⟨g, 3, none⟩) gl0).trans k3; have z4 := (hSb.cell (p := ⟨g, 4, none⟩) gl0).trans k4; have z5 := (hSb.cell (p := ⟨g, 5, none⟩) gl0).trans k5
    go_simp
    try with_reducible rfl
  simp only [List.setIfInBounds_toArray, List.set_cons_zero, List.set_cons_succ]
  refine hold_take (i := 5) (d := 17) (v := ?vp5) (listed' := #[true, true, true, true, true, true, false, false, false, false, false, false, false, false]) rfl (by kernel_rfl) (by kernel_rfl) (by kernel_rfl) rfl (by rfl) (by kernel_rfl) KA ?hp5 ?rp5
  case hp5 =>
    intro w' hSw
    have hSb : Below w0.heap.size w0 w' := hSw; have z0 := (hSb.cell (p := ⟨g, 0, none⟩) gl0).trans k0; have z1 := (hSb.cell (p := ⟨g, 1, none⟩) gl0).trans k1; have z2 := (hSb.cell (p := ⟨g, 2, none⟩) gl0).trans k2; have z3 := (hSb.cell (p := ⟨g, 3, none⟩) gl0).trans k3; have z4 := (hSb.cell (p := ⟨g, 4, none⟩) gl0).trans k4; have z5 := (hSb.cell (p := ⟨g, 5, none⟩) gl0).trans k5
    go_simp
    try with_reducible rfl
  simp only [List.setIfInBounds_toArray, List.set_cons_zero, List.set_cons_succ]
  refine hold_take (i := 6) (d := 18) (v := ?vp6) (listed' := #[true, true, true, true, true, true, true, false, false, false, false, false, false, false]) rfl (by kernel_rfl) (by kernel_rfl) (by kernel_rfl) rfl (by rfl) (by kernel_rfl) KA ?hp6 ?rp6
  case hp6 =>
    intro w' hSw
    have hSb : Below w0.heap.size w0 w' := hSw; have z0 := (hSb.cell (p := ⟨g, 0, none⟩) gl0).trans k0; have z1 := (hSb.cell (p := ⟨g, 1, none⟩) gl0).trans k1; have z2 := (hSb.cell (p := ⟨g, 2, none⟩) gl0).trans k2; have z3 := (hSb.cell (p := ⟨g, 3, none⟩) gl0).trans k3; have z4 := (hSb.cell (p := ⟨g, 4, none⟩) gl0).trans k4; have z5 := (hSb.cell (p := ⟨g, 5, none⟩) gl0).trans k5
    go_simp
    try with_reducible rfl
  simp only [List.setIfInBounds_toArray, List.set_cons_zero, List.set_cons_succ]
  refine hold_take (i := 7) (d := 19) (v := ?vp7) (listed' := #[true, true, true, true, true, true, true, true, false, false, false, false, false, false]) rfl (by kernel_rfl) (by kernel_rfl) (by kernel_rfl) rfl (by rfl) (by kernel_rfl) KA ?hp7 ?rp7
  case hp7 =>
    intro w' hSw
    have hSb : Below w0.heap.size w0 w' := hSw; have z0 := (hSb.cell (p := ⟨g, 0, none⟩) gl0).trans k0; have z1 := (hSb.cell (p := ⟨g, 1, none⟩) gl0).trans k1; have z2 := (hSb.cell (p := ⟨g, 2, none⟩) gl0).trans k2; have z3 := (hSb.cell (p := ⟨g, 3, none⟩) gl0).trans k3; have z4 := (hSb.cell (p := ⟨g, 4, none⟩) gl0).trans k4; have z5 := (hSb.cell (p := ⟨g, 5, none⟩) gl0).trans k5
    go_simp
    try with_reducible rfl
  simp only [List.setIfInBounds_toArray, List.set_cons_zero, List.set_cons_succ]
  refine hold_take (i := 8) (d := 20) (v := ?vp8) (listed' := #[true, true, true, true, true, true, true, true, true, false, false, false, false, false]) rfl (by kernel_rfl) (by kernel_rfl) (by kernel_rfl) rfl (by rfl) (by kernel_rfl) KA ?hp8 ?rp8
  case hp8 =>
    intro w' hSw
    have hSb : Below w0.heap.size w0 w' := hSw; have z0 := (hSb.cell (p := ⟨g, 0, none⟩) gl0).trans k0; have z1 := (hSb.cell (p := ⟨g, 1, none⟩) gl0).trans k1; have z2 := (hSb.cell (p := ⟨g, 2, none⟩) gl0).trans k2; have z3 := (hSb.cell (p := ⟨g, 3, none⟩) gl0).trans k3; have z4 := (hSb.cell (p := ⟨g, 4, none⟩) gl0).trans k4; have z5 := (hSb.cell (p := ⟨g, 5, none⟩) gl0).trans k5
    go_simp
    try with_reducible rfl
  simp only [List.setIfInBounds_toArray, List.set_cons_zero, List.set_cons_succ]
  refine hold_take (i := 9) (d := 21) (v := ?vp9) (listed' := #[true, true, true, true, true, true, true, true, true, true, false, false, false, false]) rfl (by kernel_rfl) (by kernel_rfl) (by kernel_rfl) rfl (by rfl) (by kernel_rfl) KA ?hp9 ?rp9
  case hp9 =>
    intro w' hSw
    have hSb : Below w0.heap.size w0 w' := hSw; have z0 := (hSb.cell (p := ⟨g, 0, none⟩) gl0).trans k0; have z1 := (hSb.cell (p := ⟨g, 1, none⟩) gl0).trans k1; have z2 := (hSb.cell (p := ⟨g, 2, none⟩) gl0).trans k2; have z3 := (hSb.cell (p := ⟨g, 3, none⟩) gl0).trans k3; have z4 := (hSb.cell (p := ⟨g, 4, none⟩) gl0).trans k4; have z5 := (hSb.cell (p := ⟨g, 5, none⟩) gl0).trans k5
    go_simp
    try with_reducible rfl
  simp only [List.setIfInBounds_toArray, List.set_cons_zero, List.set_cons_succ]
  refine hold_take (i := 10) (d := 22) (v := ?vp10) (listed' := #[true, true, true, true, true, true, true, true, true, true, true, false, false, false]) rfl (by kernel_rfl) (by kernel_rfl) (by kernel_rfl) rfl (by rfl) (by kernel_rfl) KA ?hp10 ?rp10
  case hp10 =>
    intro w' hSw
    have hSb : Below w0.heap.size w0 w' := hSw; have z0 := (hSb.cell (p := ⟨g, 0, none⟩) gl0).trans k0; have z1 := (hSb.cell (p := ⟨g, 1, none⟩) gl0).trans k1; have z2 := (hSb.cell (p := ⟨g, 2, none⟩) gl0).trans k2; have z3 := (hSb.cell (p := ⟨g, 3, none⟩) gl0).trans k3; have z4 := (hSb.cell (p := ⟨g, 4, none⟩) gl0).trans k4; have z5 := (hSb.cell (p := ⟨g, 5, none⟩) gl0).trans k5
    go_simp
    try with_reducible rfl
  simp only [List.setIfInBounds_toArray, List.set_cons_zero, List.set_cons_succ]
  refine hold_take (i := 11) (d := 23) (v := ?vp11) (listed' := #[true, true, true, true, true, true, true, true, true, true, true, true, false, false]) rfl (by kernel_rfl) (by kernel_rfl) (by kernel_rfl) rfl (by rfl) (by kernel_rfl) KA ?hp11 ?rp11
  case hp11 =>
    intro w' hSw
    have hSb : Below w0.heap.size w0 w' := hSw; have z0 := (hSb.cell (p := ⟨g, 0, none⟩) gl0).trans k0; have z1 := (hSb.cell (p := ⟨g, 1, none⟩) gl0).trans k1; have z2 := (hSb.cell (p := ⟨g, 2, none⟩) gl0).trans k2; have z3 := (hSb.cell (p := ⟨g, 3, none⟩) gl0).trans k3; have z4 := (hSb.cell (p := ⟨g, 4, none⟩) gl0).trans k4; have z5 := (hSb.cell (p := ⟨g, 5, none⟩) gl0).trans k5
    go_simp
    try with_reducible rfl
  simp only [List.setIfInBounds_toArray, List.set_cons_zero, List.set_cons_succ]
  refine hold_take (i := 12) (d := 6) (v := ?vp12) (listed' := #[true, true, true, true, true, true, true, true, true, true, true, true, true, false]) rfl (by kernel_rfl) (by kernel_rfl) (by kernel_rfl) rfl (by rfl) (by kernel_rfl) KA ?hp12 ?rp12
  case hp12 =>
    intro w' hSw
    have hSb : Below w0.heap.size w0 w' := hSw; have z0 := (hSb.cell (p := ⟨g, 0, none⟩) gl0).trans k0; have z1 := (hSb.cell (p := ⟨g, 1, none⟩) gl0).trans k1; have z2 := (hSb.cell (p := ⟨g, 2, none⟩) gl0).trans k2; have z3 := (hSb.cell (p := ⟨g, 3, none⟩) gl0).trans k3; have z4 := (hSb.cell (p := ⟨g, 4, none⟩) gl0).trans k4; have z5 := (hSb.cell (p := ⟨g, 5, none⟩) gl0).trans k5
    go_simp
    try with_reducible rfl
  simp only [List.setIfInBounds_toArray, List.set_cons_zero, List.set_cons_succ]
  refine hold_take (i := 13) (d := 7) (v := ?vp13) (listed' := #[true, true, true, true, true, true, true, true, true, true, true, true, true, true]) rfl (by kernel_rfl) (by kernel_rfl) (by kernel_rfl) rfl (by rfl) (by kernel_rfl) KA ?hp13 ?rp13
  case hp13 =>
    intro w' hSw
    have hSb : Below w0.heap.size w0 w' := hSw; have z0 := (hSb.cell (p := ⟨g, 0, none⟩) gl0).trans k0; have z1 := (hSb.cell (p := ⟨g, 1, none⟩) gl0).trans k1; have z2 := (hSb.cell (p := ⟨g, 2, none⟩) gl0).trans k2; have z3 := (hSb.cell (p := ⟨g, 3, none⟩) gl0).trans k3; have z4 := (hSb.cell (p := ⟨g, 4, none⟩) gl0).trans k4; have z5 := (hSb.cell (p := ⟨g, 5, none⟩) gl0).trans k5
    go_simp
    try with_reducible rfl
  simp only [List.setIfInBounds_toArray, List.set_cons_zero, List.set_cons_succ]
  refine hold_done (by kernel_rfl) ?_ _

  clear KA
  go_upto_region 4 with fail
  go_cut [8, 9] (fun s8 s9 wx => ∃ p8 p9 g0 c0 g1 c1 : Nat, s8 = .pointer (some ⟨p8, 0, none⟩) ∧ s9 = .pointer (some ⟨p9, 0, none⟩) ∧ FourAt wx p8 (.slice ua0 m0.n l0.cap) (.slice na0 kk0 nc0) (.slice (some ⟨q0, 0, none⟩) 2 2) (.slice (some ⟨g0, 0, none⟩) N c0) ∧ FourAt wx p9 (.slice ua1 m1.n l1.cap) (.slice na1 kk1 nc1) (.slice (some ⟨q1, 0, none⟩) 2 2) (.slice (some ⟨g1, 0, none⟩) N c1) ∧ RowAt wx wx.heap.size (some ⟨g0, 0, none⟩) g0 0 N V0 ∧ RowAt wx wx.heap.size (some ⟨g1, 0, none⟩) g1 0 N V1 ∧ Below w0.heap.size w0 wx ∧ w0.heap.size ≤ p8 ∧ w0.heap.size ≤ p9 ∧ w0.heap.size ≤ g0 ∧ w0.heap.size ≤ g1)
  case first =>
    have KA : Below w0.heap.size w0 w0.drew.drew := ((Below.refl _ _).drew).drew
    have sA : w0.heap.size = w0.drew.drew.heap.size := rfl
    refine region_plain (fuel := 14) (listed := #[false, false, false, false, false, false, false, false, false, false, false, false, false, false]) (fun W' => Below w0.heap.size w0 W') (by kernel_rfl) (by kernel_rfl) (by kernel_rfl) ?_
    refine hold_take (i := 0) (d := 31) (v := ?vq0) (listed' := #[true, false, false, false, false, false, false, false, false, false, false, false, false, false]) rfl (by kernel_rfl) (by kernel_rfl) (by kernel_rfl) rfl (by rfl) (by kernel_rfl) KA ?hq0 ?rq0
    case hq0 =>
      intro w' hSw
      have hSb : Below w0.heap.size w0 w' := hSw; have z0 := (hSb.cell (p := ⟨g, 0, none⟩) gl0).trans k0; have z1 := (hSb.cell (p := ⟨g, 1, none⟩) gl0).trans k1; have z2 := (hSb.cell (p := ⟨g, 2, none⟩) gl0).trans k2; have z3 := (hSb.cell (p := ⟨g, 3, none⟩) gl0).trans k3; have z4 := (hSb.cell (p := ⟨g, 4, none⟩) gl0).trans k4; have z5 := (hSb.cell (p := ⟨g, 5, none⟩) gl0).trans k5
      go_simp
      try with_reducible rfl
    simp only [List.setIfInBounds_toArray, List.set_cons_zero, List.set_cons_succ]
    refine hold_take (i := 1) (d := 32) (v := ?vq1) (listed' := #[true, true, false, false, false, false, false, false, false, false, false, false, false, false]) rfl (by kernel_rfl) (by kernel_rfl) (by kernel_rfl) rfl (by rfl) (by kernel_rfl) KA ?hq1 ?rq1
    case hq1 =>
      intro w' hSw
      have hSb : Below w0.heap.size w0 w' := hSw; have z0 := (hSb.cell (p := ⟨g, 0, none⟩) gl0).trans k0; have z1 := (hSb.cell (p := ⟨g, 1, none⟩) gl0).trans k1; have z2 := (hSb.cell (p := ⟨g, 2, none⟩) gl0).trans k2; have z3 := (hSb.cell (p := ⟨g, 3, none⟩) gl0).trans k3; have z4 := (hSb.cell (p := ⟨g, 4, none⟩) gl0).trans k4; have z5 := (hSb.cell (p := ⟨g, 5, none⟩) gl0).trans k5
      go_simp
      try with_reducible rfl
    simp only [List.setIfInBounds_toArray, List.set_cons_zero, List.set_cons_succ]
    refine hold_take (i := 2) (d := 33) (v := ?vq2) (listed' := #[true, true, true, false, false, false, false, false, false, false, false, false, false, false]) rfl (by kernel_rfl) (by kernel_rfl) (by kernel_rfl) rfl (by rfl) (by kernel_rfl) KA ?hq2 ?rq2
    case hq2 =>
      intro w' hSw
      have hSb : Below w0.heap.size w0 w' := hSw; have z0 := (hSb.cell (p := ⟨g, 0, none⟩) gl0).trans k0; have z1 := (hSb.cell (p := ⟨g, 1, none⟩) gl0).trans k1; have z2 := (hSb.cell (p := ⟨g, 2, none⟩) gl0).trans k2; have z3 := (hSb.cell (p := ⟨g, 3, none⟩) gl0).trans k3; have z4 := (hSb.cell (p := ⟨g, 4, none⟩) gl0).trans k4; have z5 := (hSb.cell (p := ⟨g, 5, none⟩) gl0).trans k5
      go_simp
      try with_reducible rfl
    simp only [List.setIfInBounds_toArray, List.set_cons_zero, List.set_cons_succ]
    refine hold_take (i := 3) (d := 34) (v := ?vq3) (listed' := #[true, true, true, true, false, false, false, false, false, false, false, false, false, false]) rfl (by kernel_rfl) (by kernel_rfl) (by kernel_rfl) rfl (by rfl) (by kernel_rfl) KA ?hq3 ?rq3
    case hq3 =>
      intro w' hSw
      have hSb : Below w0.heap.size w0 w' := hSw; have z0 := (hSb.cell (p := ⟨g, 0, none⟩) gl0).trans k0; have z1 := (hSb.cell (p := ⟨g, 1, none⟩) gl0).trans k1; have z2 := (hSb.cell (p := ⟨g, 2, none⟩) gl0).trans k2; have z3 := (hSb.cell (p := ⟨g, 3, none⟩) gl0).trans k3; have z4 := (hSb.cell (p := ⟨g, 4, none⟩) gl0).trans k4; have z5 := (hSb.cell (p := ⟨g, 5, none⟩) gl0).trans k5
      go_simp
      try with_reducible rfl
    simp only [List.setIfInBounds_toArray, List.set_cons_zero, List.set_cons_succ]
    refine hold_take (i := 5) (d := 36) (v := ?vq5) (listed' := #[true, true, true, true, false, true, false, false, false, false, false, false, false, false]) rfl (by kernel_rfl) (by kernel_rfl) (by kernel_rfl) rfl (by rfl) (by kernel_rfl) KA ?hq5 ?rq5
    case hq5 =>
      intro w' hSw
      have hSb : Below w0.heap.size w0 w' := hSw; have z0 := (hSb.cell (p := ⟨g, 0, none⟩) gl0).trans k0; have z1 := (hSb.cell (p := ⟨g, 1, none⟩) gl0).trans k1; have z2 := (hSb.cell (p := ⟨g, 2, none⟩) gl0).trans k2; have z3 := (hSb.cell (p := ⟨g, 3, none⟩) gl0).trans k3; have z4 := (hSb.cell (p := ⟨g, 4, none⟩) gl0).trans k4; have z5 := (hSb.cell (p := ⟨g, 5, none⟩) gl0).trans k5
      go_simp
      try with_reducible rfl
    simp only [List.setIfInBounds_toArray, List.set_cons_zero, List.set_cons_succ]
    refine hold_take (i := 6) (d := 37) (v := ?vq6) (listed' := #[true, true, true, true, false, true, true, false, false, false, false, false, false, false]) rfl (by kernel_rfl) (by kernel_rfl) (by kernel_rfl) rfl (by rfl) (by kernel_rfl) KA ?hq6 ?rq6
    case hq6 =>
      intro w' hSw
      have hSb : Below w0.heap.size w0 w' := hSw; have z0 := (hSb.cell (p := ⟨g, 0, none⟩) gl0).trans k0; have z1 := (hSb.cell (p := ⟨g, 1, none⟩) gl0).trans k1; have z2 := (hSb.cell (p := ⟨g, 2, none⟩) gl0).trans k2; have z3 := (hSb.cell (p := ⟨g, 3, none⟩) gl0).trans k3; have z4 := (hSb.cell (p := ⟨g, 4, none⟩) gl0).trans k4; have z5 := (hSb.cell (p := ⟨g, 5, none⟩) gl0).trans k5
      go_simp
      try with_reducible rfl
    simp only [List.setIfInBounds_toArray, List.set_cons_zero, List.set_cons_succ]
    refine hold_take (i := 7) (d := 38) (v := ?vq7) (listed' := #[true, true, true, true, false, true, true, true, false, false, false, false, false, false]) rfl (by kernel_rfl) (by kernel_rfl) (by kernel_rfl) rfl (by rfl) (by kernel_rfl) KA ?hq7 ?rq7
    case hq7 =>
      intro w' hSw
      have hSb : Below w0.heap.size w0 w' := hSw; have z0 := (hSb.cell (p := ⟨g, 0, none⟩) gl0).trans k0; have z1 := (hSb.cell (p := ⟨g, 1, none⟩) gl0).trans k1; have z2 := (hSb.cell (p := ⟨g, 2, none⟩) gl0).trans k2; have z3 := (hSb.cell (p := ⟨g, 3, none⟩) gl0).trans k3; have z4 := (hSb.cell (p := ⟨g, 4, none⟩) gl0).trans k4; have z5 := (hSb.cell (p := ⟨g, 5, none⟩) gl0).trans k5
      go_simp
      try with_reducible rfl
    simp only [List.setIfInBounds_toArray, List.set_cons_zero, List.set_cons_succ]
    refine hold_take (i := 8) (d := 39) (v := ?vq8) (listed' := #[true, true, true, true, false, true, true, true, true, false, false, false, false, false]) rfl (by kernel_rfl) (by kernel_rfl) (by kernel_rfl) rfl (by rfl) (by kernel_rfl) KA ?hq8 ?rq8
    case hq8 =>
      intro w' hSw
      have hSb : Below w0.heap.size w0 w' := hSw; have z0 := (hSb.cell (p := ⟨g, 0, none⟩) gl0).trans k0; have z1 := (hSb.cell (p := ⟨g, 1, none⟩) gl0).trans k1; have z2 := (hSb.cell (p := ⟨g, 2, none⟩) gl0).trans k2; have z3 := (hSb.cell (p := ⟨g, 3, none⟩) gl0).trans k3; have z4 := (hSb.cell (p := ⟨g, 4, none⟩) gl0).trans k4; have z5 := (hSb.cell (p := ⟨g, 5, none⟩) gl0).trans k5
      go_simp
      try with_reducible rfl
    simp only [List.setIfInBounds_toArray, List.set_cons_zero, List.set_cons_succ]
    clear k0 k1 k2 k3 k4 k5
    generalize w0.drew.drew = wq at KA sA ⊢
    refine hold_three (i := 4) (j := 10) (l := 11) (by kernel_rfl) ?gTn4 ?gTn10 ?gTn11
    case gTn4 =>
      refine opH_call (i := 4) (d := 35) (listed' := #[true, true, true, true, true, true, true, true, true, false, false, false, false, false]) rfl rfl (by rfl) (by kernel_rfl) ?eTa (spread_parts (q0 := q0) (ahead := 0) (behind := r) (H0.out.step KA) (by omega) hr10 HL0.out HV0.out) ?_
      case eTa => go_simp
      rintro e wsTa ⟨g0, c0, rfl, R0, lo0, hi0, b0⟩
      have sTa := b0.size
      have KTa := KA.trans (b0.mono KA.size)
      clear b0
      refine ⟨_, rfl, KTa, ?_⟩
      simp only [List.setIfInBounds_toArray, List.set_cons_zero, List.set_cons_succ]
      refine hold_three (i := 9) (j := 10) (l := 11) (by kernel_rfl) ?gTan9 ?gTan10 ?gTan11
      case gTan9 =>
        refine opH_call (i := 9) (d := 40) (listed' := #[true, true, true, true, true, true, true, true, true, true, false, false, false, false]) rfl rfl (by rfl) (by kernel_rfl) ?eTab (spread_parts (q0 := q1) (ahead := pp) (behind := 0) (H1.out.step KTa) hp10 (by omega) HL1.out HV1.out) ?_
        case eTab => go_simp
        rintro e wsTab ⟨g1, c1, rfl, R1, lo1, hi1, b1⟩
        have sTab := b1.size
        have KTab := KTa.trans (b1.mono KTa.size)
        replace R0 := R0.below (b1.mono (by omega))
        clear b1
        refine ⟨_, rfl, KTab, ?_⟩
        simp only [List.setIfInBounds_toArray, List.set_cons_zero, List.set_cons_succ]
        refine hold_two (i := 10) (j := 11) (by kernel_rfl) ?gTabn10 ?gTabn11
        case gTabn10 =>
          have ba := (Below.refl wsTab.heap.size wsTab).alloc (Nat.le_refl _) (.cells #[.slice none 0 0, .slice none 0 0, .slice none 0 0, .slice none 0 0] 110)
          have KTabc := KTab.trans (ba.mono KTab.size)
          have X8 := FourAt.new wsTab (.slice none 0 0) (.slice none 0 0) (.slice none 0 0) (.slice none 0 0) 110
          refine opH_value (i := 10) (d := 8) (listed' := #[true, true, true, true, true, true, true, true, true, true, true, false, false, false]) rfl rfl (by rfl) (by kernel_rfl) (v := .pointer (some ⟨wsTab.heap.size, 0, none⟩)) (w' := (wsTab.alloc (.cells #[.slice none 0 0, .slice none 0 0, .slice none 0 0, .slice none 0 0] 110))) ?eTabc KTabc ?_
          case eTabc =>
            go_simp
            try with_reducible rfl
          simp only [List.setIfInBounds_toArray, List.set_cons_zero, List.set_cons_succ]
          have sTabc : (wsTab.alloc (.cells #[.slice none 0 0, .slice none 0 0, .slice none 0 0, .slice none 0 0] 110)).heap.size = wsTab.heap.size + 1 := by simp
          replace R0 := R0.below (ba.mono (by omega))
          replace R1 := R1.below (ba.mono (by omega))
          obtain ⟨p8, hp8⟩ : ∃ q, q = wsTab.heap.size := ⟨_, rfl⟩
          rw [← hp8] at X8
          rw [← hp8]
          have hp8a := Nat.le_of_eq hp8
          have hp8b := Nat.le_of_eq hp8.symm
          clear ba hp8
          generalize (wsTab.alloc (.cells #[.slice none 0 0, .slice none 0 0, .slice none 0 0, .slice none 0 0] 110)) = waTabc at KTabc X8 sTabc R0 R1 ⊢
          have ba := (Below.refl waTabc.heap.size waTabc).alloc (Nat.le_refl _) (.cells #[.slice none 0 0, .slice none 0 0, .slice none 0 0, .slice none 0 0] 110)
          have KTabcd := KTabc.trans (ba.mono KTabc.size)
          have X9 := FourAt.new waTabc (.slice none 0 0) (.slice none 0 0) (.slice none 0 0) (.slice none 0 0) 110
          refine hold_value (i := 11) (d := 9) (listed' := #[true, true, true, true, true, true, true, true, true, true, true, true, false, false]) rfl (by kernel_rfl) rfl (by rfl) (by kernel_rfl) (v := .pointer (some ⟨waTabc.heap.size, 0, none⟩)) (w' := (waTabc.alloc (.cells #[.slice none 0 0, .slice none 0 0, .slice none 0 0, .slice none 0 0] 110))) ?eTabcd KTabcd ?_
          case eTabcd =>
            go_simp
            try with_reducible rfl
          simp only [List.setIfInBounds_toArray, List.set_cons_zero, List.set_cons_succ]
          have sTabcd : (waTabc.alloc (.cells #[.slice none 0 0, .slice none 0 0, .slice none 0 0, .slice none 0 0] 110)).heap.size = waTabc.heap.size + 1 := by simp
          replace X8 := X8.below ba
          replace R0 := R0.below (ba.mono (by omega))
          replace R1 := R1.below (ba.mono (by omega))
          obtain ⟨p9, hp9⟩ : ∃ q, q = waTabc.heap.size := ⟨_, rfl⟩
          rw [← hp9] at X9
          rw [← hp9]
          have hp9a := Nat.le_of_eq hp9
          have hp9b := Nat.le_of_eq hp9.symm
          clear ba hp9
          generalize (waTabc.alloc (.cells #[.slice none 0 0, .slice none 0 0, .slice none 0 0, .slice none 0 0] 110)) = waTabcd at KTabcd X9 sTabcd X8 R0 R1 ⊢
          have o8 := four_new (w := waTabcd) (p := p8) (a := (.slice ua0 m0.n l0.cap)) (b := (.slice na0 kk0 nc0)) (c := .slice (some ⟨q0, 0, none⟩) 2 2) (d := .slice (some ⟨g0, 0, none⟩) N c0)
          have Y8 := X8.put (a' := (.slice ua0 m0.n l0.cap)) (b' := (.slice na0 kk0 nc0)) (c' := .slice (some ⟨q0, 0, none⟩) 2 2) (d' := .slice (some ⟨g0, 0, none⟩) N c0)
          have Y9 := X9.only o8 (by show ¬ (_ = _); omega)
          have L8 := o8.below (B := w0.heap.size) fun j hj => by have hj' : j = p8 := hj; omega
          have K8 := KTabcd.trans L8
          have i0 := X8.c0
          have i1 := X8.c1
          have i2 := X8.c2
          have i3 := X8.c3
          have j0 := X8.fz 0
          have j1 := X8.fz 1
          have j2 := X8.fz 2
          have j3 := X8.fz 3
          refine hold_store (i := 12) (w' := (((waTabcd.setCell ⟨p8, 0, none⟩ (.slice ua0 m0.n l0.cap)).setCell ⟨p8, 1, none⟩ (.slice na0 kk0 nc0)).setCell ⟨p8, 2, none⟩ (.slice (some ⟨q0, 0, none⟩) 2 2)).setCell ⟨p8, 3, none⟩ (.slice (some ⟨g0, 0, none⟩) N c0)) (listed' := #[true, true, true, true, true, true, true, true, true, true, true, true, true, false]) rfl (by kernel_rfl) rfl (by rfl) (by kernel_rfl) ?stTabcda K8 ?_
          case stTabcda =>
            go_simp
            try with_reducible rfl
          have o9 := four_new (w := (((waTabcd.setCell ⟨p8, 0, none⟩ (.slice ua0 m0.n l0.cap)).setCell ⟨p8, 1, none⟩ (.slice na0 kk0 nc0)).setCell ⟨p8, 2, none⟩ (.slice (some ⟨q0, 0, none⟩) 2 2)).setCell ⟨p8, 3, none⟩ (.slice (some ⟨g0, 0, none⟩) N c0)) (p := p9) (a := (.slice ua1 m1.n l1.cap)) (b := (.slice na1 kk1 nc1)) (c := .slice (some ⟨q1, 0, none⟩) 2 2) (d := .slice (some ⟨g1, 0, none⟩) N c1)
          have U9 := Y9.put (a' := (.slice ua1 m1.n l1.cap)) (b' := (.slice na1 kk1 nc1)) (c' := .slice (some ⟨q1, 0, none⟩) 2 2) (d' := .slice (some ⟨g1, 0, none⟩) N c1)
          have U8 := Y8.only o9 (by show ¬ (_ = _); omega)
          have L9 := o9.below (B := w0.heap.size) fun j hj => by have hj' : j = p9 := hj; omega
          have K9 := K8.trans L9
          clear i0 i1 i2 i3 j0 j1 j2 j3
          have i0 := Y9.c0
          have i1 := Y9.c1
          have i2 := Y9.c2
          have i3 := Y9.c3
          have j0 := Y9.fz 0
          have j1 := Y9.fz 1
          have j2 := Y9.fz 2
          have j3 := Y9.fz 3
          refine hold_store (i := 13) (w' := (((((((waTabcd.setCell ⟨p8, 0, none⟩ (.slice ua0 m0.n l0.cap)).setCell ⟨p8, 1, none⟩ (.slice na0 kk0 nc0)).setCell ⟨p8, 2, none⟩ (.slice (some ⟨q0, 0, none⟩) 2 2)).setCell ⟨p8, 3, none⟩ (.slice (some ⟨g0, 0, none⟩) N c0)).setCell ⟨p9, 0, none⟩ (.slice ua1 m1.n l1.cap)).setCell ⟨p9, 1, none⟩ (.slice na1 kk1 nc1)).setCell ⟨p9, 2, none⟩ (.slice (some ⟨q1, 0, none⟩) 2 2)).setCell ⟨p9, 3, none⟩ (.slice (some ⟨g1, 0, none⟩) N c1)) (listed' := #[true, true, true, true, true, true, true, true, true, true, true, true, true, true]) rfl (by kernel_rfl) rfl (by rfl) (by kernel_rfl) ?stTabcdb K9 ?_
          case stTabcdb =>
            go_simp
            try with_reducible rfl
          refine hold_done (by kernel_rfl) ?_ _
          have z8 := o8.size
          have z9 := o9.size
          have V0' := Lib.hid (rowUp ((R0.only o8 (by show ¬ (_ = _); omega)).only o9 (by show ¬ (_ = _); omega)) (by omega))
          have V1' := Lib.hid (rowUp ((R1.only o8 (by show ¬ (_ = _); omega)).only o9 (by show ¬ (_ = _); omega)) (by omega))
          have HU8 := Lib.hid U8
          have HU9 := Lib.hid U9
          have HK9 := Lib.hid K9
          clear i0 i1 i2 i3 j0 j1 j2 j3 U8 U9 K9 o8 o9 Y8 Y9 L8 L9 K8 X8 X9 R0 R1
          go_wp2_with fail
          go_meet
          exact ⟨p8, p9, g0, c0, g1, c1, rfl, rfl, HU8.out, HU9.out, V0'.out, V1'.out, HK9.out, by omega, by omega, by omega, by omega⟩
        case gTabn11 =>
          have ba := (Below.refl wsTab.heap.size wsTab).alloc (Nat.le_refl _) (.cells #[.slice none 0 0, .slice none 0 0, .slice none 0 0, .slice none 0 0] 110)
          have KTabd := KTab.trans (ba.mono KTab.size)
          have X9 := FourAt.new wsTab (.slice none 0 0) (.slice none 0 0) (.slice none 0 0) (.slice none 0 0) 110
          refine opH_value (i := 11) (d := 9) (listed' := #[true, true, true, true, true, true, true, true, true, true, false, true, false, false]) rfl rfl (by rfl) (by kernel_rfl) (v := .pointer (some ⟨wsTab.heap.size, 0, none⟩)) (w' := (wsTab.alloc (.cells #[.slice none 0 0, .slice none 0 0, .slice none 0 0, .slice none 0 0] 110))) ?eTabd KTabd ?_
          case eTabd =>
            go_simp
            try with_reducible rfl
          simp only [List.setIfInBounds_toArray, List.set_cons_zero, List.set_cons_succ]
          have sTabd : (wsTab.alloc (.cells #[.slice none 0 0, .slice none 0 0, .slice none 0 0, .slice none 0 0] 110)).heap.size = wsTab.heap.size + 1 := by simp
          replace R0 := R0.below (ba.mono (by omega))
          replace R1 := R1.below (ba.mono (by omega))
          obtain ⟨p9, hp9⟩ : ∃ q, q = wsTab.heap.size := ⟨_, rfl⟩
          rw [← hp9] at X9
          rw [← hp9]
          have hp9a := Nat.le_of_eq hp9
          have hp9b := Nat.le_of_eq hp9.symm
          clear ba hp9
          generalize (wsTab.alloc (.cells #[.slice none 0 0, .slice none 0 0, .slice none 0 0, .slice none 0 0] 110)) = waTabd at KTabd X9 sTabd R0 R1 ⊢
          have ba := (Below.refl waTabd.heap.size waTabd).alloc (Nat.le_refl _) (.cells #[.slice none 0 0, .slice none 0 0, .slice none 0 0, .slice none 0 0] 110)
          have KTabdc := KTabd.trans (ba.mono KTabd.size)
          have X8 := FourAt.new waTabd (.slice none 0 0) (.slice none 0 0) (.slice none 0 0) (.slice none 0 0) 110
          refine hold_value (i := 10) (d := 8) (listed' := #[true, true, true, true, true, true, true, true, true, true, true, true, false, false]) rfl (by kernel_rfl) rfl (by rfl) (by kernel_rfl) (v := .pointer (some ⟨waTabd.heap.size, 0, none⟩)) (w' := (waTabd.alloc (.cells #[.slice none 0 0, .slice none 0 0, .slice none 0 0, .slice none 0 0] 110))) ?eTabdc KTabdc ?_
          case eTabdc =>
            go_simp
            try with_reducible rfl
          simp only [List.setIfInBounds_toArray, List.set_cons_zero, List.set_cons_succ]
          have sTabdc : (waTabd.alloc (.cells #[.slice none 0 0, .slice none 0 0, .slice none 0 0, .slice none 0 0] 110)).heap.size = waTabd.heap.size + 1 := by simp
          replace X9 := X9.below ba
          replace R0 := R0.below (ba.mono (by omega))
          replace R1 := R1.below (ba.mono (by omega))
          obtain ⟨p8, hp8⟩ : ∃ q, q = waTabd.heap.size := ⟨_, rfl⟩
          rw [← hp8] at X8
          rw [← hp8]
          have hp8a := Nat.le_of_eq hp8
          have hp8b := Nat.le_of_eq hp8.symm
          clear ba hp8
          generalize (waTabd.alloc (.cells #[.slice none 0 0, .slice none 0 0, .slice none 0 0, .slice none 0 0] 110)) = waTabdc at KTabdc X8 sTabdc X9 R0 R1 ⊢
          have o8 := four_new (w := waTabdc) (p := p8) (a := (.slice ua0 m0.n l0.cap)) (b := (.slice na0 kk0 nc0)) (c := .slice (some ⟨q0, 0, none⟩) 2 2) (d := .slice (some ⟨g0, 0, none⟩) N c0)
          have Y8 := X8.put (a' := (.slice ua0 m0.n l0.cap)) (b' := (.slice na0 kk0 nc0)) (c' := .slice (some ⟨q0, 0, none⟩) 2 2) (d' := .slice (some ⟨g0, 0, none⟩) N c0)
          have Y9 := X9.only o8 (by show ¬ (_ = _); omega)
          have L8 := o8.below (B := w0.heap.size) fun j hj => by have hj' : j = p8 := hj; omega
          have K8 := KTabdc.trans L8
          have i0 := X8.c0
          have i1 := X8.c1
          have i2 := X8.c2
          have i3 := X8.c3
          have j0 := X8.fz 0
          have j1 := X8.fz 1
          have j2 := X8.fz 2
          have j3 := X8.fz 3
          refine hold_store (i := 12) (w' := (((waTabdc.setCell ⟨p8, 0, none⟩ (.slice ua0 m0.n l0.cap)).setCell ⟨p8, 1, none⟩ (.slice na0 kk0 nc0)).setCell ⟨p8, 2, none⟩ (.slice (some ⟨q0, 0, none⟩) 2 2)).setCell ⟨p8, 3, none⟩ (.slice (some ⟨g0, 0, none⟩) N c0)) (listed' := #[true, true, true, true, true, true, true, true, true, true, true, true, true, false]) rfl (by kernel_rfl) rfl (by rfl) (by kernel_rfl) ?stTabdca K8 ?_
          case stTabdca =>
            go_simp
            try with_reducible rfl
          have o9 := four_new (w := (((waTabdc.setCell ⟨p8, 0, none⟩ (.slice ua0 m0.n l0.cap)).setCell ⟨p8, 1, none⟩ (.slice na0 kk0 nc0)).setCell ⟨p8, 2, none⟩ (.slice (some ⟨q0, 0, none⟩) 2 2)).setCell ⟨p8, 3, none⟩ (.slice (some ⟨g0, 0, none⟩) N c0)) (p := p9) (a := (.slice ua1 m1.n l1.cap)) (b := (.slice na1 kk1 nc1)) (c := .slice (some ⟨q1, 0, none⟩) 2 2) (d := .slice (some ⟨g1, 0, none⟩) N c1)
          have U9 := Y9.put (a' := (.slice ua1 m1.n l1.cap)) (b' := (.slice na1 kk1 nc1)) (c' := .slice (some ⟨q1, 0, none⟩) 2 2) (d' := .slice (some ⟨g1, 0, none⟩) N c1)
          have U8 := Y8.only o9 (by show ¬ (_ = _); omega)
          have L9 := o9.below (B := w0.heap.size) fun j hj => by have hj' : j = p9 := hj; omega
          have K9 := K8.trans L9
          clear i0 i1 i2 i3 j0 j1 j2 j3
          have i0 := Y9.c0
          have i1 := Y9.c1
          have i2 := Y9.c2
          have i3 := Y9.c3
          have j0 := Y9.fz 0
          have j1 := Y9.fz 1
          have j2 := Y9.fz 2
          have j3 := Y9.fz 3
          refine hold_store (i := 13) (w' := (((((((waTabdc.setCell ⟨p8, 0, none⟩ (.slice ua0 m0.n l0.cap)).setCell ⟨p8, 1, none⟩ (.slice na0 kk0 nc0)).setCell ⟨p8, 2, none⟩ (.slice (some ⟨q0, 0, none⟩) 2 2)).setCell ⟨p8, 3, none⟩ (.slice (some ⟨g0, 0, none⟩) N c0)).setCell ⟨p9, 0, none⟩ (.slice ua1 m1.n l1.cap)).setCell ⟨p9, 1, none⟩ (.slice na1 kk1 nc1)).setCell ⟨p9, 2, none⟩ (.slice (some ⟨q1, 0, none⟩) 2 2)).setCell ⟨p9, 3, none⟩ (.slice (some ⟨g1, 0, none⟩) N c1)) (listed' := #[true, true, true, true, true, true, true, true, true, true, true, true, true, true]) rfl (by kernel_rfl) rfl (by rfl) (by kernel_rfl) ?stTabdcb K9 ?_
          case stTabdcb =>
            go_simp
            try with_reducible rfl
          refine hold_done (by kernel_rfl) ?_ _
          have z8 := o8.size
          have z9 := o9.size
          have V0' := Lib.hid (rowUp ((R0.only o8 (by show ¬ (_ = _); omega)).only o9 (by show ¬ (_ = _); omega)) (by omega))
          have V1' := Lib.hid (rowUp ((R1.only o8 (by show ¬ (_ = _); omega)).only o9 (by show ¬ (_ = _); omega)) (by omega))
          have HU8 := Lib.hid U8
          have HU9 := Lib.hid U9
          have HK9 := Lib.hid K9
          clear i0 i1 i2 i3 j0 j1 j2 j3 U8 U9 K9 o8 o9 Y8 Y9 L8 L9 K8 X8 X9 R0 R1
          go_wp2_with fail
          go_meet
          exact ⟨p8, p9, g0, c0, g1, c1, rfl, rfl, HU8.out, HU9.out, V0'.out, V1'.out, HK9.out, by omega, by omega, by omega, by omega⟩
      case gTan10 =>
        have ba := (Below.refl wsTa.heap.size wsTa).alloc (Nat.le_refl _) (.cells #[.slice none 0 0, .slice none 0 0, .slice none 0 0, .slice none 0 0] 110)
        have KTac := KTa.trans (ba.mono KTa.size)
        have X8 := FourAt.new wsTa (.slice none 0 0) (.slice none 0 0) (.slice none 0 0) (.slice none 0 0) 110
        refine opH_value (i := 10) (d := 8) (listed' := #[true, true, true, true, true, true, true, true, true, false, true, false, false, false]) rfl rfl (by rfl) (by kernel_rfl) (v := .pointer (some ⟨wsTa.heap.size, 0, none⟩)) (w' := (wsTa.alloc (.cells #[.slice none 0 0, .slice none 0 0, .slice none 0 0, .slice none 0 0] 110))) ?eTac KTac ?_
        case eTac =>
          go_simp
          try with_reducible rfl
        simp only [List.setIfInBounds_toArray, List.set_cons_zero, List.set_cons_succ]
        have sTac : (wsTa.alloc (.cells #[.slice none 0 0, .slice none 0 0, .slice none 0 0, .slice none 0 0] 110)).heap.size = wsTa.heap.size + 1 := by simp
        replace R0 := R0.below (ba.mono (by omega))
        obtain ⟨p8, hp8⟩ : ∃ q, q = wsTa.heap.size := ⟨_, rfl⟩
        rw [← hp8] at X8
        rw [← hp8]
        have hp8a := Nat.le_of_eq hp8
        have hp8b := Nat.le_of_eq hp8.symm
        clear ba hp8
        generalize (wsTa.alloc (.cells #[.slice none 0 0, .slice none 0 0, .slice none 0 0, .slice none 0 0] 110)) = waTac at KTac X8 sTac R0 ⊢
        refine hold_two (i := 9) (j := 11) (by kernel_rfl) ?gTacn9 ?gTacn11
        case gTacn9 =>
          refine opH_call (i := 9) (d := 40) (listed' := #[true, true, true, true, true, true, true, true, true, true, true, false, false, false]) rfl rfl (by rfl) (by kernel_rfl) ?eTacb (spread_parts (q0 := q1) (ahead := pp) (behind := 0) (H1.out.step KTac) hp10 (by omega) HL1.out HV1.out) ?_
          case eTacb => go_simp
          rintro e wsTacb ⟨g1, c1, rfl, R1, lo1, hi1, b1⟩
          have sTacb := b1.size
          have KTacb := KTac.trans (b1.mono KTac.size)
          replace X8 := X8.below b1
          replace R0 := R0.below (b1.mono (by omega))
          clear b1
          refine ⟨_, rfl, KTacb, ?_⟩
          simp only [List.setIfInBounds_toArray, List.set_cons_zero, List.set_cons_succ]
          have ba := (Below.refl wsTacb.heap.size wsTacb).alloc (Nat.le_refl _) (.cells #[.slice none 0 0, .slice none 0 0, .slice none 0 0, .slice none 0 0] 110)
          have KTacbd := KTacb.trans (ba.mono KTacb.size)
          have X9 := FourAt.new wsTacb (.slice none 0 0) (.slice none 0 0) (.slice none 0 0) (.slice none 0 0) 110
          refine hold_value (i := 11) (d := 9) (listed' := #[true, true, true, true, true, true, true, true, true, true, true, true, false, false]) rfl (by kernel_rfl) rfl (by rfl) (by kernel_rfl) (v := .pointer (some ⟨wsTacb.heap.size, 0, none⟩)) (w' := (wsTacb.alloc (.cells #[.slice none 0 0, .slice none 0 0, .slice none 0 0, .slice none 0 0] 110))) ?eTacbd KTacbd ?_
          case eTacbd =>
            go_simp
            try with_reducible rfl
          simp only [List.setIfInBounds_toArray, List.set_cons_zero, List.set_cons_succ]
          have sTacbd : (wsTacb.alloc (.cells #[.slice none 0 0, .slice none 0 0, .slice none 0 0, .slice none 0 0] 110)).heap.size = wsTacb.heap.size + 1 := by simp
          replace X8 := X8.below ba
          replace R0 := R0.below (ba.mono (by omega))
          replace R1 := R1.below (ba.mono (by omega))
          obtain ⟨p9, hp9⟩ : ∃ q, q = wsTacb.heap.size := ⟨_, rfl⟩
          rw [← hp9] at X9
          rw [← hp9]
          have hp9a := Nat.le_of_eq hp9
          have hp9b := Nat.le_of_eq hp9.symm
          clear ba hp9
          generalize (wsTacb.alloc (.cells #[.slice none 0 0, .slice none 0 0, .slice none 0 0, .slice none 0 0] 110)) = waTacbd at KTacbd X9 sTacbd X8 R0 R1 ⊢
          have o8 := four_new (w := waTacbd) (p := p8) (a := (.slice ua0 m0.n l0.cap)) (b := (.slice na0 kk0 nc0)) (c := .slice (some ⟨q0, 0, none⟩) 2 2) (d := .slice (some ⟨g0, 0, none⟩) N c0)
          have Y8 := X8.put (a' := (.slice ua0 m0.n l0.cap)) (b' := (.slice na0 kk0 nc0)) (c' := .slice (some ⟨q0, 0, none⟩) 2 2) (d' := .slice (some ⟨g0, 0, none⟩) N c0)
          have Y9 := X9.only o8 (by show ¬ (_ = _); omega)
          have L8 := o8.below (B := w0.heap.size) fun j hj => by have hj' : j = p8 := hj; omega
          have K8 := KTacbd.trans L8
          have i0 := X8.c0
          have i1 := X8.c1
          have i2 := X8.c2
          have i3 := X8.c3
          have j0 := X8.fz 0
          have j1 := X8.fz 1
          have j2 := X8.fz 2
          have j3 := X8.fz 3
          refine hold_store (i := 12) (w' := (((waTacbd.setCell ⟨p8, 0, none⟩ (.slice ua0 m0.n l0.cap)).setCell ⟨p8, 1, none⟩ (.slice na0 kk0 nc0)).setCell ⟨p8, 2, none⟩ (.slice (some ⟨q0, 0, none⟩) 2 2)).setCell ⟨p8, 3, none⟩ (.slice (some ⟨g0, 0, none⟩) N c0)) (listed' := #[true, true, true, true, true, true, true, true, true, true, true, true, true, false]) rfl (by kernel_rfl) rfl (by rfl) (by kernel_rfl) ?stTacbda K8 ?_
          case stTacbda =>
            go_simp
            try with_reducible rfl
          have o9 := four_new (w := (((waTacbd.setCell ⟨p8, 0, none⟩ (.slice ua0 m0.n l0.cap)).setCell ⟨p8, 1, none⟩ (.slice na0 kk0 nc0)).setCell ⟨p8, 2, none⟩ (.slice (some ⟨q0, 0, none⟩) 2 2)).setCell ⟨p8, 3, none⟩ (.slice (some ⟨g0, 0, none⟩) N c0)) (p := p9) (a := (.slice ua1 m1.n l1.cap)) (b := (.slice na1 kk1 nc1)) (c := .slice (some ⟨q1, 0, none⟩) 2 2) (d := .slice (some ⟨g1, 0, none⟩) N c1)
          have U9 := Y9.put (a' := (.slice ua1 m1.n l1.cap)) (b' := (.slice na1 kk1 nc1)) (c' := .slice (some ⟨q1, 0, none⟩) 2 2) (d' := .slice (some ⟨g1, 0, none⟩) N c1)
          have U8 := Y8.only o9 (by show ¬ (_ = _); omega)
          have L9 := o9.below (B := w0.heap.size) fun j hj => by have hj' : j = p9 := hj; omega
          have K9 := K8.trans L9
          clear i0 i1 i2 i3 j0 j1 j2 j3
          have i0 := Y9.c0
          have i1 := Y9.c1
          have i2 := Y9.c2
          have i3 := Y9.c3
          have j0 := Y9.fz 0
          have j1 := Y9.fz 1
          have j2 := Y9.fz 2
          have j3 := Y9.fz 3
          refine hold_store (i := 13) (w' := (((((((waTacbd.setCell ⟨p8, 0, none⟩ (.slice ua0 m0.n l0.cap)).setCell ⟨p8, 1, none⟩ (.slice na0 kk0 nc0)).setCell ⟨p8, 2, none⟩ (.slice (some ⟨q0, 0, none⟩) 2 2)).setCell ⟨p8, 3, none⟩ (.slice (some ⟨g0, 0, none⟩) N c0)).setCell ⟨p9, 0, none⟩ (.slice ua1 m1.n l1.cap)).setCell ⟨p9, 1, none⟩ (.slice na1 kk1 nc1)).setCell ⟨p9, 2, none⟩ (.slice (some ⟨q1, 0, none⟩) 2 2)).setCell ⟨p9, 3, none⟩ (.slice (some ⟨g1, 0, none⟩) N c1)) (listed' := #[true, true, true, true, true, true, true, true, true, true, true, true, true, true]) rfl (by kernel_rfl) rfl (by rfl) (by kernel_rfl) ?stTacbdb K9 ?_
          case stTacbdb =>
            go_simp
            try with_reducible rfl
          refine hold_done (by kernel_rfl) ?_ _
          have z8 := o8.size
          have z9 := o9.size
          have V0' := Lib.hid (rowUp ((R0.only o8 (by show ¬ (_ = _); omega)).only o9 (by show ¬ (_ = _); omega)) (by omega))
          have V1' := Lib.hid (rowUp ((R1.only o8 (by show ¬ (_ = _); omega)).only o9 (by show ¬ (_ = _); omega)) (by omega))
          have HU8 := Lib.hid U8
          have HU9 := Lib.hid U9
          have HK9 := Lib.hid K9
          clear i0 i1 i2 i3 j0 j1 j2 j3 U8 U9 K9 o8 o9 Y8 Y9 L8 L9 K8 X8 X9 R0 R1
          go_wp2_with fail
          go_meet
          exact ⟨p8, p9, g0, c0, g1, c1, rfl, rfl, HU8.out, HU9.out, V0'.out, V1'.out, HK9.out, by omega, by omega, by omega, by omega⟩
        case gTacn11 =>
          have ba := (Below.refl waTac.heap.size waTac).alloc (Nat.le_refl _) (.cells #[.slice none 0 0, .slice none 0 0, .slice none 0 0, .slice none 0 0] 110)
          have KTacd := KTac.trans (ba.mono KTac.size)
          have X9 := FourAt.new waTac (.slice none 0 0) (.slice none 0 0) (.slice none 0 0) (.slice none 0 0) 110
          refine opH_value (i := 11) (d := 9) (listed' := #[true, true, true, true, true, true, true, true, true, false, true, true, false, false]) rfl rfl (by rfl) (by kernel_rfl) (v := .pointer (some ⟨waTac.heap.size, 0, none⟩)) (w' := (waTac.alloc (.cells #[.slice none 0 0, .slice none 0 0, .slice none 0 0, .slice none 0 0] 110))) ?eTacd KTacd ?_
          case eTacd =>
            go_simp
            try with_reducible rfl
          simp only [List.setIfInBounds_toArray, List.set_cons_zero, List.set_cons_succ]
          have sTacd : (waTac.alloc (.cells #[.slice none 0 0, .slice none 0 0, .slice none 0 0, .slice none 0 0] 110)).heap.size = waTac.heap.size + 1 := by simp
          replace X8 := X8.below ba
          replace R0 := R0.below (ba.mono (by omega))
          obtain ⟨p9, hp9⟩ : ∃ q, q = waTac.heap.size := ⟨_, rfl⟩
          rw [← hp9] at X9
          rw [← hp9]
          have hp9a := Nat.le_of_eq hp9
          have hp9b := Nat.le_of_eq hp9.symm
          clear ba hp9
          generalize (waTac.alloc (.cells #[.slice none 0 0, .slice none 0 0, .slice none 0 0, .slice none 0 0] 110)) = waTacd at KTacd X9 sTacd X8 R0 ⊢
          refine hold_call (i := 9) (d := 40) (listed' := #[true, true, true, true, true, true, true, true, true, true, true, true, false, false]) rfl (by kernel_rfl) rfl (by rfl) (by kernel_rfl) ?eTacdb (spread_parts (q0 := q1) (ahead := pp) (behind := 0) (H1.out.step KTacd) hp10 (by omega) HL1.out HV1.out) ?_
          case eTacdb => go_simp
          rintro e wsTacdb ⟨g1, c1, rfl, R1, lo1, hi1, b1⟩
          have sTacdb := b1.size
          have KTacdb := KTacd.trans (b1.mono KTacd.size)
          replace X8 := X8.below b1
          replace X9 := X9.below b1
          replace R0 := R0.below (b1.mono (by omega))
          clear b1
          refine ⟨_, rfl, KTacdb, ?_⟩
          simp only [List.setIfInBounds_toArray, List.set_cons_zero, List.set_cons_succ]
          have o8 := four_new (w := wsTacdb) (p := p8) (a := (.slice ua0 m0.n l0.cap)) (b := (.slice na0 kk0 nc0)) (c := .slice (some ⟨q0, 0, none⟩) 2 2) (d := .slice (some ⟨g0, 0, none⟩) N c0)
          have Y8 := X8.put (a' := (.slice ua0 m0.n l0.cap)) (b' := (.slice na0 kk0 nc0)) (c' := .slice (some ⟨q0, 0, none⟩) 2 2) (d' := .slice (some ⟨g0, 0, none⟩) N c0)
          have Y9 := X9.only o8 (by show ¬ (_ = _); omega)
          have L8 := o8.below (B := w0.heap.size) fun j hj => by have hj' : j = p8 := hj; omega
          have K8 := KTacdb.trans L8
          have i0 := X8.c0
          have i1 := X8.c1
          have i2 := X8.c2
          have i3 := X8.c3
          have j0 := X8.fz 0
          have j1 := X8.fz 1
          have j2 := X8.fz 2
          have j3 := X8.fz 3
          refine hold_store (i := 12) (w' := (((wsTacdb.setCell ⟨p8, 0, none⟩ (.slice ua0 m0.n l0.cap)).setCell ⟨p8, 1, none⟩ (.slice na0 kk0 nc0)).setCell ⟨p8, 2, none⟩ (.slice (some ⟨q0, 0, none⟩) 2 2)).setCell ⟨p8, 3, none⟩ (.slice (some ⟨g0, 0, none⟩) N c0)) (listed' := #[true, true, true, true, true, true, true, true, true, true, true, true, true, false]) rfl (by kernel_rfl) rfl (by rfl) (by kernel_rfl) ?stTacdba K8 ?_
          case stTacdba =>
            go_simp
            try with_reducible rfl
          have o9 := four_new (w := (((wsTacdb.setCell ⟨p8, 0, none⟩ (.slice ua0 m0.n l0.cap)).setCell ⟨p8, 1, none⟩ (.slice na0 kk0 nc0)).setCell ⟨p8, 2, none⟩ (.slice (some ⟨q0, 0, none⟩) 2 2)).setCell ⟨p8, 3, none⟩ (.slice (some ⟨g0, 0, none⟩) N c0)) (p := p9) (a := (.slice ua1 m1.n l1.cap)) (b := (.slice na1 kk1 nc1)) (c := .slice (some ⟨q1, 0, none⟩) 2 2) (d := .slice (some ⟨g1, 0, none⟩) N c1)
          have U9 := Y9.put (a' := (.slice ua1 m1.n l1.cap)) (b' := (.slice na1 kk1 nc1)) (c' := .slice (some ⟨q1, 0, none⟩) 2 2) (d' := .slice (some ⟨g1, 0, none⟩) N c1)
          have U8 := Y8.only o9 (by show ¬ (_ = _); omega)
          have L9 := o9.below (B := w0.heap.size) fun j hj => by have hj' : j = p9 := hj; omega
          have K9 := K8.trans L9
          clear i0 i1 i2 i3 j0 j1 j2 j3
          have i0 := Y9.c0
          have i1 := Y9.c1
          have i2 := Y9.c2
          have i3 := Y9.c3
          have j0 := Y9.fz 0
          have j1 := Y9.fz 1
          have j2 := Y9.fz 2
          have j3 := Y9.fz 3
          refine hold_store (i := 13) (w' := (((((((wsTacdb.setCell ⟨p8, 0, none⟩ (.slice ua0 m0.n l0.cap)).setCell ⟨p8, 1, none⟩ (.slice na0 kk0 nc0)).setCell ⟨p8, 2, none⟩ (.slice (some ⟨q0, 0, none⟩) 2 2)).setCell ⟨p8, 3, none⟩ (.slice (some ⟨g0, 0, none⟩) N c0)).setCell ⟨p9, 0, none⟩ (.slice ua1 m1.n l1.cap)).setCell ⟨p9, 1, none⟩ (.slice na1 kk1 nc1)).setCell ⟨p9, 2, none⟩ (.slice (some ⟨q1, 0, none⟩) 2 2)).setCell ⟨p9, 3, none⟩ (.slice (some ⟨g1, 0, none⟩) N c1)) (listed' := #[true, true, true, true, true, true, true, true, true, true, true, true, true, true]) rfl (by kernel_rfl) rfl (by rfl) (by kernel_rfl) ?stTacdbb K9 ?_
          case stTacdbb =>
            go_simp
            try with_reducible rfl
          refine hold_done (by kernel_rfl) ?_ _
          have z8 := o8.size
          have z9 := o9.size
          have V0' := Lib.hid (rowUp ((R0.only o8 (by show ¬ (_ = _); omega)).only o9 (by show ¬ (_ = _); omega)) (by omega))
          have V1' := Lib.hid (rowUp ((R1.only o8 (by show ¬ (_ = _); omega)).only o9 (by show ¬ (_ = _); omega)) (by omega))
          have HU8 := Lib.hid U8
          have HU9 := Lib.hid U9
          have HK9 := Lib.hid K9
          clear i0 i1 i2 i3 j0 j1 j2 j3 U8 U9 K9 o8 o9 Y8 Y9 L8 L9 K8 X8 X9 R0 R1
          go_wp2_with fail
          go_meet
          exact ⟨p8, p9, g0, c0, g1, c1, rfl, rfl, HU8.out, HU9.out, V0'.out, V1'.out, HK9.out, by omega, by omega, by omega, by omega⟩
      case gTan11 =>
        have ba := (Below.refl wsTa.heap.size wsTa).alloc (Nat.le_refl _) (.cells #[.slice none 0 0, .slice none 0 0, .slice none 0 0, .slice none 0 0] 110)
        have KTad := KTa.trans (ba.mono KTa.size)
        have X9 := FourAt.new wsTa (.slice none 0 0) (.slice none 0 0) (.slice none 0 0) (.slice none 0 0) 110
        refine opH_value (i := 11) (d := 9) (listed' := #[true, true, true, true, true, true, true, true, true, false, false, true, false, false]) rfl rfl (by rfl) (by kernel_rfl) (v := .pointer (some ⟨wsTa.heap.size, 0, none⟩)) (w' := (wsTa.alloc (.cells #[.slice none 0 0, .slice none 0 0, .slice none 0 0, .slice none 0 0] 110))) ?eTad KTad ?_
        case eTad =>
          go_simp
          try with_reducible rfl
        simp only [List.setIfInBounds_toArray, List.set_cons_zero, List.set_cons_succ]
        have sTad : (wsTa.alloc (.cells #[.slice none 0 0, .slice none 0 0, .slice none 0 0, .slice none 0 0] 110)).heap.size = wsTa.heap.size + 1 := by simp
        replace R0 := R0.below (ba.mono (by omega))
        obtain ⟨p9, hp9⟩ : ∃ q, q = wsTa.heap.size := ⟨_, rfl⟩
        rw [← hp9] at X9
        rw [← hp9]
        have hp9a := Nat.le_of_eq hp9
        have hp9b := Nat.le_of_eq hp9.symm
        clear ba hp9
        generalize (wsTa.alloc (.cells #[.slice none 0 0, .slice none 0 0, .slice none 0 0, .slice none 0 0] 110)) = waTad at KTad X9 sTad R0 ⊢
        refine hold_two (i := 9) (j := 10) (by kernel_rfl) ?gTadn9 ?gTadn10
        case gTadn9 =>
          refine opH_call (i := 9) (d := 40) (listed' := #[true, true, true, true, true, true, true, true, true, true, false, true, false, false]) rfl rfl (by rfl) (by kernel_rfl) ?eTadb (spread_parts (q0 := q1) (ahead := pp) (behind := 0) (H1.out.step KTad) hp10 (by omega) HL1.out HV1.out) ?_
          case eTadb => go_simp
          rintro e wsTadb ⟨g1, c1, rfl, R1, lo1, hi1, b1⟩
          have sTadb := b1.size
          have KTadb := KTad.trans (b1.mono KTad.size)
          replace X9 := X9.below b1
          replace R0 := R0.below (b1.mono (by omega))
          clear b1
          refine ⟨_, rfl, KTadb, ?_⟩
          simp only [List.setIfInBounds_toArray, List.set_cons_zero, List.set_cons_succ]
          have ba := (Below.refl wsTadb.heap.size wsTadb).alloc (Nat.le_refl _) (.cells #[.slice none 0 0, .slice none 0 0, .slice none 0 0, .slice none 0 0] 110)
          have KTadbc := KTadb.trans (ba.mono KTadb.size)
          have X8 := FourAt.new wsTadb (.slice none 0 0) (.slice none 0 0) (.slice none 0 0) (.slice none 0 0) 110
          refine hold_value (i := 10) (d := 8) (listed' := #[true, true, true, true, true, true, true, true, true, true, true, true, false, false]) rfl (by kernel_rfl) rfl (by rfl) (by kernel_rfl) (v := .pointer (some ⟨wsTadb.heap.size, 0, none⟩)) (w' := (wsTadb.alloc (.cells #[.slice none 0 0, .slice none 0 0, .slice none 0 0, .slice none 0 0] 110))) ?eTadbc KTadbc ?_
          case eTadbc =>
            go_simp
            try with_reducible rfl
          simp only [List.setIfInBounds_toArray, List.set_cons_zero, List.set_cons_succ]
          have sTadbc : (wsTadb.alloc (.cells #[.slice none 0 0, .slice none 0 0, .slice none 0 0, .slice none 0 0] 110)).heap.size = wsTadb.heap.size + 1 := by simp
          replace X9 := X9.below ba
          replace R0 := R0.below (ba.mono (by omega))
          replace R1 := R1.below (ba.mono (by omega))
          obtain ⟨p8, hp8⟩ : ∃ q, q = wsTadb.heap.size := ⟨_, rfl⟩
          rw [← hp8] at X8
          rw [← hp8]
          have hp8a := Nat.le_of_eq hp8
          have hp8b := Nat.le_of_eq hp8.symm
          clear ba hp8
          generalize (wsTadb.alloc (.cells #[.slice none 0 0, .slice none 0 0, .slice none 0 0, .slice none 0 0] 110)) = waTadbc at KTadbc X8 sTadbc X9 R0 R1 ⊢
          have o8 := four_new (w := waTadbc) (p := p8) (a := (.slice ua0 m0.n l0.cap)) (b := (.slice na0 kk0 nc0)) (c := .slice (some ⟨q0, 0, none⟩) 2 2) (d := .slice (some ⟨g0, 0, none⟩) N c0)
          have Y8 := X8.put (a' := (.slice ua0 m0.n l0.cap)) (b' := (.slice na0 kk0 nc0)) (c' := .slice (some ⟨q0, 0, none⟩) 2 2) (d' := .slice (some ⟨g0, 0, none⟩) N c0)
          have Y9 := X9.only o8 (by show ¬ (_ = _); omega)
          have L8 := o8.below (B := w0.heap.size) fun j hj => by have hj' : j = p8 := hj; omega
          have K8 := KTadbc.trans L8
          have i0 := X8.c0
          have i1 := X8.c1
          have i2 := X8.c2
          have i3 := X8.c3
          have j0 := X8.fz 0
          have j1 := X8.fz 1
          have j2 := X8.fz 2
          have j3 := X8.fz 3
          refine hold_store (i := 12) (w' := (((waTadbc.setCell ⟨p8, 0, none⟩ (.slice ua0 m0.n l0.cap)).setCell ⟨p8, 1, none⟩ (.slice na0 kk0 nc0)).setCell ⟨p8, 2, none⟩ (.slice (some ⟨q0, 0, none⟩) 2 2)).setCell ⟨p8, 3, none⟩ (.slice (some ⟨g0, 0, none⟩) N c0)) (listed' := #[true, true, true, true, true, true, true, true, true, true, true, true, true, false]) rfl (by kernel_rfl) rfl (by rfl) (by kernel_rfl) ?stTadbca K8 ?_
          case stTadbca =>
            go_simp
            try with_reducible rfl
          have o9 := four_new (w := (((waTadbc.setCell ⟨p8, 0, none⟩ (.slice ua0 m0.n l0.cap)).setCell ⟨p8, 1, none⟩ (.slice na0 kk0 nc0)).setCell ⟨p8, 2, none⟩ (.slice (some ⟨q0, 0, none⟩) 2 2)).setCell ⟨p8, 3, none⟩ (.slice (some ⟨g0, 0, none⟩) N c0)) (p := p9) (a := (.slice ua1 m1.n l1.cap)) (b := (.slice na1 kk1 nc1)) (c := .slice (some ⟨q1, 0, none⟩) 2 2) (d := .slice (some ⟨g1, 0, none⟩) N c1)
          have U9 := Y9.put (a' := (.slice ua1 m1.n l1.cap)) (b' := (.slice na1 kk1 nc1)) (c' := .slice (some ⟨q1, 0, none⟩) 2 2) (d' := .slice (some ⟨g1, 0, none⟩) N c1)
          have U8 := Y8.only o9 (by show ¬ (_ = _); omega)
          have L9 := o9.below (B := w0.heap.size) fun j hj => by have hj' : j = p9 := hj; omega
          have K9 := K8.trans L9
          clear i0 i1 i2 i3 j0 j1 j2 j3
          have i0 := Y9.c0
          have i1 := Y9.c1
          have i2 := Y9.c2
          have i3 := Y9.c3
          have j0 := Y9.fz 0
          have j1 := Y9.fz 1
          have j2 := Y9.fz 2
          have j3 := Y9.fz 3
          refine hold_store (i := 13) (w' := (((((((waTadbc.setCell ⟨p8, 0, none⟩ (.slice ua0 m0.n l0.cap)).setCell ⟨p8, 1, none⟩ (.slice na0 kk0 nc0)).setCell ⟨p8, 2, none⟩ (.slice (some ⟨q0, 0, none⟩) 2 2)).setCell ⟨p8, 3, none⟩ (.slice (some ⟨g0, 0, none⟩) N c0)).setCell ⟨p9, 0, none⟩ (.slice ua1 m1.n l1.cap)).setCell ⟨p9, 1, none⟩ (.slice na1 kk1 nc1)).setCell ⟨p9, 2, none⟩ (.slice (some ⟨q1, 0, none⟩) 2 2)).setCell ⟨p9, 3, none⟩ (.slice (some ⟨g1, 0, none⟩) N c1)) (listed' := #[true, true, true, true, true, true, true, true, true, true, true, true, true, true]) rfl (by kernel_rfl) rfl (by rfl) (by kernel_rfl) ?stTadbcb K9 ?_
          case stTadbcb =>
            go_simp
            try with_reducible rfl
          refine hold_done (by kernel_rfl) ?_ _
          have z8 := o8.size
          have z9 := o9.size
          have V0' := Lib.hid (rowUp ((R0.only o8 (by show ¬ (_ = _); omega)).only o9 (by show ¬ (_ = _); omega)) (by omega))
          have V1' := Lib.hid (rowUp ((R1.only o8 (by show ¬ (_ = _); omega)).only o9 (by show ¬ (_ = _); omega)) (by omega))
          have HU8 := Lib.hid U8
          have HU9 := Lib.hid U9
          have HK9 := Lib.hid K9
          clear i0 i1 i2 i3 j0 j1 j2 j3 U8 U9 K9 o8 o9 Y8 Y9 L8 L9 K8 X8 X9 R0 R1
          go_wp2_with fail
          go_meet
          exact ⟨p8, p9, g0, c0, g1, c1, rfl, rfl, HU8.out, HU9.out, V0'.out, V1'.out, HK9.out, by omega, by omega, by omega, by omega⟩
        case gTadn10 =>
          have ba := (Below.refl waTad.heap.size waTad).alloc (Nat.le_refl _) (.cells #[.slice none 0 0, .slice none 0 0, .slice none 0 0, .slice none 0 0] 110)
          have KTadc := KTad.trans (ba.mono KTad.size)
          have X8 := FourAt.new waTad (.slice none 0 0) (.slice none 0 0) (.slice none 0 0) (.slice none 0 0) 110
          refine opH_value (i := 10) (d := 8) (listed' := #[true, true, true, true, true, true, true, true, true, false, true, true, false, false]) rfl rfl (by rfl) (by kernel_rfl) (v := .pointer (some ⟨waTad.heap.size, 0, none⟩)) (w' := (waTad.alloc (.cells #[.slice none 0 0, .slice none 0 0, .slice none 0 0, .slice none 0 0] 110))) ?eTadc KTadc ?_
          case eTadc =>
            go_simp
            try with_reducible rfl
          simp only [List.setIfInBounds_toArray, List.set_cons_zero, List.set_cons_succ]
          have sTadc : (waTad.alloc (.cells #[.slice none 0 0, .slice none 0 0, .slice none 0 0, .slice none 0 0] 110)).heap.size = waTad.heap.size + 1 := by simp
          replace X9 := X9.below ba
          replace R0 := R0.below (ba.mono (by omega))
          obtain ⟨p8, hp8⟩ : ∃ q, q = waTad.heap.size := ⟨_, rfl⟩
          rw [← hp8] at X8
          rw [← hp8]
          have hp8a := Nat.le_of_eq hp8
          have hp8b := Nat.le_of_eq hp8.symm
          clear ba hp8
          generalize (waTad.alloc (.cells #[.slice none 0 0, .slice none 0 0, .slice none 0 0, .slice none 0 0] 110)) = waTadc at KTadc X8 sTadc X9 R0 ⊢
          refine hold_call (i := 9) (d := 40) (listed' := #[true, true, true, true, true, true, true, true, true, true, true, true, false, false]) rfl (by kernel_rfl) rfl (by rfl) (by kernel_rfl) ?eTadcb (spread_parts (q0 := q1) (ahead := pp) (behind := 0) (H1.out.step KTadc) hp10 (by omega) HL1.out HV1.out) ?_
          case eTadcb => go_simp
          rintro e wsTadcb ⟨g1, c1, rfl, R1, lo1, hi1, b1⟩
          have sTadcb := b1.size
          have KTadcb := KTadc.trans (b1.mono KTadc.size)
          replace X9 := X9.below b1
          replace X8 := X8.below b1
          replace R0 := R0.below (b1.mono (by omega))
          clear b1
          refine ⟨_, rfl, KTadcb, ?_⟩
          simp only [List.setIfInBounds_toArray, List.set_cons_zero, List.set_cons_succ]
          have o8 := four_new (w := wsTadcb) (p := p8) (a := (.slice ua0 m0.n l0.cap)) (b := (.slice na0 kk0 nc0)) (c := .slice (some ⟨q0, 0, none⟩) 2 2) (d := .slice (some ⟨g0, 0, none⟩) N c0)
          have Y8 := X8.put (a' := (.slice ua0 m0.n l0.cap)) (b' := (.slice na0 kk0 nc0)) (c' := .slice (some ⟨q0, 0, none⟩) 2 2) (d' := .slice (some ⟨g0, 0, none⟩) N c0)
          have Y9 := X9.only o8 (by show ¬ (_ = _); omega)
          have L8 := o8.below (B := w0.heap.size) fun j hj => by have hj' : j = p8 := hj; omega
          have K8 := KTadcb.trans L8
          have i0 := X8.c0
          have i1 := X8.c1
          have i2 := X8.c2
          have i3 := X8.c3
          have j0 := X8.fz 0
          have j1 := X8.fz 1
          have j2 := X8.fz 2
          have j3 := X8.fz 3
          refine hold_store (i := 12) (w' := (((wsTadcb.setCell ⟨p8, 0, none⟩ (.slice ua0 m0.n l0.cap)).setCell ⟨p8, 1, none⟩ (.slice na0 kk0 nc0)).setCell ⟨p8, 2, none⟩ (.slice (some ⟨q0, 0, none⟩) 2 2)).setCell ⟨p8, 3, none⟩ (.slice (some ⟨g0, 0, none⟩) N c0)) (listed' := #[true, true, true, true, true, true, true, true, true, true, true, true, true, false]) rfl (by kernel_rfl) rfl (by rfl) (by kernel_rfl) ?stTadcba K8 ?_
          case stTadcba =>
            go_simp
            try with_reducible rfl
          have o9 := four_new (w := (((wsTadcb.setCell ⟨p8, 0, none⟩ (.slice ua0 m0.n l0.cap)).setCell ⟨p8, 1, none⟩ (.slice na0 kk0 nc0)).setCell ⟨p8, 2, none⟩ (.slice (some ⟨q0, 0, none⟩) 2 2)).setCell ⟨p8, 3, none⟩ (.slice (some ⟨g0, 0, none⟩) N c0)) (p := p9) (a := (.slice ua1 m1.n l1.cap)) (b := (.slice na1 kk1 nc1)) (c := .slice (some ⟨q1, 0, none⟩) 2 2) (d := .slice (some ⟨g1, 0, none⟩) N c1)
          have U9 := Y9.put (a' := (.slice ua1 m1.n l1.cap)) (b' := (.slice na1 kk1 nc1)) (c' := .slice (some ⟨q1, 0, none⟩) 2 2) (d' := .slice (some ⟨g1, 0, none⟩) N c1)
          have U8 := Y8.only o9 (by show ¬ (_ = _); omega)
          have L9 := o9.below (B := w0.heap.size) fun j hj => by have hj' : j = p9 := hj; omega
          have K9 := K8.trans L9
          clear i0 i1 i2 i3 j0 j1 j2 j3
          have i0 := Y9.c0
          have i1 := Y9.c1
          have i2 := Y9.c2
          have i3 := Y9.c3
          have j0 := Y9.fz 0
          have j1 := Y9.fz 1
          have j2 := Y9.fz 2
          have j3 := Y9.fz 3
          refine hold_store (i := 13) (w' := (((((((wsTadcb.setCell ⟨p8, 0, none⟩ (.slice ua0 m0.n l0.cap)).setCell ⟨p8, 1, none⟩ (.slice na0 kk0 nc0)).setCell ⟨p8, 2, none⟩ (.slice (some ⟨q0, 0, none⟩) 2 2)).setCell ⟨p8, 3, none⟩ (.slice (some ⟨g0, 0, none⟩) N c0)).setCell ⟨p9, 0, none⟩ (.slice ua1 m1.n l1.cap)).setCell ⟨p9, 1, none⟩ (.slice na1 kk1 nc1)).setCell ⟨p9, 2, none⟩ (.slice (some ⟨q1, 0, none⟩) 2 2)).setCell ⟨p9, 3, none⟩ (.slice (some ⟨g1, 0, none⟩) N c1)) (listed' := #[true, true, true, true, true, true, true, true, true, true, true, true, true, true]) rfl (by kernel_rfl) rfl (by rfl) (by kernel_rfl) ?stTadcbb K9 ?_
          case stTadcbb =>
            go_simp
            try with_reducible rfl
          refine hold_done (by kernel_rfl) ?_ _
          have z8 := o8.size
          have z9 := o9.size
          have V0' := Lib.hid (rowUp ((R0.only o8 (by show ¬ (_ = _); omega)).only o9 (by show ¬ (_ = _); omega)) (by omega))
          have V1' := Lib.hid (rowUp ((R1.only o8 (by show ¬ (_ = _); omega)).only o9 (by show ¬ (_ = _); omega)) (by omega))
          have HU8 := Lib.hid U8
          have HU9 := Lib.hid U9
          have HK9 := Lib.hid K9
          clear i0 i1 i2 i3 j0 j1 j2 j3 U8 U9 K9 o8 o9 Y8 Y9 L8 L9 K8 X8 X9 R0 R1
          go_wp2_with fail
          go_meet
          exact ⟨p8, p9, g0, c0, g1, c1, rfl, rfl, HU8.out, HU9.out, V0'.out, V1'.out, HK9.out, by omega, by omega, by omega, by omega⟩
    case gTn10 =>
      have ba := (Below.refl wq.heap.size wq).alloc (Nat.le_refl _) (.cells #[.slice none 0 0, .slice none 0 0, .slice none 0 0, .slice none 0 0] 110)
      have KTc := KA.trans (ba.mono KA.size)
      have X8 := FourAt.new wq (.slice none 0 0) (.slice none 0 0) (.slice none 0 0) (.slice none 0 0) 110
      refine opH_value (i := 10) (d := 8) (listed' := #[true, true, true, true, false, true, true, true, true, false, true, false, false, false]) rfl rfl (by rfl) (by kernel_rfl) (v := .pointer (some ⟨wq.heap.size, 0, none⟩)) (w' := (wq.alloc (.cells #[.slice none 0 0, .slice none 0 0, .slice none 0 0, .slice none 0 0] 110))) ?eTc KTc ?_
      case eTc =>
        go_simp
        try with_reducible rfl
      simp only [List.setIfInBounds_toArray, List.set_cons_zero, List.set_cons_succ]
      have sTc : (wq.alloc (.cells #[.slice none 0 0, .slice none 0 0, .slice none 0 0, .slice none 0 0] 110)).heap.size = wq.heap.size + 1 := by simp
      obtain ⟨p8, hp8⟩ : ∃ q, q = wq.heap.size := ⟨_, rfl⟩
      rw [← hp8] at X8
      rw [← hp8]
      have hp8a := Nat.le_of_eq hp8
      have hp8b := Nat.le_of_eq hp8.symm
      clear ba hp8
      generalize (wq.alloc (.cells #[.slice none 0 0, .slice none 0 0, .slice none 0 0, .slice none 0 0] 110)) = waTc at KTc X8 sTc  ⊢
      refine hold_two (i := 4) (j := 11) (by kernel_rfl) ?gTcn4 ?gTcn11
      case gTcn4 =>
        refine opH_call (i := 4) (d := 35) (listed' := #[true, true, true, true, true, true, true, true, true, false, true, false, false, false]) rfl rfl (by rfl) (by kernel_rfl) ?eTca (spread_parts (q0 := q0) (ahead := 0) (behind := r) (H0.out.step KTc) (by omega) hr10 HL0.out HV0.out) ?_
        case eTca => go_simp
        rintro e wsTca ⟨g0, c0, rfl, R0, lo0, hi0, b0⟩
        have sTca := b0.size
        have KTca := KTc.trans (b0.mono KTc.size)
        replace X8 := X8.below b0
        clear b0
        refine ⟨_, rfl, KTca, ?_⟩
        simp only [List.setIfInBounds_toArray, List.set_cons_zero, List.set_cons_succ]
        refine hold_two (i := 9) (j := 11) (by kernel_rfl) ?gTcan9 ?gTcan11
        case gTcan9 =>
          refine opH_call (i := 9) (d := 40) (listed' := #[true, true, true, true, true, true, true, true, true, true, true, false, false, false]) rfl rfl (by rfl) (by kernel_rfl) ?eTcab (spread_parts (q0 := q1) (ahead := pp) (behind := 0) (H1.out.step KTca) hp10 (by omega) HL1.out HV1.out) ?_
          case eTcab => go_simp
          rintro e wsTcab ⟨g1, c1, rfl, R1, lo1, hi1, b1⟩
          have sTcab := b1.size
          have KTcab := KTca.trans (b1.mono KTca.size)
          replace X8 := X8.below b1
          replace R0 := R0.below (b1.mono (by omega))
          clear b1
          refine ⟨_, rfl, KTcab, ?_⟩
          simp only [List.setIfInBounds_toArray, List.set_cons_zero, List.set_cons_succ]
          have ba := (Below.refl wsTcab.heap.size wsTcab).alloc (Nat.le_refl _) (.cells #[.slice none 0 0, .slice none 0 0, .slice none 0 0, .slice none 0 0] 110)
          have KTcabd := KTcab.trans (ba.mono KTcab.size)
          have X9 := FourAt.new wsTcab (.slice none 0 0) (.slice none 0 0) (.slice none 0 0) (.slice none 0 0) 110
          refine hold_value (i := 11) (d := 9) (listed' := #[true, true, true, true, true, true, true, true, true, true, true, true, false, false]) rfl (by kernel_rfl) rfl (by rfl) (by kernel_rfl) (v := .pointer (some ⟨wsTcab.heap.size, 0, none⟩)) (w' := (wsTcab.alloc (.cells #[.slice none 0 0, .slice none 0 0, .slice none 0 0, .slice none 0 0] 110))) ?eTcabd KTcabd ?_
          case eTcabd =>
            go_simp
            try with_reducible rfl
          simp only [List.setIfInBounds_toArray, List.set_cons_zero, List.set_cons_succ]
          have sTcabd : (wsTcab.alloc (.cells #[.slice none 0 0, .slice none 0 0, .slice none 0 0, .slice none 0 0] 110)).heap.size = wsTcab.heap.size + 1 := by simp
          replace X8 := X8.below ba
          replace R0 := R0.below (ba.mono (by omega))
          replace R1 := R1.below (ba.mono (by omega))
          obtain ⟨p9, hp9⟩ : ∃ q, q = wsTcab.heap.size := ⟨_, rfl⟩
          rw [← hp9] at X9
          rw [← hp9]
          have hp9a := Nat.le_of_eq hp9
          have hp9b := Nat.le_of_eq hp9.symm
          clear ba hp9
          generalize (wsTcab.alloc (.cells #[.slice none 0 0, .slice none 0 0, .slice none 0 0, .slice none 0 0] 110)) = waTcabd at KTcabd X9 sTcabd X8 R0 R1 ⊢
          have o8 := four_new (w := waTcabd) (p := p8) (a := (.slice ua0 m0.n l0.cap)) (b := (.slice na0 kk0 nc0)) (c := .slice (some ⟨q0, 0, none⟩) 2 2) (d := .slice (some ⟨g0, 0, none⟩) N c0)
          have Y8 := X8.put (a' := (.slice ua0 m0.n l0.cap)) (b' := (.slice na0 kk0 nc0)) (c' := .slice (some ⟨q0, 0, none⟩) 2 2) (d' := .slice (some ⟨g0, 0, none⟩) N c0)
          have Y9 := X9.only o8 (by show ¬ (_ = _); omega)
          have L8 := o8.below (B := w0.heap.size) fun j hj => by have hj' : j = p8 := hj; omega
          have K8 := KTcabd.trans L8
          have i0 := X8.c0
          have i1 := X8.c1
          have i2 := X8.c2
          have i3 := X8.c3
          have j0 := X8.fz 0
          have j1 := X8.fz 1
          have j2 := X8.fz 2
          have j3 := X8.fz 3
          refine hold_store (i := 12) (w' := (((waTcabd.setCell ⟨p8, 0, none⟩ (.slice ua0 m0.n l0.cap)).setCell ⟨p8, 1, none⟩ (.slice na0 kk0 nc0)).setCell ⟨p8, 2, none⟩ (.slice (some ⟨q0, 0, none⟩) 2 2)).setCell ⟨p8, 3, none⟩ (.slice (some ⟨g0, 0, none⟩) N c0)) (listed' := #[true, true, true, true, true, true, true, true, true, true, true, true, true, false]) rfl (by kernel_rfl) rfl (by rfl) (by kernel_rfl) ?stTcabda K8 ?_
          case stTcabda =>
            go_simp
            try with_reducible rfl
          have o9 := four_new (w := (((waTcabd.setCell ⟨p8, 0, none⟩ (.slice ua0 m0.n l0.cap)).setCell ⟨p8, 1, none⟩ (.slice na0 kk0 nc0)).setCell ⟨p8, 2, none⟩ (.slice (some ⟨q0, 0, none⟩) 2 2)).setCell ⟨p8, 3, none⟩ (.slice (some ⟨g0, 0, none⟩) N c0)) (p := p9) (a := (.slice ua1 m1.n l1.cap)) (b := (.slice na1 kk1 nc1)) (c := .slice (some ⟨q1, 0, none⟩) 2 2) (d := .slice (some ⟨g1, 0, none⟩) N c1)
          have U9 := Y9.put (a' := (.slice ua1 m1.n l1.cap)) (b' := (.slice na1 kk1 nc1)) (c' := .slice (some ⟨q1, 0, none⟩) 2 2) (d' := .slice (some ⟨g1, 0, none⟩) N c1)
          have U8 := Y8.only o9 (by show ¬ (_ = _); omega)
          have L9 := o9.below (B := w0.heap.size) fun j hj => by have hj' : j = p9 := hj; omega
          have K9 := K8.trans L9
          clear i0 i1 i2 i3 j0 j1 j2 j3
          have i0 := Y9.c0
          have i1 := Y9.c1
          have i2 := Y9.c2
          have i3 := Y9.c3
          have j0 := Y9.fz 0
          have j1 := Y9.fz 1
          have j2 := Y9.fz 2
          have j3 := Y9.fz 3
          refine hold_store (i := 13) (w' := (((((((waTcabd.setCell ⟨p8, 0, none⟩ (.slice ua0 m0.n l0.cap)).setCell ⟨p8, 1, none⟩ (.slice na0 kk0 nc0)).setCell ⟨p8, 2, none⟩ (.slice (some ⟨q0, 0, none⟩) 2 2)).setCell ⟨p8, 3, none⟩ (.slice (some ⟨g0, 0, none⟩) N c0)).setCell ⟨p9, 0, none⟩ (.slice ua1 m1.n l1.cap)).setCell ⟨p9, 1, none⟩ (.slice na1 kk1 nc1)).setCell ⟨p9, 2, none⟩ (.slice (some ⟨q1, 0, none⟩) 2 2)).setCell ⟨p9, 3, none⟩ (.slice (some ⟨g1, 0, none⟩) N c1)) (listed' := #[true, true, true, true, true, true, true, true, true, true, true, true, true, true]) rfl (by kernel_rfl) rfl (by rfl) (by kernel_rfl) ?stTcabdb K9 ?_
          case stTcabdb =>
            go_simp
            try with_reducible rfl
          refine hold_done (by kernel_rfl) ?_ _
          have z8 := o8.size
          have z9 := o9.size
          have V0' := Lib.hid (rowUp ((R0.only o8 (by show ¬ (_ = _); omega)).only o9 (by show ¬ (_ = _); omega)) (by omega))
          have V1' := Lib.hid (rowUp ((R1.only o8 (by show ¬ (_ = _); omega)).only o9 (by show ¬ (_ = _); omega)) (by omega))
          have HU8 := Lib.hid U8
          have HU9 := Lib.hid U9
          have HK9 := Lib.hid K9
          clear i0 i1 i2 i3 j0 j1 j2 j3 U8 U9 K9 o8 o9 Y8 Y9 L8 L9 K8 X8 X9 R0 R1
          go_wp2_with fail
          go_meet
          exact ⟨p8, p9, g0, c0, g1, c1, rfl, rfl, HU8.out, HU9.out, V0'.out, V1'.out, HK9.out, by omega, by omega, by omega, by omega⟩
        case gTcan11 =>
          have ba := (Below.refl wsTca.heap.size wsTca).alloc (Nat.le_refl _) (.cells #[.slice none 0 0, .slice none 0 0, .slice none 0 0, .slice none 0 0] 110)
          have KTcad := KTca.trans (ba.mono KTca.size)
          have X9 := FourAt.new wsTca (.slice none 0 0) (.slice none 0 0) (.slice none 0 0) (.slice none 0 0) 110
          refine opH_value (i := 11) (d := 9) (listed' := #[true, true, true, true, true, true, true, true, true, false, true, true, false, false]) rfl rfl (by rfl) (by kernel_rfl) (v := .pointer (some ⟨wsTca.heap.size, 0, none⟩)) (w' := (wsTca.alloc (.cells #[.slice none 0 0, .slice none 0 0, .slice none 0 0, .slice none 0 0] 110))) ?eTcad KTcad ?_
          case eTcad =>
            go_simp
            try with_reducible rfl
          simp only [List.setIfInBounds_toArray, List.set_cons_zero, List.set_cons_succ]
          have sTcad : (wsTca.alloc (.cells #[.slice none 0 0, .slice none 0 0, .slice none 0 0, .slice none 0 0] 110)).heap.size = wsTca.heap.size + 1 := by simp
          replace X8 := X8.below ba
          replace R0 := R0.below (ba.mono (by omega))
          obtain ⟨p9, hp9⟩ : ∃ q, q = wsTca.heap.size := ⟨_, rfl⟩
          rw [← hp9] at X9
          rw [← hp9]
          have hp9a := Nat.le_of_eq hp9
          have hp9b := Nat.le_of_eq hp9.symm
          clear ba hp9
          generalize (wsTca.alloc (.cells #[.slice none 0 0, .slice none 0 0, .slice none 0 0, .slice none 0 0] 110)) = waTcad at KTcad X9 sTcad X8 R0 ⊢
          refine hold_call (i := 9) (d := 40) (listed' := #[true, true, true, true, true, true, true, true, true, true, true, true, false, false]) rfl (by kernel_rfl) rfl (by rfl) (by kernel_rfl) ?eTcadb (spread_parts (q0 := q1) (ahead := pp) (behind := 0) (H1.out.step KTcad) hp10 (by omega) HL1.out HV1.out) ?_
          case eTcadb => go_simp
          rintro e wsTcadb ⟨g1, c1, rfl, R1, lo1, hi1, b1⟩
          have sTcadb := b1.size
          have KTcadb := KTcad.trans (b1.mono KTcad.size)
          replace X8 := X8.below b1
          replace X9 := X9.below b1
          replace R0 := R0.below (b1.mono (by omega))
          clear b1
          refine ⟨_, rfl, KTcadb, ?_⟩
          simp only [List.setIfInBounds_toArray, List.set_cons_zero, List.set_cons_succ]
          have o8 := four_new (w := wsTcadb) (p := p8) (a := (.slice ua0 m0.n l0.cap)) (b := (.slice na0 kk0 nc0)) (c := .slice (some ⟨q0, 0, none⟩) 2 2) (d := .slice (some ⟨g0, 0, none⟩) N c0)
          have Y8 := X8.put (a' := (.slice ua0 m0.n l0.cap)) (b' := (.slice na0 kk0 nc0)) (c' := .slice (some ⟨q0, 0, none⟩) 2 2) (d' := .slice (some ⟨g0, 0, none⟩) N c0)
          have Y9 := X9.only o8 (by show ¬ (_ = _); omega)
          have L8 := o8.below (B := w0.heap.size) fun j hj => by have hj' : j = p8 := hj; omega
          have K8 := KTcadb.trans L8
          have i0 := X8.c0
          have i1 := X8.c1
          have i2 := X8.c2
          have i3 := X8.c3
          have j0 := X8.fz 0
          have j1 := X8.fz 1
          have j2 := X8.fz 2
          have j3 := X8.fz 3
          refine hold_store (i := 12) (w' := (((wsTcadb.setCell ⟨p8, 0, none⟩ (.slice ua0 m0.n l0.cap)).setCell ⟨p8, 1, none⟩ (.slice na0 kk0 nc0)).setCell ⟨p8, 2, none⟩ (.slice (some ⟨q0, 0, none⟩) 2 2)).setCell ⟨p8, 3, none⟩ (.slice (some ⟨g0, 0, none⟩) N c0)) (listed' := #[true, true, true, true, true, true, true, true, true, true, true, true, true, false]) rfl (by kernel_rfl) rfl (by rfl) (by kernel_rfl) ?stTcadba K8 ?_
          case stTcadba =>
            go_simp
            try with_reducible rfl
          have o9 := four_new (w := (((wsTcadb.setCell ⟨p8, 0, none⟩ (.slice ua0 m0.n l0.cap)).setCell ⟨p8, 1, none⟩ (.slice na0 kk0 nc0)).setCell ⟨p8, 2, none⟩ (.slice (some ⟨q0, 0, none⟩) 2 2)).setCell ⟨p8, 3, none⟩ (.slice (some ⟨g0, 0, none⟩) N c0)) (p := p9) (a := (.slice ua1 m1.n l1.cap)) (b := (.slice na1 kk1 nc1)) (c := .slice (some ⟨q1, 0, none⟩) 2 2) (d := .slice (some ⟨g1, 0, none⟩) N c1)
          have U9 := Y9.put (a' := (.slice ua1 m1.n l1.cap)) (b' := (.slice na1 kk1 nc1)) (c' := .slice (some ⟨q1, 0, none⟩) 2 2) (d' := .slice (some ⟨g1, 0, none⟩) N c1)
          have U8 := Y8.only o9 (by show ¬ (_ = _); omega)
          have L9 := o9.below (B := w0.heap.size) fun j hj => by have hj' : j = p9 := hj; omega
          have K9 := K8.trans L9
          clear i0 i1 i2 i3 j0 j1 j2 j3
          have i0 := Y9.c0
          have i1 := Y9.c1
          have i2 := Y9.c2
          have i3 := Y9.c3
          have j0 := Y9.fz 0
          have j1 := Y9.fz 1
          have j2 := Y9.fz 2
          have j3 := Y9.fz 3
          refine hold_store (i := 13) (w' := (((((((wsTcadb.setCell ⟨p8, 0, none⟩ (.slice ua0 m0.n l0.cap)).setCell ⟨p8, 1, none⟩ (.slice na0 kk0 nc0)).setCell ⟨p8, 2, none⟩ (.slice (some ⟨q0, 0, none⟩) 2 2)).setCell ⟨p8, 3, none⟩ (.slice (some ⟨g0, 0, none⟩) N c0)).setCell ⟨p9, 0, none⟩ (.slice ua1 m1.n l1.cap)).setCell ⟨p9, 1, none⟩ (.slice na1 kk1 nc1)).setCell ⟨p9, 2, none⟩ (.slice (some ⟨q1, 0, none⟩) 2 2)).setCell ⟨p9, 3, none⟩ (.slice (some ⟨g1, 0, none⟩) N c1)) (listed' := #[true, true, true, true, true, true, true, true, true, true, true, true, true, true]) rfl (by kernel_rfl) rfl (by rfl) (by kernel_rfl) ?stTcadbb K9 ?_
          case stTcadbb =>
            go_simp
            try with_reducible rfl
          refine hold_done (by kernel_rfl) ?_ _
          have z8 := o8.size
          have z9 := o9.size
          have V0' := Lib.hid (rowUp ((R0.only o8 (by show ¬ (_ = _); omega)).only o9 (by show ¬ (_ = _); omega)) (by omega))
          have V1' := Lib.hid (rowUp ((R1.only o8 (by show ¬ (_ = _); omega)).only o9 (by show ¬ (_ = _); omega)) (by omega))
          have HU8 := Lib.hid U8
          have HU9 := Lib.hid U9
          have HK9 := Lib.hid K9
          clear i0 i1 i2 i3 j0 j1 j2 j3 U8 U9 K9 o8 o9 Y8 Y9 L8 L9 K8 X8 X9 R0 R1
          go_wp2_with fail
          go_meet
          exact ⟨p8, p9, g0, c0, g1, c1, rfl, rfl, HU8.out, HU9.out, V0'.out, V1'.out, HK9.out, by omega, by omega, by omega, by omega⟩
      case gTcn11 =>
        have ba := (Below.refl waTc.heap.size waTc).alloc (Nat.le_refl _) (.cells #[.slice none 0 0, .slice none 0 0, .slice none 0 0, .slice none 0 0] 110)
        have KTcd := KTc.trans (ba.mono KTc.size)
        have X9 := FourAt.new waTc (.slice none 0 0) (.slice none 0 0) (.slice none 0 0) (.slice none 0 0) 110
        refine opH_value (i := 11) (d := 9) (listed' := #[true, true, true, true, false, true, true, true, true, false, true, true, false, false]) rfl rfl (by rfl) (by kernel_rfl) (v := .pointer (some ⟨waTc.heap.size, 0, none⟩)) (w' := (waTc.alloc (.cells #[.slice none 0 0, .slice none 0 0, .slice none 0 0, .slice none 0 0] 110))) ?eTcd KTcd ?_
        case eTcd =>
          go_simp
          try with_reducible rfl
        simp only [List.setIfInBounds_toArray, List.set_cons_zero, List.set_cons_succ]
        have sTcd : (waTc.alloc (.cells #[.slice none 0 0, .slice none 0 0, .slice none 0 0, .slice none 0 0] 110)).heap.size = waTc.heap.size + 1 := by simp
        replace X8 := X8.below ba
        obtain ⟨p9, hp9⟩ : ∃ q, q = waTc.heap.size := ⟨_, rfl⟩
        rw [← hp9] at X9
        rw [← hp9]
        have hp9a := Nat.le_of_eq hp9
        have hp9b := Nat.le_of_eq hp9.symm
        clear ba hp9
        generalize (waTc.alloc (.cells #[.slice none 0 0, .slice none 0 0, .slice none 0 0, .slice none 0 0] 110)) = waTcd at KTcd X9 sTcd X8 ⊢
        refine hold_call (i := 4) (d := 35) (listed' := #[true, true, true, true, true, true, true, true, true, false, true, true, false, false]) rfl (by kernel_rfl) rfl (by rfl) (by kernel_rfl) ?eTcda (spread_parts (q0 := q0) (ahead := 0) (behind := r) (H0.out.step KTcd) (by omega) hr10 HL0.out HV0.out) ?_
        case eTcda => go_simp
        rintro e wsTcda ⟨g0, c0, rfl, R0, lo0, hi0, b0⟩
        have sTcda := b0.size
        have KTcda := KTcd.trans (b0.mono KTcd.size)
        replace X8 := X8.below b0
        replace X9 := X9.below b0
        clear b0
        refine ⟨_, rfl, KTcda, ?_⟩
        simp only [List.setIfInBounds_toArray, List.set_cons_zero, List.set_cons_succ]
        refine hold_call (i := 9) (d := 40) (listed' := #[true, true, true, true, true, true, true, true, true, true, true, true, false, false]) rfl (by kernel_rfl) rfl (by rfl) (by kernel_rfl) ?eTcdab (spread_parts (q0 := q1) (ahead := pp) (behind := 0) (H1.out.step KTcda) hp10 (by omega) HL1.out HV1.out) ?_
        case eTcdab => go_simp
        rintro e wsTcdab ⟨g1, c1, rfl, R1, lo1, hi1, b1⟩
        have sTcdab := b1.size
        have KTcdab := KTcda.trans (b1.mono KTcda.size)
        replace X8 := X8.below b1
        replace X9 := X9.below b1
        replace R0 := R0.below (b1.mono (by omega))
        clear b1
        refine ⟨_, rfl, KTcdab, ?_⟩
        simp only [List.setIfInBounds_toArray, List.set_cons_zero, List.set_cons_succ]
        have o8 := four_new (w := wsTcdab) (p := p8) (a := (.slice ua0 m0.n l0.cap)) (b := (.slice na0 kk0 nc0)) (c := .slice (some ⟨q0, 0, none⟩) 2 2) (d := .slice (some ⟨g0, 0, none⟩) N c0)
        have Y8 := X8.put (a' := (.slice ua0 m0.n l0.cap)) (b' := (.slice na0 kk0 nc0)) (c' := .slice (some ⟨q0, 0, none⟩) 2 2) (d' := .slice (some ⟨g0, 0, none⟩) N c0)
        have Y9 := X9.only o8 (by show ¬ (_ = _); omega)
        have L8 := o8.below (B := w0.heap.size) fun j hj => by have hj' : j = p8 := hj; omega
        have K8 := KTcdab.trans L8
        have i0 := X8.c0
        have i1 := X8.c1
        have i2 := X8.c2
        have i3 := X8.c3
        have j0 := X8.fz 0
        have j1 := X8.fz 1
        have j2 := X8.fz 2
        have j3 := X8.fz 3
        refine hold_store (i := 12) (w' := (((wsTcdab.setCell ⟨p8, 0, none⟩ (.slice ua0 m0.n l0.cap)).setCell ⟨p8, 1, none⟩ (.slice na0 kk0 nc0)).setCell ⟨p8, 2, none⟩ (.slice (some ⟨q0, 0, none⟩) 2 2)).setCell ⟨p8, 3, none⟩ (.slice (some ⟨g0, 0, none⟩) N c0)) (listed' := #[true, true, true, true, true, true, true, true, true, true, true, true, true, false]) rfl (by kernel_rfl) rfl (by rfl) (by kernel_rfl) ?stTcdaba K8 ?_
        case stTcdaba =>
          go_simp
          try with_reducible rfl
        have o9 := four_new (w := (((wsTcdab.setCell ⟨p8, 0, none⟩ (.slice ua0 m0.n l0.cap)).setCell ⟨p8, 1, none⟩ (.slice na0 kk0 nc0)).setCell ⟨p8, 2, none⟩ (.slice (some ⟨q0, 0, none⟩) 2 2)).setCell ⟨p8, 3, none⟩ (.slice (some ⟨g0, 0, none⟩) N c0)) (p := p9) (a := (.slice ua1 m1.n l1.cap)) (b := (.slice na1 kk1 nc1)) (c := .slice (some ⟨q1, 0, none⟩) 2 2) (d := .slice (some ⟨g1, 0, none⟩) N c1)
        have U9 := Y9.put (a' := (.slice ua1 m1.n l1.cap)) (b' := (.slice na1 kk1 nc1)) (c' := .slice (some ⟨q1, 0, none⟩) 2 2) (d' := .slice (some ⟨g1, 0, none⟩) N c1)
        have U8 := Y8.only o9 (by show ¬ (_ = _); omega)
        have L9 := o9.below (B := w0.heap.size) fun j hj => by have hj' : j = p9 := hj; omega
        have K9 := K8.trans L9
        clear i0 i1 i2 i3 j0 j1 j2 j3
        have i0 := Y9.c0
        have i1 := Y9.c1
        have i2 := Y9.c2
        have i3 := Y9.c3
        have j0 := Y9.fz 0
        have j1 := Y9.fz 1
        have j2 := Y9.fz 2
        have j3 := Y9.fz 3
        refine hold_store (i := 13) (w' := (((((((wsTcdab.setCell ⟨p8, 0, none⟩ (.slice ua0 m0.n l0.cap)).setCell ⟨p8, 1, none⟩ (.slice na0 kk0 nc0)).setCell ⟨p8, 2, none⟩ (.slice (some ⟨q0, 0, none⟩) 2 2)).setCell ⟨p8, 3, none⟩ (.slice (some ⟨g0, 0, none⟩) N c0)).setCell ⟨p9, 0, none⟩ (.slice ua1 m1.n l1.cap)).setCell ⟨p9, 1, none⟩ (.slice na1 kk1 nc1)).setCell ⟨p9, 2, none⟩ (.slice (some ⟨q1, 0, none⟩) 2 2)).setCell ⟨p9, 3, none⟩ (.slice (some ⟨g1, 0, none⟩) N c1)) (listed' := #[true, true, true, true, true, true, true, true, true, true, true, true, true, true]) rfl (by kernel_rfl) rfl (by rfl) (by kernel_rfl) ?stTcdabb K9 ?_
        case stTcdabb =>
          go_simp
          try with_reducible rfl
        refine hold_done (by kernel_rfl) ?_ _
        have z8 := o8.size
        have z9 := o9.size
        have V0' := Lib.hid (rowUp ((R0.only o8 (by show ¬ (_ = _); omega)).only o9 (by show ¬ (_ = _); omega)) (by omega))
        have V1' := Lib.hid (rowUp ((R1.only o8 (by show ¬ (_ = _); omega)).only o9 (by show ¬ (_ = _); omega)) (by omega))
        have HU8 := Lib.hid U8
        have HU9 := Lib.hid U9
        have HK9 := Lib.hid K9
        clear i0 i1 i2 i3 j0 j1 j2 j3 U8 U9 K9 o8 o9 Y8 Y9 L8 L9 K8 X8 X9 R0 R1
        go_wp2_with fail
        go_meet
        exact ⟨p8, p9, g0, c0, g1, c1, rfl, rfl, HU8.out, HU9.out, V0'.out, V1'.out, HK9.out, by omega, by omega, by omega, by omega⟩
    case gTn11 =>
      have ba := (Below.refl wq.heap.size wq).alloc (Nat.le_refl _) (.cells #[.slice none 0 0, .slice none 0 0, .slice none 0 0, .slice none 0 0] 110)
      have KTd := KA.trans (ba.mono KA.size)
      have X9 := FourAt.new wq (.slice none 0 0) (.slice none 0 0) (.slice none 0 0) (.slice none 0 0) 110
      refine opH_value (i := 11) (d := 9) (listed' := #[true, true, true, true, false, true, true, true, true, false, false, true, false, false]) rfl rfl (by rfl) (by kernel_rfl) (v := .pointer (some ⟨wq.heap.size, 0, none⟩)) (w' := (wq.alloc (.cells #[.slice none 0 0, .slice none 0 0, .slice none 0 0, .slice none 0 0] 110))) ?eTd KTd ?_
      case eTd =>
        go_simp
        try with_reducible rfl
      simp only [List.setIfInBounds_toArray, List.set_cons_zero, List.set_cons_succ]
      have sTd : (wq.alloc (.cells #[.slice none 0 0, .slice none 0 0, .slice none 0 0, .slice none 0 0] 110)).heap.size = wq.heap.size + 1 := by simp
      obtain ⟨p9, hp9⟩ : ∃ q, q = wq.heap.size := ⟨_, rfl⟩
      rw [← hp9] at X9
      rw [← hp9]
      have hp9a := Nat.le_of_eq hp9
      have hp9b := Nat.le_of_eq hp9.symm
      clear ba hp9
      generalize (wq.alloc (.cells #[.slice none 0 0, .slice none 0 0, .slice none 0 0, .slice none 0 0] 110)) = waTd at KTd X9 sTd  ⊢
      refine hold_two (i := 4) (j := 10) (by kernel_rfl) ?gTdn4 ?gTdn10
      case gTdn4 =>
        refine opH_call (i := 4) (d := 35) (listed' := #[true, true, true, true, true, true, true, true, true, false, false, true, false, false]) rfl rfl (by rfl) (by kernel_rfl) ?eTda (spread_parts (q0 := q0) (ahead := 0) (behind := r) (H0.out.step KTd) (by omega) hr10 HL0.out HV0.out) ?_
        case eTda => go_simp
        rintro e wsTda ⟨g0, c0, rfl, R0, lo0, hi0, b0⟩
        have sTda := b0.size
        have KTda := KTd.trans (b0.mono KTd.size)
        replace X9 := X9.below b0
        clear b0
        refine ⟨_, rfl, KTda, ?_⟩
        simp only [List.setIfInBounds_toArray, List.set_cons_zero, List.set_cons_succ]
        refine hold_two (i := 9) (j := 10) (by kernel_rfl) ?gTdan9 ?gTdan10
        case gTdan9 =>
          refine opH_call (i := 9) (d := 40) (listed' := #[true, true, true, true, true, true, true, true, true, true, false, true, false, false]) rfl rfl (by rfl) (by kernel_rfl) ?eTdab (spread_parts (q0 := q1) (ahead := pp) (behind := 0) (H1.out.step KTda) hp10 (by omega) HL1.out HV1.out) ?_
          case eTdab => go_simp
          rintro e wsTdab ⟨g1, c1, rfl, R1, lo1, hi1, b1⟩
          have sTdab := b1.size
          have KTdab := KTda.trans (b1.mono KTda.size)
          replace X9 := X9.below b1
          replace R0 := R0.below (b1.mono (by omega))
          clear b1
          refine ⟨_, rfl, KTdab, ?_⟩
          simp only [List.setIfInBounds_toArray, List.set_cons_zero, List.set_cons_succ]
          have ba := (Below.refl wsTdab.heap.size wsTdab).alloc (Nat.le_refl _) (.cells #[.slice none 0 0, .slice none 0 0, .slice none 0 0, .slice none 0 0] 110)
          have KTdabc := KTdab.trans (ba.mono KTdab.size)
          have X8 := FourAt.new wsTdab (.slice none 0 0) (.slice none 0 0) (.slice none 0 0) (.slice none 0 0) 110
          refine hold_value (i := 10) (d := 8) (listed' := #[true, true, true, true, true, true, true, true, true, true, true, true, false, false]) rfl (by kernel_rfl) rfl (by rfl) (by kernel_rfl) (v := .pointer (some ⟨wsTdab.heap.size, 0, none⟩)) (w' := (wsTdab.alloc (.cells #[.slice none 0 0, .slice none 0 0, .slice none 0 0, .slice none 0 0] 110))) ?eTdabc KTdabc ?_
          case eTdabc =>
            go_simp
            try with_reducible rfl
          simp only [List.setIfInBounds_toArray, List.set_cons_zero, List.set_cons_succ]
          have sTdabc : (wsTdab.alloc (.cells #[.slice none 0 0, .slice none 0 0, .slice none 0 0, .slice none 0 0] 110)).heap.size = wsTdab.heap.size + 1 := by simp
          replace X9 := X9.below ba
          replace R0 := R0.below (ba.mono (by omega))
          replace R1 := R1.below (ba.mono (by omega))
          obtain ⟨p8, hp8⟩ : ∃ q, q = wsTdab.heap.size := ⟨_, rfl⟩
          rw [← hp8] at X8
          rw [← hp8]
          have hp8a := Nat.le_of_eq hp8
          have hp8b := Nat.le_of_eq hp8.symm
          clear ba hp8
          generalize (wsTdab.alloc (.cells #[.slice none 0 0, .slice none 0 0, .slice none 0 0, .slice none 0 0] 110)) = waTdabc at KTdabc X8 sTdabc X9 R0 R1 ⊢
          have o8 := four_new (w := waTdabc) (p := p8) (a := (.slice ua0 m0.n l0.cap)) (b := (.slice na0 kk0 nc0)) (c := .slice (some ⟨q0, 0, none⟩) 2 2) (d := .slice (some ⟨g0, 0, none⟩) N c0)
          have Y8 := X8.put (a' := (.slice ua0 m0.n l0.cap)) (b' := (.slice na0 kk0 nc0)) (c' := .slice (some ⟨q0, 0, none⟩) 2 2) (d' := .slice (some ⟨g0, 0, none⟩) N c0)
          have Y9 := X9.only o8 (by show ¬ (_ = _); omega)
          have L8 := o8.below (B := w0.heap.size) fun j hj => by have hj' : j = p8 := hj; omega
          have K8 := KTdabc.trans L8
          have i0 := X8.c0
          have i1 := X8.c1
          have i2 := X8.c2
          have i3 := X8.c3
          have j0 := X8.fz 0
          have j1 := X8.fz 1
          have j2 := X8.fz 2
          have j3 := X8.fz 3
          refine hold_store (i := 12) (w' := (((waTdabc.setCell ⟨p8, 0, none⟩ (.slice ua0 m0.n l0.cap)).setCell ⟨p8, 1, none⟩ (.slice na0 kk0 nc0)).setCell ⟨p8, 2, none⟩ (.slice (some ⟨q0, 0, none⟩) 2 2)).setCell ⟨p8, 3, none⟩ (.slice (some ⟨g0, 0, none⟩) N c0)) (listed' := #[true, true, true, true, true, true, true, true, true, true, true, true, true, false]) rfl (by kernel_rfl) rfl (by rfl) (by kernel_rfl) ?stTdabca K8 ?_
          case stTdabca =>
            go_simp
            try with_reducible rfl
          have o9 := four_new (w := (((waTdabc.setCell ⟨p8, 0, none⟩ (.slice ua0 m0.n l0.cap)).setCell ⟨p8, 1, none⟩ (.slice na0 kk0 nc0)).setCell ⟨p8, 2, none⟩ (.slice (some ⟨q0, 0, none⟩) 2 2)).setCell ⟨p8, 3, none⟩ (.slice (some ⟨g0, 0, none⟩) N c0)) (p := p9) (a := (.slice ua1 m1.n l1.cap)) (b := (.slice na1 kk1 nc1)) (c := .slice (some ⟨q1, 0, none⟩) 2 2) (d := .slice (some ⟨g1, 0, none⟩) N c1)
          have U9 := Y9.put (a' := (.slice ua1 m1.n l1.cap)) (b' := (.slice na1 kk1 nc1)) (c' := .slice (some ⟨q1, 0, none⟩) 2 2) (d' := .slice (some ⟨g1, 0, none⟩) N c1)
          have U8 := Y8.only o9 (by show ¬ (_ = _); omega)
          have L9 := o9.below (B := w0.heap.size) fun j hj => by have hj' : j = p9 := hj; omega
          have K9 := K8.trans L9
          clear i0 i1 i2 i3 j0 j1 j2 j3
          have i0 := Y9.c0
          have i1 := Y9.c1
          have i2 := Y9.c2
          have i3 := Y9.c3
          have j0 := Y9.fz 0
          have j1 := Y9.fz 1
          have j2 := Y9.fz 2
          have j3 := Y9.fz 3
          refine hold_store (i := 13) (w' := (((((((waTdabc.setCell ⟨p8, 0, none⟩ (.slice ua0 m0.n l0.cap)).setCell ⟨p8, 1, none⟩ (.slice na0 kk0 nc0)).setCell ⟨p8, 2, none⟩ (.slice (some ⟨q0, 0, none⟩) 2 2)).setCell ⟨p8, 3, none⟩ (.slice (some ⟨g0, 0, none⟩) N c0)).setCell ⟨p9, 0, none⟩ (.slice ua1 m1.n l1.cap)).setCell ⟨p9, 1, none⟩ (.slice na1 kk1 nc1)).setCell ⟨p9, 2, none⟩ (.slice (some ⟨q1, 0, none⟩) 2 2)).setCell ⟨p9, 3, none⟩ (.slice (some ⟨g1, 0, none⟩) N c1)) (listed' := #[true, true, true, true, true, true, true, true, true, true, true, true, true, true]) rfl (by kernel_rfl) rfl (by rfl) (by kernel_rfl) ?stTdabcb K9 ?_
          case stTdabcb =>
            go_simp
            try with_reducible rfl
          refine hold_done (by kernel_rfl) ?_ _
          have z8 := o8.size
          have z9 := o9.size
          have V0' := Lib.hid (rowUp ((R0.only o8 (by show ¬ (_ = _); omega)).only o9 (by show ¬ (_ = _); omega)) (by omega))
          have V1' := Lib.hid (rowUp ((R1.only o8 (by show ¬ (_ = _); omega)).only o9 (by show ¬ (_ = _); omega)) (by omega))
          have HU8 := Lib.hid U8
          have HU9 := Lib.hid U9
          have HK9 := Lib.hid K9
          clear i0 i1 i2 i3 j0 j1 j2 j3 U8 U9 K9 o8 o9 Y8 Y9 L8 L9 K8 X8 X9 R0 R1
          go_wp2_with fail
          go_meet
          exact ⟨p8, p9, g0, c0, g1, c1, rfl, rfl, HU8.out, HU9.out, V0'.out, V1'.out, HK9.out, by omega, by omega, by omega, by omega⟩
        case gTdan10 =>
          have ba := (Below.refl wsTda.heap.size wsTda).alloc (Nat.le_refl _) (.cells #[.slice none 0 0, .slice none 0 0, .slice none 0 0, .slice none 0 0] 110)
          have KTdac := KTda.trans (ba.mono KTda.size)
          have X8 := FourAt.new wsTda (.slice none 0 0) (.slice none 0 0) (.slice none 0 0) (.slice none 0 0) 110
          refine opH_value (i := 10) (d := 8) (listed' := #[true, true, true, true, true, true, true, true, true, false, true, true, false, false]) rfl rfl (by rfl) (by kernel_rfl) (v := .pointer (some ⟨wsTda.heap.size, 0, none⟩)) (w' := (wsTda.alloc (.cells #[.slice none 0 0, .slice none 0 0, .slice none 0 0, .slice none 0 0] 110))) ?eTdac KTdac ?_
          case eTdac =>
            go_simp
            try with_reducible rfl
          simp only [List.setIfInBounds_toArray, List.set_cons_zero, List.set_cons_succ]
          have sTdac : (wsTda.alloc (.cells #[.slice none 0 0, .slice none 0 0, .slice none 0 0, .slice none 0 0] 110)).heap.size = wsTda.heap.size + 1 := by simp
          replace X9 := X9.below ba
          replace R0 := R0.below (ba.mono (by omega))
          obtain ⟨p8, hp8⟩ : ∃ q, q = wsTda.heap.size := ⟨_, rfl⟩
          rw [← hp8] at X8
          rw [← hp8]
          have hp8a := Nat.le_of_eq hp8
          have hp8b := Nat.le_of_eq hp8.symm
          clear ba hp8
          generalize (wsTda.alloc (.cells #[.slice none 0 0, .slice none 0 0, .slice none 0 0, .slice none 0 0] 110)) = waTdac at KTdac X8 sTdac X9 R0 ⊢
          refine hold_call (i := 9) (d := 40) (listed' := #[true, true, true, true, true, true, true, true, true, true, true, true, false, false]) rfl (by kernel_rfl) rfl (by rfl) (by kernel_rfl) ?eTdacb (spread_parts (q0 := q1) (ahead := pp) (behind := 0) (H1.out.step KTdac) hp10 (by omega) HL1.out HV1.out) ?_
          case eTdacb => go_simp
          rintro e wsTdacb ⟨g1, c1, rfl, R1, lo1, hi1, b1⟩
          have sTdacb := b1.size
          have KTdacb := KTdac.trans (b1.mono KTdac.size)
          replace X9 := X9.below b1
          replace X8 := X8.below b1
          replace R0 := R0.below (b1.mono (by omega))
          clear b1
          refine ⟨_, rfl, KTdacb, ?_⟩
          simp only [List.setIfInBounds_toArray, List.set_cons_zero, List.set_cons_succ]
          have o8 := four_new (w := wsTdacb) (p := p8) (a := (.slice ua0 m0.n l0.cap)) (b := (.slice na0 kk0 nc0)) (c := .slice (some ⟨q0, 0, none⟩) 2 2) (d := .slice (some ⟨g0, 0, none⟩) N c0)
          have Y8 := X8.put (a' := (.slice ua0 m0.n l0.cap)) (b' := (.slice na0 kk0 nc0)) (c' := .slice (some ⟨q0, 0, none⟩) 2 2) (d' := .slice (some ⟨g0, 0, none⟩) N c0)
          have Y9 := X9.only o8 (by show ¬ (_ = _); omega)
          have L8 := o8.below (B := w0.heap.size) fun j hj => by have hj' : j = p8 := hj; omega
          have K8 := KTdacb.trans L8
          have i0 := X8.c0
          have i1 := X8.c1
          have i2 := X8.c2
          have i3 := X8.c3
          have j0 := X8.fz 0
          have j1 := X8.fz 1
          have j2 := X8.fz 2
          have j3 := X8.fz 3
          refine hold_store (i := 12) (w' := (((wsTdacb.setCell ⟨p8, 0, none⟩ (.slice ua0 m0.n l0.cap)).setCell ⟨p8, 1, none⟩ (.slice na0 kk0 nc0)).setCell ⟨p8, 2, none⟩ (.slice (some ⟨q0, 0, none⟩) 2 2)).setCell ⟨p8, 3, none⟩ (.slice (some ⟨g0, 0, none⟩) N c0)) (listed' := #[true, true, true, true, true, true, true, true, true, true, true, true, true, false]) rfl (by kernel_rfl) rfl (by rfl) (by kernel_rfl) ?stTdacba K8 ?_
          case stTdacba =>
            go_simp
            try with_reducible rfl
          have o9 := four_new (w := (((wsTdacb.setCell ⟨p8, 0, none⟩ (.slice ua0 m0.n l0.cap)).setCell ⟨p8, 1, none⟩ (.slice na0 kk0 nc0)).setCell ⟨p8, 2, none⟩ (.slice (some ⟨q0, 0, none⟩) 2 2)).setCell ⟨p8, 3, none⟩ (.slice (some ⟨g0, 0, none⟩) N c0)) (p := p9) (a := (.slice ua1 m1.n l1.cap)) (b := (.slice na1 kk1 nc1)) (c := .slice (some ⟨q1, 0, none⟩) 2 2) (d := .slice (some ⟨g1, 0, none⟩) N c1)
          have U9 := Y9.put (a' := (.slice ua1 m1.n l1.cap)) (b' := (.slice na1 kk1 nc1)) (c' := .slice (some ⟨q1, 0, none⟩) 2 2) (d' := .slice (some ⟨g1, 0, none⟩) N c1)
          have U8 := Y8.only o9 (by show ¬ (_ = _); omega)
          have L9 := o9.below (B := w0.heap.size) fun j hj => by have hj' : j = p9 := hj; omega
          have K9 := K8.trans L9
          clear i0 i1 i2 i3 j0 j1 j2 j3
          have i0 := Y9.c0
          have i1 := Y9.c1
          have i2 := Y9.c2
          have i3 := Y9.c3
          have j0 := Y9.fz 0
          have j1 := Y9.fz 1
          have j2 := Y9.fz 2
          have j3 := Y9.fz 3
          refine hold_store (i := 13) (w' := (((((((wsTdacb.setCell ⟨p8, 0, none⟩ (.slice ua0 m0.n l0.cap)).setCell ⟨p8, 1, none⟩ (.slice na0 kk0 nc0)).setCell ⟨p8, 2, none⟩ (.slice (some ⟨q0, 0, none⟩) 2 2)).setCell ⟨p8, 3, none⟩ (.slice (some ⟨g0, 0, none⟩) N c0)).setCell ⟨p9, 0, none⟩ (.slice ua1 m1.n l1.cap)).setCell ⟨p9, 1, none⟩ (.slice na1 kk1 nc1)).setCell ⟨p9, 2, none⟩ (.slice (some ⟨q1, 0, none⟩) 2 2)).setCell ⟨p9, 3, none⟩ (.slice (some ⟨g1, 0, none⟩) N c1)) (listed' := #[true, true, true, true, true, true, true, true, true, true, true, true, true, true]) rfl (by kernel_rfl) rfl (by rfl) (by kernel_rfl) ?stTdacbb K9 ?_
          case stTdacbb =>
            go_simp
            try with_reducible rfl
          refine hold_done (by kernel_rfl) ?_ _
          have z8 := o8.size
          have z9 := o9.size
          have V0' := Lib.hid (rowUp ((R0.only o8 (by show ¬ (_ = _); omega)).only o9 (by show ¬ (_ = _); omega)) (by omega))
          have V1' := Lib.hid (rowUp ((R1.only o8 (by show ¬ (_ = _); omega)).only o9 (by show ¬ (_ = _); omega)) (by omega))
          have HU8 := Lib.hid U8
          have HU9 := Lib.hid U9
          have HK9 := Lib.hid K9
          clear i0 i1 i2 i3 j0 j1 j2 j3 U8 U9 K9 o8 o9 Y8 Y9 L8 L9 K8 X8 X9 R0 R1
          go_wp2_with fail
          go_meet
          exact ⟨p8, p9, g0, c0, g1, c1, rfl, rfl, HU8.out, HU9.out, V0'.out, V1'.out, HK9.out, by omega, by omega, by omega, by omega⟩
      case gTdn10 =>
        have ba := (Below.refl waTd.heap.size waTd).alloc (Nat.le_refl _) (.cells #[.slice none 0 0, .slice none 0 0, .slice none 0 0, .slice none 0 0] 110)
        have KTdc := KTd.trans (ba.mono KTd.size)
        have X8 := FourAt.new waTd (.slice none 0 0) (.slice none 0 0) (.slice none 0 0) (.slice none 0 0) 110
        refine opH_value (i := 10) (d := 8) (listed' := #[true, true, true, true, false, true, true, true, true, false, true, true, false, false]) rfl rfl (by rfl) (by kernel_rfl) (v := .pointer (some ⟨waTd.heap.size, 0, none⟩)) (w' := (waTd.alloc (.cells #[.slice none 0 0, .slice none 0 0, .slice none 0 0, .slice none 0 0] 110))) ?eTdc KTdc ?_
        case eTdc =>
          go_simp
          try with_reducible rfl
        simp only [List.setIfInBounds_toArray, List.set_cons_zero, List.set_cons_succ]
        have sTdc : (waTd.alloc (.cells #[.slice none 0 0, .slice none 0 0, .slice none 0 0, .slice none 0 0] 110)).heap.size = waTd.heap.size + 1 := by simp
        replace X9 := X9.below ba
        obtain ⟨p8, hp8⟩ : ∃ q, q = waTd.heap.size := ⟨_, rfl⟩
        rw [← hp8] at X8
        rw [← hp8]
        have hp8a := Nat.le_of_eq hp8
        have hp8b := Nat.le_of_eq hp8.symm
        clear ba hp8
        generalize (waTd.alloc (.cells #[.slice none 0 0, .slice none 0 0, .slice none 0 0, .slice none 0 0] 110)) = waTdc at KTdc X8 sTdc X9 ⊢
        refine hold_call (i := 4) (d := 35) (listed' := #[true, true, true, true, true, true, true, true, true, false, true, true, false, false]) rfl (by kernel_rfl) rfl (by rfl) (by kernel_rfl) ?eTdca (spread_parts (q0 := q0) (ahead := 0) (behind := r) (H0.out.step KTdc) (by omega) hr10 HL0.out HV0.out) ?_
        case eTdca => go_simp
        rintro e wsTdca ⟨g0, c0, rfl, R0, lo0, hi0, b0⟩
        have sTdca := b0.size
        have KTdca := KTdc.trans (b0.mono KTdc.size)
        replace X9 := X9.below b0
        replace X8 := X8.below b0
        clear b0
        refine ⟨_, rfl, KTdca, ?_⟩
        simp only [List.setIfInBounds_toArray, List.set_cons_zero, List.set_cons_succ]
        refine hold_call (i := 9) (d := 40) (listed' := #[true, true, true, true, true, true, true, true, true, true, true, true, false, false]) rfl (by kernel_rfl) rfl (by rfl) (by kernel_rfl) ?eTdcab (spread_parts (q0 := q1) (ahead := pp) (behind := 0) (H1.out.step KTdca) hp10 (by omega) HL1.out HV1.out) ?_
        case eTdcab => go_simp
        rintro e wsTdcab ⟨g1, c1, rfl, R1, lo1, hi1, b1⟩
        have sTdcab := b1.size
        have KTdcab := KTdca.trans (b1.mono KTdca.size)
        replace X9 := X9.below b1
        replace X8 := X8.below b1
        replace R0 := R0.below (b1.mono (by omega))
        clear b1
        refine ⟨_, rfl, KTdcab, ?_⟩
        simp only [List.setIfInBounds_toArray, List.set_cons_zero, List.set_cons_succ]
        have o8 := four_new (w := wsTdcab) (p := p8) (a := (.slice ua0 m0.n l0.cap)) (b := (.slice na0 kk0 nc0)) (c := .slice (some ⟨q0, 0, none⟩) 2 2) (d := .slice (some ⟨g0, 0, none⟩) N c0)
        have Y8 := X8.put (a' := (.slice ua0 m0.n l0.cap)) (b' := (.slice na0 kk0 nc0)) (c' := .slice (some ⟨q0, 0, none⟩) 2 2) (d' := .slice (some ⟨g0, 0, none⟩) N c0)
        have Y9 := X9.only o8 (by show ¬ (_ = _); omega)
        have L8 := o8.below (B := w0.heap.size) fun j hj => by have hj' : j = p8 := hj; omega
        have K8 := KTdcab.trans L8
        have i0 := X8.c0
        have i1 := X8.c1
        have i2 := X8.c2
        have i3 := X8.c3
        have j0 := X8.fz 0
        have j1 := X8.fz 1
        have j2 := X8.fz 2
        have j3 := X8.fz 3
        refine hold_store (i := 12) (w' := (((wsTdcab.setCell ⟨p8, 0, none⟩ (.slice ua0 m0.n l0.cap)).setCell ⟨p8, 1, none⟩ (.slice na0 kk0 nc0)).setCell ⟨p8, 2, none⟩ (.slice (some ⟨q0, 0, none⟩) 2 2)).setCell ⟨p8, 3, none⟩ (.slice (some ⟨g0, 0, none⟩) N c0)) (listed' := #[true, true, true, true, true, true, true, true, true, true, true, true, true, false]) rfl (by kernel_rfl) rfl (by rfl) (by kernel_rfl) ?stTdcaba K8 ?_
        case stTdcaba =>
          go_simp
          try with_reducible rfl
        have o9 := four_new (w := (((wsTdcab.setCell ⟨p8, 0, none⟩ (.slice ua0 m0.n l0.cap)).setCell ⟨p8, 1, none⟩ (.slice na0 kk0 nc0)).setCell ⟨p8, 2, none⟩ (.slice (some ⟨q0, 0, none⟩) 2 2)).setCell ⟨p8, 3, none⟩ (.slice (some ⟨g0, 0, none⟩) N c0)) (p := p9) (a := (.slice ua1 m1.n l1.cap)) (b := (.slice na1 kk1 nc1)) (c := .slice (some ⟨q1, 0, none⟩) 2 2) (d := .slice (some ⟨g1, 0, none⟩) N c1)
        have U9 := Y9.put (a' := (.slice ua1 m1.n l1.cap)) (b' := (.slice na1 kk1 nc1)) (c' := .slice (some ⟨q1, 0, none⟩) 2 2) (d' := .slice (some ⟨g1, 0, none⟩) N c1)
        have U8 := Y8.only o9 (by show ¬ (_ = _); omega)
        have L9 := o9.below (B := w0.heap.size) fun j hj => by have hj' : j = p9 := hj; omega
        have K9 := K8.trans L9
        clear i0 i1 i2 i3 j0 j1 j2 j3
        have i0 := Y9.c0
        have i1 := Y9.c1
        have i2 := Y9.c2
        have i3 := Y9.c3
        have j0 := Y9.fz 0
        have j1 := Y9.fz 1
        have j2 := Y9.fz 2
        have j3 := Y9.fz 3
        refine hold_store (i := 13) (w' := (((((((wsTdcab.setCell ⟨p8, 0, none⟩ (.slice ua0 m0.n l0.cap)).setCell ⟨p8, 1, none⟩ (.slice na0 kk0 nc0)).setCell ⟨p8, 2, none⟩ (.slice (some ⟨q0, 0, none⟩) 2 2)).setCell ⟨p8, 3, none⟩ (.slice (some ⟨g0, 0, none⟩) N c0)).setCell ⟨p9, 0, none⟩ (.slice ua1 m1.n l1.cap)).setCell ⟨p9, 1, none⟩ (.slice na1 kk1 nc1)).setCell ⟨p9, 2, none⟩ (.slice (some ⟨q1, 0, none⟩) 2 2)).setCell ⟨p9, 3, none⟩ (.slice (some ⟨g1, 0, none⟩) N c1)) (listed' := #[true, true, true, true, true, true, true, true, true, true, true, true, true, true]) rfl (by kernel_rfl) rfl (by rfl) (by kernel_rfl) ?stTdcabb K9 ?_
        case stTdcabb =>
          go_simp
          try with_reducible rfl
        refine hold_done (by kernel_rfl) ?_ _
        have z8 := o8.size
        have z9 := o9.size
        have V0' := Lib.hid (rowUp ((R0.only o8 (by show ¬ (_ = _); omega)).only o9 (by show ¬ (_ = _); omega)) (by omega))
        have V1' := Lib.hid (rowUp ((R1.only o8 (by show ¬ (_ = _); omega)).only o9 (by show ¬ (_ = _); omega)) (by omega))
        have HU8 := Lib.hid U8
        have HU9 := Lib.hid U9
        have HK9 := Lib.hid K9
        clear i0 i1 i2 i3 j0 j1 j2 j3 U8 U9 K9 o8 o9 Y8 Y9 L8 L9 K8 X8 X9 R0 R1
        go_wp2_with fail
        go_meet
        exact ⟨p8, p9, g0, c0, g1, c1, rfl, rfl, HU8.out, HU9.out, V0'.out, V1'.out, HK9.out, by omega, by omega, by omega, by omega⟩

  case rest =>
    obtain ⟨p8, p9, g0, c0, g1, c1, rfl, rfl, x8, x9, r0, r1, bc, a8, a9, ag0, ag1⟩ := hcut
    have Pc := P0.below bc (by omega)
    have Bc := B0.trans (bc.mono (by omega))
    have eNi : (pp : Int) + (r : Int) + 2 = (N : Int) := by have := HEN.out; omega
    have t0 := Pc.c0
    have t1 := Pc.c1
    have t2 := Pc.c2
    have t3 := Pc.f0
    have t4 := Pc.f1
    have t5 := Pc.f2
    have hsc := bc.size
    have l8 := x8.lt
    have l9 := x9.lt
    have X8 := Lib.hid x8
    have X9 := Lib.hid x9
    have R0 := Lib.hid r0
    have R1 := Lib.hid r1
    clear x8 x9 r0 r1 P0 B0 bc
    go_wp2_with fail
    have hon := set3_only wc w.heap.size (.int .i64 (N : Int)) (.func (.func 105) #[] #[.pointer (some ⟨p8, 0, none⟩), .pointer (some ⟨p9, 0, none⟩)]) (.func (.func 107) #[] #[.pointer (some ⟨p8, 0, none⟩), .pointer (some ⟨p9, 0, none⟩)])
    have hT := told3 (x := .int .i64 (N : Int)) (y := .func (.func 105) #[] #[.pointer (some ⟨p8, 0, none⟩), .pointer (some ⟨p9, 0, none⟩)]) (z := .func (.func 107) #[] #[.pointer (some ⟨p8, 0, none⟩), .pointer (some ⟨p9, 0, none⟩)]) Pc.c0 Pc.c1 Pc.c2
    generalize ((wc.setCell ⟨w.heap.size, 0, none⟩ (.int .i64 (N : Int))).setCell ⟨w.heap.size, 1, none⟩ (.func (.func 105) #[] #[.pointer (some ⟨p8, 0, none⟩), .pointer (some ⟨p9, 0, none⟩)])).setCell ⟨w.heap.size, 2, none⟩ (.func (.func 107) #[] #[.pointer (some ⟨p8, 0, none⟩), .pointer (some ⟨p9, 0, none⟩)]) = W2 at hon hT ⊢
    have hz := hon.size
    have f0 := hT.1
    have f1 := hT.2.1
    have f2 := hT.2.2
    have BF := Bc.trans (hon.below fun j hj => by have hj' : j = w.heap.size := hj; omega)
    have x8' := X8.out.only hon (by show ¬ (_ = _); omega)
    have x9' := X9.out.only hon (by show ¬ (_ = _); omega)
    have r0' := rowUp (R0.out.only hon (by show ¬ (_ = _); omega)) (by omega)
    have r1' := rowUp (R1.out.only hon (by show ¬ (_ = _); omega)) (by omega)
    refine bodyPost_ret (v := .tuple #[.agg #[.int .i64 (N : Int), .func (.func 105) #[] #[.pointer (some ⟨p8, 0, none⟩), .pointer (some ⟨p9, 0, none⟩)], .func (.func 107) #[] #[.pointer (some ⟨p8, 0, none⟩), .pointer (some ⟨p9, 0, none⟩)]], .bool true]) (by simp [results, Try.results83, go_sem, f0, f1, f2]) rfl
      ⟨BF, .inr ⟨rfl, _, rfl, ⟨⟨_, _, _, _, _, _, rfl, glued_below (HH0.out.step BF) (HH1.out.step BF) x8' x9' r0' r1' (by have := HEN.out; omega) v0 v1, glued_not (HH0.out.step BF) (HH1.out.step BF) x8' x9' r0' r1' (by have := HEN.out; omega) v0 v1 HE0.out (fun x hx hv => HE1.out x hx (by omega))⟩⟩⟩⟩
end Go.Proofs.Ytanhogaekdcooaa
