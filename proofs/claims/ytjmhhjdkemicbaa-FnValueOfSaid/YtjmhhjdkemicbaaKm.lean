/- The draws of ValueOf and AlwaysOk: a logic, and a text behind it. -/
import Derived.Test.YtjmhhjdkemicbaaKk
import Derived.Test.YtjmhhjdkemicbaaYw
namespace Go.Proofs.Ytjmhhjdkemicbaa
open Go.RowKit Go.Deep

theorem MatAt.chg {S : Nat → Prop} {w w' : World} {B b0 : Nat} {a : Option Addr} {l : Lay} {m : Mx} (h : MatAt w B a l m) (hf : LayFrom b0 l m) (hc : Chg S w w') (hS : ∀ j, S j → j < b0) : MatAt w' B a l m :=
  ⟨fun r hr => by
    obtain ⟨e1, e2, e3⟩ := h.top r hr
    exact ⟨e1, e2, hc.at_ (p := ⟨l.b, l.o + r, none⟩) (fun hs => by have := hS _ hs; have := hf.top r hr; have : l.b < b0 := hS _ hs; omega) e3⟩,
  fun r hr c hcc => by
    obtain ⟨e1, e2, e3⟩ := h.row r hr c hcc
    exact ⟨e1, e2, hc.at_ (p := ⟨l.G r, l.O r + c, none⟩) (fun hs => by have : l.G r < b0 := hS _ hs; have := hf.row r hr c hcc; omega) e3⟩⟩
theorem AgS.chg {w1 : World} {d rb n c p x1 : Nat} {A : Option Addr} {ua : Option Addr} {l : Lay} {m : Mx} {na : Option Addr} {g o k nc : Nat} {z : Nat → Int} {y y' : World} {p' : Nat} (h : AgS w1 d rb A n c p x1 ua l m na g o k nc z y) (hc : Chg (fun j => j = rb) y y') (hr : Rd y' rb A n c p') : AgS w1 d rb A n c p' x1 ua l m na g o k nc z y' := by
  have hs := hc.size
  have hd := h.hd
  have hrb := h.hrb
  have hx := h.hx
  refine ⟨hc.two h.res (by show ¬ (_ = rb); omega), hc.two h.box (by show ¬ (_ = rb); omega), hr, h.old.trans hc, ⟨(h.log.mat.chg h.lay hc (fun j hj => by have hj' : j = rb := hj; omega)).more (by omega), ⟨fun i hi => ?_⟩, h.log.hn, h.log.hL, h.log.hk, Nat.le_refl _⟩, h.lay, h.from_, hd, hrb, hx, by have := h.hxs; omega, h.h12, h.hL, h.hk⟩
  obtain ⟨e1, e2, e3⟩ := h.log.row.row i hi
  have hg := h.from_ (by omega)
  exact ⟨e1, by omega, hc.at_ (p := ⟨g, o + i, none⟩) (by show ¬ (g = rb); omega) e3⟩
/-- A logic and a text (and three numbers) drawn. -/
def DrewS (w : World) (e : Ending) (w' : World) : Prop :=
  ∃ (ua : Option Addr) (l : Lay) (m : Mx) (na : Option Addr) (g o k nc : Nat) (z : Nat → Int) (s : ByteArray), e = .returned (.tuple #[.agg #[.slice ua m.n l.cap, .slice na k nc], .string s]) ∧ s.size ≤ 60 ∧ Fresh w ua l m na g o k z w'
def DrewS3 (w : World) (e : Ending) (w' : World) : Prop :=
  ∃ (ua : Option Addr) (l : Lay) (m : Mx) (na : Option Addr) (g o k nc : Nat) (z : Nat → Int) (s : ByteArray) (x y t : Int), e = .returned (.tuple #[.agg #[.slice ua m.n l.cap, .slice na k nc], .string s, .int .i64 x, .int .i64 y, .int .i64 t]) ∧ s.size ≤ 60 ∧ Fresh w ua l m na g o k z w'
set_option maxRecDepth 100000 in
set_option maxHeartbeats 4000000 in
theorem draw_ValueOf {A : Option Addr} {b o n cap : Nat} {z : Nat → Nat} {w : World} (h : CodeAt w A b o n cap z) :
    Calls Try.prog 15 #[.slice A n cap] w (DrewS3 w) := by
  have hT := TwoAt.new w (.slice none 0 0) (.slice none 0 0) 30
  have hbA := (Below.refl w.heap.size w).alloc (Nat.le_refl _) (.cells #[.slice none 0 0, .slice none 0 0] 30)
  have hc := h.alloc (.cells #[.slice none 0 0, .slice none 0 0] 30)
  go_enter Try.func15, Try.ntmps15
  go_wp2_with fail
  go_at_call 31
  refine (l20Open_any hc).mono ?_
  rintro e w1 ⟨A1, b1, o1, n1, c1, z1, rfl, hn1, hR, hz, hb, hs⟩
  have hsA : (w.alloc (.cells #[.slice none 0 0, .slice none 0 0] 30)).heap.size = w.heap.size + 1 := by simp
  have hT1 := hT.below hb (by omega)
  rw [hsA] at hR hz hs hb
  have hs' : w.heap.size + 1 < w1.heap.size := by omega
  have hbw : Below w.heap.size w w1 := hbA.trans (hb.mono (by omega))
  have HZ := Lib.hid hz
  have HBY : ∀ {wx : World}, Chg (fun j => j = w.heap.size + 1) w1 wx → BytesAt wx (w.heap.size + 1) A1 b1 o1 n1 z1 := fun hG => HZ.out.below (hG.below (by omega) (fun j hj => by have hj' : j = w.heap.size + 1 := hj; omega))
  have hbw9 := Lib.hid hbw
  clear h hc hT hs hbA hb hbw
  go_wp2_with fail
  go_at_call 35
  refine (l20ThreeR_any (by omega) (by omega) hn1 hR hz (Nat.le_refl _) hs').mono ?_
  rintro e w2 ⟨ua, l, m, na, g, o2, k, nc, zz, x, v, t, p, rfl, hlog, hf, hg, hn, hL, hk, hC, hR2, hp⟩
  have hs2 := hC.size
  have hst : AgS w1 w.heap.size (w.heap.size + 1) A1 n1 c1 p w2.heap.size ua l m na g o2 k nc zz (w2.alloc (.cells #[.slice ua m.n l.cap, .slice na k nc] 30)) := by
    have hcX := Chg.alloc (fun _ => False) w2 (.cells #[.slice ua m.n l.cap, .slice na k nc] 30)
    have hlx := hlog.alloc (.cells #[.slice ua m.n l.cap, .slice na k nc] 30)
    refine ⟨hcX.two (hC.two hT1 (by show ¬ (w.heap.size = w.heap.size + 1); omega)) (fun e => e), TwoAt.new w2 (.slice ua m.n l.cap) (.slice na k nc) 30, hcX.rd hR2 (by omega) (fun e => e), hC.trans (hcX.mono fun _ e => e.elim), ⟨hlx.mat.more (by simp), ⟨fun i hi => ?_⟩, hlx.hn, hlx.hL, hlx.hk, Nat.le_refl _⟩, hf, hg, by omega, by omega, hs2, by simp, hn, hL, hk⟩
    obtain ⟨e1, e2, e3⟩ := hlx.row.row i hi
    exact ⟨e1, by simp; omega, e3⟩
  have hH := Lib.hid hn1
  clear hlog hf hg hn hL hk hC hR2 hR hz hT1 hs2 hsA
  have c0 := hst.box.c0
  have c1 := hst.box.c1
  go_wp2_with fail
  generalize w2.alloc (.cells #[.slice ua m.n l.cap, .slice na k nc] 30) = W at hst c0 c1 ⊢
  have hst := hst.below (Below.refl _ W).drew
  have hrbd : w.heap.size + 1 < W.drew.heap.size := by have := hst.hx; have := hst.hxs; have := hst.hrb; omega
  have K0 : (fun w' => w'.cell? ⟨w2.heap.size, 0, none⟩ = some (.slice ua m.n l.cap) ∧ w'.cell? ⟨w2.heap.size, 1, none⟩ = some (.slice na k nc)) W.drew := ⟨hst.box.c0, hst.box.c1⟩
  clear c0 c1
  refine region_plain (fuel := 11) (listed := #[false, false, false, false, false, false, false, false, false, false, false]) (fun w' => w'.cell? ⟨w2.heap.size, 0, none⟩ = some (.slice ua m.n l.cap) ∧ w'.cell? ⟨w2.heap.size, 1, none⟩ = some (.slice na k nc)) (by kernel_rfl) (by kernel_rfl) (by kernel_rfl) ?_
  refine hold_take (i := 0) (d := 21) (v := ?vV0) (listed' := #[true, false, false, false, false, false, false, false, false, false, false]) rfl (by kernel_rfl) (by kernel_rfl) (by kernel_rfl) rfl (by rfl) (by kernel_rfl) K0 ?hV0 ?rV0
  case hV0 =>
    intro w' hSw
    obtain ⟨k0, k1⟩ := hSw
    go_simp
    try with_reducible rfl
  simp only [List.setIfInBounds_toArray, List.set_cons_zero, List.set_cons_succ]
  refine hold_take (i := 1) (d := 22) (v := ?vV1) (listed' := #[true, true, false, false, false, false, false, false, false, false, false]) rfl (by kernel_rfl) (by kernel_rfl) (by kernel_rfl) rfl (by rfl) (by kernel_rfl) K0 ?hV1 ?rV1
  case hV1 =>
    intro w' hSw
    obtain ⟨k0, k1⟩ := hSw
    go_simp
    try with_reducible rfl
  simp only [List.setIfInBounds_toArray, List.set_cons_zero, List.set_cons_succ]
  refine hold_take (i := 3) (d := 24) (v := ?vV3) (listed' := #[true, true, false, true, false, false, false, false, false, false, false]) rfl (by kernel_rfl) (by kernel_rfl) (by kernel_rfl) rfl (by rfl) (by kernel_rfl) K0 ?hV3 ?rV3
  case hV3 =>
    intro w' hSw
    obtain ⟨k0, k1⟩ := hSw
    go_simp
    try with_reducible rfl
  simp only [List.setIfInBounds_toArray, List.set_cons_zero, List.set_cons_succ]
  refine hold_take (i := 4) (d := 25) (v := ?vV4) (listed' := #[true, true, false, true, true, false, false, false, false, false, false]) rfl (by kernel_rfl) (by kernel_rfl) (by kernel_rfl) rfl (by rfl) (by kernel_rfl) K0 ?hV4 ?rV4
  case hV4 =>
    intro w' hSw
    obtain ⟨k0, k1⟩ := hSw
    go_simp
    try with_reducible rfl
  simp only [List.setIfInBounds_toArray, List.set_cons_zero, List.set_cons_succ]
  refine hold_take (i := 5) (d := 26) (v := ?vV5) (listed' := #[true, true, false, true, true, true, false, false, false, false, false]) rfl (by kernel_rfl) (by kernel_rfl) (by kernel_rfl) rfl (by rfl) (by kernel_rfl) K0 ?hV5 ?rV5
  case hV5 =>
    intro w' hSw
    obtain ⟨k0, k1⟩ := hSw
    go_simp
    try with_reducible rfl
  simp only [List.setIfInBounds_toArray, List.set_cons_zero, List.set_cons_succ]
  refine hold_call (i := 2) (d := 23) (listed' := #[true, true, true, true, true, true, false, false, false, false, false]) rfl (by kernel_rfl) rfl (by rfl) (by kernel_rfl) ?heV2 (formed_any (q := 14) (by omega) (by omega) (by omega) hH.out hst.rd (HBY hst.old) (Nat.le_refl _) hrbd) ?hcV2
  case heV2 => go_simp
  rintro e y1 ⟨s, p2, rfl, hs60, hR2, hp2, hC2⟩
  have hst1 := hst.chg hC2 hR2
  have K1 : (fun w' => w'.cell? ⟨w2.heap.size, 0, none⟩ = some (.slice ua m.n l.cap) ∧ w'.cell? ⟨w2.heap.size, 1, none⟩ = some (.slice na k nc)) y1 := ⟨hst1.box.c0, hst1.box.c1⟩
  clear hst hR2 hC2 K0
  refine ⟨_, rfl, K1, ?_⟩
  simp only [List.setIfInBounds_toArray, List.set_cons_zero, List.set_cons_succ]
  have d0 := hst1.res.c0
  have d1 := hst1.res.c1
  have d2 := hst1.res.f0
  have d3 := hst1.res.f1
  have K2 : (fun w' => w'.cell? ⟨w2.heap.size, 0, none⟩ = some (.slice ua m.n l.cap) ∧ w'.cell? ⟨w2.heap.size, 1, none⟩ = some (.slice na k nc)) ((y1.setCell ⟨w.heap.size, 0, none⟩ (.slice ua m.n l.cap)).setCell ⟨w.heap.size, 1, none⟩ (.slice na k nc)) := ⟨hst1.boxPut.c0, hst1.boxPut.c1⟩
  refine hold_store (i := 6) (w' := ((y1.setCell ⟨w.heap.size, 0, none⟩ (.slice ua m.n l.cap)).setCell ⟨w.heap.size, 1, none⟩ (.slice na k nc))) (listed' := #[true, true, true, true, true, true, true, false, false, false, false]) rfl (by kernel_rfl) rfl (by rfl) (by kernel_rfl) ?hsV6 K2 ?hkV6
  case hsV6 => go_simp
  refine hold_take (i := 7) (d := 3) (v := ?vV7) (listed' := #[true, true, true, true, true, true, true, true, false, false, false]) rfl (by kernel_rfl) (by kernel_rfl) (by kernel_rfl) rfl (by rfl) (by kernel_rfl) K2 ?hV7 ?rV7
  case hV7 =>
    intro w' hSw
    obtain ⟨k0, k1⟩ := hSw
    go_simp
    try with_reducible rfl
  simp only [List.setIfInBounds_toArray, List.set_cons_zero, List.set_cons_succ]
  refine hold_take (i := 8) (d := 4) (v := ?vV8) (listed' := #[true, true, true, true, true, true, true, true, true, false, false]) rfl (by kernel_rfl) (by kernel_rfl) (by kernel_rfl) rfl (by rfl) (by kernel_rfl) K2 ?hV8 ?rV8
  case hV8 =>
    intro w' hSw
    obtain ⟨k0, k1⟩ := hSw
    go_simp
    try with_reducible rfl
  simp only [List.setIfInBounds_toArray, List.set_cons_zero, List.set_cons_succ]
  refine hold_take (i := 9) (d := 5) (v := ?vV9) (listed' := #[true, true, true, true, true, true, true, true, true, true, false]) rfl (by kernel_rfl) (by kernel_rfl) (by kernel_rfl) rfl (by rfl) (by kernel_rfl) K2 ?hV9 ?rV9
  case hV9 =>
    intro w' hSw
    obtain ⟨k0, k1⟩ := hSw
    go_simp
    try with_reducible rfl
  simp only [List.setIfInBounds_toArray, List.set_cons_zero, List.set_cons_succ]
  refine hold_take (i := 10) (d := 6) (v := ?vV10) (listed' := #[true, true, true, true, true, true, true, true, true, true, true]) rfl (by kernel_rfl) (by kernel_rfl) (by kernel_rfl) rfl (by rfl) (by kernel_rfl) K2 ?hV10 ?rV10
  case hV10 =>
    intro w' hSw
    obtain ⟨k0, k1⟩ := hSw
    go_simp
    try with_reducible rfl
  simp only [List.setIfInBounds_toArray, List.set_cons_zero, List.set_cons_succ]
  refine hold_done (by kernel_rfl) ?_ _
  have hfin := (hst1.res.set0 (.slice ua m.n l.cap)).set1 (.slice na k nc)
  have t0 := hfin.c0
  have t1 := hfin.c1
  have hall := Lib.hid (hst1.fresh hbw9.out)
  clear hst1 hfin d0 d1 d2 d3
  go_wp2_with fail
  exact bodyPost_ret (v := .tuple #[.agg #[.slice ua m.n l.cap, .slice na k nc], .string s, .int .i64 x, .int .i64 v, .int .i64 t]) (by simp [results, Try.results15, go_sem, t0, t1]) rfl ⟨ua, l, m, na, g, o2, k, nc, zz, s, x, v, t, rfl, hs60, hall.out⟩
end Go.Proofs.Ytjmhhjdkemicbaa
