/- The walks of the program's functions on logics. -/
import Derived.Test.YtgjacinolenheaaOf
namespace Go.Proofs.Ytgjacinolenheaa
open Go.RowKit Go.Deep

/-- A variable of three cells. -/
structure ThreeAt (w : World) (p : Nat) (u v x : Value) : Prop where
  c0 : w.cell? ⟨p, 0, none⟩ = some u
  c1 : w.cell? ⟨p, 1, none⟩ = some v
  c2 : w.cell? ⟨p, 2, none⟩ = some x
  f0 : w.frozen? ⟨p, 0, none⟩ = false
  f1 : w.frozen? ⟨p, 1, none⟩ = false
  f2 : w.frozen? ⟨p, 2, none⟩ = false
theorem ThreeAt.new (w : World) (x y z : Value) (t : TypeId) : ThreeAt (w.alloc (.cells #[x, y, z] t)) w.heap.size x y z := by
  have h := World.alloc_heap_new w (.cells #[x, y, z] t)
  exact ⟨by simp only [World.cell?, h]; rfl, by simp only [World.cell?, h]; rfl, by simp only [World.cell?, h]; rfl, by simp only [World.frozen?, h]; rfl, by simp only [World.frozen?, h]; rfl, by simp only [World.frozen?, h]; rfl⟩
theorem ThreeAt.below {w w' : World} {p B : Nat} {u v x : Value} (h : ThreeAt w p u v x) (hb : Below B w w') (hp : p < B) : ThreeAt w' p u v x :=
  ⟨(hb.cell (p := ⟨p, 0, none⟩) hp).trans h.c0, (hb.cell (p := ⟨p, 1, none⟩) hp).trans h.c1, (hb.cell (p := ⟨p, 2, none⟩) hp).trans h.c2, (hb.frozen (p := ⟨p, 0, none⟩) hp).trans h.f0, (hb.frozen (p := ⟨p, 1, none⟩) hp).trans h.f1, (hb.frozen (p := ⟨p, 2, none⟩) hp).trans h.f2⟩
theorem Alg.only {S : Nat → Prop} {w w' : World} {ob tb : Nat} {tG : Nat → Nat} {sa : Option Addr} {l : Lay} {m : Mx} (h : Alg w ob tb tG sa l m) (ho : OnlyIn S w w') (h0 : ¬ S ob) (h1 : ¬ S tb) (h2 : ∀ r, ¬ S (tG r)) : Alg w' ob tb tG sa l m :=
  ⟨h.own.only ho h1 fun r _ => h2 r, by have := h.lt; have := ho.size; omega, (World.cell?_of_block (w := w) (ho.block ob h0)).trans h.op0, (World.cell?_of_block (w := w) (ho.block ob h0)).trans h.op1⟩

def noAlg : Value := .agg #[.slice none 0 0, .slice none 0 0, .slice none 0 0]
/-- What algebraWith hands back. -/
def WithAlg (w : World) (sa : Option Addr) (l : Lay) (m : Mx) (na : Option Addr) (k nc : Nat) (ok : Bool) (e : Ending) (w' : World) : Prop :=
  Below w.heap.size w w' ∧ ((ok = true ∧ ∃ (ob tb : Nat) (tG : Nat → Nat), e = .returned (.tuple #[algV sa l m na k nc ob, .bool true]) ∧ Alg w' ob tb tG sa l m) ∨ (ok = false ∧ e = .returned (.tuple #[noAlg, .bool false])))
theorem set3_only (v : World) (p : Nat) (x y z : Value) : OnlyIn (fun q => q = p) v (((v.setCell ⟨p, 0, none⟩ x).setCell ⟨p, 1, none⟩ y).setCell ⟨p, 2, none⟩ z) :=
  (((OnlyIn.refl (fun q => q = p) v).set (b := p) rfl 0 x).set (b := p) rfl 1 y).set (b := p) rfl 2 z

set_option maxRecDepth 100000 in
set_option maxHeartbeats 2000000 in
theorem algebraWith_any {w : World} {B tg to q tc : Nat} {ua ta : Option Addr} {l : Lay} {m : Mx} {na : Option Addr} {g o k nc : Nat} {z zz : Nat → Int} (h : LogAt w B ua l m na g o k z) (ht : RowAt w w.heap.size ta tg to q zz) (hq : q ≤ 1000) :
    Calls Try.prog 66 #[.agg #[.slice ua m.n l.cap, .slice na k nc], .slice ta q tc] w (WithAlg w ua l m na k nc (logicB m k z && goodB m.n q zz)) := by
  have hX := BoxN.start w #[.slice ua m.n l.cap, .slice na k nc] 27
  have hV := ThreeAt.new (w.alloc (.cells #[.slice ua m.n l.cap, .slice na k nc] 27)) (.slice none 0 0) (.slice none 0 0) (.slice none 0 0) 65
  rw [World.size_alloc] at hV
  have b2 := (Below.refl (w.heap.size + 1) (w.alloc (.cells #[.slice ua m.n l.cap, .slice na k nc] 27))).alloc (by simp) (.cells #[.slice none 0 0, .slice none 0 0, .slice none 0 0] 65)
  have hX2 := hX.step (b2.mono (by simp))
  have bw := hX2.below
  have hge : ((w.alloc (.cells #[.slice ua m.n l.cap, .slice na k nc] 27)).alloc (.cells #[.slice none 0 0, .slice none 0 0, .slice none 0 0] 65)).heap.size ≥ w.heap.size + 2 := by simp
  have h2 := Lib.hid (h.step bw)
  have ht2 := Lib.hid (ht.below bw)
  clear h ht hX b2
  go_enter Try.func66, Try.ntmps66
  generalize hW : (w.alloc (.cells #[.slice ua m.n l.cap, .slice na k nc] 27)).alloc (.cells #[.slice none 0 0, .slice none 0 0, .slice none 0 0] 65) = W at hV hX2 bw hge h2 ht2
  have q0 := hX2.cell 0 rfl
  have q1 := hX2.cell 1 rfl
  cases ho : orderB m with
  | false =>
    have HO := Lib.hid ho
    have HF : Hid ((logicB m k z && goodB m.n q zz) = false) := by show _ = _; rw [logicB_false fun h => orderB_not ho h.lat.order]; rfl
    clear ho
    go_wp2_with fail
    go_at_call 58
    refine (orderWith_no h2.out.hn h2.out.hL h2.out.mat h2.out.hB HO.out).mono ?_
    rintro e w1 ⟨rfl, b1⟩
    clear hW q0 q1
    have b3 := b1.alloc b1.size (.cells #[.slice none 0 0] 62)
    have hV3 := hV.below b3 (by omega)
    have B3 := bw.trans (b3.mono (by omega))
    have v0 := hV3.c0
    have v1 := hV3.c1
    have v2 := hV3.c2
    have v3 := hV3.f0
    have v4 := hV3.f1
    have v5 := hV3.f2
    go_wp2_with fail
    have hT := told3 (x := .slice none 0 0) (y := .slice none 0 0) (z := .slice none 0 0) v0 v1 v2
    have t0 := hT.1
    have t1 := hT.2.1
    have t2 := hT.2.2
    refine bodyPost_ret (v := .tuple #[noAlg, .bool false]) (by simp [results, Try.results66, go_sem, t0, t1, t2, noAlg]) rfl ⟨B3.trans ((set3_only _ _ _ _ _).below fun j hj => by have hj' : j = w.heap.size + 1 := hj; omega), .inr ⟨HF.out, rfl⟩⟩
  | true =>
    have HO := Lib.hid ho
    clear ho
    go_wp2_with fail
    go_at_call 58
    refine (orderWith_ok h2.out.hn h2.out.hL (h2.out.mat.more h2.out.hB) (Nat.le_refl _) hq (z := zz) (g := tg) (o := to) ⟨fun c hc => by obtain ⟨a1, a2, a3⟩ := ht2.out.row c hc; exact ⟨a1, by omega, a3⟩⟩ HO.out).mono ?_
    rintro e w1 ⟨(⟨hg, rfl⟩ | ⟨hg, rfl⟩), b1⟩
    · clear hW q0 q1
      have hbx := Boxd.start w1 (.slice ua m.n l.cap) 62
      have b3 := b1.alloc b1.size (.cells #[.slice ua m.n l.cap] 62)
      have hs1 := b1.size
      have hV3 := hV.below b3 (by omega)
      have B3 := bw.trans (b3.mono (by omega))
      have hX3 := hX2.step b3
      have h3 := Lib.hid (h2.out.step b3)
      have hsz : (w1.alloc (.cells #[.slice ua m.n l.cap] 62)).heap.size ≥ w1.heap.size + 1 := by simp
      generalize hW3 : w1.alloc (.cells #[.slice ua m.n l.cap] 62) = W3 at hbx b3 hV3 B3 hX3 h3 hsz
      have r0 := hX3.cell 0 rfl
      have r1 := hX3.cell 1 rfl
      cases hl : logicB m k z with
      | false =>
        have HL := Lib.hid hl
        have HF : Hid ((logicB m k z && goodB m.n q zz) = false) := by show (logicB m k z && goodB m.n q zz) = false; rw [hl]; rfl
        clear hl
        go_wp2_with fail
        go_at_call 19
        refine (LogicOk_any h3.out).mono ?_
        rintro e w4 ⟨rfl, b4⟩
        rw [HL.out]
        clear hW3 r0 r1
        have hV4 := hV3.below b4 (by omega)
        have B4 := B3.trans (b4.mono (by omega))
        have v0 := hV4.c0
        have v1 := hV4.c1
        have v2 := hV4.c2
        have v3 := hV4.f0
        have v4 := hV4.f1
        have v5 := hV4.f2
        go_wp2_with fail
        have hT := told3 (x := .slice none 0 0) (y := .slice none 0 0) (z := .slice none 0 0) v0 v1 v2
        have t0 := hT.1
        have t1 := hT.2.1
        have t2 := hT.2.2
        refine bodyPost_ret (v := .tuple #[noAlg, .bool false]) (by simp [results, Try.results66, go_sem, t0, t1, t2, noAlg]) rfl ⟨B4.trans ((set3_only _ _ _ _ _).below fun j hj => by have hj' : j = w.heap.size + 1 := hj; omega), .inr ⟨HF.out, rfl⟩⟩
      | true =>
        have HL := Lib.hid hl
        have hord := orderB_is HO.out
        have HG : Hid ((logicB m k z && goodB m.n q zz) = true) := by show (logicB m k z && goodB m.n q zz) = true; rw [hl, hg]; rfl
        clear hl
        go_wp2_with fail
        go_at_call 19
        refine (LogicOk_any h3.out).mono ?_
        rintro e w4 ⟨rfl, b4⟩
        rw [HL.out]
        clear hW3 r0 r1
        have hV4 := hV3.below b4 (by omega)
        have B4 := B3.trans (b4.mono (by omega))
        have hbx4 := hbx.step b4
        have hX4 := hX3.step b4
        have h4 := Lib.hid ((h3.out.step b4).sq hord)
        have r0 := hX4.cell 0 rfl
        have r1 := hX4.cell 1 rfl
        have r2 := hbx4.cell
        have hs4 := b4.size
        clear hord
        go_wp2_with fail
        go_at_call 55
        refine (algebraOf_any h4.out).mono ?_
        rintro e w5 ⟨ob, tb, tG, rfl, b5, hA, o1, o2, o3⟩
        clear r0 r1 r2
        have hV5 := hV4.below b5 (by omega)
        have B5 := B4.trans (b5.mono (by omega))
        have HA := Lib.hid hA
        clear hA
        unfold algV
        have v0 := hV5.c0
        have v1 := hV5.c1
        have v2 := hV5.c2
        have v3 := hV5.f0
        have v4 := hV5.f1
        have v5 := hV5.f2
        go_wp2_with fail
        have hT := told3 (x := .slice ua m.n l.cap) (y := .slice na k nc) (z := .slice (some ⟨ob, 0, none⟩) 2 2) v0 v1 v2
        have t0 := hT.1
        have t1 := hT.2.1
        have t2 := hT.2.2
        have hon := set3_only w5 (w.heap.size + 1) (.slice ua m.n l.cap) (.slice na k nc) (.slice (some ⟨ob, 0, none⟩) 2 2)
        refine bodyPost_ret (v := .tuple #[algV ua l m na k nc ob, .bool true]) (by simp [results, Try.results66, go_sem, t0, t1, t2, algV]) rfl
          ⟨B5.trans (hon.below fun j hj => by have hj' : j = w.heap.size + 1 := hj; omega), .inl ⟨HG.out, ob, tb, tG, rfl, HA.out.only hon (fun hj => by have hj' : ob = w.heap.size + 1 := hj; omega) (fun hj => by have hj' : tb = w.heap.size + 1 := hj; omega) (fun r hj => by have hj' : tG r = w.heap.size + 1 := hj; have := o3 r; omega)⟩⟩
    · have HF : Hid ((logicB m k z && goodB m.n q zz) = false) := by show _ = _; rw [hg, Bool.and_false]
      clear hW q0 q1
      have b3 := b1.alloc b1.size (.cells #[.slice none 0 0] 62)
      have hV3 := hV.below b3 (by omega)
      have B3 := bw.trans (b3.mono (by omega))
      have v0 := hV3.c0
      have v1 := hV3.c1
      have v2 := hV3.c2
      have v3 := hV3.f0
      have v4 := hV3.f1
      have v5 := hV3.f2
      go_wp2_with fail
      have hT := told3 (x := .slice none 0 0) (y := .slice none 0 0) (z := .slice none 0 0) v0 v1 v2
      have t0 := hT.1
      have t1 := hT.2.1
      have t2 := hT.2.2
      refine bodyPost_ret (v := .tuple #[noAlg, .bool false]) (by simp [results, Try.results66, go_sem, t0, t1, t2, noAlg]) rfl ⟨B3.trans ((set3_only _ _ _ _ _).below fun j hj => by have hj' : j = w.heap.size + 1 := hj; omega), .inr ⟨HF.out, rfl⟩⟩
end Go.Proofs.Ytgjacinolenheaa
