/- The walks of the draws of two logics. -/
import Derived.Test.YtgjacinolenheaaZDn
import Derived.Test.YtgjacinolenheaaZHa
namespace Go.Proofs.Ytgjacinolenheaa
open Go.RowKit Go.Deep

/-- A logic in blocks from base on. -/
structure Kept (base : Nat) (d : LD) (w : World) : Prop where
  log : d.At w w.heap.size
  top : ∀ r, r < d.m.n → base ≤ d.l.b
  row : ∀ r, r < d.m.n → ∀ c, c < d.m.L r → base ≤ d.l.G r
  opp : 0 < d.k → base ≤ d.g
  hn : d.m.n ≤ 12
  hL : ∀ r, r < d.m.n → d.m.L r ≤ 12
  hk : d.k ≤ 12
theorem Kept.chg {S : Nat → Prop} {base : Nat} {d : LD} {w w' : World} (h : Kept base d w) (hc : Chg S w w') (hs : ∀ j, S j → j < base ∨ w.heap.size ≤ j) : Kept base d w' := by
  have hl : LogAt w w.heap.size d.ua d.l d.m d.na d.g d.o d.k d.z := h.log
  have hz := hc.size
  have no : ∀ j, base ≤ j → j < w.heap.size → ¬ S j := fun j h1 h2 e => by rcases hs j e with h3 | h3 <;> omega
  refine ⟨show LogAt w' w'.heap.size d.ua d.l d.m d.na d.g d.o d.k d.z from ⟨⟨fun r hr => ?_, fun r hr c hc' => ?_⟩, ⟨fun c hc' => ?_⟩, hl.hn, hl.hL, hl.hk, Nat.le_refl _⟩, h.top, h.row, h.opp, h.hn, h.hL, h.hk⟩
  · obtain ⟨h1, h2, h3⟩ := hl.mat.top r hr
    exact ⟨h1, by omega, (World.cell?_of_block (w := w) (hc.block _ h2 (no _ (h.top r hr) h2))).trans h3⟩
  · obtain ⟨h1, h2, h3⟩ := hl.mat.row r hr c hc'
    exact ⟨h1, by omega, (World.cell?_of_block (w := w) (hc.block _ h2 (no _ (h.row r hr c hc') h2))).trans h3⟩
  · obtain ⟨h1, h2, h3⟩ := hl.row.row c hc'
    exact ⟨h1, by omega, (World.cell?_of_block (w := w) (hc.block _ h2 (no _ (h.opp (by omega)) h2))).trans h3⟩
/-- Two drawn logics. -/
def DrewP (w : World) (e : Ending) (w' : World) : Prop :=
  ∃ d0 d1 : LD, e = .returned (.tuple #[.agg #[d0.u, d0.t], .agg #[d1.u, d1.t]]) ∧ Kept w.heap.size d0 w' ∧ Kept w.heap.size d1 w' ∧ Below w.heap.size w w'
theorem Kept.base {b b' : Nat} {d : LD} {w : World} (h : Kept b d w) (hb : b' ≤ b) : Kept b' d w :=
  ⟨h.log, fun r hr => Nat.le_trans hb (h.top r hr), fun r hr c hc => Nat.le_trans hb (h.row r hr c hc), fun h0 => Nat.le_trans hb (h.opp h0), h.hn, h.hL, h.hk⟩
theorem four_only (v : World) (p q : Nat) (a b c d : Value) : OnlyIn (fun j => j = p ∨ j = q) v ((((v.setCell ⟨p, 0, none⟩ a).setCell ⟨p, 1, none⟩ b).setCell ⟨q, 0, none⟩ c).setCell ⟨q, 1, none⟩ d) :=
  ((((OnlyIn.refl (fun j => j = p ∨ j = q) v).set (b := p) (.inl rfl) 0 a).set (b := p) (.inl rfl) 1 b).set (b := q) (.inr rfl) 0 c).set (b := q) (.inr rfl) 1 d
set_option maxRecDepth 100000 in
set_option maxHeartbeats 2000000 in
theorem draw_GluedOf {A : Option Addr} {b o n cap : Nat} {z : Nat → Nat} {w : World} (h : CodeAt w A b o n cap z) :
    Calls Try.prog 24 #[.slice A n cap] w (DrewP w) := by
  have hT0 := TwoAt.new w (.slice none 0 0) (.slice none 0 0) 27
  have hT1 := TwoAt.new (w.alloc (.cells #[.slice none 0 0, .slice none 0 0] 27)) (.slice none 0 0) (.slice none 0 0) 27
  have hbA := (Below.refl w.heap.size w).alloc (Nat.le_refl _) (.cells #[.slice none 0 0, .slice none 0 0] 27)
  have hbB := (Below.refl (w.heap.size + 1) (w.alloc (.cells #[.slice none 0 0, .slice none 0 0] 27))).alloc (by simp) (.cells #[.slice none 0 0, .slice none 0 0] 27)
  have hc := (h.alloc (.cells #[.slice none 0 0, .slice none 0 0] 27)).alloc (.cells #[.slice none 0 0, .slice none 0 0] 27)
  simp only [World.size_alloc] at hT1
  replace hT0 := hT0.below hbB (by omega)
  have HB := hbA.trans (hbB.mono (by omega))
  have hsA : ((w.alloc (.cells #[.slice none 0 0, .slice none 0 0] 27)).alloc (.cells #[.slice none 0 0, .slice none 0 0] 27)).heap.size = w.heap.size + 1 + 1 := by simp
  go_enter Try.func24, Try.ntmps24
  go_wp2_with fail
  go_at_call 46
  refine (l20Open_any hc).mono ?_
  rintro e w1 ⟨A1, b1, o1, n1, c1, z1, rfl, hn1, hR, hz, hb, hs⟩
  have hT0' := hT0.below hb (by omega)
  have hT1' := hT1.below hb (by omega)
  have HB' := HB.trans (hb.mono (by omega))
  rw [hsA] at hR hz hs
  have hs' : w.heap.size + 1 + 1 < w1.heap.size := by omega
  have HZ := Lib.hid hz
  have HBY : ∀ {wx : World}, Chg (fun j => j = w.heap.size + 1 + 1) w1 wx → BytesAt wx (w.heap.size + 1 + 1) A1 b1 o1 n1 z1 := fun hG => HZ.out.below (hG.below (by omega) (fun j hj => by have hj' : j = w.heap.size + 1 + 1 := hj; omega))
  have HC : Chg (fun j => j = w.heap.size + 1 + 1) w1 w1 := Chg.refl _ _
  replace hT0 := hT0'
  replace hT1 := hT1'
  replace HB := HB'
  clear h hc hs hT0' hT1' HB' hb hbA hbB hz
  go_wp2_with fail
  go_at_call 61
  refine (l20Logic_any (by omega) (by omega) (by omega) hn1 hR (HBY HC) (Nat.le_refl _) (by omega)).mono ?_
  rintro e v1 ⟨uaa, la, ma, naa, ga, oa, ka, nca, zza, pa, rfl, hlog, hf, hg, hn, hL, hk, hR', hpa, hC⟩
  have Ka : Hid (Kept w1.heap.size ⟨uaa, la, ma, naa, ga, oa, ka, nca, zza⟩ v1) := ⟨hlog, hf.top, hf.row, hg, hn, hL, hk⟩
  have sv1 := hC.size
  replace hT0 := hC.two hT0 (by show ¬ (_ = _); omega)
  replace hT1 := hC.two hT1 (by show ¬ (_ = _); omega)
  replace HC := HC.trans (hC.mono (T := fun j => j = w.heap.size + 1 + 1) fun j hj => hj)
  replace hR := hR'
  clear hlog hf hg hn hL hk hR' hC
  go_wp2_with fail
  go_at_call 61
  refine (l20Logic_any (by omega) (by omega) (by omega) hn1 hR (HBY HC) (Nat.le_refl _) (by omega)).mono ?_
  rintro e v2 ⟨uab, lb, mb, nab, gb, ob, kb, ncb, zzb, pb, rfl, hlog, hf, hg, hn, hL, hk, hR', hpb, hC⟩
  have Kb : Hid (Kept v1.heap.size ⟨uab, lb, mb, nab, gb, ob, kb, ncb, zzb⟩ v2) := ⟨hlog, hf.top, hf.row, hg, hn, hL, hk⟩
  have sv2 := hC.size
  replace hT0 := hC.two hT0 (by show ¬ (_ = _); omega)
  replace hT1 := hC.two hT1 (by show ¬ (_ = _); omega)
  replace Ka := Lib.hid (Ka.out.chg hC (fun j hj => by have hj' : j = w.heap.size + 1 + 1 := hj; omega))
  replace HC := HC.trans (hC.mono (T := fun j => j = w.heap.size + 1 + 1) fun j hj => hj)
  replace hR := hR'
  clear hlog hf hg hn hL hk hR' hC
  have f0 := hT0.c0
  have f1 := hT0.c1
  have f2 := hT0.f0
  have f3 := hT0.f1
  have f4 := hT1.c0
  have f5 := hT1.c1
  have f6 := hT1.f0
  have f7 := hT1.f1
  have x0 := (((hT0.set0 (.slice uaa ma.n la.cap)).set1 (.slice naa ka nca)).other (q := w.heap.size + 1) (i := 0) (x := .slice uab mb.n lb.cap) (by omega)).other (q := w.heap.size + 1) (i := 1) (x := .slice nab kb ncb) (by omega)
  have x1 := (((hT1.other (q := w.heap.size) (i := 0) (x := .slice uaa ma.n la.cap) (by omega)).other (q := w.heap.size) (i := 1) (x := .slice naa ka nca) (by omega)).set0 (.slice uab mb.n lb.cap)).set1 (.slice nab kb ncb)
  have t0 := x0.c0
  have t1 := x0.c1
  have t2 := x1.c0
  have t3 := x1.c1
  have ho := four_only v2 w.heap.size (w.heap.size + 1) (.slice uaa ma.n la.cap) (.slice naa ka nca) (.slice uab mb.n lb.cap) (.slice nab kb ncb)
  have hF0 := Lib.hid ((Ka.out.chg (Chg.of_only ho) (fun j hj => by have hj' : j = w.heap.size ∨ j = w.heap.size + 1 := hj; omega)).base (b' := w.heap.size) (by omega))
  have hF1 := Lib.hid ((Kb.out.chg (Chg.of_only ho) (fun j hj => by have hj' : j = w.heap.size ∨ j = w.heap.size + 1 := hj; omega)).base (b' := w.heap.size) (by omega))
  have hBF := Lib.hid ((HB.trans (HC.below (by omega) fun j hj => by have hj' : j = w.heap.size + 1 + 1 := hj; omega)).trans (ho.below fun j hj => by have hj' : j = w.heap.size ∨ j = w.heap.size + 1 := hj; omega))
  clear hT0 hT1 x0 x1 ho Ka Kb HC hR HBY HB
  go_wp2_with fail
  exact bodyPost_ret (v := .tuple #[.agg #[.slice uaa ma.n la.cap, .slice naa ka nca], .agg #[.slice uab mb.n lb.cap, .slice nab kb ncb]]) (by simp [results, Try.results24, go_sem, t0, t1, t2, t3]) rfl ⟨_, _, rfl, hF0.out, hF1.out, hBF.out⟩

end Go.Proofs.Ytgjacinolenheaa
