import Derived.Test.YtnbglbhfclohjaaDoorZMathN
import Derived.Test.YtnbglbhfclohjaaDoorZSl
import Derived.Test.YtnbglbhfclohjaaDoorZBb
namespace Go.Proofs.YtnbglbhfclohjaaDoor

namespace OL
variable {α : Type} {L : OL α}
def hk (L : OL α) (a b : α) : α := L.j (L.c a) (L.m a b)
theorem j_mono {a b d e : α} (h1 : L.le a b) (h2 : L.le d e) : L.le (L.j a d) (L.j b e) := L.jg (L.trans h1 (L.jl _ _)) (L.trans h2 (L.jr _ _))
def Mod (L : OL α) : Prop := ∀ a b d, L.le a d → L.j a (L.m b d) = L.m (L.j a b) d
theorem Mod.keeps (h : L.Mod) : L.Keeps := fun a b hab => by
  rw [m_comm b (L.c a), h a (L.c a) b hab, j_c]
  exact m_le' (top b)
/-- One answer stands just below another one. -/
def Cov (L : OL α) (a b : α) : Prop := L.le a b ∧ a ≠ b ∧ ∀ w, L.le a w → L.le w b → w = a ∨ w = b
theorem Mod.cov_down (h : L.Mod) {a b : α} (k : L.Cov b (L.j a b)) : L.Cov (L.m a b) a := by
  obtain ⟨_, k1, k2⟩ := k
  refine ⟨L.ml _ _, fun e => ?_, fun w h1 h2 => ?_⟩
  · have : L.le a b := by rw [← e]; exact L.mr _ _
    exact k1 (j_le this).symm
  · have e := h w b a h2
    rw [m_comm b a, j_le' h1] at e
    rcases k2 (L.j w b) (L.jr _ _) (j_mono h2 (L.refl _)) with g | g
    · rw [g, m_comm] at e
      exact .inl e
    · rw [g, m_comm, m_le (L.jl a b)] at e
      exact .inr e
/-- A height: longest rows from below. -/
structure High (L : OL α) (f : α → Nat) : Prop where
  up : ∀ a b, L.le a b → a ≠ b → f a < f b
  step : ∀ b, f b ≠ 0 → ∃ a, L.le a b ∧ a ≠ b ∧ f a + 1 = f b
theorem High.cov {f : α → Nat} (h : L.High f) {b : α} (hb : f b ≠ 0) : ∃ a, L.Cov a b ∧ f a + 1 = f b := by
  obtain ⟨a, h1, h2, h3⟩ := h.step b hb
  refine ⟨a, ⟨h1, h2, fun w k1 k2 => ?_⟩, h3⟩
  apply Classical.byContradiction
  intro hn
  have e1 : a ≠ w := fun e => hn (.inl e.symm)
  have e2 : w ≠ b := fun e => hn (.inr e)
  have := h.up a w k1 e1
  have := h.up w b k2 e2
  omega
theorem High.one {f : α → Nat} (h : L.High f) (k : L.Mod) : ∀ (n : Nat) (a b : α), f b ≤ n → L.Cov a b → f a + 1 = f b := by
  intro n
  induction n with
  | zero =>
    intro a b hn c
    have := h.up a b c.1 c.2.1
    omega
  | succ n ih =>
    intro a b hn c
    have hab := h.up a b c.1 c.2.1
    obtain ⟨d, cd, hd⟩ := h.cov (b := b) (by omega)
    by_cases e : a = d
    · rw [e]; exact hd
    · have hj : L.j d a = b := by
        rcases c.2.2 (L.j d a) (L.jr _ _) (L.jg cd.1 c.1) with g | g
        · exfalso
          have hda : L.le d a := by rw [← g]; exact L.jl _ _
          rcases cd.2.2 a hda c.1 with g2 | g2
          · exact e g2
          · exact c.2.1 g2
        · exact g
      have c1 : L.Cov (L.m d a) d := k.cov_down (by rw [hj]; exact c)
      have c2 : L.Cov (L.m a d) a := k.cov_down (by rw [j_comm, hj]; exact cd)
      rw [m_comm] at c2
      have f1 := ih _ _ (by omega) c1
      have f2 := ih _ _ (by omega) c2
      omega
end OL

section
variable {m : Mx} {z : Nat → Int} {y : Nat → Nat} {o : Nat}
end

def maxTo (f : Nat → Nat) : Nat → Nat
  | 0 => 0
  | k + 1 => max (maxTo f k) (f k)
def hN (m : Mx) : Nat → Nat → Nat
  | 0, _ => 0
  | s + 1, a => maxTo (fun k => if (k != a && leB m k a) = true then hN m s k + 1 else 0) m.n
section
variable {m : Mx} {z : Nat → Int} {y : Nat → Nat} {o : Nat}
end
end Go.Proofs.YtnbglbhfclohjaaDoor
namespace Go.Proofs.YtnbglbhfclohjaaDoor

section
variable {m : Mx} {z : Nat → Int} {y : Nat → Nat} {o : Nat}
end
end Go.Proofs.YtnbglbhfclohjaaDoor
namespace Go.Proofs.YtnbglbhfclohjaaDoor
open Go.RowKit Go.Deep

/-- Something holds of each three answers. -/
def all3B (n : Nat) (p : Nat → Nat → Nat → Bool) : Bool := allB n fun a => allB n fun b => allB n fun d => p a b d
theorem all3_iff {n : Nat} {p : Nat → Nat → Nat → Bool} : all3B n p = true ↔ ∀ a b d, a < n → b < n → d < n → p a b d = true :=
  ⟨fun h a b d ha hb hd => allB_is (allB_is (allB_is h a ha) b hb) d hd, fun h => allB_true fun a ha => allB_true fun b hb => allB_true fun d hd => h a b d ha hb hd⟩
theorem all3_fails {n : Nat} {p : Nat → Nat → Nat → Bool} {a b d : Nat} (ha : a < n) (hb : b < n) (hd : d < n) (h : p a b d = false) : all3B n p = false := by
  cases e : all3B n p with
  | false => rfl
  | true => rw [all3_iff.1 e a b d ha hb hd] at h; cases h
theorem all3_bool (m : Mx) : all3B m.n (splitB m) = boolB m := by
  rw [Bool.eq_iff_iff, all3_iff, bool_iff]
end Go.Proofs.YtnbglbhfclohjaaDoor
namespace Go.Proofs.YtnbglbhfclohjaaDoor
open Go.RowKit Go.Deep Go.Shelf

attribute [local go_sem] Oper.semAt_some

def All3 (n : Nat) (p : Nat → Nat → Nat → Bool) (pre : List (Fin n × Fin n)) : Prop := ∀ q ∈ pre, ∀ d, d < n → p q.1.val q.2.val d = true
theorem All3.snoc {n : Nat} {p : Nat → Nat → Nat → Bool} {pre : List (Fin n × Fin n)} (h : All3 n p pre) {x : Fin n × Fin n} (hx : ∀ d, d < n → p x.1.val x.2.val d = true) : All3 n p (pre ++ [x]) := fun q hq => by
  rcases List.mem_append.1 hq with hq | hq
  · exact h q hq
  · have e : q = x := by simpa using hq
    rw [e]; exact hx
theorem All3.all {n : Nat} {p : Nat → Nat → Nat → Bool} {pre : List (Fin n × Fin n)} (h : All3 n p pre) (hall : ∀ a b : Fin n, (a, b) ∈ pre) : all3B n p = true :=
  all3_iff.2 fun a b d ha hb hd => h _ (hall ⟨a, ha⟩ ⟨b, hb⟩) d hd
set_option maxRecDepth 100000 in
set_option maxHeartbeats 4000000 in
theorem allThree_split {w : World} {B ob tb g o nc n0 : Nat} {tG : Nat → Nat} {ua : Option Addr} {l : Lay} {m : Mx} {z : Nat → Int} {y : Nat → Nat} (h : AL w B ob tb tG ua l m g o z y n0) :
    Calls Tryd.prog 80 #[.agg #[.slice ua m.n l.cap, .slice (some ⟨g, o, none⟩) m.n nc, .slice (some ⟨ob, 0, none⟩) 2 2], .func (.func 81) #[.agg #[.slice ua m.n l.cap, .slice (some ⟨g, o, none⟩) m.n nc, .slice (some ⟨ob, 0, none⟩) 2 2]] #[]] w fun e w' => e = .returned (.bool (all3B m.n (splitB m))) ∧ Below w.heap.size w w' := by
  have hn := h.O.lat.order.top
  have hpos := h.O.lat.order.pos
  have hX := BoxN.start w #[.slice ua m.n l.cap, .slice (some ⟨g, o, none⟩) m.n nc, .slice (some ⟨ob, 0, none⟩) 2 2] 58
  have e1 : (w.alloc (.cells #[.slice ua m.n l.cap, .slice (some ⟨g, o, none⟩) m.n nc, .slice (some ⟨ob, 0, none⟩) 2 2] 58)).heap.size = w.heap.size + 1 := World.size_alloc _ _
  have hF := Boxd.start (w.alloc (.cells #[.slice ua m.n l.cap, .slice (some ⟨g, o, none⟩) m.n nc, .slice (some ⟨ob, 0, none⟩) 2 2] 58)) (.func (.func 81) #[.agg #[.slice ua m.n l.cap, .slice (some ⟨g, o, none⟩) m.n nc, .slice (some ⟨ob, 0, none⟩) 2 2]] #[]) 80
  have e2 : ((w.alloc (.cells #[.slice ua m.n l.cap, .slice (some ⟨g, o, none⟩) m.n nc, .slice (some ⟨ob, 0, none⟩) 2 2] 58)).alloc (.cells #[.func (.func 81) #[.agg #[.slice ua m.n l.cap, .slice (some ⟨g, o, none⟩) m.n nc, .slice (some ⟨ob, 0, none⟩) 2 2]] #[]] 80)).heap.size = w.heap.size + 1 + 1 := by rw [World.size_alloc, e1]
  have hV := Boxd.start ((w.alloc (.cells #[.slice ua m.n l.cap, .slice (some ⟨g, o, none⟩) m.n nc, .slice (some ⟨ob, 0, none⟩) 2 2] 58)).alloc (.cells #[.func (.func 81) #[.agg #[.slice ua m.n l.cap, .slice (some ⟨g, o, none⟩) m.n nc, .slice (some ⟨ob, 0, none⟩) 2 2]] #[]] 80)) (.bool false) 4
  have e3 : (((w.alloc (.cells #[.slice ua m.n l.cap, .slice (some ⟨g, o, none⟩) m.n nc, .slice (some ⟨ob, 0, none⟩) 2 2] 58)).alloc (.cells #[.func (.func 81) #[.agg #[.slice ua m.n l.cap, .slice (some ⟨g, o, none⟩) m.n nc, .slice (some ⟨ob, 0, none⟩) 2 2]] #[]] 80)).alloc (.cells #[.bool false] 4)).heap.size = w.heap.size + 1 + 1 + 1 := by rw [World.size_alloc, e2]
  have hP := Boxd.start (((w.alloc (.cells #[.slice ua m.n l.cap, .slice (some ⟨g, o, none⟩) m.n nc, .slice (some ⟨ob, 0, none⟩) 2 2] 58)).alloc (.cells #[.func (.func 81) #[.agg #[.slice ua m.n l.cap, .slice (some ⟨g, o, none⟩) m.n nc, .slice (some ⟨ob, 0, none⟩) 2 2]] #[]] 80)).alloc (.cells #[.bool false] 4)) (.slice ua m.n l.cap) 55
  have hFc := (hF.step (hV.below.trans (hP.below.mono hV.below.size))).cell
  have hVc := (hV.step hP.below).cell
  have hVf := (hV.step hP.below).frozen
  have hP0 := hP.cell
  have hPs := hP.size
  rw [e1] at hFc
  rw [e2] at hVc hVf
  rw [e3] at hP0 hPs
  have hYP := (hX.step (hF.below.mono (by rw [e1]; omega))).step (hV.below.trans (hP.below.mono hV.below.size))
  have hL2 := Lib.hid (h.step hYP.below)
  have BW := hYP.below
  have q0 := hX.cell 0 rfl
  have hX3 := (hX.step (hF.below.mono (by rw [e1]; omega))).step hV.below
  have r0 := hX3.cell 0 rfl
  clear hX hF hV hP h e1 e2 hX3
  refine (callsIn_wide (n := 9)).1 ?_
  refine callsIn_of_wp_marks Tryd.func80 rfl trivial ?_ rfl
  simp only [Tryd.ntmps80, List.size_toArray, List.length_cons, List.length_nil, Nat.reduceAdd, Nat.reduceSub, Array.replicate_succ, Array.replicate_zero, List.push_toArray, List.append_toArray, List.nil_append, List.cons_append]
  gi_wp2_with fail
  refine ⟨trivial, ?_⟩
  refine (pairs_any _ _ _).mono ?_
  rintro e w' ⟨rfl, rfl⟩
  gi_wp2_with fail
  generalize hW0 : ((((w.alloc (.cells #[.slice ua m.n l.cap, .slice (some ⟨g, o, none⟩) m.n nc, .slice (some ⟨ob, 0, none⟩) 2 2] 58)).alloc (.cells #[.func (.func 81) #[.agg #[.slice ua m.n l.cap, .slice (some ⟨g, o, none⟩) m.n nc, .slice (some ⟨ob, 0, none⟩) 2 2]] #[]] 80)).alloc (.cells #[.bool false] 4)).alloc (.cells #[.slice ua m.n l.cap] 55)) = W2 at hP0 hPs hYP hL2 hVc hVf hFc BW ⊢
  clear hW0 q0 r0 e3
  refine wpIn_rangeFunc_ownG rfl (by omega) (gf := 116) (lb := #[.pointer (some ⟨w.heap.size + 1 + 1 + 1, 0, none⟩)]) rfl trivial (enters_of Tryd.func116 (by kernel_rfl) rfl)
    (pairs_stops _ m.n (by omega) hn (w.heap.size + 1 + 1 + 1) W2.heap.size l.cap ua W2 (by omega) (Nat.le_refl _) hP0) belowK_t (belowK_b (Nat.le_refl _)) (Below.refl _ _) (fun _ => rfl)
    (fun pre W => All3 m.n (splitB m) pre ∧ Below W2.heap.size W2 W)
    (fun c _ W => (c = .ret ∧ all3B m.n (splitB m) = false) ∧ W.cell? ⟨w.heap.size + 1 + 1, 0, none⟩ = some (.bool false) ∧ Below w.heap.size w W)
    (OwnFrom.and (ownFrom_pure _ _) (ownFrom_below (Nat.le_refl _) (Nat.le_refl _)))
    (fun c => OwnFrom.and (ownFrom_pure _ _) (OwnFrom.and (Own.from (fun s A B row hs hg hr => cell_kept hs hg hr) _) (ownFrom_below (Nat.le_refl _) BW.size)))
    ⟨fun p hp => absurd hp (by simp), Below.refl _ _⟩
    (fun x => { tmps := #[.agg #[.slice ua m.n l.cap, .slice (some ⟨g, o, none⟩) m.n nc, .slice (some ⟨ob, 0, none⟩) 2 2], .func (.func 81) #[.agg #[.slice ua m.n l.cap, .slice (some ⟨g, o, none⟩) m.n nc, .slice (some ⟨ob, 0, none⟩) 2 2]] #[], .pointer (some ⟨w.heap.size, 0, none⟩), .pointer (some ⟨w.heap.size + 1, 0, none⟩), .pointer (some ⟨w.heap.size + 1 + 1, 0, none⟩), .int .i64 ((x.1.val : Nat) : Int), .int .i64 ((x.2.val : Nat) : Int), undef,
        .pointer (some ⟨w.heap.size, 0, none⟩), .agg #[.slice ua m.n l.cap], .func (.func 116) #[] #[.pointer (some ⟨w.heap.size + 1 + 1 + 1, 0, none⟩)],
        .int .i64 ((x.1.val : Nat) : Int), .int .i64 ((x.2.val : Nat) : Int), undef, undef, undef, undef, undef, undef, undef, undef, undef, undef, undef, undef, undef], defers := [] }) ?assign ?body ?done ?stop
  case assign =>
    intro lr x W K hK
    dsimp only
    clear hP0 hPs hYP hL2 hVc hVf hFc BW hpos hn
    gi_wp2
    exact hK
  case body =>
    rintro lr pre ⟨⟨a, ha⟩, ⟨b, hb⟩⟩ W ⟨hp0, hB⟩ _
    have hp := Lib.hid hp0
    have hs := hB.size
    have hYW := hYP.step hB
    have r1 := hYW.cell 1 rfl
    clear hp0 hP0
    dsimp only
    gi_wp2_with fail
    gi_loopw [16] (fun i wi => ∃ c : Nat, c ≤ m.n ∧ i = .int .i64 c ∧ Below W.heap.size W wi ∧ Hid (∀ d, d < c → splitB m a b d = true)) (fun i _ => m.n - (intOf i).toNat)
    case atStart => exact ⟨0, Nat.zero_le _, rfl, Below.refl _ _, fun d hd => absurd hd (Nat.not_lt_zero _)⟩
    case round =>
      obtain ⟨c, hc, rfl, hD, hR⟩ := hrel
      clear r1
      have hBi := hB.trans (hD.mono hs)
      by_cases hct : c < m.n
      · have hct' : (c : Int) < m.n := by omega
        have hLi := Lib.hid (hL2.out.step hBi)
        have f0 := (hBi.cell (p := ⟨w.heap.size + 1, 0, none⟩) (by show w.heap.size + 1 < _; omega)).trans hFc
        have v5 := (hBi.cell (p := ⟨w.heap.size + 1 + 1, 0, none⟩) (by show w.heap.size + 1 + 1 < _; omega)).trans hVc
        have f5 := (hBi.frozen (p := ⟨w.heap.size + 1 + 1, 0, none⟩) (by show w.heap.size + 1 + 1 < _; omega)).trans hVf
        cases hsp : splitB m a b c with
        | true =>
          have HS := Lib.hid hsp
          clear hsp
          gi_wp2_with fail
          refine ⟨trivial, ?_⟩
          refine (CallsIn.inRound lr (callsIn_wide.2 (splits_any (nc := nc) hLi.out ha hb hct))).mono ?_
          rintro e w5 ⟨rfl, b5⟩
          rw [HS.out]
          have hD5 := hD.trans (b5.mono hD.size)
          clear f0 v5 f5
          gi_wp2_with fail
          go_roundw
          case rel => exact ⟨c + 1, by omega, by go_num, hD5, fun d hd => by
            by_cases e : d = c
            · subst e; exact HS.out
            · exact hR.out d (by omega)⟩
          case measure => simp [intOf]; omega
        | false =>
          have HS := Lib.hid hsp
          have HF : Hid (all3B m.n (splitB m) = false) := all3_fails ha hb hct hsp
          clear hsp
          gi_wp2_with fail
          refine ⟨trivial, ?_⟩
          refine (CallsIn.inRound lr (callsIn_wide.2 (splits_any (nc := nc) hLi.out ha hb hct))).mono ?_
          rintro e w5 ⟨rfl, b5⟩
          rw [HS.out]
          have hD5 := hD.trans (b5.mono hD.size)
          have hB5 := hBi.trans (b5.mono hBi.size)
          have s5 := hB5.size
          have v6 := (b5.cell (p := ⟨w.heap.size + 1 + 1, 0, none⟩) (by show w.heap.size + 1 + 1 < _; have := hD.size; omega)).trans v5
          have f6 := (b5.frozen (p := ⟨w.heap.size + 1 + 1, 0, none⟩) (by show w.heap.size + 1 + 1 < _; have := hD.size; omega)).trans f5
          clear f0 v5 f5
          gi_wp2_with fail
          exact ⟨(keepsFrom_below hD5).trans ((KeepsOthers.setCell _ _ _).from _), ⟨rfl, HF.out⟩, World.cell?_setCell_same' _ _ _ (by rw [v6]; rfl), (BW.trans (hB5.mono BW.size)).setCell (p := ⟨w.heap.size + 1 + 1, 0, none⟩) (by show w.heap.size ≤ w.heap.size + 1 + 1; omega) _⟩
      · have hct' : ¬ (c : Int) < m.n := by omega
        gi_wp2_with fail
        exact ⟨keepsFrom_below hD, hD.mono hs, hp.out.snoc (fun d hd => hR.out d (by show d < c; have hd : d < m.n := hd; omega)), hBi⟩
  case done =>
    rintro D ys W hD hys ⟨hp0, hB⟩ hK
    have HO' := Lib.hid (hp0.all hys)
    clear hp0
    have v0 := (hB.cell (p := ⟨w.heap.size + 1 + 1, 0, none⟩) (by show w.heap.size + 1 + 1 < _; omega)).trans hVc
    have vf := (hB.frozen (p := ⟨w.heap.size + 1 + 1, 0, none⟩) (by show w.heap.size + 1 + 1 < _; omega)).trans hVf
    have hbW := BW.trans (hB.mono BW.size)
    have hDs : w.heap.size ≤ D := Nat.le_trans BW.size hD
    gi_wp2
    have hK' := (KeepsOthers.setCell W ⟨w.heap.size + 1 + 1, 0, none⟩ (.bool true)).same D _ hK rfl
    refine ⟨by simp, .inl ⟨_, _, rfl, run_takeDeferred hK', ?_⟩⟩
    have hc5 := cell_kept (World.cell?_setCell_same' W ⟨w.heap.size + 1 + 1, 0, none⟩ (.bool true) (by rw [v0]; rfl)) (grownBy_putObj' _ D (.deferred none)) (fun r e => by cases e; exact ⟨_, hK', rfl⟩)
    refine ⟨.bool true, ?_, ret_bool HO'.out.symm, (hbW.setCell (p := ⟨w.heap.size + 1 + 1, 0, none⟩) (by show w.heap.size ≤ w.heap.size + 1 + 1; omega) _).trans (belowK_b (w := w) (Nat.le_refl _) _ D _ _ hDs hK' rfl rfl)⟩
    simp [results, Tryd.f80, go_sem, hc5]
  case stop =>
    rintro D c pre W hD _ ⟨⟨rfl, hbad⟩, hcr, hB⟩ hK
    have hDs : w.heap.size ≤ D := Nat.le_trans BW.size hD
    gi_wp2
    refine ⟨by simp, .inl ⟨_, _, rfl, run_takeDeferred hK, ?_⟩⟩
    have hc5 := cell_kept hcr (grownBy_putObj' _ D (.deferred none)) (fun r e => by cases e; exact ⟨_, hK, rfl⟩)
    refine ⟨.bool false, ?_, ret_bool hbad.symm, hB.trans (belowK_b (w := w) (Nat.le_refl _) W D _ _ hDs hK rfl rfl)⟩
    simp [results, Tryd.f80, go_sem, hc5]

set_option maxRecDepth 100000 in
set_option maxHeartbeats 4000000 in
theorem BooleanOk_any {w : World} {B : Nat} {ua : Option Addr} {l : Lay} {m : Mx} {na : Option Addr} {g o k nc : Nat} {z : Nat → Int} (h : LogAt w B ua l m na g o k z) :
    Calls Tryd.prog 31 #[.agg #[.slice ua m.n l.cap, .slice na k nc]] w fun e w' => e = .returned (.bool (boolV m k z)) ∧ Below w.heap.size w w' := by
  have hX := BoxN.start w #[.slice ua m.n l.cap, .slice na k nc] 26
  have q0 := hX.cell 0 rfl
  have q1 := hX.cell 1 rfl
  have bw := hX.below
  have h2 := Lib.hid (h.step bw)
  have hsz : (w.alloc (.cells #[.slice ua m.n l.cap, .slice na k nc] 26)).heap.size ≥ w.heap.size + 1 := by simp
  have hrow2 : Hid (RowAt (w.alloc (.cells #[.slice ua m.n l.cap, .slice na k nc] 26)) (w.alloc (.cells #[.slice ua m.n l.cap, .slice na k nc] 26)).heap.size none 0 0 0 (fun _ => 0)) := ⟨fun c hc => absurd hc (Nat.not_lt_zero _)⟩
  clear h
  go_enter Tryd.func31, Tryd.ntmps31
  go_wp2_with fail
  generalize hW : w.alloc (.cells #[.slice ua m.n l.cap, .slice na k nc] 26) = W at hX bw hsz h2 hrow2 q0 q1 ⊢
  clear hW
  go_at_call 50
  refine (algebraWith_any h2.out hrow2.out (by omega)).mono ?_
  rintro e w1 ⟨b1, (⟨hg, ob, tb, tG, rfl, hA⟩ | ⟨hg, rfl⟩)⟩
  · clear q0 q1 hrow2
    have B1 := bw.trans (b1.mono bw.size)
    have h3 := h2.out.step b1
    clear h2 hX bw hsz
    have hl : logicB m k z = true := by rw [good_nil, Bool.and_true] at hg; exact hg
    obtain ⟨y0, o', hO0⟩ := (logicB_is hl).ortho
    have hkn : k = m.n := (logicB_is hl).pair.len
    subst hkn
    have hO := hO0.own
    obtain ⟨y, hy⟩ : ∃ y : Nat → Nat, y = fun c => (z c).toNat := ⟨_, rfl⟩
    rw [← hy] at hO
    obtain ⟨rfl, hL1⟩ := AL.of hA h3 hO
    have HV : Hid (boolB m = boolV m m.n z) := by
      show _ = _
      unfold boolV
      rw [hl]; rfl
    clear hg hl hy hA h3 hO hO0
    have hY := BoxN.start w1 #[.slice ua m.n l.cap, .slice (some ⟨g, o, none⟩) m.n nc, .slice (some ⟨ob, 0, none⟩) 2 2] 58
    have BY := B1.trans (hY.below.mono B1.size)
    have hL := Lib.hid (hL1.step hY.below)
    clear hL1
    have r0 := hY.cell 0 rfl
    have r1 := hY.cell 1 rfl
    have r2 := hY.cell 2 rfl
    unfold algV
    go_wp2_with fail
    go_at_call 80
    refine (allThree_split (nc := nc) hL.out).mono ?_
    rintro e w2 ⟨rfl, b2⟩
    rw [all3_bool]
    have B2 := BY.trans (b2.mono BY.size)
    clear hY r0 r1 r2 hL
    go_wp2_with fail
    go_ret
    exact ⟨ret_bool HV.out, B2⟩
  · clear q0 q1 hrow2
    have hl : logicB m k z = false := by rw [good_nil, Bool.and_true] at hg; exact hg
    have HV : Hid (false = boolV m k z) := by show _ = _; unfold boolV; rw [hl]; rfl
    clear hg hl
    have B1 := bw.trans (b1.mono bw.size)
    have B2 := B1.alloc B1.size (.cells #[.slice none 0 0, .slice none 0 0, .slice none 0 0] 58)
    unfold noAlg
    go_wp2_with fail
    go_ret
    exact ⟨ret_bool HV.out, B2⟩

end Go.Proofs.YtnbglbhfclohjaaDoor
