import Derived.Test.YtnbglbhfclohjaaDoorZVa
import Derived.Test.YtnbglbhfclohjaaDoorZMath
import Derived.Laws.CopyOwn
import Derived.Test.YtnbglbhfclohjaaDoorZGa
import Derived.Test.YtnbglbhfclohjaaDoorZYi
namespace Go.Proofs.YtnbglbhfclohjaaDoor
open Go.RowKit Go.Deep

def placeV (n : Nat) (z : Nat → Int) (a : Nat) : Nat := (firstI n (fun c => (a : Int) == z c)).toNat
structure Each (n : Nat) (z : Nat → Int) : Prop where
  perm : Perm n (fun c => (z c).toNat) (placeV n z)
  nat : ∀ c, c < n → z c = ((z c).toNat : Int)
  at_ : ∀ a, a < n → firstI n (fun c => (a : Int) == z c) = (placeV n z a : Int)
end Go.Proofs.YtnbglbhfclohjaaDoor
namespace Go.Proofs.YtnbglbhfclohjaaDoor
open Go.RowKit Go.Deep

end Go.Proofs.YtnbglbhfclohjaaDoor
namespace Go.Proofs.YtnbglbhfclohjaaDoor
open Go.RowKit Go.Deep

/-- A list of numbers of the call's own. -/
def OwnL (W : World) (base : Nat) (v : Value) (L : List Int) : Prop := W.ownsRow base 3 1 v L.length (L.map fun x => Value.int .i64 x)
theorem OwnL.more {W : World} {base m : Nat} {v : Value} {L M : List Int} (h : W.ownsRow base 3 1 v (L.length + m) ((L.map fun x => Value.int .i64 x) ++ (M.map fun x => Value.int .i64 x))) (hm : M.length = m) : OwnL W base v (L ++ M) := by
  unfold OwnL
  rw [List.length_append, List.map_append, hm]
  exact h
theorem OwnL.chg {S : Nat → Prop} {W W' : World} {base : Nat} {v : Value} {L : List Int} (h : OwnL W base v L) (hc : Chg S W W') (hs : ∀ j, base ≤ j → j < W.heap.size → ¬ S j) : OwnL W' base v L :=
  hc.own h fun g hg => hs g (ownsRow_block h g hg) (own_lt h g hg)
theorem OwnL.row {W : World} {base : Nat} {v : Value} {L : List Int} (h : OwnL W base v L) (h0 : 0 < L.length) : ∃ g cap, v = .slice (some ⟨g, 0, none⟩) L.length cap ∧ base ≤ g ∧ RowAt W W.heap.size (some ⟨g, 0, none⟩) g 0 L.length (fun k => L[k]?.getD 0) := by
  rcases h.2 with ⟨_, h1⟩ | ⟨g, cap, cur, rfl, hb, _⟩
  · omega
  · refine ⟨g, cap, rfl, hb, ⟨fun c hc => ⟨rfl, own_lt h g rfl, ?_⟩⟩⟩
    have := World.ownsRow.cellAt h c (by omega)
    rw [Nat.zero_add, this]
    simp [hc]
theorem frozen_new4 (w : World) (a b c d : Value) (t : TypeId) (i : Nat) : (w.alloc (.cells #[a, b, c, d] t)).frozen? ⟨w.heap.size, i, none⟩ = false := by
  have h := World.alloc_heap_new w (.cells #[a, b, c, d] t)
  simp only [World.frozen?, h]
  show (decide (0 ≤ i) && decide (i < 0)) = false
  simp
theorem four_told {w : World} {p : Nat} {a b c d a' b' c' d' : Value} (h0 : w.cell? ⟨p, 0, none⟩ = some a') (h1 : w.cell? ⟨p, 1, none⟩ = some b') (h2 : w.cell? ⟨p, 2, none⟩ = some c') (h3 : w.cell? ⟨p, 3, none⟩ = some d') :
    ((((w.setCell ⟨p, 0, none⟩ a).setCell ⟨p, 1, none⟩ b).setCell ⟨p, 2, none⟩ c).setCell ⟨p, 3, none⟩ d).cell? ⟨p, 0, none⟩ = some a ∧ ((((w.setCell ⟨p, 0, none⟩ a).setCell ⟨p, 1, none⟩ b).setCell ⟨p, 2, none⟩ c).setCell ⟨p, 3, none⟩ d).cell? ⟨p, 1, none⟩ = some b ∧ ((((w.setCell ⟨p, 0, none⟩ a).setCell ⟨p, 1, none⟩ b).setCell ⟨p, 2, none⟩ c).setCell ⟨p, 3, none⟩ d).cell? ⟨p, 2, none⟩ = some c ∧ ((((w.setCell ⟨p, 0, none⟩ a).setCell ⟨p, 1, none⟩ b).setCell ⟨p, 2, none⟩ c).setCell ⟨p, 3, none⟩ d).cell? ⟨p, 3, none⟩ = some d := by
  have ne : ∀ {i j : Nat}, i ≠ j → (⟨p, i, none⟩ : Addr) ≠ ⟨p, j, none⟩ := fun h e => h (by injection e)
  refine ⟨?_, ?_, ?_, ?_⟩
  · rw [World.cell?_setCell_other _ _ _ _ (ne (by omega)), World.cell?_setCell_other _ _ _ _ (ne (by omega)), World.cell?_setCell_other _ _ _ _ (ne (by omega))]
    exact World.cell?_setCell_same _ _ _ h0
  · rw [World.cell?_setCell_other _ _ _ _ (ne (by omega)), World.cell?_setCell_other _ _ _ _ (ne (by omega))]
    exact World.cell?_setCell_same _ _ _ ((World.cell?_setCell_other _ _ _ _ (ne (by omega))).trans h1)
  · rw [World.cell?_setCell_other _ _ _ _ (ne (by omega))]
    exact World.cell?_setCell_same _ _ _ ((World.cell?_setCell_other _ _ _ _ (ne (by omega))).trans ((World.cell?_setCell_other _ _ _ _ (ne (by omega))).trans h2))
  · exact World.cell?_setCell_same _ _ _ ((World.cell?_setCell_other _ _ _ _ (ne (by omega))).trans ((World.cell?_setCell_other _ _ _ _ (ne (by omega))).trans ((World.cell?_setCell_other _ _ _ _ (ne (by omega))).trans h3)))
end Go.Proofs.YtnbglbhfclohjaaDoor
namespace Go.Proofs.YtnbglbhfclohjaaDoor
open Go.RowKit Go.Deep

theorem Ortho.congr {m : Mx} {z : Nat → Int} {y y' : Nat → Nat} {o : Nat} (h : Ortho m z y o) (e : ∀ a, a < m.n → y a = y' a) : Ortho m z y' o := by
  have l : ∀ a, a < m.n → y' a < m.n := fun a ha => by rw [← e a ha]; exact h.lt a ha
  exact ⟨h.lat, fun a ha => by rw [h.zy a ha, e a ha], l, fun a ha => by rw [← e a ha, ← e _ (h.lt a ha)]; exact h.inv a ha, fun a b ha hb hab => by rw [← e a ha, ← e b hb]; exact h.turn a b ha hb hab, h.ho, h.least, h.eq, fun a ha => by rw [← e a ha]; exact h.kept a ha⟩
/-- Its opposites, as plain numbers. -/
def LD.y (d : LD) (a : Nat) : Nat := (d.z a).toNat
end Go.Proofs.YtnbglbhfclohjaaDoor
namespace Go.Proofs.YtnbglbhfclohjaaDoor
open Go.RowKit Go.Deep

/-- Four values in a box. -/
structure FourAt (w : World) (p : Nat) (a b c d : Value) : Prop where
  c0 : w.cell? ⟨p, 0, none⟩ = some a
  c1 : w.cell? ⟨p, 1, none⟩ = some b
  c2 : w.cell? ⟨p, 2, none⟩ = some c
  c3 : w.cell? ⟨p, 3, none⟩ = some d
  fz : ∀ i, w.frozen? ⟨p, i, none⟩ = false
theorem FourAt.new (w : World) (a b c d : Value) (t : TypeId) : FourAt (w.alloc (.cells #[a, b, c, d] t)) w.heap.size a b c d := by
  have Y := BoxN.start w #[a, b, c, d] t
  exact ⟨Y.cell 0 rfl, Y.cell 1 rfl, Y.cell 2 rfl, Y.cell 3 rfl, frozen_new4 w a b c d t⟩
theorem FourAt.lt {w : World} {p : Nat} {a b c d : Value} (h : FourAt w p a b c d) : p < w.heap.size := World.block_lt_of_cell? w ⟨p, 0, none⟩ h.c0
theorem FourAt.below {w w' : World} {p : Nat} {a b c d : Value} (h : FourAt w p a b c d) (hb : Below w.heap.size w w') : FourAt w' p a b c d :=
  ⟨(hb.cell (p := ⟨p, 0, none⟩) h.lt).trans h.c0, (hb.cell (p := ⟨p, 1, none⟩) h.lt).trans h.c1, (hb.cell (p := ⟨p, 2, none⟩) h.lt).trans h.c2, (hb.cell (p := ⟨p, 3, none⟩) h.lt).trans h.c3, fun i => (hb.frozen (p := ⟨p, i, none⟩) h.lt).trans (h.fz i)⟩
theorem FourAt.only {S : Nat → Prop} {w w' : World} {p : Nat} {a b c d : Value} (h : FourAt w p a b c d) (ho : OnlyIn S w w') (hp : ¬ S p) : FourAt w' p a b c d :=
  have hb := ho.block p hp
  ⟨(World.cell?_of_block (a := ⟨p, 0, none⟩) hb).trans h.c0, (World.cell?_of_block (a := ⟨p, 1, none⟩) hb).trans h.c1, (World.cell?_of_block (a := ⟨p, 2, none⟩) hb).trans h.c2, (World.cell?_of_block (a := ⟨p, 3, none⟩) hb).trans h.c3, fun i => (World.frozen?_of_block (a := ⟨p, i, none⟩) hb).trans (h.fz i)⟩
abbrev put4 (w : World) (p : Nat) (a b c d : Value) : World := (((w.setCell ⟨p, 0, none⟩ a).setCell ⟨p, 1, none⟩ b).setCell ⟨p, 2, none⟩ c).setCell ⟨p, 3, none⟩ d
theorem FourAt.put {w : World} {p : Nat} {a b c d a' b' c' d' : Value} (h : FourAt w p a b c d) : FourAt (put4 w p a' b' c' d') p a' b' c' d' := by
  obtain ⟨h0, h1, h2, h3⟩ := four_told (a := a') (b := b') (c := c') (d := d') h.c0 h.c1 h.c2 h.c3
  exact ⟨h0, h1, h2, h3, fun i => by unfold put4; rw [World.frozen?_setCell, World.frozen?_setCell, World.frozen?_setCell, World.frozen?_setCell]; exact h.fz i⟩
end Go.Proofs.YtnbglbhfclohjaaDoor
namespace Go.Proofs.YtnbglbhfclohjaaDoor
open Go.RowKit Go.Deep

theorem Each.view {m : Mx} {n : Nat} {z : Nat → Int} (h : Each n z) {x y : Nat} (hx : x < n) (hy : y < n) (hb : m.Z (z x).toNat (z y).toNat = 0 ∨ m.Z (z x).toNat (z y).toNat = 1) : bitZ (viewB m z) x y = nameZ m.Z (fun c => (z c).toNat) x y := by
  have h1 := h.nat x hx
  have h2 := h.nat y hy
  have e1 : decide (0 ≤ z x) = true := decide_eq_true (by omega)
  have e2 : decide (0 ≤ z y) = true := decide_eq_true (by omega)
  unfold bitZ viewB nameZ
  rw [e1, e2]
  show (if (true && (true && leB m (z x).toNat (z y).toNat)) = true then (1 : Int) else 0) = m.Z (z x).toNat (z y).toNat
  unfold leB
  rcases hb with e | e <;> rw [e] <;> rfl
theorem Each.opp {n : Nat} {z : Nat → Int} {y : Nat → Nat} (h : Each n z) {x : Nat} (hx : x < n) (hy : ∀ a, a < n → y a < n) : viewY y z n x = (placeV n z (y (z x).toNat) : Int) := by
  unfold viewY
  exact h.at_ _ (hy _ (h.perm.lt x hx))
/-- A logic, or none. -/
def MadeLog (w : World) (N : Nat) (Z : Nat → Nat → Int) (y : Nat → Nat) (ok : Bool) (e : Ending) (w' : World) : Prop :=
  Below w.heap.size w w' ∧ ((ok = false ∧ e = .returned noLog) ∨ (ok = true ∧ ∃ u t rv, e = .returned (.agg #[u, t]) ∧ LogO w' w.heap.size u t N rv Z (fun c => (y c : Int))))
theorem madeLog_no {w W : World} {ok : Bool} {p N : Nat} {Z : Nat → Nat → Int} {y : Nat → Nat} {x x' : Value} (hp : w.heap.size ≤ p) (hB : Below w.heap.size w W) (hok : ok = false) : MadeLog w N Z y ok (.returned noLog) ((W.setCell ⟨p, 0, none⟩ x).setCell ⟨p, 1, none⟩ x') :=
  ⟨hB.trans ((set2_only W p x x').below fun j hj => by have hj' : j = p := hj; omega), .inl ⟨hok, rfl⟩⟩
theorem MadeLog.congr {w w' : World} {e : Ending} {N : Nat} {Z Z' : Nat → Nat → Int} {y y' : Nat → Nat} {ok ok' : Bool} (h : MadeLog w N Z y ok e w') (ho : ok = ok') (hZ : ok = true → ∀ r, r < N → ∀ c, c < N → Z r c = Z' r c) (hy : ok = true → ∀ c, c < N → y c = y' c) : MadeLog w N Z' y' ok' e w' := by
  subst ho
  refine ⟨h.1, ?_⟩
  rcases h.2 with h2 | ⟨hok, u, t, rv, rfl, hL⟩
  · exact .inl h2
  · exact .inr ⟨hok, u, t, rv, rfl, hL.congrZ (hZ hok) fun c hc => by rw [hy hok c hc]⟩
theorem RowAt.wide {w : World} {B B' : Nat} {a : Option Addr} {g o n : Nat} {z : Nat → Int} (h : RowAt w B a g o n z) (hB : B ≤ B') : RowAt w B' a g o n z :=
  ⟨fun c hc => by obtain ⟨h1, h2, h3⟩ := h.row c hc; exact ⟨h1, by omega, h3⟩⟩

end Go.Proofs.YtnbglbhfclohjaaDoor
namespace Go.Proofs.YtnbglbhfclohjaaDoor
open Go.RowKit Go.Deep

/-- The view's box is filled: what else was there stays. -/
theorem part_after {w w' : World} {d : LD} {B o0 p pv g9 K : Nat} {y : Nat → Nat} {q : Nat → Nat} {a9 a1 : Option Addr} {n1 c1 : Nat} {u v u2 u3 u4 : Value} (hI : d.Is w B y o0) (hr : RowAt w w.heap.size a9 g9 0 K (fun i => (q i : Int))) (hV : TwoAt w p u v)
    (X : FourAt w pv (.slice a1 n1 c1) u2 u3 u4) (hon : OnlyIn (fun j => j = pv) w w') (hK : 1 ≤ K) (hB : B ≤ pv) (hp : p < pv) : d.Is w' B y o0 ∧ RowAt w' w'.heap.size a9 g9 0 K (fun i => (q i : Int)) ∧ TwoAt w' p u v := by
  have hb : Below B w w' := hon.below fun j hj => by have hj' : j = pv := hj; omega
  have hs := hon.size
  have h := hI.at_
  have hne : g9 ≠ pv := fun e => by
    have := (hr.row 0 hK).2.2
    rw [e, Nat.zero_add, X.c0] at this
    cases this
  refine ⟨⟨⟨h.mat.below hb, h.row.below hb, h.hn, h.hL, h.hk, Nat.le_trans h.hB hb.size⟩, hI.ok, hI.orth, hI.len⟩, ⟨fun c hc => ?_⟩, (Chg.of_only hon).two hV (by show ¬ p = pv; omega)⟩
  obtain ⟨e1, e2, e3⟩ := hr.row c hc
  exact ⟨e1, by omega, (World.cell?_of_block (a := ⟨g9, 0 + c, none⟩) (hon.block g9 hne)).trans e3⟩
theorem part_lt {m : Mx} {z : Nat → Int} {y : Nat → Nat} {o s K : Nat} {q b : Nat → Nat} (hE : Emb m.n K s q b) (hc : Closed m y s) (hO : Ortho m z y o) (a : Nat) (ha : a < K) : partY y q b a < K :=
  hE.blt _ (hO.lt _ (hE.lt a ha)) (hc.not _ (hE.lt a ha) (hE.has a ha))
theorem part_first {m : Mx} {z : Nat → Int} {y : Nat → Nat} {o s K : Nat} {q b : Nat → Nat} (hE : Emb m.n K s q b) (hc : Closed m y s) (hO : Ortho m z y o) {a : Nat} (ha : a < K) : viewY y (fun i => ((q i : Nat) : Int)) K a = ((partY y q b a : Nat) : Int) := by
  have hq := hE.lt a ha
  have hy := hc.not _ hq (hE.has a ha)
  have hl := hE.blt _ (hO.lt _ hq) hy
  have hb := hE.qb _ (hO.lt _ hq) hy
  unfold viewY partY
  have e0 : ((q a : Nat) : Int).toNat = q a := by simp
  rw [e0]
  rcases firstI_ways K (fun c => ((y (q a) : Nat) : Int) == ((q c : Nat) : Int)) with ⟨_, h0⟩ | ⟨k, hk, e, h1, _⟩
  · have := h0 _ hl
    rw [hb] at this
    simp at this
  · rw [e]
    have h2 : y (q a) = q k := by
      have := beq_iff_eq.1 h1
      omega
    rw [h2, hE.bq k hk]
/-- The plan of a part. -/
def part_plan {W : World} {d : LD} {B o0 g9 K c9 s fn fc : Nat} {fa : Option Addr} {y : Nat → Nat} {q b : Nat → Nat} (hI : d.Is W B y o0) (hr : RowAt W W.heap.size (some ⟨g9, 0, none⟩) g9 0 K (fun i => (q i : Int))) (hE : Emb d.m.n K s q b) (hc : Closed d.m y s) (hK : K ≤ 12) :
    PlanAt W (planV K 83 #[.agg #[d.u, d.t, .slice fa fn fc, .slice (some ⟨g9, 0, none⟩) K c9]] #[] 84 #[.agg #[d.u, d.t, .slice fa fn fc, .slice (some ⟨g9, 0, none⟩) K c9]] #[]) K (viewB d.m (fun i => ((q i : Nat) : Int))) (partY y q b) :=
  ⟨_, _, _, _, _, _, rfl, ⟨enters_of Tryd.func83 (by kernel_rfl) rfl, fun _ _ _ hW hx hy =>
    view_below (hI.step hW) ((hr.below hW).wide hW.size) (by omega) (fun c hc => by have h2 := hE.lt c hc; show ((q c : Nat) : Int) < _; omega) hx hy⟩,
   ⟨enters_of Tryd.func84 (by kernel_rfl) rfl, fun _ x hW hx =>
    (view_opp (hI.step hW) ((hr.below hW).wide hW.size) (by omega) (by have h2 := hE.lt x hx; show ((q x : Nat) : Int) < _; omega) hx (by show 0 ≤ ((q x : Nat) : Int); omega)).mono fun _ _ h => by
      rw [← part_first hE hc hI.orth hx]
      exact h⟩⟩

set_option maxRecDepth 100000 in
set_option maxHeartbeats 2000000 in
theorem PartOf_no {w : World} {B : Nat} {ua : Option Addr} {l : Lay} {m : Mx} {na : Option Addr} {g o k nc N : Nat} {z : Nat → Int} {x : Int} {Z : Nat → Nat → Int} {y : Nat → Nat} (h : LogAt w B ua l m na g o k z) (hT : TabOk w) (hn : subV m k z x = false) :
    Calls Tryd.prog 32 #[.agg #[.slice ua m.n l.cap, .slice na k nc], .int .i64 x] w (MadeLog w N Z y false) := by
  have xa := TwoAt.new w (.slice ua m.n l.cap) (.slice na k nc) 26
  have ba := (Below.refl w.heap.size w).alloc (Nat.le_refl _) (.cells #[.slice ua m.n l.cap, .slice na k nc] 26)
  have hV := TwoAt.new (w.alloc (.cells #[.slice ua m.n l.cap, .slice na k nc] 26)) (.slice none 0 0) (.slice none 0 0) 26
  have bb := (Below.refl (w.heap.size + 1) (w.alloc (.cells #[.slice ua m.n l.cap, .slice na k nc] 26))).alloc (by simp) (.cells #[.slice none 0 0, .slice none 0 0] 26)
  simp only [World.size_alloc] at hV
  replace xa := xa.below bb (by omega)
  have B0 := ba.trans (bb.mono (by omega))
  have s0 : ((w.alloc (.cells #[.slice ua m.n l.cap, .slice na k nc] 26)).alloc (.cells #[.slice none 0 0, .slice none 0 0] 26)).heap.size = w.heap.size + 1 + 1 := by simp
  have q0 := xa.c0
  have q1 := xa.c1
  have HN := Lib.hid hn
  have h2 := Lib.hid (h.step B0)
  have HT := Lib.hid (hT.step B0 hT.size)
  clear h hT hn ba bb xa
  go_enter Tryd.func32, Tryd.ntmps32
  go_wp2_with fail
  generalize (w.alloc (.cells #[.slice ua m.n l.cap, .slice na k nc] 26)).alloc (.cells #[.slice none 0 0, .slice none 0 0] 26) = W at hV B0 s0 q0 q1 h2 HT ⊢
  go_at_call 64
  refine (partWith_any h2.out HT.out).mono ?_
  rw [HN.out]
  rintro e w1 ⟨b1, (⟨hs, ob, tb, tG, rfl, hA⟩ | ⟨hs, a1, a2, a3, n1, c1, n2, c2, n3, c3, rfl⟩)⟩
  · cases hs
  · have s1 := b1.size
    have bn := (Below.refl w1.heap.size w1).alloc (Nat.le_refl _) (.cells #[.slice a1 n1 c1, .slice a2 n2 c2, .slice a3 n3 c3] 58)
    have hV2 := (hV.below b1 (by omega)).below bn (by omega)
    have B4 := (B0.trans (b1.mono (by omega))).trans (bn.mono (by omega))
    have t0 := hV2.c0
    have t1 := hV2.c1
    have t2 := hV2.f0
    have t3 := hV2.f1
    clear q0 q1 b1 bn
    go_wp2_with fail
    have hfin := (hV2.set0 (.slice none 0 0)).set1 (.slice none 0 0)
    have f0 := hfin.c0
    have f1 := hfin.c1
    exact bodyPost_ret (v := noLog) (by simp [results, Tryd.results32, go_sem, f0, f1, noLog]) rfl (madeLog_no (by omega) B4 rfl)

set_option maxRecDepth 100000 in
set_option maxHeartbeats 4000000 in
theorem PartOf_in {w : World} {B g o nc s o' : Nat} {ua : Option Addr} {l : Lay} {m : Mx} {z : Nat → Int} {y : Nat → Nat} (h : LogAt w B ua l m (some ⟨g, o, none⟩) g o m.n z) (hO : Ortho m z y o') (h1 : 1 ≤ s) (h2 : s < 2 ^ m.n) (hcl : Closed m y s) (hT : TabOk w) :
    Calls Tryd.prog 32 #[.agg #[.slice ua m.n l.cap, .slice (some ⟨g, o, none⟩) m.n nc], .int .i64 s] w (MadeLog w (memK s 12) (bitZ (viewB m (fun i => ((memF s 12 i : Nat) : Int)))) (partY y (memF s 12) (memB s 12)) true) := by
  have xa := TwoAt.new w (.slice ua m.n l.cap) (.slice (some ⟨g, o, none⟩) m.n nc) 26
  have ba := (Below.refl w.heap.size w).alloc (Nat.le_refl _) (.cells #[.slice ua m.n l.cap, .slice (some ⟨g, o, none⟩) m.n nc] 26)
  have hV := TwoAt.new (w.alloc (.cells #[.slice ua m.n l.cap, .slice (some ⟨g, o, none⟩) m.n nc] 26)) (.slice none 0 0) (.slice none 0 0) 26
  have bb := (Below.refl (w.heap.size + 1) (w.alloc (.cells #[.slice ua m.n l.cap, .slice (some ⟨g, o, none⟩) m.n nc] 26))).alloc (by simp) (.cells #[.slice none 0 0, .slice none 0 0] 26)
  simp only [World.size_alloc] at hV
  replace xa := xa.below bb (by omega)
  have B0 := ba.trans (bb.mono (by omega))
  have s0 : ((w.alloc (.cells #[.slice ua m.n l.cap, .slice (some ⟨g, o, none⟩) m.n nc] 26)).alloc (.cells #[.slice none 0 0, .slice none 0 0] 26)).heap.size = w.heap.size + 1 + 1 := by simp
  have q0 := xa.c0
  have q1 := xa.c1
  have hp := pow_le_12 hO.lat.order.top
  have hs4 : s < 4096 := Nat.lt_of_lt_of_le h2 hp
  have HE0 : Emb m.n (memK s 12) s (memF s 12) (memB s 12) := Emb.down hO.lat.order.top h2
  obtain ⟨K, hK⟩ : ∃ K, K = memK s 12 := ⟨_, rfl⟩
  have hK1 : 1 ≤ K := by rw [hK]; exact mem_pos h1 hs4
  have hK12 : K ≤ 12 := by rw [hK]; exact memsTo_len s 12
  have HKK := Lib.hid hK
  have HM : ∀ {w : World}, TabOk w → Calls Tryd.prog 82 #[.int .i64 s] w (InnerRes w K (memF s 12)) := fun hT => by rw [hK]; exact members_any hs4 hT
  rw [← hK] at HE0 ⊢
  have HE := Lib.hid HE0
  have HCL := Lib.hid hcl
  have HO := Lib.hid hO
  have HV : Hid (subV m m.n z (s : Int) = true) := by show _ = _; rw [subV_is hO h1 h2]; exact closedB_mk hcl
  have HLG : Hid (logicB m m.n z = true) := logicB_true hO.logic
  have hL := Lib.hid (h.step B0)
  have HT := Lib.hid (hT.step B0 hT.size)
  clear h hT h1 h2 hcl hO HE0 hK hp ba bb xa
  go_enter Tryd.func32, Tryd.ntmps32
  go_wp2_with fail
  generalize (w.alloc (.cells #[.slice ua m.n l.cap, .slice (some ⟨g, o, none⟩) m.n nc] 26)).alloc (.cells #[.slice none 0 0, .slice none 0 0] 26) = W at hV B0 s0 q0 q1 hL HT ⊢
  go_at_call 64
  refine (partWith_any hL.out HT.out).mono ?_
  rw [HV.out]
  rintro e w1 ⟨b1, (⟨hs, ob, tb, tG, rfl, hA⟩ | ⟨hs, _⟩)⟩
  · have s1 := b1.size
    have hY := BoxN.start w1 #[.slice ua m.n l.cap, .slice (some ⟨g, o, none⟩) m.n nc, .slice (some ⟨ob, 0, none⟩) 2 2] 58
    have hYb := hY.below
    have ys : (w1.alloc (.cells #[.slice ua m.n l.cap, .slice (some ⟨g, o, none⟩) m.n nc, .slice (some ⟨ob, 0, none⟩) 2 2] 58)).heap.size = w1.heap.size + 1 := World.size_alloc _ _
    have hV1 := (hV.below b1 (by omega)).below hYb (by omega)
    have BY := (B0.trans (b1.mono (by omega))).trans (hYb.mono (by omega))
    have HI1 : Hid (LD.Is ⟨ua, l, m, some ⟨g, o, none⟩, g, o, m.n, nc, z⟩ (w1.alloc (.cells #[.slice ua m.n l.cap, .slice (some ⟨g, o, none⟩) m.n nc, .slice (some ⟨ob, 0, none⟩) 2 2] 58)) B y o') := ⟨(hL.out.step b1).step hYb, HLG.out, HO.out, rfl⟩
    have hBs := hL.out.hB
    have HT1 := Lib.hid ((HT.out.step b1 HT.out.size).step hYb (by have := HT.out.size; omega))
    clear hs hA hYb b1 q0 q1
    unfold algV
    go_wp2_with fail
    generalize w1.alloc (.cells #[.slice ua m.n l.cap, .slice (some ⟨g, o, none⟩) m.n nc, .slice (some ⟨ob, 0, none⟩) 2 2] 58) = W1 at hY ys hV1 BY HI1 HT1 ⊢
    have hYd := hY.step (Below.refl _ W1).drew
    have hS : (fun w' => ((w'.cell? ⟨w1.heap.size, 0, none⟩ = some (.slice ua m.n l.cap) ∧ w'.cell? ⟨w1.heap.size, 1, none⟩ = some (.slice (some ⟨g, o, none⟩) m.n nc)) ∧ w'.cell? ⟨w1.heap.size, 2, none⟩ = some (.slice (some ⟨ob, 0, none⟩) 2 2))) W1.drew := ⟨⟨hYd.cell 0 rfl, hYd.cell 1 rfl⟩, hYd.cell 2 rfl⟩
    have HTd := Lib.hid (HT1.out.step (Below.refl W1.heap.size W1).drew HT1.out.size)
    refine region_plain (fuel := 6) (listed := #[false, false, false, false, false, false]) (fun w' => ((w'.cell? ⟨w1.heap.size, 0, none⟩ = some (.slice ua m.n l.cap) ∧ w'.cell? ⟨w1.heap.size, 1, none⟩ = some (.slice (some ⟨g, o, none⟩) m.n nc)) ∧ w'.cell? ⟨w1.heap.size, 2, none⟩ = some (.slice (some ⟨ob, 0, none⟩) 2 2))) (by kernel_rfl) (by kernel_rfl) (by kernel_rfl) ?_
    refine hold_take (i := 0) (d := 17) (v := ?vA0) (listed' := #[true, false, false, false, false, false]) rfl (by kernel_rfl) (by kernel_rfl) (by kernel_rfl) rfl (by rfl) (by kernel_rfl) hS ?hA0 ?rA0
    case hA0 =>
      intro w' hSw
      obtain ⟨⟨k0, k1⟩, k2⟩ := hSw
      go_simp
      try with_reducible rfl
    simp only [List.setIfInBounds_toArray, List.set_cons_zero, List.set_cons_succ]
    refine hold_take (i := 1) (d := 18) (v := ?vA1) (listed' := #[true, true, false, false, false, false]) rfl (by kernel_rfl) (by kernel_rfl) (by kernel_rfl) rfl (by rfl) (by kernel_rfl) hS ?hA1 ?rA1
    case hA1 =>
      intro w' hSw
      obtain ⟨⟨k0, k1⟩, k2⟩ := hSw
      go_simp
      try with_reducible rfl
    simp only [List.setIfInBounds_toArray, List.set_cons_zero, List.set_cons_succ]
    refine hold_two (i := 2) (j := 4) (by kernel_rfl) ?Ba ?Bb
    case Ba =>
      refine opH_call (i := 2) (d := 19) (listed' := #[true, true, true, false, false, false]) rfl rfl (by rfl) (by kernel_rfl) ?heP2 (HM HTd.out) ?hcP2
      case heP2 => go_simp
      rintro e w3 ⟨a9, g9, c9, rfl, hrow, b3⟩
      have hY3 := hYd.step b3
      have hS3 : (fun w' => ((w'.cell? ⟨w1.heap.size, 0, none⟩ = some (.slice ua m.n l.cap) ∧ w'.cell? ⟨w1.heap.size, 1, none⟩ = some (.slice (some ⟨g, o, none⟩) m.n nc)) ∧ w'.cell? ⟨w1.heap.size, 2, none⟩ = some (.slice (some ⟨ob, 0, none⟩) 2 2))) w3 := ⟨⟨hY3.cell 0 rfl, hY3.cell 1 rfl⟩, hY3.cell 2 rfl⟩
      refine ⟨_, rfl, hS3, ?_⟩
      simp only [List.setIfInBounds_toArray, List.set_cons_zero, List.set_cons_succ]
      refine hold_take (i := 3) (d := 20) (v := ?vP3) (listed' := #[true, true, true, true, false, false]) rfl (by kernel_rfl) (by kernel_rfl) (by kernel_rfl) rfl (by rfl) (by kernel_rfl) hS3 ?hP3 ?rP3
      case hP3 =>
        intro w' hSw
        obtain ⟨⟨k0, k1⟩, k2⟩ := hSw
        go_simp
        try with_reducible rfl
      simp only [List.setIfInBounds_toArray, List.set_cons_zero, List.set_cons_succ]
      have s3 : W1.heap.size ≤ w3.heap.size := b3.size
      have ba := (Below.refl w3.heap.size w3).alloc (Nat.le_refl _) (.cells #[.slice none 0 0, .slice none 0 0, .slice none 0 0, .slice none 0 0] 91)
      have hY4 := hY3.step ba
      have hS4 : (fun w' => ((w'.cell? ⟨w1.heap.size, 0, none⟩ = some (.slice ua m.n l.cap) ∧ w'.cell? ⟨w1.heap.size, 1, none⟩ = some (.slice (some ⟨g, o, none⟩) m.n nc)) ∧ w'.cell? ⟨w1.heap.size, 2, none⟩ = some (.slice (some ⟨ob, 0, none⟩) 2 2))) (w3.alloc (.cells #[.slice none 0 0, .slice none 0 0, .slice none 0 0, .slice none 0 0] 91)) := ⟨⟨hY4.cell 0 rfl, hY4.cell 1 rfl⟩, hY4.cell 2 rfl⟩
      refine hold_value (i := 4) (d := 7) (listed' := #[true, true, true, true, true, false]) rfl (by kernel_rfl) rfl (by rfl) (by kernel_rfl) (v := .pointer (some ⟨w3.heap.size, 0, none⟩)) (w' := w3.alloc (.cells #[.slice none 0 0, .slice none 0 0, .slice none 0 0, .slice none 0 0] 91)) ?hP4 hS4 ?_
      case hP4 =>
        go_simp
        try with_reducible rfl
      simp only [List.setIfInBounds_toArray, List.set_cons_zero, List.set_cons_succ]
      have X := FourAt.new w3 (.slice none 0 0) (.slice none 0 0) (.slice none 0 0) (.slice none 0 0) 91
      have hb4 : Below W1.heap.size W1 (w3.alloc (.cells #[.slice none 0 0, .slice none 0 0, .slice none 0 0, .slice none 0 0] 91)) := ((Below.refl _ W1).drew.trans b3).trans (ba.mono s3)
      have hr := (hrow.below ba).wide (B' := (w3.alloc (.cells #[.slice none 0 0, .slice none 0 0, .slice none 0 0, .slice none 0 0] 91)).heap.size) ba.size
      have hI := HI1.out.step hb4
      have hV2 := hV1.below hb4 (by omega)
      have BW := BY.trans (hb4.mono BY.size)
      obtain ⟨pv, hpv⟩ : ∃ pv, pv = w3.heap.size := ⟨_, rfl⟩
      have s4 : (w3.alloc (.cells #[.slice none 0 0, .slice none 0 0, .slice none 0 0, .slice none 0 0] 91)).heap.size = w3.heap.size + 1 := World.size_alloc _ _
      have hx1 : w1.heap.size < pv ∧ w.heap.size + 1 < pv ∧ B ≤ pv := by omega
      rw [← hpv] at X s4 s3 ⊢
      clear hY3 hY4 hS3 ba b3 hrow hpv
      generalize w3.alloc (.cells #[.slice none 0 0, .slice none 0 0, .slice none 0 0, .slice none 0 0] 91) = w4 at X hS4 hb4 hr hI hV2 BW s4 ⊢
      have z0 := X.c0
      have z1 := X.c1
      have z2 := X.c2
      have z3 := X.c3
      have z4 := X.fz 0
      have z5 := X.fz 1
      have z6 := X.fz 2
      have z7 := X.fz 3
      have hon : OnlyIn (fun j => j = pv) w4 ((((w4.setCell ⟨pv, 0, none⟩ (.slice ua m.n l.cap)).setCell ⟨pv, 1, none⟩ (.slice (some ⟨g, o, none⟩) m.n nc)).setCell ⟨pv, 2, none⟩ (.slice (some ⟨ob, 0, none⟩) 2 2)).setCell ⟨pv, 3, none⟩ (.slice a9 K c9)) := ((((OnlyIn.refl (fun j => j = pv) w4).set (b := pv) rfl 0 _).set (b := pv) rfl 1 _).set (b := pv) rfl 2 _).set (b := pv) rfl 3 _
      have hS9 : (fun w' => ((w'.cell? ⟨w1.heap.size, 0, none⟩ = some (.slice ua m.n l.cap) ∧ w'.cell? ⟨w1.heap.size, 1, none⟩ = some (.slice (some ⟨g, o, none⟩) m.n nc)) ∧ w'.cell? ⟨w1.heap.size, 2, none⟩ = some (.slice (some ⟨ob, 0, none⟩) 2 2))) ((((w4.setCell ⟨pv, 0, none⟩ (.slice ua m.n l.cap)).setCell ⟨pv, 1, none⟩ (.slice (some ⟨g, o, none⟩) m.n nc)).setCell ⟨pv, 2, none⟩ (.slice (some ⟨ob, 0, none⟩) 2 2)).setCell ⟨pv, 3, none⟩ (.slice a9 K c9)) := ⟨⟨(World.cell?_of_block (hon.block _ (by show ¬ w1.heap.size = pv; omega))).trans hS4.1.1, (World.cell?_of_block (hon.block _ (by show ¬ w1.heap.size = pv; omega))).trans hS4.1.2⟩, (World.cell?_of_block (hon.block _ (by show ¬ w1.heap.size = pv; omega))).trans hS4.2⟩
      refine hold_store (i := 5) (w' := ((((w4.setCell ⟨pv, 0, none⟩ (.slice ua m.n l.cap)).setCell ⟨pv, 1, none⟩ (.slice (some ⟨g, o, none⟩) m.n nc)).setCell ⟨pv, 2, none⟩ (.slice (some ⟨ob, 0, none⟩) 2 2)).setCell ⟨pv, 3, none⟩ (.slice a9 K c9))) (listed' := #[true, true, true, true, true, true]) rfl (by kernel_rfl) rfl (by rfl) (by kernel_rfl) ?hsP5 hS9 ?hkP5
      case hsP5 => go_simp
      refine hold_done (by kernel_rfl) ?_ _
      have hF : FourAt (put4 w4 pv (.slice ua m.n l.cap) (.slice (some ⟨g, o, none⟩) m.n nc) (.slice (some ⟨ob, 0, none⟩) 2 2) (.slice a9 K c9)) pv (.slice ua m.n l.cap) (.slice (some ⟨g, o, none⟩) m.n nc) (.slice (some ⟨ob, 0, none⟩) 2 2) (.slice a9 K c9) := X.put
      have hW9 := part_after (d := ⟨ua, l, m, some ⟨g, o, none⟩, g, o, m.n, nc, z⟩) (p := w.heap.size + 1) hI hr hV2 X hon hK1 (by omega) (by omega)
      clear hS9 z0 z1 z2 z3 z4 z5 z6 z7 X
      have B9 : Below w.heap.size w ((((w4.setCell ⟨pv, 0, none⟩ (.slice ua m.n l.cap)).setCell ⟨pv, 1, none⟩ (.slice (some ⟨g, o, none⟩) m.n nc)).setCell ⟨pv, 2, none⟩ (.slice (some ⟨ob, 0, none⟩) 2 2)).setCell ⟨pv, 3, none⟩ (.slice a9 K c9)) := BW.trans (hon.below fun j hj => by have hj' : j = pv := hj; omega)
      have hF : FourAt ((((w4.setCell ⟨pv, 0, none⟩ (.slice ua m.n l.cap)).setCell ⟨pv, 1, none⟩ (.slice (some ⟨g, o, none⟩) m.n nc)).setCell ⟨pv, 2, none⟩ (.slice (some ⟨ob, 0, none⟩) 2 2)).setCell ⟨pv, 3, none⟩ (.slice a9 K c9)) pv (.slice ua m.n l.cap) (.slice (some ⟨g, o, none⟩) m.n nc) (.slice (some ⟨ob, 0, none⟩) 2 2) (.slice a9 K c9) := hF
      clear hon
      generalize ((((w4.setCell ⟨pv, 0, none⟩ (.slice ua m.n l.cap)).setCell ⟨pv, 1, none⟩ (.slice (some ⟨g, o, none⟩) m.n nc)).setCell ⟨pv, 2, none⟩ (.slice (some ⟨ob, 0, none⟩) 2 2)).setCell ⟨pv, 3, none⟩ (.slice a9 K c9)) = w9 at hF hW9 B9 ⊢
      obtain ⟨hI9, hr9, hV9⟩ := hW9
      obtain ⟨rfl, _, _⟩ := hr9.row 0 (by omega)
      have hP : PlanAt w9 (planV K 83 #[.agg #[.slice ua m.n l.cap, .slice (some ⟨g, o, none⟩) m.n nc, .slice (some ⟨ob, 0, none⟩) 2 2, .slice (some ⟨g9, 0, none⟩) K c9]] #[] 84 #[.agg #[.slice ua m.n l.cap, .slice (some ⟨g, o, none⟩) m.n nc, .slice (some ⟨ob, 0, none⟩) 2 2, .slice (some ⟨g9, 0, none⟩) K c9]] #[]) K (viewB m (fun i => ((memF s 12 i : Nat) : Int))) (partY y (memF s 12) (memB s 12)) :=
        part_plan (d := ⟨ua, l, m, some ⟨g, o, none⟩, g, o, m.n, nc, z⟩) hI9 hr9 HE.out HCL.out (by omega)
      have HP := Lib.hid (logic_any hK1 hK12 hP (part_lt HE.out HCL.out HO.out))
      unfold planV at HP
      have y0 := hF.c0
      have y1 := hF.c1
      have y2 := hF.c2
      have y3 := hF.c3
      clear hP hI9 hr9
      go_wp2_with fail
      go_at_call 85
      refine HP.out.mono ?_
      rintro e w10 ⟨u, t, rv, rfl, hL, b10⟩
      have s9 := B9.size
      have hV10 := hV9.below b10 (World.block_lt_of_cell? w9 _ hV9.c0)
      have B10 := B9.trans (b10.mono s9)
      obtain ⟨gu, cu, rfl, _⟩ := hL.out.topv (by omega)
      obtain ⟨gt, ct, rfl, _⟩ := hL.ints.val (by omega)
      have t0 := hV10.c0
      have t1 := hV10.c1
      have t2 := hV10.f0
      have t3 := hV10.f1
      have HLO := Lib.hid hL
      have s10 := World.block_lt_of_cell? w9 _ hV9.c0
      clear hL b10 y0 y1 y2 y3 hF HP
      go_wp2_with fail
      have hfin := (hV10.set0 (.slice (some ⟨gu, 0, none⟩) K cu)).set1 (.slice (some ⟨gt, 0, none⟩) K ct)
      have q0 := hfin.c0
      have q1 := hfin.c1
      have hon := set2_only w10 (w.heap.size + 1) (.slice (some ⟨gu, 0, none⟩) K cu) (.slice (some ⟨gt, 0, none⟩) K ct)
      refine bodyPost_ret (v := .agg #[.slice (some ⟨gu, 0, none⟩) K cu, .slice (some ⟨gt, 0, none⟩) K ct]) (by simp [results, Tryd.results32, go_sem, q0, q1]) rfl ⟨B10.trans (hon.below fun j hj => by have hj' : j = (w.heap.size + 1) := hj; omega), .inr ⟨rfl, _, _, rv, rfl, ((HLO.out.chg (Chg.of_only hon) fun j hj => ?_).base (by omega))⟩⟩
      have hj' : j = (w.heap.size + 1) := hj
      have hx : w.heap.size + 1 < w9.heap.size := s10
      omega
    case Bb =>
      have ba := (Below.refl W1.heap.size W1.drew).alloc (Nat.le_refl _) (.cells #[.slice none 0 0, .slice none 0 0, .slice none 0 0, .slice none 0 0] 91)
      have hY3 := hYd.step ba
      have hS3 : (fun w' => ((w'.cell? ⟨w1.heap.size, 0, none⟩ = some (.slice ua m.n l.cap) ∧ w'.cell? ⟨w1.heap.size, 1, none⟩ = some (.slice (some ⟨g, o, none⟩) m.n nc)) ∧ w'.cell? ⟨w1.heap.size, 2, none⟩ = some (.slice (some ⟨ob, 0, none⟩) 2 2))) (W1.drew.alloc (.cells #[.slice none 0 0, .slice none 0 0, .slice none 0 0, .slice none 0 0] 91)) := ⟨⟨hY3.cell 0 rfl, hY3.cell 1 rfl⟩, hY3.cell 2 rfl⟩
      refine opH_value (i := 4) (d := 7) (listed' := #[true, true, false, false, true, false]) rfl rfl (by rfl) (by kernel_rfl) (v := .pointer (some ⟨W1.heap.size, 0, none⟩)) (w' := W1.drew.alloc (.cells #[.slice none 0 0, .slice none 0 0, .slice none 0 0, .slice none 0 0] 91)) ?hR4 hS3 ?_
      case hR4 =>
        go_simp
        try with_reducible rfl
      simp only [List.setIfInBounds_toArray, List.set_cons_zero, List.set_cons_succ]
      have X := FourAt.new W1.drew (.slice none 0 0) (.slice none 0 0) (.slice none 0 0) (.slice none 0 0) 91
      have hb3 : Below W1.heap.size W1 (W1.drew.alloc (.cells #[.slice none 0 0, .slice none 0 0, .slice none 0 0, .slice none 0 0] 91)) := (Below.refl _ W1).drew.trans ba
      have HT3 := Lib.hid (HTd.out.step ba HTd.out.size)
      obtain ⟨pv, hpv⟩ : ∃ pv, pv = W1.heap.size := ⟨_, rfl⟩
      have s3 : (W1.drew.alloc (.cells #[.slice none 0 0, .slice none 0 0, .slice none 0 0, .slice none 0 0] 91)).heap.size = W1.heap.size + 1 := World.size_alloc _ _
      have X : FourAt (W1.drew.alloc (.cells #[.slice none 0 0, .slice none 0 0, .slice none 0 0, .slice none 0 0] 91)) pv (.slice none 0 0) (.slice none 0 0) (.slice none 0 0) (.slice none 0 0) := by rw [hpv]; exact X
      have hx1 : w1.heap.size < pv ∧ w.heap.size + 1 < pv ∧ B ≤ pv := by omega
      rw [← hpv]
      clear ba
      have hx2 : W1.heap.size ≤ pv := by omega
      rw [← hpv] at s3
      clear hpv
      generalize W1.drew.alloc (.cells #[.slice none 0 0, .slice none 0 0, .slice none 0 0, .slice none 0 0] 91) = w3 at X hY3 hS3 hb3 HT3 s3 ⊢
      refine hold_call (i := 2) (d := 19) (listed' := #[true, true, true, false, true, false]) rfl (by kernel_rfl) rfl (by rfl) (by kernel_rfl) ?heR2 (HM HT3.out) ?hcR2
      case heR2 => go_simp
      rintro e w4 ⟨a9, g9, c9, rfl, hr, b4⟩
      have hY4 := hY3.step b4
      have hS4 : (fun w' => ((w'.cell? ⟨w1.heap.size, 0, none⟩ = some (.slice ua m.n l.cap) ∧ w'.cell? ⟨w1.heap.size, 1, none⟩ = some (.slice (some ⟨g, o, none⟩) m.n nc)) ∧ w'.cell? ⟨w1.heap.size, 2, none⟩ = some (.slice (some ⟨ob, 0, none⟩) 2 2))) w4 := ⟨⟨hY4.cell 0 rfl, hY4.cell 1 rfl⟩, hY4.cell 2 rfl⟩
      refine ⟨_, rfl, hS4, ?_⟩
      simp only [List.setIfInBounds_toArray, List.set_cons_zero, List.set_cons_succ]
      refine hold_take (i := 3) (d := 20) (v := ?vR3) (listed' := #[true, true, true, true, true, false]) rfl (by kernel_rfl) (by kernel_rfl) (by kernel_rfl) rfl (by rfl) (by kernel_rfl) hS4 ?hR3 ?rR3
      case hR3 =>
        intro w' hSw
        obtain ⟨⟨k0, k1⟩, k2⟩ := hSw
        go_simp
        try with_reducible rfl
      simp only [List.setIfInBounds_toArray, List.set_cons_zero, List.set_cons_succ]
      have s4 := b4.size
      have X := X.below b4
      have hb4 : Below W1.heap.size W1 w4 := hb3.trans (b4.mono (by omega))
      have hI := HI1.out.step hb4
      have hV2 := hV1.below hb4 (by omega)
      have BW := BY.trans (hb4.mono BY.size)
      have z0 := X.c0
      have z1 := X.c1
      have z2 := X.c2
      have z3 := X.c3
      have z4 := X.fz 0
      have z5 := X.fz 1
      have z6 := X.fz 2
      have z7 := X.fz 3
      have hon : OnlyIn (fun j => j = pv) w4 ((((w4.setCell ⟨pv, 0, none⟩ (.slice ua m.n l.cap)).setCell ⟨pv, 1, none⟩ (.slice (some ⟨g, o, none⟩) m.n nc)).setCell ⟨pv, 2, none⟩ (.slice (some ⟨ob, 0, none⟩) 2 2)).setCell ⟨pv, 3, none⟩ (.slice a9 K c9)) := ((((OnlyIn.refl (fun j => j = pv) w4).set (b := pv) rfl 0 _).set (b := pv) rfl 1 _).set (b := pv) rfl 2 _).set (b := pv) rfl 3 _
      have hS9 : (fun w' => ((w'.cell? ⟨w1.heap.size, 0, none⟩ = some (.slice ua m.n l.cap) ∧ w'.cell? ⟨w1.heap.size, 1, none⟩ = some (.slice (some ⟨g, o, none⟩) m.n nc)) ∧ w'.cell? ⟨w1.heap.size, 2, none⟩ = some (.slice (some ⟨ob, 0, none⟩) 2 2))) ((((w4.setCell ⟨pv, 0, none⟩ (.slice ua m.n l.cap)).setCell ⟨pv, 1, none⟩ (.slice (some ⟨g, o, none⟩) m.n nc)).setCell ⟨pv, 2, none⟩ (.slice (some ⟨ob, 0, none⟩) 2 2)).setCell ⟨pv, 3, none⟩ (.slice a9 K c9)) := ⟨⟨(World.cell?_of_block (hon.block _ (by show ¬ w1.heap.size = pv; omega))).trans hS4.1.1, (World.cell?_of_block (hon.block _ (by show ¬ w1.heap.size = pv; omega))).trans hS4.1.2⟩, (World.cell?_of_block (hon.block _ (by show ¬ w1.heap.size = pv; omega))).trans hS4.2⟩
      refine hold_store (i := 5) (w' := ((((w4.setCell ⟨pv, 0, none⟩ (.slice ua m.n l.cap)).setCell ⟨pv, 1, none⟩ (.slice (some ⟨g, o, none⟩) m.n nc)).setCell ⟨pv, 2, none⟩ (.slice (some ⟨ob, 0, none⟩) 2 2)).setCell ⟨pv, 3, none⟩ (.slice a9 K c9))) (listed' := #[true, true, true, true, true, true]) rfl (by kernel_rfl) rfl (by rfl) (by kernel_rfl) ?hsR5 hS9 ?hkR5
      case hsR5 => go_simp
      refine hold_done (by kernel_rfl) ?_ _
      have hF : FourAt (put4 w4 pv (.slice ua m.n l.cap) (.slice (some ⟨g, o, none⟩) m.n nc) (.slice (some ⟨ob, 0, none⟩) 2 2) (.slice a9 K c9)) pv (.slice ua m.n l.cap) (.slice (some ⟨g, o, none⟩) m.n nc) (.slice (some ⟨ob, 0, none⟩) 2 2) (.slice a9 K c9) := X.put
      have hW9 := part_after (d := ⟨ua, l, m, some ⟨g, o, none⟩, g, o, m.n, nc, z⟩) (p := w.heap.size + 1) hI hr hV2 X hon hK1 (by omega) (by omega)
      clear hS9 z0 z1 z2 z3 z4 z5 z6 z7 X
      have B9 : Below w.heap.size w ((((w4.setCell ⟨pv, 0, none⟩ (.slice ua m.n l.cap)).setCell ⟨pv, 1, none⟩ (.slice (some ⟨g, o, none⟩) m.n nc)).setCell ⟨pv, 2, none⟩ (.slice (some ⟨ob, 0, none⟩) 2 2)).setCell ⟨pv, 3, none⟩ (.slice a9 K c9)) := BW.trans (hon.below fun j hj => by have hj' : j = pv := hj; omega)
      have hF : FourAt ((((w4.setCell ⟨pv, 0, none⟩ (.slice ua m.n l.cap)).setCell ⟨pv, 1, none⟩ (.slice (some ⟨g, o, none⟩) m.n nc)).setCell ⟨pv, 2, none⟩ (.slice (some ⟨ob, 0, none⟩) 2 2)).setCell ⟨pv, 3, none⟩ (.slice a9 K c9)) pv (.slice ua m.n l.cap) (.slice (some ⟨g, o, none⟩) m.n nc) (.slice (some ⟨ob, 0, none⟩) 2 2) (.slice a9 K c9) := hF
      clear hon
      generalize ((((w4.setCell ⟨pv, 0, none⟩ (.slice ua m.n l.cap)).setCell ⟨pv, 1, none⟩ (.slice (some ⟨g, o, none⟩) m.n nc)).setCell ⟨pv, 2, none⟩ (.slice (some ⟨ob, 0, none⟩) 2 2)).setCell ⟨pv, 3, none⟩ (.slice a9 K c9)) = w9 at hF hW9 B9 ⊢
      obtain ⟨hI9, hr9, hV9⟩ := hW9
      obtain ⟨rfl, _, _⟩ := hr9.row 0 (by omega)
      have hP : PlanAt w9 (planV K 83 #[.agg #[.slice ua m.n l.cap, .slice (some ⟨g, o, none⟩) m.n nc, .slice (some ⟨ob, 0, none⟩) 2 2, .slice (some ⟨g9, 0, none⟩) K c9]] #[] 84 #[.agg #[.slice ua m.n l.cap, .slice (some ⟨g, o, none⟩) m.n nc, .slice (some ⟨ob, 0, none⟩) 2 2, .slice (some ⟨g9, 0, none⟩) K c9]] #[]) K (viewB m (fun i => ((memF s 12 i : Nat) : Int))) (partY y (memF s 12) (memB s 12)) :=
        part_plan (d := ⟨ua, l, m, some ⟨g, o, none⟩, g, o, m.n, nc, z⟩) hI9 hr9 HE.out HCL.out (by omega)
      have HP := Lib.hid (logic_any hK1 hK12 hP (part_lt HE.out HCL.out HO.out))
      unfold planV at HP
      have y0 := hF.c0
      have y1 := hF.c1
      have y2 := hF.c2
      have y3 := hF.c3
      clear hP hI9 hr9
      go_wp2_with fail
      go_at_call 85
      refine HP.out.mono ?_
      rintro e w10 ⟨u, t, rv, rfl, hL, b10⟩
      have s9 := B9.size
      have hV10 := hV9.below b10 (World.block_lt_of_cell? w9 _ hV9.c0)
      have B10 := B9.trans (b10.mono s9)
      obtain ⟨gu, cu, rfl, _⟩ := hL.out.topv (by omega)
      obtain ⟨gt, ct, rfl, _⟩ := hL.ints.val (by omega)
      have t0 := hV10.c0
      have t1 := hV10.c1
      have t2 := hV10.f0
      have t3 := hV10.f1
      have HLO := Lib.hid hL
      have s10 := World.block_lt_of_cell? w9 _ hV9.c0
      clear hL b10 y0 y1 y2 y3 hF HP
      go_wp2_with fail
      have hfin := (hV10.set0 (.slice (some ⟨gu, 0, none⟩) K cu)).set1 (.slice (some ⟨gt, 0, none⟩) K ct)
      have q0 := hfin.c0
      have q1 := hfin.c1
      have hon := set2_only w10 (w.heap.size + 1) (.slice (some ⟨gu, 0, none⟩) K cu) (.slice (some ⟨gt, 0, none⟩) K ct)
      refine bodyPost_ret (v := .agg #[.slice (some ⟨gu, 0, none⟩) K cu, .slice (some ⟨gt, 0, none⟩) K ct]) (by simp [results, Tryd.results32, go_sem, q0, q1]) rfl ⟨B10.trans (hon.below fun j hj => by have hj' : j = (w.heap.size + 1) := hj; omega), .inr ⟨rfl, _, _, rv, rfl, ((HLO.out.chg (Chg.of_only hon) fun j hj => ?_).base (by omega))⟩⟩
      have hj' : j = (w.heap.size + 1) := hj
      have hx : w.heap.size + 1 < w9.heap.size := s10
      omega
  · cases hs

theorem PartOf_any {w : World} {B : Nat} {ua : Option Addr} {l : Lay} {m : Mx} {na : Option Addr} {g o k nc : Nat} {z : Nat → Int} {x : Int} (h : LogAt w B ua l m na g o k z) (hT : TabOk w) :
    Calls Tryd.prog 32 #[.agg #[.slice ua m.n l.cap, .slice na k nc], .int .i64 x] w (MadeLog w (memK x.toNat 12) (nameZ m.Z (memF x.toNat 12)) (partY (fun a => (z a).toNat) (memF x.toNat 12) (memB x.toNat 12)) (subV m k z x)) := by
  cases hs : subV m k z x with
  | false => exact PartOf_no h hT hs
  | true =>
    have hs' := hs
    unfold subV at hs'
    rw [Bool.and_eq_true, Bool.and_eq_true] at hs'
    obtain ⟨⟨hl, hi⟩, hc⟩ := hs'
    obtain ⟨y, o', hO⟩ := (logicB_is hl).ortho
    have hkn : k = m.n := (logicB_is hl).pair.len
    subst hkn
    obtain ⟨rfl, _, _⟩ := h.row.row 0 hO.lat.order.pos
    obtain ⟨i1, i2⟩ : 1 ≤ x ∧ x < (2 ^ m.n : Nat) := of_decide_eq_true hi
    obtain ⟨s, rfl⟩ := Int.eq_ofNat_of_zero_le (show 0 ≤ x by omega)
    have j1 : 1 ≤ s := by omega
    have j2 : s < 2 ^ m.n := by omega
    have hcl : Closed m y s := closedB_is (by
      rw [← closedB_congr fun a ha => hO.toNat ha]; exact hc)
    have hE : Emb m.n (memK s 12) s (memF s 12) (memB s 12) := Emb.down hO.lat.order.top j2
    have e0 : ((s : Nat) : Int).toNat = s := by simp
    show Calls _ _ _ _ (MadeLog w (memK ((s : Nat) : Int).toNat 12) _ _ _)
    rw [e0]
    refine (PartOf_in h hO j1 j2 hcl hT).mono fun e w' hm => hm.congr rfl (fun _ r hr c hc => ?_) (fun _ c hc => ?_)
    · unfold bitZ nameZ viewB
      have b1 : decide ((0 : Int) ≤ ((memF s 12 r : Nat) : Int)) = true := decide_eq_true (by omega)
      have b2 : decide ((0 : Int) ≤ ((memF s 12 c : Nat) : Int)) = true := decide_eq_true (by omega)
      rw [b1, b2, Bool.true_and, Bool.true_and, Int.toNat_natCast, Int.toNat_natCast]
      rcases leB_cases hO.lat.order.sq (hE.lt r hr) (hE.lt c hc) with ⟨l1, z1⟩ | ⟨l1, z1⟩
      · rw [l1, z1]; rfl
      · rw [l1, z1]; rfl
    · show memB s 12 (y (memF s 12 c)) = memB s 12 ((z (memF s 12 c)).toNat)
      rw [hO.toNat (hE.lt c hc)]
end Go.Proofs.YtnbglbhfclohjaaDoor
