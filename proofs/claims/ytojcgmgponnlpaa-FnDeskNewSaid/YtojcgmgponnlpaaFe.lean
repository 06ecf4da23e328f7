/- The walk of what makes a logic by its maker's name: of no logic, of one, of two. The walks of the program's SetsOf and RingOf. -/
import Derived.Test.YtojcgmgponnlpaaFa
import Derived.Test.YtojcgmgponnlpaaOa
namespace Go.Proofs.Ytojcgmgponnlpaa
open Go.RowKit Go.Deep

theorem infoAlgebra : (Try.prog.info? 79).map (fun i => (i.zero, i.size, i.bytes)) = some (some (.agg #[.slice none 0 0, .slice none 0 0, .slice none 0 0]), 3, 72) := by kernel_rfl

/-- A logic as it comes in. -/
structure LD where
  ua : Option Addr
  l : Lay
  m : Mx
  na : Option Addr
  g : Nat
  o : Nat
  k : Nat
  nc : Nat
  z : Nat → Int
abbrev LD.u (d : LD) : Value := .slice d.ua d.m.n d.l.cap
abbrev LD.t (d : LD) : Value := .slice d.na d.k d.nc
def LD.At (w : World) (B : Nat) (d : LD) : Prop := LogAt w B d.ua d.l d.m d.na d.g d.o d.k d.z
noncomputable def LD.ok (d : LD) : Bool := logicB d.m d.k d.z
/-- Its algebra, in memory. -/
def LD.Alg (w : World) (d : LD) (ob : Nat) : Prop := ∃ tb tG, Go.Proofs.Ytojcgmgponnlpaa.Alg w ob tb tG d.ua d.l d.m
theorem LD.Alg.step {w w' : World} {d : LD} {ob : Nat} (h : d.Alg w ob) (hb : Below w.heap.size w w') : d.Alg w' ob := by
  obtain ⟨tb, tG, h⟩ := h
  exact ⟨tb, tG, h.step hb⟩

def noLog : Value := .agg #[.slice none 0 0, .slice none 0 0]
/-- What makes a logic, or says that it cannot, hands back. -/
def MadeOk (w : World) (N : Nat) (Z : Nat → Nat → Int) (y : Nat → Nat) (ok : Bool) (e : Ending) (w' : World) : Prop :=
  Below w.heap.size w w' ∧ ((ok = false ∧ e = .returned (.tuple #[noLog, .bool false])) ∨ (ok = true ∧ ∃ u t rv, e = .returned (.tuple #[.agg #[u, t], .bool true]) ∧ LogO w' w.heap.size u t N rv Z (fun c => (y c : Int))))
theorem set2_only (v : World) (p : Nat) (x y : Value) : OnlyIn (fun q => q = p) v ((v.setCell ⟨p, 0, none⟩ x).setCell ⟨p, 1, none⟩ y) :=
  ((OnlyIn.refl (fun q => q = p) v).set (b := p) rfl 0 x).set (b := p) rfl 1 y
theorem LD.Alg.grown {w w' : World} {d : LD} {ob base n : Nat} {v x : Value} {xs : List Value} (h : d.Alg w ob) (ho : w.ownsRow base 79 3 v n (x :: xs)) (hx : ∀ f a c, x ≠ .func f a c) (hg : w.grownBy w' v.ownBlock) : d.Alg w' ob := by
  obtain ⟨tb, tG, h⟩ := h
  have key : ∀ j, j < w.heap.size → (∀ g, v.ownBlock = some g → j ≠ g) → w'.heap[j]? = w.heap[j]? := fun j hj hne => hg.block j hj fun e => hne j e.symm rfl
  have ty : ∀ {j : Nat} {t : TypeId} {n : Nat} {f : Nat → Value}, t ≠ 79 → w.rowIs j t n f → w'.heap[j]? = w.heap[j]? := fun {j t n f} ht hr => by
    refine key j hr.lt fun g hv e => ?_
    subst e
    obtain ⟨c, h1, _⟩ := hr
    rcases ho.2 with ⟨h2, _⟩ | ⟨g', cap, cur, h2, _, h3, _⟩
    · rw [h2] at hv; simp [Value.ownBlock] at hv
    · rw [h2] at hv
      have e' : g' = j := by simpa [Value.ownBlock] using hv
      rw [e', h1] at h3
      injection h3 with h3
      injection h3 with _ h4
      exact ht h4
  have hob : w'.heap[ob]? = w.heap[ob]? := by
    refine key ob h.lt fun g hv e => ?_
    subst e
    rcases ho.2 with ⟨h2, _⟩ | ⟨g', cap, cur, h2, _, h3, h4⟩
    · rw [h2] at hv; simp [Value.ownBlock] at hv
    · rw [h2] at hv
      have e' : g' = ob := by simpa [Value.ownBlock] using hv
      have hl := ho.1
      rw [h2, e'] at ho
      have h5 := World.ownsRow.cellAt ho 0 (by simp at hl; omega)
      rw [h.op0] at h5
      exact hx _ _ _ (by simpa using h5.symm)
  exact ⟨tb, tG, ⟨⟨h.own.top.of_block (ty (by decide) h.own.top), fun r hr => (h.own.row r hr).of_block (ty (by decide) (h.own.row r hr))⟩, Nat.lt_of_lt_of_le h.lt hg.size, (World.cell?_of_block (a := ⟨ob, 0, none⟩) hob).trans h.op0, (World.cell?_of_block (a := ⟨ob, 1, none⟩) hob).trans h.op1⟩⟩
theorem cell_three_new (w : World) (x y z : Value) (t : TypeId) : ∀ j u, [x, y, z][j]? = some u → (w.alloc (.cells #[x, y, z] t)).cell? ((⟨w.heap.size, 0, none⟩ : Addr).add j) = some u := fun j u h => by
  have hn := ThreeAt.new w x y z t
  match j, h with
  | 0, h => rw [← h]; exact hn.c0
  | 1, h => rw [← h]; exact hn.c1
  | 2, h => rw [← h]; exact hn.c2
theorem cell_three_at {w : World} {x y z : Value} {t : TypeId} {b : Nat} (hb : b = w.heap.size) : ∀ j u, [x, y, z][j]? = some u → (w.alloc (.cells #[x, y, z] t)).cell? ((⟨b, 0, none⟩ : Addr).add j) = some u := by
  subst hb
  exact cell_three_new w x y z t
theorem LD.Alg.grown0 {w w' : World} {d : LD} {ob : Nat} (h : d.Alg w ob) (hg : w.grownBy w' (Value.slice none 0 0).ownBlock) : d.Alg w' ob :=
  h.step ⟨hg.os, hg.tape, hg.output, hg.size, fun j hj => hg.block j hj (by simp [Value.ownBlock])⟩
theorem Fun2At.step {w w' : World} {g N : Nat} {f c : Array Value} {b : Nat → Nat → Bool} (h : Fun2At w g f c N b) (hb : Below w.heap.size w w') : Fun2At w' g f c N b :=
  ⟨h.enters, fun W x y hW hx hy => h.gives W x y (hb.trans (hW.mono hb.size)) hx hy⟩
theorem Fun1At.step {w w' : World} {g N : Nat} {f c : Array Value} {y : Nat → Nat} (h : Fun1At w g f c N y) (hb : Below w.heap.size w w') : Fun1At w' g f c N y :=
  ⟨h.enters, fun W x hW hx => h.gives W x (hb.trans (hW.mono hb.size)) hx⟩
theorem plan_step {w w' : World} {N g1 g2 : Nat} {f1 c1 f2 c2 : Array Value} {b : Nat → Nat → Bool} {y : Nat → Nat} (h : Fun2At w g1 f1 c1 N b) (h' : Fun1At w g2 f2 c2 N y) (hb : Below w.heap.size w w') : Nonempty (PlanAt w' (.agg #[.int .i64 (N : Int), .func (.func g1) f1 c1, .func (.func g2) f2 c2]) N b y) :=
  ⟨⟨_, _, _, _, _, _, rfl, h.step hb, h'.step hb⟩⟩
theorem made_no {w W : World} {ok : Bool} {p N : Nat} {Z : Nat → Nat → Int} {y : Nat → Nat} {x x' : Value} (hp : w.heap.size = p) (hB : Below w.heap.size w W) (hok : ok = false) : MadeOk w N Z y ok (.returned (.tuple #[noLog, .bool false])) ((W.setCell ⟨p, 0, none⟩ x).setCell ⟨p, 1, none⟩ x') :=
  ⟨hB.trans ((set2_only _ _ _ _).below fun j hj => by have hj' : j = p := hj; omega), .inl ⟨hok, rfl⟩⟩

set_option maxRecDepth 100000 in
set_option maxHeartbeats 2000000 in
theorem made_Sets {w : World}  {N : Nat} {b : Nat → Nat → Bool} {y : Nat → Nat} {okp : Bool} {numV : Value} (hp : ∀ W : World, Below w.heap.size w W → Calls Try.prog 64 #[numV, .slice none 0 0] W (Planned W N b y okp)) (hN : okp = true → 1 ≤ N ∧ N ≤ 1000) (hy : okp = true → N ≤ 12 → ∀ a, a < N → y a < N) :
    Calls Try.prog 32 #[.int .i64 0, numV, .slice none 0 0] w (MadeOk w N (bitZ b) y (okp && decide (N ≤ 12))) := by
  have HP := Lib.hid hp
  have HN := Lib.hid hN
  have HY := Lib.hid hy
  have hV := TwoAt.new w (.slice none 0 0) (.slice none 0 0) 26
  have b0 := (Below.refl w.heap.size w).alloc (Nat.le_refl _) (.cells #[.slice none 0 0, .slice none 0 0] 26)
  have s0 : w.heap.size + 1 ≤ (w.alloc (.cells #[.slice none 0 0, .slice none 0 0] 26)).heap.size := by simp
  clear hp hN hy
  obtain ⟨i0, hi, hz0, hz1, hz2⟩ := info_parts infoAlgebra
  have HI := Lib.hid hi
  have HZ0 := Lib.hid hz0
  have HZ1 := Lib.hid hz1
  have HZ2 := Lib.hid hz2
  clear hi hz0 hz1 hz2
  go_enter Try.func32, Try.ntmps32
  generalize hW : w.alloc (.cells #[.slice none 0 0, .slice none 0 0] 26) = W0 at hV b0 s0
  go_wp2_with fail
  go_loop [8, 18] (fun v i => v = .slice none 0 0 ∧ i = .int .i64 0) (fun _ _ => 0)
  case atStart => exact ⟨rfl, rfl⟩
  case round =>
    obtain ⟨rfl, rfl⟩ := hrel
    clear hW
    go_wp2_with fail
    go_at_call 64
    refine (HP.out _ (b0.alloc b0.size _)).mono ?_
    rintro e w1 ⟨b1, (⟨hok, (rfl | ⟨N', g1, f1, c1, g2, f2, c2, rfl⟩)⟩ | ⟨hok, v, rfl, ⟨⟨g1, f1, c1, g2, f2, c2, rfl, hb, ho⟩⟩⟩)⟩
    all_goals
      have HOK := Lib.hid hok
      clear hok
      have bX := (((Below.refl W0.heap.size W0).alloc (Nat.le_refl _) _).trans (b1.mono (by simp)))
      have hV1 := hV.below bX (by omega)
      have B1 := b0.trans (bX.mono b0.size)
      have s1 := bX.size
      clear b1 bX
    · unfold noPlan
      have t0 := hV1.c0
      have t1 := hV1.c1
      have t2 := hV1.f0
      have t3 := hV1.f1
      have B1' := B1.alloc B1.size (.cells #[.int .i64 0, .nilFunc, .nilFunc] 96)
      have hV2 := (hV1.below ((Below.refl w1.heap.size w1).alloc (Nat.le_refl _) (.cells #[.int .i64 0, .nilFunc, .nilFunc] 96)) (by omega))
      have r0 := hV2.c0
      have r1 := hV2.c1
      have r2 := hV2.f0
      have r3 := hV2.f1
      clear t0 t1 t2 t3
      go_wp2_with fail
      have hfin := (hV2.set0 (.slice none 0 0)).set1 (.slice none 0 0)
      have e0 := hfin.c0
      have e1 := hfin.c1
      exact bodyPost_ret (v := .tuple #[noLog, .bool false]) (by simp [results, Try.results32, go_sem, e0, e1, noLog]) rfl (made_no rfl B1' (by rw [HOK.out]; rfl))
    · unfold planV
      have t0 := hV1.c0
      have t1 := hV1.c1
      have t2 := hV1.f0
      have t3 := hV1.f1
      have B1' := B1.alloc B1.size (.cells #[.int .i64 (N' : Int), .func (.func g1) f1 c1, .func (.func g2) f2 c2] 96)
      have hV2 := (hV1.below ((Below.refl w1.heap.size w1).alloc (Nat.le_refl _) (.cells #[.int .i64 (N' : Int), .func (.func g1) f1 c1, .func (.func g2) f2 c2] 96)) (by omega))
      have r0 := hV2.c0
      have r1 := hV2.c1
      have r2 := hV2.f0
      have r3 := hV2.f1
      clear t0 t1 t2 t3
      go_wp2_with fail
      have hfin := (hV2.set0 (.slice none 0 0)).set1 (.slice none 0 0)
      have e0 := hfin.c0
      have e1 := hfin.c1
      exact bodyPost_ret (v := .tuple #[noLog, .bool false]) (by simp [results, Try.results32, go_sem, e0, e1, noLog]) rfl (made_no rfl B1' (by rw [HOK.out]; rfl))
    · have hN := HN.out HOK.out
      by_cases h12 : N ≤ 12
      · have n12 : ¬ (12 : Int) < N := by omega
        have hYY := Lib.hid (HY.out HOK.out h12)
        have HPL := Lib.hid (plan_step hb ho ((Below.refl w1.heap.size w1).alloc (Nat.le_refl _) (.cells #[.int .i64 (N : Int), .func (.func g1) f1 c1, .func (.func g2) f2 c2] 96)))
        clear hb ho
        go_wp2_with fail
        go_at_call 69
        refine (HPL.out.elim fun hpl => logic_any hN.1 h12 hpl hYY.out).mono ?_
        rintro e w3 ⟨u, t, rv, rfl, hL, b3⟩
        have hV3 := (hV1.below ((Below.refl w1.heap.size w1).alloc (Nat.le_refl _) _) (by omega)).below b3 (by simp; omega)
        have B3 := (B1.alloc B1.size _).trans (b3.mono (by have := B1.size; simp; omega))
        obtain ⟨gu, cu, rfl, _⟩ := hL.out.topv (by omega)
        obtain ⟨gt, ct, rfl, _⟩ := hL.ints.val (by omega)
        have t0 := hV3.c0
        have t1 := hV3.c1
        have t2 := hV3.f0
        have t3 := hV3.f1
        have HL := Lib.hid hL
        clear hL
        go_wp2_with fail
        have hfin := (hV3.set0 (.slice (some ⟨gu, 0, none⟩) N cu)).set1 (.slice (some ⟨gt, 0, none⟩) N ct)
        have q0 := hfin.c0
        have q1 := hfin.c1
        have hon := set2_only w3 w.heap.size (.slice (some ⟨gu, 0, none⟩) N cu) (.slice (some ⟨gt, 0, none⟩) N ct)
        have hs1 := B1.size
        refine bodyPost_ret (v := .tuple #[.agg #[.slice (some ⟨gu, 0, none⟩) N cu, .slice (some ⟨gt, 0, none⟩) N ct], .bool true]) (by simp [results, Try.results32, go_sem, q0, q1]) rfl ⟨B3.trans (hon.below fun j hj => by have hj' : j = w.heap.size := hj; omega), .inr ⟨by simp [HOK.out, h12], _, _, rv, rfl, ((HL.out.chg (Chg.of_only hon) fun j hj => ?_).base (by simp; omega))⟩⟩
        have hj' : j = w.heap.size := hj
        simp
        omega
      · clear hb ho
        have t0 := hV1.c0
        have t1 := hV1.c1
        have t2 := hV1.f0
        have t3 := hV1.f1
        have B1' := B1.alloc B1.size (.cells #[.int .i64 (N : Int), .func (.func g1) f1 c1, .func (.func g2) f2 c2] 96)
        have hV2 := (hV1.below ((Below.refl w1.heap.size w1).alloc (Nat.le_refl _) (.cells #[.int .i64 (N : Int), .func (.func g1) f1 c1, .func (.func g2) f2 c2] 96)) (by omega))
        have r0 := hV2.c0
        have r1 := hV2.c1
        have r2 := hV2.f0
        have r3 := hV2.f1
        clear t0 t1 t2 t3
        go_wp2_with fail
        have hfin := (hV2.set0 (.slice none 0 0)).set1 (.slice none 0 0)
        have e0 := hfin.c0
        have e1 := hfin.c1
        exact bodyPost_ret (v := .tuple #[noLog, .bool false]) (by simp [results, Try.results32, go_sem, e0, e1, noLog]) rfl (made_no rfl B1' (by simp [HOK.out, h12]))

set_option maxRecDepth 100000 in
set_option maxHeartbeats 2000000 in
theorem made_Ring {w : World}  {N : Nat} {b : Nat → Nat → Bool} {y : Nat → Nat} {okp : Bool} {numV : Value} (hp : ∀ W : World, Below w.heap.size w W → Calls Try.prog 65 #[numV, .slice none 0 0] W (Planned W N b y okp)) (hN : okp = true → 1 ≤ N ∧ N ≤ 1000) (hy : okp = true → N ≤ 12 → ∀ a, a < N → y a < N) :
    Calls Try.prog 32 #[.int .i64 1, numV, .slice none 0 0] w (MadeOk w N (bitZ b) y (okp && decide (N ≤ 12))) := by
  have HP := Lib.hid hp
  have HN := Lib.hid hN
  have HY := Lib.hid hy
  have hV := TwoAt.new w (.slice none 0 0) (.slice none 0 0) 26
  have b0 := (Below.refl w.heap.size w).alloc (Nat.le_refl _) (.cells #[.slice none 0 0, .slice none 0 0] 26)
  have s0 : w.heap.size + 1 ≤ (w.alloc (.cells #[.slice none 0 0, .slice none 0 0] 26)).heap.size := by simp
  clear hp hN hy
  obtain ⟨i0, hi, hz0, hz1, hz2⟩ := info_parts infoAlgebra
  have HI := Lib.hid hi
  have HZ0 := Lib.hid hz0
  have HZ1 := Lib.hid hz1
  have HZ2 := Lib.hid hz2
  clear hi hz0 hz1 hz2
  go_enter Try.func32, Try.ntmps32
  generalize hW : w.alloc (.cells #[.slice none 0 0, .slice none 0 0] 26) = W0 at hV b0 s0
  go_wp2_with fail
  go_loop [8, 18] (fun v i => v = .slice none 0 0 ∧ i = .int .i64 0) (fun _ _ => 0)
  case atStart => exact ⟨rfl, rfl⟩
  case round =>
    obtain ⟨rfl, rfl⟩ := hrel
    clear hW
    go_wp2_with fail
    go_at_call 65
    refine (HP.out _ (b0.alloc b0.size _)).mono ?_
    rintro e w1 ⟨b1, (⟨hok, (rfl | ⟨N', g1, f1, c1, g2, f2, c2, rfl⟩)⟩ | ⟨hok, v, rfl, ⟨⟨g1, f1, c1, g2, f2, c2, rfl, hb, ho⟩⟩⟩)⟩
    all_goals
      have HOK := Lib.hid hok
      clear hok
      have bX := (((Below.refl W0.heap.size W0).alloc (Nat.le_refl _) _).trans (b1.mono (by simp)))
      have hV1 := hV.below bX (by omega)
      have B1 := b0.trans (bX.mono b0.size)
      have s1 := bX.size
      clear b1 bX
    · unfold noPlan
      have t0 := hV1.c0
      have t1 := hV1.c1
      have t2 := hV1.f0
      have t3 := hV1.f1
      have B1' := B1.alloc B1.size (.cells #[.int .i64 0, .nilFunc, .nilFunc] 96)
      have hV2 := (hV1.below ((Below.refl w1.heap.size w1).alloc (Nat.le_refl _) (.cells #[.int .i64 0, .nilFunc, .nilFunc] 96)) (by omega))
      have r0 := hV2.c0
      have r1 := hV2.c1
      have r2 := hV2.f0
      have r3 := hV2.f1
      clear t0 t1 t2 t3
      go_wp2_with fail
      have hfin := (hV2.set0 (.slice none 0 0)).set1 (.slice none 0 0)
      have e0 := hfin.c0
      have e1 := hfin.c1
      exact bodyPost_ret (v := .tuple #[noLog, .bool false]) (by simp [results, Try.results32, go_sem, e0, e1, noLog]) rfl (made_no rfl B1' (by rw [HOK.out]; rfl))
    · unfold planV
      have t0 := hV1.c0
      have t1 := hV1.c1
      have t2 := hV1.f0
      have t3 := hV1.f1
      have B1' := B1.alloc B1.size (.cells #[.int .i64 (N' : Int), .func (.func g1) f1 c1, .func (.func g2) f2 c2] 96)
      have hV2 := (hV1.below ((Below.refl w1.heap.size w1).alloc (Nat.le_refl _) (.cells #[.int .i64 (N' : Int), .func (.func g1) f1 c1, .func (.func g2) f2 c2] 96)) (by omega))
      have r0 := hV2.c0
      have r1 := hV2.c1
      have r2 := hV2.f0
      have r3 := hV2.f1
      clear t0 t1 t2 t3
      go_wp2_with fail
      have hfin := (hV2.set0 (.slice none 0 0)).set1 (.slice none 0 0)
      have e0 := hfin.c0
      have e1 := hfin.c1
      exact bodyPost_ret (v := .tuple #[noLog, .bool false]) (by simp [results, Try.results32, go_sem, e0, e1, noLog]) rfl (made_no rfl B1' (by rw [HOK.out]; rfl))
    · have hN := HN.out HOK.out
      by_cases h12 : N ≤ 12
      · have n12 : ¬ (12 : Int) < N := by omega
        have hYY := Lib.hid (HY.out HOK.out h12)
        have HPL := Lib.hid (plan_step hb ho ((Below.refl w1.heap.size w1).alloc (Nat.le_refl _) (.cells #[.int .i64 (N : Int), .func (.func g1) f1 c1, .func (.func g2) f2 c2] 96)))
        clear hb ho
        go_wp2_with fail
        go_at_call 69
        refine (HPL.out.elim fun hpl => logic_any hN.1 h12 hpl hYY.out).mono ?_
        rintro e w3 ⟨u, t, rv, rfl, hL, b3⟩
        have hV3 := (hV1.below ((Below.refl w1.heap.size w1).alloc (Nat.le_refl _) _) (by omega)).below b3 (by simp; omega)
        have B3 := (B1.alloc B1.size _).trans (b3.mono (by have := B1.size; simp; omega))
        obtain ⟨gu, cu, rfl, _⟩ := hL.out.topv (by omega)
        obtain ⟨gt, ct, rfl, _⟩ := hL.ints.val (by omega)
        have t0 := hV3.c0
        have t1 := hV3.c1
        have t2 := hV3.f0
        have t3 := hV3.f1
        have HL := Lib.hid hL
        clear hL
        go_wp2_with fail
        have hfin := (hV3.set0 (.slice (some ⟨gu, 0, none⟩) N cu)).set1 (.slice (some ⟨gt, 0, none⟩) N ct)
        have q0 := hfin.c0
        have q1 := hfin.c1
        have hon := set2_only w3 w.heap.size (.slice (some ⟨gu, 0, none⟩) N cu) (.slice (some ⟨gt, 0, none⟩) N ct)
        have hs1 := B1.size
        refine bodyPost_ret (v := .tuple #[.agg #[.slice (some ⟨gu, 0, none⟩) N cu, .slice (some ⟨gt, 0, none⟩) N ct], .bool true]) (by simp [results, Try.results32, go_sem, q0, q1]) rfl ⟨B3.trans (hon.below fun j hj => by have hj' : j = w.heap.size := hj; omega), .inr ⟨by simp [HOK.out, h12], _, _, rv, rfl, ((HL.out.chg (Chg.of_only hon) fun j hj => ?_).base (by simp; omega))⟩⟩
        have hj' : j = w.heap.size := hj
        simp
        omega
      · clear hb ho
        have t0 := hV1.c0
        have t1 := hV1.c1
        have t2 := hV1.f0
        have t3 := hV1.f1
        have B1' := B1.alloc B1.size (.cells #[.int .i64 (N : Int), .func (.func g1) f1 c1, .func (.func g2) f2 c2] 96)
        have hV2 := (hV1.below ((Below.refl w1.heap.size w1).alloc (Nat.le_refl _) (.cells #[.int .i64 (N : Int), .func (.func g1) f1 c1, .func (.func g2) f2 c2] 96)) (by omega))
        have r0 := hV2.c0
        have r1 := hV2.c1
        have r2 := hV2.f0
        have r3 := hV2.f1
        clear t0 t1 t2 t3
        go_wp2_with fail
        have hfin := (hV2.set0 (.slice none 0 0)).set1 (.slice none 0 0)
        have e0 := hfin.c0
        have e1 := hfin.c1
        exact bodyPost_ret (v := .tuple #[noLog, .bool false]) (by simp [results, Try.results32, go_sem, e0, e1, noLog]) rfl (made_no rfl B1' (by simp [HOK.out, h12]))

def RelGlued (w : World) (d0 d1 : LD) (v i : Value) (wr : World) : Prop := (v = .slice none 0 0 ∧ i = .int .i64 0) ∨ (d0.ok = true ∧ ∃ o0 : Nat, i = .int .i64 1 ∧ wr.ownsRow (w.heap.size + 1) 79 3 v 1 [d0.u, d0.t, .slice (some ⟨o0, 0, none⟩) 2 2] ∧ d0.Alg wr o0) ∨ (d0.ok = true ∧ d1.ok = true ∧ ∃ o0 o1 : Nat, i = .int .i64 2 ∧ wr.ownsRow (w.heap.size + 1) 79 3 v 2 [d0.u, d0.t, .slice (some ⟨o0, 0, none⟩) 2 2, d1.u, d1.t, .slice (some ⟨o1, 0, none⟩) 2 2] ∧ d0.Alg wr o0 ∧ d1.Alg wr o1)

set_option maxRecDepth 100000 in
set_option maxHeartbeats 2000000 in
theorem made_Glued {w : World} {gb : Nat} {d0 d1 : LD} {B : Nat} {N : Nat} {b : Nat → Nat → Bool} {y : Nat → Nat} {okp : Bool} {numV : Value} (h0 : d0.At w B) (h1 : d1.At w B) (hgb : gb < w.heap.size) (k0 : w.cell? ⟨gb, 0, none⟩ = some d0.u) (l0 : w.cell? ⟨gb, 1, none⟩ = some d0.t) (k1 : w.cell? ⟨gb, 2, none⟩ = some d1.u) (l1 : w.cell? ⟨gb, 3, none⟩ = some d1.t) (hp : d0.ok = true → d1.ok = true → ∀ (W : World) (v : Value) (o0 o1 : Nat), Below w.heap.size w W → W.ownsRow (w.heap.size + 1) 79 3 v 2 [d0.u, d0.t, .slice (some ⟨o0, 0, none⟩) 2 2, d1.u, d1.t, .slice (some ⟨o1, 0, none⟩) 2 2] → d0.Alg W o0 → d1.Alg W o1 → Calls Try.prog 66 #[numV, v] W (Planned W N b y okp)) (hN : okp = true → 1 ≤ N ∧ N ≤ 1000) (hy : okp = true → N ≤ 12 → ∀ a, a < N → y a < N) :
    Calls Try.prog 32 #[.int .i64 2, numV, .slice (some ⟨gb, 0, none⟩) 2 2] w (MadeOk w N (bitZ b) y (d0.ok && d1.ok && okp && decide (N ≤ 12))) := by
  have HP := Lib.hid hp
  have HN := Lib.hid hN
  have HY := Lib.hid hy
  have hV := TwoAt.new w (.slice none 0 0) (.slice none 0 0) 26
  have b0 := (Below.refl w.heap.size w).alloc (Nat.le_refl _) (.cells #[.slice none 0 0, .slice none 0 0] 26)
  have s0 : w.heap.size + 1 ≤ (w.alloc (.cells #[.slice none 0 0, .slice none 0 0] 26)).heap.size := by simp
  clear hp hN hy
  obtain ⟨i0, hi, hz0, hz1, hz2⟩ := info_parts infoAlgebra
  have HI := Lib.hid hi
  have HZ0 := Lib.hid hz0
  have HZ1 := Lib.hid hz1
  have HZ2 := Lib.hid hz2
  clear hi hz0 hz1 hz2
  go_enter Try.func32, Try.ntmps32
  generalize hW : w.alloc (.cells #[.slice none 0 0, .slice none 0 0] 26) = W0 at hV b0 s0
  go_wp2_with fail
  go_loopw [8, 18] (fun v i wr => RelGlued w d0 d1 v i wr ∧ Below w.heap.size w wr ∧ TwoAt wr w.heap.size (.slice none 0 0) (.slice none 0 0) ∧ w.heap.size + 1 ≤ wr.heap.size) (fun _ i _ => 2 - (intOf i).toNat)
  case atStart => exact ⟨.inl ⟨rfl, rfl⟩, b0, hV, s0⟩
  case round =>
    clear hW hV b0 s0
    obtain ⟨hR, b0, hV, s0⟩ := hrel
    unfold RelGlued at hR
    rcases hR with ⟨rfl, rfl⟩ | ⟨e0, o0, rfl, hown, A0⟩ | ⟨e0, e1, o0, o1, rfl, hown, A0, A1⟩
    · have c0 := (b0.cell (p := ⟨gb, 0, none⟩) hgb).trans k0
      have c1 := (b0.cell (p := ⟨gb, 1, none⟩) hgb).trans l0
      have bL := (Below.refl wr.heap.size wr).alloc (Nat.le_refl _) (.cells #[d0.u, d0.t] 26)
      have hLD := Lib.hid ((LogAt.step h0 b0 : LogAt wr B d0.ua d0.l d0.m d0.na d0.g d0.o d0.k d0.z).step bL)
      go_wp2_with fail
      go_at_call 63
      refine (algebraWith_any hLD.out (show RowAt _ _ none 0 0 0 (fun _ => 0) from ⟨fun c hc => absurd hc (Nat.not_lt_zero _)⟩) (by omega)).mono ?_
      rintro e w2 ⟨b2, hcase⟩
      rw [good_nil, Bool.and_true] at hcase
      rcases hcase with ⟨hok, ob, tb, tG, rfl, hA⟩ | ⟨hok, rfl⟩
      · have hAl : d0.Alg w2 ob := ⟨tb, tG, hA⟩
        have bW2 := (bL.trans (b2.mono (by simp)))
        have s2 := bW2.size
        have hV2 := hV.below bW2 (by omega)
        have B2 := b0.trans (bW2.mono b0.size)
        have HAl := Lib.hid ((hAl.step ((Below.refl w2.heap.size w2).alloc (Nat.le_refl _) (.cells #[d0.u, d0.t, .slice (some ⟨ob, 0, none⟩) 2 2] 79))).step ((Below.refl _ _).alloc (Nat.le_refl _) (.cells #[d0.u, d0.t, .slice (some ⟨ob, 0, none⟩) 2 2] 79)))
        have HOK := Lib.hid hok
        have B3 := (B2.alloc B2.size (.cells #[d0.u, d0.t, .slice (some ⟨ob, 0, none⟩) 2 2] 79)).alloc (by have := B2.size; simp; omega) (.cells #[d0.u, d0.t, .slice (some ⟨ob, 0, none⟩) 2 2] 79)
        have hV3 := (hV2.below ((Below.refl w2.heap.size w2).alloc (Nat.le_refl _) (.cells #[d0.u, d0.t, .slice (some ⟨ob, 0, none⟩) 2 2] 79)) (by omega)).below ((Below.refl _ _).alloc (Nat.le_refl _) (.cells #[d0.u, d0.t, .slice (some ⟨ob, 0, none⟩) 2 2] 79)) (by simp; omega)
        have HOWN := Lib.hid (((World.ownsRow_nil w2 (w.heap.size + 1) 79 3).alloc (.cells #[d0.u, d0.t, .slice (some ⟨ob, 0, none⟩) 2 2] 79)).alloc (.cells #[d0.u, d0.t, .slice (some ⟨ob, 0, none⟩) 2 2] 79))
        clear hA hAl hok c0 c1 hLD bL b2 hV
        unfold algV
        go_wp2_with (at_builtin; refine wpList_append_own _ rfl _ _ 90 rfl (w.heap.size + 1) 79 i0 (.agg #[.slice none 0 0, .slice none 0 0, .slice none 0 0]) 3 72 Try.underlying90 HI.out HZ0.out HZ1.out HZ2.out rfl (by decide) _ _ _ rfl HOWN.out _ 1 1 [d0.u, d0.t, .slice (some ⟨ob, 0, none⟩) 2 2] rfl rfl ?c01 ?c02 ?c03 ?c04 ?c05 ?_)
        case c01 => exact cell_three_at (by simp)
        case c02 => simp [Value.oneCell']
        case c03 => unfold maxLen; omega
        case c04 => omega
        case c05 => simp; omega
        intro v' w4 hown4 hgrow _
        have B4 := B3.grown hgrow (by have := B2.size; simp; omega) (fun k hk => by have := ownsRow_block HOWN.out k hk; omega)
        have hV4 := (Chg.of_grown (S := fun j => w.heap.size + 1 ≤ j) hgrow (fun k hk => ownsRow_block HOWN.out k hk)).two hV3 (by show ¬ _; omega)
        have hA4 := HAl.out.grown0 hgrow
        have s4 := B4.size
        have s5 := hgrow.size
        simp only [World.size_alloc] at s5
        clear hgrow hV3 hV2 B3 B2
        go_wp2_with fail
        go_roundw
        case rel => exact ⟨.inr (.inl ⟨HOK.out, ob, rfl, hown4, hA4⟩), B4, hV4, by omega⟩
        case measure => simp [intOf]
      · have bW2 := (bL.trans (b2.mono (by simp)))
        have s2 := bW2.size
        have hV2 := hV.below bW2 (by omega)
        have B2 := b0.trans (bW2.mono b0.size)
        have HOK := Lib.hid hok
        have B3 := B2.alloc B2.size (.cells #[.slice none 0 0, .slice none 0 0, .slice none 0 0] 79)
        have hV3 := hV2.below ((Below.refl w2.heap.size w2).alloc (Nat.le_refl _) (.cells #[.slice none 0 0, .slice none 0 0, .slice none 0 0] 79)) (by omega)
        have t0 := hV2.c0
        have t1 := hV2.c1
        have t2 := hV2.f0
        have t3 := hV2.f1
        have r0 := hV3.c0
        have r1 := hV3.c1
        have r2 := hV3.f0
        have r3 := hV3.f1
        clear hok c0 c1 hLD bL b2 hV t0 t1 t2 t3
        unfold noAlg
        go_wp2_with fail
        have hfin := (hV3.set0 (.slice none 0 0)).set1 (.slice none 0 0)
        have f0 := hfin.c0
        have f1 := hfin.c1
        exact bodyPost_ret (v := .tuple #[noLog, .bool false]) (by simp [results, Try.results32, go_sem, f0, f1, noLog]) rfl (made_no rfl B3 (by rw [show d0.ok = false from HOK.out]; simp))
    · have c0 := (b0.cell (p := ⟨gb, 2, none⟩) hgb).trans k1
      have c1 := (b0.cell (p := ⟨gb, 3, none⟩) hgb).trans l1
      have bL := (Below.refl wr.heap.size wr).alloc (Nat.le_refl _) (.cells #[d1.u, d1.t] 26)
      have hLD := Lib.hid ((LogAt.step h1 b0 : LogAt wr B d1.ua d1.l d1.m d1.na d1.g d1.o d1.k d1.z).step bL)
      go_wp2_with fail
      go_at_call 63
      refine (algebraWith_any hLD.out (show RowAt _ _ none 0 0 0 (fun _ => 0) from ⟨fun c hc => absurd hc (Nat.not_lt_zero _)⟩) (by omega)).mono ?_
      rintro e w2 ⟨b2, hcase⟩
      rw [good_nil, Bool.and_true] at hcase
      rcases hcase with ⟨hok, ob, tb, tG, rfl, hA⟩ | ⟨hok, rfl⟩
      · have hAl : d1.Alg w2 ob := ⟨tb, tG, hA⟩
        have bW2 := (bL.trans (b2.mono (by simp)))
        have s2 := bW2.size
        have hV2 := hV.below bW2 (by omega)
        have B2 := b0.trans (bW2.mono b0.size)
        have HAl := Lib.hid ((hAl.step ((Below.refl w2.heap.size w2).alloc (Nat.le_refl _) (.cells #[d1.u, d1.t, .slice (some ⟨ob, 0, none⟩) 2 2] 79))).step ((Below.refl _ _).alloc (Nat.le_refl _) (.cells #[d1.u, d1.t, .slice (some ⟨ob, 0, none⟩) 2 2] 79)))
        have HOK := Lib.hid hok
        have B3 := (B2.alloc B2.size (.cells #[d1.u, d1.t, .slice (some ⟨ob, 0, none⟩) 2 2] 79)).alloc (by have := B2.size; simp; omega) (.cells #[d1.u, d1.t, .slice (some ⟨ob, 0, none⟩) 2 2] 79)
        have hV3 := (hV2.below ((Below.refl w2.heap.size w2).alloc (Nat.le_refl _) (.cells #[d1.u, d1.t, .slice (some ⟨ob, 0, none⟩) 2 2] 79)) (by omega)).below ((Below.refl _ _).alloc (Nat.le_refl _) (.cells #[d1.u, d1.t, .slice (some ⟨ob, 0, none⟩) 2 2] 79)) (by simp; omega)
        have HOWN := Lib.hid (((ownsRow_below hown bW2 (Nat.le_refl _)).alloc (.cells #[d1.u, d1.t, .slice (some ⟨ob, 0, none⟩) 2 2] 79)).alloc (.cells #[d1.u, d1.t, .slice (some ⟨ob, 0, none⟩) 2 2] 79))
        have HA0 := Lib.hid (((A0.step bW2).step ((Below.refl w2.heap.size w2).alloc (Nat.le_refl _) (.cells #[d1.u, d1.t, .slice (some ⟨ob, 0, none⟩) 2 2] 79))).step ((Below.refl _ _).alloc (Nat.le_refl _) (.cells #[d1.u, d1.t, .slice (some ⟨ob, 0, none⟩) 2 2] 79)))
        clear hA hAl hok c0 c1 hLD bL b2 hV
        unfold algV
        go_wp2_with (at_builtin; refine wpList_append_own _ rfl _ _ 90 rfl (w.heap.size + 1) 79 i0 (.agg #[.slice none 0 0, .slice none 0 0, .slice none 0 0]) 3 72 Try.underlying90 HI.out HZ0.out HZ1.out HZ2.out rfl (by decide) _ _ _ rfl HOWN.out _ 1 1 [d1.u, d1.t, .slice (some ⟨ob, 0, none⟩) 2 2] rfl rfl ?c11 ?c12 ?c13 ?c14 ?c15 ?_)
        case c11 => exact cell_three_at (by simp)
        case c12 => simp [Value.oneCell']
        case c13 => unfold maxLen; omega
        case c14 => omega
        case c15 => simp; omega
        intro v' w4 hown4 hgrow _
        have B4 := B3.grown hgrow (by have := B2.size; simp; omega) (fun k hk => by have := ownsRow_block HOWN.out k hk; omega)
        have hV4 := (Chg.of_grown (S := fun j => w.heap.size + 1 ≤ j) hgrow (fun k hk => ownsRow_block HOWN.out k hk)).two hV3 (by show ¬ _; omega)
        have hA4 := HAl.out.grown HOWN.out (fun _ _ _ e => by cases e) hgrow
        have hB0 := HA0.out.grown HOWN.out (fun _ _ _ e => by cases e) hgrow
        have s4 := B4.size
        have s5 := hgrow.size
        simp only [World.size_alloc] at s5
        clear hgrow hV3 hV2 B3 B2
        go_wp2_with fail
        go_roundw
        case rel => exact ⟨.inr (.inr ⟨e0, HOK.out, o0, ob, rfl, hown4, hB0, hA4⟩), B4, hV4, by omega⟩
        case measure => simp [intOf]
      · have bW2 := (bL.trans (b2.mono (by simp)))
        have s2 := bW2.size
        have hV2 := hV.below bW2 (by omega)
        have B2 := b0.trans (bW2.mono b0.size)
        have HOK := Lib.hid hok
        have B3 := B2.alloc B2.size (.cells #[.slice none 0 0, .slice none 0 0, .slice none 0 0] 79)
        have hV3 := hV2.below ((Below.refl w2.heap.size w2).alloc (Nat.le_refl _) (.cells #[.slice none 0 0, .slice none 0 0, .slice none 0 0] 79)) (by omega)
        have t0 := hV2.c0
        have t1 := hV2.c1
        have t2 := hV2.f0
        have t3 := hV2.f1
        have r0 := hV3.c0
        have r1 := hV3.c1
        have r2 := hV3.f0
        have r3 := hV3.f1
        clear hok c0 c1 hLD bL b2 hV t0 t1 t2 t3
        unfold noAlg
        go_wp2_with fail
        have hfin := (hV3.set0 (.slice none 0 0)).set1 (.slice none 0 0)
        have f0 := hfin.c0
        have f1 := hfin.c1
        exact bodyPost_ret (v := .tuple #[noLog, .bool false]) (by simp [results, Try.results32, go_sem, f0, f1, noLog]) rfl (made_no rfl B3 (by rw [show d1.ok = false from HOK.out]; simp))
    · go_wp2_with fail
      go_at_call 66
      refine (HP.out e0 e1 _ _ _ _ (b0.alloc b0.size _) (hown.alloc _) (A0.step ((Below.refl _ _).alloc (Nat.le_refl _) _)) (A1.step ((Below.refl _ _).alloc (Nat.le_refl _) _))).mono ?_
      rintro e w1 ⟨b1, (⟨hok, (rfl | ⟨N', g1, f1, c1, g2, f2, c2, rfl⟩)⟩ | ⟨hok, v, rfl, ⟨⟨g1, f1, c1, g2, f2, c2, rfl, hb, ho⟩⟩⟩)⟩
      all_goals
        have HOK := Lib.hid hok
        clear hok
        have bX := (((Below.refl wr.heap.size wr).alloc (Nat.le_refl _) _).trans (b1.mono (by simp)))
        have hV1 := hV.below bX (by omega)
        have B1 := b0.trans (bX.mono b0.size)
        have s1 := bX.size
        clear b1 bX
      · unfold noPlan
        have t0 := hV1.c0
        have t1 := hV1.c1
        have t2 := hV1.f0
        have t3 := hV1.f1
        have B1' := B1.alloc B1.size (.cells #[.int .i64 0, .nilFunc, .nilFunc] 96)
        have hV2 := (hV1.below ((Below.refl w1.heap.size w1).alloc (Nat.le_refl _) (.cells #[.int .i64 0, .nilFunc, .nilFunc] 96)) (by omega))
        have r0 := hV2.c0
        have r1 := hV2.c1
        have r2 := hV2.f0
        have r3 := hV2.f1
        clear t0 t1 t2 t3
        go_wp2_with fail
        have hfin := (hV2.set0 (.slice none 0 0)).set1 (.slice none 0 0)
        have e0 := hfin.c0
        have e1 := hfin.c1
        exact bodyPost_ret (v := .tuple #[noLog, .bool false]) (by simp [results, Try.results32, go_sem, e0, e1, noLog]) rfl (made_no rfl B1' (by rw [HOK.out]; simp))
      · unfold planV
        have t0 := hV1.c0
        have t1 := hV1.c1
        have t2 := hV1.f0
        have t3 := hV1.f1
        have B1' := B1.alloc B1.size (.cells #[.int .i64 (N' : Int), .func (.func g1) f1 c1, .func (.func g2) f2 c2] 96)
        have hV2 := (hV1.below ((Below.refl w1.heap.size w1).alloc (Nat.le_refl _) (.cells #[.int .i64 (N' : Int), .func (.func g1) f1 c1, .func (.func g2) f2 c2] 96)) (by omega))
        have r0 := hV2.c0
        have r1 := hV2.c1
        have r2 := hV2.f0
        have r3 := hV2.f1
        clear t0 t1 t2 t3
        go_wp2_with fail
        have hfin := (hV2.set0 (.slice none 0 0)).set1 (.slice none 0 0)
        have e0 := hfin.c0
        have e1 := hfin.c1
        exact bodyPost_ret (v := .tuple #[noLog, .bool false]) (by simp [results, Try.results32, go_sem, e0, e1, noLog]) rfl (made_no rfl B1' (by rw [HOK.out]; simp))
      · have hN := HN.out HOK.out
        by_cases h12 : N ≤ 12
        · have n12 : ¬ (12 : Int) < N := by omega
          have hYY := Lib.hid (HY.out HOK.out h12)
          have HPL := Lib.hid (plan_step hb ho ((Below.refl w1.heap.size w1).alloc (Nat.le_refl _) (.cells #[.int .i64 (N : Int), .func (.func g1) f1 c1, .func (.func g2) f2 c2] 96)))
          clear hb ho
          go_wp2_with fail
          go_at_call 69
          refine (HPL.out.elim fun hpl => logic_any hN.1 h12 hpl hYY.out).mono ?_
          rintro e w3 ⟨u, t, rv, rfl, hL, b3⟩
          have hV3 := (hV1.below ((Below.refl w1.heap.size w1).alloc (Nat.le_refl _) _) (by omega)).below b3 (by simp; omega)
          have B3 := (B1.alloc B1.size _).trans (b3.mono (by have := B1.size; simp; omega))
          obtain ⟨gu, cu, rfl, _⟩ := hL.out.topv (by omega)
          obtain ⟨gt, ct, rfl, _⟩ := hL.ints.val (by omega)
          have t0 := hV3.c0
          have t1 := hV3.c1
          have t2 := hV3.f0
          have t3 := hV3.f1
          have HL := Lib.hid hL
          clear hL
          go_wp2_with fail
          have hfin := (hV3.set0 (.slice (some ⟨gu, 0, none⟩) N cu)).set1 (.slice (some ⟨gt, 0, none⟩) N ct)
          have q0 := hfin.c0
          have q1 := hfin.c1
          have hon := set2_only w3 w.heap.size (.slice (some ⟨gu, 0, none⟩) N cu) (.slice (some ⟨gt, 0, none⟩) N ct)
          have hs1 := B1.size
          refine bodyPost_ret (v := .tuple #[.agg #[.slice (some ⟨gu, 0, none⟩) N cu, .slice (some ⟨gt, 0, none⟩) N ct], .bool true]) (by simp [results, Try.results32, go_sem, q0, q1]) rfl ⟨B3.trans (hon.below fun j hj => by have hj' : j = w.heap.size := hj; omega), .inr ⟨by simp [HOK.out, h12, e0, e1], _, _, rv, rfl, ((HL.out.chg (Chg.of_only hon) fun j hj => ?_).base (by simp; omega))⟩⟩
          have hj' : j = w.heap.size := hj
          simp
          omega
        · clear hb ho
          have t0 := hV1.c0
          have t1 := hV1.c1
          have t2 := hV1.f0
          have t3 := hV1.f1
          have B1' := B1.alloc B1.size (.cells #[.int .i64 (N : Int), .func (.func g1) f1 c1, .func (.func g2) f2 c2] 96)
          have hV2 := (hV1.below ((Below.refl w1.heap.size w1).alloc (Nat.le_refl _) (.cells #[.int .i64 (N : Int), .func (.func g1) f1 c1, .func (.func g2) f2 c2] 96)) (by omega))
          have r0 := hV2.c0
          have r1 := hV2.c1
          have r2 := hV2.f0
          have r3 := hV2.f1
          clear t0 t1 t2 t3
          go_wp2_with fail
          have hfin := (hV2.set0 (.slice none 0 0)).set1 (.slice none 0 0)
          have e0 := hfin.c0
          have e1 := hfin.c1
          exact bodyPost_ret (v := .tuple #[noLog, .bool false]) (by simp [results, Try.results32, go_sem, e0, e1, noLog]) rfl (made_no rfl B1' (by simp [HOK.out, h12]))

def RelPairs (w : World) (d0 d1 : LD) (v i : Value) (wr : World) : Prop := (v = .slice none 0 0 ∧ i = .int .i64 0) ∨ (d0.ok = true ∧ ∃ o0 : Nat, i = .int .i64 1 ∧ wr.ownsRow (w.heap.size + 1) 79 3 v 1 [d0.u, d0.t, .slice (some ⟨o0, 0, none⟩) 2 2] ∧ d0.Alg wr o0) ∨ (d0.ok = true ∧ d1.ok = true ∧ ∃ o0 o1 : Nat, i = .int .i64 2 ∧ wr.ownsRow (w.heap.size + 1) 79 3 v 2 [d0.u, d0.t, .slice (some ⟨o0, 0, none⟩) 2 2, d1.u, d1.t, .slice (some ⟨o1, 0, none⟩) 2 2] ∧ d0.Alg wr o0 ∧ d1.Alg wr o1)

set_option maxRecDepth 100000 in
set_option maxHeartbeats 2000000 in
theorem made_Pairs {w : World} {gb : Nat} {d0 d1 : LD} {B : Nat} {N : Nat} {b : Nat → Nat → Bool} {y : Nat → Nat} {okp : Bool} {numV : Value} (h0 : d0.At w B) (h1 : d1.At w B) (hgb : gb < w.heap.size) (k0 : w.cell? ⟨gb, 0, none⟩ = some d0.u) (l0 : w.cell? ⟨gb, 1, none⟩ = some d0.t) (k1 : w.cell? ⟨gb, 2, none⟩ = some d1.u) (l1 : w.cell? ⟨gb, 3, none⟩ = some d1.t) (hp : d0.ok = true → d1.ok = true → ∀ (W : World) (v : Value) (o0 o1 : Nat), Below w.heap.size w W → W.ownsRow (w.heap.size + 1) 79 3 v 2 [d0.u, d0.t, .slice (some ⟨o0, 0, none⟩) 2 2, d1.u, d1.t, .slice (some ⟨o1, 0, none⟩) 2 2] → d0.Alg W o0 → d1.Alg W o1 → Calls Try.prog 67 #[numV, v] W (Planned W N b y okp)) (hN : okp = true → 1 ≤ N ∧ N ≤ 1000) (hy : okp = true → N ≤ 12 → ∀ a, a < N → y a < N) :
    Calls Try.prog 32 #[.int .i64 3, numV, .slice (some ⟨gb, 0, none⟩) 2 2] w (MadeOk w N (bitZ b) y (d0.ok && d1.ok && okp && decide (N ≤ 12))) := by
  have HP := Lib.hid hp
  have HN := Lib.hid hN
  have HY := Lib.hid hy
  have hV := TwoAt.new w (.slice none 0 0) (.slice none 0 0) 26
  have b0 := (Below.refl w.heap.size w).alloc (Nat.le_refl _) (.cells #[.slice none 0 0, .slice none 0 0] 26)
  have s0 : w.heap.size + 1 ≤ (w.alloc (.cells #[.slice none 0 0, .slice none 0 0] 26)).heap.size := by simp
  clear hp hN hy
  obtain ⟨i0, hi, hz0, hz1, hz2⟩ := info_parts infoAlgebra
  have HI := Lib.hid hi
  have HZ0 := Lib.hid hz0
  have HZ1 := Lib.hid hz1
  have HZ2 := Lib.hid hz2
  clear hi hz0 hz1 hz2
  go_enter Try.func32, Try.ntmps32
  generalize hW : w.alloc (.cells #[.slice none 0 0, .slice none 0 0] 26) = W0 at hV b0 s0
  go_wp2_with fail
  go_loopw [8, 18] (fun v i wr => RelPairs w d0 d1 v i wr ∧ Below w.heap.size w wr ∧ TwoAt wr w.heap.size (.slice none 0 0) (.slice none 0 0) ∧ w.heap.size + 1 ≤ wr.heap.size) (fun _ i _ => 2 - (intOf i).toNat)
  case atStart => exact ⟨.inl ⟨rfl, rfl⟩, b0, hV, s0⟩
  case round =>
    clear hW hV b0 s0
    obtain ⟨hR, b0, hV, s0⟩ := hrel
    unfold RelPairs at hR
    rcases hR with ⟨rfl, rfl⟩ | ⟨e0, o0, rfl, hown, A0⟩ | ⟨e0, e1, o0, o1, rfl, hown, A0, A1⟩
    · have c0 := (b0.cell (p := ⟨gb, 0, none⟩) hgb).trans k0
      have c1 := (b0.cell (p := ⟨gb, 1, none⟩) hgb).trans l0
      have bL := (Below.refl wr.heap.size wr).alloc (Nat.le_refl _) (.cells #[d0.u, d0.t] 26)
      have hLD := Lib.hid ((LogAt.step h0 b0 : LogAt wr B d0.ua d0.l d0.m d0.na d0.g d0.o d0.k d0.z).step bL)
      go_wp2_with fail
      go_at_call 63
      refine (algebraWith_any hLD.out (show RowAt _ _ none 0 0 0 (fun _ => 0) from ⟨fun c hc => absurd hc (Nat.not_lt_zero _)⟩) (by omega)).mono ?_
      rintro e w2 ⟨b2, hcase⟩
      rw [good_nil, Bool.and_true] at hcase
      rcases hcase with ⟨hok, ob, tb, tG, rfl, hA⟩ | ⟨hok, rfl⟩
      · have hAl : d0.Alg w2 ob := ⟨tb, tG, hA⟩
        have bW2 := (bL.trans (b2.mono (by simp)))
        have s2 := bW2.size
        have hV2 := hV.below bW2 (by omega)
        have B2 := b0.trans (bW2.mono b0.size)
        have HAl := Lib.hid ((hAl.step ((Below.refl w2.heap.size w2).alloc (Nat.le_refl _) (.cells #[d0.u, d0.t, .slice (some ⟨ob, 0, none⟩) 2 2] 79))).step ((Below.refl _ _).alloc (Nat.le_refl _) (.cells #[d0.u, d0.t, .slice (some ⟨ob, 0, none⟩) 2 2] 79)))
        have HOK := Lib.hid hok
        have B3 := (B2.alloc B2.size (.cells #[d0.u, d0.t, .slice (some ⟨ob, 0, none⟩) 2 2] 79)).alloc (by have := B2.size; simp; omega) (.cells #[d0.u, d0.t, .slice (some ⟨ob, 0, none⟩) 2 2] 79)
        have hV3 := (hV2.below ((Below.refl w2.heap.size w2).alloc (Nat.le_refl _) (.cells #[d0.u, d0.t, .slice (some ⟨ob, 0, none⟩) 2 2] 79)) (by omega)).below ((Below.refl _ _).alloc (Nat.le_refl _) (.cells #[d0.u, d0.t, .slice (some ⟨ob, 0, none⟩) 2 2] 79)) (by simp; omega)
        have HOWN := Lib.hid (((World.ownsRow_nil w2 (w.heap.size + 1) 79 3).alloc (.cells #[d0.u, d0.t, .slice (some ⟨ob, 0, none⟩) 2 2] 79)).alloc (.cells #[d0.u, d0.t, .slice (some ⟨ob, 0, none⟩) 2 2] 79))
        clear hA hAl hok c0 c1 hLD bL b2 hV
        unfold algV
        go_wp2_with (at_builtin; refine wpList_append_own _ rfl _ _ 90 rfl (w.heap.size + 1) 79 i0 (.agg #[.slice none 0 0, .slice none 0 0, .slice none 0 0]) 3 72 Try.underlying90 HI.out HZ0.out HZ1.out HZ2.out rfl (by decide) _ _ _ rfl HOWN.out _ 1 1 [d0.u, d0.t, .slice (some ⟨ob, 0, none⟩) 2 2] rfl rfl ?c01 ?c02 ?c03 ?c04 ?c05 ?_)
        case c01 => exact cell_three_at (by simp)
        case c02 => simp [Value.oneCell']
        case c03 => unfold maxLen; omega
        case c04 => omega
        case c05 => simp; omega
        intro v' w4 hown4 hgrow _
        have B4 := B3.grown hgrow (by have := B2.size; simp; omega) (fun k hk => by have := ownsRow_block HOWN.out k hk; omega)
        have hV4 := (Chg.of_grown (S := fun j => w.heap.size + 1 ≤ j) hgrow (fun k hk => ownsRow_block HOWN.out k hk)).two hV3 (by show ¬ _; omega)
        have hA4 := HAl.out.grown0 hgrow
        have s4 := B4.size
        have s5 := hgrow.size
        simp only [World.size_alloc] at s5
        clear hgrow hV3 hV2 B3 B2
        go_wp2_with fail
        go_roundw
        case rel => exact ⟨.inr (.inl ⟨HOK.out, ob, rfl, hown4, hA4⟩), B4, hV4, by omega⟩
        case measure => simp [intOf]
      · have bW2 := (bL.trans (b2.mono (by simp)))
        have s2 := bW2.size
        have hV2 := hV.below bW2 (by omega)
        have B2 := b0.trans (bW2.mono b0.size)
        have HOK := Lib.hid hok
        have B3 := B2.alloc B2.size (.cells #[.slice none 0 0, .slice none 0 0, .slice none 0 0] 79)
        have hV3 := hV2.below ((Below.refl w2.heap.size w2).alloc (Nat.le_refl _) (.cells #[.slice none 0 0, .slice none 0 0, .slice none 0 0] 79)) (by omega)
        have t0 := hV2.c0
        have t1 := hV2.c1
        have t2 := hV2.f0
        have t3 := hV2.f1
        have r0 := hV3.c0
        have r1 := hV3.c1
        have r2 := hV3.f0
        have r3 := hV3.f1
        clear hok c0 c1 hLD bL b2 hV t0 t1 t2 t3
        unfold noAlg
        go_wp2_with fail
        have hfin := (hV3.set0 (.slice none 0 0)).set1 (.slice none 0 0)
        have f0 := hfin.c0
        have f1 := hfin.c1
        exact bodyPost_ret (v := .tuple #[noLog, .bool false]) (by simp [results, Try.results32, go_sem, f0, f1, noLog]) rfl (made_no rfl B3 (by rw [show d0.ok = false from HOK.out]; simp))
    · have c0 := (b0.cell (p := ⟨gb, 2, none⟩) hgb).trans k1
      have c1 := (b0.cell (p := ⟨gb, 3, none⟩) hgb).trans l1
      have bL := (Below.refl wr.heap.size wr).alloc (Nat.le_refl _) (.cells #[d1.u, d1.t] 26)
      have hLD := Lib.hid ((LogAt.step h1 b0 : LogAt wr B d1.ua d1.l d1.m d1.na d1.g d1.o d1.k d1.z).step bL)
      go_wp2_with fail
      go_at_call 63
      refine (algebraWith_any hLD.out (show RowAt _ _ none 0 0 0 (fun _ => 0) from ⟨fun c hc => absurd hc (Nat.not_lt_zero _)⟩) (by omega)).mono ?_
      rintro e w2 ⟨b2, hcase⟩
      rw [good_nil, Bool.and_true] at hcase
      rcases hcase with ⟨hok, ob, tb, tG, rfl, hA⟩ | ⟨hok, rfl⟩
      · have hAl : d1.Alg w2 ob := ⟨tb, tG, hA⟩
        have bW2 := (bL.trans (b2.mono (by simp)))
        have s2 := bW2.size
        have hV2 := hV.below bW2 (by omega)
        have B2 := b0.trans (bW2.mono b0.size)
        have HAl := Lib.hid ((hAl.step ((Below.refl w2.heap.size w2).alloc (Nat.le_refl _) (.cells #[d1.u, d1.t, .slice (some ⟨ob, 0, none⟩) 2 2] 79))).step ((Below.refl _ _).alloc (Nat.le_refl _) (.cells #[d1.u, d1.t, .slice (some ⟨ob, 0, none⟩) 2 2] 79)))
        have HOK := Lib.hid hok
        have B3 := (B2.alloc B2.size (.cells #[d1.u, d1.t, .slice (some ⟨ob, 0, none⟩) 2 2] 79)).alloc (by have := B2.size; simp; omega) (.cells #[d1.u, d1.t, .slice (some ⟨ob, 0, none⟩) 2 2] 79)
        have hV3 := (hV2.below ((Below.refl w2.heap.size w2).alloc (Nat.le_refl _) (.cells #[d1.u, d1.t, .slice (some ⟨ob, 0, none⟩) 2 2] 79)) (by omega)).below ((Below.refl _ _).alloc (Nat.le_refl _) (.cells #[d1.u, d1.t, .slice (some ⟨ob, 0, none⟩) 2 2] 79)) (by simp; omega)
        have HOWN := Lib.hid (((ownsRow_below hown bW2 (Nat.le_refl _)).alloc (.cells #[d1.u, d1.t, .slice (some ⟨ob, 0, none⟩) 2 2] 79)).alloc (.cells #[d1.u, d1.t, .slice (some ⟨ob, 0, none⟩) 2 2] 79))
        have HA0 := Lib.hid (((A0.step bW2).step ((Below.refl w2.heap.size w2).alloc (Nat.le_refl _) (.cells #[d1.u, d1.t, .slice (some ⟨ob, 0, none⟩) 2 2] 79))).step ((Below.refl _ _).alloc (Nat.le_refl _) (.cells #[d1.u, d1.t, .slice (some ⟨ob, 0, none⟩) 2 2] 79)))
        clear hA hAl hok c0 c1 hLD bL b2 hV
        unfold algV
        go_wp2_with (at_builtin; refine wpList_append_own _ rfl _ _ 90 rfl (w.heap.size + 1) 79 i0 (.agg #[.slice none 0 0, .slice none 0 0, .slice none 0 0]) 3 72 Try.underlying90 HI.out HZ0.out HZ1.out HZ2.out rfl (by decide) _ _ _ rfl HOWN.out _ 1 1 [d1.u, d1.t, .slice (some ⟨ob, 0, none⟩) 2 2] rfl rfl ?c11 ?c12 ?c13 ?c14 ?c15 ?_)
        case c11 => exact cell_three_at (by simp)
        case c12 => simp [Value.oneCell']
        case c13 => unfold maxLen; omega
        case c14 => omega
        case c15 => simp; omega
        intro v' w4 hown4 hgrow _
        have B4 := B3.grown hgrow (by have := B2.size; simp; omega) (fun k hk => by have := ownsRow_block HOWN.out k hk; omega)
        have hV4 := (Chg.of_grown (S := fun j => w.heap.size + 1 ≤ j) hgrow (fun k hk => ownsRow_block HOWN.out k hk)).two hV3 (by show ¬ _; omega)
        have hA4 := HAl.out.grown HOWN.out (fun _ _ _ e => by cases e) hgrow
        have hB0 := HA0.out.grown HOWN.out (fun _ _ _ e => by cases e) hgrow
        have s4 := B4.size
        have s5 := hgrow.size
        simp only [World.size_alloc] at s5
        clear hgrow hV3 hV2 B3 B2
        go_wp2_with fail
        go_roundw
        case rel => exact ⟨.inr (.inr ⟨e0, HOK.out, o0, ob, rfl, hown4, hB0, hA4⟩), B4, hV4, by omega⟩
        case measure => simp [intOf]
      · have bW2 := (bL.trans (b2.mono (by simp)))
        have s2 := bW2.size
        have hV2 := hV.below bW2 (by omega)
        have B2 := b0.trans (bW2.mono b0.size)
        have HOK := Lib.hid hok
        have B3 := B2.alloc B2.size (.cells #[.slice none 0 0, .slice none 0 0, .slice none 0 0] 79)
        have hV3 := hV2.below ((Below.refl w2.heap.size w2).alloc (Nat.le_refl _) (.cells #[.slice none 0 0, .slice none 0 0, .slice none 0 0] 79)) (by omega)
        have t0 := hV2.c0
        have t1 := hV2.c1
        have t2 := hV2.f0
        have t3 := hV2.f1
        have r0 := hV3.c0
        have r1 := hV3.c1
        have r2 := hV3.f0
        have r3 := hV3.f1
        clear hok c0 c1 hLD bL b2 hV t0 t1 t2 t3
        unfold noAlg
        go_wp2_with fail
        have hfin := (hV3.set0 (.slice none 0 0)).set1 (.slice none 0 0)
        have f0 := hfin.c0
        have f1 := hfin.c1
        exact bodyPost_ret (v := .tuple #[noLog, .bool false]) (by simp [results, Try.results32, go_sem, f0, f1, noLog]) rfl (made_no rfl B3 (by rw [show d1.ok = false from HOK.out]; simp))
    · go_wp2_with fail
      go_at_call 67
      refine (HP.out e0 e1 _ _ _ _ (b0.alloc b0.size _) (hown.alloc _) (A0.step ((Below.refl _ _).alloc (Nat.le_refl _) _)) (A1.step ((Below.refl _ _).alloc (Nat.le_refl _) _))).mono ?_
      rintro e w1 ⟨b1, (⟨hok, (rfl | ⟨N', g1, f1, c1, g2, f2, c2, rfl⟩)⟩ | ⟨hok, v, rfl, ⟨⟨g1, f1, c1, g2, f2, c2, rfl, hb, ho⟩⟩⟩)⟩
      all_goals
        have HOK := Lib.hid hok
        clear hok
        have bX := (((Below.refl wr.heap.size wr).alloc (Nat.le_refl _) _).trans (b1.mono (by simp)))
        have hV1 := hV.below bX (by omega)
        have B1 := b0.trans (bX.mono b0.size)
        have s1 := bX.size
        clear b1 bX
      · unfold noPlan
        have t0 := hV1.c0
        have t1 := hV1.c1
        have t2 := hV1.f0
        have t3 := hV1.f1
        have B1' := B1.alloc B1.size (.cells #[.int .i64 0, .nilFunc, .nilFunc] 96)
        have hV2 := (hV1.below ((Below.refl w1.heap.size w1).alloc (Nat.le_refl _) (.cells #[.int .i64 0, .nilFunc, .nilFunc] 96)) (by omega))
        have r0 := hV2.c0
        have r1 := hV2.c1
        have r2 := hV2.f0
        have r3 := hV2.f1
        clear t0 t1 t2 t3
        go_wp2_with fail
        have hfin := (hV2.set0 (.slice none 0 0)).set1 (.slice none 0 0)
        have e0 := hfin.c0
        have e1 := hfin.c1
        exact bodyPost_ret (v := .tuple #[noLog, .bool false]) (by simp [results, Try.results32, go_sem, e0, e1, noLog]) rfl (made_no rfl B1' (by rw [HOK.out]; simp))
      · unfold planV
        have t0 := hV1.c0
        have t1 := hV1.c1
        have t2 := hV1.f0
        have t3 := hV1.f1
        have B1' := B1.alloc B1.size (.cells #[.int .i64 (N' : Int), .func (.func g1) f1 c1, .func (.func g2) f2 c2] 96)
        have hV2 := (hV1.below ((Below.refl w1.heap.size w1).alloc (Nat.le_refl _) (.cells #[.int .i64 (N' : Int), .func (.func g1) f1 c1, .func (.func g2) f2 c2] 96)) (by omega))
        have r0 := hV2.c0
        have r1 := hV2.c1
        have r2 := hV2.f0
        have r3 := hV2.f1
        clear t0 t1 t2 t3
        go_wp2_with fail
        have hfin := (hV2.set0 (.slice none 0 0)).set1 (.slice none 0 0)
        have e0 := hfin.c0
        have e1 := hfin.c1
        exact bodyPost_ret (v := .tuple #[noLog, .bool false]) (by simp [results, Try.results32, go_sem, e0, e1, noLog]) rfl (made_no rfl B1' (by rw [HOK.out]; simp))
      · have hN := HN.out HOK.out
        by_cases h12 : N ≤ 12
        · have n12 : ¬ (12 : Int) < N := by omega
          have hYY := Lib.hid (HY.out HOK.out h12)
          have HPL := Lib.hid (plan_step hb ho ((Below.refl w1.heap.size w1).alloc (Nat.le_refl _) (.cells #[.int .i64 (N : Int), .func (.func g1) f1 c1, .func (.func g2) f2 c2] 96)))
          clear hb ho
          go_wp2_with fail
          go_at_call 69
          refine (HPL.out.elim fun hpl => logic_any hN.1 h12 hpl hYY.out).mono ?_
          rintro e w3 ⟨u, t, rv, rfl, hL, b3⟩
          have hV3 := (hV1.below ((Below.refl w1.heap.size w1).alloc (Nat.le_refl _) _) (by omega)).below b3 (by simp; omega)
          have B3 := (B1.alloc B1.size _).trans (b3.mono (by have := B1.size; simp; omega))
          obtain ⟨gu, cu, rfl, _⟩ := hL.out.topv (by omega)
          obtain ⟨gt, ct, rfl, _⟩ := hL.ints.val (by omega)
          have t0 := hV3.c0
          have t1 := hV3.c1
          have t2 := hV3.f0
          have t3 := hV3.f1
          have HL := Lib.hid hL
          clear hL
          go_wp2_with fail
          have hfin := (hV3.set0 (.slice (some ⟨gu, 0, none⟩) N cu)).set1 (.slice (some ⟨gt, 0, none⟩) N ct)
          have q0 := hfin.c0
          have q1 := hfin.c1
          have hon := set2_only w3 w.heap.size (.slice (some ⟨gu, 0, none⟩) N cu) (.slice (some ⟨gt, 0, none⟩) N ct)
          have hs1 := B1.size
          refine bodyPost_ret (v := .tuple #[.agg #[.slice (some ⟨gu, 0, none⟩) N cu, .slice (some ⟨gt, 0, none⟩) N ct], .bool true]) (by simp [results, Try.results32, go_sem, q0, q1]) rfl ⟨B3.trans (hon.below fun j hj => by have hj' : j = w.heap.size := hj; omega), .inr ⟨by simp [HOK.out, h12, e0, e1], _, _, rv, rfl, ((HL.out.chg (Chg.of_only hon) fun j hj => ?_).base (by simp; omega))⟩⟩
          have hj' : j = w.heap.size := hj
          simp
          omega
        · clear hb ho
          have t0 := hV1.c0
          have t1 := hV1.c1
          have t2 := hV1.f0
          have t3 := hV1.f1
          have B1' := B1.alloc B1.size (.cells #[.int .i64 (N : Int), .func (.func g1) f1 c1, .func (.func g2) f2 c2] 96)
          have hV2 := (hV1.below ((Below.refl w1.heap.size w1).alloc (Nat.le_refl _) (.cells #[.int .i64 (N : Int), .func (.func g1) f1 c1, .func (.func g2) f2 c2] 96)) (by omega))
          have r0 := hV2.c0
          have r1 := hV2.c1
          have r2 := hV2.f0
          have r3 := hV2.f1
          clear t0 t1 t2 t3
          go_wp2_with fail
          have hfin := (hV2.set0 (.slice none 0 0)).set1 (.slice none 0 0)
          have e0 := hfin.c0
          have e1 := hfin.c1
          exact bodyPost_ret (v := .tuple #[noLog, .bool false]) (by simp [results, Try.results32, go_sem, e0, e1, noLog]) rfl (made_no rfl B1' (by simp [HOK.out, h12]))

def RelRenamed (w : World) (d0 : LD) (v i : Value) (wr : World) : Prop := (v = .slice none 0 0 ∧ i = .int .i64 0) ∨ (d0.ok = true ∧ ∃ o0 : Nat, i = .int .i64 1 ∧ wr.ownsRow (w.heap.size + 1) 79 3 v 1 [d0.u, d0.t, .slice (some ⟨o0, 0, none⟩) 2 2] ∧ d0.Alg wr o0)

set_option maxRecDepth 100000 in
set_option maxHeartbeats 2000000 in
theorem made_Renamed {w : World} {gb : Nat} {d0 : LD} {B : Nat} {N : Nat} {b : Nat → Nat → Bool} {y : Nat → Nat} {okp : Bool} {numV : Value} (h0 : d0.At w B) (hgb : gb < w.heap.size) (k0 : w.cell? ⟨gb, 0, none⟩ = some d0.u) (l0 : w.cell? ⟨gb, 1, none⟩ = some d0.t) (hp : d0.ok = true → ∀ (W : World) (v : Value) (o0 : Nat), Below w.heap.size w W → W.ownsRow (w.heap.size + 1) 79 3 v 1 [d0.u, d0.t, .slice (some ⟨o0, 0, none⟩) 2 2] → d0.Alg W o0 → Calls Try.prog 68 #[numV, v] W (Planned W N b y okp)) (hN : okp = true → 1 ≤ N ∧ N ≤ 1000) (hy : okp = true → N ≤ 12 → ∀ a, a < N → y a < N) :
    Calls Try.prog 32 #[.int .i64 4, numV, .slice (some ⟨gb, 0, none⟩) 1 1] w (MadeOk w N (bitZ b) y (d0.ok && okp && decide (N ≤ 12))) := by
  have HP := Lib.hid hp
  have HN := Lib.hid hN
  have HY := Lib.hid hy
  have hV := TwoAt.new w (.slice none 0 0) (.slice none 0 0) 26
  have b0 := (Below.refl w.heap.size w).alloc (Nat.le_refl _) (.cells #[.slice none 0 0, .slice none 0 0] 26)
  have s0 : w.heap.size + 1 ≤ (w.alloc (.cells #[.slice none 0 0, .slice none 0 0] 26)).heap.size := by simp
  clear hp hN hy
  obtain ⟨i0, hi, hz0, hz1, hz2⟩ := info_parts infoAlgebra
  have HI := Lib.hid hi
  have HZ0 := Lib.hid hz0
  have HZ1 := Lib.hid hz1
  have HZ2 := Lib.hid hz2
  clear hi hz0 hz1 hz2
  go_enter Try.func32, Try.ntmps32
  generalize hW : w.alloc (.cells #[.slice none 0 0, .slice none 0 0] 26) = W0 at hV b0 s0
  go_wp2_with fail
  go_loopw [8, 18] (fun v i wr => RelRenamed w d0 v i wr ∧ Below w.heap.size w wr ∧ TwoAt wr w.heap.size (.slice none 0 0) (.slice none 0 0) ∧ w.heap.size + 1 ≤ wr.heap.size) (fun _ i _ => 1 - (intOf i).toNat)
  case atStart => exact ⟨.inl ⟨rfl, rfl⟩, b0, hV, s0⟩
  case round =>
    clear hW hV b0 s0
    obtain ⟨hR, b0, hV, s0⟩ := hrel
    unfold RelRenamed at hR
    rcases hR with ⟨rfl, rfl⟩ | ⟨e0, o0, rfl, hown, A0⟩
    · have c0 := (b0.cell (p := ⟨gb, 0, none⟩) hgb).trans k0
      have c1 := (b0.cell (p := ⟨gb, 1, none⟩) hgb).trans l0
      have bL := (Below.refl wr.heap.size wr).alloc (Nat.le_refl _) (.cells #[d0.u, d0.t] 26)
      have hLD := Lib.hid ((LogAt.step h0 b0 : LogAt wr B d0.ua d0.l d0.m d0.na d0.g d0.o d0.k d0.z).step bL)
      go_wp2_with fail
      go_at_call 63
      refine (algebraWith_any hLD.out (show RowAt _ _ none 0 0 0 (fun _ => 0) from ⟨fun c hc => absurd hc (Nat.not_lt_zero _)⟩) (by omega)).mono ?_
      rintro e w2 ⟨b2, hcase⟩
      rw [good_nil, Bool.and_true] at hcase
      rcases hcase with ⟨hok, ob, tb, tG, rfl, hA⟩ | ⟨hok, rfl⟩
      · have hAl : d0.Alg w2 ob := ⟨tb, tG, hA⟩
        have bW2 := (bL.trans (b2.mono (by simp)))
        have s2 := bW2.size
        have hV2 := hV.below bW2 (by omega)
        have B2 := b0.trans (bW2.mono b0.size)
        have HAl := Lib.hid ((hAl.step ((Below.refl w2.heap.size w2).alloc (Nat.le_refl _) (.cells #[d0.u, d0.t, .slice (some ⟨ob, 0, none⟩) 2 2] 79))).step ((Below.refl _ _).alloc (Nat.le_refl _) (.cells #[d0.u, d0.t, .slice (some ⟨ob, 0, none⟩) 2 2] 79)))
        have HOK := Lib.hid hok
        have B3 := (B2.alloc B2.size (.cells #[d0.u, d0.t, .slice (some ⟨ob, 0, none⟩) 2 2] 79)).alloc (by have := B2.size; simp; omega) (.cells #[d0.u, d0.t, .slice (some ⟨ob, 0, none⟩) 2 2] 79)
        have hV3 := (hV2.below ((Below.refl w2.heap.size w2).alloc (Nat.le_refl _) (.cells #[d0.u, d0.t, .slice (some ⟨ob, 0, none⟩) 2 2] 79)) (by omega)).below ((Below.refl _ _).alloc (Nat.le_refl _) (.cells #[d0.u, d0.t, .slice (some ⟨ob, 0, none⟩) 2 2] 79)) (by simp; omega)
        have HOWN := Lib.hid (((World.ownsRow_nil w2 (w.heap.size + 1) 79 3).alloc (.cells #[d0.u, d0.t, .slice (some ⟨ob, 0, none⟩) 2 2] 79)).alloc (.cells #[d0.u, d0.t, .slice (some ⟨ob, 0, none⟩) 2 2] 79))
        clear hA hAl hok c0 c1 hLD bL b2 hV
        unfold algV
        go_wp2_with (at_builtin; refine wpList_append_own _ rfl _ _ 90 rfl (w.heap.size + 1) 79 i0 (.agg #[.slice none 0 0, .slice none 0 0, .slice none 0 0]) 3 72 Try.underlying90 HI.out HZ0.out HZ1.out HZ2.out rfl (by decide) _ _ _ rfl HOWN.out _ 1 1 [d0.u, d0.t, .slice (some ⟨ob, 0, none⟩) 2 2] rfl rfl ?c01 ?c02 ?c03 ?c04 ?c05 ?_)
        case c01 => exact cell_three_at (by simp)
        case c02 => simp [Value.oneCell']
        case c03 => unfold maxLen; omega
        case c04 => omega
        case c05 => simp; omega
        intro v' w4 hown4 hgrow _
        have B4 := B3.grown hgrow (by have := B2.size; simp; omega) (fun k hk => by have := ownsRow_block HOWN.out k hk; omega)
        have hV4 := (Chg.of_grown (S := fun j => w.heap.size + 1 ≤ j) hgrow (fun k hk => ownsRow_block HOWN.out k hk)).two hV3 (by show ¬ _; omega)
        have hA4 := HAl.out.grown0 hgrow
        have s4 := B4.size
        have s5 := hgrow.size
        simp only [World.size_alloc] at s5
        clear hgrow hV3 hV2 B3 B2
        go_wp2_with fail
        go_roundw
        case rel => exact ⟨.inr ⟨HOK.out, ob, rfl, hown4, hA4⟩, B4, hV4, by omega⟩
        case measure => simp [intOf]
      · have bW2 := (bL.trans (b2.mono (by simp)))
        have s2 := bW2.size
        have hV2 := hV.below bW2 (by omega)
        have B2 := b0.trans (bW2.mono b0.size)
        have HOK := Lib.hid hok
        have B3 := B2.alloc B2.size (.cells #[.slice none 0 0, .slice none 0 0, .slice none 0 0] 79)
        have hV3 := hV2.below ((Below.refl w2.heap.size w2).alloc (Nat.le_refl _) (.cells #[.slice none 0 0, .slice none 0 0, .slice none 0 0] 79)) (by omega)
        have t0 := hV2.c0
        have t1 := hV2.c1
        have t2 := hV2.f0
        have t3 := hV2.f1
        have r0 := hV3.c0
        have r1 := hV3.c1
        have r2 := hV3.f0
        have r3 := hV3.f1
        clear hok c0 c1 hLD bL b2 hV t0 t1 t2 t3
        unfold noAlg
        go_wp2_with fail
        have hfin := (hV3.set0 (.slice none 0 0)).set1 (.slice none 0 0)
        have f0 := hfin.c0
        have f1 := hfin.c1
        exact bodyPost_ret (v := .tuple #[noLog, .bool false]) (by simp [results, Try.results32, go_sem, f0, f1, noLog]) rfl (made_no rfl B3 (by rw [show d0.ok = false from HOK.out]; simp))
    · go_wp2_with fail
      go_at_call 68
      refine (HP.out e0 _ _ _ (b0.alloc b0.size _) (hown.alloc _) (A0.step ((Below.refl _ _).alloc (Nat.le_refl _) _))).mono ?_
      rintro e w1 ⟨b1, (⟨hok, (rfl | ⟨N', g1, f1, c1, g2, f2, c2, rfl⟩)⟩ | ⟨hok, v, rfl, ⟨⟨g1, f1, c1, g2, f2, c2, rfl, hb, ho⟩⟩⟩)⟩
      all_goals
        have HOK := Lib.hid hok
        clear hok
        have bX := (((Below.refl wr.heap.size wr).alloc (Nat.le_refl _) _).trans (b1.mono (by simp)))
        have hV1 := hV.below bX (by omega)
        have B1 := b0.trans (bX.mono b0.size)
        have s1 := bX.size
        clear b1 bX
      · unfold noPlan
        have t0 := hV1.c0
        have t1 := hV1.c1
        have t2 := hV1.f0
        have t3 := hV1.f1
        have B1' := B1.alloc B1.size (.cells #[.int .i64 0, .nilFunc, .nilFunc] 96)
        have hV2 := (hV1.below ((Below.refl w1.heap.size w1).alloc (Nat.le_refl _) (.cells #[.int .i64 0, .nilFunc, .nilFunc] 96)) (by omega))
        have r0 := hV2.c0
        have r1 := hV2.c1
        have r2 := hV2.f0
        have r3 := hV2.f1
        clear t0 t1 t2 t3
        go_wp2_with fail
        have hfin := (hV2.set0 (.slice none 0 0)).set1 (.slice none 0 0)
        have e0 := hfin.c0
        have e1 := hfin.c1
        exact bodyPost_ret (v := .tuple #[noLog, .bool false]) (by simp [results, Try.results32, go_sem, e0, e1, noLog]) rfl (made_no rfl B1' (by rw [HOK.out]; simp))
      · unfold planV
        have t0 := hV1.c0
        have t1 := hV1.c1
        have t2 := hV1.f0
        have t3 := hV1.f1
        have B1' := B1.alloc B1.size (.cells #[.int .i64 (N' : Int), .func (.func g1) f1 c1, .func (.func g2) f2 c2] 96)
        have hV2 := (hV1.below ((Below.refl w1.heap.size w1).alloc (Nat.le_refl _) (.cells #[.int .i64 (N' : Int), .func (.func g1) f1 c1, .func (.func g2) f2 c2] 96)) (by omega))
        have r0 := hV2.c0
        have r1 := hV2.c1
        have r2 := hV2.f0
        have r3 := hV2.f1
        clear t0 t1 t2 t3
        go_wp2_with fail
        have hfin := (hV2.set0 (.slice none 0 0)).set1 (.slice none 0 0)
        have e0 := hfin.c0
        have e1 := hfin.c1
        exact bodyPost_ret (v := .tuple #[noLog, .bool false]) (by simp [results, Try.results32, go_sem, e0, e1, noLog]) rfl (made_no rfl B1' (by rw [HOK.out]; simp))
      · have hN := HN.out HOK.out
        by_cases h12 : N ≤ 12
        · have n12 : ¬ (12 : Int) < N := by omega
          have hYY := Lib.hid (HY.out HOK.out h12)
          have HPL := Lib.hid (plan_step hb ho ((Below.refl w1.heap.size w1).alloc (Nat.le_refl _) (.cells #[.int .i64 (N : Int), .func (.func g1) f1 c1, .func (.func g2) f2 c2] 96)))
          clear hb ho
          go_wp2_with fail
          go_at_call 69
          refine (HPL.out.elim fun hpl => logic_any hN.1 h12 hpl hYY.out).mono ?_
          rintro e w3 ⟨u, t, rv, rfl, hL, b3⟩
          have hV3 := (hV1.below ((Below.refl w1.heap.size w1).alloc (Nat.le_refl _) _) (by omega)).below b3 (by simp; omega)
          have B3 := (B1.alloc B1.size _).trans (b3.mono (by have := B1.size; simp; omega))
          obtain ⟨gu, cu, rfl, _⟩ := hL.out.topv (by omega)
          obtain ⟨gt, ct, rfl, _⟩ := hL.ints.val (by omega)
          have t0 := hV3.c0
          have t1 := hV3.c1
          have t2 := hV3.f0
          have t3 := hV3.f1
          have HL := Lib.hid hL
          clear hL
          go_wp2_with fail
          have hfin := (hV3.set0 (.slice (some ⟨gu, 0, none⟩) N cu)).set1 (.slice (some ⟨gt, 0, none⟩) N ct)
          have q0 := hfin.c0
          have q1 := hfin.c1
          have hon := set2_only w3 w.heap.size (.slice (some ⟨gu, 0, none⟩) N cu) (.slice (some ⟨gt, 0, none⟩) N ct)
          have hs1 := B1.size
          refine bodyPost_ret (v := .tuple #[.agg #[.slice (some ⟨gu, 0, none⟩) N cu, .slice (some ⟨gt, 0, none⟩) N ct], .bool true]) (by simp [results, Try.results32, go_sem, q0, q1]) rfl ⟨B3.trans (hon.below fun j hj => by have hj' : j = w.heap.size := hj; omega), .inr ⟨by simp [HOK.out, h12, e0], _, _, rv, rfl, ((HL.out.chg (Chg.of_only hon) fun j hj => ?_).base (by simp; omega))⟩⟩
          have hj' : j = w.heap.size := hj
          simp
          omega
        · clear hb ho
          have t0 := hV1.c0
          have t1 := hV1.c1
          have t2 := hV1.f0
          have t3 := hV1.f1
          have B1' := B1.alloc B1.size (.cells #[.int .i64 (N : Int), .func (.func g1) f1 c1, .func (.func g2) f2 c2] 96)
          have hV2 := (hV1.below ((Below.refl w1.heap.size w1).alloc (Nat.le_refl _) (.cells #[.int .i64 (N : Int), .func (.func g1) f1 c1, .func (.func g2) f2 c2] 96)) (by omega))
          have r0 := hV2.c0
          have r1 := hV2.c1
          have r2 := hV2.f0
          have r3 := hV2.f1
          clear t0 t1 t2 t3
          go_wp2_with fail
          have hfin := (hV2.set0 (.slice none 0 0)).set1 (.slice none 0 0)
          have e0 := hfin.c0
          have e1 := hfin.c1
          exact bodyPost_ret (v := .tuple #[noLog, .bool false]) (by simp [results, Try.results32, go_sem, e0, e1, noLog]) rfl (made_no rfl B1' (by simp [HOK.out, h12]))
end Go.Proofs.Ytojcgmgponnlpaa
namespace Go.Proofs.Ytojcgmgponnlpaa
open Go.RowKit Go.Deep

theorem LogO.congrZ {w : World} {base : Nat} {u t : Value} {n : Nat} {rv : Nat → Value} {Z Z' : Nat → Nat → Int} {y y' : Nat → Int} (h : LogO w base u t n rv Z y) (e : ∀ r, r < n → ∀ c, c < n → Z r c = Z' r c) (e' : ∀ c, c < n → y c = y' c) : LogO w base u t n rv Z' y' := by
  refine ⟨h.pos, h.hi, ⟨h.out.top, fun r hr => ?_, h.out.apart, fun r c hr hc => by rw [← e r hr c hc]; exact h.out.bit r c hr hc⟩, ?_, h.sep, fun c hc => by rw [← e' c hc]; exact h.rng c hc⟩
  · have := h.out.row r hr
    rw [map_congr_range (g := fun c => Value.int .i64 (Z' r c)) fun c hc => by rw [e r hr c hc]] at this
    exact this
  · have := h.ints
    unfold IntsAt at this ⊢
    rw [map_congr_range (g := fun c => Value.int .i64 (y' c)) fun c hc => by rw [e' c hc]] at this
    exact this
theorem MadeOk.congr {w : World} {N : Nat} {Z Z' : Nat → Nat → Int} {y y' : Nat → Nat} {ok ok' : Bool} {e : Ending} {w' : World} (h : MadeOk w N Z y ok e w') (hok : ok = ok') (eZ : ∀ r, r < N → ∀ c, c < N → Z r c = Z' r c) (ey : ∀ c, c < N → y c = y' c) : MadeOk w N Z' y' ok' e w' := by
  subst hok
  exact ⟨h.1, h.2.imp id fun ⟨a, u, t, rv, he, hl⟩ => ⟨a, u, t, rv, he, hl.congrZ eZ fun c hc => by rw [ey c hc]⟩⟩

set_option maxRecDepth 100000 in
set_option maxHeartbeats 1000000 in
theorem SetsOf_walk {w : World} {t : Int} {N : Nat} {b : Nat → Nat → Bool} {y : Nat → Nat} {okp : Bool} (hN : okp = true → 1 ≤ N ∧ N ≤ 1000) (hy : okp = true → N ≤ 12 → ∀ a, a < N → y a < N)
    (hp : ∀ (W : World) (g nc : Nat) (pv : Value), RowAt W W.heap.size (some ⟨g, 0, none⟩) g 0 1 (fun _ => t) → Calls Try.prog 64 #[.slice (some ⟨g, 0, none⟩) 1 nc, pv] W (Planned W N b y okp)) :
    Calls Try.prog 16 #[.int .i64 t] w (MadeOk w N (bitZ b) y (okp && decide (N ≤ 12))) := by
  have hV := TwoAt.new w (.slice none 0 0) (.slice none 0 0) 26
  have hV1 := hV.below ((Below.refl _ (w.alloc (.cells #[.slice none 0 0, .slice none 0 0] 26))).alloc (Nat.le_refl _) (.cells #[.int .i64 t] 3)) (by simp)
  have B1 := ((Below.refl w.heap.size w).alloc (Nat.le_refl _) (.cells #[.slice none 0 0, .slice none 0 0] 26)).alloc (by simp) (.cells #[.int .i64 t] 3)
  have HN := Lib.hid hN
  have HY := Lib.hid hy
  have hm : Calls Try.prog 32 #[.int .i64 0, .slice (some ⟨w.heap.size + 1, 0, none⟩) 1 1, .slice none 0 0] ((w.alloc (.cells #[.slice none 0 0, .slice none 0 0] 26)).alloc (.cells #[.int .i64 t] 3)) (MadeOk _ N (bitZ b) y (okp && decide (N ≤ 12))) :=
    made_Sets (fun W hW => hp W _ _ _ ⟨fun c hc => ⟨rfl, by have := hW.size; simp at this; omega, by
      obtain rfl : c = 0 := by omega
      exact (hW.cell (p := ⟨w.heap.size + 1, 0, none⟩) (by simp)).trans (by simp)⟩⟩) hN hy
  have HM := Lib.hid hm
  clear hN hy hp hV hm
  go_enter Try.func16, Try.ntmps16
  go_wp2_with fail
  go_at_call 32
  refine HM.out.mono ?_
  rintro e w1 ⟨b1, (⟨hok, rfl⟩ | ⟨hok, u, t, rv, rfl, hL⟩)⟩
  · have hV2 := hV1.below b1 (by simp only [World.size_alloc]; omega)
    have B2 := B1.trans (b1.mono B1.size)
    have HOK := Lib.hid hok
    have t0 := hV2.c0
    have t1 := hV2.c1
    have t2 := hV2.f0
    have t3 := hV2.f1
    clear hok b1
    unfold noLog
    go_wp2_with fail
    have hfin := (hV2.set0 (.slice none 0 0)).set1 (.slice none 0 0)
    have f0 := hfin.c0
    have f1 := hfin.c1
    exact bodyPost_ret (v := .tuple #[noLog, .bool false]) (by simp [results, Try.results16, go_sem, f0, f1, noLog]) rfl (made_no rfl B2 HOK.out)
  · have hV2 := hV1.below b1 (by simp only [World.size_alloc]; omega)
    have B2 := B1.trans (b1.mono B1.size)
    have HOK := Lib.hid hok
    have hp := hL.pos
    obtain ⟨gu, cu, rfl, _⟩ := hL.out.topv (by omega)
    obtain ⟨gt, ct, rfl, _⟩ := hL.ints.val (by omega)
    have HL := Lib.hid hL
    have t0 := hV2.c0
    have t1 := hV2.c1
    have t2 := hV2.f0
    have t3 := hV2.f1
    have sB := B1.size
    clear hok hL b1
    go_wp2_with fail
    have hfin := (hV2.set0 (.slice (some ⟨gu, 0, none⟩) N cu)).set1 (.slice (some ⟨gt, 0, none⟩) N ct)
    have q0 := hfin.c0
    have q1 := hfin.c1
    have hon := set2_only w1 w.heap.size (.slice (some ⟨gu, 0, none⟩) N cu) (.slice (some ⟨gt, 0, none⟩) N ct)
    refine bodyPost_ret (v := .tuple #[.agg #[.slice (some ⟨gu, 0, none⟩) N cu, .slice (some ⟨gt, 0, none⟩) N ct], .bool true]) (by simp [results, Try.results16, go_sem, q0, q1]) rfl ⟨B2.trans (hon.below fun j hj => by have hj' : j = w.heap.size := hj; omega), .inr ⟨HOK.out, _, _, rv, rfl, ((HL.out.chg (Chg.of_only hon) fun j hj => ?_).base (by first | omega | (simp; omega)))⟩⟩
    have hj' : j = w.heap.size := hj
    simp
    omega

theorem SetsOf_any {w : World} {t : Int} : Calls Try.prog 16 #[.int .i64 t] w (MadeOk w (2 ^ t.toNat) setsZ (setsY (2 ^ t.toNat)) (setsOkB t)) := by
  have key : setsOkB t = true → 1 ≤ 2 ^ t.toNat ∧ 2 ^ t.toNat ≤ 8 := fun h => by
    unfold setsOkB at h
    simp at h
    rcases (show t = 0 ∨ t = 1 ∨ t = 2 ∨ t = 3 by omega) with rfl | rfl | rfl | rfl <;> decide
  refine (SetsOf_walk (N := 2 ^ t.toNat) (b := setsB) (y := setsY (2 ^ t.toNat)) (okp := setsOkB t) (fun h => by have := key h; omega) (fun h _ a ha => by have := key h; unfold setsY; omega) (fun W g nc pv h => planSets_any h (Nat.le_refl _))).mono fun e w' h => h.congr ?_ (fun r _ c _ => by rw [setsB_Z]) fun _ _ => rfl
  cases h : setsOkB t with
  | false => rfl
  | true => have := key h; simp; omega
end Go.Proofs.Ytojcgmgponnlpaa
