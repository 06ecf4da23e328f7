/- The walk of what makes a logic by its maker's name: of no logic, of one, of two. The walks of the program's SetsOf and RingOf. -/
import Derived.Test.YtjmhhjdkemicbaaFa
import Derived.Test.YtjmhhjdkemicbaaOa
namespace Go.Proofs.Ytjmhhjdkemicbaa
open Go.RowKit Go.Deep

theorem infoAlgebra : (Try.prog.info? 62).map (fun i => (i.zero, i.size, i.bytes)) = some (some (.agg #[.slice none 0 0, .slice none 0 0, .slice none 0 0]), 3, 72) := by kernel_rfl

/-- A logic as it comes in. -/
structure LD where
  ua : Option Addr
  l : Lay
  m : Mx
  na : Option Addr
  g : Nat
  o : Nat
  k : Nat
  nc : Nat
  z : Nat → Int
abbrev LD.u (d : LD) : Value := .slice d.ua d.m.n d.l.cap
abbrev LD.t (d : LD) : Value := .slice d.na d.k d.nc
def LD.At (w : World) (B : Nat) (d : LD) : Prop := LogAt w B d.ua d.l d.m d.na d.g d.o d.k d.z
noncomputable def LD.ok (d : LD) : Bool := logicB d.m d.k d.z
/-- Its algebra, in memory. -/
def LD.Alg (w : World) (d : LD) (ob : Nat) : Prop := ∃ tb tG, Go.Proofs.Ytjmhhjdkemicbaa.Alg w ob tb tG d.ua d.l d.m
theorem LD.Alg.step {w w' : World} {d : LD} {ob : Nat} (h : d.Alg w ob) (hb : Below w.heap.size w w') : d.Alg w' ob := by
  obtain ⟨tb, tG, h⟩ := h
  exact ⟨tb, tG, h.step hb⟩

def noLog : Value := .agg #[.slice none 0 0, .slice none 0 0]
/-- What makes a logic, or says that it cannot, hands back. -/
def MadeOk (w : World) (N : Nat) (Z : Nat → Nat → Int) (y : Nat → Nat) (ok : Bool) (e : Ending) (w' : World) : Prop :=
  Below w.heap.size w w' ∧ ((ok = false ∧ e = .returned (.tuple #[noLog, .bool false])) ∨ (ok = true ∧ ∃ u t rv, e = .returned (.tuple #[.agg #[u, t], .bool true]) ∧ LogO w' w.heap.size u t N rv Z (fun c => (y c : Int))))
theorem set2_only (v : World) (p : Nat) (x y : Value) : OnlyIn (fun q => q = p) v ((v.setCell ⟨p, 0, none⟩ x).setCell ⟨p, 1, none⟩ y) :=
  ((OnlyIn.refl (fun q => q = p) v).set (b := p) rfl 0 x).set (b := p) rfl 1 y
theorem LD.Alg.grown {w w' : World} {d : LD} {ob base n : Nat} {v x : Value} {xs : List Value} (h : d.Alg w ob) (ho : w.ownsRow base 62 3 v n (x :: xs)) (hx : ∀ f a c, x ≠ .func f a c) (hg : w.grownBy w' v.ownBlock) : d.Alg w' ob := by
  obtain ⟨tb, tG, h⟩ := h
  have key : ∀ j, j < w.heap.size → (∀ g, v.ownBlock = some g → j ≠ g) → w'.heap[j]? = w.heap[j]? := fun j hj hne => hg.block j hj fun e => hne j e.symm rfl
  have ty : ∀ {j : Nat} {t : TypeId} {n : Nat} {f : Nat → Value}, t ≠ 62 → w.rowIs j t n f → w'.heap[j]? = w.heap[j]? := fun {j t n f} ht hr => by
    refine key j hr.lt fun g hv e => ?_
    subst e
    obtain ⟨c, h1, _⟩ := hr
    rcases ho.2 with ⟨h2, _⟩ | ⟨g', cap, cur, h2, _, h3, _⟩
    · rw [h2] at hv; simp [Value.ownBlock] at hv
    · rw [h2] at hv
      have e' : g' = j := by simpa [Value.ownBlock] using hv
      rw [e', h1] at h3
      injection h3 with h3
      injection h3 with _ h4
      exact ht h4
  have hob : w'.heap[ob]? = w.heap[ob]? := by
    refine key ob h.lt fun g hv e => ?_
    subst e
    rcases ho.2 with ⟨h2, _⟩ | ⟨g', cap, cur, h2, _, h3, h4⟩
    · rw [h2] at hv; simp [Value.ownBlock] at hv
    · rw [h2] at hv
      have e' : g' = ob := by simpa [Value.ownBlock] using hv
      have hl := ho.1
      rw [h2, e'] at ho
      have h5 := World.ownsRow.cellAt ho 0 (by simp at hl; omega)
      rw [h.op0] at h5
      exact hx _ _ _ (by simpa using h5.symm)
  exact ⟨tb, tG, ⟨⟨h.own.top.of_block (ty (by decide) h.own.top), fun r hr => (h.own.row r hr).of_block (ty (by decide) (h.own.row r hr))⟩, Nat.lt_of_lt_of_le h.lt hg.size, (World.cell?_of_block (a := ⟨ob, 0, none⟩) hob).trans h.op0, (World.cell?_of_block (a := ⟨ob, 1, none⟩) hob).trans h.op1⟩⟩
theorem cell_three_new (w : World) (x y z : Value) (t : TypeId) : ∀ j u, [x, y, z][j]? = some u → (w.alloc (.cells #[x, y, z] t)).cell? ((⟨w.heap.size, 0, none⟩ : Addr).add j) = some u := fun j u h => by
  have hn := ThreeAt.new w x y z t
  match j, h with
  | 0, h => rw [← h]; exact hn.c0
  | 1, h => rw [← h]; exact hn.c1
  | 2, h => rw [← h]; exact hn.c2
theorem cell_three_at {w : World} {x y z : Value} {t : TypeId} {b : Nat} (hb : b = w.heap.size) : ∀ j u, [x, y, z][j]? = some u → (w.alloc (.cells #[x, y, z] t)).cell? ((⟨b, 0, none⟩ : Addr).add j) = some u := by
  subst hb
  exact cell_three_new w x y z t
theorem LD.Alg.grown0 {w w' : World} {d : LD} {ob : Nat} (h : d.Alg w ob) (hg : w.grownBy w' (Value.slice none 0 0).ownBlock) : d.Alg w' ob :=
  h.step ⟨hg.os, hg.tape, hg.output, hg.size, fun j hj => hg.block j hj (by simp [Value.ownBlock])⟩
theorem Fun2At.step {w w' : World} {g N : Nat} {f c : Array Value} {b : Nat → Nat → Bool} (h : Fun2At w g f c N b) (hb : Below w.heap.size w w') : Fun2At w' g f c N b :=
  ⟨h.enters, fun W x y hW hx hy => h.gives W x y (hb.trans (hW.mono hb.size)) hx hy⟩
theorem Fun1At.step {w w' : World} {g N : Nat} {f c : Array Value} {y : Nat → Nat} (h : Fun1At w g f c N y) (hb : Below w.heap.size w w') : Fun1At w' g f c N y :=
  ⟨h.enters, fun W x hW hx => h.gives W x (hb.trans (hW.mono hb.size)) hx⟩
theorem plan_step {w w' : World} {N g1 g2 : Nat} {f1 c1 f2 c2 : Array Value} {b : Nat → Nat → Bool} {y : Nat → Nat} (h : Fun2At w g1 f1 c1 N b) (h' : Fun1At w g2 f2 c2 N y) (hb : Below w.heap.size w w') : Nonempty (PlanAt w' (.agg #[.int .i64 (N : Int), .func (.func g1) f1 c1, .func (.func g2) f2 c2]) N b y) :=
  ⟨⟨_, _, _, _, _, _, rfl, h.step hb, h'.step hb⟩⟩
theorem made_no {w W : World} {ok : Bool} {p N : Nat} {Z : Nat → Nat → Int} {y : Nat → Nat} {x x' : Value} (hp : w.heap.size = p) (hB : Below w.heap.size w W) (hok : ok = false) : MadeOk w N Z y ok (.returned (.tuple #[noLog, .bool false])) ((W.setCell ⟨p, 0, none⟩ x).setCell ⟨p, 1, none⟩ x') :=
  ⟨hB.trans ((set2_only _ _ _ _).below fun j hj => by have hj' : j = p := hj; omega), .inl ⟨hok, rfl⟩⟩

def RelGlued (w : World) (d0 d1 : LD) (v i : Value) (wr : World) : Prop := (v = .slice none 0 0 ∧ i = .int .i64 0) ∨ (d0.ok = true ∧ ∃ o0 : Nat, i = .int .i64 1 ∧ wr.ownsRow (w.heap.size + 1) 62 3 v 1 [d0.u, d0.t, .slice (some ⟨o0, 0, none⟩) 2 2] ∧ d0.Alg wr o0) ∨ (d0.ok = true ∧ d1.ok = true ∧ ∃ o0 o1 : Nat, i = .int .i64 2 ∧ wr.ownsRow (w.heap.size + 1) 62 3 v 2 [d0.u, d0.t, .slice (some ⟨o0, 0, none⟩) 2 2, d1.u, d1.t, .slice (some ⟨o1, 0, none⟩) 2 2] ∧ d0.Alg wr o0 ∧ d1.Alg wr o1)

def RelPairs (w : World) (d0 d1 : LD) (v i : Value) (wr : World) : Prop := (v = .slice none 0 0 ∧ i = .int .i64 0) ∨ (d0.ok = true ∧ ∃ o0 : Nat, i = .int .i64 1 ∧ wr.ownsRow (w.heap.size + 1) 62 3 v 1 [d0.u, d0.t, .slice (some ⟨o0, 0, none⟩) 2 2] ∧ d0.Alg wr o0) ∨ (d0.ok = true ∧ d1.ok = true ∧ ∃ o0 o1 : Nat, i = .int .i64 2 ∧ wr.ownsRow (w.heap.size + 1) 62 3 v 2 [d0.u, d0.t, .slice (some ⟨o0, 0, none⟩) 2 2, d1.u, d1.t, .slice (some ⟨o1, 0, none⟩) 2 2] ∧ d0.Alg wr o0 ∧ d1.Alg wr o1)

def RelRenamed (w : World) (d0 : LD) (v i : Value) (wr : World) : Prop := (v = .slice none 0 0 ∧ i = .int .i64 0) ∨ (d0.ok = true ∧ ∃ o0 : Nat, i = .int .i64 1 ∧ wr.ownsRow (w.heap.size + 1) 62 3 v 1 [d0.u, d0.t, .slice (some ⟨o0, 0, none⟩) 2 2] ∧ d0.Alg wr o0)

end Go.Proofs.Ytjmhhjdkemicbaa
namespace Go.Proofs.Ytjmhhjdkemicbaa
open Go.RowKit Go.Deep

theorem LogO.congrZ {w : World} {base : Nat} {u t : Value} {n : Nat} {rv : Nat → Value} {Z Z' : Nat → Nat → Int} {y y' : Nat → Int} (h : LogO w base u t n rv Z y) (e : ∀ r, r < n → ∀ c, c < n → Z r c = Z' r c) (e' : ∀ c, c < n → y c = y' c) : LogO w base u t n rv Z' y' := by
  refine ⟨h.pos, h.hi, ⟨h.out.top, fun r hr => ?_, h.out.apart, fun r c hr hc => by rw [← e r hr c hc]; exact h.out.bit r c hr hc⟩, ?_, h.sep, fun c hc => by rw [← e' c hc]; exact h.rng c hc⟩
  · have := h.out.row r hr
    rw [map_congr_range (g := fun c => Value.int .i64 (Z' r c)) fun c hc => by rw [e r hr c hc]] at this
    exact this
  · have := h.ints
    unfold IntsAt at this ⊢
    rw [map_congr_range (g := fun c => Value.int .i64 (y' c)) fun c hc => by rw [e' c hc]] at this
    exact this
theorem MadeOk.congr {w : World} {N : Nat} {Z Z' : Nat → Nat → Int} {y y' : Nat → Nat} {ok ok' : Bool} {e : Ending} {w' : World} (h : MadeOk w N Z y ok e w') (hok : ok = ok') (eZ : ∀ r, r < N → ∀ c, c < N → Z r c = Z' r c) (ey : ∀ c, c < N → y c = y' c) : MadeOk w N Z' y' ok' e w' := by
  subst hok
  exact ⟨h.1, h.2.imp id fun ⟨a, u, t, rv, he, hl⟩ => ⟨a, u, t, rv, he, hl.congrZ eZ fun c hc => by rw [ey c hc]⟩⟩

end Go.Proofs.Ytjmhhjdkemicbaa
