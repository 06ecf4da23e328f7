/- The walk of what makes a logic by its maker's name: of no logic, of one, of two. The walks of the program's SetsOf and RingOf. -/
import Derived.Test.YthdokmcllppobaaDoorZFa
import Derived.Test.YthdokmcllppobaaDoorZOa
import Derived.Test.YthdokmcllppobaaDoorZDi
namespace Go.Proofs.YthdokmcllppobaaDoor
open Go.RowKit Go.Deep

/-- A logic as it comes in. -/
structure LD where
  ua : Option Addr
  l : Lay
  m : Mx
  na : Option Addr
  g : Nat
  o : Nat
  k : Nat
  nc : Nat
  z : Nat → Int
abbrev LD.u (d : LD) : Value := .slice d.ua d.m.n d.l.cap
abbrev LD.t (d : LD) : Value := .slice d.na d.k d.nc
def LD.At (w : World) (B : Nat) (d : LD) : Prop := LogAt w B d.ua d.l d.m d.na d.g d.o d.k d.z
noncomputable def LD.ok (d : LD) : Bool := logicB d.m d.k d.z
/-- Its algebra, in memory. -/
def LD.Alg (w : World) (d : LD) (ob : Nat) : Prop := ∃ tb tG, Go.Proofs.YthdokmcllppobaaDoor.Alg w ob tb tG d.ua d.l d.m
theorem LD.Alg.step {w w' : World} {d : LD} {ob : Nat} (h : d.Alg w ob) (hb : Below w.heap.size w w') : d.Alg w' ob := by
  obtain ⟨tb, tG, h⟩ := h
  exact ⟨tb, tG, h.step hb⟩

def noLog : Value := .agg #[.slice none 0 0, .slice none 0 0]
/-- What makes a logic, or says that it cannot, hands back. -/
def MadeOk (w : World) (N : Nat) (Z : Nat → Nat → Int) (y : Nat → Nat) (ok : Bool) (e : Ending) (w' : World) : Prop :=
  Below w.heap.size w w' ∧ ((ok = false ∧ e = .returned (.tuple #[noLog, .bool false])) ∨ (ok = true ∧ ∃ u t rv, e = .returned (.tuple #[.agg #[u, t], .bool true]) ∧ LogO w' w.heap.size u t N rv Z (fun c => (y c : Int))))
theorem set2_only (v : World) (p : Nat) (x y : Value) : OnlyIn (fun q => q = p) v ((v.setCell ⟨p, 0, none⟩ x).setCell ⟨p, 1, none⟩ y) :=
  ((OnlyIn.refl (fun q => q = p) v).set (b := p) rfl 0 x).set (b := p) rfl 1 y
theorem LD.Alg.grown {w w' : World} {d : LD} {ob base n : Nat} {v x : Value} {xs : List Value} (h : d.Alg w ob) (ho : w.ownsRow base 48 3 v n (x :: xs)) (hx : ∀ f a c, x ≠ .func f a c) (hg : w.grownBy w' v.ownBlock) : d.Alg w' ob := by
  obtain ⟨tb, tG, h⟩ := h
  have key : ∀ j, j < w.heap.size → (∀ g, v.ownBlock = some g → j ≠ g) → w'.heap[j]? = w.heap[j]? := fun j hj hne => hg.block j hj fun e => hne j e.symm rfl
  have ty : ∀ {j : Nat} {t : TypeId} {n : Nat} {f : Nat → Value}, t ≠ 48 → w.rowIs j t n f → w'.heap[j]? = w.heap[j]? := fun {j t n f} ht hr => by
    refine key j hr.lt fun g hv e => ?_
    subst e
    obtain ⟨c, h1, _⟩ := hr
    rcases ho.2 with ⟨h2, _⟩ | ⟨g', cap, cur, h2, _, h3, _⟩
    · rw [h2] at hv; simp [Value.ownBlock] at hv
    · rw [h2] at hv
      have e' : g' = j := by simpa [Value.ownBlock] using hv
      rw [e', h1] at h3
      injection h3 with h3
      injection h3 with _ h4
      exact ht h4
  have hob : w'.heap[ob]? = w.heap[ob]? := by
    refine key ob h.lt fun g hv e => ?_
    subst e
    rcases ho.2 with ⟨h2, _⟩ | ⟨g', cap, cur, h2, _, h3, h4⟩
    · rw [h2] at hv; simp [Value.ownBlock] at hv
    · rw [h2] at hv
      have e' : g' = ob := by simpa [Value.ownBlock] using hv
      have hl := ho.1
      rw [h2, e'] at ho
      have h5 := World.ownsRow.cellAt ho 0 (by simp at hl; omega)
      rw [h.op0] at h5
      exact hx _ _ _ (by simpa using h5.symm)
  exact ⟨tb, tG, ⟨⟨h.own.top.of_block (ty (by decide) h.own.top), fun r hr => (h.own.row r hr).of_block (ty (by decide) (h.own.row r hr))⟩, Nat.lt_of_lt_of_le h.lt hg.size, (World.cell?_of_block (a := ⟨ob, 0, none⟩) hob).trans h.op0, (World.cell?_of_block (a := ⟨ob, 1, none⟩) hob).trans h.op1⟩⟩
theorem Fun2At.step {w w' : World} {g N : Nat} {f c : Array Value} {b : Nat → Nat → Bool} (h : Fun2At w g f c N b) (hb : Below w.heap.size w w') : Fun2At w' g f c N b :=
  ⟨h.enters, fun W x y hW hx hy => h.gives W x y (hb.trans (hW.mono hb.size)) hx hy⟩
theorem Fun1At.step {w w' : World} {g N : Nat} {f c : Array Value} {y : Nat → Nat} (h : Fun1At w g f c N y) (hb : Below w.heap.size w w') : Fun1At w' g f c N y :=
  ⟨h.enters, fun W x hW hx => h.gives W x (hb.trans (hW.mono hb.size)) hx⟩
end Go.Proofs.YthdokmcllppobaaDoor
namespace Go.Proofs.YthdokmcllppobaaDoor
open Go.RowKit Go.Deep

theorem LogO.congrZ {w : World} {base : Nat} {u t : Value} {n : Nat} {rv : Nat → Value} {Z Z' : Nat → Nat → Int} {y y' : Nat → Int} (h : LogO w base u t n rv Z y) (e : ∀ r, r < n → ∀ c, c < n → Z r c = Z' r c) (e' : ∀ c, c < n → y c = y' c) : LogO w base u t n rv Z' y' := by
  refine ⟨h.pos, h.hi, ⟨h.out.top, fun r hr => ?_, h.out.apart, fun r c hr hc => by rw [← e r hr c hc]; exact h.out.bit r c hr hc⟩, ?_, h.sep, fun c hc => by rw [← e' c hc]; exact h.rng c hc⟩
  · have := h.out.row r hr
    rw [map_congr_range (g := fun c => Value.int .i64 (Z' r c)) fun c hc => by rw [e r hr c hc]] at this
    exact this
  · have := h.ints
    unfold IntsAt at this ⊢
    rw [map_congr_range (g := fun c => Value.int .i64 (y' c)) fun c hc => by rw [e' c hc]] at this
    exact this
theorem MadeOk.congr {w : World} {N : Nat} {Z Z' : Nat → Nat → Int} {y y' : Nat → Nat} {ok ok' : Bool} {e : Ending} {w' : World} (h : MadeOk w N Z y ok e w') (hok : ok = ok') (eZ : ∀ r, r < N → ∀ c, c < N → Z r c = Z' r c) (ey : ∀ c, c < N → y c = y' c) : MadeOk w N Z' y' ok' e w' := by
  subst hok
  exact ⟨h.1, h.2.imp id fun ⟨a, u, t, rv, he, hl⟩ => ⟨a, u, t, rv, he, hl.congrZ eZ fun c hc => by rw [ey c hc]⟩⟩

end Go.Proofs.YthdokmcllppobaaDoor

/- The walk of the reference's SetsOf. -/
namespace Go.Proofs.YthdokmcllppobaaDoor
open Go.RowKit Go.Deep

/-- What a loop that makes a logic row by row keeps: the result's box, and all that was. -/
structure BoxS (w : World) (p P0 : Nat) (wr : World) : Prop where
  res : TwoAt wr p (.slice none 0 0) (.slice none 0 0)
  old : Below w.heap.size w wr
  lt : p < P0
  wp : w.heap.size ≤ p
  size : P0 < wr.heap.size
theorem BoxS.chg {w wr w' : World} {p P0 : Nat} (h : BoxS w p P0 wr) (hc : Chg (fun j => j = P0 ∨ P0 + 1 ≤ j) wr w') : BoxS w p P0 w' :=
  have h1 := h.lt
  have h2 := h.wp
  ⟨hc.two h.res (by show ¬ (_ ∨ _); omega), h.old.trans (hc.below (by have := h.size; omega) fun j hj => by have hj' : j = P0 ∨ P0 + 1 ≤ j := hj; omega), h.lt, h.wp, Nat.lt_of_lt_of_le h.size hc.size⟩
theorem BoxS.below {w wr w' : World} {p P0 : Nat} (h : BoxS w p P0 wr) (hb : Below wr.heap.size wr w') : BoxS w p P0 w' :=
  h.chg (Chg.of_below hb fun j hj hB => absurd hj (by omega))
/-- A row under way: the numbers told so far. -/
theorem IntsAt.told {w : World} {base : Nat} {t : Value} {k : Nat} {z : Nat → Int} (h : w.ownsRow base 3 1 t (k + 1) ((List.range k).map (fun c => .int .i64 (z c)) ++ [.int .i64 (z k)])) : IntsAt w base t (k + 1) z := by
  have := IntsAt.step h
  have e : (fun c => if c = k then z k else z c) = z := by
    funext c
    by_cases e1 : c = k
    · rw [if_pos e1, e1]
    · rw [if_neg e1]
  rw [e] at this
  exact this

end Go.Proofs.YthdokmcllppobaaDoor
