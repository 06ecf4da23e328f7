import Derived.Test.YtmchgclaeipoeaaZKe
import Derived.Test.YtmchgclaeipoeaaZOa
import Derived.Test.YtmchgclaeipoeaaZDi
import Derived.Test.YtmchgclaeipoeaaZWv
namespace Go.Proofs.Ytmchgclaeipoeaa
open Go.RowKit Go.Deep

/-- A logic as it comes in. -/
structure LD where
  ua : Option Addr
  l : Lay
  m : Mx
  na : Option Addr
  g : Nat
  o : Nat
  k : Nat
  nc : Nat
  z : Nat → Int
abbrev LD.u (d : LD) : Value := .slice d.ua d.m.n d.l.cap
abbrev LD.t (d : LD) : Value := .slice d.na d.k d.nc
noncomputable def LD.ok (d : LD) : Bool := logicB d.m d.k d.z
/-- Its algebra, in memory. -/
def LD.Alg (w : World) (d : LD) (ob : Nat) : Prop := ∃ tb tG, Go.Proofs.Ytmchgclaeipoeaa.Alg w ob tb tG d.ua d.l d.m
theorem LD.Alg.step {w w' : World} {d : LD} {ob : Nat} (h : d.Alg w ob) (hb : Below w.heap.size w w') : d.Alg w' ob := by
  obtain ⟨tb, tG, h⟩ := h
  exact ⟨tb, tG, h.step hb⟩

def noLog : Value := .agg #[.slice none 0 0, .slice none 0 0]
/-- What makes a logic, or says that it cannot, hands back. -/
def MadeOk (w : World) (N : Nat) (Z : Nat → Nat → Int) (y : Nat → Nat) (ok : Bool) (e : Ending) (w' : World) : Prop :=
  Below w.heap.size w w' ∧ ((ok = false ∧ e = .returned (.tuple #[noLog, .bool false])) ∨ (ok = true ∧ ∃ u t rv, e = .returned (.tuple #[.agg #[u, t], .bool true]) ∧ LogO w' w.heap.size u t N rv Z (fun c => (y c : Int))))
theorem LD.Alg.grown {w w' : World} {d : LD} {ob base n : Nat} {v x : Value} {xs : List Value} (h : d.Alg w ob) (ho : w.ownsRow base 42 3 v n (x :: xs)) (hx : ∀ f a c, x ≠ .func f a c) (hg : w.grownBy w' v.ownBlock) : d.Alg w' ob := by
  obtain ⟨tb, tG, h⟩ := h
  have key : ∀ j, j < w.heap.size → (∀ g, v.ownBlock = some g → j ≠ g) → w'.heap[j]? = w.heap[j]? := fun j hj hne => hg.block j hj fun e => hne j e.symm rfl
  have ty : ∀ {j : Nat} {t : TypeId} {n : Nat} {f : Nat → Value}, t ≠ 42 → w.rowIs j t n f → w'.heap[j]? = w.heap[j]? := fun {j t n f} ht hr => by
    refine key j hr.lt fun g hv e => ?_
    subst e
    obtain ⟨c, h1, _⟩ := hr
    rcases ho.2 with ⟨h2, _⟩ | ⟨g', cap, cur, h2, _, h3, _⟩
    · rw [h2] at hv; simp [Value.ownBlock] at hv
    · rw [h2] at hv
      have e' : g' = j := by simpa [Value.ownBlock] using hv
      rw [e', h1] at h3
      injection h3 with h3
      injection h3 with _ h4
      exact ht h4
  have hob : w'.heap[ob]? = w.heap[ob]? := by
    refine key ob h.lt fun g hv e => ?_
    subst e
    rcases ho.2 with ⟨h2, _⟩ | ⟨g', cap, cur, h2, _, h3, h4⟩
    · rw [h2] at hv; simp [Value.ownBlock] at hv
    · rw [h2] at hv
      have e' : g' = ob := by simpa [Value.ownBlock] using hv
      have hl := ho.1
      rw [h2, e'] at ho
      have h5 := World.ownsRow.cellAt ho 0 (by simp at hl; omega)
      rw [h.op0] at h5
      exact hx _ _ _ (by simpa using h5.symm)
  exact ⟨tb, tG, ⟨⟨h.own.top.of_block (ty (by decide) h.own.top), fun r hr => (h.own.row r hr).of_block (ty (by decide) (h.own.row r hr))⟩, Nat.lt_of_lt_of_le h.lt hg.size, (World.cell?_of_block (a := ⟨ob, 0, none⟩) hob).trans h.op0, (World.cell?_of_block (a := ⟨ob, 1, none⟩) hob).trans h.op1⟩⟩
theorem Fun2At.step {w w' : World} {g N : Nat} {f c : Array Value} {b : Nat → Nat → Bool} (h : Fun2At w g f c N b) (hb : Below w.heap.size w w') : Fun2At w' g f c N b :=
  ⟨h.enters, fun W x y hW hx hy => h.gives W x y (hb.trans (hW.mono hb.size)) hx hy⟩
theorem Fun1At.step {w w' : World} {g N : Nat} {f c : Array Value} {y : Nat → Nat} (h : Fun1At w g f c N y) (hb : Below w.heap.size w w') : Fun1At w' g f c N y :=
  ⟨h.enters, fun W x hW hx => h.gives W x (hb.trans (hW.mono hb.size)) hx⟩
end Go.Proofs.Ytmchgclaeipoeaa
namespace Go.Proofs.Ytmchgclaeipoeaa
open Go.RowKit Go.Deep

theorem LogO.congrZ {w : World} {base : Nat} {u t : Value} {n : Nat} {rv : Nat → Value} {Z Z' : Nat → Nat → Int} {y y' : Nat → Int} (h : LogO w base u t n rv Z y) (e : ∀ r, r < n → ∀ c, c < n → Z r c = Z' r c) (e' : ∀ c, c < n → y c = y' c) : LogO w base u t n rv Z' y' := by
  refine ⟨h.pos, h.hi, ⟨h.out.top, fun r hr => ?_, h.out.apart, fun r c hr hc => by rw [← e r hr c hc]; exact h.out.bit r c hr hc⟩, ?_, h.sep, fun c hc => by rw [← e' c hc]; exact h.rng c hc⟩
  · have := h.out.row r hr
    rw [map_congr_range (g := fun c => Value.int .i64 (Z' r c)) fun c hc => by rw [e r hr c hc]] at this
    exact this
  · have := h.ints
    unfold IntsAt at this ⊢
    rw [map_congr_range (g := fun c => Value.int .i64 (y' c)) fun c hc => by rw [e' c hc]] at this
    exact this
theorem MadeOk.congr {w : World} {N : Nat} {Z Z' : Nat → Nat → Int} {y y' : Nat → Nat} {ok ok' : Bool} {e : Ending} {w' : World} (h : MadeOk w N Z y ok e w') (hok : ok = ok') (eZ : ∀ r, r < N → ∀ c, c < N → Z r c = Z' r c) (ey : ∀ c, c < N → y c = y' c) : MadeOk w N Z' y' ok' e w' := by
  subst hok
  exact ⟨h.1, h.2.imp id fun ⟨a, u, t, rv, he, hl⟩ => ⟨a, u, t, rv, he, hl.congrZ eZ fun c hc => by rw [ey c hc]⟩⟩

end Go.Proofs.Ytmchgclaeipoeaa
namespace Go.Proofs.Ytmchgclaeipoeaa
open Go.RowKit Go.Deep

/-- What a loop that makes a logic row by row keeps: the result's box, and all that was. -/
structure BoxS (w : World) (p P0 : Nat) (wr : World) : Prop where
  res : TwoAt wr p (.slice none 0 0) (.slice none 0 0)
  old : Below w.heap.size w wr
  lt : p < P0
  wp : w.heap.size ≤ p
  size : P0 < wr.heap.size
theorem BoxS.chg {w wr w' : World} {p P0 : Nat} (h : BoxS w p P0 wr) (hc : Chg (fun j => j = P0 ∨ P0 + 1 ≤ j) wr w') : BoxS w p P0 w' :=
  have h1 := h.lt
  have h2 := h.wp
  ⟨hc.two h.res (by show ¬ (_ ∨ _); omega), h.old.trans (hc.below (by have := h.size; omega) fun j hj => by have hj' : j = P0 ∨ P0 + 1 ≤ j := hj; omega), h.lt, h.wp, Nat.lt_of_lt_of_le h.size hc.size⟩
theorem BoxS.below {w wr w' : World} {p P0 : Nat} (h : BoxS w p P0 wr) (hb : Below wr.heap.size wr w') : BoxS w p P0 w' :=
  h.chg (Chg.of_below hb fun j hj hB => absurd hj (by omega))
/-- A row under way: the numbers told so far. -/
theorem IntsAt.told {w : World} {base : Nat} {t : Value} {k : Nat} {z : Nat → Int} (h : w.ownsRow base 3 1 t (k + 1) ((List.range k).map (fun c => .int .i64 (z c)) ++ [.int .i64 (z k)])) : IntsAt w base t (k + 1) z := by
  have := IntsAt.step h
  have e : (fun c => if c = k then z k else z c) = z := by
    funext c
    by_cases e1 : c = k
    · rw [if_pos e1, e1]
    · rw [if_neg e1]
  rw [e] at this
  exact this

end Go.Proofs.Ytmchgclaeipoeaa
namespace Go.Proofs.Ytmchgclaeipoeaa
open Go.RowKit Go.Deep

/-- A row of numbers that may be written. -/
structure RowW (w : World) (B : Nat) (a : Option Addr) (g o n : Nat) (z : Nat → Int) : Prop where
  row : RowAt w B a g o n z
  fro : ∀ c, c < n → w.frozen? ⟨g, o + c, none⟩ = false
theorem RowW.only {S : Nat → Prop} {w w' : World} {B : Nat} {a : Option Addr} {g o n : Nat} {z : Nat → Int} (h : RowW w B a g o n z) (ho : OnlyIn S w w') (hS : 0 < n → ¬ S g) : RowW w' B a g o n z :=
  ⟨⟨fun c hc => by
    obtain ⟨h1, h2, h3⟩ := h.row.row c hc
    exact ⟨h1, h2, (World.cell?_of_block (w := w) (ho.block g (hS (by omega)))).trans h3⟩⟩, fun c hc => (World.frozen?_of_block (w := w) (a := ⟨g, o + c, none⟩) (ho.block g (hS (by omega)))).trans (h.fro c hc)⟩
theorem RowW.set {w : World} {B : Nat} {a : Option Addr} {g o n : Nat} {z : Nat → Int} (h : RowW w B a g o n z) {k : Nat} (x : Int) (_ : k < n) : RowW (w.setCell ⟨g, o + k, none⟩ (.int .i64 x)) B a g o n (fun c => if c = k then x else z c) :=
  ⟨⟨fun c hc => by
    obtain ⟨h1, h2, h3⟩ := h.row.row c hc
    refine ⟨h1, h2, ?_⟩
    by_cases e : c = k
    · subst e
      rw [if_pos rfl]
      exact World.cell?_setCell_same _ _ _ h3
    · rw [if_neg e, World.cell?_setCell_other _ _ _ _ (fun e2 => by injection e2 with _ e3; omega)]
      exact h3⟩, fun c hc => by rw [World.frozen?_setCell]; exact h.fro c hc⟩
theorem RowAt.congr {w : World} {B : Nat} {a : Option Addr} {g o n : Nat} {z z' : Nat → Int} (h : RowAt w B a g o n z) (e : ∀ c, c < n → z c = z' c) : RowAt w B a g o n z' :=
  ⟨fun c hc => by obtain ⟨h1, h2, h3⟩ := h.row c hc; exact ⟨h1, h2, by rw [← e c hc]; exact h3⟩⟩
theorem RowW.congr {w : World} {B : Nat} {a : Option Addr} {g o n : Nat} {z z' : Nat → Int} (h : RowW w B a g o n z) (e : ∀ c, c < n → z c = z' c) : RowW w B a g o n z' := ⟨h.row.congr e, h.fro⟩

/-- Rows of numbers that may be written, each apart from the others and from the list of the rows. -/
structure MatW (w : World) (B : Nat) (a : Option Addr) (l : Lay) (m : Mx) : Prop where
  mat : MatAt w B a l m
  fro : ∀ r, r < m.n → ∀ c, c < m.L r → w.frozen? ⟨l.G r, l.O r + c, none⟩ = false
  sep : ∀ r s, r < m.n → s < m.n → r ≠ s → 0 < m.L r → 0 < m.L s → l.G r ≠ l.G s
  top : ∀ r, r < m.n → 0 < m.L r → l.G r ≠ l.b
theorem MatW.congr {w : World} {B : Nat} {a : Option Addr} {l : Lay} {m : Mx} {Z : Nat → Nat → Int} (h : MatW w B a l m) (e : ∀ r, r < m.n → ∀ c, c < m.L r → m.Z r c = Z r c) : MatW w B a l ⟨m.n, m.L, Z⟩ :=
  ⟨⟨h.mat.top, fun r hr c hc => by show _ ∧ _ ∧ _ = some (Value.int .i64 (Z r c)); rw [← e r hr c hc]; exact h.mat.row r hr c hc⟩, h.fro, h.sep, h.top⟩
theorem MatW.only {S : Nat → Prop} {w w' : World} {B : Nat} {a : Option Addr} {l : Lay} {m : Mx} (h : MatW w B a l m) (ho : OnlyIn S w w') (hb : 0 < m.n → ¬ S l.b) (hG : ∀ r, r < m.n → 0 < m.L r → ¬ S (l.G r)) : MatW w' B a l m :=
  ⟨⟨fun r hr => by obtain ⟨h1, h2, h3⟩ := h.mat.top r hr; exact ⟨h1, h2, (World.cell?_of_block (w := w) (ho.block l.b (hb (by omega)))).trans h3⟩,
    fun r hr c hc => by obtain ⟨h1, h2, h3⟩ := h.mat.row r hr c hc; exact ⟨h1, h2, (World.cell?_of_block (w := w) (ho.block _ (hG r hr (by omega)))).trans h3⟩⟩,
   fun r hr c hc => (World.frozen?_of_block (w := w) (a := ⟨l.G r, l.O r + c, none⟩) (ho.block _ (hG r hr (by omega)))).trans (h.fro r hr c hc), h.sep, h.top⟩
end Go.Proofs.Ytmchgclaeipoeaa
namespace Go.Proofs.Ytmchgclaeipoeaa
open Go.RowKit Go.Deep

structure LogW (w : World) (B base : Nat) (ua : Option Addr) (l : Lay) (m : Mx) (na : Option Addr) (g o k : Nat) (z : Nat → Int) : Prop where
  mat : MatW w B ua l m
  row : RowW w B na g o k z
  ne : ∀ r, r < m.n → 0 < m.L r → 0 < k → l.G r ≠ g
  nb : 0 < m.n → 0 < k → l.b ≠ g
  bb : 0 < m.n → base ≤ l.b
  bG : ∀ r, r < m.n → 0 < m.L r → base ≤ l.G r
  bg : 0 < k → base ≤ g
  hn : m.n ≤ 1048576
  hL : ∀ r, r < m.n → m.L r ≤ 1048576
  hk : k ≤ 1048576
  hB : B ≤ w.heap.size
section
variable {w w' : World} {B base : Nat} {ua : Option Addr} {l : Lay} {m : Mx} {na : Option Addr} {g o k : Nat} {z : Nat → Int}
theorem MatW.chg {S : Nat → Prop} (h : MatW w B ua l m) (hc : Chg S w w') (hB : B ≤ w.heap.size) (hb : 0 < m.n → ¬ S l.b) (hG : ∀ r, r < m.n → 0 < m.L r → ¬ S (l.G r)) : MatW w' B ua l m :=
  ⟨⟨fun r hr => by obtain ⟨h1, h2, h3⟩ := h.mat.top r hr; exact ⟨h1, h2, (World.cell?_of_block (w := w) (hc.block l.b (by omega) (hb (by omega)))).trans h3⟩,
    fun r hr c hc' => by obtain ⟨h1, h2, h3⟩ := h.mat.row r hr c hc'; exact ⟨h1, h2, (World.cell?_of_block (w := w) (hc.block (l.G r) (by omega) (hG r hr (by omega)))).trans h3⟩⟩,
   fun r hr c hc' => by
    obtain ⟨_, h2, _⟩ := h.mat.row r hr c hc'
    have hlt : l.G r < w.heap.size := by omega
    exact (World.frozen?_of_block (w := w) (a := ⟨l.G r, l.O r + c, none⟩) (hc.block (l.G r) hlt (hG r hr (by omega)))).trans (h.fro r hr c hc'), h.sep, h.top⟩
theorem RowW.chg {S : Nat → Prop} {a : Option Addr} {n : Nat} (h : RowW w B a g o n z) (hc : Chg S w w') (hB : B ≤ w.heap.size) (hg : 0 < n → ¬ S g) : RowW w' B a g o n z :=
  ⟨⟨fun c hc' => by obtain ⟨h1, h2, h3⟩ := h.row.row c hc'; exact ⟨h1, h2, (World.cell?_of_block (w := w) (hc.block g (by omega) (hg (by omega)))).trans h3⟩⟩,
   fun c hc' => by
    obtain ⟨_, h2, _⟩ := h.row.row c hc'
    exact (World.frozen?_of_block (w := w) (a := ⟨g, o + c, none⟩) (hc.block g (by omega) (hg (by omega)))).trans (h.fro c hc')⟩
theorem LogW.chg {S : Nat → Prop} (h : LogW w B base ua l m na g o k z) (hc : Chg S w w') (hS : ∀ j, S j → j < base ∨ B ≤ j) : LogW w' B base ua l m na g o k z := by
  have lt1 : 0 < m.n → l.b < B := fun h0 => (h.mat.mat.top 0 h0).2.1
  have lt2 : ∀ r, r < m.n → 0 < m.L r → l.G r < B := fun r hr h0 => (h.mat.mat.row r hr 0 h0).2.1
  have lt3 : 0 < k → g < B := fun h0 => (h.row.row.row 0 h0).2.1
  exact ⟨h.mat.chg hc h.hB (fun h0 e => by have := hS _ e; have := lt1 h0; have := h.bb h0; omega) (fun r hr h0 e => by have := hS _ e; have := lt2 r hr h0; have := h.bG r hr h0; omega),
    h.row.chg hc h.hB (fun h0 e => by have := hS _ e; have := lt3 h0; have := h.bg h0; omega), h.ne, h.nb, h.bb, h.bG, h.bg, h.hn, h.hL, h.hk, Nat.le_trans h.hB hc.size⟩
theorem LogW.below {B' : Nat} (h : LogW w B base ua l m na g o k z) (hb : Below B' w w') (hB : B ≤ B') : LogW w' B base ua l m na g o k z :=
  h.chg (Chg.of_below (S := fun j => B ≤ j) hb fun j _ hj => by omega) fun j hj => .inr hj
theorem LogW.more {B' : Nat} (h : LogW w B base ua l m na g o k z) (hB : B ≤ B') (hw : B' ≤ w.heap.size) : LogW w B' base ua l m na g o k z :=
  ⟨⟨h.mat.mat.more hB, h.mat.fro, h.mat.sep, h.mat.top⟩, ⟨⟨fun c hc => by obtain ⟨h1, h2, h3⟩ := h.row.row.row c hc; exact ⟨h1, by omega, h3⟩⟩, h.row.fro⟩, h.ne, h.nb, h.bb, h.bG, h.bg, h.hn, h.hL, h.hk, hw⟩
end

/-- A logic that comes back, or none: rows, opposites and all. -/
def ResL (w : World) (n : Nat) (Z : Nat → Nat → Int) (y : Nat → Nat) (e : Ending) (ok : Bool) (w' : World) : Prop :=
  ∃ (ua : Option Addr) (l : Lay) (na : Option Addr) (g nc : Nat), e = .returned (.tuple #[.agg #[.slice ua n l.cap, .slice na n nc], .bool ok]) ∧ LogW w' w'.heap.size w.heap.size ua l ⟨n, fun _ => n, Z⟩ na g 0 n (fun c => (y c : Int)) ∧ Below w.heap.size w w'
def noLay : Lay := ⟨0, 0, 0, fun _ => none, fun _ => 0, fun _ => 0, fun _ => 0⟩
theorem LogW.none (w : World) (Z : Nat → Nat → Int) (z : Nat → Int) (base : Nat) : LogW w w.heap.size base Option.none noLay ⟨0, fun _ => 0, Z⟩ Option.none 0 0 0 z :=
  ⟨⟨⟨fun _ hr => absurd hr (Nat.not_lt_zero _), fun _ hr => absurd hr (Nat.not_lt_zero _)⟩, fun _ hr => absurd hr (Nat.not_lt_zero _), fun _ _ hr => absurd hr (Nat.not_lt_zero _), fun _ hr => absurd hr (Nat.not_lt_zero _)⟩, ⟨⟨fun _ hr => absurd hr (Nat.not_lt_zero _)⟩, fun _ hr => absurd hr (Nat.not_lt_zero _)⟩,
   fun _ hr => absurd hr (Nat.not_lt_zero _), fun hr => absurd hr (Nat.not_lt_zero _), fun hr => absurd hr (Nat.not_lt_zero _), fun _ hr => absurd hr (Nat.not_lt_zero _), fun hr => absurd hr (Nat.not_lt_zero _), Nat.zero_le _, fun _ hr => absurd hr (Nat.not_lt_zero _), Nat.zero_le _, Nat.le_refl _⟩
theorem LogO.logW {w : World} {base : Nat} {u t : Value} {n : Nat} {rv : Nat → Value} {Z : Nat → Nat → Int} {y : Nat → Int} (h : LogO w base u t n rv Z y) :
    ∃ (ua : Option Addr) (l : Lay) (na : Option Addr) (g nc : Nat), u = .slice ua n l.cap ∧ t = .slice na n nc ∧ LogW w w.heap.size base ua l ⟨n, fun _ => n, Z⟩ na g 0 n y := by
  have hp := h.pos
  have hh := h.hi
  have hrv : ∀ r, r < n → ∃ y : Nat × Nat, rv r = .slice (some ⟨y.1, 0, none⟩) n y.2 ∧ y.1 < w.heap.size ∧ base ≤ y.1 ∧ (∀ j, j < n → w.cell? ⟨y.1, j, none⟩ = some (.int .i64 (Z r j))) ∧ (∀ j, w.frozen? ⟨y.1, j, none⟩ = false) := fun r hr => by
    obtain ⟨g, cap, h1, h2⟩ := h.out.bigN hr hp
    have h3 := h.out.row r hr
    rw [h1] at h3
    exact ⟨(g, cap), h1, own_lt h3 g rfl, ownsRow_block h3 g rfl, h2, fun j => World.ownsRow.frozenAt h3 j⟩
  obtain ⟨f, hf⟩ := choose_lt hrv
  obtain ⟨b, cap, rfl, hc⟩ := h.out.topv hp
  obtain ⟨g, nc, rfl, hg, hlt, _⟩ := h.ints.val (by omega)
  have hsep : ∀ r, r < n → (f r).1 ≠ g := fun r hr e => h.sep r hr (by rw [(hf r hr).1, e]; rfl)
  have hbg : b ≠ g := fun e => by
    have h1 := h.out.top
    have h2 := h.ints
    rcases owns_apart h1 h2 (by decide) with h3 | h3
    · simp [Value.ownBlock] at h3
    · exact h3 (by rw [e]; rfl)
  have hbr : ∀ r, r < n → (f r).1 ≠ b := fun r hr e => by
    have h1 := h.out.row r hr
    rw [(hf r hr).1] at h1
    rcases owns_apart h1 h.out.top (by decide) with h3 | h3
    · simp [Value.ownBlock] at h3
    · exact h3 (by rw [e]; rfl)
  have hrs : ∀ r s, r < n → s < n → r ≠ s → (f r).1 ≠ (f s).1 := fun r s hr hs hne e => h.out.apart r s hr hs hne (by rw [(hf r hr).1, (hf s hs).1, e]; rfl)
  refine ⟨some ⟨b, 0, Option.none⟩, ⟨b, 0, cap, fun r => some ⟨(f r).1, 0, Option.none⟩, fun r => (f r).2, fun r => (f r).1, fun _ => 0⟩, some ⟨g, 0, Option.none⟩, g, nc, rfl, rfl, ⟨⟨⟨fun r hr => ?_, fun r hr c hc' => ?_⟩, fun r hr c hc' => ?_, fun r s hr hs hne _ _ => hrs r s hr hs hne, fun r hr _ => hbr r hr⟩,
    ⟨⟨fun c hc' => ⟨rfl, hlt, by rw [Nat.zero_add]; exact h.ints.cell hc'⟩⟩, fun c _ => World.ownsRow.frozenAt h.ints _⟩, fun r hr _ _ => hsep r hr, fun _ _ => hbg, fun _ => ownsRow_block h.out.top b rfl, fun r hr _ => (hf r hr).2.2.1, fun _ => hg, by show n ≤ _; omega, fun _ _ => by show n ≤ _; omega, by omega, Nat.le_refl _⟩⟩
  · have hr' : r < n := hr
    refine ⟨rfl, own_lt h.out.top b rfl, ?_⟩
    rw [Nat.zero_add, hc r hr', (hf r hr').1]
  · have hr' : r < n := hr
    have hc'' : c < n := hc'
    refine ⟨rfl, (hf r hr').2.1, ?_⟩
    rw [Nat.zero_add]
    exact (hf r hr').2.2.2.1 c hc''
  · have hr' : r < n := hr
    exact (hf r hr').2.2.2.2 _
theorem MadeOk.res {w : World} {N : Nat} {Z : Nat → Nat → Int} {y : Nat → Nat} {ok : Bool} {e : Ending} {w' : World} (h : MadeOk w N Z y ok e w') : ResL w (if ok = true then N else 0) Z y e ok w' := by
  obtain ⟨hb, (⟨rfl, rfl⟩ | ⟨rfl, u, t, rv, rfl, hL⟩)⟩ := h
  · exact ⟨none, noLay, none, 0, 0, rfl, LogW.none w' Z _ _, hb⟩
  · obtain ⟨ua, l, na, g, nc, rfl, rfl, hW⟩ := hL.logW
    exact ⟨ua, l, na, g, nc, rfl, hW, hb⟩
end Go.Proofs.Ytmchgclaeipoeaa
namespace Go.Proofs.Ytmchgclaeipoeaa
open Go.RowKit Go.Deep

end Go.Proofs.Ytmchgclaeipoeaa
namespace Go.Proofs.Ytmchgclaeipoeaa
open Go.RowKit Go.Deep

end Go.Proofs.Ytmchgclaeipoeaa
