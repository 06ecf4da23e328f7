/- The walk of the reference's SetsOf. The walks of the laws' marks on logics: numbers written into all rows and opposites that may be written, and found there again. Logics that a law marks: as they lie in memory, each block apart; the walks of marking one, and of finding the marks. A copy of a logic, as one that may be marked. How large logics are, reckoned on from what is left. -/
import Derived.Test.YtjofkejfldmmlaaDoorFe
import Derived.Test.YtjofkejfldmmlaaDoorDi
import Derived.Test.YtjofkejfldmmlaaDoorWv
import Derived.Test.YtjofkejfldmmlaaDoorOa
namespace Go.Proofs.YtjofkejfldmmlaaDoor
open Go.RowKit Go.Deep

/-- What a loop that makes a logic row by row keeps: the result's box, and all that was. -/
structure BoxS (w : World) (p P0 : Nat) (wr : World) : Prop where
  res : TwoAt wr p (.slice none 0 0) (.slice none 0 0)
  old : Below w.heap.size w wr
  lt : p < P0
  wp : w.heap.size ≤ p
  size : P0 < wr.heap.size
theorem BoxS.chg {w wr w' : World} {p P0 : Nat} (h : BoxS w p P0 wr) (hc : Chg (fun j => j = P0 ∨ P0 + 1 ≤ j) wr w') : BoxS w p P0 w' :=
  have h1 := h.lt
  have h2 := h.wp
  ⟨hc.two h.res (by show ¬ (_ ∨ _); omega), h.old.trans (hc.below (by have := h.size; omega) fun j hj => by have hj' : j = P0 ∨ P0 + 1 ≤ j := hj; omega), h.lt, h.wp, Nat.lt_of_lt_of_le h.size hc.size⟩
theorem BoxS.below {w wr w' : World} {p P0 : Nat} (h : BoxS w p P0 wr) (hb : Below wr.heap.size wr w') : BoxS w p P0 w' :=
  h.chg (Chg.of_below hb fun j hj hB => absurd hj (by omega))
theorem sets_bits_t {x y : Nat} (hx : x < 8) (hy : y < 8) (h : setsZ x y = 1) : (bits BinOp.and IntKind.i64 (x : Int) (y : Int) == (x : Int)) = true := by
  rw [sets_bits x hx y hy]
  unfold setsZ at h
  unfold setsB
  split at h
  · simpa using ‹_›
  · cases h
theorem sets_bits_f {x y : Nat} (hx : x < 8) (hy : y < 8) (h : setsZ x y = 0) : (bits BinOp.and IntKind.i64 (x : Int) (y : Int) == (x : Int)) = false := by
  rw [sets_bits x hx y hy]
  unfold setsZ at h
  unfold setsB
  split at h
  · cases h
  · simpa using ‹_›
theorem setsZ_ways (x y : Nat) : setsZ x y = 0 ∨ setsZ x y = 1 := by
  unfold setsZ
  split
  · exact .inr rfl
  · exact .inl rfl
/-- A row under way: the numbers told so far. -/
theorem IntsAt.told {w : World} {base : Nat} {t : Value} {k : Nat} {z : Nat → Int} (h : w.ownsRow base 3 1 t (k + 1) ((List.range k).map (fun c => .int .i64 (z c)) ++ [.int .i64 (z k)])) : IntsAt w base t (k + 1) z := by
  have := IntsAt.step h
  have e : (fun c => if c = k then z k else z c) = z := by
    funext c
    by_cases e1 : c = k
    · rw [if_pos e1, e1]
    · rw [if_neg e1]
  rw [e] at this
  exact this

theorem six_logO (w : World) : LogO (allocs w (sixOs w.heap.size)) w.heap.size (.slice (some ⟨w.heap.size + 1 + 1 + 1 + 1 + 1 + 1 + 1, 0, none⟩) 6 6) (.slice (some ⟨w.heap.size + 1 + 1 + 1 + 1 + 1 + 1 + 1 + 1, 0, none⟩) 6 6) 6 (fun r => .slice (some ⟨w.heap.size + 1 + r, 0, none⟩) 6 6) ringZ (fun c => (ringY c : Int)) := by
  have h : LogO (allocs w (sixOs w.heap.size)) w.heap.size (.slice (some ⟨w.heap.size + 1 + 1 + 1 + 1 + 1 + 1 + 1, 0, none⟩) 6 6) (.slice (some ⟨w.heap.size + 1 + 1 + 1 + 1 + 1 + 1 + 1 + 1, 0, none⟩) 6 6) 6 (fun r => .slice (some ⟨w.heap.size + 1 + r, 0, none⟩) 6 6) sixZ sixY := by
    refine ⟨by omega, by omega, ⟨?_, fun r hr => ?_, fun r s _ _ hne e => hne ?_, fun r c hr hc => ?_⟩, ?_, fun r hr e => ?_, fun c hc => ?_⟩
    · exact own_of_heap (allocs_get (sixOs w.heap.size) w 7 (six_len w 7 (by omega))) rfl rfl (by omega) (by decide)
    · have h6 : r = 0 ∨ r = 1 ∨ r = 2 ∨ r = 3 ∨ r = 4 ∨ r = 5 := by omega
      rcases h6 with rfl | rfl | rfl | rfl | rfl | rfl
      · exact own_of_heap (allocs_get (sixOs w.heap.size) w 1 (six_len w 1 (by omega))) rfl rfl (by omega) (by decide)
      · exact own_of_heap (allocs_get (sixOs w.heap.size) w 2 (six_len w 2 (by omega))) rfl rfl (by omega) (by decide)
      · exact own_of_heap (allocs_get (sixOs w.heap.size) w 3 (six_len w 3 (by omega))) rfl rfl (by omega) (by decide)
      · exact own_of_heap (allocs_get (sixOs w.heap.size) w 4 (six_len w 4 (by omega))) rfl rfl (by omega) (by decide)
      · exact own_of_heap (allocs_get (sixOs w.heap.size) w 5 (six_len w 5 (by omega))) rfl rfl (by omega) (by decide)
      · exact own_of_heap (allocs_get (sixOs w.heap.size) w 6 (six_len w 6 (by omega))) rfl rfl (by omega) (by decide)
    · have e' : w.heap.size + 1 + r = w.heap.size + 1 + s := by simpa [Value.ownBlock] using e
      omega
    · have h6 : ∀ r, r < 6 → ∀ c, c < 6 → 0 ≤ sixZ r c ∧ sixZ r c ≤ 2 := by decide
      exact h6 r hr c hc
    · exact own_of_heap (allocs_get (sixOs w.heap.size) w 8 (six_len w 8 (by omega))) rfl rfl (by omega) (by decide)
    · have e' : w.heap.size + 1 + r = w.heap.size + 1 + 1 + 1 + 1 + 1 + 1 + 1 + 1 := by simpa [Value.ownBlock] using e
      omega
    · have h6 : ∀ c, c < 6 → 0 ≤ sixY c ∧ sixY c < 6 := by decide
      exact h6 c hc
  exact h.congrZ (fun _ _ _ _ => rfl) (by decide)

end Go.Proofs.YtjofkejfldmmlaaDoor
namespace Go.Proofs.YtjofkejfldmmlaaDoor
open Go.RowKit Go.Deep

/-- A row of numbers that may be written. -/
structure RowW (w : World) (B : Nat) (a : Option Addr) (g o n : Nat) (z : Nat → Int) : Prop where
  row : RowAt w B a g o n z
  fro : ∀ c, c < n → w.frozen? ⟨g, o + c, none⟩ = false
theorem RowW.only {S : Nat → Prop} {w w' : World} {B : Nat} {a : Option Addr} {g o n : Nat} {z : Nat → Int} (h : RowW w B a g o n z) (ho : OnlyIn S w w') (hS : 0 < n → ¬ S g) : RowW w' B a g o n z :=
  ⟨⟨fun c hc => by
    obtain ⟨h1, h2, h3⟩ := h.row.row c hc
    exact ⟨h1, h2, (World.cell?_of_block (w := w) (ho.block g (hS (by omega)))).trans h3⟩⟩, fun c hc => (World.frozen?_of_block (w := w) (a := ⟨g, o + c, none⟩) (ho.block g (hS (by omega)))).trans (h.fro c hc)⟩
theorem RowW.set {w : World} {B : Nat} {a : Option Addr} {g o n : Nat} {z : Nat → Int} (h : RowW w B a g o n z) {k : Nat} (x : Int) (_ : k < n) : RowW (w.setCell ⟨g, o + k, none⟩ (.int .i64 x)) B a g o n (fun c => if c = k then x else z c) :=
  ⟨⟨fun c hc => by
    obtain ⟨h1, h2, h3⟩ := h.row.row c hc
    refine ⟨h1, h2, ?_⟩
    by_cases e : c = k
    · subst e
      rw [if_pos rfl]
      exact World.cell?_setCell_same _ _ _ h3
    · rw [if_neg e, World.cell?_setCell_other _ _ _ _ (fun e2 => by injection e2 with _ e3; omega)]
      exact h3⟩, fun c hc => by rw [World.frozen?_setCell]; exact h.fro c hc⟩
theorem RowAt.congr {w : World} {B : Nat} {a : Option Addr} {g o n : Nat} {z z' : Nat → Int} (h : RowAt w B a g o n z) (e : ∀ c, c < n → z c = z' c) : RowAt w B a g o n z' :=
  ⟨fun c hc => by obtain ⟨h1, h2, h3⟩ := h.row c hc; exact ⟨h1, h2, by rw [← e c hc]; exact h3⟩⟩
theorem RowW.congr {w : World} {B : Nat} {a : Option Addr} {g o n : Nat} {z z' : Nat → Int} (h : RowW w B a g o n z) (e : ∀ c, c < n → z c = z' c) : RowW w B a g o n z' := ⟨h.row.congr e, h.fro⟩

/-- Rows of numbers that may be written, each apart from the others and from the list of the rows. -/
structure MatW (w : World) (B : Nat) (a : Option Addr) (l : Lay) (m : Mx) : Prop where
  mat : MatAt w B a l m
  fro : ∀ r, r < m.n → ∀ c, c < m.L r → w.frozen? ⟨l.G r, l.O r + c, none⟩ = false
  sep : ∀ r s, r < m.n → s < m.n → r ≠ s → 0 < m.L r → 0 < m.L s → l.G r ≠ l.G s
  top : ∀ r, r < m.n → 0 < m.L r → l.G r ≠ l.b
theorem MatW.rowW {w : World} {B : Nat} {a : Option Addr} {l : Lay} {m : Mx} (h : MatW w B a l m) {r : Nat} (hr : r < m.n) : RowW w B (l.A r) (l.G r) (l.O r) (m.L r) (m.Z r) := ⟨h.mat.rowAt hr, h.fro r hr⟩
def marksOf (k0 : Nat) (m : Mx) : Mx := ⟨m.n, m.L, fun r c => ((k0 + offs m.L r + c : Nat) : Int)⟩
/-- The first k rows hold marks. -/
def marksTo (k0 k : Nat) (m : Mx) : Mx := ⟨m.n, m.L, fun r c => if r < k then ((k0 + offs m.L r + c : Nat) : Int) else m.Z r c⟩
/-- The blocks that hold rows. -/
def rowsS (l : Lay) (m : Mx) (j : Nat) : Prop := ∃ r, r < m.n ∧ 0 < m.L r ∧ j = l.G r
theorem MatW.congr {w : World} {B : Nat} {a : Option Addr} {l : Lay} {m : Mx} {Z : Nat → Nat → Int} (h : MatW w B a l m) (e : ∀ r, r < m.n → ∀ c, c < m.L r → m.Z r c = Z r c) : MatW w B a l ⟨m.n, m.L, Z⟩ :=
  ⟨⟨h.mat.top, fun r hr c hc => by show _ ∧ _ ∧ _ = some (Value.int .i64 (Z r c)); rw [← e r hr c hc]; exact h.mat.row r hr c hc⟩, h.fro, h.sep, h.top⟩
theorem MatW.only {S : Nat → Prop} {w w' : World} {B : Nat} {a : Option Addr} {l : Lay} {m : Mx} (h : MatW w B a l m) (ho : OnlyIn S w w') (hb : 0 < m.n → ¬ S l.b) (hG : ∀ r, r < m.n → 0 < m.L r → ¬ S (l.G r)) : MatW w' B a l m :=
  ⟨⟨fun r hr => by obtain ⟨h1, h2, h3⟩ := h.mat.top r hr; exact ⟨h1, h2, (World.cell?_of_block (w := w) (ho.block l.b (hb (by omega)))).trans h3⟩,
    fun r hr c hc => by obtain ⟨h1, h2, h3⟩ := h.mat.row r hr c hc; exact ⟨h1, h2, (World.cell?_of_block (w := w) (ho.block _ (hG r hr (by omega)))).trans h3⟩⟩,
   fun r hr c hc => (World.frozen?_of_block (w := w) (a := ⟨l.G r, l.O r + c, none⟩) (ho.block _ (hG r hr (by omega)))).trans (h.fro r hr c hc), h.sep, h.top⟩
/-- One row more is marked. -/
theorem MatW.mark {w w' : World} {B : Nat} {a : Option Addr} {l : Lay} {m : Mx} {k0 k : Nat} (h : MatW w B a l (marksTo k0 k m)) (hk : k < m.n) (ho : OnlyIn (fun j => 0 < m.L k ∧ j = l.G k) w w') (hr : RowW w' B (l.A k) (l.G k) (l.O k) (m.L k) (fun i => ((k0 + offs m.L k : Nat) : Int) + i)) : MatW w' B a l (marksTo k0 (k + 1) m) := by
  refine ⟨⟨fun r hr' => ?_, fun r hr' c hc => ?_⟩, fun r hr' c hc => ?_, h.sep, h.top⟩
  · obtain ⟨h1, h2, h3⟩ := h.mat.top r hr'
    exact ⟨h1, h2, (World.cell?_of_block (w := w) (ho.block l.b (fun e => h.top k hk e.1 e.2.symm))).trans h3⟩
  · have hc' : c < m.L r := hc
    by_cases e : r = k
    · subst e
      obtain ⟨h1, h2, h3⟩ := hr.row.row c hc'
      refine ⟨h1, h2, h3.trans ?_⟩
      show _ = some (Value.int .i64 (if r < r + 1 then ((k0 + offs m.L r + c : Nat) : Int) else m.Z r c))
      rw [if_pos (Nat.lt_succ_self r)]
      congr 1
    · obtain ⟨h1, h2, h3⟩ := h.mat.row r hr' c hc
      refine ⟨h1, h2, ((World.cell?_of_block (w := w) (ho.block (l.G r) (fun e2 => h.sep r k hr' hk e (by show 0 < m.L r; omega) e2.1 e2.2))).trans h3).trans ?_⟩
      show some (Value.int .i64 (if r < k then ((k0 + offs m.L r + c : Nat) : Int) else m.Z r c)) = some (Value.int .i64 (if r < k + 1 then ((k0 + offs m.L r + c : Nat) : Int) else m.Z r c))
      by_cases h4 : r < k
      · rw [if_pos h4, if_pos (by omega)]
      · rw [if_neg h4, if_neg (by omega)]
  · have hc' : c < m.L r := hc
    by_cases e : r = k
    · subst e
      exact hr.fro c hc'
    · exact (World.frozen?_of_block (w := w) (a := ⟨l.G r, l.O r + c, none⟩) (ho.block (l.G r) (fun e2 => h.sep r k hr' hk e (by show 0 < m.L r; omega) e2.1 e2.2))).trans (h.fro r hr' c hc)

end Go.Proofs.YtjofkejfldmmlaaDoor
namespace Go.Proofs.YtjofkejfldmmlaaDoor
open Go.RowKit Go.Deep

structure LogW (w : World) (B base : Nat) (ua : Option Addr) (l : Lay) (m : Mx) (na : Option Addr) (g o k : Nat) (z : Nat → Int) : Prop where
  mat : MatW w B ua l m
  row : RowW w B na g o k z
  ne : ∀ r, r < m.n → 0 < m.L r → 0 < k → l.G r ≠ g
  nb : 0 < m.n → 0 < k → l.b ≠ g
  bb : 0 < m.n → base ≤ l.b
  bG : ∀ r, r < m.n → 0 < m.L r → base ≤ l.G r
  bg : 0 < k → base ≤ g
  hn : m.n ≤ 1048576
  hL : ∀ r, r < m.n → m.L r ≤ 1048576
  hk : k ≤ 1048576
  hB : B ≤ w.heap.size
section
variable {w w' : World} {B base : Nat} {ua : Option Addr} {l : Lay} {m : Mx} {na : Option Addr} {g o k : Nat} {z : Nat → Int}
theorem LogW.logAt (h : LogW w B base ua l m na g o k z) : LogAt w B ua l m na g o k z :=
  ⟨h.mat.mat, h.row.row, by have := h.hn; omega, fun r hr => by have := h.hL r hr; omega, by have := h.hk; omega, h.hB⟩
theorem MatW.chg {S : Nat → Prop} (h : MatW w B ua l m) (hc : Chg S w w') (hB : B ≤ w.heap.size) (hb : 0 < m.n → ¬ S l.b) (hG : ∀ r, r < m.n → 0 < m.L r → ¬ S (l.G r)) : MatW w' B ua l m :=
  ⟨⟨fun r hr => by obtain ⟨h1, h2, h3⟩ := h.mat.top r hr; exact ⟨h1, h2, (World.cell?_of_block (w := w) (hc.block l.b (by omega) (hb (by omega)))).trans h3⟩,
    fun r hr c hc' => by obtain ⟨h1, h2, h3⟩ := h.mat.row r hr c hc'; exact ⟨h1, h2, (World.cell?_of_block (w := w) (hc.block (l.G r) (by omega) (hG r hr (by omega)))).trans h3⟩⟩,
   fun r hr c hc' => by
    obtain ⟨_, h2, _⟩ := h.mat.row r hr c hc'
    have hlt : l.G r < w.heap.size := by omega
    exact (World.frozen?_of_block (w := w) (a := ⟨l.G r, l.O r + c, none⟩) (hc.block (l.G r) hlt (hG r hr (by omega)))).trans (h.fro r hr c hc'), h.sep, h.top⟩
theorem RowW.chg {S : Nat → Prop} {a : Option Addr} {n : Nat} (h : RowW w B a g o n z) (hc : Chg S w w') (hB : B ≤ w.heap.size) (hg : 0 < n → ¬ S g) : RowW w' B a g o n z :=
  ⟨⟨fun c hc' => by obtain ⟨h1, h2, h3⟩ := h.row.row c hc'; exact ⟨h1, h2, (World.cell?_of_block (w := w) (hc.block g (by omega) (hg (by omega)))).trans h3⟩⟩,
   fun c hc' => by
    obtain ⟨_, h2, _⟩ := h.row.row c hc'
    exact (World.frozen?_of_block (w := w) (a := ⟨g, o + c, none⟩) (hc.block g (by omega) (hg (by omega)))).trans (h.fro c hc')⟩
theorem LogW.chg {S : Nat → Prop} (h : LogW w B base ua l m na g o k z) (hc : Chg S w w') (hS : ∀ j, S j → j < base ∨ B ≤ j) : LogW w' B base ua l m na g o k z := by
  have lt1 : 0 < m.n → l.b < B := fun h0 => (h.mat.mat.top 0 h0).2.1
  have lt2 : ∀ r, r < m.n → 0 < m.L r → l.G r < B := fun r hr h0 => (h.mat.mat.row r hr 0 h0).2.1
  have lt3 : 0 < k → g < B := fun h0 => (h.row.row.row 0 h0).2.1
  exact ⟨h.mat.chg hc h.hB (fun h0 e => by have := hS _ e; have := lt1 h0; have := h.bb h0; omega) (fun r hr h0 e => by have := hS _ e; have := lt2 r hr h0; have := h.bG r hr h0; omega),
    h.row.chg hc h.hB (fun h0 e => by have := hS _ e; have := lt3 h0; have := h.bg h0; omega), h.ne, h.nb, h.bb, h.bG, h.bg, h.hn, h.hL, h.hk, Nat.le_trans h.hB hc.size⟩
theorem LogW.below {B' : Nat} (h : LogW w B base ua l m na g o k z) (hb : Below B' w w') (hB : B ≤ B') : LogW w' B base ua l m na g o k z :=
  h.chg (Chg.of_below (S := fun j => B ≤ j) hb fun j _ hj => by omega) fun j hj => .inr hj
theorem LogW.more {B' : Nat} (h : LogW w B base ua l m na g o k z) (hB : B ≤ B') (hw : B' ≤ w.heap.size) : LogW w B' base ua l m na g o k z :=
  ⟨⟨h.mat.mat.more hB, h.mat.fro, h.mat.sep, h.mat.top⟩, ⟨⟨fun c hc => by obtain ⟨h1, h2, h3⟩ := h.row.row.row c hc; exact ⟨h1, by omega, h3⟩⟩, h.row.fro⟩, h.ne, h.nb, h.bb, h.bG, h.bg, h.hn, h.hL, h.hk, hw⟩
theorem LogW.rebase {b' : Nat} (h : LogW w B base ua l m na g o k z) (hb : b' ≤ base) : LogW w B b' ua l m na g o k z :=
  ⟨h.mat, h.row, h.ne, h.nb, fun h0 => Nat.le_trans hb (h.bb h0), fun r hr h0 => Nat.le_trans hb (h.bG r hr h0), fun h0 => Nat.le_trans hb (h.bg h0), h.hn, h.hL, h.hk, h.hB⟩
end

/-- Where the marks of a logic go on behind its rows. -/
def markAt (m : Mx) (k0 : Nat) : Nat := k0 + offs m.L m.n
theorem markAt_le {m : Mx} {k0 : Nat} (hn : m.n ≤ 1048576) (hL : ∀ r, r < m.n → m.L r ≤ 1048576) (h0 : k0 ≤ 2199023255552) : markAt m k0 ≤ 3298534883328 := by
  have := offs_le hL m.n (Nat.le_refl _)
  unfold markAt
  omega

/-- A logic that comes back, or none: rows, opposites and all. -/
def ResL (w : World) (n : Nat) (Z : Nat → Nat → Int) (y : Nat → Nat) (e : Ending) (ok : Bool) (w' : World) : Prop :=
  ∃ (ua : Option Addr) (l : Lay) (na : Option Addr) (g nc : Nat), e = .returned (.tuple #[.agg #[.slice ua n l.cap, .slice na n nc], .bool ok]) ∧ LogW w' w'.heap.size w.heap.size ua l ⟨n, fun _ => n, Z⟩ na g 0 n (fun c => (y c : Int)) ∧ Below w.heap.size w w'
def noLay : Lay := ⟨0, 0, 0, fun _ => none, fun _ => 0, fun _ => 0, fun _ => 0⟩
theorem LogW.none (w : World) (Z : Nat → Nat → Int) (z : Nat → Int) (base : Nat) : LogW w w.heap.size base Option.none noLay ⟨0, fun _ => 0, Z⟩ Option.none 0 0 0 z :=
  ⟨⟨⟨fun _ hr => absurd hr (Nat.not_lt_zero _), fun _ hr => absurd hr (Nat.not_lt_zero _)⟩, fun _ hr => absurd hr (Nat.not_lt_zero _), fun _ _ hr => absurd hr (Nat.not_lt_zero _), fun _ hr => absurd hr (Nat.not_lt_zero _)⟩, ⟨⟨fun _ hr => absurd hr (Nat.not_lt_zero _)⟩, fun _ hr => absurd hr (Nat.not_lt_zero _)⟩,
   fun _ hr => absurd hr (Nat.not_lt_zero _), fun hr => absurd hr (Nat.not_lt_zero _), fun hr => absurd hr (Nat.not_lt_zero _), fun _ hr => absurd hr (Nat.not_lt_zero _), fun hr => absurd hr (Nat.not_lt_zero _), Nat.zero_le _, fun _ hr => absurd hr (Nat.not_lt_zero _), Nat.zero_le _, Nat.le_refl _⟩
theorem LogO.logW {w : World} {base : Nat} {u t : Value} {n : Nat} {rv : Nat → Value} {Z : Nat → Nat → Int} {y : Nat → Int} (h : LogO w base u t n rv Z y) :
    ∃ (ua : Option Addr) (l : Lay) (na : Option Addr) (g nc : Nat), u = .slice ua n l.cap ∧ t = .slice na n nc ∧ LogW w w.heap.size base ua l ⟨n, fun _ => n, Z⟩ na g 0 n y := by
  have hp := h.pos
  have hh := h.hi
  have hrv : ∀ r, r < n → ∃ y : Nat × Nat, rv r = .slice (some ⟨y.1, 0, none⟩) n y.2 ∧ y.1 < w.heap.size ∧ base ≤ y.1 ∧ (∀ j, j < n → w.cell? ⟨y.1, j, none⟩ = some (.int .i64 (Z r j))) ∧ (∀ j, w.frozen? ⟨y.1, j, none⟩ = false) := fun r hr => by
    obtain ⟨g, cap, h1, h2⟩ := h.out.bigN hr hp
    have h3 := h.out.row r hr
    rw [h1] at h3
    exact ⟨(g, cap), h1, own_lt h3 g rfl, ownsRow_block h3 g rfl, h2, fun j => World.ownsRow.frozenAt h3 j⟩
  obtain ⟨f, hf⟩ := choose_lt hrv
  obtain ⟨b, cap, rfl, hc⟩ := h.out.topv hp
  obtain ⟨g, nc, rfl, hg, hlt, _⟩ := h.ints.val (by omega)
  have hsep : ∀ r, r < n → (f r).1 ≠ g := fun r hr e => h.sep r hr (by rw [(hf r hr).1, e]; rfl)
  have hbg : b ≠ g := fun e => by
    have h1 := h.out.top
    have h2 := h.ints
    rcases owns_apart h1 h2 (by decide) with h3 | h3
    · simp [Value.ownBlock] at h3
    · exact h3 (by rw [e]; rfl)
  have hbr : ∀ r, r < n → (f r).1 ≠ b := fun r hr e => by
    have h1 := h.out.row r hr
    rw [(hf r hr).1] at h1
    rcases owns_apart h1 h.out.top (by decide) with h3 | h3
    · simp [Value.ownBlock] at h3
    · exact h3 (by rw [e]; rfl)
  have hrs : ∀ r s, r < n → s < n → r ≠ s → (f r).1 ≠ (f s).1 := fun r s hr hs hne e => h.out.apart r s hr hs hne (by rw [(hf r hr).1, (hf s hs).1, e]; rfl)
  refine ⟨some ⟨b, 0, Option.none⟩, ⟨b, 0, cap, fun r => some ⟨(f r).1, 0, Option.none⟩, fun r => (f r).2, fun r => (f r).1, fun _ => 0⟩, some ⟨g, 0, Option.none⟩, g, nc, rfl, rfl, ⟨⟨⟨fun r hr => ?_, fun r hr c hc' => ?_⟩, fun r hr c hc' => ?_, fun r s hr hs hne _ _ => hrs r s hr hs hne, fun r hr _ => hbr r hr⟩,
    ⟨⟨fun c hc' => ⟨rfl, hlt, by rw [Nat.zero_add]; exact h.ints.cell hc'⟩⟩, fun c _ => World.ownsRow.frozenAt h.ints _⟩, fun r hr _ _ => hsep r hr, fun _ _ => hbg, fun _ => ownsRow_block h.out.top b rfl, fun r hr _ => (hf r hr).2.2.1, fun _ => hg, by show n ≤ _; omega, fun _ _ => by show n ≤ _; omega, by omega, Nat.le_refl _⟩⟩
  · have hr' : r < n := hr
    refine ⟨rfl, own_lt h.out.top b rfl, ?_⟩
    rw [Nat.zero_add, hc r hr', (hf r hr').1]
  · have hr' : r < n := hr
    have hc'' : c < n := hc'
    refine ⟨rfl, (hf r hr').2.1, ?_⟩
    rw [Nat.zero_add]
    exact (hf r hr').2.2.2.1 c hc''
  · have hr' : r < n := hr
    exact (hf r hr').2.2.2.2 _
theorem MadeOk.res {w : World} {N : Nat} {Z : Nat → Nat → Int} {y : Nat → Nat} {ok : Bool} {e : Ending} {w' : World} (h : MadeOk w N Z y ok e w') : ResL w (if ok = true then N else 0) Z y e ok w' := by
  obtain ⟨hb, (⟨rfl, rfl⟩ | ⟨rfl, u, t, rv, rfl, hL⟩)⟩ := h
  · exact ⟨none, noLay, none, 0, 0, rfl, LogW.none w' Z _ _, hb⟩
  · obtain ⟨ua, l, na, g, nc, rfl, rfl, hW⟩ := hL.logW
    exact ⟨ua, l, na, g, nc, rfl, hW, hb⟩
end Go.Proofs.YtjofkejfldmmlaaDoor
namespace Go.Proofs.YtjofkejfldmmlaaDoor
open Go.RowKit Go.Deep

theorem OutS.matW {w wr : World} {m : Mx} (h : OutS w wr m m.n) : MatW wr wr.heap.size (some ⟨w.heap.size, 0, none⟩) (freshLay w.heap.size m) m :=
  ⟨h.mat, fun r hr _ _ => (h.row r hr).frozen _, fun r s _ _ hne _ _ e => hne (by have e' : w.heap.size + 1 + r = w.heap.size + 1 + s := e; omega), fun r _ _ e => by have e' : w.heap.size + 1 + r = w.heap.size := e; omega⟩
theorem CopyS.rowW {w w' : World} {n : Nat} {z : Nat → Int} (h : CopyS w w' n n z) : RowW w' w'.heap.size (some ⟨w.heap.size, 0, none⟩) w.heap.size 0 n z :=
  ⟨h.rowAt, fun _ _ => h.row.frozen _⟩
/-- What a copy is, as one that may be marked. -/
def CopyW (w : World) (m : Mx) (k : Nat) (z : Nat → Int) (e : Ending) (w' : World) : Prop :=
  ∃ N q : Nat, e = .returned (.agg #[.slice (some ⟨N, 0, none⟩) m.n m.n, .slice (some ⟨q, 0, none⟩) k k]) ∧ LogW w' w'.heap.size w.heap.size (some ⟨N, 0, none⟩) (freshLay N m) m (some ⟨q, 0, none⟩) q 0 k z ∧ Below w.heap.size w w'
theorem copy_made {w : World} {B1 B2 N q k base : Nat} {m : Mx} {z : Nat → Int} (h : MatW w B1 (some ⟨N, 0, none⟩) (freshLay N m) m) (h' : RowW w B2 (some ⟨q, 0, none⟩) q 0 k z) (hn : m.n ≤ 1048576) (hL : ∀ r, r < m.n → m.L r ≤ 1048576) (hk : k ≤ 1048576) (h1 : B1 ≤ q) (h2 : base ≤ N) (h3 : B1 ≤ w.heap.size) (h4 : B2 ≤ w.heap.size) (h5 : base ≤ q) :
    LogW w w.heap.size base (some ⟨N, 0, none⟩) (freshLay N m) m (some ⟨q, 0, none⟩) q 0 k z :=
  ⟨⟨h.mat.more h3, h.fro, h.sep, h.top⟩, ⟨⟨fun c hc => by obtain ⟨a, b, d⟩ := h'.row.row c hc; exact ⟨a, by omega, d⟩⟩, h'.fro⟩,
   fun r hr hl _ e => by have := (h.mat.row r hr 0 hl).2.1; omega, fun hr _ e => by have := (h.mat.top 0 hr).2.1; omega, fun _ => h2, fun r _ _ => by show base ≤ N + 1 + r; omega, fun _ => h5, hn, hL, hk, Nat.le_refl _⟩

end Go.Proofs.YtjofkejfldmmlaaDoor
namespace Go.Proofs.YtjofkejfldmmlaaDoor
open Go.RowKit Go.Deep

theorem LogAt.lift {W W' : World} {B : Nat} {ua : Option Addr} {l : Lay} {m : Mx} {na : Option Addr} {g o k : Nat} {z : Nat → Int} (h : LogAt W B ua l m na g o k z) (hb : Below W.heap.size W W') : LogAt W' W'.heap.size ua l m na g o k z :=
  have h' := h.step hb
  ⟨h'.mat.more h'.hB, ⟨fun c hc => by obtain ⟨a, b, d⟩ := h'.row.row c hc; exact ⟨a, by have := h'.hB; omega, d⟩⟩, h'.hn, h'.hL, h'.hk, Nat.le_refl _⟩
/-- A result in its box, and where it lies. -/
def ResBox (wz : World) (n : Nat) (Z : Nat → Nat → Int) (y : Nat → Nat) (p : Nat) (wx : World) : Prop :=
  ∃ (ua : Option Addr) (l : Lay) (na : Option Addr) (g nc : Nat), TwoAt wx p (.slice ua n l.cap) (.slice na n nc) ∧ LogW wx wx.heap.size wz.heap.size ua l ⟨n, fun _ => n, Z⟩ na g 0 n (fun c => (y c : Int)) ∧ Below wz.heap.size wz wx ∧ wz.heap.size ≤ p
/-- Marks do not reach far. -/
theorem markAt_lo {m : Mx} {k0 : Nat} (hn : m.n ≤ 1048576) (hL : ∀ r, r < m.n → m.L r ≤ 1048576) (_ : k0 ≤ 2199023255552) : markAt m k0 ≤ k0 + 1099511627776 := by
  have h1 := markAt_le (m := m) (k0 := 0) hn hL (by omega)
  have h2 := offs_le hL m.n (Nat.le_refl _)
  unfold markAt at h1 ⊢
  have : m.n * 1048576 ≤ 1048576 * 1048576 := Nat.mul_le_mul_right _ hn
  omega
end Go.Proofs.YtjofkejfldmmlaaDoor
