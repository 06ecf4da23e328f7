/- The walk of the reference's SetsOf. The walks of the laws' marks on logics: numbers written into all rows and opposites that may be written, and found there again. Logics that a law marks: as they lie in memory, each block apart; the walks of marking one, and of finding the marks. A copy of a logic, as one that may be marked. How large logics are, reckoned on from what is left. -/
import Derived.Test.YtjmhhjdkemicbaaFe
import Derived.Test.YtjmhhjdkemicbaaDi
import Derived.Test.YtjmhhjdkemicbaaWv
import Derived.Test.YtjmhhjdkemicbaaOa
namespace Go.Proofs.Ytjmhhjdkemicbaa
open Go.RowKit Go.Deep

/-- What a loop that makes a logic row by row keeps: the result's box, and all that was. -/
structure BoxS (w : World) (p P0 : Nat) (wr : World) : Prop where
  res : TwoAt wr p (.slice none 0 0) (.slice none 0 0)
  old : Below w.heap.size w wr
  lt : p < P0
  wp : w.heap.size ≤ p
  size : P0 < wr.heap.size
theorem BoxS.chg {w wr w' : World} {p P0 : Nat} (h : BoxS w p P0 wr) (hc : Chg (fun j => j = P0 ∨ P0 + 1 ≤ j) wr w') : BoxS w p P0 w' :=
  have h1 := h.lt
  have h2 := h.wp
  ⟨hc.two h.res (by show ¬ (_ ∨ _); omega), h.old.trans (hc.below (by have := h.size; omega) fun j hj => by have hj' : j = P0 ∨ P0 + 1 ≤ j := hj; omega), h.lt, h.wp, Nat.lt_of_lt_of_le h.size hc.size⟩
theorem BoxS.below {w wr w' : World} {p P0 : Nat} (h : BoxS w p P0 wr) (hb : Below wr.heap.size wr w') : BoxS w p P0 w' :=
  h.chg (Chg.of_below hb fun j hj hB => absurd hj (by omega))
theorem sets_bits_t {x y : Nat} (hx : x < 8) (hy : y < 8) (h : setsZ x y = 1) : (bits BinOp.and IntKind.i64 (x : Int) (y : Int) == (x : Int)) = true := by
  rw [sets_bits x hx y hy]
  unfold setsZ at h
  unfold setsB
  split at h
  · simpa using ‹_›
  · cases h
theorem sets_bits_f {x y : Nat} (hx : x < 8) (hy : y < 8) (h : setsZ x y = 0) : (bits BinOp.and IntKind.i64 (x : Int) (y : Int) == (x : Int)) = false := by
  rw [sets_bits x hx y hy]
  unfold setsZ at h
  unfold setsB
  split at h
  · cases h
  · simpa using ‹_›
theorem setsZ_ways (x y : Nat) : setsZ x y = 0 ∨ setsZ x y = 1 := by
  unfold setsZ
  split
  · exact .inr rfl
  · exact .inl rfl
/-- A row under way: the numbers told so far. -/
theorem IntsAt.told {w : World} {base : Nat} {t : Value} {k : Nat} {z : Nat → Int} (h : w.ownsRow base 3 1 t (k + 1) ((List.range k).map (fun c => .int .i64 (z c)) ++ [.int .i64 (z k)])) : IntsAt w base t (k + 1) z := by
  have := IntsAt.step h
  have e : (fun c => if c = k then z k else z c) = z := by
    funext c
    by_cases e1 : c = k
    · rw [if_pos e1, e1]
    · rw [if_neg e1]
  rw [e] at this
  exact this

theorem six_logO (w : World) : LogO (allocs w (sixOs w.heap.size)) w.heap.size (.slice (some ⟨w.heap.size + 1 + 1 + 1 + 1 + 1 + 1 + 1, 0, none⟩) 6 6) (.slice (some ⟨w.heap.size + 1 + 1 + 1 + 1 + 1 + 1 + 1 + 1, 0, none⟩) 6 6) 6 (fun r => .slice (some ⟨w.heap.size + 1 + r, 0, none⟩) 6 6) ringZ (fun c => (ringY c : Int)) := by
  have h : LogO (allocs w (sixOs w.heap.size)) w.heap.size (.slice (some ⟨w.heap.size + 1 + 1 + 1 + 1 + 1 + 1 + 1, 0, none⟩) 6 6) (.slice (some ⟨w.heap.size + 1 + 1 + 1 + 1 + 1 + 1 + 1 + 1, 0, none⟩) 6 6) 6 (fun r => .slice (some ⟨w.heap.size + 1 + r, 0, none⟩) 6 6) sixZ sixY := by
    refine ⟨by omega, by omega, ⟨?_, fun r hr => ?_, fun r s _ _ hne e => hne ?_, fun r c hr hc => ?_⟩, ?_, fun r hr e => ?_, fun c hc => ?_⟩
    · exact own_of_heap (allocs_get (sixOs w.heap.size) w 7 (six_len w 7 (by omega))) rfl rfl (by omega) (by decide)
    · have h6 : r = 0 ∨ r = 1 ∨ r = 2 ∨ r = 3 ∨ r = 4 ∨ r = 5 := by omega
      rcases h6 with rfl | rfl | rfl | rfl | rfl | rfl
      · exact own_of_heap (allocs_get (sixOs w.heap.size) w 1 (six_len w 1 (by omega))) rfl rfl (by omega) (by decide)
      · exact own_of_heap (allocs_get (sixOs w.heap.size) w 2 (six_len w 2 (by omega))) rfl rfl (by omega) (by decide)
      · exact own_of_heap (allocs_get (sixOs w.heap.size) w 3 (six_len w 3 (by omega))) rfl rfl (by omega) (by decide)
      · exact own_of_heap (allocs_get (sixOs w.heap.size) w 4 (six_len w 4 (by omega))) rfl rfl (by omega) (by decide)
      · exact own_of_heap (allocs_get (sixOs w.heap.size) w 5 (six_len w 5 (by omega))) rfl rfl (by omega) (by decide)
      · exact own_of_heap (allocs_get (sixOs w.heap.size) w 6 (six_len w 6 (by omega))) rfl rfl (by omega) (by decide)
    · have e' : w.heap.size + 1 + r = w.heap.size + 1 + s := by simpa [Value.ownBlock] using e
      omega
    · have h6 : ∀ r, r < 6 → ∀ c, c < 6 → 0 ≤ sixZ r c ∧ sixZ r c ≤ 2 := by decide
      exact h6 r hr c hc
    · exact own_of_heap (allocs_get (sixOs w.heap.size) w 8 (six_len w 8 (by omega))) rfl rfl (by omega) (by decide)
    · have e' : w.heap.size + 1 + r = w.heap.size + 1 + 1 + 1 + 1 + 1 + 1 + 1 + 1 := by simpa [Value.ownBlock] using e
      omega
    · have h6 : ∀ c, c < 6 → 0 ≤ sixY c ∧ sixY c < 6 := by decide
      exact h6 c hc
  exact h.congrZ (fun _ _ _ _ => rfl) (by decide)

end Go.Proofs.Ytjmhhjdkemicbaa
namespace Go.Proofs.Ytjmhhjdkemicbaa
open Go.RowKit Go.Deep

/-- A row of numbers that may be written. -/
structure RowW (w : World) (B : Nat) (a : Option Addr) (g o n : Nat) (z : Nat → Int) : Prop where
  row : RowAt w B a g o n z
  fro : ∀ c, c < n → w.frozen? ⟨g, o + c, none⟩ = false
theorem RowW.only {S : Nat → Prop} {w w' : World} {B : Nat} {a : Option Addr} {g o n : Nat} {z : Nat → Int} (h : RowW w B a g o n z) (ho : OnlyIn S w w') (hS : 0 < n → ¬ S g) : RowW w' B a g o n z :=
  ⟨⟨fun c hc => by
    obtain ⟨h1, h2, h3⟩ := h.row.row c hc
    exact ⟨h1, h2, (World.cell?_of_block (w := w) (ho.block g (hS (by omega)))).trans h3⟩⟩, fun c hc => (World.frozen?_of_block (w := w) (a := ⟨g, o + c, none⟩) (ho.block g (hS (by omega)))).trans (h.fro c hc)⟩
theorem RowW.set {w : World} {B : Nat} {a : Option Addr} {g o n : Nat} {z : Nat → Int} (h : RowW w B a g o n z) {k : Nat} (x : Int) (_ : k < n) : RowW (w.setCell ⟨g, o + k, none⟩ (.int .i64 x)) B a g o n (fun c => if c = k then x else z c) :=
  ⟨⟨fun c hc => by
    obtain ⟨h1, h2, h3⟩ := h.row.row c hc
    refine ⟨h1, h2, ?_⟩
    by_cases e : c = k
    · subst e
      rw [if_pos rfl]
      exact World.cell?_setCell_same _ _ _ h3
    · rw [if_neg e, World.cell?_setCell_other _ _ _ _ (fun e2 => by injection e2 with _ e3; omega)]
      exact h3⟩, fun c hc => by rw [World.frozen?_setCell]; exact h.fro c hc⟩
theorem RowAt.congr {w : World} {B : Nat} {a : Option Addr} {g o n : Nat} {z z' : Nat → Int} (h : RowAt w B a g o n z) (e : ∀ c, c < n → z c = z' c) : RowAt w B a g o n z' :=
  ⟨fun c hc => by obtain ⟨h1, h2, h3⟩ := h.row c hc; exact ⟨h1, h2, by rw [← e c hc]; exact h3⟩⟩
theorem RowW.congr {w : World} {B : Nat} {a : Option Addr} {g o n : Nat} {z z' : Nat → Int} (h : RowW w B a g o n z) (e : ∀ c, c < n → z c = z' c) : RowW w B a g o n z' := ⟨h.row.congr e, h.fro⟩

/-- Rows of numbers that may be written, each apart from the others and from the list of the rows. -/
structure MatW (w : World) (B : Nat) (a : Option Addr) (l : Lay) (m : Mx) : Prop where
  mat : MatAt w B a l m
  fro : ∀ r, r < m.n → ∀ c, c < m.L r → w.frozen? ⟨l.G r, l.O r + c, none⟩ = false
  sep : ∀ r s, r < m.n → s < m.n → r ≠ s → 0 < m.L r → 0 < m.L s → l.G r ≠ l.G s
  top : ∀ r, r < m.n → 0 < m.L r → l.G r ≠ l.b
theorem MatW.rowW {w : World} {B : Nat} {a : Option Addr} {l : Lay} {m : Mx} (h : MatW w B a l m) {r : Nat} (hr : r < m.n) : RowW w B (l.A r) (l.G r) (l.O r) (m.L r) (m.Z r) := ⟨h.mat.rowAt hr, h.fro r hr⟩
def marksOf (k0 : Nat) (m : Mx) : Mx := ⟨m.n, m.L, fun r c => ((k0 + offs m.L r + c : Nat) : Int)⟩
/-- The first k rows hold marks. -/
def marksTo (k0 k : Nat) (m : Mx) : Mx := ⟨m.n, m.L, fun r c => if r < k then ((k0 + offs m.L r + c : Nat) : Int) else m.Z r c⟩
/-- The blocks that hold rows. -/
def rowsS (l : Lay) (m : Mx) (j : Nat) : Prop := ∃ r, r < m.n ∧ 0 < m.L r ∧ j = l.G r
theorem MatW.congr {w : World} {B : Nat} {a : Option Addr} {l : Lay} {m : Mx} {Z : Nat → Nat → Int} (h : MatW w B a l m) (e : ∀ r, r < m.n → ∀ c, c < m.L r → m.Z r c = Z r c) : MatW w B a l ⟨m.n, m.L, Z⟩ :=
  ⟨⟨h.mat.top, fun r hr c hc => by show _ ∧ _ ∧ _ = some (Value.int .i64 (Z r c)); rw [← e r hr c hc]; exact h.mat.row r hr c hc⟩, h.fro, h.sep, h.top⟩
theorem MatW.only {S : Nat → Prop} {w w' : World} {B : Nat} {a : Option Addr} {l : Lay} {m : Mx} (h : MatW w B a l m) (ho : OnlyIn S w w') (hb : 0 < m.n → ¬ S l.b) (hG : ∀ r, r < m.n → 0 < m.L r → ¬ S (l.G r)) : MatW w' B a l m :=
  ⟨⟨fun r hr => by obtain ⟨h1, h2, h3⟩ := h.mat.top r hr; exact ⟨h1, h2, (World.cell?_of_block (w := w) (ho.block l.b (hb (by omega)))).trans h3⟩,
    fun r hr c hc => by obtain ⟨h1, h2, h3⟩ := h.mat.row r hr c hc; exact ⟨h1, h2, (World.cell?_of_block (w := w) (ho.block _ (hG r hr (by omega)))).trans h3⟩⟩,
   fun r hr c hc => (World.frozen?_of_block (w := w) (a := ⟨l.G r, l.O r + c, none⟩) (ho.block _ (hG r hr (by omega)))).trans (h.fro r hr c hc), h.sep, h.top⟩
/-- One row more is marked. -/
theorem MatW.mark {w w' : World} {B : Nat} {a : Option Addr} {l : Lay} {m : Mx} {k0 k : Nat} (h : MatW w B a l (marksTo k0 k m)) (hk : k < m.n) (ho : OnlyIn (fun j => 0 < m.L k ∧ j = l.G k) w w') (hr : RowW w' B (l.A k) (l.G k) (l.O k) (m.L k) (fun i => ((k0 + offs m.L k : Nat) : Int) + i)) : MatW w' B a l (marksTo k0 (k + 1) m) := by
  refine ⟨⟨fun r hr' => ?_, fun r hr' c hc => ?_⟩, fun r hr' c hc => ?_, h.sep, h.top⟩
  · obtain ⟨h1, h2, h3⟩ := h.mat.top r hr'
    exact ⟨h1, h2, (World.cell?_of_block (w := w) (ho.block l.b (fun e => h.top k hk e.1 e.2.symm))).trans h3⟩
  · have hc' : c < m.L r := hc
    by_cases e : r = k
    · subst e
      obtain ⟨h1, h2, h3⟩ := hr.row.row c hc'
      refine ⟨h1, h2, h3.trans ?_⟩
      show _ = some (Value.int .i64 (if r < r + 1 then ((k0 + offs m.L r + c : Nat) : Int) else m.Z r c))
      rw [if_pos (Nat.lt_succ_self r)]
      congr 1
    · obtain ⟨h1, h2, h3⟩ := h.mat.row r hr' c hc
      refine ⟨h1, h2, ((World.cell?_of_block (w := w) (ho.block (l.G r) (fun e2 => h.sep r k hr' hk e (by show 0 < m.L r; omega) e2.1 e2.2))).trans h3).trans ?_⟩
      show some (Value.int .i64 (if r < k then ((k0 + offs m.L r + c : Nat) : Int) else m.Z r c)) = some (Value.int .i64 (if r < k + 1 then ((k0 + offs m.L r + c : Nat) : Int) else m.Z r c))
      by_cases h4 : r < k
      · rw [if_pos h4, if_pos (by omega)]
      · rw [if_neg h4, if_neg (by omega)]
  · have hc' : c < m.L r := hc
    by_cases e : r = k
    · subst e
      exact hr.fro c hc'
    · exact (World.frozen?_of_block (w := w) (a := ⟨l.G r, l.O r + c, none⟩) (ho.block (l.G r) (fun e2 => h.sep r k hr' hk e (by show 0 < m.L r; omega) e2.1 e2.2))).trans (h.fro r hr' c hc)

end Go.Proofs.Ytjmhhjdkemicbaa
namespace Go.Proofs.Ytjmhhjdkemicbaa
open Go.RowKit Go.Deep

structure LogW (w : World) (B base : Nat) (ua : Option Addr) (l : Lay) (m : Mx) (na : Option Addr) (g o k : Nat) (z : Nat → Int) : Prop where
  mat : MatW w B ua l m
  row : RowW w B na g o k z
  ne : ∀ r, r < m.n → 0 < m.L r → 0 < k → l.G r ≠ g
  nb : 0 < m.n → 0 < k → l.b ≠ g
  bb : 0 < m.n → base ≤ l.b
  bG : ∀ r, r < m.n → 0 < m.L r → base ≤ l.G r
  bg : 0 < k → base ≤ g
  hn : m.n ≤ 1048576
  hL : ∀ r, r < m.n → m.L r ≤ 1048576
  hk : k ≤ 1048576
  hB : B ≤ w.heap.size
section
variable {w w' : World} {B base : Nat} {ua : Option Addr} {l : Lay} {m : Mx} {na : Option Addr} {g o k : Nat} {z : Nat → Int}
theorem LogW.logAt (h : LogW w B base ua l m na g o k z) : LogAt w B ua l m na g o k z :=
  ⟨h.mat.mat, h.row.row, by have := h.hn; omega, fun r hr => by have := h.hL r hr; omega, by have := h.hk; omega, h.hB⟩
theorem MatW.chg {S : Nat → Prop} (h : MatW w B ua l m) (hc : Chg S w w') (hB : B ≤ w.heap.size) (hb : 0 < m.n → ¬ S l.b) (hG : ∀ r, r < m.n → 0 < m.L r → ¬ S (l.G r)) : MatW w' B ua l m :=
  ⟨⟨fun r hr => by obtain ⟨h1, h2, h3⟩ := h.mat.top r hr; exact ⟨h1, h2, (World.cell?_of_block (w := w) (hc.block l.b (by omega) (hb (by omega)))).trans h3⟩,
    fun r hr c hc' => by obtain ⟨h1, h2, h3⟩ := h.mat.row r hr c hc'; exact ⟨h1, h2, (World.cell?_of_block (w := w) (hc.block (l.G r) (by omega) (hG r hr (by omega)))).trans h3⟩⟩,
   fun r hr c hc' => by
    obtain ⟨_, h2, _⟩ := h.mat.row r hr c hc'
    have hlt : l.G r < w.heap.size := by omega
    exact (World.frozen?_of_block (w := w) (a := ⟨l.G r, l.O r + c, none⟩) (hc.block (l.G r) hlt (hG r hr (by omega)))).trans (h.fro r hr c hc'), h.sep, h.top⟩
theorem RowW.chg {S : Nat → Prop} {a : Option Addr} {n : Nat} (h : RowW w B a g o n z) (hc : Chg S w w') (hB : B ≤ w.heap.size) (hg : 0 < n → ¬ S g) : RowW w' B a g o n z :=
  ⟨⟨fun c hc' => by obtain ⟨h1, h2, h3⟩ := h.row.row c hc'; exact ⟨h1, h2, (World.cell?_of_block (w := w) (hc.block g (by omega) (hg (by omega)))).trans h3⟩⟩,
   fun c hc' => by
    obtain ⟨_, h2, _⟩ := h.row.row c hc'
    exact (World.frozen?_of_block (w := w) (a := ⟨g, o + c, none⟩) (hc.block g (by omega) (hg (by omega)))).trans (h.fro c hc')⟩
theorem LogW.chg {S : Nat → Prop} (h : LogW w B base ua l m na g o k z) (hc : Chg S w w') (hS : ∀ j, S j → j < base ∨ B ≤ j) : LogW w' B base ua l m na g o k z := by
  have lt1 : 0 < m.n → l.b < B := fun h0 => (h.mat.mat.top 0 h0).2.1
  have lt2 : ∀ r, r < m.n → 0 < m.L r → l.G r < B := fun r hr h0 => (h.mat.mat.row r hr 0 h0).2.1
  have lt3 : 0 < k → g < B := fun h0 => (h.row.row.row 0 h0).2.1
  exact ⟨h.mat.chg hc h.hB (fun h0 e => by have := hS _ e; have := lt1 h0; have := h.bb h0; omega) (fun r hr h0 e => by have := hS _ e; have := lt2 r hr h0; have := h.bG r hr h0; omega),
    h.row.chg hc h.hB (fun h0 e => by have := hS _ e; have := lt3 h0; have := h.bg h0; omega), h.ne, h.nb, h.bb, h.bG, h.bg, h.hn, h.hL, h.hk, Nat.le_trans h.hB hc.size⟩
theorem LogW.below {B' : Nat} (h : LogW w B base ua l m na g o k z) (hb : Below B' w w') (hB : B ≤ B') : LogW w' B base ua l m na g o k z :=
  h.chg (Chg.of_below (S := fun j => B ≤ j) hb fun j _ hj => by omega) fun j hj => .inr hj
theorem LogW.more {B' : Nat} (h : LogW w B base ua l m na g o k z) (hB : B ≤ B') (hw : B' ≤ w.heap.size) : LogW w B' base ua l m na g o k z :=
  ⟨⟨h.mat.mat.more hB, h.mat.fro, h.mat.sep, h.mat.top⟩, ⟨⟨fun c hc => by obtain ⟨h1, h2, h3⟩ := h.row.row.row c hc; exact ⟨h1, by omega, h3⟩⟩, h.row.fro⟩, h.ne, h.nb, h.bb, h.bG, h.bg, h.hn, h.hL, h.hk, hw⟩
theorem LogW.rebase {b' : Nat} (h : LogW w B base ua l m na g o k z) (hb : b' ≤ base) : LogW w B b' ua l m na g o k z :=
  ⟨h.mat, h.row, h.ne, h.nb, fun h0 => Nat.le_trans hb (h.bb h0), fun r hr h0 => Nat.le_trans hb (h.bG r hr h0), fun h0 => Nat.le_trans hb (h.bg h0), h.hn, h.hL, h.hk, h.hB⟩
end

/-- Where the marks of a logic go on behind its rows. -/
def markAt (m : Mx) (k0 : Nat) : Nat := k0 + offs m.L m.n
theorem markAt_le {m : Mx} {k0 : Nat} (hn : m.n ≤ 1048576) (hL : ∀ r, r < m.n → m.L r ≤ 1048576) (h0 : k0 ≤ 2199023255552) : markAt m k0 ≤ 3298534883328 := by
  have := offs_le hL m.n (Nat.le_refl _)
  unfold markAt
  omega

/-- A logic that comes back, or none: rows, opposites and all. -/
def ResL (w : World) (n : Nat) (Z : Nat → Nat → Int) (y : Nat → Nat) (e : Ending) (ok : Bool) (w' : World) : Prop :=
  ∃ (ua : Option Addr) (l : Lay) (na : Option Addr) (g nc : Nat), e = .returned (.tuple #[.agg #[.slice ua n l.cap, .slice na n nc], .bool ok]) ∧ LogW w' w'.heap.size w.heap.size ua l ⟨n, fun _ => n, Z⟩ na g 0 n (fun c => (y c : Int)) ∧ Below w.heap.size w w'
def noLay : Lay := ⟨0, 0, 0, fun _ => none, fun _ => 0, fun _ => 0, fun _ => 0⟩
theorem LogW.none (w : World) (Z : Nat → Nat → Int) (z : Nat → Int) (base : Nat) : LogW w w.heap.size base Option.none noLay ⟨0, fun _ => 0, Z⟩ Option.none 0 0 0 z :=
  ⟨⟨⟨fun _ hr => absurd hr (Nat.not_lt_zero _), fun _ hr => absurd hr (Nat.not_lt_zero _)⟩, fun _ hr => absurd hr (Nat.not_lt_zero _), fun _ _ hr => absurd hr (Nat.not_lt_zero _), fun _ hr => absurd hr (Nat.not_lt_zero _)⟩, ⟨⟨fun _ hr => absurd hr (Nat.not_lt_zero _)⟩, fun _ hr => absurd hr (Nat.not_lt_zero _)⟩,
   fun _ hr => absurd hr (Nat.not_lt_zero _), fun hr => absurd hr (Nat.not_lt_zero _), fun hr => absurd hr (Nat.not_lt_zero _), fun _ hr => absurd hr (Nat.not_lt_zero _), fun hr => absurd hr (Nat.not_lt_zero _), Nat.zero_le _, fun _ hr => absurd hr (Nat.not_lt_zero _), Nat.zero_le _, Nat.le_refl _⟩
theorem LogO.logW {w : World} {base : Nat} {u t : Value} {n : Nat} {rv : Nat → Value} {Z : Nat → Nat → Int} {y : Nat → Int} (h : LogO w base u t n rv Z y) :
    ∃ (ua : Option Addr) (l : Lay) (na : Option Addr) (g nc : Nat), u = .slice ua n l.cap ∧ t = .slice na n nc ∧ LogW w w.heap.size base ua l ⟨n, fun _ => n, Z⟩ na g 0 n y := by
  have hp := h.pos
  have hh := h.hi
  have hrv : ∀ r, r < n → ∃ y : Nat × Nat, rv r = .slice (some ⟨y.1, 0, none⟩) n y.2 ∧ y.1 < w.heap.size ∧ base ≤ y.1 ∧ (∀ j, j < n → w.cell? ⟨y.1, j, none⟩ = some (.int .i64 (Z r j))) ∧ (∀ j, w.frozen? ⟨y.1, j, none⟩ = false) := fun r hr => by
    obtain ⟨g, cap, h1, h2⟩ := h.out.bigN hr hp
    have h3 := h.out.row r hr
    rw [h1] at h3
    exact ⟨(g, cap), h1, own_lt h3 g rfl, ownsRow_block h3 g rfl, h2, fun j => World.ownsRow.frozenAt h3 j⟩
  obtain ⟨f, hf⟩ := choose_lt hrv
  obtain ⟨b, cap, rfl, hc⟩ := h.out.topv hp
  obtain ⟨g, nc, rfl, hg, hlt, _⟩ := h.ints.val (by omega)
  have hsep : ∀ r, r < n → (f r).1 ≠ g := fun r hr e => h.sep r hr (by rw [(hf r hr).1, e]; rfl)
  have hbg : b ≠ g := fun e => by
    have h1 := h.out.top
    have h2 := h.ints
    rcases owns_apart h1 h2 (by decide) with h3 | h3
    · simp [Value.ownBlock] at h3
    · exact h3 (by rw [e]; rfl)
  have hbr : ∀ r, r < n → (f r).1 ≠ b := fun r hr e => by
    have h1 := h.out.row r hr
    rw [(hf r hr).1] at h1
    rcases owns_apart h1 h.out.top (by decide) with h3 | h3
    · simp [Value.ownBlock] at h3
    · exact h3 (by rw [e]; rfl)
  have hrs : ∀ r s, r < n → s < n → r ≠ s → (f r).1 ≠ (f s).1 := fun r s hr hs hne e => h.out.apart r s hr hs hne (by rw [(hf r hr).1, (hf s hs).1, e]; rfl)
  refine ⟨some ⟨b, 0, Option.none⟩, ⟨b, 0, cap, fun r => some ⟨(f r).1, 0, Option.none⟩, fun r => (f r).2, fun r => (f r).1, fun _ => 0⟩, some ⟨g, 0, Option.none⟩, g, nc, rfl, rfl, ⟨⟨⟨fun r hr => ?_, fun r hr c hc' => ?_⟩, fun r hr c hc' => ?_, fun r s hr hs hne _ _ => hrs r s hr hs hne, fun r hr _ => hbr r hr⟩,
    ⟨⟨fun c hc' => ⟨rfl, hlt, by rw [Nat.zero_add]; exact h.ints.cell hc'⟩⟩, fun c _ => World.ownsRow.frozenAt h.ints _⟩, fun r hr _ _ => hsep r hr, fun _ _ => hbg, fun _ => ownsRow_block h.out.top b rfl, fun r hr _ => (hf r hr).2.2.1, fun _ => hg, by show n ≤ _; omega, fun _ _ => by show n ≤ _; omega, by omega, Nat.le_refl _⟩⟩
  · have hr' : r < n := hr
    refine ⟨rfl, own_lt h.out.top b rfl, ?_⟩
    rw [Nat.zero_add, hc r hr', (hf r hr').1]
  · have hr' : r < n := hr
    have hc'' : c < n := hc'
    refine ⟨rfl, (hf r hr').2.1, ?_⟩
    rw [Nat.zero_add]
    exact (hf r hr').2.2.2.1 c hc''
  · have hr' : r < n := hr
    exact (hf r hr').2.2.2.2 _
theorem MadeOk.res {w : World} {N : Nat} {Z : Nat → Nat → Int} {y : Nat → Nat} {ok : Bool} {e : Ending} {w' : World} (h : MadeOk w N Z y ok e w') : ResL w (if ok = true then N else 0) Z y e ok w' := by
  obtain ⟨hb, (⟨rfl, rfl⟩ | ⟨rfl, u, t, rv, rfl, hL⟩)⟩ := h
  · exact ⟨none, noLay, none, 0, 0, rfl, LogW.none w' Z _ _, hb⟩
  · obtain ⟨ua, l, na, g, nc, rfl, rfl, hW⟩ := hL.logW
    exact ⟨ua, l, na, g, nc, rfl, hW, hb⟩
end Go.Proofs.Ytjmhhjdkemicbaa
namespace Go.Proofs.Ytjmhhjdkemicbaa
open Go.RowKit Go.Deep

theorem OutS.matW {w wr : World} {m : Mx} (h : OutS w wr m m.n) : MatW wr wr.heap.size (some ⟨w.heap.size, 0, none⟩) (freshLay w.heap.size m) m :=
  ⟨h.mat, fun r hr _ _ => (h.row r hr).frozen _, fun r s _ _ hne _ _ e => hne (by have e' : w.heap.size + 1 + r = w.heap.size + 1 + s := e; omega), fun r _ _ e => by have e' : w.heap.size + 1 + r = w.heap.size := e; omega⟩
theorem CopyS.rowW {w w' : World} {n : Nat} {z : Nat → Int} (h : CopyS w w' n n z) : RowW w' w'.heap.size (some ⟨w.heap.size, 0, none⟩) w.heap.size 0 n z :=
  ⟨h.rowAt, fun _ _ => h.row.frozen _⟩
/-- What a copy is, as one that may be marked. -/
def CopyW (w : World) (m : Mx) (k : Nat) (z : Nat → Int) (e : Ending) (w' : World) : Prop :=
  ∃ N q : Nat, e = .returned (.agg #[.slice (some ⟨N, 0, none⟩) m.n m.n, .slice (some ⟨q, 0, none⟩) k k]) ∧ LogW w' w'.heap.size w.heap.size (some ⟨N, 0, none⟩) (freshLay N m) m (some ⟨q, 0, none⟩) q 0 k z ∧ Below w.heap.size w w'
theorem copy_made {w : World} {B1 B2 N q k base : Nat} {m : Mx} {z : Nat → Int} (h : MatW w B1 (some ⟨N, 0, none⟩) (freshLay N m) m) (h' : RowW w B2 (some ⟨q, 0, none⟩) q 0 k z) (hn : m.n ≤ 1048576) (hL : ∀ r, r < m.n → m.L r ≤ 1048576) (hk : k ≤ 1048576) (h1 : B1 ≤ q) (h2 : base ≤ N) (h3 : B1 ≤ w.heap.size) (h4 : B2 ≤ w.heap.size) (h5 : base ≤ q) :
    LogW w w.heap.size base (some ⟨N, 0, none⟩) (freshLay N m) m (some ⟨q, 0, none⟩) q 0 k z :=
  ⟨⟨h.mat.more h3, h.fro, h.sep, h.top⟩, ⟨⟨fun c hc => by obtain ⟨a, b, d⟩ := h'.row.row c hc; exact ⟨a, by omega, d⟩⟩, h'.fro⟩,
   fun r hr hl _ e => by have := (h.mat.row r hr 0 hl).2.1; omega, fun hr _ e => by have := (h.mat.top 0 hr).2.1; omega, fun _ => h2, fun r _ _ => by show base ≤ N + 1 + r; omega, fun _ => h5, hn, hL, hk, Nat.le_refl _⟩

set_option maxRecDepth 100000 in
set_option maxHeartbeats 2000000 in
theorem toLogic_w {w : World} {B : Nat} {ua : Option Addr} {l : Lay} {m : Mx} {na : Option Addr} {g o k nc : Nat} {z : Nat → Int} (h : LogAt w B ua l m na g o k z) (hn : m.n ≤ 1048576) (hL : ∀ r, r < m.n → m.L r ≤ 1048576) (hk : k ≤ 1048576) :
    Calls Try.prog 24 #[.agg #[.slice ua m.n l.cap, .slice na k nc]] w (CopyW w m k z) := by
  have hbx := TwoAt.new w (.slice ua m.n l.cap) (.slice na k nc) 38
  have b1 := (Below.refl w.heap.size w).alloc (Nat.le_refl _) (.cells #[.slice ua m.n l.cap, .slice na k nc] 38)
  have hrs := TwoAt.new (w.alloc (.cells #[.slice ua m.n l.cap, .slice na k nc] 38)) (.slice none 0 0) (.slice none 0 0) 30
  have hou := TwoAt.new ((w.alloc (.cells #[.slice ua m.n l.cap, .slice na k nc] 38)).alloc (.cells #[.slice none 0 0, .slice none 0 0] 30)) (.slice none 0 0) (.slice none 0 0) 30
  rw [World.size_alloc] at hrs
  rw [World.size_alloc, World.size_alloc] at hou
  have b2 := (Below.refl (w.heap.size + 1) (w.alloc (.cells #[.slice ua m.n l.cap, .slice na k nc] 38))).alloc (by simp) (.cells #[.slice none 0 0, .slice none 0 0] 30)
  have b3 := (Below.refl (w.heap.size + 1 + 1) ((w.alloc (.cells #[.slice ua m.n l.cap, .slice na k nc] 38)).alloc (.cells #[.slice none 0 0, .slice none 0 0] 30))).alloc (by simp) (.cells #[.slice none 0 0, .slice none 0 0] 30)
  have hbx2 := (hbx.below b2 (by omega)).below b3 (by omega)
  have hrs2 := hrs.below b3 (by omega)
  have bw : Below w.heap.size w (((w.alloc (.cells #[.slice ua m.n l.cap, .slice na k nc] 38)).alloc (.cells #[.slice none 0 0, .slice none 0 0] 30)).alloc (.cells #[.slice none 0 0, .slice none 0 0] 30)) := (b1.trans (b2.mono (by omega))).trans (b3.mono (by omega))
  have hsz : (((w.alloc (.cells #[.slice ua m.n l.cap, .slice na k nc] 38)).alloc (.cells #[.slice none 0 0, .slice none 0 0] 30)).alloc (.cells #[.slice none 0 0, .slice none 0 0] 30)).heap.size ≥ w.heap.size + 3 := by simp
  have HL := Lib.hid hL
  have HH := Lib.hid h
  clear hL h hbx hrs b1 b2 b3
  go_enter Try.func24, Try.ntmps24
  generalize hW : ((w.alloc (.cells #[.slice ua m.n l.cap, .slice na k nc] 38)).alloc (.cells #[.slice none 0 0, .slice none 0 0] 30)).alloc (.cells #[.slice none 0 0, .slice none 0 0] 30) = W at hbx2 hrs2 hou bw hsz
  have k0 := hbx2.c0
  have k1 := hbx2.c1
  have k4 := hou.c0
  have k5 := hou.f0
  go_wp2_with fail
  go_at_call 45
  refine (toIntSS_any B _ _ _ _ hn HL.out (HH.out.mat.below (bw.mono HH.out.hB)) (by have := HH.out.hB; omega)).mono ?_
  rintro e w2 ⟨rfl, hS⟩
  clear hW k0 k1 k4 k5
  have hb2 := hS.old
  have hs2 := hb2.size
  have hSW := Lib.hid hS.matW
  have c23 : Chg (fun j => j = w.heap.size + 1 + 1 ∨ j = w.heap.size + 1) w2 (w2.setCell ⟨w.heap.size + 1 + 1, 0, none⟩ (.slice (some ⟨W.heap.size, 0, none⟩) m.n m.n)) := Chg.set (.inl rfl) _
  have hbx3 := (hbx2.below hb2 (by omega)).other (q := w.heap.size + 1 + 1) (i := 0) (x := .slice (some ⟨W.heap.size, 0, none⟩) m.n m.n) (by omega)
  have hrs3 := (hrs2.below hb2 (by omega)).other (q := w.heap.size + 1 + 1) (i := 0) (x := .slice (some ⟨W.heap.size, 0, none⟩) m.n m.n) (by omega)
  have hou2 := hou.below hb2 (by omega)
  have hou3 := hou2.set0 (.slice (some ⟨W.heap.size, 0, none⟩) m.n m.n)
  have hM3 := hS.mat.only (S := fun x => x = w.heap.size + 1 + 1) (fresh_from W.heap.size m) ((OnlyIn.refl (fun x => x = w.heap.size + 1 + 1) w2).set (b := w.heap.size + 1 + 1) rfl 0 (.slice (some ⟨W.heap.size, 0, none⟩) m.n m.n)) (fun j hj => by have hj' : j = w.heap.size + 1 + 1 := hj; omega)
  have bw3 := (bw.trans (hb2.mono (by omega))).setCell (p := ⟨w.heap.size + 1 + 1, 0, none⟩) (by show w.heap.size ≤ w.heap.size + 1 + 1; omega) (.slice (some ⟨W.heap.size, 0, none⟩) m.n m.n)
  have k4 := hou2.c0
  have k5 := hou2.f0
  have hsz3 : (w2.setCell ⟨w.heap.size + 1 + 1, 0, none⟩ (.slice (some ⟨W.heap.size, 0, none⟩) m.n m.n)).heap.size ≤ w2.heap.size := by simp
  have hsy3 : w2.heap.size ≤ (w2.setCell ⟨w.heap.size + 1 + 1, 0, none⟩ (.slice (some ⟨W.heap.size, 0, none⟩) m.n m.n)).heap.size := by simp
  generalize hW3 : w2.setCell ⟨w.heap.size + 1 + 1, 0, none⟩ (.slice (some ⟨W.heap.size, 0, none⟩) m.n m.n) = w3 at hbx3 hrs3 hou3 hM3 bw3 hsz3 hsy3 c23
  clear hS hbx2 hrs2 hou hou2
  have k1 := hbx3.c1
  have k2 := hou3.c1
  have k3 := hou3.f1
  go_wp2_with fail
  go_at_call 46
  refine (toIntS_any B _ _ _ _ _ _ _ hk (HH.out.row.below (bw3.mono HH.out.hB)) (by have := HH.out.hB; have := bw3.size; omega)).mono ?_
  rintro e w4 ⟨rfl, hC⟩
  clear hW3 k1 k2 k3 k4 k5
  have hb4 := hC.old
  have hs4 := hb4.size
  have hCW := Lib.hid hC.rowW
  have c34 : Chg (fun j => j = w.heap.size + 1 + 1 ∨ j = w.heap.size + 1) w3 w4 := Chg.of_below hb4 fun j h1 h2 => absurd h1 (by omega)
  have c45 : Chg (fun j => j = w.heap.size + 1 + 1 ∨ j = w.heap.size + 1) w4 (w4.setCell ⟨w.heap.size + 1 + 1, 1, none⟩ (.slice (some ⟨w3.heap.size, 0, none⟩) k k)) := Chg.set (.inl rfl) _
  have hbw3 := bw3.size
  have hrs4 := (hrs3.below hb4 (by omega)).other (q := w.heap.size + 1 + 1) (i := 1) (x := .slice (some ⟨w3.heap.size, 0, none⟩) k k) (by omega)
  have hou4 := hou3.below hb4 (by omega)
  have hou5 := hou4.set1 (.slice (some ⟨w3.heap.size, 0, none⟩) k k)
  have hM4 := (hM3.below (B := w2.heap.size) (hb4.mono (by omega))).only (S := fun x => x = w.heap.size + 1 + 1) (fresh_from W.heap.size m) ((OnlyIn.refl (fun x => x = w.heap.size + 1 + 1) w4).set (b := w.heap.size + 1 + 1) rfl 1 (.slice (some ⟨w3.heap.size, 0, none⟩) k k)) (fun j hj => by have hj' : j = w.heap.size + 1 + 1 := hj; omega)
  have hR4 := hC.rowAt.only (S := fun x => x = w.heap.size + 1 + 1) ((OnlyIn.refl (fun x => x = w.heap.size + 1 + 1) w4).set (b := w.heap.size + 1 + 1) rfl 1 (.slice (some ⟨w3.heap.size, 0, none⟩) k k)) (fun hj => by have hj' : w3.heap.size = w.heap.size + 1 + 1 := hj; omega)
  have bw5 := (bw3.trans (hb4.mono (by omega))).setCell (p := ⟨w.heap.size + 1 + 1, 1, none⟩) (by show w.heap.size ≤ w.heap.size + 1 + 1; omega) (.slice (some ⟨w3.heap.size, 0, none⟩) k k)
  have k2 := hou4.c1
  have k3 := hou4.f1
  have hsz5 : (w4.setCell ⟨w.heap.size + 1 + 1, 1, none⟩ (.slice (some ⟨w3.heap.size, 0, none⟩) k k)).heap.size ≤ w4.heap.size := by simp
  have hsy5 : w4.heap.size ≤ (w4.setCell ⟨w.heap.size + 1 + 1, 1, none⟩ (.slice (some ⟨w3.heap.size, 0, none⟩) k k)).heap.size := by simp
  generalize hW5 : w4.setCell ⟨w.heap.size + 1 + 1, 1, none⟩ (.slice (some ⟨w3.heap.size, 0, none⟩) k k) = w5 at hrs4 hou5 hM4 hR4 bw5 hsz5 hsy5 c45
  clear hbx3 hrs3 hou3 hou4 hM3
  have r0 := hou5.c0
  have r1 := hou5.c1
  have r2 := hrs4.c0
  have r3 := hrs4.c1
  have r4 := hrs4.f0
  have r5 := hrs4.f1
  go_wp2_with fail
  clear hW5
  have hfin := (hrs4.set0 (.slice (some ⟨W.heap.size, 0, none⟩) m.n m.n)).set1 (.slice (some ⟨w3.heap.size, 0, none⟩) k k)
  have t0 := hfin.c0
  have t1 := hfin.c1
  have hon := ((OnlyIn.refl (fun x => x = w.heap.size + 1) w5).set (b := w.heap.size + 1) rfl 0 (.slice (some ⟨W.heap.size, 0, none⟩) m.n m.n)).set (b := w.heap.size + 1) rfl 1 (.slice (some ⟨w3.heap.size, 0, none⟩) k k)
  have hson := hon.size
  have cF : Chg (fun j => j = w.heap.size + 1 + 1 ∨ j = w.heap.size + 1) w5 _ := (Chg.of_only hon).mono fun j hj => .inr hj
  have cA := (c23.trans c34).trans (c45.trans cF)
  have cB := c45.trans cF
  have hall := Lib.hid (copy_made (hSW.out.chg cA (Nat.le_refl _) (fun _ => by show ¬ (_ ∨ _); unfold freshLay; simp only; omega) (fun r _ _ => by show ¬ (_ ∨ _); unfold freshLay; simp only; omega)) (hCW.out.chg cB (Nat.le_refl _) (fun _ => by show ¬ (_ ∨ _); omega)) (base := w.heap.size) hn HL.out hk (by omega) (by omega) (by omega) (by omega) (by omega))
  refine bodyPost_ret (v := .agg #[.slice (some ⟨W.heap.size, 0, none⟩) m.n m.n, .slice (some ⟨w3.heap.size, 0, none⟩) k k]) (by simp [results, Try.results24, go_sem, t0, t1]) rfl
    ⟨W.heap.size, w3.heap.size, rfl, hall.out, bw5.trans (hon.below fun j hj => by have hj' : j = w.heap.size + 1 := hj; omega)⟩
end Go.Proofs.Ytjmhhjdkemicbaa
namespace Go.Proofs.Ytjmhhjdkemicbaa
open Go.RowKit Go.Deep

set_option maxHeartbeats 400000 in
theorem szIntSS_v {v0 : Int} (h00 : 0 ≤ v0) (h01 : v0 ≤ 1048576) (B : Nat) (a : Option Addr) (l : Lay) (m : Mx) (w : World) (hn : m.n ≤ 9223372036854775807) (hL : ∀ r, r < m.n → m.L r ≤ 9223372036854775807) (h1 : MatAt w B a l m) :
    Calls Try.prog 43 #[.slice a m.n l.cap, .int .i64 v0] w fun e w' => SzPost m e ∧ w = w' := by
  by_cases hbig : v0 < (m.n : Int)
  · have hb' : v0 - m.n < 0 := by omega
    go_enter Try.func43, Try.ntmps43
    go_wp2
    go_ret
    exact ⟨⟨-1, rfl, .inl (by omega)⟩, rfl⟩
  have hb' : ¬ v0 - m.n < 0 := by omega
  go_enter Try.func43, Try.ntmps43
  go_wp2
  go_loop [1, 5] (fun t i => ∃ (k : Nat) (v : Int), k ≤ m.n ∧ i = .int .i64 k ∧ t = .int .i64 v ∧ 0 ≤ v ∧ v ≤ 1048576 ∧ ∀ r, r < k → m.L r ≤ 1048576) (fun _ i => m.n - (intOf i).toNat)
  case atStart => exact ⟨0, v0 - m.n, Nat.zero_le _, rfl, rfl, by omega, by omega, fun r hr => absurd hr (Nat.not_lt_zero _)⟩
  case round =>
    obtain ⟨k, v, hk, rfl, rfl, hv0, hv1, hR⟩ := hrel
    have HR := Lib.hid hR
    clear hR
    by_cases hlt : k < m.n
    · obtain ⟨rfl, _, c1⟩ := h1.top k hlt
      have hLk := hL k hlt
      have hlt' : (k : Int) < m.n := by omega
      clear hL h1
      by_cases hv : v < m.L k
      · go_wp2_with (go_at_call 44; refine (szIntS_neg _ _ _ _ _ hLk hv0 hv1 hv).mono ?_; rintro e w1 ⟨rfl, rfl⟩)
        go_ret
        exact ⟨⟨-1, rfl, .inl (by omega)⟩, rfl⟩
      · have hv' : ¬ v - (m.L k : Int) < 0 := by omega
        go_wp2_with (go_at_call 44; refine (szIntS_pos _ _ _ _ _ hLk hv0 hv1 hv).mono ?_; rintro e w1 ⟨rfl, rfl⟩)
        go_round
        case rel => exact ⟨k + 1, v - m.L k, by omega, by go_num, rfl, by omega, by omega, fun r hr => by
          by_cases e : r = k
          · subst e; omega
          · exact HR.out r (by omega)⟩
        case measure => simp [intOf]; omega
    · have hkn' : ¬ (k : Int) < m.n := by omega
      clear hL h1
      go_wp2
      go_ret
      exact ⟨⟨v, rfl, .inr ⟨by omega, fun r hr => HR.out r (by omega), hv0, hv1⟩⟩, rfl⟩

set_option maxRecDepth 100000 in
set_option maxHeartbeats 1000000 in
theorem szLogic_v {v0 : Int} (h00 : 0 ≤ v0) (h01 : v0 ≤ 1048576) {w : World} {B : Nat} {ua : Option Addr} {l : Lay} {m : Mx} {na : Option Addr} {g o k nc : Nat} {z : Nat → Int} (h : LogAt w B ua l m na g o k z) :
    Calls Try.prog 23 #[.agg #[.slice ua m.n l.cap, .slice na k nc], .int .i64 v0] w fun e w' => SzL m k e ∧ Below w.heap.size w w' := by
  have hX := BoxN.start w #[.slice ua m.n l.cap, .slice na k nc] 38
  have h1 := Lib.hid (h.alloc (.cells #[.slice ua m.n l.cap, .slice na k nc] 38))
  have q0 := hX.cell 0 rfl
  have q1 := hX.cell 1 rfl
  have hkk := h.hk
  clear h
  go_enter Try.func23, Try.ntmps23
  go_wp2_with fail
  go_at_call 43
  refine (szIntSS_v h00 h01 _ _ _ _ _ h1.out.hn h1.out.hL h1.out.mat).mono ?_
  rintro e w1 ⟨⟨v, rfl, hv⟩, rfl⟩
  by_cases hneg : v < 0
  · go_wp2_with fail
    go_ret
    exact ⟨⟨-1, rfl, .inl (by omega)⟩, hX.below⟩
  · obtain ⟨hn, hL, hv0, hv1⟩ : m.n ≤ 1048576 ∧ (∀ r, r < m.n → m.L r ≤ 1048576) ∧ 0 ≤ v ∧ v ≤ 1048576 := hv.resolve_left hneg
    clear hv
    have HL := Lib.hid hL
    clear hL
    by_cases hs : v < (k : Int)
    · go_wp2_with fail
      go_at_call 44
      refine (szIntS_neg _ _ _ _ _ hkk hv0 hv1 hs).mono ?_
      rintro e w2 ⟨rfl, rfl⟩
      go_wp2_with fail
      go_ret
      exact ⟨⟨-1, rfl, .inl (by omega)⟩, hX.below⟩
    · have hs' : ¬ v - (k : Int) < 0 := by omega
      go_wp2_with fail
      go_at_call 44
      refine (szIntS_pos _ _ _ _ _ hkk hv0 hv1 (by omega)).mono ?_
      rintro e w2 ⟨rfl, rfl⟩
      go_wp2_with fail
      go_ret
      exact ⟨⟨_, rfl, .inr ⟨hn, HL.out, by omega, by omega, by omega⟩⟩, hX.below⟩

theorem LogAt.lift {W W' : World} {B : Nat} {ua : Option Addr} {l : Lay} {m : Mx} {na : Option Addr} {g o k : Nat} {z : Nat → Int} (h : LogAt W B ua l m na g o k z) (hb : Below W.heap.size W W') : LogAt W' W'.heap.size ua l m na g o k z :=
  have h' := h.step hb
  ⟨h'.mat.more h'.hB, ⟨fun c hc => by obtain ⟨a, b, d⟩ := h'.row.row c hc; exact ⟨a, by have := h'.hB; omega, d⟩⟩, h'.hn, h'.hL, h'.hk, Nat.le_refl _⟩
/-- A result in its box, and where it lies. -/
def ResBox (wz : World) (n : Nat) (Z : Nat → Nat → Int) (y : Nat → Nat) (p : Nat) (wx : World) : Prop :=
  ∃ (ua : Option Addr) (l : Lay) (na : Option Addr) (g nc : Nat), TwoAt wx p (.slice ua n l.cap) (.slice na n nc) ∧ LogW wx wx.heap.size wz.heap.size ua l ⟨n, fun _ => n, Z⟩ na g 0 n (fun c => (y c : Int)) ∧ Below wz.heap.size wz wx ∧ wz.heap.size ≤ p
/-- Marks do not reach far. -/
theorem markAt_lo {m : Mx} {k0 : Nat} (hn : m.n ≤ 1048576) (hL : ∀ r, r < m.n → m.L r ≤ 1048576) (_ : k0 ≤ 2199023255552) : markAt m k0 ≤ k0 + 1099511627776 := by
  have h1 := markAt_le (m := m) (k0 := 0) hn hL (by omega)
  have h2 := offs_le hL m.n (Nat.le_refl _)
  unfold markAt at h1 ⊢
  have : m.n * 1048576 ≤ 1048576 * 1048576 := Nat.mul_le_mul_right _ hn
  omega
end Go.Proofs.Ytjmhhjdkemicbaa
