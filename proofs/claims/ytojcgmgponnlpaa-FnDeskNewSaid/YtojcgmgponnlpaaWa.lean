/- What it means that a slice of slices of numbers lies in memory, and that this stays so while a call only makes memory of its own. The walks of the small functions that only read. The walks of the laws' helpers: how large an argument is, its copy, whether two are equal. -/
import Derived.WalkKit
import Derived.Test.YtojcgmgponnlpaaMath
import Derived.Lib.Hide
import Derived.Deep.OwnRows
import Derived.Deep.Draws
import Derived.Test.YtojcgmgponnlpaaProg
import Derived.WalkSpells
import Derived.WalkLawsBesides
import Derived.Deep.QuietTactic
import Derived.BigQuiet
namespace Go.Proofs.Ytojcgmgponnlpaa
open Go.RowKit Go.Deep

/-- Where they lie. -/
structure Lay where
  b : Nat
  o : Nat
  cap : Nat
  A : Nat → Option Addr
  C : Nat → Nat
  G : Nat → Nat
  O : Nat → Nat

/-- The slice value at `a` with so many rows reads as the numbers, all below block B. -/
structure MatAt (w : World) (B : Nat) (a : Option Addr) (l : Lay) (m : Mx) : Prop where
  top : ∀ r, r < m.n → a = some ⟨l.b, l.o, none⟩ ∧ l.b < B ∧ w.cell? ⟨l.b, l.o + r, none⟩ = some (.slice (l.A r) (m.L r) (l.C r))
  row : ∀ r, r < m.n → ∀ c, c < m.L r → l.A r = some ⟨l.G r, l.O r, none⟩ ∧ l.G r < B ∧ w.cell? ⟨l.G r, l.O r + c, none⟩ = some (.int .i64 (m.Z r c))

theorem MatAt.keep {w w' : World} {B : Nat} {a : Option Addr} {l : Lay} {m : Mx} (h : MatAt w B a l m) (hk : ∀ p : Addr, p.block < B → w'.cell? p = w.cell? p) : MatAt w' B a l m :=
  ⟨fun r hr => by obtain ⟨h1, h2, h3⟩ := h.top r hr; exact ⟨h1, h2, by rw [hk _ h2]; exact h3⟩,
   fun r hr c hc => by obtain ⟨h1, h2, h3⟩ := h.row r hr c hc; exact ⟨h1, h2, by rw [hk _ h2]; exact h3⟩⟩
theorem MatAt.below {w w' : World} {B : Nat} {a : Option Addr} {l : Lay} {m : Mx} (h : MatAt w B a l m) (hb : Below B w w') : MatAt w' B a l m :=
  h.keep fun _ hp => hb.cell hp
theorem MatAt.more {w : World} {B B' : Nat} {a : Option Addr} {l : Lay} {m : Mx} (h : MatAt w B a l m) (hB : B ≤ B') : MatAt w B' a l m :=
  ⟨fun r hr => by obtain ⟨h1, h2, h3⟩ := h.top r hr; exact ⟨h1, by omega, h3⟩,
   fun r hr c hc => by obtain ⟨h1, h2, h3⟩ := h.row r hr c hc; exact ⟨h1, by omega, h3⟩⟩
theorem MatAt.alloc {w : World} {B : Nat} {a : Option Addr} {l : Lay} {m : Mx} (h : MatAt w B a l m) (hB : B ≤ w.heap.size) (o : Obj) : MatAt (w.alloc o) B a l m :=
  h.keep fun p hp => World.cell?_alloc_lt w o p (by omega)
theorem MatAt.drew {w : World} {B : Nat} {a : Option Addr} {l : Lay} {m : Mx} (h : MatAt w B a l m) : MatAt w.drew B a l m := ⟨h.top, h.row⟩
theorem MatAt.drewN {w : World} {B : Nat} {a : Option Addr} {l : Lay} {m : Mx} (h : MatAt w B a l m) (n : Nat) : MatAt (w.drewN n) B a l m := ⟨h.top, h.row⟩

/-- A row of numbers alone. -/
structure RowAt (w : World) (B : Nat) (a : Option Addr) (g o n : Nat) (z : Nat → Int) : Prop where
  row : ∀ c, c < n → a = some ⟨g, o, none⟩ ∧ g < B ∧ w.cell? ⟨g, o + c, none⟩ = some (.int .i64 (z c))
theorem RowAt.keep {w w' : World} {B : Nat} {a : Option Addr} {g o n : Nat} {z : Nat → Int} (h : RowAt w B a g o n z) (hk : ∀ p : Addr, p.block < B → w'.cell? p = w.cell? p) : RowAt w' B a g o n z :=
  ⟨fun c hc => by obtain ⟨h1, h2, h3⟩ := h.row c hc; exact ⟨h1, h2, by rw [hk _ h2]; exact h3⟩⟩
theorem RowAt.below {w w' : World} {B : Nat} {a : Option Addr} {g o n : Nat} {z : Nat → Int} (h : RowAt w B a g o n z) (hb : Below B w w') : RowAt w' B a g o n z :=
  h.keep fun _ hp => hb.cell hp
theorem MatAt.rowAt {w : World} {B : Nat} {a : Option Addr} {l : Lay} {m : Mx} (h : MatAt w B a l m) {r : Nat} (hr : r < m.n) : RowAt w B (l.A r) (l.G r) (l.O r) (m.L r) (m.Z r) :=
  ⟨fun c hc => h.row r hr c hc⟩
theorem MatAt.sq {w : World} {B : Nat} {a : Option Addr} {l : Lay} {m : Mx} (h : MatAt w B a l m) (hs : Square m) {r c : Nat} (hr : r < m.n) (hc : c < m.n) :
    a = some ⟨l.b, l.o, none⟩ ∧ w.cell? ⟨l.b, l.o + r, none⟩ = some (.slice (some ⟨l.G r, l.O r, none⟩) m.n (l.C r)) ∧ w.cell? ⟨l.G r, l.O r + c, none⟩ = some (.int .i64 (m.Z r c)) := by
  obtain ⟨h1, _, h3⟩ := h.top r hr
  have hl := hs.len r hr
  obtain ⟨h4, _, h5⟩ := h.row r hr c (by omega)
  exact ⟨h1, by rw [h3, h4, hl], h5⟩
/-- Square rows of noughts and ones, at most twelve, in memory. -/
structure SqAt (w : World) (B : Nat) (a : Option Addr) (l : Lay) (m : Mx) : Prop where
  mat : MatAt w B a l m
  sq : Square m
  hi : m.n ≤ 12
  hB : B ≤ w.heap.size
theorem SqAt.step {w w' : World} {B : Nat} {a : Option Addr} {l : Lay} {m : Mx} (h : SqAt w B a l m) (hb : Below w.heap.size w w') : SqAt w' B a l m :=
  ⟨h.mat.below (hb.mono h.hB), h.sq, h.hi, Nat.le_trans h.hB hb.size⟩
theorem SqAt.stepB {w w' : World} {B B' : Nat} {a : Option Addr} {l : Lay} {m : Mx} (h : SqAt w B a l m) (hb : Below B' w w') (hB : B ≤ B') : SqAt w' B a l m :=
  ⟨h.mat.below (hb.mono hB), h.sq, h.hi, Nat.le_trans h.hB hb.size⟩
theorem SqAt.alloc {w : World} {B : Nat} {a : Option Addr} {l : Lay} {m : Mx} (h : SqAt w B a l m) (o : Obj) : SqAt (w.alloc o) B a l m :=
  h.step ((Below.refl _ _).alloc (Nat.le_refl _) _)
/-- A value was boxed in world w, in a block of its own; since then the call has only made memory, so the box holds what it held. -/
structure Boxd (w : World) (v : Value) (t : TypeId) (wr : World) : Prop where
  since : Below (w.heap.size + 1) (w.alloc (.cells #[v] t)) wr
theorem Boxd.start (w : World) (v : Value) (t : TypeId) : Boxd w v t (w.alloc (.cells #[v] t)) := ⟨Below.refl _ _⟩
theorem Boxd.size {w wr : World} {v : Value} {t : TypeId} (h : Boxd w v t wr) : w.heap.size + 1 ≤ wr.heap.size := by
  have := h.since.size
  rwa [World.size_alloc] at this
theorem Boxd.step {w wr w1 : World} {v : Value} {t : TypeId} (h : Boxd w v t wr) (k : Below wr.heap.size wr w1) : Boxd w v t w1 := ⟨h.since.trans (k.mono h.size)⟩
theorem Boxd.cell {w wr : World} {v : Value} {t : TypeId} (h : Boxd w v t wr) : wr.cell? ⟨w.heap.size, 0, none⟩ = some v :=
  (h.since.cell (p := ⟨w.heap.size, 0, none⟩) (Nat.lt_succ_self _)).trans (by simp)
theorem Boxd.frozen {w wr : World} {v : Value} {t : TypeId} (h : Boxd w v t wr) : wr.frozen? ⟨w.heap.size, 0, none⟩ = false :=
  (h.since.frozen (p := ⟨w.heap.size, 0, none⟩) (Nat.lt_succ_self _)).trans (by simp)
theorem Boxd.below {w wr : World} {v : Value} {t : TypeId} (h : Boxd w v t wr) : Below w.heap.size w wr :=
  ((Below.refl _ w).alloc (Nat.le_refl _) _).trans (h.since.mono (Nat.le_succ _))
theorem Below.drewN' {B : Nat} {a w : World} (h : Below B a w) (n : Nat) : Below B a (w.drewN n) := ⟨h.os, h.tape, h.output, h.size, h.block⟩
theorem RowAt.drewN {w : World} {B : Nat} {a : Option Addr} {g o n : Nat} {z : Nat → Int} (h : RowAt w B a g o n z) (k : Nat) : RowAt (w.drewN k) B a g o n z := ⟨h.row⟩
/-- The world has at most drawn. -/
def Drew (w w' : World) : Prop := ∃ d, w' = w.drewN d
theorem Drew.refl (w : World) : Drew w w := ⟨0, rfl⟩
theorem Drew.drewN {w w' : World} (h : Drew w w') (n : Nat) : Drew w (w'.drewN n) := by
  obtain ⟨d, rfl⟩ := h
  exact ⟨d + n, World.drewN_drewN _ _ _⟩
theorem Drew.trans {w w' w'' : World} (h : Drew w w') (k : Drew w' w'') : Drew w w'' := by
  obtain ⟨d, rfl⟩ := k
  exact h.drewN d
theorem Drew.row {w w' : World} (hw : Drew w w') {B : Nat} {a : Option Addr} {g o n : Nat} {z : Nat → Int} (h : RowAt w B a g o n z) : RowAt w' B a g o n z := by
  obtain ⟨d, rfl⟩ := hw
  exact h.drewN d
theorem Drew.mat {w w' : World} (hw : Drew w w') {B : Nat} {a : Option Addr} {l : Lay} {m : Mx} (h : MatAt w B a l m) : MatAt w' B a l m := by
  obtain ⟨d, rfl⟩ := hw
  exact h.drewN d
theorem Drew.below {w w' : World} (hw : Drew w w') (B : Nat) : Below B w w' := by
  obtain ⟨d, rfl⟩ := hw
  exact Below.drewN' (Below.refl _ _) d
theorem quiet_drew {P : Program} {f : FuncId} {args : Array Value} {w : World} {n : Nat} {v : Value}
    (h : Calls P f args (w.drewN n) fun e w' => e = .returned v ∧ Drew (w.drewN n) w') : Calls P f args (w.drewN n) fun e w'' => e = .returned v ∧ ∃ m, w'' = w.drewN m :=
  h.mono fun _ _ ⟨he, m, hm⟩ => ⟨he, n + m, by rw [hm, World.drewN_drewN]⟩
theorem ret_bool {a b : Bool} (h : a = b) : Ending.returned (.bool a) = .returned (.bool b) := by rw [h]
theorem ret_int {k : IntKind} {a b : Int} (h : a = b) : Ending.returned (.int k a) = .returned (.int k b) := by rw [h]
end Go.Proofs.Ytojcgmgponnlpaa
namespace Go.Proofs.Ytojcgmgponnlpaa
open Go.RowKit Go.Deep

set_option maxHeartbeats 400000 in
theorem l1In_any (n lo hi : Int) (w : World) :
    Calls Try.prog 56 #[.int .i64 n, .int .i64 lo, .int .i64 hi] w fun e w' => e = .returned (.bool (decide (lo ≤ n) && decide (n ≤ hi))) ∧ w = w' := by
  by_cases h1 : lo ≤ n
  · by_cases h2 : n ≤ hi
    · go_enter Try.func56, Try.ntmps56
      go_wp2
      go_ret
      exact ⟨ret_bool (by symm; simp <;> omega), rfl⟩
    · go_enter Try.func56, Try.ntmps56
      go_wp2
      go_ret
      exact ⟨ret_bool (by symm; simp <;> omega), rfl⟩
  · go_enter Try.func56, Try.ntmps56
    go_wp2
    go_ret
    exact ⟨ret_bool (by symm; simp <;> omega), rfl⟩

set_option maxHeartbeats 400000 in
theorem szIntS_neg (a : Option Addr) (n cap : Nat) (left : Int) (w : World) (hn : n ≤ 9223372036854775807) (h0 : 0 ≤ left) (h1 : left ≤ 1048576) (h : left < n) :
    Calls Try.prog 71 #[.slice a n cap, .int .i64 left] w fun e w' => e = .returned (.int .i64 (-1)) ∧ w = w' := by
  go_enter Try.func71, Try.ntmps71
  go_wp2
  go_ret
  exact ⟨rfl, rfl⟩

set_option maxHeartbeats 400000 in
theorem szIntS_pos (a : Option Addr) (n cap : Nat) (left : Int) (w : World) (hn : n ≤ 9223372036854775807) (h0 : 0 ≤ left) (h1 : left ≤ 1048576) (h : ¬ left < n) :
    Calls Try.prog 71 #[.slice a n cap, .int .i64 left] w fun e w' => e = .returned (.int .i64 (left - n)) ∧ w = w' := by
  go_enter Try.func71, Try.ntmps71
  go_wp2
  go_ret
  exact ⟨rfl, rfl⟩

set_option maxHeartbeats 400000 in
theorem below_any (l : Lay) (m : Mx) (a b : Nat) (B : Nat) (sa : Option Addr) (w : World) (hM : MatAt w B sa l m) (ha : a < m.n) (hb : b < m.L a) (_ha' : a < 9223372036854775807) (_hb' : b < 9223372036854775807) (hB : B ≤ w.heap.size):
    Calls Try.prog 61 #[.agg #[.slice sa m.n l.cap], .int .i64 a, .int .i64 b] w fun e w' => e = .returned (.bool (m.Z a b == 1)) ∧ Below w.heap.size w w' := by
  obtain ⟨rfl, hb0, hc0⟩ := hM.top a ha
  obtain ⟨hA, hb1, hc1⟩ := hM.row a ha b hb
  rw [hA] at hc0
  have hc0' : ∀ o, (w.alloc o).cell? ⟨l.b, l.o + a, none⟩ = some (.slice (some ⟨l.G a, l.O a, none⟩) (m.L a) (l.C a)) := fun o => by rw [World.cell?_alloc_lt w o _ (by show l.b < _; omega)]; exact hc0
  have hc1' : ∀ o, (w.alloc o).cell? ⟨l.G a, l.O a + b, none⟩ = some (.int .i64 (m.Z a b)) := fun o => by rw [World.cell?_alloc_lt w o _ (by show l.G a < _; omega)]; exact hc1
  clear hc0 hc1 hA hM
  go_enter Try.func61, Try.ntmps61
  go_wp2
  go_ret
  exact ⟨rfl, (Below.refl _ _).alloc (Nat.le_refl _) _⟩
end Go.Proofs.Ytojcgmgponnlpaa
namespace Go.Proofs.Ytojcgmgponnlpaa
open Go.RowKit Go.Deep

theorem infoInt : (Try.prog.info? 3).map (fun i => (i.zero, i.size, i.bytes)) = some (some (.int .i64 0), 1, 8) := by kernel_rfl
theorem infoInts : (Try.prog.info? 24).map (fun i => (i.zero, i.size, i.bytes)) = some (some (.slice none 0 0), 1, 24) := by kernel_rfl

set_option maxHeartbeats 400000 in
theorem eqIntS_same (B : Nat) (a a' : Option Addr) (g g' o o' n cap cap' : Nat) (z : Nat → Int) (w : World) (hn : n ≤ 9223372036854775807)
    (h1 : RowAt w B a g o n z) (h2 : RowAt w B a' g' o' n z) :
    Calls Try.prog 75 #[.slice a n cap, .slice a' n cap'] w fun e w' => e = .returned (.bool true) ∧ Drew w w' := by
  go_enter Try.func75, Try.ntmps75
  go_wp2
  go_loopw [5] (fun i wr => ∃ k : Nat, k ≤ n ∧ i = .int .i64 k ∧ Drew w wr) (fun i _ => n - (intOf i).toNat)
  case atStart => exact ⟨0, Nat.zero_le _, rfl, Drew.refl _⟩
  case round =>
    obtain ⟨k, hk, rfl, hW⟩ := hrel
    by_cases hlt : k < n
    · have r1 := (hW.row h1).row k hlt
      have r2 := (hW.row h2).row k hlt
      obtain ⟨rfl, _, c1⟩ := r1
      obtain ⟨rfl, _, c2⟩ := r2
      have hlt' : (k : Int) < n := by omega
      go_wp2
      go_quiet (fail)
      go_wp2
      go_roundw
      case rel => exact ⟨k + 1, by omega, by go_num, hW.drewN _⟩
      case measure => simp [intOf]; omega
    · obtain rfl : n = k := by omega
      go_wp2
      go_ret
      exact ⟨rfl, hW⟩

set_option maxHeartbeats 400000 in
theorem eqIntSS_same (B : Nat) (a a' : Option Addr) (l l' : Lay) (m : Mx) (w : World) (hn : m.n ≤ 9223372036854775807) (hL : ∀ r, r < m.n → m.L r ≤ 9223372036854775807)
    (h1 : MatAt w B a l m) (h2 : MatAt w B a' l' m) :
    Calls Try.prog 74 #[.slice a m.n l.cap, .slice a' m.n l'.cap] w fun e w' => e = .returned (.bool true) ∧ Drew w w' := by
  go_enter Try.func74, Try.ntmps74
  go_wp2
  go_loopw [5] (fun i wr => ∃ k : Nat, k ≤ m.n ∧ i = .int .i64 k ∧ Drew w wr) (fun i _ => m.n - (intOf i).toNat)
  case atStart => exact ⟨0, Nat.zero_le _, rfl, Drew.refl _⟩
  case round =>
    obtain ⟨k, hk, rfl, hW⟩ := hrel
    by_cases hlt : k < m.n
    · have m1 := hW.mat h1
      have m2 := hW.mat h2
      obtain ⟨rfl, _, c1⟩ := m1.top k hlt
      obtain ⟨rfl, _, c2⟩ := m2.top k hlt
      have q1 := m1.rowAt hlt
      have q2 := m2.rowAt hlt
      have hlt' : (k : Int) < m.n := by omega
      have hLk := hL k hlt
      clear m1 m2 hL h1 h2
      go_wp2
      go_quiet ((go_at_call 75; exact quiet_drew (eqIntS_same B _ _ _ _ _ _ _ _ _ _ _ hLk (q1.drewN _) (q2.drewN _))))
      go_wp2
      go_roundw
      case rel => exact ⟨k + 1, by omega, by go_num, hW.drewN _⟩
      case measure => simp [intOf]; omega
    · have hkn' : ¬ (k : Int) < m.n := by omega
      clear hL h1 h2
      go_wp2
      go_ret
      exact ⟨rfl, hW⟩

/-- The copy of a row, k of its cells filled. -/
structure CopyS (w wr : World) (n k : Nat) (z : Nat → Int) : Prop where
  old : Below w.heap.size w wr
  size : wr.heap.size = w.heap.size + 1
  row : wr.rowIs w.heap.size 3 n (fun i => if i < k then .int .i64 (z i) else .int .i64 0)

set_option maxHeartbeats 400000 in
theorem toIntS_any (B : Nat) (a : Option Addr) (g o n cap : Nat) (z : Nat → Int) (w : World) (hn : n ≤ 1048576) (h1 : RowAt w B a g o n z) (hB : B ≤ w.heap.size) :
    Calls Try.prog 73 #[.slice a n cap] w fun e w' => e = .returned (.slice (some ⟨w.heap.size, 0, none⟩) n n) ∧ CopyS w w' n n z := by
  have hmk := run_make_row' (P := Try.prog) 24 3 (.int .i64 0) 8 Try.underlying24 infoInt rfl .i64 .i64 n (by omega) (by omega)
  go_enter Try.func73, Try.ntmps73
  go_wp2
  clear hmk
  go_loopw [4] (fun i wr => ∃ k : Nat, k ≤ n ∧ i = .int .i64 k ∧ CopyS w wr n k z) (fun i _ => n - (intOf i).toNat)
  case atStart => exact ⟨0, Nat.zero_le _, rfl, (Below.refl _ _).alloc (Nat.le_refl _) _, by simp, (World.rowIs_made w _ n 3).congr (fun i _ => by simp)⟩
  case round =>
    obtain ⟨k, hk, rfl, hC⟩ := hrel
    by_cases hlt : k < n
    · obtain ⟨rfl, _, c1⟩ := (h1.below (hC.old.mono hB)).row k hlt
      have g4 : wr.cell? ⟨w.heap.size, k, none⟩ = some (.int .i64 0) := by simpa using hC.row.cell hlt
      have g5 : wr.frozen? ⟨w.heap.size, k, none⟩ = false := hC.row.frozen k
      have hlt' : (k : Int) < n := by omega
      go_wp2
      go_roundw
      case rel =>
        refine ⟨k + 1, by omega, by go_num, hC.old.setCell (Nat.le_refl _) _, by simp [hC.size], (hC.row.set k _).congr (fun i _ => ?_)⟩
        by_cases e : i = k
        · subst e; simp
        · rw [if_neg e]
          by_cases hi : i < k
          · rw [if_pos hi, if_pos (by omega)]
          · rw [if_neg hi, if_neg (by omega)]
      case measure => simp [intOf]; omega
    · obtain rfl : n = k := by omega
      clear h1
      go_wp2
      go_ret
      exact ⟨rfl, hC⟩
/-- The copy of rows, k of them made: the outer block, then one block a row. -/
structure OutS (w wr : World) (m : Mx) (k : Nat) : Prop where
  old : Below w.heap.size w wr
  size : wr.heap.size = w.heap.size + 1 + k
  top : wr.rowIs w.heap.size 24 m.n (fun r => if r < k then .slice (some ⟨w.heap.size + 1 + r, 0, none⟩) (m.L r) (m.L r) else .slice none 0 0)
  row : ∀ r, r < k → wr.rowIs (w.heap.size + 1 + r) 3 (m.L r) (fun c => .int .i64 (m.Z r c))

/-- Where a copy lies. -/
def freshLay (N : Nat) (m : Mx) : Lay := ⟨N, 0, m.n, fun r => some ⟨N + 1 + r, 0, none⟩, m.L, fun r => N + 1 + r, fun _ => 0⟩

theorem OutS.mat {w wr : World} {m : Mx} (h : OutS w wr m m.n) : MatAt wr wr.heap.size (some ⟨w.heap.size, 0, none⟩) (freshLay w.heap.size m) m :=
  ⟨fun r hr => ⟨rfl, by have := h.size; show w.heap.size < _; omega, by
      have := h.top.cell hr
      rw [if_pos hr] at this
      simpa [freshLay] using this⟩,
   fun r hr c hc => ⟨rfl, by have := h.size; show w.heap.size + 1 + r < _; omega, by simpa [freshLay] using (h.row r hr).cell hc⟩⟩

theorem OutS.step {w wr w1 : World} {m : Mx} {k : Nat} (h : OutS w wr m k) (hC : CopyS wr w1 (m.L k) (m.L k) (m.Z k)) (hk : k < m.n) :
    OutS w (w1.setCell ⟨w.heap.size, k, none⟩ (.slice (some ⟨wr.heap.size, 0, none⟩) (m.L k) (m.L k))) m (k + 1) := by
  have hs := h.size
  have hN : w.heap.size < wr.heap.size := by omega
  have htop : w1.rowIs w.heap.size 24 m.n (fun r => if r < k then .slice (some ⟨w.heap.size + 1 + r, 0, none⟩) (m.L r) (m.L r) else .slice none 0 0) := h.top.of_block (hC.old.block _ hN)
  refine ⟨(h.old.trans (hC.old.mono (by omega))).setCell (Nat.le_refl _) _, by simp [hC.size, hs]; omega, (htop.set k _).congr (fun r _ => ?_), fun r hr => ?_⟩
  · by_cases e : r = k
    · subst e; rw [if_pos rfl, if_pos (by omega), hs]
    · rw [if_neg e]
      by_cases hi : r < k
      · rw [if_pos hi, if_pos (by omega)]
      · rw [if_neg hi, if_neg (by omega)]
  · by_cases e : r = k
    · subst e
      have := hC.row
      rw [hs] at this
      exact (this.setOther (by show w.heap.size + 1 + r ≠ w.heap.size; omega) _).congr (fun c hc => by rw [if_pos hc])
    · exact ((h.row r (by omega)).of_block (hC.old.block _ (by omega))).setOther (by show w.heap.size + 1 + r ≠ w.heap.size; omega) _

set_option maxHeartbeats 400000 in
theorem toIntSS_any (B : Nat) (a : Option Addr) (l : Lay) (m : Mx) (w : World) (hn : m.n ≤ 1048576) (hL : ∀ r, r < m.n → m.L r ≤ 1048576) (h1 : MatAt w B a l m) (hB : B ≤ w.heap.size) :
    Calls Try.prog 72 #[.slice a m.n l.cap] w fun e w' => e = .returned (.slice (some ⟨w.heap.size, 0, none⟩) m.n m.n) ∧ OutS w w' m m.n := by
  have hmk := run_make_row' (P := Try.prog) 23 24 (.slice none 0 0) 24 Try.underlying23 infoInts rfl .i64 .i64 m.n (by omega) (by omega)
  go_enter Try.func72, Try.ntmps72
  go_wp2
  clear hmk
  go_loopw [4] (fun i wr => ∃ k : Nat, k ≤ m.n ∧ i = .int .i64 k ∧ OutS w wr m k) (fun i _ => m.n - (intOf i).toNat)
  case atStart => exact ⟨0, Nat.zero_le _, rfl, (Below.refl _ _).alloc (Nat.le_refl _) _, by simp, (World.rowIs_made w _ m.n 24).congr (fun i _ => by simp), fun r hr => absurd hr (Nat.not_lt_zero _)⟩
  case round =>
    obtain ⟨k, hk, rfl, hC⟩ := hrel
    by_cases hlt : k < m.n
    · have m1 := h1.below (hC.old.mono hB)
      obtain ⟨rfl, _, c1⟩ := m1.top k hlt
      have q1 := m1.rowAt hlt
      have hLk := hL k hlt
      have hlt' : (k : Int) < m.n := by omega
      have hN : w.heap.size < wr.heap.size := by have := hC.size; omega
      have hB' : B ≤ wr.heap.size := by omega
      clear m1 hL h1
      go_wp2_with (go_at_call 73; refine (toIntS_any B _ _ _ _ _ _ _ hLk q1 hB').mono ?_; rintro e w1 ⟨rfl, hS⟩; have g4 : w1.cell? ⟨w.heap.size, k, none⟩ = some (.slice none 0 0) := (hS.old.cell (p := ⟨w.heap.size, k, none⟩) hN).trans (by simpa using hC.top.cell hlt); have g5 : w1.frozen? ⟨w.heap.size, k, none⟩ = false := (hS.old.frozen (p := ⟨w.heap.size, k, none⟩) hN).trans (hC.top.frozen k))
      go_roundw
      case rel => exact ⟨k + 1, by omega, by go_num, hC.step hS hlt⟩
      case measure => simp [intOf]; omega
    · obtain hkn : k = m.n := by omega
      have hkn' : ¬ (k : Int) < m.n := by omega
      have HK : Hid (k = m.n) := hkn
      clear hkn hL h1
      go_wp2
      go_ret
      exact ⟨rfl, by rw [← HK.out]; exact hC⟩

/-- What the size's reckoning leaves: it is too large, or all lengths are within the bound. -/
def SzPost (m : Mx) (e : Ending) : Prop := ∃ v : Int, e = .returned (.int .i64 v) ∧ (v < 0 ∨ (m.n ≤ 1048576 ∧ (∀ r, r < m.n → m.L r ≤ 1048576) ∧ 0 ≤ v ∧ v ≤ 1048576))

set_option maxHeartbeats 400000 in
theorem szIntSS_any (B : Nat) (a : Option Addr) (l : Lay) (m : Mx) (w : World) (hn : m.n ≤ 9223372036854775807) (hL : ∀ r, r < m.n → m.L r ≤ 9223372036854775807) (h1 : MatAt w B a l m) :
    Calls Try.prog 70 #[.slice a m.n l.cap, .int .i64 1048576] w fun e w' => SzPost m e ∧ w = w' := by
  by_cases hbig : 1048576 < m.n
  · have hb' : (1048576 : Int) - m.n < 0 := by omega
    go_enter Try.func70, Try.ntmps70
    go_wp2
    go_ret
    exact ⟨⟨-1, rfl, .inl (by omega)⟩, rfl⟩
  have hb' : ¬ (1048576 : Int) - m.n < 0 := by omega
  go_enter Try.func70, Try.ntmps70
  go_wp2
  go_loop [1, 5] (fun t i => ∃ (k : Nat) (v : Int), k ≤ m.n ∧ i = .int .i64 k ∧ t = .int .i64 v ∧ 0 ≤ v ∧ v ≤ 1048576 ∧ ∀ r, r < k → m.L r ≤ 1048576) (fun _ i => m.n - (intOf i).toNat)
  case atStart => exact ⟨0, (1048576 : Int) - m.n, Nat.zero_le _, rfl, rfl, by omega, by omega, fun r hr => absurd hr (Nat.not_lt_zero _)⟩
  case round =>
    obtain ⟨k, v, hk, rfl, rfl, hv0, hv1, hR⟩ := hrel
    have HR := Lib.hid hR
    clear hR
    by_cases hlt : k < m.n
    · obtain ⟨rfl, _, c1⟩ := h1.top k hlt
      have hLk := hL k hlt
      have hlt' : (k : Int) < m.n := by omega
      clear hL h1
      by_cases hv : v < m.L k
      · go_wp2_with (go_at_call 71; refine (szIntS_neg _ _ _ _ _ hLk hv0 hv1 hv).mono ?_; rintro e w1 ⟨rfl, rfl⟩)
        go_ret
        exact ⟨⟨-1, rfl, .inl (by omega)⟩, rfl⟩
      · have hv' : ¬ v - (m.L k : Int) < 0 := by omega
        go_wp2_with (go_at_call 71; refine (szIntS_pos _ _ _ _ _ hLk hv0 hv1 hv).mono ?_; rintro e w1 ⟨rfl, rfl⟩)
        go_round
        case rel => exact ⟨k + 1, v - m.L k, by omega, by go_num, rfl, by omega, by omega, fun r hr => by
          by_cases e : r = k
          · subst e; omega
          · exact HR.out r (by omega)⟩
        case measure => simp [intOf]; omega
    · have hkn' : ¬ (k : Int) < m.n := by omega
      clear hL h1
      go_wp2
      go_ret
      exact ⟨⟨v, rfl, .inr ⟨by omega, fun r hr => HR.out r (by omega), hv0, hv1⟩⟩, rfl⟩
end Go.Proofs.Ytojcgmgponnlpaa
