import Derived.WalkKit
import Derived.Test.YtojcgmgponnlpaaZMath
import Derived.Lib.Hide
import Derived.Deep.OwnRows
import Derived.Deep.Draws
import Derived.Test.YtojcgmgponnlpaaProg
import Derived.WalkSpells
import Derived.WalkLawsBesides
import Derived.Deep.QuietTactic
import Derived.BigQuiet
namespace Go.Proofs.Ytojcgmgponnlpaa
open Go.RowKit Go.Deep

/-- Where they lie. -/
structure Lay where
  b : Nat
  o : Nat
  cap : Nat
  A : Nat → Option Addr
  C : Nat → Nat
  G : Nat → Nat
  O : Nat → Nat

/-- The slice value at `a` with so many rows reads as the numbers, all below block B. -/
structure MatAt (w : World) (B : Nat) (a : Option Addr) (l : Lay) (m : Mx) : Prop where
  top : ∀ r, r < m.n → a = some ⟨l.b, l.o, none⟩ ∧ l.b < B ∧ w.cell? ⟨l.b, l.o + r, none⟩ = some (.slice (l.A r) (m.L r) (l.C r))
  row : ∀ r, r < m.n → ∀ c, c < m.L r → l.A r = some ⟨l.G r, l.O r, none⟩ ∧ l.G r < B ∧ w.cell? ⟨l.G r, l.O r + c, none⟩ = some (.int .i64 (m.Z r c))

theorem MatAt.keep {w w' : World} {B : Nat} {a : Option Addr} {l : Lay} {m : Mx} (h : MatAt w B a l m) (hk : ∀ p : Addr, p.block < B → w'.cell? p = w.cell? p) : MatAt w' B a l m :=
  ⟨fun r hr => by obtain ⟨h1, h2, h3⟩ := h.top r hr; exact ⟨h1, h2, by rw [hk _ h2]; exact h3⟩,
   fun r hr c hc => by obtain ⟨h1, h2, h3⟩ := h.row r hr c hc; exact ⟨h1, h2, by rw [hk _ h2]; exact h3⟩⟩
theorem MatAt.below {w w' : World} {B : Nat} {a : Option Addr} {l : Lay} {m : Mx} (h : MatAt w B a l m) (hb : Below B w w') : MatAt w' B a l m :=
  h.keep fun _ hp => hb.cell hp
theorem MatAt.more {w : World} {B B' : Nat} {a : Option Addr} {l : Lay} {m : Mx} (h : MatAt w B a l m) (hB : B ≤ B') : MatAt w B' a l m :=
  ⟨fun r hr => by obtain ⟨h1, h2, h3⟩ := h.top r hr; exact ⟨h1, by omega, h3⟩,
   fun r hr c hc => by obtain ⟨h1, h2, h3⟩ := h.row r hr c hc; exact ⟨h1, by omega, h3⟩⟩
theorem MatAt.alloc {w : World} {B : Nat} {a : Option Addr} {l : Lay} {m : Mx} (h : MatAt w B a l m) (hB : B ≤ w.heap.size) (o : Obj) : MatAt (w.alloc o) B a l m :=
  h.keep fun p hp => World.cell?_alloc_lt w o p (by omega)
theorem MatAt.drewN {w : World} {B : Nat} {a : Option Addr} {l : Lay} {m : Mx} (h : MatAt w B a l m) (n : Nat) : MatAt (w.drewN n) B a l m := ⟨h.top, h.row⟩

/-- A row of numbers alone. -/
structure RowAt (w : World) (B : Nat) (a : Option Addr) (g o n : Nat) (z : Nat → Int) : Prop where
  row : ∀ c, c < n → a = some ⟨g, o, none⟩ ∧ g < B ∧ w.cell? ⟨g, o + c, none⟩ = some (.int .i64 (z c))
theorem RowAt.keep {w w' : World} {B : Nat} {a : Option Addr} {g o n : Nat} {z : Nat → Int} (h : RowAt w B a g o n z) (hk : ∀ p : Addr, p.block < B → w'.cell? p = w.cell? p) : RowAt w' B a g o n z :=
  ⟨fun c hc => by obtain ⟨h1, h2, h3⟩ := h.row c hc; exact ⟨h1, h2, by rw [hk _ h2]; exact h3⟩⟩
theorem RowAt.below {w w' : World} {B : Nat} {a : Option Addr} {g o n : Nat} {z : Nat → Int} (h : RowAt w B a g o n z) (hb : Below B w w') : RowAt w' B a g o n z :=
  h.keep fun _ hp => hb.cell hp
theorem MatAt.rowAt {w : World} {B : Nat} {a : Option Addr} {l : Lay} {m : Mx} (h : MatAt w B a l m) {r : Nat} (hr : r < m.n) : RowAt w B (l.A r) (l.G r) (l.O r) (m.L r) (m.Z r) :=
  ⟨fun c hc => h.row r hr c hc⟩
theorem MatAt.sq {w : World} {B : Nat} {a : Option Addr} {l : Lay} {m : Mx} (h : MatAt w B a l m) (hs : Square m) {r c : Nat} (hr : r < m.n) (hc : c < m.n) :
    a = some ⟨l.b, l.o, none⟩ ∧ w.cell? ⟨l.b, l.o + r, none⟩ = some (.slice (some ⟨l.G r, l.O r, none⟩) m.n (l.C r)) ∧ w.cell? ⟨l.G r, l.O r + c, none⟩ = some (.int .i64 (m.Z r c)) := by
  obtain ⟨h1, _, h3⟩ := h.top r hr
  have hl := hs.len r hr
  obtain ⟨h4, _, h5⟩ := h.row r hr c (by omega)
  exact ⟨h1, by rw [h3, h4, hl], h5⟩
/-- Square rows of noughts and ones, at most twelve, in memory. -/
structure SqAt (w : World) (B : Nat) (a : Option Addr) (l : Lay) (m : Mx) : Prop where
  mat : MatAt w B a l m
  sq : Square m
  hi : m.n ≤ 12
  hB : B ≤ w.heap.size
theorem SqAt.step {w w' : World} {B : Nat} {a : Option Addr} {l : Lay} {m : Mx} (h : SqAt w B a l m) (hb : Below w.heap.size w w') : SqAt w' B a l m :=
  ⟨h.mat.below (hb.mono h.hB), h.sq, h.hi, Nat.le_trans h.hB hb.size⟩
theorem SqAt.alloc {w : World} {B : Nat} {a : Option Addr} {l : Lay} {m : Mx} (h : SqAt w B a l m) (o : Obj) : SqAt (w.alloc o) B a l m :=
  h.step ((Below.refl _ _).alloc (Nat.le_refl _) _)
/-- A value was boxed in world w, in a block of its own; since then the call has only made memory, so the box holds what it held. -/
structure Boxd (w : World) (v : Value) (t : TypeId) (wr : World) : Prop where
  since : Below (w.heap.size + 1) (w.alloc (.cells #[v] t)) wr
theorem Boxd.start (w : World) (v : Value) (t : TypeId) : Boxd w v t (w.alloc (.cells #[v] t)) := ⟨Below.refl _ _⟩
theorem Boxd.size {w wr : World} {v : Value} {t : TypeId} (h : Boxd w v t wr) : w.heap.size + 1 ≤ wr.heap.size := by
  have := h.since.size
  rwa [World.size_alloc] at this
theorem Boxd.step {w wr w1 : World} {v : Value} {t : TypeId} (h : Boxd w v t wr) (k : Below wr.heap.size wr w1) : Boxd w v t w1 := ⟨h.since.trans (k.mono h.size)⟩
theorem Boxd.cell {w wr : World} {v : Value} {t : TypeId} (h : Boxd w v t wr) : wr.cell? ⟨w.heap.size, 0, none⟩ = some v :=
  (h.since.cell (p := ⟨w.heap.size, 0, none⟩) (Nat.lt_succ_self _)).trans (by simp)
theorem Boxd.frozen {w wr : World} {v : Value} {t : TypeId} (h : Boxd w v t wr) : wr.frozen? ⟨w.heap.size, 0, none⟩ = false :=
  (h.since.frozen (p := ⟨w.heap.size, 0, none⟩) (Nat.lt_succ_self _)).trans (by simp)
theorem Boxd.below {w wr : World} {v : Value} {t : TypeId} (h : Boxd w v t wr) : Below w.heap.size w wr :=
  ((Below.refl _ w).alloc (Nat.le_refl _) _).trans (h.since.mono (Nat.le_succ _))
theorem Below.drewN' {B : Nat} {a w : World} (h : Below B a w) (n : Nat) : Below B a (w.drewN n) := ⟨h.os, h.tape, h.output, h.size, h.block⟩
/-- The world has at most drawn. -/
def Drew (w w' : World) : Prop := ∃ d, w' = w.drewN d
theorem Drew.refl (w : World) : Drew w w := ⟨0, rfl⟩
theorem Drew.drewN {w w' : World} (h : Drew w w') (n : Nat) : Drew w (w'.drewN n) := by
  obtain ⟨d, rfl⟩ := h
  exact ⟨d + n, World.drewN_drewN _ _ _⟩
theorem Drew.below {w w' : World} (hw : Drew w w') (B : Nat) : Below B w w' := by
  obtain ⟨d, rfl⟩ := hw
  exact Below.drewN' (Below.refl _ _) d
theorem quiet_drew {P : Program} {f : FuncId} {args : Array Value} {w : World} {n : Nat} {v : Value}
    (h : Calls P f args (w.drewN n) fun e w' => e = .returned v ∧ Drew (w.drewN n) w') : Calls P f args (w.drewN n) fun e w'' => e = .returned v ∧ ∃ m, w'' = w.drewN m :=
  h.mono fun _ _ ⟨he, m, hm⟩ => ⟨he, n + m, by rw [hm, World.drewN_drewN]⟩
theorem ret_bool {a b : Bool} (h : a = b) : Ending.returned (.bool a) = .returned (.bool b) := by rw [h]
theorem ret_int {k : IntKind} {a b : Int} (h : a = b) : Ending.returned (.int k a) = .returned (.int k b) := by rw [h]
end Go.Proofs.Ytojcgmgponnlpaa
namespace Go.Proofs.Ytojcgmgponnlpaa
open Go.RowKit Go.Deep

set_option maxHeartbeats 400000 in
theorem l1In_any (n lo hi : Int) (w : World) :
    Calls Try.prog 56 #[.int .i64 n, .int .i64 lo, .int .i64 hi] w fun e w' => e = .returned (.bool (decide (lo ≤ n) && decide (n ≤ hi))) ∧ w = w' := by
  by_cases h1 : lo ≤ n
  · by_cases h2 : n ≤ hi
    · go_enter Try.func56, Try.ntmps56
      go_wp2
      go_ret
      exact ⟨ret_bool (by symm; simp <;> omega), rfl⟩
    · go_enter Try.func56, Try.ntmps56
      go_wp2
      go_ret
      exact ⟨ret_bool (by symm; simp <;> omega), rfl⟩
  · go_enter Try.func56, Try.ntmps56
    go_wp2
    go_ret
    exact ⟨ret_bool (by symm; simp <;> omega), rfl⟩

set_option maxHeartbeats 400000 in
theorem below_any (l : Lay) (m : Mx) (a b : Nat) (B : Nat) (sa : Option Addr) (w : World) (hM : MatAt w B sa l m) (ha : a < m.n) (hb : b < m.L a) (_ha' : a < 9223372036854775807) (_hb' : b < 9223372036854775807) (hB : B ≤ w.heap.size):
    Calls Try.prog 61 #[.agg #[.slice sa m.n l.cap], .int .i64 a, .int .i64 b] w fun e w' => e = .returned (.bool (m.Z a b == 1)) ∧ Below w.heap.size w w' := by
  obtain ⟨rfl, hb0, hc0⟩ := hM.top a ha
  obtain ⟨hA, hb1, hc1⟩ := hM.row a ha b hb
  rw [hA] at hc0
  have hc0' : ∀ o, (w.alloc o).cell? ⟨l.b, l.o + a, none⟩ = some (.slice (some ⟨l.G a, l.O a, none⟩) (m.L a) (l.C a)) := fun o => by rw [World.cell?_alloc_lt w o _ (by show l.b < _; omega)]; exact hc0
  have hc1' : ∀ o, (w.alloc o).cell? ⟨l.G a, l.O a + b, none⟩ = some (.int .i64 (m.Z a b)) := fun o => by rw [World.cell?_alloc_lt w o _ (by show l.G a < _; omega)]; exact hc1
  clear hc0 hc1 hA hM
  go_enter Try.func61, Try.ntmps61
  go_wp2
  go_ret
  exact ⟨rfl, (Below.refl _ _).alloc (Nat.le_refl _) _⟩
end Go.Proofs.Ytojcgmgponnlpaa
namespace Go.Proofs.Ytojcgmgponnlpaa
open Go.RowKit Go.Deep

theorem infoInt : (Try.prog.info? 3).map (fun i => (i.zero, i.size, i.bytes)) = some (some (.int .i64 0), 1, 8) := by kernel_rfl
theorem infoInts : (Try.prog.info? 24).map (fun i => (i.zero, i.size, i.bytes)) = some (some (.slice none 0 0), 1, 24) := by kernel_rfl

end Go.Proofs.Ytojcgmgponnlpaa
namespace Go.Proofs.Ytojcgmgponnlpaa
open Go.RowKit Go.Deep

set_option maxRecDepth 100000 in
set_option maxHeartbeats 2000000 in
theorem spec_OrderOk (B : Nat) (a : Option Addr) (l : Lay) (m : Mx) (w : World) (hn : m.n ≤ 9223372036854775807) (hL : ∀ r, r < m.n → m.L r ≤ 9223372036854775807) (h1 : MatAt w B a l m) :
    Calls Try.prog 93 #[.slice a m.n l.cap] w fun e w' => e = .returned (.bool (orderB m)) ∧ w = w' := by
  by_cases hr : 1 ≤ m.n ∧ m.n ≤ 12
  · obtain ⟨hlo, hhi⟩ := hr
    have hd : (decide ((1 : Int) ≤ (m.n : Int)) && decide ((m.n : Int) ≤ 12)) = true := by simp; omega
    have HD := Lib.hid hd
    clear hd
    go_enter Try.func93, Try.ntmps93
    go_wp2_with (go_at_call 56; refine (l1In_any _ _ _ _).mono ?_; rintro e w1 ⟨rfl, rfl⟩; rw [HD.out])
    clear HD
    go_loop [4] (fun i => ∃ k : Nat, k ≤ m.n ∧ i = .int .i64 k ∧ (∀ r, r < k → m.L r = m.n ∧ ∀ c, c < m.n → m.Z r c = 0 ∨ m.Z r c = 1)) (fun i => m.n - (intOf i).toNat)
    case atStart => exact ⟨0, Nat.zero_le _, rfl, fun r hr => absurd hr (Nat.not_lt_zero _)⟩
    case round =>
      obtain ⟨k, hk, rfl, hR0⟩ := hrel
      have hR := Lib.hid hR0
      clear hR0
      by_cases hlt : k < m.n
      · have hlt' : (k : Int) < m.n := by omega
        obtain ⟨rfl, _, c1⟩ := h1.top k hlt
        have q1 := Lib.hid h1
        have HL := Lib.hid hL
        clear h1 hL
        by_cases hlen : m.L k = m.n
        · rw [hlen] at c1
          have HE := Lib.hid hlen
          clear hlen
          go_wp2
          go_loop [5] (fun i => ∃ j : Nat, j ≤ m.n ∧ i = .int .i64 j ∧ (∀ c, c < j → m.Z k c = 0 ∨ m.Z k c = 1)) (fun i => m.n - (intOf i).toNat)
          case atStart => exact ⟨0, Nat.zero_le _, rfl, fun r hr => absurd hr (Nat.not_lt_zero _)⟩
          case round =>
            obtain ⟨j, hj, rfl, hC0⟩ := hrel
            have hC := Lib.hid hC0
            clear hC0
            by_cases hjt : j < m.n
            · have hjt' : (j : Int) < m.n := by omega
              obtain ⟨hA, _, c2⟩ := q1.out.row k hlt j (by rw [HE.out]; exact hjt)
              rw [hA] at c1
              clear hA
              by_cases hbit : m.Z k j = 0 ∨ m.Z k j = 1
              · have HD : Hid ((decide ((0 : Int) ≤ m.Z k j) && decide (m.Z k j ≤ 1)) = true) := by show _ = _; simp; omega
                have HB := Lib.hid hbit
                clear hbit
                go_wp2_with (go_at_call 56; refine (l1In_any _ _ _ _).mono ?_; rintro e w1 ⟨rfl, rfl⟩; rw [HD.out])
                go_round
                case rel => exact ⟨j + 1, by omega, by go_num, fun c hc => by
                  by_cases e : c = j
                  · subst e; exact HB.out
                  · exact hC.out c (by omega)⟩
                case measure => simp [intOf]; omega
              · have HD : Hid ((decide ((0 : Int) ≤ m.Z k j) && decide (m.Z k j ≤ 1)) = false) := by show _ = _; rw [Bool.and_eq_false_iff]; simp; omega
                have HB := Lib.hid hbit
                clear hbit
                go_wp2_with (go_at_call 56; refine (l1In_any _ _ _ _).mono ?_; rintro e w1 ⟨rfl, rfl⟩; rw [HD.out])
                go_ret
                exact ⟨ret_bool (orderB_false fun h => HB.out (h.sq.bit k hlt j hjt)).symm, rfl⟩
            · have hjt' : ¬ (j : Int) < m.n := by omega
              go_wp2
              go_round
              case rel => exact ⟨k + 1, by omega, by go_num, fun r hr => by
                by_cases e : r = k
                · subst e; exact ⟨HE.out, fun c hc => hC.out c (by omega)⟩
                · exact hR.out r (by omega)⟩
              case measure => simp [intOf]; omega
        · have hlen' : ¬ ((m.L k : Int) = m.n) := by omega
          have HE := Lib.hid hlen
          clear hlen
          go_wp2
          go_ret
          exact ⟨ret_bool (orderB_false fun h => HE.out (h.sq.len k hlt)).symm, rfl⟩
      · have hlt' : ¬ (k : Int) < m.n := by omega
        have hSq : Hid (Square m) := ⟨fun r hr => (hR.out r (by omega)).1, fun r hr => (hR.out r (by omega)).2⟩
        have q1 := Lib.hid h1
        clear h1 hL hR
        go_wp2
        go_loop [6] (fun i => ∃ k : Nat, k ≤ m.n ∧ i = .int .i64 k ∧ (∀ a, a < k → ∀ b, b < m.n → PairOk m a b)) (fun i => m.n - (intOf i).toNat)
        case atStart => exact ⟨0, Nat.zero_le _, rfl, fun r hr => absurd hr (Nat.not_lt_zero _)⟩
        case round =>
          obtain ⟨k, hk, rfl, hR0⟩ := hrel
          have hR := Lib.hid hR0
          clear hR0
          by_cases hlt : k < m.n
          · have hlt' : (k : Int) < m.n := by omega
            go_wp2
            go_loop [7] (fun i => ∃ j : Nat, j ≤ m.n ∧ i = .int .i64 j ∧ (∀ b, b < j → PairOk m k b)) (fun i => m.n - (intOf i).toNat)
            case atStart => exact ⟨0, Nat.zero_le _, rfl, fun r hr => absurd hr (Nat.not_lt_zero _)⟩
            case round =>
              obtain ⟨j, hj, rfl, hC0⟩ := hrel
              have hC := Lib.hid hC0
              clear hC0
              by_cases hjt : j < m.n
              · have hjt' : (j : Int) < m.n := by omega
                by_cases hbad : (k = j ∧ m.Z k j = 0) ∨ (k ≠ j ∧ m.Z k j = 1 ∧ m.Z j k = 1)
                · rcases hbad with ⟨rfl, hz⟩ | ⟨hne, hz, hz'⟩
                  · obtain ⟨rfl, t1, t2⟩ := q1.out.sq hSq.out hlt hjt
                    rw [hz] at t2
                    have HZ := Lib.hid hz
                    clear hz
                    go_wp2
                    go_ret
                    exact ⟨ret_bool (orderB_false fun h => by have := h.refl k hlt; have := HZ.out; omega).symm, rfl⟩
                  · obtain ⟨rfl, t1, t2⟩ := q1.out.sq hSq.out hlt hjt
                    obtain ⟨_, t3, t4⟩ := q1.out.sq hSq.out hjt hlt
                    rw [hz] at t2
                    rw [hz'] at t4
                    have HZ : Hid (m.Z k j = 1 ∧ m.Z j k = 1 ∧ k ≠ j) := ⟨hz, hz', hne⟩
                    have e1 : ((k : Int) == (j : Int)) = false := by simp; omega
                    have e2 : ((k : Int) != (j : Int)) = true := by simp; omega
                    clear hz hz' hne
                    go_wp2
                    go_ret
                    exact ⟨ret_bool (orderB_false fun h => by have := h.anti k j hlt hjt HZ.out.2.2 HZ.out.1; have := HZ.out.2.1; omega).symm, rfl⟩
                · have hP : Hid ((k = j → m.Z k j = 1) ∧ (k ≠ j → m.Z k j = 1 → m.Z j k = 0)) := by
                    have b1 := hSq.out.bit k hlt j hjt
                    have b2 := hSq.out.bit j hjt k hlt
                    exact ⟨fun e => by
                      rcases b1 with h | h
                      · exact absurd (Or.inl ⟨e, h⟩) hbad
                      · exact h, fun e h => by
                      rcases b2 with h' | h'
                      · exact h'
                      · exact absurd (Or.inr ⟨e, h, h'⟩) hbad⟩
                  clear hbad
                  obtain ⟨rfl, t1, t2⟩ := q1.out.sq hSq.out hlt hjt
                  obtain ⟨_, t3, t4⟩ := q1.out.sq hSq.out hjt hlt
                  have hways : (k = j ∧ m.Z k j = 1) ∨ (k ≠ j ∧ m.Z k j = 0) ∨ (k ≠ j ∧ m.Z k j = 1 ∧ m.Z j k = 0) := by
                    have b1 := hSq.out.bit k hlt j hjt
                    have p1 := hP.out.1
                    have p2 := hP.out.2
                    by_cases e : k = j
                    · exact .inl ⟨e, p1 e⟩
                    · rcases b1 with h | h
                      · exact .inr (.inl ⟨e, h⟩)
                      · exact .inr (.inr ⟨e, h, p2 e h⟩)
                  rcases hways with ⟨hz0, hz⟩ | ⟨hz0, hz⟩ | ⟨hz0, hz, hz'⟩
                  case inl =>
                    subst hz0
                    have HZ := Lib.hid hz
                    rw [hz] at t2
                    clear hz hP t4
                    go_wp2
                    clear t1 t2 t3
                    go_loop [8] (fun i => ∃ c : Nat, c ≤ m.n ∧ i = .int .i64 c) (fun i => m.n - (intOf i).toNat)
                    case atStart => exact ⟨0, Nat.zero_le _, rfl⟩
                    case round =>
                      obtain ⟨c, hc, rfl⟩ := hrel
                      by_cases hct : c < m.n
                      · have hct' : (c : Int) < m.n := by omega
                        obtain ⟨_, t1, t2⟩ := q1.out.sq hSq.out hlt hlt
                        obtain ⟨_, t3, t5⟩ := q1.out.sq hSq.out hlt hct
                        rw [HZ.out] at t2
                        rcases hSq.out.bit k hlt c hct with hz' | hz'
                        · rw [hz'] at t5
                          clear hz'
                          go_wp2
                          go_round
                          case rel => exact ⟨c + 1, by omega, by go_num⟩
                          case measure => simp [intOf]; omega
                        · rw [hz'] at t5
                          clear hz'
                          go_wp2
                          go_round
                          case rel => exact ⟨c + 1, by omega, by go_num⟩
                          case measure => simp [intOf]; omega
                      · have hct' : ¬ (c : Int) < m.n := by omega
                        go_wp2
                        go_round
                        case rel => exact ⟨k + 1, by omega, by go_num, fun b hb => by
                          by_cases e : b = k
                          · subst e; exact ⟨fun _ => HZ.out, fun e => absurd rfl e, fun x hx _ h => h⟩
                          · exact hC.out b (by omega)⟩
                        case measure => simp [intOf]; omega
                  case' inr.inl =>
                    have e1 : ((k : Int) == (j : Int)) = false := by simp; omega
                    have e2 : ((k : Int) != (j : Int)) = true := by simp; omega
                    rw [hz] at t2
                    clear hz hz0
                    go_wp2
                  case' inr.inr =>
                    have e1 : ((k : Int) == (j : Int)) = false := by simp; omega
                    have e2 : ((k : Int) != (j : Int)) = true := by simp; omega
                    rw [hz] at t2
                    rw [hz'] at t4
                    clear hz hz0 hz'
                    go_wp2
                  all_goals
                    clear t1 t2 t3 t4 e1
                    try clear e2
                    go_loop [8] (fun i => ∃ c : Nat, c ≤ m.n ∧ i = .int .i64 c ∧ (∀ x, x < c → m.Z k j = 1 → m.Z j x = 1 → m.Z k x = 1)) (fun i => m.n - (intOf i).toNat)
                    case atStart => exact ⟨0, Nat.zero_le _, rfl, fun r hr => absurd hr (Nat.not_lt_zero _)⟩
                    case round =>
                      obtain ⟨c, hc, rfl, hT0⟩ := hrel
                      have hT := Lib.hid hT0
                      clear hT0
                      by_cases hct : c < m.n
                      · have hct' : (c : Int) < m.n := by omega
                        obtain ⟨_, t1, t2⟩ := q1.out.sq hSq.out hlt hjt
                        obtain ⟨_, t3, t4⟩ := q1.out.sq hSq.out hjt hct
                        obtain ⟨_, _, t5⟩ := q1.out.sq hSq.out hlt hct
                        have hw2 : (m.Z k j = 0) ∨ (m.Z k j = 1 ∧ m.Z j c = 0) ∨ (m.Z k j = 1 ∧ m.Z j c = 1 ∧ m.Z k c = 1) ∨ (m.Z k j = 1 ∧ m.Z j c = 1 ∧ m.Z k c = 0) := by
                          have b1 := hSq.out.bit k hlt j hjt
                          have b2 := hSq.out.bit j hjt c hct
                          have b3 := hSq.out.bit k hlt c hct
                          omega
                        rcases hw2 with hz | ⟨hz, hz'⟩ | ⟨hz, hz', hz''⟩ | ⟨hz, hz', hz''⟩
                        · have HZ := Lib.hid hz
                          rw [hz] at t2
                          clear hz
                          go_wp2
                          go_round
                          case rel => exact ⟨c + 1, by omega, by go_num, fun x hx => by
                            by_cases e : x = c
                            · subst e; intro h; have := HZ.out; omega
                            · exact hT.out x (by omega)⟩
                          case measure => simp [intOf]; omega
                        · have HZ := Lib.hid hz'
                          rw [hz] at t2
                          rw [hz'] at t4
                          clear hz hz'
                          go_wp2
                          go_round
                          case rel => exact ⟨c + 1, by omega, by go_num, fun x hx => by
                            by_cases e : x = c
                            · subst e; intro _ h; have := HZ.out; omega
                            · exact hT.out x (by omega)⟩
                          case measure => simp [intOf]; omega
                        · have HZ := Lib.hid hz''
                          rw [hz] at t2
                          rw [hz'] at t4
                          rw [hz''] at t5
                          clear hz hz' hz''
                          go_wp2
                          go_round
                          case rel => exact ⟨c + 1, by omega, by go_num, fun x hx => by
                            by_cases e : x = c
                            · subst e; intro _ _; exact HZ.out
                            · exact hT.out x (by omega)⟩
                          case measure => simp [intOf]; omega
                        · have HZ : Hid (m.Z k j = 1 ∧ m.Z j c = 1 ∧ m.Z k c = 0) := ⟨hz, hz', hz''⟩
                          rw [hz] at t2
                          rw [hz'] at t4
                          rw [hz''] at t5
                          clear hz hz' hz''
                          go_wp2
                          go_ret
                          exact ⟨ret_bool (orderB_false fun h => by have := h.trans k j c hlt hjt hct HZ.out.1 HZ.out.2.1; have := HZ.out.2.2; omega).symm, rfl⟩
                      · have hct' : ¬ (c : Int) < m.n := by omega
                        go_wp2
                        go_round
                        case rel => exact ⟨j + 1, by omega, by go_num, fun b hb => by
                          by_cases e : b = j
                          · subst e; exact ⟨hP.out.1, hP.out.2, fun x hx => hT.out x (by omega)⟩
                          · exact hC.out b (by omega)⟩
                        case measure => simp [intOf]; omega
              · have hjt' : ¬ (j : Int) < m.n := by omega
                go_wp2
                go_round
                case rel => exact ⟨k + 1, by omega, by go_num, fun a ha => by
                  by_cases e : a = k
                  · subst e; exact fun b hb => hC.out b (by omega)
                  · exact hR.out a (by omega)⟩
                case measure => simp [intOf]; omega
          · have hlt' : ¬ (k : Int) < m.n := by omega
            go_wp2
            go_ret
            exact ⟨ret_bool (orderB_true (isOrder_of hlo hhi hSq.out fun a ha => hR.out a (by omega))).symm, rfl⟩
  · have hd : (decide ((1 : Int) ≤ (m.n : Int)) && decide ((m.n : Int) ≤ 12)) = false := by
      rw [Bool.and_eq_false_iff]; simp; omega
    have HD := Lib.hid hd
    clear hd
    go_enter Try.func93, Try.ntmps93
    go_wp2_with (go_at_call 56; refine (l1In_any _ _ _ _).mono ?_; rintro e w1 ⟨rfl, rfl⟩; rw [HD.out])
    go_ret
    exact ⟨ret_bool (orderB_false fun h => hr ⟨h.pos, h.top⟩).symm, rfl⟩
end Go.Proofs.Ytojcgmgponnlpaa
