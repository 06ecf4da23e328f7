/- The walks of the laws' marks on logics: numbers written into all rows and opposites that may be written, and found there again. -/
import Derived.Test.YtgjacinolenheaaWu
import Derived.Test.YtgjacinolenheaaOf
namespace Go.Proofs.Ytgjacinolenheaa
open Go.RowKit Go.Deep

/-- A row of numbers that may be written. -/
structure RowW (w : World) (B : Nat) (a : Option Addr) (g o n : Nat) (z : Nat → Int) : Prop where
  row : RowAt w B a g o n z
  fro : ∀ c, c < n → w.frozen? ⟨g, o + c, none⟩ = false
theorem RowW.only {S : Nat → Prop} {w w' : World} {B : Nat} {a : Option Addr} {g o n : Nat} {z : Nat → Int} (h : RowW w B a g o n z) (ho : OnlyIn S w w') (hS : 0 < n → ¬ S g) : RowW w' B a g o n z :=
  ⟨⟨fun c hc => by
    obtain ⟨h1, h2, h3⟩ := h.row.row c hc
    exact ⟨h1, h2, (World.cell?_of_block (w := w) (ho.block g (hS (by omega)))).trans h3⟩⟩, fun c hc => (World.frozen?_of_block (w := w) (a := ⟨g, o + c, none⟩) (ho.block g (hS (by omega)))).trans (h.fro c hc)⟩
theorem RowW.set {w : World} {B : Nat} {a : Option Addr} {g o n : Nat} {z : Nat → Int} (h : RowW w B a g o n z) {k : Nat} (x : Int) (_ : k < n) : RowW (w.setCell ⟨g, o + k, none⟩ (.int .i64 x)) B a g o n (fun c => if c = k then x else z c) :=
  ⟨⟨fun c hc => by
    obtain ⟨h1, h2, h3⟩ := h.row.row c hc
    refine ⟨h1, h2, ?_⟩
    by_cases e : c = k
    · subst e
      rw [if_pos rfl]
      exact World.cell?_setCell_same _ _ _ h3
    · rw [if_neg e, World.cell?_setCell_other _ _ _ _ (fun e2 => by injection e2 with _ e3; omega)]
      exact h3⟩, fun c hc => by rw [World.frozen?_setCell]; exact h.fro c hc⟩
theorem RowAt.congr {w : World} {B : Nat} {a : Option Addr} {g o n : Nat} {z z' : Nat → Int} (h : RowAt w B a g o n z) (e : ∀ c, c < n → z c = z' c) : RowAt w B a g o n z' :=
  ⟨fun c hc => by obtain ⟨h1, h2, h3⟩ := h.row c hc; exact ⟨h1, h2, by rw [← e c hc]; exact h3⟩⟩
theorem RowW.congr {w : World} {B : Nat} {a : Option Addr} {g o n : Nat} {z z' : Nat → Int} (h : RowW w B a g o n z) (e : ∀ c, c < n → z c = z' c) : RowW w B a g o n z' := ⟨h.row.congr e, h.fro⟩

set_option maxHeartbeats 400000 in
theorem markIntS_w {B : Nat} {a : Option Addr} {g o n cap : Nat} {z : Nat → Int} {k0 : Int} {w : World} (hn : n ≤ 1048576) (h0 : 0 ≤ k0) (h1 : k0 ≤ 4398046511104) (h : RowW w B a g o n z) :
    Calls Try.prog 45 #[.slice a n cap, .int .i64 k0] w fun e w' => e = .returned (.int .i64 (k0 + n)) ∧ OnlyIn (fun j => 0 < n ∧ j = g) w w' ∧ RowW w' B a g o n (fun i => k0 + i) := by
  go_enter Try.func45, Try.ntmps45
  go_wp2
  go_loopw [1, 5] (fun t i wr => ∃ k : Nat, k ≤ n ∧ i = .int .i64 k ∧ t = .int .i64 (k0 + k) ∧ OnlyIn (fun j => 0 < n ∧ j = g) w wr ∧ RowW wr B a g o n (fun i => if i < k then k0 + i else z i)) (fun _ i _ => n - (intOf i).toNat)
  case atStart => exact ⟨0, Nat.zero_le _, rfl, by simp, OnlyIn.refl _ _, h.congr (fun i _ => by simp)⟩
  case round =>
    obtain ⟨k, hk, rfl, rfl, hO, hR⟩ := hrel
    by_cases hlt : k < n
    · obtain ⟨rfl, _, g4⟩ := hR.row.row k hlt
      have g5 := hR.fro k hlt
      have hlt' : (k : Int) < n := by omega
      have HR := Lib.hid hR
      have HO := Lib.hid hO
      clear hR hO h
      go_wp2
      go_roundw
      case rel =>
        refine ⟨k + 1, by omega, by go_num, by congr 1; omega, HO.out.set ⟨by omega, rfl⟩ _ _, (HR.out.set _ hlt).congr (fun i _ => ?_)⟩
        by_cases e : i = k
        · subst e; simp
        · rw [if_neg e]
          by_cases hi : i < k
          · rw [if_pos hi, if_pos (by omega)]
          · rw [if_neg hi, if_neg (by omega)]
      case measure => simp [intOf]; omega
    · have hlt' : ¬ (k : Int) < n := by omega
      have hkn : n = k := by omega
      have HK : Hid (n = k) := hkn
      clear hkn
      go_wp2
      go_ret
      exact ⟨ret_int (by have := HK.out; omega), hO, hR.congr (fun i hi => by rw [if_pos (by have := HK.out; omega)])⟩

set_option maxHeartbeats 400000 in
theorem heldIntS_any {B : Nat} {a : Option Addr} {g o n cap : Nat} {k0 : Int} {w : World} (hn : n ≤ 1048576) (h0 : 0 ≤ k0) (h1 : k0 ≤ 4398046511104) (h : RowAt w B a g o n (fun i => k0 + i)) :
    Calls Try.prog 74 #[.slice a n cap, .int .i64 k0] w fun e w' => e = .returned (.int .i64 (k0 + n)) ∧ w = w' := by
  go_enter Try.func74, Try.ntmps74
  go_wp2
  go_loop [1, 5] (fun t i => ∃ k : Nat, k ≤ n ∧ i = .int .i64 k ∧ t = .int .i64 (k0 + k)) (fun _ i => n - (intOf i).toNat)
  case atStart => exact ⟨0, Nat.zero_le _, rfl, by simp⟩
  case round =>
    obtain ⟨k, hk, rfl, rfl⟩ := hrel
    by_cases hlt : k < n
    · obtain ⟨rfl, _, c1⟩ := h.row k hlt
      have hlt' : (k : Int) < n := by omega
      go_wp2
      go_round
      case rel => exact ⟨k + 1, by omega, by go_num, by congr 1; omega⟩
      case measure => simp [intOf]; omega
    · have hlt' : ¬ (k : Int) < n := by omega
      have hkn : n = k := by omega
      have HK : Hid (n = k) := hkn
      clear hkn
      go_wp2
      go_ret
      exact ⟨ret_int (by have := HK.out; omega), rfl⟩

/-- Rows of numbers that may be written, each apart from the others and from the list of the rows. -/
structure MatW (w : World) (B : Nat) (a : Option Addr) (l : Lay) (m : Mx) : Prop where
  mat : MatAt w B a l m
  fro : ∀ r, r < m.n → ∀ c, c < m.L r → w.frozen? ⟨l.G r, l.O r + c, none⟩ = false
  sep : ∀ r s, r < m.n → s < m.n → r ≠ s → 0 < m.L r → 0 < m.L s → l.G r ≠ l.G s
  top : ∀ r, r < m.n → 0 < m.L r → l.G r ≠ l.b
theorem MatW.rowW {w : World} {B : Nat} {a : Option Addr} {l : Lay} {m : Mx} (h : MatW w B a l m) {r : Nat} (hr : r < m.n) : RowW w B (l.A r) (l.G r) (l.O r) (m.L r) (m.Z r) := ⟨h.mat.rowAt hr, h.fro r hr⟩
def marksOf (k0 : Nat) (m : Mx) : Mx := ⟨m.n, m.L, fun r c => ((k0 + offs m.L r + c : Nat) : Int)⟩
/-- The first k rows hold marks. -/
def marksTo (k0 k : Nat) (m : Mx) : Mx := ⟨m.n, m.L, fun r c => if r < k then ((k0 + offs m.L r + c : Nat) : Int) else m.Z r c⟩
/-- The blocks that hold rows. -/
def rowsS (l : Lay) (m : Mx) (j : Nat) : Prop := ∃ r, r < m.n ∧ 0 < m.L r ∧ j = l.G r
theorem MatW.congr {w : World} {B : Nat} {a : Option Addr} {l : Lay} {m : Mx} {Z : Nat → Nat → Int} (h : MatW w B a l m) (e : ∀ r, r < m.n → ∀ c, c < m.L r → m.Z r c = Z r c) : MatW w B a l ⟨m.n, m.L, Z⟩ :=
  ⟨⟨h.mat.top, fun r hr c hc => by show _ ∧ _ ∧ _ = some (Value.int .i64 (Z r c)); rw [← e r hr c hc]; exact h.mat.row r hr c hc⟩, h.fro, h.sep, h.top⟩
theorem MatW.only {S : Nat → Prop} {w w' : World} {B : Nat} {a : Option Addr} {l : Lay} {m : Mx} (h : MatW w B a l m) (ho : OnlyIn S w w') (hb : 0 < m.n → ¬ S l.b) (hG : ∀ r, r < m.n → 0 < m.L r → ¬ S (l.G r)) : MatW w' B a l m :=
  ⟨⟨fun r hr => by obtain ⟨h1, h2, h3⟩ := h.mat.top r hr; exact ⟨h1, h2, (World.cell?_of_block (w := w) (ho.block l.b (hb (by omega)))).trans h3⟩,
    fun r hr c hc => by obtain ⟨h1, h2, h3⟩ := h.mat.row r hr c hc; exact ⟨h1, h2, (World.cell?_of_block (w := w) (ho.block _ (hG r hr (by omega)))).trans h3⟩⟩,
   fun r hr c hc => (World.frozen?_of_block (w := w) (a := ⟨l.G r, l.O r + c, none⟩) (ho.block _ (hG r hr (by omega)))).trans (h.fro r hr c hc), h.sep, h.top⟩
/-- One row more is marked. -/
theorem MatW.mark {w w' : World} {B : Nat} {a : Option Addr} {l : Lay} {m : Mx} {k0 k : Nat} (h : MatW w B a l (marksTo k0 k m)) (hk : k < m.n) (ho : OnlyIn (fun j => 0 < m.L k ∧ j = l.G k) w w') (hr : RowW w' B (l.A k) (l.G k) (l.O k) (m.L k) (fun i => ((k0 + offs m.L k : Nat) : Int) + i)) : MatW w' B a l (marksTo k0 (k + 1) m) := by
  refine ⟨⟨fun r hr' => ?_, fun r hr' c hc => ?_⟩, fun r hr' c hc => ?_, h.sep, h.top⟩
  · obtain ⟨h1, h2, h3⟩ := h.mat.top r hr'
    exact ⟨h1, h2, (World.cell?_of_block (w := w) (ho.block l.b (fun e => h.top k hk e.1 e.2.symm))).trans h3⟩
  · have hc' : c < m.L r := hc
    by_cases e : r = k
    · subst e
      obtain ⟨h1, h2, h3⟩ := hr.row.row c hc'
      refine ⟨h1, h2, h3.trans ?_⟩
      show _ = some (Value.int .i64 (if r < r + 1 then ((k0 + offs m.L r + c : Nat) : Int) else m.Z r c))
      rw [if_pos (Nat.lt_succ_self r)]
      congr 1
    · obtain ⟨h1, h2, h3⟩ := h.mat.row r hr' c hc
      refine ⟨h1, h2, ((World.cell?_of_block (w := w) (ho.block (l.G r) (fun e2 => h.sep r k hr' hk e (by show 0 < m.L r; omega) e2.1 e2.2))).trans h3).trans ?_⟩
      show some (Value.int .i64 (if r < k then ((k0 + offs m.L r + c : Nat) : Int) else m.Z r c)) = some (Value.int .i64 (if r < k + 1 then ((k0 + offs m.L r + c : Nat) : Int) else m.Z r c))
      by_cases h4 : r < k
      · rw [if_pos h4, if_pos (by omega)]
      · rw [if_neg h4, if_neg (by omega)]
  · have hc' : c < m.L r := hc
    by_cases e : r = k
    · subst e
      exact hr.fro c hc'
    · exact (World.frozen?_of_block (w := w) (a := ⟨l.G r, l.O r + c, none⟩) (ho.block (l.G r) (fun e2 => h.sep r k hr' hk e (by show 0 < m.L r; omega) e2.1 e2.2))).trans (h.fro r hr' c hc)

set_option maxHeartbeats 400000 in
theorem markIntSS_w {B k0 : Nat} {a : Option Addr} {l : Lay} {m : Mx} {w : World} (hn : m.n ≤ 1048576) (hL : ∀ r, r < m.n → m.L r ≤ 1048576) (h0 : k0 ≤ 2199023255552) (h : MatW w B a l m) :
    Calls Try.prog 72 #[.slice a m.n l.cap, .int .i64 (k0 : Int)] w fun e w' => e = .returned (.int .i64 ((k0 + offs m.L m.n : Nat) : Int)) ∧ OnlyIn (rowsS l m) w w' ∧ MatW w' B a l (marksOf k0 m) := by
  go_enter Try.func72, Try.ntmps72
  go_wp2
  go_loopw [1, 5] (fun t i wr => ∃ k : Nat, k ≤ m.n ∧ i = .int .i64 k ∧ t = .int .i64 ((k0 + offs m.L k : Nat) : Int) ∧ OnlyIn (rowsS l m) w wr ∧ MatW wr B a l (marksTo k0 k m)) (fun _ i _ => m.n - (intOf i).toNat)
  case atStart => exact ⟨0, Nat.zero_le _, rfl, rfl, OnlyIn.refl _ _, h.congr (fun r _ c _ => by simp)⟩
  case round =>
    obtain ⟨k, hk, rfl, rfl, hO, hR⟩ := hrel
    by_cases hlt : k < m.n
    · obtain ⟨rfl, _, g4⟩ := hR.mat.top k hlt
      have hlt' : (k : Int) < m.n := by omega
      have hLk := hL k hlt
      have hoff := offs_le hL k (by omega)
      have hrow := Lib.hid (hR.rowW hlt)
      have HLL := Lib.hid hL
      have HR := Lib.hid hR
      have HO := Lib.hid hO
      have hL' : (marksTo k0 k m).L k = m.L k := rfl
      rw [hL'] at g4
      clear h hL hR hO hL'
      go_wp2_with fail
      go_at_call 45
      refine (markIntS_w hLk (by omega) (by omega) hrow.out).mono ?_
      rintro e w1 ⟨rfl, hO1, hR1⟩
      have hR2 := HR.out.mark hlt hO1 hR1
      have hO2 := HO.out.trans (hO1.mono fun j hj => ⟨k, hlt, hj.1, hj.2⟩)
      clear hR1 hO1
      go_wp2_with fail
      go_roundw
      case rel => exact ⟨k + 1, by omega, by go_num, by congr 1; simp only [offs]; omega, hO2, hR2⟩
      case measure => simp [intOf]; omega
    · have hlt' : ¬ (k : Int) < m.n := by omega
      have HK : Hid (k = m.n) := by show _ = _; omega
      clear h hL
      go_wp2_with fail
      go_ret
      exact ⟨ret_int (by rw [HK.out]), hO, hR.congr (fun r hr c _ => by
        have hr' : r < m.n := hr
        show (if r < k then _ else _) = _
        rw [if_pos (by have := HK.out; omega)])⟩

set_option maxHeartbeats 400000 in
theorem heldIntSS_w {B k0 : Nat} {a : Option Addr} {l : Lay} {m : Mx} {w : World} (hn : m.n ≤ 1048576) (hL : ∀ r, r < m.n → m.L r ≤ 1048576) (h0 : k0 ≤ 2199023255552) (h : MatAt w B a l (marksOf k0 m)) :
    Calls Try.prog 73 #[.slice a m.n l.cap, .int .i64 (k0 : Int)] w fun e w' => e = .returned (.int .i64 ((k0 + offs m.L m.n : Nat) : Int)) ∧ w = w' := by
  go_enter Try.func73, Try.ntmps73
  go_wp2
  go_loop [1, 5] (fun t i => ∃ k : Nat, k ≤ m.n ∧ i = .int .i64 k ∧ t = .int .i64 ((k0 + offs m.L k : Nat) : Int)) (fun _ i => m.n - (intOf i).toNat)
  case atStart => exact ⟨0, Nat.zero_le _, rfl, rfl⟩
  case round =>
    obtain ⟨k, hk, rfl, rfl⟩ := hrel
    by_cases hlt : k < m.n
    · obtain ⟨rfl, _, g4⟩ := h.top k hlt
      have hL' : (marksOf k0 m).L k = m.L k := rfl
      rw [hL'] at g4
      have hlt' : (k : Int) < m.n := by omega
      have hLk := hL k hlt
      have hoff := offs_le hL k (by omega)
      have hrow : RowAt w B (l.A k) (l.G k) (l.O k) (m.L k) (fun i => ((k0 + offs m.L k : Nat) : Int) + i) := ⟨fun c hc => by
        obtain ⟨h1, h2, h3⟩ := h.row k hlt c hc
        exact ⟨h1, h2, h3⟩⟩
      have HLL := Lib.hid hL
      have HROW := Lib.hid hrow
      clear h hL hL' hrow
      go_wp2_with fail
      go_at_call 74
      refine (heldIntS_any hLk (by omega) (by omega) HROW.out).mono ?_
      rintro e w1 ⟨rfl, rfl⟩
      go_wp2_with fail
      go_round
      case rel => exact ⟨k + 1, by omega, by go_num, by congr 1; simp only [offs]; omega⟩
      case measure => simp [intOf]; omega
    · have hlt' : ¬ (k : Int) < m.n := by omega
      have HK : Hid (k = m.n) := by show _ = _; omega
      clear h hL
      go_wp2_with fail
      go_ret
      exact ⟨ret_int (by rw [HK.out]), rfl⟩
end Go.Proofs.Ytgjacinolenheaa
