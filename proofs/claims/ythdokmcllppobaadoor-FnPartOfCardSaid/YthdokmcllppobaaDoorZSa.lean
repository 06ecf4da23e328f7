/- The laws' own tests whether two lists of numbers, or of rows, are equal: they are of lists that read alike. -/
import Derived.Test.YthdokmcllppobaaDoorZWv
import Derived.Test.YthdokmcllppobaaDoorZHa
import Derived.Test.YthdokmcllppobaaDoorZDe
import Derived.Test.YthdokmcllppobaaDoorZLe
namespace Go.Proofs.YthdokmcllppobaaDoor
open Go.RowKit Go.Deep

set_option maxHeartbeats 400000 in
theorem sameInts_same (B : Nat) (a a' : Option Addr) (g g' o o' n cap cap' : Nat) (z : Nat → Int) (w : World) (hn : n ≤ 9223372036854775807)
    (h1 : RowAt w B a g o n z) (h2 : RowAt w B a' g' o' n z) :
    Calls Tryd.prog 47 #[.slice a n cap, .slice a' n cap'] w fun e w' => e = .returned (.bool true) ∧ Drew w w' := by
  go_enter Tryd.func47, Tryd.ntmps47
  go_wp2
  go_loopw [5] (fun i wr => ∃ k : Nat, k ≤ n ∧ i = .int .i64 k ∧ Drew w wr) (fun i _ => n - (intOf i).toNat)
  case atStart => exact ⟨0, Nat.zero_le _, rfl, Drew.refl _⟩
  case round =>
    obtain ⟨k, hk, rfl, hW⟩ := hrel
    by_cases hlt : k < n
    · have r1 := (hW.row h1).row k hlt
      have r2 := (hW.row h2).row k hlt
      obtain ⟨rfl, _, c1⟩ := r1
      obtain ⟨rfl, _, c2⟩ := r2
      have hlt' : (k : Int) < n := by omega
      go_wp2
      go_quiet (fail)
      go_wp2
      go_roundw
      case rel => exact ⟨k + 1, by omega, by go_num, hW.drewN _⟩
      case measure => simp [intOf]; omega
    · obtain rfl : n = k := by omega
      go_wp2
      go_ret
      exact ⟨rfl, hW⟩

set_option maxHeartbeats 400000 in
theorem sameRows_same (B : Nat) (a a' : Option Addr) (l l' : Lay) (m : Mx) (w : World) (hn : m.n ≤ 9223372036854775807) (hL : ∀ r, r < m.n → m.L r ≤ 9223372036854775807)
    (h1 : MatAt w B a l m) (h2 : MatAt w B a' l' m) :
    Calls Tryd.prog 46 #[.slice a m.n l.cap, .slice a' m.n l'.cap] w fun e w' => e = .returned (.bool true) ∧ Drew w w' := by
  go_enter Tryd.func46, Tryd.ntmps46
  go_wp2
  go_loopw [5] (fun i wr => ∃ k : Nat, k ≤ m.n ∧ i = .int .i64 k ∧ Drew w wr) (fun i _ => m.n - (intOf i).toNat)
  case atStart => exact ⟨0, Nat.zero_le _, rfl, Drew.refl _⟩
  case round =>
    obtain ⟨k, hk, rfl, hW⟩ := hrel
    by_cases hlt : k < m.n
    · have m1 := hW.mat h1
      have m2 := hW.mat h2
      obtain ⟨rfl, _, c1⟩ := m1.top k hlt
      obtain ⟨rfl, _, c2⟩ := m2.top k hlt
      have q1 := m1.rowAt hlt
      have q2 := m2.rowAt hlt
      have hlt' : (k : Int) < m.n := by omega
      have hLk := hL k hlt
      clear m1 m2 hL h1 h2
      go_wp2
      go_quiet ((go_at_call 47; exact quiet_drew (sameInts_same B _ _ _ _ _ _ _ _ _ _ _ hLk (q1.drewN _) (q2.drewN _))))
      go_wp2
      go_roundw
      case rel => exact ⟨k + 1, by omega, by go_num, hW.drewN _⟩
      case measure => simp [intOf]; omega
    · have hkn' : ¬ (k : Int) < m.n := by omega
      clear hL h1 h2
      go_wp2
      go_ret
      exact ⟨rfl, hW⟩

/-- Rows that read as others, entry by entry, where both have the same lengths. -/
theorem MatAt.as {w : World} {B : Nat} {a : Option Addr} {l : Lay} {m m' : Mx} (h : MatAt w B a l m) (hn : m'.n = m.n) (hL : ∀ r, r < m.n → m'.L r = m.L r) (hZ : ∀ r, r < m.n → ∀ c, c < m.L r → m'.Z r c = m.Z r c) : MatAt w B a l m' :=
  ⟨fun r hr => by
    have hr' : r < m.n := by omega
    rw [hL r hr']
    exact h.top r hr', fun r hr c hc => by
    have hr' : r < m.n := by omega
    rw [hL r hr'] at hc
    rw [hZ r hr' c hc]
    exact h.row r hr' c hc⟩
end Go.Proofs.YthdokmcllppobaaDoor

/- What the laws on logics that are made need: whether two logics are the same, whether one is none; the drawn numbers. -/
namespace Go.Proofs.YthdokmcllppobaaDoor
open Go.RowKit Go.Deep

set_option maxRecDepth 100000 in
set_option maxHeartbeats 1000000 in
theorem sameLogic_any {w : World} {B B' : Nat} {ua ua' : Option Addr} {l l' : Lay} {m : Mx} {na na' : Option Addr} {g o g' o' k nc nc' : Nat} {z : Nat → Int} (h : LogAt w B ua l m na g o k z) (h' : LogAt w B' ua' l' m na' g' o' k z) :
    Calls Tryd.prog 21 #[.agg #[.slice ua m.n l.cap, .slice na k nc], .agg #[.slice ua' m.n l'.cap, .slice na' k nc']] w fun e w' => e = .returned (.bool true) ∧ Below w.heap.size w w' := by
  have hX := BoxN.start w #[.slice ua m.n l.cap, .slice na k nc] 26
  have hY := BoxN.start (w.alloc (.cells #[.slice ua m.n l.cap, .slice na k nc] 26)) #[.slice ua' m.n l'.cap, .slice na' k nc'] 26
  have hX2 := hX.step hY.below
  have q0 := hX2.cell 0 rfl
  have q1 := hX2.cell 1 rfl
  have q2 := hY.cell 0 rfl
  have q3 := hY.cell 1 rfl
  rw [World.size_alloc] at q2 q3
  have h2 := Lib.hid ((h.step hX.below).step hY.below)
  have h2' := Lib.hid ((h'.step hX.below).step hY.below)
  have hX3 := hX2.below
  have hs := hX3.size
  clear h h' hX hY hX2
  go_enter Tryd.func21, Tryd.ntmps21
  generalize hW : (w.alloc (.cells #[.slice ua m.n l.cap, .slice na k nc] 26)).alloc (.cells #[.slice ua' m.n l'.cap, .slice na' k nc'] 26) = W at q0 q1 q2 q3 h2 h2' hX3 hs
  have hm := h2.out.mat.more h2.out.hB
  have hm' := h2'.out.mat.more h2'.out.hB
  have hr := h2.out.row
  have hr' := h2'.out.row
  go_wp2_with fail
  go_at_call 46
  refine (sameRows_same W.heap.size _ _ l l' m _ h2.out.hn h2.out.hL hm hm').mono ?_
  rintro e w2 ⟨rfl, d2⟩
  obtain ⟨n2, rfl⟩ := d2
  clear hW
  go_wp2_with fail
  go_at_call 47
  refine (sameInts_same W.heap.size _ _ g g' o o' k nc nc' z _ h2.out.hk (RowAt.drewN ⟨fun c hc => by obtain ⟨a1, a2, a3⟩ := hr.row c hc; exact ⟨a1, by have := h2.out.hB; omega, a3⟩⟩ n2) (RowAt.drewN ⟨fun c hc => by obtain ⟨a1, a2, a3⟩ := hr'.row c hc; exact ⟨a1, by have := h2'.out.hB; omega, a3⟩⟩ n2)).mono ?_
  rintro e w3 ⟨rfl, d3⟩
  go_wp2_with fail
  go_ret
  exact ⟨rfl, (Below.drewN' hX3 n2).trans (d3.below _)⟩

/-- A logic of the call's own is one, with so many atoms. -/
theorem LogicData.isB {n o : Nat} {Z : Nat → Nat → Int} {y : Nat → Nat} (h : LogicData n Z y o) : logicB ⟨n, fun _ => n, Z⟩ n (fun a => (y a : Int)) = true := logicB_true h.logic
theorem LogicData.atoms {n o : Nat} {Z : Nat → Nat → Int} {y : Nat → Nat} (h : LogicData n Z y o) : atomsV ⟨n, fun _ => n, Z⟩ = atomsTo ⟨n, fun _ => n, Z⟩ n :=
  atomsV_yes (orderB_true h.order) (by rw [h.ortho.eq]; exact hasI_nat _)
end Go.Proofs.YthdokmcllppobaaDoor
