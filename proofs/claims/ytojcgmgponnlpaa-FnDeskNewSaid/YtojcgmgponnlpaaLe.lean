/- The laws' own tests whether two lists of numbers, or of rows, are equal: they are of lists that read alike. The law on OrderOk, walked at whatever code. -/
import Derived.Test.YtojcgmgponnlpaaWv
import Derived.Test.YtojcgmgponnlpaaDa
import Derived.Test.YtojcgmgponnlpaaWc
namespace Go.Proofs.Ytojcgmgponnlpaa
open Go.RowKit Go.Deep

set_option maxHeartbeats 400000 in
theorem sameInts_same (B : Nat) (a a' : Option Addr) (g g' o o' n cap cap' : Nat) (z : Nat → Int) (w : World) (hn : n ≤ 9223372036854775807)
    (h1 : RowAt w B a g o n z) (h2 : RowAt w B a' g' o' n z) :
    Calls Try.prog 34 #[.slice a n cap, .slice a' n cap'] w fun e w' => e = .returned (.bool true) ∧ Drew w w' := by
  go_enter Try.func34, Try.ntmps34
  go_wp2
  go_loopw [5] (fun i wr => ∃ k : Nat, k ≤ n ∧ i = .int .i64 k ∧ Drew w wr) (fun i _ => n - (intOf i).toNat)
  case atStart => exact ⟨0, Nat.zero_le _, rfl, Drew.refl _⟩
  case round =>
    obtain ⟨k, hk, rfl, hW⟩ := hrel
    by_cases hlt : k < n
    · have r1 := (hW.row h1).row k hlt
      have r2 := (hW.row h2).row k hlt
      obtain ⟨rfl, _, c1⟩ := r1
      obtain ⟨rfl, _, c2⟩ := r2
      have hlt' : (k : Int) < n := by omega
      go_wp2
      go_quiet (fail)
      go_wp2
      go_roundw
      case rel => exact ⟨k + 1, by omega, by go_num, hW.drewN _⟩
      case measure => simp [intOf]; omega
    · obtain rfl : n = k := by omega
      go_wp2
      go_ret
      exact ⟨rfl, hW⟩

set_option maxHeartbeats 400000 in
theorem sameRows_same (B : Nat) (a a' : Option Addr) (l l' : Lay) (m : Mx) (w : World) (hn : m.n ≤ 9223372036854775807) (hL : ∀ r, r < m.n → m.L r ≤ 9223372036854775807)
    (h1 : MatAt w B a l m) (h2 : MatAt w B a' l' m) :
    Calls Try.prog 33 #[.slice a m.n l.cap, .slice a' m.n l'.cap] w fun e w' => e = .returned (.bool true) ∧ Drew w w' := by
  go_enter Try.func33, Try.ntmps33
  go_wp2
  go_loopw [5] (fun i wr => ∃ k : Nat, k ≤ m.n ∧ i = .int .i64 k ∧ Drew w wr) (fun i _ => m.n - (intOf i).toNat)
  case atStart => exact ⟨0, Nat.zero_le _, rfl, Drew.refl _⟩
  case round =>
    obtain ⟨k, hk, rfl, hW⟩ := hrel
    by_cases hlt : k < m.n
    · have m1 := hW.mat h1
      have m2 := hW.mat h2
      obtain ⟨rfl, _, c1⟩ := m1.top k hlt
      obtain ⟨rfl, _, c2⟩ := m2.top k hlt
      have q1 := m1.rowAt hlt
      have q2 := m2.rowAt hlt
      have hlt' : (k : Int) < m.n := by omega
      have hLk := hL k hlt
      clear m1 m2 hL h1 h2
      go_wp2
      go_quiet ((go_at_call 34; exact quiet_drew (sameInts_same B _ _ _ _ _ _ _ _ _ _ _ hLk (q1.drewN _) (q2.drewN _))))
      go_wp2
      go_roundw
      case rel => exact ⟨k + 1, by omega, by go_num, hW.drewN _⟩
      case measure => simp [intOf]; omega
    · have hkn' : ¬ (k : Int) < m.n := by omega
      clear hL h1 h2
      go_wp2
      go_ret
      exact ⟨rfl, hW⟩


/-- Rows that read as others, entry by entry, where both have the same lengths. -/
theorem MatAt.as {w : World} {B : Nat} {a : Option Addr} {l : Lay} {m m' : Mx} (h : MatAt w B a l m) (hn : m'.n = m.n) (hL : ∀ r, r < m.n → m'.L r = m.L r) (hZ : ∀ r, r < m.n → ∀ c, c < m.L r → m'.Z r c = m.Z r c) : MatAt w B a l m' :=
  ⟨fun r hr => by
    have hr' : r < m.n := by omega
    rw [hL r hr']
    exact h.top r hr', fun r hr c hc => by
    have hr' : r < m.n := by omega
    rw [hL r hr'] at hc
    rw [hZ r hr' c hc]
    exact h.row r hr' c hc⟩
theorem sameList {w : World} {base base' n : Nat} {v v' : Value} {z : Nat → Int} (hn : n ≤ 9223372036854775807) (h : w.ownsRow base 3 1 v n ((List.range n).map fun i => .int .i64 (z i))) (h' : w.ownsRow base' 3 1 v' n ((List.range n).map fun i => .int .i64 (z i))) :
    Calls Try.prog 34 #[v, v'] w fun e w' => e = .returned (.bool true) ∧ Drew w w' := by
  have key : ∀ (base : Nat) (v : Value), w.ownsRow base 3 1 v n ((List.range n).map fun i => .int .i64 (z i)) → ∃ a g cap, v = .slice a n cap ∧ RowAt w w.heap.size a g 0 n z := by
    intro base v h
    rcases owns_ways h with ⟨rfl, rfl⟩ | ⟨g, cap, rfl, hc⟩
    · exact ⟨none, 0, 0, rfl, ⟨fun c hc => absurd hc (Nat.not_lt_zero _)⟩⟩
    · exact ⟨some ⟨g, 0, none⟩, g, cap, rfl, ⟨fun c hcn => ⟨rfl, World.block_lt_of_cell? _ _ (hc c hcn), by simpa using hc c hcn⟩⟩⟩
  obtain ⟨a, g, cap, rfl, hr⟩ := key base v h
  obtain ⟨a', g', cap', rfl, hr'⟩ := key base' v' h'
  exact sameInts_same w.heap.size _ _ _ _ _ _ _ _ _ _ _ hn hr hr'
end Go.Proofs.Ytojcgmgponnlpaa
namespace Go.Proofs.Ytojcgmgponnlpaa
open Go.RowKit Go.Deep

def oneM (x : Int) : Mx := ⟨1, fun _ => 1, fun _ _ => x⟩
def oneLay (N : Nat) : Lay := ⟨N + 1, 0, 1, fun _ => some ⟨N, 0, none⟩, fun _ => 1, fun _ => N, fun _ => 0⟩
theorem one_at (w : World) (x : Int) : MatAt ((w.alloc (.cells #[.int .i64 x] 3)).alloc (.cells #[.slice (some ⟨w.heap.size, 0, none⟩) 1 1] 24)) (w.heap.size + 2) (some ⟨w.heap.size + 1, 0, none⟩) (oneLay w.heap.size) (oneM x) := by
  have b0 := (Boxed.new w 3 (.int .i64 x)).alloc (.cells #[.slice (some ⟨w.heap.size, 0, none⟩) 1 1] 24)
  have b1 := Boxed.new (w.alloc (.cells #[.int .i64 x] 3)) 24 (.slice (some ⟨w.heap.size, 0, none⟩) 1 1)
  rw [World.size_alloc] at b1
  refine ⟨fun r hr => ?_, fun r hr c hc => ?_⟩
  · have hr' : r < 1 := hr
    obtain rfl : r = 0 := by omega
    exact ⟨rfl, by show w.heap.size + 1 < _; omega, b1.cell⟩
  · have hc' : c < 1 := hc
    obtain rfl : c = 0 := by omega
    exact ⟨rfl, by show w.heap.size < _; omega, b0.cell⟩
theorem one_order : orderB (oneM 1) = true := orderB_true ⟨Nat.le_refl 1, by show 1 ≤ 12; omega, ⟨fun _ _ => rfl, fun _ _ _ _ => .inr rfl⟩, fun _ _ => rfl, fun a b ha hb hne => by
  have ha' : a < 1 := ha
  have hb' : b < 1 := hb
  exact absurd (by omega) hne, fun _ _ _ _ _ _ _ _ => rfl⟩
theorem zero_order : orderB (oneM 0) = false := orderB_false fun h => by
  have : (0 : Int) = 1 := h.refl 0 (by show 0 < 1; omega)
  omega
theorem OrderOk_one (w : World) (x : Int) : Calls Try.prog 29 #[.slice (some ⟨w.heap.size + 1, 0, none⟩) 1 1] ((w.alloc (.cells #[.int .i64 x] 3)).alloc (.cells #[.slice (some ⟨w.heap.size, 0, none⟩) 1 1] 24)) fun e w' =>
    e = .returned (.bool (orderB (oneM x))) ∧ Below (w.heap.size + 2) ((w.alloc (.cells #[.int .i64 x] 3)).alloc (.cells #[.slice (some ⟨w.heap.size, 0, none⟩) 1 1] 24)) w' :=
  (OrderOk_any (m := oneM x) (l := oneLay w.heap.size) (by show 1 ≤ _; omega) (fun _ _ => by show 1 ≤ _; omega) (one_at w x) (by simp)).mono fun _ _ ⟨he, hb⟩ => ⟨he, hb.mono (by simp)⟩

set_option maxHeartbeats 400000 in
theorem alive_any (w : World) : Calls Try.prog 10 #[] w fun e w' => e = .returned (.bool true) ∧ Below w.heap.size w w' := by
  go_enter Try.func10, Try.ntmps10
  go_wp2_with fail
  go_at_call 29
  refine (OrderOk_one w 1).mono ?_
  rintro e w1 ⟨rfl, hb1⟩
  rw [one_order]
  have B1 : Below w.heap.size w w1 := (((Below.refl w.heap.size w).alloc (Nat.le_refl _) _).alloc (by simp) _).trans (hb1.mono (by omega))
  clear hb1
  go_wp2_with fail
  go_at_call 29
  refine (OrderOk_one w1 0).mono ?_
  rintro e w2 ⟨rfl, hb2⟩
  rw [zero_order]
  have B2 : Below w.heap.size w w2 := ((B1.alloc B1.size _).alloc (by have := B1.size; simp; omega) _).trans (hb2.mono (by have := B1.size; omega))
  clear hb2
  go_wp2_with fail
  go_ret
  exact ⟨rfl, B2⟩

theorem OrderOk_tr {w : World} {b : Nat} {G : Nat → Nat} {m : Mx} (ho : orderB m = true) (h : OwnMat w b G (tr m)) :
    Calls Try.prog 29 #[.slice (some ⟨b, 0, none⟩) m.n m.n] w fun e w' => e = .returned (.bool true) ∧ Below w.heap.size w w' := by
  have h12 := (orderB_is ho).top
  have := OrderOk_any (m := tr m) (l := ownLay b G (tr m)) (by show m.n ≤ _; omega) (fun _ _ => by show m.n ≤ _; omega) h.mat (Nat.le_refl _)
  rw [orderB_true (tr_order (orderB_is ho))] at this
  exact this

end Go.Proofs.Ytojcgmgponnlpaa
