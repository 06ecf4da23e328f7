/- The walks of the small functions that only read. -/
import Derived.Test.YtijcacibofpnpaaDoorProg
import Derived.Test.YtijcacibofpnpaaDoorZMem
import Derived.WalkSpells
import Derived.WalkLawsBesides
import Derived.Deep.QuietTactic
import Derived.BigQuiet
namespace Go.Proofs.YtijcacibofpnpaaDoor
open Go.RowKit Go.Deep

set_option maxHeartbeats 400000 in
theorem l1In_any (n lo hi : Int) (w : World) :
    Calls Tryd.prog 46 #[.int .i64 n, .int .i64 lo, .int .i64 hi] w fun e w' => e = .returned (.bool (decide (lo ≤ n) && decide (n ≤ hi))) ∧ w = w' := by
  by_cases h1 : lo ≤ n
  · by_cases h2 : n ≤ hi
    · go_enter Tryd.func46, Tryd.ntmps46
      go_wp2
      go_ret
      exact ⟨ret_bool (by symm; simp <;> omega), rfl⟩
    · go_enter Tryd.func46, Tryd.ntmps46
      go_wp2
      go_ret
      exact ⟨ret_bool (by symm; simp <;> omega), rfl⟩
  · go_enter Tryd.func46, Tryd.ntmps46
    go_wp2
    go_ret
    exact ⟨ret_bool (by symm; simp <;> omega), rfl⟩

set_option maxHeartbeats 400000 in
theorem below_any (l : Lay) (m : Mx) (a b : Nat) (B : Nat) (sa : Option Addr) (w : World) (hM : MatAt w B sa l m) (ha : a < m.n) (hb : b < m.L a) (_ha' : a < 9223372036854775807) (_hb' : b < 9223372036854775807) (hB : B ≤ w.heap.size):
    Calls Tryd.prog 32 #[.agg #[.slice sa m.n l.cap], .int .i64 a, .int .i64 b] w fun e w' => e = .returned (.bool (m.Z a b == 1)) ∧ Below w.heap.size w w' := by
  obtain ⟨rfl, hb0, hc0⟩ := hM.top a ha
  obtain ⟨hA, hb1, hc1⟩ := hM.row a ha b hb
  rw [hA] at hc0
  have hc0' : ∀ o, (w.alloc o).cell? ⟨l.b, l.o + a, none⟩ = some (.slice (some ⟨l.G a, l.O a, none⟩) (m.L a) (l.C a)) := fun o => by rw [World.cell?_alloc_lt w o _ (by show l.b < _; omega)]; exact hc0
  have hc1' : ∀ o, (w.alloc o).cell? ⟨l.G a, l.O a + b, none⟩ = some (.int .i64 (m.Z a b)) := fun o => by rw [World.cell?_alloc_lt w o _ (by show l.G a < _; omega)]; exact hc1
  clear hc0 hc1 hA hM
  go_enter Tryd.func32, Tryd.ntmps32
  go_wp2
  go_ret
  exact ⟨rfl, (Below.refl _ _).alloc (Nat.le_refl _) _⟩
end Go.Proofs.YtijcacibofpnpaaDoor
