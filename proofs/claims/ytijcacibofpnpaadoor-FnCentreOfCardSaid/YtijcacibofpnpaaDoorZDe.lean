/- The walks of the laws' draws of an order out of a code. -/
import Derived.Test.YtijcacibofpnpaaDoorZDa
namespace Go.Proofs.YtijcacibofpnpaaDoor
open Go.RowKit Go.Deep

/-- A code as it comes in. -/
structure CodeAt (w : World) (A : Option Addr) (b o n cap : Nat) (z : Nat → Nat) : Prop where
  bytes : BytesAt w w.heap.size A b o n z
  hn : n ≤ cap
  hc : cap ≤ 9223372036854775807

/-- The reader of a code: new, nothing picked, at most 2000 bytes. -/
def Opened (w : World) (e : Ending) (w' : World) : Prop :=
  ∃ (A : Option Addr) (b o n c : Nat) (z : Nat → Nat), e = .returned (.pointer (some ⟨w.heap.size, 0, none⟩)) ∧ n ≤ 2000 ∧ Rd w' w.heap.size A n c 0 ∧ BytesAt w' w.heap.size A b o n z ∧ Below w.heap.size w w' ∧ w'.heap.size = w.heap.size + 1

theorem rd_new (w : World) (A : Option Addr) (n c : Nat) : Rd (w.alloc (.cells #[.slice A n c, .int .i64 0] 69)) w.heap.size A n c 0 := by
  unfold Rd
  simpa using World.alloc_heap_new w (.cells #[.slice A n c, .int .i64 0] 69)

set_option maxHeartbeats 400000 in
theorem l20Open_any {A : Option Addr} {b o n cap : Nat} {z : Nat → Nat} {w : World} (h : CodeAt w A b o n cap z) :
    Calls Tryd.prog 17 #[.slice A n cap] w (Opened w) := by
  have hn := h.hn
  have hc := h.hc
  by_cases hbig : 2000 < n
  · obtain ⟨rfl, _, _, _⟩ := h.bytes.at_ 0 (by omega)
    have hbig' : (2000 : Int) < n := by omega
    have hcap : (2000 : Int) ≤ cap := by omega
    have hcapn : 2000 ≤ cap := by omega
    have hX : Hid (Opened w (.returned (.pointer (some ⟨w.heap.size, 0, none⟩))) (w.alloc (.cells #[.slice (some ⟨b, o, none⟩) 2000 cap, .int .i64 0] 69))) :=
      ⟨_, b, o, 2000, cap, z, rfl, Nat.le_refl _, rd_new w _ _ _, ⟨fun j hj => (h.bytes.below ((Below.refl w.heap.size w).alloc (Nat.le_refl _) (.cells #[.slice (some ⟨b, o, none⟩) 2000 cap, .int .i64 0] 69))).at_ j (by omega)⟩, (Below.refl _ _).alloc (Nat.le_refl _) _, by simp⟩
    clear h
    go_enter Tryd.func17, Tryd.ntmps17
    go_wp2_with fail
    go_ret
    exact hX.out
  · have hbig' : ¬ (2000 : Int) < n := by omega
    have hX : Hid (Opened w (.returned (.pointer (some ⟨w.heap.size, 0, none⟩))) (w.alloc (.cells #[.slice A n cap, .int .i64 0] 69))) :=
      ⟨_, b, o, n, cap, z, rfl, by omega, rd_new w _ _ _, h.bytes.below ((Below.refl w.heap.size w).alloc (Nat.le_refl _) _), (Below.refl _ _).alloc (Nat.le_refl _) _, by simp⟩
    clear h
    go_enter Tryd.func17, Tryd.ntmps17
    go_wp2_with fail
    go_ret
    exact hX.out

end Go.Proofs.YtijcacibofpnpaaDoor
