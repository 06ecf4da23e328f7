/- The law on Renamed against the reference, walked at whatever logic and list. -/
import Derived.Test.YthdokmcllppobaaDoorZHa
import Derived.Test.YthdokmcllppobaaDoorZVm
import Derived.Test.YthdokmcllppobaaDoorZFe
namespace Go.Proofs.YthdokmcllppobaaDoor
open Go.RowKit Go.Deep

/-- A logic that comes back, told by its copy's blocks. -/
def ResG (w : World) (n : Nat) (Z : Nat → Nat → Int) (y : Nat → Nat) (e : Ending) (w' : World) : Prop :=
  ∃ (ua : Option Addr) (l : Lay) (na : Option Addr) (g nc : Nat), e = .returned (.agg #[.slice ua n l.cap, .slice na n nc]) ∧ LogW w' w'.heap.size w.heap.size ua l ⟨n, fun _ => n, Z⟩ na g 0 n (fun c => (y c : Int)) ∧ Below w.heap.size w w'
theorem MadeLog.res {w : World} {N : Nat} {Z : Nat → Nat → Int} {y : Nat → Nat} {ok : Bool} {e : Ending} {w' : World} (h : MadeLog w N Z y ok e w') : ResG w (if ok = true then N else 0) Z y e w' := by
  obtain ⟨hb, (⟨rfl, rfl⟩ | ⟨rfl, u, t, rv, rfl, hL⟩)⟩ := h
  · exact ⟨none, noLay, none, 0, 0, rfl, LogW.none w' Z _ _, hb⟩
  · obtain ⟨ua, l, na, g, nc, rfl, rfl, hW⟩ := hL.logW
    exact ⟨ua, l, na, g, nc, rfl, hW, hb⟩
theorem CopyS.all {w wr : World} {n : Nat} {z : Nat → Int} (h : CopyS w wr n n z) : wr.rowIs w.heap.size 3 n (fun i => .int .i64 (z i)) := h.row.congr fun i hi => by rw [if_pos hi]
end Go.Proofs.YthdokmcllppobaaDoor
