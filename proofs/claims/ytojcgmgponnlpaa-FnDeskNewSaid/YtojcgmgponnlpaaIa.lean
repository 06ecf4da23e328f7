/- What the laws on logics that are made need: whether two logics are the same, whether one is none; the drawn numbers. -/
import Derived.Test.YtojcgmgponnlpaaGa
import Derived.Test.YtojcgmgponnlpaaLe
import Derived.Test.YtojcgmgponnlpaaDa
namespace Go.Proofs.Ytojcgmgponnlpaa
open Go.RowKit Go.Deep

set_option maxRecDepth 100000 in
set_option maxHeartbeats 1000000 in
theorem sameLogic_any {w : World} {B B' : Nat} {ua ua' : Option Addr} {l l' : Lay} {m : Mx} {na na' : Option Addr} {g o g' o' k nc nc' : Nat} {z : Nat → Int} (h : LogAt w B ua l m na g o k z) (h' : LogAt w B' ua' l' m na' g' o' k z) :
    Calls Try.prog 17 #[.agg #[.slice ua m.n l.cap, .slice na k nc], .agg #[.slice ua' m.n l'.cap, .slice na' k nc']] w fun e w' => e = .returned (.bool true) ∧ Below w.heap.size w w' := by
  have hX := BoxN.start w #[.slice ua m.n l.cap, .slice na k nc] 26
  have hY := BoxN.start (w.alloc (.cells #[.slice ua m.n l.cap, .slice na k nc] 26)) #[.slice ua' m.n l'.cap, .slice na' k nc'] 26
  have hX2 := hX.step hY.below
  have q0 := hX2.cell 0 rfl
  have q1 := hX2.cell 1 rfl
  have q2 := hY.cell 0 rfl
  have q3 := hY.cell 1 rfl
  rw [World.size_alloc] at q2 q3
  have h2 := Lib.hid ((h.step hX.below).step hY.below)
  have h2' := Lib.hid ((h'.step hX.below).step hY.below)
  have hX3 := hX2.below
  have hs := hX3.size
  clear h h' hX hY hX2
  go_enter Try.func17, Try.ntmps17
  generalize hW : (w.alloc (.cells #[.slice ua m.n l.cap, .slice na k nc] 26)).alloc (.cells #[.slice ua' m.n l'.cap, .slice na' k nc'] 26) = W at q0 q1 q2 q3 h2 h2' hX3 hs
  have hm := h2.out.mat.more h2.out.hB
  have hm' := h2'.out.mat.more h2'.out.hB
  have hr := h2.out.row
  have hr' := h2'.out.row
  go_wp2_with fail
  go_at_call 33
  refine (sameRows_same W.heap.size _ _ l l' m _ h2.out.hn h2.out.hL hm hm').mono ?_
  rintro e w2 ⟨rfl, d2⟩
  obtain ⟨n2, rfl⟩ := d2
  clear hW
  go_wp2_with fail
  go_at_call 34
  refine (sameInts_same W.heap.size _ _ g g' o o' k nc nc' z _ h2.out.hk (RowAt.drewN ⟨fun c hc => by obtain ⟨a1, a2, a3⟩ := hr.row c hc; exact ⟨a1, by have := h2.out.hB; omega, a3⟩⟩ n2) (RowAt.drewN ⟨fun c hc => by obtain ⟨a1, a2, a3⟩ := hr'.row c hc; exact ⟨a1, by have := h2'.out.hB; omega, a3⟩⟩ n2)).mono ?_
  rintro e w3 ⟨rfl, d3⟩
  go_wp2_with fail
  go_ret
  exact ⟨rfl, (Below.drewN' hX3 n2).trans (d3.below _)⟩

theorem noLogAt (w : World) (ua na : Option Addr) (l : Lay) (Z : Nat → Nat → Int) (z : Nat → Int) : LogAt w 0 ua l ⟨0, fun _ => 0, Z⟩ na 0 0 0 z :=
  ⟨⟨fun _ hr => absurd hr (Nat.not_lt_zero _), fun _ hr => absurd hr (Nat.not_lt_zero _)⟩, ⟨fun _ hr => absurd hr (Nat.not_lt_zero _)⟩, Nat.zero_le _, fun _ hr => absurd hr (Nat.not_lt_zero _), Nat.zero_le _, Nat.zero_le _⟩

/-- A drawn number. -/
def DrewNum (w : World) (lo hi : Int) (e : Ending) (w' : World) : Prop := ∃ v : Int, e = .returned (.int .i64 v) ∧ lo ≤ v ∧ v ≤ hi ∧ Below w.heap.size w w'
/-- A logic of the call's own is one, with so many atoms. -/
theorem LogicData.isB {n o : Nat} {Z : Nat → Nat → Int} {y : Nat → Nat} (h : LogicData n Z y o) : logicB ⟨n, fun _ => n, Z⟩ n (fun a => (y a : Int)) = true := logicB_true h.logic
theorem LogicData.atoms {n o : Nat} {Z : Nat → Nat → Int} {y : Nat → Nat} (h : LogicData n Z y o) : atomsV ⟨n, fun _ => n, Z⟩ = atomsTo ⟨n, fun _ => n, Z⟩ n :=
  atomsV_yes (orderB_true h.order) (by rw [h.ortho.eq]; exact hasI_nat _)
/-- What AtomsOf hands back, for its length alone. -/
def LenRes (w : World) (k : Nat) (e : Ending) (w' : World) : Prop := ∃ (a : Option Addr) (c : Nat), e = .returned (.slice a k c) ∧ Below w.heap.size w w'
end Go.Proofs.Ytojcgmgponnlpaa
