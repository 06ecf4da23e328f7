/- What the laws on logics that are made need: whether two logics are the same, whether one is none; the drawn numbers. -/
import Derived.Test.YtgjacinolenheaaZHa
import Derived.Test.YtgjacinolenheaaZSa
import Derived.Test.YtgjacinolenheaaZDe
import Derived.Test.YtgjacinolenheaaZLe
namespace Go.Proofs.Ytgjacinolenheaa
open Go.RowKit Go.Deep

set_option maxRecDepth 100000 in
set_option maxHeartbeats 1000000 in
theorem sameLogic_any {w : World} {B B' : Nat} {ua ua' : Option Addr} {l l' : Lay} {m : Mx} {na na' : Option Addr} {g o g' o' k nc nc' : Nat} {z : Nat → Int} (h : LogAt w B ua l m na g o k z) (h' : LogAt w B' ua' l' m na' g' o' k z) :
    Calls Try.prog 16 #[.agg #[.slice ua m.n l.cap, .slice na k nc], .agg #[.slice ua' m.n l'.cap, .slice na' k nc']] w fun e w' => e = .returned (.bool true) ∧ Below w.heap.size w w' := by
  have hX := BoxN.start w #[.slice ua m.n l.cap, .slice na k nc] 27
  have hY := BoxN.start (w.alloc (.cells #[.slice ua m.n l.cap, .slice na k nc] 27)) #[.slice ua' m.n l'.cap, .slice na' k nc'] 27
  have hX2 := hX.step hY.below
  have q0 := hX2.cell 0 rfl
  have q1 := hX2.cell 1 rfl
  have q2 := hY.cell 0 rfl
  have q3 := hY.cell 1 rfl
  rw [World.size_alloc] at q2 q3
  have h2 := Lib.hid ((h.step hX.below).step hY.below)
  have h2' := Lib.hid ((h'.step hX.below).step hY.below)
  have hX3 := hX2.below
  have hs := hX3.size
  clear h h' hX hY hX2
  go_enter Try.func16, Try.ntmps16
  generalize hW : (w.alloc (.cells #[.slice ua m.n l.cap, .slice na k nc] 27)).alloc (.cells #[.slice ua' m.n l'.cap, .slice na' k nc'] 27) = W at q0 q1 q2 q3 h2 h2' hX3 hs
  have hm := h2.out.mat.more h2.out.hB
  have hm' := h2'.out.mat.more h2'.out.hB
  have hr := h2.out.row
  have hr' := h2'.out.row
  go_wp2_with fail
  go_at_call 50
  refine (sameRows_same W.heap.size _ _ l l' m _ h2.out.hn h2.out.hL hm hm').mono ?_
  rintro e w2 ⟨rfl, d2⟩
  obtain ⟨n2, rfl⟩ := d2
  clear hW
  go_wp2_with fail
  go_at_call 51
  refine (sameInts_same W.heap.size _ _ g g' o o' k nc nc' z _ h2.out.hk (RowAt.drewN ⟨fun c hc => by obtain ⟨a1, a2, a3⟩ := hr.row c hc; exact ⟨a1, by have := h2.out.hB; omega, a3⟩⟩ n2) (RowAt.drewN ⟨fun c hc => by obtain ⟨a1, a2, a3⟩ := hr'.row c hc; exact ⟨a1, by have := h2'.out.hB; omega, a3⟩⟩ n2)).mono ?_
  rintro e w3 ⟨rfl, d3⟩
  go_wp2_with fail
  go_ret
  exact ⟨rfl, (Below.drewN' hX3 n2).trans (d3.below _)⟩

/-- A logic of the call's own is one, with so many atoms. -/
theorem LogicData.isB {n o : Nat} {Z : Nat → Nat → Int} {y : Nat → Nat} (h : LogicData n Z y o) : logicB ⟨n, fun _ => n, Z⟩ n (fun a => (y a : Int)) = true := logicB_true h.logic
theorem LogicData.atoms {n o : Nat} {Z : Nat → Nat → Int} {y : Nat → Nat} (h : LogicData n Z y o) : atomsV ⟨n, fun _ => n, Z⟩ = atomsTo ⟨n, fun _ => n, Z⟩ n :=
  atomsV_yes (orderB_true h.order) (by rw [h.ortho.eq]; exact hasI_nat _)
/-- What AtomsOf hands back, for its length alone. -/
def LenRes (w : World) (k : Nat) (e : Ending) (w' : World) : Prop := ∃ (a : Option Addr) (c : Nat), e = .returned (.slice a k c) ∧ Below w.heap.size w w'
theorem AtomsOf_len {B : Nat} {sa : Option Addr} {l : Lay} {m : Mx} {w : World} {k : Nat} (hn : m.n ≤ 9223372036854775807) (hL : ∀ r, r < m.n → m.L r ≤ 9223372036854775807) (h : MatAt w B sa l m) (hB : B ≤ w.heap.size) (hk : (atomsV m).length = k) :
    Calls Try.prog 20 #[.slice sa m.n l.cap] w (LenRes w k) :=
  (AtomsOf_any hn hL h hB).mono fun e w' ⟨v, he, ho, hb⟩ => by
    subst hk
    rcases ho.2 with ⟨hv, h0⟩ | ⟨g, cap, _, hv, _⟩
    · exact ⟨none, 0, by rw [he, hv, h0], hb⟩
    · exact ⟨_, cap, by rw [he, hv], hb⟩
end Go.Proofs.Ytgjacinolenheaa
