/- The walks of the program's allBlocks, AgreeOk, BlocksWith. -/
import Derived.Test.YtanhogaekdcooaaDoorSe
namespace Go.Proofs.YtanhogaekdcooaaDoor
open Go.RowKit Go.Deep Go.Shelf

attribute [local go_sem] Oper.semAt_some

noncomputable def agreeV (m : Mx) (k : Nat) (z : Nat → Int) (x : Int) : Bool := logicB m k z && (inB k x && cliqB m (fun a => (z a).toNat) x.toNat)
noncomputable def withV6 (m : Mx) (k : Nat) (z : Nat → Int) (x : Int) : Int := if (logicB m k z && goodB m.n 1 (lone1 x)) = true then ((withN (blockL m (fun a => (z a).toNat)) x.toNat : Nat) : Int) else -1
noncomputable def blocksV (m : Mx) (k : Nat) (z : Nat → Int) : List Int := if logicB m k z = true then blockL m (fun a => (z a).toNat) else []

abbrev blkF (b : Nat) : Value := .func (.func 85) #[] #[.pointer (some ⟨b, 0, none⟩), .pointer (some ⟨b + 1, 0, none⟩), .pointer (some ⟨b + 1 + 1, 0, none⟩)]
set_option maxRecDepth 100000 in
set_option maxHeartbeats 1000000 in
theorem allBlocks_any (a : Option Addr) (n c : Nat) (w : World) :
    Calls Tryd.prog 26 #[.slice a n c] w fun e w' => e = .returned (blkF w.heap.size) ∧
      w' = ((w.alloc (.cells #[.slice a n c] 49)).alloc (.cells #[.int .i64 0] 3)).alloc (.cells #[.int .i64 0] 3) := by
  go_enter Tryd.func26, Tryd.ntmps26
  go_wp2_with fail
  go_at_call 64
  refine (blocks_any _ _ _ _ _ _).mono ?_
  rintro e w' ⟨rfl, hw⟩
  go_wp2_with fail
  go_ret
  exact ⟨rfl, by first | rfl | exact hw⟩
/-- All blocks: what allBlocks hands back yields just them. -/
theorem all_seq {m : Mx} {z : Nat → Int} {y : Nat → Nat} {o0 mb : Nat} {w w' : World} {own : World → Nat → Prop} (hO : Ortho m z y o0) (hC : CompAt m y mb w) (hT : TabOk w)
    (hx : w' = ((w.alloc (.cells #[.slice (some ⟨mb, 0, none⟩) m.n m.n] 49)).alloc (.cells #[.int .i64 0] 3)).alloc (.cells #[.int .i64 0] 3))
    (how : Ow own w'.heap.size) (h1 : ¬ own w' w.heap.size) (h2 : ¬ own w' (w.heap.size + 1)) (h3 : ¬ own w' (w.heap.size + 1 + 1)) (h4 : ¬ own w' mb) (h5 : ¬ own w' 1) :
    SeqL own 85 #[.pointer (some ⟨w.heap.size, 0, none⟩), .pointer (some ⟨w.heap.size + 1, 0, none⟩), .pointer (some ⟨w.heap.size + 1 + 1, 0, none⟩)] (allL m y) w' := by
  have hb := blocks_world hx
  obtain ⟨c1, c2, c3⟩ := blocks_cells hx
  exact blocks_seq hO 13 0 0 (Nat.two_pow_pos _) none_clique (Nat.zero_le _) (by have := hO.lat.order.top; omega) own mb _ _ _ w' how ⟨⟨c1, h1⟩, ⟨c2, h2⟩, ⟨c3, h3⟩, ⟨hC.step hb, h4⟩, ⟨hT.step hb hT.size, h5⟩⟩

theorem agree_rest {m : Mx} {z : Nat → Int} {y : Nat → Nat} {o0 s : Nat} (hO : Ortho m z y o0) (hs : s < 2 ^ m.n) : cliqB m y s = decide (s ^^^ (s &&& shN m y s) = 0) := by
  rw [Bool.eq_iff_iff, hO.cliq_iff, decide_eq_true_iff, rest_zero]
  constructor
  · intro h a ga
    have ha := bit_under hs ga
    rw [shN_bit, Bool.and_eq_true, decide_eq_true_iff]
    exact ⟨ha, nb_iff.2 fun b hb gb => h a b ha hb ga gb⟩
  · intro h a b ha hb ga gb
    have := h a ga
    rw [shN_bit, Bool.and_eq_true, decide_eq_true_iff] at this
    exact nb_iff.1 this.2 b hb gb

end Go.Proofs.YtanhogaekdcooaaDoor
