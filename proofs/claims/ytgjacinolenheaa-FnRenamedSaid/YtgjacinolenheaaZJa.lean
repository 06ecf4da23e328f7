/- The walks of the draws of two logics. -/
import Derived.Test.YtgjacinolenheaaZDn
import Derived.Test.YtgjacinolenheaaZHa
namespace Go.Proofs.Ytgjacinolenheaa
open Go.RowKit Go.Deep

/-- A logic in blocks from base on. -/
structure Kept (base : Nat) (d : LD) (w : World) : Prop where
  log : d.At w w.heap.size
  top : ∀ r, r < d.m.n → base ≤ d.l.b
  row : ∀ r, r < d.m.n → ∀ c, c < d.m.L r → base ≤ d.l.G r
  opp : 0 < d.k → base ≤ d.g
  hn : d.m.n ≤ 12
  hL : ∀ r, r < d.m.n → d.m.L r ≤ 12
  hk : d.k ≤ 12
theorem Kept.chg {S : Nat → Prop} {base : Nat} {d : LD} {w w' : World} (h : Kept base d w) (hc : Chg S w w') (hs : ∀ j, S j → j < base ∨ w.heap.size ≤ j) : Kept base d w' := by
  have hl : LogAt w w.heap.size d.ua d.l d.m d.na d.g d.o d.k d.z := h.log
  have hz := hc.size
  have no : ∀ j, base ≤ j → j < w.heap.size → ¬ S j := fun j h1 h2 e => by rcases hs j e with h3 | h3 <;> omega
  refine ⟨show LogAt w' w'.heap.size d.ua d.l d.m d.na d.g d.o d.k d.z from ⟨⟨fun r hr => ?_, fun r hr c hc' => ?_⟩, ⟨fun c hc' => ?_⟩, hl.hn, hl.hL, hl.hk, Nat.le_refl _⟩, h.top, h.row, h.opp, h.hn, h.hL, h.hk⟩
  · obtain ⟨h1, h2, h3⟩ := hl.mat.top r hr
    exact ⟨h1, by omega, (World.cell?_of_block (w := w) (hc.block _ h2 (no _ (h.top r hr) h2))).trans h3⟩
  · obtain ⟨h1, h2, h3⟩ := hl.mat.row r hr c hc'
    exact ⟨h1, by omega, (World.cell?_of_block (w := w) (hc.block _ h2 (no _ (h.row r hr c hc') h2))).trans h3⟩
  · obtain ⟨h1, h2, h3⟩ := hl.row.row c hc'
    exact ⟨h1, by omega, (World.cell?_of_block (w := w) (hc.block _ h2 (no _ (h.opp (by omega)) h2))).trans h3⟩
theorem Kept.base {b b' : Nat} {d : LD} {w : World} (h : Kept b d w) (hb : b' ≤ b) : Kept b' d w :=
  ⟨h.log, fun r hr => Nat.le_trans hb (h.top r hr), fun r hr c hc => Nat.le_trans hb (h.row r hr c hc), fun h0 => Nat.le_trans hb (h.opp h0), h.hn, h.hL, h.hk⟩
end Go.Proofs.Ytgjacinolenheaa
