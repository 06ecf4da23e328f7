/- The walk of the reference's least part around answers. -/
import Derived.Test.YthdokmcllppobaaDoorZYc
namespace Go.Proofs.YthdokmcllppobaaDoor
open Go.RowKit Go.Deep

/-- Some rows of pairs looked at, and some of the next row. -/
structure MidB (m : Mx) (y : Nat → Nat) (t u j c : Nat) : Prop where
  under : Under m y t u
  done : ∀ a b, a < j → b < m.n → t.testBit a = true → t.testBit b = true → u.testBit (mN m a b) = true ∧ u.testBit (y a) = true
  row : ∀ b, b < c → t.testBit j = true → t.testBit b = true → u.testBit (mN m j b) = true ∧ u.testBit (y j) = true
theorem MidB.start {m : Mx} {y : Nat → Nat} {t : Nat} (h : t < 2 ^ m.n) : MidB m y t t 0 0 := ⟨Under.start h, fun _ _ h => absurd h (Nat.not_lt_zero _), fun _ h => absurd h (Nat.not_lt_zero _)⟩
theorem MidB.turn {m : Mx} {y : Nat → Nat} {t u j : Nat} (h : MidB m y t u j m.n) : MidB m y t u (j + 1) 0 :=
  ⟨h.under, fun a b ha hb ga gb => by
    by_cases e : a = j
    · subst e; exact h.row b hb ga gb
    · exact h.done a b (by omega) hb ga gb, fun _ h => absurd h (Nat.not_lt_zero _)⟩
theorem MidB.add {m : Mx} {z : Nat → Int} {y : Nat → Nat} {o t u j c : Nat} (h : MidB m y t u j c) (hO : Ortho m z y o) (hj : j < m.n) (hc : c < m.n) (gj : t.testBit j = true) (gc : t.testBit c = true) : MidB m y t (u ||| 2 ^ mN m j c ||| 2 ^ y j) j (c + 1) := by
  have hs : Sub u (u ||| 2 ^ mN m j c ||| 2 ^ y j) := (sub_left _ _).trans (sub_left _ _)
  have h1 : (u ||| 2 ^ mN m j c ||| 2 ^ y j).testBit (mN m j c) = true := sub_left _ _ _ (sub_right _ _ _ (has_one _))
  have h2 : (u ||| 2 ^ mN m j c ||| 2 ^ y j).testBit (y j) = true := sub_right _ _ _ (has_one _)
  refine ⟨(h.under.more (hO.mG hj hc).lt fun v hv hs => hv.meet j c hj hc (hs j gj) (hs c gc)).more (hO.lt j hj) fun v hv hs => hv.not j hj (hs j gj), fun a b ha hb ga gb => ?_, fun b hb gj gb => ?_⟩
  · obtain ⟨d1, d2⟩ := h.done a b ha hb ga gb
    exact ⟨hs _ d1, hs _ d2⟩
  · by_cases e : b = c
    · subst e; exact ⟨h1, h2⟩
    · obtain ⟨d1, d2⟩ := h.row b (by omega) gj gb
      exact ⟨hs _ d1, hs _ d2⟩
theorem MidB.grown {m : Mx} {y : Nat → Nat} {t u : Nat} (h : MidB m y t u m.n 0) : Grown m y t u :=
  ⟨h.under, fun a b ha hb ga gb => (h.done a b ha hb ga gb).1, fun a ha ga => (h.done a a ha ha ga ga).2⟩
theorem or_is {u k : Nat} (hu : u < 4096) (hk : k < 12) : bits .or .i64 (u : Int) (wrap64 (2 ^ k)) = ((u ||| 2 ^ k : Nat) : Int) := by
  have := pow_le_12 (Nat.le_of_lt hk)
  have e : ((2 : Int) ^ k) = ((2 ^ k : Nat) : Int) := by push_cast; rfl
  rw [e]
  generalize 2 ^ k = q at this ⊢
  rw [IntWalk.wrap64_in _ (by omega)]
  exact i64_or_nat u q (by omega) (by omega)

end Go.Proofs.YthdokmcllppobaaDoor
