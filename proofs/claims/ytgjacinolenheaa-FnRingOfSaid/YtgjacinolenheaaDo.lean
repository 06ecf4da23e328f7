/- A logic under way: its box, its rows so far, its opposites so far. -/
import Derived.Test.YtgjacinolenheaaDg
namespace Go.Proofs.Ytgjacinolenheaa
open Go.RowKit Go.Deep

structure MakeAt (wr : World) (p base : Nat) (u t : Value) (k kt N : Nat) (rv : Nat → Value) (Z : Nat → Nat → Int) (y : Nat → Int) : Prop where
  pb : p < base
  box : TwoAt wr p u t
  out : Out wr base u k N rv Z
  ints : IntsAt wr base t kt y
  sep : ∀ r, r < k → (rv r).ownBlock ≠ t.ownBlock ∨ (rv r).ownBlock = none
  rng : ∀ c, c < kt → 0 ≤ y c ∧ y c < (N : Int)
theorem MakeAt.start {wr : World} {p base N : Nat} (hp : p < base) (hb : TwoAt wr p (.slice none 0 0) (.slice none 0 0)) : MakeAt wr p base (.slice none 0 0) (.slice none 0 0) 0 0 N (fun _ => .slice none 0 0) (fun _ _ => 0) (fun _ => 0) :=
  ⟨hp, hb, ⟨World.ownsRow_nil _ _ _ 1, fun _ hr => absurd hr (Nat.not_lt_zero _), fun _ _ hr => absurd hr (Nat.not_lt_zero _), fun _ _ hr => absurd hr (Nat.not_lt_zero _)⟩, IntsAt.nil _ _ _, fun _ hr => absurd hr (Nat.not_lt_zero _), fun _ hc => absurd hc (Nat.not_lt_zero _)⟩
theorem MakeAt.lt {wr : World} {p base : Nat} {u t : Value} {k kt N : Nat} {rv : Nat → Value} {Z : Nat → Nat → Int} {y : Nat → Int} (h : MakeAt wr p base u t k kt N rv Z y) : p < wr.heap.size := World.block_lt_of_cell? wr ⟨p, 0, none⟩ h.box.c0
theorem MakeAt.chg {S : Nat → Prop} {wr w' : World} {p base : Nat} {u t : Value} {k kt N : Nat} {rv : Nat → Value} {Z : Nat → Nat → Int} {y : Nat → Int} (h : MakeAt wr p base u t k kt N rv Z y) (hc : Chg S wr w') (hs : ∀ j, S j → j < p ∨ wr.heap.size ≤ j) : MakeAt w' p base u t k kt N rv Z y := by
  have hp := h.pb
  have hl := h.lt
  have no : ∀ (g : Nat), base ≤ g → g < wr.heap.size → ¬ S g := fun g h1 h2 e => by
    rcases hs g e with h3 | h3
    · omega
    · omega
  refine ⟨hp, hc.two h.box (fun e => by
    rcases hs p e with h3 | h3
    · omega
    · omega), hc.out h.out (fun g hg => no g (ownsRow_block h.out.top g hg) (own_lt h.out.top g hg)) (fun r hr g hg => no g (ownsRow_block (h.out.row r hr) g hg) (own_lt (h.out.row r hr) g hg)), hc.ints h.ints (fun g hg => no g (ownsRow_block h.ints g hg) (own_lt h.ints g hg)), h.sep, h.rng⟩
theorem MakeAt.below {wr w' : World} {p base : Nat} {u t : Value} {k kt N : Nat} {rv : Nat → Value} {Z : Nat → Nat → Int} {y : Nat → Int} (h : MakeAt wr p base u t k kt N rv Z y) (hb : Below wr.heap.size wr w') : MakeAt w' p base u t k kt N rv Z y :=
  h.chg (Chg.of_below (S := fun _ => False) hb fun j hj hB => absurd hj (by omega)) fun _ e => e.elim
theorem MakeAt.mid {wr wa w4 : World} {p base : Nat} {u t : Value} {k kt N : Nat} {rv : Nat → Value} {Z : Nat → Nat → Int} {y : Nat → Int} {r : Option Nat} (h : MakeAt wr p base u t k kt N rv Z y) (ha : Chg (fun _ => False) wr wa) (hg : wa.grownBy w4 r) (hr : ∀ g, r = some g → base ≤ g) : Chg (fun j => base ≤ j) wr w4 ∧ TwoAt w4 p u t := by
  have hp := h.pb
  have hc : Chg (fun j => base ≤ j) wr w4 := (ha.mono fun _ e => e.elim).trans (Chg.of_grown hg hr)
  exact ⟨hc, hc.two h.box (by show ¬ base ≤ p; omega)⟩
/-- One opposite more. -/
theorem MakeAt.more {wr wa w4 : World} {p base : Nat} {u t v' : Value} {k kt N : Nat} {rv : Nat → Value} {Z : Nat → Nat → Int} {y : Nat → Int} {x : Int} (h : MakeAt wr p base u t k kt N rv Z y) (ha : Chg (fun _ => False) wr wa)
    (hx : 0 ≤ x ∧ x < (N : Int)) (hown : w4.ownsRow base 3 1 v' (kt + 1) ((List.range kt).map (fun c => .int .i64 (y c)) ++ [.int .i64 x])) (hg : wa.grownBy w4 t.ownBlock) (hat : v'.ownBlock = t.ownBlock ∨ v'.ownBlock = some wa.heap.size) :
    MakeAt (w4.setCell ⟨p, 1, none⟩ v') p base u v' k (kt + 1) N rv Z (fun c => if c = kt then x else y c) ∧ Chg (fun j => j = p ∨ base ≤ j) wr (w4.setCell ⟨p, 1, none⟩ v') := by
  have hp := h.pb
  have hl := h.lt
  obtain ⟨hc, hb4⟩ := h.mid ha hg (ownsRow_block h.ints)
  have hs := Chg.set (S := fun j => j = p) (w := w4) (i := 1) rfl v'
  have hb := fun {e : TypeId} {n : Nat} {v : Value} {xs : List Value} (ho : w4.ownsRow base e 1 v n xs) => hs.own ho fun g hg e => by
    have h1 := ownsRow_block ho g hg
    have e' : g = p := e
    omega
  have ho1 : ∀ r, r < k → wa.ownsRow base 3 1 (rv r) N ((List.range N).map fun c => .int .i64 (Z r c)) := fun r hr => ha.own (h.out.row r hr) fun _ _ e => e
  have hot : wa.ownsRow base 25 1 u k ((List.range k).map rv) := ha.own h.out.top fun _ _ e => e
  have hit : wa.ownsRow base 3 1 t kt ((List.range kt).map fun c => .int .i64 (y c)) := ha.own h.ints fun _ _ e => e
  refine ⟨⟨hp, hb4.set1 v', ⟨hb (owns_not hot hg (owns_apart hot hit (by decide))), fun r hr => hb (owns_not (ho1 r hr) hg ((h.sep r hr).symm)), h.out.apart, h.out.bit⟩, hb (IntsAt.step hown), fun r hr => ?_, fun c hc => ?_⟩, (hc.mono fun j hj => .inr hj).trans (hs.mono fun j hj => .inl hj)⟩
  · rcases hat with e | e
    · rw [e]; exact h.sep r hr
    · left
      rw [e]
      intro e2
      have := own_lt (ho1 r hr) _ e2
      omega
  · by_cases e : c = kt
    · rw [if_pos e]; exact hx
    · rw [if_neg e]; exact h.rng c (by omega)
/-- One row more, made since. -/
theorem MakeAt.row {wo wi w4 : World} {p base : Nat} {u t v' u5 : Value} {k kt N : Nat} {rv : Nat → Value} {Z : Nat → Nat → Int} {y : Nat → Int} {z : Nat → Int} {o : Obj} (h : MakeAt wo p base u t k kt N rv Z y) (hbs : base ≤ wo.heap.size) (hi : Below wo.heap.size wo wi)
    (hu : IntsAt wi wo.heap.size u5 N z) (hz : ∀ c, c < N → 0 ≤ z c ∧ z c ≤ 2) (hown : w4.ownsRow base 25 1 v' (k + 1) ((List.range k).map rv ++ [u5])) (hg : (wi.alloc o).grownBy w4 u.ownBlock) (hN : 0 < N) :
    MakeAt (w4.setCell ⟨p, 0, none⟩ v') p base v' t (k + 1) kt N (fun r => if r = k then u5 else rv r) (fun r c => if r = k then z c else Z r c) y ∧ Chg (fun j => j = p ∨ base ≤ j) wo (w4.setCell ⟨p, 0, none⟩ v') := by
  have hp := h.pb
  have hl := h.lt
  have hm := h.below hi
  obtain ⟨gk, ck, rfl, hgk, hgl, _⟩ := hu.val hN
  have hne : ∀ r, r < k → (rv r).ownBlock ≠ (Value.slice (some ⟨gk, 0, none⟩) N ck).ownBlock := fun r hr e => by
    have h1 := own_lt (h.out.row r hr) gk (by rw [e]; rfl)
    omega
  have hO := hm.out.append (ownsRow_base hu hbs) hz hne hown hg
  have ha := Chg.alloc (fun _ => False) wi o
  obtain ⟨hc, hb4⟩ := hm.mid ha hg (ownsRow_block hm.out.top)
  have hit := ha.own hm.ints fun _ _ e => e
  have hot := ha.own hm.out.top fun _ _ e => e
  have hi4 : w4.ownsRow base 3 1 t kt ((List.range kt).map fun c => .int .i64 (y c)) := owns_not hit hg (owns_apart hit hot (by decide))
  have hs := Chg.set (S := fun j => j = p) (w := w4) (i := 0) rfl v'
  have nob : ∀ {e : TypeId} {n : Nat} {v : Value} {xs : List Value}, w4.ownsRow base e 1 v n xs → ∀ g, v.ownBlock = some g → ¬ (fun j => j = p) g := fun ho g hg e => by
    have h1 := ownsRow_block ho g hg
    have e' : g = p := e
    omega
  refine ⟨⟨hp, hb4.set0 v', hs.out hO (nob hO.top) (fun r hr => nob (hO.row r hr)), hs.own hi4 (nob hi4), fun r hr => ?_, h.rng⟩, ((Chg.of_below (S := fun j => j = p ∨ base ≤ j) hi (fun j hj hB => absurd hj (by omega))).trans (hc.mono fun j hj => .inr hj)).trans (hs.mono fun j hj => .inl hj)⟩
  by_cases e : r = k
  · simp only [if_pos e]
    left
    intro e2
    have h1 := own_lt h.ints gk (by rw [← e2]; rfl)
    omega
  · simp only [if_neg e]
    exact h.sep r (by omega)
/-- Where a square of numbers lies: one of them. -/
theorem LogAt.one {w : World} {B : Nat} {ua : Option Addr} {l : Lay} {n : Nat} {Z : Nat → Nat → Int} {na : Option Addr} {g o k : Nat} {z : Nat → Int} (h : LogAt w B ua l ⟨n, fun _ => n, Z⟩ na g o k z) {r c : Nat} (hr : r < n) (hc : c < n) :
    w.cell? ⟨l.b, l.o + r, none⟩ = some (.slice (some ⟨l.G r, l.O r, none⟩) n (l.C r)) ∧ w.cell? ⟨l.G r, l.O r + c, none⟩ = some (.int .i64 (Z r c)) := by
  obtain ⟨_, _, h1⟩ := h.mat.top r hr
  obtain ⟨h2, _, h3⟩ := h.mat.row r hr c hc
  rw [h2] at h1
  exact ⟨h1, h3⟩
/-- All rows and opposites are there. -/
theorem MakeAt.made {wr : World} {p base : Nat} {u t : Value} {N : Nat} {rv : Nat → Value} {Z : Nat → Nat → Int} {y : Nat → Int} (h : MakeAt wr p base u t N N N rv Z y) (h1 : 1 ≤ N) (h2 : N ≤ 12) : LogO wr base u t N rv Z y :=
  ⟨h1, h2, h.out, h.ints, fun r hr => (h.sep r hr).elim id fun e => by
    obtain ⟨g, cap, e1, _⟩ := h.out.bigN hr (by omega)
    rw [e1] at e
    exact absurd e (by simp [Value.ownBlock]), h.rng⟩
end Go.Proofs.Ytgjacinolenheaa
