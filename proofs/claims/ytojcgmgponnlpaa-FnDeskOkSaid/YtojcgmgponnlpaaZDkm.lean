import Derived.Test.YtojcgmgponnlpaaZVe
import Derived.Test.YtojcgmgponnlpaaZMath
import Derived.Test.YtojcgmgponnlpaaZYi
import Derived.Test.YtojcgmgponnlpaaZDko
namespace Go.Proofs.Ytojcgmgponnlpaa
open Go.RowKit Go.Deep

def gLo (m : Mx) : Nat := (leastI m).toNat
def gN (m0 m1 : Mx) : Nat := (m0.n - 2) + (m1.n - 2) + 2
def gF (m : Mx) (y : Nat → Nat) : Nat → Nat := innerF (gLo m) (y (gLo m)) m.n
def gV0 (m0 m1 : Mx) (y0 : Nat → Nat) (c : Nat) : Int := (spreadL (gLo m0) (y0 (gLo m0)) m0.n 0 (m1.n - 2))[c]?.getD 0
def gV1 (m0 m1 : Mx) (y1 : Nat → Nat) (c : Nat) : Int := (spreadL (gLo m1) (y1 (gLo m1)) m1.n (m0.n - 2) 0)[c]?.getD 0
def gZ (m0 m1 : Mx) (y0 y1 : Nat → Nat) : Nat → Nat → Int := gluedZ (m0.n - 2) (m1.n - 2) m0.Z m1.Z (gF m0 y0) (gF m1 y1)
def gY (m0 m1 : Mx) (y0 y1 : Nat → Nat) (x : Nat) : Nat := gluedYv y0 y1 (gV0 m0 m1 y0) (gV1 m0 m1 y1) (gN m0 m1) x
def gOk (m0 m1 : Mx) : Bool := decide (2 ≤ m0.n) && decide (2 ≤ m1.n)
/-- All that is known of two logics to be glued. -/
structure Glue (m0 m1 : Mx) (y0 y1 : Nat → Nat) (o0 o1 : Nat) : Prop where
  a0 : SpotA (gV0 m0 m1 y0) (m0.n - 2) (m1.n - 2) o0 (y0 o0) (gF m0 y0)
  a1 : SpotB (gV1 m0 m1 y1) (m0.n - 2) (m1.n - 2) o1 (y1 o1) (gF m1 y1)
  e0 : Ends m0 o0 (y0 o0)
  e1 : Ends m1 o1 (y1 o1)
  i0 : Inner m0.n o0 (y0 o0) (m0.n - 2) (gF m0 y0)
  i1 : Inner m1.n o1 (y1 o1) (m1.n - 2) (gF m1 y1)
  d0 : LogicData m0.n m0.Z y0 o0
  d1 : LogicData m1.n m1.Z y1 o1
  q0 : (innerTo o0 (y0 o0) m0.n).length = m0.n - 2
  q1 : (innerTo o1 (y1 o1) m1.n).length = m1.n - 2
  l0 : gLo m0 = o0
  l1 : gLo m1 = o1
theorem Ortho.lo {m : Mx} {z : Nat → Int} {y : Nat → Nat} {o : Nat} (h : Ortho m z y o) : gLo m = o := by unfold gLo; rw [h.eq]; simp
theorem glue_of {m0 m1 : Mx} {z0 z1 : Nat → Int} {y0 y1 : Nat → Nat} {o0 o1 : Nat} (h0 : Ortho m0 z0 y0 o0) (h1 : Ortho m1 z1 y1 o1) (n0 : 2 ≤ m0.n) (n1 : 2 ≤ m1.n) : Glue m0 m1 y0 y1 o0 o1 := by
  have l0 := h0.lo
  have l1 := h1.lo
  have d0 := h0.data
  have d1 := h1.data
  have e0 := d0.ends n0
  have e1 := d1.ends n1
  have i0 := inner_is e0.ho e0.ht e0.ne.symm
  have i1 := inner_is e1.ho e1.ht e1.ne.symm
  have q0 : (innerTo o0 (y0 o0) m0.n).length = m0.n - 2 := by have := i0.len; omega
  have q1 : (innerTo o1 (y1 o1) m1.n).length = m1.n - 2 := by have := i1.len; omega
  have f0 : gF m0 y0 = innerF o0 (y0 o0) m0.n := by unfold gF; rw [l0]
  have f1 : gF m1 y1 = innerF o1 (y1 o1) m1.n := by unfold gF; rw [l1]
  have v0 : gV0 m0 m1 y0 = fun c => (spreadL o0 (y0 o0) m0.n 0 (m1.n - 2))[c]?.getD 0 := by funext c; unfold gV0; rw [l0]
  have v1 : gV1 m0 m1 y1 = fun c => (spreadL o1 (y1 o1) m1.n (m0.n - 2) 0)[c]?.getD 0 := by funext c; unfold gV1; rw [l1]
  rw [q0] at i0
  rw [q1] at i1
  exact ⟨by rw [v0, f0]; exact spotA q0, by rw [v1, f1]; exact spotB q1, e0, e1, by rw [f0]; exact i0, by rw [f1]; exact i1, d0, d1, q0, q1, l0, l1⟩
section
variable {m0 m1 : Mx} {y0 y1 : Nat → Nat} {o0 o1 : Nat}
theorem Glue.opp (g : Glue m0 m1 y0 y1 o0 o1) : gY m0 m1 y0 y1 0 = m0.n - 2 + (m1.n - 2) + 1 ∧ gY m0 m1 y0 y1 (m0.n - 2 + (m1.n - 2) + 1) = 0 ∧ SideY (m0.n - 2) 0 (gF m0 y0) y0 (gY m0 m1 y0 y1) ∧ SideY (m1.n - 2) (m0.n - 2) (gF m1 y1) y1 (gY m0 m1 y0 y1) ∧
    (∀ x, x < gN m0 m1 → 0 ≤ gV0 m0 m1 y0 x → viewY y0 (gV0 m0 m1 y0) (gN m0 m1) x = (gY m0 m1 y0 y1 x : Int)) ∧
    (∀ x, x < gN m0 m1 → ¬ 0 ≤ gV0 m0 m1 y0 x → 0 ≤ gV1 m0 m1 y1 x ∧ viewY y1 (gV1 m0 m1 y1) (gN m0 m1) x = (gY m0 m1 y0 y1 x : Int)) ∧ ∀ x, x < gN m0 m1 → gY m0 m1 y0 y1 x < gN m0 m1 := by
  obtain ⟨⟨b1, b2⟩, ⟨t1, t2⟩, hA, hB⟩ := glued_Y g.e0.ne g.e1.ne g.d0 g.d1 g.a0 g.a1 g.i0 g.i1
  have y_bot : gY m0 m1 y0 y1 0 = m0.n - 2 + (m1.n - 2) + 1 := by unfold gY gluedYv gN; rw [if_pos b1, b2]; omega
  have y_top : gY m0 m1 y0 y1 (m0.n - 2 + (m1.n - 2) + 1) = 0 := by unfold gY gluedYv gN; rw [if_pos t1, t2]; omega
  have y_A : ∀ i j, 0 ≤ gV0 m0 m1 y0 (i + 1) → viewY y0 (gV0 m0 m1 y0) (m0.n - 2 + (m1.n - 2) + 2) (i + 1) = ((j + 1 : Nat) : Int) → gY m0 m1 y0 y1 (i + 1) = j + 1 := fun i j h1 h2 => by unfold gY gluedYv gN; rw [if_pos h1, h2]; omega
  have y_B : ∀ i j, ¬ 0 ≤ gV0 m0 m1 y0 (m0.n - 2 + i + 1) → viewY y1 (gV1 m0 m1 y1) (m0.n - 2 + (m1.n - 2) + 2) (m0.n - 2 + i + 1) = ((m0.n - 2 + j + 1 : Nat) : Int) → gY m0 m1 y0 y1 (m0.n - 2 + i + 1) = m0.n - 2 + j + 1 := fun i j h1 h2 => by unfold gY gluedYv gN; rw [if_neg h1, h2]; omega
  refine ⟨y_bot, y_top, ⟨fun i hi => ?_⟩, ⟨fun i hi => ?_⟩, fun x hx h0 => ?_, fun x hx h0 => ?_, fun x hx => ?_⟩
  · obtain ⟨j, hj, e, h1, h2⟩ := hA i hi
    refine ⟨j, hj, ?_, e⟩
    rw [show 0 + i + 1 = i + 1 by omega, show 0 + j + 1 = j + 1 by omega]
    exact y_A i j h1 h2
  · obtain ⟨j, hj, e, h1, h2, h3⟩ := hB i hi
    exact ⟨j, hj, y_B i j h1 h3, e⟩
  · rcases stands (m0.n - 2) (m1.n - 2) x hx with rfl | rfl | ⟨i, hi, rfl⟩ | ⟨i, hi, rfl⟩
    · rw [y_bot]; exact b2
    · rw [y_top]; exact t2
    · obtain ⟨j, hj, e, h1, h2⟩ := hA i hi
      rw [y_A i j h1 h2]; exact h2
    · obtain ⟨j, hj, e, h1, h2, h3⟩ := hB i hi
      exact absurd h0 h1
  · rcases stands (m0.n - 2) (m1.n - 2) x hx with rfl | rfl | ⟨i, hi, rfl⟩ | ⟨i, hi, rfl⟩
    · exact absurd b1 h0
    · exact absurd t1 h0
    · obtain ⟨j, hj, e, h1, h2⟩ := hA i hi
      exact absurd h1 h0
    · obtain ⟨j, hj, e, h1, h2, h3⟩ := hB i hi
      exact ⟨h2, by rw [y_B i j h1 h3]; exact h3⟩
  · unfold gN at hx ⊢
    rcases stands (m0.n - 2) (m1.n - 2) x hx with rfl | rfl | ⟨i, hi, rfl⟩ | ⟨i, hi, rfl⟩
    · rw [y_bot]; omega
    · rw [y_top]; omega
    · obtain ⟨j, hj, e, h1, h2⟩ := hA i hi
      rw [y_A i j h1 h2]; omega
    · obtain ⟨j, hj, e, h1, h2, h3⟩ := hB i hi
      rw [y_B i j h1 h3]; omega
/-- Glued logics are logics. -/
theorem Glue.data (g : Glue m0 m1 y0 y1 o0 o1) (h : gN m0 m1 ≤ 12) : LogicData (gN m0 m1) (gZ m0 m1 y0 y1) (gY m0 m1 y0 y1) 0 := by
  obtain ⟨h1, h2, h3, h4, _⟩ := g.opp
  exact glued_data g.d0 g.d1 g.i0 g.i1 h h1 h2 h3 h4
end

end Go.Proofs.Ytojcgmgponnlpaa
namespace Go.Proofs.Ytojcgmgponnlpaa

namespace OL
variable {α : Type} {L : OL α}
end OL

section
variable {m : Mx} {z : Nat → Int} {y : Nat → Nat} {o : Nat}
end

section
variable {m : Mx} {z : Nat → Int} {y : Nat → Nat} {o : Nat}
end
end Go.Proofs.Ytojcgmgponnlpaa
namespace Go.Proofs.Ytojcgmgponnlpaa

namespace OL
variable {α : Type} {L : OL α}
def hk (L : OL α) (a b : α) : α := L.j (L.c a) (L.m a b)
end OL

section
variable {m : Mx} {z : Nat → Int} {y : Nat → Nat} {o : Nat}
end

def maxTo (f : Nat → Nat) : Nat → Nat
  | 0 => 0
  | k + 1 => max (maxTo f k) (f k)
def hN (m : Mx) : Nat → Nat → Nat
  | 0, _ => 0
  | s + 1, a => maxTo (fun k => if (k != a && leB m k a) = true then hN m s k + 1 else 0) m.n
section
variable {m : Mx} {z : Nat → Int} {y : Nat → Nat} {o : Nat}
end
end Go.Proofs.Ytojcgmgponnlpaa
namespace Go.Proofs.Ytojcgmgponnlpaa

/-- The law by the order alone: of two different answers, one below the other one, the upper one has something apart from the lower one. -/
theorem keeps_order {n o : Nat} {Z : Nat → Nat → Int} {y : Nat → Nat} (h : LogicData n Z y o) :
    keepsB ⟨n, fun _ => n, Z⟩ y = true ↔ ∀ a b, a < n → b < n → a ≠ b → Z a b = 1 → ∃ c, c < n ∧ c ≠ o ∧ Z c b = 1 ∧ Z c (y a) = 1 := by
  have hO := h.ortho
  constructor
  · intro hk a b ha hb hne hab
    apply Classical.byContradiction
    intro hno
    have hG := hO.mG hb (h.lt a ha)
    have he : mN ⟨n, fun _ => n, Z⟩ b (y a) = o := by
      apply Classical.byContradiction
      intro hne2
      have l1 : Z (mN ⟨n, fun _ => n, Z⟩ b (y a)) b = 1 := hO.ol.ml ⟨b, hb⟩ ⟨y a, h.lt a ha⟩
      have l2 : Z (mN ⟨n, fun _ => n, Z⟩ b (y a)) (y a) = 1 := hO.ol.mr ⟨b, hb⟩ ⟨y a, h.lt a ha⟩
      exact hno ⟨_, hG.lt, hne2, l1, l2⟩
    have e2 := hO.broken (a := a) (b := b) ha hne hab he
    have e3 := allB_is (allB_is hk a ha) b hb
    rw [e2] at e3
    cases e3
  · intro hc
    refine hO.unbroken fun a b ha hb hne hab he => ?_
    obtain ⟨c, hcn, hco, h1, h2⟩ := hc a b ha hb hne hab
    have hle : hO.ol.le ⟨c, hcn⟩ (hO.ol.m ⟨b, hb⟩ ⟨y a, h.lt a ha⟩) := hO.ol.mg h1 h2
    have hle2 : Z c (mN ⟨n, fun _ => n, Z⟩ b (y a)) = 1 := hle
    rw [he] at hle2
    exact hco (h.anti c o hcn h.ho hle2 (h.least c hcn))
/-- Products keep the law if both do. -/
theorem times_keeps {n1 n2 o1 o2 : Nat} {Z1 Z2 : Nat → Nat → Int} {y1 y2 : Nat → Nat} (h1 : LogicData n1 Z1 y1 o1) (h2 : LogicData n2 Z2 y2 o2) (hn : n1 * n2 ≤ 12)
    (k1 : keepsB ⟨n1, fun _ => n1, Z1⟩ y1 = true) (k2 : keepsB ⟨n2, fun _ => n2, Z2⟩ y2 = true) : keepsB ⟨n1 * n2, fun _ => n1 * n2, timesZ n2 Z1 Z2⟩ (timesY n2 y1 y2) = true := by
  have g1 := (keeps_order h1).1 k1
  have g2 := (keeps_order h2).1 k2
  refine (keeps_order (times_data h1 h2 hn)).2 fun a b ha hb hne hab => ?_
  obtain ⟨a1, a2, ae⟩ := pair_parts ha
  obtain ⟨b1, b2, be⟩ := pair_parts hb
  have hab2 := (bits_mul (h1.bit (a / n2) (b / n2) a1 b1) (h2.bit (a % n2) (b % n2) a2 b2)).2.1 hab
  have ly : (timesY n2 y1 y2 a) / n2 = y1 (a / n2) ∧ (timesY n2 y1 y2 a) % n2 = y2 (a % n2) := ⟨div_pair (h2.lt _ a2), mod_pair (h2.lt _ a2)⟩
  have key : ∀ c d, c < n1 → d < n2 → Z1 c (b / n2) = 1 → Z1 c (y1 (a / n2)) = 1 → Z2 d (b % n2) = 1 → Z2 d (y2 (a % n2)) = 1 →
      timesZ n2 Z1 Z2 (c * n2 + d) b = 1 ∧ timesZ n2 Z1 Z2 (c * n2 + d) (timesY n2 y1 y2 a) = 1 := fun c d _ hd u1 u2 u3 u4 => by
    unfold timesZ
    rw [div_pair hd, mod_pair hd, ly.1, ly.2, u1, u2, u3, u4]
    exact ⟨rfl, rfl⟩
  have inj : ∀ c d, d < n2 → c * n2 + d = o1 * n2 + o2 → c = o1 ∧ d = o2 := fun c d hd e => by
    have e1 : (c * n2 + d) / n2 = (o1 * n2 + o2) / n2 := by rw [e]
    have e2 : (c * n2 + d) % n2 = (o1 * n2 + o2) % n2 := by rw [e]
    rw [div_pair hd, div_pair h2.ho] at e1
    rw [mod_pair hd, mod_pair h2.ho] at e2
    exact ⟨e1, e2⟩
  by_cases e1 : a / n2 = b / n2
  · have e2 : a % n2 ≠ b % n2 := fun e => hne (by rw [ae, be, e1, e])
    obtain ⟨d, hd, hdo, u1, u2⟩ := g2 _ _ a2 b2 e2 hab2.2
    obtain ⟨v1, v2⟩ := key o1 d h1.ho hd (h1.least _ b1) (h1.least _ (h1.lt _ a1)) u1 u2
    exact ⟨o1 * n2 + d, pair_lt h1.ho hd, fun e => hdo (inj _ _ hd e).2, v1, v2⟩
  · obtain ⟨c, hc, hco, u1, u2⟩ := g1 _ _ a1 b1 e1 hab2.1
    obtain ⟨v1, v2⟩ := key c o2 hc h2.ho u1 u2 (h2.least _ b2) (h2.least _ (h2.lt _ a2))
    exact ⟨c * n2 + o2, pair_lt hc h2.ho, fun e => hco (inj _ _ h2.ho e).1, v1, v2⟩
/-- What is glued keeps the law if both do. -/
theorem glued_keeps {n1 n2 o1 o2 p r : Nat} {Z1 Z2 : Nat → Nat → Int} {y1 y2 f1 f2 g : Nat → Nat} (h1 : LogicData n1 Z1 y1 o1) (h2 : LogicData n2 Z2 y2 o2) (i1 : Inner n1 o1 (y1 o1) p f1) (i2 : Inner n2 o2 (y2 o2) r f2) (hn : p + r + 2 ≤ 12)
    (g0 : g 0 = p + r + 1) (gT : g (p + r + 1) = 0) (gA : SideY p 0 f1 y1 g) (gB : SideY r p f2 y2 g)
    (k1 : keepsB ⟨n1, fun _ => n1, Z1⟩ y1 = true) (k2 : keepsB ⟨n2, fun _ => n2, Z2⟩ y2 = true) : keepsB ⟨p + r + 2, fun _ => p + r + 2, gluedZ p r Z1 Z2 f1 f2⟩ g = true := by
  have q1 := (keeps_order h1).1 k1
  have q2 := (keeps_order h2).1 k2
  have up1 : ∀ c, c < n1 → Z1 c (y1 o1) = 1 := fun c hc => by
    have := h1.turn o1 (y1 c) h1.ho (h1.lt c hc) (h1.least _ (h1.lt c hc))
    rwa [h1.inv c hc] at this
  have up2 : ∀ c, c < n2 → Z2 c (y2 o2) = 1 := fun c hc => by
    have := h2.turn o2 (y2 c) h2.ho (h2.lt c hc) (h2.least _ (h2.lt c hc))
    rwa [h2.inv c hc] at this
  have hD := glued_data h1 h2 i1 i2 hn g0 gT gA gB
  refine (keeps_order hD).2 fun a b ha hb hne hab => ?_
  rcases stands p r a ha with rfl | rfl | ⟨i, hi, rfl⟩ | ⟨i, hi, rfl⟩
  · exact ⟨b, hb, fun e => hne e.symm, hD.refl b hb, by rw [g0]; exact gz_top b⟩
  · exfalso
    rcases stands p r b hb with rfl | rfl | ⟨j, hj, rfl⟩ | ⟨j, hj, rfl⟩
    · rw [gz_T0] at hab; omega
    · exact hne rfl
    · rw [gz_TA hj] at hab; omega
    · rw [gz_TB hj] at hab; omega
  · rcases stands p r b hb with rfl | rfl | ⟨j, hj, rfl⟩ | ⟨j, hj, rfl⟩
    · rw [gz_A0 hi] at hab; omega
    · obtain ⟨k, hk, e1, _⟩ := gA.at_ i hi
      have e2 : g (i + 1) = k + 1 := by rw [show i + 1 = 0 + i + 1 by omega, e1]; omega
      refine ⟨k + 1, by omega, by omega, gz_top _, ?_⟩
      rw [e2, gz_AA hk hk]
      exact h1.refl _ (i1.lt k hk)
    · rw [gz_AA hi hj] at hab
      have hne2 : f1 i ≠ f1 j := fun e => hne (by rw [i1.inj i j hi hj e])
      obtain ⟨c, hc, hco, u1, u2⟩ := q1 _ _ (i1.lt i hi) (i1.lt j hj) hne2 hab
      have hct : c ≠ y1 o1 := fun e => by
        rw [e] at u1
        exact i1.nhi j hj (h1.anti _ _ (i1.lt j hj) (h1.lt _ h1.ho) (up1 _ (i1.lt j hj)) u1)
      obtain ⟨k, hk, rfl⟩ := i1.all c hc hco hct
      obtain ⟨q, hq, e1, e3⟩ := gA.at_ i hi
      have e2 : g (i + 1) = q + 1 := by rw [show i + 1 = 0 + i + 1 by omega, e1]; omega
      refine ⟨k + 1, by omega, by omega, by rw [gz_AA hk hj]; exact u1, ?_⟩
      rw [e2, gz_AA hk hq, e3]
      exact u2
    · rw [gz_AB hi hj] at hab; omega
  · rcases stands p r b hb with rfl | rfl | ⟨j, hj, rfl⟩ | ⟨j, hj, rfl⟩
    · rw [gz_B0 hi] at hab; omega
    · obtain ⟨k, hk, e1, _⟩ := gB.at_ i hi
      refine ⟨p + k + 1, by omega, by omega, gz_top _, ?_⟩
      rw [e1, gz_BB hk hk]
      exact h2.refl _ (i2.lt k hk)
    · rw [gz_BA hi hj] at hab; omega
    · rw [gz_BB hi hj] at hab
      have hne2 : f2 i ≠ f2 j := fun e => hne (by rw [i2.inj i j hi hj e])
      obtain ⟨c, hc, hco, u1, u2⟩ := q2 _ _ (i2.lt i hi) (i2.lt j hj) hne2 hab
      have hct : c ≠ y2 o2 := fun e => by
        rw [e] at u1
        exact i2.nhi j hj (h2.anti _ _ (i2.lt j hj) (h2.lt _ h2.ho) (up2 _ (i2.lt j hj)) u1)
      obtain ⟨k, hk, rfl⟩ := i2.all c hc hco hct
      obtain ⟨q, hq, e1, e3⟩ := gB.at_ i hi
      refine ⟨p + k + 1, by omega, by omega, by rw [gz_BB hk hj]; exact u1, ?_⟩
      rw [e1, gz_BB hk hq, e3]
      exact u2
end Go.Proofs.Ytojcgmgponnlpaa
namespace Go.Proofs.Ytojcgmgponnlpaa
open Go.RowKit Go.Deep

/-- The least number of a kind. -/
theorem least_of {P : Nat → Prop} {k : Nat} (h : P k) : ∃ t, P t ∧ ∀ u, P u → t ≤ u := by
  apply Classical.byContradiction
  intro hno
  have key : ∀ k, ¬ P k := fun k => Nat.strongRecOn (motive := fun k => ¬ P k) k fun k ih hk => hno ⟨k, hk, fun u hu => by
    apply Classical.byContradiction
    intro hlt
    exact ih u (by omega) hu⟩
  exact key k h
/-- There always is a least closed set. -/
theorem made_exists {m : Mx} {z : Nat → Int} {y : Nat → Nat} {o s : Nat} (h : Ortho m z y o) (hs : s < 2 ^ m.n) : ∃ t, IsMade m y s t := by
  have hfull : Closed m y (2 ^ m.n - 1) ∧ Sub s (2 ^ m.n - 1) ∧ 2 ^ m.n - 1 < 2 ^ m.n :=
    ⟨⟨fun a b ha hb _ _ => full_bit (h.mG ha hb).lt, fun a ha _ => full_bit (h.lt a ha)⟩, sub_full hs, by have := Nat.two_pow_pos m.n; omega⟩
  obtain ⟨t, ⟨hc, hst, hlt⟩, hl⟩ := least_of (P := fun t => Closed m y t ∧ Sub s t ∧ t < 2 ^ m.n) hfull
  refine ⟨t, hst, hlt, hc, fun u hu hsu a ga => ?_⟩
  have hle : t &&& u ≤ t := Nat.and_le_left
  have h1 : t ≤ t &&& u := hl _ ⟨⟨fun a b ha hb ga gb => by
      rw [Nat.testBit_and, Bool.and_eq_true] at ga gb ⊢
      exact ⟨hc.meet a b ha hb ga.1 gb.1, hu.meet a b ha hb ga.2 gb.2⟩, fun a ha ga => by
      rw [Nat.testBit_and, Bool.and_eq_true] at ga ⊢
      exact ⟨hc.not a ha ga.1, hu.not a ha ga.2⟩⟩, fun a ga => by rw [Nat.testBit_and, Bool.and_eq_true]; exact ⟨hst a ga, hsu a ga⟩, by omega⟩
  have e : t &&& u = t := by omega
  have g2 : (t &&& u).testBit a = true := by rw [e]; exact ga
  rw [Nat.testBit_and, Bool.and_eq_true] at g2
  exact g2.2

noncomputable def glueB (c d : Lc) : Bool := c.ok && d.ok && gOk c.m d.m && decide (gN c.m d.m ≤ 12)
noncomputable def glueC (c d : Lc) : Option Lc := if glueB c d = true then some (Lc.of (gN c.m d.m) (gZ c.m d.m c.y d.y) (gY c.m d.m c.y d.y)) else none
noncomputable def timesB (c d : Lc) : Bool := c.ok && d.ok && decide (c.m.n * d.m.n ≤ 12)
noncomputable def timesC (c d : Lc) : Option Lc := if timesB c d = true then some (Lc.of (c.m.n * d.m.n) (timesZ d.m.n c.m.Z d.m.Z) (timesY d.m.n c.y d.y)) else none
def twoBits (a b : Int) : Nat := 2 ^ a.toNat ||| 2 ^ b.toNat
noncomputable def partN (c : Lc) (a b : Int) : Int := madeV c.m c.k c.z (twoBits a b : Int)
noncomputable def partB (c : Lc) (a b : Int) : Bool := c.ok && goodB c.m.n 2 (two a b)
noncomputable def partL (c : Lc) (s : Int) : Lc := Lc.of (memK s.toNat 12) (nameZ c.m.Z (memF s.toNat 12)) (partY c.y (memF s.toNat 12) (memB s.toNat 12))
noncomputable def partC (c : Lc) (a b : Int) : Option Lc := if partB c a b = true then some (partL c (partN c a b)) else none
/-- What a deed makes of a logic. -/
noncomputable def mkC (c : Lc) (a : Dd) : Option Lc :=
  if a.k = 0 ∧ a.b = 0 then glueC c (setsC a.a)
  else if a.k = 1 ∧ a.b = 0 then timesC c (setsC a.a)
  else if a.k = 2 ∧ a.a = 0 ∧ a.b = 0 then glueC c ringC
  else if a.k = 3 then partC c a.a a.b
  else none
theorem glueC_no {c d : Lc} (h : d.ok = false) : glueC c d = none := by
  unfold glueC glueB
  rw [h, Bool.and_false, Bool.false_and, Bool.false_and, if_neg (by decide)]
theorem timesC_no {c d : Lc} (h : d.ok = false) : timesC c d = none := by
  unfold timesC timesB
  rw [h, Bool.and_false, Bool.false_and, if_neg (by decide)]
theorem glueC_is {c d x : Lc} (hc : c.Is) (hd : d.Is) (e : glueC c d = some x) : x.Is ∧ (keepsV c.m c.k c.z = true → keepsV d.m d.k d.z = true → keepsV x.m x.k x.z = true) := by
  unfold glueC at e
  split at e
  · rename_i hb
    obtain ⟨n0, Z0, y0, o0, rfl, h0⟩ := hc
    obtain ⟨n1, Z1, y1, o1, rfl, h1⟩ := hd
    unfold glueB gOk at hb
    simp only [Bool.and_eq_true, decide_eq_true_iff] at hb
    obtain ⟨⟨_, g0, g1⟩, g2⟩ := hb
    have hG := glue_of h0.ortho h1.ortho g0 g1
    have hD := hG.data g2
    cases e
    refine ⟨⟨_, _, _, 0, rfl, hD⟩, fun k0 k1 => ?_⟩
    have k0' : keepsB ⟨n0, fun _ => n0, Z0⟩ y0 = true := by rw [← keepsV_is h0.ortho]; exact k0
    have k1' : keepsB ⟨n1, fun _ => n1, Z1⟩ y1 = true := by rw [← keepsV_is h1.ortho]; exact k1
    obtain ⟨o1, o2, o3, o4, _⟩ := hG.opp
    have := glued_keeps hG.d0 hG.d1 hG.i0 hG.i1 g2 o1 o2 o3 o4 k0' k1'
    exact (keepsV_is hD.ortho).trans this
  · cases e
theorem timesC_is {c d x : Lc} (hc : c.Is) (hd : d.Is) (e : timesC c d = some x) : x.Is ∧ (keepsV c.m c.k c.z = true → keepsV d.m d.k d.z = true → keepsV x.m x.k x.z = true) := by
  unfold timesC at e
  split at e
  · rename_i hb
    obtain ⟨n0, Z0, y0, o0, rfl, h0⟩ := hc
    obtain ⟨n1, Z1, y1, o1, rfl, h1⟩ := hd
    unfold timesB at hb
    simp only [Bool.and_eq_true, decide_eq_true_iff] at hb
    have hD := times_data h0 h1 hb.2
    cases e
    refine ⟨⟨_, _, _, _, rfl, hD⟩, fun k0 k1 => ?_⟩
    have k0' : keepsB ⟨n0, fun _ => n0, Z0⟩ y0 = true := by rw [← keepsV_is h0.ortho]; exact k0
    have k1' : keepsB ⟨n1, fun _ => n1, Z1⟩ y1 = true := by rw [← keepsV_is h1.ortho]; exact k1
    have := times_keeps h0 h1 hb.2 k0' k1'
    exact (keepsV_is hD.ortho).trans this
  · cases e
theorem twoBits_lt {a b : Int} {n : Nat} (ha : 0 ≤ a) (ha2 : a < (n : Int)) (_ : 0 ≤ b) (hb2 : b < (n : Int)) : 1 ≤ twoBits a b ∧ twoBits a b < 2 ^ n := by
  unfold twoBits
  have h1 : 2 ^ a.toNat < 2 ^ n := Nat.pow_lt_pow_right (by decide) (by omega)
  have h2 : 2 ^ b.toNat < 2 ^ n := Nat.pow_lt_pow_right (by decide) (by omega)
  have h3 : 2 ^ a.toNat ≤ 2 ^ a.toNat ||| 2 ^ b.toNat := Nat.left_le_or
  have h4 := Nat.two_pow_pos a.toNat
  exact ⟨by omega, Nat.or_lt_two_pow h1 h2⟩
theorem goodTwo {n : Nat} {a b : Int} (h : goodB n 2 (two a b) = true) : (0 ≤ a ∧ a < (n : Int)) ∧ 0 ≤ b ∧ b < (n : Int) := by
  have h0 := allB_is h 0 (by omega)
  have h1 := allB_is h 1 (by omega)
  simp only [two, Bool.and_eq_true] at h0 h1
  exact ⟨⟨of_decide_eq_true h0.1, of_decide_eq_true h0.2⟩, of_decide_eq_true h1.1, of_decide_eq_true h1.2⟩
/-- The part that two answers make is one. -/
theorem part_sub {c : Lc} (hc : c.Is) {a b : Int} (hg : goodB c.m.n 2 (two a b) = true) : subV c.m c.k c.z (partN c a b) = true := by
  obtain ⟨n, Z, y, o, rfl, h⟩ := hc
  obtain ⟨⟨a1, a2⟩, b1, b2⟩ := goodTwo hg
  obtain ⟨s1, s2⟩ := twoBits_lt a1 a2 b1 b2
  obtain ⟨t, ht⟩ := made_exists h.ortho s2
  have e := madeV_is h.ortho s1 s2 ht
  have t1 : 1 ≤ t := Nat.le_trans s1 ht.has.le
  have e2 := subV_is h.ortho t1 ht.lt
  show subV ⟨n, fun _ => n, Z⟩ n (fun a => (y a : Int)) (madeV ⟨n, fun _ => n, Z⟩ n (fun a => (y a : Int)) (twoBits a b : Int)) = true
  rw [show madeV ⟨n, fun _ => n, Z⟩ n (fun a => (y a : Int)) (twoBits a b : Int) = (t : Int) from e]
  exact e2.trans (closedB_mk ht.closed)
theorem partC_is {c x : Lc} (hc : c.Is) {a b : Int} (e : partC c a b = some x) : x.Is ∧ (keepsV c.m c.k c.z = true → keepsV x.m x.k x.z = true) := by
  unfold partC at e
  split at e
  · rename_i hb
    unfold partB at hb
    rw [Bool.and_eq_true] at hb
    have hs := part_sub hc hb.2
    generalize partN c a b = x at hs e
    obtain ⟨n, Z, y, o, rfl, h⟩ := hc
    unfold subV at hs
    rw [Bool.and_eq_true, Bool.and_eq_true] at hs
    obtain ⟨⟨_, hi⟩, hcl⟩ := hs
    have hO := h.ortho
    obtain ⟨i1, i2⟩ : 1 ≤ x ∧ x < (2 ^ n : Nat) := of_decide_eq_true hi
    obtain ⟨s, rfl⟩ := Int.eq_ofNat_of_zero_le (show 0 ≤ x by omega)
    have j1 : 1 ≤ s := by omega
    have j2 : s < 2 ^ n := by omega
    have hcl : Closed ⟨n, fun _ => n, Z⟩ y s := closedB_is hcl
    have hE : Emb n (memK s 12) s (memF s 12) (memB s 12) := Emb.down h.top j2
    have ho := hcl.no hO j2 j1
    have hk : memK s 12 ≤ 12 := memsTo_len s 12
    have hD := part_data h hcl ho hE hk
    cases e
    refine ⟨⟨_, _, _, _, rfl, hD⟩, fun hkv => ?_⟩
    have hkv2 : keepsB ⟨n, fun _ => n, Z⟩ y = true := by rw [← keepsV_is hO]; exact hkv
    have := part_keeps h hcl ho hE hk hkv2
    exact (keepsV_is hD.ortho).trans this
  · cases e
theorem keeps_sets {t : Int} (h : setsOkB t = true) : keepsV (setsC t).m (setsC t).k (setsC t).z = true := by
  have hI := setsC_is h
  unfold setsC at hI ⊢
  rw [if_pos h] at hI ⊢
  unfold setsOkB at h
  rw [Bool.and_eq_true, decide_eq_true_iff, decide_eq_true_iff] at h
  have hD := sets_data t.toNat (by omega)
  refine (keepsV_is hD.ortho).trans ?_
  rcases (show t.toNat = 0 ∨ t.toNat = 1 ∨ t.toNat = 2 ∨ t.toNat = 3 by omega) with e | e | e | e
  all_goals
    rw [e]
    decide +kernel
theorem mkC_is {c x : Lc} (hc : c.Is) {a : Dd} (e : mkC c a = some x) : x.Is ∧ (a.k ≠ 2 → keepsV c.m c.k c.z = true → keepsV x.m x.k x.z = true) := by
  unfold mkC at e
  split at e
  · cases hs : setsOkB a.a with
    | false => rw [glueC_no (by rw [setsC_ok]; exact hs)] at e; cases e
    | true =>
      obtain ⟨h1, h2⟩ := glueC_is hc (setsC_is hs) e
      exact ⟨h1, fun _ hk => h2 hk (keeps_sets hs)⟩
  · split at e
    · cases hs : setsOkB a.a with
      | false => rw [timesC_no (by rw [setsC_ok]; exact hs)] at e; cases e
      | true =>
        obtain ⟨h1, h2⟩ := timesC_is hc (setsC_is hs) e
        exact ⟨h1, fun _ hk => h2 hk (keeps_sets hs)⟩
    · split at e
      · rename_i hk
        exact ⟨(glueC_is hc ringC_is e).1, fun hne => absurd hk.1 hne⟩
      · split at e
        · obtain ⟨h1, h2⟩ := partC_is hc e
          exact ⟨h1, fun _ => h2⟩
        · cases e
/-- Whether two logics have the same numbers. -/
def sameC (c d : Lc) : Bool := (decide (c.m.n = d.m.n) && allB c.m.n fun r => decide (c.m.L r = d.m.L r) && allB (c.m.L r) fun j => decide (c.m.Z r j = d.m.Z r j)) && (decide (c.k = d.k) && allB c.k fun j => decide (c.z j = d.z j))

noncomputable def stepC (D : Dk Lc) (a : Dd) : Option (Dk Lc) := D.step mkC sameC a
theorem stepC_is {D E : Dk Lc} {a : Dd} (h : D.Is) (e : stepC D a = some E) : E.Is := Dk.step_all (fun _ _ hx hy => (mkC_is hx hy).1) h e
end Go.Proofs.Ytojcgmgponnlpaa
