/- The plain mathematics of projections and hooks, of modular logics, pentagons and heights. -/
import Derived.Test.YtjofkejfldmmlaaDoorMathN
namespace Go.Proofs.YtjofkejfldmmlaaDoor

namespace OL
variable {α : Type} {L : OL α}
/-- The projection on a. -/
def pr (L : OL α) (a b : α) : α := L.m a (L.j (L.c a) b)
def hk (L : OL α) (a b : α) : α := L.j (L.c a) (L.m a b)
theorem j_o (a : α) : L.j a L.o = a := j_le' (L.low a)
theorem o_j (a : α) : L.j L.o a = a := j_le (L.low a)
theorem j_mono {a b d e : α} (h1 : L.le a b) (h2 : L.le d e) : L.le (L.j a d) (L.j b e) := L.jg (L.trans h1 (L.jl _ _)) (L.trans h2 (L.jr _ _))
theorem m_mono {a b d e : α} (h1 : L.le a b) (h2 : L.le d e) : L.le (L.m a d) (L.m b e) := L.mg (L.trans (L.ml _ _) h1) (L.trans (L.mr _ _) h2)
theorem pr_le (a b : α) : L.le (L.pr a b) a := L.ml _ _
theorem pr_no (a : α) : L.pr a L.o = L.o := by unfold pr; rw [j_o, L.apart]
theorem hk_pr (a b : α) : L.c (L.pr a (L.c b)) = L.hk a b := by unfold pr hk; rw [c_m, c_j, L.cc, L.cc]
theorem Keeps.pr_below {a b : α} (k : L.Keeps) (h : L.le b a) : L.pr a b = b := k.dual h
theorem Keeps.pr_again {a b : α} (k : L.Keeps) : L.pr a (L.pr a b) = L.pr a b := k.pr_below (pr_le a b)
/-- What an opposite and an answer join is what the opposite and the projection join. -/
theorem Keeps.j_pr {a b : α} (k : L.Keeps) : L.j (L.c a) (L.pr a b) = L.j (L.c a) b := by
  have h := k (L.c a) (L.j (L.c a) b) (L.jl _ _)
  rw [L.cc, m_comm] at h
  exact h
theorem Keeps.pr_meet {a b : α} (k : L.Keeps) : L.pr a b = L.m a b ↔ L.Ag b a := by
  constructor
  · intro e
    have e1 : L.j (L.c a) b = L.j (L.c a) (L.m a b) := by rw [← k.j_pr, e]
    have hb : L.le (L.m b (L.c (L.m a b))) (L.c a) := by
      have h1 : L.le (L.m b (L.c (L.m a b))) (L.m (L.c (L.m a b)) (L.j (L.m a b) (L.c a))) := by
        refine L.mg (L.mr _ _) (L.trans (L.ml _ _) ?_)
        rw [j_comm, ← e1]
        exact L.jr _ _
      have h2 := k.dual (a := L.c (L.m a b)) (p := L.c a) (L.turn (L.ml a b))
      rw [L.cc] at h2
      rw [h2] at h1
      exact h1
    have h3 := k (L.m a b) b (L.mr a b)
    unfold Ag
    refine L.anti (L.jg (L.ml _ _) (L.ml _ _)) ?_
    have h4 : L.le (L.j (L.m a b) (L.m b (L.c (L.m a b)))) (L.j (L.m b a) (L.m b (L.c a))) := by
      rw [m_comm a b]
      refine j_mono (L.refl _) (L.mg (L.ml _ _) ?_)
      rw [m_comm b a]
      exact hb
    rw [h3] at h4
    exact h4
  · intro h
    exact k.cancel (k.ag h)
theorem Keeps.hk_yes {a b : α} (k : L.Keeps) : L.hk a b = L.c L.o ↔ L.le a b := by
  constructor
  · intro e
    have h := k.dual (L.ml a b)
    have e2 : L.j (L.c a) (L.m a b) = L.c L.o := e
    rw [e2, m_le (top a)] at h
    have := L.mr a b
    rw [← h] at this
    exact this
  · intro h
    unfold hk
    rw [m_le h, j_comm, j_c]
theorem Keeps.m_hk {a b : α} (k : L.Keeps) : L.le (L.m a (L.hk a b)) b := by
  have h := k.dual (L.ml a b)
  have e : L.m a (L.hk a b) = L.m a b := h
  rw [e]
  exact L.mr a b
/-- The projection is below exactly if the answer is below the hook. -/
theorem Keeps.adj {a b d : α} (k : L.Keeps) : L.le (L.pr a b) d ↔ L.le b (L.hk a d) := by
  constructor
  · intro h
    have h1 : L.le b (L.j (L.c a) (L.pr a b)) := by rw [k.j_pr]; exact L.jr _ _
    exact L.trans h1 (j_mono (L.refl _) (L.mg (pr_le a b) h))
  · intro h
    have h1 : L.le (L.pr a b) (L.m a (L.hk a d)) := L.mg (pr_le a b) (L.trans (L.mr _ _) (L.jg (L.jl _ _) h))
    exact L.trans h1 k.m_hk
/-- Projections are turned about. -/
theorem Keeps.pr_turn {a b d : α} (k : L.Keeps) : L.le (L.pr a d) (L.c b) ↔ L.le (L.pr a b) (L.c d) := by
  rw [k.adj, ← hk_pr, L.cc]
  exact ⟨turn', turn'⟩
theorem Keeps.pr_pr {a b d : α} (k : L.Keeps) (h : L.le a b) : L.pr b (L.pr a d) = L.pr a d ∧ L.pr a (L.pr b d) = L.pr a d := by
  refine ⟨k.pr_below (L.trans (pr_le a d) h), ?_⟩
  have e : L.j (L.c a) (L.pr b d) = L.j (L.c a) d := by
    refine L.anti (L.jg (L.jl _ _) (L.trans (L.mr _ _) (j_mono (L.turn h) (L.refl _)))) (L.jg (L.jl _ _) ?_)
    have h1 : L.le d (L.j (L.c b) (L.pr b d)) := by rw [k.j_pr]; exact L.jr _ _
    exact L.trans h1 (j_mono (L.turn h) (L.refl _))
  unfold pr at e ⊢
  rw [e]
theorem Keeps.pr_clear {a b : α} (k : L.Keeps) : L.pr a b = L.o ↔ L.le b (L.c a) := by
  have e : L.hk a L.o = L.c a := by unfold hk; rw [m_le' (L.low a), j_o]
  have h := k.adj (a := a) (b := b) (d := L.o)
  rw [e] at h
  rw [← h]
  exact ⟨fun g => by rw [g]; exact L.refl _, is_o⟩

/-! ### Modular logics -/
def Mod (L : OL α) : Prop := ∀ a b d, L.le a d → L.j a (L.m b d) = L.m (L.j a b) d
theorem Dist.mod (h : L.Dist) : L.Mod := fun a b d had => by
  rw [m_comm (L.j a b) d, h d a b, m_le' had, m_comm b d]
theorem Mod.keeps (h : L.Mod) : L.Keeps := fun a b hab => by
  rw [m_comm b (L.c a), h a (L.c a) b hab, j_c]
  exact m_le' (top b)
/-- Three answers of a pentagon: a below c, and both meet, and join, b in the same answers. -/
def Pent (L : OL α) (a d b : α) : Prop := a ≠ d ∧ L.le a d ∧ L.m a b = L.m d b ∧ L.j a b = L.j d b
theorem Mod.no_pent (h : L.Mod) {a d b : α} (p : L.Pent a d b) : False := by
  obtain ⟨h0, h1, h2, h3⟩ := p
  have e := h a b d h1
  rw [m_comm b d, ← h2, j_le' (L.ml a b), h3, m_comm, m_le (L.jl d b)] at e
  exact h0 e
theorem pent_of {a b d : α} (hd : L.le a d) (hne : L.j a (L.m b d) ≠ L.m (L.j a b) d) : L.Pent (L.j a (L.m b d)) (L.m (L.j a b) d) b := by
  have hle : L.le (L.j a (L.m b d)) (L.m (L.j a b) d) := L.jg (L.mg (L.jl _ _) hd) (L.mg (L.trans (L.ml _ _) (L.jr _ _)) (L.mr _ _))
  refine ⟨hne, hle, L.anti (m_mono hle (L.refl _)) ?_, L.anti (j_mono hle (L.refl _)) ?_⟩
  · refine L.mg ?_ (L.mr _ _)
    exact L.trans (L.mg (L.mr _ _) (L.trans (L.ml _ _) (L.mr _ _))) (L.jr _ _)
  · refine L.jg (L.trans (L.ml _ _) (j_mono (L.jl _ _) (L.refl _))) (L.jr _ _)
/-- One answer stands just below another one. -/
def Cov (L : OL α) (a b : α) : Prop := L.le a b ∧ a ≠ b ∧ ∀ w, L.le a w → L.le w b → w = a ∨ w = b
theorem Mod.cov_up (h : L.Mod) {a b : α} (k : L.Cov (L.m a b) a) : L.Cov b (L.j a b) := by
  obtain ⟨_, k1, k2⟩ := k
  refine ⟨L.jr _ _, fun e => ?_, fun w h1 h2 => ?_⟩
  · have : L.le a b := by rw [e]; exact L.jl _ _
    exact k1 (m_le this)
  · have e := h b a w h1
    rw [j_comm b a, m_le' h2] at e
    rcases k2 (L.m a w) (L.mg (L.ml _ _) (L.trans (L.mr _ _) h1)) (L.ml _ _) with g | g
    · rw [g, j_comm, j_le (L.mr a b)] at e
      exact .inl e.symm
    · rw [g, j_comm] at e
      exact .inr e.symm
theorem Mod.cov_down (h : L.Mod) {a b : α} (k : L.Cov b (L.j a b)) : L.Cov (L.m a b) a := by
  obtain ⟨_, k1, k2⟩ := k
  refine ⟨L.ml _ _, fun e => ?_, fun w h1 h2 => ?_⟩
  · have : L.le a b := by rw [← e]; exact L.mr _ _
    exact k1 (j_le this).symm
  · have e := h w b a h2
    rw [m_comm b a, j_le' h1] at e
    rcases k2 (L.j w b) (L.jr _ _) (j_mono h2 (L.refl _)) with g | g
    · rw [g, m_comm] at e
      exact .inl e
    · rw [g, m_comm, m_le (L.jl a b)] at e
      exact .inr e
/-- A height: longest rows from below. -/
structure High (L : OL α) (f : α → Nat) : Prop where
  up : ∀ a b, L.le a b → a ≠ b → f a < f b
  step : ∀ b, f b ≠ 0 → ∃ a, L.le a b ∧ a ≠ b ∧ f a + 1 = f b
theorem High.cov {f : α → Nat} (h : L.High f) {b : α} (hb : f b ≠ 0) : ∃ a, L.Cov a b ∧ f a + 1 = f b := by
  obtain ⟨a, h1, h2, h3⟩ := h.step b hb
  refine ⟨a, ⟨h1, h2, fun w k1 k2 => ?_⟩, h3⟩
  apply Classical.byContradiction
  intro hn
  have e1 : a ≠ w := fun e => hn (.inl e.symm)
  have e2 : w ≠ b := fun e => hn (.inr e)
  have := h.up a w k1 e1
  have := h.up w b k2 e2
  omega
theorem High.one {f : α → Nat} (h : L.High f) (k : L.Mod) : ∀ (n : Nat) (a b : α), f b ≤ n → L.Cov a b → f a + 1 = f b := by
  intro n
  induction n with
  | zero =>
    intro a b hn c
    have := h.up a b c.1 c.2.1
    omega
  | succ n ih =>
    intro a b hn c
    have hab := h.up a b c.1 c.2.1
    obtain ⟨d, cd, hd⟩ := h.cov (b := b) (by omega)
    by_cases e : a = d
    · rw [e]; exact hd
    · have hj : L.j d a = b := by
        rcases c.2.2 (L.j d a) (L.jr _ _) (L.jg cd.1 c.1) with g | g
        · exfalso
          have hda : L.le d a := by rw [← g]; exact L.jl _ _
          rcases cd.2.2 a hda c.1 with g2 | g2
          · exact e g2
          · exact c.2.1 g2
        · exact g
      have c1 : L.Cov (L.m d a) d := k.cov_down (by rw [hj]; exact c)
      have c2 : L.Cov (L.m a d) a := k.cov_down (by rw [j_comm, hj]; exact cd)
      rw [m_comm] at c2
      have f1 := ih _ _ (by omega) c1
      have f2 := ih _ _ (by omega) c2
      omega
/-- Where the law of modules is kept, heights add up. -/
theorem High.adds {f : α → Nat} (h : L.High f) (k : L.Mod) : ∀ (n : Nat) (a b : α), f a ≤ n → f a + f b = f (L.m a b) + f (L.j a b) := by
  have none : ∀ a b, L.le a b → f a + f b = f (L.m a b) + f (L.j a b) := fun a b hab => by rw [m_le hab, j_le hab]
  intro n
  induction n with
  | zero =>
    intro a b hn
    have : a = L.o := by
      apply Classical.byContradiction
      intro hne
      have := h.up L.o a (L.low a) (fun e => hne e.symm)
      omega
    subst this
    exact none _ _ (L.low b)
  | succ n ih =>
    intro a b hn
    by_cases hab : L.le a b
    · exact none a b hab
    · -- an answer just below a and above the meeting
      have key : ∀ (s : Nat) (u : α), f a - f u ≤ s → L.le u a → u ≠ a → ∃ x, L.Cov x a ∧ L.le u x := by
        intro s
        induction s with
        | zero =>
          intro u hs h1 h2
          have := h.up u a h1 h2
          omega
        | succ s is =>
          intro u hs h1 h2
          by_cases hc : L.Cov u a
          · exact ⟨u, hc, L.refl u⟩
          · obtain ⟨w, w1, w2, w3, w4⟩ : ∃ w, L.le u w ∧ L.le w a ∧ w ≠ u ∧ w ≠ a := by
              apply Classical.byContradiction
              intro hn2
              refine hc ⟨h1, h2, fun w k1 k2 => ?_⟩
              apply Classical.byContradiction
              intro hn3
              exact hn2 ⟨w, k1, k2, fun e => hn3 (.inl e), fun e => hn3 (.inr e)⟩
            have := h.up u w w1 (fun e => w3 e.symm)
            have := h.up w a w2 w4
            obtain ⟨x, x1, x2⟩ := is w (by omega) w2 w4
            exact ⟨x, x1, L.trans w1 x2⟩
      have hm : L.m a b ≠ a := fun e => hab (by rw [← e]; exact L.mr _ _)
      obtain ⟨x, cx, hx⟩ := key _ (L.m a b) (Nat.le_refl _) (L.ml _ _) hm
      have fx := h.one k (f a) x a (Nat.le_refl _) cx
      have i1 := ih x b (by omega)
      have e1 : L.m x b = L.m a b := L.anti (m_mono cx.1 (L.refl _)) (L.mg hx (L.mr _ _))
      have e2 : L.m a (L.j x b) = x := by
        have := k x b a cx.1
        rw [m_comm b a, j_le' hx] at this
        rw [m_comm]
        exact this.symm
      have c2 : L.Cov (L.j x b) (L.j a (L.j x b)) := k.cov_up (by rw [e2]; exact cx)
      have e3 : L.j a (L.j x b) = L.j a b := L.anti (L.jg (L.jl _ _) (j_mono cx.1 (L.refl _))) (j_mono (L.refl _) (L.jr _ _))
      rw [e3] at c2
      have f2 := h.one k _ _ _ (Nat.le_refl _) c2
      rw [e1] at i1
      omega
/-- Where heights add up there is no pentagon. -/
theorem High.mod {f : α → Nat} (h : L.High f) (k : ∀ a b, f a + f b = f (L.m a b) + f (L.j a b)) : L.Mod := fun a b d had => by
  apply Classical.byContradiction
  intro hne
  obtain ⟨p1, p2, p3, p4⟩ := pent_of had hne
  have h1 := k (L.j a (L.m b d)) b
  have h2 := k (L.m (L.j a b) d) b
  have h3 := h.up _ _ p2 p1
  rw [p3, p4] at h1
  omega
end OL

/-! ### Told by numbers: projections -/
def projN (m : Mx) (y : Nat → Nat) (a b : Nat) : Nat := mN m a (jN m (y a) b)
def hookN (m : Mx) (y : Nat → Nat) (a b : Nat) : Nat := jN m (y a) (mN m a b)
section
variable {m : Mx} {z : Nat → Int} {y : Nat → Nat} {o : Nat}
theorem Ortho.proj_lt (h : Ortho m z y o) {a b : Nat} (ha : a < m.n) (hb : b < m.n) : projN m y a b < m.n := (h.ol.pr ⟨a, ha⟩ ⟨b, hb⟩).2
theorem Ortho.hook_lt (h : Ortho m z y o) {a b : Nat} (ha : a < m.n) (hb : b < m.n) : hookN m y a b < m.n := (h.ol.hk ⟨a, ha⟩ ⟨b, hb⟩).2
theorem Ortho.proj_le (h : Ortho m z y o) {a b : Nat} (ha : a < m.n) (hb : b < m.n) : m.Z (projN m y a b) a = 1 := OL.pr_le (L := h.ol) ⟨a, ha⟩ ⟨b, hb⟩
theorem Ortho.proj_below (h : Ortho m z y o) (hk : keepsB m y = true) {a b : Nat} (ha : a < m.n) (hb : b < m.n) (hba : m.Z b a = 1) : projN m y a b = b := by
  have g : h.ol.pr ⟨a, ha⟩ ⟨b, hb⟩ = ⟨b, hb⟩ := (h.keeps_iff.1 hk).pr_below hba
  exact congrArg Fin.val g
theorem Ortho.proj_again (h : Ortho m z y o) (hk : keepsB m y = true) {a b : Nat} (ha : a < m.n) (hb : b < m.n) : projN m y a (projN m y a b) = projN m y a b :=
  h.proj_below hk ha (h.proj_lt ha hb) (h.proj_le ha hb)
theorem Ortho.proj_meet (h : Ortho m z y o) (hk : keepsB m y = true) {a b : Nat} (ha : a < m.n) (hb : b < m.n) : decide (projN m y a b = mN m a b) = agB m y b a := by
  have g := (h.keeps_iff.1 hk).pr_meet (a := ⟨a, ha⟩) (b := ⟨b, hb⟩)
  rw [Bool.eq_iff_iff, decide_eq_true_iff, h.ag_iff hb ha, ← g]
  exact ⟨fun e => Fin.ext e, fun e => congrArg Fin.val e⟩
theorem Ortho.hook_proj (h : Ortho m z y o) {a b : Nat} (ha : a < m.n) (hb : b < m.n) : y (projN m y a (y b)) = hookN m y a b := congrArg Fin.val (OL.hk_pr (L := h.ol) ⟨a, ha⟩ ⟨b, hb⟩)
theorem Ortho.hook_yes (h : Ortho m z y o) (hk : keepsB m y = true) {a b : Nat} (ha : a < m.n) (hb : b < m.n) : decide (hookN m y a b = y o) = leB m a b := by
  have g := (h.keeps_iff.1 hk).hk_yes (a := ⟨a, ha⟩) (b := ⟨b, hb⟩)
  rw [Bool.eq_iff_iff, decide_eq_true_iff]
  constructor
  · intro e; exact leB_mk (g.1 (Fin.ext e))
  · intro e; exact congrArg Fin.val (g.2 (leB_is e))
theorem Ortho.meet_hook (h : Ortho m z y o) (hk : keepsB m y = true) {a b : Nat} (ha : a < m.n) (hb : b < m.n) : m.Z (mN m a (hookN m y a b)) b = 1 := by
  have g : h.ol.le (h.ol.m ⟨a, ha⟩ (h.ol.hk ⟨a, ha⟩ ⟨b, hb⟩)) ⟨b, hb⟩ := (h.keeps_iff.1 hk).m_hk
  exact g
theorem Ortho.proj_turn (h : Ortho m z y o) (hk : keepsB m y = true) {a b d : Nat} (ha : a < m.n) (hb : b < m.n) (hd : d < m.n) : leB m (projN m y a d) (y b) = leB m (projN m y a b) (y d) := by
  have g := (h.keeps_iff.1 hk).pr_turn (a := ⟨a, ha⟩) (b := ⟨b, hb⟩) (d := ⟨d, hd⟩)
  rw [Bool.eq_iff_iff]
  exact ⟨fun e => leB_mk (g.1 (leB_is e)), fun e => leB_mk (g.2 (leB_is e))⟩
theorem Ortho.proj_proj (h : Ortho m z y o) (hk : keepsB m y = true) {a b d : Nat} (ha : a < m.n) (hb : b < m.n) (hd : d < m.n) (hab : m.Z a b = 1) : projN m y b (projN m y a d) = projN m y a d ∧ projN m y a (projN m y b d) = projN m y a d := by
  have hab' : h.ol.le ⟨a, ha⟩ ⟨b, hb⟩ := hab
  have g := (h.keeps_iff.1 hk).pr_pr (d := ⟨d, hd⟩) hab'
  exact ⟨congrArg Fin.val g.1, congrArg Fin.val g.2⟩
theorem Ortho.proj_clear (h : Ortho m z y o) (hk : keepsB m y = true) {a b : Nat} (ha : a < m.n) (hb : b < m.n) : decide (projN m y a b = o) = leB m b (y a) := by
  have g := (h.keeps_iff.1 hk).pr_clear (a := ⟨a, ha⟩) (b := ⟨b, hb⟩)
  rw [Bool.eq_iff_iff, decide_eq_true_iff]
  constructor
  · intro e; exact leB_mk (g.1 (Fin.ext e))
  · intro e; exact congrArg Fin.val (g.2 (leB_is e))
theorem Ortho.proj_no (h : Ortho m z y o) {a : Nat} (ha : a < m.n) : projN m y a o = o := congrArg Fin.val (OL.pr_no (L := h.ol) ⟨a, ha⟩)

/-! ### Told by numbers: modular logics -/
def modP (m : Mx) (a b d : Nat) : Bool := !leB m a d || decide (jN m a (mN m b d) = mN m (jN m a b) d)
def modB (m : Mx) : Bool := allB m.n fun a => allB m.n fun b => allB m.n fun d => modP m a b d
def pentP (m : Mx) (a d b : Nat) : Bool := !decide (a = d) && leB m a d && decide (mN m a b = mN m d b) && decide (jN m a b = jN m d b)
theorem Ortho.mod_iff (h : Ortho m z y o) : modB m = true ↔ h.ol.Mod := by
  constructor
  · intro e a b d had
    have := allB_is (allB_is (allB_is e a a.2) b b.2) d d.2
    unfold modP at this
    rw [leB_mk had] at this
    have e2 : jN m a.val (mN m b.val d.val) = mN m (jN m a.val b.val) d.val := by simpa using this
    exact Fin.ext e2
  · intro e
    refine allB_true fun a ha => allB_true fun b hb => allB_true fun d hd => ?_
    unfold modP
    cases hl : leB m a d with
    | false => rfl
    | true =>
      have := congrArg Fin.val (e ⟨a, ha⟩ ⟨b, hb⟩ ⟨d, hd⟩ (leB_is hl))
      have e2 : jN m a (mN m b d) = mN m (jN m a b) d := this
      simpa using e2
theorem Ortho.pent_is (h : Ortho m z y o) {a d b : Nat} (ha : a < m.n) (hd : d < m.n) (hb : b < m.n) : pentP m a d b = true ↔ h.ol.Pent ⟨a, ha⟩ ⟨d, hd⟩ ⟨b, hb⟩ := by
  unfold pentP
  simp only [Bool.and_eq_true, Bool.not_eq_true', decide_eq_false_iff_not, decide_eq_true_iff]
  constructor
  · rintro ⟨⟨⟨e1, e2⟩, e3⟩, e4⟩
    exact ⟨fun e => e1 (congrArg Fin.val e), leB_is e2, Fin.ext e3, Fin.ext e4⟩
  · rintro ⟨e1, e2, e3, e4⟩
    exact ⟨⟨⟨fun e => e1 (Fin.ext e), leB_mk e2⟩, congrArg Fin.val e3⟩, congrArg Fin.val e4⟩
/-- A logic that is not modular has a pentagon. -/
theorem Ortho.pent_some (h : Ortho m z y o) (hm : modB m = false) : ∃ a d b, a < m.n ∧ d < m.n ∧ b < m.n ∧ pentP m a d b = true := by
  have hn : ¬ h.ol.Mod := fun e => by rw [h.mod_iff.2 e] at hm; cases hm
  apply Classical.byContradiction
  intro hno
  refine hn fun a b d had => ?_
  apply Classical.byContradiction
  intro hne
  have p := OL.pent_of had hne
  exact hno ⟨_, _, _, (h.ol.j a (h.ol.m b d)).2, (h.ol.m (h.ol.j a b) d).2, b.2, (h.pent_is _ _ _).2 p⟩
theorem Ortho.pent_none (h : Ortho m z y o) (hm : modB m = true) {a d b : Nat} (ha : a < m.n) (hd : d < m.n) (hb : b < m.n) : pentP m a d b = false := by
  cases e : pentP m a d b with
  | false => rfl
  | true => exact ((h.mod_iff.1 hm).no_pent ((h.pent_is ha hd hb).1 e)).elim
theorem Ortho.bool_mod (h : Ortho m z y o) (hb : boolB m = true) : modB m = true := h.mod_iff.2 (h.bool_dist.1 hb).mod
theorem Ortho.mod_keeps (h : Ortho m z y o) (hm : modB m = true) : keepsB m y = true := h.keeps_iff.2 (h.mod_iff.1 hm).keeps
end

/-! ### Heights -/
def maxTo (f : Nat → Nat) : Nat → Nat
  | 0 => 0
  | k + 1 => max (maxTo f k) (f k)
theorem maxTo_ge {f : Nat → Nat} {k j : Nat} (h : k < j) : f k ≤ maxTo f j := by
  induction j with
  | zero => omega
  | succ j ih =>
    show _ ≤ max _ _
    by_cases e : k = j
    · subst e; omega
    · have := ih (by omega); omega
theorem maxTo_at {f : Nat → Nat} {j : Nat} (h : maxTo f j ≠ 0) : ∃ k, k < j ∧ f k = maxTo f j := by
  induction j with
  | zero => exact absurd rfl h
  | succ j ih =>
    have e : maxTo f (j + 1) = max (maxTo f j) (f j) := rfl
    by_cases hm : maxTo f j ≤ f j
    · exact ⟨j, Nat.lt_succ_self j, by omega⟩
    · obtain ⟨k, h1, h2⟩ := ih (by omega)
      exact ⟨k, by omega, by omega⟩
theorem maxTo_congr {f g : Nat → Nat} {j : Nat} (h : ∀ k, k < j → f k = g k) : maxTo f j = maxTo g j := by
  induction j with
  | zero => rfl
  | succ j ih =>
    show max _ _ = max _ _
    rw [ih fun k hk => h k (by omega), h j (Nat.lt_succ_self j)]
def hN (m : Mx) : Nat → Nat → Nat
  | 0, _ => 0
  | s + 1, a => maxTo (fun k => if (k != a && leB m k a) = true then hN m s k + 1 else 0) m.n
/-- The height of an answer. -/
def highN (m : Mx) (a : Nat) : Nat := hN m m.n a
/-- How many stand below. -/
def cntP (m : Mx) (a : Nat) : Nat := (List.range m.n).countP fun k => leB m k a
theorem countP_lt {l : List Nat} {p q : Nat → Bool} {x : Nat} (hx : x ∈ l) (h : ∀ k ∈ l, p k = true → q k = true) (h1 : p x = false) (h2 : q x = true) : l.countP p < l.countP q := by
  induction l with
  | nil => cases hx
  | cons k r ih =>
    rw [List.countP_cons, List.countP_cons]
    rcases List.mem_cons.1 hx with rfl | hr
    · rw [h1, h2]
      have : r.countP p ≤ r.countP q := List.countP_mono_left fun k hk => h k (List.mem_cons_of_mem _ hk)
      simp; omega
    · have := ih hr fun k hk => h k (List.mem_cons_of_mem _ hk)
      have h3 := h k List.mem_cons_self
      cases hp : p k with
      | false => cases hq : q k <;> simp <;> omega
      | true => rw [h3 hp]; simp; omega
section
variable {m : Mx} {z : Nat → Int} {y : Nat → Nat} {o : Nat}
theorem cnt_lt (h : IsOrder m) {a b : Nat} (ha : a < m.n) (hb : b < m.n) (hab : m.Z a b = 1) (hne : a ≠ b) : cntP m a < cntP m b :=
  countP_lt (x := b) (List.mem_range.2 hb) (fun k hk e => leB_mk (h.trans _ _ _ (List.mem_range.1 hk) ha hb (leB_is e) hab))
    (by cases e : leB m b a with
        | false => rfl
        | true => exact absurd (le_eq h ha hb hab (leB_is e)) hne) (leB_mk (h.refl b hb))
theorem cnt_pos (h : IsOrder m) {a : Nat} (ha : a < m.n) : 1 ≤ cntP m a := List.countP_pos_iff.2 ⟨a, List.mem_range.2 ha, leB_mk (h.refl a ha)⟩
theorem cnt_le (m : Mx) (a : Nat) : cntP m a ≤ m.n := by
  have := List.countP_le_length (p := fun k => leB m k a) (l := List.range m.n)
  rw [List.length_range] at this
  exact this
theorem below_parts {k a : Nat} (e : (k != a && leB m k a) = true) : k ≠ a ∧ m.Z k a = 1 := by
  rw [Bool.and_eq_true] at e
  exact ⟨by simpa using e.1, leB_is e.2⟩
theorem hN_more (h : IsOrder m) : ∀ (s a : Nat), a < m.n → cntP m a ≤ s → hN m (s + 1) a = hN m s a := by
  intro s
  induction s with
  | zero => intro a ha hc; have := cnt_pos h ha; omega
  | succ s ih =>
    intro a ha hc
    refine maxTo_congr fun k hk => ?_
    by_cases e : (k != a && leB m k a) = true
    · rw [if_pos e, if_pos e]
      obtain ⟨e1, e2⟩ := below_parts e
      have := cnt_lt h hk ha e2 e1
      rw [ih k hk (by omega)]
    · rw [if_neg e, if_neg e]
theorem hN_all (h : IsOrder m) {a : Nat} (ha : a < m.n) : ∀ s, cntP m a ≤ s → hN m s a = hN m (cntP m a) a := by
  intro s hs
  obtain ⟨d, rfl⟩ := Nat.exists_eq_add_of_le hs
  induction d with
  | zero => rfl
  | succ d ih => rw [show cntP m a + (d + 1) = cntP m a + d + 1 from rfl, hN_more h _ a ha (by omega)]; exact ih (by omega)
/-- The height of an answer is one more than the greatest height below it. -/
theorem high_eq (h : IsOrder m) {a : Nat} (ha : a < m.n) : highN m a = maxTo (fun k => if (k != a && leB m k a) = true then highN m k + 1 else 0) m.n := by
  obtain ⟨s, hs⟩ : ∃ s, m.n = s + 1 := ⟨m.n - 1, by omega⟩
  have e : highN m a = hN m (s + 1) a := by unfold highN; rw [hs]
  rw [e]
  refine maxTo_congr fun k hk => ?_
  by_cases g : (k != a && leB m k a) = true
  · rw [if_pos g, if_pos g]
    obtain ⟨e1, e2⟩ := below_parts g
    have h1 := cnt_lt h hk ha e2 e1
    have h2 := cnt_le m a
    unfold highN
    rw [hN_all h hk s (by omega), hN_all h hk m.n (by omega)]
  · rw [if_neg g, if_neg g]
theorem Ortho.high (h : Ortho m z y o) : h.ol.High fun x => highN m x.val := by
  have hord := h.lat.order
  refine ⟨fun a b hab hne => ?_, fun b hb => ?_⟩
  · rw [high_eq hord b.2]
    have hv : a.val ≠ b.val := fun e => hne (Fin.ext e)
    have g := maxTo_ge (f := fun k => if (k != b.val && leB m k b.val) = true then highN m k + 1 else 0) a.2
    have e : (a.val != b.val && leB m a.val b.val) = true := by rw [leB_mk (show m.Z a.val b.val = 1 from hab)]; simpa using hv
    rw [if_pos e] at g
    omega
  · rw [high_eq hord b.2] at hb
    obtain ⟨k, hk, e⟩ := maxTo_at hb
    rw [← high_eq hord b.2] at e
    by_cases g : (k != b.val && leB m k b.val) = true
    · rw [if_pos g] at e
      obtain ⟨e1, e2⟩ := below_parts g
      exact ⟨⟨k, hk⟩, e2, fun q => e1 (congrArg Fin.val q), e⟩
    · rw [if_neg g] at e
      rw [← high_eq hord b.2] at hb
      exact absurd e.symm hb
theorem Ortho.high_no (h : Ortho m z y o) {a : Nat} (ha : a < m.n) : highN m a = 0 ↔ a = o := by
  have hH := h.high
  constructor
  · intro e
    apply Classical.byContradiction
    intro hne
    have := hH.up h.ol.o ⟨a, ha⟩ (h.ol.low _) (fun q => hne (congrArg Fin.val q).symm)
    dsimp only at this
    omega
  · rintro rfl
    apply Classical.byContradiction
    intro hne
    obtain ⟨b, h1, h2, _⟩ := hH.step ⟨a, ha⟩ hne
    exact h2 (h.ol.anti h1 (h.ol.low _))
theorem Ortho.high_lt (h : Ortho m z y o) {a b : Nat} (ha : a < m.n) (hb : b < m.n) (hab : m.Z a b = 1) (hne : a ≠ b) : highN m a < highN m b := h.high.up ⟨a, ha⟩ ⟨b, hb⟩ hab fun q => hne (congrArg Fin.val q)
theorem Ortho.high_atom (h : Ortho m z y o) {a : Nat} (ha : a < m.n) : highN m a = 1 ↔ countI m a = 2 := by
  have hord := h.lat.order
  constructor
  · intro e
    have hne : a ≠ o := fun q => by have := (h.high_no ha).2 q; omega
    obtain ⟨p, hp, p2, pz⟩ := atom_under hord h.ho h.least (countI m a).toNat a ha hne (by omega)
    by_cases q : p = a
    · rw [← q]; exact p2
    · have h1 := h.high_lt hp ha pz q
      have h2 := (h.high_no hp).1 (by omega)
      exact absurd h2 (atom_not hord h.ho h.least p2)
  · intro e
    have hne : a ≠ o := atom_not hord h.ho h.least e
    have h0 : highN m a ≠ 0 := fun q => hne ((h.high_no ha).1 q)
    obtain ⟨b, h1, h2, h3⟩ := h.high.step ⟨a, ha⟩ h0
    have hb : b.val = o := by
      rcases atom_below hord h.ho h.least ha e b.2 h1 with q | q
      · exact q
      · exact absurd (Fin.ext q) h2
    have h4 := (h.high_no b.2).2 hb
    dsimp only at h3
    omega
def addsP (m : Mx) (a b : Nat) : Bool := decide (highN m a + highN m b = highN m (mN m a b) + highN m (jN m a b))
def addsB (m : Mx) : Bool := allB m.n fun a => allB a fun b => addsP m a b
/-- Heights add up just in modular logics. -/
theorem Ortho.adds_mod (h : Ortho m z y o) : addsB m = modB m := by
  rw [Bool.eq_iff_iff, h.mod_iff]
  constructor
  · intro e
    have key : ∀ a b : Nat, a < m.n → b < a → highN m a + highN m b = highN m (mN m a b) + highN m (jN m a b) := fun a b ha hb => of_decide_eq_true (allB_is (allB_is e a ha) b hb)
    refine h.high.mod fun a b => ?_
    show highN m a.val + highN m b.val = highN m (h.ol.m a b).val + highN m (h.ol.j a b).val
    rcases Nat.lt_trichotomy a.val b.val with g | g | g
    · have := key b a b.2 g
      rw [OL.m_comm a b, OL.j_comm a b]
      have e2 : highN m b.val + highN m a.val = highN m (h.ol.m b a).val + highN m (h.ol.j b a).val := this
      omega
    · have e2 : a = b := Fin.ext g
      subst e2
      rw [OL.m_le (h.ol.refl a), OL.j_le (h.ol.refl a)]
    · exact key a b a.2 g
  · intro e
    refine allB_true fun a ha => allB_true fun b hb => decide_eq_true ?_
    have hbn : b < m.n := by omega
    exact h.high.adds e _ ⟨a, ha⟩ ⟨b, hbn⟩ (Nat.le_refl _)
end
end Go.Proofs.YtjofkejfldmmlaaDoor
