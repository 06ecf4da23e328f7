import Derived.Test.YtjmhhjdkemicbaaDoorZMathN
namespace Go.Proofs.YtjmhhjdkemicbaaDoor

namespace OL
variable {α : Type} {L : OL α}
def hk (L : OL α) (a b : α) : α := L.j (L.c a) (L.m a b)
theorem j_mono {a b d e : α} (h1 : L.le a b) (h2 : L.le d e) : L.le (L.j a d) (L.j b e) := L.jg (L.trans h1 (L.jl _ _)) (L.trans h2 (L.jr _ _))
def Mod (L : OL α) : Prop := ∀ a b d, L.le a d → L.j a (L.m b d) = L.m (L.j a b) d
theorem Mod.keeps (h : L.Mod) : L.Keeps := fun a b hab => by
  rw [m_comm b (L.c a), h a (L.c a) b hab, j_c]
  exact m_le' (top b)
/-- One answer stands just below another one. -/
def Cov (L : OL α) (a b : α) : Prop := L.le a b ∧ a ≠ b ∧ ∀ w, L.le a w → L.le w b → w = a ∨ w = b
theorem Mod.cov_down (h : L.Mod) {a b : α} (k : L.Cov b (L.j a b)) : L.Cov (L.m a b) a := by
  obtain ⟨_, k1, k2⟩ := k
  refine ⟨L.ml _ _, fun e => ?_, fun w h1 h2 => ?_⟩
  · have : L.le a b := by rw [← e]; exact L.mr _ _
    exact k1 (j_le this).symm
  · have e := h w b a h2
    rw [m_comm b a, j_le' h1] at e
    rcases k2 (L.j w b) (L.jr _ _) (j_mono h2 (L.refl _)) with g | g
    · rw [g, m_comm] at e
      exact .inl e
    · rw [g, m_comm, m_le (L.jl a b)] at e
      exact .inr e
/-- A height: longest rows from below. -/
structure High (L : OL α) (f : α → Nat) : Prop where
  up : ∀ a b, L.le a b → a ≠ b → f a < f b
  step : ∀ b, f b ≠ 0 → ∃ a, L.le a b ∧ a ≠ b ∧ f a + 1 = f b
theorem High.cov {f : α → Nat} (h : L.High f) {b : α} (hb : f b ≠ 0) : ∃ a, L.Cov a b ∧ f a + 1 = f b := by
  obtain ⟨a, h1, h2, h3⟩ := h.step b hb
  refine ⟨a, ⟨h1, h2, fun w k1 k2 => ?_⟩, h3⟩
  apply Classical.byContradiction
  intro hn
  have e1 : a ≠ w := fun e => hn (.inl e.symm)
  have e2 : w ≠ b := fun e => hn (.inr e)
  have := h.up a w k1 e1
  have := h.up w b k2 e2
  omega
theorem High.one {f : α → Nat} (h : L.High f) (k : L.Mod) : ∀ (n : Nat) (a b : α), f b ≤ n → L.Cov a b → f a + 1 = f b := by
  intro n
  induction n with
  | zero =>
    intro a b hn c
    have := h.up a b c.1 c.2.1
    omega
  | succ n ih =>
    intro a b hn c
    have hab := h.up a b c.1 c.2.1
    obtain ⟨d, cd, hd⟩ := h.cov (b := b) (by omega)
    by_cases e : a = d
    · rw [e]; exact hd
    · have hj : L.j d a = b := by
        rcases c.2.2 (L.j d a) (L.jr _ _) (L.jg cd.1 c.1) with g | g
        · exfalso
          have hda : L.le d a := by rw [← g]; exact L.jl _ _
          rcases cd.2.2 a hda c.1 with g2 | g2
          · exact e g2
          · exact c.2.1 g2
        · exact g
      have c1 : L.Cov (L.m d a) d := k.cov_down (by rw [hj]; exact c)
      have c2 : L.Cov (L.m a d) a := k.cov_down (by rw [j_comm, hj]; exact cd)
      rw [m_comm] at c2
      have f1 := ih _ _ (by omega) c1
      have f2 := ih _ _ (by omega) c2
      omega
end OL

section
variable {m : Mx} {z : Nat → Int} {y : Nat → Nat} {o : Nat}
end

def maxTo (f : Nat → Nat) : Nat → Nat
  | 0 => 0
  | k + 1 => max (maxTo f k) (f k)
def hN (m : Mx) : Nat → Nat → Nat
  | 0, _ => 0
  | s + 1, a => maxTo (fun k => if (k != a && leB m k a) = true then hN m s k + 1 else 0) m.n
section
variable {m : Mx} {z : Nat → Int} {y : Nat → Nat} {o : Nat}
end
end Go.Proofs.YtjmhhjdkemicbaaDoor
namespace Go.Proofs.YtjmhhjdkemicbaaDoor

inductive Fm where
  | la | lb | lc | no | yes
  | neg (f : Fm)
  | meet (f g : Fm)
  | join (f g : Fm)
/-- The bytes of a formula. -/
def Fm.text : Fm → List UInt8
  | .la => [97]
  | .lb => [98]
  | .lc => [99]
  | .no => [48]
  | .yes => [49]
  | .neg f => 33 :: f.text
  | .meet f g => 40 :: (f.text ++ 38 :: (g.text ++ [41]))
  | .join f g => 40 :: (f.text ++ 124 :: (g.text ++ [41]))
theorem Fm.text_pos (f : Fm) : 1 ≤ f.text.length := by cases f <;> simp [Fm.text]
/-- A sign between two formulas. -/
def opOf (o : UInt8) (f g : Fm) : Option Fm := if o = 38 then some (.meet f g) else if o = 124 then some (.join f g) else none
/-- The formula at the beginning of a text, and what is left. -/
def readF : Nat → List UInt8 → Option (Fm × List UInt8)
  | 0, _ => none
  | _ + 1, [] => none
  | n + 1, h :: r =>
    if h = 97 then some (.la, r) else if h = 98 then some (.lb, r) else if h = 99 then some (.lc, r) else if h = 48 then some (.no, r) else if h = 49 then some (.yes, r)
    else if h = 33 then (readF n r).map fun x => (.neg x.1, x.2)
    else if h = 40 then
      match readF n r with
      | some (f, o :: r1) =>
        match readF n r1 with
        | some (g, e :: r2) => if e = 41 then (opOf o f g).map fun x => (x, r2) else none
        | _ => none
      | _ => none
    else none
theorem readF_text : ∀ (f : Fm) (n : Nat) (r : List UInt8), f.text.length ≤ n → readF n (f.text ++ r) = some (f, r) := by
  intro f
  induction f with
  | la | lb | lc | no | yes =>
    intro n r h
    obtain ⟨n, rfl⟩ : ∃ k, n = k + 1 := ⟨n - 1, by simp [Fm.text] at h; omega⟩
    simp [Fm.text, readF]
  | neg f ih =>
    intro n r h
    obtain ⟨n, rfl⟩ : ∃ k, n = k + 1 := ⟨n - 1, by simp [Fm.text] at h; omega⟩
    have e := ih n r (by simp [Fm.text] at h; omega)
    simp [Fm.text, readF, e]
  | meet f g ihf ihg =>
    intro n r h
    obtain ⟨n, rfl⟩ : ∃ k, n = k + 1 := ⟨n - 1, by simp [Fm.text] at h; omega⟩
    simp [Fm.text] at h
    have e1 := ihf n (38 :: (g.text ++ 41 :: r)) (by omega)
    have e2 := ihg n (41 :: r) (by omega)
    simp [Fm.text, readF, e1, e2, opOf]
  | join f g ihf ihg =>
    intro n r h
    obtain ⟨n, rfl⟩ : ∃ k, n = k + 1 := ⟨n - 1, by simp [Fm.text] at h; omega⟩
    simp [Fm.text] at h
    have e1 := ihf n (124 :: (g.text ++ 41 :: r)) (by omega)
    have e2 := ihg n (41 :: r) (by omega)
    simp [Fm.text, readF, e1, e2, opOf]
theorem readF_is : ∀ (n : Nat) (s : List UInt8) (f : Fm) (r : List UInt8), readF n s = some (f, r) → s = f.text ++ r := by
  intro n
  induction n with
  | zero => intro s f r h; cases h
  | succ n ih =>
    intro s f r h
    cases s with
    | nil => cases h
    | cons c s =>
      unfold readF at h
      split at h
      · rename_i e; cases h; rw [e]; rfl
      split at h
      · rename_i e; cases h; rw [e]; rfl
      split at h
      · rename_i e; cases h; rw [e]; rfl
      split at h
      · rename_i e; cases h; rw [e]; rfl
      split at h
      · rename_i e; cases h; rw [e]; rfl
      split at h
      · rename_i e
        rw [Option.map_eq_some_iff] at h
        obtain ⟨⟨f1, r1⟩, h1, h2⟩ := h
        cases h2
        rw [e, ih _ _ _ h1]; rfl
      split at h
      · rename_i e
        split at h
        · rename_i f1 o r1 h1
          split at h
          · rename_i g e2 r2 h2
            split at h
            · rename_i e3
              rw [Option.map_eq_some_iff] at h
              obtain ⟨x, h3, h4⟩ := h
              cases h4
              have t1 := ih _ _ _ h1
              have t2 := ih _ _ _ h2
              unfold opOf at h3
              split at h3
              · rename_i e4
                cases h3
                rw [e, t1, t2, e3, e4]; simp [Fm.text]
              · split at h3
                · rename_i e4
                  cases h3
                  rw [e, t1, t2, e3, e4]; simp [Fm.text]
                · cases h3
            · cases h
          · cases h
        · cases h
      · cases h
/-- What is read does not hang on the count, where it is no less than the text's length. -/
theorem readF_same {n n' : Nat} {s : List UInt8} (h : s.length ≤ n) (h' : s.length ≤ n') : readF n s = readF n' s := by
  cases e : readF n s with
  | some x =>
    obtain ⟨f, r⟩ := x
    have t := readF_is _ _ _ _ e
    have hl : f.text.length ≤ s.length := by rw [t]; simp
    have := readF_text f n' r (by omega)
    rw [← t] at this
    exact this.symm
  | none =>
    cases e' : readF n' s with
    | none => rfl
    | some x =>
      obtain ⟨f, r⟩ := x
      have t := readF_is _ _ _ _ e'
      have hl : f.text.length ≤ s.length := by rw [t]; simp
      have := readF_text f n r (by omega)
      rw [← t, e] at this
      cases this
/-- The formula at the beginning. -/
def headF (s : List UInt8) : Option (Fm × List UInt8) := readF s.length s
theorem headF_text (f : Fm) (r : List UInt8) : headF (f.text ++ r) = some (f, r) := readF_text f _ r (by simp)
theorem headF_is {s : List UInt8} {f : Fm} {r : List UInt8} (h : headF s = some (f, r)) : s = f.text ++ r := readF_is _ _ _ _ h
/-- What the head of a text tells of its reading. -/
theorem headF_neg (s : List UInt8) : headF (33 :: s) = (headF s).map fun x => (.neg x.1, x.2) := by
  show readF (s.length + 1) (33 :: s) = _
  simp [readF, headF]
theorem headF_pair (s : List UInt8) : headF (40 :: s) = match headF s with
    | some (f, o :: r1) => match headF r1 with
      | some (g, e :: r2) => if e = 41 then (opOf o f g).map fun x => (x, r2) else none
      | _ => none
    | _ => none := by
  show readF (s.length + 1) (40 :: s) = _
  unfold readF
  simp only [show ¬ (40 : UInt8) = 97 by decide, show ¬ (40 : UInt8) = 98 by decide, show ¬ (40 : UInt8) = 99 by decide, show ¬ (40 : UInt8) = 48 by decide, show ¬ (40 : UInt8) = 49 by decide, show ¬ (40 : UInt8) = 33 by decide, if_false, if_true]
  unfold headF
  cases e : readF s.length s with
  | none => rfl
  | some x =>
    obtain ⟨f, r⟩ := x
    cases r with
    | nil => rfl
    | cons o r1 =>
      have t := readF_is _ _ _ _ e
      have hl : r1.length ≤ s.length := by rw [t]; simp; omega
      dsimp only
      rw [readF_same (n := s.length) (n' := r1.length) hl (Nat.le_refl _)]
theorem headF_other {c : UInt8} {s : List UInt8} (h1 : c ≠ 97) (h2 : c ≠ 98) (h3 : c ≠ 99) (h4 : c ≠ 48) (h5 : c ≠ 49) (h6 : c ≠ 33) (h7 : c ≠ 40) : headF (c :: s) = none := by
  show readF (s.length + 1) (c :: s) = _
  simp [readF, h1, h2, h3, h4, h5, h6, h7]
/-- Where the formula that begins at a place ends, -1 if there is none. -/
def endF (s : List UInt8) (k : Nat) : Int := match headF (s.drop k) with
  | some (_, r) => (s.length : Int) - r.length
  | none => -1
/-- The formula that a whole text is. -/
def fmOf (s : List UInt8) : Option Fm := match headF s with
  | some (f, []) => some f
  | _ => none
theorem fmOf_text (f : Fm) : fmOf f.text = some f := by
  have := headF_text f []
  rw [List.append_nil] at this
  unfold fmOf
  rw [this]
theorem fmOf_is {s : List UInt8} {f : Fm} (h : fmOf s = some f) : s = f.text := by
  unfold fmOf at h
  split at h
  · rename_i f1 e
    cases h
    have := headF_is e
    rw [List.append_nil] at this
    exact this
  · cases h
/-- A text is a formula. -/
def formB (s : List UInt8) : Bool := decide (s.length ≤ 60) && (fmOf s).isSome
theorem form_is {s : List UInt8} (h : formB s = true) : s.length ≤ 60 ∧ ∃ f, fmOf s = some f ∧ s = f.text := by
  unfold formB at h
  rw [Bool.and_eq_true, decide_eq_true_iff] at h
  obtain ⟨f, e⟩ := Option.isSome_iff_exists.1 h.2
  exact ⟨h.1, f, e, fmOf_is e⟩
theorem form_mk {f : Fm} (h : f.text.length ≤ 60) : formB f.text = true := by
  unfold formB
  rw [fmOf_text, decide_eq_true h]; rfl
def Fm.dual : Fm → Fm
  | .la => .la
  | .lb => .lb
  | .lc => .lc
  | .no => .yes
  | .yes => .no
  | .neg f => .neg f.dual
  | .meet f g => .join f.dual g.dual
  | .join f g => .meet f.dual g.dual
namespace OL
variable {α : Type} {L : OL α}
/-- The value of a formula. -/
def val (L : OL α) (a b d : α) : Fm → α
  | .la => a
  | .lb => b
  | .lc => d
  | .no => L.o
  | .yes => L.c L.o
  | .neg f => L.c (L.val a b d f)
  | .meet f g => L.m (L.val a b d f) (L.val a b d g)
  | .join f g => L.j (L.val a b d f) (L.val a b d g)
theorem j_assoc (a b d : α) : L.j (L.j a b) d = L.j a (L.j b d) :=
  L.anti (L.jg (L.jg (L.jl _ _) (L.trans (L.jl b d) (L.jr _ _))) (L.trans (L.jr b d) (L.jr _ _))) (L.jg (L.trans (L.jl a b) (L.jl _ _)) (L.jg (L.trans (L.jr a b) (L.jl _ _)) (L.jr _ _)))
end OL

/-- The value of a formula, told by numbers. -/
def valN (m : Mx) (y : Nat → Nat) (o a b d : Nat) : Fm → Nat
  | .la => a
  | .lb => b
  | .lc => d
  | .no => o
  | .yes => y o
  | .neg f => y (valN m y o a b d f)
  | .meet f g => mN m (valN m y o a b d f) (valN m y o a b d g)
  | .join f g => jN m (valN m y o a b d f) (valN m y o a b d g)
section
variable {m : Mx} {z : Nat → Int} {y : Nat → Nat} {o : Nat}
theorem Ortho.val_is (h : Ortho m z y o) {a b d : Nat} (ha : a < m.n) (hb : b < m.n) (hd : d < m.n) (f : Fm) : valN m y o a b d f = (h.ol.val ⟨a, ha⟩ ⟨b, hb⟩ ⟨d, hd⟩ f).val := by
  induction f with
  | la | lb | lc | no | yes => rfl
  | neg f ih => show y _ = y _; rw [ih]
  | meet f g ihf ihg => show mN m _ _ = mN m _ _; rw [ihf, ihg]
  | join f g ihf ihg => show jN m _ _ = jN m _ _; rw [ihf, ihg]
theorem Ortho.val_lt (h : Ortho m z y o) {a b d : Nat} (ha : a < m.n) (hb : b < m.n) (hd : d < m.n) (f : Fm) : valN m y o a b d f < m.n := by
  rw [h.val_is ha hb hd]; exact (h.ol.val _ _ _ f).2
/-- A formula is yes for all answers. -/
def alwaysB (m : Mx) (y : Nat → Nat) (o : Nat) (f : Fm) : Bool := allB m.n fun a => allB m.n fun b => allB m.n fun d => decide (valN m y o a b d f = y o)
/-- Two formulas are the same answers. -/
def sameB (m : Mx) (y : Nat → Nat) (o : Nat) (f g : Fm) : Bool := allB m.n fun a => allB m.n fun b => allB m.n fun d => decide (valN m y o a b d f = valN m y o a b d g)
theorem always_iff {f : Fm} : alwaysB m y o f = true ↔ ∀ a b d, a < m.n → b < m.n → d < m.n → valN m y o a b d f = y o :=
  ⟨fun h a b d ha hb hd => of_decide_eq_true (allB_is (allB_is (allB_is h a ha) b hb) d hd), fun h => allB_true fun a ha => allB_true fun b hb => allB_true fun d hd => decide_eq_true (h a b d ha hb hd)⟩
theorem same_iff {f g : Fm} : sameB m y o f g = true ↔ ∀ a b d, a < m.n → b < m.n → d < m.n → valN m y o a b d f = valN m y o a b d g :=
  ⟨fun h a b d ha hb hd => of_decide_eq_true (allB_is (allB_is (allB_is h a ha) b hb) d hd), fun h => allB_true fun a ha => allB_true fun b hb => allB_true fun d hd => decide_eq_true (h a b d ha hb hd)⟩
abbrev fmMid : Fm := .join .la (.neg .la)
abbrev fmNot : Fm := .neg (.meet .la (.neg .la))
abbrev fmFour : Fm := .join (.meet .la .lb) (.join (.meet .la (.neg .lb)) (.join (.meet (.neg .la) .lb) (.meet (.neg .la) (.neg .lb))))
theorem Ortho.always_mid (h : Ortho m z y o) : alwaysB m y o fmMid = true := always_iff.2 fun a b d ha hb hd => by
  rw [h.val_is ha hb hd]
  exact congrArg Fin.val (OL.j_c (L := h.ol) ⟨a, ha⟩)
theorem Ortho.always_not (h : Ortho m z y o) : alwaysB m y o fmNot = true := always_iff.2 fun a b d ha hb hd => by
  rw [h.val_is ha hb hd]
  have e : h.ol.m ⟨a, ha⟩ (h.ol.c ⟨a, ha⟩) = h.ol.o := h.ol.apart _
  exact congrArg (fun q => y (Fin.val q)) e
theorem Ortho.four_ap (h : Ortho m z y o) {a b d : Nat} (ha : a < m.n) (hb : b < m.n) (hd : d < m.n) : valN m y o a b d fmFour = apN m y a b := by
  rw [h.val_is ha hb hd]
  have e := OL.j_assoc (L := h.ol) (h.ol.m ⟨a, ha⟩ ⟨b, hb⟩) (h.ol.m ⟨a, ha⟩ (h.ol.c ⟨b, hb⟩)) (h.ol.j (h.ol.m (h.ol.c ⟨a, ha⟩) ⟨b, hb⟩) (h.ol.m (h.ol.c ⟨a, ha⟩) (h.ol.c ⟨b, hb⟩)))
  exact (congrArg Fin.val e).symm
/-- Where the law is kept: the four meetings join in yes for all answers exactly if there is one block. -/
theorem Ortho.always_four (h : Ortho m z y o) (hk : keepsB m y = true) : alwaysB m y o fmFour = decide ((blockL m y).length = 1) := by
  have e : boolB m = (keepsB m y && decide ((blockL m y).length = 1)) := h.bool_one
  rw [hk, Bool.true_and] at e
  rw [← e, Bool.eq_iff_iff, always_iff]
  constructor
  · intro g
    refine h.bool_dist.2 fun a b d => ?_
    have ag : ∀ u v : Fin m.n, h.ol.Ag u v := fun u v => by
      have e1 := g u v u u.2 v.2 u.2
      rw [h.four_ap u.2 v.2 u.2] at e1
      exact (h.ag_iff u.2 v.2).1 (by rw [← h.ap_iff hk u.2 v.2]; exact decide_eq_true e1)
    exact (h.keeps_iff.1 hk).fh (ag a b) (ag a d)
  · intro g a b d ha hb hd
    rw [h.four_ap ha hb hd]
    have e1 := h.bool_adj g ha hb
    have e2 := (h.adj_keeps hk ha hb).1 e1
    have e3 := h.ap_iff hk ha hb
    rw [(h.ag_iff ha hb).2 e2] at e3
    exact of_decide_eq_true e3
end
end Go.Proofs.YtjmhhjdkemicbaaDoor
