import Derived.Test.YtmchgclaeipoeaaZMath
import Derived.Test.YtmchgclaeipoeaaZDa
namespace Go.Proofs.Ytmchgclaeipoeaa
open Go.RowKit Go.Deep

end Go.Proofs.Ytmchgclaeipoeaa
namespace Go.Proofs.Ytmchgclaeipoeaa

namespace OL
variable {α : Type} {L : OL α}
/-- Each three answers may be taken apart. -/
def Dist (L : OL α) : Prop := ∀ a b d, L.m a (L.j b d) = L.j (L.m a b) (L.m a d)
theorem Dist.ag (h : L.Dist) (a b : α) : L.Ag a b := by
  unfold Ag
  rw [← h, j_c]
  exact m_le (top a)
theorem Dist.keeps (h : L.Dist) : L.Keeps := keeps_of fun _ _ _ => h.ag _ _
end OL

/-- Two answers agree both ways. -/
def adjB (m : Mx) (y : Nat → Nat) (a b : Nat) : Bool := agB m y a b && agB m y b a
theorem adjB_comm (m : Mx) (y : Nat → Nat) (a b : Nat) : adjB m y a b = adjB m y b a := by unfold adjB; rw [Bool.and_comm]
/-- It agrees with all of the set. -/
def nbB (m : Mx) (y : Nat → Nat) (s x : Nat) : Bool := allB m.n fun a => !s.testBit a || adjB m y x a
theorem nb_iff {m : Mx} {y : Nat → Nat} {s x : Nat} : nbB m y s x = true ↔ ∀ a, a < m.n → s.testBit a = true → adjB m y x a = true := by
  constructor
  · intro h a ha hs
    have := allB_is h a ha
    rw [hs] at this
    simpa using this
  · intro h
    refine allB_true fun a ha => ?_
    cases hs : s.testBit a with
    | false => rfl
    | true => rw [h a ha hs]; rfl
/-- A bit of a number stands below its bound. -/
theorem bit_under {s n a : Nat} (hs : s < 2 ^ n) (h : s.testBit a = true) : a < n := by
  apply Classical.byContradiction
  intro hn
  have h2 : 2 ^ n ≤ 2 ^ a := Nat.pow_le_pow_right (by omega) (by omega)
  have := Nat.testBit_lt_two_pow (x := s) (i := a) (by omega)
  rw [h] at this
  exact Bool.false_ne_true this.symm
section
variable {m : Mx} {z : Nat → Int} {y : Nat → Nat} {o : Nat}
def boolB (m : Mx) : Bool := allB m.n fun a => allB m.n fun b => allB m.n fun d => splitB m a b d
theorem bool_iff {m : Mx} : boolB m = true ↔ ∀ a b d, a < m.n → b < m.n → d < m.n → splitB m a b d = true :=
  ⟨fun h a b d ha hb hd => allB_is (allB_is (allB_is h a ha) b hb) d hd, fun h => allB_true fun a ha => allB_true fun b hb => allB_true fun d hd => h a b d ha hb hd⟩
theorem Ortho.bool_dist (h : Ortho m z y o) : boolB m = true ↔ h.ol.Dist := by
  rw [bool_iff]
  constructor
  · intro e a b d
    exact Fin.ext (of_decide_eq_true (e a b d a.2 b.2 d.2))
  · intro e a b d ha hb hd
    exact decide_eq_true (congrArg Fin.val (e ⟨a, ha⟩ ⟨b, hb⟩ ⟨d, hd⟩))
/-- The block of all answers. -/
theorem full_bits {n a : Nat} : (2 ^ n - 1).testBit a = decide (a < n) := Nat.testBit_two_pow_sub_one n a
end

/-- Bits set where a test holds, below a number. -/
def bitS (p : Nat → Bool) : Nat → Nat
  | 0 => 0
  | k + 1 => if p k = true then bitS p k + 2 ^ k else bitS p k
theorem bitS_is (p : Nat → Bool) (k : Nat) : bitS p k < 2 ^ k ∧ ∀ a, (bitS p k).testBit a = (decide (a < k) && p a) := by
  induction k with
  | zero => exact ⟨by show (0 : Nat) < 1; omega, fun a => by simp [bitS]⟩
  | succ k ih =>
    obtain ⟨h1, h2⟩ := ih
    have hp : 2 ^ (k + 1) = 2 ^ k + 2 ^ k := by rw [Nat.pow_succ]; omega
    cases hk : p k with
    | true =>
      have e : bitS p (k + 1) = bitS p k + 2 ^ k := by show (if _ then _ else _) = _; rw [if_pos hk]
      have e2 : bitS p k + 2 ^ k = 2 ^ k ||| bitS p k := by
        have h := Nat.two_pow_add_eq_or_of_lt h1 1
        rw [Nat.mul_one] at h
        rw [Nat.add_comm]; exact h
      refine ⟨by rw [e]; omega, fun a => ?_⟩
      rw [e, e2, Nat.testBit_or, Nat.testBit_two_pow, h2]
      by_cases ha : a = k
      · subst ha; simp [hk]
      · have : (k = a) = False := by simp; omega
        simp only [this, decide_false, Bool.false_or]
        rw [Bool.eq_iff_iff]
        simp only [Bool.and_eq_true, decide_eq_true_iff]
        constructor
        · rintro ⟨q1, q2⟩; exact ⟨by omega, q2⟩
        · rintro ⟨q1, q2⟩; exact ⟨by omega, q2⟩
    | false =>
      have e : bitS p (k + 1) = bitS p k := by show (if _ then _ else _) = _; rw [if_neg (by rw [hk]; exact Bool.false_ne_true)]
      refine ⟨by rw [e]; omega, fun a => ?_⟩
      rw [e, h2]
      by_cases ha : a = k
      · subst ha; simp [hk]
      · rw [Bool.eq_iff_iff]
        simp only [Bool.and_eq_true, decide_eq_true_iff]
        constructor
        · rintro ⟨q1, q2⟩; exact ⟨by omega, q2⟩
        · rintro ⟨q1, q2⟩; exact ⟨by omega, q2⟩
section
variable {m : Mx} {z : Nat → Int} {y : Nat → Nat} {o : Nat}
end
end Go.Proofs.Ytmchgclaeipoeaa
namespace Go.Proofs.Ytmchgclaeipoeaa

namespace OL
variable {α : Type} {L : OL α}
def hk (L : OL α) (a b : α) : α := L.j (L.c a) (L.m a b)
theorem j_mono {a b d e : α} (h1 : L.le a b) (h2 : L.le d e) : L.le (L.j a d) (L.j b e) := L.jg (L.trans h1 (L.jl _ _)) (L.trans h2 (L.jr _ _))
def Mod (L : OL α) : Prop := ∀ a b d, L.le a d → L.j a (L.m b d) = L.m (L.j a b) d
theorem Mod.keeps (h : L.Mod) : L.Keeps := fun a b hab => by
  rw [m_comm b (L.c a), h a (L.c a) b hab, j_c]
  exact m_le' (top b)
/-- One answer stands just below another one. -/
def Cov (L : OL α) (a b : α) : Prop := L.le a b ∧ a ≠ b ∧ ∀ w, L.le a w → L.le w b → w = a ∨ w = b
theorem Mod.cov_down (h : L.Mod) {a b : α} (k : L.Cov b (L.j a b)) : L.Cov (L.m a b) a := by
  obtain ⟨_, k1, k2⟩ := k
  refine ⟨L.ml _ _, fun e => ?_, fun w h1 h2 => ?_⟩
  · have : L.le a b := by rw [← e]; exact L.mr _ _
    exact k1 (j_le this).symm
  · have e := h w b a h2
    rw [m_comm b a, j_le' h1] at e
    rcases k2 (L.j w b) (L.jr _ _) (j_mono h2 (L.refl _)) with g | g
    · rw [g, m_comm] at e
      exact .inl e
    · rw [g, m_comm, m_le (L.jl a b)] at e
      exact .inr e
/-- A height: longest rows from below. -/
structure High (L : OL α) (f : α → Nat) : Prop where
  up : ∀ a b, L.le a b → a ≠ b → f a < f b
  step : ∀ b, f b ≠ 0 → ∃ a, L.le a b ∧ a ≠ b ∧ f a + 1 = f b
theorem High.cov {f : α → Nat} (h : L.High f) {b : α} (hb : f b ≠ 0) : ∃ a, L.Cov a b ∧ f a + 1 = f b := by
  obtain ⟨a, h1, h2, h3⟩ := h.step b hb
  refine ⟨a, ⟨h1, h2, fun w k1 k2 => ?_⟩, h3⟩
  apply Classical.byContradiction
  intro hn
  have e1 : a ≠ w := fun e => hn (.inl e.symm)
  have e2 : w ≠ b := fun e => hn (.inr e)
  have := h.up a w k1 e1
  have := h.up w b k2 e2
  omega
theorem High.one {f : α → Nat} (h : L.High f) (k : L.Mod) : ∀ (n : Nat) (a b : α), f b ≤ n → L.Cov a b → f a + 1 = f b := by
  intro n
  induction n with
  | zero =>
    intro a b hn c
    have := h.up a b c.1 c.2.1
    omega
  | succ n ih =>
    intro a b hn c
    have hab := h.up a b c.1 c.2.1
    obtain ⟨d, cd, hd⟩ := h.cov (b := b) (by omega)
    by_cases e : a = d
    · rw [e]; exact hd
    · have hj : L.j d a = b := by
        rcases c.2.2 (L.j d a) (L.jr _ _) (L.jg cd.1 c.1) with g | g
        · exfalso
          have hda : L.le d a := by rw [← g]; exact L.jl _ _
          rcases cd.2.2 a hda c.1 with g2 | g2
          · exact e g2
          · exact c.2.1 g2
        · exact g
      have c1 : L.Cov (L.m d a) d := k.cov_down (by rw [hj]; exact c)
      have c2 : L.Cov (L.m a d) a := k.cov_down (by rw [j_comm, hj]; exact cd)
      rw [m_comm] at c2
      have f1 := ih _ _ (by omega) c1
      have f2 := ih _ _ (by omega) c2
      omega
end OL

section
variable {m : Mx} {z : Nat → Int} {y : Nat → Nat} {o : Nat}
end

def maxTo (f : Nat → Nat) : Nat → Nat
  | 0 => 0
  | k + 1 => max (maxTo f k) (f k)
def hN (m : Mx) : Nat → Nat → Nat
  | 0, _ => 0
  | s + 1, a => maxTo (fun k => if (k != a && leB m k a) = true then hN m s k + 1 else 0) m.n
section
variable {m : Mx} {z : Nat → Int} {y : Nat → Nat} {o : Nat}
end
end Go.Proofs.Ytmchgclaeipoeaa
namespace Go.Proofs.Ytmchgclaeipoeaa

inductive Fm where
  | la | lb | lc | no | yes
  | neg (f : Fm)
  | meet (f g : Fm)
  | join (f g : Fm)
/-- The bytes of a formula. -/
def Fm.text : Fm → List UInt8
  | .la => [97]
  | .lb => [98]
  | .lc => [99]
  | .no => [48]
  | .yes => [49]
  | .neg f => 33 :: f.text
  | .meet f g => 40 :: (f.text ++ 38 :: (g.text ++ [41]))
  | .join f g => 40 :: (f.text ++ 124 :: (g.text ++ [41]))
theorem Fm.text_pos (f : Fm) : 1 ≤ f.text.length := by cases f <;> simp [Fm.text]
/-- A sign between two formulas. -/
def opOf (o : UInt8) (f g : Fm) : Option Fm := if o = 38 then some (.meet f g) else if o = 124 then some (.join f g) else none
/-- The formula at the beginning of a text, and what is left. -/
def readF : Nat → List UInt8 → Option (Fm × List UInt8)
  | 0, _ => none
  | _ + 1, [] => none
  | n + 1, h :: r =>
    if h = 97 then some (.la, r) else if h = 98 then some (.lb, r) else if h = 99 then some (.lc, r) else if h = 48 then some (.no, r) else if h = 49 then some (.yes, r)
    else if h = 33 then (readF n r).map fun x => (.neg x.1, x.2)
    else if h = 40 then
      match readF n r with
      | some (f, o :: r1) =>
        match readF n r1 with
        | some (g, e :: r2) => if e = 41 then (opOf o f g).map fun x => (x, r2) else none
        | _ => none
      | _ => none
    else none
theorem readF_text : ∀ (f : Fm) (n : Nat) (r : List UInt8), f.text.length ≤ n → readF n (f.text ++ r) = some (f, r) := by
  intro f
  induction f with
  | la | lb | lc | no | yes =>
    intro n r h
    obtain ⟨n, rfl⟩ : ∃ k, n = k + 1 := ⟨n - 1, by simp [Fm.text] at h; omega⟩
    simp [Fm.text, readF]
  | neg f ih =>
    intro n r h
    obtain ⟨n, rfl⟩ : ∃ k, n = k + 1 := ⟨n - 1, by simp [Fm.text] at h; omega⟩
    have e := ih n r (by simp [Fm.text] at h; omega)
    simp [Fm.text, readF, e]
  | meet f g ihf ihg =>
    intro n r h
    obtain ⟨n, rfl⟩ : ∃ k, n = k + 1 := ⟨n - 1, by simp [Fm.text] at h; omega⟩
    simp [Fm.text] at h
    have e1 := ihf n (38 :: (g.text ++ 41 :: r)) (by omega)
    have e2 := ihg n (41 :: r) (by omega)
    simp [Fm.text, readF, e1, e2, opOf]
  | join f g ihf ihg =>
    intro n r h
    obtain ⟨n, rfl⟩ : ∃ k, n = k + 1 := ⟨n - 1, by simp [Fm.text] at h; omega⟩
    simp [Fm.text] at h
    have e1 := ihf n (124 :: (g.text ++ 41 :: r)) (by omega)
    have e2 := ihg n (41 :: r) (by omega)
    simp [Fm.text, readF, e1, e2, opOf]
theorem readF_is : ∀ (n : Nat) (s : List UInt8) (f : Fm) (r : List UInt8), readF n s = some (f, r) → s = f.text ++ r := by
  intro n
  induction n with
  | zero => intro s f r h; cases h
  | succ n ih =>
    intro s f r h
    cases s with
    | nil => cases h
    | cons c s =>
      unfold readF at h
      split at h
      · rename_i e; cases h; rw [e]; rfl
      split at h
      · rename_i e; cases h; rw [e]; rfl
      split at h
      · rename_i e; cases h; rw [e]; rfl
      split at h
      · rename_i e; cases h; rw [e]; rfl
      split at h
      · rename_i e; cases h; rw [e]; rfl
      split at h
      · rename_i e
        rw [Option.map_eq_some_iff] at h
        obtain ⟨⟨f1, r1⟩, h1, h2⟩ := h
        cases h2
        rw [e, ih _ _ _ h1]; rfl
      split at h
      · rename_i e
        split at h
        · rename_i f1 o r1 h1
          split at h
          · rename_i g e2 r2 h2
            split at h
            · rename_i e3
              rw [Option.map_eq_some_iff] at h
              obtain ⟨x, h3, h4⟩ := h
              cases h4
              have t1 := ih _ _ _ h1
              have t2 := ih _ _ _ h2
              unfold opOf at h3
              split at h3
              · rename_i e4
                cases h3
                rw [e, t1, t2, e3, e4]; simp [Fm.text]
              · split at h3
                · rename_i e4
                  cases h3
                  rw [e, t1, t2, e3, e4]; simp [Fm.text]
                · cases h3
            · cases h
          · cases h
        · cases h
      · cases h
/-- What is read does not hang on the count, where it is no less than the text's length. -/
theorem readF_same {n n' : Nat} {s : List UInt8} (h : s.length ≤ n) (h' : s.length ≤ n') : readF n s = readF n' s := by
  cases e : readF n s with
  | some x =>
    obtain ⟨f, r⟩ := x
    have t := readF_is _ _ _ _ e
    have hl : f.text.length ≤ s.length := by rw [t]; simp
    have := readF_text f n' r (by omega)
    rw [← t] at this
    exact this.symm
  | none =>
    cases e' : readF n' s with
    | none => rfl
    | some x =>
      obtain ⟨f, r⟩ := x
      have t := readF_is _ _ _ _ e'
      have hl : f.text.length ≤ s.length := by rw [t]; simp
      have := readF_text f n r (by omega)
      rw [← t, e] at this
      cases this
/-- The formula at the beginning. -/
def headF (s : List UInt8) : Option (Fm × List UInt8) := readF s.length s
theorem headF_text (f : Fm) (r : List UInt8) : headF (f.text ++ r) = some (f, r) := readF_text f _ r (by simp)
theorem headF_is {s : List UInt8} {f : Fm} {r : List UInt8} (h : headF s = some (f, r)) : s = f.text ++ r := readF_is _ _ _ _ h
/-- What the head of a text tells of its reading. -/
theorem headF_neg (s : List UInt8) : headF (33 :: s) = (headF s).map fun x => (.neg x.1, x.2) := by
  show readF (s.length + 1) (33 :: s) = _
  simp [readF, headF]
theorem headF_pair (s : List UInt8) : headF (40 :: s) = match headF s with
    | some (f, o :: r1) => match headF r1 with
      | some (g, e :: r2) => if e = 41 then (opOf o f g).map fun x => (x, r2) else none
      | _ => none
    | _ => none := by
  show readF (s.length + 1) (40 :: s) = _
  unfold readF
  simp only [show ¬ (40 : UInt8) = 97 by decide, show ¬ (40 : UInt8) = 98 by decide, show ¬ (40 : UInt8) = 99 by decide, show ¬ (40 : UInt8) = 48 by decide, show ¬ (40 : UInt8) = 49 by decide, show ¬ (40 : UInt8) = 33 by decide, if_false, if_true]
  unfold headF
  cases e : readF s.length s with
  | none => rfl
  | some x =>
    obtain ⟨f, r⟩ := x
    cases r with
    | nil => rfl
    | cons o r1 =>
      have t := readF_is _ _ _ _ e
      have hl : r1.length ≤ s.length := by rw [t]; simp; omega
      dsimp only
      rw [readF_same (n := s.length) (n' := r1.length) hl (Nat.le_refl _)]
theorem headF_other {c : UInt8} {s : List UInt8} (h1 : c ≠ 97) (h2 : c ≠ 98) (h3 : c ≠ 99) (h4 : c ≠ 48) (h5 : c ≠ 49) (h6 : c ≠ 33) (h7 : c ≠ 40) : headF (c :: s) = none := by
  show readF (s.length + 1) (c :: s) = _
  simp [readF, h1, h2, h3, h4, h5, h6, h7]
/-- Where the formula that begins at a place ends, -1 if there is none. -/
def endF (s : List UInt8) (k : Nat) : Int := match headF (s.drop k) with
  | some (_, r) => (s.length : Int) - r.length
  | none => -1
/-- The formula that a whole text is. -/
def fmOf (s : List UInt8) : Option Fm := match headF s with
  | some (f, []) => some f
  | _ => none
theorem fmOf_text (f : Fm) : fmOf f.text = some f := by
  have := headF_text f []
  rw [List.append_nil] at this
  unfold fmOf
  rw [this]
theorem fmOf_is {s : List UInt8} {f : Fm} (h : fmOf s = some f) : s = f.text := by
  unfold fmOf at h
  split at h
  · rename_i f1 e
    cases h
    have := headF_is e
    rw [List.append_nil] at this
    exact this
  · cases h
/-- A text is a formula. -/
def formB (s : List UInt8) : Bool := decide (s.length ≤ 60) && (fmOf s).isSome
theorem form_is {s : List UInt8} (h : formB s = true) : s.length ≤ 60 ∧ ∃ f, fmOf s = some f ∧ s = f.text := by
  unfold formB at h
  rw [Bool.and_eq_true, decide_eq_true_iff] at h
  obtain ⟨f, e⟩ := Option.isSome_iff_exists.1 h.2
  exact ⟨h.1, f, e, fmOf_is e⟩
theorem form_mk {f : Fm} (h : f.text.length ≤ 60) : formB f.text = true := by
  unfold formB
  rw [fmOf_text, decide_eq_true h]; rfl
namespace OL
variable {α : Type} {L : OL α}
/-- The value of a formula. -/
def val (L : OL α) (a b d : α) : Fm → α
  | .la => a
  | .lb => b
  | .lc => d
  | .no => L.o
  | .yes => L.c L.o
  | .neg f => L.c (L.val a b d f)
  | .meet f g => L.m (L.val a b d f) (L.val a b d g)
  | .join f g => L.j (L.val a b d f) (L.val a b d g)
/-- The law, told by two formulas. -/
theorem keeps_same : L.Keeps ↔ ∀ a b, L.j a (L.m (L.c a) (L.j a b)) = L.j a b := by
  constructor
  · intro h a b
    have e := h a (L.j a b) (L.jl a b)
    rw [m_comm]
    exact e
  · intro h a b hab
    have e := h a b
    rw [j_le hab, m_comm] at e
    exact e
end OL

/-- The value of a formula, told by numbers. -/
def valN (m : Mx) (y : Nat → Nat) (o a b d : Nat) : Fm → Nat
  | .la => a
  | .lb => b
  | .lc => d
  | .no => o
  | .yes => y o
  | .neg f => y (valN m y o a b d f)
  | .meet f g => mN m (valN m y o a b d f) (valN m y o a b d g)
  | .join f g => jN m (valN m y o a b d f) (valN m y o a b d g)
section
variable {m : Mx} {z : Nat → Int} {y : Nat → Nat} {o : Nat}
theorem Ortho.val_is (h : Ortho m z y o) {a b d : Nat} (ha : a < m.n) (hb : b < m.n) (hd : d < m.n) (f : Fm) : valN m y o a b d f = (h.ol.val ⟨a, ha⟩ ⟨b, hb⟩ ⟨d, hd⟩ f).val := by
  induction f with
  | la | lb | lc | no | yes => rfl
  | neg f ih => show y _ = y _; rw [ih]
  | meet f g ihf ihg => show mN m _ _ = mN m _ _; rw [ihf, ihg]
  | join f g ihf ihg => show jN m _ _ = jN m _ _; rw [ihf, ihg]
theorem Ortho.val_lt (h : Ortho m z y o) {a b d : Nat} (ha : a < m.n) (hb : b < m.n) (hd : d < m.n) (f : Fm) : valN m y o a b d f < m.n := by
  rw [h.val_is ha hb hd]; exact (h.ol.val _ _ _ f).2
/-- Two formulas are the same answers. -/
def sameB (m : Mx) (y : Nat → Nat) (o : Nat) (f g : Fm) : Bool := allB m.n fun a => allB m.n fun b => allB m.n fun d => decide (valN m y o a b d f = valN m y o a b d g)
theorem same_iff {f g : Fm} : sameB m y o f g = true ↔ ∀ a b d, a < m.n → b < m.n → d < m.n → valN m y o a b d f = valN m y o a b d g :=
  ⟨fun h a b d ha hb hd => of_decide_eq_true (allB_is (allB_is (allB_is h a ha) b hb) d hd), fun h => allB_true fun a ha => allB_true fun b hb => allB_true fun d hd => decide_eq_true (h a b d ha hb hd)⟩
theorem same_comm (f g : Fm) : sameB m y o f g = sameB m y o g f := by
  rw [Bool.eq_iff_iff, same_iff, same_iff]
  exact ⟨fun h a b d ha hb hd => (h a b d ha hb hd).symm, fun h a b d ha hb hd => (h a b d ha hb hd).symm⟩

abbrev fmLaw1 : Fm := .join .la (.meet (.neg .la) (.join .la .lb))
abbrev fmLaw2 : Fm := .join .la .lb
abbrev fmDis1 : Fm := .meet .la (.join .lb .lc)
abbrev fmDis2 : Fm := .join (.meet .la .lb) (.meet .la .lc)
abbrev fmMor1 : Fm := .neg (.meet .la .lb)
abbrev fmMor2 : Fm := .join (.neg .la) (.neg .lb)
theorem Ortho.same_law (h : Ortho m z y o) : sameB m y o fmLaw1 fmLaw2 = keepsB m y := by
  rw [Bool.eq_iff_iff, same_iff, h.keeps_iff, OL.keeps_same]
  constructor
  · intro g a b
    have e := g a b a a.2 b.2 a.2
    rw [h.val_is a.2 b.2 a.2, h.val_is a.2 b.2 a.2] at e
    exact Fin.ext e
  · intro g a b d ha hb hd
    rw [h.val_is ha hb hd, h.val_is ha hb hd]
    exact congrArg Fin.val (g ⟨a, ha⟩ ⟨b, hb⟩)
theorem Ortho.same_dis (h : Ortho m z y o) : sameB m y o fmDis1 fmDis2 = boolB m := by
  rw [Bool.eq_iff_iff, same_iff, h.bool_dist]
  constructor
  · intro g a b d
    have e := g a b d a.2 b.2 d.2
    rw [h.val_is a.2 b.2 d.2, h.val_is a.2 b.2 d.2] at e
    exact Fin.ext e
  · intro g a b d ha hb hd
    rw [h.val_is ha hb hd, h.val_is ha hb hd]
    exact congrArg Fin.val (g ⟨a, ha⟩ ⟨b, hb⟩ ⟨d, hd⟩)
theorem Ortho.same_mor (h : Ortho m z y o) : sameB m y o fmMor1 fmMor2 = true := same_iff.2 fun a b d ha hb hd => by
  rw [h.val_is ha hb hd, h.val_is ha hb hd]
  exact congrArg Fin.val (OL.c_m (L := h.ol) ⟨a, ha⟩ ⟨b, hb⟩)
end
end Go.Proofs.Ytmchgclaeipoeaa
