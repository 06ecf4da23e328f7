/- The plain mathematics of formulas: their texts, reading them, their values, duals, and what they tell of logics. -/
import Derived.Test.YtjofkejfldmmlaaDoorMathP
namespace Go.Proofs.YtjofkejfldmmlaaDoor

/-! ### Formulas and their texts -/
inductive Fm where
  | la | lb | lc | no | yes
  | neg (f : Fm)
  | meet (f g : Fm)
  | join (f g : Fm)
/-- The bytes of a formula. -/
def Fm.text : Fm → List UInt8
  | .la => [97]
  | .lb => [98]
  | .lc => [99]
  | .no => [48]
  | .yes => [49]
  | .neg f => 33 :: f.text
  | .meet f g => 40 :: (f.text ++ 38 :: (g.text ++ [41]))
  | .join f g => 40 :: (f.text ++ 124 :: (g.text ++ [41]))
theorem Fm.text_pos (f : Fm) : 1 ≤ f.text.length := by cases f <;> simp [Fm.text]
/-- A sign between two formulas. -/
def opOf (o : UInt8) (f g : Fm) : Option Fm := if o = 38 then some (.meet f g) else if o = 124 then some (.join f g) else none
/-- The formula at the beginning of a text, and what is left. -/
def readF : Nat → List UInt8 → Option (Fm × List UInt8)
  | 0, _ => none
  | _ + 1, [] => none
  | n + 1, h :: r =>
    if h = 97 then some (.la, r) else if h = 98 then some (.lb, r) else if h = 99 then some (.lc, r) else if h = 48 then some (.no, r) else if h = 49 then some (.yes, r)
    else if h = 33 then (readF n r).map fun x => (.neg x.1, x.2)
    else if h = 40 then
      match readF n r with
      | some (f, o :: r1) =>
        match readF n r1 with
        | some (g, e :: r2) => if e = 41 then (opOf o f g).map fun x => (x, r2) else none
        | _ => none
      | _ => none
    else none
theorem readF_text : ∀ (f : Fm) (n : Nat) (r : List UInt8), f.text.length ≤ n → readF n (f.text ++ r) = some (f, r) := by
  intro f
  induction f with
  | la | lb | lc | no | yes =>
    intro n r h
    obtain ⟨n, rfl⟩ : ∃ k, n = k + 1 := ⟨n - 1, by simp [Fm.text] at h; omega⟩
    simp [Fm.text, readF]
  | neg f ih =>
    intro n r h
    obtain ⟨n, rfl⟩ : ∃ k, n = k + 1 := ⟨n - 1, by simp [Fm.text] at h; omega⟩
    have e := ih n r (by simp [Fm.text] at h; omega)
    simp [Fm.text, readF, e]
  | meet f g ihf ihg =>
    intro n r h
    obtain ⟨n, rfl⟩ : ∃ k, n = k + 1 := ⟨n - 1, by simp [Fm.text] at h; omega⟩
    simp [Fm.text] at h
    have e1 := ihf n (38 :: (g.text ++ 41 :: r)) (by omega)
    have e2 := ihg n (41 :: r) (by omega)
    simp [Fm.text, readF, e1, e2, opOf]
  | join f g ihf ihg =>
    intro n r h
    obtain ⟨n, rfl⟩ : ∃ k, n = k + 1 := ⟨n - 1, by simp [Fm.text] at h; omega⟩
    simp [Fm.text] at h
    have e1 := ihf n (124 :: (g.text ++ 41 :: r)) (by omega)
    have e2 := ihg n (41 :: r) (by omega)
    simp [Fm.text, readF, e1, e2, opOf]
theorem readF_is : ∀ (n : Nat) (s : List UInt8) (f : Fm) (r : List UInt8), readF n s = some (f, r) → s = f.text ++ r := by
  intro n
  induction n with
  | zero => intro s f r h; cases h
  | succ n ih =>
    intro s f r h
    cases s with
    | nil => cases h
    | cons c s =>
      unfold readF at h
      split at h
      · rename_i e; cases h; rw [e]; rfl
      split at h
      · rename_i e; cases h; rw [e]; rfl
      split at h
      · rename_i e; cases h; rw [e]; rfl
      split at h
      · rename_i e; cases h; rw [e]; rfl
      split at h
      · rename_i e; cases h; rw [e]; rfl
      split at h
      · rename_i e
        rw [Option.map_eq_some_iff] at h
        obtain ⟨⟨f1, r1⟩, h1, h2⟩ := h
        cases h2
        rw [e, ih _ _ _ h1]; rfl
      split at h
      · rename_i e
        split at h
        · rename_i f1 o r1 h1
          split at h
          · rename_i g e2 r2 h2
            split at h
            · rename_i e3
              rw [Option.map_eq_some_iff] at h
              obtain ⟨x, h3, h4⟩ := h
              cases h4
              have t1 := ih _ _ _ h1
              have t2 := ih _ _ _ h2
              unfold opOf at h3
              split at h3
              · rename_i e4
                cases h3
                rw [e, t1, t2, e3, e4]; simp [Fm.text]
              · split at h3
                · rename_i e4
                  cases h3
                  rw [e, t1, t2, e3, e4]; simp [Fm.text]
                · cases h3
            · cases h
          · cases h
        · cases h
      · cases h
/-- What is read does not hang on the count, where it is no less than the text's length. -/
theorem readF_same {n n' : Nat} {s : List UInt8} (h : s.length ≤ n) (h' : s.length ≤ n') : readF n s = readF n' s := by
  cases e : readF n s with
  | some x =>
    obtain ⟨f, r⟩ := x
    have t := readF_is _ _ _ _ e
    have hl : f.text.length ≤ s.length := by rw [t]; simp
    have := readF_text f n' r (by omega)
    rw [← t] at this
    exact this.symm
  | none =>
    cases e' : readF n' s with
    | none => rfl
    | some x =>
      obtain ⟨f, r⟩ := x
      have t := readF_is _ _ _ _ e'
      have hl : f.text.length ≤ s.length := by rw [t]; simp
      have := readF_text f n r (by omega)
      rw [← t, e] at this
      cases this
/-- The formula at the beginning. -/
def headF (s : List UInt8) : Option (Fm × List UInt8) := readF s.length s
theorem headF_text (f : Fm) (r : List UInt8) : headF (f.text ++ r) = some (f, r) := readF_text f _ r (by simp)
theorem headF_is {s : List UInt8} {f : Fm} {r : List UInt8} (h : headF s = some (f, r)) : s = f.text ++ r := readF_is _ _ _ _ h
theorem headF_nil : headF [] = none := rfl
/-- What the head of a text tells of its reading. -/
theorem headF_neg (s : List UInt8) : headF (33 :: s) = (headF s).map fun x => (.neg x.1, x.2) := by
  show readF (s.length + 1) (33 :: s) = _
  simp [readF, headF]
theorem headF_pair (s : List UInt8) : headF (40 :: s) = match headF s with
    | some (f, o :: r1) => match headF r1 with
      | some (g, e :: r2) => if e = 41 then (opOf o f g).map fun x => (x, r2) else none
      | _ => none
    | _ => none := by
  show readF (s.length + 1) (40 :: s) = _
  unfold readF
  simp only [show ¬ (40 : UInt8) = 97 by decide, show ¬ (40 : UInt8) = 98 by decide, show ¬ (40 : UInt8) = 99 by decide, show ¬ (40 : UInt8) = 48 by decide, show ¬ (40 : UInt8) = 49 by decide, show ¬ (40 : UInt8) = 33 by decide, if_false, if_true]
  unfold headF
  cases e : readF s.length s with
  | none => rfl
  | some x =>
    obtain ⟨f, r⟩ := x
    cases r with
    | nil => rfl
    | cons o r1 =>
      have t := readF_is _ _ _ _ e
      have hl : r1.length ≤ s.length := by rw [t]; simp; omega
      dsimp only
      rw [readF_same (n := s.length) (n' := r1.length) hl (Nat.le_refl _)]
theorem headF_other {c : UInt8} {s : List UInt8} (h1 : c ≠ 97) (h2 : c ≠ 98) (h3 : c ≠ 99) (h4 : c ≠ 48) (h5 : c ≠ 49) (h6 : c ≠ 33) (h7 : c ≠ 40) : headF (c :: s) = none := by
  show readF (s.length + 1) (c :: s) = _
  simp [readF, h1, h2, h3, h4, h5, h6, h7]
/-- Where the formula that begins at a place ends, -1 if there is none. -/
def endF (s : List UInt8) (k : Nat) : Int := match headF (s.drop k) with
  | some (_, r) => (s.length : Int) - r.length
  | none => -1
/-- The formula that a whole text is. -/
def fmOf (s : List UInt8) : Option Fm := match headF s with
  | some (f, []) => some f
  | _ => none
theorem fmOf_text (f : Fm) : fmOf f.text = some f := by
  have := headF_text f []
  rw [List.append_nil] at this
  unfold fmOf
  rw [this]
theorem fmOf_is {s : List UInt8} {f : Fm} (h : fmOf s = some f) : s = f.text := by
  unfold fmOf at h
  split at h
  · rename_i f1 e
    cases h
    have := headF_is e
    rw [List.append_nil] at this
    exact this
  · cases h
theorem text_inj {f g : Fm} (h : f.text = g.text) : f = g := by
  have e1 := fmOf_text f
  rw [h, fmOf_text g] at e1
  cases e1; rfl
/-- A text is a formula. -/
def formB (s : List UInt8) : Bool := decide (s.length ≤ 60) && (fmOf s).isSome
theorem form_is {s : List UInt8} (h : formB s = true) : s.length ≤ 60 ∧ ∃ f, fmOf s = some f ∧ s = f.text := by
  unfold formB at h
  rw [Bool.and_eq_true, decide_eq_true_iff] at h
  obtain ⟨f, e⟩ := Option.isSome_iff_exists.1 h.2
  exact ⟨h.1, f, e, fmOf_is e⟩
theorem form_mk {f : Fm} (h : f.text.length ≤ 60) : formB f.text = true := by
  unfold formB
  rw [fmOf_text, decide_eq_true h]; rfl
theorem fmOf_neg (s : List UInt8) : fmOf (33 :: s) = (fmOf s).map Fm.neg := by
  unfold fmOf
  rw [headF_neg]
  cases headF s with
  | none => rfl
  | some x =>
    obtain ⟨f, r⟩ := x
    cases r <;> rfl
/-- With an exclamation mark ahead a text is a formula exactly if it is. -/
theorem form_neg {s : List UInt8} (h : s.length < 60) : formB (33 :: s) = formB s := by
  unfold formB
  rw [fmOf_neg]
  have e1 : decide ((33 :: s : List UInt8).length ≤ 60) = true := by simp; omega
  have e2 : decide (s.length ≤ 60) = true := by simp; omega
  rw [e1, e2]
  cases fmOf s <;> rfl
theorem form_nil : formB [] = false := rfl

/-! ### Duals -/
def Fm.dual : Fm → Fm
  | .la => .la
  | .lb => .lb
  | .lc => .lc
  | .no => .yes
  | .yes => .no
  | .neg f => .neg f.dual
  | .meet f g => .join f.dual g.dual
  | .join f g => .meet f.dual g.dual
def dualByte (c : UInt8) : UInt8 := if c = 38 then 124 else if c = 124 then 38 else if c = 48 then 49 else if c = 49 then 48 else c
theorem dual_text (f : Fm) : f.dual.text = f.text.map dualByte := by
  induction f with
  | la | lb | lc | no | yes => rfl
  | neg f ih => simp [Fm.dual, Fm.text, ih, dualByte]
  | meet f g ihf ihg => simp [Fm.dual, Fm.text, ihf, ihg, dualByte]
  | join f g ihf ihg => simp [Fm.dual, Fm.text, ihf, ihg, dualByte]
theorem dual_dual (f : Fm) : f.dual.dual = f := by
  induction f with
  | la | lb | lc | no | yes => rfl
  | neg f ih => simp [Fm.dual, ih]
  | meet f g ihf ihg => simp [Fm.dual, ihf, ihg]
  | join f g ihf ihg => simp [Fm.dual, ihf, ihg]
theorem dual_len (f : Fm) : f.dual.text.length = f.text.length := by rw [dual_text, List.length_map]
/-- What DualOf returns. -/
def dualS (s : List UInt8) : List UInt8 := if formB s = true then s.map dualByte else []
theorem dualS_form {s : List UInt8} (h : formB s = true) : ∃ f : Fm, s = f.text ∧ dualS s = f.dual.text ∧ formB (dualS s) = true ∧ dualS (dualS s) = s ∧ dualS s ≠ [] := by
  obtain ⟨hl, f, _, rfl⟩ := form_is h
  have e : dualS f.text = f.dual.text := by unfold dualS; rw [if_pos h, dual_text]
  have h2 : formB f.dual.text = true := form_mk (by rw [dual_len]; exact hl)
  refine ⟨f, rfl, e, by rw [e]; exact h2, ?_, ?_⟩
  · rw [e]
    unfold dualS
    rw [if_pos h2, ← dual_text, dual_dual]
  · rw [e]
    intro e0
    have := f.dual.text_pos
    rw [e0] at this
    simp at this
theorem dualS_no {s : List UInt8} (h : formB s = false) : dualS s = [] := by unfold dualS; rw [if_neg (by rw [h]; decide)]

/-! ### Values -/
namespace OL
variable {α : Type} {L : OL α}
/-- The value of a formula. -/
def val (L : OL α) (a b d : α) : Fm → α
  | .la => a
  | .lb => b
  | .lc => d
  | .no => L.o
  | .yes => L.c L.o
  | .neg f => L.c (L.val a b d f)
  | .meet f g => L.m (L.val a b d f) (L.val a b d g)
  | .join f g => L.j (L.val a b d f) (L.val a b d g)
theorem val_dual (a b d : α) (f : Fm) : L.val (L.c a) (L.c b) (L.c d) f.dual = L.c (L.val a b d f) := by
  induction f with
  | la | lb | lc => rfl
  | no => rfl
  | yes => show L.o = L.c (L.c L.o); rw [L.cc]
  | neg f ih => show L.c (L.val _ _ _ f.dual) = _; rw [ih]; rfl
  | meet f g ihf ihg => show L.j (L.val _ _ _ f.dual) (L.val _ _ _ g.dual) = L.c (L.m _ _); rw [ihf, ihg, c_m]
  | join f g ihf ihg => show L.m (L.val _ _ _ f.dual) (L.val _ _ _ g.dual) = L.c (L.j _ _); rw [ihf, ihg, c_j]
theorem j_assoc (a b d : α) : L.j (L.j a b) d = L.j a (L.j b d) :=
  L.anti (L.jg (L.jg (L.jl _ _) (L.trans (L.jl b d) (L.jr _ _))) (L.trans (L.jr b d) (L.jr _ _))) (L.jg (L.trans (L.jl a b) (L.jl _ _)) (L.jg (L.trans (L.jr a b) (L.jl _ _)) (L.jr _ _)))
/-- The law, told by two formulas. -/
theorem keeps_same : L.Keeps ↔ ∀ a b, L.j a (L.m (L.c a) (L.j a b)) = L.j a b := by
  constructor
  · intro h a b
    have e := h a (L.j a b) (L.jl a b)
    rw [m_comm]
    exact e
  · intro h a b hab
    have e := h a b
    rw [j_le hab, m_comm] at e
    exact e
end OL

/-- The value of a formula, told by numbers. -/
def valN (m : Mx) (y : Nat → Nat) (o a b d : Nat) : Fm → Nat
  | .la => a
  | .lb => b
  | .lc => d
  | .no => o
  | .yes => y o
  | .neg f => y (valN m y o a b d f)
  | .meet f g => mN m (valN m y o a b d f) (valN m y o a b d g)
  | .join f g => jN m (valN m y o a b d f) (valN m y o a b d g)
section
variable {m : Mx} {z : Nat → Int} {y : Nat → Nat} {o : Nat}
theorem Ortho.val_is (h : Ortho m z y o) {a b d : Nat} (ha : a < m.n) (hb : b < m.n) (hd : d < m.n) (f : Fm) : valN m y o a b d f = (h.ol.val ⟨a, ha⟩ ⟨b, hb⟩ ⟨d, hd⟩ f).val := by
  induction f with
  | la | lb | lc | no | yes => rfl
  | neg f ih => show y _ = y _; rw [ih]
  | meet f g ihf ihg => show mN m _ _ = mN m _ _; rw [ihf, ihg]
  | join f g ihf ihg => show jN m _ _ = jN m _ _; rw [ihf, ihg]
theorem Ortho.val_lt (h : Ortho m z y o) {a b d : Nat} (ha : a < m.n) (hb : b < m.n) (hd : d < m.n) (f : Fm) : valN m y o a b d f < m.n := by
  rw [h.val_is ha hb hd]; exact (h.ol.val _ _ _ f).2
theorem Ortho.val_dual (h : Ortho m z y o) {a b d : Nat} (ha : a < m.n) (hb : b < m.n) (hd : d < m.n) (f : Fm) : valN m y o (y a) (y b) (y d) f.dual = y (valN m y o a b d f) := by
  rw [h.val_is (h.lt a ha) (h.lt b hb) (h.lt d hd), h.val_is ha hb hd]
  exact congrArg Fin.val (OL.val_dual (L := h.ol) ⟨a, ha⟩ ⟨b, hb⟩ ⟨d, hd⟩ f)
/-- A formula is yes for all answers. -/
def alwaysB (m : Mx) (y : Nat → Nat) (o : Nat) (f : Fm) : Bool := allB m.n fun a => allB m.n fun b => allB m.n fun d => decide (valN m y o a b d f = y o)
/-- Two formulas are the same answers. -/
def sameB (m : Mx) (y : Nat → Nat) (o : Nat) (f g : Fm) : Bool := allB m.n fun a => allB m.n fun b => allB m.n fun d => decide (valN m y o a b d f = valN m y o a b d g)
theorem always_iff {f : Fm} : alwaysB m y o f = true ↔ ∀ a b d, a < m.n → b < m.n → d < m.n → valN m y o a b d f = y o :=
  ⟨fun h a b d ha hb hd => of_decide_eq_true (allB_is (allB_is (allB_is h a ha) b hb) d hd), fun h => allB_true fun a ha => allB_true fun b hb => allB_true fun d hd => decide_eq_true (h a b d ha hb hd)⟩
theorem same_iff {f g : Fm} : sameB m y o f g = true ↔ ∀ a b d, a < m.n → b < m.n → d < m.n → valN m y o a b d f = valN m y o a b d g :=
  ⟨fun h a b d ha hb hd => of_decide_eq_true (allB_is (allB_is (allB_is h a ha) b hb) d hd), fun h => allB_true fun a ha => allB_true fun b hb => allB_true fun d hd => decide_eq_true (h a b d ha hb hd)⟩
theorem same_comm (f g : Fm) : sameB m y o f g = sameB m y o g f := by
  rw [Bool.eq_iff_iff, same_iff, same_iff]
  exact ⟨fun h a b d ha hb hd => (h a b d ha hb hd).symm, fun h a b d ha hb hd => (h a b d ha hb hd).symm⟩

/-! #### the formulas of the laws -/
abbrev fmMid : Fm := .join .la (.neg .la)
abbrev fmNot : Fm := .neg (.meet .la (.neg .la))
abbrev fmFour : Fm := .join (.meet .la .lb) (.join (.meet .la (.neg .lb)) (.join (.meet (.neg .la) .lb) (.meet (.neg .la) (.neg .lb))))
abbrev fmLaw1 : Fm := .join .la (.meet (.neg .la) (.join .la .lb))
abbrev fmLaw2 : Fm := .join .la .lb
abbrev fmDis1 : Fm := .meet .la (.join .lb .lc)
abbrev fmDis2 : Fm := .join (.meet .la .lb) (.meet .la .lc)
abbrev fmMor1 : Fm := .neg (.meet .la .lb)
abbrev fmMor2 : Fm := .join (.neg .la) (.neg .lb)
theorem Ortho.always_mid (h : Ortho m z y o) : alwaysB m y o fmMid = true := always_iff.2 fun a b d ha hb hd => by
  rw [h.val_is ha hb hd]
  exact congrArg Fin.val (OL.j_c (L := h.ol) ⟨a, ha⟩)
theorem Ortho.always_not (h : Ortho m z y o) : alwaysB m y o fmNot = true := always_iff.2 fun a b d ha hb hd => by
  rw [h.val_is ha hb hd]
  have e : h.ol.m ⟨a, ha⟩ (h.ol.c ⟨a, ha⟩) = h.ol.o := h.ol.apart _
  exact congrArg (fun q => y (Fin.val q)) e
theorem Ortho.four_ap (h : Ortho m z y o) {a b d : Nat} (ha : a < m.n) (hb : b < m.n) (hd : d < m.n) : valN m y o a b d fmFour = apN m y a b := by
  rw [h.val_is ha hb hd]
  have e := OL.j_assoc (L := h.ol) (h.ol.m ⟨a, ha⟩ ⟨b, hb⟩) (h.ol.m ⟨a, ha⟩ (h.ol.c ⟨b, hb⟩)) (h.ol.j (h.ol.m (h.ol.c ⟨a, ha⟩) ⟨b, hb⟩) (h.ol.m (h.ol.c ⟨a, ha⟩) (h.ol.c ⟨b, hb⟩)))
  exact (congrArg Fin.val e).symm
/-- Where the law is kept: the four meetings join in yes for all answers exactly if there is one block. -/
theorem Ortho.always_four (h : Ortho m z y o) (hk : keepsB m y = true) : alwaysB m y o fmFour = decide ((blockL m y).length = 1) := by
  have e : boolB m = (keepsB m y && decide ((blockL m y).length = 1)) := h.bool_one
  rw [hk, Bool.true_and] at e
  rw [← e, Bool.eq_iff_iff, always_iff]
  constructor
  · intro g
    refine h.bool_dist.2 fun a b d => ?_
    have ag : ∀ u v : Fin m.n, h.ol.Ag u v := fun u v => by
      have e1 := g u v u u.2 v.2 u.2
      rw [h.four_ap u.2 v.2 u.2] at e1
      exact (h.ag_iff u.2 v.2).1 (by rw [← h.ap_iff hk u.2 v.2]; exact decide_eq_true e1)
    exact (h.keeps_iff.1 hk).fh (ag a b) (ag a d)
  · intro g a b d ha hb hd
    rw [h.four_ap ha hb hd]
    have e1 := h.bool_adj g ha hb
    have e2 := (h.adj_keeps hk ha hb).1 e1
    have e3 := h.ap_iff hk ha hb
    rw [(h.ag_iff ha hb).2 e2] at e3
    exact of_decide_eq_true e3
theorem Ortho.same_law (h : Ortho m z y o) : sameB m y o fmLaw1 fmLaw2 = keepsB m y := by
  rw [Bool.eq_iff_iff, same_iff, h.keeps_iff, OL.keeps_same]
  constructor
  · intro g a b
    have e := g a b a a.2 b.2 a.2
    rw [h.val_is a.2 b.2 a.2, h.val_is a.2 b.2 a.2] at e
    exact Fin.ext e
  · intro g a b d ha hb hd
    rw [h.val_is ha hb hd, h.val_is ha hb hd]
    exact congrArg Fin.val (g ⟨a, ha⟩ ⟨b, hb⟩)
theorem Ortho.same_dis (h : Ortho m z y o) : sameB m y o fmDis1 fmDis2 = boolB m := by
  rw [Bool.eq_iff_iff, same_iff, h.bool_dist]
  constructor
  · intro g a b d
    have e := g a b d a.2 b.2 d.2
    rw [h.val_is a.2 b.2 d.2, h.val_is a.2 b.2 d.2] at e
    exact Fin.ext e
  · intro g a b d ha hb hd
    rw [h.val_is ha hb hd, h.val_is ha hb hd]
    exact congrArg Fin.val (g ⟨a, ha⟩ ⟨b, hb⟩ ⟨d, hd⟩)
theorem Ortho.same_mor (h : Ortho m z y o) : sameB m y o fmMor1 fmMor2 = true := same_iff.2 fun a b d ha hb hd => by
  rw [h.val_is ha hb hd, h.val_is ha hb hd]
  exact congrArg Fin.val (OL.c_m (L := h.ol) ⟨a, ha⟩ ⟨b, hb⟩)
end
/-- The texts of the laws. -/
theorem text_mid : fmMid.text = [40, 97, 124, 33, 97, 41] := rfl
theorem text_not : fmNot.text = [33, 40, 97, 38, 33, 97, 41] := rfl
end Go.Proofs.YtjofkejfldmmlaaDoor
