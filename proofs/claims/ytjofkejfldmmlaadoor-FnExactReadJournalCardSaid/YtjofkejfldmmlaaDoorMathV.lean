/- What walks of formulas need of their texts: where the formula that begins at a place ends, what its first bytes tell; all triples below n by one counter. -/
import Derived.Test.YtjofkejfldmmlaaDoorMathT
import Derived.Test.YtjofkejfldmmlaaDoorBt
namespace Go.Proofs.YtjofkejfldmmlaaDoor

theorem drop_text {s : List UInt8} {k : Nat} {f : Fm} {r : List UInt8} (h : headF (s.drop k) = some (f, r)) : r = s.drop (k + f.text.length) ∧ k + f.text.length ≤ s.length := by
  have e := headF_is h
  have hp := f.text_pos
  have hl := congrArg List.length e
  rw [List.length_drop, List.length_append] at hl
  refine ⟨?_, by omega⟩
  rw [← List.drop_drop, e, List.drop_left]
theorem end_some {s : List UInt8} {k : Nat} {f : Fm} {r : List UInt8} (h : headF (s.drop k) = some (f, r)) : endF s k = ((k + f.text.length : Nat) : Int) := by
  obtain ⟨h1, h2⟩ := drop_text h
  have hl := congrArg List.length h1
  rw [List.length_drop] at hl
  unfold endF
  rw [h]
  show (s.length : Int) - r.length = _
  omega
theorem end_none {s : List UInt8} {k : Nat} (h : headF (s.drop k) = none) : endF s k = -1 := by unfold endF; rw [h]
theorem end_past {s : List UInt8} {k : Nat} (h : s.length ≤ k) : endF s k = -1 := end_none (by rw [List.drop_eq_nil_of_le h]; rfl)
theorem drop_at {s : List UInt8} {k : Nat} {c : UInt8} (h : s[k]? = some c) : s.drop k = c :: s.drop (k + 1) := by
  obtain ⟨hk, e⟩ := List.getElem?_eq_some_iff.1 h
  rw [List.drop_eq_getElem_cons hk, e]
theorem headF_a (s : List UInt8) : headF (97 :: s) = some (.la, s) := headF_text .la s
theorem headF_b (s : List UInt8) : headF (98 :: s) = some (.lb, s) := headF_text .lb s
theorem headF_c (s : List UInt8) : headF (99 :: s) = some (.lc, s) := headF_text .lc s
theorem headF_0 (s : List UInt8) : headF (48 :: s) = some (.no, s) := headF_text .no s
theorem headF_1 (s : List UInt8) : headF (49 :: s) = some (.yes, s) := headF_text .yes s
theorem end_one {s : List UInt8} {k : Nat} {c : UInt8} (h : s[k]? = some c) (hc : c = 97 ∨ c = 98 ∨ c = 99 ∨ c = 48 ∨ c = 49) : endF s k = ((k + 1 : Nat) : Int) := by
  have e := drop_at h
  rcases hc with rfl | rfl | rfl | rfl | rfl
  · exact end_some (f := .la) (by rw [e]; exact headF_a _)
  · exact end_some (f := .lb) (by rw [e]; exact headF_b _)
  · exact end_some (f := .lc) (by rw [e]; exact headF_c _)
  · exact end_some (f := .no) (by rw [e]; exact headF_0 _)
  · exact end_some (f := .yes) (by rw [e]; exact headF_1 _)
theorem end_neg {s : List UInt8} {k : Nat} (h : s[k]? = some 33) : endF s k = endF s (k + 1) := by
  have e := drop_at h
  cases h1 : headF (s.drop (k + 1)) with
  | none => rw [end_none h1]; exact end_none (by rw [e, headF_neg, h1]; rfl)
  | some x =>
    obtain ⟨f, r⟩ := x
    rw [end_some h1]
    rw [end_some (f := .neg f) (r := r) (by rw [e, headF_neg, h1]; rfl)]
    show ((k + (33 :: f.text).length : Nat) : Int) = _
    rw [List.length_cons]; omega
theorem end_bad {s : List UInt8} {k : Nat} {c : UInt8} (h : s[k]? = some c) (h1 : c ≠ 97) (h2 : c ≠ 98) (h3 : c ≠ 99) (h4 : c ≠ 48) (h5 : c ≠ 49) (h6 : c ≠ 33) (h7 : c ≠ 40) : endF s k = -1 :=
  end_none (by rw [drop_at h]; exact headF_other h1 h2 h3 h4 h5 h6 h7)
/-- Where a formula ends: -1, or a place behind it. -/
theorem end_cases (s : List UInt8) (k : Nat) : (endF s k = -1 ∧ headF (s.drop k) = none) ∨ ∃ (f : Fm) (e : Nat), endF s k = (e : Int) ∧ e = k + f.text.length ∧ k < e ∧ e ≤ s.length ∧ headF (s.drop k) = some (f, s.drop e) := by
  cases h1 : headF (s.drop k) with
  | none => exact .inl ⟨end_none h1, rfl⟩
  | some x =>
    obtain ⟨f, r⟩ := x
    obtain ⟨h2, h3⟩ := drop_text h1
    have hp := f.text_pos
    exact .inr ⟨f, _, end_some h1, rfl, by omega, h3, by rw [h2]⟩
/-- What a bracket begins: the four ways in which it is none, and the one in which it is a formula. -/
theorem pair_no1 {s : List UInt8} {k : Nat} (h : s[k]? = some 40) (h1 : headF (s.drop (k + 1)) = none) : headF (s.drop k) = none := by
  rw [drop_at h, headF_pair, h1]
theorem pair_no2 {s : List UInt8} {k e : Nat} {f : Fm} (h : s[k]? = some 40) (h1 : headF (s.drop (k + 1)) = some (f, s.drop e)) (h2 : s.length ≤ e) : headF (s.drop k) = none := by
  rw [drop_at h, headF_pair, h1, List.drop_eq_nil_of_le h2]
theorem pair_no3 {s : List UInt8} {k e : Nat} {f : Fm} {o : UInt8} (h : s[k]? = some 40) (h1 : headF (s.drop (k + 1)) = some (f, s.drop e)) (h2 : s[e]? = some o) (h3 : o ≠ 38) (h4 : o ≠ 124) : headF (s.drop k) = none := by
  rw [drop_at h, headF_pair, h1, drop_at h2]
  dsimp only
  cases headF (s.drop (e + 1)) with
  | none => rfl
  | some x =>
    obtain ⟨g, r⟩ := x
    cases r with
    | nil => rfl
    | cons c r =>
      dsimp only
      split
      · unfold opOf; rw [if_neg h3, if_neg h4]; rfl
      · rfl
theorem pair_no4 {s : List UInt8} {k e : Nat} {f : Fm} {o : UInt8} (h : s[k]? = some 40) (h1 : headF (s.drop (k + 1)) = some (f, s.drop e)) (h2 : s[e]? = some o) (h3 : headF (s.drop (e + 1)) = none) : headF (s.drop k) = none := by
  rw [drop_at h, headF_pair, h1, drop_at h2]
  dsimp only
  rw [h3]
theorem pair_no5 {s : List UInt8} {k e d : Nat} {f g : Fm} {o : UInt8} (h : s[k]? = some 40) (h1 : headF (s.drop (k + 1)) = some (f, s.drop e)) (h2 : s[e]? = some o) (h3 : headF (s.drop (e + 1)) = some (g, s.drop d)) (h4 : s[d]? ≠ some 41) : headF (s.drop k) = none := by
  rw [drop_at h, headF_pair, h1, drop_at h2]
  dsimp only
  rw [h3]
  cases hd : s.drop d with
  | nil => rfl
  | cons c r =>
    dsimp only
    refine if_neg fun e9 => h4 ?_
    have := congrArg List.head? hd
    rw [List.head?_drop, e9] at this
    exact this
theorem pair_yes {s : List UInt8} {k e d : Nat} {f g : Fm} {o : UInt8} {x : Fm} (h : s[k]? = some 40) (h1 : headF (s.drop (k + 1)) = some (f, s.drop e)) (h2 : s[e]? = some o) (ho : opOf o f g = some x) (h3 : headF (s.drop (e + 1)) = some (g, s.drop d)) (h4 : s[d]? = some 41) : headF (s.drop k) = some (x, s.drop (d + 1)) := by
  rw [drop_at h, headF_pair, h1, drop_at h2]
  dsimp only
  rw [h3, drop_at h4]
  dsimp only
  rw [if_pos rfl, ho]; rfl
theorem op_and (f g : Fm) : opOf 38 f g = some (.meet f g) := rfl
theorem op_or (f g : Fm) : opOf 124 f g = some (.join f g) := rfl
/-- A whole text is a formula exactly if the one at its beginning ends at its end. -/
theorem form_end {s : List UInt8} : formB s = (decide (s.length ≤ 60) && (decide (0 < s.length) && decide (endF s 0 = (s.length : Int)))) := by
  unfold formB
  congr 1
  rcases end_cases s 0 with ⟨h1, h2⟩ | ⟨f, e, h1, h2, h3, h4, h5⟩
  · rw [List.drop_zero] at h2
    have : fmOf s = none := by unfold fmOf; rw [h2]
    rw [this, h1, decide_eq_false (show ¬ (-1 : Int) = (s.length : Int) by omega), Bool.and_false]; rfl
  · rw [List.drop_zero] at h5
    rw [h1]
    by_cases he : e = s.length
    · have : fmOf s = some f := by unfold fmOf; rw [h5, he, List.drop_length]
      rw [this, he, decide_eq_true (rfl : ((s.length : Nat) : Int) = s.length), decide_eq_true (show 0 < s.length by omega)]; rfl
    · have : fmOf s = none := by
        unfold fmOf; rw [h5]
        cases hd : s.drop e with
        | nil => have := congrArg List.length hd; rw [List.length_drop] at this; simp at this; omega
        | cons c r => rfl
      rw [this, decide_eq_false (show ¬ ((e : Nat) : Int) = s.length by omega), Bool.and_false]; rfl

/-! ### one counter for all triples -/
def allK (n k : Nat) (p : Nat → Nat → Nat → Bool) : Bool := allB k fun i => p (i / n / n) (i / n % n) (i % n)
theorem allK_all {n : Nat} (hn : 0 < n) {p : Nat → Nat → Nat → Bool} : (allK n (n * n * n) p = true) ↔ ∀ a b d, a < n → b < n → d < n → p a b d = true := by
  constructor
  · intro h a b d ha hb hd
    have hlt : (a * n + b) * n + d < n * n * n := by
      have h1 : a * n + b + 1 ≤ n * n := by
        have : (a + 1) * n ≤ n * n := Nat.mul_le_mul_right n ha
        rw [Nat.add_mul] at this; omega
      have h2 : (a * n + b + 1) * n ≤ n * n * n := Nat.mul_le_mul_right n h1
      rw [Nat.add_mul (a * n + b)] at h2; omega
    have e := allB_is h _ hlt
    have e1 : ((a * n + b) * n + d) / n = a * n + b := by
      rw [Nat.mul_comm (a * n + b) n, Nat.mul_add_div hn, Nat.div_eq_of_lt hd, Nat.add_zero]
    have e2 : (a * n + b) / n = a := by rw [Nat.mul_comm a n, Nat.mul_add_div hn, Nat.div_eq_of_lt hb, Nat.add_zero]
    have e3 : (a * n + b) % n = b := by rw [Nat.mul_comm a n, Nat.mul_add_mod, Nat.mod_eq_of_lt hb]
    have e4 : ((a * n + b) * n + d) % n = d := by rw [Nat.mul_comm (a * n + b) n, Nat.mul_add_mod, Nat.mod_eq_of_lt hd]
    rw [e1, e2, e3, e4] at e
    exact e
  · intro h
    refine allB_true fun i hi => h _ _ _ ?_ (Nat.mod_lt _ hn) (Nat.mod_lt _ hn)
    rw [Nat.div_div_eq_div_mul]
    exact Nat.div_lt_of_lt_mul hi
section
variable {m : Mx} {y : Nat → Nat} {o : Nat}
theorem always_K (hn : 0 < m.n) (f : Fm) : allK m.n (m.n * m.n * m.n) (fun a b d => decide (valN m y o a b d f = y o)) = alwaysB m y o f := by
  rw [Bool.eq_iff_iff, allK_all hn, always_iff]
  exact ⟨fun h a b d ha hb hd => of_decide_eq_true (h a b d ha hb hd), fun h a b d ha hb hd => decide_eq_true (h a b d ha hb hd)⟩
theorem same_K (hn : 0 < m.n) (f g : Fm) : allK m.n (m.n * m.n * m.n) (fun a b d => decide (valN m y o a b d f = valN m y o a b d g)) = sameB m y o f g := by
  rw [Bool.eq_iff_iff, allK_all hn, same_iff]
  exact ⟨fun h a b d ha hb hd => of_decide_eq_true (h a b d ha hb hd), fun h a b d ha hb hd => decide_eq_true (h a b d ha hb hd)⟩
/-- What always holds is the same as 1. -/
theorem always_same (f : Fm) : alwaysB m y o f = sameB m y o f .yes := rfl
end
end Go.Proofs.YtjofkejfldmmlaaDoor
