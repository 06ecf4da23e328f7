/- The plain mathematics of answers that agree: agreeing, the law and agreeing both ways, the centre, what is told apart, Foulis and Holland. -/
import Derived.Test.YtijcacibofpnpaaDoorZMathK
namespace Go.Proofs.YtijcacibofpnpaaDoor

/-- A lattice with opposites, for itself. -/
structure OL (α : Type) where
  le : α → α → Prop
  m : α → α → α
  j : α → α → α
  c : α → α
  o : α
  refl : ∀ a, le a a
  trans : ∀ {a b d}, le a b → le b d → le a d
  anti : ∀ {a b}, le a b → le b a → a = b
  ml : ∀ a b, le (m a b) a
  mr : ∀ a b, le (m a b) b
  mg : ∀ {a b d}, le d a → le d b → le d (m a b)
  jl : ∀ a b, le a (j a b)
  jr : ∀ a b, le b (j a b)
  jg : ∀ {a b d}, le a d → le b d → le (j a b) d
  cc : ∀ a, c (c a) = a
  turn : ∀ {a b}, le a b → le (c b) (c a)
  low : ∀ a, le o a
  apart : ∀ a, m a (c a) = o
namespace OL
variable {α : Type} {L : OL α}
/-- The law. -/
def Keeps (L : OL α) : Prop := ∀ a b, L.le a b → L.j a (L.m b (L.c a)) = b
/-- One answer agrees with another one. -/
def Ag (L : OL α) (a b : α) : Prop := L.j (L.m a b) (L.m a (L.c b)) = a
theorem m_comm (a b : α) : L.m a b = L.m b a := L.anti (L.mg (L.mr a b) (L.ml a b)) (L.mg (L.mr b a) (L.ml b a))
theorem j_comm (a b : α) : L.j a b = L.j b a := L.anti (L.jg (L.jr b a) (L.jl b a)) (L.jg (L.jr a b) (L.jl a b))
theorem turn' {a b : α} (h : L.le a (L.c b)) : L.le b (L.c a) := by have := L.turn h; rw [L.cc] at this; exact this
theorem turn'' {a b : α} (h : L.le (L.c a) b) : L.le (L.c b) a := by have := L.turn h; rw [L.cc] at this; exact this
theorem c_m (a b : α) : L.c (L.m a b) = L.j (L.c a) (L.c b) :=
  L.anti (turn'' (L.mg (turn'' (L.jl _ _)) (turn'' (L.jr _ _)))) (L.jg (L.turn (L.ml a b)) (L.turn (L.mr a b)))
theorem c_j (a b : α) : L.c (L.j a b) = L.m (L.c a) (L.c b) := by
  have := c_m (L := L) (L.c a) (L.c b)
  rw [L.cc, L.cc] at this
  rw [← this, L.cc]
theorem m_le {a b : α} (h : L.le a b) : L.m a b = a := L.anti (L.ml a b) (L.mg (L.refl a) h)
theorem m_le' {a b : α} (h : L.le a b) : L.m b a = a := by rw [m_comm, m_le h]
theorem j_le {a b : α} (h : L.le a b) : L.j a b = b := L.anti (L.jg h (L.refl b)) (L.jr a b)
theorem j_le' {a b : α} (h : L.le a b) : L.j b a = b := by rw [j_comm, j_le h]
theorem top (a : α) : L.le a (L.c L.o) := turn' (L.low _)
theorem zero {a t : α} (h1 : L.le t a) (h2 : L.le t (L.c a)) : L.le t L.o := by rw [← L.apart a]; exact L.mg h1 h2
theorem is_o {t : α} (h : L.le t L.o) : t = L.o := L.anti h (L.low t)
theorem j_c (a : α) : L.j a (L.c a) = L.c L.o := by
  have := c_m (L := L) a (L.c a)
  rw [L.apart, L.cc] at this
  rw [j_comm, ← this]
theorem Ag.c {a b : α} (h : L.Ag a b) : L.Ag a (L.c b) := by
  unfold Ag at *
  rw [L.cc, j_comm]
  exact h
theorem Ag.c' {a b : α} (h : L.Ag a (L.c b)) : L.Ag a b := by have := h.c; rw [L.cc] at this; exact this
theorem ag_le {a b : α} (h : L.le a b) : L.Ag a b := by
  unfold Ag
  rw [m_le h]
  exact j_le' (L.ml _ _)
theorem ag_o (a : α) : L.Ag a L.o := (ag_le (top a)).c'
theorem ag_top (a : α) : L.Ag a (L.c L.o) := ag_le (top a)
theorem o_ag (a : α) : L.Ag L.o a := ag_le (L.low a)
theorem top_ag (a : α) : L.Ag (L.c L.o) a := by
  unfold Ag
  rw [m_le' (top a), m_le' (top _), j_c]
theorem Keeps.ag {a b : α} (hk : L.Keeps) (h : L.Ag a b) : L.Ag b a := by
  have e := hk (L.m b a) b (L.ml b a)
  have e2 : L.m b (L.c (L.m b a)) = L.m b (L.c a) := by
    refine L.anti (L.mg (L.ml _ _) ?_) (L.mg (L.ml _ _) (L.trans (L.mr _ _) (L.turn (L.mr b a))))
    have h1 : L.c a = L.m (L.c (L.m a b)) (L.c (L.m a (L.c b))) := by rw [← c_j, h]
    rw [h1]
    refine L.mg ?_ (L.trans (L.ml _ _) (turn' (L.mr _ _)))
    rw [m_comm a b]
    exact L.mr _ _
  unfold Ag
  rw [← e2]
  exact e
theorem Keeps.not {a b : α} (hk : L.Keeps) (h : L.Ag a b) : L.Ag (L.c a) b := hk.ag (hk.ag h).c
theorem Keeps.same {e f : α} (hk : L.Keeps) (h : L.le e f) (h0 : L.le (L.m f (L.c e)) L.o) : e = f := by
  have := hk e f h
  rw [is_o h0, j_le' (L.low e)] at this
  exact this
/-- It agrees with all, both ways. -/
def Mid (L : OL α) (a : α) : Prop := ∀ b, L.Ag a b ∧ L.Ag b a
theorem mid_o : L.Mid L.o := fun b => ⟨o_ag b, ag_o b⟩
theorem mid_top : L.Mid (L.c L.o) := fun b => ⟨top_ag b, ag_top b⟩
theorem Keeps.mid {a : α} (hk : L.Keeps) (h : ∀ b, L.Ag b a) : L.Mid a := fun b => ⟨hk.ag (h b), h b⟩
theorem Keeps.mid_not {a : α} (hk : L.Keeps) (h : L.Mid a) : L.Mid (L.c a) := hk.mid fun b => (h b).2.c
theorem Keeps.mid_meet {a d : α} (hk : L.Keeps) (ha : L.Mid a) (hd : L.Mid d) : L.Mid (L.m a d) := hk.mid fun b => by
  have h1 : L.le b (L.j (L.m b (L.m a d)) (L.m b (L.c (L.m a d)))) := by
    have e1 := (ha b).2
    have e2 := (hd (L.m b a)).2
    have g1 : L.le (L.m b a) (L.j (L.m b (L.m a d)) (L.m b (L.c (L.m a d)))) := by
      have : L.le (L.j (L.m (L.m b a) d) (L.m (L.m b a) (L.c d))) (L.j (L.m b (L.m a d)) (L.m b (L.c (L.m a d)))) :=
        L.jg (L.trans (L.mg (L.trans (L.ml _ _) (L.ml _ _)) (L.mg (L.trans (L.ml _ _) (L.mr _ _)) (L.mr _ _))) (L.jl _ _))
          (L.trans (L.mg (L.trans (L.ml _ _) (L.ml _ _)) (L.trans (L.mr _ _) (L.turn (L.mr _ _)))) (L.jr _ _))
      rw [e2] at this
      exact this
    have g2 : L.le (L.m b (L.c a)) (L.j (L.m b (L.m a d)) (L.m b (L.c (L.m a d)))) :=
      L.trans (L.mg (L.ml _ _) (L.trans (L.mr _ _) (L.turn (L.ml _ _)))) (L.jr _ _)
    have := L.jg g1 g2
    rw [e1] at this
    exact this
  exact L.anti (L.jg (L.ml _ _) (L.ml _ _)) h1
end OL

/-- The opposites told by the numbers themselves. -/
theorem Ortho.own {m : Mx} {z : Nat → Int} {y : Nat → Nat} {o : Nat} (h : Ortho m z y o) : Ortho m z (fun a => (z a).toNat) o := by
  have e : ∀ a, a < m.n → (z a).toNat = y a := fun a ha => h.toNat ha
  have l : ∀ a, a < m.n → (z a).toNat < m.n := fun a ha => by rw [e a ha]; exact h.lt a ha
  exact ⟨h.lat, fun a ha => by show z a = (((z a).toNat : Nat) : Int); rw [e a ha, h.zy a ha], l,
    fun a ha => by show (z (z a).toNat).toNat = a; rw [e a ha, e _ (h.lt a ha)]; exact h.inv a ha,
    fun a b ha hb hab => by show m.Z (z b).toNat (z a).toNat = 1; rw [e a ha, e b hb]; exact h.turn a b ha hb hab, h.ho, h.least, h.eq,
    fun a ha => by show meetI m a (z a).toNat = _; rw [e a ha]; exact h.kept a ha⟩
/-- The lattice of a logic, its answers below their number. -/
def Ortho.ol {m : Mx} {z : Nat → Int} {y : Nat → Nat} {o : Nat} (h : Ortho m z y o) : OL (Fin m.n) where
  le a b := m.Z a b = 1
  m a b := ⟨mN m a b, (h.mG a.2 b.2).lt⟩
  j a b := ⟨jN m a b, (h.jG a.2 b.2).lt⟩
  c a := ⟨y a, h.lt a a.2⟩
  o := ⟨o, h.ho⟩
  refl a := h.lat.order.refl a a.2
  trans {a b d} h1 h2 := h.lat.order.trans _ _ _ a.2 b.2 d.2 h1 h2
  anti {a b} h1 h2 := Fin.ext (le_eq h.lat.order a.2 b.2 h1 h2)
  ml a b := (h.mG a.2 b.2).l
  mr a b := (h.mG a.2 b.2).r
  mg {a b d} h1 h2 := (h.mG a.2 b.2).top d d.2 h1 h2
  jl a b := (h.jG a.2 b.2).l
  jr a b := (h.jG a.2 b.2).r
  jg {a b d} h1 h2 := (h.jG a.2 b.2).bot d d.2 h1 h2
  cc a := Fin.ext (h.inv a a.2)
  turn {a b} h1 := h.turn a b a.2 b.2 h1
  low a := h.least a a.2
  apart a := Fin.ext (h.m_not a.2)

/-! ### Agreeing, told by numbers -/
def agB (m : Mx) (y : Nat → Nat) (a b : Nat) : Bool := decide (jN m (mN m a b) (mN m a (y b)) = a)
def twoWaysB (m : Mx) (y : Nat → Nat) : Bool := allB m.n fun a => allB m.n fun b => !agB m y a b || agB m y b a
def midB (m : Mx) (y : Nat → Nat) (a : Nat) : Bool := allB m.n fun b => agB m y a b && agB m y b a
section
variable {m : Mx} {z : Nat → Int} {y : Nat → Nat} {o : Nat}
theorem Ortho.ag_iff (h : Ortho m z y o) {a b : Nat} (ha : a < m.n) (hb : b < m.n) : agB m y a b = true ↔ h.ol.Ag ⟨a, ha⟩ ⟨b, hb⟩ :=
  ⟨fun e => Fin.ext (of_decide_eq_true e), fun e => decide_eq_true (congrArg Fin.val e)⟩
theorem Ortho.keeps_iff (h : Ortho m z y o) : keepsB m y = true ↔ h.ol.Keeps := by
  constructor
  · intro e a b hab
    have := allB_is (allB_is e a a.2) b b.2
    unfold keepsPB at this
    rw [leB_mk hab] at this
    have e2 : jN m a (mN m b (y a)) = b := by simpa using this
    exact Fin.ext e2
  · intro e
    refine allB_true fun a ha => allB_true fun b hb => ?_
    unfold keepsPB
    cases hl : leB m a b with
    | false => rfl
    | true =>
      have e2 : jN m a (mN m b (y a)) = b := congrArg Fin.val (e ⟨a, ha⟩ ⟨b, hb⟩ (leB_is hl))
      simpa using e2
theorem Ortho.mid_iff (h : Ortho m z y o) {a : Nat} (ha : a < m.n) : midB m y a = true ↔ h.ol.Mid ⟨a, ha⟩ := by
  constructor
  · intro e b
    have := allB_is e b b.2
    rw [Bool.and_eq_true] at this
    exact ⟨(h.ag_iff ha b.2).1 this.1, (h.ag_iff b.2 ha).1 this.2⟩
  · intro e
    refine allB_true fun b hb => ?_
    rw [Bool.and_eq_true]
    exact ⟨(h.ag_iff ha hb).2 (e ⟨b, hb⟩).1, (h.ag_iff hb ha).2 (e ⟨b, hb⟩).2⟩
theorem Ortho.mid_ends (h : Ortho m z y o) : midB m y o = true ∧ midB m y (y o) = true := ⟨(h.mid_iff h.ho).2 OL.mid_o, (h.mid_iff (h.lt o h.ho)).2 OL.mid_top⟩
theorem Ortho.mid_not (h : Ortho m z y o) (hk : keepsB m y = true) {a : Nat} (ha : a < m.n) (hm : midB m y a = true) : midB m y (y a) = true := by
  have hK := h.keeps_iff.1 hk
  have g : h.ol.Mid (h.ol.c ⟨a, ha⟩) := hK.mid_not ((h.mid_iff ha).1 hm)
  exact (h.mid_iff (h.lt a ha)).2 g
theorem Ortho.mid_meet (h : Ortho m z y o) (hk : keepsB m y = true) {a b : Nat} (ha : a < m.n) (hb : b < m.n) (hm : midB m y a = true) (hn : midB m y b = true) : midB m y (mN m a b) = true := by
  have hK := h.keeps_iff.1 hk
  have g : h.ol.Mid (h.ol.m ⟨a, ha⟩ ⟨b, hb⟩) := hK.mid_meet ((h.mid_iff ha).1 hm) ((h.mid_iff hb).1 hn)
  exact (h.mid_iff (h.mG ha hb).lt).2 g
/-- The centre is closed where the law is kept. -/
theorem Ortho.mid_closed (h : Ortho m z y o) (hk : keepsB m y = true) {s : Nat} (hs : ∀ a, a < m.n → (s.testBit a = true ↔ midB m y a = true)) : Closed m y s :=
  ⟨fun a b ha hb ga gb => (hs _ (h.mG ha hb).lt).2 (h.mid_meet hk ha hb ((hs a ha).1 ga) ((hs b hb).1 gb)), fun a ha ga => (hs _ (h.lt a ha)).2 (h.mid_not hk ha ((hs a ha).1 ga))⟩
end
theorem sets_mids : allB 8 (midB ⟨8, fun _ => 8, setsZ⟩ (setsY 8)) = true := by decide +kernel
theorem sets_mid {a : Nat} (h : a < 8) : midB ⟨8, fun _ => 8, setsZ⟩ (setsY 8) a = true := allB_is sets_mids a h
end Go.Proofs.YtijcacibofpnpaaDoor
