/- The plain mathematics of answers that agree: agreeing, the law and agreeing both ways, the centre, what is told apart, Foulis and Holland. -/
import Derived.Test.YtijcacibofpnpaaZMathK
namespace Go.Proofs.Ytijcacibofpnpaa

/-- A lattice with opposites, for itself. -/
structure OL (α : Type) where
  le : α → α → Prop
  m : α → α → α
  j : α → α → α
  c : α → α
  o : α
  refl : ∀ a, le a a
  trans : ∀ {a b d}, le a b → le b d → le a d
  anti : ∀ {a b}, le a b → le b a → a = b
  ml : ∀ a b, le (m a b) a
  mr : ∀ a b, le (m a b) b
  mg : ∀ {a b d}, le d a → le d b → le d (m a b)
  jl : ∀ a b, le a (j a b)
  jr : ∀ a b, le b (j a b)
  jg : ∀ {a b d}, le a d → le b d → le (j a b) d
  cc : ∀ a, c (c a) = a
  turn : ∀ {a b}, le a b → le (c b) (c a)
  low : ∀ a, le o a
  apart : ∀ a, m a (c a) = o
namespace OL
variable {α : Type} {L : OL α}
/-- The law. -/
def Keeps (L : OL α) : Prop := ∀ a b, L.le a b → L.j a (L.m b (L.c a)) = b
/-- One answer agrees with another one. -/
def Ag (L : OL α) (a b : α) : Prop := L.j (L.m a b) (L.m a (L.c b)) = a
theorem m_comm (a b : α) : L.m a b = L.m b a := L.anti (L.mg (L.mr a b) (L.ml a b)) (L.mg (L.mr b a) (L.ml b a))
theorem j_comm (a b : α) : L.j a b = L.j b a := L.anti (L.jg (L.jr b a) (L.jl b a)) (L.jg (L.jr a b) (L.jl a b))
theorem turn' {a b : α} (h : L.le a (L.c b)) : L.le b (L.c a) := by have := L.turn h; rw [L.cc] at this; exact this
theorem turn'' {a b : α} (h : L.le (L.c a) b) : L.le (L.c b) a := by have := L.turn h; rw [L.cc] at this; exact this
theorem c_m (a b : α) : L.c (L.m a b) = L.j (L.c a) (L.c b) :=
  L.anti (turn'' (L.mg (turn'' (L.jl _ _)) (turn'' (L.jr _ _)))) (L.jg (L.turn (L.ml a b)) (L.turn (L.mr a b)))
theorem c_j (a b : α) : L.c (L.j a b) = L.m (L.c a) (L.c b) := by
  have := c_m (L := L) (L.c a) (L.c b)
  rw [L.cc, L.cc] at this
  rw [← this, L.cc]
theorem j_le {a b : α} (h : L.le a b) : L.j a b = b := L.anti (L.jg h (L.refl b)) (L.jr a b)
theorem j_le' {a b : α} (h : L.le a b) : L.j b a = b := by rw [j_comm, j_le h]
theorem top (a : α) : L.le a (L.c L.o) := turn' (L.low _)
theorem zero {a t : α} (h1 : L.le t a) (h2 : L.le t (L.c a)) : L.le t L.o := by rw [← L.apart a]; exact L.mg h1 h2
theorem is_o {t : α} (h : L.le t L.o) : t = L.o := L.anti h (L.low t)
theorem Ag.c {a b : α} (h : L.Ag a b) : L.Ag a (L.c b) := by
  unfold Ag at *
  rw [L.cc, j_comm]
  exact h
theorem Ag.c' {a b : α} (h : L.Ag a (L.c b)) : L.Ag a b := by have := h.c; rw [L.cc] at this; exact this
theorem Keeps.ag {a b : α} (hk : L.Keeps) (h : L.Ag a b) : L.Ag b a := by
  have e := hk (L.m b a) b (L.ml b a)
  have e2 : L.m b (L.c (L.m b a)) = L.m b (L.c a) := by
    refine L.anti (L.mg (L.ml _ _) ?_) (L.mg (L.ml _ _) (L.trans (L.mr _ _) (L.turn (L.mr b a))))
    have h1 : L.c a = L.m (L.c (L.m a b)) (L.c (L.m a (L.c b))) := by rw [← c_j, h]
    rw [h1]
    refine L.mg ?_ (L.trans (L.ml _ _) (turn' (L.mr _ _)))
    rw [m_comm a b]
    exact L.mr _ _
  unfold Ag
  rw [← e2]
  exact e
theorem Keeps.not {a b : α} (hk : L.Keeps) (h : L.Ag a b) : L.Ag (L.c a) b := hk.ag (hk.ag h).c
theorem Keeps.same {e f : α} (hk : L.Keeps) (h : L.le e f) (h0 : L.le (L.m f (L.c e)) L.o) : e = f := by
  have := hk e f h
  rw [is_o h0, j_le' (L.low e)] at this
  exact this
/-- It agrees with all, both ways. -/
def Mid (L : OL α) (a : α) : Prop := ∀ b, L.Ag a b ∧ L.Ag b a
theorem Keeps.mid {a : α} (hk : L.Keeps) (h : ∀ b, L.Ag b a) : L.Mid a := fun b => ⟨hk.ag (h b), h b⟩
end OL

/-- The opposites told by the numbers themselves. -/
theorem Ortho.own {m : Mx} {z : Nat → Int} {y : Nat → Nat} {o : Nat} (h : Ortho m z y o) : Ortho m z (fun a => (z a).toNat) o := by
  have e : ∀ a, a < m.n → (z a).toNat = y a := fun a ha => h.toNat ha
  have l : ∀ a, a < m.n → (z a).toNat < m.n := fun a ha => by rw [e a ha]; exact h.lt a ha
  exact ⟨h.lat, fun a ha => by show z a = (((z a).toNat : Nat) : Int); rw [e a ha, h.zy a ha], l,
    fun a ha => by show (z (z a).toNat).toNat = a; rw [e a ha, e _ (h.lt a ha)]; exact h.inv a ha,
    fun a b ha hb hab => by show m.Z (z b).toNat (z a).toNat = 1; rw [e a ha, e b hb]; exact h.turn a b ha hb hab, h.ho, h.least, h.eq,
    fun a ha => by show meetI m a (z a).toNat = _; rw [e a ha]; exact h.kept a ha⟩
/-! ### Agreeing, told by numbers -/
def agB (m : Mx) (y : Nat → Nat) (a b : Nat) : Bool := decide (jN m (mN m a b) (mN m a (y b)) = a)
def twoWaysB (m : Mx) (y : Nat → Nat) : Bool := allB m.n fun a => allB m.n fun b => !agB m y a b || agB m y b a
section
variable {m : Mx} {z : Nat → Int} {y : Nat → Nat} {o : Nat}
end
end Go.Proofs.Ytijcacibofpnpaa
