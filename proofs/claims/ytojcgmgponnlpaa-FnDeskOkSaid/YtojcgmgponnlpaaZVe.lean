import Derived.Test.YtojcgmgponnlpaaZGa
import Derived.Test.YtojcgmgponnlpaaZOa
import Derived.Laws.CopyOwn
import Derived.Test.YtojcgmgponnlpaaZMath
namespace Go.Proofs.Ytojcgmgponnlpaa
open Go.RowKit Go.Deep

/-- A logic of this kind that is one: its opposites as plain numbers, its least answer. -/
structure LD.Is (d : LD) (w : World) (B : Nat) (y : Nat → Nat) (o : Nat) : Prop where
  at_ : d.At w B
  ok : logicB d.m d.k d.z = true
  orth : Ortho d.m d.z y o
  len : d.k = d.m.n
theorem LD.is {d : LD} {w : World} {B : Nat} (h : d.At w B) (hok : d.ok = true) : ∃ y o, d.Is w B y o := by
  have hl := logicB_is hok
  obtain ⟨y, o, hO⟩ := hl.ortho
  exact ⟨y, o, h, hok, hO, hl.pair.len⟩
theorem LD.Is.step {d : LD} {w w' : World} {B o : Nat} {y : Nat → Nat} (h : d.Is w B y o) (hb : Below w.heap.size w w') : d.Is w' B y o := ⟨LogAt.step h.at_ hb, h.ok, h.orth, h.len⟩
theorem LD.Is.sq {d : LD} {w : World} {B o : Nat} {y : Nat → Nat} (h : d.Is w B y o) : SqAt w B d.ua d.l d.m := LogAt.sq h.at_ h.orth.lat.order
theorem LD.Is.hi {d : LD} {w : World} {B o : Nat} {y : Nat → Nat} (h : d.Is w B y o) : 1 ≤ d.m.n ∧ d.m.n ≤ 12 := ⟨h.orth.lat.order.pos, h.orth.lat.order.top⟩
theorem LD.Is.notAt {d : LD} {w : World} {B o : Nat} {y : Nat → Nat} (h : d.Is w B y o) {a : Nat} (ha : a < d.m.n) : d.na = some ⟨d.g, d.o, none⟩ ∧ w.cell? ⟨d.g, d.o + a, none⟩ = some (.int .i64 (y a : Int)) ∧ y a < d.m.n := by
  obtain ⟨h1, _, h3⟩ := h.at_.row.row a (by rw [h.len]; exact ha)
  rw [h.orth.zy a ha] at h3
  exact ⟨h1, h3, h.orth.lt a ha⟩
end Go.Proofs.Ytojcgmgponnlpaa
namespace Go.Proofs.Ytojcgmgponnlpaa
open Go.RowKit Go.Deep

/-- What a view shows of whether one answer is below another one. -/
def viewB (m : Mx) (V : Nat → Int) (x y : Nat) : Bool := decide (0 ≤ V x) && (decide (0 ≤ V y) && leB m (V x).toNat (V y).toNat)
/-- And where it shows the opposite. -/
def viewY (y : Nat → Nat) (V : Nat → Int) (N x : Nat) : Int := firstI N (fun c => ((y (V x).toNat : Nat) : Int) == V c)

end Go.Proofs.Ytojcgmgponnlpaa
namespace Go.Proofs.Ytojcgmgponnlpaa
open Go.RowKit Go.Deep

end Go.Proofs.Ytojcgmgponnlpaa
namespace Go.Proofs.Ytojcgmgponnlpaa
open Go.RowKit Go.Deep

def spreadL (no yes n ahead behind : Nat) : List Int := [(no : Int)] ++ List.replicate ahead (-1) ++ (innerTo no yes n).map (fun c : Nat => (c : Int)) ++ List.replicate behind (-1) ++ [(yes : Int)]
end Go.Proofs.Ytojcgmgponnlpaa
namespace Go.Proofs.Ytojcgmgponnlpaa
open Go.RowKit Go.Deep

theorem Ortho.congr {m : Mx} {z : Nat → Int} {y y' : Nat → Nat} {o : Nat} (h : Ortho m z y o) (e : ∀ a, a < m.n → y a = y' a) : Ortho m z y' o := by
  have l : ∀ a, a < m.n → y' a < m.n := fun a ha => by rw [← e a ha]; exact h.lt a ha
  exact ⟨h.lat, fun a ha => by rw [h.zy a ha, e a ha], l, fun a ha => by rw [← e a ha, ← e _ (h.lt a ha)]; exact h.inv a ha, fun a b ha hb hab => by rw [← e a ha, ← e b hb]; exact h.turn a b ha hb hab, h.ho, h.least, h.eq, fun a ha => by rw [← e a ha]; exact h.kept a ha⟩
theorem made_no' {w W : World} {ok : Bool} {p N : Nat} {Z : Nat → Nat → Int} {y : Nat → Nat} {x x' : Value} (hp : w.heap.size ≤ p) (hB : Below w.heap.size w W) (hok : ok = false) : MadeOk w N Z y ok (.returned (.tuple #[noLog, .bool false])) ((W.setCell ⟨p, 0, none⟩ x).setCell ⟨p, 1, none⟩ x') :=
  ⟨hB.trans ((set2_only _ _ _ _).below fun j hj => by have hj' : j = p := hj; omega), .inl ⟨hok, rfl⟩⟩
/-- Its opposites, as plain numbers. -/
def LD.y (d : LD) (a : Nat) : Nat := (d.z a).toNat
theorem LD.isY {d : LD} {w : World} {B : Nat} (h : d.At w B) (hok : d.ok = true) : ∃ o, d.Is w B d.y o := by
  obtain ⟨y, o, hI⟩ := LD.is h hok
  exact ⟨o, hI.at_, hI.ok, hI.orth.congr fun a ha => by unfold LD.y; rw [hI.orth.zy a ha]; simp, hI.len⟩

end Go.Proofs.Ytojcgmgponnlpaa
namespace Go.Proofs.Ytojcgmgponnlpaa
open Go.RowKit Go.Deep

/-- The glued order as two views tell it, and the glued opposites. -/
def gluedB (m0 m1 : Mx) (V0 V1 : Nat → Int) (x y : Nat) : Bool := viewB m0 V0 x y || viewB m1 V1 x y

end Go.Proofs.Ytojcgmgponnlpaa
namespace Go.Proofs.Ytojcgmgponnlpaa
open Go.RowKit Go.Deep

/-- Where a first side's numbers stand. -/
structure SpotA (V : Nat → Int) (pp r lo hi : Nat) (f : Nat → Nat) : Prop where
  bot : V 0 = (lo : Int)
  top : V (pp + r + 1) = (hi : Int)
  own : ∀ i, i < pp → V (i + 1) = (f i : Int)
  oth : ∀ i, i < r → V (pp + i + 1) = -1
structure SpotB (V : Nat → Int) (pp r lo hi : Nat) (f : Nat → Nat) : Prop where
  bot : V 0 = (lo : Int)
  top : V (pp + r + 1) = (hi : Int)
  oth : ∀ i, i < pp → V (i + 1) = -1
  own : ∀ i, i < r → V (pp + i + 1) = (f i : Int)
theorem spread_at {lo hi n a b q : Nat} (hq : (innerTo lo hi n).length = q) :
    (spreadL lo hi n a b)[0]?.getD 0 = (lo : Int) ∧ (spreadL lo hi n a b)[1 + a + q + b]?.getD 0 = (hi : Int) ∧ (∀ i, i < a → (spreadL lo hi n a b)[1 + i]?.getD 0 = -1) ∧ (∀ i, i < q → (spreadL lo hi n a b)[1 + a + i]?.getD 0 = (innerF lo hi n i : Int)) ∧ (∀ i, i < b → (spreadL lo hi n a b)[1 + a + q + i]?.getD 0 = -1) := by
  have l1 : ([(lo : Int)] ++ List.replicate a (-1)).length = 1 + a := by simp; omega
  have l2 : ([(lo : Int)] ++ List.replicate a (-1) ++ (innerTo lo hi n).map (fun c : Nat => (c : Int))).length = 1 + a + q := by rw [List.length_append, l1, List.length_map, hq]
  have l3 : ([(lo : Int)] ++ List.replicate a (-1) ++ (innerTo lo hi n).map (fun c : Nat => (c : Int)) ++ List.replicate b (-1)).length = 1 + a + q + b := by rw [List.length_append, l2, List.length_replicate]
  unfold spreadL
  refine ⟨?_, ?_, fun i hi' => ?_, fun i hi' => ?_, fun i hi' => ?_⟩
  · rfl
  · rw [List.getElem?_append_right (by omega), l3]
    simp
  · rw [List.getElem?_append_left (by omega), List.getElem?_append_left (by omega), List.getElem?_append_left (by omega), List.getElem?_append_right (by simp)]
    simp [hi']
  · rw [List.getElem?_append_left (by omega), List.getElem?_append_left (by omega), List.getElem?_append_right (by omega), l1]
    have h1 : 1 + a + i - (1 + a) = i := by omega
    have h2 : i < (innerTo lo hi n).length := by omega
    rw [h1, List.getElem?_map, List.getElem?_eq_getElem h2]
    unfold innerF
    rw [List.getElem?_eq_getElem h2]
    rfl
  · rw [List.getElem?_append_left (by omega), List.getElem?_append_right (by omega), l2]
    simp [hi']
theorem spotA {lo hi n r pp : Nat} (hq : (innerTo lo hi n).length = pp) : SpotA (fun c => (spreadL lo hi n 0 r)[c]?.getD 0) pp r lo hi (innerF lo hi n) := by
  obtain ⟨h0, h1, _, h3, h4⟩ := spread_at (a := 0) (b := r) hq
  refine ⟨h0, ?_, fun i hi' => ?_, fun i hi' => ?_⟩
  · rw [show 1 + 0 + pp + r = pp + r + 1 by omega] at h1; exact h1
  · have := h3 i hi'; rw [show 1 + 0 + i = i + 1 by omega] at this; exact this
  · have := h4 i hi'; rw [show 1 + 0 + pp + i = pp + i + 1 by omega] at this; exact this
theorem spotB {lo hi n r pp : Nat} (hq : (innerTo lo hi n).length = r) : SpotB (fun c => (spreadL lo hi n pp 0)[c]?.getD 0) pp r lo hi (innerF lo hi n) := by
  obtain ⟨h0, h1, h2, h3, _⟩ := spread_at (a := pp) (b := 0) hq
  refine ⟨h0, ?_, fun i hi' => ?_, fun i hi' => ?_⟩
  · rw [show 1 + pp + r + 0 = pp + r + 1 by omega] at h1; exact h1
  · have := h2 i hi'; rw [show 1 + i = i + 1 by omega] at this; exact this
  · have := h3 i hi'; rw [show 1 + pp + i = pp + i + 1 by omega] at this; exact this
/-- What is known of no and yes. -/
structure Ends (m : Mx) (o t : Nat) : Prop where
  bot : ∀ c, c < m.n → leB m o c = true
  top : ∀ c, c < m.n → leB m c t = true
  nob : ∀ c, c < m.n → c ≠ o → leB m c o = false
  not : ∀ c, c < m.n → c ≠ t → leB m t c = false
  ne : t ≠ o
  ho : o < m.n
  ht : t < m.n
theorem LogicData.ends {m : Mx} {y : Nat → Nat} {o : Nat} (h : LogicData m.n m.Z y o) (h2 : 2 ≤ m.n) : Ends m o (y o) := by
  have ht := h.lt o h.ho
  have top : ∀ c, c < m.n → m.Z c (y o) = 1 := fun c hc => by
    have := h.turn o (y c) h.ho (h.lt c hc) (h.least _ (h.lt c hc))
    rwa [h.inv c hc] at this
  have ne : y o ≠ o := fun e => by
    have all : ∀ c, c < m.n → c = o := fun c hc => h.anti c o hc h.ho (by have := top c hc; rwa [e] at this) (h.least c hc)
    have a0 := all 0 (by omega)
    have a1 := all 1 (by omega)
    omega
  exact ⟨fun c hc => leB_mk (h.least c hc), fun c hc => leB_mk (top c hc), fun c hc hne => by
      cases hv : leB m c o with
      | false => rfl
      | true => exact absurd (h.anti c o hc h.ho (leB_is hv) (h.least c hc)) hne, fun c hc hne => by
      cases hv : leB m (y o) c with
      | false => rfl
      | true => exact absurd (h.anti c (y o) hc ht (top c hc) (leB_is hv)) hne, ne, h.ho, ht⟩
theorem firstI_only {n : Nat} {f : Nat → Bool} {k : Nat} (hk : k < n) (h1 : f k = true) (h : ∀ i, i < n → f i = true → i = k) : firstI n f = (k : Int) :=
  firstI_hit hk (fun i hi => by
    cases hv : f i with
    | false => rfl
    | true => exact absurd (h i (by omega) hv) (by omega)) h1

theorem bitZ_leB {m : Mx} {b : Nat → Nat → Bool} {x y a c : Nat} (hb : b x y = leB m a c) (hbit : m.Z a c = 0 ∨ m.Z a c = 1) : bitZ b x y = m.Z a c := by
  unfold bitZ
  rw [hb]
  unfold leB
  rcases hbit with h | h <;> rw [h] <;> rfl
theorem bitZ_one {b : Nat → Nat → Bool} {x y : Nat} (h : b x y = true) : bitZ b x y = 1 := by unfold bitZ; rw [h]; rfl
theorem bitZ_zero {b : Nat → Nat → Bool} {x y : Nat} (h : b x y = false) : bitZ b x y = 0 := by unfold bitZ; rw [h]; rfl
theorem viewB_in {m : Mx} {V : Nat → Int} {x y a c : Nat} (h1 : V x = (a : Int)) (h2 : V y = (c : Int)) : viewB m V x y = leB m a c := by
  unfold viewB
  rw [h1, h2]
  simp
theorem viewB_outx {m : Mx} {V : Nat → Int} {x y : Nat} (h1 : V x = -1) : viewB m V x y = false := by
  unfold viewB
  rw [h1]
  simp
theorem viewB_outy {m : Mx} {V : Nat → Int} {x y : Nat} (h1 : V y = -1) : viewB m V x y = false := by
  unfold viewB
  rw [h1]
  simp
section
variable {m0 m1 : Mx} {pp r o0 o1 t0 t1 n0 n1 : Nat} {Z0 Z1 : Nat → Nat → Int} {f0 f1 : Nat → Nat} {V0 V1 : Nat → Int}
theorem glued_Z (s0 : SpotA V0 pp r o0 t0 f0) (s1 : SpotB V1 pp r o1 t1 f1) (e0 : Ends m0 o0 t0) (e1 : Ends m1 o1 t1) (i0 : Inner m0.n o0 t0 pp f0) (i1 : Inner m1.n o1 t1 r f1)
    (b0 : ∀ a c, a < m0.n → c < m0.n → m0.Z a c = 0 ∨ m0.Z a c = 1) (b1 : ∀ a c, a < m1.n → c < m1.n → m1.Z a c = 0 ∨ m1.Z a c = 1) {x y : Nat} (hx : x < pp + r + 2) (hy : y < pp + r + 2) :
    bitZ (gluedB m0 m1 V0 V1) x y = gluedZ pp r m0.Z m1.Z f0 f1 x y := by
  rcases stands pp r x hx with rfl | rfl | ⟨i, hi, rfl⟩ | ⟨i, hi, rfl⟩
  · rcases stands pp r y hy with rfl | rfl | ⟨j, hj, rfl⟩ | ⟨j, hj, rfl⟩
    · rw [gz_bot _]
      exact bitZ_one (by unfold gluedB; rw [(viewB_in s0.bot s0.bot), (e0.bot _ e0.ho), (viewB_in s1.bot s1.bot), (e1.bot _ e1.ho)]; rfl)
    · rw [gz_bot _]
      exact bitZ_one (by unfold gluedB; rw [(viewB_in s0.bot s0.top), (e0.bot _ e0.ht), (viewB_in s1.bot s1.top), (e1.bot _ e1.ht)]; rfl)
    · rw [gz_bot _]
      exact bitZ_one (by unfold gluedB; rw [(viewB_in s0.bot (s0.own j hj)), (e0.bot _ (i0.lt j hj)), (viewB_outy (s1.oth j hj))]; rfl)
    · rw [gz_bot _]
      exact bitZ_one (by unfold gluedB; rw [(viewB_outy (s0.oth j hj)), (viewB_in s1.bot (s1.own j hj)), (e1.bot _ (i1.lt j hj))]; rfl)
  · rcases stands pp r y hy with rfl | rfl | ⟨j, hj, rfl⟩ | ⟨j, hj, rfl⟩
    · rw [gz_T0]
      exact bitZ_zero (by unfold gluedB; rw [(viewB_in s0.top s0.bot), (e0.nob _ e0.ht e0.ne), (viewB_in s1.top s1.bot), (e1.nob _ e1.ht e1.ne)]; rfl)
    · rw [gz_top _]
      exact bitZ_one (by unfold gluedB; rw [(viewB_in s0.top s0.top), (e0.top _ e0.ht), (viewB_in s1.top s1.top), (e1.top _ e1.ht)]; rfl)
    · rw [gz_TA hj]
      exact bitZ_zero (by unfold gluedB; rw [(viewB_in s0.top (s0.own j hj)), (e0.not _ (i0.lt j hj) (i0.nhi j hj)), (viewB_outy (s1.oth j hj))]; rfl)
    · rw [gz_TB hj]
      exact bitZ_zero (by unfold gluedB; rw [(viewB_outy (s0.oth j hj)), (viewB_in s1.top (s1.own j hj)), (e1.not _ (i1.lt j hj) (i1.nhi j hj))]; rfl)
  · rcases stands pp r y hy with rfl | rfl | ⟨j, hj, rfl⟩ | ⟨j, hj, rfl⟩
    · rw [gz_A0 hi]
      exact bitZ_zero (by unfold gluedB; rw [(viewB_in (s0.own i hi) s0.bot), (e0.nob _ (i0.lt i hi) (i0.nlo i hi)), (viewB_outx (s1.oth i hi))]; rfl)
    · rw [gz_top _]
      exact bitZ_one (by unfold gluedB; rw [(viewB_in (s0.own i hi) s0.top), (e0.top _ (i0.lt i hi)), (viewB_outx (s1.oth i hi))]; rfl)
    · rw [gz_AA hi hj]
      exact bitZ_leB (m := m0) (by unfold gluedB; rw [(viewB_in (s0.own i hi) (s0.own j hj)), (viewB_outx (s1.oth i hi))]; simp) (b0 _ _ (i0.lt i hi) (i0.lt j hj))
    · rw [gz_AB hi hj]
      exact bitZ_zero (by unfold gluedB; rw [(viewB_outy (s0.oth j hj)), (viewB_outx (s1.oth i hi))]; rfl)
  · rcases stands pp r y hy with rfl | rfl | ⟨j, hj, rfl⟩ | ⟨j, hj, rfl⟩
    · rw [gz_B0 hi]
      exact bitZ_zero (by unfold gluedB; rw [(viewB_outx (s0.oth i hi)), (viewB_in (s1.own i hi) s1.bot), (e1.nob _ (i1.lt i hi) (i1.nlo i hi))]; rfl)
    · rw [gz_top _]
      exact bitZ_one (by unfold gluedB; rw [(viewB_outx (s0.oth i hi)), (viewB_in (s1.own i hi) s1.top), (e1.top _ (i1.lt i hi))]; rfl)
    · rw [gz_BA hi hj]
      exact bitZ_zero (by unfold gluedB; rw [(viewB_outx (s0.oth i hi)), (viewB_outy (s1.oth j hj))]; rfl)
    · rw [gz_BB hi hj]
      exact bitZ_leB (m := m1) (by unfold gluedB; rw [(viewB_outx (s0.oth i hi)), (viewB_in (s1.own i hi) (s1.own j hj))]; simp) (b1 _ _ (i1.lt i hi) (i1.lt j hj))

/-- The glued opposites, as two views tell them. -/
def gluedYv (y0 y1 : Nat → Nat) (V0 V1 : Nat → Int) (N x : Nat) : Nat := if 0 ≤ V0 x then (viewY y0 V0 N x).toNat else (viewY y1 V1 N x).toNat
theorem spotA_only (s0 : SpotA V0 pp r o0 t0 f0) (hne : t0 ≠ o0) (i0 : Inner n0 o0 t0 pp f0) {c : Nat} (hc : c < pp + r + 2) :
    (V0 c = (o0 : Int) → c = 0) ∧ (V0 c = (t0 : Int) → c = pp + r + 1) ∧ ∀ j, j < pp → V0 c = (f0 j : Int) → c = j + 1 := by
  rcases stands pp r c hc with rfl | rfl | ⟨i, hi, rfl⟩ | ⟨i, hi, rfl⟩
  · rw [s0.bot]
    exact ⟨fun _ => rfl, fun h => absurd h (by omega), fun j hj h => absurd (i0.nlo j hj) (by omega)⟩
  · rw [s0.top]
    exact ⟨fun h => absurd h (by omega), fun _ => rfl, fun j hj h => absurd (i0.nhi j hj) (by omega)⟩
  · rw [s0.own i hi]
    exact ⟨fun h => absurd (i0.nlo i hi) (by omega), fun h => absurd (i0.nhi i hi) (by omega), fun j hj h => by rw [i0.inj i j hi hj (by omega)]⟩
  · rw [s0.oth i hi]
    exact ⟨fun h => by omega, fun h => by omega, fun j hj h => by omega⟩
theorem spotB_only (s1 : SpotB V1 pp r o1 t1 f1) (_ : t1 ≠ o1) (i1 : Inner n1 o1 t1 r f1) {c : Nat} (hc : c < pp + r + 2) :
    ∀ j, j < r → V1 c = (f1 j : Int) → c = pp + j + 1 := by
  rcases stands pp r c hc with rfl | rfl | ⟨i, hi, rfl⟩ | ⟨i, hi, rfl⟩
  · rw [s1.bot]
    exact fun j hj h => absurd (i1.nlo j hj) (by omega)
  · rw [s1.top]
    exact fun j hj h => absurd (i1.nhi j hj) (by omega)
  · rw [s1.oth i hi]
    exact fun j hj h => by omega
  · rw [s1.own i hi]
    exact fun j hj h => by rw [i1.inj i j hi hj (by omega)]
theorem inner_opp {n lo p : Nat} {Z : Nat → Nat → Int} {y f : Nat → Nat} (h : LogicData n Z y lo) (i0 : Inner n lo (y lo) p f) {i : Nat} (hi : i < p) : ∃ j, j < p ∧ f j = y (f i) := by
  have l := i0.lt i hi
  refine i0.all (y (f i)) (h.lt _ l) (fun e => ?_) (fun e => ?_)
  · have := h.inv _ l
    rw [e] at this
    exact i0.nhi i hi this.symm
  · have e1 := h.inv _ l
    rw [e, h.inv lo h.ho] at e1
    exact i0.nlo i hi e1.symm
variable {y0 y1 : Nat → Nat}
theorem glued_Y (hne0 : y0 o0 ≠ o0) (hne1 : y1 o1 ≠ o1) (h0 : LogicData n0 Z0 y0 o0) (h1 : LogicData n1 Z1 y1 o1) (s0 : SpotA V0 pp r o0 (y0 o0) f0) (s1 : SpotB V1 pp r o1 (y1 o1) f1) (i0 : Inner n0 o0 (y0 o0) pp f0) (i1 : Inner n1 o1 (y1 o1) r f1) :
    (0 ≤ V0 0 ∧ viewY y0 V0 (pp + r + 2) 0 = ((pp + r + 1 : Nat) : Int)) ∧ (0 ≤ V0 (pp + r + 1) ∧ viewY y0 V0 (pp + r + 2) (pp + r + 1) = ((0 : Nat) : Int)) ∧
    (∀ i, i < pp → ∃ j, j < pp ∧ f0 j = y0 (f0 i) ∧ 0 ≤ V0 (i + 1) ∧ viewY y0 V0 (pp + r + 2) (i + 1) = ((j + 1 : Nat) : Int)) ∧
    (∀ i, i < r → ∃ j, j < r ∧ f1 j = y1 (f1 i) ∧ ¬ 0 ≤ V0 (pp + i + 1) ∧ 0 ≤ V1 (pp + i + 1) ∧ viewY y1 V1 (pp + r + 2) (pp + i + 1) = ((pp + j + 1 : Nat) : Int)) := by
  refine ⟨⟨by rw [s0.bot]; omega, ?_⟩, ⟨by rw [s0.top]; omega, ?_⟩, fun i hi => ?_, fun i hi => ?_⟩
  · unfold viewY
    rw [s0.bot]
    refine firstI_only (by omega) (by rw [s0.top]; simp) fun c hc hv => ?_
    exact (spotA_only s0 hne0 i0 hc).2.1 (by simp at hv; omega)
  · unfold viewY
    rw [s0.top]
    refine firstI_only (by omega) (by rw [s0.bot]; simp [h0.inv o0 h0.ho]) fun c hc hv => ?_
    exact (spotA_only s0 hne0 i0 hc).1 (by simp [h0.inv o0 h0.ho] at hv; omega)
  · obtain ⟨j, hj, e⟩ := inner_opp h0 i0 hi
    refine ⟨j, hj, e, by rw [s0.own i hi]; omega, ?_⟩
    unfold viewY
    rw [s0.own i hi]
    refine firstI_only (by omega) (by rw [s0.own j hj, e]; simp) fun c hc hv => ?_
    exact (spotA_only s0 hne0 i0 hc).2.2 j hj (by rw [e]; simp at hv; omega)
  · obtain ⟨j, hj, e⟩ := inner_opp h1 i1 hi
    refine ⟨j, hj, e, by rw [s0.oth i hi]; omega, by rw [s1.own i hi]; omega, ?_⟩
    unfold viewY
    rw [s1.own i hi]
    refine firstI_only (by omega) (by rw [s1.own j hj, e]; simp) fun c hc hv => ?_
    exact spotB_only s1 hne1 i1 hc j hj (by rw [e]; simp at hv; omega)
end
end Go.Proofs.Ytojcgmgponnlpaa
