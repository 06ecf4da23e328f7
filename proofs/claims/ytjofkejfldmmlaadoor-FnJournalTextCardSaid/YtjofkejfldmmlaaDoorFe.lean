/- The walk of what makes a logic by its maker's name: of no logic, of one, of two. The walks of the program's SetsOf and RingOf. -/
import Derived.Test.YtjofkejfldmmlaaDoorFa
import Derived.Test.YtjofkejfldmmlaaDoorOa
namespace Go.Proofs.YtjofkejfldmmlaaDoor
open Go.RowKit Go.Deep

/-- A logic as it comes in. -/
structure LD where
  ua : Option Addr
  l : Lay
  m : Mx
  na : Option Addr
  g : Nat
  o : Nat
  k : Nat
  nc : Nat
  z : Nat → Int
abbrev LD.u (d : LD) : Value := .slice d.ua d.m.n d.l.cap
abbrev LD.t (d : LD) : Value := .slice d.na d.k d.nc
def LD.At (w : World) (B : Nat) (d : LD) : Prop := LogAt w B d.ua d.l d.m d.na d.g d.o d.k d.z
noncomputable def LD.ok (d : LD) : Bool := logicB d.m d.k d.z
def noLog : Value := .agg #[.slice none 0 0, .slice none 0 0]
/-- What makes a logic, or says that it cannot, hands back. -/
def MadeOk (w : World) (N : Nat) (Z : Nat → Nat → Int) (y : Nat → Nat) (ok : Bool) (e : Ending) (w' : World) : Prop :=
  Below w.heap.size w w' ∧ ((ok = false ∧ e = .returned (.tuple #[noLog, .bool false])) ∨ (ok = true ∧ ∃ u t rv, e = .returned (.tuple #[.agg #[u, t], .bool true]) ∧ LogO w' w.heap.size u t N rv Z (fun c => (y c : Int))))
theorem set2_only (v : World) (p : Nat) (x y : Value) : OnlyIn (fun q => q = p) v ((v.setCell ⟨p, 0, none⟩ x).setCell ⟨p, 1, none⟩ y) :=
  ((OnlyIn.refl (fun q => q = p) v).set (b := p) rfl 0 x).set (b := p) rfl 1 y
theorem cell_three_new (w : World) (x y z : Value) (t : TypeId) : ∀ j u, [x, y, z][j]? = some u → (w.alloc (.cells #[x, y, z] t)).cell? ((⟨w.heap.size, 0, none⟩ : Addr).add j) = some u := fun j u h => by
  have hn := ThreeAt.new w x y z t
  match j, h with
  | 0, h => rw [← h]; exact hn.c0
  | 1, h => rw [← h]; exact hn.c1
  | 2, h => rw [← h]; exact hn.c2
theorem cell_three_at {w : World} {x y z : Value} {t : TypeId} {b : Nat} (hb : b = w.heap.size) : ∀ j u, [x, y, z][j]? = some u → (w.alloc (.cells #[x, y, z] t)).cell? ((⟨b, 0, none⟩ : Addr).add j) = some u := by
  subst hb
  exact cell_three_new w x y z t
theorem Fun2At.step {w w' : World} {g N : Nat} {f c : Array Value} {b : Nat → Nat → Bool} (h : Fun2At w g f c N b) (hb : Below w.heap.size w w') : Fun2At w' g f c N b :=
  ⟨h.enters, fun W x y hW hx hy => h.gives W x y (hb.trans (hW.mono hb.size)) hx hy⟩
theorem Fun1At.step {w w' : World} {g N : Nat} {f c : Array Value} {y : Nat → Nat} (h : Fun1At w g f c N y) (hb : Below w.heap.size w w') : Fun1At w' g f c N y :=
  ⟨h.enters, fun W x hW hx => h.gives W x (hb.trans (hW.mono hb.size)) hx⟩
theorem plan_step {w w' : World} {N g1 g2 : Nat} {f1 c1 f2 c2 : Array Value} {b : Nat → Nat → Bool} {y : Nat → Nat} (h : Fun2At w g1 f1 c1 N b) (h' : Fun1At w g2 f2 c2 N y) (hb : Below w.heap.size w w') : Nonempty (PlanAt w' (.agg #[.int .i64 (N : Int), .func (.func g1) f1 c1, .func (.func g2) f2 c2]) N b y) :=
  ⟨⟨_, _, _, _, _, _, rfl, h.step hb, h'.step hb⟩⟩
theorem made_no {w W : World} {ok : Bool} {p N : Nat} {Z : Nat → Nat → Int} {y : Nat → Nat} {x x' : Value} (hp : w.heap.size = p) (hB : Below w.heap.size w W) (hok : ok = false) : MadeOk w N Z y ok (.returned (.tuple #[noLog, .bool false])) ((W.setCell ⟨p, 0, none⟩ x).setCell ⟨p, 1, none⟩ x') :=
  ⟨hB.trans ((set2_only _ _ _ _).below fun j hj => by have hj' : j = p := hj; omega), .inl ⟨hok, rfl⟩⟩

end Go.Proofs.YtjofkejfldmmlaaDoor
namespace Go.Proofs.YtjofkejfldmmlaaDoor
open Go.RowKit Go.Deep

theorem LogO.congrZ {w : World} {base : Nat} {u t : Value} {n : Nat} {rv : Nat → Value} {Z Z' : Nat → Nat → Int} {y y' : Nat → Int} (h : LogO w base u t n rv Z y) (e : ∀ r, r < n → ∀ c, c < n → Z r c = Z' r c) (e' : ∀ c, c < n → y c = y' c) : LogO w base u t n rv Z' y' := by
  refine ⟨h.pos, h.hi, ⟨h.out.top, fun r hr => ?_, h.out.apart, fun r c hr hc => by rw [← e r hr c hc]; exact h.out.bit r c hr hc⟩, ?_, h.sep, fun c hc => by rw [← e' c hc]; exact h.rng c hc⟩
  · have := h.out.row r hr
    rw [map_congr_range (g := fun c => Value.int .i64 (Z' r c)) fun c hc => by rw [e r hr c hc]] at this
    exact this
  · have := h.ints
    unfold IntsAt at this ⊢
    rw [map_congr_range (g := fun c => Value.int .i64 (y' c)) fun c hc => by rw [e' c hc]] at this
    exact this
theorem MadeOk.congr {w : World} {N : Nat} {Z Z' : Nat → Nat → Int} {y y' : Nat → Nat} {ok ok' : Bool} {e : Ending} {w' : World} (h : MadeOk w N Z y ok e w') (hok : ok = ok') (eZ : ∀ r, r < N → ∀ c, c < N → Z r c = Z' r c) (ey : ∀ c, c < N → y c = y' c) : MadeOk w N Z' y' ok' e w' := by
  subst hok
  exact ⟨h.1, h.2.imp id fun ⟨a, u, t, rv, he, hl⟩ => ⟨a, u, t, rv, he, hl.congrZ eZ fun c hc => by rw [ey c hc]⟩⟩

end Go.Proofs.YtjofkejfldmmlaaDoor
