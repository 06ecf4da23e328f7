/- The walk of the drawn order: whatever the code, rows of numbers come, at most twelve, and nothing that was there has turned but the reader. -/
import Derived.Test.YtgjacinolenheaaDc
import Derived.Deep.DeepCutAuto
import Derived.Deep.RegionWith
namespace Go.Proofs.Ytgjacinolenheaa
open Go.RowKit Go.Deep

theorem Out.far {w w' : World} {base g : Nat} {v : Value} {k N : Nat} {rv : Nat → Value} {Z : Nat → Nat → Int} (h : Out w base v k N rv Z) (ho : OnlyIn (· = g) w w') (h1 : ∀ x, v.ownBlock = some x → x < g) (h2 : ∀ r, r < k → ∀ x, (rv r).ownBlock = some x → x < g) : Out w' base v k N rv Z :=
  ⟨ownsRow_only h.top ho fun j hj hs => by have h3 := h1 j hj; have h4 : j = g := hs; omega, fun r hr => ownsRow_only (h.row r hr) ho fun j hj hs => by have h3 := h2 r hr j hj; have h4 : j = g := hs; omega, h.apart, h.bit⟩
theorem owns_of_rowIs {w : World} {base g N : Nat} {z : Nat → Int} (h : w.rowIs g 3 N (fun c => .int .i64 (z c))) (hb : base ≤ g) (hN : N ≤ 9223372036854775807) : w.ownsRow base 3 1 (.slice (some ⟨g, 0, none⟩) N N) N ((List.range N).map fun c => .int .i64 (z c)) := by
  obtain ⟨c, h1, h2, h3⟩ := h
  refine ⟨by simp, .inr ⟨g, N, c, rfl, hb, h1, Nat.le_refl _, by unfold maxLen; omega, by omega, ?_⟩⟩
  apply List.ext_getElem?
  intro i
  by_cases hi : i < N
  · rw [List.getElem?_take, if_pos (by omega), Array.getElem?_toList, h3 i hi]
    simp [hi]
  · rw [List.getElem?_take, if_neg (by omega)]
    simp [hi]

/-- Tests that the walk is not to look into. -/
def isz (k : Nat) : Bool := decide (k = 0)
def isl (j N : Nat) : Bool := decide ((j : Int) = (N : Int) - 1)

structure OutW (w : World) (base : Nat) (v : Value) (k N : Nat) (rv : Nat → Value) (Z : Nat → Nat → Int) : Prop where
  top : w.ownsRow base 25 1 v k ((List.range k).map rv)
  row : ∀ r, r < k → w.ownsRow base 3 1 (rv r) N ((List.range N).map fun c => .int .i64 (Z r c))
  apart : ∀ r s, r < k → s < k → r ≠ s → (rv r).ownBlock ≠ (rv s).ownBlock
theorem OutW.bigN {w : World} {base : Nat} {v : Value} {k N : Nat} {rv : Nat → Value} {Z : Nat → Nat → Int} (h : OutW w base v k N rv Z) {r : Nat} (hr : r < k) (hN : 0 < N) :
    ∃ g cap, rv r = .slice (some ⟨g, 0, none⟩) N cap ∧ ∀ c, c < N → w.cell? ⟨g, c, none⟩ = some (.int .i64 (Z r c)) := by
  rcases owns_ways (h.row r hr) with ⟨_, h1⟩ | ⟨g, cap, h1, h2⟩
  · omega
  · exact ⟨g, cap, h1, h2⟩
theorem OutW.topv {w : World} {base : Nat} {v : Value} {k N : Nat} {rv : Nat → Value} {Z : Nat → Nat → Int} (h : OutW w base v k N rv Z) (hk : 0 < k) :
    ∃ g cap, v = .slice (some ⟨g, 0, none⟩) k cap ∧ ∀ r, r < k → w.cell? ⟨g, r, none⟩ = some (rv r) := by
  rcases h.top.2 with ⟨_, h1⟩ | ⟨g, cap, cur, rfl, _⟩
  · omega
  · refine ⟨g, cap, rfl, fun r hr => ?_⟩
    rw [h.top.cellAt r (by omega)]
    simp [hr]

/-- What is drawn: square rows, at most twelve. -/
theorem OutW.mat {w : World} {base : Nat} {v : Value} {n : Nat} {rv : Nat → Value} {Z : Nat → Nat → Int} (h : OutW w base v n n rv Z) (h0 : 0 < n) :
    ∃ (a : Option Addr) (l : Lay), v = .slice a n l.cap ∧ MatAt w w.heap.size a l ⟨n, fun _ => n, Z⟩ ∧ LayFrom base l ⟨n, fun _ => n, Z⟩ := by
  have hrv : ∀ r, r < n → ∃ y : Nat × Nat, rv r = .slice (some ⟨y.1, 0, none⟩) n y.2 ∧ y.1 < w.heap.size ∧ base ≤ y.1 ∧ ∀ j, j < n → w.cell? ⟨y.1, j, none⟩ = some (.int .i64 (Z r j)) := fun r hr => by
    obtain ⟨g, cap, h1, h2⟩ := h.bigN hr h0
    exact ⟨(g, cap), h1, own_lt (h.row r hr) g (by rw [h1]; rfl), ownsRow_block (h.row r hr) g (by rw [h1]; rfl), h2⟩
  obtain ⟨y, hy⟩ := choose_lt hrv
  obtain ⟨g, cap, rfl, hc⟩ := h.topv h0
  refine ⟨some ⟨g, 0, none⟩, ⟨g, 0, cap, fun r => some ⟨(y r).1, 0, none⟩, fun r => (y r).2, fun r => (y r).1, fun _ => 0⟩, rfl, ⟨fun r hr => ?_, fun r hr c hc' => ?_⟩, ⟨fun r _ => ownsRow_block h.top g rfl, fun r hr _ _ => (hy r hr).2.2.1⟩⟩
  · have hr' : r < n := hr
    refine ⟨rfl, own_lt h.top g rfl, ?_⟩
    rw [Nat.zero_add, hc r hr', (hy r hr').1]
  · have hr' : r < n := hr
    have hc'' : c < n := hc'
    refine ⟨rfl, (hy r hr').2.1, ?_⟩
    rw [Nat.zero_add]
    exact (hy r hr').2.2.2 c hc''
/-- A store into one of the rows. -/
theorem Out.storeW {w : World} {base : Nat} {v : Value} {k N g cap : Nat} {rv : Nat → Value} {Z : Nat → Nat → Int} (h : Out w base v k N rv Z) {r c : Nat} (hr : r < k) (hg : rv r = .slice (some ⟨g, 0, none⟩) N cap) {u : Int} :
    OutW (w.setCell ⟨g, c, none⟩ (.int .i64 u)) base v k N rv (fun r' c' => if r' = r ∧ c' = c then u else Z r' c') := by
  have hrow := h.row r hr
  rw [hg] at hrow
  have hst := hrow.stored c (.int .i64 u)
  have ho : OnlyIn (· = g) w (w.setCell ⟨g, c, none⟩ (.int .i64 u)) := (OnlyIn.refl (fun x => x = g) w).set rfl c _
  refine ⟨ownsRow_only h.top ho fun j hj hs => ?_, fun r' hr' => ?_, h.apart⟩
  · subst hs
    rcases owns_apart h.top hrow (by decide) with h1 | h1
    · rw [h1] at hj; cases hj
    · exact h1 (by rw [hj]; rfl)
  · by_cases e : r' = r
    · subst e
      rw [hg]
      have h1 := hst.1
      rw [map_set] at h1
      rw [map_congr_range (g := fun c' => .int .i64 (if r' = r' ∧ c' = c then u else Z r' c'))] at h1
      · exact h1
      · intro i _
        show (if i = c then Value.int .i64 u else .int .i64 (Z r' i)) = _
        by_cases e : i = c
        · subst e; simp
        · simp [e]
    · have := ownsRow_only (h.row r' hr') ho fun j hj hs => by
        subst hs
        exact h.apart r' r hr' hr e (by rw [hj, hg]; rfl)
      rw [map_congr_range (g := fun c' => .int .i64 (if r' = r ∧ c' = c then u else Z r' c'))] at this
      · exact this
      · intro i _
        show Value.int .i64 (Z r' i) = _
        simp [e]
def isone (x : Int) : Bool := decide (x = 1)
theorem isone1 (x : Int) : decide (x = 1) = isone x := rfl
theorem isone2 (x : Int) : (x == 1) = isone x := by unfold isone; rw [Bool.eq_iff_iff]; simp
theorem Out.base {w : World} {base base' : Nat} {v : Value} {k N : Nat} {rv : Nat → Value} {Z : Nat → Nat → Int} (h : Out w base v k N rv Z) (hb : base' ≤ base) : Out w base' v k N rv Z :=
  ⟨ownsRow_base h.top hb, fun r hr => ownsRow_base (h.row r hr) hb, h.apart, h.bit⟩
/-- Rows that are there whole, the reader, and nothing else turned. -/
structure InvO (rb : Nat) (A : Option Addr) (n c p : Nat) (w : World) (V : Value) (N : Nat) (rv : Nat → Value) (wr : World) : Prop where
  out : ∃ Z, Out wr w.heap.size V N N rv Z
  rd : Rd wr rb A n c p
  old : Below rb w wr

set_option maxHeartbeats 400000 in
theorem odd_any {rb n c p : Nat} {A : Option Addr} {q : Int} {B b o : Nat} {z : Nat → Nat} {w : World} (hq : 1 ≤ q) (hq' : q ≤ 1000000) (hp : p ≤ 100000) (hn : n ≤ 2000) (h : Rd w rb A n c p) (hz : BytesAt w B A b o n z) (hB : B ≤ rb) :
    Calls Try.prog 69 #[.pointer (some ⟨rb, 0, none⟩), .int .i64 q] w fun e w' => (∃ x : Bool, e = .returned (.bool x)) ∧ Rd w' rb A n c (p + 1) ∧ OnlyIn (· = rb) w w' := by
  have hq0 : 0 < q := by omega
  go_enter Try.func69, Try.ntmps69
  go_wp2_with fail
  go_at_call 47
  refine (pick_any hq hq' hp hn h hz hB).mono ?_
  rintro e w1 ⟨v, rfl, h0, h1, hR, hO⟩
  go_wp2_with fail
  go_ret
  exact ⟨⟨_, rfl⟩, hR, hO⟩

/-- What is drawn: rows of numbers in memory; the reader some picks further. -/
def DrawnRows (rb : Nat) (A : Option Addr) (n c : Nat) (w : World) (e : Ending) (w' : World) : Prop :=
  ∃ (a : Option Addr) (l : Lay) (m : Mx) (p : Nat), e = .returned (.slice a m.n l.cap) ∧ MatAt w' w'.heap.size a l m ∧ LayFrom w.heap.size l m ∧ m.n ≤ 12 ∧ (∀ r, r < m.n → m.L r ≤ 12) ∧ Rd w' rb A n c p ∧ p ≤ 1000 ∧ Below rb w w'

end Go.Proofs.Ytgjacinolenheaa
