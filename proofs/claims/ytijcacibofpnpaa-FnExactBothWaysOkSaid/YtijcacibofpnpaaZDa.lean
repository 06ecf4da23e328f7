/- The walk of the laws' reader of codes: each pick is a number below its bound. Rows of the call's own, under way: a list of rows, each in a block of its own, all their numbers between 0 and 2. The walk of the drawn order of sets. The walk of the drawn order: whatever the code, rows of numbers come, at most twelve, and nothing that was there has turned but the reader. -/
import Derived.Test.YtijcacibofpnpaaZWu
import Derived.Test.YtijcacibofpnpaaZWv
import Derived.Laws.BitsAllLaws
import Derived.Laws.BitsLemmas
import Derived.Deep.DeepCutAuto
import Derived.Deep.RegionWith
namespace Go.Proofs.Ytijcacibofpnpaa
open Go.RowKit Go.Deep

/-- Bytes as they lie in memory below block B. -/
structure BytesAt (w : World) (B : Nat) (A : Option Addr) (b o n : Nat) (z : Nat → Nat) : Prop where
  at_ : ∀ j, j < n → A = some ⟨b, o, none⟩ ∧ b < B ∧ w.cell? ⟨b, o + j, none⟩ = some (.int .u8 (z j)) ∧ z j < 256
theorem BytesAt.keep {w w' : World} {B : Nat} {A : Option Addr} {b o n : Nat} {z : Nat → Nat} (h : BytesAt w B A b o n z) (hk : ∀ p : Addr, p.block < B → w'.cell? p = w.cell? p) : BytesAt w' B A b o n z :=
  ⟨fun j hj => by obtain ⟨h1, h2, h3, h4⟩ := h.at_ j hj; exact ⟨h1, h2, by rw [hk _ h2]; exact h3, h4⟩⟩
theorem BytesAt.below {w w' : World} {B : Nat} {A : Option Addr} {b o n : Nat} {z : Nat → Nat} (h : BytesAt w B A b o n z) (hb : Below B w w') : BytesAt w' B A b o n z := h.keep fun _ hp => hb.cell hp

/-- The reader: a slice of bytes and how many picks there were. -/
def Rd (w : World) (rb : Nat) (A : Option Addr) (n c p : Nat) : Prop := w.heap[rb]? = some (.cells #[.slice A n c, .int .i64 p] 85 (0, 0))
theorem Rd.frozen {w : World} {rb n c p : Nat} {A : Option Addr} (h : Rd w rb A n c p) : w.frozen? ⟨rb, 1, none⟩ = false := by
  unfold Rd at h; simp [World.frozen?, h]
theorem Rd.block {w w' : World} {rb n c p : Nat} {A : Option Addr} (h : Rd w rb A n c p) (hb : w'.heap[rb]? = w.heap[rb]?) : Rd w' rb A n c p := hb.trans h
theorem Rd.drewN {w : World} {rb n c p : Nat} {A : Option Addr} (h : Rd w rb A n c p) (k : Nat) : Rd (w.drewN k) rb A n c p := h
theorem OnlyIn.drewN {S : Nat → Prop} {w w' : World} (h : OnlyIn S w w') (k : Nat) : OnlyIn S w (w'.drewN k) := ⟨h.os, h.tape, h.output, h.size, h.block⟩

theorem ofInt_i64 (a : Nat) (ha : a < 9223372036854775808) : (BitVec.ofInt 64 (a : Int)).toNat = a := by
  rw [BitVec.ofInt_natCast, BitVec.toNat_ofNat]; exact Nat.mod_eq_of_lt (by omega)
end Go.Proofs.Ytijcacibofpnpaa
namespace Go.Proofs.Ytijcacibofpnpaa
open Go.RowKit Go.Deep

structure Out (w : World) (base : Nat) (v : Value) (k N : Nat) (rv : Nat → Value) (Z : Nat → Nat → Int) : Prop where
  top : w.ownsRow base 24 1 v k ((List.range k).map rv)
  row : ∀ r, r < k → w.ownsRow base 3 1 (rv r) N ((List.range N).map fun c => .int .i64 (Z r c))
  apart : ∀ r s, r < k → s < k → r ≠ s → (rv r).ownBlock ≠ (rv s).ownBlock
  bit : ∀ r c, r < k → c < N → 0 ≤ Z r c ∧ Z r c ≤ 2

theorem own_lt {w : World} {base : Nat} {e : TypeId} {size n : Nat} {v : Value} {xs : List Value} (h : w.ownsRow base e size v n xs) : ∀ k, v.ownBlock = some k → k < w.heap.size := fun k hk => (h.lt k hk).2
theorem Out.below {w w' : World} {base B : Nat} {v : Value} {k N : Nat} {rv : Nat → Value} {Z : Nat → Nat → Int} (h : Out w base v k N rv Z) (hb : Below B w w') (hB : w.heap.size ≤ B) : Out w' base v k N rv Z :=
  ⟨ownsRow_below h.top hb hB, fun r hr => ownsRow_below (h.row r hr) hb hB, h.apart, h.bit⟩
theorem Out.only {S : Nat → Prop} {w w' : World} {base : Nat} {v : Value} {k N : Nat} {rv : Nat → Value} {Z : Nat → Nat → Int} (h : Out w base v k N rv Z) (ho : OnlyIn S w w') (hS : ∀ j, S j → j < base) : Out w' base v k N rv Z :=
  ⟨ownsRow_only h.top ho fun j hj hs => by have := ownsRow_block h.top j hj; have := hS j hs; omega,
   fun r hr => ownsRow_only (h.row r hr) ho fun j hj hs => by have := ownsRow_block (h.row r hr) j hj; have := hS j hs; omega, h.apart, h.bit⟩
theorem Out.bigN {w : World} {base : Nat} {v : Value} {k N : Nat} {rv : Nat → Value} {Z : Nat → Nat → Int} (h : Out w base v k N rv Z) {r : Nat} (hr : r < k) (hN : 0 < N) :
    ∃ g cap, rv r = .slice (some ⟨g, 0, none⟩) N cap ∧ ∀ c, c < N → w.cell? ⟨g, c, none⟩ = some (.int .i64 (Z r c)) := by
  rcases owns_ways (h.row r hr) with ⟨_, h1⟩ | ⟨g, cap, h1, h2⟩
  · omega
  · exact ⟨g, cap, h1, h2⟩
theorem Out.topv {w : World} {base : Nat} {v : Value} {k N : Nat} {rv : Nat → Value} {Z : Nat → Nat → Int} (h : Out w base v k N rv Z) (hk : 0 < k) :
    ∃ g cap, v = .slice (some ⟨g, 0, none⟩) k cap ∧ ∀ r, r < k → w.cell? ⟨g, r, none⟩ = some (rv r) := by
  rcases h.top.2 with ⟨_, h1⟩ | ⟨g, cap, cur, rfl, _⟩
  · omega
  · refine ⟨g, cap, rfl, fun r hr => ?_⟩
    rw [h.top.cellAt r (by omega)]
    simp [hr]

/-- One row more, of a block of its own. -/
theorem Out.append {w w4 : World} {base : Nat} {v v' u : Value} {k N : Nat} {rv : Nat → Value} {Z : Nat → Nat → Int} {z : Nat → Int} {o : Obj} (h : Out w base v k N rv Z)
    (hu : w.ownsRow base 3 1 u N ((List.range N).map fun c => .int .i64 (z c))) (hz : ∀ c, c < N → 0 ≤ z c ∧ z c ≤ 2) (hne : ∀ r, r < k → (rv r).ownBlock ≠ u.ownBlock)
    (h4 : w4.ownsRow base 24 1 v' (k + 1) ((List.range k).map rv ++ [u])) (hg : (w.alloc o).grownBy w4 v.ownBlock) :
    Out w4 base v' (k + 1) N (fun r => if r = k then u else rv r) (fun r c => if r = k then z c else Z r c) := by
  refine ⟨?_, fun r hr => ?_, fun r s hr hs hrs => ?_, fun r c hr hc => ?_⟩
  · have e1 : (List.range (k + 1)).map (fun r => if r = k then u else rv r) = (List.range k).map rv ++ [u] := by
      rw [List.range_succ, List.map_append]
      congr 1
      · exact map_congr_range fun i hi => by rw [if_neg (by omega)]
      · simp
    rw [e1]
    exact h4
  · by_cases e : r = k
    · subst e
      simp only [if_true]
      exact owns_not (hu.alloc o) hg (owns_apart hu h.top (by decide))
    · simp only [if_neg e]
      have hr' := h.row r (by omega)
      exact owns_not (hr'.alloc o) hg (owns_apart hr' h.top (by decide))
  · by_cases e : r = k
    · subst e
      simp only [if_true]
      rw [if_neg (Ne.symm hrs)]
      exact Ne.symm (hne s (by omega))
    · simp only [if_neg e]
      by_cases e' : s = k
      · subst e'
        simp only [if_true]
        exact hne r (by omega)
      · simp only [if_neg e']
        exact h.apart r s (by omega) (by omega) hrs
  · by_cases e : r = k
    · simp only [if_pos e]; exact hz c hc
    · simp only [if_neg e]; exact h.bit r c (by omega) hc

/-- A store into one of the rows. -/
theorem Out.store {w : World} {base : Nat} {v : Value} {k N g cap : Nat} {rv : Nat → Value} {Z : Nat → Nat → Int} (h : Out w base v k N rv Z) {r c : Nat} (hr : r < k) (hg : rv r = .slice (some ⟨g, 0, none⟩) N cap) {u : Int} (hu : 0 ≤ u ∧ u ≤ 2) :
    Out (w.setCell ⟨g, c, none⟩ (.int .i64 u)) base v k N rv (fun r' c' => if r' = r ∧ c' = c then u else Z r' c') := by
  have hrow := h.row r hr
  rw [hg] at hrow
  have hst := hrow.stored c (.int .i64 u)
  have ho : OnlyIn (· = g) w (w.setCell ⟨g, c, none⟩ (.int .i64 u)) := (OnlyIn.refl (fun x => x = g) w).set rfl c _
  refine ⟨ownsRow_only h.top ho fun j hj hs => ?_, fun r' hr' => ?_, h.apart, fun r' c' hr' hc' => ?_⟩
  · subst hs
    rcases owns_apart h.top hrow (by decide) with h1 | h1
    · rw [h1] at hj; cases hj
    · exact h1 (by rw [hj]; rfl)
  · by_cases e : r' = r
    · subst e
      rw [hg]
      have h1 := hst.1
      rw [map_set] at h1
      rw [map_congr_range (g := fun c' => .int .i64 (if r' = r' ∧ c' = c then u else Z r' c'))] at h1
      · exact h1
      · intro i _
        show (if i = c then Value.int .i64 u else .int .i64 (Z r' i)) = _
        by_cases e : i = c
        · subst e; simp
        · simp [e]
    · have := ownsRow_only (h.row r' hr') ho fun j hj hs => by
        subst hs
        exact h.apart r' r hr' hr e (by rw [hj, hg]; rfl)
      rw [map_congr_range (g := fun c' => .int .i64 (if r' = r ∧ c' = c then u else Z r' c'))] at this
      · exact this
      · intro i _
        show Value.int .i64 (Z r' i) = _
        simp [e]
  · by_cases e : r' = r ∧ c' = c
    · simp only [if_pos e]; exact hu
    · simp only [if_neg e]; exact h.bit r' c' hr' hc'
theorem Out.frozen {w : World} {base : Nat} {v : Value} {k N g cap : Nat} {rv : Nat → Value} {Z : Nat → Nat → Int} (h : Out w base v k N rv Z) {r : Nat} (hr : r < k) (hg : rv r = .slice (some ⟨g, 0, none⟩) N cap) (c : Nat) : w.frozen? ⟨g, c, none⟩ = false := by
  have hrow := h.row r hr
  rw [hg] at hrow
  exact hrow.frozenAt c

/-- The rows lie in blocks from `base` on. -/
structure LayFrom (base : Nat) (l : Lay) (m : Mx) : Prop where
  top : ∀ r, r < m.n → base ≤ l.b
  row : ∀ r, r < m.n → ∀ c, c < m.L r → base ≤ l.G r
theorem MatAt.only {S : Nat → Prop} {w w' : World} {B base : Nat} {a : Option Addr} {l : Lay} {m : Mx} (h : MatAt w B a l m) (hf : LayFrom base l m) (ho : OnlyIn S w w') (hS : ∀ j, S j → j < base) : MatAt w' B a l m :=
  ⟨fun r hr => by
    obtain ⟨h1, h2, h3⟩ := h.top r hr
    refine ⟨h1, h2, ?_⟩
    rw [World.cell?_of_block (w := w) (ho.block l.b fun hs => by have := hS _ hs; have := hf.top r hr; omega)]
    exact h3, fun r hr c hc => by
    obtain ⟨h1, h2, h3⟩ := h.row r hr c hc
    refine ⟨h1, h2, ?_⟩
    rw [World.cell?_of_block (w := w) (ho.block (l.G r) fun hs => by have := hS _ hs; have := hf.row r hr c hc; omega)]
    exact h3⟩

/-- What is drawn: square rows, at most twelve. -/
theorem Out.mat {w : World} {base : Nat} {v : Value} {n : Nat} {rv : Nat → Value} {Z : Nat → Nat → Int} (h : Out w base v n n rv Z) (h0 : 0 < n) :
    ∃ (a : Option Addr) (l : Lay), v = .slice a n l.cap ∧ MatAt w w.heap.size a l ⟨n, fun _ => n, Z⟩ ∧ LayFrom base l ⟨n, fun _ => n, Z⟩ := by
  have hrv : ∀ r, r < n → ∃ y : Nat × Nat, rv r = .slice (some ⟨y.1, 0, none⟩) n y.2 ∧ y.1 < w.heap.size ∧ base ≤ y.1 ∧ ∀ j, j < n → w.cell? ⟨y.1, j, none⟩ = some (.int .i64 (Z r j)) := fun r hr => by
    obtain ⟨g, cap, h1, h2⟩ := h.bigN hr h0
    exact ⟨(g, cap), h1, own_lt (h.row r hr) g (by rw [h1]; rfl), ownsRow_block (h.row r hr) g (by rw [h1]; rfl), h2⟩
  obtain ⟨y, hy⟩ := choose_lt hrv
  obtain ⟨g, cap, rfl, hc⟩ := h.topv h0
  refine ⟨some ⟨g, 0, none⟩, ⟨g, 0, cap, fun r => some ⟨(y r).1, 0, none⟩, fun r => (y r).2, fun r => (y r).1, fun _ => 0⟩, rfl, ⟨fun r hr => ?_, fun r hr c hc' => ?_⟩, ⟨fun r _ => ownsRow_block h.top g rfl, fun r hr _ _ => (hy r hr).2.2.1⟩⟩
  · have hr' : r < n := hr
    refine ⟨rfl, own_lt h.top g rfl, ?_⟩
    rw [Nat.zero_add, hc r hr', (hy r hr').1]
  · have hr' : r < n := hr
    have hc'' : c < n := hc'
    refine ⟨rfl, (hy r hr').2.1, ?_⟩
    rw [Nat.zero_add]
    exact (hy r hr').2.2.2 c hc''
end Go.Proofs.Ytijcacibofpnpaa
namespace Go.Proofs.Ytijcacibofpnpaa
open Go.RowKit Go.Deep

end Go.Proofs.Ytijcacibofpnpaa
namespace Go.Proofs.Ytijcacibofpnpaa
open Go.RowKit Go.Deep

theorem Out.far {w w' : World} {base g : Nat} {v : Value} {k N : Nat} {rv : Nat → Value} {Z : Nat → Nat → Int} (h : Out w base v k N rv Z) (ho : OnlyIn (· = g) w w') (h1 : ∀ x, v.ownBlock = some x → x < g) (h2 : ∀ r, r < k → ∀ x, (rv r).ownBlock = some x → x < g) : Out w' base v k N rv Z :=
  ⟨ownsRow_only h.top ho fun j hj hs => by have h3 := h1 j hj; have h4 : j = g := hs; omega, fun r hr => ownsRow_only (h.row r hr) ho fun j hj hs => by have h3 := h2 r hr j hj; have h4 : j = g := hs; omega, h.apart, h.bit⟩
structure OutW (w : World) (base : Nat) (v : Value) (k N : Nat) (rv : Nat → Value) (Z : Nat → Nat → Int) : Prop where
  top : w.ownsRow base 24 1 v k ((List.range k).map rv)
  row : ∀ r, r < k → w.ownsRow base 3 1 (rv r) N ((List.range N).map fun c => .int .i64 (Z r c))
  apart : ∀ r s, r < k → s < k → r ≠ s → (rv r).ownBlock ≠ (rv s).ownBlock
theorem OutW.bigN {w : World} {base : Nat} {v : Value} {k N : Nat} {rv : Nat → Value} {Z : Nat → Nat → Int} (h : OutW w base v k N rv Z) {r : Nat} (hr : r < k) (hN : 0 < N) :
    ∃ g cap, rv r = .slice (some ⟨g, 0, none⟩) N cap ∧ ∀ c, c < N → w.cell? ⟨g, c, none⟩ = some (.int .i64 (Z r c)) := by
  rcases owns_ways (h.row r hr) with ⟨_, h1⟩ | ⟨g, cap, h1, h2⟩
  · omega
  · exact ⟨g, cap, h1, h2⟩
theorem OutW.topv {w : World} {base : Nat} {v : Value} {k N : Nat} {rv : Nat → Value} {Z : Nat → Nat → Int} (h : OutW w base v k N rv Z) (hk : 0 < k) :
    ∃ g cap, v = .slice (some ⟨g, 0, none⟩) k cap ∧ ∀ r, r < k → w.cell? ⟨g, r, none⟩ = some (rv r) := by
  rcases h.top.2 with ⟨_, h1⟩ | ⟨g, cap, cur, rfl, _⟩
  · omega
  · refine ⟨g, cap, rfl, fun r hr => ?_⟩
    rw [h.top.cellAt r (by omega)]
    simp [hr]

/-- What is drawn: square rows, at most twelve. -/
theorem OutW.mat {w : World} {base : Nat} {v : Value} {n : Nat} {rv : Nat → Value} {Z : Nat → Nat → Int} (h : OutW w base v n n rv Z) (h0 : 0 < n) :
    ∃ (a : Option Addr) (l : Lay), v = .slice a n l.cap ∧ MatAt w w.heap.size a l ⟨n, fun _ => n, Z⟩ ∧ LayFrom base l ⟨n, fun _ => n, Z⟩ := by
  have hrv : ∀ r, r < n → ∃ y : Nat × Nat, rv r = .slice (some ⟨y.1, 0, none⟩) n y.2 ∧ y.1 < w.heap.size ∧ base ≤ y.1 ∧ ∀ j, j < n → w.cell? ⟨y.1, j, none⟩ = some (.int .i64 (Z r j)) := fun r hr => by
    obtain ⟨g, cap, h1, h2⟩ := h.bigN hr h0
    exact ⟨(g, cap), h1, own_lt (h.row r hr) g (by rw [h1]; rfl), ownsRow_block (h.row r hr) g (by rw [h1]; rfl), h2⟩
  obtain ⟨y, hy⟩ := choose_lt hrv
  obtain ⟨g, cap, rfl, hc⟩ := h.topv h0
  refine ⟨some ⟨g, 0, none⟩, ⟨g, 0, cap, fun r => some ⟨(y r).1, 0, none⟩, fun r => (y r).2, fun r => (y r).1, fun _ => 0⟩, rfl, ⟨fun r hr => ?_, fun r hr c hc' => ?_⟩, ⟨fun r _ => ownsRow_block h.top g rfl, fun r hr _ _ => (hy r hr).2.2.1⟩⟩
  · have hr' : r < n := hr
    refine ⟨rfl, own_lt h.top g rfl, ?_⟩
    rw [Nat.zero_add, hc r hr', (hy r hr').1]
  · have hr' : r < n := hr
    have hc'' : c < n := hc'
    refine ⟨rfl, (hy r hr').2.1, ?_⟩
    rw [Nat.zero_add]
    exact (hy r hr').2.2.2 c hc''
theorem Out.base {w : World} {base base' : Nat} {v : Value} {k N : Nat} {rv : Nat → Value} {Z : Nat → Nat → Int} (h : Out w base v k N rv Z) (hb : base' ≤ base) : Out w base' v k N rv Z :=
  ⟨ownsRow_base h.top hb, fun r hr => ownsRow_base (h.row r hr) hb, h.apart, h.bit⟩
end Go.Proofs.Ytijcacibofpnpaa
