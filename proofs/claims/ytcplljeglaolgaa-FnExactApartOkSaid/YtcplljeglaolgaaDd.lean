/- The walk of the drawn order: whatever the code, rows of numbers come, at most twelve, and nothing that was there has turned but the reader. -/
import Derived.Test.YtcplljeglaolgaaDc
import Derived.Deep.DeepCutAuto
import Derived.Deep.RegionWith
namespace Go.Proofs.Ytcplljeglaolgaa
open Go.RowKit Go.Deep

theorem Out.far {w w' : World} {base g : Nat} {v : Value} {k N : Nat} {rv : Nat → Value} {Z : Nat → Nat → Int} (h : Out w base v k N rv Z) (ho : OnlyIn (· = g) w w') (h1 : ∀ x, v.ownBlock = some x → x < g) (h2 : ∀ r, r < k → ∀ x, (rv r).ownBlock = some x → x < g) : Out w' base v k N rv Z :=
  ⟨ownsRow_only h.top ho fun j hj hs => by have h3 := h1 j hj; have h4 : j = g := hs; omega, fun r hr => ownsRow_only (h.row r hr) ho fun j hj hs => by have h3 := h2 r hr j hj; have h4 : j = g := hs; omega, h.apart, h.bit⟩
theorem owns_of_rowIs {w : World} {base g N : Nat} {z : Nat → Int} (h : w.rowIs g 3 N (fun c => .int .i64 (z c))) (hb : base ≤ g) (hN : N ≤ 9223372036854775807) : w.ownsRow base 3 1 (.slice (some ⟨g, 0, none⟩) N N) N ((List.range N).map fun c => .int .i64 (z c)) := by
  obtain ⟨c, h1, h2, h3⟩ := h
  refine ⟨by simp, .inr ⟨g, N, c, rfl, hb, h1, Nat.le_refl _, by unfold maxLen; omega, by omega, ?_⟩⟩
  apply List.ext_getElem?
  intro i
  by_cases hi : i < N
  · rw [List.getElem?_take, if_pos (by omega), Array.getElem?_toList, h3 i hi]
    simp [hi]
  · rw [List.getElem?_take, if_neg (by omega)]
    simp [hi]

/-- Tests that the walk is not to look into. -/
def isz (k : Nat) : Bool := decide (k = 0)
def isl (j N : Nat) : Bool := decide ((j : Int) = (N : Int) - 1)

structure OutW (w : World) (base : Nat) (v : Value) (k N : Nat) (rv : Nat → Value) (Z : Nat → Nat → Int) : Prop where
  top : w.ownsRow base 29 1 v k ((List.range k).map rv)
  row : ∀ r, r < k → w.ownsRow base 3 1 (rv r) N ((List.range N).map fun c => .int .i64 (Z r c))
  apart : ∀ r s, r < k → s < k → r ≠ s → (rv r).ownBlock ≠ (rv s).ownBlock
theorem OutW.bigN {w : World} {base : Nat} {v : Value} {k N : Nat} {rv : Nat → Value} {Z : Nat → Nat → Int} (h : OutW w base v k N rv Z) {r : Nat} (hr : r < k) (hN : 0 < N) :
    ∃ g cap, rv r = .slice (some ⟨g, 0, none⟩) N cap ∧ ∀ c, c < N → w.cell? ⟨g, c, none⟩ = some (.int .i64 (Z r c)) := by
  rcases owns_ways (h.row r hr) with ⟨_, h1⟩ | ⟨g, cap, h1, h2⟩
  · omega
  · exact ⟨g, cap, h1, h2⟩
theorem OutW.topv {w : World} {base : Nat} {v : Value} {k N : Nat} {rv : Nat → Value} {Z : Nat → Nat → Int} (h : OutW w base v k N rv Z) (hk : 0 < k) :
    ∃ g cap, v = .slice (some ⟨g, 0, none⟩) k cap ∧ ∀ r, r < k → w.cell? ⟨g, r, none⟩ = some (rv r) := by
  rcases h.top.2 with ⟨_, h1⟩ | ⟨g, cap, cur, rfl, _⟩
  · omega
  · refine ⟨g, cap, rfl, fun r hr => ?_⟩
    rw [h.top.cellAt r (by omega)]
    simp [hr]

/-- What is drawn: square rows, at most twelve. -/
theorem OutW.mat {w : World} {base : Nat} {v : Value} {n : Nat} {rv : Nat → Value} {Z : Nat → Nat → Int} (h : OutW w base v n n rv Z) (h0 : 0 < n) :
    ∃ (a : Option Addr) (l : Lay), v = .slice a n l.cap ∧ MatAt w w.heap.size a l ⟨n, fun _ => n, Z⟩ ∧ LayFrom base l ⟨n, fun _ => n, Z⟩ := by
  have hrv : ∀ r, r < n → ∃ y : Nat × Nat, rv r = .slice (some ⟨y.1, 0, none⟩) n y.2 ∧ y.1 < w.heap.size ∧ base ≤ y.1 ∧ ∀ j, j < n → w.cell? ⟨y.1, j, none⟩ = some (.int .i64 (Z r j)) := fun r hr => by
    obtain ⟨g, cap, h1, h2⟩ := h.bigN hr h0
    exact ⟨(g, cap), h1, own_lt (h.row r hr) g (by rw [h1]; rfl), ownsRow_block (h.row r hr) g (by rw [h1]; rfl), h2⟩
  obtain ⟨y, hy⟩ := choose_lt hrv
  obtain ⟨g, cap, rfl, hc⟩ := h.topv h0
  refine ⟨some ⟨g, 0, none⟩, ⟨g, 0, cap, fun r => some ⟨(y r).1, 0, none⟩, fun r => (y r).2, fun r => (y r).1, fun _ => 0⟩, rfl, ⟨fun r hr => ?_, fun r hr c hc' => ?_⟩, ⟨fun r _ => ownsRow_block h.top g rfl, fun r hr _ _ => (hy r hr).2.2.1⟩⟩
  · have hr' : r < n := hr
    refine ⟨rfl, own_lt h.top g rfl, ?_⟩
    rw [Nat.zero_add, hc r hr', (hy r hr').1]
  · have hr' : r < n := hr
    have hc'' : c < n := hc'
    refine ⟨rfl, (hy r hr').2.1, ?_⟩
    rw [Nat.zero_add]
    exact (hy r hr').2.2.2 c hc''
/-- A store into one of the rows. -/
theorem Out.storeW {w : World} {base : Nat} {v : Value} {k N g cap : Nat} {rv : Nat → Value} {Z : Nat → Nat → Int} (h : Out w base v k N rv Z) {r c : Nat} (hr : r < k) (hg : rv r = .slice (some ⟨g, 0, none⟩) N cap) {u : Int} :
    OutW (w.setCell ⟨g, c, none⟩ (.int .i64 u)) base v k N rv (fun r' c' => if r' = r ∧ c' = c then u else Z r' c') := by
  have hrow := h.row r hr
  rw [hg] at hrow
  have hst := hrow.stored c (.int .i64 u)
  have ho : OnlyIn (· = g) w (w.setCell ⟨g, c, none⟩ (.int .i64 u)) := (OnlyIn.refl (fun x => x = g) w).set rfl c _
  refine ⟨ownsRow_only h.top ho fun j hj hs => ?_, fun r' hr' => ?_, h.apart⟩
  · subst hs
    rcases owns_apart h.top hrow (by decide) with h1 | h1
    · rw [h1] at hj; cases hj
    · exact h1 (by rw [hj]; rfl)
  · by_cases e : r' = r
    · subst e
      rw [hg]
      have h1 := hst.1
      rw [map_set] at h1
      rw [map_congr_range (g := fun c' => .int .i64 (if r' = r' ∧ c' = c then u else Z r' c'))] at h1
      · exact h1
      · intro i _
        show (if i = c then Value.int .i64 u else .int .i64 (Z r' i)) = _
        by_cases e : i = c
        · subst e; simp
        · simp [e]
    · have := ownsRow_only (h.row r' hr') ho fun j hj hs => by
        subst hs
        exact h.apart r' r hr' hr e (by rw [hj, hg]; rfl)
      rw [map_congr_range (g := fun c' => .int .i64 (if r' = r ∧ c' = c then u else Z r' c'))] at this
      · exact this
      · intro i _
        show Value.int .i64 (Z r' i) = _
        simp [e]
def isone (x : Int) : Bool := decide (x = 1)
theorem isone1 (x : Int) : decide (x = 1) = isone x := rfl
theorem isone2 (x : Int) : (x == 1) = isone x := by unfold isone; rw [Bool.eq_iff_iff]; simp
theorem Out.base {w : World} {base base' : Nat} {v : Value} {k N : Nat} {rv : Nat → Value} {Z : Nat → Nat → Int} (h : Out w base v k N rv Z) (hb : base' ≤ base) : Out w base' v k N rv Z :=
  ⟨ownsRow_base h.top hb, fun r hr => ownsRow_base (h.row r hr) hb, h.apart, h.bit⟩
/-- Rows that are there whole, the reader, and nothing else turned. -/
structure InvO (rb : Nat) (A : Option Addr) (n c p : Nat) (w : World) (V : Value) (N : Nat) (rv : Nat → Value) (wr : World) : Prop where
  out : ∃ Z, Out wr w.heap.size V N N rv Z
  rd : Rd wr rb A n c p
  old : Below rb w wr

set_option maxHeartbeats 400000 in
theorem odd_any {rb n c p : Nat} {A : Option Addr} {q : Int} {B b o : Nat} {z : Nat → Nat} {w : World} (hq : 1 ≤ q) (hq' : q ≤ 1000000) (hp : p ≤ 100000) (hn : n ≤ 2000) (h : Rd w rb A n c p) (hz : BytesAt w B A b o n z) (hB : B ≤ rb) :
    Calls Try.prog 103 #[.pointer (some ⟨rb, 0, none⟩), .int .i64 q] w fun e w' => (∃ x : Bool, e = .returned (.bool x)) ∧ Rd w' rb A n c (p + 1) ∧ OnlyIn (· = rb) w w' := by
  have hq0 : 0 < q := by omega
  go_enter Try.func103, Try.ntmps103
  go_wp2_with fail
  go_at_call 99
  refine (pick_any hq hq' hp hn h hz hB).mono ?_
  rintro e w1 ⟨v, rfl, h0, h1, hR, hO⟩
  go_wp2_with fail
  go_ret
  exact ⟨⟨_, rfl⟩, hR, hO⟩

/-- What is drawn: rows of numbers in memory; the reader some picks further. -/
def DrawnRows (rb : Nat) (A : Option Addr) (n c : Nat) (w : World) (e : Ending) (w' : World) : Prop :=
  ∃ (a : Option Addr) (l : Lay) (m : Mx) (p : Nat), e = .returned (.slice a m.n l.cap) ∧ MatAt w' w'.heap.size a l m ∧ LayFrom w.heap.size l m ∧ m.n ≤ 12 ∧ (∀ r, r < m.n → m.L r ≤ 12) ∧ Rd w' rb A n c p ∧ p ≤ 1000 ∧ Below rb w w'

set_option maxRecDepth 100000 in
set_option maxHeartbeats 4000000 in
theorem l20Order_any {rb n c p0 : Nat} {A : Option Addr} {q : Int} {B b o : Nat} {z0 : Nat → Nat} {w : World} (hq : 1 ≤ q) (hq' : q ≤ 1000000) (hp : p0 ≤ 10) (hn : n ≤ 2000) (h : Rd w rb A n c p0) (hz : BytesAt w B A b o n z0) (hB : B ≤ rb) (hrb : rb < w.heap.size) :
    Calls Try.prog 77 #[.pointer (some ⟨rb, 0, none⟩), .int .i64 q] w (DrawnRows rb A n c w) := by
  obtain ⟨i1, hj, hy0, hy1, hy2⟩ := info_parts infoInts
  have HJ := Lib.hid hj
  have HY0 := Lib.hid hy0
  have HY1 := Lib.hid hy1
  have HY2 := Lib.hid hy2
  clear hj hy0 hy1 hy2
  go_enter Try.func77, Try.ntmps77
  go_wp2_with fail
  go_at_call 99
  refine (pick_any (by omega) (by omega) (by omega) hn h hz hB).mono ?_
  rintro e w1 ⟨v, rfl, hv0, hv1, hR1, hO1⟩
  have hW1 : Below rb w w1 := hO1.below (fun j hj => by have hj' : j = rb := hj; omega)
  have hs1 := hO1.size
  obtain ⟨N0, rfl⟩ := Int.eq_ofNat_of_zero_le hv0
  obtain ⟨N, hN⟩ : ∃ N : Nat, N = N0 + 1 := ⟨_, rfl⟩
  have hN6 : N ≤ 6 := by omega
  have hN05 : N0 ≤ 5 := by omega
  have hN1 : 1 ≤ N := by omega
  have hNN : (1 : Int) + (N0 : Int) = (N : Int) := by omega
  have HN := Lib.hid hNN
  clear hN hNN hv0 hv1 h
  have hown0 := World.ownsRow_lit (base := w1.heap.size) (e := 29) (size := 1) w1 #[] 0 (Nat.le_refl _) (Nat.zero_le _) rfl
  rw [hs1] at hown0
  have hb0 := hW1.alloc (by omega) (.cells #[] 29)
  have hR2 : Rd (w1.alloc (.cells #[] 29)) rb A n c (p0 + 1) := hR1.block (Below.heap_alloc _ _ _ (by omega))
  clear hR1 hO1 hW1
  go_wp2_with fail
  rw [HN.out]
  go_loopw [6, 7] (fun v i wr => ∃ (k p : Nat) (rv : Nat → Value) (Z : Nat → Nat → Int), k ≤ N ∧ i = .int .i64 k ∧ Out wr w.heap.size v k N rv Z ∧ Rd wr rb A n c p ∧ p ≤ 20 + 20 * k ∧ Below rb w wr) (fun _ i _ => N - (intOf i).toNat)
  case atStart => exact ⟨0, p0 + 1, fun _ => .slice none 0 0, fun _ _ => 0, Nat.zero_le _, rfl, ⟨hown0, fun r hr => absurd hr (Nat.not_lt_zero _), fun r s hr => absurd hr (Nat.not_lt_zero _), fun r c hr => absurd hr (Nat.not_lt_zero _)⟩, hR2, by omega, hb0⟩
  case round =>
    clear hown0 hb0 hR2
    obtain ⟨k, p, rv, Z, hk, rfl, hO, hR, hpk, hW⟩ := hrel
    by_cases hlt : k < N
    · have hlt' : (k : Int) < N := by omega
      have hsz := hW.size
      have hmk := run_make_row' (P := Try.prog) 29 3 (.int .i64 0) 8 Try.underlying29 infoInt rfl .i64 .i64 N (by omega) (by omega)
      obtain ⟨wo, rfl⟩ : ∃ wo : World, wo = wr := ⟨_, rfl⟩
      have hrow := World.rowIs_made wo (.int .i64 0) N 3
      have g1 : (wo.alloc (.cells (madeCells #[.int .i64 0] N) 3)).cell? ⟨wo.heap.size, k, none⟩ = some (.int .i64 0) := hrow.cell hlt
      have g2 := hrow.frozen k
      have hO1 := (hO.below ((Below.refl wo.heap.size wo).alloc (Nat.le_refl _) (.cells (madeCells #[.int .i64 0] N) 3)) (Nat.le_refl _))
      have hlo : Hid (∀ x, u6.ownBlock = some x → x < wo.heap.size) := own_lt hO.top
      have hlr : Hid (∀ r, r < k → ∀ x, (rv r).ownBlock = some x → x < wo.heap.size) := fun r hr => own_lt (hO.row r hr)
      have hS1 : OnlyIn (· = wo.heap.size) (wo.alloc (.cells (madeCells #[.int .i64 0] N) 3)) ((wo.alloc (.cells (madeCells #[.int .i64 0] N) 3)).setCell ⟨wo.heap.size, k, none⟩ (.int .i64 1)) := (OnlyIn.refl (fun x => x = wo.heap.size) _).set rfl k _
      have hrow1 : ((wo.alloc (.cells (madeCells #[.int .i64 0] N) 3)).setCell ⟨wo.heap.size, k, none⟩ (.int .i64 1)).rowIs wo.heap.size 3 N (fun c => .int .i64 (if c = k then 1 else 0)) := (hrow.set k _).congr (fun i _ => by
        by_cases e : i = k
        · simp [e]
        · simp [e])
      have hO2 := hO1.far hS1 hlo.out hlr.out
      have hW2 : Below rb w ((wo.alloc (.cells (madeCells #[.int .i64 0] N) 3)).setCell ⟨wo.heap.size, k, none⟩ (.int .i64 1)) := (hW.alloc (by omega) _).setCell (by show rb ≤ wo.heap.size; omega) _
      have hR2 : Rd ((wo.alloc (.cells (madeCells #[.int .i64 0] N) 3)).setCell ⟨wo.heap.size, k, none⟩ (.int .i64 1)) rb A n c p := hR.block ((Below.heap_setCell _ _ _ _ (by show rb ≠ wo.heap.size; omega)).trans (Below.heap_alloc _ _ _ (by omega)))
      rw [World.setCell_alloc_at _ _ _ _ _ rfl] at hrow1 hO2 hR2 hW2
      clear hrow hO1 hS1
      go_wp2_with fail
      clear g1 g2 hmk
      go_loopw [9] (fun i wi => ∃ (j p' : Nat) (z : Nat → Int), j ≤ N ∧ i = .int .i64 j ∧ wi.rowIs wo.heap.size 3 N (fun c => .int .i64 (z c)) ∧ Hid (∀ c, 0 ≤ z c ∧ z c ≤ 2) ∧ Out wi w.heap.size u6 k N rv Z ∧ Rd wi rb A n c p' ∧ p' ≤ 20 + 20 * k + 3 * j ∧ Below rb w wi) (fun i _ => N - (intOf i).toNat)
      case atStart => exact ⟨k + 1, p, fun c => if c = k then 1 else 0, by omega, by go_num, hrow1, fun c => by
        show 0 ≤ (if c = k then (1 : Int) else 0) ∧ (if c = k then (1 : Int) else 0) ≤ 2
        by_cases e : c = k
        · rw [if_pos e]; omega
        · rw [if_neg e]; omega, hO2, hR2, by omega, hW2⟩
      case round =>
        clear hrow1 hO2 hR2 hW2 hO hW hR hpk
        obtain ⟨j, p', z, hj, rfl, hrow, hz2, hO, hR, hpk, hW⟩ := hrel
        by_cases hjt : j < N
        · have hjt' : (j : Int) < N := by omega
          have hgl := hrow.lt
          go_wp2_with fail
          go_at_call 99
          refine (pick_any (by omega) (by omega) (by omega) hn hR (hz.below (hW.mono hB)) hB).mono ?_
          rintro e w2 ⟨v1, rfl, v1lo, v1hi, hR2, hQ2⟩
          have hW2 : Below rb w w2 := hW.trans (hQ2.below (fun j hj => by have hj' : j = rb := hj; omega))
          have hrow2 := hrow.of_block (hQ2.block _ (fun e => by have e' : wo.heap.size = rb := e; omega))
          have hO2 := hO.only hQ2 (fun x hx => by have hx' : x = rb := hx; omega)
          have g4 := hrow2.cell hjt
          have g5 := hrow2.frozen j
          have hS3 : OnlyIn (· = wo.heap.size) w2 (w2.setCell ⟨wo.heap.size, j, none⟩ (.int .i64 v1)) := (OnlyIn.refl (fun x => x = wo.heap.size) _).set rfl j _
          have hrow3 : (w2.setCell ⟨wo.heap.size, j, none⟩ (.int .i64 v1)).rowIs wo.heap.size 3 N (fun c => .int .i64 (if c = j then v1 else z c)) := (hrow2.set j _).congr (fun i _ => by
            by_cases e : i = j
            · simp [e]
            · simp [e])
          have hO3 := hO2.far hS3 hlo.out hlr.out
          have hW3 : Below rb w (w2.setCell ⟨wo.heap.size, j, none⟩ (.int .i64 v1)) := hW2.setCell (by show rb ≤ wo.heap.size; omega) _
          have hR3 : Rd (w2.setCell ⟨wo.heap.size, j, none⟩ (.int .i64 v1)) rb A n c (p' + 1) := hR2.block (Below.heap_setCell _ _ _ _ (by show rb ≠ wo.heap.size; omega))
          have hz3 : Hid (∀ c, 0 ≤ (if c = j then v1 else z c) ∧ (if c = j then v1 else z c) ≤ 2) := fun c => by
            by_cases e : c = j
            · rw [if_pos e]; omega
            · rw [if_neg e]; exact hz2.out c
          clear hrow hO hR hW hrow2 hO2 hW2 hR2 hQ2 hS3 hz2
          have hz1 : Hid (∀ c, 0 ≤ (if c = j then (1 : Int) else z c) ∧ (if c = j then (1 : Int) else z c) ≤ 2) := fun c => by
            have := hz3.out c
            by_cases e : c = j
            · rw [if_pos e]; omega
            · rw [if_neg e] at this ⊢; exact this
          have t1 : decide (k = 0) = isz k := rfl
          have t2 : (k == 0) = isz k := by unfold isz; cases k <;> rfl
          have t3 : ((k : Int) == 0) = isz k := by unfold isz; rw [Bool.eq_iff_iff]; simp
          have t4 : decide ((k : Int) = 0) = isz k := by unfold isz; rw [Bool.eq_iff_iff]; simp
          have t5 : decide ((j : Int) = (N : Int) - 1) = isl j N := rfl
          have t6 : ((j : Int) == (N : Int) - 1) = isl j N := by unfold isl; rw [Bool.eq_iff_iff]; simp
          go_wp2_with fail
          all_goals
            
            first
              | (go_roundw
                 case rel => exact ⟨j + 1, _, (fun c => if c = j then v1 else z c), by omega, by go_num, hrow3, hz3, hO3, hR3, by omega, hW3⟩
                 case measure => simp [intOf]; omega)
              | (go_at_call 99
                 refine (pick_any (by omega) (by omega) (by omega) hn hR3 (hz.below (hW3.mono hB)) hB).mono ?_
                 rintro e w4 ⟨v2, rfl, v2lo, v2hi, hR4, hQ4⟩
                 have hW4 : Below rb w w4 := hW3.trans (hQ4.below (fun j hj => by have hj' : j = rb := hj; omega))
                 have hrow4 := hrow3.of_block (hQ4.block _ (fun e => by have e' : wo.heap.size = rb := e; omega))
                 have hO4 := hO3.only hQ4 (fun x hx => by have hx' : x = rb := hx; omega)
                 have ga4 : w4.cell? ⟨wo.heap.size, j, none⟩ = some (.int .i64 v1) := by have := hrow4.cell hjt; simpa using this
                 have gb4 : w4.frozen? ⟨wo.heap.size, j, none⟩ = false := hrow4.frozen j
                 have hS4 : OnlyIn (· = wo.heap.size) w4 (w4.setCell ⟨wo.heap.size, j, none⟩ (.int .i64 1)) := (OnlyIn.refl (fun x => x = wo.heap.size) _).set rfl j _
                 have hrow4s : (w4.setCell ⟨wo.heap.size, j, none⟩ (.int .i64 1)).rowIs wo.heap.size 3 N (fun c => .int .i64 (if c = j then 1 else z c)) := (hrow4.set j _).congr (fun i _ => by
                   by_cases e : i = j
                   · simp [e]
                   · simp [e])
                 have hO4s := hO4.far hS4 hlo.out hlr.out
                 have hW4s : Below rb w (w4.setCell ⟨wo.heap.size, j, none⟩ (.int .i64 1)) := hW4.setCell (by show rb ≤ wo.heap.size; omega) _
                 have hR4s := hR4.block (w' := w4.setCell ⟨wo.heap.size, j, none⟩ (.int .i64 1)) (Below.heap_setCell _ _ _ _ (by show rb ≠ wo.heap.size; omega))
                 clear hS4 hQ4
                 clear hrow3 hO3 hR3 hW3 g4 g5
                 go_wp2_with fail
                 all_goals
                   
                   first
                     | (go_roundw
                        case rel => exact ⟨j + 1, _, (fun c => if c = j then 1 else z c), by omega, by go_num, hrow4s, hz1, hO4s, hR4s, by omega, hW4s⟩
                        case measure => simp [intOf]; omega)
                     | (go_roundw
                        case rel => exact ⟨j + 1, _, (fun c => if c = j then v1 else z c), by omega, by go_num, hrow4, hz3, hO4, hR4, by omega, hW4⟩
                        case measure => simp [intOf]; omega)
                     | (go_at_call 99
                        refine (pick_any (by omega) (by omega) (by omega) hn hR4 (hz.below (hW4.mono hB)) hB).mono ?_
                        rintro e w5 ⟨v3, rfl, v3lo, v3hi, hR5, hQ5⟩
                        have hW5 : Below rb w w5 := hW4.trans (hQ5.below (fun j hj => by have hj' : j = rb := hj; omega))
                        have hrow5 := hrow4.of_block (hQ5.block _ (fun e => by have e' : wo.heap.size = rb := e; omega))
                        have hO5 := hO4.only hQ5 (fun x hx => by have hx' : x = rb := hx; omega)
                        have ga5 : w5.cell? ⟨wo.heap.size, j, none⟩ = some (.int .i64 v1) := by have := hrow5.cell hjt; simpa using this
                        have gb5 : w5.frozen? ⟨wo.heap.size, j, none⟩ = false := hrow5.frozen j
                        have hS5 : OnlyIn (· = wo.heap.size) w5 (w5.setCell ⟨wo.heap.size, j, none⟩ (.int .i64 1)) := (OnlyIn.refl (fun x => x = wo.heap.size) _).set rfl j _
                        have hrow5s : (w5.setCell ⟨wo.heap.size, j, none⟩ (.int .i64 1)).rowIs wo.heap.size 3 N (fun c => .int .i64 (if c = j then 1 else z c)) := (hrow5.set j _).congr (fun i _ => by
                          by_cases e : i = j
                          · simp [e]
                          · simp [e])
                        have hO5s := hO5.far hS5 hlo.out hlr.out
                        have hW5s : Below rb w (w5.setCell ⟨wo.heap.size, j, none⟩ (.int .i64 1)) := hW5.setCell (by show rb ≤ wo.heap.size; omega) _
                        have hR5s := hR5.block (w' := w5.setCell ⟨wo.heap.size, j, none⟩ (.int .i64 1)) (Below.heap_setCell _ _ _ _ (by show rb ≠ wo.heap.size; omega))
                        clear hS5 hQ5
                        clear hrow4 hO4 hR4 hW4 hrow4s hO4s hR4s hW4s ga4 gb4
                        go_wp2_with fail
                        all_goals
                          
                          first
                            | (go_roundw
                               case rel => exact ⟨j + 1, _, (fun c => if c = j then 1 else z c), by omega, by go_num, hrow5s, hz1, hO5s, hR5s, by omega, hW5s⟩
                               case measure => simp [intOf]; omega)
                            | (go_roundw
                               case rel => exact ⟨j + 1, _, (fun c => if c = j then v1 else z c), by omega, by go_num, hrow5, hz3, hO5, hR5, by omega, hW5⟩
                               case measure => simp [intOf]; omega)))
        · have hjt' : ¬ (j : Int) < N := by omega
          have hu := owns_of_rowIs hrow hsz (by omega)
          have hu' : wr.ownsRow w.heap.size 3 1 (.slice (some ⟨wo.heap.size, 0, none⟩) N N) N ((List.range N).map fun c => .int .i64 (z c)) := owns_of_rowIs hrow (by omega) (by omega)
          have hne : Hid (∀ r, r < k → (rv r).ownBlock ≠ (Value.slice (some ⟨wo.heap.size, 0, none⟩) N N).ownBlock) := fun r hr e => by
            have h1 := hlr.out r hr wo.heap.size (by rw [e]; rfl)
            omega
          have hgl := hrow.lt
          clear hrow hu
          go_wp2_with (at_builtin; refine wpList_append_own _ rfl _ _ 23 rfl w.heap.size 29 i1 (.slice none 0 0) 1 24 Try.underlying23 HJ.out HY0.out HY1.out HY2.out rfl (by decide) _ _ _ rfl (hO.top.alloc _) ⟨wr.heap.size, 0, none⟩ 1 1 [.slice (some ⟨wo.heap.size, 0, none⟩) N N] rfl rfl (cell_one_new _ _ _) ?c2 ?c3 ?c4 ?c5 ?_)
          case c2 => simp [Value.oneCell']
          case c3 => unfold maxLen; omega
          case c4 => omega
          case c5 => first | omega | (simp; omega)
          intro v' w4 hown4 hgrow _
          have HX := Lib.hid (hO.append hu' (fun c _ => hz2.out c) hne.out hown4 hgrow)
          have htb := ownsRow_block hO.top
          have hW4 : Below rb w w4 := (hW.alloc (by omega) _).grown hgrow (by first | omega | (simp; omega)) (fun x hx => by have := htb x hx; omega)
          have hR4 : Rd w4 rb A n c p' := (hR.block (w' := wr.alloc (.cells #[.slice (some ⟨wo.heap.size, 0, none⟩) N N] 29)) (Below.heap_alloc _ _ _ (by omega))).block (hgrow.block rb (by first | omega | (simp; omega)) (fun e => by have := htb rb e.symm; omega))
          clear hown4 hgrow hO hu'
          go_wp2_with fail
          go_roundw
          case rel => exact ⟨k + 1, p', _, _, by omega, by go_num, HX.out, hR4, by omega, hW4⟩
          case measure => simp [intOf]; omega
    · have hlt' : ¬ (k : Int) < N := by omega
      have hkn : k = N := by omega
      have HX : Hid (Out wr w.heap.size u6 N N rv Z) := by show Out _ _ _ _ _ _ _; rw [hkn] at hO; exact hO
      have hpk' : p ≤ 140 := by omega
      clear hkn hO hpk
      obtain ⟨g0, c0, rfl, _⟩ := HX.out.topv (by omega)
      have hI : InvO rb A n c p w (.slice (some ⟨g0, 0, none⟩) N c0) N rv wr := ⟨⟨Z, HX.out⟩, hR, hW⟩
      clear HX hR hW
      go_wp2_with fail
      go_loopw [10] (fun i wi => ∃ mm : Nat, mm ≤ N ∧ i = .int .i64 mm ∧ InvO rb A n c p w (.slice (some ⟨g0, 0, none⟩) N c0) N rv wi) (fun i _ => N - (intOf i).toNat)
      case atStart => exact ⟨0, Nat.zero_le _, rfl, hI⟩
      case round =>
        clear hI
        obtain ⟨mm, hmm, rfl, hI⟩ := hrel
        by_cases hmt : mm < N
        · have hmt' : (mm : Int) < N := by omega
          go_wp2_with fail
          go_loopw [11] (fun i wi => ∃ aa : Nat, aa ≤ N ∧ i = .int .i64 aa ∧ InvO rb A n c p w (.slice (some ⟨g0, 0, none⟩) N c0) N rv wi) (fun i _ => N - (intOf i).toNat)
          case atStart => exact ⟨0, Nat.zero_le _, rfl, hI⟩
          case round =>
            clear hI
            obtain ⟨aa, haa, rfl, hI⟩ := hrel
            by_cases hat : aa < N
            · have hat' : (aa : Int) < N := by omega
              go_wp2_with fail
              go_loopw [12] (fun i wi => ∃ bb : Nat, bb ≤ N ∧ i = .int .i64 bb ∧ InvO rb A n c p w (.slice (some ⟨g0, 0, none⟩) N c0) N rv wi) (fun i _ => N - (intOf i).toNat)
              case atStart => exact ⟨0, Nat.zero_le _, rfl, hI⟩
              case round =>
                clear hI
                obtain ⟨bb, hbb, rfl, hI⟩ := hrel
                by_cases hbt : bb < N
                · have hbt' : (bb : Int) < N := by omega
                  obtain ⟨⟨Z, hO⟩, hR, hW⟩ := hI
                  obtain ⟨ga, ca, era, hca⟩ := hO.bigN hat (by omega)
                  obtain ⟨gm, cm, erm, hcm⟩ := hO.bigN hmt (by omega)
                  obtain ⟨g0', c0', e0, htop⟩ := hO.topv (by omega)
                  have e0' : g0' = g0 := by injection e0 with e1 e2 e3; injection e1 with e1; injection e1 with e1 e2; exact e1.symm
                  subst e0'
                  have x1 := htop aa hat
                  rw [era] at x1
                  have x2 := htop mm hmt
                  rw [erm] at x2
                  have x3 := hca mm hmt
                  have x4 := hcm bb hbt
                  have x5 := hca bb hbt
                  have x6 := hO.frozen hat era bb
                  have hst := hO.store (c := bb) hat era (u := 1) (by omega)
                  have hgb : w.heap.size ≤ ga := ownsRow_block (hO.row aa hat) ga (by rw [era]; rfl)
                  have hW2 : Below rb w (wr.setCell ⟨ga, bb, none⟩ (.int .i64 1)) := hW.setCell (by show rb ≤ ga; omega) _
                  have hR2 : Rd (wr.setCell ⟨ga, bb, none⟩ (.int .i64 1)) rb A n c p := hR.block (Below.heap_setCell _ _ _ _ (by show rb ≠ ga; omega))
                  have hI1 : InvO rb A n c p w (.slice (some ⟨g0', 0, none⟩) N c0) N rv wr := ⟨⟨Z, hO⟩, hR, hW⟩
                  have hI2 : InvO rb A n c p w (.slice (some ⟨g0', 0, none⟩) N c0) N rv (wr.setCell ⟨ga, bb, none⟩ (.int .i64 1)) := ⟨⟨_, hst⟩, hR2, hW2⟩
                  have t1 := isone1 (Z aa mm)
                  have t2 := isone2 (Z aa mm)
                  have t3 := isone1 (Z mm bb)
                  have t4 := isone2 (Z mm bb)
                  clear hO hR hW hca hcm htop e0 era erm hst hW2 hR2
                  go_wp2_with fail
                  all_goals
                    first
                      | (go_roundw
                         case rel => exact ⟨bb + 1, by omega, by go_num, hI2⟩
                         case measure => simp [intOf]; omega)
                      | (go_roundw
                         case rel => exact ⟨bb + 1, by omega, by go_num, hI1⟩
                         case measure => simp [intOf]; omega)
                · have hbt' : ¬ (bb : Int) < N := by omega
                  go_wp2_with fail
                  go_roundw
                  case rel => exact ⟨aa + 1, by omega, by go_num, hI⟩
                  case measure => simp [intOf]; omega
            · have hat' : ¬ (aa : Int) < N := by omega
              go_wp2_with fail
              go_roundw
              case rel => exact ⟨mm + 1, by omega, by go_num, hI⟩
              case measure => simp [intOf]; omega
        · have hmt' : ¬ (mm : Int) < N := by omega
          obtain ⟨⟨Z', hO⟩, hR, hW⟩ := hI
          go_wp2_with fail
          go_at_call 99
          refine (pick_any (by omega) (by omega) (by omega) hn hR (hz.below (hW.mono hB)) hB).mono ?_
          rintro e x1 ⟨v5, rfl, v5lo, v5hi, hRx, hQx⟩
          have hWx : Below rb w x1 := hW.trans (hQx.below (fun j hj => by have hj' : j = rb := hj; omega))
          have hOx := hO.only hQx (fun x hx => by have hx' : x = rb := hx; omega)
          clear hO hR hW hQx
          go_upto_if 105 with fail
          go_cut [6] (fun s6 wx => ∃ (Nn gg cc pp : Nat) (rw' : Nat → Value) (Zz : Nat → Nat → Int), 1 ≤ Nn ∧ Nn ≤ 8 ∧ s6 = .slice (some ⟨gg, 0, none⟩) Nn cc ∧ Out wx w.heap.size (.slice (some ⟨gg, 0, none⟩) Nn cc) Nn Nn rw' Zz ∧ Rd wx rb A n c pp ∧ pp ≤ 200 ∧ Below rb w wx)
          case first =>
            go_wp2_with fail
            · go_at_call 99
              refine (pick_any (by omega) (by omega) (by omega) hn hRx (hz.below (hWx.mono hB)) hB).mono ?_
              rintro e x2 ⟨v4, rfl, v4lo, v4hi, hR2, hQ2⟩
              have hWy : Below rb w x2 := hWx.trans (hQ2.below (fun j hj => by have hj' : j = rb := hj; omega))
              have hsy := hWy.size
              have hv4 : v4 = 0 ∨ v4 = 1 ∨ v4 = 2 ∨ v4 = 3 := by omega
              clear v4lo v4hi hQ2 hOx hRx hWx
              rcases hv4 with rfl | rfl | rfl | rfl
              · go_wp2_with fail
                go_at_call 102
                refine (sets_0 _).mono ?_
                rintro e x3 ⟨vv, rv', Zs, rfl, hOs, hbs⟩
                obtain ⟨gs, cs, rfl, _⟩ := hOs.topv (by omega)
                have hRs : Rd x3 rb A n c (p + 1 + 1) := hR2.block (hbs.block rb (by omega))
                have hWs : Below rb w x3 := hWy.trans (hbs.mono (by omega))
                have hOs' := Lib.hid (hOs.base (base' := w.heap.size) (by omega))
                clear hOs hbs
                go_wp2_with fail
                go_meet
                exact ⟨1, gs, cs, p + 1 + 1, rv', Zs, by omega, by omega, rfl, hOs'.out, hRs, by omega, hWs⟩
              · go_wp2_with fail
                go_at_call 102
                refine (sets_1 _).mono ?_
                rintro e x3 ⟨vv, rv', Zs, rfl, hOs, hbs⟩
                obtain ⟨gs, cs, rfl, _⟩ := hOs.topv (by omega)
                have hRs : Rd x3 rb A n c (p + 1 + 1) := hR2.block (hbs.block rb (by omega))
                have hWs : Below rb w x3 := hWy.trans (hbs.mono (by omega))
                have hOs' := Lib.hid (hOs.base (base' := w.heap.size) (by omega))
                clear hOs hbs
                go_wp2_with fail
                go_meet
                exact ⟨2, gs, cs, p + 1 + 1, rv', Zs, by omega, by omega, rfl, hOs'.out, hRs, by omega, hWs⟩
              · go_wp2_with fail
                go_at_call 102
                refine (sets_2 _).mono ?_
                rintro e x3 ⟨vv, rv', Zs, rfl, hOs, hbs⟩
                obtain ⟨gs, cs, rfl, _⟩ := hOs.topv (by omega)
                have hRs : Rd x3 rb A n c (p + 1 + 1) := hR2.block (hbs.block rb (by omega))
                have hWs : Below rb w x3 := hWy.trans (hbs.mono (by omega))
                have hOs' := Lib.hid (hOs.base (base' := w.heap.size) (by omega))
                clear hOs hbs
                go_wp2_with fail
                go_meet
                exact ⟨4, gs, cs, p + 1 + 1, rv', Zs, by omega, by omega, rfl, hOs'.out, hRs, by omega, hWs⟩
              · go_wp2_with fail
                go_at_call 102
                refine (sets_3 _).mono ?_
                rintro e x3 ⟨vv, rv', Zs, rfl, hOs, hbs⟩
                obtain ⟨gs, cs, rfl, _⟩ := hOs.topv (by omega)
                have hRs : Rd x3 rb A n c (p + 1 + 1) := hR2.block (hbs.block rb (by omega))
                have hWs : Below rb w x3 := hWy.trans (hbs.mono (by omega))
                have hOs' := Lib.hid (hOs.base (base' := w.heap.size) (by omega))
                clear hOs hbs
                go_wp2_with fail
                go_meet
                exact ⟨8, gs, cs, p + 1 + 1, rv', Zs, by omega, by omega, rfl, hOs'.out, hRs, by omega, hWs⟩
            · go_meet
              exact ⟨N, g0, c0, p + 1, rv, Z', by omega, by omega, rfl, hOx, hRx, by omega, hWx⟩
          case rest =>
            clear hOx hRx hWx
            obtain ⟨Nn, gg, cc, pp, rw', Zz, hn1, hn8, rfl, hO, hR, hpp, hW⟩ := hcut
            have hsc := hW.size
            go_wp2_with fail
            go_at_call 103
            refine (odd_any hq hq' (by omega) hn hR (hz.below (hW.mono hB)) hB).mono ?_
            rintro e y1 ⟨⟨x, rfl⟩, hRy, hQy⟩
            have hWy : Below rb w y1 := hW.trans (hQy.below (fun j hj => by have hj' : j = rb := hj; omega))
            have hOy := hO.only hQy (fun x hx => by have hx' : x = rb := hx; omega)
            clear hO hR hW hQy
            cases x with
            | false =>
              obtain ⟨a', l', e', hm', hf'⟩ := hOy.mat (by omega)
              have HD : Hid (DrawnRows rb A n c w (.returned (.slice (some ⟨gg, 0, none⟩) Nn cc)) y1) := ⟨a', l', ⟨Nn, fun _ => Nn, Zz⟩, pp + 1, by rw [e'], hm', hf', by show Nn ≤ 12; omega, fun r _ => by show Nn ≤ 12; omega, hRy, by omega, hWy⟩
              clear hOy hm' e' hf'
              go_wp2_with fail
              go_ret
              exact HD.out
            | true =>
              go_wp2_with fail
              go_at_call 99
              refine (pick_any (by omega) (by omega) (by omega) hn hRy (hz.below (hWy.mono hB)) hB).mono ?_
              rintro e y2 ⟨v3, rfl, v3lo, v3hi, hR2, hQ2⟩
              have hW2 : Below rb w y2 := hWy.trans (hQ2.below (fun j hj => by have hj' : j = rb := hj; omega))
              have hO2 := hOy.only hQ2 (fun x hx => by have hx' : x = rb := hx; omega)
              have hs2 := hW2.size
              have hv3 : v3 = 0 ∨ v3 = 1 ∨ v3 = 2 := by omega
              obtain ⟨ga, ca, era, hca⟩ := hO2.bigN (r := 0) (by omega) (by omega)
              obtain ⟨gt, ct, e0, htop⟩ := hO2.topv (by omega)
              have e0' : gt = gg := by injection e0 with e1 e2 e3; injection e1 with e1; injection e1 with e1 e2; exact e1.symm
              subst e0'
              clear v3lo v3hi hQ2 hOy hRy hWy
              rcases hv3 with rfl | rfl | rfl
              · have HD : Hid (DrawnRows rb A n c w (.returned (.slice (some ⟨y2.heap.size, 0, none⟩) 0 0)) (y2.alloc (.cells #[] 29))) :=
                  ⟨some ⟨y2.heap.size, 0, none⟩, ⟨0, 0, 0, fun _ => none, fun _ => 0, fun _ => 0, fun _ => 0⟩, ⟨0, fun _ => 0, fun _ _ => 0⟩, pp + 1 + 1, rfl, ⟨fun _ hr => absurd hr (Nat.not_lt_zero _), fun _ hr => absurd hr (Nat.not_lt_zero _)⟩, ⟨fun _ hr => absurd hr (Nat.not_lt_zero _), fun _ hr => absurd hr (Nat.not_lt_zero _)⟩, Nat.zero_le _, fun _ hr => absurd hr (Nat.not_lt_zero _),
                    hR2.block (Below.heap_alloc _ _ _ (by omega)), by omega, hW2.alloc (by omega) _⟩
                clear e0 era hca htop hO2
                go_wp2_with fail
                go_ret
                exact HD.out
              · have x1 := htop 0 (by omega)
                rw [era] at x1
                have x2 := hca 0 (by omega)
                have x3 := hO2.frozen (r := 0) (by omega) era 0
                have hgb : w.heap.size ≤ ga := ownsRow_block (hO2.row 0 (by omega)) ga (by rw [era]; rfl)
                have hst := hO2.store (r := 0) (c := 0) (by omega) era (u := 0) (by omega)
                obtain ⟨a', l', e', hm', hf'⟩ := hst.mat (by omega)
                have HD : Hid (DrawnRows rb A n c w (.returned (.slice (some ⟨gt, 0, none⟩) Nn cc)) (y2.setCell ⟨ga, 0, none⟩ (.int .i64 0))) := ⟨a', l', _, pp + 1 + 1, by rw [e'], hm', hf', by show Nn ≤ 12; omega, fun r _ => by show Nn ≤ 12; omega, hR2.block (Below.heap_setCell _ _ _ _ (by show rb ≠ ga; omega)), by omega, hW2.setCell (by show rb ≤ ga; omega) _⟩
                have hnn : (0 : Int) < Nn := by omega
                clear e0 era hca htop hO2 hst hm' e' hf'
                go_wp2_with fail
                go_ret
                exact HD.out
              · obtain ⟨L, hLn⟩ : ∃ L : Nat, L + 1 = Nn := ⟨Nn - 1, by omega⟩
                have hL : L < Nn := by omega
                have hidx : (Nn : Int) - 1 = (L : Int) := by omega
                have hwL : IntKind.i64.wrap (L : Int) = (L : Int) := IntWalk.i64_in _ (by omega)
                have hwr : IntKind.i64.wrap ((Nn : Int) - 1) = (L : Int) := by rw [IntWalk.i64_in _ (by omega)]; omega
                have hL0 : (0 : Int) ≤ (L : Int) := by omega
                have hL' : (L : Int) < Nn := by omega
                have hnN : 0 < Nn := by omega
                have hn0 : (0 : Int) < Nn := by omega
                obtain ⟨gl, cl, erl, hcl⟩ := hO2.bigN hL (by omega)
                have x1 := htop L hL
                rw [erl] at x1
                have x2 := hcl 0 (by omega)
                have x3 := hO2.frozen hL erl 0
                have hgl : w.heap.size ≤ gl := ownsRow_block (hO2.row L hL) gl (by rw [erl]; rfl)
                have hgt : w.heap.size ≤ gt := ownsRow_block hO2.top gt rfl
                have hne : gl ≠ gt := fun e => by
                  rcases owns_apart (hO2.row L hL) hO2.top (by decide) with h1 | h1
                  · rw [erl] at h1; cases h1
                  · rw [erl] at h1; exact h1 (by rw [e]; rfl)
                obtain ⟨zz, hzz⟩ : ∃ zz : Int, Zz L 0 = zz := ⟨_, rfl⟩
                rw [hzz] at x2
                have hk : Hid (∀ y3, OnlyIn (· = rb) y2.drew y3 → y3.cell? ⟨gt, L, none⟩ = some (.slice (some ⟨gl, 0, none⟩) Nn cl) ∧ y3.cell? ⟨gl, 0, none⟩ = some (.int .i64 zz) ∧ y3.frozen? ⟨gl, 0, none⟩ = false) := fun y3 ho =>
                  ⟨(World.cell?_of_block (w := y2.drew) (ho.block gt (fun e => by have e' : gt = rb := e; omega))).trans x1, (World.cell?_of_block (w := y2.drew) (ho.block gl (fun e => by have e' : gl = rb := e; omega))).trans x2,
                    (World.frozen?_of_block (w := y2.drew) (ho.block gl (fun e => by have e' : gl = rb := e; omega))).trans x3⟩
                have hRd : Rd y2.drew rb A n c (pp + 1 + 1) := hR2
                have hzd : BytesAt y2.drew B A b o n z0 := (hz.below (hW2.mono hB)).below ((Below.refl B y2).drew)
                have hOd : Out y2.drew w.heap.size (.slice (some ⟨gt, 0, none⟩) Nn cc) Nn Nn rw' Zz := ⟨hO2.top, hO2.row, hO2.apart, hO2.bit⟩
                have hWd : Below rb w y2.drew := hW2.drew
                have hfin : Hid (∀ y3 (u : Int), OnlyIn (· = rb) y2.drew y3 → Rd y3 rb A n c (pp + 1 + 1 + 1) → DrawnRows rb A n c w (.returned (.slice (some ⟨gt, 0, none⟩) Nn cc)) (y3.setCell ⟨gl, 0, none⟩ (.int .i64 u))) := fun y3 u ho hr => by
                  have ho3 := hOd.only ho (fun x hx => by have hx' : x = rb := hx; omega)
                  have hst := ho3.storeW (c := 0) (u := u) hL erl
                  obtain ⟨a', l', e', hm', hf'⟩ := hst.mat (by omega)
                  have hw3 : Below rb w y3 := hWd.trans (ho.below (fun j hj => by have hj' : j = rb := hj; omega))
                  exact ⟨a', l', _, pp + 1 + 1 + 1, by rw [e'], hm', hf', by show Nn ≤ 12; omega, fun r _ => by show Nn ≤ 12; omega, hr.block (Below.heap_setCell _ _ _ _ (by show rb ≠ gl; omega)), by omega, hw3.setCell (by show rb ≤ gl; omega) _⟩
                clear e0 era hca htop hO2 erl hcl hzz hOd hWd hLn hR2 hW2
                go_wp2_with fail
                go_region_with (go_at_call 99; refine (pick_any (by omega) (by omega) (by omega) hn hRd hzd hB).mono ?_; rintro e y3 ⟨v6, rfl, v6lo, v6hi, hR3, hQ3⟩; have k1 := (hk.out _ hQ3).1; have k2 := (hk.out _ hQ3).2.1; have k3 := (hk.out _ hQ3).2.2)
                all_goals
                  go_wp2_with fail
                  go_ret
                  exact hfin.out _ _ (by assumption) (by assumption)
end Go.Proofs.Ytcplljeglaolgaa
