import Derived.Test.YtojcgmgponnlpaaZWv
import Derived.Laws.BitsAllLaws
import Derived.Laws.BitsLemmas
import Derived.Deep.DeepCutAuto
import Derived.Deep.RegionWith
namespace Go.Proofs.Ytojcgmgponnlpaa
open Go.RowKit Go.Deep

/-- Bytes as they lie in memory below block B. -/
structure BytesAt (w : World) (B : Nat) (A : Option Addr) (b o n : Nat) (z : Nat → Nat) : Prop where
  at_ : ∀ j, j < n → A = some ⟨b, o, none⟩ ∧ b < B ∧ w.cell? ⟨b, o + j, none⟩ = some (.int .u8 (z j)) ∧ z j < 256
theorem BytesAt.keep {w w' : World} {B : Nat} {A : Option Addr} {b o n : Nat} {z : Nat → Nat} (h : BytesAt w B A b o n z) (hk : ∀ p : Addr, p.block < B → w'.cell? p = w.cell? p) : BytesAt w' B A b o n z :=
  ⟨fun j hj => by obtain ⟨h1, h2, h3, h4⟩ := h.at_ j hj; exact ⟨h1, h2, by rw [hk _ h2]; exact h3, h4⟩⟩
theorem BytesAt.below {w w' : World} {B : Nat} {A : Option Addr} {b o n : Nat} {z : Nat → Nat} (h : BytesAt w B A b o n z) (hb : Below B w w') : BytesAt w' B A b o n z := h.keep fun _ hp => hb.cell hp

/-- The reader: a slice of bytes and how many picks there were. -/
def Rd (w : World) (rb : Nat) (A : Option Addr) (n c p : Nat) : Prop := w.heap[rb]? = some (.cells #[.slice A n c, .int .i64 p] 73 (0, 0))
theorem Rd.cell0 {w : World} {rb n c p : Nat} {A : Option Addr} (h : Rd w rb A n c p) : w.cell? ⟨rb, 0, none⟩ = some (.slice A n c) := by
  unfold Rd at h; simp [World.cell?, h]
theorem Rd.cell1 {w : World} {rb n c p : Nat} {A : Option Addr} (h : Rd w rb A n c p) : w.cell? ⟨rb, 1, none⟩ = some (.int .i64 p) := by
  unfold Rd at h; simp [World.cell?, h]
theorem Rd.frozen {w : World} {rb n c p : Nat} {A : Option Addr} (h : Rd w rb A n c p) : w.frozen? ⟨rb, 1, none⟩ = false := by
  unfold Rd at h; simp [World.frozen?, h]
theorem Rd.next {w : World} {rb n c p : Nat} {A : Option Addr} (h : Rd w rb A n c p) : Rd (w.setCell ⟨rb, 1, none⟩ (.int .i64 ((p : Int) + 1))) rb A n c (p + 1) := by
  unfold Rd at h ⊢
  simp [World.setCell, Array.getElem?_modify, h]
theorem Rd.block {w w' : World} {rb n c p : Nat} {A : Option Addr} (h : Rd w rb A n c p) (hb : w'.heap[rb]? = w.heap[rb]?) : Rd w' rb A n c p := hb.trans h
theorem Rd.drewN {w : World} {rb n c p : Nat} {A : Option Addr} (h : Rd w rb A n c p) (k : Nat) : Rd (w.drewN k) rb A n c p := h
theorem OnlyIn.drewN {S : Nat → Prop} {w w' : World} (h : OnlyIn S w w') (k : Nat) : OnlyIn S w (w'.drewN k) := ⟨h.os, h.tape, h.output, h.size, h.block⟩

/-- What a pick leaves: a number from 0 on, below the bound; the reader, one pick further; nothing else turned. -/
def Picked (q : Int) (rb : Nat) (A : Option Addr) (n c p : Nat) (w : World) (e : Ending) (w' : World) : Prop :=
  ∃ v : Int, e = .returned (.int .i64 v) ∧ 0 ≤ v ∧ v < q ∧ Rd w' rb A n c (p + 1) ∧ OnlyIn (· = rb) w w'

set_option maxRecDepth 100000 in
set_option maxHeartbeats 1000000 in
theorem pick_near {rb n c p : Nat} {A : Option Addr} {q : Int} {B b o : Nat} {z : Nat → Nat} {w : World} (hq : 1 ≤ q) (hq' : q ≤ 1000000) (hp : p ≤ 100000) (h : Rd w rb A n c p) (hz : BytesAt w B A b o n z) (hB : B ≤ rb) (hlt : p < n) :
    Calls Try.prog 30 #[.pointer (some ⟨rb, 0, none⟩), .int .i64 q] w (Picked q rb A n c p w) := by
  have c0 := h.cell0
  have c1 := h.cell1
  have f1 := h.frozen
  have hnx := h.next
  obtain ⟨rfl, hb, hz1, hz2⟩ := hz.at_ p hlt
  have hO : OnlyIn (· = rb) w (w.setCell ⟨rb, 1, none⟩ (.int .i64 ((p : Int) + 1))) := (OnlyIn.refl (fun x => x = rb) w).set rfl 1 _
  have g0 := hnx.cell0
  have g1 := hnx.cell1
  have g2 : (w.setCell ⟨rb, 1, none⟩ (.int .i64 ((p : Int) + 1))).cell? ⟨b, o + p, none⟩ = some (.int .u8 (z p)) := by
    rw [World.cell?_setCell_other _ _ _ _ (fun e => by injection e with e1; omega)]; exact hz1
  have hlt' : (p : Int) < n := by omega
  have hn0 : ((n : Int) == 0) = false := by simp; omega
  go_enter Try.func30, Try.ntmps30
  go_wp2_with fail
  go_ret
  exact ⟨_, rfl, Int.emod_nonneg _ (by omega), Int.emod_lt_of_pos _ (by omega), hnx, hO⟩

set_option maxRecDepth 100000 in
set_option maxHeartbeats 1000000 in
theorem pick_empty {rb c p : Nat} {A : Option Addr} {q : Int} {w : World} (hq : 1 ≤ q) (hp : p ≤ 100000) (h : Rd w rb A 0 c p) :
    Calls Try.prog 30 #[.pointer (some ⟨rb, 0, none⟩), .int .i64 q] w (Picked q rb A 0 c p w) := by
  have c0 := h.cell0
  have c1 := h.cell1
  have f1 := h.frozen
  have hnx := h.next
  have hO : OnlyIn (· = rb) w (w.setCell ⟨rb, 1, none⟩ (.int .i64 ((p : Int) + 1))) := (OnlyIn.refl (fun x => x = rb) w).set rfl 1 _
  have g0 := hnx.cell0
  go_enter Try.func30, Try.ntmps30
  go_wp2_with fail
  go_ret
  exact ⟨0, rfl, by omega, by omega, hnx, hO⟩

theorem ofInt_i64 (a : Nat) (ha : a < 9223372036854775808) : (BitVec.ofInt 64 (a : Int)).toNat = a := by
  rw [BitVec.ofInt_natCast, BitVec.toNat_ofNat]; exact Nat.mod_eq_of_lt (by omega)
theorem i64_xor_nat (a b : Nat) (ha : a < 9223372036854775808) (hb : b < 9223372036854775808) : bits .xor .i64 (a : Int) (b : Int) = ((a ^^^ b : Nat) : Int) := by
  have hx : a ^^^ b < 2 ^ 63 := Nat.xor_lt_two_pow (by omega) (by omega)
  show IntKind.i64.wrap ((BitVec.ofInt 64 (a : Int) ^^^ BitVec.ofInt 64 (b : Int)).toNat : Int) = _
  rw [BitVec.toNat_xor, ofInt_i64 a ha, ofInt_i64 b hb, IntKind.wrap_i64]
  omega

set_option maxRecDepth 100000 in
set_option maxHeartbeats 1000000 in
theorem pick_far {rb n c p : Nat} {A : Option Addr} {q : Int} {B b o : Nat} {z : Nat → Nat} {w : World} (hq : 1 ≤ q) (hq' : q ≤ 1000000) (hp : p ≤ 100000) (hn : n ≤ 2000) (h : Rd w rb A n c p) (hz : BytesAt w B A b o n z) (hB : B ≤ rb) (hlt : ¬ p < n) (h0 : 0 < n) :
    Calls Try.prog 30 #[.pointer (some ⟨rb, 0, none⟩), .int .i64 q] w (Picked q rb A n c p w) := by
  have c0 := h.cell0
  have c1 := h.cell1
  have f1 := h.frozen
  have hnx := h.next
  obtain ⟨i1, ti1, hi1⟩ : ∃ i : Nat, (p : Int).tmod (n : Int) = (i : Int) ∧ i < n := ⟨p % n, IntWalk.up_tmod rfl rfl, Nat.mod_lt _ h0⟩
  obtain ⟨u, tu, hu⟩ : ∃ u : Nat, IntKind.i64.wrap ((p : Int) * 7) = (u : Int) ∧ u ≤ 700000 := ⟨p * 7, by rw [IntWalk.i64_in _ (by omega)]; omega, by omega⟩
  obtain ⟨v, tv, hv⟩ : ∃ v : Nat, IntKind.i64.wrap ((u : Int) + 3) = (v : Int) ∧ v ≤ 700003 := ⟨u + 3, by rw [IntWalk.i64_in _ (by omega)]; omega, by omega⟩
  obtain ⟨i2, ti2, hi2⟩ : ∃ i : Nat, (v : Int).tmod (n : Int) = (i : Int) ∧ i < n := ⟨v % n, IntWalk.up_tmod rfl rfl, Nat.mod_lt _ h0⟩
  obtain ⟨rfl, hb, hz1, hz2⟩ := hz.at_ i1 hi1
  obtain ⟨_, _, hy1, hy2⟩ := hz.at_ i2 hi2
  have hO : OnlyIn (· = rb) w (w.setCell ⟨rb, 1, none⟩ (.int .i64 ((p : Int) + 1))) := (OnlyIn.refl (fun x => x = rb) w).set rfl 1 _
  have g0 := hnx.cell0
  have g1 := hnx.cell1
  have g2 : (w.setCell ⟨rb, 1, none⟩ (.int .i64 ((p : Int) + 1))).cell? ⟨b, o + i1, none⟩ = some (.int .u8 (z i1)) := by
    rw [World.cell?_setCell_other _ _ _ _ (fun e => by injection e with e1; omega)]; exact hz1
  have g3 : (w.setCell ⟨rb, 1, none⟩ (.int .i64 ((p : Int) + 1))).cell? ⟨b, o + i2, none⟩ = some (.int .u8 (z i2)) := by
    rw [World.cell?_setCell_other _ _ _ _ (fun e => by injection e with e1; omega)]; exact hy1
  have hlt' : ¬ (p : Int) < n := by omega
  have hn0 : ((n : Int) == 0) = false := by simp; omega
  have hi1' : (i1 : Int) < n := by omega
  have hi2' : (i2 : Int) < n := by omega
  have T1 := Lib.hid ti1
  have T2 := Lib.hid tu
  have T3 := Lib.hid tv
  have T4 := Lib.hid ti2
  obtain ⟨d, hd, hd1⟩ : ∃ d : Nat, (p : Int) / (n : Int) = (d : Int) ∧ d ≤ 100000 := ⟨p / n, by simp, Nat.le_trans (Nat.div_le_self _ _) hp⟩
  have T5 := Lib.hid hd
  obtain ⟨X, hX, hX1⟩ : ∃ X : Nat, ((z i1 : Nat) : Int) * 131 + ((z i2 : Nat) : Int) * 1117 + (p : Int) * 29 + (d : Int) * 53 = (X : Int) ∧ X ≤ 100000000 := ⟨z i1 * 131 + z i2 * 1117 + p * 29 + d * 53, by push_cast; rfl, by omega⟩
  have T6 := Lib.hid hX
  obtain ⟨Y, hY⟩ : ∃ Y : Nat, bits .xor .i64 (X : Int) ((X : Int) / 64) = (Y : Int) := ⟨X ^^^ (X / 64), i64_xor_nat X (X / 64) (by omega) (by omega)⟩
  have T7 := Lib.hid hY
  clear ti1 tu tv ti2 hz hz1 hy1 hd hX hY
  go_enter Try.func30, Try.ntmps30
  go_wp2_with fail
  have ti1 := T1.out
  have tu := T2.out
  have tv := T3.out
  have ti2 := T4.out
  have hd := T5.out
  go_quiet (fail)
  clear ti1 tu tv ti2 hd
  rw [T6.out]
  have hY := T7.out
  go_wp2_with fail
  go_ret
  exact ⟨_, rfl, Int.emod_nonneg _ (by omega), Int.emod_lt_of_pos _ (by omega), hnx.drewN _, hO.drewN _⟩

theorem pick_any {rb n c p : Nat} {A : Option Addr} {q : Int} {B b o : Nat} {z : Nat → Nat} {w : World} (hq : 1 ≤ q) (hq' : q ≤ 1000000) (hp : p ≤ 100000) (hn : n ≤ 2000) (h : Rd w rb A n c p) (hz : BytesAt w B A b o n z) (hB : B ≤ rb) :
    Calls Try.prog 30 #[.pointer (some ⟨rb, 0, none⟩), .int .i64 q] w (Picked q rb A n c p w) := by
  by_cases h0 : n = 0
  · subst h0; exact pick_empty hq hp h
  · by_cases hlt : p < n
    · exact pick_near hq hq' hp h hz hB hlt
    · exact pick_far hq hq' hp hn h hz hB hlt (by omega)
end Go.Proofs.Ytojcgmgponnlpaa
namespace Go.Proofs.Ytojcgmgponnlpaa
open Go.RowKit Go.Deep

structure Out (w : World) (base : Nat) (v : Value) (k N : Nat) (rv : Nat → Value) (Z : Nat → Nat → Int) : Prop where
  top : w.ownsRow base 24 1 v k ((List.range k).map rv)
  row : ∀ r, r < k → w.ownsRow base 3 1 (rv r) N ((List.range N).map fun c => .int .i64 (Z r c))
  apart : ∀ r s, r < k → s < k → r ≠ s → (rv r).ownBlock ≠ (rv s).ownBlock
  bit : ∀ r c, r < k → c < N → 0 ≤ Z r c ∧ Z r c ≤ 2

theorem own_lt {w : World} {base : Nat} {e : TypeId} {size n : Nat} {v : Value} {xs : List Value} (h : w.ownsRow base e size v n xs) : ∀ k, v.ownBlock = some k → k < w.heap.size := fun k hk => (h.lt k hk).2
theorem Out.below {w w' : World} {base B : Nat} {v : Value} {k N : Nat} {rv : Nat → Value} {Z : Nat → Nat → Int} (h : Out w base v k N rv Z) (hb : Below B w w') (hB : w.heap.size ≤ B) : Out w' base v k N rv Z :=
  ⟨ownsRow_below h.top hb hB, fun r hr => ownsRow_below (h.row r hr) hb hB, h.apart, h.bit⟩
theorem Out.bigN {w : World} {base : Nat} {v : Value} {k N : Nat} {rv : Nat → Value} {Z : Nat → Nat → Int} (h : Out w base v k N rv Z) {r : Nat} (hr : r < k) (hN : 0 < N) :
    ∃ g cap, rv r = .slice (some ⟨g, 0, none⟩) N cap ∧ ∀ c, c < N → w.cell? ⟨g, c, none⟩ = some (.int .i64 (Z r c)) := by
  rcases owns_ways (h.row r hr) with ⟨_, h1⟩ | ⟨g, cap, h1, h2⟩
  · omega
  · exact ⟨g, cap, h1, h2⟩
theorem Out.topv {w : World} {base : Nat} {v : Value} {k N : Nat} {rv : Nat → Value} {Z : Nat → Nat → Int} (h : Out w base v k N rv Z) (hk : 0 < k) :
    ∃ g cap, v = .slice (some ⟨g, 0, none⟩) k cap ∧ ∀ r, r < k → w.cell? ⟨g, r, none⟩ = some (rv r) := by
  rcases h.top.2 with ⟨_, h1⟩ | ⟨g, cap, cur, rfl, _⟩
  · omega
  · refine ⟨g, cap, rfl, fun r hr => ?_⟩
    rw [h.top.cellAt r (by omega)]
    simp [hr]

/-- One row more, of a block of its own. -/
theorem Out.append {w w4 : World} {base : Nat} {v v' u : Value} {k N : Nat} {rv : Nat → Value} {Z : Nat → Nat → Int} {z : Nat → Int} {o : Obj} (h : Out w base v k N rv Z)
    (hu : w.ownsRow base 3 1 u N ((List.range N).map fun c => .int .i64 (z c))) (hz : ∀ c, c < N → 0 ≤ z c ∧ z c ≤ 2) (hne : ∀ r, r < k → (rv r).ownBlock ≠ u.ownBlock)
    (h4 : w4.ownsRow base 24 1 v' (k + 1) ((List.range k).map rv ++ [u])) (hg : (w.alloc o).grownBy w4 v.ownBlock) :
    Out w4 base v' (k + 1) N (fun r => if r = k then u else rv r) (fun r c => if r = k then z c else Z r c) := by
  refine ⟨?_, fun r hr => ?_, fun r s hr hs hrs => ?_, fun r c hr hc => ?_⟩
  · have e1 : (List.range (k + 1)).map (fun r => if r = k then u else rv r) = (List.range k).map rv ++ [u] := by
      rw [List.range_succ, List.map_append]
      congr 1
      · exact map_congr_range fun i hi => by rw [if_neg (by omega)]
      · simp
    rw [e1]
    exact h4
  · by_cases e : r = k
    · subst e
      simp only [if_true]
      exact owns_not (hu.alloc o) hg (owns_apart hu h.top (by decide))
    · simp only [if_neg e]
      have hr' := h.row r (by omega)
      exact owns_not (hr'.alloc o) hg (owns_apart hr' h.top (by decide))
  · by_cases e : r = k
    · subst e
      simp only [if_true]
      rw [if_neg (Ne.symm hrs)]
      exact Ne.symm (hne s (by omega))
    · simp only [if_neg e]
      by_cases e' : s = k
      · subst e'
        simp only [if_true]
        exact hne r (by omega)
      · simp only [if_neg e']
        exact h.apart r s (by omega) (by omega) hrs
  · by_cases e : r = k
    · simp only [if_pos e]; exact hz c hc
    · simp only [if_neg e]; exact h.bit r c (by omega) hc

/-- The rows lie in blocks from `base` on. -/
structure LayFrom (base : Nat) (l : Lay) (m : Mx) : Prop where
  top : ∀ r, r < m.n → base ≤ l.b
  row : ∀ r, r < m.n → ∀ c, c < m.L r → base ≤ l.G r
/-- What is drawn: square rows, at most twelve. -/
theorem Out.mat {w : World} {base : Nat} {v : Value} {n : Nat} {rv : Nat → Value} {Z : Nat → Nat → Int} (h : Out w base v n n rv Z) (h0 : 0 < n) :
    ∃ (a : Option Addr) (l : Lay), v = .slice a n l.cap ∧ MatAt w w.heap.size a l ⟨n, fun _ => n, Z⟩ ∧ LayFrom base l ⟨n, fun _ => n, Z⟩ := by
  have hrv : ∀ r, r < n → ∃ y : Nat × Nat, rv r = .slice (some ⟨y.1, 0, none⟩) n y.2 ∧ y.1 < w.heap.size ∧ base ≤ y.1 ∧ ∀ j, j < n → w.cell? ⟨y.1, j, none⟩ = some (.int .i64 (Z r j)) := fun r hr => by
    obtain ⟨g, cap, h1, h2⟩ := h.bigN hr h0
    exact ⟨(g, cap), h1, own_lt (h.row r hr) g (by rw [h1]; rfl), ownsRow_block (h.row r hr) g (by rw [h1]; rfl), h2⟩
  obtain ⟨y, hy⟩ := choose_lt hrv
  obtain ⟨g, cap, rfl, hc⟩ := h.topv h0
  refine ⟨some ⟨g, 0, none⟩, ⟨g, 0, cap, fun r => some ⟨(y r).1, 0, none⟩, fun r => (y r).2, fun r => (y r).1, fun _ => 0⟩, rfl, ⟨fun r hr => ?_, fun r hr c hc' => ?_⟩, ⟨fun r _ => ownsRow_block h.top g rfl, fun r hr _ _ => (hy r hr).2.2.1⟩⟩
  · have hr' : r < n := hr
    refine ⟨rfl, own_lt h.top g rfl, ?_⟩
    rw [Nat.zero_add, hc r hr', (hy r hr').1]
  · have hr' : r < n := hr
    have hc'' : c < n := hc'
    refine ⟨rfl, (hy r hr').2.1, ?_⟩
    rw [Nat.zero_add]
    exact (hy r hr').2.2.2 c hc''
end Go.Proofs.Ytojcgmgponnlpaa
namespace Go.Proofs.Ytojcgmgponnlpaa
open Go.RowKit Go.Deep

/-- Drawn rows, in memory from base on. -/
def Drawn (base : Nat) (N : Nat) (w : World) (e : Ending) (w' : World) : Prop :=
  ∃ (v : Value) (rv : Nat → Value) (Z : Nat → Nat → Int), e = .returned v ∧ Out w' base v N N rv Z ∧ Below w.heap.size w w'

set_option maxRecDepth 100000 in
set_option maxHeartbeats 1000000 in
theorem sets_0 (w : World) : Calls Try.prog 110 #[.int .i64 0] w (Drawn w.heap.size 1 w) := by
  have hown0 := World.ownsRow_lit (base := w.heap.size) (e := 24) (size := 1) w #[] 0 (Nat.le_refl _) (Nat.zero_le _) rfl
  have hb0 := (Below.refl w.heap.size w).alloc (Nat.le_refl _) (.cells #[] 24)
  obtain ⟨i0, hi, hz0, hz1, hz2⟩ := info_parts infoInt
  have HI := Lib.hid hi
  have HZ0 := Lib.hid hz0
  have HZ1 := Lib.hid hz1
  have HZ2 := Lib.hid hz2
  obtain ⟨i1, hj, hy0, hy1, hy2⟩ := info_parts infoInts
  have HJ := Lib.hid hj
  have HY0 := Lib.hid hy0
  have HY1 := Lib.hid hy1
  have HY2 := Lib.hid hy2
  clear hi hz0 hz1 hz2 hj hy0 hy1 hy2
  go_enter Try.func110, Try.ntmps110
  go_wp2_with fail
  go_loopw [3, 4] (fun v i wr => ∃ (k : Nat) (rv : Nat → Value) (Z : Nat → Nat → Int), k ≤ 1 ∧ i = .int .i64 k ∧ Out wr w.heap.size v k 1 rv Z ∧ Below w.heap.size w wr) (fun _ i _ => 1 - (intOf i).toNat)
  case atStart => exact ⟨0, fun _ => .slice none 0 0, fun _ _ => 0, Nat.zero_le _, rfl, ⟨hown0, fun r hr => absurd hr (Nat.not_lt_zero _), fun r s hr => absurd hr (Nat.not_lt_zero _), fun r c hr => absurd hr (Nat.not_lt_zero _)⟩, hb0⟩
  case round =>
    obtain ⟨k, rv, Z, hk, rfl, hO, hW⟩ := hrel
    by_cases hlt : k < 1
    · have hlt' : (k : Int) < 1 := by omega
      obtain ⟨wo, rfl⟩ : ∃ wo : World, wo = wr := ⟨_, rfl⟩
      have hsz := hW.size
      have hrow0 := World.ownsRow_lit (base := wo.heap.size) (e := 3) (size := 1) wo #[] 0 (Nat.le_refl _) (Nat.zero_le _) rfl
      have hbr := (Below.refl wo.heap.size wo).alloc (Nat.le_refl _) (.cells #[] 3)
      go_wp2_with fail
      go_loopw [5, 6] (fun t i wi => ∃ (j : Nat) (z : Nat → Int), j ≤ 1 ∧ i = .int .i64 j ∧ wi.ownsRow wo.heap.size 3 1 t j ((List.range j).map fun c => .int .i64 (z c)) ∧ Hid (∀ c, c < j → 0 ≤ z c ∧ z c ≤ 2) ∧ Below wo.heap.size wo wi) (fun _ i _ => 1 - (intOf i).toNat)
      case atStart => exact ⟨0, fun _ => 0, Nat.zero_le _, rfl, hrow0, fun c hc => absurd hc (Nat.not_lt_zero _), hbr⟩
      case round =>
        clear hrow0 hbr
        obtain ⟨j, z, hj, rfl, hown, hz, hWi⟩ := hrel
        have hws := hWi.size
        by_cases hjt : j < 1
        · have hjt' : (j : Int) < 1 := by omega
          obtain ⟨bx, hbx⟩ : ∃ bx : Bool, (bits .and .i64 (k : Int) (j : Int) == (k : Int)) = bx := ⟨_, rfl⟩
          cases bx with
          | true =>
            go_wp2_with (at_builtin; refine wpList_append_own _ rfl _ _ 24 rfl wo.heap.size 3 i0 (.int .i64 0) 1 8 Try.underlying24 HI.out HZ0.out HZ1.out HZ2.out rfl (by decide) _ _ _ rfl (hown.alloc _) ⟨wr.heap.size, 0, none⟩ 1 1 [.int .i64 1] rfl rfl (cell_one_new _ _ _) ?c2 ?c3 ?c4 ?c5 ?_)
            case c2 => simp [Value.oneCell']
            case c3 => unfold maxLen; omega
            case c4 => omega
            case c5 => first | omega | (simp; omega)
            intro v' w4 hown4 hgrow _
            have HO4 : Hid (w4.ownsRow wo.heap.size 3 1 v' (j + 1) ((List.range (j + 1)).map fun c => .int .i64 (if c = j then 1 else z c))) := by
              show World.ownsRow _ _ _ _ _ _ _
              have e1 : (List.range (j + 1)).map (fun c => Value.int .i64 (if c = j then 1 else z c)) = (List.range j).map (fun c => .int .i64 (z c)) ++ [.int .i64 1] := by
                rw [List.range_succ, List.map_append]
                congr 1
                · exact map_congr_range fun i hi => by rw [if_neg (by omega)]
                · simp
              rw [e1]
              exact hown4
            have hW4 : Below wo.heap.size wo w4 := (hWi.alloc hws _).grown hgrow (by first | omega | (simp; omega)) (ownsRow_block hown)
            clear hown4 hgrow hown
            go_wp2_with fail
            go_roundw
            case rel => exact ⟨j + 1, _, by omega, by go_num, HO4.out, fun c hc => by
              by_cases e : c = j
              · rw [if_pos e]; omega
              · rw [if_neg e]; exact hz.out c (by omega), hW4⟩
            case measure => simp [intOf]; omega
          | false =>
            go_wp2_with (at_builtin; refine wpList_append_own _ rfl _ _ 24 rfl wo.heap.size 3 i0 (.int .i64 0) 1 8 Try.underlying24 HI.out HZ0.out HZ1.out HZ2.out rfl (by decide) _ _ _ rfl (hown.alloc _) ⟨wr.heap.size, 0, none⟩ 1 1 [.int .i64 0] rfl rfl (cell_one_new _ _ _) ?c2 ?c3 ?c4 ?c5 ?_)
            case c2 => simp [Value.oneCell']
            case c3 => unfold maxLen; omega
            case c4 => omega
            case c5 => first | omega | (simp; omega)
            intro v' w4 hown4 hgrow _
            have HO4 : Hid (w4.ownsRow wo.heap.size 3 1 v' (j + 1) ((List.range (j + 1)).map fun c => .int .i64 (if c = j then 0 else z c))) := by
              show World.ownsRow _ _ _ _ _ _ _
              have e1 : (List.range (j + 1)).map (fun c => Value.int .i64 (if c = j then 0 else z c)) = (List.range j).map (fun c => .int .i64 (z c)) ++ [.int .i64 0] := by
                rw [List.range_succ, List.map_append]
                congr 1
                · exact map_congr_range fun i hi => by rw [if_neg (by omega)]
                · simp
              rw [e1]
              exact hown4
            have hW4 : Below wo.heap.size wo w4 := (hWi.alloc hws _).grown hgrow (by first | omega | (simp; omega)) (ownsRow_block hown)
            clear hown4 hgrow hown
            go_wp2_with fail
            go_roundw
            case rel => exact ⟨j + 1, _, by omega, by go_num, HO4.out, fun c hc => by
              by_cases e : c = j
              · rw [if_pos e]; omega
              · rw [if_neg e]; exact hz.out c (by omega), hW4⟩
            case measure => simp [intOf]; omega
        · have hjt' : ¬ (j : Int) < 1 := by omega
          have hjn : j = 1 := by omega
          have hrow : wr.ownsRow wo.heap.size 3 1 u5 1 ((List.range 1).map fun c => .int .i64 (z c)) := by rw [hjn] at hown; exact hown
          have hO' := hO.below hWi (Nat.le_refl _)
          obtain ⟨gk, ck, rfl⟩ : ∃ g cap, u5 = .slice (some ⟨g, 0, none⟩) 1 cap := by
            rcases owns_ways hrow with ⟨_, h1⟩ | ⟨g, cap, h1, _⟩
            · omega
            · exact ⟨g, cap, h1⟩
          have hne : ∀ r, r < k → (rv r).ownBlock ≠ (Value.slice (some ⟨gk, 0, none⟩) 1 ck).ownBlock := fun r hr e => by
            have h1 := own_lt (hO.row r hr) gk (by rw [e]; rfl)
            have h2 := ownsRow_block hrow gk rfl
            omega
          have HN := Lib.hid hne
          have hrw := ownsRow_base hrow hsz
          have HZZ : Hid (∀ c, c < 1 → 0 ≤ z c ∧ z c ≤ 2) := fun c hc => hz.out c (by omega)
          clear hjn hown hrow hne hO
          go_wp2_with (at_builtin; refine wpList_append_own _ rfl _ _ 23 rfl w.heap.size 24 i1 (.slice none 0 0) 1 24 Try.underlying23 HJ.out HY0.out HY1.out HY2.out rfl (by decide) _ _ _ rfl (hO'.top.alloc _) ⟨wr.heap.size, 0, none⟩ 1 1 [.slice (some ⟨gk, 0, none⟩) 1 ck] rfl rfl (cell_one_new _ _ _) ?c2 ?c3 ?c4 ?c5 ?_)
          case c2 => simp [Value.oneCell']
          case c3 => unfold maxLen; omega
          case c4 => omega
          case c5 => first | omega | (simp; omega)
          intro v' w4 hown4 hgrow _
          have HX := Lib.hid (hO'.append hrw HZZ.out HN.out hown4 hgrow)
          have hW4 : Below w.heap.size w w4 := ((hW.trans (hWi.mono hsz)).alloc (Nat.le_trans hsz hws) _).grown hgrow (by first | omega | (simp; omega)) (ownsRow_block hO'.top)
          clear hown4 hgrow hO' hrw
          go_wp2_with fail
          go_roundw
          case rel => exact ⟨k + 1, _, _, by omega, by go_num, HX.out, hW4⟩
          case measure => simp [intOf]; omega
    · have hlt' : ¬ (k : Int) < 1 := by omega
      have hkn : k = 1 := by omega
      have HX : Hid (Out wr w.heap.size u3 1 1 rv Z) := by show Out _ _ _ _ _ _ _; rw [hkn] at hO; exact hO
      clear hkn hO
      go_wp2_with fail
      go_ret
      exact ⟨_, _, _, rfl, HX.out, hW⟩

set_option maxRecDepth 100000 in
set_option maxHeartbeats 1000000 in
theorem sets_1 (w : World) : Calls Try.prog 110 #[.int .i64 1] w (Drawn w.heap.size 2 w) := by
  have hown0 := World.ownsRow_lit (base := w.heap.size) (e := 24) (size := 1) w #[] 0 (Nat.le_refl _) (Nat.zero_le _) rfl
  have hb0 := (Below.refl w.heap.size w).alloc (Nat.le_refl _) (.cells #[] 24)
  obtain ⟨i0, hi, hz0, hz1, hz2⟩ := info_parts infoInt
  have HI := Lib.hid hi
  have HZ0 := Lib.hid hz0
  have HZ1 := Lib.hid hz1
  have HZ2 := Lib.hid hz2
  obtain ⟨i1, hj, hy0, hy1, hy2⟩ := info_parts infoInts
  have HJ := Lib.hid hj
  have HY0 := Lib.hid hy0
  have HY1 := Lib.hid hy1
  have HY2 := Lib.hid hy2
  clear hi hz0 hz1 hz2 hj hy0 hy1 hy2
  go_enter Try.func110, Try.ntmps110
  go_wp2_with fail
  go_loopw [3, 4] (fun v i wr => ∃ (k : Nat) (rv : Nat → Value) (Z : Nat → Nat → Int), k ≤ 2 ∧ i = .int .i64 k ∧ Out wr w.heap.size v k 2 rv Z ∧ Below w.heap.size w wr) (fun _ i _ => 2 - (intOf i).toNat)
  case atStart => exact ⟨0, fun _ => .slice none 0 0, fun _ _ => 0, Nat.zero_le _, rfl, ⟨hown0, fun r hr => absurd hr (Nat.not_lt_zero _), fun r s hr => absurd hr (Nat.not_lt_zero _), fun r c hr => absurd hr (Nat.not_lt_zero _)⟩, hb0⟩
  case round =>
    obtain ⟨k, rv, Z, hk, rfl, hO, hW⟩ := hrel
    by_cases hlt : k < 2
    · have hlt' : (k : Int) < 2 := by omega
      obtain ⟨wo, rfl⟩ : ∃ wo : World, wo = wr := ⟨_, rfl⟩
      have hsz := hW.size
      have hrow0 := World.ownsRow_lit (base := wo.heap.size) (e := 3) (size := 1) wo #[] 0 (Nat.le_refl _) (Nat.zero_le _) rfl
      have hbr := (Below.refl wo.heap.size wo).alloc (Nat.le_refl _) (.cells #[] 3)
      go_wp2_with fail
      go_loopw [5, 6] (fun t i wi => ∃ (j : Nat) (z : Nat → Int), j ≤ 2 ∧ i = .int .i64 j ∧ wi.ownsRow wo.heap.size 3 1 t j ((List.range j).map fun c => .int .i64 (z c)) ∧ Hid (∀ c, c < j → 0 ≤ z c ∧ z c ≤ 2) ∧ Below wo.heap.size wo wi) (fun _ i _ => 2 - (intOf i).toNat)
      case atStart => exact ⟨0, fun _ => 0, Nat.zero_le _, rfl, hrow0, fun c hc => absurd hc (Nat.not_lt_zero _), hbr⟩
      case round =>
        clear hrow0 hbr
        obtain ⟨j, z, hj, rfl, hown, hz, hWi⟩ := hrel
        have hws := hWi.size
        by_cases hjt : j < 2
        · have hjt' : (j : Int) < 2 := by omega
          obtain ⟨bx, hbx⟩ : ∃ bx : Bool, (bits .and .i64 (k : Int) (j : Int) == (k : Int)) = bx := ⟨_, rfl⟩
          cases bx with
          | true =>
            go_wp2_with (at_builtin; refine wpList_append_own _ rfl _ _ 24 rfl wo.heap.size 3 i0 (.int .i64 0) 1 8 Try.underlying24 HI.out HZ0.out HZ1.out HZ2.out rfl (by decide) _ _ _ rfl (hown.alloc _) ⟨wr.heap.size, 0, none⟩ 1 1 [.int .i64 1] rfl rfl (cell_one_new _ _ _) ?c2 ?c3 ?c4 ?c5 ?_)
            case c2 => simp [Value.oneCell']
            case c3 => unfold maxLen; omega
            case c4 => omega
            case c5 => first | omega | (simp; omega)
            intro v' w4 hown4 hgrow _
            have HO4 : Hid (w4.ownsRow wo.heap.size 3 1 v' (j + 1) ((List.range (j + 1)).map fun c => .int .i64 (if c = j then 1 else z c))) := by
              show World.ownsRow _ _ _ _ _ _ _
              have e1 : (List.range (j + 1)).map (fun c => Value.int .i64 (if c = j then 1 else z c)) = (List.range j).map (fun c => .int .i64 (z c)) ++ [.int .i64 1] := by
                rw [List.range_succ, List.map_append]
                congr 1
                · exact map_congr_range fun i hi => by rw [if_neg (by omega)]
                · simp
              rw [e1]
              exact hown4
            have hW4 : Below wo.heap.size wo w4 := (hWi.alloc hws _).grown hgrow (by first | omega | (simp; omega)) (ownsRow_block hown)
            clear hown4 hgrow hown
            go_wp2_with fail
            go_roundw
            case rel => exact ⟨j + 1, _, by omega, by go_num, HO4.out, fun c hc => by
              by_cases e : c = j
              · rw [if_pos e]; omega
              · rw [if_neg e]; exact hz.out c (by omega), hW4⟩
            case measure => simp [intOf]; omega
          | false =>
            go_wp2_with (at_builtin; refine wpList_append_own _ rfl _ _ 24 rfl wo.heap.size 3 i0 (.int .i64 0) 1 8 Try.underlying24 HI.out HZ0.out HZ1.out HZ2.out rfl (by decide) _ _ _ rfl (hown.alloc _) ⟨wr.heap.size, 0, none⟩ 1 1 [.int .i64 0] rfl rfl (cell_one_new _ _ _) ?c2 ?c3 ?c4 ?c5 ?_)
            case c2 => simp [Value.oneCell']
            case c3 => unfold maxLen; omega
            case c4 => omega
            case c5 => first | omega | (simp; omega)
            intro v' w4 hown4 hgrow _
            have HO4 : Hid (w4.ownsRow wo.heap.size 3 1 v' (j + 1) ((List.range (j + 1)).map fun c => .int .i64 (if c = j then 0 else z c))) := by
              show World.ownsRow _ _ _ _ _ _ _
              have e1 : (List.range (j + 1)).map (fun c => Value.int .i64 (if c = j then 0 else z c)) = (List.range j).map (fun c => .int .i64 (z c)) ++ [.int .i64 0] := by
                rw [List.range_succ, List.map_append]
                congr 1
                · exact map_congr_range fun i hi => by rw [if_neg (by omega)]
                · simp
              rw [e1]
              exact hown4
            have hW4 : Below wo.heap.size wo w4 := (hWi.alloc hws _).grown hgrow (by first | omega | (simp; omega)) (ownsRow_block hown)
            clear hown4 hgrow hown
            go_wp2_with fail
            go_roundw
            case rel => exact ⟨j + 1, _, by omega, by go_num, HO4.out, fun c hc => by
              by_cases e : c = j
              · rw [if_pos e]; omega
              · rw [if_neg e]; exact hz.out c (by omega), hW4⟩
            case measure => simp [intOf]; omega
        · have hjt' : ¬ (j : Int) < 2 := by omega
          have hjn : j = 2 := by omega
          have hrow : wr.ownsRow wo.heap.size 3 1 u5 2 ((List.range 2).map fun c => .int .i64 (z c)) := by rw [hjn] at hown; exact hown
          have hO' := hO.below hWi (Nat.le_refl _)
          obtain ⟨gk, ck, rfl⟩ : ∃ g cap, u5 = .slice (some ⟨g, 0, none⟩) 2 cap := by
            rcases owns_ways hrow with ⟨_, h1⟩ | ⟨g, cap, h1, _⟩
            · omega
            · exact ⟨g, cap, h1⟩
          have hne : ∀ r, r < k → (rv r).ownBlock ≠ (Value.slice (some ⟨gk, 0, none⟩) 2 ck).ownBlock := fun r hr e => by
            have h1 := own_lt (hO.row r hr) gk (by rw [e]; rfl)
            have h2 := ownsRow_block hrow gk rfl
            omega
          have HN := Lib.hid hne
          have hrw := ownsRow_base hrow hsz
          have HZZ : Hid (∀ c, c < 2 → 0 ≤ z c ∧ z c ≤ 2) := fun c hc => hz.out c (by omega)
          clear hjn hown hrow hne hO
          go_wp2_with (at_builtin; refine wpList_append_own _ rfl _ _ 23 rfl w.heap.size 24 i1 (.slice none 0 0) 1 24 Try.underlying23 HJ.out HY0.out HY1.out HY2.out rfl (by decide) _ _ _ rfl (hO'.top.alloc _) ⟨wr.heap.size, 0, none⟩ 1 1 [.slice (some ⟨gk, 0, none⟩) 2 ck] rfl rfl (cell_one_new _ _ _) ?c2 ?c3 ?c4 ?c5 ?_)
          case c2 => simp [Value.oneCell']
          case c3 => unfold maxLen; omega
          case c4 => omega
          case c5 => first | omega | (simp; omega)
          intro v' w4 hown4 hgrow _
          have HX := Lib.hid (hO'.append hrw HZZ.out HN.out hown4 hgrow)
          have hW4 : Below w.heap.size w w4 := ((hW.trans (hWi.mono hsz)).alloc (Nat.le_trans hsz hws) _).grown hgrow (by first | omega | (simp; omega)) (ownsRow_block hO'.top)
          clear hown4 hgrow hO' hrw
          go_wp2_with fail
          go_roundw
          case rel => exact ⟨k + 1, _, _, by omega, by go_num, HX.out, hW4⟩
          case measure => simp [intOf]; omega
    · have hlt' : ¬ (k : Int) < 2 := by omega
      have hkn : k = 2 := by omega
      have HX : Hid (Out wr w.heap.size u3 2 2 rv Z) := by show Out _ _ _ _ _ _ _; rw [hkn] at hO; exact hO
      clear hkn hO
      go_wp2_with fail
      go_ret
      exact ⟨_, _, _, rfl, HX.out, hW⟩

set_option maxRecDepth 100000 in
set_option maxHeartbeats 1000000 in
theorem sets_2 (w : World) : Calls Try.prog 110 #[.int .i64 2] w (Drawn w.heap.size 4 w) := by
  have hown0 := World.ownsRow_lit (base := w.heap.size) (e := 24) (size := 1) w #[] 0 (Nat.le_refl _) (Nat.zero_le _) rfl
  have hb0 := (Below.refl w.heap.size w).alloc (Nat.le_refl _) (.cells #[] 24)
  obtain ⟨i0, hi, hz0, hz1, hz2⟩ := info_parts infoInt
  have HI := Lib.hid hi
  have HZ0 := Lib.hid hz0
  have HZ1 := Lib.hid hz1
  have HZ2 := Lib.hid hz2
  obtain ⟨i1, hj, hy0, hy1, hy2⟩ := info_parts infoInts
  have HJ := Lib.hid hj
  have HY0 := Lib.hid hy0
  have HY1 := Lib.hid hy1
  have HY2 := Lib.hid hy2
  clear hi hz0 hz1 hz2 hj hy0 hy1 hy2
  go_enter Try.func110, Try.ntmps110
  go_wp2_with fail
  go_loopw [3, 4] (fun v i wr => ∃ (k : Nat) (rv : Nat → Value) (Z : Nat → Nat → Int), k ≤ 4 ∧ i = .int .i64 k ∧ Out wr w.heap.size v k 4 rv Z ∧ Below w.heap.size w wr) (fun _ i _ => 4 - (intOf i).toNat)
  case atStart => exact ⟨0, fun _ => .slice none 0 0, fun _ _ => 0, Nat.zero_le _, rfl, ⟨hown0, fun r hr => absurd hr (Nat.not_lt_zero _), fun r s hr => absurd hr (Nat.not_lt_zero _), fun r c hr => absurd hr (Nat.not_lt_zero _)⟩, hb0⟩
  case round =>
    obtain ⟨k, rv, Z, hk, rfl, hO, hW⟩ := hrel
    by_cases hlt : k < 4
    · have hlt' : (k : Int) < 4 := by omega
      obtain ⟨wo, rfl⟩ : ∃ wo : World, wo = wr := ⟨_, rfl⟩
      have hsz := hW.size
      have hrow0 := World.ownsRow_lit (base := wo.heap.size) (e := 3) (size := 1) wo #[] 0 (Nat.le_refl _) (Nat.zero_le _) rfl
      have hbr := (Below.refl wo.heap.size wo).alloc (Nat.le_refl _) (.cells #[] 3)
      go_wp2_with fail
      go_loopw [5, 6] (fun t i wi => ∃ (j : Nat) (z : Nat → Int), j ≤ 4 ∧ i = .int .i64 j ∧ wi.ownsRow wo.heap.size 3 1 t j ((List.range j).map fun c => .int .i64 (z c)) ∧ Hid (∀ c, c < j → 0 ≤ z c ∧ z c ≤ 2) ∧ Below wo.heap.size wo wi) (fun _ i _ => 4 - (intOf i).toNat)
      case atStart => exact ⟨0, fun _ => 0, Nat.zero_le _, rfl, hrow0, fun c hc => absurd hc (Nat.not_lt_zero _), hbr⟩
      case round =>
        clear hrow0 hbr
        obtain ⟨j, z, hj, rfl, hown, hz, hWi⟩ := hrel
        have hws := hWi.size
        by_cases hjt : j < 4
        · have hjt' : (j : Int) < 4 := by omega
          obtain ⟨bx, hbx⟩ : ∃ bx : Bool, (bits .and .i64 (k : Int) (j : Int) == (k : Int)) = bx := ⟨_, rfl⟩
          cases bx with
          | true =>
            go_wp2_with (at_builtin; refine wpList_append_own _ rfl _ _ 24 rfl wo.heap.size 3 i0 (.int .i64 0) 1 8 Try.underlying24 HI.out HZ0.out HZ1.out HZ2.out rfl (by decide) _ _ _ rfl (hown.alloc _) ⟨wr.heap.size, 0, none⟩ 1 1 [.int .i64 1] rfl rfl (cell_one_new _ _ _) ?c2 ?c3 ?c4 ?c5 ?_)
            case c2 => simp [Value.oneCell']
            case c3 => unfold maxLen; omega
            case c4 => omega
            case c5 => first | omega | (simp; omega)
            intro v' w4 hown4 hgrow _
            have HO4 : Hid (w4.ownsRow wo.heap.size 3 1 v' (j + 1) ((List.range (j + 1)).map fun c => .int .i64 (if c = j then 1 else z c))) := by
              show World.ownsRow _ _ _ _ _ _ _
              have e1 : (List.range (j + 1)).map (fun c => Value.int .i64 (if c = j then 1 else z c)) = (List.range j).map (fun c => .int .i64 (z c)) ++ [.int .i64 1] := by
                rw [List.range_succ, List.map_append]
                congr 1
                · exact map_congr_range fun i hi => by rw [if_neg (by omega)]
                · simp
              rw [e1]
              exact hown4
            have hW4 : Below wo.heap.size wo w4 := (hWi.alloc hws _).grown hgrow (by first | omega | (simp; omega)) (ownsRow_block hown)
            clear hown4 hgrow hown
            go_wp2_with fail
            go_roundw
            case rel => exact ⟨j + 1, _, by omega, by go_num, HO4.out, fun c hc => by
              by_cases e : c = j
              · rw [if_pos e]; omega
              · rw [if_neg e]; exact hz.out c (by omega), hW4⟩
            case measure => simp [intOf]; omega
          | false =>
            go_wp2_with (at_builtin; refine wpList_append_own _ rfl _ _ 24 rfl wo.heap.size 3 i0 (.int .i64 0) 1 8 Try.underlying24 HI.out HZ0.out HZ1.out HZ2.out rfl (by decide) _ _ _ rfl (hown.alloc _) ⟨wr.heap.size, 0, none⟩ 1 1 [.int .i64 0] rfl rfl (cell_one_new _ _ _) ?c2 ?c3 ?c4 ?c5 ?_)
            case c2 => simp [Value.oneCell']
            case c3 => unfold maxLen; omega
            case c4 => omega
            case c5 => first | omega | (simp; omega)
            intro v' w4 hown4 hgrow _
            have HO4 : Hid (w4.ownsRow wo.heap.size 3 1 v' (j + 1) ((List.range (j + 1)).map fun c => .int .i64 (if c = j then 0 else z c))) := by
              show World.ownsRow _ _ _ _ _ _ _
              have e1 : (List.range (j + 1)).map (fun c => Value.int .i64 (if c = j then 0 else z c)) = (List.range j).map (fun c => .int .i64 (z c)) ++ [.int .i64 0] := by
                rw [List.range_succ, List.map_append]
                congr 1
                · exact map_congr_range fun i hi => by rw [if_neg (by omega)]
                · simp
              rw [e1]
              exact hown4
            have hW4 : Below wo.heap.size wo w4 := (hWi.alloc hws _).grown hgrow (by first | omega | (simp; omega)) (ownsRow_block hown)
            clear hown4 hgrow hown
            go_wp2_with fail
            go_roundw
            case rel => exact ⟨j + 1, _, by omega, by go_num, HO4.out, fun c hc => by
              by_cases e : c = j
              · rw [if_pos e]; omega
              · rw [if_neg e]; exact hz.out c (by omega), hW4⟩
            case measure => simp [intOf]; omega
        · have hjt' : ¬ (j : Int) < 4 := by omega
          have hjn : j = 4 := by omega
          have hrow : wr.ownsRow wo.heap.size 3 1 u5 4 ((List.range 4).map fun c => .int .i64 (z c)) := by rw [hjn] at hown; exact hown
          have hO' := hO.below hWi (Nat.le_refl _)
          obtain ⟨gk, ck, rfl⟩ : ∃ g cap, u5 = .slice (some ⟨g, 0, none⟩) 4 cap := by
            rcases owns_ways hrow with ⟨_, h1⟩ | ⟨g, cap, h1, _⟩
            · omega
            · exact ⟨g, cap, h1⟩
          have hne : ∀ r, r < k → (rv r).ownBlock ≠ (Value.slice (some ⟨gk, 0, none⟩) 4 ck).ownBlock := fun r hr e => by
            have h1 := own_lt (hO.row r hr) gk (by rw [e]; rfl)
            have h2 := ownsRow_block hrow gk rfl
            omega
          have HN := Lib.hid hne
          have hrw := ownsRow_base hrow hsz
          have HZZ : Hid (∀ c, c < 4 → 0 ≤ z c ∧ z c ≤ 2) := fun c hc => hz.out c (by omega)
          clear hjn hown hrow hne hO
          go_wp2_with (at_builtin; refine wpList_append_own _ rfl _ _ 23 rfl w.heap.size 24 i1 (.slice none 0 0) 1 24 Try.underlying23 HJ.out HY0.out HY1.out HY2.out rfl (by decide) _ _ _ rfl (hO'.top.alloc _) ⟨wr.heap.size, 0, none⟩ 1 1 [.slice (some ⟨gk, 0, none⟩) 4 ck] rfl rfl (cell_one_new _ _ _) ?c2 ?c3 ?c4 ?c5 ?_)
          case c2 => simp [Value.oneCell']
          case c3 => unfold maxLen; omega
          case c4 => omega
          case c5 => first | omega | (simp; omega)
          intro v' w4 hown4 hgrow _
          have HX := Lib.hid (hO'.append hrw HZZ.out HN.out hown4 hgrow)
          have hW4 : Below w.heap.size w w4 := ((hW.trans (hWi.mono hsz)).alloc (Nat.le_trans hsz hws) _).grown hgrow (by first | omega | (simp; omega)) (ownsRow_block hO'.top)
          clear hown4 hgrow hO' hrw
          go_wp2_with fail
          go_roundw
          case rel => exact ⟨k + 1, _, _, by omega, by go_num, HX.out, hW4⟩
          case measure => simp [intOf]; omega
    · have hlt' : ¬ (k : Int) < 4 := by omega
      have hkn : k = 4 := by omega
      have HX : Hid (Out wr w.heap.size u3 4 4 rv Z) := by show Out _ _ _ _ _ _ _; rw [hkn] at hO; exact hO
      clear hkn hO
      go_wp2_with fail
      go_ret
      exact ⟨_, _, _, rfl, HX.out, hW⟩

set_option maxRecDepth 100000 in
set_option maxHeartbeats 1000000 in
theorem sets_3 (w : World) : Calls Try.prog 110 #[.int .i64 3] w (Drawn w.heap.size 8 w) := by
  have hown0 := World.ownsRow_lit (base := w.heap.size) (e := 24) (size := 1) w #[] 0 (Nat.le_refl _) (Nat.zero_le _) rfl
  have hb0 := (Below.refl w.heap.size w).alloc (Nat.le_refl _) (.cells #[] 24)
  obtain ⟨i0, hi, hz0, hz1, hz2⟩ := info_parts infoInt
  have HI := Lib.hid hi
  have HZ0 := Lib.hid hz0
  have HZ1 := Lib.hid hz1
  have HZ2 := Lib.hid hz2
  obtain ⟨i1, hj, hy0, hy1, hy2⟩ := info_parts infoInts
  have HJ := Lib.hid hj
  have HY0 := Lib.hid hy0
  have HY1 := Lib.hid hy1
  have HY2 := Lib.hid hy2
  clear hi hz0 hz1 hz2 hj hy0 hy1 hy2
  go_enter Try.func110, Try.ntmps110
  go_wp2_with fail
  go_loopw [3, 4] (fun v i wr => ∃ (k : Nat) (rv : Nat → Value) (Z : Nat → Nat → Int), k ≤ 8 ∧ i = .int .i64 k ∧ Out wr w.heap.size v k 8 rv Z ∧ Below w.heap.size w wr) (fun _ i _ => 8 - (intOf i).toNat)
  case atStart => exact ⟨0, fun _ => .slice none 0 0, fun _ _ => 0, Nat.zero_le _, rfl, ⟨hown0, fun r hr => absurd hr (Nat.not_lt_zero _), fun r s hr => absurd hr (Nat.not_lt_zero _), fun r c hr => absurd hr (Nat.not_lt_zero _)⟩, hb0⟩
  case round =>
    obtain ⟨k, rv, Z, hk, rfl, hO, hW⟩ := hrel
    by_cases hlt : k < 8
    · have hlt' : (k : Int) < 8 := by omega
      obtain ⟨wo, rfl⟩ : ∃ wo : World, wo = wr := ⟨_, rfl⟩
      have hsz := hW.size
      have hrow0 := World.ownsRow_lit (base := wo.heap.size) (e := 3) (size := 1) wo #[] 0 (Nat.le_refl _) (Nat.zero_le _) rfl
      have hbr := (Below.refl wo.heap.size wo).alloc (Nat.le_refl _) (.cells #[] 3)
      go_wp2_with fail
      go_loopw [5, 6] (fun t i wi => ∃ (j : Nat) (z : Nat → Int), j ≤ 8 ∧ i = .int .i64 j ∧ wi.ownsRow wo.heap.size 3 1 t j ((List.range j).map fun c => .int .i64 (z c)) ∧ Hid (∀ c, c < j → 0 ≤ z c ∧ z c ≤ 2) ∧ Below wo.heap.size wo wi) (fun _ i _ => 8 - (intOf i).toNat)
      case atStart => exact ⟨0, fun _ => 0, Nat.zero_le _, rfl, hrow0, fun c hc => absurd hc (Nat.not_lt_zero _), hbr⟩
      case round =>
        clear hrow0 hbr
        obtain ⟨j, z, hj, rfl, hown, hz, hWi⟩ := hrel
        have hws := hWi.size
        by_cases hjt : j < 8
        · have hjt' : (j : Int) < 8 := by omega
          obtain ⟨bx, hbx⟩ : ∃ bx : Bool, (bits .and .i64 (k : Int) (j : Int) == (k : Int)) = bx := ⟨_, rfl⟩
          cases bx with
          | true =>
            go_wp2_with (at_builtin; refine wpList_append_own _ rfl _ _ 24 rfl wo.heap.size 3 i0 (.int .i64 0) 1 8 Try.underlying24 HI.out HZ0.out HZ1.out HZ2.out rfl (by decide) _ _ _ rfl (hown.alloc _) ⟨wr.heap.size, 0, none⟩ 1 1 [.int .i64 1] rfl rfl (cell_one_new _ _ _) ?c2 ?c3 ?c4 ?c5 ?_)
            case c2 => simp [Value.oneCell']
            case c3 => unfold maxLen; omega
            case c4 => omega
            case c5 => first | omega | (simp; omega)
            intro v' w4 hown4 hgrow _
            have HO4 : Hid (w4.ownsRow wo.heap.size 3 1 v' (j + 1) ((List.range (j + 1)).map fun c => .int .i64 (if c = j then 1 else z c))) := by
              show World.ownsRow _ _ _ _ _ _ _
              have e1 : (List.range (j + 1)).map (fun c => Value.int .i64 (if c = j then 1 else z c)) = (List.range j).map (fun c => .int .i64 (z c)) ++ [.int .i64 1] := by
                rw [List.range_succ, List.map_append]
                congr 1
                · exact map_congr_range fun i hi => by rw [if_neg (by omega)]
                · simp
              rw [e1]
              exact hown4
            have hW4 : Below wo.heap.size wo w4 := (hWi.alloc hws _).grown hgrow (by first | omega | (simp; omega)) (ownsRow_block hown)
            clear hown4 hgrow hown
            go_wp2_with fail
            go_roundw
            case rel => exact ⟨j + 1, _, by omega, by go_num, HO4.out, fun c hc => by
              by_cases e : c = j
              · rw [if_pos e]; omega
              · rw [if_neg e]; exact hz.out c (by omega), hW4⟩
            case measure => simp [intOf]; omega
          | false =>
            go_wp2_with (at_builtin; refine wpList_append_own _ rfl _ _ 24 rfl wo.heap.size 3 i0 (.int .i64 0) 1 8 Try.underlying24 HI.out HZ0.out HZ1.out HZ2.out rfl (by decide) _ _ _ rfl (hown.alloc _) ⟨wr.heap.size, 0, none⟩ 1 1 [.int .i64 0] rfl rfl (cell_one_new _ _ _) ?c2 ?c3 ?c4 ?c5 ?_)
            case c2 => simp [Value.oneCell']
            case c3 => unfold maxLen; omega
            case c4 => omega
            case c5 => first | omega | (simp; omega)
            intro v' w4 hown4 hgrow _
            have HO4 : Hid (w4.ownsRow wo.heap.size 3 1 v' (j + 1) ((List.range (j + 1)).map fun c => .int .i64 (if c = j then 0 else z c))) := by
              show World.ownsRow _ _ _ _ _ _ _
              have e1 : (List.range (j + 1)).map (fun c => Value.int .i64 (if c = j then 0 else z c)) = (List.range j).map (fun c => .int .i64 (z c)) ++ [.int .i64 0] := by
                rw [List.range_succ, List.map_append]
                congr 1
                · exact map_congr_range fun i hi => by rw [if_neg (by omega)]
                · simp
              rw [e1]
              exact hown4
            have hW4 : Below wo.heap.size wo w4 := (hWi.alloc hws _).grown hgrow (by first | omega | (simp; omega)) (ownsRow_block hown)
            clear hown4 hgrow hown
            go_wp2_with fail
            go_roundw
            case rel => exact ⟨j + 1, _, by omega, by go_num, HO4.out, fun c hc => by
              by_cases e : c = j
              · rw [if_pos e]; omega
              · rw [if_neg e]; exact hz.out c (by omega), hW4⟩
            case measure => simp [intOf]; omega
        · have hjt' : ¬ (j : Int) < 8 := by omega
          have hjn : j = 8 := by omega
          have hrow : wr.ownsRow wo.heap.size 3 1 u5 8 ((List.range 8).map fun c => .int .i64 (z c)) := by rw [hjn] at hown; exact hown
          have hO' := hO.below hWi (Nat.le_refl _)
          obtain ⟨gk, ck, rfl⟩ : ∃ g cap, u5 = .slice (some ⟨g, 0, none⟩) 8 cap := by
            rcases owns_ways hrow with ⟨_, h1⟩ | ⟨g, cap, h1, _⟩
            · omega
            · exact ⟨g, cap, h1⟩
          have hne : ∀ r, r < k → (rv r).ownBlock ≠ (Value.slice (some ⟨gk, 0, none⟩) 8 ck).ownBlock := fun r hr e => by
            have h1 := own_lt (hO.row r hr) gk (by rw [e]; rfl)
            have h2 := ownsRow_block hrow gk rfl
            omega
          have HN := Lib.hid hne
          have hrw := ownsRow_base hrow hsz
          have HZZ : Hid (∀ c, c < 8 → 0 ≤ z c ∧ z c ≤ 2) := fun c hc => hz.out c (by omega)
          clear hjn hown hrow hne hO
          go_wp2_with (at_builtin; refine wpList_append_own _ rfl _ _ 23 rfl w.heap.size 24 i1 (.slice none 0 0) 1 24 Try.underlying23 HJ.out HY0.out HY1.out HY2.out rfl (by decide) _ _ _ rfl (hO'.top.alloc _) ⟨wr.heap.size, 0, none⟩ 1 1 [.slice (some ⟨gk, 0, none⟩) 8 ck] rfl rfl (cell_one_new _ _ _) ?c2 ?c3 ?c4 ?c5 ?_)
          case c2 => simp [Value.oneCell']
          case c3 => unfold maxLen; omega
          case c4 => omega
          case c5 => first | omega | (simp; omega)
          intro v' w4 hown4 hgrow _
          have HX := Lib.hid (hO'.append hrw HZZ.out HN.out hown4 hgrow)
          have hW4 : Below w.heap.size w w4 := ((hW.trans (hWi.mono hsz)).alloc (Nat.le_trans hsz hws) _).grown hgrow (by first | omega | (simp; omega)) (ownsRow_block hO'.top)
          clear hown4 hgrow hO' hrw
          go_wp2_with fail
          go_roundw
          case rel => exact ⟨k + 1, _, _, by omega, by go_num, HX.out, hW4⟩
          case measure => simp [intOf]; omega
    · have hlt' : ¬ (k : Int) < 8 := by omega
      have hkn : k = 8 := by omega
      have HX : Hid (Out wr w.heap.size u3 8 8 rv Z) := by show Out _ _ _ _ _ _ _; rw [hkn] at hO; exact hO
      clear hkn hO
      go_wp2_with fail
      go_ret
      exact ⟨_, _, _, rfl, HX.out, hW⟩
end Go.Proofs.Ytojcgmgponnlpaa
namespace Go.Proofs.Ytojcgmgponnlpaa
open Go.RowKit Go.Deep

theorem owns_of_rowIs {w : World} {base g N : Nat} {z : Nat → Int} (h : w.rowIs g 3 N (fun c => .int .i64 (z c))) (hb : base ≤ g) (hN : N ≤ 9223372036854775807) : w.ownsRow base 3 1 (.slice (some ⟨g, 0, none⟩) N N) N ((List.range N).map fun c => .int .i64 (z c)) := by
  obtain ⟨c, h1, h2, h3⟩ := h
  refine ⟨by simp, .inr ⟨g, N, c, rfl, hb, h1, Nat.le_refl _, by unfold maxLen; omega, by omega, ?_⟩⟩
  apply List.ext_getElem?
  intro i
  by_cases hi : i < N
  · rw [List.getElem?_take, if_pos (by omega), Array.getElem?_toList, h3 i hi]
    simp [hi]
  · rw [List.getElem?_take, if_neg (by omega)]
    simp [hi]

theorem Out.base {w : World} {base base' : Nat} {v : Value} {k N : Nat} {rv : Nat → Value} {Z : Nat → Nat → Int} (h : Out w base v k N rv Z) (hb : base' ≤ base) : Out w base' v k N rv Z :=
  ⟨ownsRow_base h.top hb, fun r hr => ownsRow_base (h.row r hr) hb, h.apart, h.bit⟩
set_option maxHeartbeats 400000 in
theorem odd_any {rb n c p : Nat} {A : Option Addr} {q : Int} {B b o : Nat} {z : Nat → Nat} {w : World} (hq : 1 ≤ q) (hq' : q ≤ 1000000) (hp : p ≤ 100000) (hn : n ≤ 2000) (h : Rd w rb A n c p) (hz : BytesAt w B A b o n z) (hB : B ≤ rb) :
    Calls Try.prog 48 #[.pointer (some ⟨rb, 0, none⟩), .int .i64 q] w fun e w' => (∃ x : Bool, e = .returned (.bool x)) ∧ Rd w' rb A n c (p + 1) ∧ OnlyIn (· = rb) w w' := by
  have hq0 : 0 < q := by omega
  go_enter Try.func48, Try.ntmps48
  go_wp2_with fail
  go_at_call 30
  refine (pick_any hq hq' hp hn h hz hB).mono ?_
  rintro e w1 ⟨v, rfl, h0, h1, hR, hO⟩
  go_wp2_with fail
  go_ret
  exact ⟨⟨_, rfl⟩, hR, hO⟩

end Go.Proofs.Ytojcgmgponnlpaa
namespace Go.Proofs.Ytojcgmgponnlpaa
open Go.RowKit Go.Deep

/-- A code as it comes in. -/
structure CodeAt (w : World) (A : Option Addr) (b o n cap : Nat) (z : Nat → Nat) : Prop where
  bytes : BytesAt w w.heap.size A b o n z
  hn : n ≤ cap
  hc : cap ≤ 9223372036854775807

/-- The reader of a code: new, nothing picked, at most 2000 bytes. -/
def Opened (w : World) (e : Ending) (w' : World) : Prop :=
  ∃ (A : Option Addr) (b o n c : Nat) (z : Nat → Nat), e = .returned (.pointer (some ⟨w.heap.size, 0, none⟩)) ∧ n ≤ 2000 ∧ Rd w' w.heap.size A n c 0 ∧ BytesAt w' w.heap.size A b o n z ∧ Below w.heap.size w w' ∧ w'.heap.size = w.heap.size + 1

theorem rd_new (w : World) (A : Option Addr) (n c : Nat) : Rd (w.alloc (.cells #[.slice A n c, .int .i64 0] 73)) w.heap.size A n c 0 := by
  unfold Rd
  simpa using World.alloc_heap_new w (.cells #[.slice A n c, .int .i64 0] 73)

set_option maxHeartbeats 400000 in
theorem l20Open_any {A : Option Addr} {b o n cap : Nat} {z : Nat → Nat} {w : World} (h : CodeAt w A b o n cap z) :
    Calls Try.prog 24 #[.slice A n cap] w (Opened w) := by
  have hn := h.hn
  have hc := h.hc
  by_cases hbig : 2000 < n
  · obtain ⟨rfl, _, _, _⟩ := h.bytes.at_ 0 (by omega)
    have hbig' : (2000 : Int) < n := by omega
    have hcap : (2000 : Int) ≤ cap := by omega
    have hcapn : 2000 ≤ cap := by omega
    have hX : Hid (Opened w (.returned (.pointer (some ⟨w.heap.size, 0, none⟩))) (w.alloc (.cells #[.slice (some ⟨b, o, none⟩) 2000 cap, .int .i64 0] 73))) :=
      ⟨_, b, o, 2000, cap, z, rfl, Nat.le_refl _, rd_new w _ _ _, ⟨fun j hj => (h.bytes.below ((Below.refl w.heap.size w).alloc (Nat.le_refl _) (.cells #[.slice (some ⟨b, o, none⟩) 2000 cap, .int .i64 0] 73))).at_ j (by omega)⟩, (Below.refl _ _).alloc (Nat.le_refl _) _, by simp⟩
    clear h
    go_enter Try.func24, Try.ntmps24
    go_wp2_with fail
    go_ret
    exact hX.out
  · have hbig' : ¬ (2000 : Int) < n := by omega
    have hX : Hid (Opened w (.returned (.pointer (some ⟨w.heap.size, 0, none⟩))) (w.alloc (.cells #[.slice A n cap, .int .i64 0] 73))) :=
      ⟨_, b, o, n, cap, z, rfl, by omega, rd_new w _ _ _, h.bytes.below ((Below.refl w.heap.size w).alloc (Nat.le_refl _) _), (Below.refl _ _).alloc (Nat.le_refl _) _, by simp⟩
    clear h
    go_enter Try.func24, Try.ntmps24
    go_wp2_with fail
    go_ret
    exact hX.out

end Go.Proofs.Ytojcgmgponnlpaa
namespace Go.Proofs.Ytojcgmgponnlpaa
open Go.RowKit Go.Deep

end Go.Proofs.Ytojcgmgponnlpaa
