/- The walk of the laws' reader of codes: each pick is a number below its bound. -/
import Derived.Test.YtgjacinolenheaaWu
import Derived.Laws.BitsAllLaws
import Derived.Laws.BitsLemmas
namespace Go.Proofs.Ytgjacinolenheaa
open Go.RowKit Go.Deep

/-- Bytes as they lie in memory below block B. -/
structure BytesAt (w : World) (B : Nat) (A : Option Addr) (b o n : Nat) (z : Nat → Nat) : Prop where
  at_ : ∀ j, j < n → A = some ⟨b, o, none⟩ ∧ b < B ∧ w.cell? ⟨b, o + j, none⟩ = some (.int .u8 (z j)) ∧ z j < 256
theorem BytesAt.keep {w w' : World} {B : Nat} {A : Option Addr} {b o n : Nat} {z : Nat → Nat} (h : BytesAt w B A b o n z) (hk : ∀ p : Addr, p.block < B → w'.cell? p = w.cell? p) : BytesAt w' B A b o n z :=
  ⟨fun j hj => by obtain ⟨h1, h2, h3, h4⟩ := h.at_ j hj; exact ⟨h1, h2, by rw [hk _ h2]; exact h3, h4⟩⟩
theorem BytesAt.below {w w' : World} {B : Nat} {A : Option Addr} {b o n : Nat} {z : Nat → Nat} (h : BytesAt w B A b o n z) (hb : Below B w w') : BytesAt w' B A b o n z := h.keep fun _ hp => hb.cell hp

/-- The reader: a slice of bytes and how many picks there were. -/
def Rd (w : World) (rb : Nat) (A : Option Addr) (n c p : Nat) : Prop := w.heap[rb]? = some (.cells #[.slice A n c, .int .i64 p] 83 (0, 0))
theorem Rd.cell0 {w : World} {rb n c p : Nat} {A : Option Addr} (h : Rd w rb A n c p) : w.cell? ⟨rb, 0, none⟩ = some (.slice A n c) := by
  unfold Rd at h; simp [World.cell?, h]
theorem Rd.cell1 {w : World} {rb n c p : Nat} {A : Option Addr} (h : Rd w rb A n c p) : w.cell? ⟨rb, 1, none⟩ = some (.int .i64 p) := by
  unfold Rd at h; simp [World.cell?, h]
theorem Rd.frozen {w : World} {rb n c p : Nat} {A : Option Addr} (h : Rd w rb A n c p) : w.frozen? ⟨rb, 1, none⟩ = false := by
  unfold Rd at h; simp [World.frozen?, h]
theorem Rd.next {w : World} {rb n c p : Nat} {A : Option Addr} (h : Rd w rb A n c p) : Rd (w.setCell ⟨rb, 1, none⟩ (.int .i64 ((p : Int) + 1))) rb A n c (p + 1) := by
  unfold Rd at h ⊢
  simp [World.setCell, Array.getElem?_modify, h]
theorem Rd.block {w w' : World} {rb n c p : Nat} {A : Option Addr} (h : Rd w rb A n c p) (hb : w'.heap[rb]? = w.heap[rb]?) : Rd w' rb A n c p := hb.trans h
theorem Rd.drewN {w : World} {rb n c p : Nat} {A : Option Addr} (h : Rd w rb A n c p) (k : Nat) : Rd (w.drewN k) rb A n c p := h
theorem OnlyIn.drewN {S : Nat → Prop} {w w' : World} (h : OnlyIn S w w') (k : Nat) : OnlyIn S w (w'.drewN k) := ⟨h.os, h.tape, h.output, h.size, h.block⟩

/-- What a pick leaves: a number from 0 on, below the bound; the reader, one pick further; nothing else turned. -/
def Picked (q : Int) (rb : Nat) (A : Option Addr) (n c p : Nat) (w : World) (e : Ending) (w' : World) : Prop :=
  ∃ v : Int, e = .returned (.int .i64 v) ∧ 0 ≤ v ∧ v < q ∧ Rd w' rb A n c (p + 1) ∧ OnlyIn (· = rb) w w'

set_option maxRecDepth 100000 in
set_option maxHeartbeats 1000000 in
theorem pick_near {rb n c p : Nat} {A : Option Addr} {q : Int} {B b o : Nat} {z : Nat → Nat} {w : World} (hq : 1 ≤ q) (hq' : q ≤ 1000000) (hp : p ≤ 100000) (h : Rd w rb A n c p) (hz : BytesAt w B A b o n z) (hB : B ≤ rb) (hlt : p < n) :
    Calls Try.prog 47 #[.pointer (some ⟨rb, 0, none⟩), .int .i64 q] w (Picked q rb A n c p w) := by
  have c0 := h.cell0
  have c1 := h.cell1
  have f1 := h.frozen
  have hnx := h.next
  obtain ⟨rfl, hb, hz1, hz2⟩ := hz.at_ p hlt
  have hO : OnlyIn (· = rb) w (w.setCell ⟨rb, 1, none⟩ (.int .i64 ((p : Int) + 1))) := (OnlyIn.refl (fun x => x = rb) w).set rfl 1 _
  have g0 := hnx.cell0
  have g1 := hnx.cell1
  have g2 : (w.setCell ⟨rb, 1, none⟩ (.int .i64 ((p : Int) + 1))).cell? ⟨b, o + p, none⟩ = some (.int .u8 (z p)) := by
    rw [World.cell?_setCell_other _ _ _ _ (fun e => by injection e with e1; omega)]; exact hz1
  have hlt' : (p : Int) < n := by omega
  have hn0 : ((n : Int) == 0) = false := by simp; omega
  go_enter Try.func47, Try.ntmps47
  go_wp2_with fail
  go_ret
  exact ⟨_, rfl, Int.emod_nonneg _ (by omega), Int.emod_lt_of_pos _ (by omega), hnx, hO⟩

set_option maxRecDepth 100000 in
set_option maxHeartbeats 1000000 in
theorem pick_empty {rb c p : Nat} {A : Option Addr} {q : Int} {w : World} (hq : 1 ≤ q) (hp : p ≤ 100000) (h : Rd w rb A 0 c p) :
    Calls Try.prog 47 #[.pointer (some ⟨rb, 0, none⟩), .int .i64 q] w (Picked q rb A 0 c p w) := by
  have c0 := h.cell0
  have c1 := h.cell1
  have f1 := h.frozen
  have hnx := h.next
  have hO : OnlyIn (· = rb) w (w.setCell ⟨rb, 1, none⟩ (.int .i64 ((p : Int) + 1))) := (OnlyIn.refl (fun x => x = rb) w).set rfl 1 _
  have g0 := hnx.cell0
  go_enter Try.func47, Try.ntmps47
  go_wp2_with fail
  go_ret
  exact ⟨0, rfl, by omega, by omega, hnx, hO⟩

theorem ofInt_i64 (a : Nat) (ha : a < 9223372036854775808) : (BitVec.ofInt 64 (a : Int)).toNat = a := by
  rw [BitVec.ofInt_natCast, BitVec.toNat_ofNat]; exact Nat.mod_eq_of_lt (by omega)
theorem i64_xor_nat (a b : Nat) (ha : a < 9223372036854775808) (hb : b < 9223372036854775808) : bits .xor .i64 (a : Int) (b : Int) = ((a ^^^ b : Nat) : Int) := by
  have hx : a ^^^ b < 2 ^ 63 := Nat.xor_lt_two_pow (by omega) (by omega)
  show IntKind.i64.wrap ((BitVec.ofInt 64 (a : Int) ^^^ BitVec.ofInt 64 (b : Int)).toNat : Int) = _
  rw [BitVec.toNat_xor, ofInt_i64 a ha, ofInt_i64 b hb, IntKind.wrap_i64]
  omega

set_option maxRecDepth 100000 in
set_option maxHeartbeats 1000000 in
theorem pick_far {rb n c p : Nat} {A : Option Addr} {q : Int} {B b o : Nat} {z : Nat → Nat} {w : World} (hq : 1 ≤ q) (hq' : q ≤ 1000000) (hp : p ≤ 100000) (hn : n ≤ 2000) (h : Rd w rb A n c p) (hz : BytesAt w B A b o n z) (hB : B ≤ rb) (hlt : ¬ p < n) (h0 : 0 < n) :
    Calls Try.prog 47 #[.pointer (some ⟨rb, 0, none⟩), .int .i64 q] w (Picked q rb A n c p w) := by
  have c0 := h.cell0
  have c1 := h.cell1
  have f1 := h.frozen
  have hnx := h.next
  obtain ⟨i1, ti1, hi1⟩ : ∃ i : Nat, (p : Int).tmod (n : Int) = (i : Int) ∧ i < n := ⟨p % n, IntWalk.up_tmod rfl rfl, Nat.mod_lt _ h0⟩
  obtain ⟨u, tu, hu⟩ : ∃ u : Nat, IntKind.i64.wrap ((p : Int) * 7) = (u : Int) ∧ u ≤ 700000 := ⟨p * 7, by rw [IntWalk.i64_in _ (by omega)]; omega, by omega⟩
  obtain ⟨v, tv, hv⟩ : ∃ v : Nat, IntKind.i64.wrap ((u : Int) + 3) = (v : Int) ∧ v ≤ 700003 := ⟨u + 3, by rw [IntWalk.i64_in _ (by omega)]; omega, by omega⟩
  obtain ⟨i2, ti2, hi2⟩ : ∃ i : Nat, (v : Int).tmod (n : Int) = (i : Int) ∧ i < n := ⟨v % n, IntWalk.up_tmod rfl rfl, Nat.mod_lt _ h0⟩
  obtain ⟨rfl, hb, hz1, hz2⟩ := hz.at_ i1 hi1
  obtain ⟨_, _, hy1, hy2⟩ := hz.at_ i2 hi2
  have hO : OnlyIn (· = rb) w (w.setCell ⟨rb, 1, none⟩ (.int .i64 ((p : Int) + 1))) := (OnlyIn.refl (fun x => x = rb) w).set rfl 1 _
  have g0 := hnx.cell0
  have g1 := hnx.cell1
  have g2 : (w.setCell ⟨rb, 1, none⟩ (.int .i64 ((p : Int) + 1))).cell? ⟨b, o + i1, none⟩ = some (.int .u8 (z i1)) := by
    rw [World.cell?_setCell_other _ _ _ _ (fun e => by injection e with e1; omega)]; exact hz1
  have g3 : (w.setCell ⟨rb, 1, none⟩ (.int .i64 ((p : Int) + 1))).cell? ⟨b, o + i2, none⟩ = some (.int .u8 (z i2)) := by
    rw [World.cell?_setCell_other _ _ _ _ (fun e => by injection e with e1; omega)]; exact hy1
  have hlt' : ¬ (p : Int) < n := by omega
  have hn0 : ((n : Int) == 0) = false := by simp; omega
  have hi1' : (i1 : Int) < n := by omega
  have hi2' : (i2 : Int) < n := by omega
  have T1 := Lib.hid ti1
  have T2 := Lib.hid tu
  have T3 := Lib.hid tv
  have T4 := Lib.hid ti2
  obtain ⟨d, hd, hd1⟩ : ∃ d : Nat, (p : Int) / (n : Int) = (d : Int) ∧ d ≤ 100000 := ⟨p / n, by simp, Nat.le_trans (Nat.div_le_self _ _) hp⟩
  have T5 := Lib.hid hd
  obtain ⟨X, hX, hX1⟩ : ∃ X : Nat, ((z i1 : Nat) : Int) * 131 + ((z i2 : Nat) : Int) * 1117 + (p : Int) * 29 + (d : Int) * 53 = (X : Int) ∧ X ≤ 100000000 := ⟨z i1 * 131 + z i2 * 1117 + p * 29 + d * 53, by push_cast; rfl, by omega⟩
  have T6 := Lib.hid hX
  obtain ⟨Y, hY⟩ : ∃ Y : Nat, bits .xor .i64 (X : Int) ((X : Int) / 64) = (Y : Int) := ⟨X ^^^ (X / 64), i64_xor_nat X (X / 64) (by omega) (by omega)⟩
  have T7 := Lib.hid hY
  clear ti1 tu tv ti2 hz hz1 hy1 hd hX hY
  go_enter Try.func47, Try.ntmps47
  go_wp2_with fail
  have ti1 := T1.out
  have tu := T2.out
  have tv := T3.out
  have ti2 := T4.out
  have hd := T5.out
  go_quiet (fail)
  clear ti1 tu tv ti2 hd
  rw [T6.out]
  have hY := T7.out
  go_wp2_with fail
  go_ret
  exact ⟨_, rfl, Int.emod_nonneg _ (by omega), Int.emod_lt_of_pos _ (by omega), hnx.drewN _, hO.drewN _⟩

theorem pick_any {rb n c p : Nat} {A : Option Addr} {q : Int} {B b o : Nat} {z : Nat → Nat} {w : World} (hq : 1 ≤ q) (hq' : q ≤ 1000000) (hp : p ≤ 100000) (hn : n ≤ 2000) (h : Rd w rb A n c p) (hz : BytesAt w B A b o n z) (hB : B ≤ rb) :
    Calls Try.prog 47 #[.pointer (some ⟨rb, 0, none⟩), .int .i64 q] w (Picked q rb A n c p w) := by
  by_cases h0 : n = 0
  · subst h0; exact pick_empty hq hp h
  · by_cases hlt : p < n
    · exact pick_near hq hq' hp h hz hB hlt
    · exact pick_far hq hq' hp hn h hz hB hlt (by omega)
end Go.Proofs.Ytgjacinolenheaa
