/- The walks of the laws' marks: numbers written into rows of the call's own, and found there again. -/
import Derived.Test.YtijcacibofpnpaaWq
namespace Go.Proofs.Ytijcacibofpnpaa
open Go.RowKit Go.Deep

/-- From w to w' only blocks of S have turned; no block has come. -/
structure OnlyIn (S : Nat → Prop) (w w' : World) : Prop where
  os : w'.os = w.os
  tape : w'.tape = w.tape
  output : w'.output = w.output
  size : w'.heap.size = w.heap.size
  block : ∀ k, ¬ S k → w'.heap[k]? = w.heap[k]?
theorem OnlyIn.refl (S : Nat → Prop) (w : World) : OnlyIn S w w := ⟨rfl, rfl, rfl, rfl, fun _ _ => rfl⟩
theorem OnlyIn.trans {S : Nat → Prop} {a b c : World} (h : OnlyIn S a b) (k : OnlyIn S b c) : OnlyIn S a c :=
  ⟨k.os.trans h.os, k.tape.trans h.tape, k.output.trans h.output, k.size.trans h.size, fun i hi => (k.block i hi).trans (h.block i hi)⟩
theorem OnlyIn.mono {S T : Nat → Prop} {a b : World} (h : OnlyIn S a b) (hs : ∀ k, S k → T k) : OnlyIn T a b :=
  ⟨h.os, h.tape, h.output, h.size, fun i hi => h.block i fun hs' => hi (hs i hs')⟩
theorem OnlyIn.below {S : Nat → Prop} {a b : World} {B : Nat} (h : OnlyIn S a b) (hs : ∀ k, S k → B ≤ k) : Below B a b :=
  ⟨h.os, h.tape, h.output, Nat.le_of_eq h.size.symm, fun k hk => h.block k fun hsk => by have := hs k hsk; omega⟩
theorem OnlyIn.set {S : Nat → Prop} {a w : World} (h : OnlyIn S a w) {b : Nat} (hb : S b) (i : Nat) (v : Value) : OnlyIn S a (w.setCell ⟨b, i, none⟩ v) :=
  h.trans ⟨rfl, rfl, rfl, by simp, fun k hk => Below.heap_setCell _ _ _ _ (by rintro rfl; exact hk hb)⟩
theorem OwnMat.only {S : Nat → Prop} {w w' : World} {b : Nat} {G : Nat → Nat} {m : Mx} (h : OwnMat w b G m) (k : OnlyIn S w w') (hb : ¬ S b) (hG : ∀ r, r < m.n → ¬ S (G r)) : OwnMat w' b G m :=
  ⟨h.top.of_block (k.block _ hb), fun r hr => (h.row r hr).of_block (k.block _ (hG r hr))⟩
theorem OwnMat.below {w w' : World} {b B : Nat} {G : Nat → Nat} {m : Mx} (h : OwnMat w b G m) (k : Below B w w') (hb : b < B) (hG : ∀ r, r < m.n → G r < B) : OwnMat w' b G m :=
  ⟨h.top.of_block (k.block _ hb), fun r hr => (h.row r hr).of_block (k.block _ (hG r hr))⟩

set_option maxHeartbeats 400000 in
theorem markIntS_own {b n cap : Nat} {f : Nat → Value} {k0 : Int} {w : World} (hn : n ≤ 1048576) (h0 : 0 ≤ k0) (h1 : k0 ≤ 1099511627776) (h : w.rowIs b 3 n f) (hf : ∀ i, i < n → ∃ z, f i = .int .i64 z) :
    Calls Try.prog 41 #[.slice (some ⟨b, 0, none⟩) n cap, .int .i64 k0] w fun e w' => e = .returned (.int .i64 (k0 + n)) ∧ OnlyIn (· = b) w w' ∧ w'.rowIs b 3 n (fun i => .int .i64 (k0 + i)) := by
  go_enter Try.func41, Try.ntmps41
  go_wp2
  go_loopw [1, 5] (fun t i wr => ∃ k : Nat, k ≤ n ∧ i = .int .i64 k ∧ t = .int .i64 (k0 + k) ∧ OnlyIn (· = b) w wr ∧ wr.rowIs b 3 n (fun i => if i < k then .int .i64 (k0 + i) else f i)) (fun _ i _ => n - (intOf i).toNat)
  case atStart => exact ⟨0, Nat.zero_le _, rfl, by simp, OnlyIn.refl _ _, h.congr (fun i _ => by simp)⟩
  case round =>
    obtain ⟨k, hk, rfl, rfl, hO, hR⟩ := hrel
    by_cases hlt : k < n
    · obtain ⟨z, hz⟩ := hf k hlt
      have g4 := hR.cell hlt
      rw [if_neg (by omega), hz] at g4
      have g5 : wr.frozen? ⟨b, k, none⟩ = false := hR.frozen k
      have hlt' : (k : Int) < n := by omega
      have HF := Lib.hid hf
      clear hz hf
      go_wp2
      go_roundw
      case rel =>
        refine ⟨k + 1, by omega, by go_num, by congr 1; omega, hO.set rfl _ _, (hR.set k _).congr (fun i _ => ?_)⟩
        by_cases e : i = k
        · subst e; simp
        · rw [if_neg e]
          by_cases hi : i < k
          · rw [if_pos hi, if_pos (by omega)]
          · rw [if_neg hi, if_neg (by omega)]
      case measure => simp [intOf]; omega
    · have hlt' : ¬ (k : Int) < n := by omega
      have hkn : n = k := by omega
      have HK : Hid (n = k) := hkn
      clear hkn hf
      go_wp2
      go_ret
      exact ⟨ret_int (by have := HK.out; omega), hO, hR.congr (fun i hi => by rw [if_pos (by have := HK.out; omega)])⟩

set_option maxHeartbeats 400000 in
theorem heldIntS_own {B : Nat} {a : Option Addr} {g o n cap : Nat} {k0 : Int} {w : World} (hn : n ≤ 1048576) (h0 : 0 ≤ k0) (h1 : k0 ≤ 1099511627776) (h : RowAt w B a g o n (fun i => k0 + i)) :
    Calls Try.prog 42 #[.slice a n cap, .int .i64 k0] w fun e w' => e = .returned (.int .i64 (k0 + n)) ∧ w = w' := by
  go_enter Try.func42, Try.ntmps42
  go_wp2
  go_loop [1, 5] (fun t i => ∃ k : Nat, k ≤ n ∧ i = .int .i64 k ∧ t = .int .i64 (k0 + k)) (fun _ i => n - (intOf i).toNat)
  case atStart => exact ⟨0, Nat.zero_le _, rfl, by simp⟩
  case round =>
    obtain ⟨k, hk, rfl, rfl⟩ := hrel
    by_cases hlt : k < n
    · obtain ⟨rfl, _, c1⟩ := h.row k hlt
      have hlt' : (k : Int) < n := by omega
      go_wp2
      go_round
      case rel => exact ⟨k + 1, by omega, by go_num, by congr 1; omega⟩
      case measure => simp [intOf]; omega
    · have hlt' : ¬ (k : Int) < n := by omega
      have hkn : n = k := by omega
      have HK : Hid (n = k) := hkn
      clear hkn
      go_wp2
      go_ret
      exact ⟨ret_int (by have := HK.out; omega), rfl⟩

/-- How many numbers lie in the first r rows. -/
def offs (L : Nat → Nat) : Nat → Nat
  | 0 => 0
  | r + 1 => offs L r + L r
def markOf (m : Mx) : Mx := ⟨m.n, m.L, fun r c => ((1 + offs m.L r + c : Nat) : Int)⟩
theorem offs_le {L : Nat → Nat} {n : Nat} (h : ∀ r, r < n → L r ≤ 1048576) : ∀ r, r ≤ n → offs L r ≤ r * 1048576 := by
  intro r
  induction r with
  | zero => intro _; simp [offs]
  | succ r ih =>
    intro hr
    have h1 := ih (by omega)
    have h2 := h r (by omega)
    simp only [offs]
    omega

set_option maxHeartbeats 400000 in
theorem markIntSS_own {b cap : Nat} {G : Nat → Nat} {m : Mx} {w : World} (hn : m.n ≤ 1048576) (hL : ∀ r, r < m.n → m.L r ≤ 1048576) (h : OwnMat w b G m) (hG : ∀ r s, r < m.n → s < m.n → G r = G s → r = s) (hb : ∀ r, r < m.n → G r ≠ b) :
    Calls Try.prog 70 #[.slice (some ⟨b, 0, none⟩) m.n cap, .int .i64 1] w fun e w' => e = .returned (.int .i64 ((1 + offs m.L m.n : Nat) : Int)) ∧ OnlyIn (fun k => ∃ r, r < m.n ∧ k = G r) w w' ∧ OwnMat w' b G (markOf m) := by
  go_enter Try.func70, Try.ntmps70
  go_wp2
  go_loopw [1, 5] (fun t i wr => ∃ k : Nat, k ≤ m.n ∧ i = .int .i64 k ∧ t = .int .i64 ((1 + offs m.L k : Nat) : Int) ∧ OnlyIn (fun k => ∃ r, r < m.n ∧ k = G r) w wr ∧
    wr.rowIs b 24 m.n (fun r => .slice (some ⟨G r, 0, none⟩) (m.L r) (m.L r)) ∧ Hid (∀ r, r < m.n → wr.rowIs (G r) 3 (m.L r) (fun c => if r < k then .int .i64 ((1 + offs m.L r + c : Nat) : Int) else .int .i64 (m.Z r c)))) (fun _ i _ => m.n - (intOf i).toNat)
  case atStart => exact ⟨0, Nat.zero_le _, rfl, rfl, OnlyIn.refl _ _, h.top, fun r hr => (h.row r hr).congr (fun c _ => by simp)⟩
  case round =>
    obtain ⟨k, hk, rfl, rfl, hO, hT, hR⟩ := hrel
    by_cases hlt : k < m.n
    · have g4 := hT.cell hlt
      have hlt' : (k : Int) < m.n := by omega
      have hLk := hL k hlt
      have hoff := offs_le hL k (by omega)
      have hrow := Lib.hid ((hR.out k hlt).congr (g := fun c => .int .i64 (m.Z k c)) (fun c _ => by rw [if_neg (by omega)]))
      have HLL := Lib.hid hL
      have HGG := Lib.hid hG
      have HBB := Lib.hid hb
      clear h hL hG hb
      go_wp2_with fail
      go_at_call 41
      refine (markIntS_own hLk (by omega) (by omega) hrow.out (fun i _ => ⟨_, rfl⟩)).mono ?_
      rintro e w1 ⟨rfl, hO1, hR1⟩
      have hT1 := hT.of_block (hO1.block b (fun e => HBB.out k hlt e.symm))
      have hO2 := hO.trans (hO1.mono fun j hj => ⟨k, hlt, hj⟩)
      have hR2 : Hid (∀ r, r < m.n → w1.rowIs (G r) 3 (m.L r) (fun c => if r < k + 1 then .int .i64 ((1 + offs m.L r + c : Nat) : Int) else .int .i64 (m.Z r c))) := fun r hr => by
        by_cases e : r = k
        · subst e
          exact hR1.congr (fun c _ => by rw [if_pos (by omega)]; congr 1)
        · refine ((hR.out r hr).of_block (hO1.block _ (fun e' => e (HGG.out r k hr hlt e')))).congr (fun c _ => ?_)
          by_cases h1 : r < k
          · rw [if_pos h1, if_pos (by omega)]
          · rw [if_neg h1, if_neg (by omega)]
      clear hR1 hO1 hT hO
      go_wp2_with fail
      go_roundw
      case rel => exact ⟨k + 1, by omega, by go_num, by congr 1; simp only [offs]; omega, hO2, hT1, hR2⟩
      case measure => simp [intOf]; omega
    · have hlt' : ¬ (k : Int) < m.n := by omega
      have HK : Hid (k = m.n) := by show _ = _; omega
      clear h hL hG hb
      go_wp2_with fail
      go_ret
      exact ⟨ret_int (by rw [HK.out]), hO, hT, fun r hr => (hR.out r hr).congr (fun c _ => by rw [if_pos (by have := HK.out; have : r < m.n := hr; omega)]; rfl)⟩

end Go.Proofs.Ytijcacibofpnpaa
