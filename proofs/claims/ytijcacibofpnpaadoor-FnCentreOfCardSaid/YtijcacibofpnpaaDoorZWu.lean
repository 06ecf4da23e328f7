/- The walks of the laws' marks: numbers written into rows of the call's own, and found there again. -/
import Derived.Test.YtijcacibofpnpaaDoorZWq
import Derived.Test.YtijcacibofpnpaaDoorZWj
namespace Go.Proofs.YtijcacibofpnpaaDoor
open Go.RowKit Go.Deep

/-- From w to w' only blocks of S have turned; no block has come. -/
structure OnlyIn (S : Nat → Prop) (w w' : World) : Prop where
  os : w'.os = w.os
  tape : w'.tape = w.tape
  output : w'.output = w.output
  size : w'.heap.size = w.heap.size
  block : ∀ k, ¬ S k → w'.heap[k]? = w.heap[k]?
theorem OnlyIn.refl (S : Nat → Prop) (w : World) : OnlyIn S w w := ⟨rfl, rfl, rfl, rfl, fun _ _ => rfl⟩
theorem OnlyIn.trans {S : Nat → Prop} {a b c : World} (h : OnlyIn S a b) (k : OnlyIn S b c) : OnlyIn S a c :=
  ⟨k.os.trans h.os, k.tape.trans h.tape, k.output.trans h.output, k.size.trans h.size, fun i hi => (k.block i hi).trans (h.block i hi)⟩
theorem OnlyIn.mono {S T : Nat → Prop} {a b : World} (h : OnlyIn S a b) (hs : ∀ k, S k → T k) : OnlyIn T a b :=
  ⟨h.os, h.tape, h.output, h.size, fun i hi => h.block i fun hs' => hi (hs i hs')⟩
theorem OnlyIn.below {S : Nat → Prop} {a b : World} {B : Nat} (h : OnlyIn S a b) (hs : ∀ k, S k → B ≤ k) : Below B a b :=
  ⟨h.os, h.tape, h.output, Nat.le_of_eq h.size.symm, fun k hk => h.block k fun hsk => by have := hs k hsk; omega⟩
theorem OnlyIn.set {S : Nat → Prop} {a w : World} (h : OnlyIn S a w) {b : Nat} (hb : S b) (i : Nat) (v : Value) : OnlyIn S a (w.setCell ⟨b, i, none⟩ v) :=
  h.trans ⟨rfl, rfl, rfl, by simp, fun k hk => Below.heap_setCell _ _ _ _ (by rintro rfl; exact hk hb)⟩
theorem OwnMat.only {S : Nat → Prop} {w w' : World} {b : Nat} {G : Nat → Nat} {m : Mx} (h : OwnMat w b G m) (k : OnlyIn S w w') (hb : ¬ S b) (hG : ∀ r, r < m.n → ¬ S (G r)) : OwnMat w' b G m :=
  ⟨h.top.of_block (k.block _ hb), fun r hr => (h.row r hr).of_block (k.block _ (hG r hr))⟩
theorem OwnMat.below {w w' : World} {b B : Nat} {G : Nat → Nat} {m : Mx} (h : OwnMat w b G m) (k : Below B w w') (hb : b < B) (hG : ∀ r, r < m.n → G r < B) : OwnMat w' b G m :=
  ⟨h.top.of_block (k.block _ hb), fun r hr => (h.row r hr).of_block (k.block _ (hG r hr))⟩

end Go.Proofs.YtijcacibofpnpaaDoor

/- The walks of the reference's LeastOf. -/
namespace Go.Proofs.YtijcacibofpnpaaDoor
open Go.RowKit Go.Deep

set_option maxRecDepth 100000 in
set_option maxHeartbeats 1000000 in
theorem spec_LeastOf {B : Nat} {sa : Option Addr} {l : Lay} {m : Mx} {w : World} (hn : m.n ≤ 9223372036854775807) (hL : ∀ r, r < m.n → m.L r ≤ 9223372036854775807) (h : MatAt w B sa l m) :
    Calls Tryd.prog 47 #[.slice sa m.n l.cap] w fun e w' => e = .returned (.tuple #[.int .i64 (leastV m), .bool (hasI (leastV m))]) ∧ w = w' := by
  have HL := Lib.hid hL
  clear hL
  cases ho : orderB m with
  | false =>
    have HR : Hid (-1 = leastV m) := (leastV_no ho).symm
    have HO := Lib.hid ho
    clear ho
    go_enter Tryd.func47, Tryd.ntmps47
    go_wp2_with fail
    go_loop [4] (fun i => i = .int .i64 0) (fun _ => 0)
    case atStart => exact rfl
    case round =>
      obtain rfl := hrel
      by_cases h0 : 0 < m.n
      · have h0' : (0 : Int) < m.n := by omega
        go_wp2_with fail
        go_at_call 65
        refine (spec_OrderOk B sa l m _ hn HL.out h).mono ?_
        rintro e w1 ⟨rfl, rfl⟩
        rw [HO.out]
        go_wp2_with fail
        go_ret2
        exact ⟨ret_two HR.out (by rw [← HR.out]; rfl), rfl⟩
      · have h0' : ¬ (0 : Int) < m.n := by omega
        go_wp2_with fail
        go_ret2
        exact ⟨ret_two HR.out (by rw [← HR.out]; rfl), rfl⟩
  | true =>
    have hord := orderB_is ho
    have hhi := hord.top
    have hs := Lib.hid hord.sq
    have HV : Hid (leastI m = leastV m) := (leastV_yes ho).symm
    have HO := Lib.hid ho
    clear ho hord
    go_enter Tryd.func47, Tryd.ntmps47
    go_wp2_with fail
    go_loop [4] (fun i => ∃ k : Nat, k ≤ m.n ∧ i = .int .i64 k ∧ Hid (∀ c, c < k → belowAllB m c = false)) (fun i => m.n - (intOf i).toNat)
    case atStart => exact ⟨0, Nat.zero_le _, rfl, fun r hr => absurd hr (Nat.not_lt_zero _)⟩
    case round =>
      obtain ⟨k, hk, rfl, hR⟩ := hrel
      by_cases hlt : k < m.n
      · have hlt' : (k : Int) < m.n := by omega
        go_wp2_with fail
        go_at_call 65
        refine (spec_OrderOk B sa l m _ hn HL.out h).mono ?_
        rintro e w1 ⟨rfl, rfl⟩
        rw [HO.out]
        go_wp2_with fail
        go_loop [5, 6] (fun t i => ∃ (j : Nat) (q : Bool), j ≤ m.n ∧ i = .int .i64 j ∧ t = .bool q ∧ Hid (q = true ↔ ∀ c, c < j → leB m k c = true)) (fun _ i => m.n - (intOf i).toNat)
        case atStart => exact ⟨0, true, Nat.zero_le _, rfl, rfl, ⟨fun _ r hr => absurd hr (Nat.not_lt_zero _), fun _ => rfl⟩⟩
        case round =>
          obtain ⟨j, q, hj, rfl, rfl, hQ⟩ := hrel
          by_cases hjt : j < m.n
          · have hjt' : (j : Int) < m.n := by omega
            obtain ⟨rfl, t1, t2⟩ := h.sq hs.out hlt hjt
            have H0 := Lib.hid h
            clear h
            cases q with
            | false =>
              go_wp2_with fail
              go_round
              case rel => exact ⟨j + 1, false, by omega, by go_num, rfl, ⟨fun e => (by cases e), fun hh => hQ.out.2 fun c hc => hh c (by omega)⟩⟩
              case measure => simp [intOf]; omega
            | true =>
              rcases leB_cases hs.out hlt hjt with ⟨lb, zb⟩ | ⟨lb, zb⟩
              · rw [zb] at t2
                have LB := Lib.hid lb
                clear lb zb
                go_wp2_with fail
                go_round
                case rel => exact ⟨j + 1, true, by omega, by go_num, rfl, ⟨fun _ c hc => by
                  by_cases e : c = j
                  · subst e; exact LB.out
                  · exact hQ.out.1 rfl c (by omega), fun _ => rfl⟩⟩
                case measure => simp [intOf]; omega
              · rw [zb] at t2
                have LB := Lib.hid lb
                clear lb zb
                go_wp2_with fail
                go_round
                case rel => exact ⟨j + 1, false, by omega, by go_num, rfl, ⟨fun e => (by cases e), fun hh => by have := hh j (by omega); rw [LB.out] at this; cases this⟩⟩
                case measure => simp [intOf]; omega
          · have hjt' : ¬ (j : Int) < m.n := by omega
            cases q with
            | false =>
              have HF : Hid (belowAllB m k = false) := by
                show _ = _
                cases hb : belowAllB m k with
                | false => rfl
                | true => exact (hQ.out.2 fun c hc => allB_is hb c (by omega)).symm
              go_wp2_with fail
              go_round
              case rel => exact ⟨k + 1, by omega, by go_num, fun c hc => by
                by_cases e : c = k
                · subst e; exact HF.out
                · exact hR.out c (by omega)⟩
              case measure => simp [intOf]; omega
            | true =>
              have HH : Hid (leastI m = (k : Int)) := firstI_hit hlt hR.out (allB_true fun c hc => hQ.out.1 rfl c (by omega))
              go_wp2_with fail
              go_ret2
              exact ⟨ret_two (HH.out.symm.trans HV.out) (by rw [← HV.out, HH.out, hasI_nat]), rfl⟩
      · have hlt' : ¬ (k : Int) < m.n := by omega
        have HH : Hid (leastI m = -1) := firstI_none fun c hc => hR.out c (by omega)
        go_wp2_with fail
        go_ret2
        exact ⟨ret_two (HH.out.symm.trans HV.out) (by rw [← HV.out, HH.out]; rfl), rfl⟩
end Go.Proofs.YtijcacibofpnpaaDoor
