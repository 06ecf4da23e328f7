/- Lists of numbers that the laws ask: whether a number is among them, whether they go up. -/
import Derived.Test.YtkfinkhdfbogjaaLe
import Derived.Test.YtkfinkhdfbogjaaDa
import Derived.Test.YtkfinkhdfbogjaaWv
import Derived.BigQuiet
namespace Go.Proofs.Ytkfinkhdfbogjaa
open Go.RowKit Go.Deep

theorem list_rowV {base : Nat} {v : Value} {L : List Int} {w : World} (h : w.ownsRow base 3 1 v L.length ((List.range L.length).map fun i => .int .i64 (L[i]?.getD 0))) : ∃ a g cap, v = .slice a L.length cap ∧ RowAt w w.heap.size a g 0 L.length (fun i => L[i]?.getD 0) := by
  rcases owns_ways h with ⟨rfl, e⟩ | ⟨g, cap, rfl, hc⟩
  · exact ⟨none, 0, 0, by rw [e], ⟨fun c hc => absurd hc (by omega)⟩⟩
  · exact ⟨some ⟨g, 0, none⟩, g, cap, rfl, ⟨fun c hcn => ⟨rfl, World.block_lt_of_cell? _ _ (hc c hcn), by simpa using hc c hcn⟩⟩⟩

set_option maxRecDepth 100000 in
set_option maxHeartbeats 1000000 in
theorem hasB_any {base : Nat} {v : Value} {L : List Int} {x : Int} {w : World} (hn : L.length ≤ 1048576) (h : w.ownsRow base 3 1 v L.length ((List.range L.length).map fun i => .int .i64 (L[i]?.getD 0))) :
    Calls Try.prog 32 #[v, .int .i64 x] w fun e w' => e = .returned (.bool (decide (x ∈ L))) ∧ w = w' := by
  obtain ⟨a, g, cap, rfl, hR⟩ := list_rowV h
  have HF : Hid ((∀ j, j < L.length → L[j]?.getD 0 ≠ x) → false = decide (x ∈ L)) := fun e => by
    rw [eq_comm, decide_eq_false_iff_not]
    intro hx
    obtain ⟨j, hj, e2⟩ := List.getElem_of_mem hx
    exact e j hj (by simp [hj, e2])
  have HT : Hid (∀ j, j < L.length → L[j]?.getD 0 = x → true = decide (x ∈ L)) := fun j hj e => by
    rw [eq_comm, decide_eq_true_iff, ← e]
    simp [hj]
  have HR := Lib.hid hR
  clear hR h
  obtain ⟨P, hP⟩ : ∃ P, decide (x ∈ L) = P := ⟨_, rfl⟩
  rw [hP] at HF HT ⊢
  clear hP
  generalize hZ : (fun i : Nat => L[i]?.getD 0) = Z at HR
  have hZ' : ∀ i : Nat, L[i]?.getD 0 = Z i := fun i => congrFun hZ i
  simp only [hZ'] at HF HT
  generalize L.length = N at hn HR HF HT ⊢
  clear hZ hZ'
  go_enter Try.func32, Try.ntmps32
  go_wp2_with fail
  go_loopw [5] (fun i wr => ∃ k : Nat, k ≤ N ∧ i = .int .i64 k ∧ wr = w ∧ Hid (∀ j, j < k → Z j ≠ x)) (fun i _ => N - (intOf i).toNat)
  case atStart => exact ⟨0, Nat.zero_le _, rfl, rfl, fun j hj => absurd hj (Nat.not_lt_zero _)⟩
  case round =>
    obtain ⟨k, hk, rfl, rfl, hno⟩ := hrel
    by_cases hlt : k < N
    · have hkn : (k : Int) < N := by omega
      obtain ⟨rfl, _, hcell⟩ := HR.out.row k hlt
      rw [Nat.zero_add] at hcell
      by_cases e : Z k = x
      · have e1 : (Z k == x) = true := by simp [e]
        have HE := Lib.hid (HT.out k hlt e)
        clear e
        go_wp2_with fail
        go_ret
        exact ⟨ret_bool HE.out, rfl⟩
      · have e1 : (Z k == x) = false := by simp [e]
        have HE : Hid (∀ j, j < k + 1 → Z j ≠ x) := fun j hj => by
          by_cases q : j = k
          · rw [q]; exact e
          · exact hno.out j (by omega)
        clear e
        go_wp2_with fail
        go_roundw
        case rel => exact ⟨k + 1, by omega, by go_num, trivial, HE⟩
        case measure => simp [intOf]; omega
    · have hkn : ¬ (k : Int) < N := by omega
      have HE := Lib.hid (HF.out fun j hj => hno.out j (by omega))
      go_wp2_with fail
      go_ret
      exact ⟨ret_bool HE.out, rfl⟩

set_option maxHeartbeats 400000 in
theorem ascend_listV {base : Nat} {v : Value} {L : List Int} {w : World} (hn : L.length ≤ 5000) (h : w.ownsRow base 3 1 v L.length ((List.range L.length).map fun i => .int .i64 (L[i]?.getD 0))) (hup : L.Pairwise (· < ·)) :
    Calls Try.prog 33 #[v] w fun e w' => e = .returned (.bool true) ∧ Drew w w' := by
  obtain ⟨a, g, cap, rfl, hR⟩ := list_rowV h
  have HU : Hid (∀ j, j + 1 < L.length → L[j]?.getD 0 < L[j + 1]?.getD 0) := fun j hj => by
    rw [List.getElem?_eq_getElem (by omega), List.getElem?_eq_getElem hj]
    exact List.pairwise_iff_getElem.1 hup j (j + 1) (by omega) hj (by omega)
  clear hup h
  generalize hN : L.length = N at hn hR HU
  clear hN
  go_enter Try.func33, Try.ntmps33
  go_wp2_with fail
  go_loopw [3] (fun i wr => ∃ k : Nat, 1 ≤ k ∧ i = .int .i64 k ∧ Drew w wr) (fun i _ => N + 1 - (intOf i).toNat)
  case atStart => exact ⟨1, Nat.le_refl _, rfl, Drew.refl _⟩
  case round =>
    obtain ⟨k, hk, rfl, hW⟩ := hrel
    by_cases hlt : k < N
    · have hlt' : (k : Int) < N := by omega
      obtain ⟨k', rfl⟩ : ∃ k', k = k' + 1 := ⟨k - 1, by omega⟩
      obtain ⟨_, _, c1⟩ := (hW.row hR).row k' (by omega)
      obtain ⟨rfl, _, c2⟩ := (hW.row hR).row (k' + 1) hlt
      rw [Nat.zero_add] at c1 c2
      have e1 : ((k' + 1 : Nat) : Int) - 1 = (k' : Int) := by omega
      have hu := HU.out k' hlt
      obtain ⟨A1, hA1⟩ : ∃ A1, L[k']?.getD 0 = A1 := ⟨_, rfl⟩
      obtain ⟨A2, hA2⟩ : ∃ A2, L[k' + 1]?.getD 0 = A2 := ⟨_, rfl⟩
      rw [hA1, hA2] at hu
      rw [hA1] at c1
      rw [hA2] at c2
      have hu' : ¬ A2 ≤ A1 := by omega
      clear hR hA1 hA2
      go_wp2
      go_quiet (fail)
      go_wp2
      go_roundw
      case rel => exact ⟨k' + 2, by omega, by congr 1, hW.drewN _⟩
      case measure => simp [intOf]; omega
    · have hlt' : ¬ (k : Int) < N := by omega
      go_wp2_with fail
      go_ret
      exact ⟨rfl, hW⟩
end Go.Proofs.Ytkfinkhdfbogjaa
