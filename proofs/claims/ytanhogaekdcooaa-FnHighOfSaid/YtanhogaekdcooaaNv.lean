/- Lists of numbers that the laws ask: whether a number is among them, whether they go up. -/
import Derived.Test.YtanhogaekdcooaaLe
import Derived.Test.YtanhogaekdcooaaDa
import Derived.Test.YtanhogaekdcooaaWv
import Derived.BigQuiet
namespace Go.Proofs.Ytanhogaekdcooaa
open Go.RowKit Go.Deep

theorem list_rowV {base : Nat} {v : Value} {L : List Int} {w : World} (h : w.ownsRow base 3 1 v L.length ((List.range L.length).map fun i => .int .i64 (L[i]?.getD 0))) : ∃ a g cap, v = .slice a L.length cap ∧ RowAt w w.heap.size a g 0 L.length (fun i => L[i]?.getD 0) := by
  rcases owns_ways h with ⟨rfl, e⟩ | ⟨g, cap, rfl, hc⟩
  · exact ⟨none, 0, 0, by rw [e], ⟨fun c hc => absurd hc (by omega)⟩⟩
  · exact ⟨some ⟨g, 0, none⟩, g, cap, rfl, ⟨fun c hcn => ⟨rfl, World.block_lt_of_cell? _ _ (hc c hcn), by simpa using hc c hcn⟩⟩⟩

set_option maxRecDepth 100000 in
set_option maxHeartbeats 1000000 in
theorem hasB_any {base : Nat} {v : Value} {L : List Int} {x : Int} {w : World} (hn : L.length ≤ 1048576) (h : w.ownsRow base 3 1 v L.length ((List.range L.length).map fun i => .int .i64 (L[i]?.getD 0))) :
    Calls Try.prog 30 #[v, .int .i64 x] w fun e w' => e = .returned (.bool (decide (x ∈ L))) ∧ w = w' := by
  obtain ⟨a, g, cap, rfl, hR⟩ := list_rowV h
  have HF : Hid ((∀ j, j < L.length → L[j]?.getD 0 ≠ x) → false = decide (x ∈ L)) := fun e => by
    rw [eq_comm, decide_eq_false_iff_not]
    intro hx
    obtain ⟨j, hj, e2⟩ := List.getElem_of_mem hx
    exact e j hj (by simp [hj, e2])
  have HT : Hid (∀ j, j < L.length → L[j]?.getD 0 = x → true = decide (x ∈ L)) := fun j hj e => by
    rw [eq_comm, decide_eq_true_iff, ← e]
    simp [hj]
  have HR := Lib.hid hR
  clear hR h
  obtain ⟨P, hP⟩ : ∃ P, decide (x ∈ L) = P := ⟨_, rfl⟩
  rw [hP] at HF HT ⊢
  clear hP
  generalize hZ : (fun i : Nat => L[i]?.getD 0) = Z at HR
  have hZ' : ∀ i : Nat, L[i]?.getD 0 = Z i := fun i => congrFun hZ i
  simp only [hZ'] at HF HT
  generalize L.length = N at hn HR HF HT ⊢
  clear hZ hZ'
  go_enter Try.func30, Try.ntmps30
  go_wp2_with fail
  go_loopw [5] (fun i wr => ∃ k : Nat, k ≤ N ∧ i = .int .i64 k ∧ wr = w ∧ Hid (∀ j, j < k → Z j ≠ x)) (fun i _ => N - (intOf i).toNat)
  case atStart => exact ⟨0, Nat.zero_le _, rfl, rfl, fun j hj => absurd hj (Nat.not_lt_zero _)⟩
  case round =>
    obtain ⟨k, hk, rfl, rfl, hno⟩ := hrel
    by_cases hlt : k < N
    · have hkn : (k : Int) < N := by omega
      obtain ⟨rfl, _, hcell⟩ := HR.out.row k hlt
      rw [Nat.zero_add] at hcell
      by_cases e : Z k = x
      · have e1 : (Z k == x) = true := by simp [e]
        have HE := Lib.hid (HT.out k hlt e)
        clear e
        go_wp2_with fail
        go_ret
        exact ⟨ret_bool HE.out, rfl⟩
      · have e1 : (Z k == x) = false := by simp [e]
        have HE : Hid (∀ j, j < k + 1 → Z j ≠ x) := fun j hj => by
          by_cases q : j = k
          · rw [q]; exact e
          · exact hno.out j (by omega)
        clear e
        go_wp2_with fail
        go_roundw
        case rel => exact ⟨k + 1, by omega, by go_num, trivial, HE⟩
        case measure => simp [intOf]; omega
    · have hkn : ¬ (k : Int) < N := by omega
      have HE := Lib.hid (HF.out fun j hj => hno.out j (by omega))
      go_wp2_with fail
      go_ret
      exact ⟨ret_bool HE.out, rfl⟩

end Go.Proofs.Ytanhogaekdcooaa
