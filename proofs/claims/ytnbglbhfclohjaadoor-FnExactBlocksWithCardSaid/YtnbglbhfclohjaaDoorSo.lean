/- What is known of a list's beginning and the element behind it. -/
namespace Go.Proofs.YtnbglbhfclohjaaDoor

theorem pre_facts {pre L : List Nat} {x : Nat} (h : pre ++ [x] <+: L) : x ∈ L ∧ pre.length < L.length := by
  have h1 := h.length_le
  rw [List.length_append, List.length_singleton] at h1
  exact ⟨h.subset (by simp), by omega⟩
end Go.Proofs.YtnbglbhfclohjaaDoor
