/- The law on OrderOk against the reference, walked at whatever rows. The law on AtomsOf against the reference, walked at whatever rows. -/
import Derived.Test.YtojcgmgponnlpaaWa
import Derived.Test.YtojcgmgponnlpaaWc
import Derived.Test.YtojcgmgponnlpaaWd
import Derived.Test.YtojcgmgponnlpaaWv
namespace Go.Proofs.Ytojcgmgponnlpaa
open Go.RowKit Go.Deep

/-- An argument of rows as it comes in: within Go's lengths. -/
structure ArgAt (w : World) (a : Option Addr) (l : Lay) (m : Mx) : Prop where
  mat : MatAt w w.heap.size a l m
  hn : m.n ≤ 9223372036854775807
  hL : ∀ r, r < m.n → m.L r ≤ 9223372036854775807

theorem ArgAt.step {w w' : World} {a : Option Addr} {l : Lay} {m : Mx} (h : ArgAt w a l m) (hb : Below w.heap.size w w') : ArgAt w' a l m :=
  ⟨(h.mat.below hb).more hb.size, h.hn, h.hL⟩
theorem OutS.arg {w wr : World} {m : Mx} (h : OutS w wr m m.n) (hn : m.n ≤ 9223372036854775807) (hL : ∀ r, r < m.n → m.L r ≤ 9223372036854775807) : ArgAt wr (some ⟨w.heap.size, 0, none⟩) (freshLay w.heap.size m) m :=
  ⟨h.mat, hn, hL⟩

end Go.Proofs.Ytojcgmgponnlpaa
namespace Go.Proofs.Ytojcgmgponnlpaa
open Go.RowKit Go.Deep

theorem atomsV_len (m : Mx) : (atomsV m).length ≤ m.n := by
  by_cases h : orderB m = true ∧ hasI (leastI m) = true
  · rw [atomsV_yes h.1 h.2]; exact atomsTo_len m m.n
  · rw [atomsV_no h]; exact Nat.zero_le _
theorem OutS.own {w wr : World} {m : Mx} (h : OutS w wr m m.n) : OwnMat wr w.heap.size (fun r => w.heap.size + 1 + r) m :=
  ⟨h.top.congr (fun r hr => by rw [if_pos hr]), h.row⟩
theorem Drew.own {w w' : World} (hw : Drew w w') {b : Nat} {G : Nat → Nat} {m : Mx} (h : OwnMat w b G m) : OwnMat w' b G m := by
  obtain ⟨d, rfl⟩ := hw
  exact ⟨h.top, h.row⟩
theorem Drew.list {w w' : World} (hw : Drew w w') {base : Nat} {e : TypeId} {size n : Nat} {v : Value} {xs : List Value} (h : w.ownsRow base e size v n xs) : w'.ownsRow base e size v n xs := by
  obtain ⟨d, rfl⟩ := hw
  exact h
/-- What lay below block B lies as it lay. -/
theorem list_below {w w' : World} {base B : Nat} {e : TypeId} {size n : Nat} {v : Value} {xs : List Value} (h : w.ownsRow base e size v n xs) (hb : Below B w w') (hB : ∀ k, v.ownBlock = some k → k < B) : w'.ownsRow base e size v n xs := by
  refine ⟨h.1, ?_⟩
  rcases h.2 with h' | ⟨g, cap, cur, h1, h2, h3, h4⟩
  · exact .inl h'
  · exact .inr ⟨g, cap, cur, h1, h2, (hb.block g (hB g (by rw [h1]; rfl))).trans h3, h4⟩

end Go.Proofs.Ytojcgmgponnlpaa
