/- The walks of the laws' marks: numbers written into rows of the call's own, and found there again. -/
import Derived.Test.YtijcacibofpnpaaZWq
namespace Go.Proofs.Ytijcacibofpnpaa
open Go.RowKit Go.Deep

/-- From w to w' only blocks of S have turned; no block has come. -/
structure OnlyIn (S : Nat → Prop) (w w' : World) : Prop where
  os : w'.os = w.os
  tape : w'.tape = w.tape
  output : w'.output = w.output
  size : w'.heap.size = w.heap.size
  block : ∀ k, ¬ S k → w'.heap[k]? = w.heap[k]?
theorem OnlyIn.refl (S : Nat → Prop) (w : World) : OnlyIn S w w := ⟨rfl, rfl, rfl, rfl, fun _ _ => rfl⟩
theorem OnlyIn.trans {S : Nat → Prop} {a b c : World} (h : OnlyIn S a b) (k : OnlyIn S b c) : OnlyIn S a c :=
  ⟨k.os.trans h.os, k.tape.trans h.tape, k.output.trans h.output, k.size.trans h.size, fun i hi => (k.block i hi).trans (h.block i hi)⟩
theorem OnlyIn.mono {S T : Nat → Prop} {a b : World} (h : OnlyIn S a b) (hs : ∀ k, S k → T k) : OnlyIn T a b :=
  ⟨h.os, h.tape, h.output, h.size, fun i hi => h.block i fun hs' => hi (hs i hs')⟩
theorem OnlyIn.below {S : Nat → Prop} {a b : World} {B : Nat} (h : OnlyIn S a b) (hs : ∀ k, S k → B ≤ k) : Below B a b :=
  ⟨h.os, h.tape, h.output, Nat.le_of_eq h.size.symm, fun k hk => h.block k fun hsk => by have := hs k hsk; omega⟩
theorem OnlyIn.set {S : Nat → Prop} {a w : World} (h : OnlyIn S a w) {b : Nat} (hb : S b) (i : Nat) (v : Value) : OnlyIn S a (w.setCell ⟨b, i, none⟩ v) :=
  h.trans ⟨rfl, rfl, rfl, by simp, fun k hk => Below.heap_setCell _ _ _ _ (by rintro rfl; exact hk hb)⟩
theorem OwnMat.only {S : Nat → Prop} {w w' : World} {b : Nat} {G : Nat → Nat} {m : Mx} (h : OwnMat w b G m) (k : OnlyIn S w w') (hb : ¬ S b) (hG : ∀ r, r < m.n → ¬ S (G r)) : OwnMat w' b G m :=
  ⟨h.top.of_block (k.block _ hb), fun r hr => (h.row r hr).of_block (k.block _ (hG r hr))⟩
theorem OwnMat.below {w w' : World} {b B : Nat} {G : Nat → Nat} {m : Mx} (h : OwnMat w b G m) (k : Below B w w') (hb : b < B) (hG : ∀ r, r < m.n → G r < B) : OwnMat w' b G m :=
  ⟨h.top.of_block (k.block _ hb), fun r hr => (h.row r hr).of_block (k.block _ (hG r hr))⟩

end Go.Proofs.Ytijcacibofpnpaa
