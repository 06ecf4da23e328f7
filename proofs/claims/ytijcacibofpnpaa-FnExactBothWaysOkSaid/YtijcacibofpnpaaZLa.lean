/- The law on OrderOk against the reference, walked at whatever rows. The law on AtomsOf against the reference, walked at whatever rows. -/
import Derived.Test.YtijcacibofpnpaaZWb
import Derived.Test.YtijcacibofpnpaaZWc
import Derived.Test.YtijcacibofpnpaaZWd
import Derived.Test.YtijcacibofpnpaaZWv
namespace Go.Proofs.Ytijcacibofpnpaa
open Go.RowKit Go.Deep

/-- An argument of rows as it comes in: within Go's lengths. -/
structure ArgAt (w : World) (a : Option Addr) (l : Lay) (m : Mx) : Prop where
  mat : MatAt w w.heap.size a l m
  hn : m.n ≤ 9223372036854775807
  hL : ∀ r, r < m.n → m.L r ≤ 9223372036854775807

theorem ArgAt.step {w w' : World} {a : Option Addr} {l : Lay} {m : Mx} (h : ArgAt w a l m) (hb : Below w.heap.size w w') : ArgAt w' a l m :=
  ⟨(h.mat.below hb).more hb.size, h.hn, h.hL⟩
end Go.Proofs.Ytijcacibofpnpaa
namespace Go.Proofs.Ytijcacibofpnpaa
open Go.RowKit Go.Deep

theorem OutS.own {w wr : World} {m : Mx} (h : OutS w wr m m.n) : OwnMat wr w.heap.size (fun r => w.heap.size + 1 + r) m :=
  ⟨h.top.congr (fun r hr => by rw [if_pos hr]), h.row⟩
theorem Drew.own {w w' : World} (hw : Drew w w') {b : Nat} {G : Nat → Nat} {m : Mx} (h : OwnMat w b G m) : OwnMat w' b G m := by
  obtain ⟨d, rfl⟩ := hw
  exact ⟨h.top, h.row⟩
theorem Drew.list {w w' : World} (hw : Drew w w') {base : Nat} {e : TypeId} {size n : Nat} {v : Value} {xs : List Value} (h : w.ownsRow base e size v n xs) : w'.ownsRow base e size v n xs := by
  obtain ⟨d, rfl⟩ := hw
  exact h
end Go.Proofs.Ytijcacibofpnpaa
