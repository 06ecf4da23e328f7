/- The walk of the reference's TimesOf. -/
import Derived.Test.YtgjacinolenheaaZGa
import Derived.Test.YtgjacinolenheaaZFh
import Derived.Test.YtgjacinolenheaaZOa
namespace Go.Proofs.Ytgjacinolenheaa
open Go.RowKit Go.Deep

/-- Two logics in their boxes, and all that was, while a logic is made. -/
structure BoxT (w : World) (u0 t0 u1 t1 : Value) (P0 : Nat) (wr : World) : Prop where
  a : TwoAt wr w.heap.size u0 t0
  b : TwoAt wr (w.heap.size + 1) u1 t1
  s : BoxS w (w.heap.size + 1 + 1) P0 wr
theorem BoxT.chg {w wr w' : World} {u0 t0 u1 t1 : Value} {P0 : Nat} (h : BoxT w u0 t0 u1 t1 P0 wr) (hc : Chg (fun j => j = P0 ∨ P0 + 1 ≤ j) wr w') : BoxT w u0 t0 u1 t1 P0 w' :=
  have h1 := h.s.lt
  ⟨hc.two h.a (by show ¬ (_ ∨ _); omega), hc.two h.b (by show ¬ (_ ∨ _); omega), h.s.chg hc⟩
theorem BoxT.below {w wr w' : World} {u0 t0 u1 t1 : Value} {P0 : Nat} (h : BoxT w u0 t0 u1 t1 P0 wr) (hb : Below wr.heap.size wr w') : BoxT w u0 t0 u1 t1 P0 w' :=
  h.chg (Chg.of_below hb fun j hj hB => absurd hj (by omega))
/-- A cell of square rows, and the row. -/
theorem SqAt.two {w : World} {B : Nat} {ua : Option Addr} {l : Lay} {m : Mx} (h : SqAt w B ua l m) {r c : Nat} (hr : r < m.n) (hc : c < m.n) :
    ua = some ⟨l.b, l.o, none⟩ ∧ w.cell? ⟨l.b, l.o + r, none⟩ = some (.slice (some ⟨l.G r, l.O r, none⟩) m.n (l.C r)) ∧ w.cell? ⟨l.G r, l.O r + c, none⟩ = some (.int .i64 (m.Z r c)) := h.mat.sq h.sq hr hc
end Go.Proofs.Ytgjacinolenheaa
