/- The walks of the reference's WithOk, SplitOk and BothWaysOk. -/
import Derived.Test.YtijcacibofpnpaaDoorZYa
import Derived.Test.YtijcacibofpnpaaDoorZMathM
namespace Go.Proofs.YtijcacibofpnpaaDoor
open Go.RowKit Go.Deep

set_option maxRecDepth 100000 in
set_option maxHeartbeats 2000000 in
theorem l5With_any {w : World} {B : Nat} {ua : Option Addr} {l : Lay} {m : Mx} {na : Option Addr} {g o nc a b : Nat} {z : Nat → Int} {y : Nat → Nat} {o' : Nat} (h : LogAt w B ua l m na g o m.n z) (hO : Ortho m z y o') (ha : a < m.n) (hb : b < m.n) :
    Calls Tryd.prog 22 #[.agg #[.slice ua m.n l.cap, .slice na m.n nc], .int .i64 a, .int .i64 b] w fun e w' => e = .returned (.bool (agB m y a b)) ∧ Below w.heap.size w w' := by
  have hX := BoxN.start w #[.slice ua m.n l.cap, .slice na m.n nc] 26
  have h1 := Lib.hid (h.alloc (.cells #[.slice ua m.n l.cap, .slice na m.n nc] 26))
  have q0 := hX.cell 0 rfl
  have q1 := hX.cell 1 rfl
  have hn := hO.lat.order.top
  have hpos := hO.lat.order.pos
  have HO := Lib.hid hO
  obtain ⟨rfl, hg1, hg2⟩ := h1.out.row.row 0 (by omega)
  obtain ⟨rfl, hg3, hg4⟩ := h1.out.mat.top 0 (by omega)
  clear hg1 hg2 hg3 hg4 h hO
  obtain ⟨_, _, d1⟩ := h1.out.row.row b hb
  rw [HO.out.zy b hb] at d1
  have f2 := HO.out.lt b hb
  have f2' : ((y b : Nat) : Int) < m.n := by omega
  have hb' : (b : Int) < m.n := by omega
  have hmat := Lib.hid h1.out.mat
  have m1 := (HO.out.mG ha hb).lt
  have m2 := (HO.out.mG ha f2).lt
  have hB := hX.below
  clear h1
  cases hk : agB m y a b with
  | true =>
    have e1 : jN m (mN m a b) (mN m a (y b)) = a := of_decide_eq_true hk
    have n1 : (((jN m (mN m a b) (mN m a (y b)) : Nat) : Int) == (a : Int)) = true := by rw [e1]; simp
    clear hk e1
    go_enter Tryd.func22, Tryd.ntmps22
    go_wp2_with fail
    generalize w.alloc (.cells #[.slice (some ⟨l.b, l.o, none⟩) m.n l.cap, .slice (some ⟨g, o, none⟩) m.n nc] 26) = W at hmat hX hB q0 q1 d1 ⊢
    go_quiet (first | (go_at_call 48; exact meetQ hmat.out HO.out ha hb) | (go_at_call 48; exact meetQ hmat.out HO.out ha f2) | (go_at_call 49; exact joinQ hmat.out HO.out m1 m2))
    go_wp2_with fail
    go_ret
    exact ⟨rfl, Below.drewN' hB _⟩
  | false =>
    have e1 : ¬ jN m (mN m a b) (mN m a (y b)) = a := of_decide_eq_false hk
    have n1 : (((jN m (mN m a b) (mN m a (y b)) : Nat) : Int) == (a : Int)) = false := by rw [beq_eq_false_iff_ne]; omega
    clear hk e1
    go_enter Tryd.func22, Tryd.ntmps22
    go_wp2_with fail
    generalize w.alloc (.cells #[.slice (some ⟨l.b, l.o, none⟩) m.n l.cap, .slice (some ⟨g, o, none⟩) m.n nc] 26) = W at hmat hX hB q0 q1 d1 ⊢
    go_quiet (first | (go_at_call 48; exact meetQ hmat.out HO.out ha hb) | (go_at_call 48; exact meetQ hmat.out HO.out ha f2) | (go_at_call 49; exact joinQ hmat.out HO.out m1 m2))
    go_wp2_with fail
    go_ret
    exact ⟨rfl, Below.drewN' hB _⟩

end Go.Proofs.YtijcacibofpnpaaDoor
