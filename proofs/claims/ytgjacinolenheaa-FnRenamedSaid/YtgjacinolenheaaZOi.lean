/- The walks of the program's AndOf, OrOf, NotOf, NoOf, YesOf and ApartOk. -/
import Derived.Test.YtgjacinolenheaaZOa
import Derived.Test.YtgjacinolenheaaZMath
namespace Go.Proofs.Ytgjacinolenheaa
open Go.RowKit Go.Deep

noncomputable def andV (m : Mx) (k : Nat) (z : Nat → Int) (a b : Int) : Int := if (logicB m k z && goodB m.n 2 (two a b)) = true then meetI m a.toNat b.toNat else -1
set_option maxRecDepth 100000 in
set_option maxHeartbeats 2000000 in
theorem madeOf_and {w : World} {B : Nat} {ua : Option Addr} {l : Lay} {m : Mx} {na : Option Addr} {g o k nc : Nat} {z : Nat → Int} {x y : Int} (h : LogAt w B ua l m na g o k z) :
    Calls Try.prog 68 #[.agg #[.slice ua m.n l.cap, .slice na k nc], .int .i64 0, .int .i64 x, .int .i64 y] w fun e w' => e = .returned (.int .i64 (andV m k z x y)) ∧ Below w.heap.size w w' := by
  have hX := BoxN.start w #[.slice ua m.n l.cap, .slice na k nc] 27
  have q0 := hX.cell 0 rfl
  have q1 := hX.cell 1 rfl
  have hrow := two_at (w.alloc (.cells #[.slice ua m.n l.cap, .slice na k nc] 27)) x y
  rw [World.size_alloc] at hrow
  have b2 := (Below.refl (w.heap.size + 1) (w.alloc (.cells #[.slice ua m.n l.cap, .slice na k nc] 27))).alloc (by simp) (.cells #[.int .i64 x, .int .i64 y] 3)
  have hX2 := hX.step (b2.mono (by simp))
  have bw := hX2.below
  have hsz : ((w.alloc (.cells #[.slice ua m.n l.cap, .slice na k nc] 27)).alloc (.cells #[.int .i64 x, .int .i64 y] 3)).heap.size ≥ w.heap.size + 1 + 1 := by simp
  have h2 := Lib.hid (h.step bw)
  go_enter Try.func68, Try.ntmps68
  generalize hW : (w.alloc (.cells #[.slice ua m.n l.cap, .slice na k nc] 27)).alloc (.cells #[.int .i64 x, .int .i64 y] 3) = W at hrow hX2 bw hsz h2
  have hrow2 : Hid (RowAt W W.heap.size (some ⟨w.heap.size + 1, 0, none⟩) (w.heap.size + 1) 0 2 (two x y)) := ⟨fun c hc => by obtain ⟨a1, a2, a3⟩ := hrow.row c hc; exact ⟨a1, by omega, a3⟩⟩
  clear hX b2 h hrow
  go_wp2_with fail
  go_at_call 66
  refine (algebraWith_any h2.out hrow2.out (by omega)).mono ?_
  rintro e w1 ⟨b1, (⟨hg, ob, tb, tG, rfl, hA⟩ | ⟨hg, rfl⟩)⟩
  · clear hW q0 q1 hrow2
    have B1 := bw.trans (b1.mono bw.size)
    have hY := BoxN.start w1 #[.slice ua m.n l.cap, .slice na k nc, .slice (some ⟨ob, 0, none⟩) 2 2] 65
    have hYb := hY.below
    have BY := B1.trans (hYb.mono B1.size)
    have h3 := Lib.hid ((h2.out.step b1).step hYb)
    have hA3 := Lib.hid (hA.step hYb)
    have r0 := hY.cell 0 rfl
    have r1 := hY.cell 1 rfl
    have r2 := hY.cell 2 rfl
    clear hA
    unfold algV
    have hgg := hg
    rw [Bool.and_eq_true] at hg
    have hlog := logicB_is hg.1
    have hord := hlog.lat.order
    have HS := Lib.hid (h3.out.sq hord)
    obtain ⟨x0, x1, y0, y1⟩ := good_two hg.2
    obtain ⟨a, rfl⟩ := Int.eq_ofNat_of_zero_le x0
    obtain ⟨b, rfl⟩ := Int.eq_ofNat_of_zero_le y0
    have ha : a < m.n := by omega
    have hb : b < m.n := by omega
    have HV : Hid (meetI m a b = andV m k z (a : Int) (b : Int)) := by show _ = _; unfold andV; rw [if_pos hgg]; simp
    clear hg hgg hlog hord x0 x1 y0 y1
    go_wp2_with fail
    go_at_call 90
    refine (made_meet hA3.out HS.out ha hb).mono ?_
    rintro e w2 ⟨rfl, b2⟩
    have B2 := BY.trans (b2.mono BY.size)
    clear r0 r1 r2
    go_wp2_with fail
    go_ret
    exact ⟨ret_int HV.out, B2⟩
  · have HV : Hid ((-1 : Int) = andV m k z x y) := by show _ = _; unfold andV; rw [if_neg (by rw [hg]; decide)]
    clear hW q0 q1 hrow2 hg
    have B1 := bw.trans (b1.mono bw.size)
    have B2 := B1.alloc B1.size (.cells #[.slice none 0 0, .slice none 0 0, .slice none 0 0] 65)
    unfold noAlg
    go_wp2_with fail
    go_ret
    exact ⟨ret_int HV.out, B2⟩

set_option maxHeartbeats 1000000 in
theorem AndOf_any {w : World} {B : Nat} {ua : Option Addr} {l : Lay} {m : Mx} {na : Option Addr} {g o k nc : Nat} {z : Nat → Int} {x y : Int} (h : LogAt w B ua l m na g o k z) :
    Calls Try.prog 33 #[.agg #[.slice ua m.n l.cap, .slice na k nc], .int .i64 x, .int .i64 y] w fun e w' => e = .returned (.int .i64 (andV m k z x y)) ∧ Below w.heap.size w w' := by
  have hX := BoxN.start w #[.slice ua m.n l.cap, .slice na k nc] 27
  have q0 := hX.cell 0 rfl
  have q1 := hX.cell 1 rfl
  have bw := hX.below
  have h2 := Lib.hid (h.step bw)
  clear h hX
  go_enter Try.func33, Try.ntmps33
  go_wp2_with fail
  go_at_call 68
  refine (madeOf_and h2.out).mono ?_
  rintro e w1 ⟨rfl, b1⟩
  have B1 := bw.trans (b1.mono bw.size)
  clear q0 q1
  go_wp2_with fail
  go_ret
  exact ⟨rfl, B1⟩

end Go.Proofs.Ytgjacinolenheaa
