/- The walks of the program's AndOf, OrOf, NotOf, NoOf, YesOf and ApartOk. -/
import Derived.Test.YtijcacibofpnpaaOa
import Derived.Test.YtijcacibofpnpaaMath
namespace Go.Proofs.Ytijcacibofpnpaa
open Go.RowKit Go.Deep

noncomputable def andV (m : Mx) (k : Nat) (z : Nat → Int) (a b : Int) : Int := if (logicB m k z && goodB m.n 2 (two a b)) = true then meetI m a.toNat b.toNat else -1
noncomputable def orV (m : Mx) (k : Nat) (z : Nat → Int) (a b : Int) : Int := if (logicB m k z && goodB m.n 2 (two a b)) = true then meetI (tr m) a.toNat b.toNat else -1
def lone1 (a : Int) : Nat → Int := fun _ => a
noncomputable def notV (m : Mx) (k : Nat) (z : Nat → Int) (a : Int) : Int := if (logicB m k z && goodB m.n 1 (lone1 a)) = true then z a.toNat else -1
noncomputable def noV (m : Mx) (k : Nat) (z : Nat → Int) : Int := if logicB m k z = true then leastI m else -1
noncomputable def yesV (m : Mx) (k : Nat) (z : Nat → Int) : Int := if logicB m k z = true then z (leastI m).toNat else -1
noncomputable def apartB (m : Mx) (k : Nat) (z : Nat → Int) (a b : Int) : Bool := (logicB m k z && goodB m.n 2 (two a b)) && leB m a.toNat (z b.toNat).toNat
theorem lone_at (w : World) (a : Int) : RowAt (w.alloc (.cells #[.int .i64 a] 3)) (w.heap.size + 1) (some ⟨w.heap.size, 0, none⟩) w.heap.size 0 1 (lone1 a) :=
  ⟨fun c hc => ⟨rfl, by omega, by
    obtain rfl : c = 0 := by omega
    simp [lone1]⟩⟩
theorem good_lone {n : Nat} {a : Int} (h : goodB n 1 (lone1 a) = true) : 0 ≤ a ∧ a < (n : Int) := by
  have h0 := allB_is h 0 (by omega)
  simp only [lone1, Bool.and_eq_true] at h0
  exact ⟨of_decide_eq_true h0.1, of_decide_eq_true h0.2⟩

set_option maxRecDepth 100000 in
set_option maxHeartbeats 2000000 in
theorem NotOf_any {w : World} {B : Nat} {ua : Option Addr} {l : Lay} {m : Mx} {na : Option Addr} {g o k nc : Nat} {z : Nat → Int} {x : Int} (h : LogAt w B ua l m na g o k z) :
    Calls Try.prog 17 #[.agg #[.slice ua m.n l.cap, .slice na k nc], .int .i64 x] w fun e w' => e = .returned (.int .i64 (notV m k z x)) ∧ Below w.heap.size w w' := by
  have hX := BoxN.start w #[.slice ua m.n l.cap, .slice na k nc] 26
  have q0 := hX.cell 0 rfl
  have q1 := hX.cell 1 rfl
  have hrow := lone_at (w.alloc (.cells #[.slice ua m.n l.cap, .slice na k nc] 26)) x
  rw [World.size_alloc] at hrow
  have b2 := (Below.refl (w.heap.size + 1) (w.alloc (.cells #[.slice ua m.n l.cap, .slice na k nc] 26))).alloc (by simp) (.cells #[.int .i64 x] 3)
  have hX2 := hX.step (b2.mono (by simp))
  have bw := hX2.below
  have hsz : ((w.alloc (.cells #[.slice ua m.n l.cap, .slice na k nc] 26)).alloc (.cells #[.int .i64 x] 3)).heap.size ≥ w.heap.size + 1 + 1 := by simp
  have h2 := Lib.hid (h.step bw)
  go_enter Try.func17, Try.ntmps17
  generalize hW : (w.alloc (.cells #[.slice ua m.n l.cap, .slice na k nc] 26)).alloc (.cells #[.int .i64 x] 3) = W at hrow hX2 bw hsz h2
  have hrow2 : Hid (RowAt W W.heap.size (some ⟨w.heap.size + 1, 0, none⟩) (w.heap.size + 1) 0 1 (lone1 x)) := ⟨fun c hc => by obtain ⟨a1, a2, a3⟩ := hrow.row c hc; exact ⟨a1, by omega, a3⟩⟩
  clear hX b2 h hrow
  go_wp2_with fail
  go_at_call 45
  refine (algebraWith_any h2.out hrow2.out (by omega)).mono ?_
  rintro e w1 ⟨b1, (⟨hg, ob, tb, tG, rfl, hA⟩ | ⟨hg, rfl⟩)⟩
  · clear hW q0 q1 hrow2
    have B1 := bw.trans (b1.mono bw.size)
    have hY := BoxN.start w1 #[.slice ua m.n l.cap, .slice na k nc, .slice (some ⟨ob, 0, none⟩) 2 2] 60
    have hYb := hY.below
    have BY := B1.trans (hYb.mono B1.size)
    have h3 := Lib.hid ((h2.out.step b1).step hYb)
    have hA3 := Lib.hid (hA.step hYb)
    have r0 := hY.cell 0 rfl
    have r1 := hY.cell 1 rfl
    have r2 := hY.cell 2 rfl
    clear hA
    unfold algV
    have hgg := hg
    rw [Bool.and_eq_true] at hg
    have hlog := logicB_is hg.1
    have hord := hlog.lat.order
    have HS := Lib.hid (h3.out.sq hord)
    have hkm := hlog.pair.len
    have hR := h3.out.row
    obtain ⟨x0, x1⟩ := good_lone hg.2
    obtain ⟨a, rfl⟩ := Int.eq_ofNat_of_zero_le x0
    have ha : a < k := by omega
    have ha' : (a : Int) < k := by omega
    have HV : Hid (z a = notV m k z (a : Int)) := by show _ = _; unfold notV; rw [if_pos hgg]; simp
    obtain ⟨rfl, _, c1⟩ := hR.row a ha
    clear hg hgg hlog hord x0 x1 hkm
    go_wp2_with fail
    go_ret
    exact ⟨ret_int HV.out, BY⟩
  · have HV : Hid ((-1 : Int) = notV m k z x) := by show _ = _; unfold notV; rw [if_neg (by rw [hg]; decide)]
    clear hW q0 q1 hrow2 hg
    have B1 := bw.trans (b1.mono bw.size)
    have B2 := B1.alloc B1.size (.cells #[.slice none 0 0, .slice none 0 0, .slice none 0 0] 60)
    unfold noAlg
    go_wp2_with fail
    go_ret
    exact ⟨ret_int HV.out, B2⟩

set_option maxRecDepth 100000 in
set_option maxHeartbeats 2000000 in
theorem NoOf_any {w : World} {B : Nat} {ua : Option Addr} {l : Lay} {m : Mx} {na : Option Addr} {g o k nc : Nat} {z : Nat → Int} (h : LogAt w B ua l m na g o k z) :
    Calls Try.prog 18 #[.agg #[.slice ua m.n l.cap, .slice na k nc]] w fun e w' => e = .returned (.int .i64 (noV m k z)) ∧ Below w.heap.size w w' := by
  have hX := BoxN.start w #[.slice ua m.n l.cap, .slice na k nc] 26
  have q0 := hX.cell 0 rfl
  have q1 := hX.cell 1 rfl
  have hX2 := hX
  have bw := hX.below
  have h2 := Lib.hid (h.step bw)
  go_enter Try.func18, Try.ntmps18
  have hrow2 : Hid (RowAt (w.alloc (.cells #[.slice ua m.n l.cap, .slice na k nc] 26)) (w.alloc (.cells #[.slice ua m.n l.cap, .slice na k nc] 26)).heap.size none 0 0 0 (fun _ => 0)) := ⟨fun c hc => absurd hc (Nat.not_lt_zero _)⟩
  generalize hW : w.alloc (.cells #[.slice ua m.n l.cap, .slice na k nc] 26) = W at hX2 bw h2 hrow2 q0 q1
  clear hX h
  go_wp2_with fail
  go_at_call 45
  refine (algebraWith_any h2.out hrow2.out (by omega)).mono ?_
  rintro e w1 ⟨b1, (⟨hg, ob, tb, tG, rfl, hA⟩ | ⟨hg, rfl⟩)⟩
  · clear hW q0 q1 hrow2
    have B1 := bw.trans (b1.mono bw.size)
    have hY := BoxN.start w1 #[.slice ua m.n l.cap, .slice na k nc, .slice (some ⟨ob, 0, none⟩) 2 2] 60
    have hYb := hY.below
    have BY := B1.trans (hYb.mono B1.size)
    have h3 := Lib.hid ((h2.out.step b1).step hYb)
    have hA3 := Lib.hid (hA.step hYb)
    have r0 := hY.cell 0 rfl
    have r1 := hY.cell 1 rfl
    have r2 := hY.cell 2 rfl
    clear hA
    unfold algV
    rw [Bool.and_eq_true] at hg
    have hlog := logicB_is hg.1
    have hord := hlog.lat.order
    have HS := Lib.hid (h3.out.sq hord)
    have HV : Hid (leastI m = noV m k z) := by show _ = _; unfold noV; rw [if_pos hg.1]
    clear hg hlog hord
    go_wp2_with fail
    go_at_call 50
    refine (least_sq HS.out).mono ?_
    rintro e w2 ⟨rfl, b2⟩
    have B2 := BY.trans (b2.mono BY.size)
    clear r0 r1 r2
    go_wp2_with fail
    go_ret
    exact ⟨ret_int HV.out, B2⟩
  · have HV : Hid ((-1 : Int) = noV m k z) := by show _ = _; unfold noV; rw [good_nil, Bool.and_true] at hg; rw [if_neg (by rw [hg]; decide)]
    clear hW q0 q1 hrow2 hg
    have B1 := bw.trans (b1.mono bw.size)
    have B2 := B1.alloc B1.size (.cells #[.slice none 0 0, .slice none 0 0, .slice none 0 0] 60)
    unfold noAlg
    go_wp2_with fail
    go_ret
    exact ⟨ret_int HV.out, B2⟩

set_option maxRecDepth 100000 in
set_option maxHeartbeats 2000000 in
theorem YesOf_any {w : World} {B : Nat} {ua : Option Addr} {l : Lay} {m : Mx} {na : Option Addr} {g o k nc : Nat} {z : Nat → Int} (h : LogAt w B ua l m na g o k z) :
    Calls Try.prog 19 #[.agg #[.slice ua m.n l.cap, .slice na k nc]] w fun e w' => e = .returned (.int .i64 (yesV m k z)) ∧ Below w.heap.size w w' := by
  have hX := BoxN.start w #[.slice ua m.n l.cap, .slice na k nc] 26
  have q0 := hX.cell 0 rfl
  have q1 := hX.cell 1 rfl
  have hX2 := hX
  have bw := hX.below
  have h2 := Lib.hid (h.step bw)
  go_enter Try.func19, Try.ntmps19
  have hrow2 : Hid (RowAt (w.alloc (.cells #[.slice ua m.n l.cap, .slice na k nc] 26)) (w.alloc (.cells #[.slice ua m.n l.cap, .slice na k nc] 26)).heap.size none 0 0 0 (fun _ => 0)) := ⟨fun c hc => absurd hc (Nat.not_lt_zero _)⟩
  generalize hW : w.alloc (.cells #[.slice ua m.n l.cap, .slice na k nc] 26) = W at hX2 bw h2 hrow2 q0 q1
  clear hX h
  go_wp2_with fail
  go_at_call 45
  refine (algebraWith_any h2.out hrow2.out (by omega)).mono ?_
  rintro e w1 ⟨b1, (⟨hg, ob, tb, tG, rfl, hA⟩ | ⟨hg, rfl⟩)⟩
  · clear hW q0 q1 hrow2
    have B1 := bw.trans (b1.mono bw.size)
    have hY := BoxN.start w1 #[.slice ua m.n l.cap, .slice na k nc, .slice (some ⟨ob, 0, none⟩) 2 2] 60
    have hYb := hY.below
    have BY := B1.trans (hYb.mono B1.size)
    have h3 := Lib.hid ((h2.out.step b1).step hYb)
    have hA3 := Lib.hid (hA.step hYb)
    have r0 := hY.cell 0 rfl
    have r1 := hY.cell 1 rfl
    have r2 := hY.cell 2 rfl
    clear hA
    unfold algV
    rw [Bool.and_eq_true] at hg
    have hlog := logicB_is hg.1
    have hord := hlog.lat.order
    have HS := Lib.hid (h3.out.sq hord)
    have hkm := hlog.pair.len
    have hR := h3.out.row
    obtain ⟨x, hx, hxe, _⟩ := least_parts hord (lattice_hasLeast hlog.lat)
    have hx1 : x < k := by omega
    have hx2 : (x : Int) < k := by omega
    have HV : Hid (z x = yesV m k z) := by show _ = _; unfold yesV; rw [if_pos hg.1, hxe]; simp
    have HX := Lib.hid hxe
    obtain ⟨rfl, _, _⟩ := hR.row x hx1
    clear hg hlog hord hkm hR hxe
    go_wp2_with fail
    go_at_call 50
    refine (least_sq HS.out).mono ?_
    rintro e w2 ⟨rfl, b2⟩
    rw [HX.out]
    have B2 := BY.trans (b2.mono BY.size)
    have hY2 := hY.step b2
    have s1 := hY2.cell 1 rfl
    obtain ⟨_, _, c1⟩ := (h3.out.step b2).row.row x hx1
    clear r0 r1 r2
    go_wp2_with fail
    go_ret
    exact ⟨ret_int HV.out, B2⟩
  · have HV : Hid ((-1 : Int) = yesV m k z) := by show _ = _; unfold yesV; rw [good_nil, Bool.and_true] at hg; rw [if_neg (by rw [hg]; decide)]
    clear hW q0 q1 hrow2 hg
    have B1 := bw.trans (b1.mono bw.size)
    have B2 := B1.alloc B1.size (.cells #[.slice none 0 0, .slice none 0 0, .slice none 0 0] 60)
    unfold noAlg
    go_wp2_with fail
    go_ret
    exact ⟨ret_int HV.out, B2⟩

end Go.Proofs.Ytijcacibofpnpaa
