/- The walks of the program's AndOf, OrOf, NotOf, NoOf, YesOf and ApartOk. The walks of the reference's AndOf, OrOf, NotOf, NoOf, YesOf and ApartOk. The walk of the reference's test whether a logic keeps the law. The walk of the program's test whether a logic keeps the law. -/
import Derived.Test.YtjmhhjdkemicbaaOa
import Derived.Test.YtjmhhjdkemicbaaMath
namespace Go.Proofs.Ytjmhhjdkemicbaa
open Go.RowKit Go.Deep

noncomputable def andV (m : Mx) (k : Nat) (z : Nat → Int) (a b : Int) : Int := if (logicB m k z && goodB m.n 2 (two a b)) = true then meetI m a.toNat b.toNat else -1
noncomputable def orV (m : Mx) (k : Nat) (z : Nat → Int) (a b : Int) : Int := if (logicB m k z && goodB m.n 2 (two a b)) = true then meetI (tr m) a.toNat b.toNat else -1
def lone1 (a : Int) : Nat → Int := fun _ => a
noncomputable def notV (m : Mx) (k : Nat) (z : Nat → Int) (a : Int) : Int := if (logicB m k z && goodB m.n 1 (lone1 a)) = true then z a.toNat else -1
noncomputable def noV (m : Mx) (k : Nat) (z : Nat → Int) : Int := if logicB m k z = true then leastI m else -1
noncomputable def yesV (m : Mx) (k : Nat) (z : Nat → Int) : Int := if logicB m k z = true then z (leastI m).toNat else -1
noncomputable def apartB (m : Mx) (k : Nat) (z : Nat → Int) (a b : Int) : Bool := (logicB m k z && goodB m.n 2 (two a b)) && leB m a.toNat (z b.toNat).toNat
theorem lone_at (w : World) (a : Int) : RowAt (w.alloc (.cells #[.int .i64 a] 3)) (w.heap.size + 1) (some ⟨w.heap.size, 0, none⟩) w.heap.size 0 1 (lone1 a) :=
  ⟨fun c hc => ⟨rfl, by omega, by
    obtain rfl : c = 0 := by omega
    simp [lone1]⟩⟩
theorem good_lone {n : Nat} {a : Int} (h : goodB n 1 (lone1 a) = true) : 0 ≤ a ∧ a < (n : Int) := by
  have h0 := allB_is h 0 (by omega)
  simp only [lone1, Bool.and_eq_true] at h0
  exact ⟨of_decide_eq_true h0.1, of_decide_eq_true h0.2⟩

set_option maxRecDepth 100000 in
set_option maxHeartbeats 2000000 in
theorem madeOf_and {w : World} {B : Nat} {ua : Option Addr} {l : Lay} {m : Mx} {na : Option Addr} {g o k nc : Nat} {z : Nat → Int} {x y : Int} (h : LogAt w B ua l m na g o k z) :
    Calls Try.prog 42 #[.agg #[.slice ua m.n l.cap, .slice na k nc], .int .i64 0, .int .i64 x, .int .i64 y] w fun e w' => e = .returned (.int .i64 (andV m k z x y)) ∧ Below w.heap.size w w' := by
  have hX := BoxN.start w #[.slice ua m.n l.cap, .slice na k nc] 30
  have q0 := hX.cell 0 rfl
  have q1 := hX.cell 1 rfl
  have hrow := two_at (w.alloc (.cells #[.slice ua m.n l.cap, .slice na k nc] 30)) x y
  rw [World.size_alloc] at hrow
  have b2 := (Below.refl (w.heap.size + 1) (w.alloc (.cells #[.slice ua m.n l.cap, .slice na k nc] 30))).alloc (by simp) (.cells #[.int .i64 x, .int .i64 y] 3)
  have hX2 := hX.step (b2.mono (by simp))
  have bw := hX2.below
  have hsz : ((w.alloc (.cells #[.slice ua m.n l.cap, .slice na k nc] 30)).alloc (.cells #[.int .i64 x, .int .i64 y] 3)).heap.size ≥ w.heap.size + 1 + 1 := by simp
  have h2 := Lib.hid (h.step bw)
  go_enter Try.func42, Try.ntmps42
  generalize hW : (w.alloc (.cells #[.slice ua m.n l.cap, .slice na k nc] 30)).alloc (.cells #[.int .i64 x, .int .i64 y] 3) = W at hrow hX2 bw hsz h2
  have hrow2 : Hid (RowAt W W.heap.size (some ⟨w.heap.size + 1, 0, none⟩) (w.heap.size + 1) 0 2 (two x y)) := ⟨fun c hc => by obtain ⟨a1, a2, a3⟩ := hrow.row c hc; exact ⟨a1, by omega, a3⟩⟩
  clear hX b2 h hrow
  go_wp2_with fail
  go_at_call 36
  refine (algebraWith_any h2.out hrow2.out (by omega)).mono ?_
  rintro e w1 ⟨b1, (⟨hg, ob, tb, tG, rfl, hA⟩ | ⟨hg, rfl⟩)⟩
  · clear hW q0 q1 hrow2
    have B1 := bw.trans (b1.mono bw.size)
    have hY := BoxN.start w1 #[.slice ua m.n l.cap, .slice na k nc, .slice (some ⟨ob, 0, none⟩) 2 2] 62
    have hYb := hY.below
    have BY := B1.trans (hYb.mono B1.size)
    have h3 := Lib.hid ((h2.out.step b1).step hYb)
    have hA3 := Lib.hid (hA.step hYb)
    have r0 := hY.cell 0 rfl
    have r1 := hY.cell 1 rfl
    have r2 := hY.cell 2 rfl
    clear hA
    unfold algV
    have hgg := hg
    rw [Bool.and_eq_true] at hg
    have hlog := logicB_is hg.1
    have hord := hlog.lat.order
    have HS := Lib.hid (h3.out.sq hord)
    obtain ⟨x0, x1, y0, y1⟩ := good_two hg.2
    obtain ⟨a, rfl⟩ := Int.eq_ofNat_of_zero_le x0
    obtain ⟨b, rfl⟩ := Int.eq_ofNat_of_zero_le y0
    have ha : a < m.n := by omega
    have hb : b < m.n := by omega
    have HV : Hid (meetI m a b = andV m k z (a : Int) (b : Int)) := by show _ = _; unfold andV; rw [if_pos hgg]; simp
    clear hg hgg hlog hord x0 x1 y0 y1
    go_wp2_with fail
    go_at_call 65
    refine (made_meet hA3.out HS.out ha hb).mono ?_
    rintro e w2 ⟨rfl, b2⟩
    have B2 := BY.trans (b2.mono BY.size)
    clear r0 r1 r2
    go_wp2_with fail
    go_ret
    exact ⟨ret_int HV.out, B2⟩
  · have HV : Hid ((-1 : Int) = andV m k z x y) := by show _ = _; unfold andV; rw [if_neg (by rw [hg]; decide)]
    clear hW q0 q1 hrow2 hg
    have B1 := bw.trans (b1.mono bw.size)
    have B2 := B1.alloc B1.size (.cells #[.slice none 0 0, .slice none 0 0, .slice none 0 0] 62)
    unfold noAlg
    go_wp2_with fail
    go_ret
    exact ⟨ret_int HV.out, B2⟩

set_option maxRecDepth 100000 in
set_option maxHeartbeats 2000000 in
theorem madeOf_or {w : World} {B : Nat} {ua : Option Addr} {l : Lay} {m : Mx} {na : Option Addr} {g o k nc : Nat} {z : Nat → Int} {x y : Int} (h : LogAt w B ua l m na g o k z) :
    Calls Try.prog 42 #[.agg #[.slice ua m.n l.cap, .slice na k nc], .int .i64 1, .int .i64 x, .int .i64 y] w fun e w' => e = .returned (.int .i64 (orV m k z x y)) ∧ Below w.heap.size w w' := by
  have hX := BoxN.start w #[.slice ua m.n l.cap, .slice na k nc] 30
  have q0 := hX.cell 0 rfl
  have q1 := hX.cell 1 rfl
  have hrow := two_at (w.alloc (.cells #[.slice ua m.n l.cap, .slice na k nc] 30)) x y
  rw [World.size_alloc] at hrow
  have b2 := (Below.refl (w.heap.size + 1) (w.alloc (.cells #[.slice ua m.n l.cap, .slice na k nc] 30))).alloc (by simp) (.cells #[.int .i64 x, .int .i64 y] 3)
  have hX2 := hX.step (b2.mono (by simp))
  have bw := hX2.below
  have hsz : ((w.alloc (.cells #[.slice ua m.n l.cap, .slice na k nc] 30)).alloc (.cells #[.int .i64 x, .int .i64 y] 3)).heap.size ≥ w.heap.size + 1 + 1 := by simp
  have h2 := Lib.hid (h.step bw)
  go_enter Try.func42, Try.ntmps42
  generalize hW : (w.alloc (.cells #[.slice ua m.n l.cap, .slice na k nc] 30)).alloc (.cells #[.int .i64 x, .int .i64 y] 3) = W at hrow hX2 bw hsz h2
  have hrow2 : Hid (RowAt W W.heap.size (some ⟨w.heap.size + 1, 0, none⟩) (w.heap.size + 1) 0 2 (two x y)) := ⟨fun c hc => by obtain ⟨a1, a2, a3⟩ := hrow.row c hc; exact ⟨a1, by omega, a3⟩⟩
  clear hX b2 h hrow
  go_wp2_with fail
  go_at_call 36
  refine (algebraWith_any h2.out hrow2.out (by omega)).mono ?_
  rintro e w1 ⟨b1, (⟨hg, ob, tb, tG, rfl, hA⟩ | ⟨hg, rfl⟩)⟩
  · clear hW q0 q1 hrow2
    have B1 := bw.trans (b1.mono bw.size)
    have hY := BoxN.start w1 #[.slice ua m.n l.cap, .slice na k nc, .slice (some ⟨ob, 0, none⟩) 2 2] 62
    have hYb := hY.below
    have BY := B1.trans (hYb.mono B1.size)
    have h3 := Lib.hid ((h2.out.step b1).step hYb)
    have hA3 := Lib.hid (hA.step hYb)
    have r0 := hY.cell 0 rfl
    have r1 := hY.cell 1 rfl
    have r2 := hY.cell 2 rfl
    clear hA
    unfold algV
    have hgg := hg
    rw [Bool.and_eq_true] at hg
    have hlog := logicB_is hg.1
    have hord := hlog.lat.order
    have HS := Lib.hid (h3.out.sq hord)
    obtain ⟨x0, x1, y0, y1⟩ := good_two hg.2
    obtain ⟨a, rfl⟩ := Int.eq_ofNat_of_zero_le x0
    obtain ⟨b, rfl⟩ := Int.eq_ofNat_of_zero_le y0
    have ha : a < m.n := by omega
    have hb : b < m.n := by omega
    have HV : Hid (meetI (tr m) a b = orV m k z (a : Int) (b : Int)) := by show _ = _; unfold orV; rw [if_pos hgg]; simp
    clear hg hgg hlog hord x0 x1 y0 y1
    go_wp2_with fail
    go_at_call 65
    refine (made_join hA3.out HS.out ha hb).mono ?_
    rintro e w2 ⟨rfl, b2⟩
    have B2 := BY.trans (b2.mono BY.size)
    clear r0 r1 r2
    go_wp2_with fail
    go_ret
    exact ⟨ret_int HV.out, B2⟩
  · have HV : Hid ((-1 : Int) = orV m k z x y) := by show _ = _; unfold orV; rw [if_neg (by rw [hg]; decide)]
    clear hW q0 q1 hrow2 hg
    have B1 := bw.trans (b1.mono bw.size)
    have B2 := B1.alloc B1.size (.cells #[.slice none 0 0, .slice none 0 0, .slice none 0 0] 62)
    unfold noAlg
    go_wp2_with fail
    go_ret
    exact ⟨ret_int HV.out, B2⟩

set_option maxHeartbeats 1000000 in
theorem AndOf_any {w : World} {B : Nat} {ua : Option Addr} {l : Lay} {m : Mx} {na : Option Addr} {g o k nc : Nat} {z : Nat → Int} {x y : Int} (h : LogAt w B ua l m na g o k z) :
    Calls Try.prog 19 #[.agg #[.slice ua m.n l.cap, .slice na k nc], .int .i64 x, .int .i64 y] w fun e w' => e = .returned (.int .i64 (andV m k z x y)) ∧ Below w.heap.size w w' := by
  have hX := BoxN.start w #[.slice ua m.n l.cap, .slice na k nc] 30
  have q0 := hX.cell 0 rfl
  have q1 := hX.cell 1 rfl
  have bw := hX.below
  have h2 := Lib.hid (h.step bw)
  clear h hX
  go_enter Try.func19, Try.ntmps19
  go_wp2_with fail
  go_at_call 42
  refine (madeOf_and h2.out).mono ?_
  rintro e w1 ⟨rfl, b1⟩
  have B1 := bw.trans (b1.mono bw.size)
  clear q0 q1
  go_wp2_with fail
  go_ret
  exact ⟨rfl, B1⟩

set_option maxRecDepth 100000 in
set_option maxHeartbeats 2000000 in
theorem NotOf_any {w : World} {B : Nat} {ua : Option Addr} {l : Lay} {m : Mx} {na : Option Addr} {g o k nc : Nat} {z : Nat → Int} {x : Int} (h : LogAt w B ua l m na g o k z) :
    Calls Try.prog 18 #[.agg #[.slice ua m.n l.cap, .slice na k nc], .int .i64 x] w fun e w' => e = .returned (.int .i64 (notV m k z x)) ∧ Below w.heap.size w w' := by
  have hX := BoxN.start w #[.slice ua m.n l.cap, .slice na k nc] 30
  have q0 := hX.cell 0 rfl
  have q1 := hX.cell 1 rfl
  have hrow := lone_at (w.alloc (.cells #[.slice ua m.n l.cap, .slice na k nc] 30)) x
  rw [World.size_alloc] at hrow
  have b2 := (Below.refl (w.heap.size + 1) (w.alloc (.cells #[.slice ua m.n l.cap, .slice na k nc] 30))).alloc (by simp) (.cells #[.int .i64 x] 3)
  have hX2 := hX.step (b2.mono (by simp))
  have bw := hX2.below
  have hsz : ((w.alloc (.cells #[.slice ua m.n l.cap, .slice na k nc] 30)).alloc (.cells #[.int .i64 x] 3)).heap.size ≥ w.heap.size + 1 + 1 := by simp
  have h2 := Lib.hid (h.step bw)
  go_enter Try.func18, Try.ntmps18
  generalize hW : (w.alloc (.cells #[.slice ua m.n l.cap, .slice na k nc] 30)).alloc (.cells #[.int .i64 x] 3) = W at hrow hX2 bw hsz h2
  have hrow2 : Hid (RowAt W W.heap.size (some ⟨w.heap.size + 1, 0, none⟩) (w.heap.size + 1) 0 1 (lone1 x)) := ⟨fun c hc => by obtain ⟨a1, a2, a3⟩ := hrow.row c hc; exact ⟨a1, by omega, a3⟩⟩
  clear hX b2 h hrow
  go_wp2_with fail
  go_at_call 36
  refine (algebraWith_any h2.out hrow2.out (by omega)).mono ?_
  rintro e w1 ⟨b1, (⟨hg, ob, tb, tG, rfl, hA⟩ | ⟨hg, rfl⟩)⟩
  · clear hW q0 q1 hrow2
    have B1 := bw.trans (b1.mono bw.size)
    have hY := BoxN.start w1 #[.slice ua m.n l.cap, .slice na k nc, .slice (some ⟨ob, 0, none⟩) 2 2] 62
    have hYb := hY.below
    have BY := B1.trans (hYb.mono B1.size)
    have h3 := Lib.hid ((h2.out.step b1).step hYb)
    have hA3 := Lib.hid (hA.step hYb)
    have r0 := hY.cell 0 rfl
    have r1 := hY.cell 1 rfl
    have r2 := hY.cell 2 rfl
    clear hA
    unfold algV
    have hgg := hg
    rw [Bool.and_eq_true] at hg
    have hlog := logicB_is hg.1
    have hord := hlog.lat.order
    have HS := Lib.hid (h3.out.sq hord)
    have hkm := hlog.pair.len
    have hR := h3.out.row
    obtain ⟨x0, x1⟩ := good_lone hg.2
    obtain ⟨a, rfl⟩ := Int.eq_ofNat_of_zero_le x0
    have ha : a < k := by omega
    have ha' : (a : Int) < k := by omega
    have HV : Hid (z a = notV m k z (a : Int)) := by show _ = _; unfold notV; rw [if_pos hgg]; simp
    obtain ⟨rfl, _, c1⟩ := hR.row a ha
    clear hg hgg hlog hord x0 x1 hkm
    go_wp2_with fail
    go_ret
    exact ⟨ret_int HV.out, BY⟩
  · have HV : Hid ((-1 : Int) = notV m k z x) := by show _ = _; unfold notV; rw [if_neg (by rw [hg]; decide)]
    clear hW q0 q1 hrow2 hg
    have B1 := bw.trans (b1.mono bw.size)
    have B2 := B1.alloc B1.size (.cells #[.slice none 0 0, .slice none 0 0, .slice none 0 0] 62)
    unfold noAlg
    go_wp2_with fail
    go_ret
    exact ⟨ret_int HV.out, B2⟩

end Go.Proofs.Ytjmhhjdkemicbaa
namespace Go.Proofs.Ytjmhhjdkemicbaa
open Go.RowKit Go.Deep

theorem good_mk {n : Nat} {a b : Int} (h0 : 0 ≤ a) (h1 : a < (n : Int)) (h2 : 0 ≤ b) (h3 : b < (n : Int)) : goodB n 2 (two a b) = true := allB_true fun i hi => by
  rcases (show i = 0 ∨ i = 1 by omega) with rfl | rfl
  · simp [two, h0, h1]
  · simp [two, h2, h3]
theorem good_no0 {n : Nat} {a b : Int} (h : ¬ (0 ≤ a ∧ a < (n : Int))) : goodB n 2 (two a b) = false := by
  cases hg : goodB n 2 (two a b) with
  | false => rfl
  | true => exact absurd ⟨(good_two hg).1, (good_two hg).2.1⟩ h
theorem good_no1 {n : Nat} {a b : Int} (h : ¬ (0 ≤ b ∧ b < (n : Int))) : goodB n 2 (two a b) = false := by
  cases hg : goodB n 2 (two a b) with
  | false => rfl
  | true => exact absurd ⟨(good_two hg).2.2.1, (good_two hg).2.2.2⟩ h
theorem good_same {n : Nat} {a : Int} : goodB n 1 (lone1 a) = goodB n 2 (two a a) := by
  by_cases h : 0 ≤ a ∧ a < (n : Int)
  · rw [good_mk h.1 h.2 h.1 h.2]
    exact allB_true fun i _ => by simp [lone1, h.1, h.2]
  · rw [good_no0 h]
    cases hg : goodB n 1 (lone1 a) with
    | false => rfl
    | true => exact absurd (good_lone hg) h
theorem not_no {m : Mx} {k : Nat} {z : Nat → Int} : notV m k z (noV m k z) = yesV m k z := by
  cases hl : logicB m k z with
  | false => unfold notV yesV; rw [hl]; rfl
  | true =>
    have hlog := logicB_is hl
    obtain ⟨x, hx, hxe, _⟩ := least_parts hlog.lat.order (lattice_hasLeast hlog.lat)
    have e1 : noV m k z = (x : Int) := by unfold noV; rw [if_pos hl, hxe]
    have e2 : goodB m.n 1 (lone1 (x : Int)) = true := by rw [good_same]; exact good_mk (by omega) (by omega) (by omega) (by omega)
    rw [e1]
    unfold notV yesV
    rw [hl, e2, hxe]
    rfl


set_option maxRecDepth 100000 in
set_option maxHeartbeats 2000000 in
theorem l2Both_any {w : World} {B : Nat} {ua : Option Addr} {l : Lay} {m : Mx} {na : Option Addr} {g o k nc : Nat} {z : Nat → Int} {x y : Int} (h : LogAt w B ua l m na g o k z) :
    Calls Try.prog 38 #[.agg #[.slice ua m.n l.cap, .slice na k nc], .int .i64 x, .int .i64 y] w fun e w' => e = .returned (.bool (logicB m k z && goodB m.n 2 (two x y))) ∧ Below w.heap.size w w' := by
  have hX := BoxN.start w #[.slice ua m.n l.cap, .slice na k nc] 30
  have q0 := hX.cell 0 rfl
  have q1 := hX.cell 1 rfl
  have bw := hX.below
  have h2 := Lib.hid (h.step bw)
  have hkk := h.hk
  clear h
  cases hl : logicB m k z with
  | false =>
    have HL := Lib.hid hl
    clear hl
    go_enter Try.func38, Try.ntmps38
    go_wp2_with fail
    go_at_call 49
    refine (spec_LogicOk h2.out).mono ?_
    rintro e w1 ⟨rfl, b1⟩
    rw [HL.out]
    have B1 := bw.trans (b1.mono bw.size)
    go_wp2_with fail
    go_ret
    exact ⟨rfl, B1⟩
  | true =>
    have HL := Lib.hid hl
    have hkl : k ≤ m.n := Nat.le_of_eq (logicB_is hl).pair.len
    have hkg : m.n ≤ k := Nat.le_of_eq (logicB_is hl).pair.len.symm
    have hpos := (logicB_is hl).lat.order.pos
    have hk1 : (1 : Int) ≤ (k : Int) := by omega
    clear hl
    go_enter Try.func38, Try.ntmps38
    go_wp2_with fail
    go_at_call 49
    refine (spec_LogicOk h2.out).mono ?_
    rintro e w1 ⟨rfl, b1⟩
    rw [HL.out]
    have B1 := bw.trans (b1.mono bw.size)
    have hX1 := hX.step b1
    have r0 := hX1.cell 0 rfl
    have r1 := hX1.cell 1 rfl
    clear q0 q1
    by_cases hx : 0 ≤ x ∧ x < (m.n : Int)
    · have HD : Hid ((decide ((0 : Int) ≤ x) && decide (x ≤ (k : Int) - 1)) = true) := by show _ = _; simp; omega
      have HX := Lib.hid hx
      clear hx
      by_cases hy : 0 ≤ y ∧ y < (m.n : Int)
      · have HE : Hid ((decide ((0 : Int) ≤ y) && decide (y ≤ (k : Int) - 1)) = true) := by show _ = _; simp; omega
        have HF : Hid (true = (true && goodB m.n 2 (two x y))) := by show _ = _; rw [good_mk HX.out.1 HX.out.2 hy.1 hy.2]; rfl
        clear hy
        go_wp2_with fail
        go_at_call 39
        refine (l1In_any _ _ _ _).mono ?_
        rintro e w2 ⟨rfl, rfl⟩
        rw [HD.out]
        go_wp2_with fail
        go_at_call 39
        refine (l1In_any _ _ _ _).mono ?_
        rintro e w3 ⟨rfl, rfl⟩
        rw [HE.out]
        go_wp2_with fail
        go_ret
        exact ⟨ret_bool HF.out, B1⟩
      · have HE : Hid ((decide ((0 : Int) ≤ y) && decide (y ≤ (k : Int) - 1)) = false) := by show _ = _; rw [Bool.and_eq_false_iff]; simp; omega
        have HF : Hid (false = (true && goodB m.n 2 (two x y))) := by show _ = _; rw [good_no1 hy]; rfl
        clear hy
        go_wp2_with fail
        go_at_call 39
        refine (l1In_any _ _ _ _).mono ?_
        rintro e w2 ⟨rfl, rfl⟩
        rw [HD.out]
        go_wp2_with fail
        go_at_call 39
        refine (l1In_any _ _ _ _).mono ?_
        rintro e w3 ⟨rfl, rfl⟩
        rw [HE.out]
        go_wp2_with fail
        go_ret
        exact ⟨ret_bool HF.out, B1⟩
    · have HD : Hid ((decide ((0 : Int) ≤ x) && decide (x ≤ (k : Int) - 1)) = false) := by show _ = _; rw [Bool.and_eq_false_iff]; simp; omega
      have HF : Hid (false = (true && goodB m.n 2 (two x y))) := by show _ = _; rw [good_no0 hx]; rfl
      clear hx
      go_wp2_with fail
      go_at_call 39
      refine (l1In_any _ _ _ _).mono ?_
      rintro e w2 ⟨rfl, rfl⟩
      rw [HD.out]
      go_wp2_with fail
      go_ret
      exact ⟨ret_bool HF.out, B1⟩

set_option maxRecDepth 100000 in
set_option maxHeartbeats 2000000 in
theorem spec_NoOf {w : World} {B : Nat} {ua : Option Addr} {l : Lay} {m : Mx} {na : Option Addr} {g o k nc : Nat} {z : Nat → Int} (h : LogAt w B ua l m na g o k z) :
    Calls Try.prog 41 #[.agg #[.slice ua m.n l.cap, .slice na k nc]] w fun e w' => e = .returned (.int .i64 (noV m k z)) ∧ Below w.heap.size w w' := by
  have hX := BoxN.start w #[.slice ua m.n l.cap, .slice na k nc] 30
  have q0 := hX.cell 0 rfl
  have q1 := hX.cell 1 rfl
  have bw := hX.below
  have h2 := Lib.hid (h.step bw)
  have hkk := h.hk
  clear h
  go_enter Try.func41, Try.ntmps41
  go_wp2_with fail
  go_at_call 49
  refine (spec_LogicOk h2.out).mono ?_
  rintro e w1 ⟨rfl, b1⟩
  have B1 := bw.trans (b1.mono bw.size)
  have hX1 := hX.step b1
  have r0 := hX1.cell 0 rfl
  have r1 := hX1.cell 1 rfl
  have h3 := Lib.hid (h2.out.step b1)
  clear q0 q1
  cases hg : logicB m k z with
  | true =>
    have HV : Hid (leastV m = noV m k z) := by show _ = _; unfold noV; rw [if_pos hg, leastV_yes (orderB_true (logicB_is hg).lat.order)]
    clear hg
    go_wp2_with fail
    go_at_call 68
    refine (spec_LeastOf h3.out.hn h3.out.hL h3.out.mat).mono ?_
    rintro e w2 ⟨rfl, rfl⟩
    go_wp2_with fail
    go_ret
    exact ⟨ret_int HV.out, B1⟩
  | false =>
    have HV : Hid ((-1 : Int) = noV m k z) := by show _ = _; unfold noV; rw [if_neg (by rw [hg]; decide)]
    clear hg
    go_wp2_with fail
    go_ret
    exact ⟨ret_int HV.out, B1⟩

end Go.Proofs.Ytjmhhjdkemicbaa
namespace Go.Proofs.Ytjmhhjdkemicbaa
open Go.RowKit Go.Deep

theorem meetQ {B n : Nat} {sa : Option Addr} {l : Lay} {m : Mx} {a b : Nat} {w : World} {z : Nat → Int} {y : Nat → Nat} {o : Nat} (h : MatAt w B sa l m) (hO : Ortho m z y o) (ha : a < m.n) (hb : b < m.n) :
    Calls Try.prog 66 #[.slice sa m.n l.cap, .int .i64 a, .int .i64 b] (w.drewN n) fun e w' => e = .returned (.int .i64 (mN m a b : Nat)) ∧ ∃ k, w' = w.drewN k :=
  quiet_drew ((l1Meet_any (h.drewN n) hO.lat.order ha hb).mono fun _ _ ⟨he, hw⟩ => ⟨by rw [he, hO.mI ha hb], by subst hw; exact Drew.refl _⟩)
theorem joinQ {B n : Nat} {sa : Option Addr} {l : Lay} {m : Mx} {a b : Nat} {w : World} {z : Nat → Int} {y : Nat → Nat} {o : Nat} (h : MatAt w B sa l m) (hO : Ortho m z y o) (ha : a < m.n) (hb : b < m.n) :
    Calls Try.prog 67 #[.slice sa m.n l.cap, .int .i64 a, .int .i64 b] (w.drewN n) fun e w' => e = .returned (.int .i64 (jN m a b : Nat)) ∧ ∃ k, w' = w.drewN k :=
  quiet_drew ((l1Join_any (h.drewN n) hO.lat.order ha hb).mono fun _ _ ⟨he, hw⟩ => ⟨by rw [he, hO.jI ha hb], by subst hw; exact Drew.refl _⟩)

end Go.Proofs.Ytjmhhjdkemicbaa
namespace Go.Proofs.Ytjmhhjdkemicbaa
open Go.RowKit Go.Deep Go.Shelf

attribute [local go_sem] Oper.semAt_some

/-- Nothing speaks against the pairs of the list. -/
def AllKeep (m : Mx) (y : Nat → Nat) (pre : List (Fin m.n × Fin m.n)) : Prop := ∀ p ∈ pre, keepsPB m y p.1.val p.2.val = true
theorem AllKeep.snoc {m : Mx} {y : Nat → Nat} {pre : List (Fin m.n × Fin m.n)} (h : AllKeep m y pre) {x : Fin m.n × Fin m.n} (hx : keepsPB m y x.1.val x.2.val = true) : AllKeep m y (pre ++ [x]) := fun p hp => by
  rcases List.mem_append.1 hp with e | e
  · exact h p e
  · have e' : p = x := by simpa using e
    rw [e']; exact hx

end Go.Proofs.Ytjmhhjdkemicbaa
