import Derived.Test.YtmchgclaeipoeaaZKf
import Derived.Test.YtmchgclaeipoeaaZCf
namespace Go.Proofs.Ytmchgclaeipoeaa
open Go.RowKit Go.Deep Go.Shelf

attribute [local go_sem] Oper.semAt_some

def sameP (y : Nat → Nat) (n0 : Nat) (f f2 : Fm) (m : Mx) (a b d : Nat) : Bool := decide (valN m y n0 a b d f = valN m y n0 a b d f2)
theorem all3_same {m : Mx} {y : Nat → Nat} {n0 : Nat} {f f2 : Fm} : all3B m.n (sameP y n0 f f2 m) = sameB m y n0 f f2 := by
  rw [Bool.eq_iff_iff, all3_iff, same_iff]
  exact ⟨fun h a b d ha hb hd => of_decide_eq_true (h a b d ha hb hd), fun h a b d ha hb hd => decide_eq_true (h a b d ha hb hd)⟩
/-- What SameOk's closure has captured: the algebra, and two formulas. -/
structure PS (w : World) (B ob tb : Nat) (tG : Nat → Nat) (ua : Option Addr) (l : Lay) (m : Mx) (g o nc : Nat) (z : Nat → Int) (y : Nat → Nat) (n0 pa p1 p2 : Nat) (f f2 : Fm) : Prop where
  L : AL w B ob tb tG ua l m g o z y n0
  c0 : w.cell? ⟨pa, 0, none⟩ = some (.slice ua m.n l.cap)
  c1 : w.cell? ⟨pa, 1, none⟩ = some (.slice (some ⟨g, o, none⟩) m.n nc)
  c2 : w.cell? ⟨pa, 2, none⟩ = some (.slice (some ⟨ob, 0, none⟩) 2 2)
  c3 : w.cell? ⟨p1, 0, none⟩ = some (fmV f)
  c4 : w.cell? ⟨p2, 0, none⟩ = some (fmV f2)
theorem PS.step {w w' : World} {B ob tb g o nc n0 pa p1 p2 : Nat} {tG : Nat → Nat} {ua : Option Addr} {l : Lay} {m : Mx} {z : Nat → Int} {y : Nat → Nat} {f f2 : Fm} (h : PS w B ob tb tG ua l m g o nc z y n0 pa p1 p2 f f2) (hb : Below w.heap.size w w') : PS w' B ob tb tG ua l m g o nc z y n0 pa p1 p2 f f2 :=
  have k0 := World.block_lt_of_cell? w ⟨pa, 0, none⟩ h.c0
  have k3 := World.block_lt_of_cell? w ⟨p1, 0, none⟩ h.c3
  have k4 := World.block_lt_of_cell? w ⟨p2, 0, none⟩ h.c4
  ⟨h.L.step hb, (hb.cell (p := ⟨pa, 0, none⟩) k0).trans h.c0, (hb.cell (p := ⟨pa, 1, none⟩) k0).trans h.c1, (hb.cell (p := ⟨pa, 2, none⟩) k0).trans h.c2, (hb.cell (p := ⟨p1, 0, none⟩) k3).trans h.c3, (hb.cell (p := ⟨p2, 0, none⟩) k4).trans h.c4⟩
set_option maxRecDepth 100000 in
set_option maxHeartbeats 4000000 in
theorem sameAt_any {w : World} {B ob tb g o nc n0 pa p1 p2 : Nat} {tG : Nat → Nat} {ua : Option Addr} {l : Lay} {m : Mx} {z : Nat → Int} {y : Nat → Nat} {f f2 : Fm} {a b d : Nat} (h : PS w B ob tb tG ua l m g o nc z y n0 pa p1 p2 f f2) (ha : a < m.n) (hb : b < m.n) (hd : d < m.n) :
    Calls Try.prog 18 #[.int .i64 (a : Int), .int .i64 (b : Int), .int .i64 (d : Int), .pointer (some ⟨pa, 0, none⟩), .pointer (some ⟨p1, 0, none⟩), .pointer (some ⟨p2, 0, none⟩)] w fun e w' => e = .returned (.bool (sameP y n0 f f2 m a b d)) ∧ Below w.heap.size w w' := by
  obtain ⟨tf, vf, ef⟩ := fmV_iface f
  obtain ⟨tg, vg, eg⟩ := fmV_iface f2
  have EF := Lib.hid ef
  have EG := Lib.hid eg
  clear ef eg
  have If : ∀ W, AL W B ob tb tG ua l m g o z y n0 → Calls Try.prog 19 #[.agg #[.slice ua m.n l.cap, .slice (some ⟨g, o, none⟩) m.n nc, .slice (some ⟨ob, 0, none⟩) 2 2], .iface tf vf, .agg #[.int .i64 (a : Int), .int .i64 (b : Int), .int .i64 (d : Int)]] W fun e w' => e = .returned (.int .i64 ((valN m y n0 a b d f : Nat) : Int)) ∧ Below W.heap.size W w' := fun W hW => by
    have h9 := val_all f (nc := nc) hW ha hb hd
    rw [EF.out] at h9
    exact h9
  have Ig : ∀ W, AL W B ob tb tG ua l m g o z y n0 → Calls Try.prog 19 #[.agg #[.slice ua m.n l.cap, .slice (some ⟨g, o, none⟩) m.n nc, .slice (some ⟨ob, 0, none⟩) 2 2], .iface tg vg, .agg #[.int .i64 (a : Int), .int .i64 (b : Int), .int .i64 (d : Int)]] W fun e w' => e = .returned (.int .i64 ((valN m y n0 a b d f2 : Nat) : Int)) ∧ Below W.heap.size W w' := fun W hW => by
    have h9 := val_all f2 (nc := nc) hW ha hb hd
    rw [EG.out] at h9
    exact h9
  have hX := BoxN.start w #[.int .i64 (a : Int), .int .i64 (b : Int), .int .i64 (d : Int)] 50
  have HP := Lib.hid h
  clear h
  go_enter Try.func18, Try.ntmps18
  go_wp2_with fail
  generalize w.alloc (.cells #[.int .i64 (a : Int), .int .i64 (b : Int), .int .i64 (d : Int)] 50) = W at hX ⊢
  have hX0 := hX.step (Below.refl _ W).drew
  have P0 := Lib.hid (HP.out.step hX0.below)
  clear hX HP
  have S0 : (fun w' => w'.cell? ⟨pa, 0, none⟩ = some (.slice ua m.n l.cap) ∧ w'.cell? ⟨pa, 1, none⟩ = some (.slice (some ⟨g, o, none⟩) m.n nc) ∧ w'.cell? ⟨pa, 2, none⟩ = some (.slice (some ⟨ob, 0, none⟩) 2 2) ∧ w'.cell? ⟨p1, 0, none⟩ = some (.iface tf vf) ∧ w'.cell? ⟨p2, 0, none⟩ = some (.iface tg vg) ∧ w'.cell? ⟨w.heap.size, 0, none⟩ = some (.int .i64 (a : Int)) ∧ w'.cell? ⟨w.heap.size, 1, none⟩ = some (.int .i64 (b : Int)) ∧ w'.cell? ⟨w.heap.size, 2, none⟩ = some (.int .i64 (d : Int))) W.drew := ⟨P0.out.c0, P0.out.c1, P0.out.c2, P0.out.c3.trans (congrArg some EF.out), P0.out.c4.trans (congrArg some EG.out), hX0.cell 0 rfl, hX0.cell 1 rfl, hX0.cell 2 rfl⟩
  refine region_plain (fuel := 10) (listed := #[false, false, false, false, false, false, false, false, false, false]) (fun w' => w'.cell? ⟨pa, 0, none⟩ = some (.slice ua m.n l.cap) ∧ w'.cell? ⟨pa, 1, none⟩ = some (.slice (some ⟨g, o, none⟩) m.n nc) ∧ w'.cell? ⟨pa, 2, none⟩ = some (.slice (some ⟨ob, 0, none⟩) 2 2) ∧ w'.cell? ⟨p1, 0, none⟩ = some (.iface tf vf) ∧ w'.cell? ⟨p2, 0, none⟩ = some (.iface tg vg) ∧ w'.cell? ⟨w.heap.size, 0, none⟩ = some (.int .i64 (a : Int)) ∧ w'.cell? ⟨w.heap.size, 1, none⟩ = some (.int .i64 (b : Int)) ∧ w'.cell? ⟨w.heap.size, 2, none⟩ = some (.int .i64 (d : Int))) (by kernel_rfl) (by kernel_rfl) (by kernel_rfl) ?_
  refine hold_take (i := 0) (d := 15) (v := ?vT0) (listed' := #[true, false, false, false, false, false, false, false, false, false]) rfl (by kernel_rfl) (by kernel_rfl) (by kernel_rfl) rfl (by rfl) (by kernel_rfl) S0 ?hT0 ?rT0
  case hT0 =>
    intro w' hSw
    obtain ⟨k0, k1, k2, k3, k4, k5, k6, k7⟩ := hSw
    go_simp
    try with_reducible rfl
  simp only [List.setIfInBounds_toArray, List.set_cons_zero, List.set_cons_succ]
  refine hold_take (i := 1) (d := 16) (v := ?vT1) (listed' := #[true, true, false, false, false, false, false, false, false, false]) rfl (by kernel_rfl) (by kernel_rfl) (by kernel_rfl) rfl (by rfl) (by kernel_rfl) S0 ?hT1 ?rT1
  case hT1 =>
    intro w' hSw
    obtain ⟨k0, k1, k2, k3, k4, k5, k6, k7⟩ := hSw
    go_simp
    try with_reducible rfl
  simp only [List.setIfInBounds_toArray, List.set_cons_zero, List.set_cons_succ]
  refine hold_take (i := 2) (d := 17) (v := ?vT2) (listed' := #[true, true, true, false, false, false, false, false, false, false]) rfl (by kernel_rfl) (by kernel_rfl) (by kernel_rfl) rfl (by rfl) (by kernel_rfl) S0 ?hT2 ?rT2
  case hT2 =>
    intro w' hSw
    obtain ⟨k0, k1, k2, k3, k4, k5, k6, k7⟩ := hSw
    go_simp
    try with_reducible rfl
  simp only [List.setIfInBounds_toArray, List.set_cons_zero, List.set_cons_succ]
  refine hold_take (i := 4) (d := 19) (v := ?vT4) (listed' := #[true, true, true, false, true, false, false, false, false, false]) rfl (by kernel_rfl) (by kernel_rfl) (by kernel_rfl) rfl (by rfl) (by kernel_rfl) S0 ?hT4 ?rT4
  case hT4 =>
    intro w' hSw
    obtain ⟨k0, k1, k2, k3, k4, k5, k6, k7⟩ := hSw
    go_simp
    try with_reducible rfl
  simp only [List.setIfInBounds_toArray, List.set_cons_zero, List.set_cons_succ]
  refine hold_take (i := 5) (d := 20) (v := ?vT5) (listed' := #[true, true, true, false, true, true, false, false, false, false]) rfl (by kernel_rfl) (by kernel_rfl) (by kernel_rfl) rfl (by rfl) (by kernel_rfl) S0 ?hT5 ?rT5
  case hT5 =>
    intro w' hSw
    obtain ⟨k0, k1, k2, k3, k4, k5, k6, k7⟩ := hSw
    go_simp
    try with_reducible rfl
  simp only [List.setIfInBounds_toArray, List.set_cons_zero, List.set_cons_succ]
  refine hold_take (i := 6) (d := 21) (v := ?vT6) (listed' := #[true, true, true, false, true, true, true, false, false, false]) rfl (by kernel_rfl) (by kernel_rfl) (by kernel_rfl) rfl (by rfl) (by kernel_rfl) S0 ?hT6 ?rT6
  case hT6 =>
    intro w' hSw
    obtain ⟨k0, k1, k2, k3, k4, k5, k6, k7⟩ := hSw
    go_simp
    try with_reducible rfl
  simp only [List.setIfInBounds_toArray, List.set_cons_zero, List.set_cons_succ]
  refine hold_call (i := 3) (d := 18) (listed' := #[true, true, true, true, true, true, true, false, false, false]) rfl (by kernel_rfl) rfl (by rfl) (by kernel_rfl) ?heT3 (If _ P0.out.L) ?hcT3
  case heT3 => go_simp
  rintro e x1 ⟨rfl, bb1⟩
  have hX1 := hX0.step bb1
  have P1 := Lib.hid (P0.out.step bb1)
  have S1 : (fun w' => w'.cell? ⟨pa, 0, none⟩ = some (.slice ua m.n l.cap) ∧ w'.cell? ⟨pa, 1, none⟩ = some (.slice (some ⟨g, o, none⟩) m.n nc) ∧ w'.cell? ⟨pa, 2, none⟩ = some (.slice (some ⟨ob, 0, none⟩) 2 2) ∧ w'.cell? ⟨p1, 0, none⟩ = some (.iface tf vf) ∧ w'.cell? ⟨p2, 0, none⟩ = some (.iface tg vg) ∧ w'.cell? ⟨w.heap.size, 0, none⟩ = some (.int .i64 (a : Int)) ∧ w'.cell? ⟨w.heap.size, 1, none⟩ = some (.int .i64 (b : Int)) ∧ w'.cell? ⟨w.heap.size, 2, none⟩ = some (.int .i64 (d : Int))) x1 := ⟨P1.out.c0, P1.out.c1, P1.out.c2, P1.out.c3.trans (congrArg some EF.out), P1.out.c4.trans (congrArg some EG.out), hX1.cell 0 rfl, hX1.cell 1 rfl, hX1.cell 2 rfl⟩
  clear S0 hX0 P0 bb1
  refine ⟨_, rfl, S1, ?_⟩
  simp only [List.setIfInBounds_toArray, List.set_cons_zero, List.set_cons_succ]
  refine hold_call (i := 7) (d := 22) (listed' := #[true, true, true, true, true, true, true, true, false, false]) rfl (by kernel_rfl) rfl (by rfl) (by kernel_rfl) ?heT7 (Ig _ P1.out.L) ?hcT7
  case heT7 => go_simp
  rintro e x2 ⟨rfl, bb2⟩
  have hX2 := hX1.step bb2
  have P2 := Lib.hid (P1.out.step bb2)
  have S2 : (fun w' => w'.cell? ⟨pa, 0, none⟩ = some (.slice ua m.n l.cap) ∧ w'.cell? ⟨pa, 1, none⟩ = some (.slice (some ⟨g, o, none⟩) m.n nc) ∧ w'.cell? ⟨pa, 2, none⟩ = some (.slice (some ⟨ob, 0, none⟩) 2 2) ∧ w'.cell? ⟨p1, 0, none⟩ = some (.iface tf vf) ∧ w'.cell? ⟨p2, 0, none⟩ = some (.iface tg vg) ∧ w'.cell? ⟨w.heap.size, 0, none⟩ = some (.int .i64 (a : Int)) ∧ w'.cell? ⟨w.heap.size, 1, none⟩ = some (.int .i64 (b : Int)) ∧ w'.cell? ⟨w.heap.size, 2, none⟩ = some (.int .i64 (d : Int))) x2 := ⟨P2.out.c0, P2.out.c1, P2.out.c2, P2.out.c3.trans (congrArg some EF.out), P2.out.c4.trans (congrArg some EG.out), hX2.cell 0 rfl, hX2.cell 1 rfl, hX2.cell 2 rfl⟩
  clear S1 hX1 P1 bb2
  refine ⟨_, rfl, S2, ?_⟩
  simp only [List.setIfInBounds_toArray, List.set_cons_zero, List.set_cons_succ]
  refine hold_take (i := 8) (d := 23) (v := ?vT8) (listed' := #[true, true, true, true, true, true, true, true, true, false]) rfl (by kernel_rfl) (by kernel_rfl) (by kernel_rfl) rfl (by rfl) (by kernel_rfl) S2 ?hT8 ?rT8
  case hT8 =>
    intro w' hSw
    obtain ⟨k0, k1, k2, k3, k4, k5, k6, k7⟩ := hSw
    go_simp
    try with_reducible rfl
  simp only [List.setIfInBounds_toArray, List.set_cons_zero, List.set_cons_succ]
  refine hold_take (i := 9) (d := 9) (v := ?vT9) (listed' := #[true, true, true, true, true, true, true, true, true, true]) rfl (by kernel_rfl) (by kernel_rfl) (by kernel_rfl) rfl (by rfl) (by kernel_rfl) S2 ?hT9 ?rT9
  case hT9 =>
    intro w' hSw
    obtain ⟨k0, k1, k2, k3, k4, k5, k6, k7⟩ := hSw
    go_simp
    try with_reducible rfl
  simp only [List.setIfInBounds_toArray, List.set_cons_zero, List.set_cons_succ]
  refine hold_done (by kernel_rfl) ?_ _
  have HV : Hid (sameP y n0 f f2 m a b d = decide (((valN m y n0 a b d f : Nat) : Int) = ((valN m y n0 a b d f2 : Nat) : Int))) := by
    show decide _ = decide _
    rw [decide_eq_decide]; omega
  go_wp2_with fail
  go_returns
  exact ⟨by rw [HV.out]; rfl, hX2.below⟩
set_option maxRecDepth 100000 in
set_option maxHeartbeats 4000000 in
theorem allThree_same {w : World} {B ob tb g o nc n0 pa p1 p2 : Nat} {tG : Nat → Nat} {ua : Option Addr} {l : Lay} {m : Mx} {z : Nat → Int} {y : Nat → Nat} {f f2 : Fm} (h : PS w B ob tb tG ua l m g o nc z y n0 pa p1 p2 f f2) :
    Calls Try.prog 17 #[.agg #[.slice ua m.n l.cap, .slice (some ⟨g, o, none⟩) m.n nc, .slice (some ⟨ob, 0, none⟩) 2 2], .func (.func 18) #[] #[.pointer (some ⟨pa, 0, none⟩), .pointer (some ⟨p1, 0, none⟩), .pointer (some ⟨p2, 0, none⟩)]] w fun e w' => e = .returned (.bool (all3B m.n (sameP y n0 f f2 m))) ∧ Below w.heap.size w w' := by
  have hn := h.L.O.lat.order.top
  have hpos := h.L.O.lat.order.pos
  have hX := BoxN.start w #[.slice ua m.n l.cap, .slice (some ⟨g, o, none⟩) m.n nc, .slice (some ⟨ob, 0, none⟩) 2 2] 42
  have e1 : (w.alloc (.cells #[.slice ua m.n l.cap, .slice (some ⟨g, o, none⟩) m.n nc, .slice (some ⟨ob, 0, none⟩) 2 2] 42)).heap.size = w.heap.size + 1 := World.size_alloc _ _
  have hF := Boxd.start (w.alloc (.cells #[.slice ua m.n l.cap, .slice (some ⟨g, o, none⟩) m.n nc, .slice (some ⟨ob, 0, none⟩) 2 2] 42)) (.func (.func 18) #[] #[.pointer (some ⟨pa, 0, none⟩), .pointer (some ⟨p1, 0, none⟩), .pointer (some ⟨p2, 0, none⟩)]) 52
  have e2 : ((w.alloc (.cells #[.slice ua m.n l.cap, .slice (some ⟨g, o, none⟩) m.n nc, .slice (some ⟨ob, 0, none⟩) 2 2] 42)).alloc (.cells #[.func (.func 18) #[] #[.pointer (some ⟨pa, 0, none⟩), .pointer (some ⟨p1, 0, none⟩), .pointer (some ⟨p2, 0, none⟩)]] 52)).heap.size = w.heap.size + 1 + 1 := by rw [World.size_alloc, e1]
  have hV := Boxd.start ((w.alloc (.cells #[.slice ua m.n l.cap, .slice (some ⟨g, o, none⟩) m.n nc, .slice (some ⟨ob, 0, none⟩) 2 2] 42)).alloc (.cells #[.func (.func 18) #[] #[.pointer (some ⟨pa, 0, none⟩), .pointer (some ⟨p1, 0, none⟩), .pointer (some ⟨p2, 0, none⟩)]] 52)) (.bool false) 4
  have e3 : (((w.alloc (.cells #[.slice ua m.n l.cap, .slice (some ⟨g, o, none⟩) m.n nc, .slice (some ⟨ob, 0, none⟩) 2 2] 42)).alloc (.cells #[.func (.func 18) #[] #[.pointer (some ⟨pa, 0, none⟩), .pointer (some ⟨p1, 0, none⟩), .pointer (some ⟨p2, 0, none⟩)]] 52)).alloc (.cells #[.bool false] 4)).heap.size = w.heap.size + 1 + 1 + 1 := by rw [World.size_alloc, e2]
  have hP := Boxd.start (((w.alloc (.cells #[.slice ua m.n l.cap, .slice (some ⟨g, o, none⟩) m.n nc, .slice (some ⟨ob, 0, none⟩) 2 2] 42)).alloc (.cells #[.func (.func 18) #[] #[.pointer (some ⟨pa, 0, none⟩), .pointer (some ⟨p1, 0, none⟩), .pointer (some ⟨p2, 0, none⟩)]] 52)).alloc (.cells #[.bool false] 4)) (.slice ua m.n l.cap) 39
  have hFc := (hF.step (hV.below.trans (hP.below.mono hV.below.size))).cell
  have hVc := (hV.step hP.below).cell
  have hVf := (hV.step hP.below).frozen
  have hP0 := hP.cell
  have hPs := hP.size
  rw [e1] at hFc
  rw [e2] at hVc hVf
  rw [e3] at hP0 hPs
  have hYP := (hX.step (hF.below.mono (by rw [e1]; omega))).step (hV.below.trans (hP.below.mono hV.below.size))
  have hL2 := Lib.hid (h.step hYP.below)
  have BW := hYP.below
  have q0 := hX.cell 0 rfl
  have hX3 := (hX.step (hF.below.mono (by rw [e1]; omega))).step hV.below
  have r0 := hX3.cell 0 rfl
  clear hX hF hV hP h e1 e2 hX3
  refine (callsIn_wide (n := 9)).1 ?_
  refine callsIn_of_wp_marks Try.func17 rfl trivial ?_ rfl
  simp only [Try.ntmps17, List.size_toArray, List.length_cons, List.length_nil, Nat.reduceAdd, Nat.reduceSub, Array.replicate_succ, Array.replicate_zero, List.push_toArray, List.append_toArray, List.nil_append, List.cons_append]
  gi_wp2_with fail
  refine ⟨trivial, ?_⟩
  refine (pairs_any _ _ _).mono ?_
  rintro e w' ⟨rfl, rfl⟩
  gi_wp2_with fail
  generalize hW0 : ((((w.alloc (.cells #[.slice ua m.n l.cap, .slice (some ⟨g, o, none⟩) m.n nc, .slice (some ⟨ob, 0, none⟩) 2 2] 42)).alloc (.cells #[.func (.func 18) #[] #[.pointer (some ⟨pa, 0, none⟩), .pointer (some ⟨p1, 0, none⟩), .pointer (some ⟨p2, 0, none⟩)]] 52)).alloc (.cells #[.bool false] 4)).alloc (.cells #[.slice ua m.n l.cap] 39)) = W2 at hP0 hPs hYP hL2 hVc hVf hFc BW ⊢
  clear hW0 q0 r0 e3
  refine wpIn_rangeFunc_ownG rfl (by omega) (gf := 49) (lb := #[.pointer (some ⟨w.heap.size + 1 + 1 + 1, 0, none⟩)]) rfl trivial (enters_of Try.func49 (by kernel_rfl) rfl)
    (pairs_stops _ m.n (by omega) hn (w.heap.size + 1 + 1 + 1) W2.heap.size l.cap ua W2 (by omega) (Nat.le_refl _) hP0) belowK_t (belowK_b (Nat.le_refl _)) (Below.refl _ _) (fun _ => rfl)
    (fun pre W => All3 m.n (sameP y n0 f f2 m) pre ∧ Below W2.heap.size W2 W)
    (fun c _ W => (c = .ret ∧ all3B m.n (sameP y n0 f f2 m) = false) ∧ W.cell? ⟨w.heap.size + 1 + 1, 0, none⟩ = some (.bool false) ∧ Below w.heap.size w W)
    (OwnFrom.and (ownFrom_pure _ _) (ownFrom_below (Nat.le_refl _) (Nat.le_refl _)))
    (fun c => OwnFrom.and (ownFrom_pure _ _) (OwnFrom.and (Own.from (fun s A B row hs hg hr => cell_kept hs hg hr) _) (ownFrom_below (Nat.le_refl _) BW.size)))
    ⟨fun p hp => absurd hp (by simp), Below.refl _ _⟩
    (fun x => { tmps := #[.agg #[.slice ua m.n l.cap, .slice (some ⟨g, o, none⟩) m.n nc, .slice (some ⟨ob, 0, none⟩) 2 2], .func (.func 18) #[] #[.pointer (some ⟨pa, 0, none⟩), .pointer (some ⟨p1, 0, none⟩), .pointer (some ⟨p2, 0, none⟩)], .pointer (some ⟨w.heap.size, 0, none⟩), .pointer (some ⟨w.heap.size + 1, 0, none⟩), .pointer (some ⟨w.heap.size + 1 + 1, 0, none⟩), .int .i64 ((x.1.val : Nat) : Int), .int .i64 ((x.2.val : Nat) : Int), undef,
        .pointer (some ⟨w.heap.size, 0, none⟩), .agg #[.slice ua m.n l.cap], .func (.func 49) #[] #[.pointer (some ⟨w.heap.size + 1 + 1 + 1, 0, none⟩)],
        .int .i64 ((x.1.val : Nat) : Int), .int .i64 ((x.2.val : Nat) : Int), undef, undef, undef, undef, undef, undef, undef, undef, undef, undef, undef, undef, undef], defers := [] }) ?assign ?body ?done ?stop
  case assign =>
    intro lr x W K hK
    dsimp only
    clear hP0 hPs hYP hL2 hVc hVf hFc BW hpos hn
    gi_wp2
    exact hK
  case body =>
    rintro lr pre ⟨⟨a, ha⟩, ⟨b, hb⟩⟩ W ⟨hp0, hB⟩ _
    have hp := Lib.hid hp0
    have hs := hB.size
    have hYW := hYP.step hB
    have r1 := hYW.cell 1 rfl
    clear hp0 hP0
    dsimp only
    gi_wp2_with fail
    gi_loopw [16] (fun i wi => ∃ c : Nat, c ≤ m.n ∧ i = .int .i64 c ∧ Below W.heap.size W wi ∧ Hid (∀ d, d < c → sameP y n0 f f2 m a b d = true)) (fun i _ => m.n - (intOf i).toNat)
    case atStart => exact ⟨0, Nat.zero_le _, rfl, Below.refl _ _, fun d hd => absurd hd (Nat.not_lt_zero _)⟩
    case round =>
      obtain ⟨c, hc, rfl, hD, hR⟩ := hrel
      clear r1
      have hBi := hB.trans (hD.mono hs)
      by_cases hct : c < m.n
      · have hct' : (c : Int) < m.n := by omega
        have hLi := Lib.hid (hL2.out.step hBi)
        have f0 := (hBi.cell (p := ⟨w.heap.size + 1, 0, none⟩) (by show w.heap.size + 1 < _; omega)).trans hFc
        have v5 := (hBi.cell (p := ⟨w.heap.size + 1 + 1, 0, none⟩) (by show w.heap.size + 1 + 1 < _; omega)).trans hVc
        have f5 := (hBi.frozen (p := ⟨w.heap.size + 1 + 1, 0, none⟩) (by show w.heap.size + 1 + 1 < _; omega)).trans hVf
        cases hsp : sameP y n0 f f2 m a b c with
        | true =>
          have HS := Lib.hid hsp
          clear hsp
          gi_wp2_with fail
          refine ⟨trivial, ?_⟩
          refine (CallsIn.inRound lr (callsIn_wide.2 (sameAt_any (nc := nc) hLi.out ha hb hct))).mono ?_
          rintro e w5 ⟨rfl, b5⟩
          rw [HS.out]
          have hD5 := hD.trans (b5.mono hD.size)
          clear f0 v5 f5
          gi_wp2_with fail
          go_roundw
          case rel => exact ⟨c + 1, by omega, by go_num, hD5, fun d hd => by
            by_cases e : d = c
            · subst e; exact HS.out
            · exact hR.out d (by omega)⟩
          case measure => simp [intOf]; omega
        | false =>
          have HS := Lib.hid hsp
          have HF : Hid (all3B m.n (sameP y n0 f f2 m) = false) := all3_fails ha hb hct hsp
          clear hsp
          gi_wp2_with fail
          refine ⟨trivial, ?_⟩
          refine (CallsIn.inRound lr (callsIn_wide.2 (sameAt_any (nc := nc) hLi.out ha hb hct))).mono ?_
          rintro e w5 ⟨rfl, b5⟩
          rw [HS.out]
          have hD5 := hD.trans (b5.mono hD.size)
          have hB5 := hBi.trans (b5.mono hBi.size)
          have s5 := hB5.size
          have v6 := (b5.cell (p := ⟨w.heap.size + 1 + 1, 0, none⟩) (by show w.heap.size + 1 + 1 < _; have := hD.size; omega)).trans v5
          have f6 := (b5.frozen (p := ⟨w.heap.size + 1 + 1, 0, none⟩) (by show w.heap.size + 1 + 1 < _; have := hD.size; omega)).trans f5
          clear f0 v5 f5
          gi_wp2_with fail
          exact ⟨(keepsFrom_below hD5).trans ((KeepsOthers.setCell _ _ _).from _), ⟨rfl, HF.out⟩, World.cell?_setCell_same' _ _ _ (by rw [v6]; rfl), (BW.trans (hB5.mono BW.size)).setCell (p := ⟨w.heap.size + 1 + 1, 0, none⟩) (by show w.heap.size ≤ w.heap.size + 1 + 1; omega) _⟩
      · have hct' : ¬ (c : Int) < m.n := by omega
        gi_wp2_with fail
        exact ⟨keepsFrom_below hD, hD.mono hs, hp.out.snoc (fun d hd => hR.out d (by show d < c; have hd : d < m.n := hd; omega)), hBi⟩
  case done =>
    rintro D ys W hD hys ⟨hp0, hB⟩ hK
    have HO' := Lib.hid (hp0.all hys)
    clear hp0
    have v0 := (hB.cell (p := ⟨w.heap.size + 1 + 1, 0, none⟩) (by show w.heap.size + 1 + 1 < _; omega)).trans hVc
    have vf := (hB.frozen (p := ⟨w.heap.size + 1 + 1, 0, none⟩) (by show w.heap.size + 1 + 1 < _; omega)).trans hVf
    have hbW := BW.trans (hB.mono BW.size)
    have hDs : w.heap.size ≤ D := Nat.le_trans BW.size hD
    gi_wp2
    have hK' := (KeepsOthers.setCell W ⟨w.heap.size + 1 + 1, 0, none⟩ (.bool true)).same D _ hK rfl
    refine ⟨by simp, .inl ⟨_, _, rfl, run_takeDeferred hK', ?_⟩⟩
    have hc5 := cell_kept (World.cell?_setCell_same' W ⟨w.heap.size + 1 + 1, 0, none⟩ (.bool true) (by rw [v0]; rfl)) (grownBy_putObj' _ D (.deferred none)) (fun r e => by cases e; exact ⟨_, hK', rfl⟩)
    refine ⟨.bool true, ?_, ret_bool HO'.out.symm, (hbW.setCell (p := ⟨w.heap.size + 1 + 1, 0, none⟩) (by show w.heap.size ≤ w.heap.size + 1 + 1; omega) _).trans (belowK_b (w := w) (Nat.le_refl _) _ D _ _ hDs hK' rfl rfl)⟩
    simp [results, Try.f17, go_sem, hc5]
  case stop =>
    rintro D c pre W hD _ ⟨⟨rfl, hbad⟩, hcr, hB⟩ hK
    have hDs : w.heap.size ≤ D := Nat.le_trans BW.size hD
    gi_wp2
    refine ⟨by simp, .inl ⟨_, _, rfl, run_takeDeferred hK, ?_⟩⟩
    have hc5 := cell_kept hcr (grownBy_putObj' _ D (.deferred none)) (fun r e => by cases e; exact ⟨_, hK, rfl⟩)
    refine ⟨.bool false, ?_, ret_bool hbad.symm, hB.trans (belowK_b (w := w) (Nat.le_refl _) W D _ _ hDs hK rfl rfl)⟩
    simp [results, Try.f17, go_sem, hc5]

/-- What SameOk and AlwaysOk return. -/
noncomputable def sameV (m : Mx) (k : Nat) (z : Nat → Int) (s s2 : List UInt8) : Bool := logicB m k z && (match fmOf s, fmOf s2 with
  | some f, some f2 => formB s && (formB s2 && sameB m (fun c => (z c).toNat) (leastI m).toNat f f2)
  | _, _ => false)
theorem sameV_nol {m : Mx} {k : Nat} {z : Nat → Int} {s s2 : List UInt8} (h : logicB m k z = false) : sameV m k z s s2 = false := by unfold sameV; rw [h]; rfl
theorem sameV_no1 {m : Mx} {k : Nat} {z : Nat → Int} {s s2 : List UInt8} (h : formB s = false) : sameV m k z s s2 = false := by
  unfold sameV
  cases fmOf s <;> cases fmOf s2 <;> simp [h]
theorem sameV_no2 {m : Mx} {k : Nat} {z : Nat → Int} {s s2 : List UInt8} (h : formB s2 = false) : sameV m k z s s2 = false := by
  unfold sameV
  cases fmOf s <;> cases fmOf s2 <;> simp [h]
theorem sameV_yes {m : Mx} {k n0 : Nat} {z : Nat → Int} {s s2 : List UInt8} {f f2 : Fm} (hl : logicB m k z = true) (h1 : formB s = true) (h2 : formB s2 = true) (e1 : fmOf s = some f) (e2 : fmOf s2 = some f2) (hO : Ortho m z (fun c => (z c).toNat) n0) :
    sameV m k z s s2 = sameB m (fun c => (z c).toNat) n0 f f2 := by
  unfold sameV
  rw [hl, e1, e2]
  show (true && (formB s && (formB s2 && _))) = _
  rw [h1, h2, hO.eq, Int.toNat_natCast]; rfl
set_option maxRecDepth 100000 in
set_option maxHeartbeats 4000000 in
theorem SameOk_any {w : World} {B : Nat} {ua : Option Addr} {l : Lay} {m : Mx} {na : Option Addr} {g o k nc : Nat} {z : Nat → Int} (h : LogAt w B ua l m na g o k z) (s s2 : ByteArray) (hs : s.size ≤ 9223372036854775807) (hs2 : s2.size ≤ 9223372036854775807) :
    Calls Try.prog 5 #[.agg #[.slice ua m.n l.cap, .slice na k nc], .string s, .string s2] w fun e w' => e = .returned (.bool (sameV m k z s.data.toList s2.data.toList)) ∧ Below w.heap.size w w' := by
  have hX := BoxN.start w #[.slice ua m.n l.cap, .slice na k nc] 26
  have q0 := hX.cell 0 rfl
  have q1 := hX.cell 1 rfl
  have bw := hX.below
  have h2 := Lib.hid (h.step bw)
  have HS1 := Lib.hid hs
  have HS2 := Lib.hid hs2
  have hrow2 : Hid (RowAt (w.alloc (.cells #[.slice ua m.n l.cap, .slice na k nc] 26)) (w.alloc (.cells #[.slice ua m.n l.cap, .slice na k nc] 26)).heap.size none 0 0 0 (fun _ => 0)) := ⟨fun c hc => absurd hc (Nat.not_lt_zero _)⟩
  clear h hs hs2
  go_enter Try.func5, Try.ntmps5
  go_wp2_with fail
  generalize hW : w.alloc (.cells #[.slice ua m.n l.cap, .slice na k nc] 26) = W at hX bw h2 hrow2 q0 q1 ⊢
  clear hW
  go_at_call 15
  refine (algebraWith_any h2.out hrow2.out (by omega)).mono ?_
  rintro e w1 ⟨b1, (⟨hg, ob, tb, tG, rfl, hA⟩ | ⟨hg, rfl⟩)⟩
  · clear q0 q1 hrow2
    have B1 := bw.trans (b1.mono bw.size)
    have h3 := h2.out.step b1
    clear h2 hX bw
    have hl : logicB m k z = true := by rw [good_nil, Bool.and_true] at hg; exact hg
    obtain ⟨y0, o', hO0⟩ := (logicB_is hl).ortho
    have hkn : k = m.n := (logicB_is hl).pair.len
    subst hkn
    have hO := hO0.own
    have HOO := Lib.hid hO
    have HLL := Lib.hid hl
    obtain ⟨y, hy⟩ : ∃ y : Nat → Nat, y = fun c => (z c).toNat := ⟨_, rfl⟩
    rw [← hy] at hO
    have HY := Lib.hid hy
    obtain ⟨rfl, hL1⟩ := AL.of hA h3 hO
    clear hg hl hy hA h3 hO hO0
    have hY := BoxN.start w1 #[.slice ua m.n l.cap, .slice (some ⟨g, o, none⟩) m.n nc, .slice (some ⟨ob, 0, none⟩) 2 2] 42
    have BY := B1.trans (hY.below.mono B1.size)
    have hL := Lib.hid (hL1.step hY.below)
    clear hL1
    unfold algV
    go_wp2_with fail
    generalize w1.alloc (.cells #[.slice ua m.n l.cap, .slice (some ⟨g, o, none⟩) m.n nc, .slice (some ⟨ob, 0, none⟩) 2 2] 42) = W1 at hY BY hL ⊢
    go_at_call 16
    refine (formulaOf_any s _ HS1.out).mono ?_
    rintro e w2 ⟨b2, ⟨hf, f, he, rfl⟩ | ⟨hf, v2, hv2, rfl⟩⟩
    · have HF := Lib.hid hf
      have HE := Lib.hid he
      clear hf he
      have B2 := BY.trans (b2.mono BY.size)
      have hY2 := hY.step b2
      have hL2 := Lib.hid (hL.out.step b2)
      obtain ⟨tf, vf, ef⟩ := fmV_iface f
      have EF := Lib.hid ef
      rw [ef]
      clear ef hY hL
      have hZ := BoxN.start w2 #[.iface tf vf] 46
      have B3 := B2.trans (hZ.below.mono B2.size)
      have hY3 := hY2.step hZ.below
      have hL3 := Lib.hid (hL2.out.step hZ.below)
      clear hY2 hL2
      go_wp2_with fail
      generalize w2.alloc (.cells #[.iface tf vf] 46) = W2 at hZ B3 hY3 hL3 ⊢
      go_at_call 16
      refine (formulaOf_any s2 _ HS2.out).mono ?_
      rintro e w3 ⟨b3, ⟨hf2, f2, he2, rfl⟩ | ⟨hf2, v3, hv3, rfl⟩⟩
      · have HV : Hid (sameV m m.n z s.data.toList s2.data.toList = sameB m y o' f f2) := by
          show _ = _
          rw [sameV_yes HLL.out HF.out hf2 HE.out he2 HOO.out, HY.out]
        clear hf2 he2
        have B4 := B3.trans (b3.mono B3.size)
        have hY4 := hY3.step b3
        have hZ4 := hZ.step b3
        have hL4 := Lib.hid (hL3.out.step b3)
        obtain ⟨tg, vg, eg⟩ := fmV_iface f2
        have EG := Lib.hid eg
        rw [eg]
        clear eg hY3 hL3 hZ
        have hU := BoxN.start w3 #[.iface tg vg] 46
        have B5 := B4.trans (hU.below.mono B4.size)
        have hY5 := hY4.step hU.below
        have hZ5 := hZ4.step hU.below
        have hL5 := Lib.hid (hL4.out.step hU.below)
        have r0 := hY5.cell 0 rfl
        have r1 := hY5.cell 1 rfl
        have r2 := hY5.cell 2 rfl
        have HPS : Hid (PS (w3.alloc (.cells #[.iface tg vg] 46)) B ob tb tG ua l m g o nc z y o' w1.heap.size w2.heap.size w3.heap.size f f2) :=
          ⟨hL5.out, r0, r1, r2, (hZ5.cell 0 rfl).trans (congrArg some EF.out.symm), (hU.cell 0 rfl).trans (congrArg some EG.out.symm)⟩
        clear hY4 hY5 hZ4 hZ5 hL4 hL5 hU
        go_wp2_with fail
        go_at_call 17
        refine (allThree_same (nc := nc) HPS.out).mono ?_
        rintro e w4 ⟨rfl, b4⟩
        rw [all3_same]
        have B6 := B5.trans (b4.mono B5.size)
        clear r0 r1 r2
        go_wp2_with fail
        go_ret
        exact ⟨ret_bool HV.out.symm, B6⟩
      · have HV : Hid (sameV m m.n z s.data.toList s2.data.toList = false) := sameV_no2 hf2
        have B4 := B3.trans (b3.mono B3.size)
        have B10 := B4.alloc B4.size (.cells #[v3] 46)
        clear hf2
        rcases hv3 with rfl | ⟨t9, x9, rfl⟩
        · go_wp2_with fail
          go_ret
          exact ⟨ret_bool HV.out.symm, B10⟩
        · go_wp2_with fail
          go_ret
          exact ⟨ret_bool HV.out.symm, B10⟩
    · have HV : Hid (sameV m m.n z s.data.toList s2.data.toList = false) := sameV_no1 hf
      have B2 := BY.trans (b2.mono BY.size)
      have B3 := B2.alloc B2.size (.cells #[v2] 46)
      clear hf hY hL BY
      rcases hv2 with rfl | ⟨t8, x8, rfl⟩
      · skip
        go_wp2_with fail
        go_at_call 16
        refine (formulaOf_any s2 _ HS2.out).mono ?_
        rintro e w9 ⟨b9, ⟨-, f9, -, rfl⟩ | ⟨-, v9, hv9, rfl⟩⟩
        · have B9 := B3.trans (b9.mono B3.size)
          have B10 := B9.alloc B9.size (.cells #[fmV f9] 46)
          obtain ⟨t9, x9, e9⟩ := fmV_iface f9
          rw [e9] at B10 ⊢
          clear e9
          go_wp2_with fail
          go_ret
          exact ⟨ret_bool HV.out.symm, B10⟩
        · have B9 := B3.trans (b9.mono B3.size)
          have B10 := B9.alloc B9.size (.cells #[v9] 46)
          rcases hv9 with rfl | ⟨t9, x9, rfl⟩
          · go_wp2_with fail
            go_ret
            exact ⟨ret_bool HV.out.symm, B10⟩
          · go_wp2_with fail
            go_ret
            exact ⟨ret_bool HV.out.symm, B10⟩
      · skip
        go_wp2_with fail
        go_at_call 16
        refine (formulaOf_any s2 _ HS2.out).mono ?_
        rintro e w9 ⟨b9, ⟨-, f9, -, rfl⟩ | ⟨-, v9, hv9, rfl⟩⟩
        · have B9 := B3.trans (b9.mono B3.size)
          have B10 := B9.alloc B9.size (.cells #[fmV f9] 46)
          obtain ⟨t9, x9, e9⟩ := fmV_iface f9
          rw [e9] at B10 ⊢
          clear e9
          go_wp2_with fail
          go_ret
          exact ⟨ret_bool HV.out.symm, B10⟩
        · have B9 := B3.trans (b9.mono B3.size)
          have B10 := B9.alloc B9.size (.cells #[v9] 46)
          rcases hv9 with rfl | ⟨t9, x9, rfl⟩
          · go_wp2_with fail
            go_ret
            exact ⟨ret_bool HV.out.symm, B10⟩
          · go_wp2_with fail
            go_ret
            exact ⟨ret_bool HV.out.symm, B10⟩
  · clear q0 q1 hrow2
    have hl : logicB m k z = false := by rw [good_nil, Bool.and_true] at hg; exact hg
    have HV : Hid (sameV m k z s.data.toList s2.data.toList = false) := sameV_nol hl
    clear hg hl
    have B1 := bw.trans (b1.mono bw.size)
    have BA := B1.alloc B1.size (.cells #[.slice none 0 0, .slice none 0 0, .slice none 0 0] 42)
    unfold noAlg
    go_wp2_with fail
    generalize w1.alloc (.cells #[.slice none 0 0, .slice none 0 0, .slice none 0 0] 42) = W1 at BA ⊢
    go_at_call 16
    refine (formulaOf_any s _ HS1.out).mono ?_
    rintro e w2 ⟨b2, ⟨-, f, -, rfl⟩ | ⟨-, v2, hv2, rfl⟩⟩
    · have B2 := BA.trans (b2.mono BA.size)
      have B3 := B2.alloc B2.size (.cells #[fmV f] 46)
      obtain ⟨t8, x8, e8⟩ := fmV_iface f
      rw [e8] at B3 ⊢
      clear e8
      go_wp2_with fail
      go_at_call 16
      refine (formulaOf_any s2 _ HS2.out).mono ?_
      rintro e w9 ⟨b9, ⟨-, f9, -, rfl⟩ | ⟨-, v9, hv9, rfl⟩⟩
      · have B9 := B3.trans (b9.mono B3.size)
        have B10 := B9.alloc B9.size (.cells #[fmV f9] 46)
        obtain ⟨t9, x9, e9⟩ := fmV_iface f9
        rw [e9] at B10 ⊢
        clear e9
        go_wp2_with fail
        go_ret
        exact ⟨ret_bool HV.out.symm, B10⟩
      · have B9 := B3.trans (b9.mono B3.size)
        have B10 := B9.alloc B9.size (.cells #[v9] 46)
        rcases hv9 with rfl | ⟨t9, x9, rfl⟩
        · go_wp2_with fail
          go_ret
          exact ⟨ret_bool HV.out.symm, B10⟩
        · go_wp2_with fail
          go_ret
          exact ⟨ret_bool HV.out.symm, B10⟩
    · have B2 := BA.trans (b2.mono BA.size)
      have B3 := B2.alloc B2.size (.cells #[v2] 46)
      rcases hv2 with rfl | ⟨t8, x8, rfl⟩
      · skip
        go_wp2_with fail
        go_at_call 16
        refine (formulaOf_any s2 _ HS2.out).mono ?_
        rintro e w9 ⟨b9, ⟨-, f9, -, rfl⟩ | ⟨-, v9, hv9, rfl⟩⟩
        · have B9 := B3.trans (b9.mono B3.size)
          have B10 := B9.alloc B9.size (.cells #[fmV f9] 46)
          obtain ⟨t9, x9, e9⟩ := fmV_iface f9
          rw [e9] at B10 ⊢
          clear e9
          go_wp2_with fail
          go_ret
          exact ⟨ret_bool HV.out.symm, B10⟩
        · have B9 := B3.trans (b9.mono B3.size)
          have B10 := B9.alloc B9.size (.cells #[v9] 46)
          rcases hv9 with rfl | ⟨t9, x9, rfl⟩
          · go_wp2_with fail
            go_ret
            exact ⟨ret_bool HV.out.symm, B10⟩
          · go_wp2_with fail
            go_ret
            exact ⟨ret_bool HV.out.symm, B10⟩
      · skip
        go_wp2_with fail
        go_at_call 16
        refine (formulaOf_any s2 _ HS2.out).mono ?_
        rintro e w9 ⟨b9, ⟨-, f9, -, rfl⟩ | ⟨-, v9, hv9, rfl⟩⟩
        · have B9 := B3.trans (b9.mono B3.size)
          have B10 := B9.alloc B9.size (.cells #[fmV f9] 46)
          obtain ⟨t9, x9, e9⟩ := fmV_iface f9
          rw [e9] at B10 ⊢
          clear e9
          go_wp2_with fail
          go_ret
          exact ⟨ret_bool HV.out.symm, B10⟩
        · have B9 := B3.trans (b9.mono B3.size)
          have B10 := B9.alloc B9.size (.cells #[v9] 46)
          rcases hv9 with rfl | ⟨t9, x9, rfl⟩
          · go_wp2_with fail
            go_ret
            exact ⟨ret_bool HV.out.symm, B10⟩
          · go_wp2_with fail
            go_ret
            exact ⟨ret_bool HV.out.symm, B10⟩

end Go.Proofs.Ytmchgclaeipoeaa
