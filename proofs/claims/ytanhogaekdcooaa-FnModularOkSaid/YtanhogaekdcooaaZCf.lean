import Derived.Test.YtanhogaekdcooaaZCe
namespace Go.Proofs.Ytanhogaekdcooaa
open Go.RowKit Go.Deep Go.Shelf

attribute [local go_sem] Oper.semAt_some

set_option maxRecDepth 100000 in
set_option maxHeartbeats 4000000 in
theorem sameAhead_any {w : World} {B ob tb g o nc n0 a b d : Nat} {tG : Nat → Nat} {ua : Option Addr} {l : Lay} {m : Mx} {z : Nat → Int} {y : Nat → Nat} (h : AL w B ob tb tG ua l m g o z y n0) (ha : a < m.n) (hb : b < m.n) (hd : d < m.n) :
    Calls Try.prog 44 #[.agg #[.slice ua m.n l.cap, .slice (some ⟨g, o, none⟩) m.n nc, .slice (some ⟨ob, 0, none⟩) 2 2], .int .i64 a, .int .i64 b, .int .i64 d] w fun e w' => e = .returned (.bool (modP m a b d)) ∧ Below w.heap.size w w' := by
  have hY := BoxN.start w #[.slice ua m.n l.cap, .slice (some ⟨g, o, none⟩) m.n nc, .slice (some ⟨ob, 0, none⟩) 2 2] 56
  have hL := Lib.hid (h.step hY.below)
  have hB := hY.below
  have hj := h.jlt ha hb
  have hm := h.mlt hb hd
  have HC := Lib.hid (h.O.m_comm d (jN m a b))
  have q0 := hY.cell 0 rfl
  have q1 := hY.cell 1 rfl
  have q2 := hY.cell 2 rfl
  clear h
  go_enter Try.func44, Try.ntmps44
  go_wp2_with fail
  generalize w.alloc (.cells #[.slice ua m.n l.cap, .slice (some ⟨g, o, none⟩) m.n nc, .slice (some ⟨ob, 0, none⟩) 2 2] 56) = W at hY hL hB q0 q1 q2 ⊢
  go_at_call 51
  refine (below_sq hL.out.S ha hd).mono ?_
  rintro e w1 ⟨rfl, b1⟩
  have hY1 := hY.step b1
  have hL1 := Lib.hid (hL.out.step b1)
  have hB1 := hB.trans (b1.mono hB.size)
  have r0 := hY1.cell 0 rfl
  have r1 := hY1.cell 1 rfl
  have r2 := hY1.cell 2 rfl
  clear hY hL hB q0 q1 q2 b1
  cases hle : leB m a d with
  | false =>
    have HV : Hid (true = modP m a b d) := by show _ = _; unfold modP; rw [hle]; rfl
    clear hle
    go_wp2_with fail
    go_ret
    exact ⟨ret_bool HV.out, hB1⟩
  | true =>
    have HV : Hid (decide (jN m a (mN m b d) = mN m (jN m a b) d) = modP m a b d) := by show _ = _; unfold modP; rw [hle]; rfl
    clear hle
    go_wp2_with fail
    have pY0 := hY1.step (Below.refl _ w1).drew
    have pL0 := Lib.hid (hL1.out.step (Below.refl _ w1).drew)
    have pB0 : Below w.heap.size w w1.drew := hB1.drew
    have pS0 : (fun w' => w'.cell? ⟨w.heap.size, 0, none⟩ = some (.slice ua m.n l.cap) ∧ w'.cell? ⟨w.heap.size, 1, none⟩ = some (.slice (some ⟨g, o, none⟩) m.n nc) ∧ w'.cell? ⟨w.heap.size, 2, none⟩ = some (.slice (some ⟨ob, 0, none⟩) 2 2)) w1.drew := ⟨pY0.cell 0 rfl, pY0.cell 1 rfl, pY0.cell 2 rfl⟩
    clear hY1 hL1 hB1
    clear r0 r1 r2
    refine region_plain (fuel := 8) (listed := #[false, false, false, false, false, false, false, false]) (fun w' => w'.cell? ⟨w.heap.size, 0, none⟩ = some (.slice ua m.n l.cap) ∧ w'.cell? ⟨w.heap.size, 1, none⟩ = some (.slice (some ⟨g, o, none⟩) m.n nc) ∧ w'.cell? ⟨w.heap.size, 2, none⟩ = some (.slice (some ⟨ob, 0, none⟩) 2 2)) (by kernel_rfl) (by kernel_rfl) (by kernel_rfl) ?_
    refine hold_take (i := 0) (d := 17) (v := ?vp0) (listed' := #[true, false, false, false, false, false, false, false]) rfl (by kernel_rfl) (by kernel_rfl) (by kernel_rfl) rfl (by rfl) (by kernel_rfl) pS0 ?hp0 ?rp0
    case hp0 =>
      intro w' hSw
      obtain ⟨k0, k1, k2⟩ := hSw
      go_simp
      try with_reducible rfl
    simp only [List.setIfInBounds_toArray, List.set_cons_zero, List.set_cons_succ]
    refine hold_take (i := 1) (d := 18) (v := ?vp1) (listed' := #[true, true, false, false, false, false, false, false]) rfl (by kernel_rfl) (by kernel_rfl) (by kernel_rfl) rfl (by rfl) (by kernel_rfl) pS0 ?hp1 ?rp1
    case hp1 =>
      intro w' hSw
      obtain ⟨k0, k1, k2⟩ := hSw
      go_simp
      try with_reducible rfl
    simp only [List.setIfInBounds_toArray, List.set_cons_zero, List.set_cons_succ]
    refine hold_take (i := 2) (d := 19) (v := ?vp2) (listed' := #[true, true, true, false, false, false, false, false]) rfl (by kernel_rfl) (by kernel_rfl) (by kernel_rfl) rfl (by rfl) (by kernel_rfl) pS0 ?hp2 ?rp2
    case hp2 =>
      intro w' hSw
      obtain ⟨k0, k1, k2⟩ := hSw
      go_simp
      try with_reducible rfl
    simp only [List.setIfInBounds_toArray, List.set_cons_zero, List.set_cons_succ]
    refine hold_take (i := 3) (d := 20) (v := ?vp3) (listed' := #[true, true, true, true, false, false, false, false]) rfl (by kernel_rfl) (by kernel_rfl) (by kernel_rfl) rfl (by rfl) (by kernel_rfl) pS0 ?hp3 ?rp3
    case hp3 =>
      intro w' hSw
      obtain ⟨k0, k1, k2⟩ := hSw
      go_simp
      try with_reducible rfl
    simp only [List.setIfInBounds_toArray, List.set_cons_zero, List.set_cons_succ]
    refine hold_take (i := 4) (d := 21) (v := ?vp4) (listed' := #[true, true, true, true, true, false, false, false]) rfl (by kernel_rfl) (by kernel_rfl) (by kernel_rfl) rfl (by rfl) (by kernel_rfl) pS0 ?hp4 ?rp4
    case hp4 =>
      intro w' hSw
      obtain ⟨k0, k1, k2⟩ := hSw
      go_simp
      try with_reducible rfl
    simp only [List.setIfInBounds_toArray, List.set_cons_zero, List.set_cons_succ]
    refine hold_call (i := 5) (d := 22) (listed' := #[true, true, true, true, true, true, false, false]) rfl (by kernel_rfl) rfl (by rfl) (by kernel_rfl) ?hep5 (joinA (nc := nc) pL0.out ha hb) ?hcp5
    case hep5 => go_simp
    rintro e px1 ⟨rfl, pb1⟩
    have pY1 := pY0.step pb1
    have pL1 := Lib.hid (pL0.out.step pb1)
    have pB1 := pB0.trans (pb1.mono pB0.size)
    have pS1 : (fun w' => w'.cell? ⟨w.heap.size, 0, none⟩ = some (.slice ua m.n l.cap) ∧ w'.cell? ⟨w.heap.size, 1, none⟩ = some (.slice (some ⟨g, o, none⟩) m.n nc) ∧ w'.cell? ⟨w.heap.size, 2, none⟩ = some (.slice (some ⟨ob, 0, none⟩) 2 2)) px1 := ⟨pY1.cell 0 rfl, pY1.cell 1 rfl, pY1.cell 2 rfl⟩
    clear pS0 pL0 pY0 pB0 pb1
    refine ⟨_, rfl, pS1, ?_⟩
    simp only [List.setIfInBounds_toArray, List.set_cons_zero, List.set_cons_succ]
    refine hold_call (i := 6) (d := 23) (listed' := #[true, true, true, true, true, true, true, false]) rfl (by kernel_rfl) rfl (by rfl) (by kernel_rfl) ?hep6 (meetA (nc := nc) pL1.out hd hj) ?hcp6
    case hep6 => go_simp
    rintro e px2 ⟨rfl, pb2⟩
    have pY2 := pY1.step pb2
    have pL2 := Lib.hid (pL1.out.step pb2)
    have pB2 := pB1.trans (pb2.mono pB1.size)
    have pS2 : (fun w' => w'.cell? ⟨w.heap.size, 0, none⟩ = some (.slice ua m.n l.cap) ∧ w'.cell? ⟨w.heap.size, 1, none⟩ = some (.slice (some ⟨g, o, none⟩) m.n nc) ∧ w'.cell? ⟨w.heap.size, 2, none⟩ = some (.slice (some ⟨ob, 0, none⟩) 2 2)) px2 := ⟨pY2.cell 0 rfl, pY2.cell 1 rfl, pY2.cell 2 rfl⟩
    clear pS1 pL1 pY1 pB1 pb2
    refine ⟨_, rfl, pS2, ?_⟩
    simp only [List.setIfInBounds_toArray, List.set_cons_zero, List.set_cons_succ]
    refine hold_take (i := 7) (d := 9) (v := ?vp7) (listed' := #[true, true, true, true, true, true, true, true]) rfl (by kernel_rfl) (by kernel_rfl) (by kernel_rfl) rfl (by rfl) (by kernel_rfl) pS2 ?hp7 ?rp7
    case hp7 =>
      intro w' hSw
      obtain ⟨k0, k1, k2⟩ := hSw
      go_simp
      try with_reducible rfl
    simp only [List.setIfInBounds_toArray, List.set_cons_zero, List.set_cons_succ]
    refine hold_done (by kernel_rfl) ?_ _
    have q0 := pY2.cell 0 rfl
    have q1 := pY2.cell 1 rfl
    have q2 := pY2.cell 2 rfl
    go_wp2_with fail
    have rY0 := pY2.step (Below.refl _ px2).drew
    have rL0 := Lib.hid (pL2.out.step (Below.refl _ px2).drew)
    have rB0 : Below w.heap.size w px2.drew := pB2.drew
    have rS0 : (fun w' => w'.cell? ⟨w.heap.size, 0, none⟩ = some (.slice ua m.n l.cap) ∧ w'.cell? ⟨w.heap.size, 1, none⟩ = some (.slice (some ⟨g, o, none⟩) m.n nc) ∧ w'.cell? ⟨w.heap.size, 2, none⟩ = some (.slice (some ⟨ob, 0, none⟩) 2 2)) px2.drew := ⟨rY0.cell 0 rfl, rY0.cell 1 rfl, rY0.cell 2 rfl⟩
    clear pY2 pL2 pB2
    clear q0 q1 q2 pS2
    refine region_plain (fuel := 8) (listed := #[false, false, false, false, false, false, false, false]) (fun w' => w'.cell? ⟨w.heap.size, 0, none⟩ = some (.slice ua m.n l.cap) ∧ w'.cell? ⟨w.heap.size, 1, none⟩ = some (.slice (some ⟨g, o, none⟩) m.n nc) ∧ w'.cell? ⟨w.heap.size, 2, none⟩ = some (.slice (some ⟨ob, 0, none⟩) 2 2)) (by kernel_rfl) (by kernel_rfl) (by kernel_rfl) ?_
    refine hold_take (i := 0) (d := 24) (v := ?vr0) (listed' := #[true, false, false, false, false, false, false, false]) rfl (by kernel_rfl) (by kernel_rfl) (by kernel_rfl) rfl (by rfl) (by kernel_rfl) rS0 ?hr0 ?rr0
    case hr0 =>
      intro w' hSw
      obtain ⟨k0, k1, k2⟩ := hSw
      go_simp
      try with_reducible rfl
    simp only [List.setIfInBounds_toArray, List.set_cons_zero, List.set_cons_succ]
    refine hold_take (i := 1) (d := 25) (v := ?vr1) (listed' := #[true, true, false, false, false, false, false, false]) rfl (by kernel_rfl) (by kernel_rfl) (by kernel_rfl) rfl (by rfl) (by kernel_rfl) rS0 ?hr1 ?rr1
    case hr1 =>
      intro w' hSw
      obtain ⟨k0, k1, k2⟩ := hSw
      go_simp
      try with_reducible rfl
    simp only [List.setIfInBounds_toArray, List.set_cons_zero, List.set_cons_succ]
    refine hold_take (i := 2) (d := 26) (v := ?vr2) (listed' := #[true, true, true, false, false, false, false, false]) rfl (by kernel_rfl) (by kernel_rfl) (by kernel_rfl) rfl (by rfl) (by kernel_rfl) rS0 ?hr2 ?rr2
    case hr2 =>
      intro w' hSw
      obtain ⟨k0, k1, k2⟩ := hSw
      go_simp
      try with_reducible rfl
    simp only [List.setIfInBounds_toArray, List.set_cons_zero, List.set_cons_succ]
    refine hold_take (i := 3) (d := 27) (v := ?vr3) (listed' := #[true, true, true, true, false, false, false, false]) rfl (by kernel_rfl) (by kernel_rfl) (by kernel_rfl) rfl (by rfl) (by kernel_rfl) rS0 ?hr3 ?rr3
    case hr3 =>
      intro w' hSw
      obtain ⟨k0, k1, k2⟩ := hSw
      go_simp
      try with_reducible rfl
    simp only [List.setIfInBounds_toArray, List.set_cons_zero, List.set_cons_succ]
    refine hold_take (i := 4) (d := 28) (v := ?vr4) (listed' := #[true, true, true, true, true, false, false, false]) rfl (by kernel_rfl) (by kernel_rfl) (by kernel_rfl) rfl (by rfl) (by kernel_rfl) rS0 ?hr4 ?rr4
    case hr4 =>
      intro w' hSw
      obtain ⟨k0, k1, k2⟩ := hSw
      go_simp
      try with_reducible rfl
    simp only [List.setIfInBounds_toArray, List.set_cons_zero, List.set_cons_succ]
    refine hold_call (i := 5) (d := 29) (listed' := #[true, true, true, true, true, true, false, false]) rfl (by kernel_rfl) rfl (by rfl) (by kernel_rfl) ?her5 (meetA (nc := nc) rL0.out hb hd) ?hcr5
    case her5 => go_simp
    rintro e rx1 ⟨rfl, rb1⟩
    have rY1 := rY0.step rb1
    have rL1 := Lib.hid (rL0.out.step rb1)
    have rB1 := rB0.trans (rb1.mono rB0.size)
    have rS1 : (fun w' => w'.cell? ⟨w.heap.size, 0, none⟩ = some (.slice ua m.n l.cap) ∧ w'.cell? ⟨w.heap.size, 1, none⟩ = some (.slice (some ⟨g, o, none⟩) m.n nc) ∧ w'.cell? ⟨w.heap.size, 2, none⟩ = some (.slice (some ⟨ob, 0, none⟩) 2 2)) rx1 := ⟨rY1.cell 0 rfl, rY1.cell 1 rfl, rY1.cell 2 rfl⟩
    clear rS0 rL0 rY0 rB0 rb1
    refine ⟨_, rfl, rS1, ?_⟩
    simp only [List.setIfInBounds_toArray, List.set_cons_zero, List.set_cons_succ]
    refine hold_call (i := 6) (d := 30) (listed' := #[true, true, true, true, true, true, true, false]) rfl (by kernel_rfl) rfl (by rfl) (by kernel_rfl) ?her6 (joinA (nc := nc) rL1.out ha hm) ?hcr6
    case her6 => go_simp
    rintro e rx2 ⟨rfl, rb2⟩
    have rY2 := rY1.step rb2
    have rL2 := Lib.hid (rL1.out.step rb2)
    have rB2 := rB1.trans (rb2.mono rB1.size)
    have rS2 : (fun w' => w'.cell? ⟨w.heap.size, 0, none⟩ = some (.slice ua m.n l.cap) ∧ w'.cell? ⟨w.heap.size, 1, none⟩ = some (.slice (some ⟨g, o, none⟩) m.n nc) ∧ w'.cell? ⟨w.heap.size, 2, none⟩ = some (.slice (some ⟨ob, 0, none⟩) 2 2)) rx2 := ⟨rY2.cell 0 rfl, rY2.cell 1 rfl, rY2.cell 2 rfl⟩
    clear rS1 rL1 rY1 rB1 rb2
    refine ⟨_, rfl, rS2, ?_⟩
    simp only [List.setIfInBounds_toArray, List.set_cons_zero, List.set_cons_succ]
    refine hold_take (i := 7) (d := 10) (v := ?vr7) (listed' := #[true, true, true, true, true, true, true, true]) rfl (by kernel_rfl) (by kernel_rfl) (by kernel_rfl) rfl (by rfl) (by kernel_rfl) rS2 ?hr7 ?rr7
    case hr7 =>
      intro w' hSw
      obtain ⟨k0, k1, k2⟩ := hSw
      go_simp
      try with_reducible rfl
    simp only [List.setIfInBounds_toArray, List.set_cons_zero, List.set_cons_succ]
    refine hold_done (by kernel_rfl) ?_ _
    go_wp2_with fail
    go_ret
    exact ⟨ret_bool (by rw [← HV.out, HC.out, Bool.eq_iff_iff, beq_iff_eq, decide_eq_true_iff]; omega), rB2⟩

def All3 (n : Nat) (p : Nat → Nat → Nat → Bool) (pre : List (Fin n × Fin n)) : Prop := ∀ q ∈ pre, ∀ d, d < n → p q.1.val q.2.val d = true
theorem All3.snoc {n : Nat} {p : Nat → Nat → Nat → Bool} {pre : List (Fin n × Fin n)} (h : All3 n p pre) {x : Fin n × Fin n} (hx : ∀ d, d < n → p x.1.val x.2.val d = true) : All3 n p (pre ++ [x]) := fun q hq => by
  rcases List.mem_append.1 hq with hq | hq
  · exact h q hq
  · have e : q = x := by simpa using hq
    rw [e]; exact hx
theorem All3.all {n : Nat} {p : Nat → Nat → Nat → Bool} {pre : List (Fin n × Fin n)} (h : All3 n p pre) (hall : ∀ a b : Fin n, (a, b) ∈ pre) : all3B n p = true :=
  all3_iff.2 fun a b d ha hb hd => h _ (hall ⟨a, ha⟩ ⟨b, hb⟩) d hd
set_option maxRecDepth 100000 in
set_option maxHeartbeats 4000000 in
theorem allThree_split {w : World} {B ob tb g o nc n0 : Nat} {tG : Nat → Nat} {ua : Option Addr} {l : Lay} {m : Mx} {z : Nat → Int} {y : Nat → Nat} (h : AL w B ob tb tG ua l m g o z y n0) :
    Calls Try.prog 43 #[.agg #[.slice ua m.n l.cap, .slice (some ⟨g, o, none⟩) m.n nc, .slice (some ⟨ob, 0, none⟩) 2 2], .func (.func 48) #[.agg #[.slice ua m.n l.cap, .slice (some ⟨g, o, none⟩) m.n nc, .slice (some ⟨ob, 0, none⟩) 2 2]] #[]] w fun e w' => e = .returned (.bool (all3B m.n (splitB m))) ∧ Below w.heap.size w w' := by
  have hn := h.O.lat.order.top
  have hpos := h.O.lat.order.pos
  have hX := BoxN.start w #[.slice ua m.n l.cap, .slice (some ⟨g, o, none⟩) m.n nc, .slice (some ⟨ob, 0, none⟩) 2 2] 56
  have e1 : (w.alloc (.cells #[.slice ua m.n l.cap, .slice (some ⟨g, o, none⟩) m.n nc, .slice (some ⟨ob, 0, none⟩) 2 2] 56)).heap.size = w.heap.size + 1 := World.size_alloc _ _
  have hF := Boxd.start (w.alloc (.cells #[.slice ua m.n l.cap, .slice (some ⟨g, o, none⟩) m.n nc, .slice (some ⟨ob, 0, none⟩) 2 2] 56)) (.func (.func 48) #[.agg #[.slice ua m.n l.cap, .slice (some ⟨g, o, none⟩) m.n nc, .slice (some ⟨ob, 0, none⟩) 2 2]] #[]) 60
  have e2 : ((w.alloc (.cells #[.slice ua m.n l.cap, .slice (some ⟨g, o, none⟩) m.n nc, .slice (some ⟨ob, 0, none⟩) 2 2] 56)).alloc (.cells #[.func (.func 48) #[.agg #[.slice ua m.n l.cap, .slice (some ⟨g, o, none⟩) m.n nc, .slice (some ⟨ob, 0, none⟩) 2 2]] #[]] 60)).heap.size = w.heap.size + 1 + 1 := by rw [World.size_alloc, e1]
  have hV := Boxd.start ((w.alloc (.cells #[.slice ua m.n l.cap, .slice (some ⟨g, o, none⟩) m.n nc, .slice (some ⟨ob, 0, none⟩) 2 2] 56)).alloc (.cells #[.func (.func 48) #[.agg #[.slice ua m.n l.cap, .slice (some ⟨g, o, none⟩) m.n nc, .slice (some ⟨ob, 0, none⟩) 2 2]] #[]] 60)) (.bool false) 4
  have e3 : (((w.alloc (.cells #[.slice ua m.n l.cap, .slice (some ⟨g, o, none⟩) m.n nc, .slice (some ⟨ob, 0, none⟩) 2 2] 56)).alloc (.cells #[.func (.func 48) #[.agg #[.slice ua m.n l.cap, .slice (some ⟨g, o, none⟩) m.n nc, .slice (some ⟨ob, 0, none⟩) 2 2]] #[]] 60)).alloc (.cells #[.bool false] 4)).heap.size = w.heap.size + 1 + 1 + 1 := by rw [World.size_alloc, e2]
  have hP := Boxd.start (((w.alloc (.cells #[.slice ua m.n l.cap, .slice (some ⟨g, o, none⟩) m.n nc, .slice (some ⟨ob, 0, none⟩) 2 2] 56)).alloc (.cells #[.func (.func 48) #[.agg #[.slice ua m.n l.cap, .slice (some ⟨g, o, none⟩) m.n nc, .slice (some ⟨ob, 0, none⟩) 2 2]] #[]] 60)).alloc (.cells #[.bool false] 4)) (.slice ua m.n l.cap) 53
  have hFc := (hF.step (hV.below.trans (hP.below.mono hV.below.size))).cell
  have hVc := (hV.step hP.below).cell
  have hVf := (hV.step hP.below).frozen
  have hP0 := hP.cell
  have hPs := hP.size
  rw [e1] at hFc
  rw [e2] at hVc hVf
  rw [e3] at hP0 hPs
  have hYP := (hX.step (hF.below.mono (by rw [e1]; omega))).step (hV.below.trans (hP.below.mono hV.below.size))
  have hL2 := Lib.hid (h.step hYP.below)
  have BW := hYP.below
  have q0 := hX.cell 0 rfl
  have hX3 := (hX.step (hF.below.mono (by rw [e1]; omega))).step hV.below
  have r0 := hX3.cell 0 rfl
  clear hX hF hV hP h e1 e2 hX3
  refine (callsIn_wide (n := 9)).1 ?_
  refine callsIn_of_wp_marks Try.func43 rfl trivial ?_ rfl
  simp only [Try.ntmps43, List.size_toArray, List.length_cons, List.length_nil, Nat.reduceAdd, Nat.reduceSub, Array.replicate_succ, Array.replicate_zero, List.push_toArray, List.append_toArray, List.nil_append, List.cons_append]
  gi_wp2_with fail
  refine ⟨trivial, ?_⟩
  refine (pairs_any _ _ _).mono ?_
  rintro e w' ⟨rfl, rfl⟩
  gi_wp2_with fail
  generalize hW0 : ((((w.alloc (.cells #[.slice ua m.n l.cap, .slice (some ⟨g, o, none⟩) m.n nc, .slice (some ⟨ob, 0, none⟩) 2 2] 56)).alloc (.cells #[.func (.func 48) #[.agg #[.slice ua m.n l.cap, .slice (some ⟨g, o, none⟩) m.n nc, .slice (some ⟨ob, 0, none⟩) 2 2]] #[]] 60)).alloc (.cells #[.bool false] 4)).alloc (.cells #[.slice ua m.n l.cap] 53)) = W2 at hP0 hPs hYP hL2 hVc hVf hFc BW ⊢
  clear hW0 q0 r0 e3
  refine wpIn_rangeFunc_ownG rfl (by omega) (gf := 87) (lb := #[.pointer (some ⟨w.heap.size + 1 + 1 + 1, 0, none⟩)]) rfl trivial (enters_of Try.func87 (by kernel_rfl) rfl)
    (pairs_stops _ m.n (by omega) hn (w.heap.size + 1 + 1 + 1) W2.heap.size l.cap ua W2 (by omega) (Nat.le_refl _) hP0) belowK_t (belowK_b (Nat.le_refl _)) (Below.refl _ _) (fun _ => rfl)
    (fun pre W => All3 m.n (splitB m) pre ∧ Below W2.heap.size W2 W)
    (fun c _ W => (c = .ret ∧ all3B m.n (splitB m) = false) ∧ W.cell? ⟨w.heap.size + 1 + 1, 0, none⟩ = some (.bool false) ∧ Below w.heap.size w W)
    (OwnFrom.and (ownFrom_pure _ _) (ownFrom_below (Nat.le_refl _) (Nat.le_refl _)))
    (fun c => OwnFrom.and (ownFrom_pure _ _) (OwnFrom.and (Own.from (fun s A B row hs hg hr => cell_kept hs hg hr) _) (ownFrom_below (Nat.le_refl _) BW.size)))
    ⟨fun p hp => absurd hp (by simp), Below.refl _ _⟩
    (fun x => { tmps := #[.agg #[.slice ua m.n l.cap, .slice (some ⟨g, o, none⟩) m.n nc, .slice (some ⟨ob, 0, none⟩) 2 2], .func (.func 48) #[.agg #[.slice ua m.n l.cap, .slice (some ⟨g, o, none⟩) m.n nc, .slice (some ⟨ob, 0, none⟩) 2 2]] #[], .pointer (some ⟨w.heap.size, 0, none⟩), .pointer (some ⟨w.heap.size + 1, 0, none⟩), .pointer (some ⟨w.heap.size + 1 + 1, 0, none⟩), .int .i64 ((x.1.val : Nat) : Int), .int .i64 ((x.2.val : Nat) : Int), undef,
        .pointer (some ⟨w.heap.size, 0, none⟩), .agg #[.slice ua m.n l.cap], .func (.func 87) #[] #[.pointer (some ⟨w.heap.size + 1 + 1 + 1, 0, none⟩)],
        .int .i64 ((x.1.val : Nat) : Int), .int .i64 ((x.2.val : Nat) : Int), undef, undef, undef, undef, undef, undef, undef, undef, undef, undef, undef, undef, undef], defers := [] }) ?assign ?body ?done ?stop
  case assign =>
    intro lr x W K hK
    dsimp only
    clear hP0 hPs hYP hL2 hVc hVf hFc BW hpos hn
    gi_wp2
    exact hK
  case body =>
    rintro lr pre ⟨⟨a, ha⟩, ⟨b, hb⟩⟩ W ⟨hp0, hB⟩ _
    have hp := Lib.hid hp0
    have hs := hB.size
    have hYW := hYP.step hB
    have r1 := hYW.cell 1 rfl
    clear hp0 hP0
    dsimp only
    gi_wp2_with fail
    gi_loopw [16] (fun i wi => ∃ c : Nat, c ≤ m.n ∧ i = .int .i64 c ∧ Below W.heap.size W wi ∧ Hid (∀ d, d < c → splitB m a b d = true)) (fun i _ => m.n - (intOf i).toNat)
    case atStart => exact ⟨0, Nat.zero_le _, rfl, Below.refl _ _, fun d hd => absurd hd (Nat.not_lt_zero _)⟩
    case round =>
      obtain ⟨c, hc, rfl, hD, hR⟩ := hrel
      clear r1
      have hBi := hB.trans (hD.mono hs)
      by_cases hct : c < m.n
      · have hct' : (c : Int) < m.n := by omega
        have hLi := Lib.hid (hL2.out.step hBi)
        have f0 := (hBi.cell (p := ⟨w.heap.size + 1, 0, none⟩) (by show w.heap.size + 1 < _; omega)).trans hFc
        have v5 := (hBi.cell (p := ⟨w.heap.size + 1 + 1, 0, none⟩) (by show w.heap.size + 1 + 1 < _; omega)).trans hVc
        have f5 := (hBi.frozen (p := ⟨w.heap.size + 1 + 1, 0, none⟩) (by show w.heap.size + 1 + 1 < _; omega)).trans hVf
        cases hsp : splitB m a b c with
        | true =>
          have HS := Lib.hid hsp
          clear hsp
          gi_wp2_with fail
          refine ⟨trivial, ?_⟩
          refine (CallsIn.inRound lr (callsIn_wide.2 (splits_any (nc := nc) hLi.out ha hb hct))).mono ?_
          rintro e w5 ⟨rfl, b5⟩
          rw [HS.out]
          have hD5 := hD.trans (b5.mono hD.size)
          clear f0 v5 f5
          gi_wp2_with fail
          go_roundw
          case rel => exact ⟨c + 1, by omega, by go_num, hD5, fun d hd => by
            by_cases e : d = c
            · subst e; exact HS.out
            · exact hR.out d (by omega)⟩
          case measure => simp [intOf]; omega
        | false =>
          have HS := Lib.hid hsp
          have HF : Hid (all3B m.n (splitB m) = false) := all3_fails ha hb hct hsp
          clear hsp
          gi_wp2_with fail
          refine ⟨trivial, ?_⟩
          refine (CallsIn.inRound lr (callsIn_wide.2 (splits_any (nc := nc) hLi.out ha hb hct))).mono ?_
          rintro e w5 ⟨rfl, b5⟩
          rw [HS.out]
          have hD5 := hD.trans (b5.mono hD.size)
          have hB5 := hBi.trans (b5.mono hBi.size)
          have s5 := hB5.size
          have v6 := (b5.cell (p := ⟨w.heap.size + 1 + 1, 0, none⟩) (by show w.heap.size + 1 + 1 < _; have := hD.size; omega)).trans v5
          have f6 := (b5.frozen (p := ⟨w.heap.size + 1 + 1, 0, none⟩) (by show w.heap.size + 1 + 1 < _; have := hD.size; omega)).trans f5
          clear f0 v5 f5
          gi_wp2_with fail
          exact ⟨(keepsFrom_below hD5).trans ((KeepsOthers.setCell _ _ _).from _), ⟨rfl, HF.out⟩, World.cell?_setCell_same' _ _ _ (by rw [v6]; rfl), (BW.trans (hB5.mono BW.size)).setCell (p := ⟨w.heap.size + 1 + 1, 0, none⟩) (by show w.heap.size ≤ w.heap.size + 1 + 1; omega) _⟩
      · have hct' : ¬ (c : Int) < m.n := by omega
        gi_wp2_with fail
        exact ⟨keepsFrom_below hD, hD.mono hs, hp.out.snoc (fun d hd => hR.out d (by show d < c; have hd : d < m.n := hd; omega)), hBi⟩
  case done =>
    rintro D ys W hD hys ⟨hp0, hB⟩ hK
    have HO' := Lib.hid (hp0.all hys)
    clear hp0
    have v0 := (hB.cell (p := ⟨w.heap.size + 1 + 1, 0, none⟩) (by show w.heap.size + 1 + 1 < _; omega)).trans hVc
    have vf := (hB.frozen (p := ⟨w.heap.size + 1 + 1, 0, none⟩) (by show w.heap.size + 1 + 1 < _; omega)).trans hVf
    have hbW := BW.trans (hB.mono BW.size)
    have hDs : w.heap.size ≤ D := Nat.le_trans BW.size hD
    gi_wp2
    have hK' := (KeepsOthers.setCell W ⟨w.heap.size + 1 + 1, 0, none⟩ (.bool true)).same D _ hK rfl
    refine ⟨by simp, .inl ⟨_, _, rfl, run_takeDeferred hK', ?_⟩⟩
    have hc5 := cell_kept (World.cell?_setCell_same' W ⟨w.heap.size + 1 + 1, 0, none⟩ (.bool true) (by rw [v0]; rfl)) (grownBy_putObj' _ D (.deferred none)) (fun r e => by cases e; exact ⟨_, hK', rfl⟩)
    refine ⟨.bool true, ?_, ret_bool HO'.out.symm, (hbW.setCell (p := ⟨w.heap.size + 1 + 1, 0, none⟩) (by show w.heap.size ≤ w.heap.size + 1 + 1; omega) _).trans (belowK_b (w := w) (Nat.le_refl _) _ D _ _ hDs hK' rfl rfl)⟩
    simp [results, Try.f43, go_sem, hc5]
  case stop =>
    rintro D c pre W hD _ ⟨⟨rfl, hbad⟩, hcr, hB⟩ hK
    have hDs : w.heap.size ≤ D := Nat.le_trans BW.size hD
    gi_wp2
    refine ⟨by simp, .inl ⟨_, _, rfl, run_takeDeferred hK, ?_⟩⟩
    have hc5 := cell_kept hcr (grownBy_putObj' _ D (.deferred none)) (fun r e => by cases e; exact ⟨_, hK, rfl⟩)
    refine ⟨.bool false, ?_, ret_bool hbad.symm, hB.trans (belowK_b (w := w) (Nat.le_refl _) W D _ _ hDs hK rfl rfl)⟩
    simp [results, Try.f43, go_sem, hc5]

set_option maxRecDepth 100000 in
set_option maxHeartbeats 4000000 in
theorem allThree_mod {w : World} {B ob tb g o nc n0 : Nat} {tG : Nat → Nat} {ua : Option Addr} {l : Lay} {m : Mx} {z : Nat → Int} {y : Nat → Nat} (h : AL w B ob tb tG ua l m g o z y n0) :
    Calls Try.prog 43 #[.agg #[.slice ua m.n l.cap, .slice (some ⟨g, o, none⟩) m.n nc, .slice (some ⟨ob, 0, none⟩) 2 2], .func (.func 44) #[.agg #[.slice ua m.n l.cap, .slice (some ⟨g, o, none⟩) m.n nc, .slice (some ⟨ob, 0, none⟩) 2 2]] #[]] w fun e w' => e = .returned (.bool (all3B m.n (modP m))) ∧ Below w.heap.size w w' := by
  have hn := h.O.lat.order.top
  have hpos := h.O.lat.order.pos
  have hX := BoxN.start w #[.slice ua m.n l.cap, .slice (some ⟨g, o, none⟩) m.n nc, .slice (some ⟨ob, 0, none⟩) 2 2] 56
  have e1 : (w.alloc (.cells #[.slice ua m.n l.cap, .slice (some ⟨g, o, none⟩) m.n nc, .slice (some ⟨ob, 0, none⟩) 2 2] 56)).heap.size = w.heap.size + 1 := World.size_alloc _ _
  have hF := Boxd.start (w.alloc (.cells #[.slice ua m.n l.cap, .slice (some ⟨g, o, none⟩) m.n nc, .slice (some ⟨ob, 0, none⟩) 2 2] 56)) (.func (.func 44) #[.agg #[.slice ua m.n l.cap, .slice (some ⟨g, o, none⟩) m.n nc, .slice (some ⟨ob, 0, none⟩) 2 2]] #[]) 60
  have e2 : ((w.alloc (.cells #[.slice ua m.n l.cap, .slice (some ⟨g, o, none⟩) m.n nc, .slice (some ⟨ob, 0, none⟩) 2 2] 56)).alloc (.cells #[.func (.func 44) #[.agg #[.slice ua m.n l.cap, .slice (some ⟨g, o, none⟩) m.n nc, .slice (some ⟨ob, 0, none⟩) 2 2]] #[]] 60)).heap.size = w.heap.size + 1 + 1 := by rw [World.size_alloc, e1]
  have hV := Boxd.start ((w.alloc (.cells #[.slice ua m.n l.cap, .slice (some ⟨g, o, none⟩) m.n nc, .slice (some ⟨ob, 0, none⟩) 2 2] 56)).alloc (.cells #[.func (.func 44) #[.agg #[.slice ua m.n l.cap, .slice (some ⟨g, o, none⟩) m.n nc, .slice (some ⟨ob, 0, none⟩) 2 2]] #[]] 60)) (.bool false) 4
  have e3 : (((w.alloc (.cells #[.slice ua m.n l.cap, .slice (some ⟨g, o, none⟩) m.n nc, .slice (some ⟨ob, 0, none⟩) 2 2] 56)).alloc (.cells #[.func (.func 44) #[.agg #[.slice ua m.n l.cap, .slice (some ⟨g, o, none⟩) m.n nc, .slice (some ⟨ob, 0, none⟩) 2 2]] #[]] 60)).alloc (.cells #[.bool false] 4)).heap.size = w.heap.size + 1 + 1 + 1 := by rw [World.size_alloc, e2]
  have hP := Boxd.start (((w.alloc (.cells #[.slice ua m.n l.cap, .slice (some ⟨g, o, none⟩) m.n nc, .slice (some ⟨ob, 0, none⟩) 2 2] 56)).alloc (.cells #[.func (.func 44) #[.agg #[.slice ua m.n l.cap, .slice (some ⟨g, o, none⟩) m.n nc, .slice (some ⟨ob, 0, none⟩) 2 2]] #[]] 60)).alloc (.cells #[.bool false] 4)) (.slice ua m.n l.cap) 53
  have hFc := (hF.step (hV.below.trans (hP.below.mono hV.below.size))).cell
  have hVc := (hV.step hP.below).cell
  have hVf := (hV.step hP.below).frozen
  have hP0 := hP.cell
  have hPs := hP.size
  rw [e1] at hFc
  rw [e2] at hVc hVf
  rw [e3] at hP0 hPs
  have hYP := (hX.step (hF.below.mono (by rw [e1]; omega))).step (hV.below.trans (hP.below.mono hV.below.size))
  have hL2 := Lib.hid (h.step hYP.below)
  have BW := hYP.below
  have q0 := hX.cell 0 rfl
  have hX3 := (hX.step (hF.below.mono (by rw [e1]; omega))).step hV.below
  have r0 := hX3.cell 0 rfl
  clear hX hF hV hP h e1 e2 hX3
  refine (callsIn_wide (n := 9)).1 ?_
  refine callsIn_of_wp_marks Try.func43 rfl trivial ?_ rfl
  simp only [Try.ntmps43, List.size_toArray, List.length_cons, List.length_nil, Nat.reduceAdd, Nat.reduceSub, Array.replicate_succ, Array.replicate_zero, List.push_toArray, List.append_toArray, List.nil_append, List.cons_append]
  gi_wp2_with fail
  refine ⟨trivial, ?_⟩
  refine (pairs_any _ _ _).mono ?_
  rintro e w' ⟨rfl, rfl⟩
  gi_wp2_with fail
  generalize hW0 : ((((w.alloc (.cells #[.slice ua m.n l.cap, .slice (some ⟨g, o, none⟩) m.n nc, .slice (some ⟨ob, 0, none⟩) 2 2] 56)).alloc (.cells #[.func (.func 44) #[.agg #[.slice ua m.n l.cap, .slice (some ⟨g, o, none⟩) m.n nc, .slice (some ⟨ob, 0, none⟩) 2 2]] #[]] 60)).alloc (.cells #[.bool false] 4)).alloc (.cells #[.slice ua m.n l.cap] 53)) = W2 at hP0 hPs hYP hL2 hVc hVf hFc BW ⊢
  clear hW0 q0 r0 e3
  refine wpIn_rangeFunc_ownG rfl (by omega) (gf := 87) (lb := #[.pointer (some ⟨w.heap.size + 1 + 1 + 1, 0, none⟩)]) rfl trivial (enters_of Try.func87 (by kernel_rfl) rfl)
    (pairs_stops _ m.n (by omega) hn (w.heap.size + 1 + 1 + 1) W2.heap.size l.cap ua W2 (by omega) (Nat.le_refl _) hP0) belowK_t (belowK_b (Nat.le_refl _)) (Below.refl _ _) (fun _ => rfl)
    (fun pre W => All3 m.n (modP m) pre ∧ Below W2.heap.size W2 W)
    (fun c _ W => (c = .ret ∧ all3B m.n (modP m) = false) ∧ W.cell? ⟨w.heap.size + 1 + 1, 0, none⟩ = some (.bool false) ∧ Below w.heap.size w W)
    (OwnFrom.and (ownFrom_pure _ _) (ownFrom_below (Nat.le_refl _) (Nat.le_refl _)))
    (fun c => OwnFrom.and (ownFrom_pure _ _) (OwnFrom.and (Own.from (fun s A B row hs hg hr => cell_kept hs hg hr) _) (ownFrom_below (Nat.le_refl _) BW.size)))
    ⟨fun p hp => absurd hp (by simp), Below.refl _ _⟩
    (fun x => { tmps := #[.agg #[.slice ua m.n l.cap, .slice (some ⟨g, o, none⟩) m.n nc, .slice (some ⟨ob, 0, none⟩) 2 2], .func (.func 44) #[.agg #[.slice ua m.n l.cap, .slice (some ⟨g, o, none⟩) m.n nc, .slice (some ⟨ob, 0, none⟩) 2 2]] #[], .pointer (some ⟨w.heap.size, 0, none⟩), .pointer (some ⟨w.heap.size + 1, 0, none⟩), .pointer (some ⟨w.heap.size + 1 + 1, 0, none⟩), .int .i64 ((x.1.val : Nat) : Int), .int .i64 ((x.2.val : Nat) : Int), undef,
        .pointer (some ⟨w.heap.size, 0, none⟩), .agg #[.slice ua m.n l.cap], .func (.func 87) #[] #[.pointer (some ⟨w.heap.size + 1 + 1 + 1, 0, none⟩)],
        .int .i64 ((x.1.val : Nat) : Int), .int .i64 ((x.2.val : Nat) : Int), undef, undef, undef, undef, undef, undef, undef, undef, undef, undef, undef, undef, undef], defers := [] }) ?assign ?body ?done ?stop
  case assign =>
    intro lr x W K hK
    dsimp only
    clear hP0 hPs hYP hL2 hVc hVf hFc BW hpos hn
    gi_wp2
    exact hK
  case body =>
    rintro lr pre ⟨⟨a, ha⟩, ⟨b, hb⟩⟩ W ⟨hp0, hB⟩ _
    have hp := Lib.hid hp0
    have hs := hB.size
    have hYW := hYP.step hB
    have r1 := hYW.cell 1 rfl
    clear hp0 hP0
    dsimp only
    gi_wp2_with fail
    gi_loopw [16] (fun i wi => ∃ c : Nat, c ≤ m.n ∧ i = .int .i64 c ∧ Below W.heap.size W wi ∧ Hid (∀ d, d < c → modP m a b d = true)) (fun i _ => m.n - (intOf i).toNat)
    case atStart => exact ⟨0, Nat.zero_le _, rfl, Below.refl _ _, fun d hd => absurd hd (Nat.not_lt_zero _)⟩
    case round =>
      obtain ⟨c, hc, rfl, hD, hR⟩ := hrel
      clear r1
      have hBi := hB.trans (hD.mono hs)
      by_cases hct : c < m.n
      · have hct' : (c : Int) < m.n := by omega
        have hLi := Lib.hid (hL2.out.step hBi)
        have f0 := (hBi.cell (p := ⟨w.heap.size + 1, 0, none⟩) (by show w.heap.size + 1 < _; omega)).trans hFc
        have v5 := (hBi.cell (p := ⟨w.heap.size + 1 + 1, 0, none⟩) (by show w.heap.size + 1 + 1 < _; omega)).trans hVc
        have f5 := (hBi.frozen (p := ⟨w.heap.size + 1 + 1, 0, none⟩) (by show w.heap.size + 1 + 1 < _; omega)).trans hVf
        cases hsp : modP m a b c with
        | true =>
          have HS := Lib.hid hsp
          clear hsp
          gi_wp2_with fail
          refine ⟨trivial, ?_⟩
          refine (CallsIn.inRound lr (callsIn_wide.2 (sameAhead_any (nc := nc) hLi.out ha hb hct))).mono ?_
          rintro e w5 ⟨rfl, b5⟩
          rw [HS.out]
          have hD5 := hD.trans (b5.mono hD.size)
          clear f0 v5 f5
          gi_wp2_with fail
          go_roundw
          case rel => exact ⟨c + 1, by omega, by go_num, hD5, fun d hd => by
            by_cases e : d = c
            · subst e; exact HS.out
            · exact hR.out d (by omega)⟩
          case measure => simp [intOf]; omega
        | false =>
          have HS := Lib.hid hsp
          have HF : Hid (all3B m.n (modP m) = false) := all3_fails ha hb hct hsp
          clear hsp
          gi_wp2_with fail
          refine ⟨trivial, ?_⟩
          refine (CallsIn.inRound lr (callsIn_wide.2 (sameAhead_any (nc := nc) hLi.out ha hb hct))).mono ?_
          rintro e w5 ⟨rfl, b5⟩
          rw [HS.out]
          have hD5 := hD.trans (b5.mono hD.size)
          have hB5 := hBi.trans (b5.mono hBi.size)
          have s5 := hB5.size
          have v6 := (b5.cell (p := ⟨w.heap.size + 1 + 1, 0, none⟩) (by show w.heap.size + 1 + 1 < _; have := hD.size; omega)).trans v5
          have f6 := (b5.frozen (p := ⟨w.heap.size + 1 + 1, 0, none⟩) (by show w.heap.size + 1 + 1 < _; have := hD.size; omega)).trans f5
          clear f0 v5 f5
          gi_wp2_with fail
          exact ⟨(keepsFrom_below hD5).trans ((KeepsOthers.setCell _ _ _).from _), ⟨rfl, HF.out⟩, World.cell?_setCell_same' _ _ _ (by rw [v6]; rfl), (BW.trans (hB5.mono BW.size)).setCell (p := ⟨w.heap.size + 1 + 1, 0, none⟩) (by show w.heap.size ≤ w.heap.size + 1 + 1; omega) _⟩
      · have hct' : ¬ (c : Int) < m.n := by omega
        gi_wp2_with fail
        exact ⟨keepsFrom_below hD, hD.mono hs, hp.out.snoc (fun d hd => hR.out d (by show d < c; have hd : d < m.n := hd; omega)), hBi⟩
  case done =>
    rintro D ys W hD hys ⟨hp0, hB⟩ hK
    have HO' := Lib.hid (hp0.all hys)
    clear hp0
    have v0 := (hB.cell (p := ⟨w.heap.size + 1 + 1, 0, none⟩) (by show w.heap.size + 1 + 1 < _; omega)).trans hVc
    have vf := (hB.frozen (p := ⟨w.heap.size + 1 + 1, 0, none⟩) (by show w.heap.size + 1 + 1 < _; omega)).trans hVf
    have hbW := BW.trans (hB.mono BW.size)
    have hDs : w.heap.size ≤ D := Nat.le_trans BW.size hD
    gi_wp2
    have hK' := (KeepsOthers.setCell W ⟨w.heap.size + 1 + 1, 0, none⟩ (.bool true)).same D _ hK rfl
    refine ⟨by simp, .inl ⟨_, _, rfl, run_takeDeferred hK', ?_⟩⟩
    have hc5 := cell_kept (World.cell?_setCell_same' W ⟨w.heap.size + 1 + 1, 0, none⟩ (.bool true) (by rw [v0]; rfl)) (grownBy_putObj' _ D (.deferred none)) (fun r e => by cases e; exact ⟨_, hK', rfl⟩)
    refine ⟨.bool true, ?_, ret_bool HO'.out.symm, (hbW.setCell (p := ⟨w.heap.size + 1 + 1, 0, none⟩) (by show w.heap.size ≤ w.heap.size + 1 + 1; omega) _).trans (belowK_b (w := w) (Nat.le_refl _) _ D _ _ hDs hK' rfl rfl)⟩
    simp [results, Try.f43, go_sem, hc5]
  case stop =>
    rintro D c pre W hD _ ⟨⟨rfl, hbad⟩, hcr, hB⟩ hK
    have hDs : w.heap.size ≤ D := Nat.le_trans BW.size hD
    gi_wp2
    refine ⟨by simp, .inl ⟨_, _, rfl, run_takeDeferred hK, ?_⟩⟩
    have hc5 := cell_kept hcr (grownBy_putObj' _ D (.deferred none)) (fun r e => by cases e; exact ⟨_, hK, rfl⟩)
    refine ⟨.bool false, ?_, ret_bool hbad.symm, hB.trans (belowK_b (w := w) (Nat.le_refl _) W D _ _ hDs hK rfl rfl)⟩
    simp [results, Try.f43, go_sem, hc5]

set_option maxRecDepth 100000 in
set_option maxHeartbeats 4000000 in
theorem ModularOk_any {w : World} {B : Nat} {ua : Option Addr} {l : Lay} {m : Mx} {na : Option Addr} {g o k nc : Nat} {z : Nat → Int} (h : LogAt w B ua l m na g o k z) :
    Calls Try.prog 13 #[.agg #[.slice ua m.n l.cap, .slice na k nc]] w fun e w' => e = .returned (.bool (modV m k z)) ∧ Below w.heap.size w w' := by
  have hX := BoxN.start w #[.slice ua m.n l.cap, .slice na k nc] 26
  have q0 := hX.cell 0 rfl
  have q1 := hX.cell 1 rfl
  have bw := hX.below
  have h2 := Lib.hid (h.step bw)
  have hsz : (w.alloc (.cells #[.slice ua m.n l.cap, .slice na k nc] 26)).heap.size ≥ w.heap.size + 1 := by simp
  have hrow2 : Hid (RowAt (w.alloc (.cells #[.slice ua m.n l.cap, .slice na k nc] 26)) (w.alloc (.cells #[.slice ua m.n l.cap, .slice na k nc] 26)).heap.size none 0 0 0 (fun _ => 0)) := ⟨fun c hc => absurd hc (Nat.not_lt_zero _)⟩
  clear h
  go_enter Try.func13, Try.ntmps13
  go_wp2_with fail
  generalize hW : w.alloc (.cells #[.slice ua m.n l.cap, .slice na k nc] 26) = W at hX bw hsz h2 hrow2 q0 q1 ⊢
  clear hW
  go_at_call 42
  refine (algebraWith_any h2.out hrow2.out (by omega)).mono ?_
  rintro e w1 ⟨b1, (⟨hg, ob, tb, tG, rfl, hA⟩ | ⟨hg, rfl⟩)⟩
  · clear q0 q1 hrow2
    have B1 := bw.trans (b1.mono bw.size)
    have h3 := h2.out.step b1
    clear h2 hX bw hsz
    have hl : logicB m k z = true := by rw [good_nil, Bool.and_true] at hg; exact hg
    obtain ⟨y0, o', hO0⟩ := (logicB_is hl).ortho
    have hkn : k = m.n := (logicB_is hl).pair.len
    subst hkn
    have hO := hO0.own
    obtain ⟨y, hy⟩ : ∃ y : Nat → Nat, y = fun c => (z c).toNat := ⟨_, rfl⟩
    rw [← hy] at hO
    obtain ⟨rfl, hL1⟩ := AL.of hA h3 hO
    have HV : Hid (modB m = modV m m.n z) := by
      show _ = _
      unfold modV
      rw [hl]; rfl
    clear hg hl hy hA h3 hO hO0
    have hY := BoxN.start w1 #[.slice ua m.n l.cap, .slice (some ⟨g, o, none⟩) m.n nc, .slice (some ⟨ob, 0, none⟩) 2 2] 56
    have BY := B1.trans (hY.below.mono B1.size)
    have hL := Lib.hid (hL1.step hY.below)
    clear hL1
    have r0 := hY.cell 0 rfl
    have r1 := hY.cell 1 rfl
    have r2 := hY.cell 2 rfl
    unfold algV
    go_wp2_with fail
    go_at_call 43
    refine (allThree_mod (nc := nc) hL.out).mono ?_
    rintro e w2 ⟨rfl, b2⟩
    rw [all3_mod]
    have B2 := BY.trans (b2.mono BY.size)
    clear hY r0 r1 r2 hL
    go_wp2_with fail
    go_ret
    exact ⟨ret_bool HV.out, B2⟩
  · clear q0 q1 hrow2
    have hl : logicB m k z = false := by rw [good_nil, Bool.and_true] at hg; exact hg
    have HV : Hid (false = modV m k z) := by show _ = _; unfold modV; rw [hl]; rfl
    clear hg hl
    have B1 := bw.trans (b1.mono bw.size)
    have B2 := B1.alloc B1.size (.cells #[.slice none 0 0, .slice none 0 0, .slice none 0 0] 56)
    unfold noAlg
    go_wp2_with fail
    go_ret
    exact ⟨ret_bool HV.out, B2⟩

set_option maxRecDepth 100000 in
set_option maxHeartbeats 4000000 in
theorem BooleanOk_any {w : World} {B : Nat} {ua : Option Addr} {l : Lay} {m : Mx} {na : Option Addr} {g o k nc : Nat} {z : Nat → Int} (h : LogAt w B ua l m na g o k z) :
    Calls Try.prog 17 #[.agg #[.slice ua m.n l.cap, .slice na k nc]] w fun e w' => e = .returned (.bool (boolV m k z)) ∧ Below w.heap.size w w' := by
  have hX := BoxN.start w #[.slice ua m.n l.cap, .slice na k nc] 26
  have q0 := hX.cell 0 rfl
  have q1 := hX.cell 1 rfl
  have bw := hX.below
  have h2 := Lib.hid (h.step bw)
  have hsz : (w.alloc (.cells #[.slice ua m.n l.cap, .slice na k nc] 26)).heap.size ≥ w.heap.size + 1 := by simp
  have hrow2 : Hid (RowAt (w.alloc (.cells #[.slice ua m.n l.cap, .slice na k nc] 26)) (w.alloc (.cells #[.slice ua m.n l.cap, .slice na k nc] 26)).heap.size none 0 0 0 (fun _ => 0)) := ⟨fun c hc => absurd hc (Nat.not_lt_zero _)⟩
  clear h
  go_enter Try.func17, Try.ntmps17
  go_wp2_with fail
  generalize hW : w.alloc (.cells #[.slice ua m.n l.cap, .slice na k nc] 26) = W at hX bw hsz h2 hrow2 q0 q1 ⊢
  clear hW
  go_at_call 42
  refine (algebraWith_any h2.out hrow2.out (by omega)).mono ?_
  rintro e w1 ⟨b1, (⟨hg, ob, tb, tG, rfl, hA⟩ | ⟨hg, rfl⟩)⟩
  · clear q0 q1 hrow2
    have B1 := bw.trans (b1.mono bw.size)
    have h3 := h2.out.step b1
    clear h2 hX bw hsz
    have hl : logicB m k z = true := by rw [good_nil, Bool.and_true] at hg; exact hg
    obtain ⟨y0, o', hO0⟩ := (logicB_is hl).ortho
    have hkn : k = m.n := (logicB_is hl).pair.len
    subst hkn
    have hO := hO0.own
    obtain ⟨y, hy⟩ : ∃ y : Nat → Nat, y = fun c => (z c).toNat := ⟨_, rfl⟩
    rw [← hy] at hO
    obtain ⟨rfl, hL1⟩ := AL.of hA h3 hO
    have HV : Hid (boolB m = boolV m m.n z) := by
      show _ = _
      unfold boolV
      rw [hl]; rfl
    clear hg hl hy hA h3 hO hO0
    have hY := BoxN.start w1 #[.slice ua m.n l.cap, .slice (some ⟨g, o, none⟩) m.n nc, .slice (some ⟨ob, 0, none⟩) 2 2] 56
    have BY := B1.trans (hY.below.mono B1.size)
    have hL := Lib.hid (hL1.step hY.below)
    clear hL1
    have r0 := hY.cell 0 rfl
    have r1 := hY.cell 1 rfl
    have r2 := hY.cell 2 rfl
    unfold algV
    go_wp2_with fail
    go_at_call 43
    refine (allThree_split (nc := nc) hL.out).mono ?_
    rintro e w2 ⟨rfl, b2⟩
    rw [all3_bool]
    have B2 := BY.trans (b2.mono BY.size)
    clear hY r0 r1 r2 hL
    go_wp2_with fail
    go_ret
    exact ⟨ret_bool HV.out, B2⟩
  · clear q0 q1 hrow2
    have hl : logicB m k z = false := by rw [good_nil, Bool.and_true] at hg; exact hg
    have HV : Hid (false = boolV m k z) := by show _ = _; unfold boolV; rw [hl]; rfl
    clear hg hl
    have B1 := bw.trans (b1.mono bw.size)
    have B2 := B1.alloc B1.size (.cells #[.slice none 0 0, .slice none 0 0, .slice none 0 0] 56)
    unfold noAlg
    go_wp2_with fail
    go_ret
    exact ⟨ret_bool HV.out, B2⟩

end Go.Proofs.Ytanhogaekdcooaa
