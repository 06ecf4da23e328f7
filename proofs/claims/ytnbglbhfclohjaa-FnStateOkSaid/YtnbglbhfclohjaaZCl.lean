import Derived.Test.YtnbglbhfclohjaaZCk
import Derived.Test.YtnbglbhfclohjaaZYi
namespace Go.Proofs.Ytnbglbhfclohjaa
open Go.RowKit Go.Deep Go.Shelf

attribute [local go_sem] Oper.semAt_some

def oneB (m : Mx) (y : Nat → Nat) (s : Nat) : Bool := allB m.n fun a => !decide (hasN s a = hasN s (y a))
def isB (m : Mx) (y : Nat → Nat) (s : Nat) : Bool := allB m.n fun a => allB m.n fun b => stateP m y s a b
/-- The program's test is the reference's. -/
theorem Ortho.state_same {m : Mx} {z : Nat → Int} {y : Nat → Nat} {o s : Nat} (h : Ortho m z y o) : (oneB m y s && isB m y s) = stateB m y o s := by
  rw [Bool.eq_iff_iff, h.state_iff, Bool.and_eq_true]
  constructor
  · rintro ⟨h1, h2⟩
    have one : ∀ a, a < m.n → bitN s a + bitN s (y a) = 1 := fun a ha => by
      have e := allB_is h1 a ha
      have e3 : ¬ (hasN s a = hasN s (y a)) := by simpa using e
      have e2 : ¬ (bitN s a = bitN s (y a)) := e3
      have := bitN_le s a
      have := bitN_le s (y a)
      omega
    have add : ∀ a b, a < m.n → b < m.n → m.Z a (y b) = 1 → bitN s a + bitN s b = bitN s (jN m a b) := fun a b ha hb e => by
      have e1 := allB_is (allB_is h2 a ha) b hb
      unfold stateP at e1
      rw [leB_mk e] at e1
      simpa using e1
    refine ⟨?_, one, fun a b ha hb _ e => add a b ha hb e⟩
    have eo := add o o h.ho h.ho (h.least _ (h.lt o h.ho))
    have ej : jN m o o = o := congrArg Fin.val (OL.j_le (h.ol.refl ⟨o, h.ho⟩))
    rw [ej] at eo
    have e1 := one o h.ho
    exact bitN_yes.1 (by omega)
  · intro g
    refine ⟨allB_true fun a ha => ?_, allB_true fun a ha => allB_true fun b hb => ?_⟩
    · have e := g.one a ha
      have e2 : ¬ (hasN s a = hasN s (y a)) := fun e3 => by
        have e4 : bitN s a = bitN s (y a) := e3
        omega
      rw [decide_eq_false e2]; rfl
    · unfold stateP
      cases hl : leB m a (y b) with
      | false => rfl
      | true => simpa using h.state_add g ha hb (leB_is hl)
/-- All of the pairs that have come pass the test. -/
def AllSt (m : Mx) (y : Nat → Nat) (s : Nat) (pre : List (Fin m.n × Fin m.n)) : Prop := ∀ p ∈ pre, stateP m y s p.1.val p.2.val = true
theorem AllSt.snoc {m : Mx} {y : Nat → Nat} {s : Nat} {pre : List (Fin m.n × Fin m.n)} (h : AllSt m y s pre) {x : Fin m.n × Fin m.n} (hx : stateP m y s x.1.val x.2.val = true) : AllSt m y s (pre ++ [x]) := fun p hp => by
  rcases List.mem_append.1 hp with hp | hp
  · exact h p hp
  · have e : p = x := by simpa using hp
    rw [e]; exact hx
theorem AllSt.all {m : Mx} {y : Nat → Nat} {s : Nat} {pre : List (Fin m.n × Fin m.n)} (h : AllSt m y s pre) (hall : ∀ a b : Fin m.n, (a, b) ∈ pre) : isB m y s = true :=
  allB_true fun a ha => allB_true fun b hb => h _ (hall ⟨a, ha⟩ ⟨b, hb⟩)

set_option maxRecDepth 100000 in
set_option maxHeartbeats 4000000 in
theorem oneOfEach_any {w : World} {B ob tb g o nc n0 s : Nat} {tG : Nat → Nat} {ua : Option Addr} {l : Lay} {m : Mx} {z : Nat → Int} {y : Nat → Nat} (h : AL w B ob tb tG ua l m g o z y n0) (hs : s < 4096) :
    Calls Try.prog 44 #[.agg #[.slice ua m.n l.cap, .slice (some ⟨g, o, none⟩) m.n nc, .slice (some ⟨ob, 0, none⟩) 2 2], .int .i64 s] w fun e w' => e = .returned (.bool (oneB m y s)) ∧ Below w.heap.size w w' := by
  have hX := BoxN.start w #[.slice ua m.n l.cap, .slice (some ⟨g, o, none⟩) m.n nc, .slice (some ⟨ob, 0, none⟩) 2 2] 55
  have hL := Lib.hid (h.step hX.below)
  have q1 := hX.cell 1 rfl
  have hn := h.O.lat.order.top
  have HS := Lib.hid hs
  have HO := Lib.hid h.O
  clear h hs
  go_enter Try.func44, Try.ntmps44
  go_wp2_with fail
  generalize hW : w.alloc (.cells #[.slice ua m.n l.cap, .slice (some ⟨g, o, none⟩) m.n nc, .slice (some ⟨ob, 0, none⟩) 2 2] 55) = W at hX hL q1 ⊢
  clear hW q1
  go_loopw [10] (fun i wr => ∃ j : Nat, j ≤ m.n ∧ i = .int .i64 j ∧ wr = W ∧ Hid (∀ a, a < j → (!decide (hasN s a = hasN s (y a))) = true)) (fun i _ => m.n - (intOf i).toNat)
  case atStart => exact ⟨0, Nat.zero_le _, rfl, rfl, fun c hc => absurd hc (Nat.not_lt_zero _)⟩
  case round =>
    obtain ⟨j, hj, rfl, rfl, hR⟩ := hrel
    by_cases hlt : j < m.n
    · have hlt' : (j : Int) < m.n := by omega
      have c1 := hL.out.notAt hlt
      have hyj := HO.out.lt j hlt
      obtain ⟨v, hv⟩ : ∃ v, y j = v := ⟨_, rfl⟩
      rw [hv] at c1 hyj
      have HV0 : Hid (∀ P Q, hasN s j = P → hasN s v = Q → (!decide (hasN s j = hasN s (y j))) = !decide (P = Q)) := fun P Q h1 h2 => by rw [hv, h1, h2]
      clear hv
      go_wp2_with fail
      go_at_call 70
      refine (has_any HS.out (by omega) _).mono ?_
      rintro e w' ⟨rfl, rfl⟩
      go_wp2_with fail
      go_at_call 70
      refine (has_any HS.out (by omega) _).mono ?_
      rintro e w' ⟨rfl, rfl⟩
      obtain ⟨P, hP⟩ : ∃ P, hasN s j = P := ⟨_, rfl⟩
      obtain ⟨Q, hQ⟩ : ∃ Q, hasN s v = Q := ⟨_, rfl⟩
      have HV := Lib.hid (HV0.out P Q hP hQ)
      rw [hP, hQ]
      clear hP hQ HV0
      by_cases heq : P = Q
      · have n1 : (((P : Nat) : Int) == ((Q : Nat) : Int)) = true := by rw [heq]; simp
        have HF : Hid (false = oneB m y s) := (allB_false hlt (by rw [HV.out, decide_eq_true heq]; rfl) : oneB m y s = false).symm
        clear heq
        go_wp2_with fail
        go_ret
        exact ⟨ret_bool HF.out, hX.below⟩
      · have n1 : (((P : Nat) : Int) == ((Q : Nat) : Int)) = false := by rw [beq_eq_false_iff_ne]; omega
        have HP : Hid ((!decide (hasN s j = hasN s (y j))) = true) := by show _ = _; rw [HV.out, decide_eq_false heq]; rfl
        clear heq
        go_wp2_with fail
        go_roundw
        case rel => exact ⟨j + 1, by omega, by go_num, by first | rfl | trivial, fun c hc => by
          by_cases e : c = j
          · subst e; exact HP.out
          · exact hR.out c (by omega)⟩
        case measure => simp [intOf]; omega
    · have hlt' : ¬ (j : Int) < m.n := by omega
      have HF : Hid (true = oneB m y s) := (allB_true fun c hc => hR.out c (by omega) : oneB m y s = true).symm
      go_wp2_with fail
      go_ret
      exact ⟨ret_bool HF.out, hX.below⟩

set_option maxRecDepth 100000 in
set_option maxHeartbeats 4000000 in
theorem isState_any {w : World} {B ob tb g o nc n0 s : Nat} {tG : Nat → Nat} {ua : Option Addr} {l : Lay} {m : Mx} {z : Nat → Int} {y : Nat → Nat} (h : AL w B ob tb tG ua l m g o z y n0) (hs : s < 4096) :
    Calls Try.prog 45 #[.agg #[.slice ua m.n l.cap, .slice (some ⟨g, o, none⟩) m.n nc, .slice (some ⟨ob, 0, none⟩) 2 2], .int .i64 s] w fun e w' => e = .returned (.bool (isB m y s)) ∧ Below w.heap.size w w' := by
  have hn := h.O.lat.order.top
  have hpos := h.O.lat.order.pos
  have hX := BoxN.start w #[.slice ua m.n l.cap, .slice (some ⟨g, o, none⟩) m.n nc, .slice (some ⟨ob, 0, none⟩) 2 2] 55
  have e1 : (w.alloc (.cells #[.slice ua m.n l.cap, .slice (some ⟨g, o, none⟩) m.n nc, .slice (some ⟨ob, 0, none⟩) 2 2] 55)).heap.size = w.heap.size + 1 := World.size_alloc _ _
  have hF := Boxd.start (w.alloc (.cells #[.slice ua m.n l.cap, .slice (some ⟨g, o, none⟩) m.n nc, .slice (some ⟨ob, 0, none⟩) 2 2] 55)) (.int .i64 (s : Int)) 3
  have e2 : ((w.alloc (.cells #[.slice ua m.n l.cap, .slice (some ⟨g, o, none⟩) m.n nc, .slice (some ⟨ob, 0, none⟩) 2 2] 55)).alloc (.cells #[.int .i64 (s : Int)] 3)).heap.size = w.heap.size + 1 + 1 := by rw [World.size_alloc, e1]
  have hV := Boxd.start ((w.alloc (.cells #[.slice ua m.n l.cap, .slice (some ⟨g, o, none⟩) m.n nc, .slice (some ⟨ob, 0, none⟩) 2 2] 55)).alloc (.cells #[.int .i64 (s : Int)] 3)) (.bool false) 4
  have e3 : (((w.alloc (.cells #[.slice ua m.n l.cap, .slice (some ⟨g, o, none⟩) m.n nc, .slice (some ⟨ob, 0, none⟩) 2 2] 55)).alloc (.cells #[.int .i64 (s : Int)] 3)).alloc (.cells #[.bool false] 4)).heap.size = w.heap.size + 1 + 1 + 1 := by rw [World.size_alloc, e2]
  have hP := Boxd.start (((w.alloc (.cells #[.slice ua m.n l.cap, .slice (some ⟨g, o, none⟩) m.n nc, .slice (some ⟨ob, 0, none⟩) 2 2] 55)).alloc (.cells #[.int .i64 (s : Int)] 3)).alloc (.cells #[.bool false] 4)) (.slice ua m.n l.cap) 52
  have hFc := (hF.step (hV.below.trans (hP.below.mono hV.below.size))).cell
  have hVc := (hV.step hP.below).cell
  have hVf := (hV.step hP.below).frozen
  have hP0 := hP.cell
  have hPs := hP.size
  rw [e1] at hFc
  rw [e2] at hVc hVf
  rw [e3] at hP0 hPs
  have hYP := (hX.step (hF.below.mono (by rw [e1]; omega))).step (hV.below.trans (hP.below.mono hV.below.size))
  have hL2 := Lib.hid (h.step hYP.below)
  have BW := hYP.below
  have hX3 := (hX.step (hF.below.mono (by rw [e1]; omega))).step hV.below
  have r0 := hX3.cell 0 rfl
  have HSl := Lib.hid hs
  have HO := Lib.hid h.O
  clear hX hF hV hP h e1 e2 hX3 hs
  refine (callsIn_wide (n := 9)).1 ?_
  refine callsIn_of_wp_marks Try.func45 rfl trivial ?_ rfl
  simp only [Try.ntmps45, List.size_toArray, List.length_cons, List.length_nil, Nat.reduceAdd, Nat.reduceSub, Array.replicate_succ, Array.replicate_zero, List.push_toArray, List.append_toArray, List.nil_append, List.cons_append]
  gi_wp2_with fail
  refine ⟨trivial, ?_⟩
  refine (pairs_any _ _ _).mono ?_
  rintro e w' ⟨rfl, rfl⟩
  gi_wp2_with fail
  generalize hW0 : ((((w.alloc (.cells #[.slice ua m.n l.cap, .slice (some ⟨g, o, none⟩) m.n nc, .slice (some ⟨ob, 0, none⟩) 2 2] 55)).alloc (.cells #[.int .i64 (s : Int)] 3)).alloc (.cells #[.bool false] 4)).alloc (.cells #[.slice ua m.n l.cap] 52)) = W2 at hP0 hPs hYP hL2 hVc hVf hFc BW ⊢
  clear hW0 r0 e3
  refine wpIn_rangeFunc_ownG rfl (by omega) (gf := 71) (lb := #[.pointer (some ⟨w.heap.size + 1 + 1 + 1, 0, none⟩)]) rfl trivial (enters_of Try.func71 (by kernel_rfl) rfl)
    (pairs_stops _ m.n (by omega) hn (w.heap.size + 1 + 1 + 1) W2.heap.size l.cap ua W2 (by omega) (Nat.le_refl _) hP0) belowK_t (belowK_b (Nat.le_refl _)) (Below.refl _ _) (fun _ => rfl)
    (fun pre W => AllSt m y s pre ∧ Below W2.heap.size W2 W)
    (fun c _ W => (c = .ret ∧ isB m y s = false) ∧ W.cell? ⟨w.heap.size + 1 + 1, 0, none⟩ = some (.bool false) ∧ Below w.heap.size w W)
    (OwnFrom.and (ownFrom_pure _ _) (ownFrom_below (Nat.le_refl _) (Nat.le_refl _)))
    (fun c => OwnFrom.and (ownFrom_pure _ _) (OwnFrom.and (Own.from (fun s A B row hs hg hr => cell_kept hs hg hr) _) (ownFrom_below (Nat.le_refl _) BW.size)))
    ⟨fun p hp => absurd hp (by simp), Below.refl _ _⟩
    (fun x => { tmps := #[.agg #[.slice ua m.n l.cap, .slice (some ⟨g, o, none⟩) m.n nc, .slice (some ⟨ob, 0, none⟩) 2 2], .int .i64 (s : Int), .pointer (some ⟨w.heap.size, 0, none⟩), .pointer (some ⟨w.heap.size + 1, 0, none⟩), .pointer (some ⟨w.heap.size + 1 + 1, 0, none⟩), .int .i64 ((x.1.val : Nat) : Int), .int .i64 ((x.2.val : Nat) : Int), undef,
        .pointer (some ⟨w.heap.size, 0, none⟩), .agg #[.slice ua m.n l.cap], .func (.func 71) #[] #[.pointer (some ⟨w.heap.size + 1 + 1 + 1, 0, none⟩)],
        .int .i64 ((x.1.val : Nat) : Int), .int .i64 ((x.2.val : Nat) : Int), undef, undef, undef, undef, undef, undef, undef, undef, undef, undef, undef, undef, undef, undef, undef, undef, undef, undef, undef, undef, undef, undef, undef, undef, undef, undef], defers := [] }) ?assign ?body ?done ?stop
  case assign =>
    intro lr x W K hK
    dsimp only
    clear hP0 hPs hYP hL2 hVc hVf hFc BW hpos hn HO HSl
    gi_wp2
    exact hK
  case body =>
    rintro lr pre ⟨⟨a, ha⟩, ⟨b, hb⟩⟩ W ⟨hp0, hB⟩ _
    have hp := Lib.hid hp0
    have hs := hB.size
    have hYW := hYP.step hB
    have hLW := Lib.hid (hL2.out.step hB)
    have hyb := HO.out.lt b hb
    have HSP : Hid (stateP m y s a b = (!leB m a (y b) || decide (hasN s a + hasN s b = hasN s (jN m a b)))) := rfl
    obtain ⟨u, hu⟩ : ∃ u, y b = u := ⟨_, rfl⟩
    have hub : u < m.n := by rw [← hu]; exact hyb
    have hub' : (u : Int) < m.n := by omega
    have ha' : (a : Int) < m.n := by omega
    have hb' : (b : Int) < m.n := by omega
    have hbx : w.heap.size + 1 < W.heap.size := by omega
    have f0 := (hB.cell (p := ⟨w.heap.size + 1, 0, none⟩) (by show w.heap.size + 1 < _; omega)).trans hFc
    have v5 := (hB.cell (p := ⟨w.heap.size + 1 + 1, 0, none⟩) (by show w.heap.size + 1 + 1 < _; omega)).trans hVc
    have f5 := (hB.frozen (p := ⟨w.heap.size + 1 + 1, 0, none⟩) (by show w.heap.size + 1 + 1 < _; omega)).trans hVf
    have hkeep : Hid (∀ w1', Below W.heap.size W w1' → (fun w' => w'.cell? ⟨w.heap.size, 0, none⟩ = some (.slice ua m.n l.cap) ∧ w'.cell? ⟨w.heap.size, 1, none⟩ = some (.slice (some ⟨g, o, none⟩) m.n nc) ∧ w'.cell? ⟨w.heap.size, 2, none⟩ = some (.slice (some ⟨ob, 0, none⟩) 2 2) ∧ w'.cell? ⟨g, o + b, none⟩ = some (.int .i64 (u : Int)) ∧ w'.cell? ⟨w.heap.size + 1, 0, none⟩ = some (.int .i64 (s : Int))) w1') := fun w1' hb1 =>
      ⟨(hYW.step hb1).cell 0 rfl, (hYW.step hb1).cell 1 rfl, (hYW.step hb1).cell 2 rfl, by rw [← hu]; exact (hLW.out.step hb1).notAt hb, (hb1.cell (p := ⟨w.heap.size + 1, 0, none⟩) hbx).trans f0⟩
    have hS0 := hkeep.out _ (Below.refl W.heap.size W).drew
    have hSd := Lib.hid (hLW.out.step (Below.refl W.heap.size W).drew).S
    rw [hu] at HSP
    clear hp0 hP0 hyb hu f0 hYW hVc hVf hFc
    obtain ⟨LE, hLE⟩ : ∃ LE, leB m a u = LE := ⟨_, rfl⟩
    have HLE := Lib.hid hLE
    rw [hLE] at HSP
    clear hLE
    dsimp only
    gi_wp2_with fail
    refine region_hold (fuel := 10) (listed := #[false, false, false, false, false, false, false, false, false, false]) (fun w' => w'.cell? ⟨w.heap.size, 0, none⟩ = some (.slice ua m.n l.cap) ∧ w'.cell? ⟨w.heap.size, 1, none⟩ = some (.slice (some ⟨g, o, none⟩) m.n nc) ∧ w'.cell? ⟨w.heap.size, 2, none⟩ = some (.slice (some ⟨ob, 0, none⟩) 2 2) ∧ w'.cell? ⟨g, o + b, none⟩ = some (.int .i64 (u : Int)) ∧ w'.cell? ⟨w.heap.size + 1, 0, none⟩ = some (.int .i64 (s : Int))) (by kernel_rfl) (by kernel_rfl) (by kernel_rfl) (by kernel_rfl) ?_
    refine hold_take (i := 0) (d := 13) (v := ?va0) (listed' := #[true, false, false, false, false, false, false, false, false, false]) rfl (by kernel_rfl) (by kernel_rfl) (by kernel_rfl) rfl (by rfl) (by kernel_rfl) hS0 ?ha0 ?ra0
    case ha0 =>
      intro w' hSw
      obtain ⟨k0, k1, k2, k3, k4⟩ := hSw
      go_simp
      try with_reducible rfl
    simp only [List.setIfInBounds_toArray, List.set_cons_zero, List.set_cons_succ]
    refine hold_take (i := 1) (d := 14) (v := ?va1) (listed' := #[true, true, false, false, false, false, false, false, false, false]) rfl (by kernel_rfl) (by kernel_rfl) (by kernel_rfl) rfl (by rfl) (by kernel_rfl) hS0 ?ha1 ?ra1
    case ha1 =>
      intro w' hSw
      obtain ⟨k0, k1, k2, k3, k4⟩ := hSw
      go_simp
      try with_reducible rfl
    simp only [List.setIfInBounds_toArray, List.set_cons_zero, List.set_cons_succ]
    refine hold_take (i := 2) (d := 15) (v := ?va2) (listed' := #[true, true, true, false, false, false, false, false, false, false]) rfl (by kernel_rfl) (by kernel_rfl) (by kernel_rfl) rfl (by rfl) (by kernel_rfl) hS0 ?ha2 ?ra2
    case ha2 =>
      intro w' hSw
      obtain ⟨k0, k1, k2, k3, k4⟩ := hSw
      go_simp
      try with_reducible rfl
    simp only [List.setIfInBounds_toArray, List.set_cons_zero, List.set_cons_succ]
    refine hold_take (i := 3) (d := 16) (v := ?va3) (listed' := #[true, true, true, true, false, false, false, false, false, false]) rfl (by kernel_rfl) (by kernel_rfl) (by kernel_rfl) rfl (by rfl) (by kernel_rfl) hS0 ?ha3 ?ra3
    case ha3 =>
      intro w' hSw
      obtain ⟨k0, k1, k2, k3, k4⟩ := hSw
      go_simp
      try with_reducible rfl
    simp only [List.setIfInBounds_toArray, List.set_cons_zero, List.set_cons_succ]
    refine hold_take (i := 4) (d := 17) (v := ?va4) (listed' := #[true, true, true, true, true, false, false, false, false, false]) rfl (by kernel_rfl) (by kernel_rfl) (by kernel_rfl) rfl (by rfl) (by kernel_rfl) hS0 ?ha4 ?ra4
    case ha4 =>
      intro w' hSw
      obtain ⟨k0, k1, k2, k3, k4⟩ := hSw
      go_simp
      try with_reducible rfl
    simp only [List.setIfInBounds_toArray, List.set_cons_zero, List.set_cons_succ]
    refine hold_take (i := 5) (d := 18) (v := ?va5) (listed' := #[true, true, true, true, true, true, false, false, false, false]) rfl (by kernel_rfl) (by kernel_rfl) (by kernel_rfl) rfl (by rfl) (by kernel_rfl) hS0 ?ha5 ?ra5
    case ha5 =>
      intro w' hSw
      obtain ⟨k0, k1, k2, k3, k4⟩ := hSw
      go_simp
      try with_reducible rfl
    simp only [List.setIfInBounds_toArray, List.set_cons_zero, List.set_cons_succ]
    refine hold_take (i := 6) (d := 19) (v := ?va6) (listed' := #[true, true, true, true, true, true, true, false, false, false]) rfl (by kernel_rfl) (by kernel_rfl) (by kernel_rfl) rfl (by rfl) (by kernel_rfl) hS0 ?ha6 ?ra6
    case ha6 =>
      intro w' hSw
      obtain ⟨k0, k1, k2, k3, k4⟩ := hSw
      go_simp
      try with_reducible rfl
    simp only [List.setIfInBounds_toArray, List.set_cons_zero, List.set_cons_succ]
    refine hold_take (i := 7) (d := 20) (v := ?va7) (listed' := #[true, true, true, true, true, true, true, true, false, false]) rfl (by kernel_rfl) (by kernel_rfl) (by kernel_rfl) rfl (by rfl) (by kernel_rfl) hS0 ?ha7 ?ra7
    case ha7 =>
      intro w' hSw
      obtain ⟨k0, k1, k2, k3, k4⟩ := hSw
      go_simp
      try with_reducible rfl
    simp only [List.setIfInBounds_toArray, List.set_cons_zero, List.set_cons_succ]
    refine hold_call (i := 8) (d := 21) (listed' := #[true, true, true, true, true, true, true, true, true, false]) rfl (by kernel_rfl) rfl (by rfl) (by kernel_rfl) ?hea8 (below_sq hSd.out ha hub) ?hca8
    case hea8 => go_simp
    rintro e w4 ⟨rfl, hw4⟩
    rw [HLE.out]
    have hall4 : Below W.heap.size W w4 := (Below.refl _ W).drew.trans hw4
    have hS4 := hkeep.out w4 hall4
    refine ⟨_, rfl, hS4, ?_⟩
    simp only [List.setIfInBounds_toArray, List.set_cons_zero, List.set_cons_succ]
    refine hold_take (i := 9) (d := 7) (v := ?va9) (listed' := #[true, true, true, true, true, true, true, true, true, true]) rfl (by kernel_rfl) (by kernel_rfl) (by kernel_rfl) rfl (by rfl) (by kernel_rfl) hS4 ?ha9 ?ra9
    case ha9 =>
      intro w' hSw
      obtain ⟨k0, k1, k2, k3, k4⟩ := hSw
      go_simp
      try with_reducible rfl
    simp only [List.setIfInBounds_toArray, List.set_cons_zero, List.set_cons_succ]
    refine hold_done (by kernel_rfl) ?_ _
    gi_wp2_with fail
    have hS5 := hkeep.out _ hall4.drew
    have hL5 := Lib.hid (hLW.out.step hall4.drew)
    clear hS4 hS0 hSd hLW hw4
    cases LE with
    | false =>
      have HQ : Hid (stateP m y s a b = true) := by show _ = _; rw [HSP.out]; rfl
      clear HSP
      refine region_hold (fuel := 17) (listed := #[false, false, false, false, false, false, false, false, false, false, false, false, false, false, false, false, false]) (fun w' => w'.cell? ⟨w.heap.size, 0, none⟩ = some (.slice ua m.n l.cap) ∧ w'.cell? ⟨w.heap.size, 1, none⟩ = some (.slice (some ⟨g, o, none⟩) m.n nc) ∧ w'.cell? ⟨w.heap.size, 2, none⟩ = some (.slice (some ⟨ob, 0, none⟩) 2 2) ∧ w'.cell? ⟨g, o + b, none⟩ = some (.int .i64 (u : Int)) ∧ w'.cell? ⟨w.heap.size + 1, 0, none⟩ = some (.int .i64 (s : Int))) (by kernel_rfl) (by kernel_rfl) (by kernel_rfl) (by kernel_rfl) ?_
      refine hold_take (i := 0) (d := 22) (v := ?vb0) (listed' := #[true, false, false, false, false, false, false, false, false, false, false, false, false, false, false, false, false]) rfl (by kernel_rfl) (by kernel_rfl) (by kernel_rfl) rfl (by rfl) (by kernel_rfl) hS5 ?hb0 ?rb0
      case hb0 =>
        intro w' hSw
        obtain ⟨k0, k1, k2, k3, k4⟩ := hSw
        go_simp
        try with_reducible rfl
      simp only [List.setIfInBounds_toArray, List.set_cons_zero, List.set_cons_succ]
      refine hold_take (i := 1) (d := 23) (v := ?vb1) (listed' := #[true, true, false, false, false, false, false, false, false, false, false, false, false, false, false, false, false]) rfl (by kernel_rfl) (by kernel_rfl) (by kernel_rfl) rfl (by rfl) (by kernel_rfl) hS5 ?hb1 ?rb1
      case hb1 =>
        intro w' hSw
        obtain ⟨k0, k1, k2, k3, k4⟩ := hSw
        go_simp
        try with_reducible rfl
      simp only [List.setIfInBounds_toArray, List.set_cons_zero, List.set_cons_succ]
      refine hold_skip (i := 2) (d := 24) (listed' := #[true, true, true, false, false, false, false, false, false, false, false, false, false, false, false, false, false]) rfl (by kernel_rfl) (by kernel_rfl) (by kernel_rfl) rfl (by rfl) (by kernel_rfl) hS5 ?_
      simp only [List.setIfInBounds_toArray, List.set_cons_zero, List.set_cons_succ]
      refine hold_skip (i := 3) (d := 25) (listed' := #[true, true, true, true, false, false, false, false, false, false, false, false, false, false, false, false, false]) rfl (by kernel_rfl) (by kernel_rfl) (by kernel_rfl) rfl (by rfl) (by kernel_rfl) hS5 ?_
      simp only [List.setIfInBounds_toArray, List.set_cons_zero, List.set_cons_succ]
      refine hold_skip (i := 5) (d := 27) (listed' := #[true, true, true, true, false, true, false, false, false, false, false, false, false, false, false, false, false]) rfl (by kernel_rfl) (by kernel_rfl) (by kernel_rfl) rfl (by rfl) (by kernel_rfl) hS5 ?_
      simp only [List.setIfInBounds_toArray, List.set_cons_zero, List.set_cons_succ]
      refine hold_skip (i := 6) (d := 28) (listed' := #[true, true, true, true, false, true, true, false, false, false, false, false, false, false, false, false, false]) rfl (by kernel_rfl) (by kernel_rfl) (by kernel_rfl) rfl (by rfl) (by kernel_rfl) hS5 ?_
      simp only [List.setIfInBounds_toArray, List.set_cons_zero, List.set_cons_succ]
      refine hold_skip (i := 9) (d := 31) (listed' := #[true, true, true, true, false, true, true, false, false, true, false, false, false, false, false, false, false]) rfl (by kernel_rfl) (by kernel_rfl) (by kernel_rfl) rfl (by rfl) (by kernel_rfl) hS5 ?_
      simp only [List.setIfInBounds_toArray, List.set_cons_zero, List.set_cons_succ]
      refine hold_skip (i := 10) (d := 32) (listed' := #[true, true, true, true, false, true, true, false, false, true, true, false, false, false, false, false, false]) rfl (by kernel_rfl) (by kernel_rfl) (by kernel_rfl) rfl (by rfl) (by kernel_rfl) hS5 ?_
      simp only [List.setIfInBounds_toArray, List.set_cons_zero, List.set_cons_succ]
      refine hold_skip (i := 11) (d := 33) (listed' := #[true, true, true, true, false, true, true, false, false, true, true, true, false, false, false, false, false]) rfl (by kernel_rfl) (by kernel_rfl) (by kernel_rfl) rfl (by rfl) (by kernel_rfl) hS5 ?_
      simp only [List.setIfInBounds_toArray, List.set_cons_zero, List.set_cons_succ]
      refine hold_skip (i := 12) (d := 34) (listed' := #[true, true, true, true, false, true, true, false, false, true, true, true, true, false, false, false, false]) rfl (by kernel_rfl) (by kernel_rfl) (by kernel_rfl) rfl (by rfl) (by kernel_rfl) hS5 ?_
      simp only [List.setIfInBounds_toArray, List.set_cons_zero, List.set_cons_succ]
      refine hold_skip (i := 4) (d := 26) (listed' := #[true, true, true, true, true, true, true, false, false, true, true, true, true, false, false, false, false]) rfl (by kernel_rfl) (by kernel_rfl) (by kernel_rfl) rfl (by rfl) (by kernel_rfl) hS5 ?_
      simp only [List.setIfInBounds_toArray, List.set_cons_zero, List.set_cons_succ]
      refine hold_skip (i := 7) (d := 29) (listed' := #[true, true, true, true, true, true, true, true, false, true, true, true, true, false, false, false, false]) rfl (by kernel_rfl) (by kernel_rfl) (by kernel_rfl) rfl (by rfl) (by kernel_rfl) hS5 ?_
      simp only [List.setIfInBounds_toArray, List.set_cons_zero, List.set_cons_succ]
      refine hold_skip (i := 8) (d := 30) (listed' := #[true, true, true, true, true, true, true, true, true, true, true, true, true, false, false, false, false]) rfl (by kernel_rfl) (by kernel_rfl) (by kernel_rfl) rfl (by rfl) (by kernel_rfl) hS5 ?_
      simp only [List.setIfInBounds_toArray, List.set_cons_zero, List.set_cons_succ]
      refine hold_skip (i := 13) (d := 35) (listed' := #[true, true, true, true, true, true, true, true, true, true, true, true, true, true, false, false, false]) rfl (by kernel_rfl) (by kernel_rfl) (by kernel_rfl) rfl (by rfl) (by kernel_rfl) hS5 ?_
      simp only [List.setIfInBounds_toArray, List.set_cons_zero, List.set_cons_succ]
      refine hold_skip (i := 14) (d := 36) (listed' := #[true, true, true, true, true, true, true, true, true, true, true, true, true, true, true, false, false]) rfl (by kernel_rfl) (by kernel_rfl) (by kernel_rfl) rfl (by rfl) (by kernel_rfl) hS5 ?_
      simp only [List.setIfInBounds_toArray, List.set_cons_zero, List.set_cons_succ]
      refine hold_skip (i := 15) (d := 37) (listed' := #[true, true, true, true, true, true, true, true, true, true, true, true, true, true, true, true, false]) rfl (by kernel_rfl) (by kernel_rfl) (by kernel_rfl) rfl (by rfl) (by kernel_rfl) hS5 ?_
      simp only [List.setIfInBounds_toArray, List.set_cons_zero, List.set_cons_succ]
      refine hold_take (i := 16) (d := 38) (v := ?vb16) (listed' := #[true, true, true, true, true, true, true, true, true, true, true, true, true, true, true, true, true]) rfl (by kernel_rfl) (by kernel_rfl) (by kernel_rfl) rfl (by rfl) (by kernel_rfl) hS5 ?hb16 ?rb16
      case hb16 =>
        intro w' hSw
        obtain ⟨k0, k1, k2, k3, k4⟩ := hSw
        go_simp
        try with_reducible rfl
      simp only [List.setIfInBounds_toArray, List.set_cons_zero, List.set_cons_succ]
      refine hold_done (by kernel_rfl) ?_ _
      gi_wp2_with fail
      exact ⟨keepsFrom_below hall4.drew, hall4.drew.mono hs, hp.out.snoc HQ.out, hB.trans (hall4.drew.mono hs)⟩
    | true =>
      have hJn := (HO.out.jG ha hb).lt
      obtain ⟨J, hJ⟩ : ∃ J, jN m a b = J := ⟨_, rfl⟩
      have HJ := Lib.hid hJ
      have b1 := hasN_le s a
      have b2 := hasN_le s b
      obtain ⟨P, hP⟩ : ∃ P, hasN s a = P := ⟨_, rfl⟩
      obtain ⟨Q, hQ⟩ : ∃ Q, hasN s b = Q := ⟨_, rfl⟩
      obtain ⟨R, hR⟩ : ∃ R, hasN s J = R := ⟨_, rfl⟩
      rw [hJ, hP, hQ, hR] at HSP
      rw [hJ] at hJn
      rw [hP] at b1
      rw [hQ] at b2
      have HPj := Lib.hid hP
      have HQj := Lib.hid hQ
      have HRj := Lib.hid hR
      have S1 : Hid (IntKind.i64.wrap ((P : Int) + (Q : Int)) = (P : Int) + (Q : Int)) := IntWalk.i64_in _ (by omega)
      clear hJ hP hQ hR b1 b2
      by_cases heq : P + Q = R
      · have N2 := Lib.hid heq
        have HT : Hid (stateP m y s a b = true) := by show _ = _; rw [HSP.out, decide_eq_true heq, Bool.or_true]
        clear heq HSP
        refine region_hold (fuel := 17) (listed := #[false, false, false, false, false, false, false, false, false, false, false, false, false, false, false, false, false]) (fun w' => w'.cell? ⟨w.heap.size, 0, none⟩ = some (.slice ua m.n l.cap) ∧ w'.cell? ⟨w.heap.size, 1, none⟩ = some (.slice (some ⟨g, o, none⟩) m.n nc) ∧ w'.cell? ⟨w.heap.size, 2, none⟩ = some (.slice (some ⟨ob, 0, none⟩) 2 2) ∧ w'.cell? ⟨g, o + b, none⟩ = some (.int .i64 (u : Int)) ∧ w'.cell? ⟨w.heap.size + 1, 0, none⟩ = some (.int .i64 (s : Int))) (by kernel_rfl) (by kernel_rfl) (by kernel_rfl) (by kernel_rfl) ?_
        refine hold_take (i := 0) (d := 22) (v := ?vc0) (listed' := #[true, false, false, false, false, false, false, false, false, false, false, false, false, false, false, false, false]) rfl (by kernel_rfl) (by kernel_rfl) (by kernel_rfl) rfl (by rfl) (by kernel_rfl) hS5 ?hc0 ?rc0
        case hc0 =>
          intro w' hSw
          obtain ⟨k0, k1, k2, k3, k4⟩ := hSw
          go_simp
          try with_reducible rfl
        simp only [List.setIfInBounds_toArray, List.set_cons_zero, List.set_cons_succ]
        refine hold_take (i := 1) (d := 23) (v := ?vc1) (listed' := #[true, true, false, false, false, false, false, false, false, false, false, false, false, false, false, false, false]) rfl (by kernel_rfl) (by kernel_rfl) (by kernel_rfl) rfl (by rfl) (by kernel_rfl) hS5 ?hc1 ?rc1
        case hc1 =>
          intro w' hSw
          obtain ⟨k0, k1, k2, k3, k4⟩ := hSw
          go_simp
          try with_reducible rfl
        simp only [List.setIfInBounds_toArray, List.set_cons_zero, List.set_cons_succ]
        refine hold_take (i := 2) (d := 24) (v := ?vc2) (listed' := #[true, true, true, false, false, false, false, false, false, false, false, false, false, false, false, false, false]) rfl (by kernel_rfl) (by kernel_rfl) (by kernel_rfl) rfl (by rfl) (by kernel_rfl) hS5 ?hc2 ?rc2
        case hc2 =>
          intro w' hSw
          obtain ⟨k0, k1, k2, k3, k4⟩ := hSw
          go_simp
          try with_reducible rfl
        simp only [List.setIfInBounds_toArray, List.set_cons_zero, List.set_cons_succ]
        refine hold_take (i := 3) (d := 25) (v := ?vc3) (listed' := #[true, true, true, true, false, false, false, false, false, false, false, false, false, false, false, false, false]) rfl (by kernel_rfl) (by kernel_rfl) (by kernel_rfl) rfl (by rfl) (by kernel_rfl) hS5 ?hc3 ?rc3
        case hc3 =>
          intro w' hSw
          obtain ⟨k0, k1, k2, k3, k4⟩ := hSw
          go_simp
          try with_reducible rfl
        simp only [List.setIfInBounds_toArray, List.set_cons_zero, List.set_cons_succ]
        refine hold_take (i := 5) (d := 27) (v := ?vc5) (listed' := #[true, true, true, true, false, true, false, false, false, false, false, false, false, false, false, false, false]) rfl (by kernel_rfl) (by kernel_rfl) (by kernel_rfl) rfl (by rfl) (by kernel_rfl) hS5 ?hc5 ?rc5
        case hc5 =>
          intro w' hSw
          obtain ⟨k0, k1, k2, k3, k4⟩ := hSw
          go_simp
          try with_reducible rfl
        simp only [List.setIfInBounds_toArray, List.set_cons_zero, List.set_cons_succ]
        refine hold_take (i := 6) (d := 28) (v := ?vc6) (listed' := #[true, true, true, true, false, true, true, false, false, false, false, false, false, false, false, false, false]) rfl (by kernel_rfl) (by kernel_rfl) (by kernel_rfl) rfl (by rfl) (by kernel_rfl) hS5 ?hc6 ?rc6
        case hc6 =>
          intro w' hSw
          obtain ⟨k0, k1, k2, k3, k4⟩ := hSw
          go_simp
          try with_reducible rfl
        simp only [List.setIfInBounds_toArray, List.set_cons_zero, List.set_cons_succ]
        refine hold_take (i := 9) (d := 31) (v := ?vc9) (listed' := #[true, true, true, true, false, true, true, false, false, true, false, false, false, false, false, false, false]) rfl (by kernel_rfl) (by kernel_rfl) (by kernel_rfl) rfl (by rfl) (by kernel_rfl) hS5 ?hc9 ?rc9
        case hc9 =>
          intro w' hSw
          obtain ⟨k0, k1, k2, k3, k4⟩ := hSw
          go_simp
          try with_reducible rfl
        simp only [List.setIfInBounds_toArray, List.set_cons_zero, List.set_cons_succ]
        refine hold_take (i := 10) (d := 32) (v := ?vc10) (listed' := #[true, true, true, true, false, true, true, false, false, true, true, false, false, false, false, false, false]) rfl (by kernel_rfl) (by kernel_rfl) (by kernel_rfl) rfl (by rfl) (by kernel_rfl) hS5 ?hc10 ?rc10
        case hc10 =>
          intro w' hSw
          obtain ⟨k0, k1, k2, k3, k4⟩ := hSw
          go_simp
          try with_reducible rfl
        simp only [List.setIfInBounds_toArray, List.set_cons_zero, List.set_cons_succ]
        refine hold_take (i := 11) (d := 33) (v := ?vc11) (listed' := #[true, true, true, true, false, true, true, false, false, true, true, true, false, false, false, false, false]) rfl (by kernel_rfl) (by kernel_rfl) (by kernel_rfl) rfl (by rfl) (by kernel_rfl) hS5 ?hc11 ?rc11
        case hc11 =>
          intro w' hSw
          obtain ⟨k0, k1, k2, k3, k4⟩ := hSw
          go_simp
          try with_reducible rfl
        simp only [List.setIfInBounds_toArray, List.set_cons_zero, List.set_cons_succ]
        refine hold_take (i := 12) (d := 34) (v := ?vc12) (listed' := #[true, true, true, true, false, true, true, false, false, true, true, true, true, false, false, false, false]) rfl (by kernel_rfl) (by kernel_rfl) (by kernel_rfl) rfl (by rfl) (by kernel_rfl) hS5 ?hc12 ?rc12
        case hc12 =>
          intro w' hSw
          obtain ⟨k0, k1, k2, k3, k4⟩ := hSw
          go_simp
          try with_reducible rfl
        simp only [List.setIfInBounds_toArray, List.set_cons_zero, List.set_cons_succ]
        refine hold_call (i := 4) (d := 26) (listed' := #[true, true, true, true, true, true, true, false, false, true, true, true, true, false, false, false, false]) rfl (by kernel_rfl) rfl (by rfl) (by kernel_rfl) ?hec4 (has_any (a := a) HSl.out (by omega) _) ?hcc4
        case hec4 => go_simp
        rintro e xq ⟨rfl, hx⟩
        subst hx
        rw [HPj.out]
        refine ⟨_, rfl, hS5, ?_⟩
        simp only [List.setIfInBounds_toArray, List.set_cons_zero, List.set_cons_succ]
        refine hold_call (i := 7) (d := 29) (listed' := #[true, true, true, true, true, true, true, true, false, true, true, true, true, false, false, false, false]) rfl (by kernel_rfl) rfl (by rfl) (by kernel_rfl) ?hec7 (has_any (a := b) HSl.out (by omega) _) ?hcc7
        case hec7 => go_simp
        rintro e xq ⟨rfl, hx⟩
        subst hx
        rw [HQj.out]
        refine ⟨_, rfl, hS5, ?_⟩
        simp only [List.setIfInBounds_toArray, List.set_cons_zero, List.set_cons_succ]
        refine hold_take (i := 8) (d := 30) (v := .int .i64 ((P : Int) + (Q : Int))) (listed' := #[true, true, true, true, true, true, true, true, true, true, true, true, true, false, false, false, false]) rfl (by kernel_rfl) (by kernel_rfl) (by kernel_rfl) rfl (by rfl) (by kernel_rfl) hS5 ?hc8 ?rc8
        case hc8 =>
          intro w' hSw
          obtain ⟨k0, k1, k2, k3, k4⟩ := hSw
          go_simp
          simp only [S1.out]
        simp only [List.setIfInBounds_toArray, List.set_cons_zero, List.set_cons_succ]
        refine hold_call (i := 13) (d := 35) (listed' := #[true, true, true, true, true, true, true, true, true, true, true, true, true, true, false, false, false]) rfl (by kernel_rfl) rfl (by rfl) (by kernel_rfl) ?hec13 (joinA (nc := nc) hL5.out ha hb) ?hcc13
        case hec13 => go_simp
        rintro e w5 ⟨rfl, hw5⟩
        rw [HJ.out]
        have hall5 : Below W.heap.size W w5 := hall4.drew.trans (hw5.mono hall4.size)
        have hS6 := hkeep.out w5 hall5
        refine ⟨_, rfl, hS6, ?_⟩
        simp only [List.setIfInBounds_toArray, List.set_cons_zero, List.set_cons_succ]
        refine hold_call (i := 14) (d := 36) (listed' := #[true, true, true, true, true, true, true, true, true, true, true, true, true, true, true, false, false]) rfl (by kernel_rfl) rfl (by rfl) (by kernel_rfl) ?hec14 (has_any (a := J) HSl.out (by omega) _) ?hcc14
        case hec14 => go_simp
        rintro e xq ⟨rfl, hx⟩
        subst hx
        rw [HRj.out]
        refine ⟨_, rfl, hS6, ?_⟩
        simp only [List.setIfInBounds_toArray, List.set_cons_zero, List.set_cons_succ]
        refine hold_take (i := 15) (d := 37) (v := .bool false) (listed' := #[true, true, true, true, true, true, true, true, true, true, true, true, true, true, true, true, false]) rfl (by kernel_rfl) (by kernel_rfl) (by kernel_rfl) rfl (by rfl) (by kernel_rfl) hS6 ?hc15 ?rc15
        case hc15 =>
          intro w' hSw
          obtain ⟨k0, k1, k2, k3, k4⟩ := hSw
          go_simp
          have h9 := N2.out
          first | omega | (simp; omega)
        simp only [List.setIfInBounds_toArray, List.set_cons_zero, List.set_cons_succ]
        refine hold_take (i := 16) (d := 38) (v := ?vc16) (listed' := #[true, true, true, true, true, true, true, true, true, true, true, true, true, true, true, true, true]) rfl (by kernel_rfl) (by kernel_rfl) (by kernel_rfl) rfl (by rfl) (by kernel_rfl) hS6 ?hc16 ?rc16
        case hc16 =>
          intro w' hSw
          obtain ⟨k0, k1, k2, k3, k4⟩ := hSw
          go_simp
          try with_reducible rfl
        simp only [List.setIfInBounds_toArray, List.set_cons_zero, List.set_cons_succ]
        refine hold_done (by kernel_rfl) ?_ _
        gi_wp2_with fail
        exact ⟨keepsFrom_below hall5, hall5.mono hs, hp.out.snoc HT.out, hB.trans (hall5.mono hs)⟩
      · have N2 : Hid (¬ P + Q = R) := heq
        have HT : Hid (stateP m y s a b = false) := by show _ = _; rw [HSP.out, decide_eq_false heq]; rfl
        have HF : Hid (isB m y s = false) := allB_false ha (allB_false hb HT.out)
        clear heq HSP
        refine region_hold (fuel := 17) (listed := #[false, false, false, false, false, false, false, false, false, false, false, false, false, false, false, false, false]) (fun w' => w'.cell? ⟨w.heap.size, 0, none⟩ = some (.slice ua m.n l.cap) ∧ w'.cell? ⟨w.heap.size, 1, none⟩ = some (.slice (some ⟨g, o, none⟩) m.n nc) ∧ w'.cell? ⟨w.heap.size, 2, none⟩ = some (.slice (some ⟨ob, 0, none⟩) 2 2) ∧ w'.cell? ⟨g, o + b, none⟩ = some (.int .i64 (u : Int)) ∧ w'.cell? ⟨w.heap.size + 1, 0, none⟩ = some (.int .i64 (s : Int))) (by kernel_rfl) (by kernel_rfl) (by kernel_rfl) (by kernel_rfl) ?_
        refine hold_take (i := 0) (d := 22) (v := ?vd0) (listed' := #[true, false, false, false, false, false, false, false, false, false, false, false, false, false, false, false, false]) rfl (by kernel_rfl) (by kernel_rfl) (by kernel_rfl) rfl (by rfl) (by kernel_rfl) hS5 ?hd0 ?rd0
        case hd0 =>
          intro w' hSw
          obtain ⟨k0, k1, k2, k3, k4⟩ := hSw
          go_simp
          try with_reducible rfl
        simp only [List.setIfInBounds_toArray, List.set_cons_zero, List.set_cons_succ]
        refine hold_take (i := 1) (d := 23) (v := ?vd1) (listed' := #[true, true, false, false, false, false, false, false, false, false, false, false, false, false, false, false, false]) rfl (by kernel_rfl) (by kernel_rfl) (by kernel_rfl) rfl (by rfl) (by kernel_rfl) hS5 ?hd1 ?rd1
        case hd1 =>
          intro w' hSw
          obtain ⟨k0, k1, k2, k3, k4⟩ := hSw
          go_simp
          try with_reducible rfl
        simp only [List.setIfInBounds_toArray, List.set_cons_zero, List.set_cons_succ]
        refine hold_take (i := 2) (d := 24) (v := ?vd2) (listed' := #[true, true, true, false, false, false, false, false, false, false, false, false, false, false, false, false, false]) rfl (by kernel_rfl) (by kernel_rfl) (by kernel_rfl) rfl (by rfl) (by kernel_rfl) hS5 ?hd2 ?rd2
        case hd2 =>
          intro w' hSw
          obtain ⟨k0, k1, k2, k3, k4⟩ := hSw
          go_simp
          try with_reducible rfl
        simp only [List.setIfInBounds_toArray, List.set_cons_zero, List.set_cons_succ]
        refine hold_take (i := 3) (d := 25) (v := ?vd3) (listed' := #[true, true, true, true, false, false, false, false, false, false, false, false, false, false, false, false, false]) rfl (by kernel_rfl) (by kernel_rfl) (by kernel_rfl) rfl (by rfl) (by kernel_rfl) hS5 ?hd3 ?rd3
        case hd3 =>
          intro w' hSw
          obtain ⟨k0, k1, k2, k3, k4⟩ := hSw
          go_simp
          try with_reducible rfl
        simp only [List.setIfInBounds_toArray, List.set_cons_zero, List.set_cons_succ]
        refine hold_take (i := 5) (d := 27) (v := ?vd5) (listed' := #[true, true, true, true, false, true, false, false, false, false, false, false, false, false, false, false, false]) rfl (by kernel_rfl) (by kernel_rfl) (by kernel_rfl) rfl (by rfl) (by kernel_rfl) hS5 ?hd5 ?rd5
        case hd5 =>
          intro w' hSw
          obtain ⟨k0, k1, k2, k3, k4⟩ := hSw
          go_simp
          try with_reducible rfl
        simp only [List.setIfInBounds_toArray, List.set_cons_zero, List.set_cons_succ]
        refine hold_take (i := 6) (d := 28) (v := ?vd6) (listed' := #[true, true, true, true, false, true, true, false, false, false, false, false, false, false, false, false, false]) rfl (by kernel_rfl) (by kernel_rfl) (by kernel_rfl) rfl (by rfl) (by kernel_rfl) hS5 ?hd6 ?rd6
        case hd6 =>
          intro w' hSw
          obtain ⟨k0, k1, k2, k3, k4⟩ := hSw
          go_simp
          try with_reducible rfl
        simp only [List.setIfInBounds_toArray, List.set_cons_zero, List.set_cons_succ]
        refine hold_take (i := 9) (d := 31) (v := ?vd9) (listed' := #[true, true, true, true, false, true, true, false, false, true, false, false, false, false, false, false, false]) rfl (by kernel_rfl) (by kernel_rfl) (by kernel_rfl) rfl (by rfl) (by kernel_rfl) hS5 ?hd9 ?rd9
        case hd9 =>
          intro w' hSw
          obtain ⟨k0, k1, k2, k3, k4⟩ := hSw
          go_simp
          try with_reducible rfl
        simp only [List.setIfInBounds_toArray, List.set_cons_zero, List.set_cons_succ]
        refine hold_take (i := 10) (d := 32) (v := ?vd10) (listed' := #[true, true, true, true, false, true, true, false, false, true, true, false, false, false, false, false, false]) rfl (by kernel_rfl) (by kernel_rfl) (by kernel_rfl) rfl (by rfl) (by kernel_rfl) hS5 ?hd10 ?rd10
        case hd10 =>
          intro w' hSw
          obtain ⟨k0, k1, k2, k3, k4⟩ := hSw
          go_simp
          try with_reducible rfl
        simp only [List.setIfInBounds_toArray, List.set_cons_zero, List.set_cons_succ]
        refine hold_take (i := 11) (d := 33) (v := ?vd11) (listed' := #[true, true, true, true, false, true, true, false, false, true, true, true, false, false, false, false, false]) rfl (by kernel_rfl) (by kernel_rfl) (by kernel_rfl) rfl (by rfl) (by kernel_rfl) hS5 ?hd11 ?rd11
        case hd11 =>
          intro w' hSw
          obtain ⟨k0, k1, k2, k3, k4⟩ := hSw
          go_simp
          try with_reducible rfl
        simp only [List.setIfInBounds_toArray, List.set_cons_zero, List.set_cons_succ]
        refine hold_take (i := 12) (d := 34) (v := ?vd12) (listed' := #[true, true, true, true, false, true, true, false, false, true, true, true, true, false, false, false, false]) rfl (by kernel_rfl) (by kernel_rfl) (by kernel_rfl) rfl (by rfl) (by kernel_rfl) hS5 ?hd12 ?rd12
        case hd12 =>
          intro w' hSw
          obtain ⟨k0, k1, k2, k3, k4⟩ := hSw
          go_simp
          try with_reducible rfl
        simp only [List.setIfInBounds_toArray, List.set_cons_zero, List.set_cons_succ]
        refine hold_call (i := 4) (d := 26) (listed' := #[true, true, true, true, true, true, true, false, false, true, true, true, true, false, false, false, false]) rfl (by kernel_rfl) rfl (by rfl) (by kernel_rfl) ?hed4 (has_any (a := a) HSl.out (by omega) _) ?hcd4
        case hed4 => go_simp
        rintro e xq ⟨rfl, hx⟩
        subst hx
        rw [HPj.out]
        refine ⟨_, rfl, hS5, ?_⟩
        simp only [List.setIfInBounds_toArray, List.set_cons_zero, List.set_cons_succ]
        refine hold_call (i := 7) (d := 29) (listed' := #[true, true, true, true, true, true, true, true, false, true, true, true, true, false, false, false, false]) rfl (by kernel_rfl) rfl (by rfl) (by kernel_rfl) ?hed7 (has_any (a := b) HSl.out (by omega) _) ?hcd7
        case hed7 => go_simp
        rintro e xq ⟨rfl, hx⟩
        subst hx
        rw [HQj.out]
        refine ⟨_, rfl, hS5, ?_⟩
        simp only [List.setIfInBounds_toArray, List.set_cons_zero, List.set_cons_succ]
        refine hold_take (i := 8) (d := 30) (v := .int .i64 ((P : Int) + (Q : Int))) (listed' := #[true, true, true, true, true, true, true, true, true, true, true, true, true, false, false, false, false]) rfl (by kernel_rfl) (by kernel_rfl) (by kernel_rfl) rfl (by rfl) (by kernel_rfl) hS5 ?hd8 ?rd8
        case hd8 =>
          intro w' hSw
          obtain ⟨k0, k1, k2, k3, k4⟩ := hSw
          go_simp
          simp only [S1.out]
        simp only [List.setIfInBounds_toArray, List.set_cons_zero, List.set_cons_succ]
        refine hold_call (i := 13) (d := 35) (listed' := #[true, true, true, true, true, true, true, true, true, true, true, true, true, true, false, false, false]) rfl (by kernel_rfl) rfl (by rfl) (by kernel_rfl) ?hed13 (joinA (nc := nc) hL5.out ha hb) ?hcd13
        case hed13 => go_simp
        rintro e w5 ⟨rfl, hw5⟩
        rw [HJ.out]
        have hall5 : Below W.heap.size W w5 := hall4.drew.trans (hw5.mono hall4.size)
        have hS6 := hkeep.out w5 hall5
        refine ⟨_, rfl, hS6, ?_⟩
        simp only [List.setIfInBounds_toArray, List.set_cons_zero, List.set_cons_succ]
        refine hold_call (i := 14) (d := 36) (listed' := #[true, true, true, true, true, true, true, true, true, true, true, true, true, true, true, false, false]) rfl (by kernel_rfl) rfl (by rfl) (by kernel_rfl) ?hed14 (has_any (a := J) HSl.out (by omega) _) ?hcd14
        case hed14 => go_simp
        rintro e xq ⟨rfl, hx⟩
        subst hx
        rw [HRj.out]
        refine ⟨_, rfl, hS6, ?_⟩
        simp only [List.setIfInBounds_toArray, List.set_cons_zero, List.set_cons_succ]
        refine hold_take (i := 15) (d := 37) (v := .bool true) (listed' := #[true, true, true, true, true, true, true, true, true, true, true, true, true, true, true, true, false]) rfl (by kernel_rfl) (by kernel_rfl) (by kernel_rfl) rfl (by rfl) (by kernel_rfl) hS6 ?hd15 ?rd15
        case hd15 =>
          intro w' hSw
          obtain ⟨k0, k1, k2, k3, k4⟩ := hSw
          go_simp
          have h9 := N2.out
          first | omega | (simp; omega)
        simp only [List.setIfInBounds_toArray, List.set_cons_zero, List.set_cons_succ]
        refine hold_take (i := 16) (d := 38) (v := ?vd16) (listed' := #[true, true, true, true, true, true, true, true, true, true, true, true, true, true, true, true, true]) rfl (by kernel_rfl) (by kernel_rfl) (by kernel_rfl) rfl (by rfl) (by kernel_rfl) hS6 ?hd16 ?rd16
        case hd16 =>
          intro w' hSw
          obtain ⟨k0, k1, k2, k3, k4⟩ := hSw
          go_simp
          try with_reducible rfl
        simp only [List.setIfInBounds_toArray, List.set_cons_zero, List.set_cons_succ]
        refine hold_done (by kernel_rfl) ?_ _
        have v6 := (hall5.cell (p := ⟨w.heap.size + 1 + 1, 0, none⟩) (by show w.heap.size + 1 + 1 < _; omega)).trans v5
        have f6 := (hall5.frozen (p := ⟨w.heap.size + 1 + 1, 0, none⟩) (by show w.heap.size + 1 + 1 < _; omega)).trans f5
        have hB5 := hB.trans (hall5.mono hs)
        clear v5 f5
        gi_wp2_with fail
        exact ⟨(keepsFrom_below hall5).trans ((KeepsOthers.setCell _ _ _).from _), ⟨rfl, HF.out⟩, World.cell?_setCell_same' _ _ _ (by rw [v6]; rfl), (BW.trans (hB5.mono BW.size)).setCell (p := ⟨w.heap.size + 1 + 1, 0, none⟩) (by show w.heap.size ≤ w.heap.size + 1 + 1; omega) _⟩
  case done =>
    rintro D ys W hD hys ⟨hp0, hB⟩ hK
    have HO' := Lib.hid (hp0.all hys)
    clear hp0
    have v0 := (hB.cell (p := ⟨w.heap.size + 1 + 1, 0, none⟩) (by show w.heap.size + 1 + 1 < _; omega)).trans hVc
    have vf := (hB.frozen (p := ⟨w.heap.size + 1 + 1, 0, none⟩) (by show w.heap.size + 1 + 1 < _; omega)).trans hVf
    have hbW := BW.trans (hB.mono BW.size)
    have hDs : w.heap.size ≤ D := Nat.le_trans BW.size hD
    gi_wp2
    have hK' := (KeepsOthers.setCell W ⟨w.heap.size + 1 + 1, 0, none⟩ (.bool true)).same D _ hK rfl
    refine ⟨by simp, .inl ⟨_, _, rfl, run_takeDeferred hK', ?_⟩⟩
    have hc5 := cell_kept (World.cell?_setCell_same' W ⟨w.heap.size + 1 + 1, 0, none⟩ (.bool true) (by rw [v0]; rfl)) (grownBy_putObj' _ D (.deferred none)) (fun r e => by cases e; exact ⟨_, hK', rfl⟩)
    refine ⟨.bool true, ?_, ret_bool HO'.out.symm, (hbW.setCell (p := ⟨w.heap.size + 1 + 1, 0, none⟩) (by show w.heap.size ≤ w.heap.size + 1 + 1; omega) _).trans (belowK_b (w := w) (Nat.le_refl _) _ D _ _ hDs hK' rfl rfl)⟩
    simp [results, Try.f45, go_sem, hc5]
  case stop =>
    rintro D c pre W hD _ ⟨⟨rfl, hbad⟩, hcr, hB⟩ hK
    have hDs : w.heap.size ≤ D := Nat.le_trans BW.size hD
    gi_wp2
    refine ⟨by simp, .inl ⟨_, _, rfl, run_takeDeferred hK, ?_⟩⟩
    have hc5 := cell_kept hcr (grownBy_putObj' _ D (.deferred none)) (fun r e => by cases e; exact ⟨_, hK, rfl⟩)
    refine ⟨.bool false, ?_, ret_bool hbad.symm, hB.trans (belowK_b (w := w) (Nat.le_refl _) W D _ _ hDs hK rfl rfl)⟩
    simp [results, Try.f45, go_sem, hc5]

set_option maxRecDepth 100000 in
set_option maxHeartbeats 4000000 in
theorem StateOk_any {w : World} {B : Nat} {ua : Option Addr} {l : Lay} {m : Mx} {na : Option Addr} {g o k nc : Nat} {z : Nat → Int} {x : Int} (h : LogAt w B ua l m na g o k z) :
    Calls Try.prog 15 #[.agg #[.slice ua m.n l.cap, .slice na k nc], .int .i64 x] w fun e w' => e = .returned (.bool (stateV m k z x)) ∧ Below w.heap.size w w' := by
  have hX := BoxN.start w #[.slice ua m.n l.cap, .slice na k nc] 26
  have q0 := hX.cell 0 rfl
  have q1 := hX.cell 1 rfl
  have bw := hX.below
  have h2 := Lib.hid (h.step bw)
  have hsz : (w.alloc (.cells #[.slice ua m.n l.cap, .slice na k nc] 26)).heap.size ≥ w.heap.size + 1 := by simp
  have hrow2 : Hid (RowAt (w.alloc (.cells #[.slice ua m.n l.cap, .slice na k nc] 26)) (w.alloc (.cells #[.slice ua m.n l.cap, .slice na k nc] 26)).heap.size none 0 0 0 (fun _ => 0)) := ⟨fun c hc => absurd hc (Nat.not_lt_zero _)⟩
  clear h
  go_enter Try.func15, Try.ntmps15
  go_wp2_with fail
  generalize hW : w.alloc (.cells #[.slice ua m.n l.cap, .slice na k nc] 26) = W at hX bw hsz h2 hrow2 q0 q1 ⊢
  clear hW
  go_at_call 31
  refine (algebraWith_any h2.out hrow2.out (by omega)).mono ?_
  rintro e w1 ⟨b1, (⟨hg, ob, tb, tG, rfl, hA⟩ | ⟨hg, rfl⟩)⟩
  · clear q0 q1 hrow2
    have B1 := bw.trans (b1.mono bw.size)
    have h3 := h2.out.step b1
    clear h2 hX bw hsz
    have hl : logicB m k z = true := by rw [good_nil, Bool.and_true] at hg; exact hg
    obtain ⟨y0, o', hO0⟩ := (logicB_is hl).ortho
    have hkn : k = m.n := (logicB_is hl).pair.len
    subst hkn
    have hO := hO0.own
    obtain ⟨y, hy⟩ : ∃ y : Nat → Nat, y = fun c => (z c).toNat := ⟨_, rfl⟩
    rw [← hy] at hO
    obtain ⟨rfl, hL1⟩ := AL.of hA h3 hO
    have hn := hO.lat.order.top
    have HIn : Hid (inB m.n x = true → ∃ s : Nat, x = (s : Int) ∧ s < 4096 ∧ stateV m m.n z x = (oneB m y s && isB m y s)) := fun hi => by
      obtain ⟨i1, i2⟩ : 1 ≤ x ∧ x < (2 ^ m.n : Nat) := of_decide_eq_true hi
      obtain ⟨s, rfl⟩ := Int.eq_ofNat_of_zero_le (show 0 ≤ x by omega)
      have hs : s < 2 ^ m.n := by omega
      exact ⟨s, rfl, Nat.lt_of_lt_of_le hs (pow_le_12 hn), by rw [hO.stateV hl hy hs, hO.state_same]⟩
    have HOut : Hid (inB m.n x = false → false = stateV m m.n z x) := fun hi => by
      have hi' : ¬ (1 ≤ x ∧ x < (2 ^ m.n : Nat)) := of_decide_eq_false hi
      by_cases h0 : x = 0
      · subst h0
        have e := hO.stateV (s := 0) hl hy (Nat.two_pow_pos _)
        rw [state_zero] at e
        exact e.symm
      · have e : inS m.n x = false := decide_eq_false fun h9 => hi' ⟨by omega, h9.2⟩
        unfold stateV
        rw [hl, e]; rfl
    clear hg hl hy hA h3 hO hO0
    have hY := BoxN.start w1 #[.slice ua m.n l.cap, .slice (some ⟨g, o, none⟩) m.n nc, .slice (some ⟨ob, 0, none⟩) 2 2] 55
    have BY := B1.trans (hY.below.mono B1.size)
    have hL := Lib.hid (hL1.step hY.below)
    clear hL1
    have r0 := hY.cell 0 rfl
    have r1 := hY.cell 1 rfl
    have r2 := hY.cell 2 rfl
    unfold algV
    cases hi : inB m.n x with
    | false =>
      have HF := Lib.hid (HOut.out hi)
      have HI := Lib.hid hi
      clear hi
      go_wp2_with fail
      go_at_call 43
      refine (setOk_any (nc := nc) (by omega)).mono ?_
      rintro e w2 ⟨rfl, b2⟩
      rw [HI.out]
      have B2 := BY.trans (b2.mono BY.size)
      clear hY r0 r1 r2 hL
      go_wp2_with fail
      go_ret
      exact ⟨ret_bool HF.out, B2⟩
    | true =>
      obtain ⟨s, rfl, hs, hv⟩ := HIn.out hi
      have HI := Lib.hid hi
      have HV := Lib.hid hv
      have HSl := Lib.hid hs
      clear hi hv hs
      go_wp2_with fail
      go_at_call 43
      refine (setOk_any (nc := nc) (by omega)).mono ?_
      rintro e w2 ⟨rfl, b2⟩
      rw [HI.out]
      have hY2 := hY.step b2
      have hL2 := Lib.hid (hL.out.step b2)
      have B2 := BY.trans (b2.mono BY.size)
      clear hY r0 r1 r2 hL b2
      have r0 := hY2.cell 0 rfl
      have r1 := hY2.cell 1 rfl
      have r2 := hY2.cell 2 rfl
      go_wp2_with fail
      go_at_call 44
      refine (oneOfEach_any (nc := nc) hL2.out HSl.out).mono ?_
      rintro e w3 ⟨rfl, b3⟩
      have hY3 := hY2.step b3
      have hL3 := Lib.hid (hL2.out.step b3)
      have B3 := B2.trans (b3.mono B2.size)
      clear hY2 r0 r1 r2 hL2 b3
      cases ho : oneB m y s with
      | false =>
        have HF : Hid (false = stateV m m.n z (s : Int)) := by show _ = _; rw [HV.out, ho]; rfl
        clear ho
        go_wp2_with fail
        go_ret
        exact ⟨ret_bool HF.out, B3⟩
      | true =>
        have HF : Hid (isB m y s = stateV m m.n z (s : Int)) := by show _ = _; rw [HV.out, ho]; rfl
        clear ho
        have r0 := hY3.cell 0 rfl
        have r1 := hY3.cell 1 rfl
        have r2 := hY3.cell 2 rfl
        go_wp2_with fail
        go_at_call 45
        refine (isState_any (nc := nc) hL3.out HSl.out).mono ?_
        rintro e w4 ⟨rfl, b4⟩
        have B4 := B3.trans (b4.mono B3.size)
        clear hY3 r0 r1 r2 hL3 b4
        go_wp2_with fail
        go_ret
        exact ⟨ret_bool HF.out, B4⟩
  · clear q0 q1 hrow2
    have hl : logicB m k z = false := by rw [good_nil, Bool.and_true] at hg; exact hg
    have HV : Hid (false = stateV m k z x) := by show _ = _; unfold stateV; rw [hl]; rfl
    clear hg hl
    have B1 := bw.trans (b1.mono bw.size)
    have B2 := B1.alloc B1.size (.cells #[.slice none 0 0, .slice none 0 0, .slice none 0 0] 55)
    unfold noAlg
    go_wp2_with fail
    go_ret
    exact ⟨ret_bool HV.out, B2⟩
end Go.Proofs.Ytnbglbhfclohjaa
