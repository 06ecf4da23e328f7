/- The walk of the test whether what is below is above among the opposites. -/
import Derived.Test.YtgjacinolenheaaRn
namespace Go.Proofs.Ytgjacinolenheaa
open Go.RowKit Go.Deep Go.Shelf

attribute [local go_sem] Oper.semAt_some

/-- Nothing speaks against the pairs of the list. -/
def AllTurn (m : Mx) (y : Nat → Nat) (pre : List (Fin m.n × Fin m.n)) : Prop := ∀ p ∈ pre, turnPB m y p.1.val p.2.val = true
theorem AllTurn.snoc {m : Mx} {y : Nat → Nat} {pre : List (Fin m.n × Fin m.n)} (h : AllTurn m y pre) {x : Fin m.n × Fin m.n} (hx : turnPB m y x.1.val x.2.val = true) : AllTurn m y (pre ++ [x]) := fun p hp => by
  rcases List.mem_append.1 hp with e | e
  · exact h p e
  · have e' : p = x := by simpa using e
    rw [e']; exact hx

set_option maxRecDepth 100000 in
set_option maxHeartbeats 2000000 in
theorem turn_any {w : World} {ob B B' g o k nc : Nat} {sa na : Option Addr} {l : Lay} {m : Mx} {z : Nat → Int} {y : Nat → Nat} (hS : SqAt w B sa l m)
    (hR : RowAt w B' na g o k z) (hB' : B' ≤ w.heap.size) (hpos : 1 ≤ m.n) (hk : k = m.n) (hy : ∀ a, a < m.n → z a = (y a : Int) ∧ y a < m.n) :
    Calls Try.prog 56 #[algV sa l m na k nc ob] w fun e w' => e = .returned (.bool (turnB m y)) ∧ Below w.heap.size w w' := by
  subst hk
  obtain ⟨rfl, hg1, hg2⟩ := hR.row 0 (by omega)
  clear hg1 hg2
  have hn := hS.hi
  have hX := BoxN.start w #[.slice sa m.n l.cap, .slice (some ⟨g, o, none⟩) m.n nc, .slice (some ⟨ob, 0, none⟩) 2 2] 65
  have hb1 := hX.below
  have hV := Boxd.start (w.alloc (.cells #[.slice sa m.n l.cap, .slice (some ⟨g, o, none⟩) m.n nc, .slice (some ⟨ob, 0, none⟩) 2 2] 65)) (.bool false) 4
  have hX1 := hX.step (hV.below.mono (by simp))
  have q0 := hX1.cell 0 rfl
  have HS := Lib.hid hS
  have HR := Lib.hid hR
  have HY := Lib.hid hy
  clear hS hR hy
  unfold algV
  refine (callsIn_wide (n := 9)).1 ?_
  refine callsIn_of_wp_marks Try.func56 rfl trivial ?_ rfl
  simp only [Try.ntmps56, List.size_toArray, List.length_cons, List.length_nil, Nat.reduceAdd, Nat.reduceSub, Array.replicate_succ, Array.replicate_zero, List.push_toArray, List.append_toArray, List.nil_append, List.cons_append]
  gi_wp2_with fail
  refine ⟨trivial, ?_⟩
  refine (pairs_any _ _ _).mono ?_
  rintro e w' ⟨rfl, rfl⟩
  gi_wp2_with fail
  have hP := Boxd.start ((w.alloc (.cells #[.slice sa m.n l.cap, .slice (some ⟨g, o, none⟩) m.n nc, .slice (some ⟨ob, 0, none⟩) 2 2] 65)).alloc (.cells #[.bool false] 4)) (.slice sa m.n l.cap) 62
  have hP0 := hP.cell
  have hPs := hP.size
  have hPb := hP.below
  have e1 : (w.alloc (.cells #[.slice sa m.n l.cap, .slice (some ⟨g, o, none⟩) m.n nc, .slice (some ⟨ob, 0, none⟩) 2 2] 65)).heap.size = w.heap.size + 1 := World.size_alloc _ _
  have e2 : ((w.alloc (.cells #[.slice sa m.n l.cap, .slice (some ⟨g, o, none⟩) m.n nc, .slice (some ⟨ob, 0, none⟩) 2 2] 65)).alloc (.cells #[.bool false] 4)).heap.size = w.heap.size + 1 + 1 := by rw [World.size_alloc, e1]
  rw [e2] at hP0 hPs
  have hX2 := hX1.step hPb
  have hV2 := hV.step hPb
  clear hP hX1 hX hV q0 hPb
  generalize hW0 : (((w.alloc (.cells #[.slice sa m.n l.cap, .slice (some ⟨g, o, none⟩) m.n nc, .slice (some ⟨ob, 0, none⟩) 2 2] 65)).alloc (.cells #[.bool false] 4)).alloc (.cells #[.slice sa m.n l.cap] 62)) = W0 at hX2 hV2 hP0 hPs ⊢
  clear hW0
  have hV1 := hV2.since
  have hVc := hV2.cell
  have hVf := hV2.frozen
  rw [e1] at hV1 hVc hVf
  clear e1 e2 hV2 hV1
  have hbw : Below w.heap.size w W0 := hX2.below
  refine wpIn_rangeFunc_ownG rfl (by omega) (gf := 115) (lb := #[.pointer (some ⟨w.heap.size + 1 + 1, 0, none⟩)]) rfl trivial (enters_of Try.func115 (by kernel_rfl) rfl)
    (pairs_stops _ m.n (by omega) hn (w.heap.size + 1 + 1) W0.heap.size l.cap sa W0 (by omega) (Nat.le_refl _) hP0) belowK_t (belowK_b (Nat.le_refl _)) (Below.refl _ _) (fun _ => rfl)
    (fun pre W => AllTurn m y pre ∧ Below W0.heap.size W0 W)
    (fun c _ W => (c = .ret ∧ turnB m y = false) ∧ W.cell? ⟨w.heap.size + 1, 0, none⟩ = some (.bool false) ∧ Below w.heap.size w W)
    (OwnFrom.and (ownFrom_pure _ _) (ownFrom_below (Nat.le_refl _) (Nat.le_refl _)))
    (fun c => OwnFrom.and (ownFrom_pure _ _) (OwnFrom.and (Own.from (fun s A B row hs hg hr => cell_kept hs hg hr) _) (ownFrom_below (Nat.le_refl _) hbw.size)))
    ⟨fun p hp => absurd hp (by simp), Below.refl _ _⟩
    (fun x => { tmps := #[.agg #[.slice sa m.n l.cap, .slice (some ⟨g, o, none⟩) m.n nc, .slice (some ⟨ob, 0, none⟩) 2 2], .pointer (some ⟨w.heap.size, 0, none⟩), .pointer (some ⟨w.heap.size + 1, 0, none⟩),
        .int .i64 ((x.1.val : Nat) : Int), .int .i64 ((x.2.val : Nat) : Int), .pointer (some ⟨w.heap.size, 0, none⟩), .agg #[.slice sa m.n l.cap], .func (.func 115) #[] #[.pointer (some ⟨w.heap.size + 1 + 1, 0, none⟩)],
        .int .i64 ((x.1.val : Nat) : Int), .int .i64 ((x.2.val : Nat) : Int), undef, undef, undef, undef, undef, undef, undef, undef, undef, undef, undef, undef, undef, undef, undef, undef, undef, undef, undef, undef, undef], defers := [] }) ?assign ?body ?done ?stop
  case assign =>
    intro lr x W K hK
    dsimp only
    clear hP0 hX2 hVc hVf HR HY HS hbw hPs hpos hn hB'
    gi_wp2
    exact hK
  case body =>
    rintro lr pre ⟨⟨a, ha⟩, ⟨b, hb⟩⟩ W ⟨hp0, hB⟩ _
    have hp := Lib.hid hp0
    have hXW := hX2.step hB
    have hbW := hXW.below
    have q0 := hXW.cell 0 rfl
    have q1 := hXW.cell 1 rfl
    have hS1 := HS.out.step hbW
    have hSd := Lib.hid (hS1.step (Below.refl _ W).drew)
    have v0 := (hB.cell (p := ⟨w.heap.size + 1, 0, none⟩) (by show w.heap.size + 1 < _; omega)).trans hVc
    have vf := (hB.frozen (p := ⟨w.heap.size + 1, 0, none⟩) (by show w.heap.size + 1 < _; omega)).trans hVf
    have hs := hB.size
    have hr := HR.out.below (hbW.mono hB')
    obtain ⟨_, _, c1⟩ := hr.row a ha
    obtain ⟨_, _, c2⟩ := hr.row b hb
    obtain ⟨ya, ya'⟩ := HY.out a ha
    obtain ⟨yb, yb'⟩ := HY.out b hb
    rw [ya] at c1
    rw [yb] at c2
    have hgB : g < w.heap.size := by
      obtain ⟨_, hg, _⟩ := HR.out.row a ha
      omega
    have ha' : (a : Int) < m.n := by omega
    have hb' : (b : Int) < m.n := by omega
    have hn1 : 1 ≤ 9 - 1 - 1 := by omega
    dsimp only
    clear hp0 hP0 hX2 hVc hVf ya yb hr hS1 hXW
    have hS : (fun w' => w'.cell? ⟨w.heap.size, 0, none⟩ = some (.slice sa m.n l.cap) ∧ w'.cell? ⟨w.heap.size, 1, none⟩ = some (.slice (some ⟨g, o, none⟩) m.n nc) ∧ w'.cell? ⟨g, o + a, none⟩ = some (.int .i64 (y a)) ∧ w'.cell? ⟨g, o + b, none⟩ = some (.int .i64 (y b))) W.drew := ⟨q0, q1, c1, c2⟩
    have hgW : g < W.heap.size := by have := hbW.size; omega
    have hwW : w.heap.size < W.heap.size := by omega
    have hkeep : Hid (∀ w1, Below W.heap.size W w1 → (fun w' => w'.cell? ⟨w.heap.size, 0, none⟩ = some (.slice sa m.n l.cap) ∧ w'.cell? ⟨w.heap.size, 1, none⟩ = some (.slice (some ⟨g, o, none⟩) m.n nc) ∧ w'.cell? ⟨g, o + a, none⟩ = some (.int .i64 (y a)) ∧ w'.cell? ⟨g, o + b, none⟩ = some (.int .i64 (y b))) w1) := fun w1 hb1 => ⟨(hb1.cell (p := ⟨w.heap.size, 0, none⟩) hwW).trans q0, (hb1.cell (p := ⟨w.heap.size, 1, none⟩) hwW).trans q1, (hb1.cell (p := ⟨g, o + a, none⟩) hgW).trans c1, (hb1.cell (p := ⟨g, o + b, none⟩) hgW).trans c2⟩
    gi_wp2_with fail
    cases h1 : leB m a b with
    | false =>
      have H1 := Lib.hid h1
      clear h1
      refine region_hold (fuel := 21) (listed := #[false, false, false, false, false, false, false, false, false, false, false, false, false, false, false, false, false, false, false, false, false]) (fun w' => w'.cell? ⟨w.heap.size, 0, none⟩ = some (.slice sa m.n l.cap) ∧ w'.cell? ⟨w.heap.size, 1, none⟩ = some (.slice (some ⟨g, o, none⟩) m.n nc) ∧ w'.cell? ⟨g, o + a, none⟩ = some (.int .i64 (y a)) ∧ w'.cell? ⟨g, o + b, none⟩ = some (.int .i64 (y b))) (by kernel_rfl) (by kernel_rfl) (by kernel_rfl) (by kernel_rfl) ?_
      refine hold_take (i := 0) (d := 10) (v := ?vb0) (listed' := #[true, false, false, false, false, false, false, false, false, false, false, false, false, false, false, false, false, false, false, false, false]) rfl (by kernel_rfl) (by kernel_rfl) (by kernel_rfl) rfl (by rfl) (by kernel_rfl) hS ?hb0 ?rb0
      case hb0 =>
        intro w' hSw
        obtain ⟨k0, k1, k2, k3⟩ := hSw
        go_simp
        try with_reducible rfl
      simp only [List.setIfInBounds_toArray, List.set_cons_zero, List.set_cons_succ]
      refine hold_take (i := 1) (d := 11) (v := ?vb1) (listed' := #[true, true, false, false, false, false, false, false, false, false, false, false, false, false, false, false, false, false, false, false, false]) rfl (by kernel_rfl) (by kernel_rfl) (by kernel_rfl) rfl (by rfl) (by kernel_rfl) hS ?hb1 ?rb1
      case hb1 =>
        intro w' hSw
        obtain ⟨k0, k1, k2, k3⟩ := hSw
        go_simp
        try with_reducible rfl
      simp only [List.setIfInBounds_toArray, List.set_cons_zero, List.set_cons_succ]
      refine hold_take (i := 2) (d := 12) (v := ?vb2) (listed' := #[true, true, true, false, false, false, false, false, false, false, false, false, false, false, false, false, false, false, false, false, false]) rfl (by kernel_rfl) (by kernel_rfl) (by kernel_rfl) rfl (by rfl) (by kernel_rfl) hS ?hb2 ?rb2
      case hb2 =>
        intro w' hSw
        obtain ⟨k0, k1, k2, k3⟩ := hSw
        go_simp
        try with_reducible rfl
      simp only [List.setIfInBounds_toArray, List.set_cons_zero, List.set_cons_succ]
      refine hold_take (i := 3) (d := 13) (v := ?vb3) (listed' := #[true, true, true, true, false, false, false, false, false, false, false, false, false, false, false, false, false, false, false, false, false]) rfl (by kernel_rfl) (by kernel_rfl) (by kernel_rfl) rfl (by rfl) (by kernel_rfl) hS ?hb3 ?rb3
      case hb3 =>
        intro w' hSw
        obtain ⟨k0, k1, k2, k3⟩ := hSw
        go_simp
        try with_reducible rfl
      simp only [List.setIfInBounds_toArray, List.set_cons_zero, List.set_cons_succ]
      refine hold_call (i := 4) (d := 14) (listed' := #[true, true, true, true, true, false, false, false, false, false, false, false, false, false, false, false, false, false, false, false, false]) rfl (by kernel_rfl) rfl (by rfl) (by kernel_rfl) ?heb4 (below_sq hSd.out ha hb) ?hcb4
      case heb4 => go_simp
      rintro e w1 ⟨rfl, hw1⟩
      rw [H1.out]
      have hall : Below W.heap.size W w1 := (Below.refl _ W).drew.trans hw1
      have hS1 : (fun w' => w'.cell? ⟨w.heap.size, 0, none⟩ = some (.slice sa m.n l.cap) ∧ w'.cell? ⟨w.heap.size, 1, none⟩ = some (.slice (some ⟨g, o, none⟩) m.n nc) ∧ w'.cell? ⟨g, o + a, none⟩ = some (.int .i64 (y a)) ∧ w'.cell? ⟨g, o + b, none⟩ = some (.int .i64 (y b))) w1 := hkeep.out w1 hall
      refine ⟨_, rfl, hS1, ?_⟩
      simp only [List.setIfInBounds_toArray, List.set_cons_zero, List.set_cons_succ]
      refine hold_take (i := 5) (d := 15) (v := ?vb5) (listed' := #[true, true, true, true, true, true, false, false, false, false, false, false, false, false, false, false, false, false, false, false, false]) rfl (by kernel_rfl) (by kernel_rfl) (by kernel_rfl) rfl (by rfl) (by kernel_rfl) hS1 ?hb5 ?rb5
      case hb5 =>
        intro w' hSw
        obtain ⟨k0, k1, k2, k3⟩ := hSw
        go_simp
        try with_reducible rfl
      simp only [List.setIfInBounds_toArray, List.set_cons_zero, List.set_cons_succ]
      refine hold_skip (i := 6) (d := 16) (listed' := #[true, true, true, true, true, true, true, false, false, false, false, false, false, false, false, false, false, false, false, false, false]) rfl (by kernel_rfl) (by kernel_rfl) (by kernel_rfl) rfl (by rfl) (by kernel_rfl) hS1 ?_
      simp only [List.setIfInBounds_toArray, List.set_cons_zero, List.set_cons_succ]
      refine hold_skip (i := 7) (d := 17) (listed' := #[true, true, true, true, true, true, true, true, false, false, false, false, false, false, false, false, false, false, false, false, false]) rfl (by kernel_rfl) (by kernel_rfl) (by kernel_rfl) rfl (by rfl) (by kernel_rfl) hS1 ?_
      simp only [List.setIfInBounds_toArray, List.set_cons_zero, List.set_cons_succ]
      refine hold_skip (i := 8) (d := 18) (listed' := #[true, true, true, true, true, true, true, true, true, false, false, false, false, false, false, false, false, false, false, false, false]) rfl (by kernel_rfl) (by kernel_rfl) (by kernel_rfl) rfl (by rfl) (by kernel_rfl) hS1 ?_
      simp only [List.setIfInBounds_toArray, List.set_cons_zero, List.set_cons_succ]
      refine hold_skip (i := 9) (d := 19) (listed' := #[true, true, true, true, true, true, true, true, true, true, false, false, false, false, false, false, false, false, false, false, false]) rfl (by kernel_rfl) (by kernel_rfl) (by kernel_rfl) rfl (by rfl) (by kernel_rfl) hS1 ?_
      simp only [List.setIfInBounds_toArray, List.set_cons_zero, List.set_cons_succ]
      refine hold_skip (i := 10) (d := 20) (listed' := #[true, true, true, true, true, true, true, true, true, true, true, false, false, false, false, false, false, false, false, false, false]) rfl (by kernel_rfl) (by kernel_rfl) (by kernel_rfl) rfl (by rfl) (by kernel_rfl) hS1 ?_
      simp only [List.setIfInBounds_toArray, List.set_cons_zero, List.set_cons_succ]
      refine hold_skip (i := 11) (d := 21) (listed' := #[true, true, true, true, true, true, true, true, true, true, true, true, false, false, false, false, false, false, false, false, false]) rfl (by kernel_rfl) (by kernel_rfl) (by kernel_rfl) rfl (by rfl) (by kernel_rfl) hS1 ?_
      simp only [List.setIfInBounds_toArray, List.set_cons_zero, List.set_cons_succ]
      refine hold_skip (i := 12) (d := 22) (listed' := #[true, true, true, true, true, true, true, true, true, true, true, true, true, false, false, false, false, false, false, false, false]) rfl (by kernel_rfl) (by kernel_rfl) (by kernel_rfl) rfl (by rfl) (by kernel_rfl) hS1 ?_
      simp only [List.setIfInBounds_toArray, List.set_cons_zero, List.set_cons_succ]
      refine hold_skip (i := 13) (d := 23) (listed' := #[true, true, true, true, true, true, true, true, true, true, true, true, true, true, false, false, false, false, false, false, false]) rfl (by kernel_rfl) (by kernel_rfl) (by kernel_rfl) rfl (by rfl) (by kernel_rfl) hS1 ?_
      simp only [List.setIfInBounds_toArray, List.set_cons_zero, List.set_cons_succ]
      refine hold_skip (i := 14) (d := 24) (listed' := #[true, true, true, true, true, true, true, true, true, true, true, true, true, true, true, false, false, false, false, false, false]) rfl (by kernel_rfl) (by kernel_rfl) (by kernel_rfl) rfl (by rfl) (by kernel_rfl) hS1 ?_
      simp only [List.setIfInBounds_toArray, List.set_cons_zero, List.set_cons_succ]
      refine hold_skip (i := 15) (d := 25) (listed' := #[true, true, true, true, true, true, true, true, true, true, true, true, true, true, true, true, false, false, false, false, false]) rfl (by kernel_rfl) (by kernel_rfl) (by kernel_rfl) rfl (by rfl) (by kernel_rfl) hS1 ?_
      simp only [List.setIfInBounds_toArray, List.set_cons_zero, List.set_cons_succ]
      refine hold_skip (i := 16) (d := 26) (listed' := #[true, true, true, true, true, true, true, true, true, true, true, true, true, true, true, true, true, false, false, false, false]) rfl (by kernel_rfl) (by kernel_rfl) (by kernel_rfl) rfl (by rfl) (by kernel_rfl) hS1 ?_
      simp only [List.setIfInBounds_toArray, List.set_cons_zero, List.set_cons_succ]
      refine hold_skip (i := 17) (d := 27) (listed' := #[true, true, true, true, true, true, true, true, true, true, true, true, true, true, true, true, true, true, false, false, false]) rfl (by kernel_rfl) (by kernel_rfl) (by kernel_rfl) rfl (by rfl) (by kernel_rfl) hS1 ?_
      simp only [List.setIfInBounds_toArray, List.set_cons_zero, List.set_cons_succ]
      refine hold_skip (i := 18) (d := 28) (listed' := #[true, true, true, true, true, true, true, true, true, true, true, true, true, true, true, true, true, true, true, false, false]) rfl (by kernel_rfl) (by kernel_rfl) (by kernel_rfl) rfl (by rfl) (by kernel_rfl) hS1 ?_
      simp only [List.setIfInBounds_toArray, List.set_cons_zero, List.set_cons_succ]
      refine hold_skip (i := 19) (d := 29) (listed' := #[true, true, true, true, true, true, true, true, true, true, true, true, true, true, true, true, true, true, true, true, false]) rfl (by kernel_rfl) (by kernel_rfl) (by kernel_rfl) rfl (by rfl) (by kernel_rfl) hS1 ?_
      simp only [List.setIfInBounds_toArray, List.set_cons_zero, List.set_cons_succ]
      refine hold_take (i := 20) (d := 30) (v := ?vb20) (listed' := #[true, true, true, true, true, true, true, true, true, true, true, true, true, true, true, true, true, true, true, true, true]) rfl (by kernel_rfl) (by kernel_rfl) (by kernel_rfl) rfl (by rfl) (by kernel_rfl) hS1 ?hb20 ?rb20
      case hb20 =>
        intro w' hSw
        obtain ⟨k0, k1, k2, k3⟩ := hSw
        go_simp
        try with_reducible rfl
      simp only [List.setIfInBounds_toArray, List.set_cons_zero, List.set_cons_succ]
      refine hold_done (by kernel_rfl) ?_ _
      gi_wp2_with fail
      exact ⟨keepsFrom_below hall, hall.mono hs, hp.out.snoc (by simp [turnPB, H1.out]), hB.trans (hall.mono hs)⟩
    | true =>
      have H1 := Lib.hid h1
      clear h1
      cases h2 : leB m (y b) (y a) with
      | false =>
        have H2 := Lib.hid h2
        clear h2
        refine region_hold (fuel := 21) (listed := #[false, false, false, false, false, false, false, false, false, false, false, false, false, false, false, false, false, false, false, false, false]) (fun w' => w'.cell? ⟨w.heap.size, 0, none⟩ = some (.slice sa m.n l.cap) ∧ w'.cell? ⟨w.heap.size, 1, none⟩ = some (.slice (some ⟨g, o, none⟩) m.n nc) ∧ w'.cell? ⟨g, o + a, none⟩ = some (.int .i64 (y a)) ∧ w'.cell? ⟨g, o + b, none⟩ = some (.int .i64 (y b))) (by kernel_rfl) (by kernel_rfl) (by kernel_rfl) (by kernel_rfl) ?_
        refine hold_take (i := 0) (d := 10) (v := ?vc0) (listed' := #[true, false, false, false, false, false, false, false, false, false, false, false, false, false, false, false, false, false, false, false, false]) rfl (by kernel_rfl) (by kernel_rfl) (by kernel_rfl) rfl (by rfl) (by kernel_rfl) hS ?hc0 ?rc0
        case hc0 =>
          intro w' hSw
          obtain ⟨k0, k1, k2, k3⟩ := hSw
          go_simp
          try with_reducible rfl
        simp only [List.setIfInBounds_toArray, List.set_cons_zero, List.set_cons_succ]
        refine hold_take (i := 1) (d := 11) (v := ?vc1) (listed' := #[true, true, false, false, false, false, false, false, false, false, false, false, false, false, false, false, false, false, false, false, false]) rfl (by kernel_rfl) (by kernel_rfl) (by kernel_rfl) rfl (by rfl) (by kernel_rfl) hS ?hc1 ?rc1
        case hc1 =>
          intro w' hSw
          obtain ⟨k0, k1, k2, k3⟩ := hSw
          go_simp
          try with_reducible rfl
        simp only [List.setIfInBounds_toArray, List.set_cons_zero, List.set_cons_succ]
        refine hold_take (i := 2) (d := 12) (v := ?vc2) (listed' := #[true, true, true, false, false, false, false, false, false, false, false, false, false, false, false, false, false, false, false, false, false]) rfl (by kernel_rfl) (by kernel_rfl) (by kernel_rfl) rfl (by rfl) (by kernel_rfl) hS ?hc2 ?rc2
        case hc2 =>
          intro w' hSw
          obtain ⟨k0, k1, k2, k3⟩ := hSw
          go_simp
          try with_reducible rfl
        simp only [List.setIfInBounds_toArray, List.set_cons_zero, List.set_cons_succ]
        refine hold_take (i := 3) (d := 13) (v := ?vc3) (listed' := #[true, true, true, true, false, false, false, false, false, false, false, false, false, false, false, false, false, false, false, false, false]) rfl (by kernel_rfl) (by kernel_rfl) (by kernel_rfl) rfl (by rfl) (by kernel_rfl) hS ?hc3 ?rc3
        case hc3 =>
          intro w' hSw
          obtain ⟨k0, k1, k2, k3⟩ := hSw
          go_simp
          try with_reducible rfl
        simp only [List.setIfInBounds_toArray, List.set_cons_zero, List.set_cons_succ]
        refine hold_call (i := 4) (d := 14) (listed' := #[true, true, true, true, true, false, false, false, false, false, false, false, false, false, false, false, false, false, false, false, false]) rfl (by kernel_rfl) rfl (by rfl) (by kernel_rfl) ?hec4 (below_sq hSd.out ha hb) ?hcc4
        case hec4 => go_simp
        rintro e w1 ⟨rfl, hw1⟩
        rw [H1.out]
        have hall : Below W.heap.size W w1 := (Below.refl _ W).drew.trans hw1
        have hS1 : (fun w' => w'.cell? ⟨w.heap.size, 0, none⟩ = some (.slice sa m.n l.cap) ∧ w'.cell? ⟨w.heap.size, 1, none⟩ = some (.slice (some ⟨g, o, none⟩) m.n nc) ∧ w'.cell? ⟨g, o + a, none⟩ = some (.int .i64 (y a)) ∧ w'.cell? ⟨g, o + b, none⟩ = some (.int .i64 (y b))) w1 := hkeep.out w1 hall
        refine ⟨_, rfl, hS1, ?_⟩
        simp only [List.setIfInBounds_toArray, List.set_cons_zero, List.set_cons_succ]
        refine hold_take (i := 5) (d := 15) (v := ?vc5) (listed' := #[true, true, true, true, true, true, false, false, false, false, false, false, false, false, false, false, false, false, false, false, false]) rfl (by kernel_rfl) (by kernel_rfl) (by kernel_rfl) rfl (by rfl) (by kernel_rfl) hS1 ?hc5 ?rc5
        case hc5 =>
          intro w' hSw
          obtain ⟨k0, k1, k2, k3⟩ := hSw
          go_simp
          try with_reducible rfl
        simp only [List.setIfInBounds_toArray, List.set_cons_zero, List.set_cons_succ]
        refine hold_take (i := 6) (d := 16) (v := ?vc6) (listed' := #[true, true, true, true, true, true, true, false, false, false, false, false, false, false, false, false, false, false, false, false, false]) rfl (by kernel_rfl) (by kernel_rfl) (by kernel_rfl) rfl (by rfl) (by kernel_rfl) hS1 ?hc6 ?rc6
        case hc6 =>
          intro w' hSw
          obtain ⟨k0, k1, k2, k3⟩ := hSw
          go_simp
          try with_reducible rfl
        simp only [List.setIfInBounds_toArray, List.set_cons_zero, List.set_cons_succ]
        refine hold_take (i := 7) (d := 17) (v := ?vc7) (listed' := #[true, true, true, true, true, true, true, true, false, false, false, false, false, false, false, false, false, false, false, false, false]) rfl (by kernel_rfl) (by kernel_rfl) (by kernel_rfl) rfl (by rfl) (by kernel_rfl) hS1 ?hc7 ?rc7
        case hc7 =>
          intro w' hSw
          obtain ⟨k0, k1, k2, k3⟩ := hSw
          go_simp
          try with_reducible rfl
        simp only [List.setIfInBounds_toArray, List.set_cons_zero, List.set_cons_succ]
        refine hold_take (i := 8) (d := 18) (v := ?vc8) (listed' := #[true, true, true, true, true, true, true, true, true, false, false, false, false, false, false, false, false, false, false, false, false]) rfl (by kernel_rfl) (by kernel_rfl) (by kernel_rfl) rfl (by rfl) (by kernel_rfl) hS1 ?hc8 ?rc8
        case hc8 =>
          intro w' hSw
          obtain ⟨k0, k1, k2, k3⟩ := hSw
          go_simp
          try with_reducible rfl
        simp only [List.setIfInBounds_toArray, List.set_cons_zero, List.set_cons_succ]
        refine hold_take (i := 9) (d := 19) (v := ?vc9) (listed' := #[true, true, true, true, true, true, true, true, true, true, false, false, false, false, false, false, false, false, false, false, false]) rfl (by kernel_rfl) (by kernel_rfl) (by kernel_rfl) rfl (by rfl) (by kernel_rfl) hS1 ?hc9 ?rc9
        case hc9 =>
          intro w' hSw
          obtain ⟨k0, k1, k2, k3⟩ := hSw
          go_simp
          try with_reducible rfl
        simp only [List.setIfInBounds_toArray, List.set_cons_zero, List.set_cons_succ]
        refine hold_take (i := 10) (d := 20) (v := ?vc10) (listed' := #[true, true, true, true, true, true, true, true, true, true, true, false, false, false, false, false, false, false, false, false, false]) rfl (by kernel_rfl) (by kernel_rfl) (by kernel_rfl) rfl (by rfl) (by kernel_rfl) hS1 ?hc10 ?rc10
        case hc10 =>
          intro w' hSw
          obtain ⟨k0, k1, k2, k3⟩ := hSw
          go_simp
          try with_reducible rfl
        simp only [List.setIfInBounds_toArray, List.set_cons_zero, List.set_cons_succ]
        refine hold_take (i := 11) (d := 21) (v := ?vc11) (listed' := #[true, true, true, true, true, true, true, true, true, true, true, true, false, false, false, false, false, false, false, false, false]) rfl (by kernel_rfl) (by kernel_rfl) (by kernel_rfl) rfl (by rfl) (by kernel_rfl) hS1 ?hc11 ?rc11
        case hc11 =>
          intro w' hSw
          obtain ⟨k0, k1, k2, k3⟩ := hSw
          go_simp
          try with_reducible rfl
        simp only [List.setIfInBounds_toArray, List.set_cons_zero, List.set_cons_succ]
        refine hold_take (i := 12) (d := 22) (v := ?vc12) (listed' := #[true, true, true, true, true, true, true, true, true, true, true, true, true, false, false, false, false, false, false, false, false]) rfl (by kernel_rfl) (by kernel_rfl) (by kernel_rfl) rfl (by rfl) (by kernel_rfl) hS1 ?hc12 ?rc12
        case hc12 =>
          intro w' hSw
          obtain ⟨k0, k1, k2, k3⟩ := hSw
          go_simp
          try with_reducible rfl
        simp only [List.setIfInBounds_toArray, List.set_cons_zero, List.set_cons_succ]
        refine hold_take (i := 13) (d := 23) (v := ?vc13) (listed' := #[true, true, true, true, true, true, true, true, true, true, true, true, true, true, false, false, false, false, false, false, false]) rfl (by kernel_rfl) (by kernel_rfl) (by kernel_rfl) rfl (by rfl) (by kernel_rfl) hS1 ?hc13 ?rc13
        case hc13 =>
          intro w' hSw
          obtain ⟨k0, k1, k2, k3⟩ := hSw
          go_simp
          try with_reducible rfl
        simp only [List.setIfInBounds_toArray, List.set_cons_zero, List.set_cons_succ]
        refine hold_take (i := 14) (d := 24) (v := ?vc14) (listed' := #[true, true, true, true, true, true, true, true, true, true, true, true, true, true, true, false, false, false, false, false, false]) rfl (by kernel_rfl) (by kernel_rfl) (by kernel_rfl) rfl (by rfl) (by kernel_rfl) hS1 ?hc14 ?rc14
        case hc14 =>
          intro w' hSw
          obtain ⟨k0, k1, k2, k3⟩ := hSw
          go_simp
          try with_reducible rfl
        simp only [List.setIfInBounds_toArray, List.set_cons_zero, List.set_cons_succ]
        refine hold_take (i := 15) (d := 25) (v := ?vc15) (listed' := #[true, true, true, true, true, true, true, true, true, true, true, true, true, true, true, true, false, false, false, false, false]) rfl (by kernel_rfl) (by kernel_rfl) (by kernel_rfl) rfl (by rfl) (by kernel_rfl) hS1 ?hc15 ?rc15
        case hc15 =>
          intro w' hSw
          obtain ⟨k0, k1, k2, k3⟩ := hSw
          go_simp
          try with_reducible rfl
        simp only [List.setIfInBounds_toArray, List.set_cons_zero, List.set_cons_succ]
        refine hold_take (i := 16) (d := 26) (v := ?vc16) (listed' := #[true, true, true, true, true, true, true, true, true, true, true, true, true, true, true, true, true, false, false, false, false]) rfl (by kernel_rfl) (by kernel_rfl) (by kernel_rfl) rfl (by rfl) (by kernel_rfl) hS1 ?hc16 ?rc16
        case hc16 =>
          intro w' hSw
          obtain ⟨k0, k1, k2, k3⟩ := hSw
          go_simp
          try with_reducible rfl
        simp only [List.setIfInBounds_toArray, List.set_cons_zero, List.set_cons_succ]
        refine hold_take (i := 17) (d := 27) (v := ?vc17) (listed' := #[true, true, true, true, true, true, true, true, true, true, true, true, true, true, true, true, true, true, false, false, false]) rfl (by kernel_rfl) (by kernel_rfl) (by kernel_rfl) rfl (by rfl) (by kernel_rfl) hS1 ?hc17 ?rc17
        case hc17 =>
          intro w' hSw
          obtain ⟨k0, k1, k2, k3⟩ := hSw
          go_simp
          try with_reducible rfl
        simp only [List.setIfInBounds_toArray, List.set_cons_zero, List.set_cons_succ]
        refine hold_call (i := 18) (d := 28) (listed' := #[true, true, true, true, true, true, true, true, true, true, true, true, true, true, true, true, true, true, true, false, false]) rfl (by kernel_rfl) rfl (by rfl) (by kernel_rfl) ?hec18 (below_sq (hSd.out.step hw1) yb' ya') ?hcc18
        case hec18 => go_simp
        rintro e w2 ⟨rfl, hw2⟩
        rw [H2.out]
        have hall2 : Below W.heap.size W w2 := hall.trans (hw2.mono hall.size)
        have hS2 : (fun w' => w'.cell? ⟨w.heap.size, 0, none⟩ = some (.slice sa m.n l.cap) ∧ w'.cell? ⟨w.heap.size, 1, none⟩ = some (.slice (some ⟨g, o, none⟩) m.n nc) ∧ w'.cell? ⟨g, o + a, none⟩ = some (.int .i64 (y a)) ∧ w'.cell? ⟨g, o + b, none⟩ = some (.int .i64 (y b))) w2 := hkeep.out w2 hall2
        refine ⟨_, rfl, hS2, ?_⟩
        simp only [List.setIfInBounds_toArray, List.set_cons_zero, List.set_cons_succ]
        refine hold_take (i := 19) (d := 29) (v := ?vc19) (listed' := #[true, true, true, true, true, true, true, true, true, true, true, true, true, true, true, true, true, true, true, true, false]) rfl (by kernel_rfl) (by kernel_rfl) (by kernel_rfl) rfl (by rfl) (by kernel_rfl) hS2 ?hc19 ?rc19
        case hc19 =>
          intro w' hSw
          obtain ⟨k0, k1, k2, k3⟩ := hSw
          go_simp
          try with_reducible rfl
        simp only [List.setIfInBounds_toArray, List.set_cons_zero, List.set_cons_succ]
        refine hold_take (i := 20) (d := 30) (v := ?vc20) (listed' := #[true, true, true, true, true, true, true, true, true, true, true, true, true, true, true, true, true, true, true, true, true]) rfl (by kernel_rfl) (by kernel_rfl) (by kernel_rfl) rfl (by rfl) (by kernel_rfl) hS2 ?hc20 ?rc20
        case hc20 =>
          intro w' hSw
          obtain ⟨k0, k1, k2, k3⟩ := hSw
          go_simp
          try with_reducible rfl
        simp only [List.setIfInBounds_toArray, List.set_cons_zero, List.set_cons_succ]
        refine hold_done (by kernel_rfl) ?_ _
        have v2 := (hall2.cell (p := ⟨w.heap.size + 1, 0, none⟩) (by show w.heap.size + 1 < _; omega)).trans v0
        have f2 := (hall2.frozen (p := ⟨w.heap.size + 1, 0, none⟩) (by show w.heap.size + 1 < _; omega)).trans vf
        gi_wp2_with fail
        exact ⟨(keepsFrom_below hall2).trans ((KeepsOthers.setCell _ _ _).from _), ⟨rfl, allB_false ha (allB_false hb (by simp [turnPB, H1.out, H2.out]))⟩, World.cell?_setCell_same' _ _ _ (by rw [v2]; rfl), (hbW.trans (hall2.mono (by omega))).setCell (p := ⟨w.heap.size + 1, 0, none⟩) (by show w.heap.size ≤ w.heap.size + 1; omega) _⟩
      | true =>
        have H2 := Lib.hid h2
        clear h2
        refine region_hold (fuel := 21) (listed := #[false, false, false, false, false, false, false, false, false, false, false, false, false, false, false, false, false, false, false, false, false]) (fun w' => w'.cell? ⟨w.heap.size, 0, none⟩ = some (.slice sa m.n l.cap) ∧ w'.cell? ⟨w.heap.size, 1, none⟩ = some (.slice (some ⟨g, o, none⟩) m.n nc) ∧ w'.cell? ⟨g, o + a, none⟩ = some (.int .i64 (y a)) ∧ w'.cell? ⟨g, o + b, none⟩ = some (.int .i64 (y b))) (by kernel_rfl) (by kernel_rfl) (by kernel_rfl) (by kernel_rfl) ?_
        refine hold_take (i := 0) (d := 10) (v := ?vd0) (listed' := #[true, false, false, false, false, false, false, false, false, false, false, false, false, false, false, false, false, false, false, false, false]) rfl (by kernel_rfl) (by kernel_rfl) (by kernel_rfl) rfl (by rfl) (by kernel_rfl) hS ?hd0 ?rd0
        case hd0 =>
          intro w' hSw
          obtain ⟨k0, k1, k2, k3⟩ := hSw
          go_simp
          try with_reducible rfl
        simp only [List.setIfInBounds_toArray, List.set_cons_zero, List.set_cons_succ]
        refine hold_take (i := 1) (d := 11) (v := ?vd1) (listed' := #[true, true, false, false, false, false, false, false, false, false, false, false, false, false, false, false, false, false, false, false, false]) rfl (by kernel_rfl) (by kernel_rfl) (by kernel_rfl) rfl (by rfl) (by kernel_rfl) hS ?hd1 ?rd1
        case hd1 =>
          intro w' hSw
          obtain ⟨k0, k1, k2, k3⟩ := hSw
          go_simp
          try with_reducible rfl
        simp only [List.setIfInBounds_toArray, List.set_cons_zero, List.set_cons_succ]
        refine hold_take (i := 2) (d := 12) (v := ?vd2) (listed' := #[true, true, true, false, false, false, false, false, false, false, false, false, false, false, false, false, false, false, false, false, false]) rfl (by kernel_rfl) (by kernel_rfl) (by kernel_rfl) rfl (by rfl) (by kernel_rfl) hS ?hd2 ?rd2
        case hd2 =>
          intro w' hSw
          obtain ⟨k0, k1, k2, k3⟩ := hSw
          go_simp
          try with_reducible rfl
        simp only [List.setIfInBounds_toArray, List.set_cons_zero, List.set_cons_succ]
        refine hold_take (i := 3) (d := 13) (v := ?vd3) (listed' := #[true, true, true, true, false, false, false, false, false, false, false, false, false, false, false, false, false, false, false, false, false]) rfl (by kernel_rfl) (by kernel_rfl) (by kernel_rfl) rfl (by rfl) (by kernel_rfl) hS ?hd3 ?rd3
        case hd3 =>
          intro w' hSw
          obtain ⟨k0, k1, k2, k3⟩ := hSw
          go_simp
          try with_reducible rfl
        simp only [List.setIfInBounds_toArray, List.set_cons_zero, List.set_cons_succ]
        refine hold_call (i := 4) (d := 14) (listed' := #[true, true, true, true, true, false, false, false, false, false, false, false, false, false, false, false, false, false, false, false, false]) rfl (by kernel_rfl) rfl (by rfl) (by kernel_rfl) ?hed4 (below_sq hSd.out ha hb) ?hcd4
        case hed4 => go_simp
        rintro e w1 ⟨rfl, hw1⟩
        rw [H1.out]
        have hall : Below W.heap.size W w1 := (Below.refl _ W).drew.trans hw1
        have hS1 : (fun w' => w'.cell? ⟨w.heap.size, 0, none⟩ = some (.slice sa m.n l.cap) ∧ w'.cell? ⟨w.heap.size, 1, none⟩ = some (.slice (some ⟨g, o, none⟩) m.n nc) ∧ w'.cell? ⟨g, o + a, none⟩ = some (.int .i64 (y a)) ∧ w'.cell? ⟨g, o + b, none⟩ = some (.int .i64 (y b))) w1 := hkeep.out w1 hall
        refine ⟨_, rfl, hS1, ?_⟩
        simp only [List.setIfInBounds_toArray, List.set_cons_zero, List.set_cons_succ]
        refine hold_take (i := 5) (d := 15) (v := ?vd5) (listed' := #[true, true, true, true, true, true, false, false, false, false, false, false, false, false, false, false, false, false, false, false, false]) rfl (by kernel_rfl) (by kernel_rfl) (by kernel_rfl) rfl (by rfl) (by kernel_rfl) hS1 ?hd5 ?rd5
        case hd5 =>
          intro w' hSw
          obtain ⟨k0, k1, k2, k3⟩ := hSw
          go_simp
          try with_reducible rfl
        simp only [List.setIfInBounds_toArray, List.set_cons_zero, List.set_cons_succ]
        refine hold_take (i := 6) (d := 16) (v := ?vd6) (listed' := #[true, true, true, true, true, true, true, false, false, false, false, false, false, false, false, false, false, false, false, false, false]) rfl (by kernel_rfl) (by kernel_rfl) (by kernel_rfl) rfl (by rfl) (by kernel_rfl) hS1 ?hd6 ?rd6
        case hd6 =>
          intro w' hSw
          obtain ⟨k0, k1, k2, k3⟩ := hSw
          go_simp
          try with_reducible rfl
        simp only [List.setIfInBounds_toArray, List.set_cons_zero, List.set_cons_succ]
        refine hold_take (i := 7) (d := 17) (v := ?vd7) (listed' := #[true, true, true, true, true, true, true, true, false, false, false, false, false, false, false, false, false, false, false, false, false]) rfl (by kernel_rfl) (by kernel_rfl) (by kernel_rfl) rfl (by rfl) (by kernel_rfl) hS1 ?hd7 ?rd7
        case hd7 =>
          intro w' hSw
          obtain ⟨k0, k1, k2, k3⟩ := hSw
          go_simp
          try with_reducible rfl
        simp only [List.setIfInBounds_toArray, List.set_cons_zero, List.set_cons_succ]
        refine hold_take (i := 8) (d := 18) (v := ?vd8) (listed' := #[true, true, true, true, true, true, true, true, true, false, false, false, false, false, false, false, false, false, false, false, false]) rfl (by kernel_rfl) (by kernel_rfl) (by kernel_rfl) rfl (by rfl) (by kernel_rfl) hS1 ?hd8 ?rd8
        case hd8 =>
          intro w' hSw
          obtain ⟨k0, k1, k2, k3⟩ := hSw
          go_simp
          try with_reducible rfl
        simp only [List.setIfInBounds_toArray, List.set_cons_zero, List.set_cons_succ]
        refine hold_take (i := 9) (d := 19) (v := ?vd9) (listed' := #[true, true, true, true, true, true, true, true, true, true, false, false, false, false, false, false, false, false, false, false, false]) rfl (by kernel_rfl) (by kernel_rfl) (by kernel_rfl) rfl (by rfl) (by kernel_rfl) hS1 ?hd9 ?rd9
        case hd9 =>
          intro w' hSw
          obtain ⟨k0, k1, k2, k3⟩ := hSw
          go_simp
          try with_reducible rfl
        simp only [List.setIfInBounds_toArray, List.set_cons_zero, List.set_cons_succ]
        refine hold_take (i := 10) (d := 20) (v := ?vd10) (listed' := #[true, true, true, true, true, true, true, true, true, true, true, false, false, false, false, false, false, false, false, false, false]) rfl (by kernel_rfl) (by kernel_rfl) (by kernel_rfl) rfl (by rfl) (by kernel_rfl) hS1 ?hd10 ?rd10
        case hd10 =>
          intro w' hSw
          obtain ⟨k0, k1, k2, k3⟩ := hSw
          go_simp
          try with_reducible rfl
        simp only [List.setIfInBounds_toArray, List.set_cons_zero, List.set_cons_succ]
        refine hold_take (i := 11) (d := 21) (v := ?vd11) (listed' := #[true, true, true, true, true, true, true, true, true, true, true, true, false, false, false, false, false, false, false, false, false]) rfl (by kernel_rfl) (by kernel_rfl) (by kernel_rfl) rfl (by rfl) (by kernel_rfl) hS1 ?hd11 ?rd11
        case hd11 =>
          intro w' hSw
          obtain ⟨k0, k1, k2, k3⟩ := hSw
          go_simp
          try with_reducible rfl
        simp only [List.setIfInBounds_toArray, List.set_cons_zero, List.set_cons_succ]
        refine hold_take (i := 12) (d := 22) (v := ?vd12) (listed' := #[true, true, true, true, true, true, true, true, true, true, true, true, true, false, false, false, false, false, false, false, false]) rfl (by kernel_rfl) (by kernel_rfl) (by kernel_rfl) rfl (by rfl) (by kernel_rfl) hS1 ?hd12 ?rd12
        case hd12 =>
          intro w' hSw
          obtain ⟨k0, k1, k2, k3⟩ := hSw
          go_simp
          try with_reducible rfl
        simp only [List.setIfInBounds_toArray, List.set_cons_zero, List.set_cons_succ]
        refine hold_take (i := 13) (d := 23) (v := ?vd13) (listed' := #[true, true, true, true, true, true, true, true, true, true, true, true, true, true, false, false, false, false, false, false, false]) rfl (by kernel_rfl) (by kernel_rfl) (by kernel_rfl) rfl (by rfl) (by kernel_rfl) hS1 ?hd13 ?rd13
        case hd13 =>
          intro w' hSw
          obtain ⟨k0, k1, k2, k3⟩ := hSw
          go_simp
          try with_reducible rfl
        simp only [List.setIfInBounds_toArray, List.set_cons_zero, List.set_cons_succ]
        refine hold_take (i := 14) (d := 24) (v := ?vd14) (listed' := #[true, true, true, true, true, true, true, true, true, true, true, true, true, true, true, false, false, false, false, false, false]) rfl (by kernel_rfl) (by kernel_rfl) (by kernel_rfl) rfl (by rfl) (by kernel_rfl) hS1 ?hd14 ?rd14
        case hd14 =>
          intro w' hSw
          obtain ⟨k0, k1, k2, k3⟩ := hSw
          go_simp
          try with_reducible rfl
        simp only [List.setIfInBounds_toArray, List.set_cons_zero, List.set_cons_succ]
        refine hold_take (i := 15) (d := 25) (v := ?vd15) (listed' := #[true, true, true, true, true, true, true, true, true, true, true, true, true, true, true, true, false, false, false, false, false]) rfl (by kernel_rfl) (by kernel_rfl) (by kernel_rfl) rfl (by rfl) (by kernel_rfl) hS1 ?hd15 ?rd15
        case hd15 =>
          intro w' hSw
          obtain ⟨k0, k1, k2, k3⟩ := hSw
          go_simp
          try with_reducible rfl
        simp only [List.setIfInBounds_toArray, List.set_cons_zero, List.set_cons_succ]
        refine hold_take (i := 16) (d := 26) (v := ?vd16) (listed' := #[true, true, true, true, true, true, true, true, true, true, true, true, true, true, true, true, true, false, false, false, false]) rfl (by kernel_rfl) (by kernel_rfl) (by kernel_rfl) rfl (by rfl) (by kernel_rfl) hS1 ?hd16 ?rd16
        case hd16 =>
          intro w' hSw
          obtain ⟨k0, k1, k2, k3⟩ := hSw
          go_simp
          try with_reducible rfl
        simp only [List.setIfInBounds_toArray, List.set_cons_zero, List.set_cons_succ]
        refine hold_take (i := 17) (d := 27) (v := ?vd17) (listed' := #[true, true, true, true, true, true, true, true, true, true, true, true, true, true, true, true, true, true, false, false, false]) rfl (by kernel_rfl) (by kernel_rfl) (by kernel_rfl) rfl (by rfl) (by kernel_rfl) hS1 ?hd17 ?rd17
        case hd17 =>
          intro w' hSw
          obtain ⟨k0, k1, k2, k3⟩ := hSw
          go_simp
          try with_reducible rfl
        simp only [List.setIfInBounds_toArray, List.set_cons_zero, List.set_cons_succ]
        refine hold_call (i := 18) (d := 28) (listed' := #[true, true, true, true, true, true, true, true, true, true, true, true, true, true, true, true, true, true, true, false, false]) rfl (by kernel_rfl) rfl (by rfl) (by kernel_rfl) ?hed18 (below_sq (hSd.out.step hw1) yb' ya') ?hcd18
        case hed18 => go_simp
        rintro e w2 ⟨rfl, hw2⟩
        rw [H2.out]
        have hall2 : Below W.heap.size W w2 := hall.trans (hw2.mono hall.size)
        have hS2 : (fun w' => w'.cell? ⟨w.heap.size, 0, none⟩ = some (.slice sa m.n l.cap) ∧ w'.cell? ⟨w.heap.size, 1, none⟩ = some (.slice (some ⟨g, o, none⟩) m.n nc) ∧ w'.cell? ⟨g, o + a, none⟩ = some (.int .i64 (y a)) ∧ w'.cell? ⟨g, o + b, none⟩ = some (.int .i64 (y b))) w2 := hkeep.out w2 hall2
        refine ⟨_, rfl, hS2, ?_⟩
        simp only [List.setIfInBounds_toArray, List.set_cons_zero, List.set_cons_succ]
        refine hold_take (i := 19) (d := 29) (v := ?vd19) (listed' := #[true, true, true, true, true, true, true, true, true, true, true, true, true, true, true, true, true, true, true, true, false]) rfl (by kernel_rfl) (by kernel_rfl) (by kernel_rfl) rfl (by rfl) (by kernel_rfl) hS2 ?hd19 ?rd19
        case hd19 =>
          intro w' hSw
          obtain ⟨k0, k1, k2, k3⟩ := hSw
          go_simp
          try with_reducible rfl
        simp only [List.setIfInBounds_toArray, List.set_cons_zero, List.set_cons_succ]
        refine hold_take (i := 20) (d := 30) (v := ?vd20) (listed' := #[true, true, true, true, true, true, true, true, true, true, true, true, true, true, true, true, true, true, true, true, true]) rfl (by kernel_rfl) (by kernel_rfl) (by kernel_rfl) rfl (by rfl) (by kernel_rfl) hS2 ?hd20 ?rd20
        case hd20 =>
          intro w' hSw
          obtain ⟨k0, k1, k2, k3⟩ := hSw
          go_simp
          try with_reducible rfl
        simp only [List.setIfInBounds_toArray, List.set_cons_zero, List.set_cons_succ]
        refine hold_done (by kernel_rfl) ?_ _
        gi_wp2_with fail
        exact ⟨keepsFrom_below hall2, hall2.mono hs, hp.out.snoc (by simp [turnPB, H1.out, H2.out]), hB.trans (hall2.mono hs)⟩
  case done =>
    rintro D ys W hD hys ⟨hp0, hB⟩ hK
    have HO' : Hid (turnB m y = true) := allB_true fun a ha => allB_true fun b hb => hp0 _ (hys ⟨a, ha⟩ ⟨b, hb⟩)
    clear hp0
    have v0 := (hB.cell (p := ⟨w.heap.size + 1, 0, none⟩) (by show w.heap.size + 1 < _; omega)).trans hVc
    have vf := (hB.frozen (p := ⟨w.heap.size + 1, 0, none⟩) (by show w.heap.size + 1 < _; omega)).trans hVf
    have hbW := hbw.trans (hB.mono hbw.size)
    have hDs : w.heap.size ≤ D := Nat.le_trans hbw.size hD
    gi_wp2
    have hK' := (KeepsOthers.setCell W ⟨w.heap.size + 1, 0, none⟩ (.bool true)).same D _ hK rfl
    refine ⟨by simp, .inl ⟨_, _, rfl, run_takeDeferred hK', ?_⟩⟩
    have hc5 := cell_kept (World.cell?_setCell_same' W ⟨w.heap.size + 1, 0, none⟩ (.bool true) (by rw [v0]; rfl)) (grownBy_putObj' _ D (.deferred none)) (fun r e => by cases e; exact ⟨_, hK', rfl⟩)
    refine ⟨.bool true, ?_, ret_bool HO'.out.symm, (hbW.setCell (p := ⟨w.heap.size + 1, 0, none⟩) (by show w.heap.size ≤ w.heap.size + 1; omega) _).trans (belowK_b (w := w) (Nat.le_refl _) _ D _ _ hDs hK' rfl rfl)⟩
    simp [results, Try.f56, go_sem, hc5]
  case stop =>
    rintro D c pre W hD _ ⟨⟨rfl, hbad⟩, hcr, hB⟩ hK
    have hDs : w.heap.size ≤ D := Nat.le_trans hbw.size hD
    gi_wp2
    refine ⟨by simp, .inl ⟨_, _, rfl, run_takeDeferred hK, ?_⟩⟩
    have hc5 := cell_kept hcr (grownBy_putObj' _ D (.deferred none)) (fun r e => by cases e; exact ⟨_, hK, rfl⟩)
    refine ⟨.bool false, ?_, ret_bool hbad.symm, hB.trans (belowK_b (w := w) (Nat.le_refl _) W D _ _ hDs hK rfl rfl)⟩
    simp [results, Try.f56, go_sem, hc5]
end Go.Proofs.Ytgjacinolenheaa
