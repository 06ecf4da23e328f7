/- The walk of the program's test whether rows are an order. -/
import Derived.Test.YtcplljeglaolgaaWg
namespace Go.Proofs.Ytcplljeglaolgaa
open Go.RowKit Go.Deep Go.Shelf

attribute [local go_sem] Oper.semAt_some

theorem keepsFrom_below {B : Nat} {W w1 : World} (h : Below W.heap.size W w1) : KeepsFrom B W w1 :=
  ⟨h.size, fun k _ _ hk _ => (h.block k (Array.getElem?_eq_some_iff.1 hk).1).trans hk⟩

set_option maxRecDepth 100000 in
set_option maxHeartbeats 2000000 in
theorem OrderOk_square {B : Nat} {sa : Option Addr} {l : Lay} {m : Mx} {w : World} (h : SqAt w B sa l m) (hlo : 1 ≤ m.n) :
    Calls Try.prog 37 #[.slice sa m.n l.cap] w fun e w' => e = .returned (.bool (orderB m)) ∧ Below w.heap.size w w' := by
  have hhi := h.hi
  have h1 := h.alloc (.cells #[.bool false] 4)
  have HSq : Hid (squareB m = true) := squareB_true h.sq
  have e1 : ¬ (m.n : Int) < 1 := by omega
  have e2 : ¬ (12 : Int) < m.n := by omega
  refine (callsIn_wide (n := 9)).1 ?_
  refine callsIn_of_wp_marks Try.func37 rfl trivial ?_ rfl
  simp only [Try.ntmps37, List.size_toArray, List.length_cons, List.length_nil, Nat.reduceAdd, Nat.reduceSub, Array.replicate_succ, Array.replicate_zero, List.push_toArray, List.append_toArray, List.nil_append, List.cons_append]
  gi_wp2_with (refine ⟨trivial, ?_⟩; gi_at_call 80; refine (callsIn_wide.2 (rowsOk_any (by omega) (fun r hr => by rw [h.sq.len r hr]; omega) h1.mat)).mono ?_; rintro e w' ⟨rfl, rfl⟩; rw [HSq.out])
  gi_wp2_with (refine ⟨trivial, ?_⟩; gi_at_call 78; refine (pairs_any _ _ _).mono ?_; rintro e w' ⟨rfl, rfl⟩)
  have b0 := ((Boxed.new w 4 (.bool false)).alloc (.cells #[.slice sa m.n l.cap] 62)).alloc (.cells #[.slice sa m.n l.cap] 62)
  have b1 := (Boxed.new (w.alloc (.cells #[.bool false] 4)) 62 (.slice sa m.n l.cap)).alloc (.cells #[.slice sa m.n l.cap] 62)
  have b2 := Boxed.new ((w.alloc (.cells #[.bool false] 4)).alloc (.cells #[.slice sa m.n l.cap] 62)) 62 (.slice sa m.n l.cap)
  rw [World.size_alloc] at b1
  rw [World.size_alloc, World.size_alloc] at b2
  have hN0 : Hid (∀ W, Below (w.heap.size + 3) (((w.alloc (.cells #[.bool false] 4)).alloc (.cells #[.slice sa m.n l.cap] 62)).alloc (.cells #[.slice sa m.n l.cap] 62)) W →
      W.cell? ⟨w.heap.size, 0, none⟩ = some (.bool false) ∧ W.frozen? ⟨w.heap.size, 0, none⟩ = false ∧ W.cell? ⟨w.heap.size + 1, 0, none⟩ = some (.slice sa m.n l.cap)) := fun W hW =>
    ⟨(hW.cell (p := ⟨w.heap.size, 0, none⟩) (by show w.heap.size < _; omega)).trans b0.cell, (hW.frozen (p := ⟨w.heap.size, 0, none⟩) (by show w.heap.size < _; omega)).trans b0.frozen,
      (hW.cell (p := ⟨w.heap.size + 1, 0, none⟩) (by show w.heap.size + 1 < _; omega)).trans b1.cell⟩
  have hBN : Hid (Below w.heap.size w (((w.alloc (.cells #[.bool false] 4)).alloc (.cells #[.slice sa m.n l.cap] 62)).alloc (.cells #[.slice sa m.n l.cap] 62))) :=
    (((Below.refl _ w).alloc (Nat.le_refl _) _).alloc (by simp) _).alloc (by simp; omega) _
  have hc2 : (((w.alloc (.cells #[.bool false] 4)).alloc (.cells #[.slice sa m.n l.cap] 62)).alloc (.cells #[.slice sa m.n l.cap] 62)).cell? ⟨w.heap.size + 1 + 1, 0, none⟩ = some (.slice sa m.n l.cap) := b2.cell
  have hsz : (((w.alloc (.cells #[.bool false] 4)).alloc (.cells #[.slice sa m.n l.cap] 62)).alloc (.cells #[.slice sa m.n l.cap] 62)).heap.size = w.heap.size + 3 := by simp
  clear b0 b1 b2
  generalize (((w.alloc (.cells #[.bool false] 4)).alloc (.cells #[.slice sa m.n l.cap] 62)).alloc (.cells #[.slice sa m.n l.cap] 62)) = W0 at hN0 hBN hc2 hsz ⊢
  refine wpIn_rangeFunc_ownG rfl (by omega) (gf := 104) (lb := #[.pointer (some ⟨w.heap.size + 1 + 1, 0, none⟩)]) rfl trivial (enters_of Try.func104 (by kernel_rfl) rfl)
    (pairs_stops _ m.n (by omega) hhi (w.heap.size + 1 + 1) (w.heap.size + 3) l.cap sa W0 (by omega) (by omega) hc2) belowK_t (belowK_b (by omega)) (Below.refl _ _) (fun _ => rfl)
    (fun pre W => (∀ p ∈ pre, PairG m p.1.val p.2.val) ∧ Below (w.heap.size + 3) W0 W)
    (fun c _ W => (c = .ret ∧ ¬ IsOrder m) ∧ W.cell? ⟨w.heap.size, 0, none⟩ = some (.bool false) ∧ Below w.heap.size w W)
    (OwnFrom.and (ownFrom_pure _ _) (ownFrom_below (by omega) (by omega)))
    (fun c => OwnFrom.and (ownFrom_pure _ _) (OwnFrom.and (Own.from (fun s A B row hs hg hr => cell_kept hs hg hr) _) (ownFrom_below (Nat.le_refl _) (by omega))))
    ⟨fun p hp => absurd hp (by simp), Below.refl _ _⟩
    (fun x => { tmps := #[.slice sa m.n l.cap, undef, .pointer (some ⟨w.heap.size, 0, none⟩), .pointer (some ⟨w.heap.size + 1, 0, none⟩), .int .i64 ((x.1.val : Nat) : Int), .int .i64 ((x.2.val : Nat) : Int), undef, .slice sa m.n l.cap,
        .int .i64 (m.n : Int), .bool false, .bool false, .slice sa m.n l.cap, .int .i64 (m.n : Int), .bool false, .bool false, .bool false, .slice sa m.n l.cap, .bool true, .bool false, .bool false, .slice sa m.n l.cap,
        .agg #[.slice sa m.n l.cap], .agg #[.slice sa m.n l.cap], .func (.func 104) #[] #[.pointer (some ⟨w.heap.size + 1 + 1, 0, none⟩)], .int .i64 ((x.1.val : Nat) : Int), .int .i64 ((x.2.val : Nat) : Int),
        undef, undef, undef, undef, undef, undef, undef, undef, undef, undef, undef, undef, undef, undef, undef, undef, undef, undef, undef, undef, undef, undef, undef, undef, undef, undef], defers := [] }) ?assign ?body ?done ?stop
  case assign =>
    intro lr x W K hK
    gi_wp2
    exact hK
  case body =>
    rintro lr pre ⟨⟨a, ha⟩, ⟨b, hb⟩⟩ W ⟨hp0, hB⟩ _
    have hp := Lib.hid hp0
    have hBW : Below w.heap.size w W := hBN.out.trans (hB.mono (by omega))
    have hS := h.step hBW
    obtain ⟨hc0, hf0, hc1⟩ := hN0.out W hB
    have hsz1 : w.heap.size + 3 ≤ W.heap.size := by have := hB.size; omega
    have hn1 : 1 ≤ 9 - 1 - 1 := by omega
    dsimp only
    clear hp0 h h1 hc2 HSq
    by_cases hab : a = b
    · subst hab
      cases hle : leB m a a with
      | false =>
        have HL := Lib.hid hle
        clear hle
        gi_wp2_with fail
        refine ⟨trivial, ?_⟩
        refine (CallsIn.inRound lr (callsIn_wide.2 (below_sq hS ha ha))).mono ?_
        rintro e w1 ⟨rfl, hw1⟩
        rw [HL.out]
        have hS1 := hS.step hw1
        have c01 := (hw1.cell (p := ⟨w.heap.size, 0, none⟩) (by show w.heap.size < _; omega)).trans hc0
        have f01 := (hw1.frozen (p := ⟨w.heap.size, 0, none⟩) (by show w.heap.size < _; omega)).trans hf0
        have c11 := (hw1.cell (p := ⟨w.heap.size + 1, 0, none⟩) (by show w.heap.size + 1 < _; omega)).trans hc1
        have z1 := hw1.size
        gi_wp2_with fail
        refine ⟨trivial, ?_⟩
        gi_wp2_with fail
        exact ⟨(keepsFrom_below hw1).trans ((KeepsOthers.setCell _ _ _).from _), ⟨rfl, fun h => leB_not HL.out (h.refl a ha)⟩, World.cell?_setCell_same' _ _ _ (by rw [c01]; rfl), (hBW.trans (hw1.mono (by omega))).setCell (p := ⟨w.heap.size, 0, none⟩) (Nat.le_refl _) _⟩
      | true =>
        have HL := Lib.hid hle
        clear hle
        gi_wp2_with fail
        refine ⟨trivial, ?_⟩
        refine (CallsIn.inRound lr (callsIn_wide.2 (below_sq hS ha ha))).mono ?_
        rintro e w1 ⟨rfl, hw1⟩
        rw [HL.out]
        have hS1 := hS.step hw1
        have c01 := (hw1.cell (p := ⟨w.heap.size, 0, none⟩) (by show w.heap.size < _; omega)).trans hc0
        have f01 := (hw1.frozen (p := ⟨w.heap.size, 0, none⟩) (by show w.heap.size < _; omega)).trans hf0
        have c11 := (hw1.cell (p := ⟨w.heap.size + 1, 0, none⟩) (by show w.heap.size + 1 < _; omega)).trans hc1
        have z1 := hw1.size
        gi_wp2_with fail
        refine ⟨trivial, ?_⟩
        refine (CallsIn.inRound lr (callsIn_wide.2 (below_sq hS1 ha ha))).mono ?_
        rintro e w2 ⟨rfl, hw2⟩
        rw [HL.out]
        have hS2 := hS1.step hw2
        have c02 := (hw2.cell (p := ⟨w.heap.size, 0, none⟩) (by show w.heap.size < _; omega)).trans c01
        have f02 := (hw2.frozen (p := ⟨w.heap.size, 0, none⟩) (by show w.heap.size < _; omega)).trans f01
        have c12 := (hw2.cell (p := ⟨w.heap.size + 1, 0, none⟩) (by show w.heap.size + 1 < _; omega)).trans c11
        have z2 := hw2.size
        gi_wp2_with fail
        refine ⟨trivial, ?_⟩
        refine (CallsIn.inRound lr (callsIn_wide.2 (below_sq hS2 ha ha))).mono ?_
        rintro e w3 ⟨rfl, hw3⟩
        rw [HL.out]
        have hS3 := hS2.step hw3
        have c03 := (hw3.cell (p := ⟨w.heap.size, 0, none⟩) (by show w.heap.size < _; omega)).trans c02
        have f03 := (hw3.frozen (p := ⟨w.heap.size, 0, none⟩) (by show w.heap.size < _; omega)).trans f02
        have c13 := (hw3.cell (p := ⟨w.heap.size + 1, 0, none⟩) (by show w.heap.size + 1 < _; omega)).trans c12
        have z3 := hw3.size
        gi_wp2_with fail
        refine ⟨trivial, ?_⟩
        refine (CallsIn.inRound lr (callsIn_wide.2 (takesAlong_sq hS3 ha ha))).mono ?_
        rintro e w4 ⟨rfl, hw4⟩
        rw [takesB_self]
        have hall : Below W.heap.size W w4 := ((hw1.trans (hw2.mono z1)).trans (hw3.mono (by omega))).trans (hw4.mono (by omega))
        gi_wp2_with fail
        exact ⟨keepsFrom_below hall, hall.mono (by omega), fun p hp' => (List.mem_append.1 hp').elim (hp.out p) (fun e => by simp at e; subst e; exact ⟨by simp [HL.out], fun _ => takesB_self m a⟩), hB.trans (hall.mono (by omega))⟩
    · have hne : ((a : Int) == (b : Int)) = false := by simp; omega
      have HN := Lib.hid hab
      clear hab
      cases hle : leB m a b with
      | false =>
        have HL := Lib.hid hle
        clear hle
        gi_wp2_with fail
        refine ⟨trivial, ?_⟩
        refine (CallsIn.inRound lr (callsIn_wide.2 (below_sq hS ha hb))).mono ?_
        rintro e w1 ⟨rfl, hw1⟩
        rw [HL.out]
        have hS1 := hS.step hw1
        have c01 := (hw1.cell (p := ⟨w.heap.size, 0, none⟩) (by show w.heap.size < _; omega)).trans hc0
        have f01 := (hw1.frozen (p := ⟨w.heap.size, 0, none⟩) (by show w.heap.size < _; omega)).trans hf0
        have c11 := (hw1.cell (p := ⟨w.heap.size + 1, 0, none⟩) (by show w.heap.size + 1 < _; omega)).trans hc1
        have z1 := hw1.size
        gi_wp2_with fail
        refine ⟨trivial, ?_⟩
        gi_wp2_with fail
        refine ⟨trivial, ?_⟩
        refine (CallsIn.inRound lr (callsIn_wide.2 (below_sq hS1 ha hb))).mono ?_
        rintro e w2 ⟨rfl, hw2⟩
        rw [HL.out]
        gi_wp2_with fail
        refine ⟨trivial, ?_⟩
        gi_wp2_with fail
        have hall : Below W.heap.size W w2 := hw1.trans (hw2.mono z1)
        exact ⟨keepsFrom_below hall, hall.mono (by omega), fun p hp' => (List.mem_append.1 hp').elim (hp.out p) (fun e => by simp at e; subst e; exact ⟨by simp [HL.out, HN.out], fun h => by rw [HL.out] at h; cases h⟩), hB.trans (hall.mono (by omega))⟩
      | true =>
        have HL := Lib.hid hle
        clear hle
        cases hle2 : leB m b a with
        | true =>
          have HM := Lib.hid hle2
          clear hle2
          gi_wp2_with fail
          refine ⟨trivial, ?_⟩
          refine (CallsIn.inRound lr (callsIn_wide.2 (below_sq hS ha hb))).mono ?_
          rintro e w1 ⟨rfl, hw1⟩
          rw [HL.out]
          have hS1 := hS.step hw1
          have c01 := (hw1.cell (p := ⟨w.heap.size, 0, none⟩) (by show w.heap.size < _; omega)).trans hc0
          have f01 := (hw1.frozen (p := ⟨w.heap.size, 0, none⟩) (by show w.heap.size < _; omega)).trans hf0
          have c11 := (hw1.cell (p := ⟨w.heap.size + 1, 0, none⟩) (by show w.heap.size + 1 < _; omega)).trans hc1
          have z1 := hw1.size
          gi_wp2_with fail
          refine ⟨trivial, ?_⟩
          refine (CallsIn.inRound lr (callsIn_wide.2 (below_sq hS1 hb ha))).mono ?_
          rintro e w2 ⟨rfl, hw2⟩
          rw [HM.out]
          have hS2 := hS1.step hw2
          have c02 := (hw2.cell (p := ⟨w.heap.size, 0, none⟩) (by show w.heap.size < _; omega)).trans c01
          have f02 := (hw2.frozen (p := ⟨w.heap.size, 0, none⟩) (by show w.heap.size < _; omega)).trans f01
          have c12 := (hw2.cell (p := ⟨w.heap.size + 1, 0, none⟩) (by show w.heap.size + 1 < _; omega)).trans c11
          have z2 := hw2.size
          have hall : Below W.heap.size W w2 := hw1.trans (hw2.mono z1)
          gi_wp2_with fail
          exact ⟨(keepsFrom_below hall).trans ((KeepsOthers.setCell _ _ _).from _), ⟨rfl, fun h => by have := h.anti a b ha hb HN.out (leB_is HL.out); have := leB_is HM.out; omega⟩, World.cell?_setCell_same' _ _ _ (by rw [c02]; rfl), (hBW.trans (hall.mono (by omega))).setCell (p := ⟨w.heap.size, 0, none⟩) (Nat.le_refl _) _⟩
        | false =>
          have HM := Lib.hid hle2
          clear hle2
          cases htk : takesB m a b with
          | true =>
            have HT := Lib.hid htk
            clear htk
            gi_wp2_with fail
            refine ⟨trivial, ?_⟩
            refine (CallsIn.inRound lr (callsIn_wide.2 (below_sq hS ha hb))).mono ?_
            rintro e w1 ⟨rfl, hw1⟩
            rw [HL.out]
            have hS1 := hS.step hw1
            have c01 := (hw1.cell (p := ⟨w.heap.size, 0, none⟩) (by show w.heap.size < _; omega)).trans hc0
            have f01 := (hw1.frozen (p := ⟨w.heap.size, 0, none⟩) (by show w.heap.size < _; omega)).trans hf0
            have c11 := (hw1.cell (p := ⟨w.heap.size + 1, 0, none⟩) (by show w.heap.size + 1 < _; omega)).trans hc1
            have z1 := hw1.size
            gi_wp2_with fail
            refine ⟨trivial, ?_⟩
            refine (CallsIn.inRound lr (callsIn_wide.2 (below_sq hS1 hb ha))).mono ?_
            rintro e w2 ⟨rfl, hw2⟩
            rw [HM.out]
            have hS2 := hS1.step hw2
            have c02 := (hw2.cell (p := ⟨w.heap.size, 0, none⟩) (by show w.heap.size < _; omega)).trans c01
            have f02 := (hw2.frozen (p := ⟨w.heap.size, 0, none⟩) (by show w.heap.size < _; omega)).trans f01
            have c12 := (hw2.cell (p := ⟨w.heap.size + 1, 0, none⟩) (by show w.heap.size + 1 < _; omega)).trans c11
            have z2 := hw2.size
            gi_wp2_with fail
            refine ⟨trivial, ?_⟩
            refine (CallsIn.inRound lr (callsIn_wide.2 (below_sq hS2 ha hb))).mono ?_
            rintro e w3 ⟨rfl, hw3⟩
            rw [HL.out]
            have hS3 := hS2.step hw3
            have c03 := (hw3.cell (p := ⟨w.heap.size, 0, none⟩) (by show w.heap.size < _; omega)).trans c02
            have f03 := (hw3.frozen (p := ⟨w.heap.size, 0, none⟩) (by show w.heap.size < _; omega)).trans f02
            have c13 := (hw3.cell (p := ⟨w.heap.size + 1, 0, none⟩) (by show w.heap.size + 1 < _; omega)).trans c12
            have z3 := hw3.size
            gi_wp2_with fail
            refine ⟨trivial, ?_⟩
            refine (CallsIn.inRound lr (callsIn_wide.2 (takesAlong_sq hS3 ha hb))).mono ?_
            rintro e w4 ⟨rfl, hw4⟩
            rw [HT.out]
            have hall : Below W.heap.size W w4 := ((hw1.trans (hw2.mono z1)).trans (hw3.mono (by omega))).trans (hw4.mono (by omega))
            gi_wp2_with fail
            exact ⟨keepsFrom_below hall, hall.mono (by omega), fun p hp' => (List.mem_append.1 hp').elim (hp.out p) (fun e => by simp at e; subst e; exact ⟨by simp [HL.out, HM.out, HN.out], fun _ => HT.out⟩), hB.trans (hall.mono (by omega))⟩
          | false =>
            have HT := Lib.hid htk
            clear htk
            gi_wp2_with fail
            refine ⟨trivial, ?_⟩
            refine (CallsIn.inRound lr (callsIn_wide.2 (below_sq hS ha hb))).mono ?_
            rintro e w1 ⟨rfl, hw1⟩
            rw [HL.out]
            have hS1 := hS.step hw1
            have c01 := (hw1.cell (p := ⟨w.heap.size, 0, none⟩) (by show w.heap.size < _; omega)).trans hc0
            have f01 := (hw1.frozen (p := ⟨w.heap.size, 0, none⟩) (by show w.heap.size < _; omega)).trans hf0
            have c11 := (hw1.cell (p := ⟨w.heap.size + 1, 0, none⟩) (by show w.heap.size + 1 < _; omega)).trans hc1
            have z1 := hw1.size
            gi_wp2_with fail
            refine ⟨trivial, ?_⟩
            refine (CallsIn.inRound lr (callsIn_wide.2 (below_sq hS1 hb ha))).mono ?_
            rintro e w2 ⟨rfl, hw2⟩
            rw [HM.out]
            have hS2 := hS1.step hw2
            have c02 := (hw2.cell (p := ⟨w.heap.size, 0, none⟩) (by show w.heap.size < _; omega)).trans c01
            have f02 := (hw2.frozen (p := ⟨w.heap.size, 0, none⟩) (by show w.heap.size < _; omega)).trans f01
            have c12 := (hw2.cell (p := ⟨w.heap.size + 1, 0, none⟩) (by show w.heap.size + 1 < _; omega)).trans c11
            have z2 := hw2.size
            gi_wp2_with fail
            refine ⟨trivial, ?_⟩
            refine (CallsIn.inRound lr (callsIn_wide.2 (below_sq hS2 ha hb))).mono ?_
            rintro e w3 ⟨rfl, hw3⟩
            rw [HL.out]
            have hS3 := hS2.step hw3
            have c03 := (hw3.cell (p := ⟨w.heap.size, 0, none⟩) (by show w.heap.size < _; omega)).trans c02
            have f03 := (hw3.frozen (p := ⟨w.heap.size, 0, none⟩) (by show w.heap.size < _; omega)).trans f02
            have c13 := (hw3.cell (p := ⟨w.heap.size + 1, 0, none⟩) (by show w.heap.size + 1 < _; omega)).trans c12
            have z3 := hw3.size
            gi_wp2_with fail
            refine ⟨trivial, ?_⟩
            refine (CallsIn.inRound lr (callsIn_wide.2 (takesAlong_sq hS3 ha hb))).mono ?_
            rintro e w4 ⟨rfl, hw4⟩
            rw [HT.out]
            have hall : Below W.heap.size W w4 := ((hw1.trans (hw2.mono z1)).trans (hw3.mono (by omega))).trans (hw4.mono (by omega))
            have hS4 := hS3.step hw4
            have c04 := (hw4.cell (p := ⟨w.heap.size, 0, none⟩) (by show w.heap.size < _; omega)).trans c03
            have f04 := (hw4.frozen (p := ⟨w.heap.size, 0, none⟩) (by show w.heap.size < _; omega)).trans f03
            have c14 := (hw4.cell (p := ⟨w.heap.size + 1, 0, none⟩) (by show w.heap.size + 1 < _; omega)).trans c13
            have z4 := hw4.size
            gi_wp2_with fail
            exact ⟨(keepsFrom_below hall).trans ((KeepsOthers.setCell _ _ _).from _), ⟨rfl, fun h => by have := (pairG_of_order h ha hb).takes HL.out; rw [HT.out] at this; cases this⟩, World.cell?_setCell_same' _ _ _ (by rw [c04]; rfl), (hBW.trans (hall.mono (by omega))).setCell (p := ⟨w.heap.size, 0, none⟩) (Nat.le_refl _) _⟩
  case done =>
    rintro D ys W hD hys ⟨hp0, hB⟩ hK
    have HO : Hid (orderB m = true) := orderB_true (order_of_pairG hlo hhi h.sq fun a b ha hb => hp0 _ (hys ⟨a, ha⟩ ⟨b, hb⟩))
    clear hp0
    obtain ⟨hc0, hf0, hc1⟩ := hN0.out W hB
    gi_wp2
    have hK' := (KeepsOthers.setCell W ⟨w.heap.size, 0, none⟩ (.bool true)).same D _ hK rfl
    refine ⟨by simp, .inl ⟨_, _, rfl, run_takeDeferred hK', ?_⟩⟩
    have hc5 := cell_kept (World.cell?_setCell_same' W ⟨w.heap.size, 0, none⟩ (.bool true) (by rw [hc0]; rfl)) (grownBy_putObj' _ D (.deferred none)) (fun r e => by cases e; exact ⟨_, hK', rfl⟩)
    refine ⟨.bool true, ?_, ret_bool HO.out.symm, ((hBN.out.trans (hB.mono (by omega))).setCell (p := ⟨w.heap.size, 0, none⟩) (Nat.le_refl _) _).trans (belowK_b (w := w) (Nat.le_refl _) _ D _ _ (by omega) hK' rfl rfl)⟩
    simp [results, Try.f37, go_sem, hc5]
  case stop =>
    rintro D c pre W hD _ ⟨⟨rfl, hbad⟩, hcr, hB⟩ hK
    gi_wp2
    refine ⟨by simp, .inl ⟨_, _, rfl, run_takeDeferred hK, ?_⟩⟩
    have hc5 := cell_kept hcr (grownBy_putObj' _ D (.deferred none)) (fun r e => by cases e; exact ⟨_, hK, rfl⟩)
    refine ⟨.bool false, ?_, ret_bool (orderB_false hbad).symm, hB.trans (belowK_b (w := w) (Nat.le_refl _) W D _ _ (by omega) hK rfl rfl)⟩
    simp [results, Try.f37, go_sem, hc5]
end Go.Proofs.Ytcplljeglaolgaa
