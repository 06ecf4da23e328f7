/- The walks of the program's closures of what is cleared away, and of ClearOf. -/
import Derived.Test.YtkfinkhdfbogjaaCa
namespace Go.Proofs.Ytkfinkhdfbogjaa
open Go.RowKit Go.Deep

/-- The closure that tells the least answer. -/
abbrev noF (b : Nat) : Value := .func (.func 59) #[] #[.pointer (some ⟨b, 0, none⟩)]
/-- Telling the least answer behind a projection. -/
abbrev bebF (b : Nat) : Value := .func (.func 82) #[] #[.pointer (some ⟨b + 1, 0, none⟩), .pointer (some ⟨b, 0, none⟩)]
structure NB (w : World) (q n0 : Nat) : Prop where
  lt : q < w.heap.size
  c0 : w.cell? ⟨q, 0, none⟩ = some (.int .i64 (n0 : Int))
theorem NB.step {w w' : World} {q n0 : Nat} (h : NB w q n0) (hb : Below w.heap.size w w') : NB w' q n0 :=
  ⟨Nat.lt_of_lt_of_le h.lt hb.size, (hb.cell (p := ⟨q, 0, none⟩) h.lt).trans h.c0⟩
structure BC (w : World) (b2 p q : Nat) : Prop where
  lt : b2 + 1 < w.heap.size
  c0 : w.cell? ⟨b2, 0, none⟩ = some (pjF p)
  c1 : w.cell? ⟨b2 + 1, 0, none⟩ = some (noF q)
theorem BC.step {w w' : World} {b2 p q : Nat} (h : BC w b2 p q) (hb : Below w.heap.size w w') : BC w' b2 p q :=
  have h1 := h.lt
  have h2 := hb.size
  ⟨by omega, (hb.cell (p := ⟨b2, 0, none⟩) (by show b2 < _; omega)).trans h.c0, (hb.cell (p := ⟨b2 + 1, 0, none⟩) (by show b2 + 1 < _; omega)).trans h.c1⟩
def BcRes (w : World) (p q : Nat) (e : Ending) (w' : World) : Prop := ∃ b2, e = .returned (bebF b2) ∧ BC w' b2 p q ∧ Below w.heap.size w w'

set_option maxRecDepth 100000 in
set_option maxHeartbeats 4000000 in
theorem isno_any {w : World} {q n0 c : Nat} (h : NB w q n0) :
    Calls Try.prog 59 #[.int .i64 (c : Int), .pointer (some ⟨q, 0, none⟩)] w fun e w' => e = .returned (.bool (decide (c = n0))) ∧ w = w' := by
  have h0 := h.c0
  have e : ((c : Int) == (n0 : Int)) = decide (c = n0) := by rw [Bool.eq_iff_iff, beq_iff_eq, decide_eq_true_iff]; omega
  have HE := Lib.hid e
  clear h e
  go_enter Try.func59, Try.ntmps59
  go_wp2_with fail
  go_ret
  exact ⟨ret_bool HE.out, rfl⟩

set_option maxRecDepth 100000 in
set_option maxHeartbeats 4000000 in
theorem behindB_any {w : World} {p q : Nat} :
    Calls Try.prog 58 #[pjF p, noF q] w (BcRes w p q) := by
  have hX := Boxd.start w (pjF p) 63
  have s1 : (w.alloc (.cells #[pjF p] 63)).heap.size = w.heap.size + 1 := World.size_alloc _ _
  have s2 : ((w.alloc (.cells #[pjF p] 63)).alloc (.cells #[noF q] 74)).heap.size = w.heap.size + 1 + 1 := by rw [World.size_alloc, s1]
  have hI := Boxd.start (w.alloc (.cells #[pjF p] 63)) (noF q) 74
  have cI := hI.cell
  rw [s1] at cI
  have hX2 := hX.step hI.below
  have HB : Hid (BC ((w.alloc (.cells #[pjF p] 63)).alloc (.cells #[noF q] 74)) w.heap.size p q) := ⟨by omega, hX2.cell, cI⟩
  have hB := hX2.below
  clear hX hI hX2 s1 s2 cI
  go_enter Try.func58, Try.ntmps58
  go_wp2_with fail
  go_ret
  exact ⟨_, rfl, HB.out, hB⟩

set_option maxRecDepth 100000 in
set_option maxHeartbeats 4000000 in
theorem clears_any {w : World} {B ob tb g o nc n0 a c b2 p q : Nat} {tG : Nat → Nat} {ua : Option Addr} {l : Lay} {m : Mx} {z : Nat → Int} {y : Nat → Nat} (hP : PJ w B ob tb tG ua l m g o nc z y n0 a p) (hN : NB w q n0) (hH : BC w b2 p q) (hc : c < m.n) :
    Calls Try.prog 82 #[.int .i64 (c : Int), .pointer (some ⟨b2 + 1, 0, none⟩), .pointer (some ⟨b2, 0, none⟩)] w fun e w' => e = .returned (.bool (clearB m y n0 a c)) ∧ Below w.heap.size w w' := by
  have HP := Lib.hid hP
  have HH := Lib.hid hH
  clear hP hH
  go_enter Try.func82, Try.ntmps82
  go_wp2_with fail
  have hB0 : Below w.heap.size w w.drew := (Below.refl _ w).drew
  have hP0 := Lib.hid (HP.out.step hB0)
  have hH0 := Lib.hid (HH.out.step hB0)
  have hN0 := hN.step hB0
  have hS0 : (fun w' => w'.cell? ⟨b2, 0, none⟩ = some (pjF p) ∧ w'.cell? ⟨b2 + 1, 0, none⟩ = some (noF q)) w.drew := ⟨hH0.out.c0, hH0.out.c1⟩
  clear HP HH hN
  refine region_plain (fuel := 6) (listed := #[false, false, false, false, false, false]) (fun w' => w'.cell? ⟨b2, 0, none⟩ = some (pjF p) ∧ w'.cell? ⟨b2 + 1, 0, none⟩ = some (noF q)) (by kernel_rfl) (by kernel_rfl) (by kernel_rfl) ?_
  refine hold_take (i := 0) (d := 5) (v := ?vb0) (listed' := #[true, false, false, false, false, false]) rfl (by kernel_rfl) (by kernel_rfl) (by kernel_rfl) rfl (by rfl) (by kernel_rfl) hS0 ?hb0 ?rb0
  case hb0 =>
    intro w' hSw
    obtain ⟨k0, k1⟩ := hSw
    go_simp
    try with_reducible rfl
  simp only [List.setIfInBounds_toArray, List.set_cons_zero, List.set_cons_succ]
  refine hold_take (i := 1) (d := 6) (v := ?vb1) (listed' := #[true, true, false, false, false, false]) rfl (by kernel_rfl) (by kernel_rfl) (by kernel_rfl) rfl (by rfl) (by kernel_rfl) hS0 ?hb1 ?rb1
  case hb1 =>
    intro w' hSw
    obtain ⟨k0, k1⟩ := hSw
    go_simp
    try with_reducible rfl
  simp only [List.setIfInBounds_toArray, List.set_cons_zero, List.set_cons_succ]
  refine hold_take (i := 2) (d := 7) (v := ?vb2) (listed' := #[true, true, true, false, false, false]) rfl (by kernel_rfl) (by kernel_rfl) (by kernel_rfl) rfl (by rfl) (by kernel_rfl) hS0 ?hb2 ?rb2
  case hb2 =>
    intro w' hSw
    obtain ⟨k0, k1⟩ := hSw
    go_simp
    try with_reducible rfl
  simp only [List.setIfInBounds_toArray, List.set_cons_zero, List.set_cons_succ]
  refine hold_call (i := 3) (d := 8) (listed' := #[true, true, true, true, false, false]) rfl (by kernel_rfl) rfl (by rfl) (by kernel_rfl) ?heb3 (project_any hP0.out hc) ?hcb3
  case heb3 => go_simp
  rintro e x1 ⟨rfl, bb1⟩
  have hN1 := hN0.step bb1
  have hH1 := Lib.hid (hH0.out.step bb1)
  have hB1 := hB0.trans (bb1.mono hB0.size)
  have hS1 : (fun w' => w'.cell? ⟨b2, 0, none⟩ = some (pjF p) ∧ w'.cell? ⟨b2 + 1, 0, none⟩ = some (noF q)) x1 := ⟨hH1.out.c0, hH1.out.c1⟩
  clear hS0 hP0 hN0 hH0 hB0 bb1
  refine ⟨_, rfl, hS1, ?_⟩
  simp only [List.setIfInBounds_toArray, List.set_cons_zero, List.set_cons_succ]
  refine hold_call (i := 4) (d := 9) (listed' := #[true, true, true, true, true, false]) rfl (by kernel_rfl) rfl (by rfl) (by kernel_rfl) ?heb4 (isno_any (c := projN m y a c) hN1) ?hcb4
  case heb4 => go_simp
  rintro e x2 ⟨rfl, hx⟩
  subst hx
  refine ⟨_, rfl, hS1, ?_⟩
  simp only [List.setIfInBounds_toArray, List.set_cons_zero, List.set_cons_succ]
  refine hold_take (i := 5) (d := 4) (v := ?vb5) (listed' := #[true, true, true, true, true, true]) rfl (by kernel_rfl) (by kernel_rfl) (by kernel_rfl) rfl (by rfl) (by kernel_rfl) hS1 ?hb5 ?rb5
  case hb5 =>
    intro w' hSw
    obtain ⟨k0, k1⟩ := hSw
    go_simp
    try with_reducible rfl
  simp only [List.setIfInBounds_toArray, List.set_cons_zero, List.set_cons_succ]
  refine hold_done (by kernel_rfl) ?_ _
  go_wp2_with fail
  go_ret
  exact ⟨rfl, hB1⟩

set_option maxRecDepth 100000 in
set_option maxHeartbeats 4000000 in
theorem ClearOf_any {w : World} {B : Nat} {ua : Option Addr} {l : Lay} {m : Mx} {na : Option Addr} {g o k nc : Nat} {z : Nat → Int} {x : Int} (h : LogAt w B ua l m na g o k z) :
    Calls Try.prog 29 #[.agg #[.slice ua m.n l.cap, .slice na k nc], .int .i64 x] w (ListRes w (clearV m k z x)) := by
  have hX := BoxN.start w #[.slice ua m.n l.cap, .slice na k nc] 26
  have q0 := hX.cell 0 rfl
  have q1 := hX.cell 1 rfl
  have hrow := lone_at (w.alloc (.cells #[.slice ua m.n l.cap, .slice na k nc] 26)) x
  rw [World.size_alloc] at hrow
  have b2 := (Below.refl (w.heap.size + 1) (w.alloc (.cells #[.slice ua m.n l.cap, .slice na k nc] 26))).alloc (by simp) (.cells #[.int .i64 x] 3)
  have hX2 := hX.step (b2.mono (by simp))
  have bw := hX2.below
  have hsz : ((w.alloc (.cells #[.slice ua m.n l.cap, .slice na k nc] 26)).alloc (.cells #[.int .i64 x] 3)).heap.size ≥ w.heap.size + 1 + 1 := by simp
  have h2 := Lib.hid (h.step bw)
  go_enter Try.func29, Try.ntmps29
  generalize hW : (w.alloc (.cells #[.slice ua m.n l.cap, .slice na k nc] 26)).alloc (.cells #[.int .i64 x] 3) = W at hrow hX2 bw hsz h2
  have hrow2 : Hid (RowAt W W.heap.size (some ⟨w.heap.size + 1, 0, none⟩) (w.heap.size + 1) 0 1 (lone1 x)) := ⟨fun c hc => by obtain ⟨a1, a2, a3⟩ := hrow.row c hc; exact ⟨a1, by omega, a3⟩⟩
  clear hX b2 h hrow
  go_wp2_with fail
  go_at_call 44
  refine (algebraWith_any h2.out hrow2.out (by omega)).mono ?_
  rintro e w1 ⟨b1, (⟨hg, ob, tb, tG, rfl, hA⟩ | ⟨hg, rfl⟩)⟩
  · clear hW q0 q1 hrow2
    have B1 := bw.trans (b1.mono bw.size)
    have h3 := h2.out.step b1
    clear h2 hX2 bw hsz
    obtain ⟨a, n0, rfl, ha, rfl, hl, hle, hO⟩ := good_one_parts hg
    obtain ⟨y, hy⟩ : ∃ y : Nat → Nat, y = fun c => (z c).toNat := ⟨_, rfl⟩
    rw [← hy] at hO
    obtain ⟨rfl, hL1⟩ := AL.of hA h3 hO
    have HV : Hid (clearV m m.n z (a : Int) = listTo (clearB m y n0 a) m.n) := by
      show _ = _
      unfold clearV
      rw [if_pos hg, hle, Int.toNat_natCast, Int.toNat_natCast, ← hy]; rfl
    clear hl hle
    clear hg hy hA h3 hO
    have hY := BoxN.start w1 #[.slice ua m.n l.cap, .slice (some ⟨g, o, none⟩) m.n nc, .slice (some ⟨ob, 0, none⟩) 2 2] 60
    have BY := B1.trans (hY.below.mono B1.size)
    have hL := Lib.hid (hL1.step hY.below)
    clear hL1
    have r0 := hY.cell 0 rfl
    have r1 := hY.cell 1 rfl
    have r2 := hY.cell 2 rfl
    unfold algV
    have hleast : leastI m = (n0 : Int) := hL.out.O.eq
    have HLE := Lib.hid hleast
    have HS := Lib.hid hL.out.S
    have hn := hL.out.O.lat.order.top
    obtain ⟨i0, hi, hz0, hz1, hz2⟩ := info_parts infoInt
    have HI := Lib.hid hi
    have HZ0 := Lib.hid hz0
    have HZ1 := Lib.hid hz1
    have HZ2 := Lib.hid hz2
    clear hi hz0 hz1 hz2 hleast
    go_wp2_with fail
    go_at_call 54
    refine (least_sq HS.out).mono ?_
    rintro e w2 ⟨rfl, b2⟩
    rw [HLE.out]
    have hY2 := hY.step b2
    have hN := Boxd.start w2 (.int .i64 (n0 : Int)) 3
    have hb := hN.below
    have hY3 := hY2.step hb
    have hL3 := Lib.hid ((hL.out.step b2).step hb)
    have hN3 : NB (w2.alloc (.cells #[.int .i64 (n0 : Int)] 3)) w2.heap.size n0 := ⟨by simp, hN.cell⟩
    have B3 := (BY.trans (b2.mono BY.size)).trans (hb.mono (BY.trans (b2.mono BY.size)).size)
    have r3 := hY3.cell 0 rfl
    have r4 := hY3.cell 1 rfl
    have r5 := hY3.cell 2 rfl
    clear r0 r1 r2 hY hL hN hb hY2 BY HS HLE
    go_wp2_with fail
    generalize w2.alloc (.cells #[.int .i64 (n0 : Int)] 3) = W3 at hY3 hL3 hN3 B3 r3 r4 r5 ⊢
    go_at_call 45
    refine (projection_any (nc := nc) hL3.out ha).mono ?_
    rintro e w4 ⟨p, rfl, hP, b4⟩
    have hY4 := hY3.step b4
    have hN4 := hN3.step b4
    have B4 := B3.trans (b4.mono B3.size)
    have HP4 := Lib.hid hP
    clear hP hY3 hN3 B3 r3 r4 r5 hL3
    go_wp2_with fail
    go_at_call 58
    refine (behindB_any (p := p) (q := w2.heap.size)).mono ?_
    rintro e w5 ⟨r, rfl, hH, b5⟩
    have hY5 := hY4.step b5
    have hN5 := hN4.step b5
    have B5 := B4.trans (b5.mono B4.size)
    have HP5 := Lib.hid (HP4.out.step b5)
    have HH5 := Lib.hid hH
    have p1 := hY5.cell 1 rfl
    clear hH hY4 hN4 B4 HP4
    go_wp2_with fail
    go_loopw [10, 35] (fun v i wr => ∃ j : Nat, j ≤ m.n ∧ i = .int .i64 j ∧ wr.ownsRow w5.heap.size 3 1 v (listTo (clearB m y n0 a) j).length ((listTo (clearB m y n0 a) j).map (Value.int .i64)) ∧ Below w5.heap.size w5 wr) (fun _ i _ => m.n - (intOf i).toNat)
    case atStart => exact ⟨0, Nat.zero_le _, rfl, World.ownsRow_nil _ _ _ _, Below.refl _ _⟩
    case round =>
      obtain ⟨j, hj, rfl, hown, hD⟩ := hrel
      by_cases hlt : j < m.n
      · have hlt' : (j : Int) < m.n := by omega
        have hPr := Lib.hid (HP5.out.step hD)
        have hHr := Lib.hid (HH5.out.step hD)
        have hNr := Lib.hid (hN5.step hD)
        have hs := hD.size
        have hlen := listTo_len (clearB m y n0 a) j
        go_wp2_with fail
        go_at_call 82
        refine (clears_any hPr.out hNr.out hHr.out hlt).mono ?_
        rintro e w6 ⟨rfl, b6⟩
        have hD4 := hD.trans (b6.mono hD.size)
        have hown4 := ownsRow_below hown b6 (Nat.le_refl _)
        have hs4 := hD4.size
        clear hD hown hPr hHr hNr
        cases g0 : clearB m y n0 a j with
        | false =>
          have HN := Lib.hid (listTo_no g0)
          clear g0
          go_wp2_with fail
          go_roundw
          case rel => exact ⟨j + 1, by omega, by go_num, by rw [HN.out]; exact hown4, hD4⟩
          case measure => simp [intOf]; omega
        | true =>
          have HN := Lib.hid (listTo_yes g0)
          clear g0
          go_wp2_with (at_builtin; refine wpList_append_own _ rfl _ _ 24 rfl w5.heap.size 3 i0 (.int .i64 0) 1 8 Try.underlying24 HI.out HZ0.out HZ1.out HZ2.out rfl (by decide) _ _ _ rfl (hown4.alloc _) ⟨w6.heap.size, 0, none⟩ 1 1 [.int .i64 j] rfl rfl (cell_one_new _ _ _) ?c2 ?c3 ?c4 ?c5 ?_)
          case c2 => simp [Value.oneCell']
          case c3 => unfold maxLen; omega
          case c4 => omega
          case c5 => first | omega | (simp; omega)
          intro v' w7 hown5 hgrow _
          have HO5 : Hid (w7.ownsRow w5.heap.size 3 1 v' (listTo (clearB m y n0 a) (j + 1)).length ((listTo (clearB m y n0 a) (j + 1)).map (Value.int .i64))) := by
            show World.ownsRow _ _ _ _ _ _ _
            rw [HN.out, List.length_append, List.map_append]
            exact hown5
          have hW5 := (hD4.alloc hs4 (.cells #[.int .i64 j] 3)).grown hgrow (by simp; omega) (fun c hc => by have := ownsRow_block hown4 c hc; omega)
          clear hown5 hgrow hown4 hD4
          go_wp2_with fail
          go_roundw
          case rel => exact ⟨j + 1, by omega, by go_num, HO5.out, hW5⟩
          case measure => simp [intOf]; omega
      · have hlt' : ¬ (j : Int) < m.n := by omega
        have HK : Hid (j = m.n) := by show _ = _; omega
        go_wp2_with fail
        go_ret
        exact ⟨_, rfl, by rw [HV.out, ← HK.out]; exact ownsRow_base hown B5.size, B5.trans (hD.mono B5.size)⟩
  · have HV : Hid (clearV m k z x = []) := by show _ = _; unfold clearV; rw [if_neg (by rw [hg]; decide)]
    clear hW q0 q1 hrow2 hg
    have B1 := bw.trans (b1.mono bw.size)
    have B2 := B1.alloc B1.size (.cells #[.slice none 0 0, .slice none 0 0, .slice none 0 0] 60)
    unfold noAlg
    go_wp2_with fail
    go_ret
    exact ⟨_, rfl, by rw [HV.out]; exact World.ownsRow_nil _ _ _ _, B2⟩

end Go.Proofs.Ytkfinkhdfbogjaa
