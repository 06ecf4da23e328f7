/- The walks of the program's allAgree, CentreOf and BothWaysOk. -/
import Derived.Test.YtijcacibofpnpaaDoorZBb
import Derived.Test.YtijcacibofpnpaaDoorZAb
namespace Go.Proofs.YtijcacibofpnpaaDoor
open Go.RowKit Go.Deep Go.Shelf

attribute [local go_sem] Oper.semAt_some

set_option maxRecDepth 100000 in
set_option maxHeartbeats 2000000 in
theorem allAgree_any {w : World} {B ob tb g o nc n0 bx mb a : Nat} {tG : Nat → Nat} {ua : Option Addr} {l : Lay} {m : Mx} {z : Nat → Int} {y : Nat → Nat} (h : AL w B ob tb tG ua l m g o z y n0) (hG : AgAt m y mb bx w) (ha : a < m.n) :
    Calls Tryd.prog 20 #[.agg #[.slice ua m.n l.cap, .slice (some ⟨g, o, none⟩) m.n nc, .slice (some ⟨ob, 0, none⟩) 2 2], .int .i64 a, agF bx] w fun e w' => e = .returned (.bool (midB m y a)) ∧ Below w.heap.size w w' := by
  have hn := h.O.lat.order.top
  have hX := BoxN.start w #[.slice ua m.n l.cap, .slice (some ⟨g, o, none⟩) m.n nc, .slice (some ⟨ob, 0, none⟩) 2 2] 45
  have q1 := hX.cell 1 rfl
  have hG1 := Lib.hid (hG.step hX.below)
  have hB := hX.below
  clear h hG hX
  go_enter Tryd.func20, Tryd.ntmps20
  go_wp2_with fail
  generalize w.alloc (.cells #[.slice ua m.n l.cap, .slice (some ⟨g, o, none⟩) m.n nc, .slice (some ⟨ob, 0, none⟩) 2 2] 45) = W at q1 hG1 hB ⊢
  go_loopw [11] (fun i wr => ∃ b : Nat, b ≤ m.n ∧ i = .int .i64 b ∧ wr = W ∧ Hid (midP m y a b = true)) (fun i _ => m.n - (intOf i).toNat)
  case atStart => exact ⟨0, Nat.zero_le _, rfl, rfl, rfl⟩
  case round =>
    obtain ⟨b, hbn, rfl, rfl, hP⟩ := hrel
    by_cases hbt : b < m.n
    · have hbt' : (b : Int) < m.n := by omega
      cases g1 : agB m y a b with
      | false =>
        have HF : Hid (false = midB m y a) := (allB_false hbt (by rw [g1]; rfl)).symm
        have G1 := Lib.hid g1
        clear g1
        go_wp2_with fail
        go_at_call 44
        refine (agrees_any hG1.out hn ha hbt).mono ?_
        rintro e w' ⟨rfl, rfl⟩
        rw [G1.out]
        go_wp2_with fail
        go_ret
        exact ⟨ret_bool HF.out, hB⟩
      | true =>
        have G1 := Lib.hid g1
        go_wp2_with fail
        go_at_call 44
        refine (agrees_any hG1.out hn ha hbt).mono ?_
        rintro e w' ⟨rfl, rfl⟩
        rw [G1.out]
        cases g2 : agB m y b a with
        | false =>
          have HF : Hid (false = midB m y a) := (allB_false hbt (by rw [g1, g2]; rfl)).symm
          have G2 := Lib.hid g2
          clear g1 g2
          go_wp2_with fail
          go_at_call 44
          refine (agrees_any hG1.out hn hbt ha).mono ?_
          rintro e w' ⟨rfl, rfl⟩
          rw [G2.out]
          go_wp2_with fail
          go_ret
          exact ⟨ret_bool HF.out, hB⟩
        | true =>
          have G2 := Lib.hid g2
          have HP : Hid (midP m y a (b + 1) = true) := by
            show allB _ _ = _
            rw [allB_step, g1, g2]
            exact (Bool.and_true _).trans hP.out
          clear g1 g2
          go_wp2_with fail
          go_at_call 44
          refine (agrees_any hG1.out hn hbt ha).mono ?_
          rintro e w' ⟨rfl, rfl⟩
          rw [G2.out]
          go_wp2_with fail
          go_roundw
          case rel => exact ⟨b + 1, by omega, by go_num, trivial, HP⟩
          case measure => simp [intOf]; omega
    · have hbt' : ¬ (b : Int) < m.n := by omega
      have HF : Hid (true = midB m y a) := by
        have e : b = m.n := by omega
        have h1 := hP.out
        rw [e] at h1
        exact h1.symm
      go_wp2_with fail
      go_ret
      exact ⟨ret_bool HF.out, hB⟩

set_option maxRecDepth 100000 in
set_option maxHeartbeats 4000000 in
theorem CentreOf_any {w : World} {B : Nat} {ua : Option Addr} {l : Lay} {m : Mx} {na : Option Addr} {g o k nc : Nat} {z : Nat → Int} (h : LogAt w B ua l m na g o k z) :
    Calls Tryd.prog 5 #[.agg #[.slice ua m.n l.cap, .slice na k nc]] w (ListRes w (midV m k z)) := by
  have hX := BoxN.start w #[.slice ua m.n l.cap, .slice na k nc] 26
  have q0 := hX.cell 0 rfl
  have q1 := hX.cell 1 rfl
  have bw := hX.below
  have h2 := Lib.hid (h.step bw)
  clear h hX
  go_enter Tryd.func5, Tryd.ntmps5
  have hrow2 : Hid (RowAt (w.alloc (.cells #[.slice ua m.n l.cap, .slice na k nc] 26)) (w.alloc (.cells #[.slice ua m.n l.cap, .slice na k nc] 26)).heap.size none 0 0 0 (fun _ => 0)) := ⟨fun c hc => absurd hc (Nat.not_lt_zero _)⟩
  go_wp2_with fail
  generalize w.alloc (.cells #[.slice ua m.n l.cap, .slice na k nc] 26) = W0 at bw h2 hrow2 q0 q1 ⊢
  go_at_call 18
  refine (algebraWith_any h2.out hrow2.out (by omega)).mono ?_
  rintro e w1 ⟨b1, (⟨hg, ob, tb, tG, rfl, hA⟩ | ⟨hg, rfl⟩)⟩
  · have hlog : logicB m k z = true := by rw [good_nil, Bool.and_true] at hg; exact hg
    have B1 := bw.trans (b1.mono bw.size)
    have h3 := h2.out.step b1
    clear h2 hrow2 q0 q1 bw hg
    obtain ⟨y0, n0, hO0⟩ := (logicB_is hlog).ortho
    have hkn : k = m.n := (logicB_is hlog).pair.len
    subst hkn
    have hO := hO0.own
    obtain ⟨y, hy⟩ : ∃ y : Nat → Nat, y = fun c => (z c).toNat := ⟨_, rfl⟩
    rw [← hy] at hO
    obtain ⟨rfl, hL1⟩ := AL.of hA h3 hO
    have HV : Hid (midV m m.n z = midTo m y m.n) := by show _ = _; unfold midV; rw [if_pos hlog, hy]
    have hn := hO.lat.order.top
    clear hlog hy hA h3 hO hO0
    have hY := BoxN.start w1 #[.slice ua m.n l.cap, .slice (some ⟨g, o, none⟩) m.n nc, .slice (some ⟨ob, 0, none⟩) 2 2] 45
    have BY := B1.trans (hY.below.mono B1.size)
    have hL := Lib.hid (hL1.step hY.below)
    have r0 := hY.cell 0 rfl
    have r1 := hY.cell 1 rfl
    have r2 := hY.cell 2 rfl
    clear hL1
    obtain ⟨i0, hi, hz0, hz1, hz2⟩ := info_parts infoInt
    have HI := Lib.hid hi
    have HZ0 := Lib.hid hz0
    have HZ1 := Lib.hid hz1
    have HZ2 := Lib.hid hz2
    clear hi hz0 hz1 hz2
    unfold algV
    go_wp2_with fail
    generalize w1.alloc (.cells #[.slice ua m.n l.cap, .slice (some ⟨g, o, none⟩) m.n nc, .slice (some ⟨ob, 0, none⟩) 2 2] 45) = W at hY hL BY r0 r1 r2 ⊢
    go_at_call 19
    refine (agreeing_any (nc := nc) hL.out).mono ?_
    rintro e w3 ⟨bx, mb, rfl, hG, b3⟩
    have hY3 := hY.step b3
    have hL3 := Lib.hid (hL.out.step b3)
    have HG := Lib.hid hG
    have B3 := BY.trans (b3.mono BY.size)
    have p1 := hY3.cell 1 rfl
    clear r0 r1 r2 hY hL hG
    go_wp2_with fail
    go_loopw [6, 20] (fun v i wr => ∃ j : Nat, j ≤ m.n ∧ i = .int .i64 j ∧ wr.ownsRow w3.heap.size 3 1 v (midTo m y j).length ((midTo m y j).map (Value.int .i64)) ∧ Below w3.heap.size w3 wr) (fun _ i _ => m.n - (intOf i).toNat)
    case atStart => exact ⟨0, Nat.zero_le _, rfl, World.ownsRow_nil _ _ _ _, Below.refl _ _⟩
    case round =>
      obtain ⟨j, hj, rfl, hown, hD⟩ := hrel
      have hYr := hY3.step hD
      by_cases hlt : j < m.n
      · have hlt' : (j : Int) < m.n := by omega
        have hLr := Lib.hid (hL3.out.step hD)
        have hGr := Lib.hid (HG.out.step hD)
        have r0 := hYr.cell 0 rfl
        have r1 := hYr.cell 1 rfl
        have r2 := hYr.cell 2 rfl
        have hs := hD.size
        have hlen := midTo_len m y j
        go_wp2_with fail
        go_at_call 20
        refine (allAgree_any (nc := nc) hLr.out hGr.out hlt).mono ?_
        rintro e w4 ⟨rfl, b4⟩
        have hD4 := hD.trans (b4.mono hD.size)
        have hown4 := ownsRow_below hown b4 (Nat.le_refl _)
        have hs4 := hD4.size
        clear r0 r1 r2 hD hown hLr hGr
        cases g0 : midB m y j with
        | false =>
          have HN := Lib.hid (midTo_no g0)
          clear g0
          go_wp2_with fail
          go_roundw
          case rel => exact ⟨j + 1, by omega, by go_num, by rw [HN.out]; exact hown4, hD4⟩
          case measure => simp [intOf]; omega
        | true =>
          have HN := Lib.hid (midTo_yes g0)
          clear g0
          go_wp2_with (at_builtin; refine wpList_append_own _ rfl _ _ 24 rfl w3.heap.size 3 i0 (.int .i64 0) 1 8 Tryd.underlying24 HI.out HZ0.out HZ1.out HZ2.out rfl (by decide) _ _ _ rfl (hown4.alloc _) ⟨w4.heap.size, 0, none⟩ 1 1 [.int .i64 j] rfl rfl (cell_one_new _ _ _) ?c2 ?c3 ?c4 ?c5 ?_)
          case c2 => simp [Value.oneCell']
          case c3 => unfold maxLen; omega
          case c4 => omega
          case c5 => first | omega | (simp; omega)
          intro v' w5 hown5 hgrow _
          have HO5 : Hid (w5.ownsRow w3.heap.size 3 1 v' (midTo m y (j + 1)).length ((midTo m y (j + 1)).map (Value.int .i64))) := by
            show World.ownsRow _ _ _ _ _ _ _
            rw [HN.out, List.length_append, List.map_append]
            exact hown5
          have hW5 := (hD4.alloc hs4 (.cells #[.int .i64 j] 3)).grown hgrow (by simp; omega) (fun c hc => by have := ownsRow_block hown4 c hc; omega)
          clear hown5 hgrow hown4 hD4
          go_wp2_with fail
          go_roundw
          case rel => exact ⟨j + 1, by omega, by go_num, HO5.out, hW5⟩
          case measure => simp [intOf]; omega
      · have hlt' : ¬ (j : Int) < m.n := by omega
        have HK : Hid (j = m.n) := by show _ = _; omega
        go_wp2_with fail
        go_ret
        exact ⟨_, rfl, by rw [HV.out, ← HK.out]; exact ownsRow_base hown B3.size, B3.trans (hD.mono B3.size)⟩
  · have HV : Hid (midV m k z = []) := by show _ = _; unfold midV; rw [good_nil, Bool.and_true] at hg; rw [hg]; rfl
    clear q0 q1 hrow2 hg h2
    have B1 := bw.trans (b1.mono bw.size)
    have B2 := B1.alloc B1.size (.cells #[.slice none 0 0, .slice none 0 0, .slice none 0 0] 45)
    unfold noAlg
    go_wp2_with fail
    go_ret
    exact ⟨_, rfl, by rw [HV.out]; exact World.ownsRow_nil _ _ _ _, B2⟩

def bothPB (m : Mx) (y : Nat → Nat) (a b : Nat) : Bool := !agB m y a b || agB m y b a
/-- Nothing speaks against the pairs of the list. -/
def AllBoth (m : Mx) (y : Nat → Nat) (pre : List (Fin m.n × Fin m.n)) : Prop := ∀ p ∈ pre, bothPB m y p.1.val p.2.val = true
theorem AllBoth.snoc {m : Mx} {y : Nat → Nat} {pre : List (Fin m.n × Fin m.n)} (h : AllBoth m y pre) {x : Fin m.n × Fin m.n} (hx : bothPB m y x.1.val x.2.val = true) : AllBoth m y (pre ++ [x]) := fun p hp => by
  rcases List.mem_append.1 hp with e | e
  · exact h p e
  · have e' : p = x := by simpa using e
    rw [e']; exact hx
theorem AllBoth.all {m : Mx} {y : Nat → Nat} {pre : List (Fin m.n × Fin m.n)} (h : AllBoth m y pre) (hall : ∀ a b : Fin m.n, (a, b) ∈ pre) : twoWaysB m y = true := by
  unfold twoWaysB
  refine allB_true fun a ha => allB_true fun b hb => ?_
  have h1 := h (⟨a, ha⟩, ⟨b, hb⟩) (hall _ _)
  unfold bothPB at h1
  exact h1

end Go.Proofs.YtijcacibofpnpaaDoor
