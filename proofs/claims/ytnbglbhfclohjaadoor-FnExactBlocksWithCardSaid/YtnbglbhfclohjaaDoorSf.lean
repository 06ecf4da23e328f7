/- The walks of the program's allBlocks, AgreeOk, BlocksWith. -/
import Derived.Test.YtnbglbhfclohjaaDoorSe
namespace Go.Proofs.YtnbglbhfclohjaaDoor
open Go.RowKit Go.Deep Go.Shelf

attribute [local go_sem] Oper.semAt_some

noncomputable def agreeV (m : Mx) (k : Nat) (z : Nat → Int) (x : Int) : Bool := logicB m k z && (inB k x && cliqB m (fun a => (z a).toNat) x.toNat)
noncomputable def withV6 (m : Mx) (k : Nat) (z : Nat → Int) (x : Int) : Int := if (logicB m k z && goodB m.n 1 (lone1 x)) = true then ((withN (blockL m (fun a => (z a).toNat)) x.toNat : Nat) : Int) else -1
noncomputable def blocksV (m : Mx) (k : Nat) (z : Nat → Int) : List Int := if logicB m k z = true then blockL m (fun a => (z a).toNat) else []

abbrev blkF (b : Nat) : Value := .func (.func 145) #[] #[.pointer (some ⟨b, 0, none⟩), .pointer (some ⟨b + 1, 0, none⟩), .pointer (some ⟨b + 1 + 1, 0, none⟩)]
set_option maxRecDepth 100000 in
set_option maxHeartbeats 1000000 in
theorem allBlocks_any (a : Option Addr) (n c : Nat) (w : World) :
    Calls Tryd.prog 76 #[.slice a n c] w fun e w' => e = .returned (blkF w.heap.size) ∧
      w' = ((w.alloc (.cells #[.slice a n c] 78)).alloc (.cells #[.int .i64 0] 3)).alloc (.cells #[.int .i64 0] 3) := by
  go_enter Tryd.func76, Tryd.ntmps76
  go_wp2_with fail
  go_at_call 121
  refine (blocks_any _ _ _ _ _ _).mono ?_
  rintro e w' ⟨rfl, hw⟩
  go_wp2_with fail
  go_ret
  exact ⟨rfl, by first | rfl | exact hw⟩
/-- All blocks: what allBlocks hands back yields just them. -/
theorem all_seq {m : Mx} {z : Nat → Int} {y : Nat → Nat} {o0 mb : Nat} {w w' : World} {own : World → Nat → Prop} (hO : Ortho m z y o0) (hC : CompAt m y mb w) (hT : TabOk w)
    (hx : w' = ((w.alloc (.cells #[.slice (some ⟨mb, 0, none⟩) m.n m.n] 78)).alloc (.cells #[.int .i64 0] 3)).alloc (.cells #[.int .i64 0] 3))
    (how : Ow own w'.heap.size) (h1 : ¬ own w' w.heap.size) (h2 : ¬ own w' (w.heap.size + 1)) (h3 : ¬ own w' (w.heap.size + 1 + 1)) (h4 : ¬ own w' mb) (h5 : ¬ own w' 1) :
    SeqL own 145 #[.pointer (some ⟨w.heap.size, 0, none⟩), .pointer (some ⟨w.heap.size + 1, 0, none⟩), .pointer (some ⟨w.heap.size + 1 + 1, 0, none⟩)] (allL m y) w' := by
  have hb := blocks_world hx
  obtain ⟨c1, c2, c3⟩ := blocks_cells hx
  exact blocks_seq hO 13 0 0 (Nat.two_pow_pos _) none_clique (Nat.zero_le _) (by have := hO.lat.order.top; omega) own mb _ _ _ w' how ⟨⟨c1, h1⟩, ⟨c2, h2⟩, ⟨c3, h3⟩, ⟨hC.step hb, h4⟩, ⟨hT.step hb hT.size, h5⟩⟩

theorem agree_rest {m : Mx} {z : Nat → Int} {y : Nat → Nat} {o0 s : Nat} (hO : Ortho m z y o0) (hs : s < 2 ^ m.n) : cliqB m y s = decide (s ^^^ (s &&& shN m y s) = 0) := by
  rw [Bool.eq_iff_iff, hO.cliq_iff, decide_eq_true_iff, rest_zero]
  constructor
  · intro h a ga
    have ha := bit_under hs ga
    rw [shN_bit, Bool.and_eq_true, decide_eq_true_iff]
    exact ⟨ha, nb_iff.2 fun b hb gb => h a b ha hb ga gb⟩
  · intro h a b ha hb ga gb
    have := h a ga
    rw [shN_bit, Bool.and_eq_true, decide_eq_true_iff] at this
    exact nb_iff.1 this.2 b hb gb

set_option maxRecDepth 100000 in
set_option maxHeartbeats 2000000 in
theorem AgreeOk_any {w : World} {B : Nat} {ua : Option Addr} {l : Lay} {m : Mx} {na : Option Addr} {g o k nc : Nat} {z : Nat → Int} {x : Int} (h : LogAt w B ua l m na g o k z) (hT : TabOk w) :
    Calls Tryd.prog 24 #[.agg #[.slice ua m.n l.cap, .slice na k nc], .int .i64 x] w fun e w' => e = .returned (.bool (agreeV m k z x)) ∧ Below w.heap.size w w' := by
  have hX := BoxN.start w #[.slice ua m.n l.cap, .slice na k nc] 26
  have q0 := hX.cell 0 rfl
  have q1 := hX.cell 1 rfl
  have bw := hX.below
  have h2 := Lib.hid (h.step bw)
  have HT2 := Lib.hid (hT.step bw hT.size)
  clear h hX hT
  go_enter Tryd.func24, Tryd.ntmps24
  have hrow2 : Hid (RowAt (w.alloc (.cells #[.slice ua m.n l.cap, .slice na k nc] 26)) (w.alloc (.cells #[.slice ua m.n l.cap, .slice na k nc] 26)).heap.size none 0 0 0 (fun _ => 0)) := ⟨fun c hc => absurd hc (Nat.not_lt_zero _)⟩
  go_wp2_with fail
  generalize w.alloc (.cells #[.slice ua m.n l.cap, .slice na k nc] 26) = W0 at bw h2 hrow2 q0 q1 HT2 ⊢
  go_at_call 50
  refine (algebraWith_any h2.out hrow2.out (by omega)).mono ?_
  rintro e w1 ⟨b1, (⟨hg, ob, tb, tG, rfl, hA⟩ | ⟨hg, rfl⟩)⟩
  · have hlog : logicB m k z = true := by rw [good_nil, Bool.and_true] at hg; exact hg
    have B1 := bw.trans (b1.mono bw.size)
    have h3 := h2.out.step b1
    have HT3 := Lib.hid (HT2.out.step b1 HT2.out.size)
    clear h2 hrow2 q0 q1 bw hg HT2
    obtain ⟨y0, n0, hO0⟩ := (logicB_is hlog).ortho
    have hkn : k = m.n := (logicB_is hlog).pair.len
    subst hkn
    have hO := hO0.own
    obtain ⟨y, hy⟩ : ∃ y : Nat → Nat, y = fun c => (z c).toNat := ⟨_, rfl⟩
    rw [← hy] at hO
    obtain ⟨rfl, hL1⟩ := AL.of hA h3 hO
    have HV : Hid (agreeV m m.n z x = (inB m.n x && cliqB m y x.toNat)) := by show _ = _; unfold agreeV; rw [hlog, hy]; rfl
    have hn := hO.lat.order.top
    have HO := Lib.hid hO
    clear hlog hy hA h3 hO hO0
    have hY := BoxN.start w1 #[.slice ua m.n l.cap, .slice (some ⟨g, o, none⟩) m.n nc, .slice (some ⟨ob, 0, none⟩) 2 2] 58
    have BY := B1.trans (hY.below.mono B1.size)
    have hL := Lib.hid (hL1.step hY.below)
    have HT4 := Lib.hid (HT3.out.step hY.below HT3.out.size)
    have r0 := hY.cell 0 rfl
    have r1 := hY.cell 1 rfl
    have r2 := hY.cell 2 rfl
    clear hL1 HT3
    unfold algV
    cases hin : inB m.n x with
    | false =>
      have HF : Hid (false = agreeV m m.n z x) := by show _ = _; rw [HV.out, hin]; rfl
      have HI := Lib.hid hin
      clear hin HV
      go_wp2_with fail
      go_at_call 68
      have hset := setOk_any (w := w1.alloc (.cells #[.slice ua m.n l.cap, .slice (some ⟨g, o, none⟩) m.n nc, .slice (some ⟨ob, 0, none⟩) 2 2] 58)) (ob := ob) (k := m.n) (nc := nc) (g := g) (o := o) (sa := ua) (l := l) (m := m) (x := x) hn
      unfold algV at hset
      refine hset.mono ?_
      rintro e w2 ⟨rfl, b2⟩
      have BZ := BY.trans (b2.mono BY.size)
      rw [HI.out]
      clear hset
      go_wp2_with fail
      go_ret
      exact ⟨ret_bool HF.out, BZ⟩
    | true =>
      have hxs : 1 ≤ x ∧ x < ((2 ^ m.n : Nat) : Int) := by
        have h9 := of_decide_eq_true hin
        have e9 : ((2 ^ m.n : Nat) : Int) = 2 ^ m.n := by simp
        omega
      obtain ⟨s, rfl⟩ := Int.eq_ofNat_of_zero_le (show 0 ≤ x by omega)
      have hs : s < 2 ^ m.n := by omega
      have h12 := pow_le_12 hn
      have HI := Lib.hid hin
      have hsh := shN_lt m y s
      have ean : bits .andNot .i64 (s : Int) ((shN m y s : Nat) : Int) = ((s ^^^ (s &&& shN m y s) : Nat) : Int) := i64_andNot_nat _ _ (by omega) (by omega)
      have HS := Lib.hid hs
      cases hc : cliqB m y s with
      | true =>
        have HF : Hid (true = agreeV m m.n z (s : Int)) := by show _ = _; rw [HV.out, hin, Int.toNat_natCast, hc]; rfl
        have ez : ((((s ^^^ (s &&& shN m y s) : Nat) : Int)) == 0) = true := by
          have h9 := agree_rest HO.out hs
          rw [hc] at h9
          have h8 := of_decide_eq_true h9.symm; rw [h8]; rfl
        clear hin HV hc hxs h12 hsh hs
        go_wp2_with fail
        go_at_call 68
        have hset := setOk_any (w := w1.alloc (.cells #[.slice ua m.n l.cap, .slice (some ⟨g, o, none⟩) m.n nc, .slice (some ⟨ob, 0, none⟩) 2 2] 58)) (ob := ob) (k := m.n) (nc := nc) (g := g) (o := o) (sa := ua) (l := l) (m := m) (x := (s : Int)) hn
        unfold algV at hset
        refine hset.mono ?_
        rintro e w2 ⟨rfl, b2⟩
        have BZ := BY.trans (b2.mono BY.size)
        have hY2 := hY.step b2
        have hL2 := Lib.hid (hL.out.step b2)
        have HT5 := Lib.hid (HT4.out.step b2 HT4.out.size)
        have p0 := hY2.cell 0 rfl
        have p1 := hY2.cell 1 rfl
        have p2 := hY2.cell 2 rfl
        rw [HI.out]
        clear hset r0 r1 r2 hY hL HT4 b2
        go_wp2_with fail
        go_at_call 69
        refine (company_any (nc := nc) hL2.out).mono ?_
        rintro e w3 ⟨mb, rfl, hC, b3, _⟩
        have HT6 := Lib.hid (HT5.out.step b3 HT5.out.size)
        have HC := Lib.hid hC
        have BZ3 := BZ.trans (b3.mono BZ.size)
        clear hC p0 p1 p2 hY2 hL2
        go_wp2_with fail
        go_at_call 70
        refine (shared_any (s := s) HC.out hn HS.out HT6.out).mono ?_
        rintro e w4 ⟨rfl, b4⟩
        have BZ4 := BZ3.trans (b4.mono BZ3.size)
        go_wp2_with fail
        go_ret
        exact ⟨ret_bool HF.out, BZ4⟩
      | false =>
        have HF : Hid (false = agreeV m m.n z (s : Int)) := by show _ = _; rw [HV.out, hin, Int.toNat_natCast, hc]; rfl
        have ez : ((((s ^^^ (s &&& shN m y s) : Nat) : Int)) == 0) = false := by
          have h9 := agree_rest HO.out hs
          rw [hc] at h9
          have h8 := of_decide_eq_false h9.symm; rw [beq_eq_false_iff_ne]; omega
        clear hin HV hc hxs h12 hsh hs
        go_wp2_with fail
        go_at_call 68
        have hset := setOk_any (w := w1.alloc (.cells #[.slice ua m.n l.cap, .slice (some ⟨g, o, none⟩) m.n nc, .slice (some ⟨ob, 0, none⟩) 2 2] 58)) (ob := ob) (k := m.n) (nc := nc) (g := g) (o := o) (sa := ua) (l := l) (m := m) (x := (s : Int)) hn
        unfold algV at hset
        refine hset.mono ?_
        rintro e w2 ⟨rfl, b2⟩
        have BZ := BY.trans (b2.mono BY.size)
        have hY2 := hY.step b2
        have hL2 := Lib.hid (hL.out.step b2)
        have HT5 := Lib.hid (HT4.out.step b2 HT4.out.size)
        have p0 := hY2.cell 0 rfl
        have p1 := hY2.cell 1 rfl
        have p2 := hY2.cell 2 rfl
        rw [HI.out]
        clear hset r0 r1 r2 hY hL HT4 b2
        go_wp2_with fail
        go_at_call 69
        refine (company_any (nc := nc) hL2.out).mono ?_
        rintro e w3 ⟨mb, rfl, hC, b3, _⟩
        have HT6 := Lib.hid (HT5.out.step b3 HT5.out.size)
        have HC := Lib.hid hC
        have BZ3 := BZ.trans (b3.mono BZ.size)
        clear hC p0 p1 p2 hY2 hL2
        go_wp2_with fail
        go_at_call 70
        refine (shared_any (s := s) HC.out hn HS.out HT6.out).mono ?_
        rintro e w4 ⟨rfl, b4⟩
        have BZ4 := BZ3.trans (b4.mono BZ3.size)
        go_wp2_with fail
        go_ret
        exact ⟨ret_bool HF.out, BZ4⟩
  · have HF : Hid (false = agreeV m k z x) := by show _ = _; unfold agreeV; rw [good_nil, Bool.and_true] at hg; rw [hg]; rfl
    have B1 := bw.trans (b1.mono bw.size)
    have B2 := B1.alloc B1.size (.cells #[.slice none 0 0, .slice none 0 0, .slice none 0 0] 58)
    clear h2 hrow2 q0 q1 bw hg
    unfold noAlg
    go_wp2_with fail
    go_ret
    exact ⟨ret_bool HF.out, B2⟩
end Go.Proofs.YtnbglbhfclohjaaDoor
