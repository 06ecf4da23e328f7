import Derived.Test.YtnbglbhfclohjaaDoorZAa
import Derived.Test.YtnbglbhfclohjaaDoorZSh
namespace Go.Proofs.YtnbglbhfclohjaaDoor
open Go.RowKit Go.Deep

set_option maxRecDepth 100000 in
set_option maxHeartbeats 2000000 in
theorem l6Agree_any {w : World} {B : Nat} {ua : Option Addr} {l : Lay} {m : Mx} {na : Option Addr} {g o nc a b : Nat} {z : Nat → Int} {y : Nat → Nat} {o' : Nat} (h : LogAt w B ua l m na g o m.n z) (hO : Ortho m z y o') (ha : a < m.n) (hb : b < m.n) :
    Calls Tryd.prog 72 #[.agg #[.slice ua m.n l.cap, .slice na m.n nc], .int .i64 a, .int .i64 b] w fun e w' => e = .returned (.bool (agB m y a b && agB m y b a)) ∧ Below w.heap.size w w' := by
  have hX := BoxN.start w #[.slice ua m.n l.cap, .slice na m.n nc] 26
  have h1 := Lib.hid (h.alloc (.cells #[.slice ua m.n l.cap, .slice na m.n nc] 26))
  have q0 := hX.cell 0 rfl
  have q1 := hX.cell 1 rfl
  have HO := Lib.hid hO
  clear h hO
  go_enter Tryd.func72, Tryd.ntmps72
  go_wp2_with fail
  go_at_call 53
  refine (l5With_any h1.out HO.out ha hb).mono ?_
  rintro e w2 ⟨rfl, b2⟩
  have hX2 := hX.step b2
  have h2 := Lib.hid (h1.out.step b2)
  have r0 := hX2.cell 0 rfl
  have r1 := hX2.cell 1 rfl
  clear q0 q1
  cases g1 : agB m y a b with
  | false =>
    have G1 := Lib.hid g1
    clear g1
    go_wp2_with fail
    go_ret
    exact ⟨ret_bool (by rw [G1.out, Bool.false_and]), hX2.below⟩
  | true =>
    have G1 := Lib.hid g1
    clear g1
    go_wp2_with fail
    go_at_call 53
    refine (l5With_any h2.out HO.out hb ha).mono ?_
    rintro e w3 ⟨rfl, b3⟩
    have hX3 := hX2.step b3
    clear r0 r1
    go_wp2_with fail
    go_ret
    exact ⟨ret_bool (by rw [G1.out, Bool.true_and]), hX3.below⟩

end Go.Proofs.YtnbglbhfclohjaaDoor
namespace Go.Proofs.YtnbglbhfclohjaaDoor
open Go.RowKit Go.Deep

end Go.Proofs.YtnbglbhfclohjaaDoor
namespace Go.Proofs.YtnbglbhfclohjaaDoor
open Go.RowKit Go.Deep

/-- The row of an answer: all with which it agrees both ways. -/
def rowN (m : Mx) (y : Nat → Nat) (a : Nat) : Nat := bitS (adjB m y a) m.n
theorem bitS_yes {p : Nat → Bool} {k : Nat} (h : p k = true) : bitS p k ||| 2 ^ k = bitS p (k + 1) := by
  obtain ⟨h1, h2⟩ := bitS_is p k
  obtain ⟨h3, h4⟩ := bitS_is p (k + 1)
  refine Nat.eq_of_testBit_eq fun i => ?_
  rw [Nat.testBit_or, Nat.testBit_two_pow, h2, h4, Bool.eq_iff_iff]
  simp only [Bool.or_eq_true, Bool.and_eq_true, decide_eq_true_iff]
  constructor
  · rintro (⟨e1, e2⟩ | e)
    · exact ⟨by omega, e2⟩
    · subst e; exact ⟨by omega, h⟩
  · rintro ⟨e1, e2⟩
    by_cases e : k = i
    · exact .inr e
    · exact .inl ⟨by omega, e2⟩
theorem bitS_no {p : Nat → Bool} {k : Nat} (h : p k = false) : bitS p (k + 1) = bitS p k := by
  show (if _ then _ else _ : Nat) = _
  rw [if_neg (by rw [h]; exact Bool.false_ne_true)]
theorem small_wrap {q : Nat} (h : q ≤ 4096) : wrap64 (q : Int) = (q : Int) := IntWalk.wrap64_in _ (by omega)
theorem bitS_lt12 {p : Nat → Bool} {k : Nat} (hk : k ≤ 12) : bitS p k < 4096 := Nat.lt_of_lt_of_le (bitS_is p k).1 (pow_le_12 hk)
/-- What agrees with those of a set that stand below a number. -/
def shJ (m : Mx) (y : Nat → Nat) (s c : Nat) : Nat := bitS (fun x => allB c fun a => !s.testBit a || adjB m y x a) m.n
theorem shJ_zero (m : Mx) (y : Nat → Nat) (s : Nat) : shJ m y s 0 = 2 ^ m.n - 1 := by
  refine Nat.eq_of_testBit_eq fun i => ?_
  unfold shJ
  rw [(bitS_is _ _).2, full_bits]
  have e : (allB 0 fun a => !s.testBit a || adjB m y i a) = true := allB_true fun a ha => absurd ha (Nat.not_lt_zero _)
  rw [e, Bool.and_true]
theorem shJ_bit (m : Mx) (y : Nat → Nat) (s c i : Nat) : (shJ m y s c).testBit i = (decide (i < m.n) && allB c fun a => !s.testBit a || adjB m y i a) := (bitS_is _ _).2 i
theorem shJ_yes {m : Mx} {y : Nat → Nat} {s c : Nat} (h : s.testBit c = true) : shJ m y s c &&& rowN m y c = shJ m y s (c + 1) := by
  refine Nat.eq_of_testBit_eq fun i => ?_
  have er : (rowN m y c).testBit i = (decide (i < m.n) && adjB m y c i) := (bitS_is _ _).2 i
  have es : (allB (c + 1) fun a => !s.testBit a || adjB m y i a) = ((allB c fun a => !s.testBit a || adjB m y i a) && (!s.testBit c || adjB m y i c)) := allB_step
  rw [Nat.testBit_and, shJ_bit, shJ_bit, er, es, h, adjB_comm m y c i]
  cases decide (i < m.n) <;> cases (allB c fun a => !s.testBit a || adjB m y i a) <;> cases adjB m y i c <;> rfl
theorem shJ_no {m : Mx} {y : Nat → Nat} {s c : Nat} (h : s.testBit c = false) : shJ m y s (c + 1) = shJ m y s c := by
  refine Nat.eq_of_testBit_eq fun i => ?_
  have es : (allB (c + 1) fun a => !s.testBit a || adjB m y i a) = ((allB c fun a => !s.testBit a || adjB m y i a) && (!s.testBit c || adjB m y i c)) := allB_step
  rw [shJ_bit, shJ_bit, es, h]
  cases (allB c fun a => !s.testBit a || adjB m y i a) <;> simp
theorem block_eq {m : Mx} {y : Nat → Nat} {s : Nat} (hs : s < 2 ^ m.n) : blockB m y s = decide (shN m y s = s) := by
  rw [Bool.eq_iff_iff, decide_eq_true_iff]
  constructor
  · intro h
    refine Nat.eq_of_testBit_eq fun i => ?_
    rw [shN_bit]
    by_cases hi : i < m.n
    · have := allB_is h i hi
      rw [beq_iff_eq] at this
      rw [this]; simp [hi]
    · cases e : s.testBit i with
      | true => exact absurd (bit_under hs e) hi
      | false => simp [hi]
  · intro h
    refine allB_true fun i hi => ?_
    have := shN_bit m y s i
    rw [h] at this
    rw [beq_iff_eq, this]; simp [hi]
theorem Ortho.no_block {m : Mx} {z : Nat → Int} {y : Nat → Nat} {o : Nat} (h : Ortho m z y o) : blockB m y 0 = false := by
  cases e : blockB m y 0 with
  | false => rfl
  | true =>
    have := h.block_pos ((block_iff (Nat.two_pow_pos _)).1 e)
    omega

set_option maxRecDepth 100000 in
set_option maxHeartbeats 4000000 in
theorem spec_BlocksOf {w : World} {B : Nat} {ua : Option Addr} {l : Lay} {m : Mx} {na : Option Addr} {g o k nc : Nat} {z : Nat → Int} (h : LogAt w B ua l m na g o k z) :
    Calls Tryd.prog 29 #[.agg #[.slice ua m.n l.cap, .slice na k nc]] w (ListRes w (blocksV m k z)) := by
  have hX := BoxN.start w #[.slice ua m.n l.cap, .slice na k nc] 26
  have h1 := Lib.hid (h.alloc (.cells #[.slice ua m.n l.cap, .slice na k nc] 26))
  have q0 := hX.cell 0 rfl
  have q1 := hX.cell 1 rfl
  have hkk := h.hk
  have hsz : (w.alloc (.cells #[.slice ua m.n l.cap, .slice na k nc] 26)).heap.size = w.heap.size + 1 := by simp
  clear h
  cases hl : logicB m k z with
  | false =>
    have HL := Lib.hid hl
    have HF : Hid (blocksV m k z = []) := by show _ = _; unfold blocksV; rw [hl]; rfl
    clear hl
    go_enter Tryd.func29, Tryd.ntmps29
    have hown0 : ((w.alloc (.cells #[.slice ua m.n l.cap, .slice na k nc] 26)).alloc (.cells #[] 3)).ownsRow (w.heap.size + 1) 3 1 (.slice (some ⟨w.heap.size + 1, 0, none⟩) 0 0) 0 [] := by
      rw [← hsz]
      exact World.ownsRow_lit (base := (w.alloc (.cells #[.slice ua m.n l.cap, .slice na k nc] 26)).heap.size) (e := 3) (size := 1) _ #[] 0 (Nat.le_refl _) (Nat.zero_le _) rfl
    have hb1 := (Below.refl (w.alloc (.cells #[.slice ua m.n l.cap, .slice na k nc] 26)).heap.size (w.alloc (.cells #[.slice ua m.n l.cap, .slice na k nc] 26))).alloc (Nat.le_refl _) (.cells #[] 3)
    have hX1 := hX.step hb1
    have h2 := Lib.hid (h1.out.step hb1)
    have p0 := hX1.cell 0 rfl
    have p1 := hX1.cell 1 rfl
    clear q0 q1 h1 hX
    go_wp2_with fail
    generalize hW1 : (w.alloc (.cells #[.slice ua m.n l.cap, .slice na k nc] 26)).alloc (.cells #[] 3) = W1 at hown0 hX1 h2 p0 p1 ⊢
    clear hW1 hb1
    go_at_call 26
    refine (spec_LogicOk h2.out).mono ?_
    rintro e w2 ⟨rfl, b2⟩
    rw [HL.out]
    have hX2 := hX1.step b2
    have ho := ownsRow_below hown0 b2 (Nat.le_refl _)
    clear p0 p1 hown0
    go_wp2_with fail
    go_ret
    exact ⟨_, rfl, by rw [HF.out]; exact ownsRow_base ho (Nat.le_succ _), hX2.below⟩
  | true =>
    have hlog := logicB_is hl
    obtain ⟨y0, o', hO0⟩ := hlog.ortho
    have hkn : k = m.n := hlog.pair.len
    subst hkn
    have hO := hO0.own
    have hn := hO.lat.order.top
    have hpos := hO.lat.order.pos
    obtain ⟨y, hyy⟩ : ∃ y : Nat → Nat, y = fun a => (z a).toNat := ⟨_, rfl⟩
    rw [← hyy] at hO
    have h12 := pow_le_12 hn
    obtain ⟨P, hP⟩ : ∃ P, P = 2 ^ m.n := ⟨_, rfl⟩
    have hPp : 1 ≤ P := by rw [hP]; exact Nat.one_le_two_pow
    have HV : Hid (blocksV m m.n z = listTo (blockB m y) P) := by show _ = _; unfold blocksV; rw [if_pos hl, ← hyy, hP]; rfl
    have HO := Lib.hid hO
    have HL := Lib.hid hl
    have H0 := Lib.hid hO.no_block
    have HPe := Lib.hid hP
    rw [← hP] at h12
    have e0 : ((2 : Int) ^ m.n) = (P : Int) := by rw [hP]; push_cast; rfl
    have e1 : wrap64 ((2 : Int) ^ m.n) = (P : Int) := by rw [e0]; exact IntWalk.wrap64_in _ (by omega)
    have e2 : wrap64 ((P : Int) - 1) = ((P - 1 : Nat) : Int) := by rw [IntWalk.wrap64_in _ (by omega)]; omega
    have e3 : wrap64 ((2 : Int) ^ m.n - 1) = ((P - 1 : Nat) : Int) := by rw [e0]; exact e2
    clear hl hO hlog hO0 hyy hP
    obtain ⟨i0, hi, hz0, hz1, hz2⟩ := info_parts infoInt
    have HI := Lib.hid hi
    have HZ0 := Lib.hid hz0
    have HZ1 := Lib.hid hz1
    have HZ2 := Lib.hid hz2
    clear hi hz0 hz1 hz2
    go_enter Tryd.func29, Tryd.ntmps29
    have hown0 : ((w.alloc (.cells #[.slice ua m.n l.cap, .slice na m.n nc] 26)).alloc (.cells #[] 3)).ownsRow (w.heap.size + 1) 3 1 (.slice (some ⟨w.heap.size + 1, 0, none⟩) 0 0) 0 [] := by
      rw [← hsz]
      exact World.ownsRow_lit (base := (w.alloc (.cells #[.slice ua m.n l.cap, .slice na m.n nc] 26)).heap.size) (e := 3) (size := 1) _ #[] 0 (Nat.le_refl _) (Nat.zero_le _) rfl
    have hb1 := (Below.refl (w.alloc (.cells #[.slice ua m.n l.cap, .slice na m.n nc] 26)).heap.size (w.alloc (.cells #[.slice ua m.n l.cap, .slice na m.n nc] 26))).alloc (Nat.le_refl _) (.cells #[] 3)
    have hX1 := hX.step hb1
    have h2 := Lib.hid (h1.out.step hb1)
    have p0 := hX1.cell 0 rfl
    have p1 := hX1.cell 1 rfl
    have hs1 : ((w.alloc (.cells #[.slice ua m.n l.cap, .slice na m.n nc] 26)).alloc (.cells #[] 3)).heap.size = w.heap.size + 2 := by simp
    clear q0 q1 h1 hX hb1
    go_wp2_with fail
    generalize hW1 : (w.alloc (.cells #[.slice ua m.n l.cap, .slice na m.n nc] 26)).alloc (.cells #[] 3) = W1 at hown0 hX1 h2 p0 p1 hs1 ⊢
    clear hW1
    go_at_call 26
    refine (spec_LogicOk h2.out).mono ?_
    rintro e w3 ⟨rfl, b3⟩
    rw [HL.out]
    have hX3 := hX1.step b3
    have h3 := Lib.hid (h2.out.step b3)
    have hown3 := ownsRow_below hown0 b3 (Nat.le_refl _)
    have s3 := b3.size
    clear p0 p1 hown0 h2 hX1
    have hown4 : IntsAt (w3.alloc (.cells #[] 3)) w3.heap.size (.slice (some ⟨w3.heap.size, 0, none⟩) 0 0) 0 (fun c => ((rowN m y c : Nat) : Int)) :=
      World.ownsRow_lit (base := w3.heap.size) (e := 3) (size := 1) w3 #[] 0 (Nat.le_refl _) (Nat.zero_le _) rfl
    have hb4 := (Below.refl w3.heap.size w3).alloc (Nat.le_refl _) (.cells #[] 3)
    go_wp2_with fail
    go_loopw [5, 6] (fun t i wr => ∃ j : Nat, j ≤ m.n ∧ i = .int .i64 j ∧ IntsAt wr w3.heap.size t j (fun c => ((rowN m y c : Nat) : Int)) ∧ Below w3.heap.size w3 wr) (fun _ i _ => m.n - (intOf i).toNat)
    case atStart => exact ⟨0, Nat.zero_le _, rfl, hown4, hb4⟩
    case round =>
      clear hown4 hb4
      obtain ⟨j, hj, rfl, hown, hD⟩ := hrel
      by_cases hlt : j < m.n
      · have hlt' : (j : Int) < m.n := by omega
        have hs := hD.size
        go_wp2_with fail
        go_loopw [7, 8] (fun t i wi => ∃ b : Nat, b ≤ m.n ∧ i = .int .i64 b ∧ t = .int .i64 ((bitS (adjB m y j) b : Nat) : Int) ∧ Below wr.heap.size wr wi) (fun _ i _ => m.n - (intOf i).toNat)
        case atStart => exact ⟨0, Nat.zero_le _, rfl, rfl, Below.refl _ _⟩
        case round =>
          obtain ⟨b, hbn, rfl, rfl, hT⟩ := hrel
          by_cases hbt : b < m.n
          · have hbt' : (b : Int) < m.n := by omega
            have hD2 := hD.trans (hT.mono hs)
            have hXi := hX3.step hD2
            have r0 := hXi.cell 0 rfl
            have r1 := hXi.cell 1 rfl
            have hri := Lib.hid (h3.out.step hD2)
            have hb64 : (b : Int) ≤ 64 := by omega
            have hb63 : (b : Int) < 64 := by omega
            have hv := bitS_lt12 (p := adjB m y j) (show b ≤ 12 by omega)
            have hpb := pow_le_12 (k := b) (by omega)
            cases hadj : adjB m y j b with
            | true =>
              have HA : Hid ((agB m y j b && agB m y b j) = true) := hadj
              have ho : bits .or .i64 ((bitS (adjB m y j) b : Nat) : Int) (2 ^ b) = ((bitS (adjB m y j) (b + 1) : Nat) : Int) := by
                rw [← bitS_yes hadj, show (2 : Int) ^ b = ((2 ^ b : Nat) : Int) from by simp]; exact i64_or_nat _ _ (by omega) (by omega)
              have ew : wrap64 ((2 : Int) ^ b) = (2 : Int) ^ b := by rw [show (2 : Int) ^ b = ((2 ^ b : Nat) : Int) from by simp]; exact small_wrap hpb
              have ew2 : IntKind.i64.wrap ((2 : Int) ^ b) = (2 : Int) ^ b := by rw [one_wrap (by omega)]; simp
              clear hadj hv hpb
              go_wp2_with fail
              go_at_call 72
              refine (l6Agree_any hri.out HO.out hlt hbt).mono ?_
              rintro e w5 ⟨rfl, b5⟩
              rw [HA.out]
              have hT5 := hT.trans (b5.mono hT.size)
              clear r0 r1 hri hXi
              go_wp2_with fail
              go_roundw
              case rel => exact ⟨b + 1, by omega, by go_num, by first | rfl | rw [ho] | simp [ho], hT5⟩
              case measure => simp [intOf]; omega
            | false =>
              have HA : Hid ((agB m y j b && agB m y b j) = false) := hadj
              have HN := Lib.hid (bitS_no hadj)
              clear hadj hv hpb
              go_wp2_with fail
              go_at_call 72
              refine (l6Agree_any hri.out HO.out hlt hbt).mono ?_
              rintro e w5 ⟨rfl, b5⟩
              rw [HA.out]
              have hT5 := hT.trans (b5.mono hT.size)
              clear r0 r1 hri hXi
              go_wp2_with fail
              go_roundw
              case rel => exact ⟨b + 1, by omega, by go_num, by rw [HN.out], hT5⟩
              case measure => simp [intOf]; omega
          · have hbt' : ¬ (b : Int) < m.n := by omega
            have eb : b = m.n := by omega
            subst eb
            have hown5 := ownsRow_below hown hT (Nat.le_refl _)
            have hD5 := hD.trans (hT.mono hs)
            have hs5 := hD5.size
            have hrn : bitS (adjB m y j) m.n = rowN m y j := rfl
            rw [hrn]
            clear hown hT hD
            go_wp2_with (at_builtin; refine wpList_append_own _ rfl _ _ 24 rfl (w3.heap.size) 3 i0 (.int .i64 0) 1 8 Tryd.underlying24 HI.out HZ0.out HZ1.out HZ2.out rfl (by decide) _ _ _ rfl (World.ownsRow.alloc hown5 _) ⟨wr.heap.size, 0, none⟩ 1 1 [.int .i64 (((rowN m y j : Nat) : Int))] rfl rfl (cell_one_new _ _ _) ?ac2 ?ac3 ?ac4 ?ac5 ?_)
            case ac2 => simp [Value.oneCell']
            case ac3 => unfold maxLen; omega
            case ac4 => omega
            case ac5 => first | omega | (simp; omega)
            intro v' w6 hown6 hgrow _
            have HO6 : Hid (IntsAt w6 w3.heap.size v' (j + 1) (fun c => ((rowN m y c : Nat) : Int))) := by
              show IntsAt _ _ _ _ _
              refine IntsAt.told ?_
              exact hown6
            have hD6 := (hD5.alloc hs5 (.cells #[.int .i64 ((rowN m y j : Nat) : Int)] 3)).grown hgrow (by simp; omega) (fun c hc => by have := ownsRow_block hown5 c hc; omega)
            clear hown6 hgrow hown5 hD5
            go_wp2_with fail
            go_roundw
            case rel => exact ⟨j + 1, by omega, by go_num, HO6.out, hD6⟩
            case measure => simp [intOf]; omega
      · have hlt' : ¬ (j : Int) < m.n := by omega
        have ej : j = m.n := by omega
        subst ej
        obtain ⟨gW, cap, rfl, hg1, hg2, hg3⟩ := IntsAt.val hown (by omega)
        have hcells : ∀ c, c < m.n → wr.cell? ⟨gW, c, none⟩ = some (.int .i64 ((rowN m y c : Nat) : Int)) := fun c hc => IntsAt.cell hown hc
        have HC := Lib.hid hcells
        have hout := ownsRow_below hown3 (hD.mono (Nat.le_refl _)) (Nat.le_refl _)
        have HOut := Lib.hid hout
        have hBw := hX3.below.trans (hD.mono hX3.below.size)
        clear hcells hown hown3 hout
        go_wp2_with fail
        go_loopw [3, 9] (fun t i wi => ∃ s : Nat, 1 ≤ s ∧ s ≤ P ∧ i = .int .i64 s ∧ (wi.ownsRow (w.heap.size + 1) 3 1 t (listTo (blockB m y) s).length ((listTo (blockB m y) s).map (Value.int .i64)) ∧ t.ownBlock ≠ some gW) ∧ (∀ c, c < m.n → wi.cell? ⟨gW, c, none⟩ = some (.int .i64 ((rowN m y c : Nat) : Int))) ∧ Below w.heap.size w wi ∧ gW < wi.heap.size) (fun _ i _ => P - (intOf i).toNat)
        case atStart =>
          refine ⟨1, Nat.le_refl _, hPp, rfl, ⟨?_, by simp [Value.ownBlock]; omega⟩, HC.out, hBw, hg2⟩
          rw [show listTo (blockB m y) 1 = [] from (listTo_no H0.out).trans rfl]
          exact HOut.out
        case round =>
          clear HC HOut hBw
          obtain ⟨s, hs1', hsP, rfl, ⟨hown, hne⟩, hcells, hB, hgs⟩ := hrel
          have HC := Lib.hid hcells
          clear hcells
          by_cases hst : s < P
          · have hst' : (s : Int) < (P : Int) := by omega
            have hst2 : (s : Int) < 2 ^ m.n := by rw [e0]; exact hst'
            have hsp : s < 2 ^ m.n := by rw [← HPe.out]; exact hst
            go_wp2_with fail
            go_loopw [10, 11] (fun t i wi => ∃ c : Nat, c ≤ m.n ∧ i = .int .i64 c ∧ t = .int .i64 ((shJ m y s c : Nat) : Int) ∧ wi = wr) (fun _ i _ => m.n - (intOf i).toNat)
            case atStart => exact ⟨0, Nat.zero_le _, rfl, by rw [shJ_zero, ← HPe.out]; congr 1; omega, rfl⟩
            case round =>
              obtain ⟨c, hc, rfl, rfl, rfl⟩ := hrel
              by_cases hct : c < m.n
              · have hct' : (c : Int) < m.n := by omega
                cases hbc : s.testBit c with
                | true =>
                  have t1 := bit_yes hbc
                  have hcc := HC.out c hct
                  have hv1 : shJ m y s c < 4096 := bitS_lt12 hn
                  have hv2 : rowN m y c < 4096 := bitS_lt12 hn
                  have he : bits .and .i64 ((shJ m y s c : Nat) : Int) ((rowN m y c : Nat) : Int) = ((shJ m y s (c + 1) : Nat) : Int) := by rw [← shJ_yes hbc]; exact i64_and_nat _ _ (by omega) (by omega)
                  clear hbc hv1 hv2
                  go_wp2_with fail
                  go_roundw
                  case rel => exact ⟨c + 1, by omega, by go_num, by first | rfl | rw [he], by first | rfl | trivial⟩
                  case measure => simp [intOf]; omega
                | false =>
                  have t1 := bit_no hbc
                  have HN := Lib.hid (shJ_no (m := m) (y := y) hbc)
                  clear hbc
                  go_wp2_with fail
                  go_roundw
                  case rel => exact ⟨c + 1, by omega, by go_num, by rw [HN.out], by first | rfl | trivial⟩
                  case measure => simp [intOf]; omega
              · have hct' : ¬ (c : Int) < m.n := by omega
                have ec : c = m.n := by omega
                have hsh : shJ m y s c = shN m y s := by rw [ec]; rfl
                rw [hsh]
                have hbe := block_eq (y := y) hsp
                cases hb : blockB m y s with
                | false =>
                  have n1 : (((shN m y s : Nat) : Int) == (s : Int)) = false := by
                    rw [hb] at hbe
                    have h9 := of_decide_eq_false hbe.symm
                    rw [beq_eq_false_iff_ne]; omega
                  have HN := Lib.hid (listTo_no hb)
                  clear hb hbe hsh ec
                  go_wp2_with fail
                  go_roundw
                  case rel => exact ⟨s + 1, by omega, by omega, by go_num, ⟨by rw [HN.out]; exact hown, hne⟩, HC.out, hB, hgs⟩
                  case measure => simp [intOf]; omega
                | true =>
                  have n1 : (((shN m y s : Nat) : Int) == (s : Int)) = true := by
                    rw [hb] at hbe
                    have h9 := of_decide_eq_true hbe.symm
                    rw [h9]; simp
                  have HN := Lib.hid (listTo_yes hb)
                  have hlen := listTo_len (blockB m y) s
                  have hBs := hB.size
                  clear hb hbe hsh ec
                  go_wp2_with (at_builtin; refine wpList_append_own_at _ rfl _ _ 24 rfl (w.heap.size + 1) 3 i0 (.int .i64 0) 1 8 Tryd.underlying24 HI.out HZ0.out HZ1.out HZ2.out rfl (by decide) _ _ _ rfl (World.ownsRow.alloc hown _) ⟨wr.heap.size, 0, none⟩ 1 1 [.int .i64 ((s : Int))] rfl rfl (cell_one_new _ _ _) ?bc2 ?bc3 ?bc4 ?bc5 ?_)
                  case bc2 => simp [Value.oneCell']
                  case bc3 => unfold maxLen; omega
                  case bc4 => omega
                  try (case bc5 => have := hB.size; first | omega | (simp; omega))
                  intro v' w6 hown6 hgrow6 _ hat6
                  have HO6 : Hid (w6.ownsRow (w.heap.size + 1) 3 1 v' (listTo (blockB m y) (s + 1)).length ((listTo (blockB m y) (s + 1)).map (Value.int .i64))) := by
                    show World.ownsRow _ _ _ _ _ _ _
                    rw [HN.out, List.length_append, List.map_append]
                    exact hown6
                  have hne6 : v'.ownBlock ≠ some gW := fun e => by
                    rcases hat6 with h9 | h9
                    · exact hne (h9.symm.trans e)
                    · rw [h9] at e
                      have e9 := Option.some.inj e
                      omega
                  have HC6 : Hid (∀ c, c < m.n → w6.cell? ⟨gW, c, none⟩ = some (.int .i64 ((rowN m y c : Nat) : Int))) := fun c hc => by
                    have h9 := (World.grownBy_alloc _ (.cells #[.int .i64 (s : Int)] 3) none).cell (HC.out c hc) (by simp)
                    exact hgrow6.cell h9 (fun e => hne e.symm)
                  have hB6 := (hB.alloc hBs (.cells #[.int .i64 (s : Int)] 3)).grown hgrow6 (by simp; omega) (fun c hc => by have := ownsRow_block hown c hc; omega)
                  have hg6 : gW < w6.heap.size := by have := hgrow6.size; simp at this; omega
                  have HB6 := Lib.hid hB6
                  clear hown6 hgrow6 hat6 hown hB6 hB
                  go_wp2_with fail
                  go_roundw
                  case rel => exact ⟨s + 1, by omega, by omega, by go_num, ⟨HO6.out, hne6⟩, HC6.out, HB6.out, hg6⟩
                  case measure => simp [intOf]; omega
          · have hst' : ¬ (s : Int) < (P : Int) := by omega
            have hst2 : ¬ (s : Int) < 2 ^ m.n := by rw [e0]; exact hst'
            have es : s = P := by omega
            have HF : Hid (blocksV m m.n z = listTo (blockB m y) s) := by show _ = _; rw [HV.out, es]
            go_wp2_with fail
            go_ret
            exact ⟨_, rfl, by rw [HF.out]; exact ownsRow_base hown (Nat.le_succ _), hB⟩

theorem with_step {xs : List Int} {j a : Nat} (hj : j < xs.length) : withN (xs.take (j + 1)) a = withN (xs.take j) a + (if (xs[j]?.getD 0).toNat.testBit a = true then 1 else 0) := by
  rw [List.take_succ_eq_append_getElem hj, withN_snoc, List.getElem?_eq_getElem hj]; rfl
set_option maxRecDepth 100000 in
set_option maxHeartbeats 4000000 in
theorem spec_BlocksWith {w : World} {B : Nat} {ua : Option Addr} {l : Lay} {m : Mx} {na : Option Addr} {g o k nc : Nat} {z : Nat → Int} {x : Int} (h : LogAt w B ua l m na g o k z) :
    Calls Tryd.prog 39 #[.agg #[.slice ua m.n l.cap, .slice na k nc], .int .i64 x] w fun e w' => e = .returned (.int .i64 (withV6 m k z x)) ∧ Below w.heap.size w w' := by
  have hX := BoxN.start w #[.slice ua m.n l.cap, .slice na k nc] 26
  have h1 := Lib.hid (h.alloc (.cells #[.slice ua m.n l.cap, .slice na k nc] 26))
  have q0 := hX.cell 0 rfl
  have q1 := hX.cell 1 rfl
  clear h
  cases hg : (logicB m k z && goodB m.n 1 (lone1 x)) with
  | false =>
    have HF : Hid (-1 = withV6 m k z x) := by show _ = _; unfold withV6; rw [hg]; rfl
    have HN : Hid (notV m k z x = -1) := by show _ = _; unfold notV; rw [hg]; rfl
    clear hg
    go_enter Tryd.func39, Tryd.ntmps39
    go_wp2_with fail
    go_at_call 91
    refine (spec_NotOf h1.out).mono ?_
    rintro e w2 ⟨rfl, b2⟩
    rw [HN.out]
    have hX2 := hX.step b2
    clear q0 q1
    go_wp2_with fail
    go_ret
    exact ⟨ret_int HF.out, hX2.below⟩
  | true =>
    have hgg := hg
    rw [Bool.and_eq_true] at hg
    have hlog := logicB_is hg.1
    obtain ⟨y0, o', hO0⟩ := hlog.ortho
    have hkn : k = m.n := hlog.pair.len
    subst hkn
    have hO := hO0.own
    have hn := hO.lat.order.top
    obtain ⟨x0, x1⟩ := good_lone hg.2
    obtain ⟨a, rfl⟩ := Int.eq_ofNat_of_zero_le x0
    have ha : a < m.n := by omega
    have HNo : Hid (¬ (notV m m.n z (a : Int)) < 0) := by
      show ¬ _ < 0
      unfold notV
      rw [if_pos hgg, Int.toNat_natCast]
      rw [hO.zy a ha]
      omega
    have HB : Hid (blocksV m m.n z = blockL m (fun c => (z c).toNat)) := by show _ = _; unfold blocksV; rw [if_pos hg.1]
    have HV : Hid (((withN (blockL m (fun c => (z c).toNat)) a : Nat) : Int) = withV6 m m.n z (a : Int)) := by show _ = _; unfold withV6; rw [if_pos hgg, Int.toNat_natCast]
    have HIn : Hid (∀ t ∈ blockL m (fun c => (z c).toNat), ∃ s : Nat, t = (s : Int) ∧ s < 4096) := fun t ht => by
      obtain ⟨s, e, hb⟩ := blockL_in ht
      exact ⟨s, e, Nat.lt_of_lt_of_le hb.lt (pow_le_12 hn)⟩
    have hlen : (blockL m (fun c => (z c).toNat)).length ≤ 4096 := Nat.le_trans (listTo_len _ _) (pow_le_12 hn)
    clear hg hgg hlog hO0 hO x0 x1
    go_enter Tryd.func39, Tryd.ntmps39
    go_wp2_with fail
    go_at_call 91
    refine (spec_NotOf h1.out).mono ?_
    rintro e w2 ⟨rfl, b2⟩
    have hX2 := hX.step b2
    have h2 := Lib.hid (h1.out.step b2)
    have p0 := hX2.cell 0 rfl
    have p1 := hX2.cell 1 rfl
    obtain ⟨nv, hnv⟩ : ∃ nv, notV m m.n z (a : Int) = nv := ⟨_, rfl⟩
    have hn0 : ¬ nv < 0 := by rw [← hnv]; have := HNo.out; omega
    rw [hnv]
    clear q0 q1 hX h1 HNo hnv
    go_wp2_with fail
    go_at_call 29
    refine (spec_BlocksOf h2.out).mono ?_
    rintro e w3 ⟨v, rfl, hown, b3⟩
    rw [HB.out] at hown
    obtain ⟨L, hL⟩ : ∃ L, blockL m (fun c => (z c).toNat) = L := ⟨_, rfl⟩
    rw [hL] at hown HV HIn hlen
    have HOw := Lib.hid hown
    have BZ := hX2.below.trans (b3.mono hX2.below.size)
    clear p0 p1 hown HB hL h2
    have hsh : ∃ a' c', v = .slice a' L.length c' := by
      rcases HOw.out.2 with ⟨e1, e2⟩ | ⟨g9, c9, _, e1, _⟩
      · exact ⟨none, 0, by rw [e1, e2]⟩
      · exact ⟨_, c9, e1⟩
    obtain ⟨a', c', rfl⟩ := hsh
    go_wp2_with fail
    go_loopw [5, 7] (fun t i wr => ∃ j : Nat, j ≤ L.length ∧ i = .int .i64 j ∧ t = .int .i64 ((withN (L.take j) a : Nat) : Int) ∧ wr = w3) (fun _ i _ => L.length - (intOf i).toNat)
    case atStart => exact ⟨0, Nat.zero_le _, rfl, rfl, rfl⟩
    case round =>
      obtain ⟨j, hj, rfl, rfl, rfl⟩ := hrel
      by_cases hlt : j < L.length
      · have hlt' : (j : Int) < (L.length : Int) := by omega
        obtain ⟨s, hs1, hs2⟩ := HIn.out L[j] (List.getElem_mem hlt)
        have hcell : ∃ g9, a' = some ⟨g9, 0, none⟩ ∧ wr.cell? ⟨g9, j, none⟩ = some (.int .i64 (s : Int)) := by
          rcases HOw.out.2 with ⟨e1, e2⟩ | ⟨g9, c9, _, e1, _⟩
          · omega
          · cases e1
            refine ⟨g9, rfl, ?_⟩
            rw [HOw.out.cellAt j (by omega), List.getElem?_map, List.getElem?_eq_getElem hlt, hs1]; rfl
        obtain ⟨g9, rfl, hc9⟩ := hcell
        have hst := with_step (a := a) hlt
        have hwl := withN_le (L.take j) a
        have htl : (L.take j).length ≤ 4096 := by rw [List.length_take]; omega
        rw [List.getElem?_eq_getElem hlt] at hst
        have hst : withN (L.take (j + 1)) a = withN (L.take j) a + (if s.testBit a = true then 1 else 0) := by rw [hst]; show _ + (if (L[j]).toNat.testBit a = true then 1 else 0) = _; rw [hs1, Int.toNat_natCast]
        cases hb : s.testBit a with
        | true =>
          have t1 := bit_yes hb
          rw [hb] at hst
          have HS := Lib.hid hst
          clear hst hb hs1
          go_wp2_with fail
          go_roundw
          case rel => exact ⟨j + 1, by omega, by go_num, by rw [HS.out]; go_num, by first | rfl | trivial⟩
          case measure => simp [intOf]; omega
        | false =>
          have t1 := bit_no hb
          rw [hb] at hst
          have HS := Lib.hid hst
          clear hst hb hs1
          go_wp2_with fail
          go_roundw
          case rel => exact ⟨j + 1, by omega, by go_num, by rw [HS.out]; first | rfl | go_num, by first | rfl | trivial⟩
          case measure => simp [intOf]; omega
      · have hlt' : ¬ (j : Int) < (L.length : Int) := by omega
        have ej : L.take j = L := List.take_of_length_le (by omega)
        rw [ej]
        clear ej
        go_wp2_with fail
        go_ret
        exact ⟨ret_int HV.out, BZ⟩
end Go.Proofs.YtnbglbhfclohjaaDoor
