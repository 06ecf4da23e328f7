/- The walk of the reference's Renamed. -/
import Derived.Test.YtgjacinolenheaaZVm
import Derived.Test.YtgjacinolenheaaZGa
namespace Go.Proofs.Ytgjacinolenheaa
open Go.RowKit Go.Deep

theorem l1In_in {n lo hi : Int} (h : lo ≤ n ∧ n ≤ hi) (w : World) : Calls Try.prog 49 #[.int .i64 n, .int .i64 lo, .int .i64 hi] w fun e w' => e = .returned (.bool true) ∧ w = w' :=
  (l1In_any n lo hi w).mono fun e w' ⟨h1, h2⟩ => ⟨by rw [h1, decide_eq_true h.1, decide_eq_true h.2]; rfl, h2⟩
theorem l1In_out {n lo hi : Int} (h : ¬ (lo ≤ n ∧ n ≤ hi)) (w : World) : Calls Try.prog 49 #[.int .i64 n, .int .i64 lo, .int .i64 hi] w fun e w' => e = .returned (.bool false) ∧ w = w' :=
  (l1In_any n lo hi w).mono fun e w' ⟨h1, h2⟩ => ⟨by
    have h3 : (decide (lo ≤ n) && decide (n ≤ hi)) = false := by
      rw [Bool.and_eq_false_iff, decide_eq_false_iff_not, decide_eq_false_iff_not]; omega
    rw [h1, h3], h2⟩
/-- The numbers met so far, as bits. -/
def seenN (q : Nat → Nat) : Nat → Nat
  | 0 => 0
  | k + 1 => seenN q k ||| 2 ^ q k
/-- Where a number stood last. -/
def backTo (q : Nat → Nat) : Nat → Nat → Nat
  | 0, _ => 0
  | k + 1, a => if a = q k then k else backTo q k a
theorem seen_bit {q : Nat → Nat} {i : Nat} (k : Nat) : (seenN q k).testBit i = true ↔ ∃ c, c < k ∧ q c = i := by
  induction k with
  | zero => simp [seenN]
  | succ k ih =>
    rw [seenN, Nat.testBit_or, Bool.or_eq_true, ih, Nat.testBit_two_pow, decide_eq_true_eq]
    constructor
    · rintro (⟨c, hc, e⟩ | e)
      · exact ⟨c, by omega, e⟩
      · exact ⟨k, by omega, e⟩
    · rintro ⟨c, hc, e⟩
      by_cases h : c = k
      · exact .inr (by rw [← h]; exact e)
      · exact .inl ⟨c, by omega, e⟩
theorem seen_lt {q : Nat → Nat} {n : Nat} (k : Nat) (h : ∀ c, c < k → q c < n) : seenN q k < 2 ^ n := by
  induction k with
  | zero => exact Nat.two_pow_pos n
  | succ k ih => exact Nat.or_lt_two_pow (ih fun c hc => h c (by omega)) (Nat.pow_lt_pow_right (by omega) (h k (by omega)))
theorem seen_full {q : Nat → Nat} {n : Nat} (h : ∀ c, c < n → q c < n) : seenN q n = 2 ^ n - 1 ↔ ∀ a, a < n → ∃ c, c < n ∧ q c = a := by
  constructor
  · intro e a ha
    rw [← seen_bit n, e, Nat.testBit_two_pow_sub_one, decide_eq_true ha]
  · intro hf
    refine Nat.eq_of_testBit_eq fun i => ?_
    rw [Nat.testBit_two_pow_sub_one, Bool.eq_iff_iff, seen_bit n, decide_eq_true_eq]
    exact ⟨fun ⟨c, hc, e⟩ => by rw [← e]; exact h c hc, fun hi => hf i hi⟩
theorem back_is {q : Nat → Nat} {a : Nat} (k : Nat) (h : ∃ c, c < k ∧ q c = a) : backTo q k a < k ∧ q (backTo q k a) = a := by
  induction k with
  | zero => obtain ⟨c, hc, _⟩ := h; omega
  | succ k ih =>
    rw [backTo]
    by_cases e : a = q k
    · rw [if_pos e]; exact ⟨by omega, e.symm⟩
    · rw [if_neg e]
      obtain ⟨c, hc, ec⟩ := h
      have := ih ⟨c, by
        by_cases e2 : c = k
        · rw [e2] at ec; exact absurd ec.symm e
        · omega, ec⟩
      exact ⟨by omega, this.2⟩
theorem or_nat {x y : Nat} (hx : x < 2 ^ 12) (hy : y < 2 ^ 12) : bits BinOp.or IntKind.i64 (x : Int) (y : Int) = ((x ||| y : Nat) : Int) := by
  have h1 : x ||| y < 2 ^ 12 := Nat.or_lt_two_pow hx hy
  have e : (BitVec.ofInt IntKind.i64.bits (x : Int) ||| BitVec.ofInt IntKind.i64.bits (y : Int)).toNat = x ||| y := by
    rw [BitVec.toNat_or]
    show (BitVec.ofInt 64 (x : Int)).toNat ||| (BitVec.ofInt 64 (y : Int)).toNat = _
    have e1 : ∀ z : Nat, z < 2 ^ 12 → (BitVec.ofInt 64 (z : Int)).toNat = z := fun z hz => by
      rw [BitVec.toNat_ofInt]
      omega
    rw [e1 x hx, e1 y hy]
  unfold bits
  show IntKind.i64.wrap ((BitVec.ofInt IntKind.i64.bits (x : Int) ||| BitVec.ofInt IntKind.i64.bits (y : Int)).toNat : Int) = _
  rw [e]
  exact IntWalk.i64_in _ (by omega)
theorem pow_small {n k : Nat} (h : k ≤ n) (hn : n ≤ 12) : 2 ^ k ≤ 4096 := Nat.le_trans (Nat.pow_le_pow_right (by omega) (Nat.le_trans h hn)) (by decide)
theorem SqAt.couple {w : World} {B : Nat} {ua : Option Addr} {l : Lay} {m : Mx} (h : SqAt w B ua l m) {r c : Nat} (hr : r < m.n) (hc : c < m.n) :
    ua = some ⟨l.b, l.o, none⟩ ∧ w.cell? ⟨l.b, l.o + r, none⟩ = some (.slice (some ⟨l.G r, l.O r, none⟩) m.n (l.C r)) ∧ w.cell? ⟨l.G r, l.O r + c, none⟩ = some (.int .i64 (m.Z r c)) := h.mat.sq h.sq hr hc
set_option maxRecDepth 100000 in
set_option maxHeartbeats 8000000 in
theorem spec_Renamed_yes {w : World} {d0 : LD} {B p0 g o cap : Nat} {a : Option Addr} {y0 : Nat → Nat} {z : Nat → Int} (h0 : d0.Is w B y0 p0) (hr : RowAt w w.heap.size a g o d0.m.n z) :
    Calls Try.prog 36 #[.agg #[d0.u, d0.t], .slice a d0.m.n cap] w (MadeLog w d0.m.n (nameZ d0.m.Z (fun c => (z c).toNat)) (fun x => placeN d0.m.n z (y0 (z x).toNat)) (eachB d0.m.n d0.m.n z)) := by
  obtain ⟨i0, hi, hz0, hz1, hz2⟩ := info_parts infoInt
  have HI := Lib.hid hi
  have HZ0 := Lib.hid hz0
  have HZ1 := Lib.hid hz1
  have HZ2 := Lib.hid hz2
  obtain ⟨i1, hj, hy0, hy1, hy2⟩ := info_parts infoInts
  have HJ := Lib.hid hj
  have HY0 := Lib.hid hy0
  have HY1 := Lib.hid hy1
  have HY2 := Lib.hid hy2
  clear hi hz0 hz1 hz2 hj hy0 hy1 hy2
  obtain ⟨ua0, l0, m0, na0, g0, o0, k0, nc0, z0⟩ := d0
  have hk0 : k0 = m0.n := h0.len
  subst hk0
  have n0 : 1 ≤ m0.n ∧ m0.n ≤ 12 := h0.hi
  have hu0 : ua0 = some ⟨l0.b, l0.o, none⟩ := (h0.sq.couple (r := 0) (c := 0) n0.1 n0.1).1
  have hv0 : na0 = some ⟨g0, o0, none⟩ := (h0.notAt (a := 0) n0.1).1
  obtain ⟨rfl, _, _⟩ := hr.row 0 (by show 0 < m0.n; omega)
  subst hu0 hv0
  have L0 : logicB m0 m0.n z0 = true := h0.ok
  obtain ⟨q, hq⟩ : ∃ q : Nat → Nat, q = fun c => (z c).toNat := ⟨_, rfl⟩
  obtain ⟨yy, hyy⟩ : ∃ yy : Nat → Nat, yy = fun x => placeN m0.n z (y0 (z x).toNat) := ⟨_, rfl⟩
  obtain ⟨ok, hok⟩ : ∃ ok : Bool, ok = eachB m0.n m0.n z := ⟨_, rfl⟩
  show Calls Try.prog 36 #[.agg #[.slice (some ⟨l0.b, l0.o, none⟩) m0.n l0.cap, .slice (some ⟨g0, o0, none⟩) m0.n nc0], .slice (some ⟨g, o, none⟩) m0.n cap] w (MadeLog w m0.n (nameZ m0.Z (fun c => (z c).toNat)) (fun x => placeN m0.n z (y0 (z x).toNat)) (eachB m0.n m0.n z))
  rw [← hq, ← hyy, ← hok]
  have HQ := Lib.hid hq
  have HYY := Lib.hid hyy
  have HOK := Lib.hid hok
  have hne : ((m0.n : Int) != (m0.n : Int)) = false := by simp
  have HL0 := Lib.hid L0
  have H0 := Lib.hid h0
  have HR : Hid (RowAt w w.heap.size (some ⟨g, o, none⟩) g o m0.n z) := hr
  have xa := TwoAt.new w (.slice (some ⟨l0.b, l0.o, none⟩) m0.n l0.cap) (.slice (some ⟨g0, o0, none⟩) m0.n nc0) 27
  have ba := (Below.refl w.heap.size w).alloc (Nat.le_refl _) (.cells #[(.slice (some ⟨l0.b, l0.o, none⟩) m0.n l0.cap), (.slice (some ⟨g0, o0, none⟩) m0.n nc0)] 27)
  have xr := TwoAt.new (w.alloc (.cells #[(.slice (some ⟨l0.b, l0.o, none⟩) m0.n l0.cap), (.slice (some ⟨g0, o0, none⟩) m0.n nc0)] 27)) (.slice none 0 0) (.slice none 0 0) 27
  have bb := (Below.refl (w.heap.size + 1) (w.alloc (.cells #[(.slice (some ⟨l0.b, l0.o, none⟩) m0.n l0.cap), (.slice (some ⟨g0, o0, none⟩) m0.n nc0)] 27))).alloc (by simp) (.cells #[.slice none 0 0, .slice none 0 0] 27)
  simp only [World.size_alloc] at xr
  have xo := TwoAt.new ((w.alloc (.cells #[(.slice (some ⟨l0.b, l0.o, none⟩) m0.n l0.cap), (.slice (some ⟨g0, o0, none⟩) m0.n nc0)] 27)).alloc (.cells #[.slice none 0 0, .slice none 0 0] 27)) (.slice none 0 0) (.slice none 0 0) 27
  have bc := (Below.refl (w.heap.size + 1 + 1) ((w.alloc (.cells #[(.slice (some ⟨l0.b, l0.o, none⟩) m0.n l0.cap), (.slice (some ⟨g0, o0, none⟩) m0.n nc0)] 27)).alloc (.cells #[.slice none 0 0, .slice none 0 0] 27))).alloc (by simp) (.cells #[.slice none 0 0, .slice none 0 0] 27)
  simp only [World.size_alloc] at xo
  replace xa := (xa.below bb (by omega)).below bc (by omega)
  replace xr := xr.below bc (by omega)
  have B0 := (ba.trans (bb.mono (by omega))).trans (bc.mono (by omega))
  have s0 : w.heap.size + 1 + 1 < (((w.alloc (.cells #[(.slice (some ⟨l0.b, l0.o, none⟩) m0.n l0.cap), (.slice (some ⟨g0, o0, none⟩) m0.n nc0)] 27)).alloc (.cells #[.slice none 0 0, .slice none 0 0] 27)).alloc (.cells #[.slice none 0 0, .slice none 0 0] 27)).heap.size := by simp
  clear ba bb bc h0 hr L0 hq hyy hok
  go_enter Try.func36, Try.ntmps36
  have q0 := xa.c0
  have q1 := xa.c1
  go_wp2_with fail
  generalize ((w.alloc (.cells #[(.slice (some ⟨l0.b, l0.o, none⟩) m0.n l0.cap), (.slice (some ⟨g0, o0, none⟩) m0.n nc0)] 27)).alloc (.cells #[.slice none 0 0, .slice none 0 0] 27)).alloc (.cells #[.slice none 0 0, .slice none 0 0] 27) = w2 at xa xr xo B0 s0 q0 q1 ⊢
  go_at_call 27
  refine (spec_LogicOk (H0.out.step B0).at_).mono ?_
  rintro e w3 ⟨rfl, b3⟩
  rw [show logicB _ _ _ = true from HL0.out]
  have s3 := b3.size
  have B3 := B0.trans (b3.mono B0.size)
  replace xa := xa.below b3 (by omega)
  replace xr := xr.below b3 (by omega)
  replace xo := xo.below b3 (by omega)
  clear q0 q1 B0 b3
  have q1 := xa.c1
  have hmk := run_make_row' (P := Try.prog) 25 3 (.int .i64 0) 8 Try.underlying25 infoInt rfl .i64 .i64 m0.n (by omega) (by omega)
  have hrow := World.rowIs_made w3 (.int .i64 0) m0.n 3
  have hI0 : IntsAt (w3.alloc (.cells (madeCells #[.int .i64 0] m0.n) 3)) w3.heap.size (.slice (some ⟨w3.heap.size, 0, none⟩) m0.n m0.n) m0.n (fun c => ((backTo q 0 c : Nat) : Int)) := owns_of_rowIs hrow (Nat.le_refl _) (by omega)
  have bm := (Below.refl w3.heap.size w3).alloc (Nat.le_refl _) (.cells (madeCells #[.int .i64 0] m0.n) 3)
  have s4 : w3.heap.size < (w3.alloc (.cells (madeCells #[.int .i64 0] m0.n) 3)).heap.size := by simp
  replace xa := xa.below bm (by omega)
  replace xr := xr.below bm (by omega)
  replace xo := xo.below bm (by omega)
  have B4 := B3.trans (bm.mono B3.size)
  have XA := Lib.hid xa
  have XR := Lib.hid xr
  have XO := Lib.hid xo
  obtain ⟨QB, hQB⟩ : ∃ b : Nat, b = w3.heap.size := ⟨_, rfl⟩
  rw [← hQB] at hI0 bm s4
  have hQ1 : w.heap.size + 1 + 1 < QB := by omega
  clear hrow xa xr xo
  go_wp2_with fail
  rw [← hQB]
  clear hmk
  generalize w3.alloc (.cells (madeCells #[.int .i64 0] m0.n) 3) = w4 at XA XR XO B4 hI0 bm s4 ⊢
  have B4' : Below QB w4 w4 := Below.refl _ _
  clear hQB bm q1 s3 s0 B3
  obtain ⟨N1, hN1⟩ : ∃ a : Nat, a = m0.n - 1 := ⟨_, rfl⟩
  have hN1a : N1 + 1 ≤ m0.n := by omega
  have hN1b : m0.n ≤ N1 + 1 := by omega
  clear hN1
  have en1 : (m0.n : Int) - 1 = (N1 : Int) := by omega
  have en4 : IntKind.i64.wrap (N1 : Int) = (N1 : Int) := IntWalk.i64_in _ (by omega)
  go_loopw [7, 8] (fun s i wr => ∃ k : Nat, k ≤ m0.n ∧ i = .int .i64 k ∧ s = .int .i64 ((seenN q k : Nat) : Int) ∧ IntsAt wr QB (.slice (some ⟨QB, 0, none⟩) m0.n m0.n) m0.n (fun c => ((backTo q k c : Nat) : Int)) ∧ Below QB w4 wr ∧ Hid (∀ c, c < k → q c < m0.n ∧ z c = (q c : Int))) (fun _ i _ => m0.n - (intOf i).toNat)
  case atStart => exact ⟨0, Nat.zero_le _, rfl, rfl, hI0, B4', fun c hc => absurd hc (Nat.not_lt_zero _)⟩
  case round =>
    clear hI0 B4'
    obtain ⟨k, hk, rfl, rfl, hI, hB, hH⟩ := hrel
    have hsz := hB.size
    have BW := B4.trans (hB.mono (by omega))
    by_cases hlt : k < m0.n
    · have hlt' : (k : Int) < (m0.n : Int) := by omega
      have f1 := ((HR.out.below BW).row k hlt).2.2
      by_cases hin : 0 ≤ z k ∧ z k < (m0.n : Int)
      · obtain ⟨qk, hqk⟩ : ∃ b : Nat, b = q k := ⟨_, rfl⟩
        have hzk : z k = (qk : Int) := by rw [hqk, HQ.out]; show z k = ((z k).toNat : Int); omega
        have lqk : qk < m0.n := by omega
        have HQK := Lib.hid hqk
        rw [hzk] at f1
        have r0 := IntsAt.frozen hI qk
        have r1 := IntsAt.cell hI lqk
        have HH : Hid (∀ c, c < k + 1 → q c < m0.n ∧ z c = (q c : Int)) := fun c hc => by
          by_cases e : c = k
          · subst e; rw [← HQK.out]; exact ⟨lqk, hzk⟩
          · exact hH.out c (by omega)
        have HI2 : Hid (IntsAt (wr.setCell ⟨QB, qk, none⟩ (.int .i64 (k : Int))) QB (.slice (some ⟨QB, 0, none⟩) m0.n m0.n) m0.n (fun c => ((backTo q (k + 1) c : Nat) : Int))) := by
          have e : (fun c' => if c' = qk then (k : Int) else ((backTo q k c' : Nat) : Int)) = fun c => ((backTo q (k + 1) c : Nat) : Int) := by
            funext c
            rw [backTo, ← HQK.out]
            split <;> rfl
          show IntsAt _ _ _ _ _
          rw [← e]
          exact IntsAt.store hI qk k
        have HB2 := Lib.hid (hB.setCell (p := ⟨QB, qk, none⟩) (Nat.le_refl _) (.int .i64 (k : Int)))
        have f2 := ((HR.out.below (B4.trans (HB2.out.mono (by omega)))).row k hlt).2.2
        rw [hzk] at f2
        obtain ⟨pw, hpw⟩ : ∃ b : Nat, b = 2 ^ qk := ⟨_, rfl⟩
        have lpw : pw < 2 ^ 12 := by rw [hpw]; exact Nat.pow_lt_pow_right (by omega) (by omega)
        obtain ⟨sn, hsn⟩ : ∃ b : Nat, b = seenN q k := ⟨_, rfl⟩
        have lsn : sn < 2 ^ 12 := by rw [hsn]; exact Nat.lt_of_lt_of_le (seen_lt k fun c hc => (hH.out c hc).1) (Nat.pow_le_pow_right (by omega) n0.2)
        have ep1 : (2 : Int) ^ qk = (pw : Int) := by rw [hpw, Int.natCast_pow]; rfl
        have ep2 : IntKind.i64.wrap (pw : Int) = (pw : Int) := IntWalk.i64_in _ (by omega)
        have ep3 : bits BinOp.or IntKind.i64 (sn : Int) (pw : Int) = ((sn ||| pw : Nat) : Int) := or_nat lsn lpw
        have HSN : Hid (seenN q (k + 1) = sn ||| pw) := by show _ = _; rw [seenN, ← HQK.out, hpw, hsn]
        rw [← hsn]
        clear hpw hsn hI hB hH hin hqk hzk
        go_wp2_with fail
        go_at_call 49
        refine (l1In_in ?hy1 _).mono ?_
        case hy1 => omega
        rintro e wx ⟨rfl, rfl⟩
        go_wp2_with fail
        go_roundw
        case rel => exact ⟨k + 1, by omega, by go_num, congrArg (fun x : Nat => Value.int .i64 (x : Int)) HSN.out.symm, HI2.out, HB2.out, HH⟩
        case measure => simp [intOf]; omega
      · have HE : Hid (ok = false) := by
          show _ = _
          rw [HOK.out]
          cases he : eachB m0.n m0.n z with
          | false => rfl
          | true =>
            obtain ⟨_, hE⟩ := eachB_is he
            have e1 := hE.nat k hlt
            have e2 : (z k).toNat < m0.n := hE.perm.lt k hlt
            exact absurd ⟨by omega, by omega⟩ hin
        have xr := XR.out.below hB (by omega)
        have xo := XO.out.below hB (by omega)
        clear hI hH
        go_wp2_with fail
        go_at_call 49
        refine (l1In_out ?hy2 _).mono ?_
        case hy2 => omega
        rintro e wx ⟨rfl, rfl⟩
        have r0 := xr.c0
        have r1 := xr.c1
        have r2 := xr.f0
        have r3 := xr.f1
        have o0' := xo.c0
        have o1' := xo.c1
        go_wp2_with fail
        have hfin := (xr.set0 (.slice none 0 0)).set1 (.slice none 0 0)
        have f0' := hfin.c0
        have f1' := hfin.c1
        exact bodyPost_ret (v := noLog) (by simp [results, Try.results36, go_sem, f0', f1', noLog]) rfl (madeLog_no (by omega) BW HE.out)
    · have hlt' : ¬ (k : Int) < (m0.n : Int) := by omega
      obtain rfl : k = m0.n := by omega
      have hqn : ∀ c, c < m0.n → q c < m0.n := fun c hc => (hH.out c hc).1
      have hsf := seen_full hqn
      obtain ⟨sn, hsn⟩ : ∃ b : Nat, b = seenN q m0.n := ⟨_, rfl⟩
      have lsn : sn < 2 ^ m0.n := by rw [hsn]; exact seen_lt _ hqn
      obtain ⟨pw, hpw⟩ : ∃ b : Nat, b = 2 ^ m0.n := ⟨_, rfl⟩
      have lpw : 1 ≤ pw ∧ pw ≤ 4096 := by rw [hpw]; exact ⟨Nat.two_pow_pos _, pow_small (Nat.le_refl _) n0.2⟩
      obtain ⟨pm, hpm⟩ : ∃ b : Nat, b = pw - 1 := ⟨_, rfl⟩
      have ep1 : (2 : Int) ^ m0.n = (pw : Int) := by rw [hpw, Int.natCast_pow]; rfl
      have ep2 : IntKind.i64.wrap (pw : Int) = (pw : Int) := IntWalk.i64_in _ (by omega)
      have ep3 : (pw : Int) - 1 = (pm : Int) := by omega
      have ep4 : IntKind.i64.wrap (pm : Int) = (pm : Int) := IntWalk.i64_in _ (by omega)
      have hfull : sn = pm ↔ ∀ a, a < m0.n → ∃ c, c < m0.n ∧ q c = a := by rw [hsn, hpm, hpw]; exact hsf
      have xr := XR.out.below hB (by omega)
      have xo := XO.out.below hB (by omega)
      have HF := Lib.hid hfull
      rw [← hsn]
      clear hsn hpw hpm hsf hfull lsn lpw hk hlt
      by_cases hs : sn = pm
      · have hE : Each m0.n z := each_of fun a ha => by
          obtain ⟨c, hc, e⟩ := HF.out.1 hs a ha
          exact ⟨c, hc, by rw [(hH.out c hc).2, e]⟩
        have HE : Hid (ok = true) := by
          show _ = _
          rw [HOK.out]
          exact eachB_mk fun a ha => by
            obtain ⟨c, hc, e⟩ := HF.out.1 hs a ha
            exact ⟨c, hc, by rw [(hH.out c hc).2, e]⟩
        have hbk : ∀ a, a < m0.n → backTo q m0.n a = placeN m0.n z a := fun a ha => by
          obtain ⟨h1, h2⟩ := back_is m0.n (HF.out.1 hs a ha)
          have h3 := hE.perm.bq _ h1
          have h4 : (z (backTo q m0.n a)).toNat = a := by rw [HQ.out] at h2; rw [HQ.out]; exact h2
          rw [← h3]
          show placeN m0.n z (z (backTo q m0.n a)).toNat = _
          rw [h4]
        have HBK := Lib.hid hbk
        have HEA := Lib.hid hE
        have HIB := Lib.hid hI
        have esn : ((sn : Int) != (pm : Int)) = false := by simp; omega
        have hM0 := MakeAt.begin (N := m0.n) (base := wr.heap.size) (nameZ m0.Z q) (fun c => (yy c : Int)) (by omega) xo
        obtain ⟨BS, hBS⟩ : ∃ b : Nat, b = wr.heap.size := ⟨_, rfl⟩
        rw [← hBS] at hM0
        obtain ⟨w5, hw5⟩ : ∃ w5 : World, w5 = wr := ⟨_, rfl⟩
        have hBSa : BS ≤ w5.heap.size := by rw [hw5]; omega
        have hBSb : QB < BS := by omega
        have XA5 : Hid (TwoAt w5 w.heap.size (.slice (some ⟨l0.b, l0.o, none⟩) m0.n l0.cap) (.slice (some ⟨g0, o0, none⟩) m0.n nc0)) := by show TwoAt _ _ _ _; rw [hw5]; exact XA.out.below hB (by omega)
        have XR5 : Hid (TwoAt w5 (w.heap.size + 1) (.slice none 0 0) (.slice none 0 0)) := by show TwoAt _ _ _ _; rw [hw5]; exact xr
        have B5 : Hid (Below w.heap.size w w5) := by show Below _ _ _; rw [hw5]; exact BW
        have I5 : Hid (IntsAt w5 QB (.slice (some ⟨QB, 0, none⟩) m0.n m0.n) m0.n (fun c => ((backTo q m0.n c : Nat) : Int))) := by show IntsAt _ _ _ _ _; rw [hw5]; exact hI
        have C5 : Chg (fun j => j = w.heap.size + 1 + 1 ∨ BS ≤ j) w5 wr := by rw [hw5]; exact ⟨rfl, rfl, rfl, Nat.le_refl _, fun _ _ _ => rfl⟩
        clear hs hE hbk hI hH HF XA XR XO hB BW xo xr hBS hw5 hqn HIB
        go_wp2_with fail
        clear ep1 ep2 ep3 ep4 esn en1 en4
        go_loopw [9] (fun i wr => ∃ (k : Nat) (u t : Value) (rv : Nat → Value), k ≤ m0.n ∧ i = .int .i64 k ∧ Chg (fun j => j = w.heap.size + 1 + 1 ∨ BS ≤ j) w5 wr ∧ MakeAt wr (w.heap.size + 1 + 1) BS u t k k m0.n rv (nameZ m0.Z q) (fun c => (yy c : Int))) (fun i _ => m0.n - (intOf i).toNat)
        case atStart => exact ⟨0, _, _, _, Nat.zero_le _, rfl, C5, hM0⟩
        case round =>
          clear hM0 C5
          obtain ⟨k, u, t, rv, hk, rfl, hC, hM⟩ := hrel
          have hCs := hC.size
          have hCB : Below w.heap.size w5 _ := hC.below B5.out.size (fun j hj => by have hj' : j = w.heap.size + 1 + 1 ∨ BS ≤ j := hj; omega)
          have hXA := hC.two XA5.out (by show ¬ (_ ∨ _); omega)
          have hXR := hC.two XR5.out (by show ¬ (_ ∨ _); omega)
          have BW := B5.out.trans hCB
          by_cases hlt : k < m0.n
          · have hlt' : (k : Int) < (m0.n : Int) := by omega
            obtain ⟨wo, rfl⟩ : ∃ wo : World, wo = wr := ⟨_, rfl⟩
            obtain ⟨qk, hqk⟩ : ∃ b : Nat, b = q k := ⟨_, rfl⟩
            have hzk : z k = (qk : Int) := by rw [hqk, HQ.out]; exact HEA.out.nat k hlt
            have lqk : qk < m0.n := by rw [hqk, HQ.out]; exact HEA.out.perm.lt k hlt
            have HQK := Lib.hid hqk
            have f1 := ((HR.out.below BW).row k hlt).2.2
            rw [hzk] at f1
            have hrow0 : IntsAt (wo.alloc (.cells #[] 3)) wo.heap.size (.slice (some ⟨wo.heap.size, 0, none⟩) 0 0) 0 (nameZ m0.Z q k) := World.ownsRow_lit (base := wo.heap.size) (e := 3) (size := 1) wo #[] 0 (Nat.le_refl _) (Nat.zero_le _) rfl
            have hbr := (Below.refl wo.heap.size wo).alloc (Nat.le_refl _) (.cells #[] 3)
            have HM := Lib.hid hM
            have F1 := Lib.hid f1
            clear hqk hM f1
            go_wp2_with fail
            go_loopw [10, 11] (fun t i wi => ∃ j : Nat, j ≤ m0.n ∧ i = .int .i64 j ∧ IntsAt wi wo.heap.size t j (nameZ m0.Z q k) ∧ Below wo.heap.size wo wi) (fun _ i _ => m0.n - (intOf i).toNat)
            case atStart => exact ⟨0, Nat.zero_le _, rfl, hrow0, hbr⟩
            case round =>
              clear hrow0 hbr
              obtain ⟨j, hj, rfl, hown, hWi⟩ := hrel
              have hws := hWi.size
              by_cases hjt : j < m0.n
              · have hjt' : (j : Int) < (m0.n : Int) := by omega
                obtain ⟨qj, hqj⟩ : ∃ b : Nat, b = q j := ⟨_, rfl⟩
                have hzj : z j = (qj : Int) := by rw [hqj, HQ.out]; exact HEA.out.nat j hjt
                have lqj : qj < m0.n := by rw [hqj, HQ.out]; exact HEA.out.perm.lt j hjt
                have HTZ : Hid (nameZ m0.Z q k j = m0.Z qk qj) := by show _ = _; unfold nameZ; rw [HQK.out, hqj]
                have I0 := H0.out.step BW
                have f0 := hXA.c0
                have f1 := F1.out
                have f2 := (I0.sq.couple lqk lqj).2.1
                have f3 := ((HR.out.below BW).row j hjt).2.2
                rw [hzj] at f3
                have f4 := (I0.sq.couple lqk lqj).2.2
                have fl0 := World.block_lt_of_cell? wo _ f0
                have fl1 := World.block_lt_of_cell? wo _ f1
                have fl2 := World.block_lt_of_cell? wo _ f2
                have fl3 := World.block_lt_of_cell? wo _ f3
                have fl4 := World.block_lt_of_cell? wo _ f4
                have c1 : (qk : Int) < (m0.n : Int) := by omega
                have c2 : (qj : Int) < (m0.n : Int) := by omega
                have hT1 : ∀ o', ((wr.drew).alloc o').ownsRow wo.heap.size 3 1 u10 j ((List.range j).map fun c => .int .i64 (nameZ m0.Z q k c)) := fun o' => ((Chg.drew (fun _ => False) wr).trans (Chg.alloc _ _ o')).own hown (fun _ _ h => h)
                have hW1 : ∀ o', Below wo.heap.size wo ((wr.drew).alloc o') := fun o' => (hWi.drew).alloc (by simpa using hws) o'
                have htb := Lib.hid (ownsRow_block hown)
                have ma1 := Lib.hid (show j + 1 ≤ maxLen by unfold maxLen; omega)
                have ma2 := Lib.hid (show (j + 1) * 8 ≤ 140737488355328 by omega)
                have ma3 := Lib.hid (show ∀ o', wo.heap.size ≤ ((wr.drew).alloc o').heap.size from fun o' => by simp; omega)
                have ma4 := Lib.hid (show ∀ x : Int, ∀ u ∈ [Value.int .i64 x], u.oneCell' = true from fun x => by simp [Value.oneCell'])
                have K0 := hWi.drew
                clear hqj hzj I0 hown
                go_wp2_with fail
                refine region_plain (fuel := 18) (listed := #[false, false, false, false, false, false, false, false, false, false, false, false, false, false, false, false, false, false]) (fun W' => Below wo.heap.size wo W') (by kernel_rfl) (by kernel_rfl) (by kernel_rfl) ?_
                refine hold_take (i := 0) (d := 78) (v := ?va0) (listed' := #[true, false, false, false, false, false, false, false, false, false, false, false, false, false, false, false, false, false]) rfl (by kernel_rfl) (by kernel_rfl) (by kernel_rfl) rfl (by rfl) (by kernel_rfl) K0 ?ha0 ?ra0
                case ha0 =>
                  intro w' hSw
                  have hSb : Below wo.heap.size wo w' := hSw; have x0 := (hSb.cell (p := ⟨w.heap.size, 0, none⟩) fl0).trans f0; have x1 := (hSb.cell (p := ⟨g, o + k, none⟩) fl1).trans f1; have x2 := (hSb.cell (p := ⟨l0.b, l0.o + qk, none⟩) fl2).trans f2; have x3 := (hSb.cell (p := ⟨g, o + j, none⟩) fl3).trans f3; have x4 := (hSb.cell (p := ⟨l0.G qk, l0.O qk + qj, none⟩) fl4).trans f4
                  go_simp
                  try with_reducible rfl
                simp only [List.setIfInBounds_toArray, List.set_cons_zero, List.set_cons_succ]
                refine hold_take (i := 1) (d := 79) (v := ?va1) (listed' := #[true, true, false, false, false, false, false, false, false, false, false, false, false, false, false, false, false, false]) rfl (by kernel_rfl) (by kernel_rfl) (by kernel_rfl) rfl (by rfl) (by kernel_rfl) K0 ?ha1 ?ra1
                case ha1 =>
                  intro w' hSw
                  have hSb : Below wo.heap.size wo w' := hSw; have x0 := (hSb.cell (p := ⟨w.heap.size, 0, none⟩) fl0).trans f0; have x1 := (hSb.cell (p := ⟨g, o + k, none⟩) fl1).trans f1; have x2 := (hSb.cell (p := ⟨l0.b, l0.o + qk, none⟩) fl2).trans f2; have x3 := (hSb.cell (p := ⟨g, o + j, none⟩) fl3).trans f3; have x4 := (hSb.cell (p := ⟨l0.G qk, l0.O qk + qj, none⟩) fl4).trans f4
                  go_simp
                  try with_reducible rfl
                simp only [List.setIfInBounds_toArray, List.set_cons_zero, List.set_cons_succ]
                refine hold_take (i := 2) (d := 80) (v := ?va2) (listed' := #[true, true, true, false, false, false, false, false, false, false, false, false, false, false, false, false, false, false]) rfl (by kernel_rfl) (by kernel_rfl) (by kernel_rfl) rfl (by rfl) (by kernel_rfl) K0 ?ha2 ?ra2
                case ha2 =>
                  intro w' hSw
                  have hSb : Below wo.heap.size wo w' := hSw; have x0 := (hSb.cell (p := ⟨w.heap.size, 0, none⟩) fl0).trans f0; have x1 := (hSb.cell (p := ⟨g, o + k, none⟩) fl1).trans f1; have x2 := (hSb.cell (p := ⟨l0.b, l0.o + qk, none⟩) fl2).trans f2; have x3 := (hSb.cell (p := ⟨g, o + j, none⟩) fl3).trans f3; have x4 := (hSb.cell (p := ⟨l0.G qk, l0.O qk + qj, none⟩) fl4).trans f4
                  go_simp
                  try with_reducible rfl
                simp only [List.setIfInBounds_toArray, List.set_cons_zero, List.set_cons_succ]
                refine hold_take (i := 3) (d := 81) (v := ?va3) (listed' := #[true, true, true, true, false, false, false, false, false, false, false, false, false, false, false, false, false, false]) rfl (by kernel_rfl) (by kernel_rfl) (by kernel_rfl) rfl (by rfl) (by kernel_rfl) K0 ?ha3 ?ra3
                case ha3 =>
                  intro w' hSw
                  have hSb : Below wo.heap.size wo w' := hSw; have x0 := (hSb.cell (p := ⟨w.heap.size, 0, none⟩) fl0).trans f0; have x1 := (hSb.cell (p := ⟨g, o + k, none⟩) fl1).trans f1; have x2 := (hSb.cell (p := ⟨l0.b, l0.o + qk, none⟩) fl2).trans f2; have x3 := (hSb.cell (p := ⟨g, o + j, none⟩) fl3).trans f3; have x4 := (hSb.cell (p := ⟨l0.G qk, l0.O qk + qj, none⟩) fl4).trans f4
                  go_simp
                  try with_reducible rfl
                simp only [List.setIfInBounds_toArray, List.set_cons_zero, List.set_cons_succ]
                refine hold_take (i := 4) (d := 82) (v := ?va4) (listed' := #[true, true, true, true, true, false, false, false, false, false, false, false, false, false, false, false, false, false]) rfl (by kernel_rfl) (by kernel_rfl) (by kernel_rfl) rfl (by rfl) (by kernel_rfl) K0 ?ha4 ?ra4
                case ha4 =>
                  intro w' hSw
                  have hSb : Below wo.heap.size wo w' := hSw; have x0 := (hSb.cell (p := ⟨w.heap.size, 0, none⟩) fl0).trans f0; have x1 := (hSb.cell (p := ⟨g, o + k, none⟩) fl1).trans f1; have x2 := (hSb.cell (p := ⟨l0.b, l0.o + qk, none⟩) fl2).trans f2; have x3 := (hSb.cell (p := ⟨g, o + j, none⟩) fl3).trans f3; have x4 := (hSb.cell (p := ⟨l0.G qk, l0.O qk + qj, none⟩) fl4).trans f4
                  go_simp
                  try with_reducible rfl
                simp only [List.setIfInBounds_toArray, List.set_cons_zero, List.set_cons_succ]
                refine hold_take (i := 5) (d := 83) (v := ?va5) (listed' := #[true, true, true, true, true, true, false, false, false, false, false, false, false, false, false, false, false, false]) rfl (by kernel_rfl) (by kernel_rfl) (by kernel_rfl) rfl (by rfl) (by kernel_rfl) K0 ?ha5 ?ra5
                case ha5 =>
                  intro w' hSw
                  have hSb : Below wo.heap.size wo w' := hSw; have x0 := (hSb.cell (p := ⟨w.heap.size, 0, none⟩) fl0).trans f0; have x1 := (hSb.cell (p := ⟨g, o + k, none⟩) fl1).trans f1; have x2 := (hSb.cell (p := ⟨l0.b, l0.o + qk, none⟩) fl2).trans f2; have x3 := (hSb.cell (p := ⟨g, o + j, none⟩) fl3).trans f3; have x4 := (hSb.cell (p := ⟨l0.G qk, l0.O qk + qj, none⟩) fl4).trans f4
                  go_simp
                  try with_reducible rfl
                simp only [List.setIfInBounds_toArray, List.set_cons_zero, List.set_cons_succ]
                refine hold_take (i := 6) (d := 84) (v := ?va6) (listed' := #[true, true, true, true, true, true, true, false, false, false, false, false, false, false, false, false, false, false]) rfl (by kernel_rfl) (by kernel_rfl) (by kernel_rfl) rfl (by rfl) (by kernel_rfl) K0 ?ha6 ?ra6
                case ha6 =>
                  intro w' hSw
                  have hSb : Below wo.heap.size wo w' := hSw; have x0 := (hSb.cell (p := ⟨w.heap.size, 0, none⟩) fl0).trans f0; have x1 := (hSb.cell (p := ⟨g, o + k, none⟩) fl1).trans f1; have x2 := (hSb.cell (p := ⟨l0.b, l0.o + qk, none⟩) fl2).trans f2; have x3 := (hSb.cell (p := ⟨g, o + j, none⟩) fl3).trans f3; have x4 := (hSb.cell (p := ⟨l0.G qk, l0.O qk + qj, none⟩) fl4).trans f4
                  go_simp
                  try with_reducible rfl
                simp only [List.setIfInBounds_toArray, List.set_cons_zero, List.set_cons_succ]
                refine hold_take (i := 7) (d := 85) (v := ?va7) (listed' := #[true, true, true, true, true, true, true, true, false, false, false, false, false, false, false, false, false, false]) rfl (by kernel_rfl) (by kernel_rfl) (by kernel_rfl) rfl (by rfl) (by kernel_rfl) K0 ?ha7 ?ra7
                case ha7 =>
                  intro w' hSw
                  have hSb : Below wo.heap.size wo w' := hSw; have x0 := (hSb.cell (p := ⟨w.heap.size, 0, none⟩) fl0).trans f0; have x1 := (hSb.cell (p := ⟨g, o + k, none⟩) fl1).trans f1; have x2 := (hSb.cell (p := ⟨l0.b, l0.o + qk, none⟩) fl2).trans f2; have x3 := (hSb.cell (p := ⟨g, o + j, none⟩) fl3).trans f3; have x4 := (hSb.cell (p := ⟨l0.G qk, l0.O qk + qj, none⟩) fl4).trans f4
                  go_simp
                  try with_reducible rfl
                simp only [List.setIfInBounds_toArray, List.set_cons_zero, List.set_cons_succ]
                refine hold_take (i := 8) (d := 86) (v := ?va8) (listed' := #[true, true, true, true, true, true, true, true, true, false, false, false, false, false, false, false, false, false]) rfl (by kernel_rfl) (by kernel_rfl) (by kernel_rfl) rfl (by rfl) (by kernel_rfl) K0 ?ha8 ?ra8
                case ha8 =>
                  intro w' hSw
                  have hSb : Below wo.heap.size wo w' := hSw; have x0 := (hSb.cell (p := ⟨w.heap.size, 0, none⟩) fl0).trans f0; have x1 := (hSb.cell (p := ⟨g, o + k, none⟩) fl1).trans f1; have x2 := (hSb.cell (p := ⟨l0.b, l0.o + qk, none⟩) fl2).trans f2; have x3 := (hSb.cell (p := ⟨g, o + j, none⟩) fl3).trans f3; have x4 := (hSb.cell (p := ⟨l0.G qk, l0.O qk + qj, none⟩) fl4).trans f4
                  go_simp
                  try with_reducible rfl
                simp only [List.setIfInBounds_toArray, List.set_cons_zero, List.set_cons_succ]
                refine hold_take (i := 9) (d := 87) (v := ?va9) (listed' := #[true, true, true, true, true, true, true, true, true, true, false, false, false, false, false, false, false, false]) rfl (by kernel_rfl) (by kernel_rfl) (by kernel_rfl) rfl (by rfl) (by kernel_rfl) K0 ?ha9 ?ra9
                case ha9 =>
                  intro w' hSw
                  have hSb : Below wo.heap.size wo w' := hSw; have x0 := (hSb.cell (p := ⟨w.heap.size, 0, none⟩) fl0).trans f0; have x1 := (hSb.cell (p := ⟨g, o + k, none⟩) fl1).trans f1; have x2 := (hSb.cell (p := ⟨l0.b, l0.o + qk, none⟩) fl2).trans f2; have x3 := (hSb.cell (p := ⟨g, o + j, none⟩) fl3).trans f3; have x4 := (hSb.cell (p := ⟨l0.G qk, l0.O qk + qj, none⟩) fl4).trans f4
                  go_simp
                  try with_reducible rfl
                simp only [List.setIfInBounds_toArray, List.set_cons_zero, List.set_cons_succ]
                refine hold_take (i := 10) (d := 88) (v := ?va10) (listed' := #[true, true, true, true, true, true, true, true, true, true, true, false, false, false, false, false, false, false]) rfl (by kernel_rfl) (by kernel_rfl) (by kernel_rfl) rfl (by rfl) (by kernel_rfl) K0 ?ha10 ?ra10
                case ha10 =>
                  intro w' hSw
                  have hSb : Below wo.heap.size wo w' := hSw; have x0 := (hSb.cell (p := ⟨w.heap.size, 0, none⟩) fl0).trans f0; have x1 := (hSb.cell (p := ⟨g, o + k, none⟩) fl1).trans f1; have x2 := (hSb.cell (p := ⟨l0.b, l0.o + qk, none⟩) fl2).trans f2; have x3 := (hSb.cell (p := ⟨g, o + j, none⟩) fl3).trans f3; have x4 := (hSb.cell (p := ⟨l0.G qk, l0.O qk + qj, none⟩) fl4).trans f4
                  go_simp
                  try with_reducible rfl
                simp only [List.setIfInBounds_toArray, List.set_cons_zero, List.set_cons_succ]
                refine hold_take (i := 11) (d := 89) (v := ?va11) (listed' := #[true, true, true, true, true, true, true, true, true, true, true, true, false, false, false, false, false, false]) rfl (by kernel_rfl) (by kernel_rfl) (by kernel_rfl) rfl (by rfl) (by kernel_rfl) K0 ?ha11 ?ra11
                case ha11 =>
                  intro w' hSw
                  have hSb : Below wo.heap.size wo w' := hSw; have x0 := (hSb.cell (p := ⟨w.heap.size, 0, none⟩) fl0).trans f0; have x1 := (hSb.cell (p := ⟨g, o + k, none⟩) fl1).trans f1; have x2 := (hSb.cell (p := ⟨l0.b, l0.o + qk, none⟩) fl2).trans f2; have x3 := (hSb.cell (p := ⟨g, o + j, none⟩) fl3).trans f3; have x4 := (hSb.cell (p := ⟨l0.G qk, l0.O qk + qj, none⟩) fl4).trans f4
                  go_simp
                  try with_reducible rfl
                simp only [List.setIfInBounds_toArray, List.set_cons_zero, List.set_cons_succ]
                refine hold_take (i := 12) (d := 90) (v := ?va12) (listed' := #[true, true, true, true, true, true, true, true, true, true, true, true, true, false, false, false, false, false]) rfl (by kernel_rfl) (by kernel_rfl) (by kernel_rfl) rfl (by rfl) (by kernel_rfl) K0 ?ha12 ?ra12
                case ha12 =>
                  intro w' hSw
                  have hSb : Below wo.heap.size wo w' := hSw; have x0 := (hSb.cell (p := ⟨w.heap.size, 0, none⟩) fl0).trans f0; have x1 := (hSb.cell (p := ⟨g, o + k, none⟩) fl1).trans f1; have x2 := (hSb.cell (p := ⟨l0.b, l0.o + qk, none⟩) fl2).trans f2; have x3 := (hSb.cell (p := ⟨g, o + j, none⟩) fl3).trans f3; have x4 := (hSb.cell (p := ⟨l0.G qk, l0.O qk + qj, none⟩) fl4).trans f4
                  go_simp
                  try with_reducible rfl
                simp only [List.setIfInBounds_toArray, List.set_cons_zero, List.set_cons_succ]
                refine hold_take (i := 13) (d := 91) (v := ?va13) (listed' := #[true, true, true, true, true, true, true, true, true, true, true, true, true, true, false, false, false, false]) rfl (by kernel_rfl) (by kernel_rfl) (by kernel_rfl) rfl (by rfl) (by kernel_rfl) K0 ?ha13 ?ra13
                case ha13 =>
                  intro w' hSw
                  have hSb : Below wo.heap.size wo w' := hSw; have x0 := (hSb.cell (p := ⟨w.heap.size, 0, none⟩) fl0).trans f0; have x1 := (hSb.cell (p := ⟨g, o + k, none⟩) fl1).trans f1; have x2 := (hSb.cell (p := ⟨l0.b, l0.o + qk, none⟩) fl2).trans f2; have x3 := (hSb.cell (p := ⟨g, o + j, none⟩) fl3).trans f3; have x4 := (hSb.cell (p := ⟨l0.G qk, l0.O qk + qj, none⟩) fl4).trans f4
                  go_simp
                  try with_reducible rfl
                simp only [List.setIfInBounds_toArray, List.set_cons_zero, List.set_cons_succ]
                refine hold_take (i := 14) (d := 92) (v := ?va14) (listed' := #[true, true, true, true, true, true, true, true, true, true, true, true, true, true, true, false, false, false]) rfl (by kernel_rfl) (by kernel_rfl) (by kernel_rfl) rfl (by rfl) (by kernel_rfl) K0 ?ha14 ?ra14
                case ha14 =>
                  intro w' hSw
                  have hSb : Below wo.heap.size wo w' := hSw; have x0 := (hSb.cell (p := ⟨w.heap.size, 0, none⟩) fl0).trans f0; have x1 := (hSb.cell (p := ⟨g, o + k, none⟩) fl1).trans f1; have x2 := (hSb.cell (p := ⟨l0.b, l0.o + qk, none⟩) fl2).trans f2; have x3 := (hSb.cell (p := ⟨g, o + j, none⟩) fl3).trans f3; have x4 := (hSb.cell (p := ⟨l0.G qk, l0.O qk + qj, none⟩) fl4).trans f4
                  go_simp
                  try with_reducible rfl
                simp only [List.setIfInBounds_toArray, List.set_cons_zero, List.set_cons_succ]
                refine hold_value (i := 15) (d := 93) (listed' := #[true, true, true, true, true, true, true, true, true, true, true, true, true, true, true, true, false, false]) rfl (by kernel_rfl) rfl (by rfl) (by kernel_rfl) (v := .slice (some ⟨wr.heap.size, 0, none⟩) 1 1) (w' := (wr.drew).alloc (.cells #[.int .i64 (m0.Z qk qj)] 3)) ?hva15 (hW1 _) ?_
                case hva15 =>
                  go_simp
                  try with_reducible rfl
                simp only [List.setIfInBounds_toArray, List.set_cons_zero, List.set_cons_succ]
                refine hold_append (k := 16) (d := 94) (listed' := #[true, true, true, true, true, true, true, true, true, true, true, true, true, true, true, true, true, false]) rfl (by kernel_rfl) rfl (by kernel_rfl) rfl (.tmp 78) (.tmp 93) 25 rfl (wo.heap.size) 3 i0 (.int .i64 0) 1 8 Try.underlying25 HI.out HZ0.out HZ1.out HZ2.out rfl (by decide) u10 j _ (by simp [Act.eval]) (hT1 _) ⟨wr.heap.size, 0, none⟩ 1 1 [.int .i64 (m0.Z qk qj)] (by simp [Act.eval]) rfl (cell_one_new _ _ _) (ma4.out _) ma1.out ma2.out (ma3.out _) ?_
                intro v6 w6 hown6 hgrow6 hat6
                have HO6 : Hid (IntsAt w6 wo.heap.size v6 (j + 1) (nameZ m0.Z q k)) := IntsAt.told (by rw [HTZ.out]; exact hown6)
                have hW6 := (hW1 _).grown hgrow6 (ma3.out _) htb.out
                clear hown6 hgrow6 hat6
                refine ⟨hW6, ?_⟩
                simp only [List.setIfInBounds_toArray, List.set_cons_zero, List.set_cons_succ]
                refine hold_take (i := 17) (d := 10) (v := ?va17) (listed' := #[true, true, true, true, true, true, true, true, true, true, true, true, true, true, true, true, true, true]) rfl (by kernel_rfl) (by kernel_rfl) (by kernel_rfl) rfl (by rfl) (by kernel_rfl) hW6 ?ha17 ?ra17
                case ha17 =>
                  intro w' hSw
                  have hSb : Below wo.heap.size wo w' := hSw; have x0 := (hSb.cell (p := ⟨w.heap.size, 0, none⟩) fl0).trans f0; have x1 := (hSb.cell (p := ⟨g, o + k, none⟩) fl1).trans f1; have x2 := (hSb.cell (p := ⟨l0.b, l0.o + qk, none⟩) fl2).trans f2; have x3 := (hSb.cell (p := ⟨g, o + j, none⟩) fl3).trans f3; have x4 := (hSb.cell (p := ⟨l0.G qk, l0.O qk + qj, none⟩) fl4).trans f4
                  go_simp
                  try with_reducible rfl
                simp only [List.setIfInBounds_toArray, List.set_cons_zero, List.set_cons_succ]
                refine hold_done (by kernel_rfl) ?_ _
                have HW6 := Lib.hid hW6
                clear hW6 hW1 hT1 K0 f0 f1 f2 f3 f4
                go_wp2_with fail
                go_roundw
                case rel => exact ⟨j + 1, by omega, by go_num, HO6.out, HW6.out⟩
                case measure => simp [intOf]; omega
              · have hjt' : ¬ (j : Int) < (m0.n : Int) := by omega
                obtain rfl : j = m0.n := by omega
                have hrow : IntsAt wr wo.heap.size u10 m0.n (nameZ m0.Z q k) := hown
                have hM1 := Lib.hid (HM.out.below hWi)
                have hq := hM1.out.box.c0
                have hqf := hM1.out.box.f0
                obtain ⟨gk, ck, rfl, hgk, hgl, _⟩ := hrow.val (by omega)
                have hbl := Lib.hid (ownsRow_block hM1.out.out.top)
                have hsi := hWi.size
                have hZb : Hid (∀ c, c < m0.n → 0 ≤ nameZ m0.Z q k c ∧ nameZ m0.Z q k c ≤ 2) := fun c hc => by
                  have := H0.out.orth.lat.order.sq.bit (q k) (by rw [← HQK.out]; exact lqk) (q c) (by rw [HQ.out]; exact HEA.out.perm.lt c hc)
                  have h2 : m0.Z (q k) (q c) = 0 ∨ m0.Z (q k) (q c) = 1 := this
                  unfold nameZ
                  omega
                have HROW := Lib.hid hrow
                have HWI := Lib.hid hWi
                clear hown hrow hj hjt hWi
                go_wp2_with (at_builtin; refine wpList_append_own _ rfl _ _ 24 rfl BS 25 i1 (.slice none 0 0) 1 24 Try.underlying24 HJ.out HY0.out HY1.out HY2.out rfl (by decide) _ _ _ rfl (hM1.out.out.top.alloc _) ⟨wr.heap.size, 0, none⟩ 1 1 [.slice (some ⟨gk, 0, none⟩) m0.n ck] rfl rfl (cell_one_new _ _ _) ?d2 ?d3 ?d4 ?d5 ?_)
                case d2 => simp [Value.oneCell']
                case d3 => unfold maxLen; omega
                case d4 => omega
                case d5 => first | omega | (simp; omega)
                intro v' w8 hown4 hgrow _
                have HX := HM.out.row' (by omega) HWI.out HROW.out hZb.out hown4 hgrow (by omega)
                have hb4 := (hM1.out.mid (Chg.alloc (fun _ => False) _ _) hgrow hbl.out).2
                obtain ⟨ge, ce, rfl, _⟩ := HX.1.out.topv (by omega)
                have hC5 := hC.trans HX.2
                have hM5 := HX.1
                have r0 := hb4.c0
                have r1 := hb4.f0
                clear hown4 hgrow hb4 HX HROW hM1 hqf hZb HM hC hCB hXA hXR BW
                go_upto_region 24 with fail
                clear r0 r1 hq
                generalize hW5 : w8.setCell ⟨w.heap.size + 1 + 1, 0, none⟩ (.slice (some ⟨ge, 0, none⟩) (k + 1) ce) = w9 at hC5 hM5 ⊢
                clear hW5
                have hs9 := hC5.size
                have hCB : Below w.heap.size w5 w9 := hC5.below B5.out.size (fun j hj => by have hj' : j = w.heap.size + 1 + 1 ∨ BS ≤ j := hj; omega)
                have BW := B5.out.trans hCB
                have I0 := H0.out.step BW
                have f0 := (hC5.two XA5.out (by show ¬ (_ ∨ _); omega)).c1
                have f1 := ((HR.out.below BW).row k hlt).2.2
                rw [hzk] at f1
                have f2 : w9.cell? ⟨g0, o0 + qk, none⟩ = some (.int .i64 (y0 qk : Int)) := (I0.notAt lqk).2.1
                have lyk : y0 qk < m0.n := (I0.notAt lqk).2.2
                have f3 : w9.cell? ⟨QB, y0 qk, none⟩ = some (.int .i64 ((yy k : Nat) : Int)) := by
                  have h1 := IntsAt.cell I5.out lyk
                  have h2 : backTo q m0.n (y0 qk) = yy k := by
                    rw [HBK.out _ lyk, HYY.out]
                    show _ = placeN m0.n z (y0 (z k).toNat)
                    rw [hzk]
                    rfl
                  rw [h2] at h1
                  exact (World.cell?_of_block (a := ⟨QB, y0 qk, none⟩) (hC5.block QB (by omega) (by show ¬ (_ ∨ _); omega))).trans h1
                have hlw : ∀ {a : Addr} {v : Value}, w.cell? a = some v → a.block < w.heap.size := fun {a v} h => World.block_lt_of_cell? w _ h
                have hsB := BW.size
                have hs5 := B5.out.size
                have fl0 : w.heap.size < w9.heap.size ∧ ¬ (w.heap.size = w.heap.size + 1 + 1 ∨ BS ≤ w.heap.size) := by omega
                have fl1 : g < w9.heap.size ∧ ¬ (g = w.heap.size + 1 + 1 ∨ BS ≤ g) := by have := hlw (HR.out.row k hlt).2.2; have h2 : g < w.heap.size := this; omega
                have fl2 : g0 < w9.heap.size ∧ ¬ (g0 = w.heap.size + 1 + 1 ∨ BS ≤ g0) := by have := hlw (H0.out.notAt lqk).2.1; have h2 : g0 < w.heap.size := this; omega
                have fl3 : QB < w9.heap.size ∧ ¬ (QB = w.heap.size + 1 + 1 ∨ BS ≤ QB) := by omega
                have f4 := hM5.box.c1
                have f4b := (((Below.refl w9.heap.size w9).alloc (Nat.le_refl _) (.cells #[.int .i64 ((yy k : Nat) : Int)] 3)).cell (p := ⟨w.heap.size + 1 + 1, 1, none⟩) (World.block_lt_of_cell? w9 _ f4)).trans f4
                have hYr : Hid (0 ≤ ((yy k : Nat) : Int) ∧ ((yy k : Nat) : Int) < (m0.n : Int)) := by
                  show _ ∧ _
                  have : yy k < m0.n := by
                    rw [HYY.out]
                    show placeN m0.n z (y0 (z k).toNat) < m0.n
                    rw [hzk]
                    exact HEA.out.perm.blt _ lyk
                  omega
                have c1 : (qk : Int) < (m0.n : Int) := by omega
                have c2 : ((y0 qk : Nat) : Int) < (m0.n : Int) := by omega
                have hT1 : ∀ o', ((w9.drew).alloc o').ownsRow BS 3 1 t k ((List.range k).map fun c => .int .i64 (yy c : Int)) := fun o' => ((Chg.drew (fun _ => False) w9).trans (Chg.alloc _ _ o')).own hM5.ints (fun _ _ h => h)
                have hCH : ∀ o', Chg (fun _ => False) w9 ((w9.drew).alloc o') := fun o' => (Chg.drew (fun _ => False) w9).trans (Chg.alloc _ _ o')
                have htb := Lib.hid (ownsRow_block hM5.ints)
                have ma1 := Lib.hid (show k + 1 ≤ maxLen by unfold maxLen; omega)
                have ma2 := Lib.hid (show (k + 1) * 8 ≤ 140737488355328 by omega)
                have ma3 := Lib.hid (show ∀ o', BS ≤ ((w9.drew).alloc o').heap.size from fun o' => by simp; omega)
                have ma4 := Lib.hid (show ∀ x : Int, ∀ u ∈ [Value.int .i64 x], u.oneCell' = true from fun x => by simp [Value.oneCell'])
                have HX5 := Lib.hid hC5
                have HM5 := Lib.hid hM5
                have K1 : Chg (fun j => j = w.heap.size + 1 + 1 ∨ BS ≤ j) w9 w9.drew := Chg.drew _ _
                clear hC5 hM5 I0 hCB BW hlw
                refine region_plain (fuel := 17) (listed := #[false, false, false, false, false, false, false, false, false, false, false, false, false, false, false, false, false]) (fun W' => Chg (fun j => j = w.heap.size + 1 + 1 ∨ BS ≤ j) w9 W') (by kernel_rfl) (by kernel_rfl) (by kernel_rfl) ?_
                refine hold_take (i := 0) (d := 101) (v := ?vb0) (listed' := #[true, false, false, false, false, false, false, false, false, false, false, false, false, false, false, false, false]) rfl (by kernel_rfl) (by kernel_rfl) (by kernel_rfl) rfl (by rfl) (by kernel_rfl) K1 ?hb0 ?rb0
                case hb0 =>
                  intro w' hSw
                  have hSb : Chg (fun j => j = w.heap.size + 1 + 1 ∨ BS ≤ j) w9 w' := hSw; have x0 := (World.cell?_of_block (a := ⟨w.heap.size, 1, none⟩) (hSb.block _ fl0.1 fl0.2)).trans f0; have x1 := (World.cell?_of_block (a := ⟨g, o + k, none⟩) (hSb.block _ fl1.1 fl1.2)).trans f1; have x2 := (World.cell?_of_block (a := ⟨g0, o0 + qk, none⟩) (hSb.block _ fl2.1 fl2.2)).trans f2; have x3 := (World.cell?_of_block (a := ⟨QB, y0 qk, none⟩) (hSb.block _ fl3.1 fl3.2)).trans f3
                  go_simp
                  try with_reducible rfl
                simp only [List.setIfInBounds_toArray, List.set_cons_zero, List.set_cons_succ]
                refine hold_take (i := 2) (d := 103) (v := ?vb2) (listed' := #[true, false, true, false, false, false, false, false, false, false, false, false, false, false, false, false, false]) rfl (by kernel_rfl) (by kernel_rfl) (by kernel_rfl) rfl (by rfl) (by kernel_rfl) K1 ?hb2 ?rb2
                case hb2 =>
                  intro w' hSw
                  have hSb : Chg (fun j => j = w.heap.size + 1 + 1 ∨ BS ≤ j) w9 w' := hSw; have x0 := (World.cell?_of_block (a := ⟨w.heap.size, 1, none⟩) (hSb.block _ fl0.1 fl0.2)).trans f0; have x1 := (World.cell?_of_block (a := ⟨g, o + k, none⟩) (hSb.block _ fl1.1 fl1.2)).trans f1; have x2 := (World.cell?_of_block (a := ⟨g0, o0 + qk, none⟩) (hSb.block _ fl2.1 fl2.2)).trans f2; have x3 := (World.cell?_of_block (a := ⟨QB, y0 qk, none⟩) (hSb.block _ fl3.1 fl3.2)).trans f3
                  go_simp
                  try with_reducible rfl
                simp only [List.setIfInBounds_toArray, List.set_cons_zero, List.set_cons_succ]
                refine hold_take (i := 3) (d := 104) (v := ?vb3) (listed' := #[true, false, true, true, false, false, false, false, false, false, false, false, false, false, false, false, false]) rfl (by kernel_rfl) (by kernel_rfl) (by kernel_rfl) rfl (by rfl) (by kernel_rfl) K1 ?hb3 ?rb3
                case hb3 =>
                  intro w' hSw
                  have hSb : Chg (fun j => j = w.heap.size + 1 + 1 ∨ BS ≤ j) w9 w' := hSw; have x0 := (World.cell?_of_block (a := ⟨w.heap.size, 1, none⟩) (hSb.block _ fl0.1 fl0.2)).trans f0; have x1 := (World.cell?_of_block (a := ⟨g, o + k, none⟩) (hSb.block _ fl1.1 fl1.2)).trans f1; have x2 := (World.cell?_of_block (a := ⟨g0, o0 + qk, none⟩) (hSb.block _ fl2.1 fl2.2)).trans f2; have x3 := (World.cell?_of_block (a := ⟨QB, y0 qk, none⟩) (hSb.block _ fl3.1 fl3.2)).trans f3
                  go_simp
                  try with_reducible rfl
                simp only [List.setIfInBounds_toArray, List.set_cons_zero, List.set_cons_succ]
                refine hold_take (i := 4) (d := 105) (v := ?vb4) (listed' := #[true, false, true, true, true, false, false, false, false, false, false, false, false, false, false, false, false]) rfl (by kernel_rfl) (by kernel_rfl) (by kernel_rfl) rfl (by rfl) (by kernel_rfl) K1 ?hb4 ?rb4
                case hb4 =>
                  intro w' hSw
                  have hSb : Chg (fun j => j = w.heap.size + 1 + 1 ∨ BS ≤ j) w9 w' := hSw; have x0 := (World.cell?_of_block (a := ⟨w.heap.size, 1, none⟩) (hSb.block _ fl0.1 fl0.2)).trans f0; have x1 := (World.cell?_of_block (a := ⟨g, o + k, none⟩) (hSb.block _ fl1.1 fl1.2)).trans f1; have x2 := (World.cell?_of_block (a := ⟨g0, o0 + qk, none⟩) (hSb.block _ fl2.1 fl2.2)).trans f2; have x3 := (World.cell?_of_block (a := ⟨QB, y0 qk, none⟩) (hSb.block _ fl3.1 fl3.2)).trans f3
                  go_simp
                  try with_reducible rfl
                simp only [List.setIfInBounds_toArray, List.set_cons_zero, List.set_cons_succ]
                refine hold_take (i := 5) (d := 106) (v := ?vb5) (listed' := #[true, false, true, true, true, true, false, false, false, false, false, false, false, false, false, false, false]) rfl (by kernel_rfl) (by kernel_rfl) (by kernel_rfl) rfl (by rfl) (by kernel_rfl) K1 ?hb5 ?rb5
                case hb5 =>
                  intro w' hSw
                  have hSb : Chg (fun j => j = w.heap.size + 1 + 1 ∨ BS ≤ j) w9 w' := hSw; have x0 := (World.cell?_of_block (a := ⟨w.heap.size, 1, none⟩) (hSb.block _ fl0.1 fl0.2)).trans f0; have x1 := (World.cell?_of_block (a := ⟨g, o + k, none⟩) (hSb.block _ fl1.1 fl1.2)).trans f1; have x2 := (World.cell?_of_block (a := ⟨g0, o0 + qk, none⟩) (hSb.block _ fl2.1 fl2.2)).trans f2; have x3 := (World.cell?_of_block (a := ⟨QB, y0 qk, none⟩) (hSb.block _ fl3.1 fl3.2)).trans f3
                  go_simp
                  try with_reducible rfl
                simp only [List.setIfInBounds_toArray, List.set_cons_zero, List.set_cons_succ]
                refine hold_take (i := 6) (d := 107) (v := ?vb6) (listed' := #[true, false, true, true, true, true, true, false, false, false, false, false, false, false, false, false, false]) rfl (by kernel_rfl) (by kernel_rfl) (by kernel_rfl) rfl (by rfl) (by kernel_rfl) K1 ?hb6 ?rb6
                case hb6 =>
                  intro w' hSw
                  have hSb : Chg (fun j => j = w.heap.size + 1 + 1 ∨ BS ≤ j) w9 w' := hSw; have x0 := (World.cell?_of_block (a := ⟨w.heap.size, 1, none⟩) (hSb.block _ fl0.1 fl0.2)).trans f0; have x1 := (World.cell?_of_block (a := ⟨g, o + k, none⟩) (hSb.block _ fl1.1 fl1.2)).trans f1; have x2 := (World.cell?_of_block (a := ⟨g0, o0 + qk, none⟩) (hSb.block _ fl2.1 fl2.2)).trans f2; have x3 := (World.cell?_of_block (a := ⟨QB, y0 qk, none⟩) (hSb.block _ fl3.1 fl3.2)).trans f3
                  go_simp
                  try with_reducible rfl
                simp only [List.setIfInBounds_toArray, List.set_cons_zero, List.set_cons_succ]
                refine hold_take (i := 7) (d := 108) (v := ?vb7) (listed' := #[true, false, true, true, true, true, true, true, false, false, false, false, false, false, false, false, false]) rfl (by kernel_rfl) (by kernel_rfl) (by kernel_rfl) rfl (by rfl) (by kernel_rfl) K1 ?hb7 ?rb7
                case hb7 =>
                  intro w' hSw
                  have hSb : Chg (fun j => j = w.heap.size + 1 + 1 ∨ BS ≤ j) w9 w' := hSw; have x0 := (World.cell?_of_block (a := ⟨w.heap.size, 1, none⟩) (hSb.block _ fl0.1 fl0.2)).trans f0; have x1 := (World.cell?_of_block (a := ⟨g, o + k, none⟩) (hSb.block _ fl1.1 fl1.2)).trans f1; have x2 := (World.cell?_of_block (a := ⟨g0, o0 + qk, none⟩) (hSb.block _ fl2.1 fl2.2)).trans f2; have x3 := (World.cell?_of_block (a := ⟨QB, y0 qk, none⟩) (hSb.block _ fl3.1 fl3.2)).trans f3
                  go_simp
                  try with_reducible rfl
                simp only [List.setIfInBounds_toArray, List.set_cons_zero, List.set_cons_succ]
                refine hold_take (i := 8) (d := 109) (v := ?vb8) (listed' := #[true, false, true, true, true, true, true, true, true, false, false, false, false, false, false, false, false]) rfl (by kernel_rfl) (by kernel_rfl) (by kernel_rfl) rfl (by rfl) (by kernel_rfl) K1 ?hb8 ?rb8
                case hb8 =>
                  intro w' hSw
                  have hSb : Chg (fun j => j = w.heap.size + 1 + 1 ∨ BS ≤ j) w9 w' := hSw; have x0 := (World.cell?_of_block (a := ⟨w.heap.size, 1, none⟩) (hSb.block _ fl0.1 fl0.2)).trans f0; have x1 := (World.cell?_of_block (a := ⟨g, o + k, none⟩) (hSb.block _ fl1.1 fl1.2)).trans f1; have x2 := (World.cell?_of_block (a := ⟨g0, o0 + qk, none⟩) (hSb.block _ fl2.1 fl2.2)).trans f2; have x3 := (World.cell?_of_block (a := ⟨QB, y0 qk, none⟩) (hSb.block _ fl3.1 fl3.2)).trans f3
                  go_simp
                  try with_reducible rfl
                simp only [List.setIfInBounds_toArray, List.set_cons_zero, List.set_cons_succ]
                refine hold_take (i := 9) (d := 110) (v := ?vb9) (listed' := #[true, false, true, true, true, true, true, true, true, true, false, false, false, false, false, false, false]) rfl (by kernel_rfl) (by kernel_rfl) (by kernel_rfl) rfl (by rfl) (by kernel_rfl) K1 ?hb9 ?rb9
                case hb9 =>
                  intro w' hSw
                  have hSb : Chg (fun j => j = w.heap.size + 1 + 1 ∨ BS ≤ j) w9 w' := hSw; have x0 := (World.cell?_of_block (a := ⟨w.heap.size, 1, none⟩) (hSb.block _ fl0.1 fl0.2)).trans f0; have x1 := (World.cell?_of_block (a := ⟨g, o + k, none⟩) (hSb.block _ fl1.1 fl1.2)).trans f1; have x2 := (World.cell?_of_block (a := ⟨g0, o0 + qk, none⟩) (hSb.block _ fl2.1 fl2.2)).trans f2; have x3 := (World.cell?_of_block (a := ⟨QB, y0 qk, none⟩) (hSb.block _ fl3.1 fl3.2)).trans f3
                  go_simp
                  try with_reducible rfl
                simp only [List.setIfInBounds_toArray, List.set_cons_zero, List.set_cons_succ]
                refine hold_take (i := 10) (d := 111) (v := ?vb10) (listed' := #[true, false, true, true, true, true, true, true, true, true, true, false, false, false, false, false, false]) rfl (by kernel_rfl) (by kernel_rfl) (by kernel_rfl) rfl (by rfl) (by kernel_rfl) K1 ?hb10 ?rb10
                case hb10 =>
                  intro w' hSw
                  have hSb : Chg (fun j => j = w.heap.size + 1 + 1 ∨ BS ≤ j) w9 w' := hSw; have x0 := (World.cell?_of_block (a := ⟨w.heap.size, 1, none⟩) (hSb.block _ fl0.1 fl0.2)).trans f0; have x1 := (World.cell?_of_block (a := ⟨g, o + k, none⟩) (hSb.block _ fl1.1 fl1.2)).trans f1; have x2 := (World.cell?_of_block (a := ⟨g0, o0 + qk, none⟩) (hSb.block _ fl2.1 fl2.2)).trans f2; have x3 := (World.cell?_of_block (a := ⟨QB, y0 qk, none⟩) (hSb.block _ fl3.1 fl3.2)).trans f3
                  go_simp
                  try with_reducible rfl
                simp only [List.setIfInBounds_toArray, List.set_cons_zero, List.set_cons_succ]
                refine hold_take (i := 11) (d := 112) (v := ?vb11) (listed' := #[true, false, true, true, true, true, true, true, true, true, true, true, false, false, false, false, false]) rfl (by kernel_rfl) (by kernel_rfl) (by kernel_rfl) rfl (by rfl) (by kernel_rfl) K1 ?hb11 ?rb11
                case hb11 =>
                  intro w' hSw
                  have hSb : Chg (fun j => j = w.heap.size + 1 + 1 ∨ BS ≤ j) w9 w' := hSw; have x0 := (World.cell?_of_block (a := ⟨w.heap.size, 1, none⟩) (hSb.block _ fl0.1 fl0.2)).trans f0; have x1 := (World.cell?_of_block (a := ⟨g, o + k, none⟩) (hSb.block _ fl1.1 fl1.2)).trans f1; have x2 := (World.cell?_of_block (a := ⟨g0, o0 + qk, none⟩) (hSb.block _ fl2.1 fl2.2)).trans f2; have x3 := (World.cell?_of_block (a := ⟨QB, y0 qk, none⟩) (hSb.block _ fl3.1 fl3.2)).trans f3
                  go_simp
                  try with_reducible rfl
                simp only [List.setIfInBounds_toArray, List.set_cons_zero, List.set_cons_succ]
                refine hold_take (i := 12) (d := 113) (v := ?vb12) (listed' := #[true, false, true, true, true, true, true, true, true, true, true, true, true, false, false, false, false]) rfl (by kernel_rfl) (by kernel_rfl) (by kernel_rfl) rfl (by rfl) (by kernel_rfl) K1 ?hb12 ?rb12
                case hb12 =>
                  intro w' hSw
                  have hSb : Chg (fun j => j = w.heap.size + 1 + 1 ∨ BS ≤ j) w9 w' := hSw; have x0 := (World.cell?_of_block (a := ⟨w.heap.size, 1, none⟩) (hSb.block _ fl0.1 fl0.2)).trans f0; have x1 := (World.cell?_of_block (a := ⟨g, o + k, none⟩) (hSb.block _ fl1.1 fl1.2)).trans f1; have x2 := (World.cell?_of_block (a := ⟨g0, o0 + qk, none⟩) (hSb.block _ fl2.1 fl2.2)).trans f2; have x3 := (World.cell?_of_block (a := ⟨QB, y0 qk, none⟩) (hSb.block _ fl3.1 fl3.2)).trans f3
                  go_simp
                  try with_reducible rfl
                simp only [List.setIfInBounds_toArray, List.set_cons_zero, List.set_cons_succ]
                clear f0 f1 f2 f3
                refine hold_two (i := 1) (j := 13) (by kernel_rfl) ?ca ?cb
                case ca =>
                  refine opH_value (i := 1) (d := 102) (listed' := #[true, true, true, true, true, true, true, true, true, true, true, true, true, false, false, false, false]) rfl rfl (by rfl) (by kernel_rfl) (v := t) (w' := w9.drew) ?cav1 (Chg.drew (fun j => j = w.heap.size + 1 + 1 ∨ BS ≤ j) w9) ?_
                  case cav1 =>
                    go_simp
                    try with_reducible rfl
                  simp only [List.setIfInBounds_toArray, List.set_cons_zero, List.set_cons_succ]
                  refine hold_value (i := 13) (d := 114) (listed' := #[true, true, true, true, true, true, true, true, true, true, true, true, true, true, false, false, false]) rfl (by kernel_rfl) rfl (by rfl) (by kernel_rfl) (v := .slice (some ⟨w9.heap.size, 0, none⟩) 1 1) (w' := ((w9.drew).alloc (.cells #[.int .i64 ((yy k : Nat) : Int)] 3))) ?cav13 ((Chg.drew (fun j => j = w.heap.size + 1 + 1 ∨ BS ≤ j) w9).trans (Chg.alloc _ _ _)) ?_
                  case cav13 =>
                    go_simp
                    try with_reducible rfl
                  simp only [List.setIfInBounds_toArray, List.set_cons_zero, List.set_cons_succ]
                  refine hold_append (k := 14) (d := 115) (listed' := #[true, true, true, true, true, true, true, true, true, true, true, true, true, true, true, false, false]) rfl (by kernel_rfl) rfl (by kernel_rfl) rfl (.tmp 102) (.tmp 114) 25 rfl (BS) 3 i0 (.int .i64 0) 1 8 Try.underlying25 HI.out HZ0.out HZ1.out HZ2.out rfl (by decide) t k _ (by simp [Act.eval]) (hT1 _) ⟨w9.heap.size, 0, none⟩ 1 1 [.int .i64 ((yy k : Nat) : Int)] (by simp [Act.eval]) rfl (cell_one_new _ _ _) (ma4.out _) ma1.out ma2.out (ma3.out _) ?_
                  intro v6 w6 hown6 hgrow6 hat6
                  have HZ := Lib.hid (HM5.out.more' (hCH _) hYr.out hown6 hgrow6 hat6)
                  have hb6 := (HM5.out.mid (hCH _) hgrow6 htb.out).2
                  have K2 := ((hCH _).mono (T := fun j => j = w.heap.size + 1 + 1 ∨ BS ≤ j) fun _ h => h.elim).trans ((Chg.of_grown (S := fun j => BS ≤ j) hgrow6 htb.out).mono (T := fun j => j = w.heap.size + 1 + 1 ∨ BS ≤ j) fun j hj => .inr hj)
                  obtain ⟨g6, c6, rfl, _⟩ := HZ.out.1.ints.val (by omega)
                  have r0 := hb6.c1
                  have r1 := hb6.f1
                  clear hown6 hgrow6 hat6 hb6
                  refine ⟨K2, ?_⟩
                  simp only [List.setIfInBounds_toArray, List.set_cons_zero, List.set_cons_succ]
                  refine hold_value (i := 15) (d := 116) (listed' := #[true, true, true, true, true, true, true, true, true, true, true, true, true, true, true, true, false]) rfl (by kernel_rfl) rfl (by rfl) (by kernel_rfl) (v := .pointer (some ⟨w.heap.size + 1 + 1, 1, none⟩)) (w' := w6) ?cafa K2 ?_
                  case cafa =>
                    go_simp
                    try with_reducible rfl
                  simp only [List.setIfInBounds_toArray, List.set_cons_zero, List.set_cons_succ]
                  have K3 := K2.trans (Chg.set (S := fun j => j = w.heap.size + 1 + 1 ∨ BS ≤ j) (w := w6) (b := w.heap.size + 1 + 1) (i := 1) (.inl rfl) (.slice (some ⟨g6, 0, none⟩) (k + 1) c6))
                  refine hold_store (i := 16) (w' := (w6.setCell ⟨w.heap.size + 1 + 1, 1, none⟩ (.slice (some ⟨g6, 0, none⟩) (k + 1) c6))) (listed' := #[true, true, true, true, true, true, true, true, true, true, true, true, true, true, true, true, true]) rfl (by kernel_rfl) rfl (by rfl) (by kernel_rfl) ?cast K3 ?_
                  case cast =>
                    go_simp
                    try with_reducible rfl
                  refine hold_done (by kernel_rfl) ?_ _
                  have HC9 := Lib.hid HZ.out
                  clear r0 r1 K1 K2 K3 f4 f4b hT1 hCH
                  go_wp2_with fail
                  go_roundw
                  case rel => exact ⟨k + 1, _, _, _, by omega, by go_num, HX5.out.trans HC9.out.2, HC9.out.1⟩
                  case measure => simp [intOf]; omega
                case cb =>
                  refine opH_value (i := 13) (d := 114) (listed' := #[true, false, true, true, true, true, true, true, true, true, true, true, true, true, false, false, false]) rfl rfl (by rfl) (by kernel_rfl) (v := .slice (some ⟨w9.heap.size, 0, none⟩) 1 1) (w' := ((w9.drew).alloc (.cells #[.int .i64 ((yy k : Nat) : Int)] 3))) ?cbv13 ((Chg.drew (fun j => j = w.heap.size + 1 + 1 ∨ BS ≤ j) w9).trans (Chg.alloc _ _ _)) ?_
                  case cbv13 =>
                    go_simp
                    try with_reducible rfl
                  simp only [List.setIfInBounds_toArray, List.set_cons_zero, List.set_cons_succ]
                  refine hold_value (i := 1) (d := 102) (listed' := #[true, true, true, true, true, true, true, true, true, true, true, true, true, true, false, false, false]) rfl (by kernel_rfl) rfl (by rfl) (by kernel_rfl) (v := t) (w' := ((w9.drew).alloc (.cells #[.int .i64 ((yy k : Nat) : Int)] 3))) ?cbv1 ((Chg.drew (fun j => j = w.heap.size + 1 + 1 ∨ BS ≤ j) w9).trans (Chg.alloc _ _ _)) ?_
                  case cbv1 =>
                    go_simp
                    try with_reducible rfl
                  simp only [List.setIfInBounds_toArray, List.set_cons_zero, List.set_cons_succ]
                  refine hold_append (k := 14) (d := 115) (listed' := #[true, true, true, true, true, true, true, true, true, true, true, true, true, true, true, false, false]) rfl (by kernel_rfl) rfl (by kernel_rfl) rfl (.tmp 102) (.tmp 114) 25 rfl (BS) 3 i0 (.int .i64 0) 1 8 Try.underlying25 HI.out HZ0.out HZ1.out HZ2.out rfl (by decide) t k _ (by simp [Act.eval]) (hT1 _) ⟨w9.heap.size, 0, none⟩ 1 1 [.int .i64 ((yy k : Nat) : Int)] (by simp [Act.eval]) rfl (cell_one_new _ _ _) (ma4.out _) ma1.out ma2.out (ma3.out _) ?_
                  intro v6 w6 hown6 hgrow6 hat6
                  have HZ := Lib.hid (HM5.out.more' (hCH _) hYr.out hown6 hgrow6 hat6)
                  have hb6 := (HM5.out.mid (hCH _) hgrow6 htb.out).2
                  have K2 := ((hCH _).mono (T := fun j => j = w.heap.size + 1 + 1 ∨ BS ≤ j) fun _ h => h.elim).trans ((Chg.of_grown (S := fun j => BS ≤ j) hgrow6 htb.out).mono (T := fun j => j = w.heap.size + 1 + 1 ∨ BS ≤ j) fun j hj => .inr hj)
                  obtain ⟨g6, c6, rfl, _⟩ := HZ.out.1.ints.val (by omega)
                  have r0 := hb6.c1
                  have r1 := hb6.f1
                  clear hown6 hgrow6 hat6 hb6
                  refine ⟨K2, ?_⟩
                  simp only [List.setIfInBounds_toArray, List.set_cons_zero, List.set_cons_succ]
                  refine hold_value (i := 15) (d := 116) (listed' := #[true, true, true, true, true, true, true, true, true, true, true, true, true, true, true, true, false]) rfl (by kernel_rfl) rfl (by rfl) (by kernel_rfl) (v := .pointer (some ⟨w.heap.size + 1 + 1, 1, none⟩)) (w' := w6) ?cbfa K2 ?_
                  case cbfa =>
                    go_simp
                    try with_reducible rfl
                  simp only [List.setIfInBounds_toArray, List.set_cons_zero, List.set_cons_succ]
                  have K3 := K2.trans (Chg.set (S := fun j => j = w.heap.size + 1 + 1 ∨ BS ≤ j) (w := w6) (b := w.heap.size + 1 + 1) (i := 1) (.inl rfl) (.slice (some ⟨g6, 0, none⟩) (k + 1) c6))
                  refine hold_store (i := 16) (w' := (w6.setCell ⟨w.heap.size + 1 + 1, 1, none⟩ (.slice (some ⟨g6, 0, none⟩) (k + 1) c6))) (listed' := #[true, true, true, true, true, true, true, true, true, true, true, true, true, true, true, true, true]) rfl (by kernel_rfl) rfl (by rfl) (by kernel_rfl) ?cbst K3 ?_
                  case cbst =>
                    go_simp
                    try with_reducible rfl
                  refine hold_done (by kernel_rfl) ?_ _
                  have HC9 := Lib.hid HZ.out
                  clear r0 r1 K1 K2 K3 f4 f4b hT1 hCH
                  go_wp2_with fail
                  go_roundw
                  case rel => exact ⟨k + 1, _, _, _, by omega, by go_num, HX5.out.trans HC9.out.2, HC9.out.1⟩
                  case measure => simp [intOf]; omega
          · have hlt' : ¬ (k : Int) < (m0.n : Int) := by omega
            obtain rfl : k = m0.n := by omega
            have hL := hM.made (by omega) (by omega)
            obtain ⟨gu, cu, rfl, _⟩ := hL.out.topv (by omega)
            obtain ⟨gt, ct, rfl, _⟩ := hL.ints.val (by omega)
            have q0 := hM.box.c0
            have q1 := hM.box.c1
            have p0' := hXR.f0
            have p1' := hXR.f1
            have p2' := hXR.c0
            have p3' := hXR.c1
            have HL2 := Lib.hid hL
            have HX := Lib.hid hXR
            have HBW := Lib.hid BW
            clear hM hL hXR BW hC hCB hXA hk hlt
            go_wp2_with fail
            have hfin := (HX.out.set0 (.slice (some ⟨gu, 0, none⟩) m0.n cu)).set1 (.slice (some ⟨gt, 0, none⟩) m0.n ct)
            have t0 := hfin.c0
            have t1 := hfin.c1
            have hon := set2_only wr (w.heap.size + 1) (.slice (some ⟨gu, 0, none⟩) m0.n cu) (.slice (some ⟨gt, 0, none⟩) m0.n ct)
            refine bodyPost_ret (v := .agg #[.slice (some ⟨gu, 0, none⟩) m0.n cu, .slice (some ⟨gt, 0, none⟩) m0.n ct]) (by simp [results, Try.results36, go_sem, t0, t1]) rfl ⟨HBW.out.trans (hon.below fun j hj => by have hj' : j = w.heap.size + 1 := hj; omega), .inr ⟨HE.out, _, _, rv, rfl, ((HL2.out.chg (Chg.of_only hon) fun j hj => ?_).base (by omega))⟩⟩
            have hj' : j = w.heap.size + 1 := hj
            omega
      · have HE : Hid (ok = false) := by
          show _ = _
          rw [HOK.out]
          cases he : eachB m0.n m0.n z with
          | false => rfl
          | true =>
            obtain ⟨_, hE⟩ := eachB_is he
            refine absurd (HF.out.2 fun a ha => ⟨placeN m0.n z a, hE.perm.blt a ha, ?_⟩) hs
            rw [HQ.out]
            exact hE.perm.qb a ha
        have esn : ((sn : Int) != (pm : Int)) = true := by simp; omega
        clear hs hI hH HF
        have r0 := xr.c0
        have r1 := xr.c1
        have r2 := xr.f0
        have r3 := xr.f1
        have o0' := xo.c0
        have o1' := xo.c1
        go_wp2_with fail
        have hfin := (xr.set0 (.slice none 0 0)).set1 (.slice none 0 0)
        have f0' := hfin.c0
        have f1' := hfin.c1
        exact bodyPost_ret (v := noLog) (by simp [results, Try.results36, go_sem, f0', f1', noLog]) rfl (madeLog_no (by omega) BW HE.out)

set_option maxRecDepth 100000 in
set_option maxHeartbeats 1000000 in
theorem spec_Renamed_noa {w : World} {d0 : LD} {B n cap N : Nat} {a : Option Addr} {Z : Nat → Nat → Int} {y : Nat → Nat} (h0 : d0.At w B) (e0 : d0.ok = false) :
    Calls Try.prog 36 #[.agg #[d0.u, d0.t], .slice a n cap] w (MadeLog w N Z y false) := by
  have HL0 : Hid (logicB d0.m d0.k d0.z = false) := e0
  skip
  have H0 := Lib.hid h0
  have xa := TwoAt.new w d0.u d0.t 27
  have ba := (Below.refl w.heap.size w).alloc (Nat.le_refl _) (.cells #[d0.u, d0.t] 27)
  have xr := TwoAt.new (w.alloc (.cells #[d0.u, d0.t] 27)) (.slice none 0 0) (.slice none 0 0) 27
  have bb := (Below.refl (w.heap.size + 1) (w.alloc (.cells #[d0.u, d0.t] 27))).alloc (by simp) (.cells #[.slice none 0 0, .slice none 0 0] 27)
  simp only [World.size_alloc] at xr
  have xo := TwoAt.new ((w.alloc (.cells #[d0.u, d0.t] 27)).alloc (.cells #[.slice none 0 0, .slice none 0 0] 27)) (.slice none 0 0) (.slice none 0 0) 27
  have bc := (Below.refl (w.heap.size + 1 + 1) ((w.alloc (.cells #[d0.u, d0.t] 27)).alloc (.cells #[.slice none 0 0, .slice none 0 0] 27))).alloc (by simp) (.cells #[.slice none 0 0, .slice none 0 0] 27)
  simp only [World.size_alloc] at xo
  replace xa := (xa.below bb (by omega)).below bc (by omega)
  replace xr := xr.below bc (by omega)
  have B0 := (ba.trans (bb.mono (by omega))).trans (bc.mono (by omega))
  have s0 : w.heap.size + 1 + 1 < (((w.alloc (.cells #[d0.u, d0.t] 27)).alloc (.cells #[.slice none 0 0, .slice none 0 0] 27)).alloc (.cells #[.slice none 0 0, .slice none 0 0] 27)).heap.size := by simp
  clear ba bb bc h0 e0
  go_enter Try.func36, Try.ntmps36
  have q0 := xa.c0
  have q1 := xa.c1
  go_wp2_with fail
  generalize ((w.alloc (.cells #[d0.u, d0.t] 27)).alloc (.cells #[.slice none 0 0, .slice none 0 0] 27)).alloc (.cells #[.slice none 0 0, .slice none 0 0] 27) = w2 at xa xr xo B0 s0 q0 q1 ⊢
  go_at_call 27
  refine (spec_LogicOk (LogAt.step H0.out B0)).mono ?_
  rintro e w3 ⟨rfl, b3⟩
  rw [HL0.out]
  have s3 := b3.size
  have B3 := B0.trans (b3.mono B0.size)
  replace xa := xa.below b3 (by omega)
  replace xr := xr.below b3 (by omega)
  replace xo := xo.below b3 (by omega)
  clear q0 q1 B0 b3
  have q1 := xa.c1
  have r0 := xr.c0
  have r1 := xr.c1
  have r2 := xr.f0
  have r3 := xr.f1
  have o0' := xo.c0
  have o1' := xo.c1
  go_wp2_with fail
  have hfin := (xr.set0 (.slice none 0 0)).set1 (.slice none 0 0)
  have f0' := hfin.c0
  have f1' := hfin.c1
  exact bodyPost_ret (v := noLog) (by simp [results, Try.results36, go_sem, f0', f1', noLog]) rfl (madeLog_no (by omega) B3 rfl)

set_option maxRecDepth 100000 in
set_option maxHeartbeats 1000000 in
theorem spec_Renamed_nob {w : World} {d0 : LD} {B n cap N : Nat} {a : Option Addr} {Z : Nat → Nat → Int} {y : Nat → Nat} (h0 : d0.At w B) (e0 : d0.ok = true) (hk : ¬ n = d0.k) :
    Calls Try.prog 36 #[.agg #[d0.u, d0.t], .slice a n cap] w (MadeLog w N Z y false) := by
  have HL0 : Hid (logicB d0.m d0.k d0.z = true) := e0
  have hne : ((n : Int) != (d0.k : Int)) = true := by simp; omega
  have H0 := Lib.hid h0
  have xa := TwoAt.new w d0.u d0.t 27
  have ba := (Below.refl w.heap.size w).alloc (Nat.le_refl _) (.cells #[d0.u, d0.t] 27)
  have xr := TwoAt.new (w.alloc (.cells #[d0.u, d0.t] 27)) (.slice none 0 0) (.slice none 0 0) 27
  have bb := (Below.refl (w.heap.size + 1) (w.alloc (.cells #[d0.u, d0.t] 27))).alloc (by simp) (.cells #[.slice none 0 0, .slice none 0 0] 27)
  simp only [World.size_alloc] at xr
  have xo := TwoAt.new ((w.alloc (.cells #[d0.u, d0.t] 27)).alloc (.cells #[.slice none 0 0, .slice none 0 0] 27)) (.slice none 0 0) (.slice none 0 0) 27
  have bc := (Below.refl (w.heap.size + 1 + 1) ((w.alloc (.cells #[d0.u, d0.t] 27)).alloc (.cells #[.slice none 0 0, .slice none 0 0] 27))).alloc (by simp) (.cells #[.slice none 0 0, .slice none 0 0] 27)
  simp only [World.size_alloc] at xo
  replace xa := (xa.below bb (by omega)).below bc (by omega)
  replace xr := xr.below bc (by omega)
  have B0 := (ba.trans (bb.mono (by omega))).trans (bc.mono (by omega))
  have s0 : w.heap.size + 1 + 1 < (((w.alloc (.cells #[d0.u, d0.t] 27)).alloc (.cells #[.slice none 0 0, .slice none 0 0] 27)).alloc (.cells #[.slice none 0 0, .slice none 0 0] 27)).heap.size := by simp
  clear ba bb bc h0 e0
  go_enter Try.func36, Try.ntmps36
  have q0 := xa.c0
  have q1 := xa.c1
  go_wp2_with fail
  generalize ((w.alloc (.cells #[d0.u, d0.t] 27)).alloc (.cells #[.slice none 0 0, .slice none 0 0] 27)).alloc (.cells #[.slice none 0 0, .slice none 0 0] 27) = w2 at xa xr xo B0 s0 q0 q1 ⊢
  go_at_call 27
  refine (spec_LogicOk (LogAt.step H0.out B0)).mono ?_
  rintro e w3 ⟨rfl, b3⟩
  rw [HL0.out]
  have s3 := b3.size
  have B3 := B0.trans (b3.mono B0.size)
  replace xa := xa.below b3 (by omega)
  replace xr := xr.below b3 (by omega)
  replace xo := xo.below b3 (by omega)
  clear q0 q1 B0 b3
  have q1 := xa.c1
  have r0 := xr.c0
  have r1 := xr.c1
  have r2 := xr.f0
  have r3 := xr.f1
  have o0' := xo.c0
  have o1' := xo.c1
  go_wp2_with fail
  have hfin := (xr.set0 (.slice none 0 0)).set1 (.slice none 0 0)
  have f0' := hfin.c0
  have f1' := hfin.c1
  exact bodyPost_ret (v := noLog) (by simp [results, Try.results36, go_sem, f0', f1', noLog]) rfl (madeLog_no (by omega) B3 rfl)

theorem spec_Renamed_any {w : World} {d0 : LD} {B : Nat} {a : Option Addr} {g o n cap : Nat} {z : Nat → Int} (h0 : d0.At w B) (hr : RowAt w w.heap.size a g o n z) :
    Calls Try.prog 36 #[.agg #[d0.u, d0.t], .slice a n cap] w (MadeLog w n (nameZ d0.m.Z (fun c => (z c).toNat)) (fun x => placeN n z (d0.y (z x).toNat)) (d0.ok && eachB d0.m.n n z)) := by
  cases e0 : d0.ok with
  | false => exact spec_Renamed_noa h0 e0
  | true =>
    obtain ⟨o0, i0⟩ := LD.isY h0 e0
    by_cases hk : n = d0.k
    · obtain rfl : n = d0.m.n := hk.trans i0.len
      exact spec_Renamed_yes i0 hr
    · rw [eachB_len (show n ≠ d0.m.n by rw [← i0.len]; exact hk)]
      exact spec_Renamed_nob h0 e0 hk
end Go.Proofs.Ytgjacinolenheaa
