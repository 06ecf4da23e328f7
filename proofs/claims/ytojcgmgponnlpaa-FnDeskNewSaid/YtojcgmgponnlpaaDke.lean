/- The laws' sizes, copies, marks of desks. -/
import Derived.Test.YtojcgmgponnlpaaDkd
import Derived.Lib.SmallJoins
import Derived.OwnWalk
import Derived.Laws.MakeOwn
namespace Go.Proofs.Ytojcgmgponnlpaa
open Go.RowKit Go.Deep Go.Joins

/-! ### sizes -/
theorem small_take {P : List Lc} {k : Nat} {c : Lc} (h : P[k]? = some c) (hc : c.Small) (hall : ∀ x ∈ P.take k, x.Small) : ∀ x ∈ P.take (k + 1), x.Small := by
  rw [List.take_add_one, h]
  intro x hx
  rcases List.mem_append.1 hx with hx | hx
  · exact hall x hx
  · obtain rfl : x = c := by simpa using hx
    exact hc
set_option maxRecDepth 100000 in
set_option maxHeartbeats 4000000 in
theorem szLogicS_any {v0 : Int} (h00 : 0 ≤ v0) (h01 : v0 ≤ 1048576) {w : World} {B : Nat} {a : Option Addr} {g o n cap : Nat} {P : List Lc} (h : PsAt w B a g o P) (hB : B ≤ w.heap.size) (hn : P.length = n) (hn63 : n ≤ 9223372036854775807) :
    Calls Try.prog 36 #[.slice a n cap, .int .i64 v0] w fun e w' => (∃ v : Int, e = .returned (.int .i64 v) ∧ (v < 0 ∨ (0 ≤ v ∧ v ≤ 1048576 ∧ n ≤ 1048576 ∧ ∀ c ∈ P, c.Small))) ∧ Below w.heap.size w w' := by
  have HN := Lib.hid hn
  have HP := Lib.hid h
  have u1 : IntKind.i64.wrap (v0 - (n : Int)) = v0 - (n : Int) := by rw [IntKind.wrap_i64]; omega
  clear h hn
  by_cases hbig : v0 < (n : Int)
  · have hb' : v0 - (n : Int) < 0 := by omega
    go_enter Try.func36, Try.ntmps36
    go_wp2_with fail
    go_ret
    exact ⟨⟨-1, rfl, .inl (by omega)⟩, Below.refl _ _⟩
  have hb' : ¬ v0 - (n : Int) < 0 := by omega
  go_enter Try.func36, Try.ntmps36
  go_wp2_with fail
  clear u1
  go_loopw [1, 5] (fun t i wr => ∃ (k : Nat) (v : Int), k ≤ n ∧ i = .int .i64 k ∧ t = .int .i64 v ∧ 0 ≤ v ∧ v ≤ 1048576 ∧ Below w.heap.size w wr ∧ Hid (∀ c ∈ P.take k, c.Small)) (fun _ i _ => n - (RowKit.intOf i).toNat)
  case atStart => exact ⟨0, v0 - n, Nat.zero_le _, rfl, rfl, by omega, by omega, Below.refl _ _, fun c hc => absurd hc (by simp)⟩
  case round =>
    obtain ⟨k, v, hk, rfl, rfl, hv0, hv1, hB1, hM⟩ := hrel
    by_cases hlt : k < n
    · have hlt' : (k : Int) < n := by omega
      have hk0 : (0 : Int) ≤ k := by omega
      obtain ⟨c, hc⟩ : ∃ c, P[k]? = some c := ⟨_, List.getElem?_eq_getElem (by rw [HN.out]; exact hlt)⟩
      have HC := Lib.hid hc
      obtain ⟨rfl, hg, _, _, c0, c1, ua', l', na', g', o', nc', rfl, rfl, hL'⟩ := (HP.out.step hB1 hB) k c hc
      have HL' := Lib.hid hL'
      clear hc hL'
      go_wp2_with fail
      go_at_call 35
      refine (szLogic_v hv0 hv1 HL'.out).mono ?_
      rintro e w2 ⟨⟨v2, rfl, hv⟩, b2⟩
      have B2 := hB1.trans (b2.mono hB1.size)
      by_cases hneg : v2 < 0
      · clear c0 c1 hv
        go_wp2_with fail
        go_ret
        exact ⟨⟨-1, rfl, .inl (by omega)⟩, B2⟩
      · obtain ⟨s1, s2, s3, hw0, hw1⟩ := hv.resolve_left hneg
        have HT := Lib.hid (small_take HC.out ⟨s1, s2, s3⟩ hM.out)
        clear c0 c1 s1 s2 s3
        go_wp2_with fail
        exact ⟨⟨k + 1, v2, by omega, by go_num, rfl, hw0, hw1, B2, HT⟩, by simp [RowKit.intOf]; omega⟩
    · have hlt' : ¬ (k : Int) < n := by omega
      have HA : Hid (∀ c ∈ P, c.Small) := fun c hc => hM.out c (by rw [List.take_of_length_le (by have := HN.out; omega)]; exact hc)
      go_wp2_with fail
      go_ret
      exact ⟨⟨_, rfl, .inr ⟨hv0, hv1, by omega, HA.out⟩⟩, hB1⟩
set_option maxRecDepth 100000 in
set_option maxHeartbeats 4000000 in
theorem szDesk_any {v0 : Int} (h00 : 0 ≤ v0) (h01 : v0 ≤ 1048576) {w : World} {B : Nat} {v : Value} {D : Dk Lc} (h : DeskAt w B v D) :
    Calls Try.prog 18 #[v, .int .i64 v0] w fun e w' => (∃ x : Int, e = .returned (.int .i64 x) ∧ (x < 0 ∨ (0 ≤ x ∧ x ≤ 1048576 ∧ D.Small))) ∧ Below w.heap.size w w' := by
  obtain ⟨ua, l, na, g, o, nc, pa, pg, po, pc, rfl, hL, hP, hn63⟩ := h
  obtain ⟨n, hn⟩ : ∃ n, D.past.length = n := ⟨_, rfl⟩
  have HN := Lib.hid hn
  rw [hn] at hn63 ⊢
  have X := BoxN.start w #[.slice ua D.now.m.n l.cap, .slice na D.now.k nc, .slice pa n pc] 44
  have b0 := X.below
  have hBw := hL.hB
  have HL := Lib.hid (hL.step b0)
  have HP := Lib.hid (hP.step b0 hBw)
  have q0 := X.cell 0 rfl
  have q1 := X.cell 1 rfl
  have q2 := X.cell 2 rfl
  have hXW := X.size
  clear hL hP hn
  go_enter Try.func18, Try.ntmps18
  go_wp2_with fail
  generalize w.alloc (.cells #[.slice ua D.now.m.n l.cap, .slice na D.now.k nc, .slice pa n pc] 44) = W at X b0 HL HP q0 q1 q2 hXW ⊢
  go_at_call 35
  refine (szLogic_v h00 h01 HL.out).mono ?_
  rintro e w2 ⟨⟨v2, rfl, hv⟩, b2⟩
  have X2 := X.step b2
  have B2 := b0.trans (b2.mono b0.size)
  have HP2 := Lib.hid (HP.out.step b2 (by omega))
  have hz2 := b2.size
  clear q0 q1 q2
  have q2 := X2.cell 2 rfl
  by_cases hneg : v2 < 0
  · clear hv
    go_wp2_with fail
    go_ret
    exact ⟨⟨-1, rfl, .inl (by omega)⟩, B2⟩
  · obtain ⟨s1, s2, s3, hw0, hw1⟩ := hv.resolve_left hneg
    have HS : Hid D.now.Small := ⟨s1, s2, s3⟩
    clear s1 s2 s3 hv
    go_wp2_with fail
    go_at_call 36
    refine (szLogicS_any hw0 hw1 HP2.out (by omega) HN.out hn63).mono ?_
    rintro e w3 ⟨⟨v3, rfl, hv3⟩, b3⟩
    have B3 := B2.trans (b3.mono B2.size)
    by_cases hneg3 : v3 < 0
    · clear hv3
      go_wp2_with fail
      go_ret
      exact ⟨⟨-1, rfl, .inl (by omega)⟩, B3⟩
    · obtain ⟨t0, t1, t2, t3⟩ := hv3.resolve_left hneg3
      have HT := Lib.hid t3
      clear t3 hv3
      go_wp2_with fail
      go_ret
      exact ⟨⟨_, rfl, .inr ⟨t0, t1, HS.out, HT.out, by rw [HN.out]; exact t2⟩⟩, B3⟩

/-! ### copies -/
theorem infoLogic : (Try.prog.info? 26).map (fun i => (i.zero, i.size, i.bytes)) = some (some (.agg #[.slice none 0 0, .slice none 0 0]), 2, 48) := by kernel_rfl
/-- A row of logics under way: i of n laid. -/
def LaidL (w : World) (b n i : Nat) (X : List Iv) (P : List Lc) : Prop := ∃ cur : Array Value, w.heap[b]? = some (.cells cur 26) ∧ cur.size = n * 2 ∧ X.length = i ∧ (∀ j y c, X[j]? = some y → P[j]? = some c → CW w y c ∧ cur[j * 2]? = some y.u ∧ cur[j * 2 + 1]? = some y.t) ∧ X.Pairwise Iv.Apart ∧ ∀ y ∈ X, b < y.lo ∧ y.hi ≤ w.heap.size
theorem LaidL.cell {w : World} {b n i : Nat} {X : List Iv} {P : List Lc} (h : LaidL w b n i X P) {p : Nat} (hp : p < n * 2) : ∃ v, w.cell? ⟨b, p, none⟩ = some v := by
  obtain ⟨cur, hb, hs, _⟩ := h
  exact ⟨_, (cell_of_block hb p).trans (Array.getElem?_eq_getElem (by omega))⟩
theorem LaidL.frozen {w : World} {b n i : Nat} {X : List Iv} {P : List Lc} (h : LaidL w b n i X P) (p : Nat) : w.frozen? ⟨b, p, none⟩ = false := by
  obtain ⟨cur, hb, _⟩ := h
  exact unfrozen_of_block hb p
theorem LaidL.below {w w' : World} {b n i : Nat} {X : List Iv} {P : List Lc} (h : LaidL w b n i X P) (hb : Below w.heap.size w w') : LaidL w' b n i X P := by
  obtain ⟨cur, hk, h2, h3, h4, h5, h6⟩ := h
  refine ⟨cur, (hb.block b (Array.getElem?_eq_some_iff.1 hk).1).trans hk, h2, h3, fun j y c hy hc => ?_, h5, fun y hy => ⟨(h6 y hy).1, Nat.le_trans (h6 y hy).2 hb.size⟩⟩
  obtain ⟨a1, a2, a3⟩ := h4 j y c hy hc
  exact ⟨a1.chg (Chg.of_below (S := fun _ => False) hb fun j h1 h2 => absurd h1 (by omega)) fun _ hj => hj.elim, a2, a3⟩
theorem LaidL.put {w w1 : World} {b n i : Nat} {X : List Iv} {P : List Lc} {y : Iv} {c : Lc} (h : LaidL w b n i X P) (hb : Below w.heap.size w w1) (hw : CW w1 y c) (hy : y.lo = w.heap.size) (hi : i < n) (hP : P[i]? = some c) :
    LaidL ((w1.setCell ⟨b, i * 2, none⟩ y.u).setCell ⟨b, i * 2 + 1, none⟩ y.t) b n (i + 1) (X ++ [y]) P := by
  obtain ⟨cur, hk, h2, h3, h4, h5, h6⟩ := h
  have hbw : b < w.heap.size := (Array.getElem?_eq_some_iff.1 hk).1
  have hk1 : w1.heap[b]? = some (.cells cur 26) := (hb.block b hbw).trans hk
  have hb2 := block_setCell (block_setCell (i := i * 2) hk1 y.u) (i := i * 2 + 1) y.t
  have hc1 : Chg (fun j => j = b) w w1 := Chg.of_below hb fun j h1 h2 => absurd h1 (by omega)
  have hc2 : Chg (fun j => j = b) w1 ((w1.setCell ⟨b, i * 2, none⟩ y.u).setCell ⟨b, i * 2 + 1, none⟩ y.t) := (Chg.set (S := fun j => j = b) (b := b) (i := i * 2) rfl y.u).trans (Chg.set (S := fun j => j = b) (b := b) (i := i * 2 + 1) rfl y.t)
  have hsz := hc2.size
  have hbs := hb.size
  have hhi := hw.hi
  refine ⟨_, hb2, by simp [h2], by rw [List.length_append, h3]; rfl, fun j y' c' hy' hc' => ?_, ?_, fun y' hy' => ?_⟩
  · have hsz2 : i * 2 + 1 < cur.size := by omega
    by_cases hji : j = i
    · subst hji
      obtain rfl : c = c' := Option.some.inj (hP.symm.trans hc')
      have e : (X ++ [y])[j]? = some y := by rw [← h3]; exact List.getElem?_concat_length ..
      obtain rfl : y = y' := Option.some.inj (e.symm.trans hy')
      refine ⟨hw.chg hc2 fun q hq => ?_, ?_, ?_⟩
      · have hq' : q = b := hq
        omega
      · rw [Array.getElem?_setIfInBounds_ne (by omega), Array.getElem?_setIfInBounds_self_of_lt (by omega)]
      · rw [Array.getElem?_setIfInBounds_self_of_lt (by simp; omega)]
    · have hjl : j < X.length := by
        have := (List.getElem?_eq_some_iff.1 hy').1
        rw [List.length_append, List.length_singleton] at this
        omega
      rw [List.getElem?_append_left hjl] at hy'
      obtain ⟨a1, a2, a3⟩ := h4 j y' c' hy' hc'
      have a4 := h6 y' (List.mem_of_getElem? hy')
      refine ⟨a1.chg (hc1.trans hc2) fun q hq => ?_, ?_, ?_⟩
      · have hq' : q = b := hq
        omega
      · rw [Array.getElem?_setIfInBounds_ne (by omega), Array.getElem?_setIfInBounds_ne (by omega)]; exact a2
      · rw [Array.getElem?_setIfInBounds_ne (by omega), Array.getElem?_setIfInBounds_ne (by omega)]; exact a3
  · refine List.pairwise_append.2 ⟨h5, List.pairwise_singleton .., fun x hx z hz => ?_⟩
    rw [List.mem_singleton] at hz
    rw [hz]
    have := h6 x hx
    exact .inl (by omega)
  · rcases List.mem_append.1 hy' with h7 | h7
    · have := h6 y' h7
      omega
    · rw [List.mem_singleton] at h7
      rw [h7]
      omega
/-- What a copy of a list of logics is. -/
def CopyP (P : List Lc) (n : Nat) (w : World) (e : Ending) (w' : World) : Prop :=
  Below w.heap.size w w' ∧ w.heap.size < w'.heap.size ∧ e = .returned (.slice (some ⟨w.heap.size, 0, none⟩) n n) ∧ ∃ X, PsW w' (some ⟨w.heap.size, 0, none⟩) w.heap.size 0 X P ∧ X.Pairwise Iv.Apart ∧ ∀ y ∈ X, w.heap.size < y.lo ∧ y.hi ≤ w'.heap.size
theorem LaidL.psW {w : World} {b n : Nat} {X : List Iv} {P : List Lc} (h : LaidL w b n n X P) (hn : P.length = n) : PsW w (some ⟨b, 0, none⟩) b 0 X P := by
  obtain ⟨cur, hk, h2, h3, h4, h5, h6⟩ := h
  refine ⟨by rw [h3, hn], fun j y c hy hc => ?_⟩
  obtain ⟨a1, a2, a3⟩ := h4 j y c hy hc
  rw [Nat.zero_add]
  exact ⟨a1, rfl, (Array.getElem?_eq_some_iff.1 hk).1, (cell_of_block hk _).trans a2, (cell_of_block hk _).trans a3⟩
set_option maxRecDepth 100000 in
set_option maxHeartbeats 4000000 in
theorem toLogicS_any {w : World} {B : Nat} {a : Option Addr} {g o n cap : Nat} {P : List Lc} (h : PsAt w B a g o P) (hB : B ≤ w.heap.size) (hn : P.length = n) (hs : ∀ c ∈ P, c.Small) (hn20 : n ≤ 1048576) :
    Calls Try.prog 38 #[.slice a n cap] w (CopyP P n w) := by
  obtain ⟨i0, hi, hz0, hz1, hz2⟩ := info_parts infoLogic
  have hmk := fun w : World => run_make (P := Try.prog) w 27 26 i0 (.agg #[.slice none 0 0, .slice none 0 0]) Try.underlying27 hi hz0 .i64 .i64 (n : Int) (n : Int) (by omega) (Int.le_refl _) (by rw [hz2]; omega) (by omega)
  rw [hz1] at hmk
  have e9 : (Value.agg #[.slice none 0 0, .slice none 0 0]).cells = #[.slice none 0 0, .slice none 0 0] := rfl
  simp only [Int.toNat_natCast, e9] at hmk
  clear e9
  have hL0 : LaidL (w.alloc (.cells (madeCells #[.slice none 0 0, .slice none 0 0] (n * 2)) 26)) w.heap.size n 0 [] P := ⟨_, World.alloc_heap_new w _, size_madeCells _ _, rfl, fun j y c hy => by simp at hy, List.Pairwise.nil, fun y hy => absurd hy (by simp)⟩
  have hb0 := (Below.refl w.heap.size w).alloc (Nat.le_refl _) (.cells (madeCells #[.slice none 0 0, .slice none 0 0] (n * 2)) 26)
  have hs0 : w.heap.size < (w.alloc (.cells (madeCells #[.slice none 0 0, .slice none 0 0] (n * 2)) 26)).heap.size := by simp
  have HP := Lib.hid h
  have HN := Lib.hid hn
  have HS := Lib.hid hs
  clear hi hz0 hz1 hz2 h hn hs
  go_enter Try.func38, Try.ntmps38
  go_wp2_with fail
  generalize w.alloc (.cells (madeCells #[.slice none 0 0, .slice none 0 0] (n * 2)) 26) = W at hL0 hb0 hs0 ⊢
  clear hmk
  go_loopw [4] (fun i wr => ∃ (k : Nat) (X : List Iv), k ≤ n ∧ i = .int .i64 (k : Int) ∧ LaidL wr w.heap.size n k X P ∧ Below w.heap.size w wr ∧ w.heap.size < wr.heap.size) (fun i _ => n - (RowKit.intOf i).toNat)
  case atStart => exact ⟨0, [], Nat.zero_le _, rfl, hL0, hb0, hs0⟩
  case round =>
    obtain ⟨k, X, hk, rfl, hL, hB1, hs1⟩ := hrel
    by_cases hlt : k < n
    · have hlt' : (k : Int) < n := by omega
      have hk0 : (0 : Int) ≤ k := by omega
      obtain ⟨c, hc⟩ : ∃ c, P[k]? = some c := ⟨_, List.getElem?_eq_getElem (by rw [HN.out]; exact hlt)⟩
      have HC := Lib.hid hc
      obtain ⟨rfl, hg, _, _, c0, c1, ua', l', na', g', o', nc', rfl, rfl, hL'⟩ := (HP.out.step hB1 hB) k c hc
      have HL' := Lib.hid hL'
      have HSm := Lib.hid (HS.out c (List.mem_of_getElem? hc))
      clear hc hL'
      go_wp2_with fail
      go_at_call 37
      refine (toLogic_w HL'.out HSm.out.n HSm.out.L HSm.out.k).mono ?_
      rintro e w2 ⟨N, q, rfl, hW2, b2⟩
      have hL2 := hL.below b2
      have B2 := hB1.trans (b2.mono hB1.size)
      have hs2 : w.heap.size < w2.heap.size := Nat.lt_of_lt_of_le hs1 b2.size
      obtain ⟨v0, g0⟩ := hL2.cell (p := k * 2) (by omega)
      obtain ⟨v1, g1⟩ := hL2.cell (p := k * 2 + 1) (by omega)
      have f0 := hL2.frozen (k * 2)
      have f1 := hL2.frozen (k * 2 + 1)
      have hL3 := hL.put (y := ⟨.slice (some ⟨N, 0, none⟩) c.m.n c.m.n, .slice (some ⟨q, 0, none⟩) c.k c.k, wr.heap.size, w2.heap.size⟩) b2 ⟨_, _, _, _, _, rfl, rfl, hW2⟩ rfl hlt HC.out
      have B3 := (B2.setCell (p := ⟨w.heap.size, k * 2, none⟩) (Nat.le_refl _) (.slice (some ⟨N, 0, none⟩) c.m.n c.m.n)).setCell (p := ⟨w.heap.size, k * 2 + 1, none⟩) (Nat.le_refl _) (.slice (some ⟨q, 0, none⟩) c.k c.k)
      have hs3 : w.heap.size < ((w2.setCell ⟨w.heap.size, k * 2, none⟩ (.slice (some ⟨N, 0, none⟩) c.m.n c.m.n)).setCell ⟨w.heap.size, k * 2 + 1, none⟩ (.slice (some ⟨q, 0, none⟩) c.k c.k)).heap.size := by simp; exact hs2
      dsimp only at hL3
      clear c0 c1 hL hL2 hW2
      go_wp2_with fail
      exact ⟨⟨k + 1, _, by omega, by go_num, hL3, B3, hs3⟩, by simp [RowKit.intOf]; omega⟩
    · have hlt' : ¬ (k : Int) < n := by omega
      obtain rfl : k = n := by omega
      have HE : Hid (∃ X, PsW wr (some ⟨w.heap.size, 0, none⟩) w.heap.size 0 X P ∧ X.Pairwise Iv.Apart ∧ ∀ y ∈ X, w.heap.size < y.lo ∧ y.hi ≤ wr.heap.size) := by
        have h1 := hL.psW HN.out
        obtain ⟨cur, hk, h2, h3, h4, h5, h6⟩ := hL
        exact ⟨X, h1, h5, h6⟩
      clear hL
      go_wp2_with fail
      go_ret
      exact ⟨hB1, hs1, rfl, HE.out⟩
end Go.Proofs.Ytojcgmgponnlpaa
