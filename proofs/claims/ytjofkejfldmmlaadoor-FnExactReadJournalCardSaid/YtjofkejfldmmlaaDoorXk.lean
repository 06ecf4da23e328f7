/- Lists of deeds: an argument that is one, opened; the laws' sizes, copies and comparisons of them; the law on JournalText against the reference. -/
import Derived.Test.YtjofkejfldmmlaaDoorXj
import Derived.Test.YtjofkejfldmmlaaDoorXz
namespace Go.Proofs.YtjofkejfldmmlaaDoor
open Go.ChangeShapes Go.WideShapes Go.RowKit Go.Deep Go.Joins

theorem addr_add (b o j : Nat) : (⟨b, o, none⟩ : Addr).add j = ⟨b, o + j, none⟩ := by unfold Addr.add; split <;> simp_all
theorem cells_some {w : World} {base : Nat} {a : Addr} {n : Nat} {cs : List Value} (h : w.cells? base a n = some cs) {j : Nat} {v : Value} (hj : cs[j]? = some v) : w.cell? (a.add j) = some v := by
  obtain ⟨_, hl, hat⟩ := World.cells?_some h
  have hlt : j < n := by have := (List.getElem?_eq_some_iff.1 hj).1; omega
  rw [hat j hlt]; exact hj
set_option maxRecDepth 100000 in
theorem open_deeds {H : Type} {enc : TypeId × Value → H} {W : World} {base : Nat} {v : Value} {d : DataW H} {p : List MemPlace}
    (hv : Value.okWide Tryd.prog W .any base 43 v) (h : DataW.Trod enc Tryd.prog W 0 (fun _ => true) true 43 v d p) :
    ∃ (a : Option Addr) (n c : Nat) (D : List Dd), v = .slice a n c ∧ n = D.length ∧ n ≤ 9223372036854775807 ∧ ∃ g o, DsAt W W.heap.size a g o D := by
  obtain ⟨a, len, cap, rfl⟩ := okWide_slice Tryd.underlying43 hv
  obtain ⟨fuel, hf⟩ := h
  rcases open_slice Tryd.underlying43 hf with ⟨hcs, _⟩ | ⟨a', len', cap', m, n', Dd', Pl, hcs, _, hl, hm, hmm, _, hel⟩
  · simp only [Value.cells, List.cons.injEq, and_true, Value.slice.injEq] at hcs
    obtain ⟨rfl, rfl, rfl⟩ := hcs
    exact ⟨none, 0, 0, [], rfl, rfl, Nat.zero_le _, 0, 0, fun j d hd => by simp at hd⟩
  · simp only [Value.cells, List.cons.injEq, and_true, Value.slice.injEq] at hcs
    obtain ⟨rfl, rfl, rfl⟩ := hcs
    simp only [if_true] at hmm
    have hml : maxLen = 9223372036854775807 := rfl
    have hall : ∀ i, i < len → ∃ d : Dd, W.cell? (a'.add (i * 3)) = some (.int .i64 d.k) ∧ W.cell? ((a'.add (i * 3)).add 1) = some (.int .i64 d.a) ∧ W.cell? ((a'.add (i * 3)).add 2) = some (.int .i64 d.b) := fun i hi => by
      obtain ⟨cs', hc, ht⟩ := hel i (by omega)
      rw [cellsDeed] at hc
      obtain ⟨y0, y1, y2, n2, _, hlen, h0, h1, h2⟩ := trod_struct3 Tryd.underlying38 ht
      rw [cellsDeed] at hlen
      match cs', hlen with
      | [c0, c1, c2], _ =>
        obtain ⟨k, hk, _⟩ := DataW.trod_int Tryd.underlying3 h0
        obtain ⟨x, hx, _⟩ := DataW.trod_int Tryd.underlying3 h1
        obtain ⟨y, hy, _⟩ := DataW.trod_int Tryd.underlying3 h2
        have e0 : c0 = .int .i64 k := by simpa [cellsInt] using hk
        have e1 : c1 = .int .i64 x := by simpa [cellsInt] using hx
        have e2 : c2 = .int .i64 y := by simpa [cellsInt] using hy
        subst e0 e1 e2
        have g0 := cells_some hc (j := 0) rfl
        rw [Go.Deep.add_add] at g0
        exact ⟨⟨k, x, y⟩, by simpa using g0, cells_some hc (j := 1) rfl, cells_some hc (j := 2) rfl⟩
    have hall2 : ∀ i, ∃ d : Dd, i < len → W.cell? (a'.add (i * 3)) = some (.int .i64 d.k) ∧ W.cell? ((a'.add (i * 3)).add 1) = some (.int .i64 d.a) ∧ W.cell? ((a'.add (i * 3)).add 2) = some (.int .i64 d.b) := fun i => by
      by_cases hi : i < len
      · obtain ⟨d, hd⟩ := hall i hi
        exact ⟨d, fun _ => hd⟩
      · exact ⟨⟨0, 0, 0⟩, fun h => absurd h hi⟩
    obtain ⟨F, hF⟩ : ∃ F : Nat → Dd, ∀ i, i < len → W.cell? (a'.add (i * 3)) = some (.int .i64 (F i).k) ∧ W.cell? ((a'.add (i * 3)).add 1) = some (.int .i64 (F i).a) ∧ W.cell? ((a'.add (i * 3)).add 2) = some (.int .i64 (F i).b) := ⟨fun i => Classical.choose (hall2 i), fun i hi => Classical.choose_spec (hall2 i) hi⟩
    refine ⟨some a', len, cap, (List.range len).map F, rfl, by simp, by omega, a'.block, a'.off, fun j d hd => ?_⟩
    rw [List.getElem?_map] at hd
    have hj : j < len := by
      apply Classical.byContradiction
      intro hn
      rw [List.getElem?_eq_none (by rw [List.length_range]; omega)] at hd
      cases hd
    rw [List.getElem?_eq_getElem (by rw [List.length_range]; exact hj), List.getElem_range] at hd
    obtain rfl : F j = d := Option.some.inj hd
    obtain ⟨h0, h1, h2⟩ := hF j hj
    obtain ⟨b, o, sp⟩ := a'
    have hs : sp = none := by simpa [Addr.add] using World.cell?_spot (hF 0 (by omega)).1
    subst hs
    rw [addr_add] at h0 h1 h2
    rw [addr_add] at h1 h2
    exact ⟨rfl, World.block_lt_of_cell? W ⟨b, o + j * 3, none⟩ h0, h0, h1, h2⟩

/-! ### sizes, copies, comparisons -/
theorem szDeedS_any {a : Option Addr} {n c : Nat} (x : Int) (hn : n ≤ 9223372036854775807) (hx : 0 ≤ x) (hx2 : x ≤ 1048576) (w : World) :
    Calls Tryd.prog 24 #[.slice a n c, .int .i64 x] w fun e w' => e = .returned (.int .i64 (if x < (n : Int) then -1 else x - n)) ∧ w' = w := by
  have u1 : IntKind.i64.wrap (x - (n : Int)) = x - (n : Int) := by rw [IntKind.wrap_i64]; omega
  by_cases h : x < (n : Int)
  · have H := Lib.hid h
    have h1 : x - (n : Int) < 0 := by omega
    go_enter Tryd.func24, Tryd.ntmps24
    go_wp2_with fail
    go_ret
    exact ⟨by first | rfl | (rw [if_pos H.out]; rfl), rfl⟩
  · have H := Lib.hid h
    have h1 : ¬ x - (n : Int) < 0 := by omega
    go_enter Tryd.func24, Tryd.ntmps24
    go_wp2_with fail
    go_ret
    exact ⟨by first | rfl | (rw [if_neg (by have := H.out; omega)]; rfl), rfl⟩
/-- A row of deeds under way: i of n laid. -/
def LaidD (w : World) (b n i : Nat) (D : List Dd) : Prop := ∃ cur : Array Value, w.heap[b]? = some (.cells cur 24) ∧ cur.size = n * 3 ∧ ∀ j d, j < i → D[j]? = some d → cur[j * 3]? = some (.int .i64 d.k) ∧ cur[j * 3 + 1]? = some (.int .i64 d.a) ∧ cur[j * 3 + 2]? = some (.int .i64 d.b)
theorem LaidD.cell {w : World} {b n i : Nat} {D : List Dd} (h : LaidD w b n i D) {p : Nat} (hp : p < n * 3) : ∃ v, w.cell? ⟨b, p, none⟩ = some v := by
  obtain ⟨cur, hb, hs, _⟩ := h
  exact ⟨_, (cell_of_block hb p).trans (Array.getElem?_eq_getElem (by omega))⟩
theorem LaidD.frozen {w : World} {b n i : Nat} {D : List Dd} (h : LaidD w b n i D) (p : Nat) : w.frozen? ⟨b, p, none⟩ = false := by
  obtain ⟨cur, hb, _⟩ := h
  exact unfrozen_of_block hb p
theorem LaidD.below {w w' : World} {b n i : Nat} {D : List Dd} (h : LaidD w b n i D) (hb : Below w.heap.size w w') : LaidD w' b n i D := by
  obtain ⟨cur, hk, h2, h3⟩ := h
  exact ⟨cur, (hb.block b (Array.getElem?_eq_some_iff.1 hk).1).trans hk, h2, h3⟩
theorem LaidD.put {w : World} {b n i : Nat} {D : List Dd} {d : Dd} (h : LaidD w b n i D) (hi : i < n) (hd : D[i]? = some d) :
    LaidD (((w.setCell ⟨b, i * 3, none⟩ (.int .i64 d.k)).setCell ⟨b, i * 3 + 1, none⟩ (.int .i64 d.a)).setCell ⟨b, i * 3 + 2, none⟩ (.int .i64 d.b)) b n (i + 1) D := by
  obtain ⟨cur, hk, h2, h3⟩ := h
  have hb := block_setCell (block_setCell (block_setCell (i := i * 3) hk (.int .i64 d.k)) (i := i * 3 + 1) (.int .i64 d.a)) (i := i * 3 + 2) (.int .i64 d.b)
  refine ⟨_, hb, by simp [h2], fun j e hj he => ?_⟩
  have hsz : i * 3 + 2 < cur.size := by omega
  by_cases hji : j = i
  · subst hji
    obtain rfl : d = e := Option.some.inj (hd.symm.trans he)
    refine ⟨?_, ?_, ?_⟩
    · rw [Array.getElem?_setIfInBounds_ne (by omega), Array.getElem?_setIfInBounds_ne (by omega), Array.getElem?_setIfInBounds_self_of_lt (by omega)]
    · rw [Array.getElem?_setIfInBounds_ne (by omega), Array.getElem?_setIfInBounds_self_of_lt (by simp; omega)]
    · rw [Array.getElem?_setIfInBounds_self_of_lt (by simp; omega)]
  · obtain ⟨x0, x1, x2⟩ := h3 j e (by omega) he
    refine ⟨?_, ?_, ?_⟩
    · rw [Array.getElem?_setIfInBounds_ne (by omega), Array.getElem?_setIfInBounds_ne (by omega), Array.getElem?_setIfInBounds_ne (by omega)]; exact x0
    · rw [Array.getElem?_setIfInBounds_ne (by omega), Array.getElem?_setIfInBounds_ne (by omega), Array.getElem?_setIfInBounds_ne (by omega)]; exact x1
    · rw [Array.getElem?_setIfInBounds_ne (by omega), Array.getElem?_setIfInBounds_ne (by omega), Array.getElem?_setIfInBounds_ne (by omega)]; exact x2
theorem LaidD.at_ {w : World} {b : Nat} {D : List Dd} (h : LaidD w b D.length D.length D) : DsAt w w.heap.size (some ⟨b, 0, none⟩) b 0 D := by
  obtain ⟨cur, hk, h2, h3⟩ := h
  intro j d hd
  have hj : j < D.length := (List.getElem?_eq_some_iff.1 hd).1
  obtain ⟨x0, x1, x2⟩ := h3 j d hj hd
  rw [Nat.zero_add]
  exact ⟨rfl, (Array.getElem?_eq_some_iff.1 hk).1, (cell_of_block hk _).trans x0, (cell_of_block hk _).trans x1, (cell_of_block hk _).trans x2⟩
/-- What a copy of a list of deeds is. -/
def CopyD (D : List Dd) (w : World) (e : Ending) (w' : World) : Prop :=
  Below w.heap.size w w' ∧ w.heap.size < w'.heap.size ∧ e = .returned (.slice (some ⟨w.heap.size, 0, none⟩) D.length D.length) ∧ LaidD w' w.heap.size D.length D.length D
set_option maxRecDepth 100000 in
set_option maxHeartbeats 4000000 in
theorem toDeedS_any {w : World} {B : Nat} {a : Option Addr} {g o cap : Nat} {D : List Dd} (hD : DsAt w B a g o D) (hB : B ≤ w.heap.size) (hn : D.length ≤ 1048576) :
    Calls Tryd.prog 25 #[.slice a D.length cap] w (CopyD D w) := by
  obtain ⟨i0, hi, hz0, hz1, hz2⟩ := info_parts infoDeed
  obtain ⟨n, hnn⟩ : ∃ n, D.length = n := ⟨_, rfl⟩
  have HN := Lib.hid hnn
  rw [hnn] at hn ⊢
  have hmk := fun w : World => run_make (P := Tryd.prog) w 32 24 i0 (.agg #[.int .i64 0, .int .i64 0, .int .i64 0]) Tryd.underlying32 hi hz0 .i64 .i64 (n : Int) (n : Int) (by omega) (Int.le_refl _) (by rw [hz2]; omega) (by omega)
  rw [hz1] at hmk
  have e9 : (Value.agg #[.int .i64 0, .int .i64 0, .int .i64 0]).cells = #[.int .i64 0, .int .i64 0, .int .i64 0] := rfl
  simp only [Int.toNat_natCast, e9] at hmk
  clear e9
  have HC : Hid (CopyD D w = fun e w' => Below w.heap.size w w' ∧ w.heap.size < w'.heap.size ∧ e = .returned (.slice (some ⟨w.heap.size, 0, none⟩) n n) ∧ LaidD w' w.heap.size n n D) := by show _ = _; unfold CopyD; rw [hnn]
  have hL0 : LaidD (w.alloc (.cells (madeCells #[.int .i64 0, .int .i64 0, .int .i64 0] (n * 3)) 24)) w.heap.size n 0 D := ⟨_, World.alloc_heap_new w _, size_madeCells _ _, fun j d hj => absurd hj (Nat.not_lt_zero _)⟩
  have hb0 := (Below.refl w.heap.size w).alloc (Nat.le_refl _) (.cells (madeCells #[.int .i64 0, .int .i64 0, .int .i64 0] (n * 3)) 24)
  have hs0 : w.heap.size < (w.alloc (.cells (madeCells #[.int .i64 0, .int .i64 0, .int .i64 0] (n * 3)) 24)).heap.size := by simp
  have HD := Lib.hid (hD.up hB)
  rw [HC.out]
  clear hi hz0 hz1 hz2 hD hnn
  go_enter Tryd.func25, Tryd.ntmps25
  go_wp2_with fail
  generalize w.alloc (.cells (madeCells #[.int .i64 0, .int .i64 0, .int .i64 0] (n * 3)) 24) = W at hL0 hb0 hs0 ⊢
  clear hmk
  go_loopw [4] (fun i wr => ∃ k : Nat, k ≤ n ∧ i = .int .i64 (k : Int) ∧ LaidD wr w.heap.size n k D ∧ Below w.heap.size w wr ∧ w.heap.size < wr.heap.size) (fun i _ => n - (Go.RowKit.intOf i).toNat)
  case atStart => exact ⟨0, Nat.zero_le _, rfl, hL0, hb0, hs0⟩
  case round =>
    obtain ⟨k, hk, rfl, hL, hB1, hs1⟩ := hrel
    by_cases hlt : k < n
    · have hlt' : (k : Int) < n := by omega
      have hk0 : (0 : Int) ≤ k := by omega
      obtain ⟨d, hd⟩ : ∃ d, D[k]? = some d := ⟨_, List.getElem?_eq_getElem (by rw [HN.out]; exact hlt)⟩
      have HK := Lib.hid hd
      obtain ⟨rfl, hg, c0, c1, c2⟩ := (HD.out.step hB1 (Nat.le_refl _)) k d hd
      have HT := toDeed_any d
      unfold deedV at HT
      clear hd
      go_wp2_with fail
      go_at_call 22
      refine (HT _).mono ?_
      rintro e w2 ⟨rfl, b2⟩
      have hL2 := hL.below b2
      have B2 := hB1.trans (b2.mono hB1.size)
      have hs2 : w.heap.size < w2.heap.size := Nat.lt_of_lt_of_le hs1 b2.size
      obtain ⟨v0, g0⟩ := hL2.cell (p := k * 3) (by omega)
      obtain ⟨v1, g1⟩ := hL2.cell (p := k * 3 + 1) (by omega)
      obtain ⟨v2, g2⟩ := hL2.cell (p := k * 3 + 2) (by omega)
      have f0 := hL2.frozen (k * 3)
      have f1 := hL2.frozen (k * 3 + 1)
      have f2 := hL2.frozen (k * 3 + 2)
      have hL3 := hL2.put hlt HK.out
      have B3 := ((B2.setCell (p := ⟨w.heap.size, k * 3, none⟩) (Nat.le_refl _) (.int .i64 d.k)).setCell (p := ⟨w.heap.size, k * 3 + 1, none⟩) (Nat.le_refl _) (.int .i64 d.a)).setCell (p := ⟨w.heap.size, k * 3 + 2, none⟩) (Nat.le_refl _) (.int .i64 d.b)
      have hs3 : w.heap.size < (((w2.setCell ⟨w.heap.size, k * 3, none⟩ (.int .i64 d.k)).setCell ⟨w.heap.size, k * 3 + 1, none⟩ (.int .i64 d.a)).setCell ⟨w.heap.size, k * 3 + 2, none⟩ (.int .i64 d.b)).heap.size := by simp; exact hs2
      clear c0 c1 c2 hL hL2
      go_wp2_with fail
      exact ⟨⟨k + 1, by omega, by go_num, hL3, B3, hs3⟩, by simp [Go.RowKit.intOf]; omega⟩
    · have hlt' : ¬ (k : Int) < n := by omega
      obtain rfl : k = n := by omega
      go_wp2_with fail
      go_ret
      exact ⟨hB1, hs1, rfl, hL⟩
set_option maxRecDepth 100000 in
set_option maxHeartbeats 4000000 in
theorem eqDeedS_any {w : World} {a a' : Option Addr} {g o g' o' cap cap' : Nat} {D : List Dd} (hD : DsAt w w.heap.size a g o D) (hD' : DsAt w w.heap.size a' g' o' D) (hn : D.length ≤ 1099511627776) :
    Calls Tryd.prog 26 #[.slice a D.length cap, .slice a' D.length cap'] w fun e w' => e = .returned (.bool true) ∧ Below w.heap.size w w' := by
  have HD := Lib.hid hD
  have HD' := Lib.hid hD'
  obtain ⟨n, hnn⟩ : ∃ n, D.length = n := ⟨_, rfl⟩
  have HN := Lib.hid hnn
  rw [hnn] at hn ⊢
  clear hnn hD hD'
  go_enter Tryd.func26, Tryd.ntmps26
  go_wp2_with fail
  go_loopw [5] (fun i wr => ∃ k : Nat, k ≤ n ∧ i = .int .i64 (k : Int) ∧ Below w.heap.size w wr) (fun i _ => n - (Go.RowKit.intOf i).toNat)
  case atStart => exact ⟨0, Nat.zero_le _, rfl, Below.refl _ _⟩
  case round =>
    obtain ⟨k, hk, rfl, hB1⟩ := hrel
    by_cases hlt : k < n
    · have hlt' : (k : Int) < n := by omega
      have hk0 : (0 : Int) ≤ k := by omega
      obtain ⟨d, hd⟩ : ∃ d, D[k]? = some d := ⟨_, List.getElem?_eq_getElem (by rw [HN.out]; exact hlt)⟩
      have HK := Lib.hid hd
      obtain ⟨rfl, hg, c0, c1, c2⟩ := (HD.out.step hB1.drew (Nat.le_refl _)) k d hd
      obtain ⟨rfl, hg', c0', c1', c2'⟩ := (HD'.out.step hB1.drew (Nat.le_refl _)) k d hd
      have HE := eqDeed_any d
      unfold deedV at HE
      clear hd
      have S0 : (fun w' => w'.cell? ⟨g, o + k * 3, none⟩ = some (.int .i64 d.k) ∧ w'.cell? ⟨g, o + k * 3 + 1, none⟩ = some (.int .i64 d.a) ∧ w'.cell? ⟨g, o + k * 3 + 2, none⟩ = some (.int .i64 d.b) ∧ w'.cell? ⟨g', o' + k * 3, none⟩ = some (.int .i64 d.k) ∧ w'.cell? ⟨g', o' + k * 3 + 1, none⟩ = some (.int .i64 d.a) ∧ w'.cell? ⟨g', o' + k * 3 + 2, none⟩ = some (.int .i64 d.b)) wr.drew := ⟨c0, c1, c2, c0', c1', c2'⟩
      clear c0 c1 c2 c0' c1' c2'
      go_wp2_with fail
      refine region_plain (fuel := 10) (listed := #[false, false, false, false, false, false, false, false, false, false]) (fun w' => w'.cell? ⟨g, o + k * 3, none⟩ = some (.int .i64 d.k) ∧ w'.cell? ⟨g, o + k * 3 + 1, none⟩ = some (.int .i64 d.a) ∧ w'.cell? ⟨g, o + k * 3 + 2, none⟩ = some (.int .i64 d.b) ∧ w'.cell? ⟨g', o' + k * 3, none⟩ = some (.int .i64 d.k) ∧ w'.cell? ⟨g', o' + k * 3 + 1, none⟩ = some (.int .i64 d.a) ∧ w'.cell? ⟨g', o' + k * 3 + 2, none⟩ = some (.int .i64 d.b)) (by kernel_rfl) (by kernel_rfl) (by kernel_rfl) ?_
      refine hold_take (i := 0) (d := 17) (v := ?vT0) (listed' := #[true, false, false, false, false, false, false, false, false, false]) rfl (by kernel_rfl) (by kernel_rfl) (by kernel_rfl) rfl (by rfl) (by kernel_rfl) S0 ?hT0 ?rT0
      case hT0 =>
        intro w' hSw
        obtain ⟨k0, k1, k2, k3, k4, k5⟩ := hSw
        go_simp
        try with_reducible rfl
      simp only [List.setIfInBounds_toArray, List.set_cons_zero, List.set_cons_succ]
      refine hold_take (i := 1) (d := 18) (v := ?vT1) (listed' := #[true, true, false, false, false, false, false, false, false, false]) rfl (by kernel_rfl) (by kernel_rfl) (by kernel_rfl) rfl (by rfl) (by kernel_rfl) S0 ?hT1 ?rT1
      case hT1 =>
        intro w' hSw
        obtain ⟨k0, k1, k2, k3, k4, k5⟩ := hSw
        go_simp
        try with_reducible rfl
      simp only [List.setIfInBounds_toArray, List.set_cons_zero, List.set_cons_succ]
      refine hold_take (i := 2) (d := 19) (v := ?vT2) (listed' := #[true, true, true, false, false, false, false, false, false, false]) rfl (by kernel_rfl) (by kernel_rfl) (by kernel_rfl) rfl (by rfl) (by kernel_rfl) S0 ?hT2 ?rT2
      case hT2 =>
        intro w' hSw
        obtain ⟨k0, k1, k2, k3, k4, k5⟩ := hSw
        go_simp
        try with_reducible rfl
      simp only [List.setIfInBounds_toArray, List.set_cons_zero, List.set_cons_succ]
      refine hold_take (i := 3) (d := 20) (v := ?vT3) (listed' := #[true, true, true, true, false, false, false, false, false, false]) rfl (by kernel_rfl) (by kernel_rfl) (by kernel_rfl) rfl (by rfl) (by kernel_rfl) S0 ?hT3 ?rT3
      case hT3 =>
        intro w' hSw
        obtain ⟨k0, k1, k2, k3, k4, k5⟩ := hSw
        go_simp
        try with_reducible rfl
      simp only [List.setIfInBounds_toArray, List.set_cons_zero, List.set_cons_succ]
      refine hold_take (i := 4) (d := 21) (v := ?vT4) (listed' := #[true, true, true, true, true, false, false, false, false, false]) rfl (by kernel_rfl) (by kernel_rfl) (by kernel_rfl) rfl (by rfl) (by kernel_rfl) S0 ?hT4 ?rT4
      case hT4 =>
        intro w' hSw
        obtain ⟨k0, k1, k2, k3, k4, k5⟩ := hSw
        go_simp
        try with_reducible rfl
      simp only [List.setIfInBounds_toArray, List.set_cons_zero, List.set_cons_succ]
      refine hold_take (i := 5) (d := 22) (v := ?vT5) (listed' := #[true, true, true, true, true, true, false, false, false, false]) rfl (by kernel_rfl) (by kernel_rfl) (by kernel_rfl) rfl (by rfl) (by kernel_rfl) S0 ?hT5 ?rT5
      case hT5 =>
        intro w' hSw
        obtain ⟨k0, k1, k2, k3, k4, k5⟩ := hSw
        go_simp
        try with_reducible rfl
      simp only [List.setIfInBounds_toArray, List.set_cons_zero, List.set_cons_succ]
      refine hold_take (i := 6) (d := 23) (v := ?vT6) (listed' := #[true, true, true, true, true, true, true, false, false, false]) rfl (by kernel_rfl) (by kernel_rfl) (by kernel_rfl) rfl (by rfl) (by kernel_rfl) S0 ?hT6 ?rT6
      case hT6 =>
        intro w' hSw
        obtain ⟨k0, k1, k2, k3, k4, k5⟩ := hSw
        go_simp
        try with_reducible rfl
      simp only [List.setIfInBounds_toArray, List.set_cons_zero, List.set_cons_succ]
      refine hold_take (i := 7) (d := 24) (v := ?vT7) (listed' := #[true, true, true, true, true, true, true, true, false, false]) rfl (by kernel_rfl) (by kernel_rfl) (by kernel_rfl) rfl (by rfl) (by kernel_rfl) S0 ?hT7 ?rT7
      case hT7 =>
        intro w' hSw
        obtain ⟨k0, k1, k2, k3, k4, k5⟩ := hSw
        go_simp
        try with_reducible rfl
      simp only [List.setIfInBounds_toArray, List.set_cons_zero, List.set_cons_succ]
      refine hold_call (i := 8) (d := 25) (listed' := #[true, true, true, true, true, true, true, true, true, false]) rfl (by kernel_rfl) rfl (by rfl) (by kernel_rfl) ?heT8 (HE _) ?hcT8
      case heT8 => (go_simp; try rfl)
      rintro e x8 ⟨rfl, b8⟩
      obtain ⟨y0, y1, y2, y3, y4, y5⟩ := S0
      have S1 : (fun w' => w'.cell? ⟨g, o + k * 3, none⟩ = some (.int .i64 d.k) ∧ w'.cell? ⟨g, o + k * 3 + 1, none⟩ = some (.int .i64 d.a) ∧ w'.cell? ⟨g, o + k * 3 + 2, none⟩ = some (.int .i64 d.b) ∧ w'.cell? ⟨g', o' + k * 3, none⟩ = some (.int .i64 d.k) ∧ w'.cell? ⟨g', o' + k * 3 + 1, none⟩ = some (.int .i64 d.a) ∧ w'.cell? ⟨g', o' + k * 3 + 2, none⟩ = some (.int .i64 d.b)) x8 := ⟨(b8.cell (p := ⟨g, o + k * 3, none⟩) (World.block_lt_of_cell? wr.drew _ y0)).trans y0, (b8.cell (p := ⟨g, o + k * 3 + 1, none⟩) (World.block_lt_of_cell? wr.drew _ y1)).trans y1, (b8.cell (p := ⟨g, o + k * 3 + 2, none⟩) (World.block_lt_of_cell? wr.drew _ y2)).trans y2, (b8.cell (p := ⟨g', o' + k * 3, none⟩) (World.block_lt_of_cell? wr.drew _ y3)).trans y3, (b8.cell (p := ⟨g', o' + k * 3 + 1, none⟩) (World.block_lt_of_cell? wr.drew _ y4)).trans y4, (b8.cell (p := ⟨g', o' + k * 3 + 2, none⟩) (World.block_lt_of_cell? wr.drew _ y5)).trans y5⟩
      refine ⟨_, rfl, S1, ?_⟩
      simp only [List.setIfInBounds_toArray, List.set_cons_zero, List.set_cons_succ]
      refine hold_take (i := 9) (d := 26) (v := ?vT9) (listed' := #[true, true, true, true, true, true, true, true, true, true]) rfl (by kernel_rfl) (by kernel_rfl) (by kernel_rfl) rfl (by rfl) (by kernel_rfl) S1 ?hT9 ?rT9
      case hT9 =>
        intro w' hSw
        obtain ⟨k0, k1, k2, k3, k4, k5⟩ := hSw
        go_simp
        try with_reducible rfl
      simp only [List.setIfInBounds_toArray, List.set_cons_zero, List.set_cons_succ]
      refine hold_done (by kernel_rfl) ?_ _
      go_wp2_with fail
      exact ⟨⟨k + 1, by omega, by go_num, hB1.trans (((Below.refl _ wr).drew.trans b8).mono hB1.size)⟩, by simp [Go.RowKit.intOf]; omega⟩
    · have hlt' : ¬ (k : Int) < n := by omega
      go_wp2_with fail
      go_ret
      exact ⟨rfl, hB1⟩
set_option maxRecDepth 100000 in
set_option maxHeartbeats 4000000 in
theorem law_ExactJournalText {w : World} {a : Option Addr} {n c : Nat} {D : List Dd} (hd : n = D.length ∧ n ≤ 9223372036854775807 ∧ ∃ g o, DsAt w w.heap.size a g o D) :
    Calls Tryd.prog 8 #[.slice a n c] w fun e w' => e = .returned (.bool true) ∧ Below w.heap.size w w' := by
  obtain ⟨hn, hn63, g, o, hD⟩ := id hd
  by_cases hbig : (1048576 : Int) < (n : Int)
  · have HZ := szDeedS_any (a := a) (c := c) 1048576 hn63 (by omega) (by omega) w
    rw [if_pos hbig] at HZ
    clear hd hbig hn hD
    go_enter Tryd.func8, Tryd.ntmps8
    go_wp2_with fail
    go_at_call 24
    refine HZ.mono ?_
    rintro e w1 ⟨rfl, rfl⟩
    go_wp2_with fail
    go_ret
    exact ⟨rfl, Below.refl _ _⟩
  · subst hn
    have hlen : D.length ≤ 1048576 := by omega
    have HD := Lib.hid hD
    obtain ⟨q, hq⟩ : ∃ q : Nat, (1048576 : Int) - (D.length : Int) = (q : Int) := ⟨1048576 - D.length, by omega⟩
    have hq0 : ¬ (q : Int) < 0 := by omega
    have HS := fun (w' : World) (a' : Option Addr) (g' o' cap' : Nat) (h : DsAt w' w'.heap.size a' g' o' D) => spec_JournalText (cap := cap') h (by omega)
    have HP := fun (w' : World) (a' : Option Addr) (g' o' cap' : Nat) (h : DsAt w' w'.heap.size a' g' o' D) => JournalText_any (cap := cap') h (by omega)
    obtain ⟨t, et⟩ : ∃ t : ByteArray, (⟨(jourL D).toArray⟩ : ByteArray) = t := ⟨_, rfl⟩
    have hb8 : (t.toList != t.toList) = false := by simp
    unfold strV at HS HP
    rw [et] at HS HP
    clear et
    have HZ := szDeedS_any (a := a) (c := c) 1048576 hn63 (by omega) (by omega) w
    rw [if_neg hbig, hq] at HZ
    have HC := fun (w' : World) (h : DsAt w' w.heap.size a g o D) (hB : w.heap.size ≤ w'.heap.size) => toDeedS_any (cap := c) h hB hlen
    have HE := fun (w' : World) (g1 g2 : Nat) (h1 : DsAt w' w'.heap.size (some ⟨g1, 0, none⟩) g1 0 D) (h2 : DsAt w' w'.heap.size (some ⟨g2, 0, none⟩) g2 0 D) => eqDeedS_any (cap := D.length) (cap' := D.length) h1 h2 (by omega)
    unfold CopyD at HC
    obtain ⟨n, hn⟩ : ∃ n, D.length = n := ⟨_, rfl⟩
    have HN := Lib.hid hn
    rw [hn] at HS HP HZ HC HE ⊢
    clear hD hn hq hbig
    go_enter Tryd.func8, Tryd.ntmps8
    go_wp2_with fail
    go_at_call 24
    refine HZ.mono ?_
    rintro e w1 ⟨rfl, hw1⟩
    rw [hw1]
    go_wp2_with fail
    go_at_call 25
    refine (HC w HD.out (Nat.le_refl _)).mono ?_
    rintro e w2 ⟨b2, hs2, rfl, hL2⟩
    have hA2 : DsAt w2 w2.heap.size (some ⟨w.heap.size, 0, none⟩) w.heap.size 0 D := by rw [← HN.out] at hL2; exact hL2.at_
    go_wp2_with fail
    go_at_call 19
    refine (HS w2 _ _ _ _ hA2).mono ?_
    rintro e w3 ⟨rfl, b3⟩
    have B3 := b2.trans (b3.mono b2.size)
    clear hA2 hL2 b2
    go_wp2_with fail
    go_at_call 25
    refine (HC w3 (HD.out.step B3 (Nat.le_refl _)) B3.size).mono ?_
    rintro e w4 ⟨b4, hs4, rfl, hL4⟩
    have B4 := B3.trans (b4.mono B3.size)
    go_wp2_with fail
    go_at_call 18
    have hA4 : DsAt w4 w4.heap.size (some ⟨w3.heap.size, 0, none⟩) w3.heap.size 0 D := by rw [← HN.out] at hL4; exact hL4.at_
    refine (HP w4 _ _ _ _ hA4).mono ?_
    rintro e w5 ⟨rfl, b5⟩
    have B5 := B4.trans (b5.mono B4.size)
    go_wp2_with fail
    go_at_call 25
    refine (HC w5 (HD.out.step B5 (Nat.le_refl _)) B5.size).mono ?_
    rintro e w6 ⟨b6, hs6, rfl, hL6⟩
    have B6 := B5.trans (b6.mono B5.size)
    have hA6 : DsAt w6 w6.heap.size (some ⟨w5.heap.size, 0, none⟩) w5.heap.size 0 D := by rw [← HN.out] at hL6; exact hL6.at_
    have hA6' : DsAt w6 w6.heap.size (some ⟨w3.heap.size, 0, none⟩) w3.heap.size 0 D := ((hA4.step b5 (Nat.le_refl _)).step b6 b5.size).up (Nat.le_trans b5.size b6.size)
    go_wp2_with fail
    go_at_call 26
    refine (HE w6 _ _ hA6' hA6).mono ?_
    rintro e w7 ⟨rfl, b7⟩
    go_wp2_with fail
    go_ret
    exact ⟨rfl, B6.trans (b7.mono B6.size)⟩
end Go.Proofs.YtjofkejfldmmlaaDoor
