import Derived.Test.YtjmhhjdkemicbaaDoorZBb
import Derived.Test.YtjmhhjdkemicbaaDoorZYi
import Derived.Test.YtjmhhjdkemicbaaDoorZSb
import Derived.Test.YtjmhhjdkemicbaaDoorZMathR
namespace Go.Proofs.YtjmhhjdkemicbaaDoor
open Go.RowKit Go.Deep Go.Shelf

attribute [local go_sem] Oper.semAt_some

theorem or_ltN {s b n : Nat} (hs : s < 2 ^ n) (hb : b < n) : s ||| 2 ^ b < 2 ^ n := Nat.or_lt_two_pow hs (Nat.pow_lt_pow_right (by omega) hb)
/-- Rows of bits under way: the pairs so far that pass a test. -/
structure RG (n : Nat) (p : Nat → Nat → Bool) (mb : Nat) (pre : List (Fin n × Fin n)) (W : World) : Prop where
  row : ∀ a, a < n → ∃ s : Nat, s < 2 ^ n ∧ W.cell? ⟨mb, a, none⟩ = some (.int .i64 (s : Int)) ∧ W.frozen? ⟨mb, a, none⟩ = false ∧ ∀ b, b < n → (s.testBit b = true ↔ p a b = true ∧ ∃ x ∈ pre, x.1.val = a ∧ x.2.val = b)
section
variable {n : Nat} {p : Nat → Nat → Bool} {mb : Nat} {pre : List (Fin n × Fin n)} {W W' : World}
theorem RG.keep (h : RG n p mb pre W) (h1 : ∀ q : Addr, (W.cell? q).isSome = true → q.block = mb → W'.cell? q = W.cell? q ∧ W'.frozen? q = W.frozen? q) : RG n p mb pre W' :=
  ⟨fun a ha => by
    obtain ⟨s, hs, hc, hf, hb⟩ := h.row a ha
    obtain ⟨k1, k2⟩ := h1 ⟨mb, a, none⟩ (by rw [hc]; rfl) rfl
    exact ⟨s, hs, k1.trans hc, k2.trans hf, hb⟩⟩
theorem RG.below (h : RG n p mb pre W) (hb : Below W.heap.size W W') : RG n p mb pre W' :=
  h.keep fun q hq _ => by
    obtain ⟨v, hv⟩ := Option.isSome_iff_exists.1 hq
    have := World.block_lt_of_cell? _ _ hv
    exact ⟨hb.cell this, hb.frozen this⟩
theorem RG.own (n : Nat) (p : Nat → Nat → Bool) (mb : Nat) : Own (fun (pre : List (Fin n × Fin n)) W => RG n p mb pre W) := fun _ _ _ _ hs hg hr => hs.keep fun q hq _ => by
  obtain ⟨v, hv⟩ := Option.isSome_iff_exists.1 hq
  exact ⟨(cell_kept hv hg hr).trans hv.symm, frozen_kept hv hg hr⟩
theorem RG.skip (h : RG n p mb pre W) {x : Fin n × Fin n} (hx : p x.1.val x.2.val = false) : RG n p mb (pre ++ [x]) W :=
  ⟨fun a ha => by
    obtain ⟨s, hs, hc, hf, hb⟩ := h.row a ha
    refine ⟨s, hs, hc, hf, fun b hbn => (hb b hbn).trans ?_⟩
    constructor
    · rintro ⟨e, q, hq, e1, e2⟩
      exact ⟨e, q, List.mem_append_left _ hq, e1, e2⟩
    · rintro ⟨e, q, hq, e1, e2⟩
      rcases List.mem_append.1 hq with hq | hq
      · exact ⟨e, q, hq, e1, e2⟩
      · exfalso
        have e3 : q = x := by simpa using hq
        rw [← e1, ← e2, e3, hx] at e
        exact Bool.false_ne_true e⟩
theorem RG.set (h : RG n p mb pre W) {a b s : Nat} (ha : a < n) (hb : b < n) (hx : p a b = true) (hs : W.cell? ⟨mb, a, none⟩ = some (.int .i64 (s : Int))) :
    RG n p mb (pre ++ [(⟨a, ha⟩, ⟨b, hb⟩)]) (W.setCell ⟨mb, a, none⟩ (.int .i64 ((s ||| 2 ^ b : Nat) : Int))) :=
  ⟨fun c hc => by
    obtain ⟨t, ht, hct, hf, hbt⟩ := h.row c hc
    by_cases e : c = a
    · subst e
      have est : s = t := by
        rw [hs] at hct
        have e9 : (s : Int) = (t : Int) := by simpa using hct
        omega
      subst est
      refine ⟨s ||| 2 ^ b, or_ltN ht hb, World.cell?_setCell_same' _ _ _ (by rw [hs]; rfl), by rw [World.frozen?_setCell]; exact hf, fun d hd => ?_⟩
      rw [Nat.testBit_or, Bool.or_eq_true, hbt d hd, Nat.testBit_two_pow, decide_eq_true_iff]
      constructor
      · rintro (⟨e1, q, hq, e2, e3⟩ | e1)
        · exact ⟨e1, q, List.mem_append_left _ hq, e2, e3⟩
        · subst e1
          exact ⟨hx, _, List.mem_append_right _ (List.mem_singleton.2 rfl), rfl, rfl⟩
      · rintro ⟨e1, q, hq, e2, e3⟩
        rcases List.mem_append.1 hq with hq | hq
        · exact .inl ⟨e1, q, hq, e2, e3⟩
        · right
          have e4 : q = (⟨c, ha⟩, ⟨b, hb⟩) := by simpa using hq
          rw [e4] at e3
          exact e3
    · refine ⟨t, ht, (World.cell?_setCell_other _ _ _ _ (by intro e2; exact e (congrArg Addr.off e2).symm)).trans hct, by rw [World.frozen?_setCell]; exact hf, fun d hd => (hbt d hd).trans ?_⟩
      constructor
      · rintro ⟨e1, q, hq, e2, e3⟩
        exact ⟨e1, q, List.mem_append_left _ hq, e2, e3⟩
      · rintro ⟨e1, q, hq, e2, e3⟩
        rcases List.mem_append.1 hq with hq | hq
        · exact ⟨e1, q, hq, e2, e3⟩
        · exfalso
          have e4 : q = (⟨a, ha⟩, ⟨b, hb⟩) := by simpa using hq
          rw [e4] at e2
          exact e e2.symm⟩
theorem RG.none_yet (hrow : ∀ a, a < n → W.cell? ⟨mb, a, none⟩ = some (.int .i64 0) ∧ W.frozen? ⟨mb, a, none⟩ = false) : RG n p mb [] W :=
  ⟨fun a ha => ⟨0, Nat.two_pow_pos _, (hrow a ha).1, (hrow a ha).2, fun b hb => by simp⟩⟩
end
/-- For each answer the set of those with which it agrees both ways. -/
structure CompAt (m : Mx) (y : Nat → Nat) (mb : Nat) (W : World) : Prop where
  row : ∀ a, a < m.n → ∃ s : Nat, s < 2 ^ m.n ∧ W.cell? ⟨mb, a, none⟩ = some (.int .i64 (s : Int)) ∧ ∀ b, b < m.n → s.testBit b = adjB m y a b
theorem CompAt.step {m : Mx} {y : Nat → Nat} {mb : Nat} {W W' : World} (h : CompAt m y mb W) (hb : Below W.heap.size W W') : CompAt m y mb W' :=
  ⟨fun a ha => by
    obtain ⟨s, hs, hc, hr⟩ := h.row a ha
    exact ⟨s, hs, (hb.cell (World.block_lt_of_cell? _ _ hc)).trans hc, hr⟩⟩
theorem CompAt.put {m : Mx} {y : Nat → Nat} {mb D : Nat} {W : World} (h : CompAt m y mb W) {o : Obj} (hl : W.heap[D]? = some o) (ho : o.isCells = false) (o' : Obj) : CompAt m y mb (W.putObj D o') :=
  ⟨fun a ha => by
    obtain ⟨s, hs, hc, hr⟩ := h.row a ha
    exact ⟨s, hs, cell_kept hc (grownBy_putObj' _ D o') (fun r e => by cases e; exact ⟨_, hl, ho⟩), hr⟩⟩
theorem RG.all {m : Mx} {y : Nat → Nat} {mb : Nat} {pre : List (Fin m.n × Fin m.n)} {W : World} (h : RG m.n (adjB m y) mb pre W) (hall : ∀ a b : Fin m.n, (a, b) ∈ pre) : CompAt m y mb W :=
  ⟨fun a ha => by
    obtain ⟨s, hs, hc, _, hb⟩ := h.row a ha
    refine ⟨s, hs, hc, fun b hbn => ?_⟩
    rw [Bool.eq_iff_iff, hb b hbn]
    exact ⟨fun e => e.1, fun e => ⟨e, (⟨a, ha⟩, ⟨b, hbn⟩), hall _ _, rfl, rfl⟩⟩⟩
def CompRes (w : World) (m : Mx) (y : Nat → Nat) (e : Ending) (w' : World) : Prop := ∃ mb : Nat, e = .returned (.slice (some ⟨mb, 0, none⟩) m.n m.n) ∧ CompAt m y mb w' ∧ Below w.heap.size w w' ∧ w.heap.size ≤ mb

set_option maxRecDepth 100000 in
set_option maxHeartbeats 2000000 in
theorem company_any {w : World} {B ob tb g o nc n0 : Nat} {tG : Nat → Nat} {ua : Option Addr} {l : Lay} {m : Mx} {z : Nat → Int} {y : Nat → Nat} (h : AL w B ob tb tG ua l m g o z y n0) :
    Calls Tryd.prog 30 #[.agg #[.slice ua m.n l.cap, .slice (some ⟨g, o, none⟩) m.n nc, .slice (some ⟨ob, 0, none⟩) 2 2]] w (CompRes w m y) := by
  have hn := h.O.lat.order.top
  have hpos := h.O.lat.order.pos
  have hX := BoxN.start w #[.slice ua m.n l.cap, .slice (some ⟨g, o, none⟩) m.n nc, .slice (some ⟨ob, 0, none⟩) 2 2] 52
  have HL := Lib.hid (h.step hX.below)
  have q0 := hX.cell 0 rfl
  have q1 := hX.cell 1 rfl
  have q2 := hX.cell 2 rfl
  obtain ⟨i0, hi, hz0, hz1, hz2⟩ := info_parts infoInt
  have HI := Lib.hid hi
  have HZ0 := Lib.hid hz0
  have HZ1 := Lib.hid hz1
  have HZ2 := Lib.hid hz2
  clear h hi hz0 hz1 hz2
  refine (callsIn_wide (n := 9)).1 ?_
  refine callsIn_of_wp_marks Tryd.func30 rfl trivial ?_ rfl
  simp only [Tryd.ntmps30, List.size_toArray, List.length_cons, List.length_nil, Nat.reduceAdd, Nat.reduceSub, Array.replicate_succ, Array.replicate_zero, List.push_toArray, List.append_toArray, List.nil_append, List.cons_append]
  gi_wp2_with fail
  generalize hW : w.alloc (.cells #[.slice ua m.n l.cap, .slice (some ⟨g, o, none⟩) m.n nc, .slice (some ⟨ob, 0, none⟩) 2 2] 52) = W at hX HL q0 q1 q2 ⊢
  clear hW
  refine ⟨trivial, ?_⟩
  refine (callsIn_wide.2 (agreeing_any (nc := nc) HL.out)).mono ?_
  rintro e w3 ⟨bx, ma, rfl, hG, b3⟩
  have hX3 := hX.step b3
  have HG := Lib.hid hG
  clear HL q0 q1 q2 hX hG
  have e1 : (w3.alloc (.cells #[agF bx] 83)).heap.size = w3.heap.size + 1 := World.size_alloc _ _
  have hmk : (Instr.makeSlice 64 (.int .i64 (m.n : Int)) (.int .i64 (m.n : Int))).run Tryd.prog (w3.alloc (.cells #[agF bx] 83)) = .ok (.slice (some ⟨w3.heap.size + 1, 0, none⟩) m.n m.n) ((w3.alloc (.cells #[agF bx] 83)).alloc (.cells (Array.replicate m.n (Value.int .i64 0)) 3)) := by
    have hb8 : (i0.bytes : Int) * (m.n : Int) ≤ 281474976710656 := by
      rw [HZ2.out]
      omega
    have h0 := run_make (P := Tryd.prog) (w3.alloc (.cells #[agF bx] 83)) 64 3 i0 (.int .i64 0) Tryd.underlying64 HI.out HZ0.out .i64 .i64 (m.n : Int) (m.n : Int) (by omega) (Int.le_refl _) hb8 (by omega)
    rw [HZ1.out] at h0
    rw [e1] at h0
    simp only [Int.toNat_natCast, Nat.mul_one] at h0
    rw [h0]
    show Result.ok _ (World.alloc _ (.cells (madeCells #[Value.int .i64 0] m.n) _)) = _
    rw [made_rep]
  have k3 : Below w3.heap.size w3 (w3.alloc (.cells #[agF bx] 83)) := (Below.refl _ w3).alloc (Nat.le_refl _) _
  have k4 : Below w3.heap.size w3 ((w3.alloc (.cells #[agF bx] 83)).alloc (.cells (Array.replicate m.n (Value.int .i64 0)) 3)) := k3.alloc (by rw [e1]; omega) _
  have e2 : ((w3.alloc (.cells #[agF bx] 83)).alloc (.cells (Array.replicate m.n (Value.int .i64 0)) 3)).heap.size = w3.heap.size + 1 + 1 := by rw [World.size_alloc, e1]
  have k5 : Below w3.heap.size w3 (((w3.alloc (.cells #[agF bx] 83)).alloc (.cells (Array.replicate m.n (Value.int .i64 0)) 3)).alloc (.cells #[.slice (some ⟨w3.heap.size + 1, 0, none⟩) m.n m.n] 64)) := k4.alloc (by rw [e2]; omega) _
  have e3 : (((w3.alloc (.cells #[agF bx] 83)).alloc (.cells (Array.replicate m.n (Value.int .i64 0)) 3)).alloc (.cells #[.slice (some ⟨w3.heap.size + 1, 0, none⟩) m.n m.n] 64)).heap.size = w3.heap.size + 1 + 1 + 1 := by rw [World.size_alloc, e2]
  have k6 : Below w3.heap.size w3 ((((w3.alloc (.cells #[agF bx] 83)).alloc (.cells (Array.replicate m.n (Value.int .i64 0)) 3)).alloc (.cells #[.slice (some ⟨w3.heap.size + 1, 0, none⟩) m.n m.n] 64)).alloc (.cells #[.slice ua m.n l.cap] 49)) := k5.alloc (by rw [e3]; omega) _
  have hz : ∀ a, a < m.n → ((w3.alloc (.cells #[agF bx] 83)).alloc (.cells (Array.replicate m.n (Value.int .i64 0)) 3)).cell? ⟨w3.heap.size + 1, a, none⟩ = some (.int .i64 0) ∧ ((w3.alloc (.cells #[agF bx] 83)).alloc (.cells (Array.replicate m.n (Value.int .i64 0)) 3)).frozen? ⟨w3.heap.size + 1, a, none⟩ = false := fun a ha => by
    rw [← e1]
    constructor
    · simp [ha]
    · simp
  have r1 := (hX3.step k3).cell 1 rfl
  have r0 := (hX3.step k5).cell 0 rfl
  have HZ := Lib.hid hz
  clear hz
  gi_wp2_with fail
  refine ⟨trivial, ?_⟩
  refine (pairs_any _ _ _).mono ?_
  rintro e w' ⟨rfl, rfl⟩
  gi_wp2_with fail
  have hV := Boxd.start ((w3.alloc (.cells #[agF bx] 83)).alloc (.cells (Array.replicate m.n (Value.int .i64 0)) 3)) (.slice (some ⟨w3.heap.size + 1, 0, none⟩) m.n m.n) 64
  have hV0 := hV.cell
  rw [e2] at hV0
  have hP := Boxd.start (((w3.alloc (.cells #[agF bx] 83)).alloc (.cells (Array.replicate m.n (Value.int .i64 0)) 3)).alloc (.cells #[.slice (some ⟨w3.heap.size + 1, 0, none⟩) m.n m.n] 64)) (.slice ua m.n l.cap) 49
  have hP0 := hP.cell
  have hPs := hP.size
  rw [e3] at hP0 hPs
  have b6 := hP.below
  rw [e3] at b6
  have b5 := hV.below
  rw [e2] at b5
  have hU := Boxd.start w3 (agF bx) 83
  have b4 := (Below.refl (w3.alloc (.cells #[agF bx] 83)).heap.size (w3.alloc (.cells #[agF bx] 83))).alloc (Nat.le_refl _) (.cells (Array.replicate m.n (Value.int .i64 0)) 3)
  rw [e1] at b4
  have hU0 := (b6.cell (p := ⟨w3.heap.size, 0, none⟩) (by show w3.heap.size < _; omega)).trans ((b5.cell (p := ⟨w3.heap.size, 0, none⟩) (by show w3.heap.size < _; omega)).trans ((b4.cell (p := ⟨w3.heap.size, 0, none⟩) (by show w3.heap.size < _; omega)).trans hU.cell))
  have hVV := (b6.cell (p := ⟨w3.heap.size + 1 + 1, 0, none⟩) (by show w3.heap.size + 1 + 1 < _; omega)).trans hV0
  have hG6 := HG.out.step k6
  have hB6 : Below w.heap.size w ((((w3.alloc (.cells #[agF bx] 83)).alloc (.cells (Array.replicate m.n (Value.int .i64 0)) 3)).alloc (.cells #[.slice (some ⟨w3.heap.size + 1, 0, none⟩) m.n m.n] 64)).alloc (.cells #[.slice ua m.n l.cap] 49)) := hX3.below.trans (k6.mono hX3.below.size)
  have hRG : RG m.n (adjB m y) (w3.heap.size + 1) [] ((((w3.alloc (.cells #[agF bx] 83)).alloc (.cells (Array.replicate m.n (Value.int .i64 0)) 3)).alloc (.cells #[.slice (some ⟨w3.heap.size + 1, 0, none⟩) m.n m.n] 64)).alloc (.cells #[.slice ua m.n l.cap] 49)) := RG.none_yet fun a ha => by
    have c1 := b5.cell (p := ⟨w3.heap.size + 1, a, none⟩) (by show w3.heap.size + 1 < _; omega)
    have c2 := b6.cell (p := ⟨w3.heap.size + 1, a, none⟩) (by show w3.heap.size + 1 < _; omega)
    have f1 := b5.frozen (p := ⟨w3.heap.size + 1, a, none⟩) (by show w3.heap.size + 1 < _; omega)
    have f2 := b6.frozen (p := ⟨w3.heap.size + 1, a, none⟩) (by show w3.heap.size + 1 < _; omega)
    exact ⟨c2.trans (c1.trans (HZ.out a ha).1), f2.trans (f1.trans (HZ.out a ha).2)⟩
  have hs3 := hX3.below.size
  have hws : w.heap.size + 1 ≤ w3.heap.size := hX3.size
  have hbx : bx < w3.heap.size := World.block_lt_of_cell? _ _ HG.out.top
  have hma : ma < w3.heap.size := by
    obtain ⟨s, _, hc, _⟩ := HG.out.row 0 (by omega)
    exact World.block_lt_of_cell? _ _ hc
  clear hV hV0 hP b4 b5 b6 hU HZ k3 k4 k5 k6 hmk r0 r1 HG e1 e2 e3
  generalize hW : ((((w3.alloc (.cells #[agF bx] 83)).alloc (.cells (Array.replicate m.n (Value.int .i64 0)) 3)).alloc (.cells #[.slice (some ⟨w3.heap.size + 1, 0, none⟩) m.n m.n] 64)).alloc (.cells #[.slice ua m.n l.cap] 49)) = W2 at hP0 hPs hU0 hVV hG6 hB6 hRG ⊢
  clear hW
  have HG := Lib.hid hG6
  have how : Ow (fun _ k => k = w3.heap.size + 1) W2.heap.size := ⟨fun _ _ _ _ _ _ _ e => e⟩
  clear hG6
  refine wpIn_rangeFunc_ownG rfl (by omega) (gf := 64) (lb := #[.pointer (some ⟨w3.heap.size + 1 + 1 + 1, 0, none⟩)]) rfl trivial (enters_of Tryd.func64 (by kernel_rfl) rfl)
    (pairs_stopsK _ m.n (by omega) hn (w3.heap.size + 1 + 1 + 1) l.cap ua W2 (by omega) hP0) KeptB.trans (KeptB.put (by omega)) (Below.refl _ _) (fun _ => rfl)
    (fun pre W => RG m.n (adjB m y) (w3.heap.size + 1) pre W ∧ Below w.heap.size w W ∧ KeepO (fun _ k => k = w3.heap.size + 1) W2 W)
    (fun _ _ _ => False)
    (OwnFrom.and (Own.from (RG.own m.n _ _) _) (OwnFrom.and (ownFrom_below (by omega) (by omega)) (ownFrom_keepO how (Nat.le_refl _))))
    (fun c => ownFrom_pure _ _)
    ⟨hRG, hB6, KeepO.refl _ _⟩
    (fun x => { tmps := #[.agg #[.slice ua m.n l.cap, .slice (some ⟨g, o, none⟩) m.n nc, .slice (some ⟨ob, 0, none⟩) 2 2], .pointer (some ⟨w.heap.size, 0, none⟩), .slice none 0 0, .pointer (some ⟨w3.heap.size, 0, none⟩), .pointer (some ⟨w3.heap.size + 1 + 1, 0, none⟩), .int .i64 ((x.1.val : Nat) : Int), .int .i64 ((x.2.val : Nat) : Int),
        .agg #[.slice ua m.n l.cap, .slice (some ⟨g, o, none⟩) m.n nc, .slice (some ⟨ob, 0, none⟩) 2 2], agF bx, .pointer (some ⟨w.heap.size, 1, none⟩), .slice (some ⟨g, o, none⟩) m.n nc, .int .i64 (m.n : Int), .slice (some ⟨w3.heap.size + 1, 0, none⟩) m.n m.n, .pointer (some ⟨w.heap.size, 0, none⟩), .agg #[.slice ua m.n l.cap], .func (.func 64) #[] #[.pointer (some ⟨w3.heap.size + 1 + 1 + 1, 0, none⟩)],
        .int .i64 ((x.1.val : Nat) : Int), .int .i64 ((x.2.val : Nat) : Int), undef, undef, undef, undef, undef, undef, undef, undef, undef, undef, undef, undef, undef, undef, undef, undef, undef, undef, undef], defers := [] }) ?assign ?body ?done ?stop
  case assign =>
    intro lr x W K hK
    dsimp only
    clear hP0 hPs hU0 hVV hB6 hRG hn hpos how hs3 hws b3 hX3
    gi_wp2
    exact hK
  case body =>
    rintro lr pre ⟨⟨a, ha⟩, ⟨b, hb⟩⟩ W ⟨hrb, hBW, hKW⟩ _
    have HRB := Lib.hid hrb
    have hsz := hKW.size
    have hGW : Hid (AgAt m y ma bx W) := Lib.hid ⟨(hKW.same _ _ HG.out.top (by show ¬ bx = w3.heap.size + 1; omega)).1, fun a ha => by
      obtain ⟨s, hs, hc, hr⟩ := HG.out.row a ha
      exact ⟨s, hs, (hKW.same _ _ hc (by show ¬ ma = w3.heap.size + 1; omega)).1, hr⟩⟩
    have q0 := (hKW.same _ _ hU0 (by show ¬ w3.heap.size = w3.heap.size + 1; omega)).1
    have qv := (hKW.same _ _ hVV (by show ¬ w3.heap.size + 1 + 1 = w3.heap.size + 1; omega)).1
    have HKW := Lib.hid hKW
    clear hrb hRG hB6 hP0 hU0 hVV hKW
    dsimp only
    cases g1 : agB m y a b with
    | false =>
      have HP : Hid (adjB m y a b = false) := by show _ = _; unfold adjB; rw [g1]; rfl
      have G1 := Lib.hid g1
      clear g1
      gi_wp2_with fail
      refine ⟨trivial, ?_⟩
      refine (CallsIn.inRound lr (callsIn_wide.2 (agrees_any hGW.out hn ha hb))).mono ?_
      rintro e w' ⟨rfl, rfl⟩
      rw [G1.out]
      gi_wp2_with fail
      refine ⟨(fun f hf => by cases hf), ?_⟩
      gi_wp2_with fail
      exact ⟨keepsFrom_below (Below.refl _ _), rfl, HRB.out.skip HP.out, hBW, HKW.out⟩
    | true =>
      have G1 := Lib.hid g1
      cases g2 : agB m y b a with
      | false =>
        have HP : Hid (adjB m y a b = false) := by show _ = _; unfold adjB; rw [g1, g2]; rfl
        have G2 := Lib.hid g2
        clear g1 g2
        gi_wp2_with fail
        refine ⟨trivial, ?_⟩
        refine (CallsIn.inRound lr (callsIn_wide.2 (agrees_any hGW.out hn ha hb))).mono ?_
        rintro e w' ⟨rfl, rfl⟩
        rw [G1.out]
        gi_wp2_with fail
        refine ⟨trivial, ?_⟩
        refine (CallsIn.inRound lr (callsIn_wide.2 (agrees_any hGW.out hn hb ha))).mono ?_
        rintro e w' ⟨rfl, rfl⟩
        rw [G2.out]
        gi_wp2_with fail
        exact ⟨keepsFrom_below (Below.refl _ _), rfl, HRB.out.skip HP.out, hBW, HKW.out⟩
      | true =>
        have HP : Hid (adjB m y a b = true) := by show _ = _; unfold adjB; rw [g1, g2]; rfl
        have G2 := Lib.hid g2
        clear g1 g2
        gi_wp2_with fail
        refine ⟨trivial, ?_⟩
        refine (CallsIn.inRound lr (callsIn_wide.2 (agrees_any hGW.out hn ha hb))).mono ?_
        rintro e w' ⟨rfl, rfl⟩
        rw [G1.out]
        gi_wp2_with fail
        refine ⟨trivial, ?_⟩
        refine (CallsIn.inRound lr (callsIn_wide.2 (agrees_any hGW.out hn hb ha))).mono ?_
        rintro e w' ⟨rfl, rfl⟩
        rw [G2.out]
        clear q0
        gi_wp2_with fail
        have bd : Below W.heap.size W W.drew := (Below.refl _ W).drew
        have HRB3 := Lib.hid (HRB.out.below bd)
        have hB3 := hBW.trans (bd.mono hBW.size)
        have hK3 := Lib.hid (HKW.out.trans (how.below hsz bd))
        have s3 : W2.heap.size ≤ W.drew.heap.size := Nat.le_trans hsz bd.size
        obtain ⟨s, hs, cs, fs, _⟩ := HRB3.out.row a ha
        have ct : W.drew.cell? ⟨w3.heap.size + 1 + 1, 0, none⟩ = some (.slice (some ⟨w3.heap.size + 1, 0, none⟩) m.n m.n) := qv
        have Hs := Lib.hid hs
        have h12 := pow_le_12 hn
        have ha' : (a : Int) < m.n := by omega
        have hb' : (b : Int) ≤ 64 := by omega
        have hb'' : (b : Int) < 64 := by omega
        have ho : bits .or .i64 (s : Int) (IntKind.i64.wrap (2 ^ b)) = ((s ||| 2 ^ b : Nat) : Int) := by
          have hp := pow_le_12 (k := b) (by omega)
          rw [one_wrap (by omega), i64_or_nat _ _ (by omega) (by omega)]
        have HO := Lib.hid ho
        have hT : (fun _ : World => True) W.drew := trivial
        clear hs ho HRB h12 qv
        refine region_hold (fuel := 9) (listed := #[false, false, false, false, false, false, false, false, false]) (fun _ => True) (by kernel_rfl) (by kernel_rfl) (by kernel_rfl) (by kernel_rfl) ?_
        generalize W.drew = wd at bd HRB3 hB3 hK3 s3 cs fs ct hT ⊢
        refine hold_take (i := 1) (d := 29) (v := ?va1) (listed' := #[false, true, false, false, false, false, false, false, false]) rfl (by kernel_rfl) (by kernel_rfl) (by kernel_rfl) rfl (by rfl) (by kernel_rfl) hT ?ha1 ?ra1
        case ha1 =>
          intro w' hSw
          skip
          go_simp
          try with_reducible rfl
        simp only [List.setIfInBounds_toArray, List.set_cons_zero, List.set_cons_succ]
        refine hold_take (i := 4) (d := 32) (v := ?va4) (listed' := #[false, true, false, false, true, false, false, false, false]) rfl (by kernel_rfl) (by kernel_rfl) (by kernel_rfl) rfl (by rfl) (by kernel_rfl) hT ?ha4 ?ra4
        case ha4 =>
          intro w' hSw
          skip
          go_simp
          try with_reducible rfl
        simp only [List.setIfInBounds_toArray, List.set_cons_zero, List.set_cons_succ]
        refine hold_take (i := 5) (d := 33) (v := ?va5) (listed' := #[false, true, false, false, true, true, false, false, false]) rfl (by kernel_rfl) (by kernel_rfl) (by kernel_rfl) rfl (by rfl) (by kernel_rfl) hT ?ha5 ?ra5
        case ha5 =>
          intro w' hSw
          skip
          go_simp
          try with_reducible rfl
        simp only [List.setIfInBounds_toArray, List.set_cons_zero, List.set_cons_succ]
        refine hold_value (i := 0) (d := 28) (listed' := #[true, true, false, false, true, true, false, false, false]) rfl (by kernel_rfl) rfl (by rfl) (by kernel_rfl) (v := .slice (some ⟨w3.heap.size + 1, 0, none⟩) m.n m.n) (w' := wd) ?hva0 hT ?_
        case hva0 =>
          go_simp
          try with_reducible rfl
        simp only [List.setIfInBounds_toArray, List.set_cons_zero, List.set_cons_succ]
        refine hold_value (i := 2) (d := 30) (listed' := #[true, true, true, false, true, true, false, false, false]) rfl (by kernel_rfl) rfl (by rfl) (by kernel_rfl) (v := .pointer (some ⟨w3.heap.size + 1, a, none⟩)) (w' := wd) ?hva2 hT ?_
        case hva2 =>
          go_simp
          try with_reducible rfl
        simp only [List.setIfInBounds_toArray, List.set_cons_zero, List.set_cons_succ]
        refine hold_value (i := 3) (d := 31) (listed' := #[true, true, true, true, true, true, false, false, false]) rfl (by kernel_rfl) rfl (by rfl) (by kernel_rfl) (v := .int .i64 (s : Int)) (w' := wd) ?hva3 hT ?_
        case hva3 =>
          go_simp
          try with_reducible rfl
        simp only [List.setIfInBounds_toArray, List.set_cons_zero, List.set_cons_succ]
        refine hold_value (i := 6) (d := 34) (listed' := #[true, true, true, true, true, true, true, false, false]) rfl (by kernel_rfl) rfl (by rfl) (by kernel_rfl) (v := .int .i64 (bits .or .i64 (s : Int) (IntKind.i64.wrap (2 ^ b)))) (w' := wd) ?hva6 hT ?_
        case hva6 =>
          go_simp
          try with_reducible rfl
        simp only [List.setIfInBounds_toArray, List.set_cons_zero, List.set_cons_succ]
        refine hold_value (i := 7) (d := 35) (listed' := #[true, true, true, true, true, true, true, true, false]) rfl (by kernel_rfl) rfl (by rfl) (by kernel_rfl) (v := .pointer (some ⟨w3.heap.size + 1, a, none⟩)) (w' := wd) ?hva7 hT ?_
        case hva7 =>
          go_simp
          try with_reducible rfl
        simp only [List.setIfInBounds_toArray, List.set_cons_zero, List.set_cons_succ]
        refine hold_store (i := 8) (w' := wd.setCell ⟨w3.heap.size + 1, a, none⟩ (.int .i64 (bits .or .i64 (s : Int) (IntKind.i64.wrap (2 ^ b))))) (listed' := #[true, true, true, true, true, true, true, true, true]) rfl (by kernel_rfl) rfl (by rfl) (by kernel_rfl) ?hsa8 trivial ?hka8
        case hsa8 => go_simp
        refine hold_done (by kernel_rfl) ?_ _
        gi_wp2_with fail
        rw [HO.out]
        have hset := HRB3.out.set ha hb HP.out cs
        have hKs : KeepO (fun _ k => k = w3.heap.size + 1) wd (wd.setCell ⟨w3.heap.size + 1, a, none⟩ (.int .i64 ((s ||| 2 ^ b : Nat) : Int))) :=
          ⟨(KeepsOthers.setCell _ _ _).size, fun q v hq hne => ⟨(World.cell?_setCell_other _ _ _ _ (fun e => hne (congrArg Addr.block e).symm)).trans hq, hne⟩⟩
        have hKf := hK3.out.trans hKs
        exact ⟨(keepsFrom_below bd).trans ((KeepsOthers.setCell _ _ _).from _), (Below.heap_setCell _ _ _ _ (by show ¬ w3.heap.size + 1 + 1 + 1 = w3.heap.size + 1; omega)).trans (bd.block _ (by omega)), hset, hB3.setCell (p := ⟨w3.heap.size + 1, a, none⟩) (by show _ ≤ w3.heap.size + 1; omega) _, hKf⟩
  case done =>
    rintro D ys W hD hys ⟨hrb, hBW, hKW⟩ hK
    have hAg := Lib.hid ((hrb.all hys).put hK rfl (.deferred none))
    have hDs : w.heap.size ≤ D := by omega
    have qv := (hKW.same _ _ hVV (by show ¬ w3.heap.size + 1 + 1 = w3.heap.size + 1; omega)).1
    clear hrb hRG hP0 hKW hVV hU0
    gi_wp2
    refine ⟨by simp, .inl ⟨_, _, rfl, run_takeDeferred hK, ?_⟩⟩
    refine ⟨.slice (some ⟨w3.heap.size + 1, 0, none⟩) m.n m.n, ?_, ⟨_, rfl, hAg.out, hBW.trans (belowK_b (w := w) (Nat.le_refl _) W D _ _ hDs hK rfl rfl), by omega⟩⟩
    simp [results, Tryd.f30, go_sem]
  case stop =>
    rintro D c pre W hD _ hF hK
    exact hF.elim
end Go.Proofs.YtjmhhjdkemicbaaDoor
