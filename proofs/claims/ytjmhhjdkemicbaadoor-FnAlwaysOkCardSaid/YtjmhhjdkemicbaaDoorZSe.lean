import Derived.Test.YtjmhhjdkemicbaaDoorZSc
namespace Go.Proofs.YtjmhhjdkemicbaaDoor
open Go.RowKit Go.Deep Go.Shelf

theorem i64_andNot_nat (a b : Nat) (ha : a < 9223372036854775808) (hb : b < 9223372036854775808) : bits .andNot .i64 (a : Int) (b : Int) = ((a ^^^ (a &&& b) : Nat) : Int) := by
  have h1 : a &&& b < 2 ^ 63 := Nat.and_lt_two_pow _ (by omega)
  have hx : a ^^^ (a &&& b) < 2 ^ 63 := Nat.xor_lt_two_pow (by omega) h1
  have e : (BitVec.ofInt 64 (a : Int) &&& ~~~BitVec.ofInt 64 (b : Int)).toNat = a ^^^ (a &&& b) := by
    refine Nat.eq_of_testBit_eq fun i => ?_
    rw [BitVec.testBit_toNat, BitVec.getLsbD_and, BitVec.getLsbD_not, ← BitVec.testBit_toNat, ← BitVec.testBit_toNat, ofInt_i64 a ha, ofInt_i64 b hb, Nat.testBit_xor, Nat.testBit_and]
    by_cases hi : i < 64
    · simp only [hi, decide_true, Bool.true_and]
      cases a.testBit i <;> cases b.testBit i <;> rfl
    · have h2 : 2 ^ 64 ≤ 2 ^ i := Nat.pow_le_pow_right (by omega) (by omega)
      have h3 : a.testBit i = false := Nat.testBit_lt_two_pow (by omega)
      rw [h3]; rfl
  show IntKind.i64.wrap ((BitVec.ofInt 64 (a : Int) &&& ~~~BitVec.ofInt 64 (b : Int)).toNat : Int) = _
  rw [e, IntKind.wrap_i64]
  omega
theorem more_is (m : Mx) (y : Nat → Nat) (s : Nat) : shN m y s ^^^ (shN m y s &&& s) = moreN m y s := by
  refine Nat.eq_of_testBit_eq fun i => ?_
  have e : (moreN m y s).testBit i = (decide (i < m.n) && (nbB m y s i && !s.testBit i)) := (bitS_is _ _).2 i
  rw [Nat.testBit_xor, Nat.testBit_and, shN_bit, e]
  cases decide (i < m.n) <;> cases nbB m y s i <;> cases s.testBit i <;> rfl
/-- What agrees with the first of the listed. -/
structure ShTo (m : Mx) (y q : Nat → Nat) (j v : Nat) : Prop where
  lt : v < 2 ^ m.n
  bit : ∀ x, x < m.n → (v.testBit x = true ↔ ∀ i, i < j → adjB m y x (q i) = true)
theorem ShTo.zero (m : Mx) (y q : Nat → Nat) : ShTo m y q 0 (2 ^ m.n - 1) :=
  ⟨by have := Nat.two_pow_pos m.n; omega, fun x hx => by rw [full_bits]; simp [hx]⟩
theorem ShTo.next {m : Mx} {y q : Nat → Nat} {j v r : Nat} (h : ShTo m y q j v) (hr : ∀ b, b < m.n → r.testBit b = adjB m y (q j) b) : ShTo m y q (j + 1) (v &&& r) :=
  ⟨Nat.lt_of_le_of_lt Nat.and_le_left h.lt, fun x hx => by
    rw [Nat.testBit_and, Bool.and_eq_true, h.bit x hx, hr x hx, adjB_comm]
    constructor
    · rintro ⟨h1, h2⟩ i hi
      by_cases e : i = j
      · subst e; exact h2
      · exact h1 i (by omega)
    · intro h1
      exact ⟨fun i hi => h1 i (by omega), h1 j (by omega)⟩⟩
theorem ShTo.all {m : Mx} {y : Nat → Nat} {s v : Nat} (hn : m.n ≤ 12) (hs : s < 2 ^ m.n) (h : ShTo m y (memF s 12) (memK s 12) v) : v = shN m y s := by
  have hE := mem_emb s 12
  refine Nat.eq_of_testBit_eq fun x => ?_
  rw [shN_bit]
  by_cases hx : x < m.n
  · rw [Bool.eq_iff_iff, h.bit x hx, Bool.and_eq_true, decide_eq_true_iff, nb_iff]
    constructor
    · intro g
      refine ⟨hx, fun a ha ga => ?_⟩
      have := g _ (hE.blt a (by omega) ga)
      rw [hE.qb a (by omega) ga] at this
      exact this
    · rintro ⟨_, g⟩ i hi
      exact g _ (bit_under hs (hE.has i hi)) (hE.has i hi)
  · cases e : v.testBit x with
    | true => exact absurd (bit_under h.lt e) hx
    | false => simp [hx]

set_option maxRecDepth 100000 in
set_option maxHeartbeats 2000000 in
theorem shared_any {m : Mx} {y : Nat → Nat} {mb s : Nat} {w : World} (hC : CompAt m y mb w) (hn : m.n ≤ 12) (hs : s < 2 ^ m.n) (hT : TabOk w) :
    Calls Tryd.prog 77 #[.slice (some ⟨mb, 0, none⟩) m.n m.n, .int .i64 (s : Int)] w fun e w' => e = .returned (.int .i64 ((shN m y s : Nat) : Int)) ∧ Below w.heap.size w w' := by
  have h12 := pow_le_12 hn
  have hp := Nat.two_pow_pos m.n
  have hn64 : (m.n : Int) ≤ 64 := by omega
  have hn63 : (m.n : Int) < 64 := by omega
  have e1 := one_wrap hn
  have hK12 : memK s 12 ≤ 12 := memsTo_len s 12
  have HC := Lib.hid hC
  have HS := Lib.hid hs
  clear hC
  go_enter Tryd.func77, Tryd.ntmps77
  go_wp2_with fail
  go_at_call 78
  refine (members_any (s := s) (by omega) hT).mono ?_
  rintro e w1 ⟨a, g, c, rfl, hM, b1⟩
  have HM := Lib.hid hM
  have HC1 := Lib.hid (HC.out.step b1)
  clear hM hT
  go_wp2_with fail
  go_loopw [5, 15] (fun s5 s15 wr => ∃ j v : Nat, j ≤ memK s 12 ∧ s15 = .int .i64 j ∧ s5 = .int .i64 (v : Int) ∧ wr = w1 ∧ Hid (ShTo m y (memF s 12) j v)) (fun _ s15 _ => memK s 12 - (intOf s15).toNat)
  case atStart => exact ⟨0, 2 ^ m.n - 1, Nat.zero_le _, rfl, by rw [show wrap64 (2 ^ m.n - 1) = ((2 ^ m.n - 1 : Nat) : Int) from by
    have e2 : (2 : Int) ^ m.n = ((2 ^ m.n : Nat) : Int) := by simp
    rw [e2]; unfold wrap64; omega], rfl, ShTo.zero m y _⟩
  case round =>
    obtain ⟨j, v, hj, rfl, rfl, rfl, HV⟩ := hrel
    by_cases hjt : j < memK s 12
    · have hjt' : (j : Int) < (memK s 12 : Int) := by omega
      obtain ⟨rfl, _, hcj⟩ := HM.out.row j hjt
      rw [Nat.zero_add] at hcj
      have hq : memF s 12 j < m.n := bit_under HS.out ((mem_emb s 12).has j hjt)
      have hq' : ((memF s 12 j : Nat) : Int) < (m.n : Int) := by omega
      obtain ⟨r, hr, hcr, hb⟩ := HC1.out.row _ hq
      have hv := HV.out.lt
      have he := i64_and_nat v r (by omega) (by omega)
      have HN := Lib.hid (HV.out.next hb)
      clear hb hr hv
      go_wp2_with fail
      go_roundw
      case rel => exact ⟨j + 1, v &&& r, by omega, by go_num, by first | rfl | trivial | rw [he], by first | rfl | trivial, HN⟩
      case measure => simp [intOf]; omega
    · have hjt' : ¬ (j : Int) < (memK s 12 : Int) := by omega
      have ej : j = memK s 12 := by omega
      subst ej
      have ev := HV.out.all hn HS.out
      subst ev
      go_wp2_with fail
      go_ret
      exact ⟨rfl, b1⟩
end Go.Proofs.YtjmhhjdkemicbaaDoor
namespace Go.Proofs.YtjmhhjdkemicbaaDoor
open Go.RowKit Go.Deep Go.Shelf

attribute [local go_sem] Oper.semAt_some

theorem leave_marks {n : Nat} {fn : Func} {tmps : Array Value} {v : Value} {B : Nat} {Z : Unit → World → Prop} (hZ : OwnFrom B Z) (hres : ∀ W : World, (results fn tmps).run Tryd.prog W = .ok v W) : ∀ (Ds : List Nat) (W : World), Ds.Pairwise (· ≠ ·) → (∀ D ∈ Ds, B ≤ D ∧ W.heap[D]? = some (.deferred (some []))) → Z () W →
    LeavesInM Fence.wide n Tryd.prog fn tmps (fun e W' => (∃ v, e = .returned v) ∧ Z () W') (Ds.map markD) .returning W := by
  intro Ds
  induction Ds with
  | nil => intro W _ _ h; exact ⟨v, hres W, ⟨v, rfl⟩, h⟩
  | cons D r ih =>
    intro W hp hd h
    rw [List.pairwise_cons] at hp
    obtain ⟨h1, h2⟩ := hd D List.mem_cons_self
    refine ⟨by simp, .inl ⟨D, _, rfl, run_takeDeferred h2, ?_⟩⟩
    refine ih _ hp.2 (fun E hE => ?_) (hZ.putObj _ h h1 h2 rfl)
    obtain ⟨g1, g2⟩ := hd E (List.mem_cons_of_mem _ hE)
    exact ⟨g1, (World.putObj_heap_other (fun e => hp.1 E hE e.symm)).trans g2⟩

/-- A region that draws its order, ahead of any round. -/
theorem region_flat {n id fuel : Nat} {P : Program} {ops : Array Oper} {listed : Array Bool} {Q : Exit → Act → World → Prop} {a : Act} {w : World} (S : World → Prop) (hm : P.follows .mixedOrders = true) (hf : ops.size = fuel) (hl : Array.replicate ops.size false = listed)
    (h : wpAnyH P .any ops (fun e a w => e = .normal ∧ Q .normal a w) S fuel listed a w.drew) : (Code.region id ops true).wpIn Fence.wide n P Q a w := wpIn_wide.2 (region_plain S hm hf hl h)

structure BlkO (own : World → Nat → Prop) (m : Mx) (y : Nat → Nat) (mb b1 b2 b3 s r : Nat) (W : World) : Prop where
  cw : W.cell? ⟨b1, 0, none⟩ = some (.slice (some ⟨mb, 0, none⟩) m.n m.n) ∧ ¬ own W b1
  cs : W.cell? ⟨b2, 0, none⟩ = some (.int .i64 (s : Int)) ∧ ¬ own W b2
  cf : W.cell? ⟨b3, 0, none⟩ = some (.int .i64 (r : Int)) ∧ ¬ own W b3
  comp : CompAt m y mb W ∧ ¬ own W mb
  tab : TabOk W ∧ ¬ own W 2
theorem BlkO.keep {own : World → Nat → Prop} {m : Mx} {y : Nat → Nat} {mb b1 b2 b3 s r : Nat} {W W' : World} (h : BlkO own m y mb b1 b2 b3 s r W) (hn : 0 < m.n) (k : KeepO own W W') : BlkO own m y mb b1 b2 b3 s r W' where
  cw := k.same _ _ h.cw.1 h.cw.2
  cs := k.same _ _ h.cs.1 h.cs.2
  cf := k.same _ _ h.cf.1 h.cf.2
  comp := ⟨⟨fun a ha => by
    obtain ⟨t, h1, h2, h3⟩ := h.comp.1.row a ha
    exact ⟨t, h1, (k.same _ _ h2 h.comp.2).1, h3⟩⟩, by
    obtain ⟨t, h1, h2, h3⟩ := h.comp.1.row 0 hn
    exact (k.same _ _ h2 h.comp.2).2⟩
  tab := ⟨fun j hj => (k.same _ _ (h.tab.1 j hj) h.tab.2).1, (k.same _ _ (h.tab.1 0 (by omega)) h.tab.2).2⟩

set_option maxRecDepth 100000 in
set_option maxHeartbeats 1000000 in
theorem blocks_any (a : Option Addr) (n c : Nat) (s r : Int) (w : World) :
    Calls Tryd.prog 58 #[.slice a n c, .int .i64 s, .int .i64 r] w fun e w' => e = .returned (.func (.func 76) #[] #[.pointer (some ⟨w.heap.size, 0, none⟩), .pointer (some ⟨w.heap.size + 1, 0, none⟩), .pointer (some ⟨w.heap.size + 1 + 1, 0, none⟩)]) ∧
      w' = ((w.alloc (.cells #[.slice a n c] 64)).alloc (.cells #[.int .i64 s] 3)).alloc (.cells #[.int .i64 r] 3) := by
  go_enter Tryd.func58, Tryd.ntmps58
  go_wp2_with fail
  go_ret
  exact ⟨rfl, rfl⟩
theorem blocks_world {w w' : World} {u v x : Value} {a b c : TypeId} (h : w' = ((w.alloc (.cells #[u] a)).alloc (.cells #[v] b)).alloc (.cells #[x] c)) : Below w.heap.size w w' := by
  rw [h]
  exact (((Below.refl _ w).alloc (Nat.le_refl _) _).alloc (by simp) _).alloc (by simp; omega) _
theorem World.cell?_of_new (W : World) (v : Value) (t : TypeId) : (W.alloc (.cells #[v] t)).cell? ⟨W.heap.size, 0, none⟩ = some v := by simp
/-- Between two rounds of the loop over the answers that may be put to the set. -/
structure LoopI (own : World → Nat → Prop) (m : Mx) (y : Nat → Nat) (mb b1 b2 b3 s r yb lr mg K : Nat) (q : Nat → Nat) (J : List Nat → World → Prop) (F : Nat → List Nat) (B : Nat) (mems : List Nat) (j : Nat) (Ds : List Nat) (wr : World) : Prop where
  blk : BlkO own m y mb b1 b2 b3 s r wr
  yb : wr.cell? ⟨yb, 0, none⟩ = some (.func (.yield lr) #[] #[]) ∧ ¬ own wr yb
  mem : ∀ i, i < K → wr.cell? ⟨mg, i, none⟩ = some (.int .i64 ((q i : Nat) : Int)) ∧ ¬ own wr mg
  J : J ((mems.take j).map F).flatten wr
  size : B ≤ wr.heap.size
  dis : Ds.Pairwise (· ≠ ·)
  marks : ∀ D ∈ Ds, B ≤ D ∧ wr.heap[D]? = some (.deferred (some []))
theorem cut_int (x r : Nat) : (x : Int) / 2 ^ r * 2 ^ r = ((cutN x r : Nat) : Int) := by unfold cutN; simp
theorem cut_wrap {x r : Nat} (h : cutN x r < 4096) : wrap64 ((x : Int) / 2 ^ r * 2 ^ r) = ((cutN x r : Nat) : Int) := by
  rw [cut_int]
  generalize cutN x r = c at h
  unfold wrap64
  omega
theorem cut_wrap' {x r : Nat} (h : cutN x r < 4096) : IntKind.i64.wrap ((x : Int) / 2 ^ r * 2 ^ r) = ((cutN x r : Nat) : Int) := by
  rw [cut_int]
  generalize cutN x r = c at h
  rw [IntKind.wrap_i64]
  omega
theorem ownFrom_marks {β : Type} {B : Nat} {Ds : List Nat} (h : ∀ D ∈ Ds, D < B) : OwnFrom B (fun (_ : β) W => ∀ D ∈ Ds, W.heap[D]? = some (.deferred (some []))) :=
  fun _ A C row hs hg hr D hD => (hg.block D (Array.getElem?_eq_some_iff.1 (hs D hD)).1 (fun e => by have := (hr D e.symm).1; have := h D hD; omega)).trans (hs D hD)
theorem flat_next {mems : List Nat} {j a : Nat} {F : Nat → List Nat} (h : mems.take (j + 1) = mems.take j ++ [a]) : ((mems.take (j + 1)).map F).flatten = ((mems.take j).map F).flatten ++ F a := by
  rw [h]; simp only [List.map_append, List.flatten_append, List.map_cons, List.map_nil, List.flatten_cons, List.flatten_nil, List.append_nil]
theorem flat_pre {mems : List Nat} {j a : Nat} {F : Nat → List Nat} {q : List Nat} (h : mems.take (j + 1) = mems.take j ++ [a]) (hq : q <+: F a) : ((mems.take j).map F).flatten ++ q <+: (mems.map F).flatten := by
  have e : (mems.map F).flatten = ((mems.take (j + 1)).map F).flatten ++ ((mems.drop (j + 1)).map F).flatten := by
    rw [← List.flatten_append, ← List.map_append, List.take_append_drop]
  obtain ⟨q2, hq2⟩ := hq
  rw [e, flat_next h, ← hq2]
  exact ⟨q2 ++ ((mems.drop (j + 1)).map F).flatten, by simp only [List.append_assoc]⟩
theorem blocks_cells {w w' : World} {u v x : Value} {a b c : TypeId} (h : w' = ((w.alloc (.cells #[u] a)).alloc (.cells #[v] b)).alloc (.cells #[x] c)) :
    w'.cell? ⟨w.heap.size, 0, none⟩ = some u ∧ w'.cell? ⟨w.heap.size + 1, 0, none⟩ = some v ∧ w'.cell? ⟨w.heap.size + 1 + 1, 0, none⟩ = some x := by
  subst h
  have e1 : (w.alloc (.cells #[u] a)).heap.size = w.heap.size + 1 := World.size_alloc _ _
  have e2 : ((w.alloc (.cells #[u] a)).alloc (.cells #[v] b)).heap.size = w.heap.size + 1 + 1 := by rw [World.size_alloc, e1]
  have b2 := (Below.refl (w.alloc (.cells #[u] a)).heap.size (w.alloc (.cells #[u] a))).alloc (Nat.le_refl _) (.cells #[v] b)
  have b3 := (Below.refl ((w.alloc (.cells #[u] a)).alloc (.cells #[v] b)).heap.size ((w.alloc (.cells #[u] a)).alloc (.cells #[v] b))).alloc (Nat.le_refl _) (.cells #[x] c)
  have c1 := World.cell?_of_new w u a
  have c2 := World.cell?_of_new (w.alloc (.cells #[u] a)) v b
  have c3 := World.cell?_of_new ((w.alloc (.cells #[u] a)).alloc (.cells #[v] b)) x c
  rw [e1] at c2 b2
  rw [e2] at c3 b3
  exact ⟨(b3.cell (p := ⟨w.heap.size, 0, none⟩) (by show w.heap.size < _; omega)).trans ((b2.cell (p := ⟨w.heap.size, 0, none⟩) (by show w.heap.size < _; omega)).trans c1),
    (b3.cell (p := ⟨w.heap.size + 1, 0, none⟩) (by show w.heap.size + 1 < _; omega)).trans c2, c3⟩

set_option maxRecDepth 100000 in
set_option maxHeartbeats 4000000 in
/-- The function value yields just the blocks that have the set, each once, in the order of 'blocksL'. -/
theorem blocks_seq {m : Mx} {z : Nat → Int} {y : Nat → Nat} {o : Nat} (hO : Ortho m z y o) : ∀ (f s r : Nat), s < 2 ^ m.n → Clique m y s → r ≤ m.n → m.n < r + f →
    ∀ (own : World → Nat → Prop) (mb b1 b2 b3 : Nat) (w : World), Ow own w.heap.size → BlkO own m y mb b1 b2 b3 s r w →
    SeqL own 76 #[.pointer (some ⟨b1, 0, none⟩), .pointer (some ⟨b2, 0, none⟩), .pointer (some ⟨b3, 0, none⟩)] (blocksL m y f s r) w := by
  have hn := hO.lat.order.top
  have hpos : 0 < m.n := hO.lat.order.pos
  have h12 := pow_le_12 hn
  intro f
  induction f with
  | zero => intro s r _ _ h1 h2; omega
  | succ f ih =>
    intro s r hs hcl hr hf own mb b1 b2 b3 w how0 hBlk0 ml lr J Jx W hW hJ hJx hlt hR h0
    have IH := Lib.hid ih
    have how : Ow own W.heap.size := how0.up hW.size
    have hBlk : BlkO own m y mb b1 b2 b3 s r W := hBlk0.keep hpos (how0.below (Nat.le_refl _) hW)
    have HR := Lib.hid hR
    have HJ0 := Lib.hid h0
    have HCL := Lib.hid hcl
    have hmore := moreN_lt m y s
    have hsh := shN_lt m y s
    clear ih hW how0 hBlk0 hR h0 hcl
    refine callsIn_of_wp_marks Tryd.func76 rfl trivial ?_ rfl
    simp only [Tryd.ntmps76, List.size_toArray, List.length_cons, List.length_nil, Nat.reduceAdd, Nat.reduceSub, Array.replicate_succ, Array.replicate_zero, List.push_toArray, List.append_toArray, List.nil_append, List.cons_append]
    gi_wp2_with fail
    have bY : Below W.heap.size W (W.alloc (.cells #[.func (.yield lr) #[] #[]] 76)) := (Below.refl _ W).alloc (Nat.le_refl _) _
    have hY0 := World.cell?_of_new W (.func (.yield lr) #[] #[]) 76
    have hYo : ¬ own (W.alloc (.cells #[.func (.yield lr) #[] #[]] 76)) W.heap.size := fun g => by
      have := hlt _ _ _ HJ0.out (how.step W _ none (Nat.le_refl _) (grown_below bY) (fun r e => by cases e) _ g)
      omega
    have sY : (W.alloc (.cells #[.func (.yield lr) #[] #[]] 76)).heap.size = W.heap.size + 1 := World.size_alloc _ _
    have HA0 := hBlk.keep hpos (how.below (Nat.le_refl _) bY)
    have HJ1 := Lib.hid (OwnFrom.below hJ HJ0.out bY)
    generalize hWY : W.alloc (.cells #[.func (.yield lr) #[] #[]] 76) = WY at bY hY0 hYo sY HA0 HJ1 ⊢
    clear hWY HJ0 hBlk
    have bd1 : Below WY.heap.size WY WY.drew := (Below.refl _ WY).drew
    have K1 := how.below (show W.heap.size ≤ WY.heap.size by omega) bd1
    have HA := Lib.hid (HA0.keep hpos K1)
    have hsz : W.heap.size ≤ WY.drew.heap.size := Nat.le_trans bY.size bd1.size
    have hS0 : (fun w' => w'.cell? ⟨b1, 0, none⟩ = some (.slice (some ⟨mb, 0, none⟩) m.n m.n) ∧ w'.cell? ⟨b2, 0, none⟩ = some (.int .i64 (s : Int))) WY.drew := ⟨HA.out.cw.1, HA.out.cs.1⟩
    have e1 : bits .andNot .i64 ((shN m y s : Nat) : Int) (s : Int) = ((moreN m y s : Nat) : Int) := by rw [i64_andNot_nat _ _ (by omega) (by omega), more_is]
    clear HA0
    refine region_flat (fuel := 6) (listed := #[false, false, false, false, false, false]) (fun w' => w'.cell? ⟨b1, 0, none⟩ = some (.slice (some ⟨mb, 0, none⟩) m.n m.n) ∧ w'.cell? ⟨b2, 0, none⟩ = some (.int .i64 (s : Int))) (by kernel_rfl) (by kernel_rfl) (by kernel_rfl) ?_
    refine hold_take (i := 0) (d := 9) (v := ?vr10) (listed' := #[true, false, false, false, false, false]) rfl (by kernel_rfl) (by kernel_rfl) (by kernel_rfl) rfl (by rfl) (by kernel_rfl) hS0 ?hr10 ?rr10
    case hr10 =>
      intro w' hSw
      obtain ⟨k0, k1⟩ := hSw
      go_simp
      try with_reducible rfl
    simp only [List.setIfInBounds_toArray, List.set_cons_zero, List.set_cons_succ]
    refine hold_take (i := 1) (d := 10) (v := ?vr11) (listed' := #[true, true, false, false, false, false]) rfl (by kernel_rfl) (by kernel_rfl) (by kernel_rfl) rfl (by rfl) (by kernel_rfl) hS0 ?hr11 ?rr11
    case hr11 =>
      intro w' hSw
      obtain ⟨k0, k1⟩ := hSw
      go_simp
      try with_reducible rfl
    simp only [List.setIfInBounds_toArray, List.set_cons_zero, List.set_cons_succ]
    refine hold_take (i := 3) (d := 12) (v := ?vr13) (listed' := #[true, true, false, true, false, false]) rfl (by kernel_rfl) (by kernel_rfl) (by kernel_rfl) rfl (by rfl) (by kernel_rfl) hS0 ?hr13 ?rr13
    case hr13 =>
      intro w' hSw
      obtain ⟨k0, k1⟩ := hSw
      go_simp
      try with_reducible rfl
    simp only [List.setIfInBounds_toArray, List.set_cons_zero, List.set_cons_succ]
    refine hold_call (i := 2) (d := 11) (listed' := #[true, true, true, true, false, false]) rfl (by kernel_rfl) rfl (by rfl) (by kernel_rfl) ?her12 (shared_any (s := s) HA.out.comp.1 hn hs HA.out.tab.1) ?hcr12
    case her12 => go_simp
    rintro e x1 ⟨rfl, bb1⟩
    have KA := how.below hsz bb1
    have HB := Lib.hid (HA.out.keep hpos KA)
    have hS1 : (fun w' => w'.cell? ⟨b1, 0, none⟩ = some (.slice (some ⟨mb, 0, none⟩) m.n m.n) ∧ w'.cell? ⟨b2, 0, none⟩ = some (.int .i64 (s : Int))) x1 := ⟨HB.out.cw.1, HB.out.cs.1⟩
    refine ⟨_, rfl, hS1, ?_⟩
    simp only [List.setIfInBounds_toArray, List.set_cons_zero, List.set_cons_succ]
    refine hold_take (i := 4) (d := 13) (v := ?vr14) (listed' := #[true, true, true, true, true, false]) rfl (by kernel_rfl) (by kernel_rfl) (by kernel_rfl) rfl (by rfl) (by kernel_rfl) hS1 ?hr14 ?rr14
    case hr14 =>
      intro w' hSw
      obtain ⟨k0, k1⟩ := hSw
      go_simp
      try with_reducible rfl
    simp only [List.setIfInBounds_toArray, List.set_cons_zero, List.set_cons_succ]
    refine hold_take (i := 5) (d := 5) (v := ?vr15) (listed' := #[true, true, true, true, true, true]) rfl (by kernel_rfl) (by kernel_rfl) (by kernel_rfl) rfl (by rfl) (by kernel_rfl) hS1 ?hr15 ?rr15
    case hr15 =>
      intro w' hSw
      obtain ⟨k0, k1⟩ := hSw
      go_simp
      try with_reducible rfl
    simp only [List.setIfInBounds_toArray, List.set_cons_zero, List.set_cons_succ]
    refine hold_done (by kernel_rfl) ?_ _
    have KX := K1.trans KA
    have hY1 := KX.same _ _ hY0 hYo
    have HJ2 := Lib.hid (OwnFrom.below hJ (OwnFrom.below hJ HJ1.out bd1) bb1)
    have hszX : W.heap.size ≤ x1.heap.size := Nat.le_trans hsz bb1.size
    clear hS0 hS1 HA bd1 bb1 K1 KA KX hY0 hYo HJ1
    have hZ : OwnFrom W.heap.size (fun (_ : Unit) W' => J (blocksL m y (f + 1) s r) W' ∨ ∃ pre, Jx pre W') := fun _ A C row h hg hr => h.elim (fun h => .inl (hJ _ A C row h hg hr)) (fun ⟨pre, h⟩ => .inr ⟨pre, hJx _ A C row h hg hr⟩)
    by_cases h0 : moreN m y s = 0
    · have e0 : (((moreN m y s : Nat) : Int) == 0) = true := by rw [h0]; rfl
      have EL := Lib.hid (blocksL_end (f := f) (r := r) h0)
      obtain ⟨fn, tmps, assign, body, hy, hRd⟩ := HR.out (ml - 1) [] s x1 HJ2.out (by rw [EL.out]; exact List.prefix_refl _)
      have c4 := hY1.1
      have c2 := HB.out.cs.1
      clear HR IH HJ2 HB HCL hlt h0 hmore hsh hY1
      gi_wp2_with fail
      refine ⟨fun h => (by cases h), ?_⟩
      refine hRd.mono ?_
      rintro e W3 (⟨rfl, hJ3, _, _⟩ | ⟨rfl, hJ3, _⟩)
      · rw [List.nil_append, ← EL.out] at hJ3
        gi_wp2_with fail
        exact leave_marks hZ (fun W => results_none rfl _ _ W) [] _ List.Pairwise.nil (fun _ h => by cases h) (.inl hJ3)
      · gi_wp2_with fail
        exact leave_marks hZ (fun W => results_none rfl _ _ W) [] _ List.Pairwise.nil (fun _ h => by cases h) (.inr ⟨_, hJ3⟩)
    · have e0 : (((moreN m y s : Nat) : Int) == 0) = false := by rw [beq_eq_false_iff_ne]; omega
      have EL := Lib.hid (blocksL_on (f := f) (r := r) h0)
      have hcut : cutN (moreN m y s) r < 4096 := by have := cutN_le (moreN m y s) r; omega
      have hr64 : (r : Int) ≤ 64 := by omega
      have hr63 : (r : Int) < 64 := by omega
      have bd4 : Below x1.heap.size x1 x1.drew := (Below.refl _ x1).drew
      have K4 := how.below hszX bd4
      have HC := Lib.hid (HB.out.keep hpos K4)
      have hszC : W.heap.size ≤ x1.drew.heap.size := Nat.le_trans hszX bd4.size
      have hS0 : (fun w' => w'.cell? ⟨b3, 0, none⟩ = some (.int .i64 (r : Int))) x1.drew := HC.out.cf.1
      have e4 := cut_wrap (x := moreN m y s) (r := r) hcut
      have e6 := cut_wrap' (x := moreN m y s) (r := r) hcut
      clear h0 hsh e1
      gi_wp2_with fail
      refine region_flat (fuel := 8) (listed := #[false, false, false, false, false, false, false, false]) (fun w' => w'.cell? ⟨b3, 0, none⟩ = some (.int .i64 (r : Int))) (by kernel_rfl) (by kernel_rfl) (by kernel_rfl) ?_
      refine hold_take (i := 0) (d := 19) (v := ?vr40) (listed' := #[true, false, false, false, false, false, false, false]) rfl (by kernel_rfl) (by kernel_rfl) (by kernel_rfl) rfl (by rfl) (by kernel_rfl) hS0 ?hr40 ?rr40
      case hr40 =>
        intro w' hSw
        have k0 := hSw
        go_simp
        try with_reducible rfl
      simp only [List.setIfInBounds_toArray, List.set_cons_zero, List.set_cons_succ]
      refine hold_take (i := 1) (d := 20) (v := ?vr41) (listed' := #[true, true, false, false, false, false, false, false]) rfl (by kernel_rfl) (by kernel_rfl) (by kernel_rfl) rfl (by rfl) (by kernel_rfl) hS0 ?hr41 ?rr41
      case hr41 =>
        intro w' hSw
        have k0 := hSw
        go_simp
        try with_reducible rfl
      simp only [List.setIfInBounds_toArray, List.set_cons_zero, List.set_cons_succ]
      refine hold_take (i := 2) (d := 21) (v := ?vr42) (listed' := #[true, true, true, false, false, false, false, false]) rfl (by kernel_rfl) (by kernel_rfl) (by kernel_rfl) rfl (by rfl) (by kernel_rfl) hS0 ?hr42 ?rr42
      case hr42 =>
        intro w' hSw
        have k0 := hSw
        go_simp
        try with_reducible rfl
      simp only [List.setIfInBounds_toArray, List.set_cons_zero, List.set_cons_succ]
      refine hold_take (i := 3) (d := 22) (v := ?vr43) (listed' := #[true, true, true, true, false, false, false, false]) rfl (by kernel_rfl) (by kernel_rfl) (by kernel_rfl) rfl (by rfl) (by kernel_rfl) hS0 ?hr43 ?rr43
      case hr43 =>
        intro w' hSw
        have k0 := hSw
        go_simp
        try with_reducible rfl
      simp only [List.setIfInBounds_toArray, List.set_cons_zero, List.set_cons_succ]
      refine hold_take (i := 4) (d := 23) (v := ?vr44) (listed' := #[true, true, true, true, true, false, false, false]) rfl (by kernel_rfl) (by kernel_rfl) (by kernel_rfl) rfl (by rfl) (by kernel_rfl) hS0 ?hr44 ?rr44
      case hr44 =>
        intro w' hSw
        have k0 := hSw
        go_simp
        try with_reducible rfl
      simp only [List.setIfInBounds_toArray, List.set_cons_zero, List.set_cons_succ]
      refine hold_take (i := 7) (d := 26) (v := ?vr47) (listed' := #[true, true, true, true, true, false, false, true]) rfl (by kernel_rfl) (by kernel_rfl) (by kernel_rfl) rfl (by rfl) (by kernel_rfl) hS0 ?hr47 ?rr47
      case hr47 =>
        intro w' hSw
        have k0 := hSw
        go_simp
        try with_reducible rfl
      simp only [List.setIfInBounds_toArray, List.set_cons_zero, List.set_cons_succ]
      refine hold_call (i := 5) (d := 24) (listed' := #[true, true, true, true, true, true, false, true]) rfl (by kernel_rfl) rfl (by rfl) (by kernel_rfl) ?her45 (members_new (s := cutN (moreN m y s) r) hcut HC.out.tab.1) ?hcr45
      case her45 => go_simp
      rintro e x2 ⟨ma, mg, mc, rfl, hMem, bb2, hfr⟩
      have KB := how.below hszC bb2
      have HD := Lib.hid (HC.out.keep hpos KB)
      have hS2 : (fun w' => w'.cell? ⟨b3, 0, none⟩ = some (.int .i64 (r : Int))) x2 := HD.out.cf.1
      refine ⟨_, rfl, hS2, ?_⟩
      simp only [List.setIfInBounds_toArray, List.set_cons_zero, List.set_cons_succ]
      refine hold_take (i := 6) (d := 25) (v := ?vr46) (listed' := #[true, true, true, true, true, true, true, true]) rfl (by kernel_rfl) (by kernel_rfl) (by kernel_rfl) rfl (by rfl) (by kernel_rfl) hS2 ?hr46 ?rr46
      case hr46 =>
        intro w' hSw
        have k0 := hSw
        go_simp
        try with_reducible rfl
      simp only [List.setIfInBounds_toArray, List.set_cons_zero, List.set_cons_succ]
      refine hold_done (by kernel_rfl) ?_ _
      gi_wp2_with fail
      obtain ⟨K, hK⟩ : ∃ K, memK (cutN (moreN m y s) r) 12 = K := ⟨_, rfl⟩
      obtain ⟨v21, hv21⟩ : ∃ v : Value, .int .i64 ((moreN m y s : Int) / 2 ^ r) = v := ⟨_, rfl⟩
      rw [hK, hv21]
      clear hv21
      have hE := mem_emb (cutN (moreN m y s) r) 12
      have hK12 : memK (cutN (moreN m y s) r) 12 ≤ 12 := memsTo_len _ 12
      rw [hK] at hE hMem hK12
      have HE := Lib.hid hE
      have HM := Lib.hid hMem
      have HFr := Lib.hid hfr
      have hHas : ∀ j, j < K → (moreN m y s).testBit (memF (cutN (moreN m y s) r) 12 j) = true ∧ r ≤ memF (cutN (moreN m y s) r) 12 j ∧ memF (cutN (moreN m y s) r) 12 j < m.n := fun j hj => by
        have h1 := hE.has j hj
        rw [cutN_bit, Bool.and_eq_true, decide_eq_true_iff] at h1
        exact ⟨h1.2, h1.1, ((moreN_bit m y s _).1 h1.2).1⟩
      have HH := Lib.hid hHas
      have KX := K4.trans KB
      have hY2 := Lib.hid (KX.same _ _ hY1.1 hY1.2)
      have HJ3 := Lib.hid (OwnFrom.below hJ (OwnFrom.below hJ HJ2.out bd4) bb2)
      have hszJ0 : W.heap.size ≤ x2.heap.size := Nat.le_trans hszC bb2.size
      have hmg : 0 < K → ¬ own x2 mg := fun h0 g => by
        obtain ⟨ea, _, _⟩ := hMem.row 0 h0
        have h1 : x1.drew.heap.size ≤ mg := hfr _ ea
        have h3 := hlt _ _ _ (OwnFrom.below hJ HJ2.out bd4) (how.step _ _ none hszC (grown_below bb2) (fun r e => by cases e) _ g)
        omega
      have HMg := Lib.hid hmg
      have hList : ∀ j, j < K → ((memsTo (cutN (moreN m y s) r) 12).take (j + 1)) = (memsTo (cutN (moreN m y s) r) 12).take j ++ [memF (cutN (moreN m y s) r) 12 j] := fun j hj => by
        have hj' : j < (memsTo (cutN (moreN m y s) r) 12).length := by show j < memK (cutN (moreN m y s) r) 12; rw [hK]; exact hj
        rw [List.take_succ_eq_append_getElem hj']
        unfold memF
        rw [List.getElem?_eq_getElem hj']; rfl
      have HLs := Lib.hid hList
      have HKl : Hid ((memsTo (cutN (moreN m y s) r) 12).length = K) := hK
      clear hE hMem hfr hHas hList hmg HB HC HJ2 hS0 hS2 bd4 K4 KB KX hY1 e0 e4 e6 hszX hszC bb2
      clear bY sY hsz
      refine wpIn_loop (fun a' w' => ∃ (j : Nat) (Ds : List Nat) (u7 u27 u28 u29 u30 u31 u32 u33 u34 u35 u36 u37 u43 : Value), a' = { tmps := (.func (.yield lr) #[] #[] :: .pointer (some ⟨b1, 0, none⟩) :: .pointer (some ⟨b2, 0, none⟩) :: .pointer (some ⟨b3, 0, none⟩) :: .pointer (some ⟨W.heap.size, 0, none⟩) :: .int .i64 ((moreN m y s : Nat) : Int) :: undef :: u7 :: undef :: .slice (some ⟨mb, 0, none⟩) m.n m.n :: .int .i64 (s : Int) :: .int .i64 ((shN m y s : Nat) : Int) :: .int .i64 (s : Int) :: .int .i64 ((moreN m y s : Nat) : Int) :: .int .i64 ((moreN m y s : Nat) : Int) :: .bool false :: undef :: undef :: undef :: .int .i64 ((moreN m y s : Nat) : Int) :: .int .i64 (r : Int) :: v21 :: .int .i64 (r : Int) :: .int .i64 ((cutN (moreN m y s) r : Nat) : Int) :: .slice ma K mc :: .int .i64 (K : Int) :: .int .i64 (j : Int) :: u27 :: u28 :: u29 :: u30 :: u31 :: u32 :: u33 :: u34 :: u35 :: u36 :: u37 :: undef :: undef :: undef :: undef :: undef :: u43 :: []).toArray, defers := Ds.map markD } ∧ j ≤ K ∧ LoopI own m y mb b1 b2 b3 s r W.heap.size lr mg K (memF (cutN (moreN m y s) r) 12) J (fun a => blocksL m y f (s ||| 2 ^ a) (a + 1)) W.heap.size (memsTo (cutN (moreN m y s) r) 12) j Ds w') (fun a' _ => K - (intOf (a'.tmps.getD 26 undef)).toNat) ?start ?round
      case start =>
        exact ⟨0, [], undef, undef, undef, undef, undef, undef, undef, undef, undef, undef, undef, undef, undef, rfl, Nat.zero_le _, HD.out, hY2.out, fun i hi => ⟨by have := (HM.out.row i hi).2.2; rw [Nat.zero_add] at this; exact this, HMg.out (by omega)⟩, HJ3.out, hszJ0, List.Pairwise.nil, fun D hD => by cases hD⟩
      case round =>
        rintro a' wr ⟨j, Ds, u7, u27, u28, u29, u30, u31, u32, u33, u34, u35, u36, u37, u43, rfl, hjK, hI⟩
        clear HD hY2 HMg HJ3 hszJ0
        by_cases hjt : j < K
        · have hjt' : (j : Int) < (K : Int) := by omega
          obtain ⟨ema, _, _⟩ := HM.out.row j hjt
          subst ema
          obtain ⟨a, ha⟩ : ∃ a, memF (cutN (moreN m y s) r) 12 j = a := ⟨_, rfl⟩
          obtain ⟨hm1, hra, han⟩ := HH.out j hjt
          have hcj := (hI.mem j hjt).1
          rw [ha] at hm1 hra han hcj
          have HI := Lib.hid hI
          have hszr := hI.size
          have HA := Lib.hid ha
          have HM1 := Lib.hid hm1
          clear hI ha hm1
          gi_wp2_with fail
          have bdr : Below wr.heap.size wr wr.drew := (Below.refl _ wr).drew
          have KR := how.below hszr bdr
          have HJ := Lib.hid (HI.out.blk.keep hpos KR)
          have hszJ : W.heap.size ≤ wr.drew.heap.size := Nat.le_trans hszr bdr.size
          have hS0 : (fun w' => w'.cell? ⟨b1, 0, none⟩ = some (.slice (some ⟨mb, 0, none⟩) m.n m.n) ∧ w'.cell? ⟨b2, 0, none⟩ = some (.int .i64 (s : Int))) wr.drew := ⟨HJ.out.cw.1, HJ.out.cs.1⟩
          have han64 : (a : Int) ≤ 64 := by omega
          have han63 : (a : Int) < 64 := by omega
          have eor : bits .or .i64 (s : Int) (IntKind.i64.wrap (2 ^ a)) = ((s ||| 2 ^ a : Nat) : Int) := by
            have hp := pow_le_12 (k := a) (by omega)
            rw [one_wrap (by omega), i64_or_nat _ _ (by omega) (by omega)]
          have eor2 : bits .or .i64 (s : Int) (IntKind.i64.wrap (2 ^ min a 64)) = ((s ||| 2 ^ a : Nat) : Int) := by
            have hp := pow_le_12 (k := a) (by omega)
            rw [Nat.min_eq_left (by omega), one_wrap (by omega), i64_or_nat _ _ (by omega) (by omega)]
          have ead : IntKind.i64.wrap ((a : Int) + 1) = ((a + 1 : Nat) : Int) := by rw [IntKind.wrap_i64]; omega
          have ead2 : wrap64 ((a : Int) + 1) = ((a + 1 : Nat) : Int) := by unfold wrap64; omega
          clear hcj
          refine region_flat (fuel := 8) (listed := #[false, false, false, false, false, false, false, false]) (fun w' => w'.cell? ⟨b1, 0, none⟩ = some (.slice (some ⟨mb, 0, none⟩) m.n m.n) ∧ w'.cell? ⟨b2, 0, none⟩ = some (.int .i64 (s : Int))) (by kernel_rfl) (by kernel_rfl) (by kernel_rfl) ?_
          refine hold_take (i := 0) (d := 30) (v := ?vr70) (listed' := #[true, false, false, false, false, false, false, false]) rfl (by kernel_rfl) (by kernel_rfl) (by kernel_rfl) rfl (by rfl) (by kernel_rfl) hS0 ?hr70 ?rr70
          case hr70 =>
            intro w' hSw
            obtain ⟨k0, k1⟩ := hSw
            go_simp
            try with_reducible rfl
          simp only [List.setIfInBounds_toArray, List.set_cons_zero, List.set_cons_succ]
          refine hold_take (i := 1) (d := 31) (v := ?vr71) (listed' := #[true, true, false, false, false, false, false, false]) rfl (by kernel_rfl) (by kernel_rfl) (by kernel_rfl) rfl (by rfl) (by kernel_rfl) hS0 ?hr71 ?rr71
          case hr71 =>
            intro w' hSw
            obtain ⟨k0, k1⟩ := hSw
            go_simp
            try with_reducible rfl
          simp only [List.setIfInBounds_toArray, List.set_cons_zero, List.set_cons_succ]
          refine hold_take (i := 2) (d := 32) (v := ?vr72) (listed' := #[true, true, true, false, false, false, false, false]) rfl (by kernel_rfl) (by kernel_rfl) (by kernel_rfl) rfl (by rfl) (by kernel_rfl) hS0 ?hr72 ?rr72
          case hr72 =>
            intro w' hSw
            obtain ⟨k0, k1⟩ := hSw
            go_simp
            try with_reducible rfl
          simp only [List.setIfInBounds_toArray, List.set_cons_zero, List.set_cons_succ]
          refine hold_take (i := 3) (d := 33) (v := ?vr73) (listed' := #[true, true, true, true, false, false, false, false]) rfl (by kernel_rfl) (by kernel_rfl) (by kernel_rfl) rfl (by rfl) (by kernel_rfl) hS0 ?hr73 ?rr73
          case hr73 =>
            intro w' hSw
            obtain ⟨k0, k1⟩ := hSw
            go_simp
            try with_reducible rfl
          simp only [List.setIfInBounds_toArray, List.set_cons_zero, List.set_cons_succ]
          refine hold_take (i := 4) (d := 34) (v := ?vr74) (listed' := #[true, true, true, true, true, false, false, false]) rfl (by kernel_rfl) (by kernel_rfl) (by kernel_rfl) rfl (by rfl) (by kernel_rfl) hS0 ?hr74 ?rr74
          case hr74 =>
            intro w' hSw
            obtain ⟨k0, k1⟩ := hSw
            go_simp
            try with_reducible rfl
          simp only [List.setIfInBounds_toArray, List.set_cons_zero, List.set_cons_succ]
          refine hold_take (i := 5) (d := 35) (v := ?vr75) (listed' := #[true, true, true, true, true, true, false, false]) rfl (by kernel_rfl) (by kernel_rfl) (by kernel_rfl) rfl (by rfl) (by kernel_rfl) hS0 ?hr75 ?rr75
          case hr75 =>
            intro w' hSw
            obtain ⟨k0, k1⟩ := hSw
            go_simp
            try with_reducible rfl
          simp only [List.setIfInBounds_toArray, List.set_cons_zero, List.set_cons_succ]
          refine hold_take (i := 6) (d := 36) (v := ?vr76) (listed' := #[true, true, true, true, true, true, true, false]) rfl (by kernel_rfl) (by kernel_rfl) (by kernel_rfl) rfl (by rfl) (by kernel_rfl) hS0 ?hr76 ?rr76
          case hr76 =>
            intro w' hSw
            obtain ⟨k0, k1⟩ := hSw
            go_simp
            try with_reducible rfl
          simp only [List.setIfInBounds_toArray, List.set_cons_zero, List.set_cons_succ]
          refine hold_call (i := 7) (d := 37) (listed' := #[true, true, true, true, true, true, true, true]) rfl (by kernel_rfl) rfl (by rfl) (by kernel_rfl) ?her77 (blocks_any (some ⟨mb, 0, none⟩) m.n m.n ((s ||| 2 ^ a : Nat) : Int) ((a + 1 : Nat) : Int) _) ?hcr77
          case her77 => (go_simp; try exact eor2)
          rintro e x3 ⟨rfl, hx3⟩
          have bb3 := blocks_world hx3
          have KC := how.below hszJ bb3
          have HK := Lib.hid (HJ.out.keep hpos KC)
          have hS3 : (fun w' => w'.cell? ⟨b1, 0, none⟩ = some (.slice (some ⟨mb, 0, none⟩) m.n m.n) ∧ w'.cell? ⟨b2, 0, none⟩ = some (.int .i64 (s : Int))) x3 := ⟨HK.out.cw.1, HK.out.cs.1⟩
          refine ⟨_, rfl, hS3, ?_⟩
          simp only [List.setIfInBounds_toArray, List.set_cons_zero, List.set_cons_succ]
          refine hold_done (by kernel_rfl) ?_ _
          clear hS0 hS3 ead ead2 eor eor2
          have hKK := KR.trans KC
          have hpA := hO.clique_put hs HCL.out HM1.out
          have own3 : ∀ k, wr.drew.heap.size ≤ k → ¬ own x3 k := fun k hk g => by
            have h3 := hlt _ _ _ (OwnFrom.below hJ HI.out.J bdr) (how.step _ _ none hszJ (grown_below bb3) (fun r e => by cases e) _ g)
            omega
          have hB3 : BlkO own m y mb wr.drew.heap.size (wr.drew.heap.size + 1) (wr.drew.heap.size + 1 + 1) (s ||| 2 ^ a) (a + 1) x3 :=
            ⟨⟨(blocks_cells hx3).1, own3 _ (Nat.le_refl _)⟩, ⟨(blocks_cells hx3).2.1, own3 _ (by omega)⟩, ⟨(blocks_cells hx3).2.2, own3 _ (by omega)⟩, HK.out.comp, HK.out.tab⟩
          have hsz3 : W.heap.size ≤ x3.heap.size := Nat.le_trans hszJ bb3.size
          have hy3 := hKK.same _ _ HI.out.yb.1 HI.out.yb.2
          have hJ3 : J (((memsTo (cutN (moreN m y s) r) 12).take j).map (fun a => blocksL m y f (s ||| 2 ^ a) (a + 1))).flatten x3 := OwnFrom.below hJ (OwnFrom.below hJ HI.out.J bdr) bb3
          have hmk3 : ∀ D ∈ Ds, x3.heap[D]? = some (.deferred (some [])) := fun D hD => by
            have h1 := (HI.out.marks D hD).2
            have h2 := (Array.getElem?_eq_some_iff.1 h1).1
            exact (bb3.block D (by have := bdr.size; omega)).trans ((bdr.block D h2).trans h1)
          have hDlt : ∀ D ∈ Ds, D < x3.heap.size := fun D hD => (Array.getElem?_eq_some_iff.1 (hmk3 D hD)).1
          have hpre : ∀ q, q <+: blocksL m y f (s ||| 2 ^ a) (a + 1) → (((memsTo (cutN (moreN m y s) r) 12).take j).map (fun a => blocksL m y f (s ||| 2 ^ a) (a + 1))).flatten ++ q <+: blocksL m y (f + 1) s r := fun q hq => by
            rw [EL.out]
            have h1 := HLs.out j hjt
            rw [HA.out] at h1
            exact flat_pre h1 hq
          have hnx : (((memsTo (cutN (moreN m y s) r) 12).take (j + 1)).map (fun a => blocksL m y f (s ||| 2 ^ a) (a + 1))).flatten = (((memsTo (cutN (moreN m y s) r) 12).take j).map (fun a => blocksL m y f (s ||| 2 ^ a) (a + 1))).flatten ++ blocksL m y f (s ||| 2 ^ a) (a + 1) := by
            have h1 := HLs.out j hjt
            rw [HA.out] at h1
            exact flat_next h1
          have hmem3 : ∀ i, i < K → x3.cell? ⟨mg, i, none⟩ = some (.int .i64 ((memF (cutN (moreN m y s) r) 12 i : Nat) : Int)) ∧ ¬ own x3 mg := fun i hi => hKK.same _ _ (HI.out.mem i hi).1 (HI.out.mem i hi).2
          have hDge : ∀ D ∈ Ds, W.heap.size ≤ D := fun D hD => (HI.out.marks D hD).1
          have hdis := HI.out.dis
          obtain ⟨dn, hdn⟩ : ∃ dn, (((memsTo (cutN (moreN m y s) r) 12).take j).map (fun a => blocksL m y f (s ||| 2 ^ a) (a + 1))).flatten = dn := ⟨_, rfl⟩
          rw [hdn] at hJ3 hpre hnx
          have HNx := Lib.hid hnx
          have HMem3 := Lib.hid hmem3
          have HDn := Lib.hid hdn
          have HP := Lib.hid hpre
          have hB3x := KR.trans KC
          clear hdn hpre hnx hmem3 own3 bdr bb3 hx3 KC KR
          generalize hv33 : Value.int .i64 (IntKind.i64.wrap (2 ^ min a 64)) = v33
          clear hv33
          gi_wp2_with fail
          refine wpIn_rangeL (own := own) (L := blocksL m y f (s ||| 2 ^ a) (a + 1)) (gf := 76) (lb := #[.pointer (some ⟨wr.drew.heap.size, 0, none⟩), .pointer (some ⟨wr.drew.heap.size + 1, 0, none⟩), .pointer (some ⟨wr.drew.heap.size + 1 + 1, 0, none⟩)]) rfl (enters_of Tryd.func76 (by kernel_rfl) rfl)
            (how.up hsz3) (IH.out (s ||| 2 ^ a) (a + 1) hpA.1 hpA.2 (by omega) (by omega) own mb _ _ _ x3 (how.up hsz3) hB3) rfl
            (fun pre' W' => (J (dn ++ pre') W' ∧ KeepO own x3 W') ∧ ∀ D ∈ Ds, W'.heap[D]? = some (.deferred (some [])))
            (fun c pre' W' => (c = .ret ∧ Jx (dn ++ pre') W') ∧ ∀ D ∈ Ds, W'.heap[D]? = some (.deferred (some [])))
            (OwnFrom.and (OwnFrom.and (fun p A C row h hg hr => OwnFrom.up hJ hsz3 _ A C row h hg hr) (ownFrom_keepO (how.up hsz3) (Nat.le_refl _))) (ownFrom_marks hDlt))
            (fun c => OwnFrom.and (OwnFrom.and (ownFrom_pure _ _) (fun p A C row h hg hr => OwnFrom.up hJx hsz3 _ A C row h hg hr)) (ownFrom_marks hDlt))
            (fun pre W1 k h => hlt _ W1 k h.1.1) ⟨⟨by rw [List.append_nil]; exact hJ3, KeepO.refl _ _⟩, hmk3⟩
            (fun x => { tmps := (.func (.yield lr) #[] #[] :: .pointer (some ⟨b1, 0, none⟩) :: .pointer (some ⟨b2, 0, none⟩) :: .pointer (some ⟨b3, 0, none⟩) :: .pointer (some ⟨W.heap.size, 0, none⟩) :: .int .i64 ((moreN m y s : Nat) : Int) :: undef :: .int .i64 ((a : Nat) : Int) :: .int .i64 ((x : Nat) : Int) :: .slice (some ⟨mb, 0, none⟩) m.n m.n :: .int .i64 (s : Int) :: .int .i64 ((shN m y s : Nat) : Int) :: .int .i64 (s : Int) :: .int .i64 ((moreN m y s : Nat) : Int) :: .int .i64 ((moreN m y s : Nat) : Int) :: .bool false :: undef :: undef :: undef :: .int .i64 ((moreN m y s : Nat) : Int) :: .int .i64 (r : Int) :: v21 :: .int .i64 (r : Int) :: .int .i64 ((cutN (moreN m y s) r : Nat) : Int) :: .slice (some ⟨mg, 0, none⟩) K mc :: .int .i64 (K : Int) :: .int .i64 (j : Int) :: .bool true :: .pointer (some ⟨mg, j, none⟩) :: .int .i64 ((a : Nat) : Int) :: .slice (some ⟨mb, 0, none⟩) m.n m.n :: .int .i64 (s : Int) :: .int .i64 ((a : Nat) : Int) :: v33 :: .int .i64 ((s ||| 2 ^ a : Nat) : Int) :: .int .i64 ((a : Nat) : Int) :: .int .i64 ((a + 1 : Nat) : Int) :: .func (.func 76) #[] #[.pointer (some ⟨wr.drew.heap.size, 0, none⟩), .pointer (some ⟨wr.drew.heap.size + 1, 0, none⟩), .pointer (some ⟨wr.drew.heap.size + 1 + 1, 0, none⟩)] :: .int .i64 ((x : Nat) : Int) :: undef :: undef :: undef :: undef :: u43 :: []).toArray, defers := [] }) ?assign ?body ?done ?stop
          case assign =>
            intro m' l2 x W' K' hK'
            dsimp only
            gi_wp2
            exact hK'
          case body =>
            rintro m' l2 pre' x W' _ ⟨⟨hJ', hK'⟩, hM'⟩ hpx
            have c4 := (hK'.same _ _ hy3.1 hy3.2).1
            obtain ⟨fn, tmps, assign, body, hy, hRd⟩ := HR.out (m' - 1) (dn ++ pre') x W' hJ' (by rw [List.append_assoc]; exact HP.out _ hpx)
            have HK' := Lib.hid hK'
            have HMm := Lib.hid hM'
            clear hJ' hK' hM' hJ3 hmk3 HI HR IH HLs HH HE EL hB3 hB3x hKK hpA
            try dsimp only
            gi_wp2_with fail
            refine ⟨fun h => (by cases h), ?_⟩
            refine RoundIn.mono (show RoundIn (Fence.wide.inRound l2) _ _ _ _ _ _ _ _ _ from hRd) ?_
            rintro e W3 (⟨rfl, hJ4, hK4, hF4⟩ | ⟨rfl, hJ4, hF4⟩)
            · gi_wp2_with fail
              exact ⟨⟨hF4.size, fun k o hk h1 h2 => hF4.same k o (by omega) h1 h2⟩, hK4, ⟨by rw [← List.append_assoc]; exact hJ4, HK'.out.trans hK4⟩, fun D hD => hF4.same D _ (hDge D hD) (HMm.out D hD) rfl⟩
            · gi_wp2_with fail
              exact ⟨⟨hF4.size, fun k o hk h1 h2 => hF4.same k o (by omega) h1 h2⟩, ⟨rfl, by rw [← List.append_assoc]; exact hJ4⟩, fun D hD => hF4.same D _ (hDge D hD) (HMm.out D hD) rfl⟩
          case done =>
            rintro D W' hD ⟨⟨hJ', hK'⟩, hM'⟩ hDf
            gi_wp2_with fail
            refine ⟨⟨j + 1, D :: Ds, _, _, _, _, _, _, _, _, _, _, _, _, _, rfl, by omega, ?_⟩, by simp [intOf]; omega⟩
            refine ⟨HK.out.keep hpos hK', hK'.same _ _ hy3.1 hy3.2, fun i hi => hK'.same _ _ (HMem3.out i hi).1 (HMem3.out i hi).2, ?_, Nat.le_trans hsz3 hK'.size, List.pairwise_cons.2 ⟨fun E hE e => by have := hDlt E hE; omega, hdis⟩, fun E hE => ?_⟩
            · rw [HNx.out]; exact hJ'
            · rcases List.mem_cons.1 hE with e | e
              · subst e; exact ⟨Nat.le_trans hsz3 hD, hDf⟩
              · exact ⟨hDge E e, hM' E e⟩
          case stop =>
            rintro D c pre' W' hD ⟨⟨rfl, hJ'⟩, hM'⟩ hDf
            gi_wp2_with fail
            exact leave_marks hZ (fun W => results_none rfl _ _ W) (D :: Ds) _ (List.pairwise_cons.2 ⟨fun E hE e => by have := hDlt E hE; omega, hdis⟩) (fun E hE => by
              rcases List.mem_cons.1 hE with e | e
              · subst e; exact ⟨Nat.le_trans hsz3 hD, hDf⟩
              · exact ⟨hDge E e, hM' E e⟩) (.inr ⟨_, hJ'⟩)
        · have hjt' : ¬ (j : Int) < (K : Int) := by omega
          have ej : j = K := by omega
          have HJL : Hid (J (blocksL m y (f + 1) s r) wr) := by
            show J _ wr
            have := hI.J
            rw [ej, ← HKl.out, List.take_length, ← EL.out] at this
            exact this
          have HI := Lib.hid hI
          clear hI
          gi_wp2_with fail
          exact leave_marks hZ (fun W => results_none rfl _ _ W) Ds _ HI.out.dis HI.out.marks (.inl HJL.out)
end Go.Proofs.YtjmhhjdkemicbaaDoor
