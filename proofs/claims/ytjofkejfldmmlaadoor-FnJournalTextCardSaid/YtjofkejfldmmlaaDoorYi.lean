/- The walk of the reference's test whether a set is a part. The walk of the reference's least part around answers. The walk of the library's count of trailing zeros, at small numbers, and of the program's list of the numbers of a set. The walks of the program's sets of answers: whether a number is one, the set grown by what two answers make. The walks of the program's partWith, SubOk, MadeBy. -/
import Derived.Test.YtjofkejfldmmlaaDoorOi
import Derived.Test.YtjofkejfldmmlaaDoorMathL
import Derived.Test.YtjofkejfldmmlaaDoorVh
import Derived.Lib.TrailingZeros
import Derived.Laws.Bits64b
namespace Go.Proofs.YtjofkejfldmmlaaDoor
open Go.RowKit Go.Deep

end Go.Proofs.YtjofkejfldmmlaaDoor
namespace Go.Proofs.YtjofkejfldmmlaaDoor
open Go.RowKit Go.Deep

/-- Some rows of pairs looked at, and some of the next row. -/
structure MidB (m : Mx) (y : Nat → Nat) (t u j c : Nat) : Prop where
  under : Under m y t u
  done : ∀ a b, a < j → b < m.n → t.testBit a = true → t.testBit b = true → u.testBit (mN m a b) = true ∧ u.testBit (y a) = true
  row : ∀ b, b < c → t.testBit j = true → t.testBit b = true → u.testBit (mN m j b) = true ∧ u.testBit (y j) = true
theorem MidB.start {m : Mx} {y : Nat → Nat} {t : Nat} (h : t < 2 ^ m.n) : MidB m y t t 0 0 := ⟨Under.start h, fun _ _ h => absurd h (Nat.not_lt_zero _), fun _ h => absurd h (Nat.not_lt_zero _)⟩
theorem MidB.turn {m : Mx} {y : Nat → Nat} {t u j : Nat} (h : MidB m y t u j m.n) : MidB m y t u (j + 1) 0 :=
  ⟨h.under, fun a b ha hb ga gb => by
    by_cases e : a = j
    · subst e; exact h.row b hb ga gb
    · exact h.done a b (by omega) hb ga gb, fun _ h => absurd h (Nat.not_lt_zero _)⟩
theorem MidB.pass {m : Mx} {y : Nat → Nat} {t u j c : Nat} (h : MidB m y t u j c) (hno : t.testBit j = false ∨ t.testBit c = false) : MidB m y t u j (c + 1) :=
  ⟨h.under, h.done, fun b hb gj gb => by
    by_cases e : b = c
    · subst e
      rcases hno with e | e
      · rw [e] at gj; cases gj
      · rw [e] at gb; cases gb
    · exact h.row b (by omega) gj gb⟩
theorem MidB.add {m : Mx} {z : Nat → Int} {y : Nat → Nat} {o t u j c : Nat} (h : MidB m y t u j c) (hO : Ortho m z y o) (hj : j < m.n) (hc : c < m.n) (gj : t.testBit j = true) (gc : t.testBit c = true) : MidB m y t (u ||| 2 ^ mN m j c ||| 2 ^ y j) j (c + 1) := by
  have hs : Sub u (u ||| 2 ^ mN m j c ||| 2 ^ y j) := (sub_left _ _).trans (sub_left _ _)
  have h1 : (u ||| 2 ^ mN m j c ||| 2 ^ y j).testBit (mN m j c) = true := sub_left _ _ _ (sub_right _ _ _ (has_one _))
  have h2 : (u ||| 2 ^ mN m j c ||| 2 ^ y j).testBit (y j) = true := sub_right _ _ _ (has_one _)
  refine ⟨(h.under.more (hO.mG hj hc).lt fun v hv hs => hv.meet j c hj hc (hs j gj) (hs c gc)).more (hO.lt j hj) fun v hv hs => hv.not j hj (hs j gj), fun a b ha hb ga gb => ?_, fun b hb gj gb => ?_⟩
  · obtain ⟨d1, d2⟩ := h.done a b ha hb ga gb
    exact ⟨hs _ d1, hs _ d2⟩
  · by_cases e : b = c
    · subst e; exact ⟨h1, h2⟩
    · obtain ⟨d1, d2⟩ := h.row b (by omega) gj gb
      exact ⟨hs _ d1, hs _ d2⟩
theorem MidB.grown {m : Mx} {y : Nat → Nat} {t u : Nat} (h : MidB m y t u m.n 0) : Grown m y t u :=
  ⟨h.under, fun a b ha hb ga gb => (h.done a b ha hb ga gb).1, fun a ha ga => (h.done a a ha ha ga ga).2⟩
theorem or_is {u k : Nat} (hu : u < 4096) (hk : k < 12) : bits .or .i64 (u : Int) (wrap64 (2 ^ k)) = ((u ||| 2 ^ k : Nat) : Int) := by
  have := pow_le_12 (Nat.le_of_lt hk)
  have e : ((2 : Int) ^ k) = ((2 ^ k : Nat) : Int) := by push_cast; rfl
  rw [e]
  generalize 2 ^ k = q at this ⊢
  rw [IntWalk.wrap64_in _ (by omega)]
  exact i64_or_nat u q (by omega) (by omega)

end Go.Proofs.YtjofkejfldmmlaaDoor
namespace Go.Proofs.YtjofkejfldmmlaaDoor
open Go.RowKit Go.Deep

/-- The library's table, where it lies. -/
def TabOk (w : World) : Prop := ∀ j, j < 64 → w.cell? ⟨5, j, none⟩ = some (.int .u8 (Lib.deBruijn64tab.getD j 0 : Nat))
theorem TabOk.step {w w' : World} {B : Nat} (h : TabOk w) (hb : Below B w w') (hB : 5 < B) : TabOk w' := fun j hj => by
  rw [hb.cell (p := ⟨5, j, none⟩) hB]; exact h j hj
theorem TabOk.size {w : World} (h : TabOk w) : 5 < w.heap.size := World.block_lt_of_cell? _ _ (h 0 (by omega))
theorem tz_key (r a : Nat) (hr : r < 4096) (h0 : r ≠ 0) (hlow : r &&& (18446744073709551616 - r) = a) :
    IntKind.u64.wrap (bits BinOp.and IntKind.u64 (r : Int) (IntKind.u64.wrap (-(r : Int))) * 285870213051353865) / 288230376151711744 = ((a * 285870213051353865 % 18446744073709551616 / 288230376151711744 : Nat) : Int) := by
  have e1 : IntKind.u64.wrap (-(r : Int)) = ((18446744073709551616 - r : Nat) : Int) := by rw [IntKind.wrap_u64]; omega
  rw [e1, bits_and_u64_nat r _ (by omega) (by omega), hlow, IntKind.wrap_u64]
  omega
set_option maxHeartbeats 1000000 in
theorem tz64_at {r k idx : Nat} {w : World} (hz : ((r : Int) == 0) = false) (key : Hid (IntKind.u64.wrap (bits BinOp.and IntKind.u64 (r : Int) (IntKind.u64.wrap (-(r : Int))) * 285870213051353865) / 288230376151711744 = (idx : Int)))
    (hi : idx < 64) (hk : k < 64) (hcell : w.cell? ⟨5, idx, none⟩ = some (.int .u8 k)) :
    Calls Tryd.prog 96 #[.int .u64 r] w fun e w' => e = .returned (.int .i64 k) ∧ w = w' := by
  go_enter Tryd.func96, Tryd.ntmps96
  go_wp2_with (simp only [key.out])
  go_ret
  exact ⟨rfl, rfl⟩
theorem tz64_small {r : Nat} (hr : r < 4096) (h0 : r ≠ 0) {w : World} (hT : TabOk w) :
    Calls Tryd.prog 96 #[.int .u64 r] w fun e w' => e = .returned (.int .i64 (Lib.ctz 64 r : Nat)) ∧ w = w' := by
  obtain ⟨hlow, hk⟩ := Lib.lowest_bit 64 r h0 (by omega)
  obtain ⟨hi, htab⟩ := Lib.deBruijn64_at _ hk
  have hcell := hT _ hi
  rw [htab] at hcell
  exact tz64_at (by simp; omega) (tz_key r _ hr h0 hlow) hi hk hcell
set_option maxHeartbeats 1000000 in
theorem tz_small {r : Nat} (hr : r < 4096) (h0 : r ≠ 0) {w : World} (hT : TabOk w) :
    Calls Tryd.prog 86 #[.int .u64 r] w fun e w' => e = .returned (.int .i64 (Lib.ctz 64 r : Nat)) ∧ w = w' := by
  have hw : IntKind.u64.wrap (r : Int) = (r : Int) := by rw [IntKind.wrap_u64]; omega
  have HT := Lib.hid hT
  clear hT
  go_enter Tryd.func86, Tryd.ntmps86
  go_wp2_with fail
  go_at_call 96
  refine (tz64_small hr h0 HT.out).mono ?_
  rintro e w1 ⟨rfl, rfl⟩
  go_wp2_with fail
  go_ret
  exact ⟨rfl, rfl⟩

/-- The lowest bit struck off. -/
theorem mems_low {r r' k : Nat} (h1 : r.testBit k = true) (h2 : ∀ i, i < k → r.testBit i = false) (h3 : ∀ i, r'.testBit i = (r.testBit i && !decide (i = k))) (n : Nat) :
    (n ≤ k → memsTo r n = [] ∧ memsTo r' n = []) ∧ (k < n → memsTo r n = k :: memsTo r' n) := by
  induction n with
  | zero => exact ⟨fun _ => ⟨rfl, rfl⟩, fun h => absurd h (Nat.not_lt_zero _)⟩
  | succ n ih =>
    have e3 := h3 n
    refine ⟨fun h => ?_, fun h => ?_⟩
    · obtain ⟨i1, i2⟩ := ih.1 (by omega)
      have e := h2 n (by omega)
      rw [e, Bool.false_and] at e3
      rw [memsTo_no e, memsTo_no e3]
      exact ⟨i1, i2⟩
    · by_cases hn : n = k
      · subst hn
        obtain ⟨i1, i2⟩ := ih.1 (Nat.le_refl _)
        have e4 : r'.testBit n = false := by rw [e3]; simp
        rw [memsTo_yes h1, memsTo_no e4, i1, i2]
        rfl
      · have i1 := ih.2 (by omega)
        have e5 : decide (n = k) = false := decide_eq_false hn
        rw [e5, Bool.not_false, Bool.and_true] at e3
        cases e : r.testBit n with
        | false =>
          rw [e] at e3
          rw [memsTo_no e, memsTo_no e3, i1]
        | true =>
          rw [e] at e3
          rw [memsTo_yes e, memsTo_yes e3, i1]
          rfl
theorem strike_low {r : Nat} (h0 : r ≠ 0) (hr : r < 18446744073709551616) : r.testBit (Lib.ctz 64 r) = true ∧ (∀ i, i < Lib.ctz 64 r → r.testBit i = false) ∧ ∀ i, (r &&& (r - 1)).testBit i = (r.testBit i && !decide (i = Lib.ctz 64 r)) := by
  obtain ⟨q, hq, _⟩ := Lib.ctzFrom_spec 64 r (by omega) hr
  have hc : Lib.ctz 64 r = Lib.ctzFrom 64 r := by unfold Lib.ctz; rw [if_neg h0]
  rw [hc]
  generalize Lib.ctzFrom 64 r = k at hq
  have hp : 0 < 2 ^ k := Nat.two_pow_pos k
  have b1 : ∀ i, r.testBit i = if i < k then false else (2 * q + 1).testBit (i - k) := fun i => by
    have := Nat.testBit_two_pow_mul_add (2 * q + 1) hp i
    rw [Nat.add_zero, ← hq] at this
    rw [this]; simp
  have e2 : r - 1 = 2 ^ k * (2 * q) + (2 ^ k - 1) := by
    rw [hq, Nat.mul_add, Nat.mul_one]; omega
  have b2 : ∀ i, (r - 1).testBit i = if i < k then (2 ^ k - 1).testBit i else (2 * q).testBit (i - k) := fun i => by
    rw [e2]; exact Nat.testBit_two_pow_mul_add (2 * q) (by omega) i
  refine ⟨by rw [b1, if_neg (Nat.lt_irrefl k), Nat.sub_self]; simp, fun i hi => by rw [b1, if_pos hi], fun i => ?_⟩
  rw [Nat.testBit_and, b1, b2]
  by_cases hi : i < k
  · rw [if_pos hi]; simp
  · rw [if_neg hi, if_neg hi]
    by_cases e : i = k
    · subst e; simp
    · obtain ⟨d, hd⟩ : ∃ d, i - k = d + 1 := ⟨i - k - 1, by omega⟩
      rw [hd, Nat.testBit_succ, Nat.testBit_succ, decide_eq_false e]
      have d1 : (2 * q + 1) / 2 = q := by omega
      have d2 : 2 * q / 2 = q := by omega
      rw [d1, d2]; simp
theorem mems_step {r : Nat} (hr : r < 4096) (h0 : r ≠ 0) : memsTo r 12 = Lib.ctz 64 r :: memsTo (r &&& (r - 1)) 12 ∧ r &&& (r - 1) < r := by
  obtain ⟨h1, h2, h3⟩ := strike_low h0 (by omega)
  refine ⟨(mems_low h1 h2 h3 12).2 (bit_lt (n := 12) (by omega) h1), ?_⟩
  have hs : Sub (r &&& (r - 1)) r := fun i g => by
    rw [h3 i, Bool.and_eq_true] at g
    exact g.1
  have hle := hs.le
  have hne : r &&& (r - 1) ≠ r := fun e => by
    have := h3 (Lib.ctz 64 r)
    rw [e, h1] at this
    simp at this
  omega
theorem memsTo_zero (n : Nat) : memsTo 0 n = [] := by
  induction n with
  | zero => rfl
  | succ n ih => rw [memsTo_no (by simp), ih]
/-- What is still to be listed. -/
def Rest (s j r : Nat) : Prop := r < 4096 ∧ ∃ pre, pre.length = j ∧ memsTo s 12 = pre ++ memsTo r 12
theorem Rest.next {s j r : Nat} (h : Rest s j r) (h0 : r ≠ 0) : Rest s (j + 1) (r &&& (r - 1)) ∧ memF s 12 j = Lib.ctz 64 r ∧ r &&& (r - 1) < r := by
  obtain ⟨hr, pre, hp, he⟩ := h
  obtain ⟨h1, h2⟩ := mems_step hr h0
  refine ⟨⟨by omega, pre ++ [Lib.ctz 64 r], by simp [hp], by rw [he, h1]; simp⟩, ?_, h2⟩
  unfold memF
  rw [he, h1, List.getElem?_append_right (by omega), hp, Nat.sub_self]
  rfl
theorem Rest.all {s j : Nat} (h : Rest s j 0) : j = memK s 12 := by
  obtain ⟨_, pre, hp, he⟩ := h
  unfold memK
  rw [he, memsTo_zero, List.append_nil, hp]
theorem Rest.le {s j r : Nat} (h : Rest s j r) : j ≤ 12 := by
  obtain ⟨_, pre, hp, he⟩ := h
  have := memsTo_len s 12
  rw [he, List.length_append] at this
  omega

/-- The members listed in memory of the call's own. -/
def MemRes (w : World) (p : Nat) (f : Nat → Nat) (e : Ending) (w' : World) : Prop :=
  ∃ a g c, e = .returned (.slice a p c) ∧ RowAt w' w'.heap.size a g 0 p (fun i => (f i : Int)) ∧ Below w.heap.size w w' ∧ ∀ q : Addr, a = some q → w.heap.size ≤ q.block

end Go.Proofs.YtjofkejfldmmlaaDoor
namespace Go.Proofs.YtjofkejfldmmlaaDoor
open Go.RowKit Go.Deep

theorem quot_zero {s n : Nat} (h : s < 2 ^ n) : (s : Int) / 2 ^ n = 0 := by
  have e : ((2 : Int) ^ n) = ((2 ^ n : Nat) : Int) := by push_cast; rfl
  rw [e]
  generalize 2 ^ n = q at h
  exact Int.ediv_eq_zero_of_lt (by omega) (by omega)
theorem quot_pos {s n : Nat} (h : ¬ s < 2 ^ n) : (s : Int) / 2 ^ n ≠ 0 := by
  have e : ((2 : Int) ^ n) = ((2 ^ n : Nat) : Int) := by push_cast; rfl
  have hp : 0 < 2 ^ n := Nat.two_pow_pos n
  rw [e]
  generalize 2 ^ n = q at h hp
  have e2 : (s : Int) / (q : Int) = ((s / q : Nat) : Int) := by push_cast; rfl
  rw [e2]
  have : 1 ≤ s / q := (Nat.le_div_iff_mul_le hp).2 (by omega)
  omega
/-- Rows of pairs of listed answers looked at. -/
structure GA (m : Mx) (y : Nat → Nat) (s K : Nat) (q : Nat → Nat) (u j : Nat) : Prop where
  under : Under m y s u
  done : ∀ i, i < j → u.testBit (y (q i)) = true ∧ ∀ c, c < K → u.testBit (mN m (q i) (q c)) = true
structure GB (m : Mx) (y : Nat → Nat) (s K : Nat) (q : Nat → Nat) (u j c : Nat) : Prop where
  all : GA m y s K q u j
  opp : u.testBit (y (q j)) = true
  row : ∀ i, i < c → u.testBit (mN m (q j) (q i)) = true
theorem GA.more {m : Mx} {y : Nat → Nat} {s K : Nat} {q : Nat → Nat} {u u' j : Nat} (h : GA m y s K q u j) (hu : Under m y s u') (hs : Sub u u') : GA m y s K q u' j :=
  ⟨hu, fun i hi => ⟨hs _ (h.done i hi).1, fun c hc => hs _ ((h.done i hi).2 c hc)⟩⟩
theorem GA.first {m : Mx} {z : Nat → Int} {y : Nat → Nat} {o s K : Nat} {q b : Nat → Nat} {u j : Nat} (h : GA m y s K q u j) (hO : Ortho m z y o) (hp : Emb m.n K s q b) (hj : j < K) : GB m y s K q (u ||| 2 ^ y (q j)) j 0 := by
  have hx := hO.lt _ (hp.lt j hj)
  refine ⟨h.more (h.under.more hx fun v hv hs => hv.not _ (hp.lt j hj) (hs _ (hp.has j hj))) (sub_left _ _), sub_right _ _ _ (has_one _), fun _ hi => absurd hi (Nat.not_lt_zero _)⟩
theorem GB.add {m : Mx} {z : Nat → Int} {y : Nat → Nat} {o s K : Nat} {q b : Nat → Nat} {u j c : Nat} (h : GB m y s K q u j c) (hO : Ortho m z y o) (hp : Emb m.n K s q b) (hj : j < K) (hc : c < K) : GB m y s K q (u ||| (2 ^ mN m (q j) (q c) ||| 2 ^ jN m (q j) (q c))) j (c + 1) := by
  have h1 := hp.lt j hj
  have h2 := hp.lt c hc
  have hm := (hO.mG h1 h2).lt
  have hjn := (hO.jG h1 h2).lt
  have hs := sub_left u (2 ^ mN m (q j) (q c) ||| 2 ^ jN m (q j) (q c))
  have hU : Under m y s (u ||| (2 ^ mN m (q j) (q c) ||| 2 ^ jN m (q j) (q c))) :=
    ⟨h.all.under.has.trans hs, or_lt h.all.under.lt (or_lt (one_lt hm) (one_lt hjn)), fun v hv hsv => sub_or (h.all.under.least v hv hsv)
      (sub_or (sub_one (hv.meet _ _ h1 h2 (hsv _ (hp.has j hj)) (hsv _ (hp.has c hc)))) (sub_one (hv.join hO h1 h2 (hsv _ (hp.has j hj)) (hsv _ (hp.has c hc)))))⟩
  refine ⟨h.all.more hU hs, hs _ h.opp, fun i hi => ?_⟩
  by_cases e : i = c
  · subst e
    exact sub_right _ _ _ (sub_left _ _ _ (has_one _))
  · exact hs _ (h.row i (by omega))
theorem GB.turn {m : Mx} {y : Nat → Nat} {s K : Nat} {q : Nat → Nat} {u j : Nat} (h : GB m y s K q u j K) : GA m y s K q u (j + 1) :=
  ⟨h.all.under, fun i hi => by
    by_cases e : i = j
    · subst e; exact ⟨h.opp, h.row⟩
    · exact h.all.done i (by omega)⟩
theorem GA.grown {m : Mx} {y : Nat → Nat} {s K : Nat} {q b : Nat → Nat} {u : Nat} (h : GA m y s K q u K) (hp : Emb m.n K s q b) : Grown m y s u := by
  refine ⟨h.under, fun a c ha hc ga gc => ?_, fun a ha ga => ?_⟩
  · have := (h.done (b a) (hp.blt a ha ga)).2 (b c) (hp.blt c hc gc)
    rwa [hp.qb a ha ga, hp.qb c hc gc] at this
  · have := (h.done (b a) (hp.blt a ha ga)).1
    rwa [hp.qb a ha ga] at this
theorem Emb.down {n s : Nat} (hn : n ≤ 12) (hs : s < 2 ^ n) : Emb n (memK s 12) s (memF s 12) (memB s 12) := by
  have h := mem_emb s 12
  exact ⟨fun j hj => bit_lt hs (h.has j hj), h.has, h.bq, fun a ha => h.blt a (by omega), fun a ha => h.qb a (by omega)⟩
theorem or2_is {a b : Nat} (ha : a < 12) (hb : b < 12) : bits .or .i64 (wrap64 (2 ^ a)) (wrap64 (2 ^ b)) = ((2 ^ a ||| 2 ^ b : Nat) : Int) := by
  have h1 := pow_le_12 (Nat.le_of_lt ha)
  have e : wrap64 ((2 : Int) ^ a) = ((2 ^ a : Nat) : Int) := by
    have e : ((2 : Int) ^ a) = ((2 ^ a : Nat) : Int) := by push_cast; rfl
    rw [e]
    generalize 2 ^ a = q at h1
    exact IntWalk.wrap64_in _ (by omega)
  rw [e]
  exact or_is (one_lt (n := 12) ha) hb
theorem wrap_pow {a : Nat} (ha : a < 12) : IntKind.i64.wrap (2 ^ min a 64) = ((2 ^ a : Nat) : Int) := by
  rw [Nat.min_eq_left (by omega)]
  exact one_wrap (Nat.le_of_lt ha)
theorem or3_is {v a b : Nat} (hv : v < 4096) (ha : a < 12) (hb : b < 12) : bits .or .i64 (v : Int) (bits .or .i64 (IntKind.i64.wrap (2 ^ min a 64)) (IntKind.i64.wrap (2 ^ min b 64))) = ((v ||| (2 ^ a ||| 2 ^ b) : Nat) : Int) := by
  have h1 := one_lt (n := 12) ha
  have h2 := one_lt (n := 12) hb
  have h3 := or_lt h1 h2
  rw [wrap_pow ha, wrap_pow hb, i64_or_nat _ _ (Nat.lt_trans h1 (by decide)) (Nat.lt_trans h2 (by decide)), i64_or_nat _ _ (Nat.lt_trans hv (by omega)) (Nat.lt_trans h3 (by decide))]
def GrownRes (w : World) (m : Mx) (y : Nat → Nat) (s : Nat) (e : Ending) (w' : World) : Prop := ∃ t, e = .returned (.int .i64 (t : Nat)) ∧ Grown m y s t ∧ Below w.heap.size w w'

end Go.Proofs.YtjofkejfldmmlaaDoor
namespace Go.Proofs.YtjofkejfldmmlaaDoor
open Go.RowKit Go.Deep

end Go.Proofs.YtjofkejfldmmlaaDoor
