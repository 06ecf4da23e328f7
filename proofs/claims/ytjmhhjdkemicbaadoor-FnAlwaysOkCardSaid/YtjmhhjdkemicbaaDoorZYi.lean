import Derived.Test.YtjmhhjdkemicbaaDoorZGa
import Derived.Test.YtjmhhjdkemicbaaDoorZOi
import Derived.Test.YtjmhhjdkemicbaaDoorZMath
import Derived.Test.YtjmhhjdkemicbaaDoorZMathN
import Derived.Lib.TrailingZeros
import Derived.Laws.Bits64b
namespace Go.Proofs.YtjmhhjdkemicbaaDoor
open Go.RowKit Go.Deep

theorem IntsAt.shape {w : World} {base : Nat} {t : Value} {k : Nat} {y : Nat → Int} (h : IntsAt w base t k y) : ∃ a c, t = .slice a k c := by
  rcases h.2 with ⟨rfl, rfl⟩ | ⟨g, cap, cur, rfl, _⟩
  · exact ⟨_, _, rfl⟩
  · exact ⟨_, _, rfl⟩
theorem IntsAt.rowAt {w : World} {base : Nat} {a : Option Addr} {k c : Nat} {y : Nat → Int} (h : IntsAt w base (.slice a k c) k y) : ∃ g, RowAt w w.heap.size a g 0 k y := by
  by_cases hk : 0 < k
  · obtain ⟨g, c', e, _, h3, _⟩ := IntsAt.val h hk
    injection e with e1 e2 e3
    subst e1 e3
    exact ⟨g, ⟨fun i hi => ⟨rfl, h3, by rw [Nat.zero_add]; exact IntsAt.cell h hi⟩⟩⟩
  · exact ⟨0, ⟨fun i hi => absurd hi (by omega)⟩⟩
theorem IntsAt.below {w w' : World} {base : Nat} {t : Value} {k : Nat} {y : Nat → Int} (h : IntsAt w base t k y) (hb : Below w.heap.size w w') : IntsAt w' base t k y := ownsRow_below h hb (Nat.le_refl _)

/-- What l3Inner hands back: so many numbers. -/
def InnerRes (w : World) (p : Nat) (f : Nat → Nat) (e : Ending) (w' : World) : Prop :=
  ∃ a g c, e = .returned (.slice a p c) ∧ RowAt w' w'.heap.size a g 0 p (fun i => (f i : Int)) ∧ Below w.heap.size w w'

end Go.Proofs.YtjmhhjdkemicbaaDoor
namespace Go.Proofs.YtjmhhjdkemicbaaDoor
open Go.RowKit Go.Deep

end Go.Proofs.YtjmhhjdkemicbaaDoor
namespace Go.Proofs.YtjmhhjdkemicbaaDoor
open Go.RowKit Go.Deep

/-- Some rows of pairs looked at, and some of the next row. -/
structure MidB (m : Mx) (y : Nat → Nat) (t u j c : Nat) : Prop where
  under : Under m y t u
  done : ∀ a b, a < j → b < m.n → t.testBit a = true → t.testBit b = true → u.testBit (mN m a b) = true ∧ u.testBit (y a) = true
  row : ∀ b, b < c → t.testBit j = true → t.testBit b = true → u.testBit (mN m j b) = true ∧ u.testBit (y j) = true
theorem MidB.start {m : Mx} {y : Nat → Nat} {t : Nat} (h : t < 2 ^ m.n) : MidB m y t t 0 0 := ⟨Under.start h, fun _ _ h => absurd h (Nat.not_lt_zero _), fun _ h => absurd h (Nat.not_lt_zero _)⟩
theorem MidB.turn {m : Mx} {y : Nat → Nat} {t u j : Nat} (h : MidB m y t u j m.n) : MidB m y t u (j + 1) 0 :=
  ⟨h.under, fun a b ha hb ga gb => by
    by_cases e : a = j
    · subst e; exact h.row b hb ga gb
    · exact h.done a b (by omega) hb ga gb, fun _ h => absurd h (Nat.not_lt_zero _)⟩
theorem MidB.pass {m : Mx} {y : Nat → Nat} {t u j c : Nat} (h : MidB m y t u j c) (hno : t.testBit j = false ∨ t.testBit c = false) : MidB m y t u j (c + 1) :=
  ⟨h.under, h.done, fun b hb gj gb => by
    by_cases e : b = c
    · subst e
      rcases hno with e | e
      · rw [e] at gj; cases gj
      · rw [e] at gb; cases gb
    · exact h.row b (by omega) gj gb⟩
theorem MidB.add {m : Mx} {z : Nat → Int} {y : Nat → Nat} {o t u j c : Nat} (h : MidB m y t u j c) (hO : Ortho m z y o) (hj : j < m.n) (hc : c < m.n) (gj : t.testBit j = true) (gc : t.testBit c = true) : MidB m y t (u ||| 2 ^ mN m j c ||| 2 ^ y j) j (c + 1) := by
  have hs : Sub u (u ||| 2 ^ mN m j c ||| 2 ^ y j) := (sub_left _ _).trans (sub_left _ _)
  have h1 : (u ||| 2 ^ mN m j c ||| 2 ^ y j).testBit (mN m j c) = true := sub_left _ _ _ (sub_right _ _ _ (has_one _))
  have h2 : (u ||| 2 ^ mN m j c ||| 2 ^ y j).testBit (y j) = true := sub_right _ _ _ (has_one _)
  refine ⟨(h.under.more (hO.mG hj hc).lt fun v hv hs => hv.meet j c hj hc (hs j gj) (hs c gc)).more (hO.lt j hj) fun v hv hs => hv.not j hj (hs j gj), fun a b ha hb ga gb => ?_, fun b hb gj gb => ?_⟩
  · obtain ⟨d1, d2⟩ := h.done a b ha hb ga gb
    exact ⟨hs _ d1, hs _ d2⟩
  · by_cases e : b = c
    · subst e; exact ⟨h1, h2⟩
    · obtain ⟨d1, d2⟩ := h.row b (by omega) gj gb
      exact ⟨hs _ d1, hs _ d2⟩
theorem MidB.grown {m : Mx} {y : Nat → Nat} {t u : Nat} (h : MidB m y t u m.n 0) : Grown m y t u :=
  ⟨h.under, fun a b ha hb ga gb => (h.done a b ha hb ga gb).1, fun a ha ga => (h.done a a ha ha ga ga).2⟩
end Go.Proofs.YtjmhhjdkemicbaaDoor
namespace Go.Proofs.YtjmhhjdkemicbaaDoor
open Go.RowKit Go.Deep

/-- The library's table, where it lies. -/
def TabOk (w : World) : Prop := ∀ j, j < 64 → w.cell? ⟨2, j, none⟩ = some (.int .u8 (Lib.deBruijn64tab.getD j 0 : Nat))
theorem TabOk.step {w w' : World} {B : Nat} (h : TabOk w) (hb : Below B w w') (hB : 2 < B) : TabOk w' := fun j hj => by
  rw [hb.cell (p := ⟨2, j, none⟩) hB]; exact h j hj
theorem TabOk.size {w : World} (h : TabOk w) : 2 < w.heap.size := World.block_lt_of_cell? _ _ (h 0 (by omega))
theorem tz_key (r a : Nat) (hr : r < 4096) (h0 : r ≠ 0) (hlow : r &&& (18446744073709551616 - r) = a) :
    IntKind.u64.wrap (bits BinOp.and IntKind.u64 (r : Int) (IntKind.u64.wrap (-(r : Int))) * 285870213051353865) / 288230376151711744 = ((a * 285870213051353865 % 18446744073709551616 / 288230376151711744 : Nat) : Int) := by
  have e1 : IntKind.u64.wrap (-(r : Int)) = ((18446744073709551616 - r : Nat) : Int) := by rw [IntKind.wrap_u64]; omega
  rw [e1, bits_and_u64_nat r _ (by omega) (by omega), hlow, IntKind.wrap_u64]
  omega
set_option maxHeartbeats 1000000 in
theorem tz64_at {r k idx : Nat} {w : World} (hz : ((r : Int) == 0) = false) (key : Hid (IntKind.u64.wrap (bits BinOp.and IntKind.u64 (r : Int) (IntKind.u64.wrap (-(r : Int))) * 285870213051353865) / 288230376151711744 = (idx : Int)))
    (hi : idx < 64) (hk : k < 64) (hcell : w.cell? ⟨2, idx, none⟩ = some (.int .u8 k)) :
    Calls Tryd.prog 90 #[.int .u64 r] w fun e w' => e = .returned (.int .i64 k) ∧ w = w' := by
  go_enter Tryd.func90, Tryd.ntmps90
  go_wp2_with (simp only [key.out])
  go_ret
  exact ⟨rfl, rfl⟩
theorem tz64_small {r : Nat} (hr : r < 4096) (h0 : r ≠ 0) {w : World} (hT : TabOk w) :
    Calls Tryd.prog 90 #[.int .u64 r] w fun e w' => e = .returned (.int .i64 (Lib.ctz 64 r : Nat)) ∧ w = w' := by
  obtain ⟨hlow, hk⟩ := Lib.lowest_bit 64 r h0 (by omega)
  obtain ⟨hi, htab⟩ := Lib.deBruijn64_at _ hk
  have hcell := hT _ hi
  rw [htab] at hcell
  exact tz64_at (by simp; omega) (tz_key r _ hr h0 hlow) hi hk hcell
set_option maxHeartbeats 1000000 in
theorem tz_small {r : Nat} (hr : r < 4096) (h0 : r ≠ 0) {w : World} (hT : TabOk w) :
    Calls Tryd.prog 85 #[.int .u64 r] w fun e w' => e = .returned (.int .i64 (Lib.ctz 64 r : Nat)) ∧ w = w' := by
  have hw : IntKind.u64.wrap (r : Int) = (r : Int) := by rw [IntKind.wrap_u64]; omega
  have HT := Lib.hid hT
  clear hT
  go_enter Tryd.func85, Tryd.ntmps85
  go_wp2_with fail
  go_at_call 90
  refine (tz64_small hr h0 HT.out).mono ?_
  rintro e w1 ⟨rfl, rfl⟩
  go_wp2_with fail
  go_ret
  exact ⟨rfl, rfl⟩

/-- The lowest bit struck off. -/
theorem mems_low {r r' k : Nat} (h1 : r.testBit k = true) (h2 : ∀ i, i < k → r.testBit i = false) (h3 : ∀ i, r'.testBit i = (r.testBit i && !decide (i = k))) (n : Nat) :
    (n ≤ k → memsTo r n = [] ∧ memsTo r' n = []) ∧ (k < n → memsTo r n = k :: memsTo r' n) := by
  induction n with
  | zero => exact ⟨fun _ => ⟨rfl, rfl⟩, fun h => absurd h (Nat.not_lt_zero _)⟩
  | succ n ih =>
    have e3 := h3 n
    refine ⟨fun h => ?_, fun h => ?_⟩
    · obtain ⟨i1, i2⟩ := ih.1 (by omega)
      have e := h2 n (by omega)
      rw [e, Bool.false_and] at e3
      rw [memsTo_no e, memsTo_no e3]
      exact ⟨i1, i2⟩
    · by_cases hn : n = k
      · subst hn
        obtain ⟨i1, i2⟩ := ih.1 (Nat.le_refl _)
        have e4 : r'.testBit n = false := by rw [e3]; simp
        rw [memsTo_yes h1, memsTo_no e4, i1, i2]
        rfl
      · have i1 := ih.2 (by omega)
        have e5 : decide (n = k) = false := decide_eq_false hn
        rw [e5, Bool.not_false, Bool.and_true] at e3
        cases e : r.testBit n with
        | false =>
          rw [e] at e3
          rw [memsTo_no e, memsTo_no e3, i1]
        | true =>
          rw [e] at e3
          rw [memsTo_yes e, memsTo_yes e3, i1]
          rfl
theorem strike_low {r : Nat} (h0 : r ≠ 0) (hr : r < 18446744073709551616) : r.testBit (Lib.ctz 64 r) = true ∧ (∀ i, i < Lib.ctz 64 r → r.testBit i = false) ∧ ∀ i, (r &&& (r - 1)).testBit i = (r.testBit i && !decide (i = Lib.ctz 64 r)) := by
  obtain ⟨q, hq, _⟩ := Lib.ctzFrom_spec 64 r (by omega) hr
  have hc : Lib.ctz 64 r = Lib.ctzFrom 64 r := by unfold Lib.ctz; rw [if_neg h0]
  rw [hc]
  generalize Lib.ctzFrom 64 r = k at hq
  have hp : 0 < 2 ^ k := Nat.two_pow_pos k
  have b1 : ∀ i, r.testBit i = if i < k then false else (2 * q + 1).testBit (i - k) := fun i => by
    have := Nat.testBit_two_pow_mul_add (2 * q + 1) hp i
    rw [Nat.add_zero, ← hq] at this
    rw [this]; simp
  have e2 : r - 1 = 2 ^ k * (2 * q) + (2 ^ k - 1) := by
    rw [hq, Nat.mul_add, Nat.mul_one]; omega
  have b2 : ∀ i, (r - 1).testBit i = if i < k then (2 ^ k - 1).testBit i else (2 * q).testBit (i - k) := fun i => by
    rw [e2]; exact Nat.testBit_two_pow_mul_add (2 * q) (by omega) i
  refine ⟨by rw [b1, if_neg (Nat.lt_irrefl k), Nat.sub_self]; simp, fun i hi => by rw [b1, if_pos hi], fun i => ?_⟩
  rw [Nat.testBit_and, b1, b2]
  by_cases hi : i < k
  · rw [if_pos hi]; simp
  · rw [if_neg hi, if_neg hi]
    by_cases e : i = k
    · subst e; simp
    · obtain ⟨d, hd⟩ : ∃ d, i - k = d + 1 := ⟨i - k - 1, by omega⟩
      rw [hd, Nat.testBit_succ, Nat.testBit_succ, decide_eq_false e]
      have d1 : (2 * q + 1) / 2 = q := by omega
      have d2 : 2 * q / 2 = q := by omega
      rw [d1, d2]; simp
theorem mems_step {r : Nat} (hr : r < 4096) (h0 : r ≠ 0) : memsTo r 12 = Lib.ctz 64 r :: memsTo (r &&& (r - 1)) 12 ∧ r &&& (r - 1) < r := by
  obtain ⟨h1, h2, h3⟩ := strike_low h0 (by omega)
  refine ⟨(mems_low h1 h2 h3 12).2 (bit_lt (n := 12) (by omega) h1), ?_⟩
  have hs : Sub (r &&& (r - 1)) r := fun i g => by
    rw [h3 i, Bool.and_eq_true] at g
    exact g.1
  have hle := hs.le
  have hne : r &&& (r - 1) ≠ r := fun e => by
    have := h3 (Lib.ctz 64 r)
    rw [e, h1] at this
    simp at this
  omega
theorem memsTo_zero (n : Nat) : memsTo 0 n = [] := by
  induction n with
  | zero => rfl
  | succ n ih => rw [memsTo_no (by simp), ih]
/-- What is still to be listed. -/
def Rest (s j r : Nat) : Prop := r < 4096 ∧ ∃ pre, pre.length = j ∧ memsTo s 12 = pre ++ memsTo r 12
theorem Rest.next {s j r : Nat} (h : Rest s j r) (h0 : r ≠ 0) : Rest s (j + 1) (r &&& (r - 1)) ∧ memF s 12 j = Lib.ctz 64 r ∧ r &&& (r - 1) < r := by
  obtain ⟨hr, pre, hp, he⟩ := h
  obtain ⟨h1, h2⟩ := mems_step hr h0
  refine ⟨⟨by omega, pre ++ [Lib.ctz 64 r], by simp [hp], by rw [he, h1]; simp⟩, ?_, h2⟩
  unfold memF
  rw [he, h1, List.getElem?_append_right (by omega), hp, Nat.sub_self]
  rfl
theorem Rest.all {s j : Nat} (h : Rest s j 0) : j = memK s 12 := by
  obtain ⟨_, pre, hp, he⟩ := h
  unfold memK
  rw [he, memsTo_zero, List.append_nil, hp]
theorem Rest.le {s j r : Nat} (h : Rest s j r) : j ≤ 12 := by
  obtain ⟨_, pre, hp, he⟩ := h
  have := memsTo_len s 12
  rw [he, List.length_append] at this
  omega

/-- The members listed in memory of the call's own. -/
def MemRes (w : World) (p : Nat) (f : Nat → Nat) (e : Ending) (w' : World) : Prop :=
  ∃ a g c, e = .returned (.slice a p c) ∧ RowAt w' w'.heap.size a g 0 p (fun i => (f i : Int)) ∧ Below w.heap.size w w' ∧ ∀ q : Addr, a = some q → w.heap.size ≤ q.block

set_option maxRecDepth 100000 in
set_option maxHeartbeats 2000000 in
theorem members_new {s : Nat} (hs : s < 4096) {w : World} (hT : TabOk w) :
    Calls Tryd.prog 78 #[.int .i64 s] w (MemRes w (memK s 12) (memF s 12)) := by
  obtain ⟨i0, hi0, hz0, hz1, hz2⟩ := info_parts infoInt
  have HI := Lib.hid hi0
  have HZ0 := Lib.hid hz0
  have HZ1 := Lib.hid hz1
  have HZ2 := Lib.hid hz2
  have HT := Lib.hid hT
  have HG := hT.size
  have cv : IntKind.u64.wrap (s : Int) = (s : Int) := by rw [IntKind.wrap_u64]; omega
  clear hi0 hz0 hz1 hz2 hT
  go_enter Tryd.func78, Tryd.ntmps78
  go_wp2_with fail
  go_loopw [3, 4] (fun t i wr => ∃ j r : Nat, i = .int .u64 r ∧ Hid (Rest s j r) ∧ IntsAt wr w.heap.size t j (fun i => (memF s 12 i : Int)) ∧ Below w.heap.size w wr) (fun _ i _ => (intOf i).toNat)
  case atStart => exact ⟨0, s, rfl, ⟨hs, [], rfl, rfl⟩, IntsAt.nil _ _ _, Below.refl _ _⟩
  case round =>
    obtain ⟨j, r, rfl, hR, hown, hW⟩ := hrel
    have hr := hR.out.1
    have hj := hR.out.le
    by_cases h0 : r = 0
    · subst h0
      have HJ := Lib.hid hR.out.all
      have hown' : IntsAt wr w.heap.size u3 (memK s 12) (fun i => (memF s 12 i : Int)) := by rw [← HJ.out]; exact hown
      obtain ⟨a, c, rfl⟩ := hown'.shape
      have HRow := Lib.hid hown'.rowAt
      have hfr : ∀ q : Addr, a = some q → w.heap.size ≤ q.block := fun q hq => by
        subst hq
        rcases hown'.2 with ⟨h1, _⟩ | ⟨g, cap, cur, h1, hb, _⟩
        · cases h1
        · cases h1; exact hb
      have HFr := Lib.hid hfr
      clear hown hown' hfr
      go_wp2_with fail
      go_ret
      obtain ⟨g', hg'⟩ := HRow.out
      exact ⟨a, g', c, rfl, hg', hW, HFr.out⟩
    · have hz : ((r : Int) != 0) = true := by simp; omega
      have hT := Lib.hid (HT.out.step hW HG)
      obtain ⟨n1, n2, n3⟩ := hR.out.next h0
      have HN := Lib.hid n1
      have HV := Lib.hid n2
      have HL := Lib.hid n3
      have hsub : IntKind.u64.wrap ((r : Int) - 1) = ((r - 1 : Nat) : Int) := by rw [IntKind.wrap_u64]; omega
      have hand : bits .and .u64 (r : Int) ((r - 1 : Nat) : Int) = ((r &&& (r - 1) : Nat) : Int) := bits_and_u64_nat r (r - 1) (by omega) (by omega)
      have HS := Lib.hid hsub
      have HA := Lib.hid hand
      clear n1 n2 n3 hsub hand
      go_wp2_with fail
      go_at_call 85
      refine (tz_small hr h0 hT.out).mono ?_
      rintro e w2 ⟨rfl, rfl⟩
      rw [← HV.out]
      go_wp2_with (at_builtin; refine wpList_append_own _ rfl _ _ 24 rfl w.heap.size 3 i0 (.int .i64 0) 1 8 Tryd.underlying24 HI.out HZ0.out HZ1.out HZ2.out rfl (by decide) _ _ _ rfl (World.ownsRow.alloc hown _) ⟨wr.heap.size, 0, none⟩ 1 1 [.int .i64 (memF s 12 j : Int)] rfl rfl (cell_one_new _ _ _) ?c2 ?c3 ?c4 ?c5 ?_)
      case c2 => simp [Value.oneCell']
      case c3 => unfold maxLen; omega
      case c4 => have := hW.size; omega
      case c5 => have := hW.size; first | omega | (simp; omega)
      intro v' w4 hown4 hgrow _
      have HO4 : Hid (IntsAt w4 w.heap.size v' (j + 1) (fun i => (memF s 12 i : Int))) := by
        show IntsAt _ _ _ _ _
        refine IntsAt.told ?_
        exact hown4
      have hA : Below w.heap.size wr (wr.alloc (.cells #[.int .i64 (memF s 12 j : Int)] 3)) := (Below.refl _ _).alloc (by have := hW.size; omega) _
      have hG := hA.grown hgrow (by have := hW.size; first | omega | (simp; omega)) (ownsRow_block hown)
      have hW4 := Lib.hid (hW.trans (hG.mono (by omega)))
      clear hown4 hgrow hown hA hG
      have hsub := HS.out
      have hand := HA.out
      go_wp2_with fail
      go_roundw
      case rel => exact ⟨j + 1, r &&& (r - 1), rfl, HN.out, HO4.out, hW4.out⟩
      case measure => simp only [intOf, Int.toNat_natCast]; exact HL.out
theorem members_any {s : Nat} (hs : s < 4096) {w : World} (hT : TabOk w) :
    Calls Tryd.prog 78 #[.int .i64 s] w (InnerRes w (memK s 12) (memF s 12)) :=
  (members_new hs hT).mono fun _ _ ⟨a, g, c, h1, h2, h3, _⟩ => ⟨a, g, c, h1, h2, h3⟩
end Go.Proofs.YtjmhhjdkemicbaaDoor
namespace Go.Proofs.YtjmhhjdkemicbaaDoor
open Go.RowKit Go.Deep

/-- Rows of pairs of listed answers looked at. -/
structure GA (m : Mx) (y : Nat → Nat) (s K : Nat) (q : Nat → Nat) (u j : Nat) : Prop where
  under : Under m y s u
  done : ∀ i, i < j → u.testBit (y (q i)) = true ∧ ∀ c, c < K → u.testBit (mN m (q i) (q c)) = true
structure GB (m : Mx) (y : Nat → Nat) (s K : Nat) (q : Nat → Nat) (u j c : Nat) : Prop where
  all : GA m y s K q u j
  opp : u.testBit (y (q j)) = true
  row : ∀ i, i < c → u.testBit (mN m (q j) (q i)) = true
theorem GA.more {m : Mx} {y : Nat → Nat} {s K : Nat} {q : Nat → Nat} {u u' j : Nat} (h : GA m y s K q u j) (hu : Under m y s u') (hs : Sub u u') : GA m y s K q u' j :=
  ⟨hu, fun i hi => ⟨hs _ (h.done i hi).1, fun c hc => hs _ ((h.done i hi).2 c hc)⟩⟩
theorem GA.first {m : Mx} {z : Nat → Int} {y : Nat → Nat} {o s K : Nat} {q b : Nat → Nat} {u j : Nat} (h : GA m y s K q u j) (hO : Ortho m z y o) (hp : Emb m.n K s q b) (hj : j < K) : GB m y s K q (u ||| 2 ^ y (q j)) j 0 := by
  have hx := hO.lt _ (hp.lt j hj)
  refine ⟨h.more (h.under.more hx fun v hv hs => hv.not _ (hp.lt j hj) (hs _ (hp.has j hj))) (sub_left _ _), sub_right _ _ _ (has_one _), fun _ hi => absurd hi (Nat.not_lt_zero _)⟩
theorem GB.add {m : Mx} {z : Nat → Int} {y : Nat → Nat} {o s K : Nat} {q b : Nat → Nat} {u j c : Nat} (h : GB m y s K q u j c) (hO : Ortho m z y o) (hp : Emb m.n K s q b) (hj : j < K) (hc : c < K) : GB m y s K q (u ||| (2 ^ mN m (q j) (q c) ||| 2 ^ jN m (q j) (q c))) j (c + 1) := by
  have h1 := hp.lt j hj
  have h2 := hp.lt c hc
  have hm := (hO.mG h1 h2).lt
  have hjn := (hO.jG h1 h2).lt
  have hs := sub_left u (2 ^ mN m (q j) (q c) ||| 2 ^ jN m (q j) (q c))
  have hU : Under m y s (u ||| (2 ^ mN m (q j) (q c) ||| 2 ^ jN m (q j) (q c))) :=
    ⟨h.all.under.has.trans hs, or_lt h.all.under.lt (or_lt (one_lt hm) (one_lt hjn)), fun v hv hsv => sub_or (h.all.under.least v hv hsv)
      (sub_or (sub_one (hv.meet _ _ h1 h2 (hsv _ (hp.has j hj)) (hsv _ (hp.has c hc)))) (sub_one (hv.join hO h1 h2 (hsv _ (hp.has j hj)) (hsv _ (hp.has c hc)))))⟩
  refine ⟨h.all.more hU hs, hs _ h.opp, fun i hi => ?_⟩
  by_cases e : i = c
  · subst e
    exact sub_right _ _ _ (sub_left _ _ _ (has_one _))
  · exact hs _ (h.row i (by omega))
theorem GB.turn {m : Mx} {y : Nat → Nat} {s K : Nat} {q : Nat → Nat} {u j : Nat} (h : GB m y s K q u j K) : GA m y s K q u (j + 1) :=
  ⟨h.all.under, fun i hi => by
    by_cases e : i = j
    · subst e; exact ⟨h.opp, h.row⟩
    · exact h.all.done i (by omega)⟩
theorem GA.grown {m : Mx} {y : Nat → Nat} {s K : Nat} {q b : Nat → Nat} {u : Nat} (h : GA m y s K q u K) (hp : Emb m.n K s q b) : Grown m y s u := by
  refine ⟨h.under, fun a c ha hc ga gc => ?_, fun a ha ga => ?_⟩
  · have := (h.done (b a) (hp.blt a ha ga)).2 (b c) (hp.blt c hc gc)
    rwa [hp.qb a ha ga, hp.qb c hc gc] at this
  · have := (h.done (b a) (hp.blt a ha ga)).1
    rwa [hp.qb a ha ga] at this
end Go.Proofs.YtjmhhjdkemicbaaDoor
namespace Go.Proofs.YtjmhhjdkemicbaaDoor
open Go.RowKit Go.Deep

theorem Alg.apart {w w' : World} {ob tb p : Nat} {tG : Nat → Nat} {sa : Option Addr} {l : Lay} {m : Mx} {u v : Value} (h : Alg w ob tb tG sa l m) (hp : ThreeAt w p (.slice none 0 0) u v) (hn : 1 ≤ m.n) (ho : OnlyIn (fun q => q = p) w w') : Alg w' ob tb tG sa l m := by
  have h0 : ob ≠ p := fun e => by
    have := h.op0
    rw [e, hp.c0] at this
    cases this
  have h1 : tb ≠ p := fun e => by
    have := h.own.top.cell (show 0 < (tr m).n from hn)
    rw [e, hp.c0] at this
    cases this
  have h2 : ∀ r, r < (tr m).n → tG r ≠ p := fun r hr e => by
    have := (h.own.row r hr).cell (show 0 < (tr m).L r from hn)
    rw [e, hp.c0] at this
    cases this
  exact ⟨h.own.only ho h1 h2, by have := h.lt; have := ho.size; omega, (World.cell?_of_block (w := w) (ho.block ob h0)).trans h.op0, (World.cell?_of_block (w := w) (ho.block ob h0)).trans h.op1⟩

end Go.Proofs.YtjmhhjdkemicbaaDoor
