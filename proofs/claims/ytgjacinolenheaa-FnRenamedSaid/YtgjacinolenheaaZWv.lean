/- The walks of the program's and the reference's AtomsOf: a list that grows by append. The walk of the reference's AtomsOf. Lists of numbers of the call's own: marked, held, compared. The walk of the reference's TurnedOf: rows that grow by append, in a list of rows that grows by append. -/
import Derived.Test.YtgjacinolenheaaZWu
import Derived.Test.YtgjacinolenheaaZWp
import Derived.Test.YtgjacinolenheaaZMath
import Derived.Maps.AppendAt
import Derived.Deep.Matrix
namespace Go.Proofs.Ytgjacinolenheaa
open Go.RowKit Go.Deep

set_option maxHeartbeats 400000 in
theorem countBelow_sq {B : Nat} {sa : Option Addr} {l : Lay} {m : Mx} {a : Nat} {w : World} (h : SqAt w B sa l m) (ha : a < m.n) :
    Calls Try.prog 60 #[.agg #[.slice sa m.n l.cap], .int .i64 a] w fun e w' => e = .returned (.int .i64 (countI m a)) ∧ Below w.heap.size w w' := by
  have hn := h.hi
  have h1 := h.alloc (.cells #[.slice sa m.n l.cap] 62)
  have hX := Boxd.start w (.slice sa m.n l.cap) 62
  have hb := hX.below
  clear h
  go_enter Try.func60, Try.ntmps60
  go_wp2_with fail
  go_loop [5, 11] (fun t i => ∃ (k : Nat) (v : Int), k ≤ m.n ∧ i = .int .i64 k ∧ t = .int .i64 v ∧ 0 ≤ v ∧ v ≤ (k : Int) ∧ Hid (v = sumTo k (fun r => m.Z r a))) (fun _ i => m.n - (intOf i).toNat)
  case atStart => exact ⟨0, 0, Nat.zero_le _, rfl, rfl, by omega, by omega, rfl⟩
  case round =>
    obtain ⟨k, v, hk, rfl, rfl, hv0, hv1, hV⟩ := hrel
    by_cases hlt : k < m.n
    · have hlt' : (k : Int) < m.n := by omega
      obtain ⟨rfl, t1, t2⟩ := h1.mat.sq h1.sq hlt ha
      have hbit := h1.sq.bit k hlt a ha
      have hz0 : 0 ≤ m.Z k a := by omega
      have hz1 : m.Z k a ≤ 1 := by omega
      clear hbit
      go_wp2_with fail
      go_round
      case rel => exact ⟨k + 1, v + m.Z k a, by omega, by go_num, rfl, by omega, by omega, by show _ = _; simp only [sumTo]; rw [hV.out]⟩
      case measure => simp [intOf]; omega
    · have hlt' : ¬ (k : Int) < m.n := by omega
      have HK : Hid (k = m.n) := by show _ = _; omega
      go_wp2_with fail
      go_ret
      exact ⟨ret_int (by rw [hV.out, HK.out]; rfl), hb⟩

theorem ownsRow_below {w w' : World} {base B : Nat} {e : TypeId} {size n : Nat} {v : Value} {xs : List Value} (h : w.ownsRow base e size v n xs) (hb : Below B w w') (hB : w.heap.size ≤ B) : w'.ownsRow base e size v n xs := by
  refine ⟨h.1, ?_⟩
  rcases h.2 with h' | ⟨g, cap, cur, h1, h2, h3, h4⟩
  · exact .inl h'
  · have hg : g < w.heap.size := (Array.getElem?_eq_some_iff.1 h3).1
    exact .inr ⟨g, cap, cur, h1, h2, (hb.block g (by omega)).trans h3, h4⟩
theorem ownsRow_base {w : World} {base base' : Nat} {e : TypeId} {size n : Nat} {v : Value} {xs : List Value} (h : w.ownsRow base e size v n xs) (hb : base' ≤ base) : w.ownsRow base' e size v n xs := by
  refine ⟨h.1, ?_⟩
  rcases h.2 with h' | ⟨g, cap, cur, h1, h2, h3⟩
  · exact .inl h'
  · exact .inr ⟨g, cap, cur, h1, by omega, h3⟩
theorem ownsRow_block {w : World} {base : Nat} {e : TypeId} {size n : Nat} {v : Value} {xs : List Value} (h : w.ownsRow base e size v n xs) : ∀ k, v.ownBlock = some k → base ≤ k := fun k hk => (h.lt k hk).1

/-- A list of numbers in memory of the call's own. -/
def ListRes (w : World) (xs : List Int) (e : Ending) (w' : World) : Prop :=
  ∃ v, e = .returned v ∧ w'.ownsRow w.heap.size 3 1 v xs.length (xs.map (Value.int .i64)) ∧ Below w.heap.size w w'

set_option maxRecDepth 100000 in
set_option maxHeartbeats 1000000 in
theorem AtomsOf_any {B : Nat} {sa : Option Addr} {l : Lay} {m : Mx} {w : World} (hn : m.n ≤ 9223372036854775807) (hL : ∀ r, r < m.n → m.L r ≤ 9223372036854775807) (h : MatAt w B sa l m) (hB : B ≤ w.heap.size) :
    Calls Try.prog 20 #[.slice sa m.n l.cap] w (ListRes w (atomsV m)) := by
  have HL := Lib.hid hL
  clear hL
  cases ho : orderB m with
  | false =>
    have HR : Hid (atomsV m = []) := atomsV_no fun h => by rw [ho] at h; cases h.1
    have HO := Lib.hid ho
    clear ho
    go_enter Try.func20, Try.ntmps20
    go_wp2_with fail
    go_at_call 58
    refine (orderWith_no hn HL.out h hB HO.out).mono ?_
    rintro e w1 ⟨rfl, hw1⟩
    go_wp2_with fail
    go_ret
    exact ⟨_, rfl, by rw [HR.out]; exact World.ownsRow_nil _ _ _ _, hw1.alloc hw1.size _⟩
  | true =>
    have HO := Lib.hid ho
    clear ho
    have hord := orderB_is HO.out
    have hhi := hord.top
    have hS : SqAt w B sa l m := ⟨h, hord.sq, hord.top, hB⟩
    clear hord
    obtain ⟨i0, hi, hz0, hz1, hz2⟩ := info_parts infoInt
    have HI := Lib.hid hi
    have HZ0 := Lib.hid hz0
    have HZ1 := Lib.hid hz1
    have HZ2 := Lib.hid hz2
    clear hi hz0 hz1 hz2
    go_enter Try.func20, Try.ntmps20
    go_wp2_with fail
    go_at_call 58
    refine (orderWith_ok (g := 0) (o := 0) (z := fun _ => 0) hn HL.out h hB (by omega) ⟨fun c hc => absurd hc (Nat.not_lt_zero _)⟩ HO.out).mono ?_
    rintro e w1 ⟨(⟨hg, rfl⟩ | ⟨hg, rfl⟩), hw1⟩
    · have hS1 := (hS.step hw1).alloc (.cells #[.slice sa m.n l.cap] 62)
      have hD := Boxd.start w1 (.slice sa m.n l.cap) 62
      have hb1 := hw1.alloc hw1.size (.cells #[.slice sa m.n l.cap] 62)
      clear hg h hS
      go_wp2_with fail
      go_at_call 59
      refine (least_sq hS1).mono ?_
      rintro e w2 ⟨rfl, hw2⟩
      have hD2 := hD.step hw2
      have hS2 := hS1.step hw2
      have hb2 := hb1.trans (hw2.mono hb1.size)
      clear hD hS1 hb1 hw2
      cases hl : hasI (leastI m) with
      | false =>
        have HR : Hid (atomsV m = []) := atomsV_no fun h => by rw [hl] at h; cases h.2
        have HLs := Lib.hid hl
        clear hl
        go_wp2_with fail
        go_ret
        exact ⟨_, rfl, by rw [HR.out]; exact World.ownsRow_nil _ _ _ _, hb2⟩
      | true =>
        have HR : Hid (atomsV m = atomsTo m m.n) := atomsV_yes HO.out hl
        have HLs := Lib.hid hl
        clear hl
        go_wp2_with fail
        go_loopw [7, 25] (fun v i wr => ∃ k : Nat, k ≤ m.n ∧ i = .int .i64 k ∧ wr.ownsRow w2.heap.size 3 1 v (atomsTo m k).length ((atomsTo m k).map (Value.int .i64)) ∧ Below w2.heap.size w2 wr) (fun _ i _ => m.n - (intOf i).toNat)
        case atStart => exact ⟨0, Nat.zero_le _, rfl, World.ownsRow_nil _ _ _ _, Below.refl _ _⟩
        case round =>
          obtain ⟨k, hk, rfl, hown, hW⟩ := hrel
          by_cases hlt : k < m.n
          · have hlt' : (k : Int) < m.n := by omega
            have hSr := hS2.step hW
            have hDr := (hD2.step hW).cell
            have hs2 := hW.size
            have hlen := atomsTo_len m k
            go_wp2_with fail
            go_at_call 60
            refine (countBelow_sq hSr hlt).mono ?_
            rintro e w3 ⟨rfl, hw3⟩
            replace hown := ownsRow_below hown hw3 (Nat.le_refl _)
            have hW3 := hW.trans (hw3.mono hs2)
            have hs3 := hW3.size
            by_cases hc : countI m k = 2
            · have HC := Lib.hid hc
              rw [HC.out]
              clear hc
              go_wp2_with (at_builtin; refine wpList_append_own _ rfl _ _ 25 rfl w2.heap.size 3 i0 (.int .i64 0) 1 8 Try.underlying25 HI.out HZ0.out HZ1.out HZ2.out rfl (by decide) _ _ _ rfl (hown.alloc _) ⟨w3.heap.size, 0, none⟩ 1 1 [.int .i64 k] rfl rfl ?c1 ?c2 ?c3 ?c4 ?c5 ?_)
              case c1 => exact cell_one_new _ _ _
              case c2 => simp [Value.oneCell']
              case c3 => unfold maxLen; omega
              case c4 => omega
              case c5 => simp; omega
              intro v' w4 hown4 hgrow _
              have HO4 : Hid (w4.ownsRow w2.heap.size 3 1 v' (atomsTo m (k + 1)).length ((atomsTo m (k + 1)).map (Value.int .i64))) := by
                show World.ownsRow _ _ _ _ _ _ _
                rw [atomsTo_yes HC.out, List.length_append, List.map_append]
                exact hown4
              have hW4 : Below w2.heap.size w2 w4 := (hW3.alloc hs3 _).grown hgrow (by simp; omega) (ownsRow_block hown)
              clear hown4 hgrow hown
              go_wp2_with fail
              go_roundw
              case rel => exact ⟨k + 1, by omega, by go_num, HO4.out, hW4⟩
              case measure => simp [intOf]; omega
            · have e1 : (countI m k == 2) = false := by simp; exact hc
              have HO4 : Hid (atomsTo m (k + 1) = atomsTo m k) := atomsTo_no hc
              clear hc
              go_wp2_with fail
              go_roundw
              case rel => exact ⟨k + 1, by omega, by go_num, by rw [HO4.out]; exact hown, hW3⟩
              case measure => simp [intOf]; omega
          · have hlt' : ¬ (k : Int) < m.n := by omega
            have HK : Hid (k = m.n) := by show _ = _; omega
            have hbw := hb2.size
            go_wp2_with fail
            go_ret
            exact ⟨_, rfl, by rw [HR.out, ← HK.out]; exact ownsRow_base hown hbw, hb2.trans (hW.mono hbw)⟩
    · rw [good_nil] at hg
      cases hg
end Go.Proofs.Ytgjacinolenheaa
namespace Go.Proofs.Ytgjacinolenheaa
open Go.RowKit Go.Deep

end Go.Proofs.Ytgjacinolenheaa
namespace Go.Proofs.Ytgjacinolenheaa
open Go.RowKit Go.Deep

theorem map_set (n k : Nat) (f : Nat → Value) (u : Value) : ((List.range n).map f).set k u = (List.range n).map (fun i => if i = k then u else f i) := by
  apply List.ext_getElem
  · simp
  · intro i h1 h2
    simp only [List.getElem_set, List.getElem_map, List.getElem_range]
    by_cases e : k = i
    · subst e; simp
    · rw [if_neg e, if_neg (fun h => e h.symm)]
theorem map_congr_range {n : Nat} {f g : Nat → Value} (h : ∀ i, i < n → f i = g i) : (List.range n).map f = (List.range n).map g :=
  List.map_congr_left fun i hi => h i (List.mem_range.1 hi)

theorem ownsRow_only {S : Nat → Prop} {w w' : World} {base : Nat} {e : TypeId} {size n : Nat} {v : Value} {xs : List Value} (h : w.ownsRow base e size v n xs) (k : OnlyIn S w w') (hS : ∀ j, v.ownBlock = some j → ¬ S j) : w'.ownsRow base e size v n xs := by
  refine ⟨h.1, ?_⟩
  rcases h.2 with h' | ⟨g, cap, cur, h1, h2, h3, h4⟩
  · exact .inl h'
  · exact .inr ⟨g, cap, cur, h1, h2, (k.block g (hS g (by rw [h1]; rfl))).trans h3, h4⟩
/-- The slice is nil with nothing in it, or lies in a block; what it holds by its index. -/
theorem owns_ways {w : World} {base n : Nat} {v : Value} {f : Nat → Value} (h : w.ownsRow base 3 1 v n ((List.range n).map f)) :
    (v = .slice none 0 0 ∧ n = 0) ∨ ∃ g cap, v = .slice (some ⟨g, 0, none⟩) n cap ∧ ∀ j, j < n → w.cell? ⟨g, j, none⟩ = some (f j) := by
  rcases h.2 with h' | ⟨g, cap, cur, rfl, _⟩
  · exact .inl h'
  · refine .inr ⟨g, cap, rfl, fun j hj => ?_⟩
    rw [h.cellAt j (by omega)]
    simp [hj]

end Go.Proofs.Ytgjacinolenheaa
namespace Go.Proofs.Ytgjacinolenheaa
open Go.RowKit Go.Deep

/-- Two slices of the call's own whose elements are of different types share no block. -/
theorem owns_apart {w : World} {b1 b2 : Nat} {e1 e2 : TypeId} {s1 s2 n1 n2 : Nat} {v1 v2 : Value} {x1 x2 : List Value} (h1 : w.ownsRow b1 e1 s1 v1 n1 x1) (h2 : w.ownsRow b2 e2 s2 v2 n2 x2) (hne : e1 ≠ e2) : v1.ownBlock = none ∨ v1.ownBlock ≠ v2.ownBlock := by
  rcases h1.2 with ⟨rfl, _⟩ | ⟨g, cap, cur, rfl, _, hh, _⟩
  · exact .inl rfl
  · right
    rcases h2.2 with ⟨rfl, _⟩ | ⟨g', cap', cur', rfl, _, hh', _⟩
    · simp [Value.ownBlock]
    · intro e
      have e' : g = g' := by simpa [Value.ownBlock] using e
      subst e'
      rw [hh] at hh'
      injection hh' with hh'
      injection hh' with _ ht
      exact hne ht
theorem owns_not {w w' : World} {base : Nat} {e : TypeId} {size n : Nat} {v u : Value} {xs : List Value} (h : w.ownsRow base e size v n xs) (hg : w.grownBy w' u.ownBlock) (hne : v.ownBlock = none ∨ v.ownBlock ≠ u.ownBlock) : w'.ownsRow base e size v n xs := h.kept hg hne

/-- k rows of the order turned round are in the list. -/
structure RowsS (w wr : World) (m : Mx) (k : Nat) (v : Value) (rv : Nat → Value) : Prop where
  top : wr.ownsRow w.heap.size 25 1 v k ((List.range k).map rv)
  row : ∀ r, r < k → wr.ownsRow w.heap.size 3 1 (rv r) m.n ((List.range m.n).map fun c => .int .i64 (m.Z c r))
  old : Below w.heap.size w wr

theorem RowsS.mat {w wr : World} {m : Mx} {v : Value} {rv : Nat → Value} (h : RowsS w wr m m.n v rv) (h0 : 0 < m.n) :
    ∃ (a : Option Addr) (l : Lay), v = .slice a m.n l.cap ∧ MatAt wr wr.heap.size a l (tr m) := by
  have hrv : ∀ r, r < m.n → ∃ y : Nat × Nat, rv r = .slice (some ⟨y.1, 0, none⟩) m.n y.2 ∧ y.1 < wr.heap.size ∧ ∀ j, j < m.n → wr.cell? ⟨y.1, j, none⟩ = some (.int .i64 (m.Z j r)) := fun r hr => by
    have ho := h.row r hr
    rcases owns_ways ho with ⟨_, h1⟩ | ⟨g, cap, h1, h2⟩
    · omega
    · exact ⟨(g, cap), h1, (ho.lt g (by rw [h1]; rfl)).2, h2⟩
  obtain ⟨y, hy⟩ := choose_lt hrv
  rcases h.top.2 with ⟨_, h1⟩ | ⟨g, cap, cur, rfl, hrest⟩
  · omega
  · refine ⟨some ⟨g, 0, none⟩, ⟨g, 0, cap, fun r => some ⟨(y r).1, 0, none⟩, fun r => (y r).2, fun r => (y r).1, fun _ => 0⟩, rfl, ⟨fun r hr => ?_, fun r hr c hc => ?_⟩⟩
    · have hr' : r < m.n := hr
      refine ⟨rfl, (h.top.lt g rfl).2, ?_⟩
      have := h.top.cellAt r (by omega)
      rw [Nat.zero_add, this]
      simp only [List.getElem?_map, List.getElem?_range hr', Option.map_some]
      rw [(hy r hr').1]
      rfl
    · have hr' : r < m.n := hr
      have hc' : c < m.n := hc
      exact ⟨rfl, (hy r hr').2.1, by
        rw [Nat.zero_add]
        exact (hy r hr').2.2 c hc'⟩

end Go.Proofs.Ytgjacinolenheaa
