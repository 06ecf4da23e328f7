/- The walk of the reference's TurnedOf: rows that grow by append, in a list of rows that grows by append. -/
import Derived.Test.YtcplljeglaolgaaWx
import Derived.Deep.Matrix
namespace Go.Proofs.Ytcplljeglaolgaa
open Go.RowKit Go.Deep

/-- Two slices of the call's own whose elements are of different types share no block. -/
theorem owns_apart {w : World} {b1 b2 : Nat} {e1 e2 : TypeId} {s1 s2 n1 n2 : Nat} {v1 v2 : Value} {x1 x2 : List Value} (h1 : w.ownsRow b1 e1 s1 v1 n1 x1) (h2 : w.ownsRow b2 e2 s2 v2 n2 x2) (hne : e1 ≠ e2) : v1.ownBlock = none ∨ v1.ownBlock ≠ v2.ownBlock := by
  rcases h1.2 with ⟨rfl, _⟩ | ⟨g, cap, cur, rfl, _, hh, _⟩
  · exact .inl rfl
  · right
    rcases h2.2 with ⟨rfl, _⟩ | ⟨g', cap', cur', rfl, _, hh', _⟩
    · simp [Value.ownBlock]
    · intro e
      have e' : g = g' := by simpa [Value.ownBlock] using e
      subst e'
      rw [hh] at hh'
      injection hh' with hh'
      injection hh' with _ ht
      exact hne ht
theorem owns_not {w w' : World} {base : Nat} {e : TypeId} {size n : Nat} {v u : Value} {xs : List Value} (h : w.ownsRow base e size v n xs) (hg : w.grownBy w' u.ownBlock) (hne : v.ownBlock = none ∨ v.ownBlock ≠ u.ownBlock) : w'.ownsRow base e size v n xs := h.kept hg hne

/-- k rows of the order turned round are in the list. -/
structure RowsS (w wr : World) (m : Mx) (k : Nat) (v : Value) (rv : Nat → Value) : Prop where
  top : wr.ownsRow w.heap.size 29 1 v k ((List.range k).map rv)
  row : ∀ r, r < k → wr.ownsRow w.heap.size 3 1 (rv r) m.n ((List.range m.n).map fun c => .int .i64 (m.Z c r))
  old : Below w.heap.size w wr

theorem RowsS.mat {w wr : World} {m : Mx} {v : Value} {rv : Nat → Value} (h : RowsS w wr m m.n v rv) (h0 : 0 < m.n) :
    ∃ (a : Option Addr) (l : Lay), v = .slice a m.n l.cap ∧ MatAt wr wr.heap.size a l (tr m) := by
  have hrv : ∀ r, r < m.n → ∃ y : Nat × Nat, rv r = .slice (some ⟨y.1, 0, none⟩) m.n y.2 ∧ y.1 < wr.heap.size ∧ ∀ j, j < m.n → wr.cell? ⟨y.1, j, none⟩ = some (.int .i64 (m.Z j r)) := fun r hr => by
    have ho := h.row r hr
    rcases owns_ways ho with ⟨_, h1⟩ | ⟨g, cap, h1, h2⟩
    · omega
    · exact ⟨(g, cap), h1, (ho.lt g (by rw [h1]; rfl)).2, h2⟩
  obtain ⟨y, hy⟩ := choose_lt hrv
  rcases h.top.2 with ⟨_, h1⟩ | ⟨g, cap, cur, rfl, hrest⟩
  · omega
  · refine ⟨some ⟨g, 0, none⟩, ⟨g, 0, cap, fun r => some ⟨(y r).1, 0, none⟩, fun r => (y r).2, fun r => (y r).1, fun _ => 0⟩, rfl, ⟨fun r hr => ?_, fun r hr c hc => ?_⟩⟩
    · have hr' : r < m.n := hr
      refine ⟨rfl, (h.top.lt g rfl).2, ?_⟩
      have := h.top.cellAt r (by omega)
      rw [Nat.zero_add, this]
      simp only [List.getElem?_map, List.getElem?_range hr', Option.map_some]
      rw [(hy r hr').1]
      rfl
    · have hr' : r < m.n := hr
      have hc' : c < m.n := hc
      exact ⟨rfl, (hy r hr').2.1, by
        rw [Nat.zero_add]
        exact (hy r hr').2.2 c hc'⟩

/-- What the reference's TurnedOf hands back of an order. -/
def TurnR (w : World) (m : Mx) (e : Ending) (w' : World) : Prop :=
  ∃ (a : Option Addr) (l : Lay), e = .returned (.slice a m.n l.cap) ∧ MatAt w' w'.heap.size a l (tr m) ∧ Below w.heap.size w w'

set_option maxRecDepth 100000 in
set_option maxHeartbeats 1000000 in
theorem spec_TurnedOf_no {B : Nat} {sa : Option Addr} {l : Lay} {m : Mx} {w : World} (hn : m.n ≤ 9223372036854775807) (hL : ∀ r, r < m.n → m.L r ≤ 9223372036854775807) (h : MatAt w B sa l m) (hB : B ≤ w.heap.size) (ho : orderB m = false) :
    Calls Try.prog 36 #[.slice sa m.n l.cap] w fun e w' => e = .returned (.slice (some ⟨w.heap.size, 0, none⟩) 0 0) ∧ Below w.heap.size w w' := by
  have HL := Lib.hid hL
  have HO := Lib.hid ho
  have h1 := h.alloc hB (.cells #[] 29)
  have hb0 := (Below.refl w.heap.size w).alloc (Nat.le_refl _) (.cells #[] 29)
  clear hL ho h
  go_enter Try.func36, Try.ntmps36
  go_wp2_with fail
  go_loop [3, 4] (fun v i => v = .slice (some ⟨w.heap.size, 0, none⟩) 0 0 ∧ i = .int .i64 0) (fun _ _ => 0)
  case atStart => exact ⟨rfl, rfl⟩
  case round =>
    obtain ⟨rfl, rfl⟩ := hrel
    by_cases h0 : 0 < m.n
    · have h0' : (0 : Int) < m.n := by omega
      go_wp2_with fail
      go_at_call 72
      refine (spec_OrderOk B sa l m _ hn HL.out h1).mono ?_
      rintro e w1 ⟨rfl, rfl⟩
      rw [HO.out]
      go_wp2_with fail
      go_ret
      exact ⟨rfl, hb0⟩
    · have h0' : ¬ (0 : Int) < m.n := by omega
      go_wp2_with fail
      go_ret
      exact ⟨rfl, hb0⟩

set_option maxRecDepth 100000 in
set_option maxHeartbeats 1000000 in
theorem spec_TurnedOf_yes {B : Nat} {sa : Option Addr} {l : Lay} {m : Mx} {w : World} (hn : m.n ≤ 9223372036854775807) (hL : ∀ r, r < m.n → m.L r ≤ 9223372036854775807) (h : MatAt w B sa l m) (hB : B ≤ w.heap.size) (ho : orderB m = true) :
    Calls Try.prog 36 #[.slice sa m.n l.cap] w (TurnR w m) := by
  have HL := Lib.hid hL
  have hord := orderB_is ho
  have hhi := hord.top
  have hpos := hord.pos
  have hs := Lib.hid hord.sq
  have HO := Lib.hid ho
  have H0 := Lib.hid h
  have hown0 := World.ownsRow_lit (base := w.heap.size) (e := 29) (size := 1) w #[] 0 (Nat.le_refl _) (Nat.zero_le _) rfl
  have hb0 := (Below.refl w.heap.size w).alloc (Nat.le_refl _) (.cells #[] 29)
  obtain ⟨i0, hi, hz0, hz1, hz2⟩ := info_parts infoInt
  have HI := Lib.hid hi
  have HZ0 := Lib.hid hz0
  have HZ1 := Lib.hid hz1
  have HZ2 := Lib.hid hz2
  obtain ⟨i1, hj, hy0, hy1, hy2⟩ := info_parts infoInts
  have HJ := Lib.hid hj
  have HY0 := Lib.hid hy0
  have HY1 := Lib.hid hy1
  have HY2 := Lib.hid hy2
  clear hL ho h hord hi hz0 hz1 hz2 hj hy0 hy1 hy2
  go_enter Try.func36, Try.ntmps36
  go_wp2_with fail
  go_loopw [3, 4] (fun v i wr => ∃ (k : Nat) (rv : Nat → Value), k ≤ m.n ∧ i = .int .i64 k ∧ RowsS w wr m k v rv) (fun _ i _ => m.n - (intOf i).toNat)
  case atStart => exact ⟨0, fun _ => .slice none 0 0, Nat.zero_le _, rfl, hown0, fun r hr => absurd hr (Nat.not_lt_zero _), hb0⟩
  case round =>
    obtain ⟨k, rv, hk, rfl, hR⟩ := hrel
    have hM := H0.out.below (hR.old.mono hB)
    by_cases hlt : k < m.n
    · have hlt' : (k : Int) < m.n := by omega
      have hM1 := hM.alloc (o := .cells #[] 3) (Nat.le_trans hB hR.old.size)
      have hrow0 := World.ownsRow_lit (base := wr.heap.size) (e := 3) (size := 1) wr #[] 0 (Nat.le_refl _) (Nat.zero_le _) rfl
      have hbr := (Below.refl wr.heap.size wr).alloc (Nat.le_refl _) (.cells #[] 3)
      go_wp2_with fail
      go_at_call 72
      refine (spec_OrderOk B sa l m _ hn HL.out hM).mono ?_
      rintro e w1 ⟨rfl, rfl⟩
      rw [HO.out]
      clear hM hM1
      obtain ⟨wo, rfl⟩ : ∃ wo : World, wo = wr := ⟨_, rfl⟩
      have hRo := Lib.hid hR
      have hold := hR.old
      have hsz := hold.size
      clear hR
      go_wp2_with fail
      go_loopw [5, 6] (fun t i wi => ∃ j : Nat, j ≤ m.n ∧ i = .int .i64 j ∧ wi.ownsRow wo.heap.size 3 1 t j ((List.range j).map fun c => .int .i64 (m.Z c k)) ∧ Below wo.heap.size wo wi) (fun _ i _ => m.n - (intOf i).toNat)
      case atStart => exact ⟨0, Nat.zero_le _, rfl, hrow0, hbr⟩
      case round =>
        clear hrow0 hbr
        obtain ⟨j, hj, rfl, hown, hW⟩ := hrel
        have hws := hW.size
        have hWw := hold.trans (hW.mono hsz)
        by_cases hjt : j < m.n
        · have hjt' : (j : Int) < m.n := by omega
          have hMi := H0.out.below (hWw.mono hB)
          obtain ⟨rfl, t1, t2⟩ := hMi.sq hs.out hjt hlt
          clear hMi
          go_wp2_with (at_builtin; refine wpList_append_own _ rfl _ _ 29 rfl wo.heap.size 3 i0 (.int .i64 0) 1 8 Try.underlying29 HI.out HZ0.out HZ1.out HZ2.out rfl (by decide) _ _ _ rfl (hown.alloc _) ⟨wr.heap.size, 0, none⟩ 1 1 [.int .i64 (m.Z j k)] rfl rfl (cell_one_new _ _ _) ?c2 ?c3 ?c4 ?c5 ?_)
          case c2 => simp [Value.oneCell']
          case c3 => unfold maxLen; omega
          case c4 => omega
          case c5 => first | omega | (simp; omega)
          intro v' w4 hown4 hgrow _
          have HO4 : Hid (w4.ownsRow wo.heap.size 3 1 v' (j + 1) ((List.range (j + 1)).map fun c => .int .i64 (m.Z c k))) := by
            show World.ownsRow _ _ _ _ _ _ _
            rw [List.range_succ, List.map_append]
            exact hown4
          have hW4 : Below wo.heap.size wo w4 := (hW.alloc hws _).grown hgrow (by first | omega | (simp; omega)) (ownsRow_block hown)
          clear hown4 hgrow hown
          go_wp2_with fail
          go_roundw
          case rel => exact ⟨j + 1, by omega, by go_num, HO4.out, hW4⟩
          case measure => simp [intOf]; omega
        · have hjt' : ¬ (j : Int) < m.n := by omega
          have hjn : j = m.n := by omega
          have hrow : wr.ownsRow wo.heap.size 3 1 u5 m.n ((List.range m.n).map fun c => .int .i64 (m.Z c k)) := by rw [hjn] at hown; exact hown
          have htop := ownsRow_below hRo.out.top hW (Nat.le_refl _)
          have hrows : ∀ r, r < k → wr.ownsRow w.heap.size 3 1 (rv r) m.n ((List.range m.n).map fun c => .int .i64 (m.Z c r)) := fun r hr => ownsRow_below (hRo.out.row r hr) hW (Nat.le_refl _)
          obtain ⟨gk, ck, rfl⟩ : ∃ g cap, u5 = .slice (some ⟨g, 0, none⟩) m.n cap := by
            rcases owns_ways hrow with ⟨_, h1⟩ | ⟨g, cap, h1, _⟩
            · omega
            · exact ⟨g, cap, h1⟩
          have HR := Lib.hid hrows
          have HW := Lib.hid (ownsRow_base hrow hsz)
          clear hjn hown hrows hrow
          go_wp2_with (at_builtin; refine wpList_append_own _ rfl _ _ 23 rfl w.heap.size 29 i1 (.slice none 0 0) 1 24 Try.underlying23 HJ.out HY0.out HY1.out HY2.out rfl (by decide) _ _ _ rfl (htop.alloc _) ⟨wr.heap.size, 0, none⟩ 1 1 [.slice (some ⟨gk, 0, none⟩) m.n ck] rfl rfl (cell_one_new _ _ _) ?c2 ?c3 ?c4 ?c5 ?_)
          case c2 => simp [Value.oneCell']
          case c3 => unfold maxLen; omega
          case c4 => omega
          case c5 => first | omega | (simp; omega)
          intro v' w4 hown4 hgrow _
          have HX : Hid (RowsS w w4 m (k + 1) v' (fun r => if r = k then .slice (some ⟨gk, 0, none⟩) m.n ck else rv r)) := by
            refine ⟨?_, fun r hr => ?_, (hWw.alloc (Nat.le_trans hsz hws) _).grown hgrow (by first | omega | (simp; omega)) (ownsRow_block htop)⟩
            · have e1 : (List.range (k + 1)).map (fun r => if r = k then Value.slice (some ⟨gk, 0, none⟩) m.n ck else rv r) = (List.range k).map rv ++ [.slice (some ⟨gk, 0, none⟩) m.n ck] := by
                rw [List.range_succ, List.map_append]
                congr 1
                · exact map_congr_range fun i hi => by rw [if_neg (by omega)]
                · simp
              rw [e1]
              exact hown4
            · by_cases e : r = k
              · subst e
                simp only [if_true]
                exact owns_not (HW.out.alloc (.cells #[.slice (some ⟨gk, 0, none⟩) m.n ck] 29)) hgrow (owns_apart HW.out htop (by decide))
              · simp only [if_neg e]
                have hr' := HR.out r (by omega)
                exact owns_not (hr'.alloc (.cells #[.slice (some ⟨gk, 0, none⟩) m.n ck] 29)) hgrow (owns_apart hr' htop (by decide))
          clear hown4 hgrow htop
          go_wp2_with fail
          go_roundw
          case rel => exact ⟨k + 1, _, by omega, by go_num, HX.out⟩
          case measure => simp [intOf]; omega
    · have hlt' : ¬ (k : Int) < m.n := by omega
      have HK : Hid (k = m.n) := by show _ = _; omega
      clear hM
      go_wp2_with fail
      go_ret
      have hR' : RowsS w wr m m.n u3 rv := by rw [← HK.out]; exact hR
      obtain ⟨a, l', rfl, hm'⟩ := hR'.mat (by omega)
      exact ⟨a, l', rfl, hm', hR'.old⟩
end Go.Proofs.Ytcplljeglaolgaa
