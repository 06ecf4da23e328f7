import Derived.Test.YtnbglbhfclohjaaDoorZWv
import Derived.Test.YtnbglbhfclohjaaDoorZDa
import Derived.Test.YtnbglbhfclohjaaDoorZWc
import Derived.Test.YtnbglbhfclohjaaDoorZDn
import Derived.Test.YtnbglbhfclohjaaDoorZOi
import Derived.Test.YtnbglbhfclohjaaDoorZMath
import Derived.Test.YtnbglbhfclohjaaDoorZGa
import Derived.Test.YtnbglbhfclohjaaDoorZSi
import Derived.Test.YtnbglbhfclohjaaDoorZSl
import Derived.BigQuiet
import Derived.Test.YtnbglbhfclohjaaDoorZCf
namespace Go.Proofs.YtnbglbhfclohjaaDoor
open Go.RowKit Go.Deep

set_option maxHeartbeats 400000 in
theorem sameInts_same (B : Nat) (a a' : Option Addr) (g g' o o' n cap cap' : Nat) (z : Nat → Int) (w : World) (hn : n ≤ 9223372036854775807)
    (h1 : RowAt w B a g o n z) (h2 : RowAt w B a' g' o' n z) :
    Calls Tryd.prog 13 #[.slice a n cap, .slice a' n cap'] w fun e w' => e = .returned (.bool true) ∧ Drew w w' := by
  go_enter Tryd.func13, Tryd.ntmps13
  go_wp2
  go_loopw [5] (fun i wr => ∃ k : Nat, k ≤ n ∧ i = .int .i64 k ∧ Drew w wr) (fun i _ => n - (intOf i).toNat)
  case atStart => exact ⟨0, Nat.zero_le _, rfl, Drew.refl _⟩
  case round =>
    obtain ⟨k, hk, rfl, hW⟩ := hrel
    by_cases hlt : k < n
    · have r1 := (hW.row h1).row k hlt
      have r2 := (hW.row h2).row k hlt
      obtain ⟨rfl, _, c1⟩ := r1
      obtain ⟨rfl, _, c2⟩ := r2
      have hlt' : (k : Int) < n := by omega
      go_wp2
      go_quiet (fail)
      go_wp2
      go_roundw
      case rel => exact ⟨k + 1, by omega, by go_num, hW.drewN _⟩
      case measure => simp [intOf]; omega
    · obtain rfl : n = k := by omega
      go_wp2
      go_ret
      exact ⟨rfl, hW⟩

/-- Rows that read as others, entry by entry, where both have the same lengths. -/
theorem MatAt.as {w : World} {B : Nat} {a : Option Addr} {l : Lay} {m m' : Mx} (h : MatAt w B a l m) (hn : m'.n = m.n) (hL : ∀ r, r < m.n → m'.L r = m.L r) (hZ : ∀ r, r < m.n → ∀ c, c < m.L r → m'.Z r c = m.Z r c) : MatAt w B a l m' :=
  ⟨fun r hr => by
    have hr' : r < m.n := by omega
    rw [hL r hr']
    exact h.top r hr', fun r hr c hc => by
    have hr' : r < m.n := by omega
    rw [hL r hr'] at hc
    rw [hZ r hr' c hc]
    exact h.row r hr' c hc⟩
theorem sameList {w : World} {base base' n : Nat} {v v' : Value} {z : Nat → Int} (hn : n ≤ 9223372036854775807) (h : w.ownsRow base 3 1 v n ((List.range n).map fun i => .int .i64 (z i))) (h' : w.ownsRow base' 3 1 v' n ((List.range n).map fun i => .int .i64 (z i))) :
    Calls Tryd.prog 13 #[v, v'] w fun e w' => e = .returned (.bool true) ∧ Drew w w' := by
  have key : ∀ (base : Nat) (v : Value), w.ownsRow base 3 1 v n ((List.range n).map fun i => .int .i64 (z i)) → ∃ a g cap, v = .slice a n cap ∧ RowAt w w.heap.size a g 0 n z := by
    intro base v h
    rcases owns_ways h with ⟨rfl, rfl⟩ | ⟨g, cap, rfl, hc⟩
    · exact ⟨none, 0, 0, rfl, ⟨fun c hc => absurd hc (Nat.not_lt_zero _)⟩⟩
    · exact ⟨some ⟨g, 0, none⟩, g, cap, rfl, ⟨fun c hcn => ⟨rfl, World.block_lt_of_cell? _ _ (hc c hcn), by simpa using hc c hcn⟩⟩⟩
  obtain ⟨a, g, cap, rfl, hr⟩ := key base v h
  obtain ⟨a', g', cap', rfl, hr'⟩ := key base' v' h'
  exact sameInts_same w.heap.size _ _ _ _ _ _ _ _ _ _ _ hn hr hr'
end Go.Proofs.YtnbglbhfclohjaaDoor
namespace Go.Proofs.YtnbglbhfclohjaaDoor
open Go.RowKit Go.Deep

def oneM (x : Int) : Mx := ⟨1, fun _ => 1, fun _ _ => x⟩
def oneLay (N : Nat) : Lay := ⟨N + 1, 0, 1, fun _ => some ⟨N, 0, none⟩, fun _ => 1, fun _ => N, fun _ => 0⟩
theorem one_at (w : World) (x : Int) : MatAt ((w.alloc (.cells #[.int .i64 x] 3)).alloc (.cells #[.slice (some ⟨w.heap.size, 0, none⟩) 1 1] 24)) (w.heap.size + 2) (some ⟨w.heap.size + 1, 0, none⟩) (oneLay w.heap.size) (oneM x) := by
  have b0 := (Boxed.new w 3 (.int .i64 x)).alloc (.cells #[.slice (some ⟨w.heap.size, 0, none⟩) 1 1] 24)
  have b1 := Boxed.new (w.alloc (.cells #[.int .i64 x] 3)) 24 (.slice (some ⟨w.heap.size, 0, none⟩) 1 1)
  rw [World.size_alloc] at b1
  refine ⟨fun r hr => ?_, fun r hr c hc => ?_⟩
  · have hr' : r < 1 := hr
    obtain rfl : r = 0 := by omega
    exact ⟨rfl, by show w.heap.size + 1 < _; omega, b1.cell⟩
  · have hc' : c < 1 := hc
    obtain rfl : c = 0 := by omega
    exact ⟨rfl, by show w.heap.size < _; omega, b0.cell⟩
theorem one_order : orderB (oneM 1) = true := orderB_true ⟨Nat.le_refl 1, by show 1 ≤ 12; omega, ⟨fun _ _ => rfl, fun _ _ _ _ => .inr rfl⟩, fun _ _ => rfl, fun a b ha hb hne => by
  have ha' : a < 1 := ha
  have hb' : b < 1 := hb
  exact absurd (by omega) hne, fun _ _ _ _ _ _ _ _ => rfl⟩
theorem zero_order : orderB (oneM 0) = false := orderB_false fun h => by
  have : (0 : Int) = 1 := h.refl 0 (by show 0 < 1; omega)
  omega
theorem OrderOk_one (w : World) (x : Int) : Calls Tryd.prog 59 #[.slice (some ⟨w.heap.size + 1, 0, none⟩) 1 1] ((w.alloc (.cells #[.int .i64 x] 3)).alloc (.cells #[.slice (some ⟨w.heap.size, 0, none⟩) 1 1] 24)) fun e w' =>
    e = .returned (.bool (orderB (oneM x))) ∧ Below (w.heap.size + 2) ((w.alloc (.cells #[.int .i64 x] 3)).alloc (.cells #[.slice (some ⟨w.heap.size, 0, none⟩) 1 1] 24)) w' :=
  (OrderOk_any (m := oneM x) (l := oneLay w.heap.size) (by show 1 ≤ _; omega) (fun _ _ => by show 1 ≤ _; omega) (one_at w x) (by simp)).mono fun _ _ ⟨he, hb⟩ => ⟨he, hb.mono (by simp)⟩

set_option maxHeartbeats 400000 in
theorem alive_any (w : World) : Calls Tryd.prog 16 #[] w fun e w' => e = .returned (.bool true) ∧ Below w.heap.size w w' := by
  go_enter Tryd.func16, Tryd.ntmps16
  go_wp2_with fail
  go_at_call 59
  refine (OrderOk_one w 1).mono ?_
  rintro e w1 ⟨rfl, hb1⟩
  rw [one_order]
  have B1 : Below w.heap.size w w1 := (((Below.refl w.heap.size w).alloc (Nat.le_refl _) _).alloc (by simp) _).trans (hb1.mono (by omega))
  clear hb1
  go_wp2_with fail
  go_at_call 59
  refine (OrderOk_one w1 0).mono ?_
  rintro e w2 ⟨rfl, hb2⟩
  rw [zero_order]
  have B2 : Below w.heap.size w w2 := ((B1.alloc B1.size _).alloc (by have := B1.size; simp; omega) _).trans (hb2.mono (by have := B1.size; omega))
  clear hb2
  go_wp2_with fail
  go_ret
  exact ⟨rfl, B2⟩

end Go.Proofs.YtnbglbhfclohjaaDoor
namespace Go.Proofs.YtnbglbhfclohjaaDoor
open Go.RowKit Go.Deep

/-- The drawn logic in its box, and all that was there before. -/
structure Held (w : World) (ua : Option Addr) (l : Lay) (m : Mx) (na : Option Addr) (g o k nc : Nat) (z : Nat → Int) (P : Nat) (wx : World) : Prop where
  log : LogAt wx P ua l m na g o k z
  box : TwoAt wx P (.slice ua m.n l.cap) (.slice na k nc)
  old : Below w.heap.size w wx
theorem Held.step {w wx w' : World} {ua : Option Addr} {l : Lay} {m : Mx} {na : Option Addr} {g o k nc P : Nat} {z : Nat → Int} (h : Held w ua l m na g o k nc z P wx) (hb : Below wx.heap.size wx w') : Held w ua l m na g o k nc z P w' :=
  ⟨h.log.step hb, h.box.below hb (World.block_lt_of_cell? wx ⟨P, 0, none⟩ h.box.c0), h.old.trans (hb.mono h.old.size)⟩
theorem Held.start {w w1 : World} {ua : Option Addr} {l : Lay} {m : Mx} {na : Option Addr} {g o k : Nat} {z : Nat → Int} (h : Fresh w ua l m na g o k z w1) (nc : Nat) : Held w ua l m na g o k nc z w1.heap.size (w1.alloc (.cells #[.slice ua m.n l.cap, .slice na k nc] 26)) :=
  ⟨h.log.alloc _, TwoAt.new _ _ _ _, h.old.alloc h.old.size _⟩
theorem Ortho.leastV {m : Mx} {z : Nat → Int} {y : Nat → Nat} {o : Nat} (h : Ortho m z y o) : leastV m = (o : Int) := by rw [leastV_yes (orderB_true h.lat.order)]; exact h.eq
end Go.Proofs.YtnbglbhfclohjaaDoor
namespace Go.Proofs.YtnbglbhfclohjaaDoor
open Go.RowKit Go.Deep

end Go.Proofs.YtnbglbhfclohjaaDoor
namespace Go.Proofs.YtnbglbhfclohjaaDoor
open Go.RowKit Go.Deep

end Go.Proofs.YtnbglbhfclohjaaDoor
namespace Go.Proofs.YtnbglbhfclohjaaDoor
open Go.RowKit Go.Deep

theorem list_shape {W : World} {base : Nat} {v : Value} {L : List Int} (h : W.ownsRow base 3 1 v L.length (L.map (Value.int .i64))) : ∃ a c, v = .slice a L.length c := by
  rcases h.2 with ⟨e1, e2⟩ | ⟨g9, c9, _, e1, _⟩
  · exact ⟨none, 0, by rw [e1, e2]⟩
  · exact ⟨_, c9, e1⟩
end Go.Proofs.YtnbglbhfclohjaaDoor
namespace Go.Proofs.YtnbglbhfclohjaaDoor
open Go.RowKit Go.Deep

theorem LogicData.atoms {n o : Nat} {Z : Nat → Nat → Int} {y : Nat → Nat} (h : LogicData n Z y o) : atomsV ⟨n, fun _ => n, Z⟩ = atomsTo ⟨n, fun _ => n, Z⟩ n :=
  atomsV_yes (orderB_true h.order) (by rw [h.ortho.eq]; exact hasI_nat _)
/-- What AtomsOf hands back, for its length alone. -/
def LenRes (w : World) (k : Nat) (e : Ending) (w' : World) : Prop := ∃ (a : Option Addr) (c : Nat), e = .returned (.slice a k c) ∧ Below w.heap.size w w'
theorem AtomsOf_len {B : Nat} {sa : Option Addr} {l : Lay} {m : Mx} {w : World} {k : Nat} (hn : m.n ≤ 9223372036854775807) (hL : ∀ r, r < m.n → m.L r ≤ 9223372036854775807) (h : MatAt w B sa l m) (hB : B ≤ w.heap.size) (hk : (atomsV m).length = k) :
    Calls Tryd.prog 36 #[.slice sa m.n l.cap] w (LenRes w k) :=
  (AtomsOf_any hn hL h hB).mono fun e w' ⟨v, he, ho, hb⟩ => by
    subst hk
    rcases ho.2 with ⟨hv, h0⟩ | ⟨g, cap, _, hv, _⟩
    · exact ⟨none, 0, by rw [he, hv, h0], hb⟩
    · exact ⟨_, cap, by rw [he, hv], hb⟩
end Go.Proofs.YtnbglbhfclohjaaDoor
namespace Go.Proofs.YtnbglbhfclohjaaDoor
open Go.RowKit Go.Deep

theorem bool_facts {m : Mx} {k : Nat} {z : Nat → Int} (hl : logicB m k z = true) :
    boolV m k z = (keepsV m k z && decide ((blocksV m k z).length = 1)) ∧ k = m.n ∧ (atomsV m).length ≤ 12 ∧ (boolV m k z = true → m.n = 2 ^ (atomsV m).length) := by
  obtain ⟨y0, o', hO0⟩ := (logicB_is hl).ortho
  have hkn : k = m.n := (logicB_is hl).pair.len
  subst hkn
  have hO := hO0.own
  have hat : atomsV m = atomsTo m m.n := atomsV_yes (orderB_true hO.lat.order) (by rw [hO.eq]; exact hasI_nat _)
  have hB : blocksV m m.n z = blockL m (fun c => (z c).toNat) := by unfold blocksV; rw [if_pos hl]
  have hb : boolV m m.n z = boolB m := by unfold boolV; rw [hl]; rfl
  have hk : keepsV m m.n z = keepsB m (fun c => (z c).toNat) := keepsV_is hO
  refine ⟨by rw [hb, hk, hB]; exact hO.bool_one, rfl, ?_, fun h => ?_⟩
  · rw [hat]
    exact Nat.le_trans (atomsTo_len m m.n) hO.lat.order.top
  · rw [hat]
    exact hO.bool_count (hb ▸ h)

set_option maxRecDepth 100000 in
set_option maxHeartbeats 4000000 in
theorem law_BooleanOk {A : Option Addr} {b o n cap : Nat} {z : Nat → Nat} {w : World} (h : CodeAt w A b o n cap z) (hT : TabOk w) :
    Calls Tryd.prog 6 #[.slice A n cap] w fun e w' => e = .returned (.bool true) ∧ Below w.heap.size w w' := by
  have hn := h.hn
  have hc := h.hc
  by_cases hbig : 1048576 < n
  · have hbig' : (1048576 : Int) < n := by omega
    clear h hT
    go_enter Tryd.func6, Tryd.ntmps6
    go_wp2_with fail
    go_ret
    exact ⟨rfl, Below.refl _ _⟩
  · have hbig' : ¬ (1048576 : Int) < n := by omega
    have HT := Lib.hid hT
    clear hT
    go_enter Tryd.func6, Tryd.ntmps6
    go_wp2_with fail
    go_at_call 34
    refine (draw_BooleanOk h).mono ?_
    rintro e w1 ⟨ua, l, m, na, g, o2, k, nc, zz, rfl, hF⟩
    have H1 := Held.start hF nc
    clear h hF
    have q0 := H1.box.c0
    have q1 := H1.box.c1
    go_wp2_with fail
    go_at_call 31
    refine (BooleanOk_any H1.log).mono ?_
    rintro e w2 ⟨rfl, b2⟩
    have H2 := H1.step b2
    clear H1 q0 q1 b2
    have q0 := H2.box.c0
    have q1 := H2.box.c1
    go_wp2_with fail
    go_at_call 35
    refine (spec_BooleanOk H2.log).mono ?_
    rintro e w3 ⟨rfl, b3⟩
    have H3 := H2.step b3
    clear H2 q0 q1 b3
    have q0 := H3.box.c0
    have q1 := H3.box.c1
    cases hl : logicB m k zz with
    | false =>
      have hv : boolV m k zz = false := by unfold boolV; rw [hl]; rfl
      have HLg := Lib.hid hl
      rw [hv]
      clear hl hv
      go_wp2_with fail
      go_at_call 26
      refine (spec_LogicOk H3.log).mono ?_
      rintro e w4 ⟨rfl, b4⟩
      rw [HLg.out]
      have H4 := H3.step b4
      clear H3 q0 q1 b4
      have q0 := H4.box.c0
      have q1 := H4.box.c1
      go_wp2_with fail
      go_at_call 16
      refine (alive_any _).mono ?_
      rintro e w5 ⟨rfl, b5⟩
      have H5 := H4.step b5
      go_wp2_with fail
      go_ret
      exact ⟨rfl, H5.old⟩
    | true =>
      obtain ⟨f1, f2, f3, f4⟩ := bool_facts hl
      have HLg := Lib.hid hl
      subst f2
      obtain ⟨c, hcc⟩ : ∃ c, (atomsV m).length = c := ⟨_, rfl⟩
      rw [hcc] at f3 f4
      have HC := Lib.hid hcc
      obtain ⟨bv, hbv⟩ : ∃ bv, boolV m m.n zz = bv := ⟨_, rfl⟩
      obtain ⟨kv, hkv⟩ : ∃ kv, keepsV m m.n zz = kv := ⟨_, rfl⟩
      rw [hbv] at f4
      rw [hbv, hkv] at f1
      rw [hbv]
      have HK := Lib.hid hkv
      have hn12 : m.n ≤ 9223372036854775807 := H3.log.hn
      clear hl hcc hbv hkv
      go_wp2_with fail
      go_at_call 26
      refine (spec_LogicOk H3.log).mono ?_
      rintro e w4 ⟨rfl, b4⟩
      rw [HLg.out]
      have H4 := H3.step b4
      clear H3 q0 q1 b4
      have q0 := H4.box.c0
      have q1 := H4.box.c1
      cases kv with
      | false =>
        rw [Bool.false_and] at f1
        subst f1
        clear f4
        go_wp2_with fail
        have Hd0 := Lib.hid (H4.step (Below.refl _ w4).drew)
        have K0 := (show _ ∧ _ from ⟨Hd0.out.box.c0, Hd0.out.box.c1⟩)
        clear H4 q0 q1
        refine region_plain (fuel := 26) (listed := #[false, false, false, false, false, false, false, false, false, false, false, false, false, false, false, false, false, false, false, false, false, false, false, false, false, false]) (fun w' => w'.cell? ⟨w1.heap.size, 0, none⟩ = some (.slice ua m.n l.cap) ∧ w'.cell? ⟨w1.heap.size, 1, none⟩ = some (.slice na m.n nc)) (by kernel_rfl) (by kernel_rfl) (by kernel_rfl) ?_
        refine hold_take (i := 0) (d := 24) (v := ?va0) (listed' := #[true, false, false, false, false, false, false, false, false, false, false, false, false, false, false, false, false, false, false, false, false, false, false, false, false, false]) rfl (by kernel_rfl) (by kernel_rfl) (by kernel_rfl) rfl (by rfl) (by kernel_rfl) K0 ?ha0 ?ra0
        case ha0 =>
          intro w' hSw
          obtain ⟨k0, k1⟩ := hSw
          go_simp
          try with_reducible rfl
        simp only [List.setIfInBounds_toArray, List.set_cons_zero, List.set_cons_succ]
        refine hold_take (i := 1) (d := 25) (v := ?va1) (listed' := #[true, true, false, false, false, false, false, false, false, false, false, false, false, false, false, false, false, false, false, false, false, false, false, false, false, false]) rfl (by kernel_rfl) (by kernel_rfl) (by kernel_rfl) rfl (by rfl) (by kernel_rfl) K0 ?ha1 ?ra1
        case ha1 =>
          intro w' hSw
          obtain ⟨k0, k1⟩ := hSw
          go_simp
          try with_reducible rfl
        simp only [List.setIfInBounds_toArray, List.set_cons_zero, List.set_cons_succ]
        refine hold_call (i := 2) (d := 26) (listed' := #[true, true, true, false, false, false, false, false, false, false, false, false, false, false, false, false, false, false, false, false, false, false, false, false, false, false]) rfl (by kernel_rfl) rfl (by rfl) (by kernel_rfl) ?hea2 (KeepsOk_any (nc := nc) Hd0.out.log) ?hca2
        case hea2 => go_simp
        rintro e x1 ⟨rfl, bb1⟩
        rw [HK.out]
        have Hd1 := Lib.hid (Hd0.out.step bb1)
        have K1 := (show _ ∧ _ from ⟨Hd1.out.box.c0, Hd1.out.box.c1⟩)
        clear Hd0 K0 bb1
        refine ⟨_, rfl, K1, ?_⟩
        simp only [List.setIfInBounds_toArray, List.set_cons_zero, List.set_cons_succ]
        refine hold_take (i := 3) (d := 27) (v := ?va3) (listed' := #[true, true, true, true, false, false, false, false, false, false, false, false, false, false, false, false, false, false, false, false, false, false, false, false, false, false]) rfl (by kernel_rfl) (by kernel_rfl) (by kernel_rfl) rfl (by rfl) (by kernel_rfl) K1 ?ha3 ?ra3
        case ha3 =>
          intro w' hSw
          obtain ⟨k0, k1⟩ := hSw
          go_simp
          try with_reducible rfl
        simp only [List.setIfInBounds_toArray, List.set_cons_zero, List.set_cons_succ]
        refine hold_skip (i := 4) (d := 28) (listed' := #[true, true, true, true, true, false, false, false, false, false, false, false, false, false, false, false, false, false, false, false, false, false, false, false, false, false]) rfl (by kernel_rfl) (by kernel_rfl) (by kernel_rfl) rfl (by rfl) (by kernel_rfl) K1 ?_
        simp only [List.setIfInBounds_toArray, List.set_cons_zero, List.set_cons_succ]
        refine hold_skip (i := 5) (d := 29) (listed' := #[true, true, true, true, true, true, false, false, false, false, false, false, false, false, false, false, false, false, false, false, false, false, false, false, false, false]) rfl (by kernel_rfl) (by kernel_rfl) (by kernel_rfl) rfl (by rfl) (by kernel_rfl) K1 ?_
        simp only [List.setIfInBounds_toArray, List.set_cons_zero, List.set_cons_succ]
        refine hold_skip (i := 6) (d := 30) (listed' := #[true, true, true, true, true, true, true, false, false, false, false, false, false, false, false, false, false, false, false, false, false, false, false, false, false, false]) rfl (by kernel_rfl) (by kernel_rfl) (by kernel_rfl) rfl (by rfl) (by kernel_rfl) K1 ?_
        simp only [List.setIfInBounds_toArray, List.set_cons_zero, List.set_cons_succ]
        refine hold_skip (i := 7) (d := 31) (listed' := #[true, true, true, true, true, true, true, true, false, false, false, false, false, false, false, false, false, false, false, false, false, false, false, false, false, false]) rfl (by kernel_rfl) (by kernel_rfl) (by kernel_rfl) rfl (by rfl) (by kernel_rfl) K1 ?_
        simp only [List.setIfInBounds_toArray, List.set_cons_zero, List.set_cons_succ]
        refine hold_take (i := 8) (d := 32) (v := ?va8) (listed' := #[true, true, true, true, true, true, true, true, true, false, false, false, false, false, false, false, false, false, false, false, false, false, false, false, false, false]) rfl (by kernel_rfl) (by kernel_rfl) (by kernel_rfl) rfl (by rfl) (by kernel_rfl) K1 ?ha8 ?ra8
        case ha8 =>
          intro w' hSw
          obtain ⟨k0, k1⟩ := hSw
          go_simp
          try with_reducible rfl
        simp only [List.setIfInBounds_toArray, List.set_cons_zero, List.set_cons_succ]
        refine hold_take (i := 9) (d := 33) (v := ?va9) (listed' := #[true, true, true, true, true, true, true, true, true, true, false, false, false, false, false, false, false, false, false, false, false, false, false, false, false, false]) rfl (by kernel_rfl) (by kernel_rfl) (by kernel_rfl) rfl (by rfl) (by kernel_rfl) K1 ?ha9 ?ra9
        case ha9 =>
          intro w' hSw
          obtain ⟨k0, k1⟩ := hSw
          go_simp
          try with_reducible rfl
        simp only [List.setIfInBounds_toArray, List.set_cons_zero, List.set_cons_succ]
        refine hold_take (i := 10) (d := 34) (v := ?va10) (listed' := #[true, true, true, true, true, true, true, true, true, true, true, false, false, false, false, false, false, false, false, false, false, false, false, false, false, false]) rfl (by kernel_rfl) (by kernel_rfl) (by kernel_rfl) rfl (by rfl) (by kernel_rfl) K1 ?ha10 ?ra10
        case ha10 =>
          intro w' hSw
          obtain ⟨k0, k1⟩ := hSw
          go_simp
          try with_reducible rfl
        simp only [List.setIfInBounds_toArray, List.set_cons_zero, List.set_cons_succ]
        refine hold_take (i := 11) (d := 35) (v := ?va11) (listed' := #[true, true, true, true, true, true, true, true, true, true, true, true, false, false, false, false, false, false, false, false, false, false, false, false, false, false]) rfl (by kernel_rfl) (by kernel_rfl) (by kernel_rfl) rfl (by rfl) (by kernel_rfl) K1 ?ha11 ?ra11
        case ha11 =>
          intro w' hSw
          obtain ⟨k0, k1⟩ := hSw
          go_simp
          try with_reducible rfl
        simp only [List.setIfInBounds_toArray, List.set_cons_zero, List.set_cons_succ]
        refine hold_take (i := 12) (d := 36) (v := ?va12) (listed' := #[true, true, true, true, true, true, true, true, true, true, true, true, true, false, false, false, false, false, false, false, false, false, false, false, false, false]) rfl (by kernel_rfl) (by kernel_rfl) (by kernel_rfl) rfl (by rfl) (by kernel_rfl) K1 ?ha12 ?ra12
        case ha12 =>
          intro w' hSw
          obtain ⟨k0, k1⟩ := hSw
          go_simp
          try with_reducible rfl
        simp only [List.setIfInBounds_toArray, List.set_cons_zero, List.set_cons_succ]
        refine hold_take (i := 13) (d := 37) (v := ?va13) (listed' := #[true, true, true, true, true, true, true, true, true, true, true, true, true, true, false, false, false, false, false, false, false, false, false, false, false, false]) rfl (by kernel_rfl) (by kernel_rfl) (by kernel_rfl) rfl (by rfl) (by kernel_rfl) K1 ?ha13 ?ra13
        case ha13 =>
          intro w' hSw
          obtain ⟨k0, k1⟩ := hSw
          go_simp
          try with_reducible rfl
        simp only [List.setIfInBounds_toArray, List.set_cons_zero, List.set_cons_succ]
        refine hold_skip (i := 14) (d := 38) (listed' := #[true, true, true, true, true, true, true, true, true, true, true, true, true, true, true, false, false, false, false, false, false, false, false, false, false, false]) rfl (by kernel_rfl) (by kernel_rfl) (by kernel_rfl) rfl (by rfl) (by kernel_rfl) K1 ?_
        simp only [List.setIfInBounds_toArray, List.set_cons_zero, List.set_cons_succ]
        refine hold_skip (i := 15) (d := 39) (listed' := #[true, true, true, true, true, true, true, true, true, true, true, true, true, true, true, true, false, false, false, false, false, false, false, false, false, false]) rfl (by kernel_rfl) (by kernel_rfl) (by kernel_rfl) rfl (by rfl) (by kernel_rfl) K1 ?_
        simp only [List.setIfInBounds_toArray, List.set_cons_zero, List.set_cons_succ]
        refine hold_skip (i := 16) (d := 40) (listed' := #[true, true, true, true, true, true, true, true, true, true, true, true, true, true, true, true, true, false, false, false, false, false, false, false, false, false]) rfl (by kernel_rfl) (by kernel_rfl) (by kernel_rfl) rfl (by rfl) (by kernel_rfl) K1 ?_
        simp only [List.setIfInBounds_toArray, List.set_cons_zero, List.set_cons_succ]
        refine hold_skip (i := 17) (d := 41) (listed' := #[true, true, true, true, true, true, true, true, true, true, true, true, true, true, true, true, true, true, false, false, false, false, false, false, false, false]) rfl (by kernel_rfl) (by kernel_rfl) (by kernel_rfl) rfl (by rfl) (by kernel_rfl) K1 ?_
        simp only [List.setIfInBounds_toArray, List.set_cons_zero, List.set_cons_succ]
        refine hold_skip (i := 18) (d := 42) (listed' := #[true, true, true, true, true, true, true, true, true, true, true, true, true, true, true, true, true, true, true, false, false, false, false, false, false, false]) rfl (by kernel_rfl) (by kernel_rfl) (by kernel_rfl) rfl (by rfl) (by kernel_rfl) K1 ?_
        simp only [List.setIfInBounds_toArray, List.set_cons_zero, List.set_cons_succ]
        refine hold_skip (i := 19) (d := 43) (listed' := #[true, true, true, true, true, true, true, true, true, true, true, true, true, true, true, true, true, true, true, true, false, false, false, false, false, false]) rfl (by kernel_rfl) (by kernel_rfl) (by kernel_rfl) rfl (by rfl) (by kernel_rfl) K1 ?_
        simp only [List.setIfInBounds_toArray, List.set_cons_zero, List.set_cons_succ]
        refine hold_skip (i := 20) (d := 44) (listed' := #[true, true, true, true, true, true, true, true, true, true, true, true, true, true, true, true, true, true, true, true, true, false, false, false, false, false]) rfl (by kernel_rfl) (by kernel_rfl) (by kernel_rfl) rfl (by rfl) (by kernel_rfl) K1 ?_
        simp only [List.setIfInBounds_toArray, List.set_cons_zero, List.set_cons_succ]
        refine hold_skip (i := 21) (d := 45) (listed' := #[true, true, true, true, true, true, true, true, true, true, true, true, true, true, true, true, true, true, true, true, true, true, false, false, false, false]) rfl (by kernel_rfl) (by kernel_rfl) (by kernel_rfl) rfl (by rfl) (by kernel_rfl) K1 ?_
        simp only [List.setIfInBounds_toArray, List.set_cons_zero, List.set_cons_succ]
        refine hold_skip (i := 22) (d := 46) (listed' := #[true, true, true, true, true, true, true, true, true, true, true, true, true, true, true, true, true, true, true, true, true, true, true, false, false, false]) rfl (by kernel_rfl) (by kernel_rfl) (by kernel_rfl) rfl (by rfl) (by kernel_rfl) K1 ?_
        simp only [List.setIfInBounds_toArray, List.set_cons_zero, List.set_cons_succ]
        refine hold_take (i := 23) (d := 47) (v := ?va23) (listed' := #[true, true, true, true, true, true, true, true, true, true, true, true, true, true, true, true, true, true, true, true, true, true, true, true, false, false]) rfl (by kernel_rfl) (by kernel_rfl) (by kernel_rfl) rfl (by rfl) (by kernel_rfl) K1 ?ha23 ?ra23
        case ha23 =>
          intro w' hSw
          obtain ⟨k0, k1⟩ := hSw
          go_simp
          try with_reducible rfl
        simp only [List.setIfInBounds_toArray, List.set_cons_zero, List.set_cons_succ]
        refine hold_take (i := 24) (d := 48) (v := ?va24) (listed' := #[true, true, true, true, true, true, true, true, true, true, true, true, true, true, true, true, true, true, true, true, true, true, true, true, true, false]) rfl (by kernel_rfl) (by kernel_rfl) (by kernel_rfl) rfl (by rfl) (by kernel_rfl) K1 ?ha24 ?ra24
        case ha24 =>
          intro w' hSw
          obtain ⟨k0, k1⟩ := hSw
          go_simp
          try with_reducible rfl
        simp only [List.setIfInBounds_toArray, List.set_cons_zero, List.set_cons_succ]
        refine hold_take (i := 25) (d := 2) (v := ?va25) (listed' := #[true, true, true, true, true, true, true, true, true, true, true, true, true, true, true, true, true, true, true, true, true, true, true, true, true, true]) rfl (by kernel_rfl) (by kernel_rfl) (by kernel_rfl) rfl (by rfl) (by kernel_rfl) K1 ?ha25 ?ra25
        case ha25 =>
          intro w' hSw
          obtain ⟨k0, k1⟩ := hSw
          go_simp
          try with_reducible rfl
        simp only [List.setIfInBounds_toArray, List.set_cons_zero, List.set_cons_succ]
        refine hold_done (by kernel_rfl) ?_ _
        go_wp2_with fail
        go_ret
        exact ⟨rfl, Hd1.out.old⟩
      | true =>
        rw [Bool.true_and] at f1
        cases bv with
        | false =>
          obtain ⟨q, hq⟩ : ∃ q, (blocksV m m.n zz).length = q := ⟨_, rfl⟩
          rw [hq] at f1
          have HQ := Lib.hid hq
          have e0 : ¬ q = 1 := of_decide_eq_false f1.symm
          have e1 : ((q : Int) == 1) = false := by rw [beq_eq_false_iff_ne]; omega
          have e2 : ¬ (q : Int) = 1 := by omega
          clear f1 f4 hq
          go_wp2_with fail
          have Hd0 := Lib.hid (H4.step (Below.refl _ w4).drew)
          have K0 := (show _ ∧ _ from ⟨Hd0.out.box.c0, Hd0.out.box.c1⟩)
          clear H4 q0 q1
          refine region_plain (fuel := 26) (listed := #[false, false, false, false, false, false, false, false, false, false, false, false, false, false, false, false, false, false, false, false, false, false, false, false, false, false]) (fun w' => w'.cell? ⟨w1.heap.size, 0, none⟩ = some (.slice ua m.n l.cap) ∧ w'.cell? ⟨w1.heap.size, 1, none⟩ = some (.slice na m.n nc)) (by kernel_rfl) (by kernel_rfl) (by kernel_rfl) ?_
          refine hold_take (i := 0) (d := 24) (v := ?vb0) (listed' := #[true, false, false, false, false, false, false, false, false, false, false, false, false, false, false, false, false, false, false, false, false, false, false, false, false, false]) rfl (by kernel_rfl) (by kernel_rfl) (by kernel_rfl) rfl (by rfl) (by kernel_rfl) K0 ?hb0 ?rb0
          case hb0 =>
            intro w' hSw
            obtain ⟨k0, k1⟩ := hSw
            go_simp
            try with_reducible rfl
          simp only [List.setIfInBounds_toArray, List.set_cons_zero, List.set_cons_succ]
          refine hold_take (i := 1) (d := 25) (v := ?vb1) (listed' := #[true, true, false, false, false, false, false, false, false, false, false, false, false, false, false, false, false, false, false, false, false, false, false, false, false, false]) rfl (by kernel_rfl) (by kernel_rfl) (by kernel_rfl) rfl (by rfl) (by kernel_rfl) K0 ?hb1 ?rb1
          case hb1 =>
            intro w' hSw
            obtain ⟨k0, k1⟩ := hSw
            go_simp
            try with_reducible rfl
          simp only [List.setIfInBounds_toArray, List.set_cons_zero, List.set_cons_succ]
          refine hold_call (i := 2) (d := 26) (listed' := #[true, true, true, false, false, false, false, false, false, false, false, false, false, false, false, false, false, false, false, false, false, false, false, false, false, false]) rfl (by kernel_rfl) rfl (by rfl) (by kernel_rfl) ?heb2 (KeepsOk_any (nc := nc) Hd0.out.log) ?hcb2
          case heb2 => go_simp
          rintro e x1 ⟨rfl, bb1⟩
          rw [HK.out]
          have Hd1 := Lib.hid (Hd0.out.step bb1)
          have K1 := (show _ ∧ _ from ⟨Hd1.out.box.c0, Hd1.out.box.c1⟩)
          clear Hd0 K0 bb1
          refine ⟨_, rfl, K1, ?_⟩
          simp only [List.setIfInBounds_toArray, List.set_cons_zero, List.set_cons_succ]
          refine hold_take (i := 3) (d := 27) (v := ?vb3) (listed' := #[true, true, true, true, false, false, false, false, false, false, false, false, false, false, false, false, false, false, false, false, false, false, false, false, false, false]) rfl (by kernel_rfl) (by kernel_rfl) (by kernel_rfl) rfl (by rfl) (by kernel_rfl) K1 ?hb3 ?rb3
          case hb3 =>
            intro w' hSw
            obtain ⟨k0, k1⟩ := hSw
            go_simp
            try with_reducible rfl
          simp only [List.setIfInBounds_toArray, List.set_cons_zero, List.set_cons_succ]
          refine hold_take (i := 4) (d := 28) (v := ?vb4) (listed' := #[true, true, true, true, true, false, false, false, false, false, false, false, false, false, false, false, false, false, false, false, false, false, false, false, false, false]) rfl (by kernel_rfl) (by kernel_rfl) (by kernel_rfl) rfl (by rfl) (by kernel_rfl) K1 ?hb4 ?rb4
          case hb4 =>
            intro w' hSw
            obtain ⟨k0, k1⟩ := hSw
            go_simp
            try with_reducible rfl
          simp only [List.setIfInBounds_toArray, List.set_cons_zero, List.set_cons_succ]
          refine hold_call (i := 5) (d := 29) (listed' := #[true, true, true, true, true, true, false, false, false, false, false, false, false, false, false, false, false, false, false, false, false, false, false, false, false, false]) rfl (by kernel_rfl) rfl (by rfl) (by kernel_rfl) ?heb5 (BlocksOf_any (nc := nc) Hd1.out.log (HT.out.step Hd1.out.old HT.out.size)) ?hcb5
          case heb5 => go_simp
          rintro e x2 ⟨v2, rfl, hL2, bb2⟩
          obtain ⟨a2, c2, rfl⟩ := list_shape hL2
          rw [HQ.out]
          clear hL2
          have Hd2 := Lib.hid (Hd1.out.step bb2)
          have K2 := (show _ ∧ _ from ⟨Hd2.out.box.c0, Hd2.out.box.c1⟩)
          clear Hd1 K1 bb2
          refine ⟨_, rfl, K2, ?_⟩
          simp only [List.setIfInBounds_toArray, List.set_cons_zero, List.set_cons_succ]
          refine hold_take (i := 6) (d := 30) (v := ?vb6) (listed' := #[true, true, true, true, true, true, true, false, false, false, false, false, false, false, false, false, false, false, false, false, false, false, false, false, false, false]) rfl (by kernel_rfl) (by kernel_rfl) (by kernel_rfl) rfl (by rfl) (by kernel_rfl) K2 ?hb6 ?rb6
          case hb6 =>
            intro w' hSw
            obtain ⟨k0, k1⟩ := hSw
            go_simp
            try with_reducible rfl
          simp only [List.setIfInBounds_toArray, List.set_cons_zero, List.set_cons_succ]
          refine hold_take (i := 7) (d := 31) (v := ?vb7) (listed' := #[true, true, true, true, true, true, true, true, false, false, false, false, false, false, false, false, false, false, false, false, false, false, false, false, false, false]) rfl (by kernel_rfl) (by kernel_rfl) (by kernel_rfl) rfl (by rfl) (by kernel_rfl) K2 ?hb7 ?rb7
          case hb7 =>
            intro w' hSw
            obtain ⟨k0, k1⟩ := hSw
            go_simp
            try with_reducible rfl
          simp only [List.setIfInBounds_toArray, List.set_cons_zero, List.set_cons_succ]
          refine hold_take (i := 8) (d := 32) (v := ?vb8) (listed' := #[true, true, true, true, true, true, true, true, true, false, false, false, false, false, false, false, false, false, false, false, false, false, false, false, false, false]) rfl (by kernel_rfl) (by kernel_rfl) (by kernel_rfl) rfl (by rfl) (by kernel_rfl) K2 ?hb8 ?rb8
          case hb8 =>
            intro w' hSw
            obtain ⟨k0, k1⟩ := hSw
            go_simp
            try with_reducible rfl
          simp only [List.setIfInBounds_toArray, List.set_cons_zero, List.set_cons_succ]
          refine hold_take (i := 9) (d := 33) (v := ?vb9) (listed' := #[true, true, true, true, true, true, true, true, true, true, false, false, false, false, false, false, false, false, false, false, false, false, false, false, false, false]) rfl (by kernel_rfl) (by kernel_rfl) (by kernel_rfl) rfl (by rfl) (by kernel_rfl) K2 ?hb9 ?rb9
          case hb9 =>
            intro w' hSw
            obtain ⟨k0, k1⟩ := hSw
            go_simp
            try with_reducible rfl
          simp only [List.setIfInBounds_toArray, List.set_cons_zero, List.set_cons_succ]
          refine hold_take (i := 10) (d := 34) (v := ?vb10) (listed' := #[true, true, true, true, true, true, true, true, true, true, true, false, false, false, false, false, false, false, false, false, false, false, false, false, false, false]) rfl (by kernel_rfl) (by kernel_rfl) (by kernel_rfl) rfl (by rfl) (by kernel_rfl) K2 ?hb10 ?rb10
          case hb10 =>
            intro w' hSw
            obtain ⟨k0, k1⟩ := hSw
            go_simp
            try with_reducible rfl
          simp only [List.setIfInBounds_toArray, List.set_cons_zero, List.set_cons_succ]
          refine hold_take (i := 11) (d := 35) (v := ?vb11) (listed' := #[true, true, true, true, true, true, true, true, true, true, true, true, false, false, false, false, false, false, false, false, false, false, false, false, false, false]) rfl (by kernel_rfl) (by kernel_rfl) (by kernel_rfl) rfl (by rfl) (by kernel_rfl) K2 ?hb11 ?rb11
          case hb11 =>
            intro w' hSw
            obtain ⟨k0, k1⟩ := hSw
            go_simp
            try with_reducible rfl
          simp only [List.setIfInBounds_toArray, List.set_cons_zero, List.set_cons_succ]
          refine hold_take (i := 12) (d := 36) (v := ?vb12) (listed' := #[true, true, true, true, true, true, true, true, true, true, true, true, true, false, false, false, false, false, false, false, false, false, false, false, false, false]) rfl (by kernel_rfl) (by kernel_rfl) (by kernel_rfl) rfl (by rfl) (by kernel_rfl) K2 ?hb12 ?rb12
          case hb12 =>
            intro w' hSw
            obtain ⟨k0, k1⟩ := hSw
            go_simp
            try with_reducible rfl
          simp only [List.setIfInBounds_toArray, List.set_cons_zero, List.set_cons_succ]
          refine hold_take (i := 13) (d := 37) (v := ?vb13) (listed' := #[true, true, true, true, true, true, true, true, true, true, true, true, true, true, false, false, false, false, false, false, false, false, false, false, false, false]) rfl (by kernel_rfl) (by kernel_rfl) (by kernel_rfl) rfl (by rfl) (by kernel_rfl) K2 ?hb13 ?rb13
          case hb13 =>
            intro w' hSw
            obtain ⟨k0, k1⟩ := hSw
            go_simp
            try with_reducible rfl
          simp only [List.setIfInBounds_toArray, List.set_cons_zero, List.set_cons_succ]
          refine hold_skip (i := 14) (d := 38) (listed' := #[true, true, true, true, true, true, true, true, true, true, true, true, true, true, true, false, false, false, false, false, false, false, false, false, false, false]) rfl (by kernel_rfl) (by kernel_rfl) (by kernel_rfl) rfl (by rfl) (by kernel_rfl) K2 ?_
          simp only [List.setIfInBounds_toArray, List.set_cons_zero, List.set_cons_succ]
          refine hold_skip (i := 15) (d := 39) (listed' := #[true, true, true, true, true, true, true, true, true, true, true, true, true, true, true, true, false, false, false, false, false, false, false, false, false, false]) rfl (by kernel_rfl) (by kernel_rfl) (by kernel_rfl) rfl (by rfl) (by kernel_rfl) K2 ?_
          simp only [List.setIfInBounds_toArray, List.set_cons_zero, List.set_cons_succ]
          refine hold_skip (i := 16) (d := 40) (listed' := #[true, true, true, true, true, true, true, true, true, true, true, true, true, true, true, true, true, false, false, false, false, false, false, false, false, false]) rfl (by kernel_rfl) (by kernel_rfl) (by kernel_rfl) rfl (by rfl) (by kernel_rfl) K2 ?_
          simp only [List.setIfInBounds_toArray, List.set_cons_zero, List.set_cons_succ]
          refine hold_skip (i := 17) (d := 41) (listed' := #[true, true, true, true, true, true, true, true, true, true, true, true, true, true, true, true, true, true, false, false, false, false, false, false, false, false]) rfl (by kernel_rfl) (by kernel_rfl) (by kernel_rfl) rfl (by rfl) (by kernel_rfl) K2 ?_
          simp only [List.setIfInBounds_toArray, List.set_cons_zero, List.set_cons_succ]
          refine hold_skip (i := 18) (d := 42) (listed' := #[true, true, true, true, true, true, true, true, true, true, true, true, true, true, true, true, true, true, true, false, false, false, false, false, false, false]) rfl (by kernel_rfl) (by kernel_rfl) (by kernel_rfl) rfl (by rfl) (by kernel_rfl) K2 ?_
          simp only [List.setIfInBounds_toArray, List.set_cons_zero, List.set_cons_succ]
          refine hold_skip (i := 19) (d := 43) (listed' := #[true, true, true, true, true, true, true, true, true, true, true, true, true, true, true, true, true, true, true, true, false, false, false, false, false, false]) rfl (by kernel_rfl) (by kernel_rfl) (by kernel_rfl) rfl (by rfl) (by kernel_rfl) K2 ?_
          simp only [List.setIfInBounds_toArray, List.set_cons_zero, List.set_cons_succ]
          refine hold_skip (i := 20) (d := 44) (listed' := #[true, true, true, true, true, true, true, true, true, true, true, true, true, true, true, true, true, true, true, true, true, false, false, false, false, false]) rfl (by kernel_rfl) (by kernel_rfl) (by kernel_rfl) rfl (by rfl) (by kernel_rfl) K2 ?_
          simp only [List.setIfInBounds_toArray, List.set_cons_zero, List.set_cons_succ]
          refine hold_skip (i := 21) (d := 45) (listed' := #[true, true, true, true, true, true, true, true, true, true, true, true, true, true, true, true, true, true, true, true, true, true, false, false, false, false]) rfl (by kernel_rfl) (by kernel_rfl) (by kernel_rfl) rfl (by rfl) (by kernel_rfl) K2 ?_
          simp only [List.setIfInBounds_toArray, List.set_cons_zero, List.set_cons_succ]
          refine hold_skip (i := 22) (d := 46) (listed' := #[true, true, true, true, true, true, true, true, true, true, true, true, true, true, true, true, true, true, true, true, true, true, true, false, false, false]) rfl (by kernel_rfl) (by kernel_rfl) (by kernel_rfl) rfl (by rfl) (by kernel_rfl) K2 ?_
          simp only [List.setIfInBounds_toArray, List.set_cons_zero, List.set_cons_succ]
          refine hold_take (i := 23) (d := 47) (v := ?vb23) (listed' := #[true, true, true, true, true, true, true, true, true, true, true, true, true, true, true, true, true, true, true, true, true, true, true, true, false, false]) rfl (by kernel_rfl) (by kernel_rfl) (by kernel_rfl) rfl (by rfl) (by kernel_rfl) K2 ?hb23 ?rb23
          case hb23 =>
            intro w' hSw
            obtain ⟨k0, k1⟩ := hSw
            go_simp
            try with_reducible rfl
          simp only [List.setIfInBounds_toArray, List.set_cons_zero, List.set_cons_succ]
          refine hold_take (i := 24) (d := 48) (v := ?vb24) (listed' := #[true, true, true, true, true, true, true, true, true, true, true, true, true, true, true, true, true, true, true, true, true, true, true, true, true, false]) rfl (by kernel_rfl) (by kernel_rfl) (by kernel_rfl) rfl (by rfl) (by kernel_rfl) K2 ?hb24 ?rb24
          case hb24 =>
            intro w' hSw
            obtain ⟨k0, k1⟩ := hSw
            go_simp
            try with_reducible rfl
          simp only [List.setIfInBounds_toArray, List.set_cons_zero, List.set_cons_succ]
          refine hold_take (i := 25) (d := 2) (v := ?vb25) (listed' := #[true, true, true, true, true, true, true, true, true, true, true, true, true, true, true, true, true, true, true, true, true, true, true, true, true, true]) rfl (by kernel_rfl) (by kernel_rfl) (by kernel_rfl) rfl (by rfl) (by kernel_rfl) K2 ?hb25 ?rb25
          case hb25 =>
            intro w' hSw
            obtain ⟨k0, k1⟩ := hSw
            go_simp
            try with_reducible rfl
          simp only [List.setIfInBounds_toArray, List.set_cons_zero, List.set_cons_succ]
          refine hold_done (by kernel_rfl) ?_ _
          go_wp2_with fail
          go_ret
          exact ⟨rfl, Hd2.out.old⟩
        | true =>
          have hq : (blocksV m m.n zz).length = 1 := of_decide_eq_true f1.symm
          have HQ := Lib.hid hq
          clear hq
          have e2 := f4 rfl
          have c64 : (c : Int) ≤ 64 := by omega
          have c63 : (c : Int) < 64 := by omega
          have e3 : ((m.n : Int) == IntKind.i64.wrap (2 ^ c)) = true := by rw [one_wrap (by omega), ← e2]; simp
          have e4 : ((m.n : Int) == IntKind.i64.wrap (2 ^ min c 64)) = true := by rw [Nat.min_eq_left (by omega)]; exact e3
          clear f1 f4 e2
          go_wp2_with fail
          have Hd0 := Lib.hid (H4.step (Below.refl _ w4).drew)
          have K0 := (show _ ∧ _ from ⟨Hd0.out.box.c0, Hd0.out.box.c1⟩)
          clear H4 q0 q1
          refine region_plain (fuel := 26) (listed := #[false, false, false, false, false, false, false, false, false, false, false, false, false, false, false, false, false, false, false, false, false, false, false, false, false, false]) (fun w' => w'.cell? ⟨w1.heap.size, 0, none⟩ = some (.slice ua m.n l.cap) ∧ w'.cell? ⟨w1.heap.size, 1, none⟩ = some (.slice na m.n nc)) (by kernel_rfl) (by kernel_rfl) (by kernel_rfl) ?_
          refine hold_take (i := 0) (d := 24) (v := ?vc0) (listed' := #[true, false, false, false, false, false, false, false, false, false, false, false, false, false, false, false, false, false, false, false, false, false, false, false, false, false]) rfl (by kernel_rfl) (by kernel_rfl) (by kernel_rfl) rfl (by rfl) (by kernel_rfl) K0 ?hc0 ?rc0
          case hc0 =>
            intro w' hSw
            obtain ⟨k0, k1⟩ := hSw
            go_simp
            try with_reducible rfl
          simp only [List.setIfInBounds_toArray, List.set_cons_zero, List.set_cons_succ]
          refine hold_take (i := 1) (d := 25) (v := ?vc1) (listed' := #[true, true, false, false, false, false, false, false, false, false, false, false, false, false, false, false, false, false, false, false, false, false, false, false, false, false]) rfl (by kernel_rfl) (by kernel_rfl) (by kernel_rfl) rfl (by rfl) (by kernel_rfl) K0 ?hc1 ?rc1
          case hc1 =>
            intro w' hSw
            obtain ⟨k0, k1⟩ := hSw
            go_simp
            try with_reducible rfl
          simp only [List.setIfInBounds_toArray, List.set_cons_zero, List.set_cons_succ]
          refine hold_call (i := 2) (d := 26) (listed' := #[true, true, true, false, false, false, false, false, false, false, false, false, false, false, false, false, false, false, false, false, false, false, false, false, false, false]) rfl (by kernel_rfl) rfl (by rfl) (by kernel_rfl) ?hec2 (KeepsOk_any (nc := nc) Hd0.out.log) ?hcc2
          case hec2 => go_simp
          rintro e x1 ⟨rfl, bb1⟩
          rw [HK.out]
          have Hd1 := Lib.hid (Hd0.out.step bb1)
          have K1 := (show _ ∧ _ from ⟨Hd1.out.box.c0, Hd1.out.box.c1⟩)
          clear Hd0 K0 bb1
          refine ⟨_, rfl, K1, ?_⟩
          simp only [List.setIfInBounds_toArray, List.set_cons_zero, List.set_cons_succ]
          refine hold_take (i := 3) (d := 27) (v := ?vc3) (listed' := #[true, true, true, true, false, false, false, false, false, false, false, false, false, false, false, false, false, false, false, false, false, false, false, false, false, false]) rfl (by kernel_rfl) (by kernel_rfl) (by kernel_rfl) rfl (by rfl) (by kernel_rfl) K1 ?hc3 ?rc3
          case hc3 =>
            intro w' hSw
            obtain ⟨k0, k1⟩ := hSw
            go_simp
            try with_reducible rfl
          simp only [List.setIfInBounds_toArray, List.set_cons_zero, List.set_cons_succ]
          refine hold_take (i := 4) (d := 28) (v := ?vc4) (listed' := #[true, true, true, true, true, false, false, false, false, false, false, false, false, false, false, false, false, false, false, false, false, false, false, false, false, false]) rfl (by kernel_rfl) (by kernel_rfl) (by kernel_rfl) rfl (by rfl) (by kernel_rfl) K1 ?hc4 ?rc4
          case hc4 =>
            intro w' hSw
            obtain ⟨k0, k1⟩ := hSw
            go_simp
            try with_reducible rfl
          simp only [List.setIfInBounds_toArray, List.set_cons_zero, List.set_cons_succ]
          refine hold_call (i := 5) (d := 29) (listed' := #[true, true, true, true, true, true, false, false, false, false, false, false, false, false, false, false, false, false, false, false, false, false, false, false, false, false]) rfl (by kernel_rfl) rfl (by rfl) (by kernel_rfl) ?hec5 (BlocksOf_any (nc := nc) Hd1.out.log (HT.out.step Hd1.out.old HT.out.size)) ?hcc5
          case hec5 => go_simp
          rintro e x2 ⟨v2, rfl, hL2, bb2⟩
          obtain ⟨a2, c2, rfl⟩ := list_shape hL2
          rw [HQ.out]
          clear hL2
          have Hd2 := Lib.hid (Hd1.out.step bb2)
          have K2 := (show _ ∧ _ from ⟨Hd2.out.box.c0, Hd2.out.box.c1⟩)
          clear Hd1 K1 bb2
          refine ⟨_, rfl, K2, ?_⟩
          simp only [List.setIfInBounds_toArray, List.set_cons_zero, List.set_cons_succ]
          refine hold_take (i := 6) (d := 30) (v := ?vc6) (listed' := #[true, true, true, true, true, true, true, false, false, false, false, false, false, false, false, false, false, false, false, false, false, false, false, false, false, false]) rfl (by kernel_rfl) (by kernel_rfl) (by kernel_rfl) rfl (by rfl) (by kernel_rfl) K2 ?hc6 ?rc6
          case hc6 =>
            intro w' hSw
            obtain ⟨k0, k1⟩ := hSw
            go_simp
            try with_reducible rfl
          simp only [List.setIfInBounds_toArray, List.set_cons_zero, List.set_cons_succ]
          refine hold_take (i := 7) (d := 31) (v := ?vc7) (listed' := #[true, true, true, true, true, true, true, true, false, false, false, false, false, false, false, false, false, false, false, false, false, false, false, false, false, false]) rfl (by kernel_rfl) (by kernel_rfl) (by kernel_rfl) rfl (by rfl) (by kernel_rfl) K2 ?hc7 ?rc7
          case hc7 =>
            intro w' hSw
            obtain ⟨k0, k1⟩ := hSw
            go_simp
            try with_reducible rfl
          simp only [List.setIfInBounds_toArray, List.set_cons_zero, List.set_cons_succ]
          refine hold_take (i := 8) (d := 32) (v := ?vc8) (listed' := #[true, true, true, true, true, true, true, true, true, false, false, false, false, false, false, false, false, false, false, false, false, false, false, false, false, false]) rfl (by kernel_rfl) (by kernel_rfl) (by kernel_rfl) rfl (by rfl) (by kernel_rfl) K2 ?hc8 ?rc8
          case hc8 =>
            intro w' hSw
            obtain ⟨k0, k1⟩ := hSw
            go_simp
            try with_reducible rfl
          simp only [List.setIfInBounds_toArray, List.set_cons_zero, List.set_cons_succ]
          refine hold_take (i := 9) (d := 33) (v := ?vc9) (listed' := #[true, true, true, true, true, true, true, true, true, true, false, false, false, false, false, false, false, false, false, false, false, false, false, false, false, false]) rfl (by kernel_rfl) (by kernel_rfl) (by kernel_rfl) rfl (by rfl) (by kernel_rfl) K2 ?hc9 ?rc9
          case hc9 =>
            intro w' hSw
            obtain ⟨k0, k1⟩ := hSw
            go_simp
            try with_reducible rfl
          simp only [List.setIfInBounds_toArray, List.set_cons_zero, List.set_cons_succ]
          refine hold_take (i := 10) (d := 34) (v := ?vc10) (listed' := #[true, true, true, true, true, true, true, true, true, true, true, false, false, false, false, false, false, false, false, false, false, false, false, false, false, false]) rfl (by kernel_rfl) (by kernel_rfl) (by kernel_rfl) rfl (by rfl) (by kernel_rfl) K2 ?hc10 ?rc10
          case hc10 =>
            intro w' hSw
            obtain ⟨k0, k1⟩ := hSw
            go_simp
            try with_reducible rfl
          simp only [List.setIfInBounds_toArray, List.set_cons_zero, List.set_cons_succ]
          refine hold_take (i := 11) (d := 35) (v := ?vc11) (listed' := #[true, true, true, true, true, true, true, true, true, true, true, true, false, false, false, false, false, false, false, false, false, false, false, false, false, false]) rfl (by kernel_rfl) (by kernel_rfl) (by kernel_rfl) rfl (by rfl) (by kernel_rfl) K2 ?hc11 ?rc11
          case hc11 =>
            intro w' hSw
            obtain ⟨k0, k1⟩ := hSw
            go_simp
            try with_reducible rfl
          simp only [List.setIfInBounds_toArray, List.set_cons_zero, List.set_cons_succ]
          refine hold_take (i := 12) (d := 36) (v := ?vc12) (listed' := #[true, true, true, true, true, true, true, true, true, true, true, true, true, false, false, false, false, false, false, false, false, false, false, false, false, false]) rfl (by kernel_rfl) (by kernel_rfl) (by kernel_rfl) rfl (by rfl) (by kernel_rfl) K2 ?hc12 ?rc12
          case hc12 =>
            intro w' hSw
            obtain ⟨k0, k1⟩ := hSw
            go_simp
            try with_reducible rfl
          simp only [List.setIfInBounds_toArray, List.set_cons_zero, List.set_cons_succ]
          refine hold_take (i := 13) (d := 37) (v := ?vc13) (listed' := #[true, true, true, true, true, true, true, true, true, true, true, true, true, true, false, false, false, false, false, false, false, false, false, false, false, false]) rfl (by kernel_rfl) (by kernel_rfl) (by kernel_rfl) rfl (by rfl) (by kernel_rfl) K2 ?hc13 ?rc13
          case hc13 =>
            intro w' hSw
            obtain ⟨k0, k1⟩ := hSw
            go_simp
            try with_reducible rfl
          simp only [List.setIfInBounds_toArray, List.set_cons_zero, List.set_cons_succ]
          refine hold_take (i := 14) (d := 38) (v := ?vc14) (listed' := #[true, true, true, true, true, true, true, true, true, true, true, true, true, true, true, false, false, false, false, false, false, false, false, false, false, false]) rfl (by kernel_rfl) (by kernel_rfl) (by kernel_rfl) rfl (by rfl) (by kernel_rfl) K2 ?hc14 ?rc14
          case hc14 =>
            intro w' hSw
            obtain ⟨k0, k1⟩ := hSw
            go_simp
            try with_reducible rfl
          simp only [List.setIfInBounds_toArray, List.set_cons_zero, List.set_cons_succ]
          refine hold_take (i := 15) (d := 39) (v := ?vc15) (listed' := #[true, true, true, true, true, true, true, true, true, true, true, true, true, true, true, true, false, false, false, false, false, false, false, false, false, false]) rfl (by kernel_rfl) (by kernel_rfl) (by kernel_rfl) rfl (by rfl) (by kernel_rfl) K2 ?hc15 ?rc15
          case hc15 =>
            intro w' hSw
            obtain ⟨k0, k1⟩ := hSw
            go_simp
            try with_reducible rfl
          simp only [List.setIfInBounds_toArray, List.set_cons_zero, List.set_cons_succ]
          refine hold_take (i := 16) (d := 40) (v := ?vc16) (listed' := #[true, true, true, true, true, true, true, true, true, true, true, true, true, true, true, true, true, false, false, false, false, false, false, false, false, false]) rfl (by kernel_rfl) (by kernel_rfl) (by kernel_rfl) rfl (by rfl) (by kernel_rfl) K2 ?hc16 ?rc16
          case hc16 =>
            intro w' hSw
            obtain ⟨k0, k1⟩ := hSw
            go_simp
            try with_reducible rfl
          simp only [List.setIfInBounds_toArray, List.set_cons_zero, List.set_cons_succ]
          refine hold_take (i := 17) (d := 41) (v := ?vc17) (listed' := #[true, true, true, true, true, true, true, true, true, true, true, true, true, true, true, true, true, true, false, false, false, false, false, false, false, false]) rfl (by kernel_rfl) (by kernel_rfl) (by kernel_rfl) rfl (by rfl) (by kernel_rfl) K2 ?hc17 ?rc17
          case hc17 =>
            intro w' hSw
            obtain ⟨k0, k1⟩ := hSw
            go_simp
            try with_reducible rfl
          simp only [List.setIfInBounds_toArray, List.set_cons_zero, List.set_cons_succ]
          refine hold_take (i := 18) (d := 42) (v := ?vc18) (listed' := #[true, true, true, true, true, true, true, true, true, true, true, true, true, true, true, true, true, true, true, false, false, false, false, false, false, false]) rfl (by kernel_rfl) (by kernel_rfl) (by kernel_rfl) rfl (by rfl) (by kernel_rfl) K2 ?hc18 ?rc18
          case hc18 =>
            intro w' hSw
            obtain ⟨k0, k1⟩ := hSw
            go_simp
            try with_reducible rfl
          simp only [List.setIfInBounds_toArray, List.set_cons_zero, List.set_cons_succ]
          refine hold_call (i := 19) (d := 43) (listed' := #[true, true, true, true, true, true, true, true, true, true, true, true, true, true, true, true, true, true, true, true, false, false, false, false, false, false]) rfl (by kernel_rfl) rfl (by rfl) (by kernel_rfl) ?hec19 (AtomsOf_len (k := c) Hd2.out.log.hn Hd2.out.log.hL Hd2.out.log.mat Hd2.out.log.hB HC.out) ?hcc19
          case hec19 => go_simp
          rintro e x3 ⟨a3, c3, rfl, bb3⟩
          have Hd3 := Lib.hid (Hd2.out.step bb3)
          have K3 := (show _ ∧ _ from ⟨Hd3.out.box.c0, Hd3.out.box.c1⟩)
          clear Hd2 K2 bb3
          refine ⟨_, rfl, K3, ?_⟩
          simp only [List.setIfInBounds_toArray, List.set_cons_zero, List.set_cons_succ]
          refine hold_take (i := 20) (d := 44) (v := ?vc20) (listed' := #[true, true, true, true, true, true, true, true, true, true, true, true, true, true, true, true, true, true, true, true, true, false, false, false, false, false]) rfl (by kernel_rfl) (by kernel_rfl) (by kernel_rfl) rfl (by rfl) (by kernel_rfl) K3 ?hc20 ?rc20
          case hc20 =>
            intro w' hSw
            obtain ⟨k0, k1⟩ := hSw
            go_simp
            try with_reducible rfl
          simp only [List.setIfInBounds_toArray, List.set_cons_zero, List.set_cons_succ]
          refine hold_take (i := 21) (d := 45) (v := ?vc21) (listed' := #[true, true, true, true, true, true, true, true, true, true, true, true, true, true, true, true, true, true, true, true, true, true, false, false, false, false]) rfl (by kernel_rfl) (by kernel_rfl) (by kernel_rfl) rfl (by rfl) (by kernel_rfl) K3 ?hc21 ?rc21
          case hc21 =>
            intro w' hSw
            obtain ⟨k0, k1⟩ := hSw
            go_simp
            try with_reducible rfl
          simp only [List.setIfInBounds_toArray, List.set_cons_zero, List.set_cons_succ]
          refine hold_take (i := 22) (d := 46) (v := ?vc22) (listed' := #[true, true, true, true, true, true, true, true, true, true, true, true, true, true, true, true, true, true, true, true, true, true, true, false, false, false]) rfl (by kernel_rfl) (by kernel_rfl) (by kernel_rfl) rfl (by rfl) (by kernel_rfl) K3 ?hc22 ?rc22
          case hc22 =>
            intro w' hSw
            obtain ⟨k0, k1⟩ := hSw
            go_simp
            try with_reducible rfl
          simp only [List.setIfInBounds_toArray, List.set_cons_zero, List.set_cons_succ]
          refine hold_take (i := 23) (d := 47) (v := ?vc23) (listed' := #[true, true, true, true, true, true, true, true, true, true, true, true, true, true, true, true, true, true, true, true, true, true, true, true, false, false]) rfl (by kernel_rfl) (by kernel_rfl) (by kernel_rfl) rfl (by rfl) (by kernel_rfl) K3 ?hc23 ?rc23
          case hc23 =>
            intro w' hSw
            obtain ⟨k0, k1⟩ := hSw
            go_simp
            try with_reducible rfl
          simp only [List.setIfInBounds_toArray, List.set_cons_zero, List.set_cons_succ]
          refine hold_take (i := 24) (d := 48) (v := ?vc24) (listed' := #[true, true, true, true, true, true, true, true, true, true, true, true, true, true, true, true, true, true, true, true, true, true, true, true, true, false]) rfl (by kernel_rfl) (by kernel_rfl) (by kernel_rfl) rfl (by rfl) (by kernel_rfl) K3 ?hc24 ?rc24
          case hc24 =>
            intro w' hSw
            obtain ⟨k0, k1⟩ := hSw
            go_simp
            try with_reducible rfl
          simp only [List.setIfInBounds_toArray, List.set_cons_zero, List.set_cons_succ]
          refine hold_take (i := 25) (d := 2) (v := ?vc25) (listed' := #[true, true, true, true, true, true, true, true, true, true, true, true, true, true, true, true, true, true, true, true, true, true, true, true, true, true]) rfl (by kernel_rfl) (by kernel_rfl) (by kernel_rfl) rfl (by rfl) (by kernel_rfl) K3 ?hc25 ?rc25
          case hc25 =>
            intro w' hSw
            obtain ⟨k0, k1⟩ := hSw
            go_simp
            try with_reducible rfl
          simp only [List.setIfInBounds_toArray, List.set_cons_zero, List.set_cons_succ]
          refine hold_done (by kernel_rfl) ?_ _
          go_wp2_with fail
          go_ret
          exact ⟨rfl, Hd3.out.old⟩
end Go.Proofs.YtnbglbhfclohjaaDoor
