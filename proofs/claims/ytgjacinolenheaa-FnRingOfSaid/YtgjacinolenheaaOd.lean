/- The walk of the program's LogicOk. -/
import Derived.Test.YtgjacinolenheaaOc
namespace Go.Proofs.Ytgjacinolenheaa
open Go.RowKit Go.Deep

/-- A logic as it lies in memory: rows, and a list of numbers. -/
structure LogAt (w : World) (B : Nat) (ua : Option Addr) (l : Lay) (m : Mx) (na : Option Addr) (g o k : Nat) (z : Nat → Int) : Prop where
  mat : MatAt w B ua l m
  row : RowAt w B na g o k z
  hn : m.n ≤ 9223372036854775807
  hL : ∀ r, r < m.n → m.L r ≤ 9223372036854775807
  hk : k ≤ 9223372036854775807
  hB : B ≤ w.heap.size
theorem LogAt.step {w w' : World} {B : Nat} {ua : Option Addr} {l : Lay} {m : Mx} {na : Option Addr} {g o k : Nat} {z : Nat → Int} (h : LogAt w B ua l m na g o k z) (hb : Below w.heap.size w w') : LogAt w' B ua l m na g o k z :=
  ⟨h.mat.below (hb.mono h.hB), h.row.below (hb.mono h.hB), h.hn, h.hL, h.hk, Nat.le_trans h.hB hb.size⟩
theorem LogAt.alloc {w : World} {B : Nat} {ua : Option Addr} {l : Lay} {m : Mx} {na : Option Addr} {g o k : Nat} {z : Nat → Int} (h : LogAt w B ua l m na g o k z) (x : Obj) : LogAt (w.alloc x) B ua l m na g o k z :=
  h.step ((Below.refl _ _).alloc (Nat.le_refl _) _)
theorem LogAt.sq {w : World} {B : Nat} {ua : Option Addr} {l : Lay} {m : Mx} {na : Option Addr} {g o k : Nat} {z : Nat → Int} (h : LogAt w B ua l m na g o k z) (ho : IsOrder m) : SqAt w B ua l m := ⟨h.mat, ho.sq, ho.top, h.hB⟩

set_option maxRecDepth 100000 in
set_option maxHeartbeats 2000000 in
theorem LogicOk_any {w : World} {B : Nat} {ua : Option Addr} {l : Lay} {m : Mx} {na : Option Addr} {g o k nc : Nat} {z : Nat → Int} (h : LogAt w B ua l m na g o k z) :
    Calls Try.prog 19 #[.agg #[.slice ua m.n l.cap, .slice na k nc]] w fun e w' => e = .returned (.bool (logicB m k z)) ∧ Below w.heap.size w w' := by
  have hX := BoxN.start w #[.slice ua m.n l.cap, .slice na k nc] 27
  have h1 := Lib.hid (h.alloc (.cells #[.slice ua m.n l.cap, .slice na k nc] 27))
  have q0 := hX.cell 0 rfl
  have q1 := hX.cell 1 rfl
  have hkk := h.hk
  clear h
  cases hl : latticeB m with
  | false =>
    have HL := Lib.hid hl
    have HF : Hid (false = logicB m k z) := (logicB_false fun h => by rw [latticeB_true h.lat] at hl; cases hl).symm
    clear hl
    go_enter Try.func19, Try.ntmps19
    go_wp2_with fail
    go_at_call 53
    refine (LatticeOk_any h1.out.hn h1.out.hL h1.out.mat h1.out.hB).mono ?_
    rintro e w1 ⟨rfl, b1⟩
    rw [HL.out]
    have B1 := hX.below.trans (b1.mono hX.below.size)
    go_wp2_with fail
    go_ret
    exact ⟨ret_bool HF.out, B1⟩
  | true =>
    have hlat := latticeB_is hl
    have hn := hlat.order.top
    have hpos := hlat.order.pos
    have HL := Lib.hid hl
    have HLat := Lib.hid hlat
    clear hl hlat
    cases hp : pairB k m.n z with
    | false =>
      have HP := Lib.hid hp
      have HF : Hid (false = logicB m k z) := (logicB_false fun h => pairB_not hp h.pair).symm
      clear hp
      go_enter Try.func19, Try.ntmps19
      go_wp2_with fail
      go_at_call 53
      refine (LatticeOk_any h1.out.hn h1.out.hL h1.out.mat h1.out.hB).mono ?_
      rintro e w1 ⟨rfl, b1⟩
      rw [HL.out]
      have hX1 := hX.step b1
      have q2 := hX1.cell 0 rfl
      have q3 := hX1.cell 1 rfl
      have hR1 := Lib.hid (h1.out.step b1).row
      clear q0 q1
      go_wp2_with fail
      go_at_call 54
      refine (pairedOk_any hkk hn hR1.out).mono ?_
      rintro e w2 ⟨rfl, rfl⟩
      rw [HP.out]
      go_wp2_with fail
      go_ret
      exact ⟨ret_bool HF.out, hX1.below⟩
    | true =>
      have hpair := pairB_is hp
      have HP := Lib.hid hp
      obtain ⟨y, hy⟩ := hpair.nat
      have hkn := hpair.len
      subst hkn
      have hy1 : Hid (∀ a, a < m.n → z a = (y a : Int) ∧ y a < m.n) := fun a ha => ⟨(hy a ha).1, (hy a ha).2.1⟩
      have HV : Hid ((turnB m y && keptB m y) = logicB m m.n z) := (logic_is HLat.out hpair fun a ha => (hy a ha).1).symm
      clear hp hpair hy
      go_enter Try.func19, Try.ntmps19
      go_wp2_with fail
      go_at_call 53
      refine (LatticeOk_any h1.out.hn h1.out.hL h1.out.mat h1.out.hB).mono ?_
      rintro e w1 ⟨rfl, b1⟩
      rw [HL.out]
      have hX1 := hX.step b1
      have q2 := hX1.cell 0 rfl
      have q3 := hX1.cell 1 rfl
      have h2 := Lib.hid (h1.out.step b1)
      clear q0 q1
      go_wp2_with fail
      go_at_call 54
      refine (pairedOk_any hkk hn h2.out.row).mono ?_
      rintro e w2 ⟨rfl, rfl⟩
      rw [HP.out]
      go_wp2_with fail
      go_at_call 55
      refine (algebraOf_any (h2.out.sq HLat.out.order)).mono ?_
      rintro e w3 ⟨ob, tb, tG, rfl, b3, hA, _⟩
      have hX3 := hX1.step b3
      have h3 := h2.out.step b3
      have hY := BoxN.start w3 #[.slice ua m.n l.cap, .slice na m.n nc, .slice (some ⟨ob, 0, none⟩) 2 2] 65
      have h4 := Lib.hid (h3.step hY.below)
      have hA4 := Lib.hid (hA.step hY.below)
      have hX4 := hX3.step hY.below
      have q4 := hY.cell 0 rfl
      have q5 := hY.cell 1 rfl
      have q6 := hY.cell 2 rfl
      clear q2 q3 hA h3 hX1
      unfold algV
      go_wp2_with fail
      go_at_call 56
      refine (turn_any (h4.out.sq HLat.out.order) h4.out.row h4.out.hB hpos rfl hy1.out).mono ?_
      rintro e w5 ⟨rfl, b5⟩
      have h5 := Lib.hid (h4.out.step b5)
      have hA5 := Lib.hid (hA4.out.step b5)
      have hX5 := hX4.step b5
      have hY5 := hY.step b5
      have r4 := hY5.cell 0 rfl
      have r5 := hY5.cell 1 rfl
      have r6 := hY5.cell 2 rfl
      clear q4 q5 q6
      cases ht : turnB m y with
      | false =>
        have HT : Hid (false = logicB m m.n z) := by show _ = _; rw [← HV.out, ht]; rfl
        clear ht
        go_wp2_with fail
        go_ret
        exact ⟨ret_bool HT.out, hX5.below⟩
      | true =>
        have HT : Hid (keptB m y = logicB m m.n z) := by show _ = _; rw [← HV.out, ht]; rfl
        clear ht
        go_wp2_with fail
        go_at_call 57
        refine (kept_any hA5.out (h5.out.sq HLat.out.order) h5.out.row h5.out.hB hpos rfl hy1.out).mono ?_
        rintro e w6 ⟨rfl, b6⟩
        have hX6 := hX5.step b6
        clear r4 r5 r6
        go_wp2_with fail
        go_ret
        exact ⟨ret_bool HT.out, hX6.below⟩
end Go.Proofs.Ytgjacinolenheaa
