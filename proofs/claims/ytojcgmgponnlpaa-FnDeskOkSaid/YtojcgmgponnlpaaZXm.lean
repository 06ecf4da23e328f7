import Derived.Test.YtojcgmgponnlpaaZDkr
import Derived.Test.YtojcgmgponnlpaaZDg
import Derived.Test.YtojcgmgponnlpaaZWv
import Derived.Lib.SmallJoins
import Derived.Test.YtojcgmgponnlpaaZDkx
import Derived.Test.YtojcgmgponnlpaaZGa
import Derived.Deep.CutBlock
namespace Go.Proofs.Ytojcgmgponnlpaa
open Go.RowKit Go.Deep

end Go.Proofs.Ytojcgmgponnlpaa
namespace Go.Proofs.Ytojcgmgponnlpaa
open Go.RowKit Go.Deep

theorem BoxN.heap {w wr : World} {cs : Array Value} {t : TypeId} (h : BoxN w cs t wr) : wr.heap[w.heap.size]? = some (.cells cs t) :=
  (h.since.block w.heap.size (Nat.lt_succ_self _)).trans (World.alloc_heap_new w (.cells cs t))
theorem Chg.at_cell {S : Nat → Prop} {w w' : World} {p : Addr} {v : Value} (h : Chg S w w') (hs : ¬ S p.block) (hc : w.cell? p = some v) : w'.cell? p = some v :=
  (World.cell?_of_block (h.block p.block (World.block_lt_of_cell? w p hc) hs)).trans hc
end Go.Proofs.Ytojcgmgponnlpaa
namespace Go.Proofs.Ytojcgmgponnlpaa
open Go.RowKit Go.Deep

end Go.Proofs.Ytojcgmgponnlpaa
namespace Go.Proofs.Ytojcgmgponnlpaa
open Go.RowKit Go.Deep

end Go.Proofs.Ytojcgmgponnlpaa
namespace Go.Proofs.Ytojcgmgponnlpaa
open Go.RowKit Go.Deep

theorem hold_of_three {P : Program} {md : Region.Mode} {ops : Array Oper} {Q : Exit → Act → World → Prop} {S : World → Prop} {i j l fuel : Nat} {listed : Array Bool} {a : Act} {w : World} (hr : Region.ready md ops listed = [i, j, l])
    (h1 : wpOp P ops Q i (fun a' w' => S w' ∧ wpAnyH P md ops Q S fuel (listed.setIfInBounds i true) a' w') a w) (h2 : wpOp P ops Q j (fun a' w' => S w' ∧ wpAnyH P md ops Q S fuel (listed.setIfInBounds j true) a' w') a w) (h3 : wpOp P ops Q l (fun a' w' => S w' ∧ wpAnyH P md ops Q S fuel (listed.setIfInBounds l true) a' w') a w) : wpAnyH P md ops Q S (fuel + 1) listed a w := by
  refine wpAnyH_all hr (by simp) fun k hk => ?_
  rcases (by simpa using hk : k = i ∨ k = j ∨ k = l) with rfl | rfl | rfl
  · exact h1
  · exact h2
  · exact h3
/-- A deed under way in its box, the reader at a place; of what was there at w0 nothing else has turned. -/
structure DD (w0 : World) (rb : Nat) (A : Option Addr) (n c ba : Nat) (d : Dd) (p : Nat) (wx : World) : Prop where
  box : wx.heap[ba]? = some (.cells #[.int .i64 d.k, .int .i64 d.a, .int .i64 d.b] 70)
  ne : w0.heap.size ≤ ba
  hrb : rb < w0.heap.size
  rd : Rd wx rb A n c p
  old : Chg (fun j => j = rb) w0 wx
section
variable {w0 wx w' : World} {rb n c ba p p' : Nat} {A : Option Addr} {d : Dd}
theorem DD.pick (h : DD w0 rb A n c ba d p wx) (ho : OnlyIn (· = rb) wx w') (hr : Rd w' rb A n c p') : DD w0 rb A n c ba d p' w' := by
  have hc := Chg.of_only ho
  have h1 := h.hrb
  have h2 := h.ne
  exact ⟨(hc.block ba (Array.getElem?_eq_some_iff.1 h.box).1 (by omega)).trans h.box, h.ne, h.hrb, hr, h.old.trans hc⟩
theorem DD.alloc (h : DD w0 rb A n c ba d p wx) (o : Obj) : DD w0 rb A n c ba d p (wx.alloc o) := by
  have hc := Chg.alloc (fun _ => False) wx o
  have h3 := Nat.lt_of_lt_of_le h.hrb h.old.size
  exact ⟨(hc.block ba (Array.getElem?_eq_some_iff.1 h.box).1 (fun e => e)).trans h.box, h.ne, h.hrb, hc.rd h.rd h3 (fun e => e), h.old.trans (Chg.alloc _ wx o)⟩
theorem DD.setA (h : DD w0 rb A n c ba d p wx) (x : Int) : DD w0 rb A n c ba ⟨d.k, x, d.b⟩ p (wx.setCell ⟨ba, 1, none⟩ (.int .i64 x)) := by
  have h1 := h.hrb
  have h2 := h.ne
  have h3 := Nat.lt_of_lt_of_le h.hrb h.old.size
  have hc : Chg (fun j => j = ba) wx (wx.setCell ⟨ba, 1, none⟩ (.int .i64 x)) := Chg.set (S := fun j => j = ba) rfl _
  refine ⟨by simpa using Go.Joins.block_setCell (i := 1) h.box (.int .i64 x), h.ne, h.hrb, hc.rd h.rd h3 (by omega), ⟨hc.os.trans h.old.os, hc.tape.trans h.old.tape, hc.output.trans h.old.output, Nat.le_trans h.old.size hc.size, fun j hj hs => (hc.block j (Nat.lt_of_lt_of_le hj h.old.size) (by omega)).trans (h.old.block j hj hs)⟩⟩
theorem DD.setB (h : DD w0 rb A n c ba d p wx) (x : Int) : DD w0 rb A n c ba ⟨d.k, d.a, x⟩ p (wx.setCell ⟨ba, 2, none⟩ (.int .i64 x)) := by
  have h1 := h.hrb
  have h2 := h.ne
  have h3 := Nat.lt_of_lt_of_le h.hrb h.old.size
  have hc : Chg (fun j => j = ba) wx (wx.setCell ⟨ba, 2, none⟩ (.int .i64 x)) := Chg.set (S := fun j => j = ba) rfl _
  refine ⟨by simpa using Go.Joins.block_setCell (i := 2) h.box (.int .i64 x), h.ne, h.hrb, hc.rd h.rd h3 (by omega), ⟨hc.os.trans h.old.os, hc.tape.trans h.old.tape, hc.output.trans h.old.output, Nat.le_trans h.old.size hc.size, fun j hj hs => (hc.block j (Nat.lt_of_lt_of_le hj h.old.size) (by omega)).trans (h.old.block j hj hs)⟩⟩
end
/-- The end: what the box holds is stored into the result's. -/
theorem DD.finish {w w0 wx : World} {rb n c ba p r : Nat} {A : Option Addr} {d : Dd} (h : DD w0 rb A n c ba d p wx) (c0 : Chg (fun j => j = rb) w w0) (hr : w0.heap[r]? = some (.cells #[.int .i64 0, .int .i64 0, .int .i64 0] 70)) (h1 : w.heap.size ≤ r) (h2 : r < w0.heap.size) (h3 : r ≠ rb) :
    wx.heap[r]? = some (.cells #[.int .i64 0, .int .i64 0, .int .i64 0] 70) ∧
    (((wx.setCell ⟨r, 0, none⟩ (.int .i64 d.k)).setCell ⟨r, 1, none⟩ (.int .i64 d.a)).setCell ⟨r, 2, none⟩ (.int .i64 d.b)).heap[r]? = some (.cells #[.int .i64 d.k, .int .i64 d.a, .int .i64 d.b] 70) ∧
    Rd (((wx.setCell ⟨r, 0, none⟩ (.int .i64 d.k)).setCell ⟨r, 1, none⟩ (.int .i64 d.a)).setCell ⟨r, 2, none⟩ (.int .i64 d.b)) rb A n c p ∧
    Chg (fun j => j = rb) w (((wx.setCell ⟨r, 0, none⟩ (.int .i64 d.k)).setCell ⟨r, 1, none⟩ (.int .i64 d.a)).setCell ⟨r, 2, none⟩ (.int .i64 d.b)) := by
  have hx := (h.old.block r h2 h3).trans hr
  have hs : Chg (fun j => j = r) wx (((wx.setCell ⟨r, 0, none⟩ (.int .i64 d.k)).setCell ⟨r, 1, none⟩ (.int .i64 d.a)).setCell ⟨r, 2, none⟩ (.int .i64 d.b)) := ((Chg.set (S := fun j => j = r) rfl _).trans (Chg.set (S := fun j => j = r) rfl _)).trans (Chg.set (S := fun j => j = r) rfl _)
  refine ⟨hx, by simpa using Go.Joins.block_setCell (Go.Joins.block_setCell (Go.Joins.block_setCell (i := 0) hx (.int .i64 d.k)) (i := 1) (.int .i64 d.a)) (i := 2) (.int .i64 d.b), hs.rd h.rd (Nat.lt_of_lt_of_le h.hrb h.old.size) (fun e => h3 e.symm), ?_⟩
  have ho := c0.trans h.old
  exact ⟨hs.os.trans ho.os, hs.tape.trans ho.tape, hs.output.trans ho.output, Nat.le_trans ho.size hs.size, fun j hj hn => (hs.block j (Nat.lt_of_lt_of_le hj ho.size) (by omega)).trans (ho.block j hj hn)⟩
/-- The kinds that may be drawn. -/
def kindF (j : Nat) : Int := ([0, 0, 1, 2, 3, 3, 4] : List Int)[j]?.getD 0
theorem kindF_le (j : Nat) (h : j < 7) : 0 ≤ kindF j ∧ kindF j ≤ 4 := by
  rcases (by omega : j = 0 ∨ j = 1 ∨ j = 2 ∨ j = 3 ∨ j = 4 ∨ j = 5 ∨ j = 6) with rfl | rfl | rfl | rfl | rfl | rfl | rfl <;> decide
/-- A deed drawn: the reader somewhat further, nothing else turned. -/
def DrawnD (rb : Nat) (A : Option Addr) (n c p : Nat) (w : World) (e : Ending) (w' : World) : Prop :=
  ∃ (d : Dd) (p' : Nat), e = .returned (deedV d) ∧ p' ≤ p + 6 ∧ Rd w' rb A n c p' ∧ Chg (fun j => j = rb) w w'
set_option maxRecDepth 100000 in
set_option maxHeartbeats 8000000 in
theorem l20Deed_any {rb n c p k nc : Nat} {A ua na : Option Addr} {un uc : Nat} {B b o : Nat} {z0 : Nat → Nat} {w : World} (hk : k ≤ 1000) (hp : p ≤ 10000) (hn : n ≤ 2000) (h : Rd w rb A n c p) (hz : BytesAt w B A b o n z0) (hB : B ≤ rb) (hrb : rb < w.heap.size) :
    Calls Try.prog 47 #[.pointer (some ⟨rb, 0, none⟩), .agg #[.slice ua un uc, .slice na k nc]] w (DrawnD rb A n c p w) := by
  have X := BoxN.start w #[.slice ua un uc, .slice na k nc] 26
  have Y := BoxN.start (w.alloc (.cells #[.slice ua un uc, .slice na k nc] 26)) #[.int .i64 0, .int .i64 0, .int .i64 0] 70
  have X1 := X.step Y.below
  have l1 := X1.cell 1 rfl
  have hY := Y.heap
  have es : (w.alloc (.cells #[.slice ua un uc, .slice na k nc] 26)).heap.size = w.heap.size + 1 := by simp
  rw [es] at hY
  have c0 := (Chg.alloc (fun j => j = rb) w (.cells #[.slice ua un uc, .slice na k nc] 26)).trans (Chg.alloc (fun j => j = rb) _ (.cells #[.int .i64 0, .int .i64 0, .int .i64 0] 70))
  have hR0 := (Chg.alloc (fun _ => False) (w.alloc (.cells #[.slice ua un uc, .slice na k nc] 26)) (.cells #[.int .i64 0, .int .i64 0, .int .i64 0] 70)).rd ((Chg.alloc (fun _ => False) w (.cells #[.slice ua un uc, .slice na k nc] 26)).rd h hrb (fun e => e)) (by simp; omega) (fun e => e)
  have HZ := Lib.hid hz
  have HBY : ∀ {wx : World}, Chg (fun j => j = rb) w wx → BytesAt wx B A b o n z0 := fun hG => HZ.out.below ((hG.below (B := rb) (by omega) (fun j hj => by have hj' : j = rb := hj; omega)).mono hB)
  have sz0 : w.heap.size + 1 + 1 ≤ ((w.alloc (.cells #[.slice ua un uc, .slice na k nc] 26)).alloc (.cells #[.int .i64 0, .int .i64 0, .int .i64 0] 70)).heap.size := by simp
  clear hz X Y X1 es h
  go_enter Try.func47, Try.ntmps47
  go_upto_region 1 with fail
  generalize (w.alloc (.cells #[.slice ua un uc, .slice na k nc] 26)).alloc (.cells #[.int .i64 0, .int .i64 0, .int .i64 0] 70) = w0 at l1 hY c0 hR0 sz0 ⊢
  have hrb0 : rb < w0.heap.size := by omega
  go_cut [5] (fun pv wx => ∃ (ba : Nat) (K : Int) (p1 : Nat), pv = .pointer (some ⟨ba, 0, none⟩) ∧ DD w0 rb A n c ba ⟨K, 0, 0⟩ p1 wx ∧ p1 ≤ p + 2)
  case first =>
    go_wp2_with fail
    have hCd : Chg (fun j => j = rb) w0 w0.drew := Chg.drew _ _
    have hRd : Rd w0.drew rb A n c p := hR0
    have hrbd : rb < w0.drew.heap.size := hrb0
    refine region_plain (fuel := 13) (listed := #[false, false, false, false, false, false, false, false, false, false, false, false, false]) (fun _ => True) (by kernel_rfl) (by kernel_rfl) (by kernel_rfl) ?_
    refine hold_take (i := 1) (d := 8) (v := ?vqx1) (listed' := #[false, true, false, false, false, false, false, false, false, false, false, false, false]) rfl (by kernel_rfl) (by kernel_rfl) (by kernel_rfl) rfl (by rfl) (by kernel_rfl) trivial ?hqx1 ?rqx1
    case hqx1 =>
      intro w' hSw
      clear hSw
      go_simp
      try with_reducible rfl
    simp only [List.setIfInBounds_toArray, List.set_cons_zero, List.set_cons_succ]
    refine hold_take (i := 5) (d := 12) (v := ?vqx5) (listed' := #[false, true, false, false, false, true, false, false, false, false, false, false, false]) rfl (by kernel_rfl) (by kernel_rfl) (by kernel_rfl) rfl (by rfl) (by kernel_rfl) trivial ?hqx5 ?rqx5
    case hqx5 =>
      intro w' hSw
      clear hSw
      go_simp
      try with_reducible rfl
    simp only [List.setIfInBounds_toArray, List.set_cons_zero, List.set_cons_succ]
    refine hold_of_three (i := 0) (j := 2) (l := 11) (by kernel_rfl) ?gn0 ?gn2 ?gn11
    case gn0 =>
      have Xn0 := BoxN.start w0.drew #[.int .i64 0, .int .i64 0, .int .i64 1, .int .i64 2, .int .i64 3, .int .i64 3, .int .i64 4] 3
      have kn0 : ∀ j, j < 7 → (w0.drew.alloc (.cells #[.int .i64 0, .int .i64 0, .int .i64 1, .int .i64 2, .int .i64 3, .int .i64 3, .int .i64 4] 3)).cell? ⟨w0.drew.heap.size, j, none⟩ = some (.int .i64 (kindF j)) := fun j hj => by
        rcases (by omega : j = 0 ∨ j = 1 ∨ j = 2 ∨ j = 3 ∨ j = 4 ∨ j = 5 ∨ j = 6) with rfl | rfl | rfl | rfl | rfl | rfl | rfl
        all_goals exact Xn0.cell _ rfl
      have cgn0 := Chg.alloc (fun j => j = rb) w0.drew (.cells #[.int .i64 0, .int .i64 0, .int .i64 1, .int .i64 2, .int .i64 3, .int .i64 3, .int .i64 4] 3)
      have Rn0 := (Chg.alloc (fun _ => False) w0.drew (.cells #[.int .i64 0, .int .i64 0, .int .i64 1, .int .i64 2, .int .i64 3, .int .i64 3, .int .i64 4] 3)).rd hRd hrbd (fun e => e)
      have Cn0 := hCd.trans cgn0
      have rbWn0 : rb < (w0.drew.alloc (.cells #[.int .i64 0, .int .i64 0, .int .i64 1, .int .i64 2, .int .i64 3, .int .i64 3, .int .i64 4] 3)).heap.size := Nat.lt_of_lt_of_le hrbd cgn0.size
      obtain ⟨bln0, ebln0⟩ : ∃ q, w0.drew.heap.size = q := ⟨_, rfl⟩
      have nbn0 : ¬ (bln0 = rb) := by rw [← ebln0]; have := hrbd; omega
      refine opH_value (i := 0) (d := 7) (listed' := #[true, true, false, false, false, true, false, false, false, false, false, false, false]) rfl rfl (by rfl) (by kernel_rfl) (v := .slice (some ⟨w0.drew.heap.size, 0, none⟩) 7 7) (w' := w0.drew.alloc (.cells #[.int .i64 0, .int .i64 0, .int .i64 1, .int .i64 2, .int .i64 3, .int .i64 3, .int .i64 4] 3)) ?vn0 trivial ?_
      case vn0 =>
        go_simp
        try with_reducible rfl
      rw [ebln0] at kn0 ⊢
      clear ebln0 Xn0 cgn0
      generalize w0.drew.alloc (.cells #[.int .i64 0, .int .i64 0, .int .i64 1, .int .i64 2, .int .i64 3, .int .i64 3, .int .i64 4] 3) = wvn0 at kn0 Rn0 Cn0 rbWn0 ⊢
      simp only [List.setIfInBounds_toArray, List.set_cons_zero, List.set_cons_succ]
      refine hold_stronger (S' := fun w' => ∀ j, j < 7 → w'.cell? ⟨bln0, j, none⟩ = some (.int .i64 (kindF j))) (fun _ _ => trivial) _ _ _ _ ?_
      have Sn0 : (fun w' => ∀ j, j < 7 → w'.cell? ⟨bln0, j, none⟩ = some (.int .i64 (kindF j))) wvn0 := kn0
      refine hold_two (i := 2) (j := 11) (by kernel_rfl) ?gn0n2 ?gn0n11
      case gn0n2 =>
        refine opH_call (i := 2) (d := 9) (listed' := #[true, true, true, false, false, true, false, false, false, false, false, false, false]) rfl rfl (by rfl) (by kernel_rfl) ?en0n2 (pick_any (q := 7) (by omega) (by omega) (by omega) hn Rn0 (HBY (c0.trans Cn0)) hB) ?_
        case en0n2 => (go_simp; try rfl)
        rintro e wvn0n2 ⟨vn0n2, rfl, un0n2, tn0n2, Rn0n2, On0n2⟩
        have cgn0n2 := Chg.of_only On0n2
        have Cn0n2 := Cn0.trans cgn0n2
        have rbWn0n2 : rb < wvn0n2.heap.size := Nat.lt_of_lt_of_le rbWn0 cgn0n2.size
        obtain ⟨jn0n2, rfl⟩ : ∃ j : Nat, vn0n2 = (j : Int) := ⟨vn0n2.toNat, by omega⟩
        have Sn0n2 : (fun w' => ∀ j, j < 7 → w'.cell? ⟨bln0, j, none⟩ = some (.int .i64 (kindF j))) wvn0n2 := fun j hj => cgn0n2.at_cell (by show ¬ (bln0 = rb); exact nbn0) (Sn0 j hj)
        have hj1 : jn0n2 < 7 := by omega
        obtain ⟨K1, eK1⟩ : ∃ K, kindF jn0n2 = K := ⟨_, rfl⟩
        have hK1 := kindF_le jn0n2 hj1
        rw [eK1] at hK1
        have EK1 := Lib.hid eK1
        clear eK1
        refine ⟨_, rfl, Sn0n2, ?_⟩
        simp only [List.setIfInBounds_toArray, List.set_cons_zero, List.set_cons_succ]
        refine hold_take (i := 3) (d := 10) (v := ?vqn0n2x3) (listed' := #[true, true, true, true, false, true, false, false, false, false, false, false, false]) rfl (by kernel_rfl) (by kernel_rfl) (by kernel_rfl) rfl (by rfl) (by kernel_rfl) Sn0n2 ?hqn0n2x3 ?rqn0n2x3
        case hqn0n2x3 =>
          intro w' hSw
          have kk := hSw jn0n2 hj1; rw [EK1.out] at kk; clear hSw
          go_simp
          try with_reducible rfl
        simp only [List.setIfInBounds_toArray, List.set_cons_zero, List.set_cons_succ]
        refine hold_take (i := 4) (d := 11) (v := ?vqn0n2x4) (listed' := #[true, true, true, true, true, true, false, false, false, false, false, false, false]) rfl (by kernel_rfl) (by kernel_rfl) (by kernel_rfl) rfl (by rfl) (by kernel_rfl) Sn0n2 ?hqn0n2x4 ?rqn0n2x4
        case hqn0n2x4 =>
          intro w' hSw
          have kk := hSw jn0n2 hj1; rw [EK1.out] at kk; clear hSw
          go_simp
          try with_reducible rfl
        simp only [List.setIfInBounds_toArray, List.set_cons_zero, List.set_cons_succ]
        refine hold_two (i := 6) (j := 11) (by kernel_rfl) ?gn0n2n6 ?gn0n2n11
        case gn0n2n6 =>
          refine opH_call (i := 6) (d := 13) (listed' := #[true, true, true, true, true, true, true, false, false, false, false, false, false]) rfl rfl (by rfl) (by kernel_rfl) ?en0n2n6 (pick_any (q := 60) (by omega) (by omega) (by omega) hn Rn0n2 (HBY (c0.trans Cn0n2)) hB) ?_
          case en0n2n6 => (go_simp; try rfl)
          rintro e wvn0n2n6 ⟨vn0n2n6, rfl, un0n2n6, tn0n2n6, Rn0n2n6, On0n2n6⟩
          have cgn0n2n6 := Chg.of_only On0n2n6
          have Cn0n2n6 := Cn0n2.trans cgn0n2n6
          have rbWn0n2n6 : rb < wvn0n2n6.heap.size := Nat.lt_of_lt_of_le rbWn0n2 cgn0n2n6.size
          obtain ⟨jn0n2n6, rfl⟩ : ∃ j : Nat, vn0n2n6 = (j : Int) := ⟨vn0n2n6.toNat, by omega⟩
          have Sn0n2n6 : (fun w' => ∀ j, j < 7 → w'.cell? ⟨bln0, j, none⟩ = some (.int .i64 (kindF j))) wvn0n2n6 := fun j hj => cgn0n2n6.at_cell (by show ¬ (bln0 = rb); exact nbn0) (Sn0n2 j hj)
          obtain ⟨q2, eq2, hq2⟩ : ∃ q : Nat, (jn0n2n6 : Int) / 59 = (q : Int) ∧ q ≤ 1 := ⟨jn0n2n6 / 59, rfl, by omega⟩
          have w1q : IntKind.i64.wrap (q2 : Int) = (q2 : Int) := by rw [IntKind.wrap_i64]; omega
          have w2q : IntKind.i64.wrap ((q2 : Int) * 5) = (q2 : Int) * 5 := by rw [IntKind.wrap_i64]; omega
          have w3q : IntKind.i64.wrap (K1 + (q2 : Int) * 5) = K1 + (q2 : Int) * 5 := by rw [IntKind.wrap_i64]; omega
          refine ⟨_, rfl, Sn0n2n6, ?_⟩
          simp only [List.setIfInBounds_toArray, List.set_cons_zero, List.set_cons_succ]
          refine hold_take (i := 7) (d := 14) (v := ?vqn0n2n6x7) (listed' := #[true, true, true, true, true, true, true, true, false, false, false, false, false]) rfl (by kernel_rfl) (by kernel_rfl) (by kernel_rfl) rfl (by rfl) (by kernel_rfl) Sn0n2n6 ?hqn0n2n6x7 ?rqn0n2n6x7
          case hqn0n2n6x7 =>
            intro w' hSw
            have kk := hSw jn0n2 hj1; rw [EK1.out] at kk; clear hSw
            go_simp
            try with_reducible rfl
          simp only [List.setIfInBounds_toArray, List.set_cons_zero, List.set_cons_succ]
          refine hold_take (i := 8) (d := 15) (v := ?vqn0n2n6x8) (listed' := #[true, true, true, true, true, true, true, true, true, false, false, false, false]) rfl (by kernel_rfl) (by kernel_rfl) (by kernel_rfl) rfl (by rfl) (by kernel_rfl) Sn0n2n6 ?hqn0n2n6x8 ?rqn0n2n6x8
          case hqn0n2n6x8 =>
            intro w' hSw
            have kk := hSw jn0n2 hj1; rw [EK1.out] at kk; clear hSw
            go_simp
            try with_reducible rfl
          simp only [List.setIfInBounds_toArray, List.set_cons_zero, List.set_cons_succ]
          refine hold_take (i := 9) (d := 16) (v := ?vqn0n2n6x9) (listed' := #[true, true, true, true, true, true, true, true, true, true, false, false, false]) rfl (by kernel_rfl) (by kernel_rfl) (by kernel_rfl) rfl (by rfl) (by kernel_rfl) Sn0n2n6 ?hqn0n2n6x9 ?rqn0n2n6x9
          case hqn0n2n6x9 =>
            intro w' hSw
            have kk := hSw jn0n2 hj1; rw [EK1.out] at kk; clear hSw
            go_simp
            try with_reducible rfl
          simp only [List.setIfInBounds_toArray, List.set_cons_zero, List.set_cons_succ]
          refine hold_take (i := 10) (d := 17) (v := ?vqn0n2n6x10) (listed' := #[true, true, true, true, true, true, true, true, true, true, true, false, false]) rfl (by kernel_rfl) (by kernel_rfl) (by kernel_rfl) rfl (by rfl) (by kernel_rfl) Sn0n2n6 ?hqn0n2n6x10 ?rqn0n2n6x10
          case hqn0n2n6x10 =>
            intro w' hSw
            have kk := hSw jn0n2 hj1; rw [EK1.out] at kk; clear hSw
            go_simp
            try with_reducible rfl
          simp only [List.setIfInBounds_toArray, List.set_cons_zero, List.set_cons_succ]
          have Xn0n2n6n11 := BoxN.start wvn0n2n6 #[.int .i64 0, .int .i64 0, .int .i64 0] 70
          have bxn0n2n6n11 := Xn0n2n6n11.heap
          have cgn0n2n6n11 := Chg.alloc (fun j => j = rb) wvn0n2n6 (.cells #[.int .i64 0, .int .i64 0, .int .i64 0] 70)
          have can0n2n6n11 := Chg.alloc (fun _ => False) wvn0n2n6 (.cells #[.int .i64 0, .int .i64 0, .int .i64 0] 70)
          have Rn0n2n6n11 := can0n2n6n11.rd Rn0n2n6 rbWn0n2n6 (fun e => e)
          have hban0n2n6n11 : w0.heap.size ≤ wvn0n2n6.heap.size := Cn0n2n6.size
          have Cn0n2n6n11 := Cn0n2n6.trans cgn0n2n6n11
          have rbWn0n2n6n11 : rb < (wvn0n2n6.alloc (.cells #[.int .i64 0, .int .i64 0, .int .i64 0] 70)).heap.size := Nat.lt_of_lt_of_le rbWn0n2n6 cgn0n2n6n11.size
          have Sn0n2n6n11 : (fun w' => ∀ j, j < 7 → w'.cell? ⟨bln0, j, none⟩ = some (.int .i64 (kindF j))) (wvn0n2n6.alloc (.cells #[.int .i64 0, .int .i64 0, .int .i64 0] 70)) := fun j hj => can0n2n6n11.at_cell (by show ¬ False; exact (fun e => e)) (Sn0n2n6 j hj)
          obtain ⟨ban0n2n6n11, eban0n2n6n11⟩ : ∃ q, wvn0n2n6.heap.size = q := ⟨_, rfl⟩
          have nban0n2n6n11 : ¬ (ban0n2n6n11 = rb) := by rw [← eban0n2n6n11]; have := rbWn0n2n6; omega
          refine hold_value (i := 11) (d := 5) (listed' := #[true, true, true, true, true, true, true, true, true, true, true, true, false]) rfl (by kernel_rfl) rfl (by rfl) (by kernel_rfl) (v := .pointer (some ⟨wvn0n2n6.heap.size, 0, none⟩)) (w' := wvn0n2n6.alloc (.cells #[.int .i64 0, .int .i64 0, .int .i64 0] 70)) ?vn0n2n6n11 Sn0n2n6n11 ?_
          case vn0n2n6n11 =>
            go_simp
            try with_reducible rfl
          rw [eban0n2n6n11] at bxn0n2n6n11 hban0n2n6n11 ⊢
          clear eban0n2n6n11 Xn0n2n6n11 cgn0n2n6n11 can0n2n6n11
          generalize wvn0n2n6.alloc (.cells #[.int .i64 0, .int .i64 0, .int .i64 0] 70) = wvn0n2n6n11 at bxn0n2n6n11 Rn0n2n6n11 Cn0n2n6n11 rbWn0n2n6n11 Sn0n2n6n11 ⊢
          simp only [List.setIfInBounds_toArray, List.set_cons_zero, List.set_cons_succ]
          have d0n0n2n6n11n12 := Go.Joins.cell_of_block bxn0n2n6n11 0
          have d1n0n2n6n11n12 := Go.Joins.cell_of_block bxn0n2n6n11 1
          have d2n0n2n6n11n12 := Go.Joins.cell_of_block bxn0n2n6n11 2
          have f0n0n2n6n11n12 := Go.Joins.unfrozen_of_block bxn0n2n6n11 0
          have f1n0n2n6n11n12 := Go.Joins.unfrozen_of_block bxn0n2n6n11 1
          have f2n0n2n6n11n12 := Go.Joins.unfrozen_of_block bxn0n2n6n11 2
          have hb3n0n2n6n11n12 := Go.Joins.block_setCell (Go.Joins.block_setCell (Go.Joins.block_setCell (i := 0) bxn0n2n6n11 (.int .i64 (K1 + (q2 : Int) * 5))) (i := 1) (.int .i64 0)) (i := 2) (.int .i64 0)
          have csn0n2n6n11n12 : Chg (fun j => j = ban0n2n6n11) wvn0n2n6n11 (((wvn0n2n6n11.setCell ⟨ban0n2n6n11, 0, none⟩ (.int .i64 (K1 + (q2 : Int) * 5))).setCell ⟨ban0n2n6n11, 1, none⟩ (.int .i64 0)).setCell ⟨ban0n2n6n11, 2, none⟩ (.int .i64 0)) := ((Chg.set (S := fun j => j = ban0n2n6n11) rfl _).trans (Chg.set (S := fun j => j = ban0n2n6n11) rfl _)).trans (Chg.set (S := fun j => j = ban0n2n6n11) rfl _)
          have nln0n2n6n11n12 : ¬ (bln0 = ban0n2n6n11) := fun e => by
            have h1 := Sn0n2n6n11 0 (by omega)
            have h2 := Sn0n2n6n11 2 (by omega)
            have h3 := Sn0n2n6n11 3 (by omega)
            rw [e, Go.Joins.cell_of_block bxn0n2n6n11] at h3
            simp at h3
          have Sn0n2n6n11n12 : (fun w' => ∀ j, j < 7 → w'.cell? ⟨bln0, j, none⟩ = some (.int .i64 (kindF j))) (((wvn0n2n6n11.setCell ⟨ban0n2n6n11, 0, none⟩ (.int .i64 (K1 + (q2 : Int) * 5))).setCell ⟨ban0n2n6n11, 1, none⟩ (.int .i64 0)).setCell ⟨ban0n2n6n11, 2, none⟩ (.int .i64 0)) := fun j hj => csn0n2n6n11n12.at_cell nln0n2n6n11n12 (Sn0n2n6n11 j hj)
          refine hold_store (i := 12) (w' := (((wvn0n2n6n11.setCell ⟨ban0n2n6n11, 0, none⟩ (.int .i64 (K1 + (q2 : Int) * 5))).setCell ⟨ban0n2n6n11, 1, none⟩ (.int .i64 0)).setCell ⟨ban0n2n6n11, 2, none⟩ (.int .i64 0))) (listed' := #[true, true, true, true, true, true, true, true, true, true, true, true, true]) rfl (by kernel_rfl) rfl (by rfl) (by kernel_rfl) ?sn0n2n6n11n12 Sn0n2n6n11n12 ?_
          case sn0n2n6n11n12 => go_simp
          refine hold_done (by kernel_rfl) ?_ _
          have ho := Cn0n2n6n11
          have hc := csn0n2n6n11n12
          have hDD : DD w0 rb A n c ban0n2n6n11 ⟨K1 + (q2 : Int) * 5, 0, 0⟩ (p + 1 + 1) (((wvn0n2n6n11.setCell ⟨ban0n2n6n11, 0, none⟩ (.int .i64 (K1 + (q2 : Int) * 5))).setCell ⟨ban0n2n6n11, 1, none⟩ (.int .i64 0)).setCell ⟨ban0n2n6n11, 2, none⟩ (.int .i64 0)) := ⟨by simpa using hb3n0n2n6n11n12, hban0n2n6n11, hrb0, hc.rd Rn0n2n6n11 rbWn0n2n6n11 (by have := nban0n2n6n11; omega), ⟨hc.os.trans ho.os, hc.tape.trans ho.tape, hc.output.trans ho.output, Nat.le_trans ho.size hc.size, fun j hj hs => (hc.block j (Nat.lt_of_lt_of_le hj ho.size) (by have := hban0n2n6n11; omega)).trans (ho.block j hj hs)⟩⟩
          generalize (((wvn0n2n6n11.setCell ⟨ban0n2n6n11, 0, none⟩ (.int .i64 (K1 + (q2 : Int) * 5))).setCell ⟨ban0n2n6n11, 1, none⟩ (.int .i64 0)).setCell ⟨ban0n2n6n11, 2, none⟩ (.int .i64 0)) = WZ at hDD ⊢
          go_wp2_with fail
          go_meet
          exact ⟨_, _, _, rfl, hDD, by omega⟩
        case gn0n2n11 =>
          have Xn0n2n11 := BoxN.start wvn0n2 #[.int .i64 0, .int .i64 0, .int .i64 0] 70
          have bxn0n2n11 := Xn0n2n11.heap
          have cgn0n2n11 := Chg.alloc (fun j => j = rb) wvn0n2 (.cells #[.int .i64 0, .int .i64 0, .int .i64 0] 70)
          have can0n2n11 := Chg.alloc (fun _ => False) wvn0n2 (.cells #[.int .i64 0, .int .i64 0, .int .i64 0] 70)
          have Rn0n2n11 := can0n2n11.rd Rn0n2 rbWn0n2 (fun e => e)
          have hban0n2n11 : w0.heap.size ≤ wvn0n2.heap.size := Cn0n2.size
          have Cn0n2n11 := Cn0n2.trans cgn0n2n11
          have rbWn0n2n11 : rb < (wvn0n2.alloc (.cells #[.int .i64 0, .int .i64 0, .int .i64 0] 70)).heap.size := Nat.lt_of_lt_of_le rbWn0n2 cgn0n2n11.size
          have Sn0n2n11 : (fun w' => ∀ j, j < 7 → w'.cell? ⟨bln0, j, none⟩ = some (.int .i64 (kindF j))) (wvn0n2.alloc (.cells #[.int .i64 0, .int .i64 0, .int .i64 0] 70)) := fun j hj => can0n2n11.at_cell (by show ¬ False; exact (fun e => e)) (Sn0n2 j hj)
          obtain ⟨ban0n2n11, eban0n2n11⟩ : ∃ q, wvn0n2.heap.size = q := ⟨_, rfl⟩
          have nban0n2n11 : ¬ (ban0n2n11 = rb) := by rw [← eban0n2n11]; have := rbWn0n2; omega
          refine opH_value (i := 11) (d := 5) (listed' := #[true, true, true, true, true, true, false, false, false, false, false, true, false]) rfl rfl (by rfl) (by kernel_rfl) (v := .pointer (some ⟨wvn0n2.heap.size, 0, none⟩)) (w' := wvn0n2.alloc (.cells #[.int .i64 0, .int .i64 0, .int .i64 0] 70)) ?vn0n2n11 Sn0n2n11 ?_
          case vn0n2n11 =>
            go_simp
            try with_reducible rfl
          rw [eban0n2n11] at bxn0n2n11 hban0n2n11 ⊢
          clear eban0n2n11 Xn0n2n11 cgn0n2n11 can0n2n11
          generalize wvn0n2.alloc (.cells #[.int .i64 0, .int .i64 0, .int .i64 0] 70) = wvn0n2n11 at bxn0n2n11 Rn0n2n11 Cn0n2n11 rbWn0n2n11 Sn0n2n11 ⊢
          simp only [List.setIfInBounds_toArray, List.set_cons_zero, List.set_cons_succ]
          refine hold_call (i := 6) (d := 13) (listed' := #[true, true, true, true, true, true, true, false, false, false, false, true, false]) rfl (by kernel_rfl) rfl (by rfl) (by kernel_rfl) ?en0n2n11n6 (pick_any (q := 60) (by omega) (by omega) (by omega) hn Rn0n2n11 (HBY (c0.trans Cn0n2n11)) hB) ?_
          case en0n2n11n6 => (go_simp; try rfl)
          rintro e wvn0n2n11n6 ⟨vn0n2n11n6, rfl, un0n2n11n6, tn0n2n11n6, Rn0n2n11n6, On0n2n11n6⟩
          have cgn0n2n11n6 := Chg.of_only On0n2n11n6
          have Cn0n2n11n6 := Cn0n2n11.trans cgn0n2n11n6
          have rbWn0n2n11n6 : rb < wvn0n2n11n6.heap.size := Nat.lt_of_lt_of_le rbWn0n2n11 cgn0n2n11n6.size
          obtain ⟨jn0n2n11n6, rfl⟩ : ∃ j : Nat, vn0n2n11n6 = (j : Int) := ⟨vn0n2n11n6.toNat, by omega⟩
          have bxn0n2n11n6 := (cgn0n2n11n6.block ban0n2n11 (Array.getElem?_eq_some_iff.1 bxn0n2n11).1 nban0n2n11).trans bxn0n2n11
          have Sn0n2n11n6 : (fun w' => ∀ j, j < 7 → w'.cell? ⟨bln0, j, none⟩ = some (.int .i64 (kindF j))) wvn0n2n11n6 := fun j hj => cgn0n2n11n6.at_cell (by show ¬ (bln0 = rb); exact nbn0) (Sn0n2n11 j hj)
          obtain ⟨q2, eq2, hq2⟩ : ∃ q : Nat, (jn0n2n11n6 : Int) / 59 = (q : Int) ∧ q ≤ 1 := ⟨jn0n2n11n6 / 59, rfl, by omega⟩
          have w1q : IntKind.i64.wrap (q2 : Int) = (q2 : Int) := by rw [IntKind.wrap_i64]; omega
          have w2q : IntKind.i64.wrap ((q2 : Int) * 5) = (q2 : Int) * 5 := by rw [IntKind.wrap_i64]; omega
          have w3q : IntKind.i64.wrap (K1 + (q2 : Int) * 5) = K1 + (q2 : Int) * 5 := by rw [IntKind.wrap_i64]; omega
          refine ⟨_, rfl, Sn0n2n11n6, ?_⟩
          simp only [List.setIfInBounds_toArray, List.set_cons_zero, List.set_cons_succ]
          refine hold_take (i := 7) (d := 14) (v := ?vqn0n2n11n6x7) (listed' := #[true, true, true, true, true, true, true, true, false, false, false, true, false]) rfl (by kernel_rfl) (by kernel_rfl) (by kernel_rfl) rfl (by rfl) (by kernel_rfl) Sn0n2n11n6 ?hqn0n2n11n6x7 ?rqn0n2n11n6x7
          case hqn0n2n11n6x7 =>
            intro w' hSw
            have kk := hSw jn0n2 hj1; rw [EK1.out] at kk; clear hSw
            go_simp
            try with_reducible rfl
          simp only [List.setIfInBounds_toArray, List.set_cons_zero, List.set_cons_succ]
          refine hold_take (i := 8) (d := 15) (v := ?vqn0n2n11n6x8) (listed' := #[true, true, true, true, true, true, true, true, true, false, false, true, false]) rfl (by kernel_rfl) (by kernel_rfl) (by kernel_rfl) rfl (by rfl) (by kernel_rfl) Sn0n2n11n6 ?hqn0n2n11n6x8 ?rqn0n2n11n6x8
          case hqn0n2n11n6x8 =>
            intro w' hSw
            have kk := hSw jn0n2 hj1; rw [EK1.out] at kk; clear hSw
            go_simp
            try with_reducible rfl
          simp only [List.setIfInBounds_toArray, List.set_cons_zero, List.set_cons_succ]
          refine hold_take (i := 9) (d := 16) (v := ?vqn0n2n11n6x9) (listed' := #[true, true, true, true, true, true, true, true, true, true, false, true, false]) rfl (by kernel_rfl) (by kernel_rfl) (by kernel_rfl) rfl (by rfl) (by kernel_rfl) Sn0n2n11n6 ?hqn0n2n11n6x9 ?rqn0n2n11n6x9
          case hqn0n2n11n6x9 =>
            intro w' hSw
            have kk := hSw jn0n2 hj1; rw [EK1.out] at kk; clear hSw
            go_simp
            try with_reducible rfl
          simp only [List.setIfInBounds_toArray, List.set_cons_zero, List.set_cons_succ]
          refine hold_take (i := 10) (d := 17) (v := ?vqn0n2n11n6x10) (listed' := #[true, true, true, true, true, true, true, true, true, true, true, true, false]) rfl (by kernel_rfl) (by kernel_rfl) (by kernel_rfl) rfl (by rfl) (by kernel_rfl) Sn0n2n11n6 ?hqn0n2n11n6x10 ?rqn0n2n11n6x10
          case hqn0n2n11n6x10 =>
            intro w' hSw
            have kk := hSw jn0n2 hj1; rw [EK1.out] at kk; clear hSw
            go_simp
            try with_reducible rfl
          simp only [List.setIfInBounds_toArray, List.set_cons_zero, List.set_cons_succ]
          have d0n0n2n11n6n12 := Go.Joins.cell_of_block bxn0n2n11n6 0
          have d1n0n2n11n6n12 := Go.Joins.cell_of_block bxn0n2n11n6 1
          have d2n0n2n11n6n12 := Go.Joins.cell_of_block bxn0n2n11n6 2
          have f0n0n2n11n6n12 := Go.Joins.unfrozen_of_block bxn0n2n11n6 0
          have f1n0n2n11n6n12 := Go.Joins.unfrozen_of_block bxn0n2n11n6 1
          have f2n0n2n11n6n12 := Go.Joins.unfrozen_of_block bxn0n2n11n6 2
          have hb3n0n2n11n6n12 := Go.Joins.block_setCell (Go.Joins.block_setCell (Go.Joins.block_setCell (i := 0) bxn0n2n11n6 (.int .i64 (K1 + (q2 : Int) * 5))) (i := 1) (.int .i64 0)) (i := 2) (.int .i64 0)
          have csn0n2n11n6n12 : Chg (fun j => j = ban0n2n11) wvn0n2n11n6 (((wvn0n2n11n6.setCell ⟨ban0n2n11, 0, none⟩ (.int .i64 (K1 + (q2 : Int) * 5))).setCell ⟨ban0n2n11, 1, none⟩ (.int .i64 0)).setCell ⟨ban0n2n11, 2, none⟩ (.int .i64 0)) := ((Chg.set (S := fun j => j = ban0n2n11) rfl _).trans (Chg.set (S := fun j => j = ban0n2n11) rfl _)).trans (Chg.set (S := fun j => j = ban0n2n11) rfl _)
          have nln0n2n11n6n12 : ¬ (bln0 = ban0n2n11) := fun e => by
            have h1 := Sn0n2n11n6 0 (by omega)
            have h2 := Sn0n2n11n6 2 (by omega)
            have h3 := Sn0n2n11n6 3 (by omega)
            rw [e, Go.Joins.cell_of_block bxn0n2n11n6] at h3
            simp at h3
          have Sn0n2n11n6n12 : (fun w' => ∀ j, j < 7 → w'.cell? ⟨bln0, j, none⟩ = some (.int .i64 (kindF j))) (((wvn0n2n11n6.setCell ⟨ban0n2n11, 0, none⟩ (.int .i64 (K1 + (q2 : Int) * 5))).setCell ⟨ban0n2n11, 1, none⟩ (.int .i64 0)).setCell ⟨ban0n2n11, 2, none⟩ (.int .i64 0)) := fun j hj => csn0n2n11n6n12.at_cell nln0n2n11n6n12 (Sn0n2n11n6 j hj)
          refine hold_store (i := 12) (w' := (((wvn0n2n11n6.setCell ⟨ban0n2n11, 0, none⟩ (.int .i64 (K1 + (q2 : Int) * 5))).setCell ⟨ban0n2n11, 1, none⟩ (.int .i64 0)).setCell ⟨ban0n2n11, 2, none⟩ (.int .i64 0))) (listed' := #[true, true, true, true, true, true, true, true, true, true, true, true, true]) rfl (by kernel_rfl) rfl (by rfl) (by kernel_rfl) ?sn0n2n11n6n12 Sn0n2n11n6n12 ?_
          case sn0n2n11n6n12 => go_simp
          refine hold_done (by kernel_rfl) ?_ _
          have ho := Cn0n2n11n6
          have hc := csn0n2n11n6n12
          have hDD : DD w0 rb A n c ban0n2n11 ⟨K1 + (q2 : Int) * 5, 0, 0⟩ (p + 1 + 1) (((wvn0n2n11n6.setCell ⟨ban0n2n11, 0, none⟩ (.int .i64 (K1 + (q2 : Int) * 5))).setCell ⟨ban0n2n11, 1, none⟩ (.int .i64 0)).setCell ⟨ban0n2n11, 2, none⟩ (.int .i64 0)) := ⟨by simpa using hb3n0n2n11n6n12, hban0n2n11, hrb0, hc.rd Rn0n2n11n6 rbWn0n2n11n6 (by have := nban0n2n11; omega), ⟨hc.os.trans ho.os, hc.tape.trans ho.tape, hc.output.trans ho.output, Nat.le_trans ho.size hc.size, fun j hj hs => (hc.block j (Nat.lt_of_lt_of_le hj ho.size) (by have := hban0n2n11; omega)).trans (ho.block j hj hs)⟩⟩
          generalize (((wvn0n2n11n6.setCell ⟨ban0n2n11, 0, none⟩ (.int .i64 (K1 + (q2 : Int) * 5))).setCell ⟨ban0n2n11, 1, none⟩ (.int .i64 0)).setCell ⟨ban0n2n11, 2, none⟩ (.int .i64 0)) = WZ at hDD ⊢
          go_wp2_with fail
          go_meet
          exact ⟨_, _, _, rfl, hDD, by omega⟩
      case gn0n11 =>
        have Xn0n11 := BoxN.start wvn0 #[.int .i64 0, .int .i64 0, .int .i64 0] 70
        have bxn0n11 := Xn0n11.heap
        have cgn0n11 := Chg.alloc (fun j => j = rb) wvn0 (.cells #[.int .i64 0, .int .i64 0, .int .i64 0] 70)
        have can0n11 := Chg.alloc (fun _ => False) wvn0 (.cells #[.int .i64 0, .int .i64 0, .int .i64 0] 70)
        have Rn0n11 := can0n11.rd Rn0 rbWn0 (fun e => e)
        have hban0n11 : w0.heap.size ≤ wvn0.heap.size := Cn0.size
        have Cn0n11 := Cn0.trans cgn0n11
        have rbWn0n11 : rb < (wvn0.alloc (.cells #[.int .i64 0, .int .i64 0, .int .i64 0] 70)).heap.size := Nat.lt_of_lt_of_le rbWn0 cgn0n11.size
        have Sn0n11 : (fun w' => ∀ j, j < 7 → w'.cell? ⟨bln0, j, none⟩ = some (.int .i64 (kindF j))) (wvn0.alloc (.cells #[.int .i64 0, .int .i64 0, .int .i64 0] 70)) := fun j hj => can0n11.at_cell (by show ¬ False; exact (fun e => e)) (Sn0 j hj)
        obtain ⟨ban0n11, eban0n11⟩ : ∃ q, wvn0.heap.size = q := ⟨_, rfl⟩
        have nban0n11 : ¬ (ban0n11 = rb) := by rw [← eban0n11]; have := rbWn0; omega
        refine opH_value (i := 11) (d := 5) (listed' := #[true, true, false, false, false, true, false, false, false, false, false, true, false]) rfl rfl (by rfl) (by kernel_rfl) (v := .pointer (some ⟨wvn0.heap.size, 0, none⟩)) (w' := wvn0.alloc (.cells #[.int .i64 0, .int .i64 0, .int .i64 0] 70)) ?vn0n11 Sn0n11 ?_
        case vn0n11 =>
          go_simp
          try with_reducible rfl
        rw [eban0n11] at bxn0n11 hban0n11 ⊢
        clear eban0n11 Xn0n11 cgn0n11 can0n11
        generalize wvn0.alloc (.cells #[.int .i64 0, .int .i64 0, .int .i64 0] 70) = wvn0n11 at bxn0n11 Rn0n11 Cn0n11 rbWn0n11 Sn0n11 ⊢
        simp only [List.setIfInBounds_toArray, List.set_cons_zero, List.set_cons_succ]
        refine hold_call (i := 2) (d := 9) (listed' := #[true, true, true, false, false, true, false, false, false, false, false, true, false]) rfl (by kernel_rfl) rfl (by rfl) (by kernel_rfl) ?en0n11n2 (pick_any (q := 7) (by omega) (by omega) (by omega) hn Rn0n11 (HBY (c0.trans Cn0n11)) hB) ?_
        case en0n11n2 => (go_simp; try rfl)
        rintro e wvn0n11n2 ⟨vn0n11n2, rfl, un0n11n2, tn0n11n2, Rn0n11n2, On0n11n2⟩
        have cgn0n11n2 := Chg.of_only On0n11n2
        have Cn0n11n2 := Cn0n11.trans cgn0n11n2
        have rbWn0n11n2 : rb < wvn0n11n2.heap.size := Nat.lt_of_lt_of_le rbWn0n11 cgn0n11n2.size
        obtain ⟨jn0n11n2, rfl⟩ : ∃ j : Nat, vn0n11n2 = (j : Int) := ⟨vn0n11n2.toNat, by omega⟩
        have bxn0n11n2 := (cgn0n11n2.block ban0n11 (Array.getElem?_eq_some_iff.1 bxn0n11).1 nban0n11).trans bxn0n11
        have Sn0n11n2 : (fun w' => ∀ j, j < 7 → w'.cell? ⟨bln0, j, none⟩ = some (.int .i64 (kindF j))) wvn0n11n2 := fun j hj => cgn0n11n2.at_cell (by show ¬ (bln0 = rb); exact nbn0) (Sn0n11 j hj)
        have hj1 : jn0n11n2 < 7 := by omega
        obtain ⟨K1, eK1⟩ : ∃ K, kindF jn0n11n2 = K := ⟨_, rfl⟩
        have hK1 := kindF_le jn0n11n2 hj1
        rw [eK1] at hK1
        have EK1 := Lib.hid eK1
        clear eK1
        refine ⟨_, rfl, Sn0n11n2, ?_⟩
        simp only [List.setIfInBounds_toArray, List.set_cons_zero, List.set_cons_succ]
        refine hold_take (i := 3) (d := 10) (v := ?vqn0n11n2x3) (listed' := #[true, true, true, true, false, true, false, false, false, false, false, true, false]) rfl (by kernel_rfl) (by kernel_rfl) (by kernel_rfl) rfl (by rfl) (by kernel_rfl) Sn0n11n2 ?hqn0n11n2x3 ?rqn0n11n2x3
        case hqn0n11n2x3 =>
          intro w' hSw
          have kk := hSw jn0n11n2 hj1; rw [EK1.out] at kk; clear hSw
          go_simp
          try with_reducible rfl
        simp only [List.setIfInBounds_toArray, List.set_cons_zero, List.set_cons_succ]
        refine hold_take (i := 4) (d := 11) (v := ?vqn0n11n2x4) (listed' := #[true, true, true, true, true, true, false, false, false, false, false, true, false]) rfl (by kernel_rfl) (by kernel_rfl) (by kernel_rfl) rfl (by rfl) (by kernel_rfl) Sn0n11n2 ?hqn0n11n2x4 ?rqn0n11n2x4
        case hqn0n11n2x4 =>
          intro w' hSw
          have kk := hSw jn0n11n2 hj1; rw [EK1.out] at kk; clear hSw
          go_simp
          try with_reducible rfl
        simp only [List.setIfInBounds_toArray, List.set_cons_zero, List.set_cons_succ]
        refine hold_call (i := 6) (d := 13) (listed' := #[true, true, true, true, true, true, true, false, false, false, false, true, false]) rfl (by kernel_rfl) rfl (by rfl) (by kernel_rfl) ?en0n11n2n6 (pick_any (q := 60) (by omega) (by omega) (by omega) hn Rn0n11n2 (HBY (c0.trans Cn0n11n2)) hB) ?_
        case en0n11n2n6 => (go_simp; try rfl)
        rintro e wvn0n11n2n6 ⟨vn0n11n2n6, rfl, un0n11n2n6, tn0n11n2n6, Rn0n11n2n6, On0n11n2n6⟩
        have cgn0n11n2n6 := Chg.of_only On0n11n2n6
        have Cn0n11n2n6 := Cn0n11n2.trans cgn0n11n2n6
        have rbWn0n11n2n6 : rb < wvn0n11n2n6.heap.size := Nat.lt_of_lt_of_le rbWn0n11n2 cgn0n11n2n6.size
        obtain ⟨jn0n11n2n6, rfl⟩ : ∃ j : Nat, vn0n11n2n6 = (j : Int) := ⟨vn0n11n2n6.toNat, by omega⟩
        have bxn0n11n2n6 := (cgn0n11n2n6.block ban0n11 (Array.getElem?_eq_some_iff.1 bxn0n11n2).1 nban0n11).trans bxn0n11n2
        have Sn0n11n2n6 : (fun w' => ∀ j, j < 7 → w'.cell? ⟨bln0, j, none⟩ = some (.int .i64 (kindF j))) wvn0n11n2n6 := fun j hj => cgn0n11n2n6.at_cell (by show ¬ (bln0 = rb); exact nbn0) (Sn0n11n2 j hj)
        obtain ⟨q2, eq2, hq2⟩ : ∃ q : Nat, (jn0n11n2n6 : Int) / 59 = (q : Int) ∧ q ≤ 1 := ⟨jn0n11n2n6 / 59, rfl, by omega⟩
        have w1q : IntKind.i64.wrap (q2 : Int) = (q2 : Int) := by rw [IntKind.wrap_i64]; omega
        have w2q : IntKind.i64.wrap ((q2 : Int) * 5) = (q2 : Int) * 5 := by rw [IntKind.wrap_i64]; omega
        have w3q : IntKind.i64.wrap (K1 + (q2 : Int) * 5) = K1 + (q2 : Int) * 5 := by rw [IntKind.wrap_i64]; omega
        refine ⟨_, rfl, Sn0n11n2n6, ?_⟩
        simp only [List.setIfInBounds_toArray, List.set_cons_zero, List.set_cons_succ]
        refine hold_take (i := 7) (d := 14) (v := ?vqn0n11n2n6x7) (listed' := #[true, true, true, true, true, true, true, true, false, false, false, true, false]) rfl (by kernel_rfl) (by kernel_rfl) (by kernel_rfl) rfl (by rfl) (by kernel_rfl) Sn0n11n2n6 ?hqn0n11n2n6x7 ?rqn0n11n2n6x7
        case hqn0n11n2n6x7 =>
          intro w' hSw
          have kk := hSw jn0n11n2 hj1; rw [EK1.out] at kk; clear hSw
          go_simp
          try with_reducible rfl
        simp only [List.setIfInBounds_toArray, List.set_cons_zero, List.set_cons_succ]
        refine hold_take (i := 8) (d := 15) (v := ?vqn0n11n2n6x8) (listed' := #[true, true, true, true, true, true, true, true, true, false, false, true, false]) rfl (by kernel_rfl) (by kernel_rfl) (by kernel_rfl) rfl (by rfl) (by kernel_rfl) Sn0n11n2n6 ?hqn0n11n2n6x8 ?rqn0n11n2n6x8
        case hqn0n11n2n6x8 =>
          intro w' hSw
          have kk := hSw jn0n11n2 hj1; rw [EK1.out] at kk; clear hSw
          go_simp
          try with_reducible rfl
        simp only [List.setIfInBounds_toArray, List.set_cons_zero, List.set_cons_succ]
        refine hold_take (i := 9) (d := 16) (v := ?vqn0n11n2n6x9) (listed' := #[true, true, true, true, true, true, true, true, true, true, false, true, false]) rfl (by kernel_rfl) (by kernel_rfl) (by kernel_rfl) rfl (by rfl) (by kernel_rfl) Sn0n11n2n6 ?hqn0n11n2n6x9 ?rqn0n11n2n6x9
        case hqn0n11n2n6x9 =>
          intro w' hSw
          have kk := hSw jn0n11n2 hj1; rw [EK1.out] at kk; clear hSw
          go_simp
          try with_reducible rfl
        simp only [List.setIfInBounds_toArray, List.set_cons_zero, List.set_cons_succ]
        refine hold_take (i := 10) (d := 17) (v := ?vqn0n11n2n6x10) (listed' := #[true, true, true, true, true, true, true, true, true, true, true, true, false]) rfl (by kernel_rfl) (by kernel_rfl) (by kernel_rfl) rfl (by rfl) (by kernel_rfl) Sn0n11n2n6 ?hqn0n11n2n6x10 ?rqn0n11n2n6x10
        case hqn0n11n2n6x10 =>
          intro w' hSw
          have kk := hSw jn0n11n2 hj1; rw [EK1.out] at kk; clear hSw
          go_simp
          try with_reducible rfl
        simp only [List.setIfInBounds_toArray, List.set_cons_zero, List.set_cons_succ]
        have d0n0n11n2n6n12 := Go.Joins.cell_of_block bxn0n11n2n6 0
        have d1n0n11n2n6n12 := Go.Joins.cell_of_block bxn0n11n2n6 1
        have d2n0n11n2n6n12 := Go.Joins.cell_of_block bxn0n11n2n6 2
        have f0n0n11n2n6n12 := Go.Joins.unfrozen_of_block bxn0n11n2n6 0
        have f1n0n11n2n6n12 := Go.Joins.unfrozen_of_block bxn0n11n2n6 1
        have f2n0n11n2n6n12 := Go.Joins.unfrozen_of_block bxn0n11n2n6 2
        have hb3n0n11n2n6n12 := Go.Joins.block_setCell (Go.Joins.block_setCell (Go.Joins.block_setCell (i := 0) bxn0n11n2n6 (.int .i64 (K1 + (q2 : Int) * 5))) (i := 1) (.int .i64 0)) (i := 2) (.int .i64 0)
        have csn0n11n2n6n12 : Chg (fun j => j = ban0n11) wvn0n11n2n6 (((wvn0n11n2n6.setCell ⟨ban0n11, 0, none⟩ (.int .i64 (K1 + (q2 : Int) * 5))).setCell ⟨ban0n11, 1, none⟩ (.int .i64 0)).setCell ⟨ban0n11, 2, none⟩ (.int .i64 0)) := ((Chg.set (S := fun j => j = ban0n11) rfl _).trans (Chg.set (S := fun j => j = ban0n11) rfl _)).trans (Chg.set (S := fun j => j = ban0n11) rfl _)
        have nln0n11n2n6n12 : ¬ (bln0 = ban0n11) := fun e => by
          have h1 := Sn0n11n2n6 0 (by omega)
          have h2 := Sn0n11n2n6 2 (by omega)
          have h3 := Sn0n11n2n6 3 (by omega)
          rw [e, Go.Joins.cell_of_block bxn0n11n2n6] at h3
          simp at h3
        have Sn0n11n2n6n12 : (fun w' => ∀ j, j < 7 → w'.cell? ⟨bln0, j, none⟩ = some (.int .i64 (kindF j))) (((wvn0n11n2n6.setCell ⟨ban0n11, 0, none⟩ (.int .i64 (K1 + (q2 : Int) * 5))).setCell ⟨ban0n11, 1, none⟩ (.int .i64 0)).setCell ⟨ban0n11, 2, none⟩ (.int .i64 0)) := fun j hj => csn0n11n2n6n12.at_cell nln0n11n2n6n12 (Sn0n11n2n6 j hj)
        refine hold_store (i := 12) (w' := (((wvn0n11n2n6.setCell ⟨ban0n11, 0, none⟩ (.int .i64 (K1 + (q2 : Int) * 5))).setCell ⟨ban0n11, 1, none⟩ (.int .i64 0)).setCell ⟨ban0n11, 2, none⟩ (.int .i64 0))) (listed' := #[true, true, true, true, true, true, true, true, true, true, true, true, true]) rfl (by kernel_rfl) rfl (by rfl) (by kernel_rfl) ?sn0n11n2n6n12 Sn0n11n2n6n12 ?_
        case sn0n11n2n6n12 => go_simp
        refine hold_done (by kernel_rfl) ?_ _
        have ho := Cn0n11n2n6
        have hc := csn0n11n2n6n12
        have hDD : DD w0 rb A n c ban0n11 ⟨K1 + (q2 : Int) * 5, 0, 0⟩ (p + 1 + 1) (((wvn0n11n2n6.setCell ⟨ban0n11, 0, none⟩ (.int .i64 (K1 + (q2 : Int) * 5))).setCell ⟨ban0n11, 1, none⟩ (.int .i64 0)).setCell ⟨ban0n11, 2, none⟩ (.int .i64 0)) := ⟨by simpa using hb3n0n11n2n6n12, hban0n11, hrb0, hc.rd Rn0n11n2n6 rbWn0n11n2n6 (by have := nban0n11; omega), ⟨hc.os.trans ho.os, hc.tape.trans ho.tape, hc.output.trans ho.output, Nat.le_trans ho.size hc.size, fun j hj hs => (hc.block j (Nat.lt_of_lt_of_le hj ho.size) (by have := hban0n11; omega)).trans (ho.block j hj hs)⟩⟩
        generalize (((wvn0n11n2n6.setCell ⟨ban0n11, 0, none⟩ (.int .i64 (K1 + (q2 : Int) * 5))).setCell ⟨ban0n11, 1, none⟩ (.int .i64 0)).setCell ⟨ban0n11, 2, none⟩ (.int .i64 0)) = WZ at hDD ⊢
        go_wp2_with fail
        go_meet
        exact ⟨_, _, _, rfl, hDD, by omega⟩
    case gn2 =>
      refine opH_call (i := 2) (d := 9) (listed' := #[false, true, true, false, false, true, false, false, false, false, false, false, false]) rfl rfl (by rfl) (by kernel_rfl) ?en2 (pick_any (q := 7) (by omega) (by omega) (by omega) hn hRd (HBY (c0.trans hCd)) hB) ?_
      case en2 => (go_simp; try rfl)
      rintro e wvn2 ⟨vn2, rfl, un2, tn2, Rn2, On2⟩
      have cgn2 := Chg.of_only On2
      have Cn2 := hCd.trans cgn2
      have rbWn2 : rb < wvn2.heap.size := Nat.lt_of_lt_of_le hrbd cgn2.size
      obtain ⟨jn2, rfl⟩ : ∃ j : Nat, vn2 = (j : Int) := ⟨vn2.toNat, by omega⟩
      have hj1 : jn2 < 7 := by omega
      obtain ⟨K1, eK1⟩ : ∃ K, kindF jn2 = K := ⟨_, rfl⟩
      have hK1 := kindF_le jn2 hj1
      rw [eK1] at hK1
      have EK1 := Lib.hid eK1
      clear eK1
      refine ⟨_, rfl, trivial, ?_⟩
      simp only [List.setIfInBounds_toArray, List.set_cons_zero, List.set_cons_succ]
      refine hold_of_three (i := 0) (j := 6) (l := 11) (by kernel_rfl) ?gn2n0 ?gn2n6 ?gn2n11
      case gn2n0 =>
        have Xn2n0 := BoxN.start wvn2 #[.int .i64 0, .int .i64 0, .int .i64 1, .int .i64 2, .int .i64 3, .int .i64 3, .int .i64 4] 3
        have kn2n0 : ∀ j, j < 7 → (wvn2.alloc (.cells #[.int .i64 0, .int .i64 0, .int .i64 1, .int .i64 2, .int .i64 3, .int .i64 3, .int .i64 4] 3)).cell? ⟨wvn2.heap.size, j, none⟩ = some (.int .i64 (kindF j)) := fun j hj => by
          rcases (by omega : j = 0 ∨ j = 1 ∨ j = 2 ∨ j = 3 ∨ j = 4 ∨ j = 5 ∨ j = 6) with rfl | rfl | rfl | rfl | rfl | rfl | rfl
          all_goals exact Xn2n0.cell _ rfl
        have cgn2n0 := Chg.alloc (fun j => j = rb) wvn2 (.cells #[.int .i64 0, .int .i64 0, .int .i64 1, .int .i64 2, .int .i64 3, .int .i64 3, .int .i64 4] 3)
        have Rn2n0 := (Chg.alloc (fun _ => False) wvn2 (.cells #[.int .i64 0, .int .i64 0, .int .i64 1, .int .i64 2, .int .i64 3, .int .i64 3, .int .i64 4] 3)).rd Rn2 rbWn2 (fun e => e)
        have Cn2n0 := Cn2.trans cgn2n0
        have rbWn2n0 : rb < (wvn2.alloc (.cells #[.int .i64 0, .int .i64 0, .int .i64 1, .int .i64 2, .int .i64 3, .int .i64 3, .int .i64 4] 3)).heap.size := Nat.lt_of_lt_of_le rbWn2 cgn2n0.size
        obtain ⟨bln2n0, ebln2n0⟩ : ∃ q, wvn2.heap.size = q := ⟨_, rfl⟩
        have nbn2n0 : ¬ (bln2n0 = rb) := by rw [← ebln2n0]; have := rbWn2; omega
        refine opH_value (i := 0) (d := 7) (listed' := #[true, true, true, false, false, true, false, false, false, false, false, false, false]) rfl rfl (by rfl) (by kernel_rfl) (v := .slice (some ⟨wvn2.heap.size, 0, none⟩) 7 7) (w' := wvn2.alloc (.cells #[.int .i64 0, .int .i64 0, .int .i64 1, .int .i64 2, .int .i64 3, .int .i64 3, .int .i64 4] 3)) ?vn2n0 trivial ?_
        case vn2n0 =>
          go_simp
          try with_reducible rfl
        rw [ebln2n0] at kn2n0 ⊢
        clear ebln2n0 Xn2n0 cgn2n0
        generalize wvn2.alloc (.cells #[.int .i64 0, .int .i64 0, .int .i64 1, .int .i64 2, .int .i64 3, .int .i64 3, .int .i64 4] 3) = wvn2n0 at kn2n0 Rn2n0 Cn2n0 rbWn2n0 ⊢
        simp only [List.setIfInBounds_toArray, List.set_cons_zero, List.set_cons_succ]
        refine hold_stronger (S' := fun w' => ∀ j, j < 7 → w'.cell? ⟨bln2n0, j, none⟩ = some (.int .i64 (kindF j))) (fun _ _ => trivial) _ _ _ _ ?_
        have Sn2n0 : (fun w' => ∀ j, j < 7 → w'.cell? ⟨bln2n0, j, none⟩ = some (.int .i64 (kindF j))) wvn2n0 := kn2n0
        refine hold_take (i := 3) (d := 10) (v := ?vqn2n0x3) (listed' := #[true, true, true, true, false, true, false, false, false, false, false, false, false]) rfl (by kernel_rfl) (by kernel_rfl) (by kernel_rfl) rfl (by rfl) (by kernel_rfl) Sn2n0 ?hqn2n0x3 ?rqn2n0x3
        case hqn2n0x3 =>
          intro w' hSw
          have kk := hSw jn2 hj1; rw [EK1.out] at kk; clear hSw
          go_simp
          try with_reducible rfl
        simp only [List.setIfInBounds_toArray, List.set_cons_zero, List.set_cons_succ]
        refine hold_take (i := 4) (d := 11) (v := ?vqn2n0x4) (listed' := #[true, true, true, true, true, true, false, false, false, false, false, false, false]) rfl (by kernel_rfl) (by kernel_rfl) (by kernel_rfl) rfl (by rfl) (by kernel_rfl) Sn2n0 ?hqn2n0x4 ?rqn2n0x4
        case hqn2n0x4 =>
          intro w' hSw
          have kk := hSw jn2 hj1; rw [EK1.out] at kk; clear hSw
          go_simp
          try with_reducible rfl
        simp only [List.setIfInBounds_toArray, List.set_cons_zero, List.set_cons_succ]
        refine hold_two (i := 6) (j := 11) (by kernel_rfl) ?gn2n0n6 ?gn2n0n11
        case gn2n0n6 =>
          refine opH_call (i := 6) (d := 13) (listed' := #[true, true, true, true, true, true, true, false, false, false, false, false, false]) rfl rfl (by rfl) (by kernel_rfl) ?en2n0n6 (pick_any (q := 60) (by omega) (by omega) (by omega) hn Rn2n0 (HBY (c0.trans Cn2n0)) hB) ?_
          case en2n0n6 => (go_simp; try rfl)
          rintro e wvn2n0n6 ⟨vn2n0n6, rfl, un2n0n6, tn2n0n6, Rn2n0n6, On2n0n6⟩
          have cgn2n0n6 := Chg.of_only On2n0n6
          have Cn2n0n6 := Cn2n0.trans cgn2n0n6
          have rbWn2n0n6 : rb < wvn2n0n6.heap.size := Nat.lt_of_lt_of_le rbWn2n0 cgn2n0n6.size
          obtain ⟨jn2n0n6, rfl⟩ : ∃ j : Nat, vn2n0n6 = (j : Int) := ⟨vn2n0n6.toNat, by omega⟩
          have Sn2n0n6 : (fun w' => ∀ j, j < 7 → w'.cell? ⟨bln2n0, j, none⟩ = some (.int .i64 (kindF j))) wvn2n0n6 := fun j hj => cgn2n0n6.at_cell (by show ¬ (bln2n0 = rb); exact nbn2n0) (Sn2n0 j hj)
          obtain ⟨q2, eq2, hq2⟩ : ∃ q : Nat, (jn2n0n6 : Int) / 59 = (q : Int) ∧ q ≤ 1 := ⟨jn2n0n6 / 59, rfl, by omega⟩
          have w1q : IntKind.i64.wrap (q2 : Int) = (q2 : Int) := by rw [IntKind.wrap_i64]; omega
          have w2q : IntKind.i64.wrap ((q2 : Int) * 5) = (q2 : Int) * 5 := by rw [IntKind.wrap_i64]; omega
          have w3q : IntKind.i64.wrap (K1 + (q2 : Int) * 5) = K1 + (q2 : Int) * 5 := by rw [IntKind.wrap_i64]; omega
          refine ⟨_, rfl, Sn2n0n6, ?_⟩
          simp only [List.setIfInBounds_toArray, List.set_cons_zero, List.set_cons_succ]
          refine hold_take (i := 7) (d := 14) (v := ?vqn2n0n6x7) (listed' := #[true, true, true, true, true, true, true, true, false, false, false, false, false]) rfl (by kernel_rfl) (by kernel_rfl) (by kernel_rfl) rfl (by rfl) (by kernel_rfl) Sn2n0n6 ?hqn2n0n6x7 ?rqn2n0n6x7
          case hqn2n0n6x7 =>
            intro w' hSw
            have kk := hSw jn2 hj1; rw [EK1.out] at kk; clear hSw
            go_simp
            try with_reducible rfl
          simp only [List.setIfInBounds_toArray, List.set_cons_zero, List.set_cons_succ]
          refine hold_take (i := 8) (d := 15) (v := ?vqn2n0n6x8) (listed' := #[true, true, true, true, true, true, true, true, true, false, false, false, false]) rfl (by kernel_rfl) (by kernel_rfl) (by kernel_rfl) rfl (by rfl) (by kernel_rfl) Sn2n0n6 ?hqn2n0n6x8 ?rqn2n0n6x8
          case hqn2n0n6x8 =>
            intro w' hSw
            have kk := hSw jn2 hj1; rw [EK1.out] at kk; clear hSw
            go_simp
            try with_reducible rfl
          simp only [List.setIfInBounds_toArray, List.set_cons_zero, List.set_cons_succ]
          refine hold_take (i := 9) (d := 16) (v := ?vqn2n0n6x9) (listed' := #[true, true, true, true, true, true, true, true, true, true, false, false, false]) rfl (by kernel_rfl) (by kernel_rfl) (by kernel_rfl) rfl (by rfl) (by kernel_rfl) Sn2n0n6 ?hqn2n0n6x9 ?rqn2n0n6x9
          case hqn2n0n6x9 =>
            intro w' hSw
            have kk := hSw jn2 hj1; rw [EK1.out] at kk; clear hSw
            go_simp
            try with_reducible rfl
          simp only [List.setIfInBounds_toArray, List.set_cons_zero, List.set_cons_succ]
          refine hold_take (i := 10) (d := 17) (v := ?vqn2n0n6x10) (listed' := #[true, true, true, true, true, true, true, true, true, true, true, false, false]) rfl (by kernel_rfl) (by kernel_rfl) (by kernel_rfl) rfl (by rfl) (by kernel_rfl) Sn2n0n6 ?hqn2n0n6x10 ?rqn2n0n6x10
          case hqn2n0n6x10 =>
            intro w' hSw
            have kk := hSw jn2 hj1; rw [EK1.out] at kk; clear hSw
            go_simp
            try with_reducible rfl
          simp only [List.setIfInBounds_toArray, List.set_cons_zero, List.set_cons_succ]
          have Xn2n0n6n11 := BoxN.start wvn2n0n6 #[.int .i64 0, .int .i64 0, .int .i64 0] 70
          have bxn2n0n6n11 := Xn2n0n6n11.heap
          have cgn2n0n6n11 := Chg.alloc (fun j => j = rb) wvn2n0n6 (.cells #[.int .i64 0, .int .i64 0, .int .i64 0] 70)
          have can2n0n6n11 := Chg.alloc (fun _ => False) wvn2n0n6 (.cells #[.int .i64 0, .int .i64 0, .int .i64 0] 70)
          have Rn2n0n6n11 := can2n0n6n11.rd Rn2n0n6 rbWn2n0n6 (fun e => e)
          have hban2n0n6n11 : w0.heap.size ≤ wvn2n0n6.heap.size := Cn2n0n6.size
          have Cn2n0n6n11 := Cn2n0n6.trans cgn2n0n6n11
          have rbWn2n0n6n11 : rb < (wvn2n0n6.alloc (.cells #[.int .i64 0, .int .i64 0, .int .i64 0] 70)).heap.size := Nat.lt_of_lt_of_le rbWn2n0n6 cgn2n0n6n11.size
          have Sn2n0n6n11 : (fun w' => ∀ j, j < 7 → w'.cell? ⟨bln2n0, j, none⟩ = some (.int .i64 (kindF j))) (wvn2n0n6.alloc (.cells #[.int .i64 0, .int .i64 0, .int .i64 0] 70)) := fun j hj => can2n0n6n11.at_cell (by show ¬ False; exact (fun e => e)) (Sn2n0n6 j hj)
          obtain ⟨ban2n0n6n11, eban2n0n6n11⟩ : ∃ q, wvn2n0n6.heap.size = q := ⟨_, rfl⟩
          have nban2n0n6n11 : ¬ (ban2n0n6n11 = rb) := by rw [← eban2n0n6n11]; have := rbWn2n0n6; omega
          refine hold_value (i := 11) (d := 5) (listed' := #[true, true, true, true, true, true, true, true, true, true, true, true, false]) rfl (by kernel_rfl) rfl (by rfl) (by kernel_rfl) (v := .pointer (some ⟨wvn2n0n6.heap.size, 0, none⟩)) (w' := wvn2n0n6.alloc (.cells #[.int .i64 0, .int .i64 0, .int .i64 0] 70)) ?vn2n0n6n11 Sn2n0n6n11 ?_
          case vn2n0n6n11 =>
            go_simp
            try with_reducible rfl
          rw [eban2n0n6n11] at bxn2n0n6n11 hban2n0n6n11 ⊢
          clear eban2n0n6n11 Xn2n0n6n11 cgn2n0n6n11 can2n0n6n11
          generalize wvn2n0n6.alloc (.cells #[.int .i64 0, .int .i64 0, .int .i64 0] 70) = wvn2n0n6n11 at bxn2n0n6n11 Rn2n0n6n11 Cn2n0n6n11 rbWn2n0n6n11 Sn2n0n6n11 ⊢
          simp only [List.setIfInBounds_toArray, List.set_cons_zero, List.set_cons_succ]
          have d0n2n0n6n11n12 := Go.Joins.cell_of_block bxn2n0n6n11 0
          have d1n2n0n6n11n12 := Go.Joins.cell_of_block bxn2n0n6n11 1
          have d2n2n0n6n11n12 := Go.Joins.cell_of_block bxn2n0n6n11 2
          have f0n2n0n6n11n12 := Go.Joins.unfrozen_of_block bxn2n0n6n11 0
          have f1n2n0n6n11n12 := Go.Joins.unfrozen_of_block bxn2n0n6n11 1
          have f2n2n0n6n11n12 := Go.Joins.unfrozen_of_block bxn2n0n6n11 2
          have hb3n2n0n6n11n12 := Go.Joins.block_setCell (Go.Joins.block_setCell (Go.Joins.block_setCell (i := 0) bxn2n0n6n11 (.int .i64 (K1 + (q2 : Int) * 5))) (i := 1) (.int .i64 0)) (i := 2) (.int .i64 0)
          have csn2n0n6n11n12 : Chg (fun j => j = ban2n0n6n11) wvn2n0n6n11 (((wvn2n0n6n11.setCell ⟨ban2n0n6n11, 0, none⟩ (.int .i64 (K1 + (q2 : Int) * 5))).setCell ⟨ban2n0n6n11, 1, none⟩ (.int .i64 0)).setCell ⟨ban2n0n6n11, 2, none⟩ (.int .i64 0)) := ((Chg.set (S := fun j => j = ban2n0n6n11) rfl _).trans (Chg.set (S := fun j => j = ban2n0n6n11) rfl _)).trans (Chg.set (S := fun j => j = ban2n0n6n11) rfl _)
          have nln2n0n6n11n12 : ¬ (bln2n0 = ban2n0n6n11) := fun e => by
            have h1 := Sn2n0n6n11 0 (by omega)
            have h2 := Sn2n0n6n11 2 (by omega)
            have h3 := Sn2n0n6n11 3 (by omega)
            rw [e, Go.Joins.cell_of_block bxn2n0n6n11] at h3
            simp at h3
          have Sn2n0n6n11n12 : (fun w' => ∀ j, j < 7 → w'.cell? ⟨bln2n0, j, none⟩ = some (.int .i64 (kindF j))) (((wvn2n0n6n11.setCell ⟨ban2n0n6n11, 0, none⟩ (.int .i64 (K1 + (q2 : Int) * 5))).setCell ⟨ban2n0n6n11, 1, none⟩ (.int .i64 0)).setCell ⟨ban2n0n6n11, 2, none⟩ (.int .i64 0)) := fun j hj => csn2n0n6n11n12.at_cell nln2n0n6n11n12 (Sn2n0n6n11 j hj)
          refine hold_store (i := 12) (w' := (((wvn2n0n6n11.setCell ⟨ban2n0n6n11, 0, none⟩ (.int .i64 (K1 + (q2 : Int) * 5))).setCell ⟨ban2n0n6n11, 1, none⟩ (.int .i64 0)).setCell ⟨ban2n0n6n11, 2, none⟩ (.int .i64 0))) (listed' := #[true, true, true, true, true, true, true, true, true, true, true, true, true]) rfl (by kernel_rfl) rfl (by rfl) (by kernel_rfl) ?sn2n0n6n11n12 Sn2n0n6n11n12 ?_
          case sn2n0n6n11n12 => go_simp
          refine hold_done (by kernel_rfl) ?_ _
          have ho := Cn2n0n6n11
          have hc := csn2n0n6n11n12
          have hDD : DD w0 rb A n c ban2n0n6n11 ⟨K1 + (q2 : Int) * 5, 0, 0⟩ (p + 1 + 1) (((wvn2n0n6n11.setCell ⟨ban2n0n6n11, 0, none⟩ (.int .i64 (K1 + (q2 : Int) * 5))).setCell ⟨ban2n0n6n11, 1, none⟩ (.int .i64 0)).setCell ⟨ban2n0n6n11, 2, none⟩ (.int .i64 0)) := ⟨by simpa using hb3n2n0n6n11n12, hban2n0n6n11, hrb0, hc.rd Rn2n0n6n11 rbWn2n0n6n11 (by have := nban2n0n6n11; omega), ⟨hc.os.trans ho.os, hc.tape.trans ho.tape, hc.output.trans ho.output, Nat.le_trans ho.size hc.size, fun j hj hs => (hc.block j (Nat.lt_of_lt_of_le hj ho.size) (by have := hban2n0n6n11; omega)).trans (ho.block j hj hs)⟩⟩
          generalize (((wvn2n0n6n11.setCell ⟨ban2n0n6n11, 0, none⟩ (.int .i64 (K1 + (q2 : Int) * 5))).setCell ⟨ban2n0n6n11, 1, none⟩ (.int .i64 0)).setCell ⟨ban2n0n6n11, 2, none⟩ (.int .i64 0)) = WZ at hDD ⊢
          go_wp2_with fail
          go_meet
          exact ⟨_, _, _, rfl, hDD, by omega⟩
        case gn2n0n11 =>
          have Xn2n0n11 := BoxN.start wvn2n0 #[.int .i64 0, .int .i64 0, .int .i64 0] 70
          have bxn2n0n11 := Xn2n0n11.heap
          have cgn2n0n11 := Chg.alloc (fun j => j = rb) wvn2n0 (.cells #[.int .i64 0, .int .i64 0, .int .i64 0] 70)
          have can2n0n11 := Chg.alloc (fun _ => False) wvn2n0 (.cells #[.int .i64 0, .int .i64 0, .int .i64 0] 70)
          have Rn2n0n11 := can2n0n11.rd Rn2n0 rbWn2n0 (fun e => e)
          have hban2n0n11 : w0.heap.size ≤ wvn2n0.heap.size := Cn2n0.size
          have Cn2n0n11 := Cn2n0.trans cgn2n0n11
          have rbWn2n0n11 : rb < (wvn2n0.alloc (.cells #[.int .i64 0, .int .i64 0, .int .i64 0] 70)).heap.size := Nat.lt_of_lt_of_le rbWn2n0 cgn2n0n11.size
          have Sn2n0n11 : (fun w' => ∀ j, j < 7 → w'.cell? ⟨bln2n0, j, none⟩ = some (.int .i64 (kindF j))) (wvn2n0.alloc (.cells #[.int .i64 0, .int .i64 0, .int .i64 0] 70)) := fun j hj => can2n0n11.at_cell (by show ¬ False; exact (fun e => e)) (Sn2n0 j hj)
          obtain ⟨ban2n0n11, eban2n0n11⟩ : ∃ q, wvn2n0.heap.size = q := ⟨_, rfl⟩
          have nban2n0n11 : ¬ (ban2n0n11 = rb) := by rw [← eban2n0n11]; have := rbWn2n0; omega
          refine opH_value (i := 11) (d := 5) (listed' := #[true, true, true, true, true, true, false, false, false, false, false, true, false]) rfl rfl (by rfl) (by kernel_rfl) (v := .pointer (some ⟨wvn2n0.heap.size, 0, none⟩)) (w' := wvn2n0.alloc (.cells #[.int .i64 0, .int .i64 0, .int .i64 0] 70)) ?vn2n0n11 Sn2n0n11 ?_
          case vn2n0n11 =>
            go_simp
            try with_reducible rfl
          rw [eban2n0n11] at bxn2n0n11 hban2n0n11 ⊢
          clear eban2n0n11 Xn2n0n11 cgn2n0n11 can2n0n11
          generalize wvn2n0.alloc (.cells #[.int .i64 0, .int .i64 0, .int .i64 0] 70) = wvn2n0n11 at bxn2n0n11 Rn2n0n11 Cn2n0n11 rbWn2n0n11 Sn2n0n11 ⊢
          simp only [List.setIfInBounds_toArray, List.set_cons_zero, List.set_cons_succ]
          refine hold_call (i := 6) (d := 13) (listed' := #[true, true, true, true, true, true, true, false, false, false, false, true, false]) rfl (by kernel_rfl) rfl (by rfl) (by kernel_rfl) ?en2n0n11n6 (pick_any (q := 60) (by omega) (by omega) (by omega) hn Rn2n0n11 (HBY (c0.trans Cn2n0n11)) hB) ?_
          case en2n0n11n6 => (go_simp; try rfl)
          rintro e wvn2n0n11n6 ⟨vn2n0n11n6, rfl, un2n0n11n6, tn2n0n11n6, Rn2n0n11n6, On2n0n11n6⟩
          have cgn2n0n11n6 := Chg.of_only On2n0n11n6
          have Cn2n0n11n6 := Cn2n0n11.trans cgn2n0n11n6
          have rbWn2n0n11n6 : rb < wvn2n0n11n6.heap.size := Nat.lt_of_lt_of_le rbWn2n0n11 cgn2n0n11n6.size
          obtain ⟨jn2n0n11n6, rfl⟩ : ∃ j : Nat, vn2n0n11n6 = (j : Int) := ⟨vn2n0n11n6.toNat, by omega⟩
          have bxn2n0n11n6 := (cgn2n0n11n6.block ban2n0n11 (Array.getElem?_eq_some_iff.1 bxn2n0n11).1 nban2n0n11).trans bxn2n0n11
          have Sn2n0n11n6 : (fun w' => ∀ j, j < 7 → w'.cell? ⟨bln2n0, j, none⟩ = some (.int .i64 (kindF j))) wvn2n0n11n6 := fun j hj => cgn2n0n11n6.at_cell (by show ¬ (bln2n0 = rb); exact nbn2n0) (Sn2n0n11 j hj)
          obtain ⟨q2, eq2, hq2⟩ : ∃ q : Nat, (jn2n0n11n6 : Int) / 59 = (q : Int) ∧ q ≤ 1 := ⟨jn2n0n11n6 / 59, rfl, by omega⟩
          have w1q : IntKind.i64.wrap (q2 : Int) = (q2 : Int) := by rw [IntKind.wrap_i64]; omega
          have w2q : IntKind.i64.wrap ((q2 : Int) * 5) = (q2 : Int) * 5 := by rw [IntKind.wrap_i64]; omega
          have w3q : IntKind.i64.wrap (K1 + (q2 : Int) * 5) = K1 + (q2 : Int) * 5 := by rw [IntKind.wrap_i64]; omega
          refine ⟨_, rfl, Sn2n0n11n6, ?_⟩
          simp only [List.setIfInBounds_toArray, List.set_cons_zero, List.set_cons_succ]
          refine hold_take (i := 7) (d := 14) (v := ?vqn2n0n11n6x7) (listed' := #[true, true, true, true, true, true, true, true, false, false, false, true, false]) rfl (by kernel_rfl) (by kernel_rfl) (by kernel_rfl) rfl (by rfl) (by kernel_rfl) Sn2n0n11n6 ?hqn2n0n11n6x7 ?rqn2n0n11n6x7
          case hqn2n0n11n6x7 =>
            intro w' hSw
            have kk := hSw jn2 hj1; rw [EK1.out] at kk; clear hSw
            go_simp
            try with_reducible rfl
          simp only [List.setIfInBounds_toArray, List.set_cons_zero, List.set_cons_succ]
          refine hold_take (i := 8) (d := 15) (v := ?vqn2n0n11n6x8) (listed' := #[true, true, true, true, true, true, true, true, true, false, false, true, false]) rfl (by kernel_rfl) (by kernel_rfl) (by kernel_rfl) rfl (by rfl) (by kernel_rfl) Sn2n0n11n6 ?hqn2n0n11n6x8 ?rqn2n0n11n6x8
          case hqn2n0n11n6x8 =>
            intro w' hSw
            have kk := hSw jn2 hj1; rw [EK1.out] at kk; clear hSw
            go_simp
            try with_reducible rfl
          simp only [List.setIfInBounds_toArray, List.set_cons_zero, List.set_cons_succ]
          refine hold_take (i := 9) (d := 16) (v := ?vqn2n0n11n6x9) (listed' := #[true, true, true, true, true, true, true, true, true, true, false, true, false]) rfl (by kernel_rfl) (by kernel_rfl) (by kernel_rfl) rfl (by rfl) (by kernel_rfl) Sn2n0n11n6 ?hqn2n0n11n6x9 ?rqn2n0n11n6x9
          case hqn2n0n11n6x9 =>
            intro w' hSw
            have kk := hSw jn2 hj1; rw [EK1.out] at kk; clear hSw
            go_simp
            try with_reducible rfl
          simp only [List.setIfInBounds_toArray, List.set_cons_zero, List.set_cons_succ]
          refine hold_take (i := 10) (d := 17) (v := ?vqn2n0n11n6x10) (listed' := #[true, true, true, true, true, true, true, true, true, true, true, true, false]) rfl (by kernel_rfl) (by kernel_rfl) (by kernel_rfl) rfl (by rfl) (by kernel_rfl) Sn2n0n11n6 ?hqn2n0n11n6x10 ?rqn2n0n11n6x10
          case hqn2n0n11n6x10 =>
            intro w' hSw
            have kk := hSw jn2 hj1; rw [EK1.out] at kk; clear hSw
            go_simp
            try with_reducible rfl
          simp only [List.setIfInBounds_toArray, List.set_cons_zero, List.set_cons_succ]
          have d0n2n0n11n6n12 := Go.Joins.cell_of_block bxn2n0n11n6 0
          have d1n2n0n11n6n12 := Go.Joins.cell_of_block bxn2n0n11n6 1
          have d2n2n0n11n6n12 := Go.Joins.cell_of_block bxn2n0n11n6 2
          have f0n2n0n11n6n12 := Go.Joins.unfrozen_of_block bxn2n0n11n6 0
          have f1n2n0n11n6n12 := Go.Joins.unfrozen_of_block bxn2n0n11n6 1
          have f2n2n0n11n6n12 := Go.Joins.unfrozen_of_block bxn2n0n11n6 2
          have hb3n2n0n11n6n12 := Go.Joins.block_setCell (Go.Joins.block_setCell (Go.Joins.block_setCell (i := 0) bxn2n0n11n6 (.int .i64 (K1 + (q2 : Int) * 5))) (i := 1) (.int .i64 0)) (i := 2) (.int .i64 0)
          have csn2n0n11n6n12 : Chg (fun j => j = ban2n0n11) wvn2n0n11n6 (((wvn2n0n11n6.setCell ⟨ban2n0n11, 0, none⟩ (.int .i64 (K1 + (q2 : Int) * 5))).setCell ⟨ban2n0n11, 1, none⟩ (.int .i64 0)).setCell ⟨ban2n0n11, 2, none⟩ (.int .i64 0)) := ((Chg.set (S := fun j => j = ban2n0n11) rfl _).trans (Chg.set (S := fun j => j = ban2n0n11) rfl _)).trans (Chg.set (S := fun j => j = ban2n0n11) rfl _)
          have nln2n0n11n6n12 : ¬ (bln2n0 = ban2n0n11) := fun e => by
            have h1 := Sn2n0n11n6 0 (by omega)
            have h2 := Sn2n0n11n6 2 (by omega)
            have h3 := Sn2n0n11n6 3 (by omega)
            rw [e, Go.Joins.cell_of_block bxn2n0n11n6] at h3
            simp at h3
          have Sn2n0n11n6n12 : (fun w' => ∀ j, j < 7 → w'.cell? ⟨bln2n0, j, none⟩ = some (.int .i64 (kindF j))) (((wvn2n0n11n6.setCell ⟨ban2n0n11, 0, none⟩ (.int .i64 (K1 + (q2 : Int) * 5))).setCell ⟨ban2n0n11, 1, none⟩ (.int .i64 0)).setCell ⟨ban2n0n11, 2, none⟩ (.int .i64 0)) := fun j hj => csn2n0n11n6n12.at_cell nln2n0n11n6n12 (Sn2n0n11n6 j hj)
          refine hold_store (i := 12) (w' := (((wvn2n0n11n6.setCell ⟨ban2n0n11, 0, none⟩ (.int .i64 (K1 + (q2 : Int) * 5))).setCell ⟨ban2n0n11, 1, none⟩ (.int .i64 0)).setCell ⟨ban2n0n11, 2, none⟩ (.int .i64 0))) (listed' := #[true, true, true, true, true, true, true, true, true, true, true, true, true]) rfl (by kernel_rfl) rfl (by rfl) (by kernel_rfl) ?sn2n0n11n6n12 Sn2n0n11n6n12 ?_
          case sn2n0n11n6n12 => go_simp
          refine hold_done (by kernel_rfl) ?_ _
          have ho := Cn2n0n11n6
          have hc := csn2n0n11n6n12
          have hDD : DD w0 rb A n c ban2n0n11 ⟨K1 + (q2 : Int) * 5, 0, 0⟩ (p + 1 + 1) (((wvn2n0n11n6.setCell ⟨ban2n0n11, 0, none⟩ (.int .i64 (K1 + (q2 : Int) * 5))).setCell ⟨ban2n0n11, 1, none⟩ (.int .i64 0)).setCell ⟨ban2n0n11, 2, none⟩ (.int .i64 0)) := ⟨by simpa using hb3n2n0n11n6n12, hban2n0n11, hrb0, hc.rd Rn2n0n11n6 rbWn2n0n11n6 (by have := nban2n0n11; omega), ⟨hc.os.trans ho.os, hc.tape.trans ho.tape, hc.output.trans ho.output, Nat.le_trans ho.size hc.size, fun j hj hs => (hc.block j (Nat.lt_of_lt_of_le hj ho.size) (by have := hban2n0n11; omega)).trans (ho.block j hj hs)⟩⟩
          generalize (((wvn2n0n11n6.setCell ⟨ban2n0n11, 0, none⟩ (.int .i64 (K1 + (q2 : Int) * 5))).setCell ⟨ban2n0n11, 1, none⟩ (.int .i64 0)).setCell ⟨ban2n0n11, 2, none⟩ (.int .i64 0)) = WZ at hDD ⊢
          go_wp2_with fail
          go_meet
          exact ⟨_, _, _, rfl, hDD, by omega⟩
      case gn2n6 =>
        refine opH_call (i := 6) (d := 13) (listed' := #[false, true, true, false, false, true, true, false, false, false, false, false, false]) rfl rfl (by rfl) (by kernel_rfl) ?en2n6 (pick_any (q := 60) (by omega) (by omega) (by omega) hn Rn2 (HBY (c0.trans Cn2)) hB) ?_
        case en2n6 => (go_simp; try rfl)
        rintro e wvn2n6 ⟨vn2n6, rfl, un2n6, tn2n6, Rn2n6, On2n6⟩
        have cgn2n6 := Chg.of_only On2n6
        have Cn2n6 := Cn2.trans cgn2n6
        have rbWn2n6 : rb < wvn2n6.heap.size := Nat.lt_of_lt_of_le rbWn2 cgn2n6.size
        obtain ⟨jn2n6, rfl⟩ : ∃ j : Nat, vn2n6 = (j : Int) := ⟨vn2n6.toNat, by omega⟩
        obtain ⟨q2, eq2, hq2⟩ : ∃ q : Nat, (jn2n6 : Int) / 59 = (q : Int) ∧ q ≤ 1 := ⟨jn2n6 / 59, rfl, by omega⟩
        have w1q : IntKind.i64.wrap (q2 : Int) = (q2 : Int) := by rw [IntKind.wrap_i64]; omega
        have w2q : IntKind.i64.wrap ((q2 : Int) * 5) = (q2 : Int) * 5 := by rw [IntKind.wrap_i64]; omega
        have w3q : IntKind.i64.wrap (K1 + (q2 : Int) * 5) = K1 + (q2 : Int) * 5 := by rw [IntKind.wrap_i64]; omega
        refine ⟨_, rfl, trivial, ?_⟩
        simp only [List.setIfInBounds_toArray, List.set_cons_zero, List.set_cons_succ]
        refine hold_take (i := 7) (d := 14) (v := ?vqn2n6x7) (listed' := #[false, true, true, false, false, true, true, true, false, false, false, false, false]) rfl (by kernel_rfl) (by kernel_rfl) (by kernel_rfl) rfl (by rfl) (by kernel_rfl) trivial ?hqn2n6x7 ?rqn2n6x7
        case hqn2n6x7 =>
          intro w' hSw
          clear hSw
          go_simp
          try with_reducible rfl
        simp only [List.setIfInBounds_toArray, List.set_cons_zero, List.set_cons_succ]
        refine hold_take (i := 8) (d := 15) (v := ?vqn2n6x8) (listed' := #[false, true, true, false, false, true, true, true, true, false, false, false, false]) rfl (by kernel_rfl) (by kernel_rfl) (by kernel_rfl) rfl (by rfl) (by kernel_rfl) trivial ?hqn2n6x8 ?rqn2n6x8
        case hqn2n6x8 =>
          intro w' hSw
          clear hSw
          go_simp
          try with_reducible rfl
        simp only [List.setIfInBounds_toArray, List.set_cons_zero, List.set_cons_succ]
        refine hold_two (i := 0) (j := 11) (by kernel_rfl) ?gn2n6n0 ?gn2n6n11
        case gn2n6n0 =>
          have Xn2n6n0 := BoxN.start wvn2n6 #[.int .i64 0, .int .i64 0, .int .i64 1, .int .i64 2, .int .i64 3, .int .i64 3, .int .i64 4] 3
          have kn2n6n0 : ∀ j, j < 7 → (wvn2n6.alloc (.cells #[.int .i64 0, .int .i64 0, .int .i64 1, .int .i64 2, .int .i64 3, .int .i64 3, .int .i64 4] 3)).cell? ⟨wvn2n6.heap.size, j, none⟩ = some (.int .i64 (kindF j)) := fun j hj => by
            rcases (by omega : j = 0 ∨ j = 1 ∨ j = 2 ∨ j = 3 ∨ j = 4 ∨ j = 5 ∨ j = 6) with rfl | rfl | rfl | rfl | rfl | rfl | rfl
            all_goals exact Xn2n6n0.cell _ rfl
          have cgn2n6n0 := Chg.alloc (fun j => j = rb) wvn2n6 (.cells #[.int .i64 0, .int .i64 0, .int .i64 1, .int .i64 2, .int .i64 3, .int .i64 3, .int .i64 4] 3)
          have Rn2n6n0 := (Chg.alloc (fun _ => False) wvn2n6 (.cells #[.int .i64 0, .int .i64 0, .int .i64 1, .int .i64 2, .int .i64 3, .int .i64 3, .int .i64 4] 3)).rd Rn2n6 rbWn2n6 (fun e => e)
          have Cn2n6n0 := Cn2n6.trans cgn2n6n0
          have rbWn2n6n0 : rb < (wvn2n6.alloc (.cells #[.int .i64 0, .int .i64 0, .int .i64 1, .int .i64 2, .int .i64 3, .int .i64 3, .int .i64 4] 3)).heap.size := Nat.lt_of_lt_of_le rbWn2n6 cgn2n6n0.size
          obtain ⟨bln2n6n0, ebln2n6n0⟩ : ∃ q, wvn2n6.heap.size = q := ⟨_, rfl⟩
          have nbn2n6n0 : ¬ (bln2n6n0 = rb) := by rw [← ebln2n6n0]; have := rbWn2n6; omega
          refine opH_value (i := 0) (d := 7) (listed' := #[true, true, true, false, false, true, true, true, true, false, false, false, false]) rfl rfl (by rfl) (by kernel_rfl) (v := .slice (some ⟨wvn2n6.heap.size, 0, none⟩) 7 7) (w' := wvn2n6.alloc (.cells #[.int .i64 0, .int .i64 0, .int .i64 1, .int .i64 2, .int .i64 3, .int .i64 3, .int .i64 4] 3)) ?vn2n6n0 trivial ?_
          case vn2n6n0 =>
            go_simp
            try with_reducible rfl
          rw [ebln2n6n0] at kn2n6n0 ⊢
          clear ebln2n6n0 Xn2n6n0 cgn2n6n0
          generalize wvn2n6.alloc (.cells #[.int .i64 0, .int .i64 0, .int .i64 1, .int .i64 2, .int .i64 3, .int .i64 3, .int .i64 4] 3) = wvn2n6n0 at kn2n6n0 Rn2n6n0 Cn2n6n0 rbWn2n6n0 ⊢
          simp only [List.setIfInBounds_toArray, List.set_cons_zero, List.set_cons_succ]
          refine hold_stronger (S' := fun w' => ∀ j, j < 7 → w'.cell? ⟨bln2n6n0, j, none⟩ = some (.int .i64 (kindF j))) (fun _ _ => trivial) _ _ _ _ ?_
          have Sn2n6n0 : (fun w' => ∀ j, j < 7 → w'.cell? ⟨bln2n6n0, j, none⟩ = some (.int .i64 (kindF j))) wvn2n6n0 := kn2n6n0
          refine hold_take (i := 3) (d := 10) (v := ?vqn2n6n0x3) (listed' := #[true, true, true, true, false, true, true, true, true, false, false, false, false]) rfl (by kernel_rfl) (by kernel_rfl) (by kernel_rfl) rfl (by rfl) (by kernel_rfl) Sn2n6n0 ?hqn2n6n0x3 ?rqn2n6n0x3
          case hqn2n6n0x3 =>
            intro w' hSw
            have kk := hSw jn2 hj1; rw [EK1.out] at kk; clear hSw
            go_simp
            try with_reducible rfl
          simp only [List.setIfInBounds_toArray, List.set_cons_zero, List.set_cons_succ]
          refine hold_take (i := 4) (d := 11) (v := ?vqn2n6n0x4) (listed' := #[true, true, true, true, true, true, true, true, true, false, false, false, false]) rfl (by kernel_rfl) (by kernel_rfl) (by kernel_rfl) rfl (by rfl) (by kernel_rfl) Sn2n6n0 ?hqn2n6n0x4 ?rqn2n6n0x4
          case hqn2n6n0x4 =>
            intro w' hSw
            have kk := hSw jn2 hj1; rw [EK1.out] at kk; clear hSw
            go_simp
            try with_reducible rfl
          simp only [List.setIfInBounds_toArray, List.set_cons_zero, List.set_cons_succ]
          refine hold_take (i := 9) (d := 16) (v := ?vqn2n6n0x9) (listed' := #[true, true, true, true, true, true, true, true, true, true, false, false, false]) rfl (by kernel_rfl) (by kernel_rfl) (by kernel_rfl) rfl (by rfl) (by kernel_rfl) Sn2n6n0 ?hqn2n6n0x9 ?rqn2n6n0x9
          case hqn2n6n0x9 =>
            intro w' hSw
            have kk := hSw jn2 hj1; rw [EK1.out] at kk; clear hSw
            go_simp
            try with_reducible rfl
          simp only [List.setIfInBounds_toArray, List.set_cons_zero, List.set_cons_succ]
          refine hold_take (i := 10) (d := 17) (v := ?vqn2n6n0x10) (listed' := #[true, true, true, true, true, true, true, true, true, true, true, false, false]) rfl (by kernel_rfl) (by kernel_rfl) (by kernel_rfl) rfl (by rfl) (by kernel_rfl) Sn2n6n0 ?hqn2n6n0x10 ?rqn2n6n0x10
          case hqn2n6n0x10 =>
            intro w' hSw
            have kk := hSw jn2 hj1; rw [EK1.out] at kk; clear hSw
            go_simp
            try with_reducible rfl
          simp only [List.setIfInBounds_toArray, List.set_cons_zero, List.set_cons_succ]
          have Xn2n6n0n11 := BoxN.start wvn2n6n0 #[.int .i64 0, .int .i64 0, .int .i64 0] 70
          have bxn2n6n0n11 := Xn2n6n0n11.heap
          have cgn2n6n0n11 := Chg.alloc (fun j => j = rb) wvn2n6n0 (.cells #[.int .i64 0, .int .i64 0, .int .i64 0] 70)
          have can2n6n0n11 := Chg.alloc (fun _ => False) wvn2n6n0 (.cells #[.int .i64 0, .int .i64 0, .int .i64 0] 70)
          have Rn2n6n0n11 := can2n6n0n11.rd Rn2n6n0 rbWn2n6n0 (fun e => e)
          have hban2n6n0n11 : w0.heap.size ≤ wvn2n6n0.heap.size := Cn2n6n0.size
          have Cn2n6n0n11 := Cn2n6n0.trans cgn2n6n0n11
          have rbWn2n6n0n11 : rb < (wvn2n6n0.alloc (.cells #[.int .i64 0, .int .i64 0, .int .i64 0] 70)).heap.size := Nat.lt_of_lt_of_le rbWn2n6n0 cgn2n6n0n11.size
          have Sn2n6n0n11 : (fun w' => ∀ j, j < 7 → w'.cell? ⟨bln2n6n0, j, none⟩ = some (.int .i64 (kindF j))) (wvn2n6n0.alloc (.cells #[.int .i64 0, .int .i64 0, .int .i64 0] 70)) := fun j hj => can2n6n0n11.at_cell (by show ¬ False; exact (fun e => e)) (Sn2n6n0 j hj)
          obtain ⟨ban2n6n0n11, eban2n6n0n11⟩ : ∃ q, wvn2n6n0.heap.size = q := ⟨_, rfl⟩
          have nban2n6n0n11 : ¬ (ban2n6n0n11 = rb) := by rw [← eban2n6n0n11]; have := rbWn2n6n0; omega
          refine hold_value (i := 11) (d := 5) (listed' := #[true, true, true, true, true, true, true, true, true, true, true, true, false]) rfl (by kernel_rfl) rfl (by rfl) (by kernel_rfl) (v := .pointer (some ⟨wvn2n6n0.heap.size, 0, none⟩)) (w' := wvn2n6n0.alloc (.cells #[.int .i64 0, .int .i64 0, .int .i64 0] 70)) ?vn2n6n0n11 Sn2n6n0n11 ?_
          case vn2n6n0n11 =>
            go_simp
            try with_reducible rfl
          rw [eban2n6n0n11] at bxn2n6n0n11 hban2n6n0n11 ⊢
          clear eban2n6n0n11 Xn2n6n0n11 cgn2n6n0n11 can2n6n0n11
          generalize wvn2n6n0.alloc (.cells #[.int .i64 0, .int .i64 0, .int .i64 0] 70) = wvn2n6n0n11 at bxn2n6n0n11 Rn2n6n0n11 Cn2n6n0n11 rbWn2n6n0n11 Sn2n6n0n11 ⊢
          simp only [List.setIfInBounds_toArray, List.set_cons_zero, List.set_cons_succ]
          have d0n2n6n0n11n12 := Go.Joins.cell_of_block bxn2n6n0n11 0
          have d1n2n6n0n11n12 := Go.Joins.cell_of_block bxn2n6n0n11 1
          have d2n2n6n0n11n12 := Go.Joins.cell_of_block bxn2n6n0n11 2
          have f0n2n6n0n11n12 := Go.Joins.unfrozen_of_block bxn2n6n0n11 0
          have f1n2n6n0n11n12 := Go.Joins.unfrozen_of_block bxn2n6n0n11 1
          have f2n2n6n0n11n12 := Go.Joins.unfrozen_of_block bxn2n6n0n11 2
          have hb3n2n6n0n11n12 := Go.Joins.block_setCell (Go.Joins.block_setCell (Go.Joins.block_setCell (i := 0) bxn2n6n0n11 (.int .i64 (K1 + (q2 : Int) * 5))) (i := 1) (.int .i64 0)) (i := 2) (.int .i64 0)
          have csn2n6n0n11n12 : Chg (fun j => j = ban2n6n0n11) wvn2n6n0n11 (((wvn2n6n0n11.setCell ⟨ban2n6n0n11, 0, none⟩ (.int .i64 (K1 + (q2 : Int) * 5))).setCell ⟨ban2n6n0n11, 1, none⟩ (.int .i64 0)).setCell ⟨ban2n6n0n11, 2, none⟩ (.int .i64 0)) := ((Chg.set (S := fun j => j = ban2n6n0n11) rfl _).trans (Chg.set (S := fun j => j = ban2n6n0n11) rfl _)).trans (Chg.set (S := fun j => j = ban2n6n0n11) rfl _)
          have nln2n6n0n11n12 : ¬ (bln2n6n0 = ban2n6n0n11) := fun e => by
            have h1 := Sn2n6n0n11 0 (by omega)
            have h2 := Sn2n6n0n11 2 (by omega)
            have h3 := Sn2n6n0n11 3 (by omega)
            rw [e, Go.Joins.cell_of_block bxn2n6n0n11] at h3
            simp at h3
          have Sn2n6n0n11n12 : (fun w' => ∀ j, j < 7 → w'.cell? ⟨bln2n6n0, j, none⟩ = some (.int .i64 (kindF j))) (((wvn2n6n0n11.setCell ⟨ban2n6n0n11, 0, none⟩ (.int .i64 (K1 + (q2 : Int) * 5))).setCell ⟨ban2n6n0n11, 1, none⟩ (.int .i64 0)).setCell ⟨ban2n6n0n11, 2, none⟩ (.int .i64 0)) := fun j hj => csn2n6n0n11n12.at_cell nln2n6n0n11n12 (Sn2n6n0n11 j hj)
          refine hold_store (i := 12) (w' := (((wvn2n6n0n11.setCell ⟨ban2n6n0n11, 0, none⟩ (.int .i64 (K1 + (q2 : Int) * 5))).setCell ⟨ban2n6n0n11, 1, none⟩ (.int .i64 0)).setCell ⟨ban2n6n0n11, 2, none⟩ (.int .i64 0))) (listed' := #[true, true, true, true, true, true, true, true, true, true, true, true, true]) rfl (by kernel_rfl) rfl (by rfl) (by kernel_rfl) ?sn2n6n0n11n12 Sn2n6n0n11n12 ?_
          case sn2n6n0n11n12 => go_simp
          refine hold_done (by kernel_rfl) ?_ _
          have ho := Cn2n6n0n11
          have hc := csn2n6n0n11n12
          have hDD : DD w0 rb A n c ban2n6n0n11 ⟨K1 + (q2 : Int) * 5, 0, 0⟩ (p + 1 + 1) (((wvn2n6n0n11.setCell ⟨ban2n6n0n11, 0, none⟩ (.int .i64 (K1 + (q2 : Int) * 5))).setCell ⟨ban2n6n0n11, 1, none⟩ (.int .i64 0)).setCell ⟨ban2n6n0n11, 2, none⟩ (.int .i64 0)) := ⟨by simpa using hb3n2n6n0n11n12, hban2n6n0n11, hrb0, hc.rd Rn2n6n0n11 rbWn2n6n0n11 (by have := nban2n6n0n11; omega), ⟨hc.os.trans ho.os, hc.tape.trans ho.tape, hc.output.trans ho.output, Nat.le_trans ho.size hc.size, fun j hj hs => (hc.block j (Nat.lt_of_lt_of_le hj ho.size) (by have := hban2n6n0n11; omega)).trans (ho.block j hj hs)⟩⟩
          generalize (((wvn2n6n0n11.setCell ⟨ban2n6n0n11, 0, none⟩ (.int .i64 (K1 + (q2 : Int) * 5))).setCell ⟨ban2n6n0n11, 1, none⟩ (.int .i64 0)).setCell ⟨ban2n6n0n11, 2, none⟩ (.int .i64 0)) = WZ at hDD ⊢
          go_wp2_with fail
          go_meet
          exact ⟨_, _, _, rfl, hDD, by omega⟩
        case gn2n6n11 =>
          have Xn2n6n11 := BoxN.start wvn2n6 #[.int .i64 0, .int .i64 0, .int .i64 0] 70
          have bxn2n6n11 := Xn2n6n11.heap
          have cgn2n6n11 := Chg.alloc (fun j => j = rb) wvn2n6 (.cells #[.int .i64 0, .int .i64 0, .int .i64 0] 70)
          have can2n6n11 := Chg.alloc (fun _ => False) wvn2n6 (.cells #[.int .i64 0, .int .i64 0, .int .i64 0] 70)
          have Rn2n6n11 := can2n6n11.rd Rn2n6 rbWn2n6 (fun e => e)
          have hban2n6n11 : w0.heap.size ≤ wvn2n6.heap.size := Cn2n6.size
          have Cn2n6n11 := Cn2n6.trans cgn2n6n11
          have rbWn2n6n11 : rb < (wvn2n6.alloc (.cells #[.int .i64 0, .int .i64 0, .int .i64 0] 70)).heap.size := Nat.lt_of_lt_of_le rbWn2n6 cgn2n6n11.size
          obtain ⟨ban2n6n11, eban2n6n11⟩ : ∃ q, wvn2n6.heap.size = q := ⟨_, rfl⟩
          have nban2n6n11 : ¬ (ban2n6n11 = rb) := by rw [← eban2n6n11]; have := rbWn2n6; omega
          refine opH_value (i := 11) (d := 5) (listed' := #[false, true, true, false, false, true, true, true, true, false, false, true, false]) rfl rfl (by rfl) (by kernel_rfl) (v := .pointer (some ⟨wvn2n6.heap.size, 0, none⟩)) (w' := wvn2n6.alloc (.cells #[.int .i64 0, .int .i64 0, .int .i64 0] 70)) ?vn2n6n11 trivial ?_
          case vn2n6n11 =>
            go_simp
            try with_reducible rfl
          rw [eban2n6n11] at bxn2n6n11 hban2n6n11 ⊢
          clear eban2n6n11 Xn2n6n11 cgn2n6n11 can2n6n11
          generalize wvn2n6.alloc (.cells #[.int .i64 0, .int .i64 0, .int .i64 0] 70) = wvn2n6n11 at bxn2n6n11 Rn2n6n11 Cn2n6n11 rbWn2n6n11 ⊢
          simp only [List.setIfInBounds_toArray, List.set_cons_zero, List.set_cons_succ]
          have Xn2n6n11n0 := BoxN.start wvn2n6n11 #[.int .i64 0, .int .i64 0, .int .i64 1, .int .i64 2, .int .i64 3, .int .i64 3, .int .i64 4] 3
          have kn2n6n11n0 : ∀ j, j < 7 → (wvn2n6n11.alloc (.cells #[.int .i64 0, .int .i64 0, .int .i64 1, .int .i64 2, .int .i64 3, .int .i64 3, .int .i64 4] 3)).cell? ⟨wvn2n6n11.heap.size, j, none⟩ = some (.int .i64 (kindF j)) := fun j hj => by
            rcases (by omega : j = 0 ∨ j = 1 ∨ j = 2 ∨ j = 3 ∨ j = 4 ∨ j = 5 ∨ j = 6) with rfl | rfl | rfl | rfl | rfl | rfl | rfl
            all_goals exact Xn2n6n11n0.cell _ rfl
          have cgn2n6n11n0 := Chg.alloc (fun j => j = rb) wvn2n6n11 (.cells #[.int .i64 0, .int .i64 0, .int .i64 1, .int .i64 2, .int .i64 3, .int .i64 3, .int .i64 4] 3)
          have Rn2n6n11n0 := (Chg.alloc (fun _ => False) wvn2n6n11 (.cells #[.int .i64 0, .int .i64 0, .int .i64 1, .int .i64 2, .int .i64 3, .int .i64 3, .int .i64 4] 3)).rd Rn2n6n11 rbWn2n6n11 (fun e => e)
          have Cn2n6n11n0 := Cn2n6n11.trans cgn2n6n11n0
          have rbWn2n6n11n0 : rb < (wvn2n6n11.alloc (.cells #[.int .i64 0, .int .i64 0, .int .i64 1, .int .i64 2, .int .i64 3, .int .i64 3, .int .i64 4] 3)).heap.size := Nat.lt_of_lt_of_le rbWn2n6n11 cgn2n6n11n0.size
          have bxn2n6n11n0 := ((Chg.alloc (fun _ => False) wvn2n6n11 (.cells #[.int .i64 0, .int .i64 0, .int .i64 1, .int .i64 2, .int .i64 3, .int .i64 3, .int .i64 4] 3)).block ban2n6n11 (Array.getElem?_eq_some_iff.1 bxn2n6n11).1 (fun e => e)).trans bxn2n6n11
          obtain ⟨bln2n6n11n0, ebln2n6n11n0⟩ : ∃ q, wvn2n6n11.heap.size = q := ⟨_, rfl⟩
          have nbn2n6n11n0 : ¬ (bln2n6n11n0 = rb) := by rw [← ebln2n6n11n0]; have := rbWn2n6n11; omega
          refine hold_value (i := 0) (d := 7) (listed' := #[true, true, true, false, false, true, true, true, true, false, false, true, false]) rfl (by kernel_rfl) rfl (by rfl) (by kernel_rfl) (v := .slice (some ⟨wvn2n6n11.heap.size, 0, none⟩) 7 7) (w' := wvn2n6n11.alloc (.cells #[.int .i64 0, .int .i64 0, .int .i64 1, .int .i64 2, .int .i64 3, .int .i64 3, .int .i64 4] 3)) ?vn2n6n11n0 trivial ?_
          case vn2n6n11n0 =>
            go_simp
            try with_reducible rfl
          rw [ebln2n6n11n0] at kn2n6n11n0 ⊢
          clear ebln2n6n11n0 Xn2n6n11n0 cgn2n6n11n0
          generalize wvn2n6n11.alloc (.cells #[.int .i64 0, .int .i64 0, .int .i64 1, .int .i64 2, .int .i64 3, .int .i64 3, .int .i64 4] 3) = wvn2n6n11n0 at kn2n6n11n0 Rn2n6n11n0 Cn2n6n11n0 rbWn2n6n11n0 bxn2n6n11n0 ⊢
          simp only [List.setIfInBounds_toArray, List.set_cons_zero, List.set_cons_succ]
          refine hold_stronger (S' := fun w' => ∀ j, j < 7 → w'.cell? ⟨bln2n6n11n0, j, none⟩ = some (.int .i64 (kindF j))) (fun _ _ => trivial) _ _ _ _ ?_
          have Sn2n6n11n0 : (fun w' => ∀ j, j < 7 → w'.cell? ⟨bln2n6n11n0, j, none⟩ = some (.int .i64 (kindF j))) wvn2n6n11n0 := kn2n6n11n0
          refine hold_take (i := 3) (d := 10) (v := ?vqn2n6n11n0x3) (listed' := #[true, true, true, true, false, true, true, true, true, false, false, true, false]) rfl (by kernel_rfl) (by kernel_rfl) (by kernel_rfl) rfl (by rfl) (by kernel_rfl) Sn2n6n11n0 ?hqn2n6n11n0x3 ?rqn2n6n11n0x3
          case hqn2n6n11n0x3 =>
            intro w' hSw
            have kk := hSw jn2 hj1; rw [EK1.out] at kk; clear hSw
            go_simp
            try with_reducible rfl
          simp only [List.setIfInBounds_toArray, List.set_cons_zero, List.set_cons_succ]
          refine hold_take (i := 4) (d := 11) (v := ?vqn2n6n11n0x4) (listed' := #[true, true, true, true, true, true, true, true, true, false, false, true, false]) rfl (by kernel_rfl) (by kernel_rfl) (by kernel_rfl) rfl (by rfl) (by kernel_rfl) Sn2n6n11n0 ?hqn2n6n11n0x4 ?rqn2n6n11n0x4
          case hqn2n6n11n0x4 =>
            intro w' hSw
            have kk := hSw jn2 hj1; rw [EK1.out] at kk; clear hSw
            go_simp
            try with_reducible rfl
          simp only [List.setIfInBounds_toArray, List.set_cons_zero, List.set_cons_succ]
          refine hold_take (i := 9) (d := 16) (v := ?vqn2n6n11n0x9) (listed' := #[true, true, true, true, true, true, true, true, true, true, false, true, false]) rfl (by kernel_rfl) (by kernel_rfl) (by kernel_rfl) rfl (by rfl) (by kernel_rfl) Sn2n6n11n0 ?hqn2n6n11n0x9 ?rqn2n6n11n0x9
          case hqn2n6n11n0x9 =>
            intro w' hSw
            have kk := hSw jn2 hj1; rw [EK1.out] at kk; clear hSw
            go_simp
            try with_reducible rfl
          simp only [List.setIfInBounds_toArray, List.set_cons_zero, List.set_cons_succ]
          refine hold_take (i := 10) (d := 17) (v := ?vqn2n6n11n0x10) (listed' := #[true, true, true, true, true, true, true, true, true, true, true, true, false]) rfl (by kernel_rfl) (by kernel_rfl) (by kernel_rfl) rfl (by rfl) (by kernel_rfl) Sn2n6n11n0 ?hqn2n6n11n0x10 ?rqn2n6n11n0x10
          case hqn2n6n11n0x10 =>
            intro w' hSw
            have kk := hSw jn2 hj1; rw [EK1.out] at kk; clear hSw
            go_simp
            try with_reducible rfl
          simp only [List.setIfInBounds_toArray, List.set_cons_zero, List.set_cons_succ]
          have d0n2n6n11n0n12 := Go.Joins.cell_of_block bxn2n6n11n0 0
          have d1n2n6n11n0n12 := Go.Joins.cell_of_block bxn2n6n11n0 1
          have d2n2n6n11n0n12 := Go.Joins.cell_of_block bxn2n6n11n0 2
          have f0n2n6n11n0n12 := Go.Joins.unfrozen_of_block bxn2n6n11n0 0
          have f1n2n6n11n0n12 := Go.Joins.unfrozen_of_block bxn2n6n11n0 1
          have f2n2n6n11n0n12 := Go.Joins.unfrozen_of_block bxn2n6n11n0 2
          have hb3n2n6n11n0n12 := Go.Joins.block_setCell (Go.Joins.block_setCell (Go.Joins.block_setCell (i := 0) bxn2n6n11n0 (.int .i64 (K1 + (q2 : Int) * 5))) (i := 1) (.int .i64 0)) (i := 2) (.int .i64 0)
          have csn2n6n11n0n12 : Chg (fun j => j = ban2n6n11) wvn2n6n11n0 (((wvn2n6n11n0.setCell ⟨ban2n6n11, 0, none⟩ (.int .i64 (K1 + (q2 : Int) * 5))).setCell ⟨ban2n6n11, 1, none⟩ (.int .i64 0)).setCell ⟨ban2n6n11, 2, none⟩ (.int .i64 0)) := ((Chg.set (S := fun j => j = ban2n6n11) rfl _).trans (Chg.set (S := fun j => j = ban2n6n11) rfl _)).trans (Chg.set (S := fun j => j = ban2n6n11) rfl _)
          have nln2n6n11n0n12 : ¬ (bln2n6n11n0 = ban2n6n11) := fun e => by
            have h1 := Sn2n6n11n0 0 (by omega)
            have h2 := Sn2n6n11n0 2 (by omega)
            have h3 := Sn2n6n11n0 3 (by omega)
            rw [e, Go.Joins.cell_of_block bxn2n6n11n0] at h3
            simp at h3
          have Sn2n6n11n0n12 : (fun w' => ∀ j, j < 7 → w'.cell? ⟨bln2n6n11n0, j, none⟩ = some (.int .i64 (kindF j))) (((wvn2n6n11n0.setCell ⟨ban2n6n11, 0, none⟩ (.int .i64 (K1 + (q2 : Int) * 5))).setCell ⟨ban2n6n11, 1, none⟩ (.int .i64 0)).setCell ⟨ban2n6n11, 2, none⟩ (.int .i64 0)) := fun j hj => csn2n6n11n0n12.at_cell nln2n6n11n0n12 (Sn2n6n11n0 j hj)
          refine hold_store (i := 12) (w' := (((wvn2n6n11n0.setCell ⟨ban2n6n11, 0, none⟩ (.int .i64 (K1 + (q2 : Int) * 5))).setCell ⟨ban2n6n11, 1, none⟩ (.int .i64 0)).setCell ⟨ban2n6n11, 2, none⟩ (.int .i64 0))) (listed' := #[true, true, true, true, true, true, true, true, true, true, true, true, true]) rfl (by kernel_rfl) rfl (by rfl) (by kernel_rfl) ?sn2n6n11n0n12 Sn2n6n11n0n12 ?_
          case sn2n6n11n0n12 => go_simp
          refine hold_done (by kernel_rfl) ?_ _
          have ho := Cn2n6n11n0
          have hc := csn2n6n11n0n12
          have hDD : DD w0 rb A n c ban2n6n11 ⟨K1 + (q2 : Int) * 5, 0, 0⟩ (p + 1 + 1) (((wvn2n6n11n0.setCell ⟨ban2n6n11, 0, none⟩ (.int .i64 (K1 + (q2 : Int) * 5))).setCell ⟨ban2n6n11, 1, none⟩ (.int .i64 0)).setCell ⟨ban2n6n11, 2, none⟩ (.int .i64 0)) := ⟨by simpa using hb3n2n6n11n0n12, hban2n6n11, hrb0, hc.rd Rn2n6n11n0 rbWn2n6n11n0 (by have := nban2n6n11; omega), ⟨hc.os.trans ho.os, hc.tape.trans ho.tape, hc.output.trans ho.output, Nat.le_trans ho.size hc.size, fun j hj hs => (hc.block j (Nat.lt_of_lt_of_le hj ho.size) (by have := hban2n6n11; omega)).trans (ho.block j hj hs)⟩⟩
          generalize (((wvn2n6n11n0.setCell ⟨ban2n6n11, 0, none⟩ (.int .i64 (K1 + (q2 : Int) * 5))).setCell ⟨ban2n6n11, 1, none⟩ (.int .i64 0)).setCell ⟨ban2n6n11, 2, none⟩ (.int .i64 0)) = WZ at hDD ⊢
          go_wp2_with fail
          go_meet
          exact ⟨_, _, _, rfl, hDD, by omega⟩
      case gn2n11 =>
        have Xn2n11 := BoxN.start wvn2 #[.int .i64 0, .int .i64 0, .int .i64 0] 70
        have bxn2n11 := Xn2n11.heap
        have cgn2n11 := Chg.alloc (fun j => j = rb) wvn2 (.cells #[.int .i64 0, .int .i64 0, .int .i64 0] 70)
        have can2n11 := Chg.alloc (fun _ => False) wvn2 (.cells #[.int .i64 0, .int .i64 0, .int .i64 0] 70)
        have Rn2n11 := can2n11.rd Rn2 rbWn2 (fun e => e)
        have hban2n11 : w0.heap.size ≤ wvn2.heap.size := Cn2.size
        have Cn2n11 := Cn2.trans cgn2n11
        have rbWn2n11 : rb < (wvn2.alloc (.cells #[.int .i64 0, .int .i64 0, .int .i64 0] 70)).heap.size := Nat.lt_of_lt_of_le rbWn2 cgn2n11.size
        obtain ⟨ban2n11, eban2n11⟩ : ∃ q, wvn2.heap.size = q := ⟨_, rfl⟩
        have nban2n11 : ¬ (ban2n11 = rb) := by rw [← eban2n11]; have := rbWn2; omega
        refine opH_value (i := 11) (d := 5) (listed' := #[false, true, true, false, false, true, false, false, false, false, false, true, false]) rfl rfl (by rfl) (by kernel_rfl) (v := .pointer (some ⟨wvn2.heap.size, 0, none⟩)) (w' := wvn2.alloc (.cells #[.int .i64 0, .int .i64 0, .int .i64 0] 70)) ?vn2n11 trivial ?_
        case vn2n11 =>
          go_simp
          try with_reducible rfl
        rw [eban2n11] at bxn2n11 hban2n11 ⊢
        clear eban2n11 Xn2n11 cgn2n11 can2n11
        generalize wvn2.alloc (.cells #[.int .i64 0, .int .i64 0, .int .i64 0] 70) = wvn2n11 at bxn2n11 Rn2n11 Cn2n11 rbWn2n11 ⊢
        simp only [List.setIfInBounds_toArray, List.set_cons_zero, List.set_cons_succ]
        refine hold_two (i := 0) (j := 6) (by kernel_rfl) ?gn2n11n0 ?gn2n11n6
        case gn2n11n0 =>
          have Xn2n11n0 := BoxN.start wvn2n11 #[.int .i64 0, .int .i64 0, .int .i64 1, .int .i64 2, .int .i64 3, .int .i64 3, .int .i64 4] 3
          have kn2n11n0 : ∀ j, j < 7 → (wvn2n11.alloc (.cells #[.int .i64 0, .int .i64 0, .int .i64 1, .int .i64 2, .int .i64 3, .int .i64 3, .int .i64 4] 3)).cell? ⟨wvn2n11.heap.size, j, none⟩ = some (.int .i64 (kindF j)) := fun j hj => by
            rcases (by omega : j = 0 ∨ j = 1 ∨ j = 2 ∨ j = 3 ∨ j = 4 ∨ j = 5 ∨ j = 6) with rfl | rfl | rfl | rfl | rfl | rfl | rfl
            all_goals exact Xn2n11n0.cell _ rfl
          have cgn2n11n0 := Chg.alloc (fun j => j = rb) wvn2n11 (.cells #[.int .i64 0, .int .i64 0, .int .i64 1, .int .i64 2, .int .i64 3, .int .i64 3, .int .i64 4] 3)
          have Rn2n11n0 := (Chg.alloc (fun _ => False) wvn2n11 (.cells #[.int .i64 0, .int .i64 0, .int .i64 1, .int .i64 2, .int .i64 3, .int .i64 3, .int .i64 4] 3)).rd Rn2n11 rbWn2n11 (fun e => e)
          have Cn2n11n0 := Cn2n11.trans cgn2n11n0
          have rbWn2n11n0 : rb < (wvn2n11.alloc (.cells #[.int .i64 0, .int .i64 0, .int .i64 1, .int .i64 2, .int .i64 3, .int .i64 3, .int .i64 4] 3)).heap.size := Nat.lt_of_lt_of_le rbWn2n11 cgn2n11n0.size
          have bxn2n11n0 := ((Chg.alloc (fun _ => False) wvn2n11 (.cells #[.int .i64 0, .int .i64 0, .int .i64 1, .int .i64 2, .int .i64 3, .int .i64 3, .int .i64 4] 3)).block ban2n11 (Array.getElem?_eq_some_iff.1 bxn2n11).1 (fun e => e)).trans bxn2n11
          obtain ⟨bln2n11n0, ebln2n11n0⟩ : ∃ q, wvn2n11.heap.size = q := ⟨_, rfl⟩
          have nbn2n11n0 : ¬ (bln2n11n0 = rb) := by rw [← ebln2n11n0]; have := rbWn2n11; omega
          refine opH_value (i := 0) (d := 7) (listed' := #[true, true, true, false, false, true, false, false, false, false, false, true, false]) rfl rfl (by rfl) (by kernel_rfl) (v := .slice (some ⟨wvn2n11.heap.size, 0, none⟩) 7 7) (w' := wvn2n11.alloc (.cells #[.int .i64 0, .int .i64 0, .int .i64 1, .int .i64 2, .int .i64 3, .int .i64 3, .int .i64 4] 3)) ?vn2n11n0 trivial ?_
          case vn2n11n0 =>
            go_simp
            try with_reducible rfl
          rw [ebln2n11n0] at kn2n11n0 ⊢
          clear ebln2n11n0 Xn2n11n0 cgn2n11n0
          generalize wvn2n11.alloc (.cells #[.int .i64 0, .int .i64 0, .int .i64 1, .int .i64 2, .int .i64 3, .int .i64 3, .int .i64 4] 3) = wvn2n11n0 at kn2n11n0 Rn2n11n0 Cn2n11n0 rbWn2n11n0 bxn2n11n0 ⊢
          simp only [List.setIfInBounds_toArray, List.set_cons_zero, List.set_cons_succ]
          refine hold_stronger (S' := fun w' => ∀ j, j < 7 → w'.cell? ⟨bln2n11n0, j, none⟩ = some (.int .i64 (kindF j))) (fun _ _ => trivial) _ _ _ _ ?_
          have Sn2n11n0 : (fun w' => ∀ j, j < 7 → w'.cell? ⟨bln2n11n0, j, none⟩ = some (.int .i64 (kindF j))) wvn2n11n0 := kn2n11n0
          refine hold_take (i := 3) (d := 10) (v := ?vqn2n11n0x3) (listed' := #[true, true, true, true, false, true, false, false, false, false, false, true, false]) rfl (by kernel_rfl) (by kernel_rfl) (by kernel_rfl) rfl (by rfl) (by kernel_rfl) Sn2n11n0 ?hqn2n11n0x3 ?rqn2n11n0x3
          case hqn2n11n0x3 =>
            intro w' hSw
            have kk := hSw jn2 hj1; rw [EK1.out] at kk; clear hSw
            go_simp
            try with_reducible rfl
          simp only [List.setIfInBounds_toArray, List.set_cons_zero, List.set_cons_succ]
          refine hold_take (i := 4) (d := 11) (v := ?vqn2n11n0x4) (listed' := #[true, true, true, true, true, true, false, false, false, false, false, true, false]) rfl (by kernel_rfl) (by kernel_rfl) (by kernel_rfl) rfl (by rfl) (by kernel_rfl) Sn2n11n0 ?hqn2n11n0x4 ?rqn2n11n0x4
          case hqn2n11n0x4 =>
            intro w' hSw
            have kk := hSw jn2 hj1; rw [EK1.out] at kk; clear hSw
            go_simp
            try with_reducible rfl
          simp only [List.setIfInBounds_toArray, List.set_cons_zero, List.set_cons_succ]
          refine hold_call (i := 6) (d := 13) (listed' := #[true, true, true, true, true, true, true, false, false, false, false, true, false]) rfl (by kernel_rfl) rfl (by rfl) (by kernel_rfl) ?en2n11n0n6 (pick_any (q := 60) (by omega) (by omega) (by omega) hn Rn2n11n0 (HBY (c0.trans Cn2n11n0)) hB) ?_
          case en2n11n0n6 => (go_simp; try rfl)
          rintro e wvn2n11n0n6 ⟨vn2n11n0n6, rfl, un2n11n0n6, tn2n11n0n6, Rn2n11n0n6, On2n11n0n6⟩
          have cgn2n11n0n6 := Chg.of_only On2n11n0n6
          have Cn2n11n0n6 := Cn2n11n0.trans cgn2n11n0n6
          have rbWn2n11n0n6 : rb < wvn2n11n0n6.heap.size := Nat.lt_of_lt_of_le rbWn2n11n0 cgn2n11n0n6.size
          obtain ⟨jn2n11n0n6, rfl⟩ : ∃ j : Nat, vn2n11n0n6 = (j : Int) := ⟨vn2n11n0n6.toNat, by omega⟩
          have bxn2n11n0n6 := (cgn2n11n0n6.block ban2n11 (Array.getElem?_eq_some_iff.1 bxn2n11n0).1 nban2n11).trans bxn2n11n0
          have Sn2n11n0n6 : (fun w' => ∀ j, j < 7 → w'.cell? ⟨bln2n11n0, j, none⟩ = some (.int .i64 (kindF j))) wvn2n11n0n6 := fun j hj => cgn2n11n0n6.at_cell (by show ¬ (bln2n11n0 = rb); exact nbn2n11n0) (Sn2n11n0 j hj)
          obtain ⟨q2, eq2, hq2⟩ : ∃ q : Nat, (jn2n11n0n6 : Int) / 59 = (q : Int) ∧ q ≤ 1 := ⟨jn2n11n0n6 / 59, rfl, by omega⟩
          have w1q : IntKind.i64.wrap (q2 : Int) = (q2 : Int) := by rw [IntKind.wrap_i64]; omega
          have w2q : IntKind.i64.wrap ((q2 : Int) * 5) = (q2 : Int) * 5 := by rw [IntKind.wrap_i64]; omega
          have w3q : IntKind.i64.wrap (K1 + (q2 : Int) * 5) = K1 + (q2 : Int) * 5 := by rw [IntKind.wrap_i64]; omega
          refine ⟨_, rfl, Sn2n11n0n6, ?_⟩
          simp only [List.setIfInBounds_toArray, List.set_cons_zero, List.set_cons_succ]
          refine hold_take (i := 7) (d := 14) (v := ?vqn2n11n0n6x7) (listed' := #[true, true, true, true, true, true, true, true, false, false, false, true, false]) rfl (by kernel_rfl) (by kernel_rfl) (by kernel_rfl) rfl (by rfl) (by kernel_rfl) Sn2n11n0n6 ?hqn2n11n0n6x7 ?rqn2n11n0n6x7
          case hqn2n11n0n6x7 =>
            intro w' hSw
            have kk := hSw jn2 hj1; rw [EK1.out] at kk; clear hSw
            go_simp
            try with_reducible rfl
          simp only [List.setIfInBounds_toArray, List.set_cons_zero, List.set_cons_succ]
          refine hold_take (i := 8) (d := 15) (v := ?vqn2n11n0n6x8) (listed' := #[true, true, true, true, true, true, true, true, true, false, false, true, false]) rfl (by kernel_rfl) (by kernel_rfl) (by kernel_rfl) rfl (by rfl) (by kernel_rfl) Sn2n11n0n6 ?hqn2n11n0n6x8 ?rqn2n11n0n6x8
          case hqn2n11n0n6x8 =>
            intro w' hSw
            have kk := hSw jn2 hj1; rw [EK1.out] at kk; clear hSw
            go_simp
            try with_reducible rfl
          simp only [List.setIfInBounds_toArray, List.set_cons_zero, List.set_cons_succ]
          refine hold_take (i := 9) (d := 16) (v := ?vqn2n11n0n6x9) (listed' := #[true, true, true, true, true, true, true, true, true, true, false, true, false]) rfl (by kernel_rfl) (by kernel_rfl) (by kernel_rfl) rfl (by rfl) (by kernel_rfl) Sn2n11n0n6 ?hqn2n11n0n6x9 ?rqn2n11n0n6x9
          case hqn2n11n0n6x9 =>
            intro w' hSw
            have kk := hSw jn2 hj1; rw [EK1.out] at kk; clear hSw
            go_simp
            try with_reducible rfl
          simp only [List.setIfInBounds_toArray, List.set_cons_zero, List.set_cons_succ]
          refine hold_take (i := 10) (d := 17) (v := ?vqn2n11n0n6x10) (listed' := #[true, true, true, true, true, true, true, true, true, true, true, true, false]) rfl (by kernel_rfl) (by kernel_rfl) (by kernel_rfl) rfl (by rfl) (by kernel_rfl) Sn2n11n0n6 ?hqn2n11n0n6x10 ?rqn2n11n0n6x10
          case hqn2n11n0n6x10 =>
            intro w' hSw
            have kk := hSw jn2 hj1; rw [EK1.out] at kk; clear hSw
            go_simp
            try with_reducible rfl
          simp only [List.setIfInBounds_toArray, List.set_cons_zero, List.set_cons_succ]
          have d0n2n11n0n6n12 := Go.Joins.cell_of_block bxn2n11n0n6 0
          have d1n2n11n0n6n12 := Go.Joins.cell_of_block bxn2n11n0n6 1
          have d2n2n11n0n6n12 := Go.Joins.cell_of_block bxn2n11n0n6 2
          have f0n2n11n0n6n12 := Go.Joins.unfrozen_of_block bxn2n11n0n6 0
          have f1n2n11n0n6n12 := Go.Joins.unfrozen_of_block bxn2n11n0n6 1
          have f2n2n11n0n6n12 := Go.Joins.unfrozen_of_block bxn2n11n0n6 2
          have hb3n2n11n0n6n12 := Go.Joins.block_setCell (Go.Joins.block_setCell (Go.Joins.block_setCell (i := 0) bxn2n11n0n6 (.int .i64 (K1 + (q2 : Int) * 5))) (i := 1) (.int .i64 0)) (i := 2) (.int .i64 0)
          have csn2n11n0n6n12 : Chg (fun j => j = ban2n11) wvn2n11n0n6 (((wvn2n11n0n6.setCell ⟨ban2n11, 0, none⟩ (.int .i64 (K1 + (q2 : Int) * 5))).setCell ⟨ban2n11, 1, none⟩ (.int .i64 0)).setCell ⟨ban2n11, 2, none⟩ (.int .i64 0)) := ((Chg.set (S := fun j => j = ban2n11) rfl _).trans (Chg.set (S := fun j => j = ban2n11) rfl _)).trans (Chg.set (S := fun j => j = ban2n11) rfl _)
          have nln2n11n0n6n12 : ¬ (bln2n11n0 = ban2n11) := fun e => by
            have h1 := Sn2n11n0n6 0 (by omega)
            have h2 := Sn2n11n0n6 2 (by omega)
            have h3 := Sn2n11n0n6 3 (by omega)
            rw [e, Go.Joins.cell_of_block bxn2n11n0n6] at h3
            simp at h3
          have Sn2n11n0n6n12 : (fun w' => ∀ j, j < 7 → w'.cell? ⟨bln2n11n0, j, none⟩ = some (.int .i64 (kindF j))) (((wvn2n11n0n6.setCell ⟨ban2n11, 0, none⟩ (.int .i64 (K1 + (q2 : Int) * 5))).setCell ⟨ban2n11, 1, none⟩ (.int .i64 0)).setCell ⟨ban2n11, 2, none⟩ (.int .i64 0)) := fun j hj => csn2n11n0n6n12.at_cell nln2n11n0n6n12 (Sn2n11n0n6 j hj)
          refine hold_store (i := 12) (w' := (((wvn2n11n0n6.setCell ⟨ban2n11, 0, none⟩ (.int .i64 (K1 + (q2 : Int) * 5))).setCell ⟨ban2n11, 1, none⟩ (.int .i64 0)).setCell ⟨ban2n11, 2, none⟩ (.int .i64 0))) (listed' := #[true, true, true, true, true, true, true, true, true, true, true, true, true]) rfl (by kernel_rfl) rfl (by rfl) (by kernel_rfl) ?sn2n11n0n6n12 Sn2n11n0n6n12 ?_
          case sn2n11n0n6n12 => go_simp
          refine hold_done (by kernel_rfl) ?_ _
          have ho := Cn2n11n0n6
          have hc := csn2n11n0n6n12
          have hDD : DD w0 rb A n c ban2n11 ⟨K1 + (q2 : Int) * 5, 0, 0⟩ (p + 1 + 1) (((wvn2n11n0n6.setCell ⟨ban2n11, 0, none⟩ (.int .i64 (K1 + (q2 : Int) * 5))).setCell ⟨ban2n11, 1, none⟩ (.int .i64 0)).setCell ⟨ban2n11, 2, none⟩ (.int .i64 0)) := ⟨by simpa using hb3n2n11n0n6n12, hban2n11, hrb0, hc.rd Rn2n11n0n6 rbWn2n11n0n6 (by have := nban2n11; omega), ⟨hc.os.trans ho.os, hc.tape.trans ho.tape, hc.output.trans ho.output, Nat.le_trans ho.size hc.size, fun j hj hs => (hc.block j (Nat.lt_of_lt_of_le hj ho.size) (by have := hban2n11; omega)).trans (ho.block j hj hs)⟩⟩
          generalize (((wvn2n11n0n6.setCell ⟨ban2n11, 0, none⟩ (.int .i64 (K1 + (q2 : Int) * 5))).setCell ⟨ban2n11, 1, none⟩ (.int .i64 0)).setCell ⟨ban2n11, 2, none⟩ (.int .i64 0)) = WZ at hDD ⊢
          go_wp2_with fail
          go_meet
          exact ⟨_, _, _, rfl, hDD, by omega⟩
        case gn2n11n6 =>
          refine opH_call (i := 6) (d := 13) (listed' := #[false, true, true, false, false, true, true, false, false, false, false, true, false]) rfl rfl (by rfl) (by kernel_rfl) ?en2n11n6 (pick_any (q := 60) (by omega) (by omega) (by omega) hn Rn2n11 (HBY (c0.trans Cn2n11)) hB) ?_
          case en2n11n6 => (go_simp; try rfl)
          rintro e wvn2n11n6 ⟨vn2n11n6, rfl, un2n11n6, tn2n11n6, Rn2n11n6, On2n11n6⟩
          have cgn2n11n6 := Chg.of_only On2n11n6
          have Cn2n11n6 := Cn2n11.trans cgn2n11n6
          have rbWn2n11n6 : rb < wvn2n11n6.heap.size := Nat.lt_of_lt_of_le rbWn2n11 cgn2n11n6.size
          obtain ⟨jn2n11n6, rfl⟩ : ∃ j : Nat, vn2n11n6 = (j : Int) := ⟨vn2n11n6.toNat, by omega⟩
          have bxn2n11n6 := (cgn2n11n6.block ban2n11 (Array.getElem?_eq_some_iff.1 bxn2n11).1 nban2n11).trans bxn2n11
          obtain ⟨q2, eq2, hq2⟩ : ∃ q : Nat, (jn2n11n6 : Int) / 59 = (q : Int) ∧ q ≤ 1 := ⟨jn2n11n6 / 59, rfl, by omega⟩
          have w1q : IntKind.i64.wrap (q2 : Int) = (q2 : Int) := by rw [IntKind.wrap_i64]; omega
          have w2q : IntKind.i64.wrap ((q2 : Int) * 5) = (q2 : Int) * 5 := by rw [IntKind.wrap_i64]; omega
          have w3q : IntKind.i64.wrap (K1 + (q2 : Int) * 5) = K1 + (q2 : Int) * 5 := by rw [IntKind.wrap_i64]; omega
          refine ⟨_, rfl, trivial, ?_⟩
          simp only [List.setIfInBounds_toArray, List.set_cons_zero, List.set_cons_succ]
          refine hold_take (i := 7) (d := 14) (v := ?vqn2n11n6x7) (listed' := #[false, true, true, false, false, true, true, true, false, false, false, true, false]) rfl (by kernel_rfl) (by kernel_rfl) (by kernel_rfl) rfl (by rfl) (by kernel_rfl) trivial ?hqn2n11n6x7 ?rqn2n11n6x7
          case hqn2n11n6x7 =>
            intro w' hSw
            clear hSw
            go_simp
            try with_reducible rfl
          simp only [List.setIfInBounds_toArray, List.set_cons_zero, List.set_cons_succ]
          refine hold_take (i := 8) (d := 15) (v := ?vqn2n11n6x8) (listed' := #[false, true, true, false, false, true, true, true, true, false, false, true, false]) rfl (by kernel_rfl) (by kernel_rfl) (by kernel_rfl) rfl (by rfl) (by kernel_rfl) trivial ?hqn2n11n6x8 ?rqn2n11n6x8
          case hqn2n11n6x8 =>
            intro w' hSw
            clear hSw
            go_simp
            try with_reducible rfl
          simp only [List.setIfInBounds_toArray, List.set_cons_zero, List.set_cons_succ]
          have Xn2n11n6n0 := BoxN.start wvn2n11n6 #[.int .i64 0, .int .i64 0, .int .i64 1, .int .i64 2, .int .i64 3, .int .i64 3, .int .i64 4] 3
          have kn2n11n6n0 : ∀ j, j < 7 → (wvn2n11n6.alloc (.cells #[.int .i64 0, .int .i64 0, .int .i64 1, .int .i64 2, .int .i64 3, .int .i64 3, .int .i64 4] 3)).cell? ⟨wvn2n11n6.heap.size, j, none⟩ = some (.int .i64 (kindF j)) := fun j hj => by
            rcases (by omega : j = 0 ∨ j = 1 ∨ j = 2 ∨ j = 3 ∨ j = 4 ∨ j = 5 ∨ j = 6) with rfl | rfl | rfl | rfl | rfl | rfl | rfl
            all_goals exact Xn2n11n6n0.cell _ rfl
          have cgn2n11n6n0 := Chg.alloc (fun j => j = rb) wvn2n11n6 (.cells #[.int .i64 0, .int .i64 0, .int .i64 1, .int .i64 2, .int .i64 3, .int .i64 3, .int .i64 4] 3)
          have Rn2n11n6n0 := (Chg.alloc (fun _ => False) wvn2n11n6 (.cells #[.int .i64 0, .int .i64 0, .int .i64 1, .int .i64 2, .int .i64 3, .int .i64 3, .int .i64 4] 3)).rd Rn2n11n6 rbWn2n11n6 (fun e => e)
          have Cn2n11n6n0 := Cn2n11n6.trans cgn2n11n6n0
          have rbWn2n11n6n0 : rb < (wvn2n11n6.alloc (.cells #[.int .i64 0, .int .i64 0, .int .i64 1, .int .i64 2, .int .i64 3, .int .i64 3, .int .i64 4] 3)).heap.size := Nat.lt_of_lt_of_le rbWn2n11n6 cgn2n11n6n0.size
          have bxn2n11n6n0 := ((Chg.alloc (fun _ => False) wvn2n11n6 (.cells #[.int .i64 0, .int .i64 0, .int .i64 1, .int .i64 2, .int .i64 3, .int .i64 3, .int .i64 4] 3)).block ban2n11 (Array.getElem?_eq_some_iff.1 bxn2n11n6).1 (fun e => e)).trans bxn2n11n6
          obtain ⟨bln2n11n6n0, ebln2n11n6n0⟩ : ∃ q, wvn2n11n6.heap.size = q := ⟨_, rfl⟩
          have nbn2n11n6n0 : ¬ (bln2n11n6n0 = rb) := by rw [← ebln2n11n6n0]; have := rbWn2n11n6; omega
          refine hold_value (i := 0) (d := 7) (listed' := #[true, true, true, false, false, true, true, true, true, false, false, true, false]) rfl (by kernel_rfl) rfl (by rfl) (by kernel_rfl) (v := .slice (some ⟨wvn2n11n6.heap.size, 0, none⟩) 7 7) (w' := wvn2n11n6.alloc (.cells #[.int .i64 0, .int .i64 0, .int .i64 1, .int .i64 2, .int .i64 3, .int .i64 3, .int .i64 4] 3)) ?vn2n11n6n0 trivial ?_
          case vn2n11n6n0 =>
            go_simp
            try with_reducible rfl
          rw [ebln2n11n6n0] at kn2n11n6n0 ⊢
          clear ebln2n11n6n0 Xn2n11n6n0 cgn2n11n6n0
          generalize wvn2n11n6.alloc (.cells #[.int .i64 0, .int .i64 0, .int .i64 1, .int .i64 2, .int .i64 3, .int .i64 3, .int .i64 4] 3) = wvn2n11n6n0 at kn2n11n6n0 Rn2n11n6n0 Cn2n11n6n0 rbWn2n11n6n0 bxn2n11n6n0 ⊢
          simp only [List.setIfInBounds_toArray, List.set_cons_zero, List.set_cons_succ]
          refine hold_stronger (S' := fun w' => ∀ j, j < 7 → w'.cell? ⟨bln2n11n6n0, j, none⟩ = some (.int .i64 (kindF j))) (fun _ _ => trivial) _ _ _ _ ?_
          have Sn2n11n6n0 : (fun w' => ∀ j, j < 7 → w'.cell? ⟨bln2n11n6n0, j, none⟩ = some (.int .i64 (kindF j))) wvn2n11n6n0 := kn2n11n6n0
          refine hold_take (i := 3) (d := 10) (v := ?vqn2n11n6n0x3) (listed' := #[true, true, true, true, false, true, true, true, true, false, false, true, false]) rfl (by kernel_rfl) (by kernel_rfl) (by kernel_rfl) rfl (by rfl) (by kernel_rfl) Sn2n11n6n0 ?hqn2n11n6n0x3 ?rqn2n11n6n0x3
          case hqn2n11n6n0x3 =>
            intro w' hSw
            have kk := hSw jn2 hj1; rw [EK1.out] at kk; clear hSw
            go_simp
            try with_reducible rfl
          simp only [List.setIfInBounds_toArray, List.set_cons_zero, List.set_cons_succ]
          refine hold_take (i := 4) (d := 11) (v := ?vqn2n11n6n0x4) (listed' := #[true, true, true, true, true, true, true, true, true, false, false, true, false]) rfl (by kernel_rfl) (by kernel_rfl) (by kernel_rfl) rfl (by rfl) (by kernel_rfl) Sn2n11n6n0 ?hqn2n11n6n0x4 ?rqn2n11n6n0x4
          case hqn2n11n6n0x4 =>
            intro w' hSw
            have kk := hSw jn2 hj1; rw [EK1.out] at kk; clear hSw
            go_simp
            try with_reducible rfl
          simp only [List.setIfInBounds_toArray, List.set_cons_zero, List.set_cons_succ]
          refine hold_take (i := 9) (d := 16) (v := ?vqn2n11n6n0x9) (listed' := #[true, true, true, true, true, true, true, true, true, true, false, true, false]) rfl (by kernel_rfl) (by kernel_rfl) (by kernel_rfl) rfl (by rfl) (by kernel_rfl) Sn2n11n6n0 ?hqn2n11n6n0x9 ?rqn2n11n6n0x9
          case hqn2n11n6n0x9 =>
            intro w' hSw
            have kk := hSw jn2 hj1; rw [EK1.out] at kk; clear hSw
            go_simp
            try with_reducible rfl
          simp only [List.setIfInBounds_toArray, List.set_cons_zero, List.set_cons_succ]
          refine hold_take (i := 10) (d := 17) (v := ?vqn2n11n6n0x10) (listed' := #[true, true, true, true, true, true, true, true, true, true, true, true, false]) rfl (by kernel_rfl) (by kernel_rfl) (by kernel_rfl) rfl (by rfl) (by kernel_rfl) Sn2n11n6n0 ?hqn2n11n6n0x10 ?rqn2n11n6n0x10
          case hqn2n11n6n0x10 =>
            intro w' hSw
            have kk := hSw jn2 hj1; rw [EK1.out] at kk; clear hSw
            go_simp
            try with_reducible rfl
          simp only [List.setIfInBounds_toArray, List.set_cons_zero, List.set_cons_succ]
          have d0n2n11n6n0n12 := Go.Joins.cell_of_block bxn2n11n6n0 0
          have d1n2n11n6n0n12 := Go.Joins.cell_of_block bxn2n11n6n0 1
          have d2n2n11n6n0n12 := Go.Joins.cell_of_block bxn2n11n6n0 2
          have f0n2n11n6n0n12 := Go.Joins.unfrozen_of_block bxn2n11n6n0 0
          have f1n2n11n6n0n12 := Go.Joins.unfrozen_of_block bxn2n11n6n0 1
          have f2n2n11n6n0n12 := Go.Joins.unfrozen_of_block bxn2n11n6n0 2
          have hb3n2n11n6n0n12 := Go.Joins.block_setCell (Go.Joins.block_setCell (Go.Joins.block_setCell (i := 0) bxn2n11n6n0 (.int .i64 (K1 + (q2 : Int) * 5))) (i := 1) (.int .i64 0)) (i := 2) (.int .i64 0)
          have csn2n11n6n0n12 : Chg (fun j => j = ban2n11) wvn2n11n6n0 (((wvn2n11n6n0.setCell ⟨ban2n11, 0, none⟩ (.int .i64 (K1 + (q2 : Int) * 5))).setCell ⟨ban2n11, 1, none⟩ (.int .i64 0)).setCell ⟨ban2n11, 2, none⟩ (.int .i64 0)) := ((Chg.set (S := fun j => j = ban2n11) rfl _).trans (Chg.set (S := fun j => j = ban2n11) rfl _)).trans (Chg.set (S := fun j => j = ban2n11) rfl _)
          have nln2n11n6n0n12 : ¬ (bln2n11n6n0 = ban2n11) := fun e => by
            have h1 := Sn2n11n6n0 0 (by omega)
            have h2 := Sn2n11n6n0 2 (by omega)
            have h3 := Sn2n11n6n0 3 (by omega)
            rw [e, Go.Joins.cell_of_block bxn2n11n6n0] at h3
            simp at h3
          have Sn2n11n6n0n12 : (fun w' => ∀ j, j < 7 → w'.cell? ⟨bln2n11n6n0, j, none⟩ = some (.int .i64 (kindF j))) (((wvn2n11n6n0.setCell ⟨ban2n11, 0, none⟩ (.int .i64 (K1 + (q2 : Int) * 5))).setCell ⟨ban2n11, 1, none⟩ (.int .i64 0)).setCell ⟨ban2n11, 2, none⟩ (.int .i64 0)) := fun j hj => csn2n11n6n0n12.at_cell nln2n11n6n0n12 (Sn2n11n6n0 j hj)
          refine hold_store (i := 12) (w' := (((wvn2n11n6n0.setCell ⟨ban2n11, 0, none⟩ (.int .i64 (K1 + (q2 : Int) * 5))).setCell ⟨ban2n11, 1, none⟩ (.int .i64 0)).setCell ⟨ban2n11, 2, none⟩ (.int .i64 0))) (listed' := #[true, true, true, true, true, true, true, true, true, true, true, true, true]) rfl (by kernel_rfl) rfl (by rfl) (by kernel_rfl) ?sn2n11n6n0n12 Sn2n11n6n0n12 ?_
          case sn2n11n6n0n12 => go_simp
          refine hold_done (by kernel_rfl) ?_ _
          have ho := Cn2n11n6n0
          have hc := csn2n11n6n0n12
          have hDD : DD w0 rb A n c ban2n11 ⟨K1 + (q2 : Int) * 5, 0, 0⟩ (p + 1 + 1) (((wvn2n11n6n0.setCell ⟨ban2n11, 0, none⟩ (.int .i64 (K1 + (q2 : Int) * 5))).setCell ⟨ban2n11, 1, none⟩ (.int .i64 0)).setCell ⟨ban2n11, 2, none⟩ (.int .i64 0)) := ⟨by simpa using hb3n2n11n6n0n12, hban2n11, hrb0, hc.rd Rn2n11n6n0 rbWn2n11n6n0 (by have := nban2n11; omega), ⟨hc.os.trans ho.os, hc.tape.trans ho.tape, hc.output.trans ho.output, Nat.le_trans ho.size hc.size, fun j hj hs => (hc.block j (Nat.lt_of_lt_of_le hj ho.size) (by have := hban2n11; omega)).trans (ho.block j hj hs)⟩⟩
          generalize (((wvn2n11n6n0.setCell ⟨ban2n11, 0, none⟩ (.int .i64 (K1 + (q2 : Int) * 5))).setCell ⟨ban2n11, 1, none⟩ (.int .i64 0)).setCell ⟨ban2n11, 2, none⟩ (.int .i64 0)) = WZ at hDD ⊢
          go_wp2_with fail
          go_meet
          exact ⟨_, _, _, rfl, hDD, by omega⟩
    case gn11 =>
      have Xn11 := BoxN.start w0.drew #[.int .i64 0, .int .i64 0, .int .i64 0] 70
      have bxn11 := Xn11.heap
      have cgn11 := Chg.alloc (fun j => j = rb) w0.drew (.cells #[.int .i64 0, .int .i64 0, .int .i64 0] 70)
      have can11 := Chg.alloc (fun _ => False) w0.drew (.cells #[.int .i64 0, .int .i64 0, .int .i64 0] 70)
      have Rn11 := can11.rd hRd hrbd (fun e => e)
      have hban11 : w0.heap.size ≤ w0.drew.heap.size := hCd.size
      have Cn11 := hCd.trans cgn11
      have rbWn11 : rb < (w0.drew.alloc (.cells #[.int .i64 0, .int .i64 0, .int .i64 0] 70)).heap.size := Nat.lt_of_lt_of_le hrbd cgn11.size
      obtain ⟨ban11, eban11⟩ : ∃ q, w0.drew.heap.size = q := ⟨_, rfl⟩
      have nban11 : ¬ (ban11 = rb) := by rw [← eban11]; have := hrbd; omega
      refine opH_value (i := 11) (d := 5) (listed' := #[false, true, false, false, false, true, false, false, false, false, false, true, false]) rfl rfl (by rfl) (by kernel_rfl) (v := .pointer (some ⟨w0.drew.heap.size, 0, none⟩)) (w' := w0.drew.alloc (.cells #[.int .i64 0, .int .i64 0, .int .i64 0] 70)) ?vn11 trivial ?_
      case vn11 =>
        go_simp
        try with_reducible rfl
      rw [eban11] at bxn11 hban11 ⊢
      clear eban11 Xn11 cgn11 can11
      generalize w0.drew.alloc (.cells #[.int .i64 0, .int .i64 0, .int .i64 0] 70) = wvn11 at bxn11 Rn11 Cn11 rbWn11 ⊢
      simp only [List.setIfInBounds_toArray, List.set_cons_zero, List.set_cons_succ]
      refine hold_two (i := 0) (j := 2) (by kernel_rfl) ?gn11n0 ?gn11n2
      case gn11n0 =>
        have Xn11n0 := BoxN.start wvn11 #[.int .i64 0, .int .i64 0, .int .i64 1, .int .i64 2, .int .i64 3, .int .i64 3, .int .i64 4] 3
        have kn11n0 : ∀ j, j < 7 → (wvn11.alloc (.cells #[.int .i64 0, .int .i64 0, .int .i64 1, .int .i64 2, .int .i64 3, .int .i64 3, .int .i64 4] 3)).cell? ⟨wvn11.heap.size, j, none⟩ = some (.int .i64 (kindF j)) := fun j hj => by
          rcases (by omega : j = 0 ∨ j = 1 ∨ j = 2 ∨ j = 3 ∨ j = 4 ∨ j = 5 ∨ j = 6) with rfl | rfl | rfl | rfl | rfl | rfl | rfl
          all_goals exact Xn11n0.cell _ rfl
        have cgn11n0 := Chg.alloc (fun j => j = rb) wvn11 (.cells #[.int .i64 0, .int .i64 0, .int .i64 1, .int .i64 2, .int .i64 3, .int .i64 3, .int .i64 4] 3)
        have Rn11n0 := (Chg.alloc (fun _ => False) wvn11 (.cells #[.int .i64 0, .int .i64 0, .int .i64 1, .int .i64 2, .int .i64 3, .int .i64 3, .int .i64 4] 3)).rd Rn11 rbWn11 (fun e => e)
        have Cn11n0 := Cn11.trans cgn11n0
        have rbWn11n0 : rb < (wvn11.alloc (.cells #[.int .i64 0, .int .i64 0, .int .i64 1, .int .i64 2, .int .i64 3, .int .i64 3, .int .i64 4] 3)).heap.size := Nat.lt_of_lt_of_le rbWn11 cgn11n0.size
        have bxn11n0 := ((Chg.alloc (fun _ => False) wvn11 (.cells #[.int .i64 0, .int .i64 0, .int .i64 1, .int .i64 2, .int .i64 3, .int .i64 3, .int .i64 4] 3)).block ban11 (Array.getElem?_eq_some_iff.1 bxn11).1 (fun e => e)).trans bxn11
        obtain ⟨bln11n0, ebln11n0⟩ : ∃ q, wvn11.heap.size = q := ⟨_, rfl⟩
        have nbn11n0 : ¬ (bln11n0 = rb) := by rw [← ebln11n0]; have := rbWn11; omega
        refine opH_value (i := 0) (d := 7) (listed' := #[true, true, false, false, false, true, false, false, false, false, false, true, false]) rfl rfl (by rfl) (by kernel_rfl) (v := .slice (some ⟨wvn11.heap.size, 0, none⟩) 7 7) (w' := wvn11.alloc (.cells #[.int .i64 0, .int .i64 0, .int .i64 1, .int .i64 2, .int .i64 3, .int .i64 3, .int .i64 4] 3)) ?vn11n0 trivial ?_
        case vn11n0 =>
          go_simp
          try with_reducible rfl
        rw [ebln11n0] at kn11n0 ⊢
        clear ebln11n0 Xn11n0 cgn11n0
        generalize wvn11.alloc (.cells #[.int .i64 0, .int .i64 0, .int .i64 1, .int .i64 2, .int .i64 3, .int .i64 3, .int .i64 4] 3) = wvn11n0 at kn11n0 Rn11n0 Cn11n0 rbWn11n0 bxn11n0 ⊢
        simp only [List.setIfInBounds_toArray, List.set_cons_zero, List.set_cons_succ]
        refine hold_stronger (S' := fun w' => ∀ j, j < 7 → w'.cell? ⟨bln11n0, j, none⟩ = some (.int .i64 (kindF j))) (fun _ _ => trivial) _ _ _ _ ?_
        have Sn11n0 : (fun w' => ∀ j, j < 7 → w'.cell? ⟨bln11n0, j, none⟩ = some (.int .i64 (kindF j))) wvn11n0 := kn11n0
        refine hold_call (i := 2) (d := 9) (listed' := #[true, true, true, false, false, true, false, false, false, false, false, true, false]) rfl (by kernel_rfl) rfl (by rfl) (by kernel_rfl) ?en11n0n2 (pick_any (q := 7) (by omega) (by omega) (by omega) hn Rn11n0 (HBY (c0.trans Cn11n0)) hB) ?_
        case en11n0n2 => (go_simp; try rfl)
        rintro e wvn11n0n2 ⟨vn11n0n2, rfl, un11n0n2, tn11n0n2, Rn11n0n2, On11n0n2⟩
        have cgn11n0n2 := Chg.of_only On11n0n2
        have Cn11n0n2 := Cn11n0.trans cgn11n0n2
        have rbWn11n0n2 : rb < wvn11n0n2.heap.size := Nat.lt_of_lt_of_le rbWn11n0 cgn11n0n2.size
        obtain ⟨jn11n0n2, rfl⟩ : ∃ j : Nat, vn11n0n2 = (j : Int) := ⟨vn11n0n2.toNat, by omega⟩
        have bxn11n0n2 := (cgn11n0n2.block ban11 (Array.getElem?_eq_some_iff.1 bxn11n0).1 nban11).trans bxn11n0
        have Sn11n0n2 : (fun w' => ∀ j, j < 7 → w'.cell? ⟨bln11n0, j, none⟩ = some (.int .i64 (kindF j))) wvn11n0n2 := fun j hj => cgn11n0n2.at_cell (by show ¬ (bln11n0 = rb); exact nbn11n0) (Sn11n0 j hj)
        have hj1 : jn11n0n2 < 7 := by omega
        obtain ⟨K1, eK1⟩ : ∃ K, kindF jn11n0n2 = K := ⟨_, rfl⟩
        have hK1 := kindF_le jn11n0n2 hj1
        rw [eK1] at hK1
        have EK1 := Lib.hid eK1
        clear eK1
        refine ⟨_, rfl, Sn11n0n2, ?_⟩
        simp only [List.setIfInBounds_toArray, List.set_cons_zero, List.set_cons_succ]
        refine hold_take (i := 3) (d := 10) (v := ?vqn11n0n2x3) (listed' := #[true, true, true, true, false, true, false, false, false, false, false, true, false]) rfl (by kernel_rfl) (by kernel_rfl) (by kernel_rfl) rfl (by rfl) (by kernel_rfl) Sn11n0n2 ?hqn11n0n2x3 ?rqn11n0n2x3
        case hqn11n0n2x3 =>
          intro w' hSw
          have kk := hSw jn11n0n2 hj1; rw [EK1.out] at kk; clear hSw
          go_simp
          try with_reducible rfl
        simp only [List.setIfInBounds_toArray, List.set_cons_zero, List.set_cons_succ]
        refine hold_take (i := 4) (d := 11) (v := ?vqn11n0n2x4) (listed' := #[true, true, true, true, true, true, false, false, false, false, false, true, false]) rfl (by kernel_rfl) (by kernel_rfl) (by kernel_rfl) rfl (by rfl) (by kernel_rfl) Sn11n0n2 ?hqn11n0n2x4 ?rqn11n0n2x4
        case hqn11n0n2x4 =>
          intro w' hSw
          have kk := hSw jn11n0n2 hj1; rw [EK1.out] at kk; clear hSw
          go_simp
          try with_reducible rfl
        simp only [List.setIfInBounds_toArray, List.set_cons_zero, List.set_cons_succ]
        refine hold_call (i := 6) (d := 13) (listed' := #[true, true, true, true, true, true, true, false, false, false, false, true, false]) rfl (by kernel_rfl) rfl (by rfl) (by kernel_rfl) ?en11n0n2n6 (pick_any (q := 60) (by omega) (by omega) (by omega) hn Rn11n0n2 (HBY (c0.trans Cn11n0n2)) hB) ?_
        case en11n0n2n6 => (go_simp; try rfl)
        rintro e wvn11n0n2n6 ⟨vn11n0n2n6, rfl, un11n0n2n6, tn11n0n2n6, Rn11n0n2n6, On11n0n2n6⟩
        have cgn11n0n2n6 := Chg.of_only On11n0n2n6
        have Cn11n0n2n6 := Cn11n0n2.trans cgn11n0n2n6
        have rbWn11n0n2n6 : rb < wvn11n0n2n6.heap.size := Nat.lt_of_lt_of_le rbWn11n0n2 cgn11n0n2n6.size
        obtain ⟨jn11n0n2n6, rfl⟩ : ∃ j : Nat, vn11n0n2n6 = (j : Int) := ⟨vn11n0n2n6.toNat, by omega⟩
        have bxn11n0n2n6 := (cgn11n0n2n6.block ban11 (Array.getElem?_eq_some_iff.1 bxn11n0n2).1 nban11).trans bxn11n0n2
        have Sn11n0n2n6 : (fun w' => ∀ j, j < 7 → w'.cell? ⟨bln11n0, j, none⟩ = some (.int .i64 (kindF j))) wvn11n0n2n6 := fun j hj => cgn11n0n2n6.at_cell (by show ¬ (bln11n0 = rb); exact nbn11n0) (Sn11n0n2 j hj)
        obtain ⟨q2, eq2, hq2⟩ : ∃ q : Nat, (jn11n0n2n6 : Int) / 59 = (q : Int) ∧ q ≤ 1 := ⟨jn11n0n2n6 / 59, rfl, by omega⟩
        have w1q : IntKind.i64.wrap (q2 : Int) = (q2 : Int) := by rw [IntKind.wrap_i64]; omega
        have w2q : IntKind.i64.wrap ((q2 : Int) * 5) = (q2 : Int) * 5 := by rw [IntKind.wrap_i64]; omega
        have w3q : IntKind.i64.wrap (K1 + (q2 : Int) * 5) = K1 + (q2 : Int) * 5 := by rw [IntKind.wrap_i64]; omega
        refine ⟨_, rfl, Sn11n0n2n6, ?_⟩
        simp only [List.setIfInBounds_toArray, List.set_cons_zero, List.set_cons_succ]
        refine hold_take (i := 7) (d := 14) (v := ?vqn11n0n2n6x7) (listed' := #[true, true, true, true, true, true, true, true, false, false, false, true, false]) rfl (by kernel_rfl) (by kernel_rfl) (by kernel_rfl) rfl (by rfl) (by kernel_rfl) Sn11n0n2n6 ?hqn11n0n2n6x7 ?rqn11n0n2n6x7
        case hqn11n0n2n6x7 =>
          intro w' hSw
          have kk := hSw jn11n0n2 hj1; rw [EK1.out] at kk; clear hSw
          go_simp
          try with_reducible rfl
        simp only [List.setIfInBounds_toArray, List.set_cons_zero, List.set_cons_succ]
        refine hold_take (i := 8) (d := 15) (v := ?vqn11n0n2n6x8) (listed' := #[true, true, true, true, true, true, true, true, true, false, false, true, false]) rfl (by kernel_rfl) (by kernel_rfl) (by kernel_rfl) rfl (by rfl) (by kernel_rfl) Sn11n0n2n6 ?hqn11n0n2n6x8 ?rqn11n0n2n6x8
        case hqn11n0n2n6x8 =>
          intro w' hSw
          have kk := hSw jn11n0n2 hj1; rw [EK1.out] at kk; clear hSw
          go_simp
          try with_reducible rfl
        simp only [List.setIfInBounds_toArray, List.set_cons_zero, List.set_cons_succ]
        refine hold_take (i := 9) (d := 16) (v := ?vqn11n0n2n6x9) (listed' := #[true, true, true, true, true, true, true, true, true, true, false, true, false]) rfl (by kernel_rfl) (by kernel_rfl) (by kernel_rfl) rfl (by rfl) (by kernel_rfl) Sn11n0n2n6 ?hqn11n0n2n6x9 ?rqn11n0n2n6x9
        case hqn11n0n2n6x9 =>
          intro w' hSw
          have kk := hSw jn11n0n2 hj1; rw [EK1.out] at kk; clear hSw
          go_simp
          try with_reducible rfl
        simp only [List.setIfInBounds_toArray, List.set_cons_zero, List.set_cons_succ]
        refine hold_take (i := 10) (d := 17) (v := ?vqn11n0n2n6x10) (listed' := #[true, true, true, true, true, true, true, true, true, true, true, true, false]) rfl (by kernel_rfl) (by kernel_rfl) (by kernel_rfl) rfl (by rfl) (by kernel_rfl) Sn11n0n2n6 ?hqn11n0n2n6x10 ?rqn11n0n2n6x10
        case hqn11n0n2n6x10 =>
          intro w' hSw
          have kk := hSw jn11n0n2 hj1; rw [EK1.out] at kk; clear hSw
          go_simp
          try with_reducible rfl
        simp only [List.setIfInBounds_toArray, List.set_cons_zero, List.set_cons_succ]
        have d0n11n0n2n6n12 := Go.Joins.cell_of_block bxn11n0n2n6 0
        have d1n11n0n2n6n12 := Go.Joins.cell_of_block bxn11n0n2n6 1
        have d2n11n0n2n6n12 := Go.Joins.cell_of_block bxn11n0n2n6 2
        have f0n11n0n2n6n12 := Go.Joins.unfrozen_of_block bxn11n0n2n6 0
        have f1n11n0n2n6n12 := Go.Joins.unfrozen_of_block bxn11n0n2n6 1
        have f2n11n0n2n6n12 := Go.Joins.unfrozen_of_block bxn11n0n2n6 2
        have hb3n11n0n2n6n12 := Go.Joins.block_setCell (Go.Joins.block_setCell (Go.Joins.block_setCell (i := 0) bxn11n0n2n6 (.int .i64 (K1 + (q2 : Int) * 5))) (i := 1) (.int .i64 0)) (i := 2) (.int .i64 0)
        have csn11n0n2n6n12 : Chg (fun j => j = ban11) wvn11n0n2n6 (((wvn11n0n2n6.setCell ⟨ban11, 0, none⟩ (.int .i64 (K1 + (q2 : Int) * 5))).setCell ⟨ban11, 1, none⟩ (.int .i64 0)).setCell ⟨ban11, 2, none⟩ (.int .i64 0)) := ((Chg.set (S := fun j => j = ban11) rfl _).trans (Chg.set (S := fun j => j = ban11) rfl _)).trans (Chg.set (S := fun j => j = ban11) rfl _)
        have nln11n0n2n6n12 : ¬ (bln11n0 = ban11) := fun e => by
          have h1 := Sn11n0n2n6 0 (by omega)
          have h2 := Sn11n0n2n6 2 (by omega)
          have h3 := Sn11n0n2n6 3 (by omega)
          rw [e, Go.Joins.cell_of_block bxn11n0n2n6] at h3
          simp at h3
        have Sn11n0n2n6n12 : (fun w' => ∀ j, j < 7 → w'.cell? ⟨bln11n0, j, none⟩ = some (.int .i64 (kindF j))) (((wvn11n0n2n6.setCell ⟨ban11, 0, none⟩ (.int .i64 (K1 + (q2 : Int) * 5))).setCell ⟨ban11, 1, none⟩ (.int .i64 0)).setCell ⟨ban11, 2, none⟩ (.int .i64 0)) := fun j hj => csn11n0n2n6n12.at_cell nln11n0n2n6n12 (Sn11n0n2n6 j hj)
        refine hold_store (i := 12) (w' := (((wvn11n0n2n6.setCell ⟨ban11, 0, none⟩ (.int .i64 (K1 + (q2 : Int) * 5))).setCell ⟨ban11, 1, none⟩ (.int .i64 0)).setCell ⟨ban11, 2, none⟩ (.int .i64 0))) (listed' := #[true, true, true, true, true, true, true, true, true, true, true, true, true]) rfl (by kernel_rfl) rfl (by rfl) (by kernel_rfl) ?sn11n0n2n6n12 Sn11n0n2n6n12 ?_
        case sn11n0n2n6n12 => go_simp
        refine hold_done (by kernel_rfl) ?_ _
        have ho := Cn11n0n2n6
        have hc := csn11n0n2n6n12
        have hDD : DD w0 rb A n c ban11 ⟨K1 + (q2 : Int) * 5, 0, 0⟩ (p + 1 + 1) (((wvn11n0n2n6.setCell ⟨ban11, 0, none⟩ (.int .i64 (K1 + (q2 : Int) * 5))).setCell ⟨ban11, 1, none⟩ (.int .i64 0)).setCell ⟨ban11, 2, none⟩ (.int .i64 0)) := ⟨by simpa using hb3n11n0n2n6n12, hban11, hrb0, hc.rd Rn11n0n2n6 rbWn11n0n2n6 (by have := nban11; omega), ⟨hc.os.trans ho.os, hc.tape.trans ho.tape, hc.output.trans ho.output, Nat.le_trans ho.size hc.size, fun j hj hs => (hc.block j (Nat.lt_of_lt_of_le hj ho.size) (by have := hban11; omega)).trans (ho.block j hj hs)⟩⟩
        generalize (((wvn11n0n2n6.setCell ⟨ban11, 0, none⟩ (.int .i64 (K1 + (q2 : Int) * 5))).setCell ⟨ban11, 1, none⟩ (.int .i64 0)).setCell ⟨ban11, 2, none⟩ (.int .i64 0)) = WZ at hDD ⊢
        go_wp2_with fail
        go_meet
        exact ⟨_, _, _, rfl, hDD, by omega⟩
      case gn11n2 =>
        refine opH_call (i := 2) (d := 9) (listed' := #[false, true, true, false, false, true, false, false, false, false, false, true, false]) rfl rfl (by rfl) (by kernel_rfl) ?en11n2 (pick_any (q := 7) (by omega) (by omega) (by omega) hn Rn11 (HBY (c0.trans Cn11)) hB) ?_
        case en11n2 => (go_simp; try rfl)
        rintro e wvn11n2 ⟨vn11n2, rfl, un11n2, tn11n2, Rn11n2, On11n2⟩
        have cgn11n2 := Chg.of_only On11n2
        have Cn11n2 := Cn11.trans cgn11n2
        have rbWn11n2 : rb < wvn11n2.heap.size := Nat.lt_of_lt_of_le rbWn11 cgn11n2.size
        obtain ⟨jn11n2, rfl⟩ : ∃ j : Nat, vn11n2 = (j : Int) := ⟨vn11n2.toNat, by omega⟩
        have bxn11n2 := (cgn11n2.block ban11 (Array.getElem?_eq_some_iff.1 bxn11).1 nban11).trans bxn11
        have hj1 : jn11n2 < 7 := by omega
        obtain ⟨K1, eK1⟩ : ∃ K, kindF jn11n2 = K := ⟨_, rfl⟩
        have hK1 := kindF_le jn11n2 hj1
        rw [eK1] at hK1
        have EK1 := Lib.hid eK1
        clear eK1
        refine ⟨_, rfl, trivial, ?_⟩
        simp only [List.setIfInBounds_toArray, List.set_cons_zero, List.set_cons_succ]
        refine hold_two (i := 0) (j := 6) (by kernel_rfl) ?gn11n2n0 ?gn11n2n6
        case gn11n2n0 =>
          have Xn11n2n0 := BoxN.start wvn11n2 #[.int .i64 0, .int .i64 0, .int .i64 1, .int .i64 2, .int .i64 3, .int .i64 3, .int .i64 4] 3
          have kn11n2n0 : ∀ j, j < 7 → (wvn11n2.alloc (.cells #[.int .i64 0, .int .i64 0, .int .i64 1, .int .i64 2, .int .i64 3, .int .i64 3, .int .i64 4] 3)).cell? ⟨wvn11n2.heap.size, j, none⟩ = some (.int .i64 (kindF j)) := fun j hj => by
            rcases (by omega : j = 0 ∨ j = 1 ∨ j = 2 ∨ j = 3 ∨ j = 4 ∨ j = 5 ∨ j = 6) with rfl | rfl | rfl | rfl | rfl | rfl | rfl
            all_goals exact Xn11n2n0.cell _ rfl
          have cgn11n2n0 := Chg.alloc (fun j => j = rb) wvn11n2 (.cells #[.int .i64 0, .int .i64 0, .int .i64 1, .int .i64 2, .int .i64 3, .int .i64 3, .int .i64 4] 3)
          have Rn11n2n0 := (Chg.alloc (fun _ => False) wvn11n2 (.cells #[.int .i64 0, .int .i64 0, .int .i64 1, .int .i64 2, .int .i64 3, .int .i64 3, .int .i64 4] 3)).rd Rn11n2 rbWn11n2 (fun e => e)
          have Cn11n2n0 := Cn11n2.trans cgn11n2n0
          have rbWn11n2n0 : rb < (wvn11n2.alloc (.cells #[.int .i64 0, .int .i64 0, .int .i64 1, .int .i64 2, .int .i64 3, .int .i64 3, .int .i64 4] 3)).heap.size := Nat.lt_of_lt_of_le rbWn11n2 cgn11n2n0.size
          have bxn11n2n0 := ((Chg.alloc (fun _ => False) wvn11n2 (.cells #[.int .i64 0, .int .i64 0, .int .i64 1, .int .i64 2, .int .i64 3, .int .i64 3, .int .i64 4] 3)).block ban11 (Array.getElem?_eq_some_iff.1 bxn11n2).1 (fun e => e)).trans bxn11n2
          obtain ⟨bln11n2n0, ebln11n2n0⟩ : ∃ q, wvn11n2.heap.size = q := ⟨_, rfl⟩
          have nbn11n2n0 : ¬ (bln11n2n0 = rb) := by rw [← ebln11n2n0]; have := rbWn11n2; omega
          refine opH_value (i := 0) (d := 7) (listed' := #[true, true, true, false, false, true, false, false, false, false, false, true, false]) rfl rfl (by rfl) (by kernel_rfl) (v := .slice (some ⟨wvn11n2.heap.size, 0, none⟩) 7 7) (w' := wvn11n2.alloc (.cells #[.int .i64 0, .int .i64 0, .int .i64 1, .int .i64 2, .int .i64 3, .int .i64 3, .int .i64 4] 3)) ?vn11n2n0 trivial ?_
          case vn11n2n0 =>
            go_simp
            try with_reducible rfl
          rw [ebln11n2n0] at kn11n2n0 ⊢
          clear ebln11n2n0 Xn11n2n0 cgn11n2n0
          generalize wvn11n2.alloc (.cells #[.int .i64 0, .int .i64 0, .int .i64 1, .int .i64 2, .int .i64 3, .int .i64 3, .int .i64 4] 3) = wvn11n2n0 at kn11n2n0 Rn11n2n0 Cn11n2n0 rbWn11n2n0 bxn11n2n0 ⊢
          simp only [List.setIfInBounds_toArray, List.set_cons_zero, List.set_cons_succ]
          refine hold_stronger (S' := fun w' => ∀ j, j < 7 → w'.cell? ⟨bln11n2n0, j, none⟩ = some (.int .i64 (kindF j))) (fun _ _ => trivial) _ _ _ _ ?_
          have Sn11n2n0 : (fun w' => ∀ j, j < 7 → w'.cell? ⟨bln11n2n0, j, none⟩ = some (.int .i64 (kindF j))) wvn11n2n0 := kn11n2n0
          refine hold_take (i := 3) (d := 10) (v := ?vqn11n2n0x3) (listed' := #[true, true, true, true, false, true, false, false, false, false, false, true, false]) rfl (by kernel_rfl) (by kernel_rfl) (by kernel_rfl) rfl (by rfl) (by kernel_rfl) Sn11n2n0 ?hqn11n2n0x3 ?rqn11n2n0x3
          case hqn11n2n0x3 =>
            intro w' hSw
            have kk := hSw jn11n2 hj1; rw [EK1.out] at kk; clear hSw
            go_simp
            try with_reducible rfl
          simp only [List.setIfInBounds_toArray, List.set_cons_zero, List.set_cons_succ]
          refine hold_take (i := 4) (d := 11) (v := ?vqn11n2n0x4) (listed' := #[true, true, true, true, true, true, false, false, false, false, false, true, false]) rfl (by kernel_rfl) (by kernel_rfl) (by kernel_rfl) rfl (by rfl) (by kernel_rfl) Sn11n2n0 ?hqn11n2n0x4 ?rqn11n2n0x4
          case hqn11n2n0x4 =>
            intro w' hSw
            have kk := hSw jn11n2 hj1; rw [EK1.out] at kk; clear hSw
            go_simp
            try with_reducible rfl
          simp only [List.setIfInBounds_toArray, List.set_cons_zero, List.set_cons_succ]
          refine hold_call (i := 6) (d := 13) (listed' := #[true, true, true, true, true, true, true, false, false, false, false, true, false]) rfl (by kernel_rfl) rfl (by rfl) (by kernel_rfl) ?en11n2n0n6 (pick_any (q := 60) (by omega) (by omega) (by omega) hn Rn11n2n0 (HBY (c0.trans Cn11n2n0)) hB) ?_
          case en11n2n0n6 => (go_simp; try rfl)
          rintro e wvn11n2n0n6 ⟨vn11n2n0n6, rfl, un11n2n0n6, tn11n2n0n6, Rn11n2n0n6, On11n2n0n6⟩
          have cgn11n2n0n6 := Chg.of_only On11n2n0n6
          have Cn11n2n0n6 := Cn11n2n0.trans cgn11n2n0n6
          have rbWn11n2n0n6 : rb < wvn11n2n0n6.heap.size := Nat.lt_of_lt_of_le rbWn11n2n0 cgn11n2n0n6.size
          obtain ⟨jn11n2n0n6, rfl⟩ : ∃ j : Nat, vn11n2n0n6 = (j : Int) := ⟨vn11n2n0n6.toNat, by omega⟩
          have bxn11n2n0n6 := (cgn11n2n0n6.block ban11 (Array.getElem?_eq_some_iff.1 bxn11n2n0).1 nban11).trans bxn11n2n0
          have Sn11n2n0n6 : (fun w' => ∀ j, j < 7 → w'.cell? ⟨bln11n2n0, j, none⟩ = some (.int .i64 (kindF j))) wvn11n2n0n6 := fun j hj => cgn11n2n0n6.at_cell (by show ¬ (bln11n2n0 = rb); exact nbn11n2n0) (Sn11n2n0 j hj)
          obtain ⟨q2, eq2, hq2⟩ : ∃ q : Nat, (jn11n2n0n6 : Int) / 59 = (q : Int) ∧ q ≤ 1 := ⟨jn11n2n0n6 / 59, rfl, by omega⟩
          have w1q : IntKind.i64.wrap (q2 : Int) = (q2 : Int) := by rw [IntKind.wrap_i64]; omega
          have w2q : IntKind.i64.wrap ((q2 : Int) * 5) = (q2 : Int) * 5 := by rw [IntKind.wrap_i64]; omega
          have w3q : IntKind.i64.wrap (K1 + (q2 : Int) * 5) = K1 + (q2 : Int) * 5 := by rw [IntKind.wrap_i64]; omega
          refine ⟨_, rfl, Sn11n2n0n6, ?_⟩
          simp only [List.setIfInBounds_toArray, List.set_cons_zero, List.set_cons_succ]
          refine hold_take (i := 7) (d := 14) (v := ?vqn11n2n0n6x7) (listed' := #[true, true, true, true, true, true, true, true, false, false, false, true, false]) rfl (by kernel_rfl) (by kernel_rfl) (by kernel_rfl) rfl (by rfl) (by kernel_rfl) Sn11n2n0n6 ?hqn11n2n0n6x7 ?rqn11n2n0n6x7
          case hqn11n2n0n6x7 =>
            intro w' hSw
            have kk := hSw jn11n2 hj1; rw [EK1.out] at kk; clear hSw
            go_simp
            try with_reducible rfl
          simp only [List.setIfInBounds_toArray, List.set_cons_zero, List.set_cons_succ]
          refine hold_take (i := 8) (d := 15) (v := ?vqn11n2n0n6x8) (listed' := #[true, true, true, true, true, true, true, true, true, false, false, true, false]) rfl (by kernel_rfl) (by kernel_rfl) (by kernel_rfl) rfl (by rfl) (by kernel_rfl) Sn11n2n0n6 ?hqn11n2n0n6x8 ?rqn11n2n0n6x8
          case hqn11n2n0n6x8 =>
            intro w' hSw
            have kk := hSw jn11n2 hj1; rw [EK1.out] at kk; clear hSw
            go_simp
            try with_reducible rfl
          simp only [List.setIfInBounds_toArray, List.set_cons_zero, List.set_cons_succ]
          refine hold_take (i := 9) (d := 16) (v := ?vqn11n2n0n6x9) (listed' := #[true, true, true, true, true, true, true, true, true, true, false, true, false]) rfl (by kernel_rfl) (by kernel_rfl) (by kernel_rfl) rfl (by rfl) (by kernel_rfl) Sn11n2n0n6 ?hqn11n2n0n6x9 ?rqn11n2n0n6x9
          case hqn11n2n0n6x9 =>
            intro w' hSw
            have kk := hSw jn11n2 hj1; rw [EK1.out] at kk; clear hSw
            go_simp
            try with_reducible rfl
          simp only [List.setIfInBounds_toArray, List.set_cons_zero, List.set_cons_succ]
          refine hold_take (i := 10) (d := 17) (v := ?vqn11n2n0n6x10) (listed' := #[true, true, true, true, true, true, true, true, true, true, true, true, false]) rfl (by kernel_rfl) (by kernel_rfl) (by kernel_rfl) rfl (by rfl) (by kernel_rfl) Sn11n2n0n6 ?hqn11n2n0n6x10 ?rqn11n2n0n6x10
          case hqn11n2n0n6x10 =>
            intro w' hSw
            have kk := hSw jn11n2 hj1; rw [EK1.out] at kk; clear hSw
            go_simp
            try with_reducible rfl
          simp only [List.setIfInBounds_toArray, List.set_cons_zero, List.set_cons_succ]
          have d0n11n2n0n6n12 := Go.Joins.cell_of_block bxn11n2n0n6 0
          have d1n11n2n0n6n12 := Go.Joins.cell_of_block bxn11n2n0n6 1
          have d2n11n2n0n6n12 := Go.Joins.cell_of_block bxn11n2n0n6 2
          have f0n11n2n0n6n12 := Go.Joins.unfrozen_of_block bxn11n2n0n6 0
          have f1n11n2n0n6n12 := Go.Joins.unfrozen_of_block bxn11n2n0n6 1
          have f2n11n2n0n6n12 := Go.Joins.unfrozen_of_block bxn11n2n0n6 2
          have hb3n11n2n0n6n12 := Go.Joins.block_setCell (Go.Joins.block_setCell (Go.Joins.block_setCell (i := 0) bxn11n2n0n6 (.int .i64 (K1 + (q2 : Int) * 5))) (i := 1) (.int .i64 0)) (i := 2) (.int .i64 0)
          have csn11n2n0n6n12 : Chg (fun j => j = ban11) wvn11n2n0n6 (((wvn11n2n0n6.setCell ⟨ban11, 0, none⟩ (.int .i64 (K1 + (q2 : Int) * 5))).setCell ⟨ban11, 1, none⟩ (.int .i64 0)).setCell ⟨ban11, 2, none⟩ (.int .i64 0)) := ((Chg.set (S := fun j => j = ban11) rfl _).trans (Chg.set (S := fun j => j = ban11) rfl _)).trans (Chg.set (S := fun j => j = ban11) rfl _)
          have nln11n2n0n6n12 : ¬ (bln11n2n0 = ban11) := fun e => by
            have h1 := Sn11n2n0n6 0 (by omega)
            have h2 := Sn11n2n0n6 2 (by omega)
            have h3 := Sn11n2n0n6 3 (by omega)
            rw [e, Go.Joins.cell_of_block bxn11n2n0n6] at h3
            simp at h3
          have Sn11n2n0n6n12 : (fun w' => ∀ j, j < 7 → w'.cell? ⟨bln11n2n0, j, none⟩ = some (.int .i64 (kindF j))) (((wvn11n2n0n6.setCell ⟨ban11, 0, none⟩ (.int .i64 (K1 + (q2 : Int) * 5))).setCell ⟨ban11, 1, none⟩ (.int .i64 0)).setCell ⟨ban11, 2, none⟩ (.int .i64 0)) := fun j hj => csn11n2n0n6n12.at_cell nln11n2n0n6n12 (Sn11n2n0n6 j hj)
          refine hold_store (i := 12) (w' := (((wvn11n2n0n6.setCell ⟨ban11, 0, none⟩ (.int .i64 (K1 + (q2 : Int) * 5))).setCell ⟨ban11, 1, none⟩ (.int .i64 0)).setCell ⟨ban11, 2, none⟩ (.int .i64 0))) (listed' := #[true, true, true, true, true, true, true, true, true, true, true, true, true]) rfl (by kernel_rfl) rfl (by rfl) (by kernel_rfl) ?sn11n2n0n6n12 Sn11n2n0n6n12 ?_
          case sn11n2n0n6n12 => go_simp
          refine hold_done (by kernel_rfl) ?_ _
          have ho := Cn11n2n0n6
          have hc := csn11n2n0n6n12
          have hDD : DD w0 rb A n c ban11 ⟨K1 + (q2 : Int) * 5, 0, 0⟩ (p + 1 + 1) (((wvn11n2n0n6.setCell ⟨ban11, 0, none⟩ (.int .i64 (K1 + (q2 : Int) * 5))).setCell ⟨ban11, 1, none⟩ (.int .i64 0)).setCell ⟨ban11, 2, none⟩ (.int .i64 0)) := ⟨by simpa using hb3n11n2n0n6n12, hban11, hrb0, hc.rd Rn11n2n0n6 rbWn11n2n0n6 (by have := nban11; omega), ⟨hc.os.trans ho.os, hc.tape.trans ho.tape, hc.output.trans ho.output, Nat.le_trans ho.size hc.size, fun j hj hs => (hc.block j (Nat.lt_of_lt_of_le hj ho.size) (by have := hban11; omega)).trans (ho.block j hj hs)⟩⟩
          generalize (((wvn11n2n0n6.setCell ⟨ban11, 0, none⟩ (.int .i64 (K1 + (q2 : Int) * 5))).setCell ⟨ban11, 1, none⟩ (.int .i64 0)).setCell ⟨ban11, 2, none⟩ (.int .i64 0)) = WZ at hDD ⊢
          go_wp2_with fail
          go_meet
          exact ⟨_, _, _, rfl, hDD, by omega⟩
        case gn11n2n6 =>
          refine opH_call (i := 6) (d := 13) (listed' := #[false, true, true, false, false, true, true, false, false, false, false, true, false]) rfl rfl (by rfl) (by kernel_rfl) ?en11n2n6 (pick_any (q := 60) (by omega) (by omega) (by omega) hn Rn11n2 (HBY (c0.trans Cn11n2)) hB) ?_
          case en11n2n6 => (go_simp; try rfl)
          rintro e wvn11n2n6 ⟨vn11n2n6, rfl, un11n2n6, tn11n2n6, Rn11n2n6, On11n2n6⟩
          have cgn11n2n6 := Chg.of_only On11n2n6
          have Cn11n2n6 := Cn11n2.trans cgn11n2n6
          have rbWn11n2n6 : rb < wvn11n2n6.heap.size := Nat.lt_of_lt_of_le rbWn11n2 cgn11n2n6.size
          obtain ⟨jn11n2n6, rfl⟩ : ∃ j : Nat, vn11n2n6 = (j : Int) := ⟨vn11n2n6.toNat, by omega⟩
          have bxn11n2n6 := (cgn11n2n6.block ban11 (Array.getElem?_eq_some_iff.1 bxn11n2).1 nban11).trans bxn11n2
          obtain ⟨q2, eq2, hq2⟩ : ∃ q : Nat, (jn11n2n6 : Int) / 59 = (q : Int) ∧ q ≤ 1 := ⟨jn11n2n6 / 59, rfl, by omega⟩
          have w1q : IntKind.i64.wrap (q2 : Int) = (q2 : Int) := by rw [IntKind.wrap_i64]; omega
          have w2q : IntKind.i64.wrap ((q2 : Int) * 5) = (q2 : Int) * 5 := by rw [IntKind.wrap_i64]; omega
          have w3q : IntKind.i64.wrap (K1 + (q2 : Int) * 5) = K1 + (q2 : Int) * 5 := by rw [IntKind.wrap_i64]; omega
          refine ⟨_, rfl, trivial, ?_⟩
          simp only [List.setIfInBounds_toArray, List.set_cons_zero, List.set_cons_succ]
          refine hold_take (i := 7) (d := 14) (v := ?vqn11n2n6x7) (listed' := #[false, true, true, false, false, true, true, true, false, false, false, true, false]) rfl (by kernel_rfl) (by kernel_rfl) (by kernel_rfl) rfl (by rfl) (by kernel_rfl) trivial ?hqn11n2n6x7 ?rqn11n2n6x7
          case hqn11n2n6x7 =>
            intro w' hSw
            clear hSw
            go_simp
            try with_reducible rfl
          simp only [List.setIfInBounds_toArray, List.set_cons_zero, List.set_cons_succ]
          refine hold_take (i := 8) (d := 15) (v := ?vqn11n2n6x8) (listed' := #[false, true, true, false, false, true, true, true, true, false, false, true, false]) rfl (by kernel_rfl) (by kernel_rfl) (by kernel_rfl) rfl (by rfl) (by kernel_rfl) trivial ?hqn11n2n6x8 ?rqn11n2n6x8
          case hqn11n2n6x8 =>
            intro w' hSw
            clear hSw
            go_simp
            try with_reducible rfl
          simp only [List.setIfInBounds_toArray, List.set_cons_zero, List.set_cons_succ]
          have Xn11n2n6n0 := BoxN.start wvn11n2n6 #[.int .i64 0, .int .i64 0, .int .i64 1, .int .i64 2, .int .i64 3, .int .i64 3, .int .i64 4] 3
          have kn11n2n6n0 : ∀ j, j < 7 → (wvn11n2n6.alloc (.cells #[.int .i64 0, .int .i64 0, .int .i64 1, .int .i64 2, .int .i64 3, .int .i64 3, .int .i64 4] 3)).cell? ⟨wvn11n2n6.heap.size, j, none⟩ = some (.int .i64 (kindF j)) := fun j hj => by
            rcases (by omega : j = 0 ∨ j = 1 ∨ j = 2 ∨ j = 3 ∨ j = 4 ∨ j = 5 ∨ j = 6) with rfl | rfl | rfl | rfl | rfl | rfl | rfl
            all_goals exact Xn11n2n6n0.cell _ rfl
          have cgn11n2n6n0 := Chg.alloc (fun j => j = rb) wvn11n2n6 (.cells #[.int .i64 0, .int .i64 0, .int .i64 1, .int .i64 2, .int .i64 3, .int .i64 3, .int .i64 4] 3)
          have Rn11n2n6n0 := (Chg.alloc (fun _ => False) wvn11n2n6 (.cells #[.int .i64 0, .int .i64 0, .int .i64 1, .int .i64 2, .int .i64 3, .int .i64 3, .int .i64 4] 3)).rd Rn11n2n6 rbWn11n2n6 (fun e => e)
          have Cn11n2n6n0 := Cn11n2n6.trans cgn11n2n6n0
          have rbWn11n2n6n0 : rb < (wvn11n2n6.alloc (.cells #[.int .i64 0, .int .i64 0, .int .i64 1, .int .i64 2, .int .i64 3, .int .i64 3, .int .i64 4] 3)).heap.size := Nat.lt_of_lt_of_le rbWn11n2n6 cgn11n2n6n0.size
          have bxn11n2n6n0 := ((Chg.alloc (fun _ => False) wvn11n2n6 (.cells #[.int .i64 0, .int .i64 0, .int .i64 1, .int .i64 2, .int .i64 3, .int .i64 3, .int .i64 4] 3)).block ban11 (Array.getElem?_eq_some_iff.1 bxn11n2n6).1 (fun e => e)).trans bxn11n2n6
          obtain ⟨bln11n2n6n0, ebln11n2n6n0⟩ : ∃ q, wvn11n2n6.heap.size = q := ⟨_, rfl⟩
          have nbn11n2n6n0 : ¬ (bln11n2n6n0 = rb) := by rw [← ebln11n2n6n0]; have := rbWn11n2n6; omega
          refine hold_value (i := 0) (d := 7) (listed' := #[true, true, true, false, false, true, true, true, true, false, false, true, false]) rfl (by kernel_rfl) rfl (by rfl) (by kernel_rfl) (v := .slice (some ⟨wvn11n2n6.heap.size, 0, none⟩) 7 7) (w' := wvn11n2n6.alloc (.cells #[.int .i64 0, .int .i64 0, .int .i64 1, .int .i64 2, .int .i64 3, .int .i64 3, .int .i64 4] 3)) ?vn11n2n6n0 trivial ?_
          case vn11n2n6n0 =>
            go_simp
            try with_reducible rfl
          rw [ebln11n2n6n0] at kn11n2n6n0 ⊢
          clear ebln11n2n6n0 Xn11n2n6n0 cgn11n2n6n0
          generalize wvn11n2n6.alloc (.cells #[.int .i64 0, .int .i64 0, .int .i64 1, .int .i64 2, .int .i64 3, .int .i64 3, .int .i64 4] 3) = wvn11n2n6n0 at kn11n2n6n0 Rn11n2n6n0 Cn11n2n6n0 rbWn11n2n6n0 bxn11n2n6n0 ⊢
          simp only [List.setIfInBounds_toArray, List.set_cons_zero, List.set_cons_succ]
          refine hold_stronger (S' := fun w' => ∀ j, j < 7 → w'.cell? ⟨bln11n2n6n0, j, none⟩ = some (.int .i64 (kindF j))) (fun _ _ => trivial) _ _ _ _ ?_
          have Sn11n2n6n0 : (fun w' => ∀ j, j < 7 → w'.cell? ⟨bln11n2n6n0, j, none⟩ = some (.int .i64 (kindF j))) wvn11n2n6n0 := kn11n2n6n0
          refine hold_take (i := 3) (d := 10) (v := ?vqn11n2n6n0x3) (listed' := #[true, true, true, true, false, true, true, true, true, false, false, true, false]) rfl (by kernel_rfl) (by kernel_rfl) (by kernel_rfl) rfl (by rfl) (by kernel_rfl) Sn11n2n6n0 ?hqn11n2n6n0x3 ?rqn11n2n6n0x3
          case hqn11n2n6n0x3 =>
            intro w' hSw
            have kk := hSw jn11n2 hj1; rw [EK1.out] at kk; clear hSw
            go_simp
            try with_reducible rfl
          simp only [List.setIfInBounds_toArray, List.set_cons_zero, List.set_cons_succ]
          refine hold_take (i := 4) (d := 11) (v := ?vqn11n2n6n0x4) (listed' := #[true, true, true, true, true, true, true, true, true, false, false, true, false]) rfl (by kernel_rfl) (by kernel_rfl) (by kernel_rfl) rfl (by rfl) (by kernel_rfl) Sn11n2n6n0 ?hqn11n2n6n0x4 ?rqn11n2n6n0x4
          case hqn11n2n6n0x4 =>
            intro w' hSw
            have kk := hSw jn11n2 hj1; rw [EK1.out] at kk; clear hSw
            go_simp
            try with_reducible rfl
          simp only [List.setIfInBounds_toArray, List.set_cons_zero, List.set_cons_succ]
          refine hold_take (i := 9) (d := 16) (v := ?vqn11n2n6n0x9) (listed' := #[true, true, true, true, true, true, true, true, true, true, false, true, false]) rfl (by kernel_rfl) (by kernel_rfl) (by kernel_rfl) rfl (by rfl) (by kernel_rfl) Sn11n2n6n0 ?hqn11n2n6n0x9 ?rqn11n2n6n0x9
          case hqn11n2n6n0x9 =>
            intro w' hSw
            have kk := hSw jn11n2 hj1; rw [EK1.out] at kk; clear hSw
            go_simp
            try with_reducible rfl
          simp only [List.setIfInBounds_toArray, List.set_cons_zero, List.set_cons_succ]
          refine hold_take (i := 10) (d := 17) (v := ?vqn11n2n6n0x10) (listed' := #[true, true, true, true, true, true, true, true, true, true, true, true, false]) rfl (by kernel_rfl) (by kernel_rfl) (by kernel_rfl) rfl (by rfl) (by kernel_rfl) Sn11n2n6n0 ?hqn11n2n6n0x10 ?rqn11n2n6n0x10
          case hqn11n2n6n0x10 =>
            intro w' hSw
            have kk := hSw jn11n2 hj1; rw [EK1.out] at kk; clear hSw
            go_simp
            try with_reducible rfl
          simp only [List.setIfInBounds_toArray, List.set_cons_zero, List.set_cons_succ]
          have d0n11n2n6n0n12 := Go.Joins.cell_of_block bxn11n2n6n0 0
          have d1n11n2n6n0n12 := Go.Joins.cell_of_block bxn11n2n6n0 1
          have d2n11n2n6n0n12 := Go.Joins.cell_of_block bxn11n2n6n0 2
          have f0n11n2n6n0n12 := Go.Joins.unfrozen_of_block bxn11n2n6n0 0
          have f1n11n2n6n0n12 := Go.Joins.unfrozen_of_block bxn11n2n6n0 1
          have f2n11n2n6n0n12 := Go.Joins.unfrozen_of_block bxn11n2n6n0 2
          have hb3n11n2n6n0n12 := Go.Joins.block_setCell (Go.Joins.block_setCell (Go.Joins.block_setCell (i := 0) bxn11n2n6n0 (.int .i64 (K1 + (q2 : Int) * 5))) (i := 1) (.int .i64 0)) (i := 2) (.int .i64 0)
          have csn11n2n6n0n12 : Chg (fun j => j = ban11) wvn11n2n6n0 (((wvn11n2n6n0.setCell ⟨ban11, 0, none⟩ (.int .i64 (K1 + (q2 : Int) * 5))).setCell ⟨ban11, 1, none⟩ (.int .i64 0)).setCell ⟨ban11, 2, none⟩ (.int .i64 0)) := ((Chg.set (S := fun j => j = ban11) rfl _).trans (Chg.set (S := fun j => j = ban11) rfl _)).trans (Chg.set (S := fun j => j = ban11) rfl _)
          have nln11n2n6n0n12 : ¬ (bln11n2n6n0 = ban11) := fun e => by
            have h1 := Sn11n2n6n0 0 (by omega)
            have h2 := Sn11n2n6n0 2 (by omega)
            have h3 := Sn11n2n6n0 3 (by omega)
            rw [e, Go.Joins.cell_of_block bxn11n2n6n0] at h3
            simp at h3
          have Sn11n2n6n0n12 : (fun w' => ∀ j, j < 7 → w'.cell? ⟨bln11n2n6n0, j, none⟩ = some (.int .i64 (kindF j))) (((wvn11n2n6n0.setCell ⟨ban11, 0, none⟩ (.int .i64 (K1 + (q2 : Int) * 5))).setCell ⟨ban11, 1, none⟩ (.int .i64 0)).setCell ⟨ban11, 2, none⟩ (.int .i64 0)) := fun j hj => csn11n2n6n0n12.at_cell nln11n2n6n0n12 (Sn11n2n6n0 j hj)
          refine hold_store (i := 12) (w' := (((wvn11n2n6n0.setCell ⟨ban11, 0, none⟩ (.int .i64 (K1 + (q2 : Int) * 5))).setCell ⟨ban11, 1, none⟩ (.int .i64 0)).setCell ⟨ban11, 2, none⟩ (.int .i64 0))) (listed' := #[true, true, true, true, true, true, true, true, true, true, true, true, true]) rfl (by kernel_rfl) rfl (by rfl) (by kernel_rfl) ?sn11n2n6n0n12 Sn11n2n6n0n12 ?_
          case sn11n2n6n0n12 => go_simp
          refine hold_done (by kernel_rfl) ?_ _
          have ho := Cn11n2n6n0
          have hc := csn11n2n6n0n12
          have hDD : DD w0 rb A n c ban11 ⟨K1 + (q2 : Int) * 5, 0, 0⟩ (p + 1 + 1) (((wvn11n2n6n0.setCell ⟨ban11, 0, none⟩ (.int .i64 (K1 + (q2 : Int) * 5))).setCell ⟨ban11, 1, none⟩ (.int .i64 0)).setCell ⟨ban11, 2, none⟩ (.int .i64 0)) := ⟨by simpa using hb3n11n2n6n0n12, hban11, hrb0, hc.rd Rn11n2n6n0 rbWn11n2n6n0 (by have := nban11; omega), ⟨hc.os.trans ho.os, hc.tape.trans ho.tape, hc.output.trans ho.output, Nat.le_trans ho.size hc.size, fun j hj hs => (hc.block j (Nat.lt_of_lt_of_le hj ho.size) (by have := hban11; omega)).trans (ho.block j hj hs)⟩⟩
          generalize (((wvn11n2n6n0.setCell ⟨ban11, 0, none⟩ (.int .i64 (K1 + (q2 : Int) * 5))).setCell ⟨ban11, 1, none⟩ (.int .i64 0)).setCell ⟨ban11, 2, none⟩ (.int .i64 0)) = WZ at hDD ⊢
          go_wp2_with fail
          go_meet
          exact ⟨_, _, _, rfl, hDD, by omega⟩
  case rest =>
    obtain ⟨ba, K, p1, rfl, hD, hp1⟩ := hcut
    have q1 := hD.old.at_cell (p := ⟨w.heap.size, 1, none⟩) (by show ¬ (w.heap.size = rb); omega) l1
    have b0 := Go.Joins.cell_of_block hD.box 0
    obtain ⟨q, eq, hq1, hq2⟩ : ∃ q : Int, max (k : Int) 1 = q ∧ 1 ≤ q ∧ q ≤ 1000 := ⟨_, rfl, by omega, by omega⟩
    go_upto_block 0 with fail
    clear eq q1 b0
    go_cut [] (fun wx => ∃ (d : Dd) (p2 : Nat), DD w0 rb A n c ba d p2 wx ∧ p2 ≤ p1 + 2)
    case first =>
      by_cases h01 : K = 0 ∨ K = 1
      · have hD1 := hD.alloc (.cells #[.int .i64 2, .int .i64 2, .int .i64 1, .int .i64 3, .int .i64 0, .int .i64 4] 3)
        have XL := BoxN.start wc #[.int .i64 2, .int .i64 2, .int .i64 1, .int .i64 3, .int .i64 0, .int .i64 4] 3
        have s1 : wc.heap.size < (wc.alloc (.cells #[.int .i64 2, .int .i64 2, .int .i64 1, .int .i64 3, .int .i64 0, .int .i64 4] 3)).heap.size := by simp
        have nb : ¬ (wc.heap.size = rb) := by have h1 := hD.hrb; have h2 := hD.old.size; omega
        have H6 : ∀ j : Nat, j < 6 → ∃ x : Int, (wc.alloc (.cells #[.int .i64 2, .int .i64 2, .int .i64 1, .int .i64 3, .int .i64 0, .int .i64 4] 3)).cell? ⟨wc.heap.size, j, none⟩ = some (.int .i64 x) := fun j hj => by
          rcases (by omega : j = 0 ∨ j = 1 ∨ j = 2 ∨ j = 3 ∨ j = 4 ∨ j = 5) with rfl | rfl | rfl | rfl | rfl | rfl
          all_goals exact ⟨_, XL.cell _ rfl⟩
        have HH := Lib.hid H6
        clear H6 XL
        rcases h01 with rfl | rfl
        all_goals
          go_wp2_with fail
          generalize wc.alloc (.cells #[.int .i64 2, .int .i64 2, .int .i64 1, .int .i64 3, .int .i64 0, .int .i64 4] 3) = wl at hD1 s1 HH ⊢
          go_at_call 30
          refine (pick_any (q := 6) (by omega) (by omega) (by omega) hn hD1.rd (HBY (c0.trans hD1.old)) hB).mono ?_
          rintro e w5 ⟨v, rfl, v0, v1, R5, O5⟩
          have hD5 := hD1.pick O5 R5
          obtain ⟨j, rfl⟩ : ∃ j : Nat, v = (j : Int) := ⟨v.toNat, by omega⟩
          obtain ⟨x, hx⟩ := HH.out j (by omega)
          have gx := (Chg.of_only O5).at_cell (p := ⟨wc.heap.size, j, none⟩) nb hx
          have d1 := Go.Joins.cell_of_block hD5.box 1
          have f1 := Go.Joins.unfrozen_of_block hD5.box 1
          have hD6 := Lib.hid (hD5.setA x)
          clear hx O5 R5
          go_wp2_with fail
          go_meet
          exact ⟨_, _, hD6.out, by omega⟩
      have n0 : (K == 0) = false := beq_eq_false_iff_ne.2 fun e => h01 (.inl e)
      have n1 : (K == 1) = false := beq_eq_false_iff_ne.2 fun e => h01 (.inr e)
      by_cases h3 : K = 3
      · subst h3
        clear n0 n1 h01
        go_wp2_with fail
        go_at_call 30
        refine (pick_any (q := q) (by omega) (by omega) (by omega) hn hD.rd (HBY (c0.trans hD.old)) hB).mono ?_
        rintro e w5 ⟨v, rfl, v0, v1, R5, O5⟩
        have hD5 := hD.pick O5 R5
        have d1 := Go.Joins.cell_of_block hD5.box 1
        have f1 := Go.Joins.unfrozen_of_block hD5.box 1
        have hD6 := hD5.setA v
        clear O5 R5
        go_wp2_with fail
        generalize w5.setCell ⟨ba, 1, none⟩ (.int .i64 v) = w6 at hD6 ⊢
        clear d1 f1
        go_at_call 30
        refine (pick_any (q := q) (by omega) (by omega) (by omega) hn hD6.rd (HBY (c0.trans hD6.old)) hB).mono ?_
        rintro e w7 ⟨v', rfl, v0', v1', R7, O7⟩
        have hD7 := hD6.pick O7 R7
        have d2 := Go.Joins.cell_of_block hD7.box 2
        have f2 := Go.Joins.unfrozen_of_block hD7.box 2
        have hD8 := Lib.hid (hD7.setB v')
        clear O7 R7
        go_wp2_with fail
        go_meet
        exact ⟨_, _, hD8.out, by omega⟩
      · have n3 : (K == 3) = false := beq_eq_false_iff_ne.2 h3
        clear h3 h01
        go_wp2_with fail
        go_meet
        exact ⟨_, _, hD, by omega⟩
    case rest =>
      clear hD
      obtain ⟨d, p2, hD, hp2⟩ := hcut
      go_wp2_with fail
      go_at_call 48
      refine (odd_any (q := 40) (by omega) (by omega) (by omega) hn hD.rd (HBY (c0.trans hD.old)) hB).mono ?_
      rintro e w5 ⟨⟨x, rfl⟩, R5, O5⟩
      have hD5 := hD.pick O5 R5
      clear hD O5 R5
      cases x with
      | false =>
        have e0 := Go.Joins.cell_of_block hD5.box 0
        have e1 := Go.Joins.cell_of_block hD5.box 1
        have e2 := Go.Joins.cell_of_block hD5.box 2
        obtain ⟨rx, ry, rR, rC⟩ := hD5.finish c0 hY (by omega) (by omega) (by omega)
        have g0 := Go.Joins.cell_of_block rx 0
        have g1 := Go.Joins.cell_of_block rx 1
        have g2 := Go.Joins.cell_of_block rx 2
        have u0 := Go.Joins.unfrozen_of_block rx 0
        have u1 := Go.Joins.unfrozen_of_block rx 1
        have u2 := Go.Joins.unfrozen_of_block rx 2
        go_wp2_with fail
        generalize ((w5.setCell ⟨w.heap.size + 1, 0, none⟩ (.int .i64 d.k)).setCell ⟨w.heap.size + 1, 1, none⟩ (.int .i64 d.a)).setCell ⟨w.heap.size + 1, 2, none⟩ (.int .i64 d.b) = WF at ry rR rC ⊢
        have t0 := Go.Joins.cell_of_block ry 0
        have t1 := Go.Joins.cell_of_block ry 1
        have t2 := Go.Joins.cell_of_block ry 2
        refine bodyPost_ret (v := .agg #[.int .i64 d.k, .int .i64 d.a, .int .i64 d.b]) (by simp [results, Try.results47, go_sem, t0, t1, t2]) rfl ?_
        exact ⟨d, _, rfl, by omega, rR, rC⟩
      | true =>
        have hD1 := hD5.alloc (.cells #[.int .i64 (-1), .int .i64 12, .int .i64 100] 3)
        have XL := BoxN.start w5 #[.int .i64 (-1), .int .i64 12, .int .i64 100] 3
        have s1 : w5.heap.size < (w5.alloc (.cells #[.int .i64 (-1), .int .i64 12, .int .i64 100] 3)).heap.size := by simp
        have nb : ¬ (w5.heap.size = rb) := by have h1 := hD5.hrb; have h2 := hD5.old.size; omega
        have H6 : ∀ j : Nat, j < 3 → ∃ x : Int, (w5.alloc (.cells #[.int .i64 (-1), .int .i64 12, .int .i64 100] 3)).cell? ⟨w5.heap.size, j, none⟩ = some (.int .i64 x) := fun j hj => by
          rcases (by omega : j = 0 ∨ j = 1 ∨ j = 2) with rfl | rfl | rfl
          all_goals exact ⟨_, XL.cell _ rfl⟩
        have HH := Lib.hid H6
        clear H6 XL hD5
        go_wp2_with fail
        generalize w5.alloc (.cells #[.int .i64 (-1), .int .i64 12, .int .i64 100] 3) = wl at hD1 s1 HH ⊢
        go_at_call 30
        refine (pick_any (q := 3) (by omega) (by omega) (by omega) hn hD1.rd (HBY (c0.trans hD1.old)) hB).mono ?_
        rintro e w7 ⟨v, rfl, v0, v1, R7, O7⟩
        have hD7 := hD1.pick O7 R7
        obtain ⟨j, rfl⟩ : ∃ j : Nat, v = (j : Int) := ⟨v.toNat, by omega⟩
        obtain ⟨x, hx⟩ := HH.out j (by omega)
        have gx := (Chg.of_only O7).at_cell (p := ⟨w5.heap.size, j, none⟩) nb hx
        have d2 := Go.Joins.cell_of_block hD7.box 2
        have f2 := Go.Joins.unfrozen_of_block hD7.box 2
        have hD8 := hD7.setB x
        clear hx O7 R7 HH
        go_upto_region 12 with fail
        generalize w7.setCell ⟨ba, 2, none⟩ (.int .i64 x) = w8 at hD8 ⊢
        clear d2 f2 gx
        have e0 := Go.Joins.cell_of_block hD8.box 0
        have e1 := Go.Joins.cell_of_block hD8.box 1
        have e2 := Go.Joins.cell_of_block hD8.box 2
        obtain ⟨rx, ry, rR, rC⟩ := hD8.finish c0 hY (by omega) (by omega) (by omega)
        have g0 := Go.Joins.cell_of_block rx 0
        have g1 := Go.Joins.cell_of_block rx 1
        have g2 := Go.Joins.cell_of_block rx 2
        have u0 := Go.Joins.unfrozen_of_block rx 0
        have u1 := Go.Joins.unfrozen_of_block rx 1
        have u2 := Go.Joins.unfrozen_of_block rx 2
        go_wp2_with fail
        generalize ((w8.setCell ⟨w.heap.size + 1, 0, none⟩ (.int .i64 d.k)).setCell ⟨w.heap.size + 1, 1, none⟩ (.int .i64 d.a)).setCell ⟨w.heap.size + 1, 2, none⟩ (.int .i64 x) = WF at ry rR rC ⊢
        have t0 := Go.Joins.cell_of_block ry 0
        have t1 := Go.Joins.cell_of_block ry 1
        have t2 := Go.Joins.cell_of_block ry 2
        refine bodyPost_ret (v := .agg #[.int .i64 d.k, .int .i64 d.a, .int .i64 x]) (by simp [results, Try.results47, go_sem, t0, t1, t2]) rfl ?_
        exact ⟨⟨d.k, d.a, x⟩, _, rfl, by omega, rR, rC⟩
end Go.Proofs.Ytojcgmgponnlpaa
