import Derived.Test.YtmchgclaeipoeaaZDg
import Derived.RangeFuncNested
import Derived.RangeFuncBound
import Derived.RangeFuncCalls
import Derived.RangeFuncLeaves
import Derived.RangeFuncBox
import Derived.Test.YtmchgclaeipoeaaZOa
import Derived.Test.YtmchgclaeipoeaaZMath
import Derived.Laws.EntriesVeiled
import Derived.BigQuiet
import Derived.Test.YtmchgclaeipoeaaZKb
import Derived.Test.YtmchgclaeipoeaaZDn
namespace Go.Proofs.Ytmchgclaeipoeaa
open Go.RowKit Go.Deep

theorem Chg.put {W : World} {l : Nat} {o : Obj} : Chg (fun j => j = l) W (W.putObj l o) :=
  ⟨rfl, rfl, rfl, by simp, fun _ _ hs => World.putObj_heap_other hs⟩

end Go.Proofs.Ytmchgclaeipoeaa
namespace Go.Proofs.Ytmchgclaeipoeaa
open Go.RowKit Go.Deep Go.Shelf

attribute [local go_sem] Oper.semAt_some

/-- A function value of two numbers, as the walk meets it: wherever what lay in w lies unturned it answers so, and makes memory alone. -/
structure Fun2At (w : World) (g : Nat) (f c : Array Value) (N : Nat) (b : Nat → Nat → Bool) : Prop where
  enters : ∀ args w, (callFunc g args).run Try.prog w = .ok (.enter g args) w
  gives : ∀ (W : World) (x y : Nat), Below w.heap.size w W → x < N → y < N → Calls Try.prog g (f ++ (#[.int .i64 (x : Int), .int .i64 (y : Int)] ++ c)) W fun e W' => e = .returned (.bool (b x y)) ∧ Below W.heap.size W W'
structure Fun1At (w : World) (g : Nat) (f c : Array Value) (N : Nat) (y : Nat → Nat) : Prop where
  enters : ∀ args w, (callFunc g args).run Try.prog w = .ok (.enter g args) w
  gives : ∀ (W : World) (x : Nat), Below w.heap.size w W → x < N → Calls Try.prog g (f ++ (#[.int .i64 (x : Int)] ++ c)) W fun e W' => e = .returned (.int .i64 (y x : Int)) ∧ Below W.heap.size W W'
def bitZ (b : Nat → Nat → Bool) (x y : Nat) : Int := if b x y = true then 1 else 0
end Go.Proofs.Ytmchgclaeipoeaa
namespace Go.Proofs.Ytmchgclaeipoeaa
open Go.RowKit Go.Deep Go.Shelf

attribute [local go_sem] Oper.semAt_some

/-- Blocks between the box and the base may turn. -/
theorem MakeAt.mids {S : Nat → Prop} {wr w' : World} {p base : Nat} {u t : Value} {k kt N : Nat} {rv : Nat → Value} {Z : Nat → Nat → Int} {y : Nat → Int} (h : MakeAt wr p base u t k kt N rv Z y) (hc : Chg S wr w') (hp : ¬ S p) (hs : ∀ j, base ≤ j → ¬ S j) : MakeAt w' p base u t k kt N rv Z y :=
  ⟨h.pb, hc.two h.box hp, hc.out h.out (fun g hg => hs g (ownsRow_block h.out.top g hg)) (fun r hr g hg => hs g (ownsRow_block (h.out.row r hr) g hg)), hc.ints h.ints (fun g hg => hs g (ownsRow_block h.ints g hg)), h.sep, h.rng⟩
/-- The logic under way, the plan's box and the result's beside it. -/
structure Making (w : World) (N : Nat) (b : Nat → Nat → Bool) (y : Nat → Nat) (fv : Value) (k : Nat) (W : World) (u t : Value) (rv : Nat → Value) : Prop where
  make : MakeAt W (w.heap.size + 1 + 1) (w.heap.size + 6) u t k k N rv (bitZ b) (fun c => (y c : Int))
  res : TwoAt W (w.heap.size + 1) (.slice none 0 0) (.slice none 0 0)
  fn : W.cell? ⟨w.heap.size, 2, none⟩ = some fv
  old : Below w.heap.size w W
theorem Making.chg {S : Nat → Prop} {w W W' : World} {N k : Nat} {b : Nat → Nat → Bool} {y : Nat → Nat} {fv u t : Value} {rv : Nat → Value} (h : Making w N b y fv k W u t rv) (hc : Chg S W W') (hs : ∀ j, S j → w.heap.size + 3 ≤ j ∧ j < w.heap.size + 6) : Making w N b y fv k W' u t rv := by
  have hl := World.block_lt_of_cell? W ⟨w.heap.size, 2, none⟩ h.fn
  have no : ∀ j, j < w.heap.size + 3 → ¬ S j := fun j hj e => by have := (hs j e).1; omega
  exact ⟨h.make.mids hc (no _ (by omega)) (fun j hj e => by have := (hs j e).2; omega), hc.two h.res (no _ (by omega)), (World.cell?_of_block (a := ⟨w.heap.size, 2, none⟩) (hc.block _ hl (no _ (by show w.heap.size < _; omega)))).trans h.fn, h.old.trans (hc.below h.old.size fun j hj => by have := (hs j hj).1; omega)⟩

/-- One operation that hands over a value, whatever else may come up. -/
theorem opH_value {P : Program} {md : Region.Mode} {ops : Array Oper} {Q : Exit → Act → World → Prop} {S : World → Prop} {i d fuel : Nat} {v : Value} {listed listed' : Array Bool} {a : Act} {w w' : World} {o : Oper} {rest : List Oper} (hi : ops.toList.drop i = o :: rest)
    (hd : o.dst = some d) (hw : Region.wanted o (yielded ops a.tmps) = true) (hl : listed.setIfInBounds i true = listed') (he : (execOp a.eval o).run P w = .ok (.value v) w') (hS : S w')
    (h : wpAnyH P md ops Q S fuel listed' { tmps := a.tmps.setIfInBounds d v, defers := a.defers } w') : wpOp P ops Q i (fun a' w' => S w' ∧ wpAnyH P md ops Q S fuel (listed.setIfInBounds i true) a' w') a w := by
  unfold wpOp
  rw [at_drop hi]
  simp only
  rw [if_pos hw, hl]
  refine .inl ?_
  unfold Oper.wp
  rw [he, Oper.upon_value, hd]
  exact ⟨hS, h⟩
theorem opH_call {P : Program} {md : Region.Mode} {ops : Array Oper} {Q : Exit → Act → World → Prop} {S : World → Prop} {i d fuel : Nat} {listed listed' : Array Bool} {a : Act} {w : World} {o : Oper} {rest : List Oper} {f : FuncId} {args : Array Value} {R : Ending → World → Prop} (hi : ops.toList.drop i = o :: rest)
    (hd : o.dst = some d) (hw : Region.wanted o (yielded ops a.tmps) = true) (hl : listed.setIfInBounds i true = listed')
    (he : (execOp a.eval o).run P w = .ok (.enter f args) w) (hc : Calls P f args w R)
    (h : ∀ e w', R e w' → ∃ v, e = .returned v ∧ S w' ∧ wpAnyH P md ops Q S fuel listed' { tmps := a.tmps.setIfInBounds d v, defers := a.defers } w') : wpOp P ops Q i (fun a' w' => S w' ∧ wpAnyH P md ops Q S fuel (listed.setIfInBounds i true) a' w') a w := by
  unfold wpOp
  rw [at_drop hi]
  simp only
  rw [if_pos hw, hl]
  refine .inl ?_
  unfold Oper.wp
  rw [he, Oper.upon_enter]
  refine hc.mono fun e w' hR => ?_
  obtain ⟨v, rfl, hS, hA⟩ := h e w' hR
  rw [hd]
  exact ⟨hS, hA⟩
theorem hold_value {P : Program} {md : Region.Mode} {ops : Array Oper} {Q : Exit → Act → World → Prop} {S : World → Prop} {i d fuel : Nat} {v : Value} {listed listed' : Array Bool} {a : Act} {w w' : World} {o : Oper} {rest : List Oper} (hi : ops.toList.drop i = o :: rest)
    (hr : Region.ready md ops listed = [i]) (hd : o.dst = some d) (hw : Region.wanted o (yielded ops a.tmps) = true) (hl : listed.setIfInBounds i true = listed') (he : (execOp a.eval o).run P w = .ok (.value v) w') (hS : S w')
    (h : wpAnyH P md ops Q S fuel listed' { tmps := a.tmps.setIfInBounds d v, defers := a.defers } w') : wpAnyH P md ops Q S (fuel + 1) listed a w := by
  refine wpAnyH_all hr (by simp) fun j hj => ?_
  obtain rfl : j = i := by simpa using hj
  exact opH_value hi hd hw hl he hS h
/-- Two that may come up. -/
theorem hold_two {P : Program} {md : Region.Mode} {ops : Array Oper} {Q : Exit → Act → World → Prop} {S : World → Prop} {i j fuel : Nat} {listed : Array Bool} {a : Act} {w : World} (hr : Region.ready md ops listed = [i, j])
    (h1 : wpOp P ops Q i (fun a' w' => S w' ∧ wpAnyH P md ops Q S fuel (listed.setIfInBounds i true) a' w') a w) (h2 : wpOp P ops Q j (fun a' w' => S w' ∧ wpAnyH P md ops Q S fuel (listed.setIfInBounds j true) a' w') a w) : wpAnyH P md ops Q S (fuel + 1) listed a w := by
  refine wpAnyH_all hr (by simp) fun k hk => ?_
  rcases (by simpa using hk : k = i ∨ k = j) with rfl | rfl
  · exact h1
  · exact h2
end Go.Proofs.Ytmchgclaeipoeaa
namespace Go.Proofs.Ytmchgclaeipoeaa
open Go.RowKit Go.Deep

end Go.Proofs.Ytmchgclaeipoeaa
namespace Go.Proofs.Ytmchgclaeipoeaa
open Go.RowKit Go.Deep

theorem hold_more {P : Program} {md : Region.Mode} {ops : Array Oper} {Q : Exit → Act → World → Prop} {S S' : World → Prop} (hs : ∀ w, S' w → S w) : ∀ (fuel : Nat) (listed : Array Bool) (a : Act) (w : World), wpAnyH P md ops Q S' fuel listed a w → wpAnyH P md ops Q S fuel listed a w
  | 0, _, _, _, h => h
  | fuel + 1, _, _, _, h => ⟨h.1, fun i hi => wpOp_mono (fun _ _ h' => ⟨hs _ h'.1, hold_more hs fuel _ _ _ h'.2⟩) (h.2 i hi)⟩
theorem Chg.at_ {S : Nat → Prop} {w w' : World} {p : Addr} {v : Value} (h : Chg S w w') (hs : ¬ S p.block) (hc : w.cell? p = some v) : w'.cell? p = some v :=
  (World.cell?_of_block (h.block p.block (World.block_lt_of_cell? w p hc) hs)).trans hc
def fmM : Nat → Nat
  | 0 => 1
  | d + 1 => 2 * fmM d + 3
theorem fmM_pos (d : Nat) : 1 ≤ fmM d := by cases d <;> simp [fmM]
/-- A text drawn: no longer than told, the reader somewhat further, nothing else turned. -/
def DrawnS (rb : Nat) (A : Option Addr) (n c p L : Nat) (w : World) (e : Ending) (w' : World) : Prop :=
  ∃ (s : ByteArray) (p' : Nat), e = .returned (.string s) ∧ 1 ≤ s.size ∧ s.size ≤ L ∧ Rd w' rb A n c p' ∧ p' ≤ p + L ∧ Chg (fun j => j = rb) w w'
def FormC (d : Nat) : Prop := ∀ {rb n c p : Nat} {A : Option Addr} {B b o : Nat} {z : Nat → Nat} {w : World} {x : Int}, x = (d : Int) → p + fmM d ≤ 10000 → n ≤ 2000 → Rd w rb A n c p → BytesAt w B A b o n z → B ≤ rb → rb < w.heap.size →
  Calls Try.prog 38 #[.pointer (some ⟨rb, 0, none⟩), .int .i64 x] w (DrawnS rb A n c p (fmM d) w)

set_option maxRecDepth 100000 in
set_option maxHeartbeats 4000000 in
theorem form_zero : FormC 0 := by
  intro rb n c p A B b o z w x hx hp hn hR hz hB hrbW
  subst hx
  have HZ := Lib.hid hz
  have HBY : ∀ {wx : World}, Chg (fun j => j = rb) w wx → BytesAt wx B A b o n z := fun hG => HZ.out.below ((hG.below (B := rb) (by omega) (fun j hj => by have hj' : j = rb := hj; omega)).mono hB)
  clear hz
  have C0 := Chg.refl (fun j => j = rb) w
  have hM : 1 ≤ fmM 0 := fmM_pos 0
  go_enter Try.func38, Try.ntmps38
  have hXL := BoxN.start w #[.string ⟨#[97]⟩, .string ⟨#[98]⟩, .string ⟨#[97]⟩, .string ⟨#[98]⟩, .string ⟨#[99]⟩, .string ⟨#[49]⟩, .string ⟨#[48]⟩] 9
  have cL := Chg.alloc (fun j => j = rb) w (.cells #[.string ⟨#[97]⟩, .string ⟨#[98]⟩, .string ⟨#[97]⟩, .string ⟨#[98]⟩, .string ⟨#[99]⟩, .string ⟨#[49]⟩, .string ⟨#[48]⟩] 9)
  have rL := (Chg.alloc (fun _ => False) w (.cells #[.string ⟨#[97]⟩, .string ⟨#[98]⟩, .string ⟨#[97]⟩, .string ⟨#[98]⟩, .string ⟨#[99]⟩, .string ⟨#[49]⟩, .string ⟨#[48]⟩] 9)).rd hR hrbW (fun h => h)
  have bL := HBY (C0.trans cL)
  go_wp2_with fail
  go_at_call 14
  refine (pick_any (q := 7) (by omega) (by omega) (by omega) hn rL bL hB).mono ?_
  rintro e wL ⟨vL, rfl, vL0, vL1, rL2, oL⟩
  have cL2 := Chg.of_only oL
  have l0 := cL2.at_ (p := ⟨w.heap.size, 0, none⟩) (by show ¬ (w.heap.size = rb); omega) (hXL.cell 0 rfl)
  have l1 := cL2.at_ (p := ⟨w.heap.size, 1, none⟩) (by show ¬ (w.heap.size = rb); omega) (hXL.cell 1 rfl)
  have l2 := cL2.at_ (p := ⟨w.heap.size, 2, none⟩) (by show ¬ (w.heap.size = rb); omega) (hXL.cell 2 rfl)
  have l3 := cL2.at_ (p := ⟨w.heap.size, 3, none⟩) (by show ¬ (w.heap.size = rb); omega) (hXL.cell 3 rfl)
  have l4 := cL2.at_ (p := ⟨w.heap.size, 4, none⟩) (by show ¬ (w.heap.size = rb); omega) (hXL.cell 4 rfl)
  have l5 := cL2.at_ (p := ⟨w.heap.size, 5, none⟩) (by show ¬ (w.heap.size = rb); omega) (hXL.cell 5 rfl)
  have l6 := cL2.at_ (p := ⟨w.heap.size, 6, none⟩) (by show ¬ (w.heap.size = rb); omega) (hXL.cell 6 rfl)
  have cLw := C0.trans (cL.trans cL2)
  clear hXL rL bL oL cL2 cL
  rcases (by omega : vL = 0 ∨ vL = 1 ∨ vL = 2 ∨ vL = 3 ∨ vL = 4 ∨ vL = 5 ∨ vL = 6) with rfl | rfl | rfl | rfl | rfl | rfl | rfl
  all_goals
    go_wp2_with fail
    go_returns
    exact ⟨_, _, rfl, by decide, by decide, rL2, by omega, cLw⟩

theorem lit1 (c : UInt8) : (ByteArray.mk #[c]).size = 1 := rfl
set_option maxRecDepth 100000 in
set_option maxHeartbeats 16000000 in
theorem form_step {d : Nat} (IH : FormC d) (hM : fmM (d + 1) ≤ 100) : FormC (d + 1) := by
  intro rb n c p A B b o z w x hx hp hn hR hz hB hrbW
  have hMe : fmM (d + 1) = 2 * fmM d + 3 := rfl
  have hMp := fmM_pos d
  have HZ := Lib.hid hz
  have HBY : ∀ {wx : World}, Chg (fun j => j = rb) w wx → BytesAt wx B A b o n z := fun hG => HZ.out.below ((hG.below (B := rb) (by omega) (fun j hj => by have hj' : j = rb := hj; omega)).mono hB)
  have hx0 : ¬ x = 0 := by omega
  have hx1 : 1 ≤ x := by omega
  have hx0b : (x == 0) = false := beq_eq_false_iff_ne.2 hx0
  have hd1000 : d ≤ 100 := by
    have h9 : ∀ k, k ≤ fmM k := fun k => by
      induction k with
      | zero => simp
      | succ k ih => have : fmM (k + 1) = 2 * fmM k + 3 := rfl; omega
    have := h9 (d + 1)
    omega
  have hx2 : x ≤ 101 := by omega
  have HX := Lib.hid hx
  obtain ⟨M, hML⟩ : ∃ M, fmM (d + 1) = M := ⟨_, rfl⟩
  have hM2 : 2 * fmM d + 3 ≤ M := by omega
  have hM100 : M ≤ 100 := by omega
  rw [hML] at hp ⊢
  obtain ⟨D, hMD⟩ : ∃ D, fmM d = D := ⟨_, rfl⟩
  rw [hMD] at hM2 hMp
  have IH' : ∀ {rb n c p : Nat} {A : Option Addr} {B b o : Nat} {z : Nat → Nat} {w : World} {x : Int}, x = (d : Int) → p + D ≤ 10000 → n ≤ 2000 → Rd w rb A n c p → BytesAt w B A b o n z → B ≤ rb → rb < w.heap.size →
      Calls Try.prog 38 #[.pointer (some ⟨rb, 0, none⟩), .int .i64 x] w (DrawnS rb A n c p D w) := fun {rb n c p A B b o z w x} h1 h2 h3 h4 h5 h6 h7 => by rw [← hMD] at h2 ⊢; exact IH h1 h2 h3 h4 h5 h6 h7
  clear IH hM hMe hML hMD hx
  have IH : Hid (∀ (rb n c p : Nat) (A : Option Addr) (B b o : Nat) (z : Nat → Nat) (w : World) (x : Int), x = (d : Int) → p + D ≤ 10000 → n ≤ 2000 → Rd w rb A n c p → BytesAt w B A b o n z → B ≤ rb → rb < w.heap.size →
      Calls Try.prog 38 #[.pointer (some ⟨rb, 0, none⟩), .int .i64 x] w (DrawnS rb A n c p D w)) := fun rb n c p A B b o z w x h1 h2 h3 h4 h5 h6 h7 => IH' h1 h2 h3 h4 h5 h6 h7
  clear IH'
  go_enter Try.func38, Try.ntmps38
  go_wp2_with fail
  go_at_call 14
  refine (pick_any (q := 5) (by omega) (by omega) (by omega) hn hR hz hB).mono ?_
  rintro e w1 ⟨v1, rfl, v10, v11, hR1, hO1⟩
  have C1 := Chg.of_only hO1
  have rbW1 : rb < w1.heap.size := by have := C1.size; omega
  clear hO1 hz hR hrbW
  have hR := hR1
  have hrbW := rbW1
  by_cases h1 : v1 = 0
  · subst h1
    clear hR1 rbW1
    have hXL := BoxN.start w1 #[.string ⟨#[97]⟩, .string ⟨#[98]⟩, .string ⟨#[97]⟩, .string ⟨#[98]⟩, .string ⟨#[99]⟩, .string ⟨#[49]⟩, .string ⟨#[48]⟩] 9
    have cL := Chg.alloc (fun j => j = rb) w1 (.cells #[.string ⟨#[97]⟩, .string ⟨#[98]⟩, .string ⟨#[97]⟩, .string ⟨#[98]⟩, .string ⟨#[99]⟩, .string ⟨#[49]⟩, .string ⟨#[48]⟩] 9)
    have rL := (Chg.alloc (fun _ => False) w1 (.cells #[.string ⟨#[97]⟩, .string ⟨#[98]⟩, .string ⟨#[97]⟩, .string ⟨#[98]⟩, .string ⟨#[99]⟩, .string ⟨#[49]⟩, .string ⟨#[48]⟩] 9)).rd hR hrbW (fun h => h)
    have bL := HBY (C1.trans cL)
    go_wp2_with fail
    go_at_call 14
    refine (pick_any (q := 7) (by omega) (by omega) (by omega) hn rL bL hB).mono ?_
    rintro e wL ⟨vL, rfl, vL0, vL1, rL2, oL⟩
    have cL2 := Chg.of_only oL
    have l0 := cL2.at_ (p := ⟨w1.heap.size, 0, none⟩) (by show ¬ (w1.heap.size = rb); omega) (hXL.cell 0 rfl)
    have l1 := cL2.at_ (p := ⟨w1.heap.size, 1, none⟩) (by show ¬ (w1.heap.size = rb); omega) (hXL.cell 1 rfl)
    have l2 := cL2.at_ (p := ⟨w1.heap.size, 2, none⟩) (by show ¬ (w1.heap.size = rb); omega) (hXL.cell 2 rfl)
    have l3 := cL2.at_ (p := ⟨w1.heap.size, 3, none⟩) (by show ¬ (w1.heap.size = rb); omega) (hXL.cell 3 rfl)
    have l4 := cL2.at_ (p := ⟨w1.heap.size, 4, none⟩) (by show ¬ (w1.heap.size = rb); omega) (hXL.cell 4 rfl)
    have l5 := cL2.at_ (p := ⟨w1.heap.size, 5, none⟩) (by show ¬ (w1.heap.size = rb); omega) (hXL.cell 5 rfl)
    have l6 := cL2.at_ (p := ⟨w1.heap.size, 6, none⟩) (by show ¬ (w1.heap.size = rb); omega) (hXL.cell 6 rfl)
    have cLw := C1.trans (cL.trans cL2)
    clear hXL rL bL oL cL2 cL
    rcases (by omega : vL = 0 ∨ vL = 1 ∨ vL = 2 ∨ vL = 3 ∨ vL = 4 ∨ vL = 5 ∨ vL = 6) with rfl | rfl | rfl | rfl | rfl | rfl | rfl
    all_goals
      go_wp2_with fail
      go_returns
      exact ⟨_, _, rfl, by decide, by first | (show 1 ≤ _; omega) | omega, rL2, by omega, cLw⟩
  · have hn1 : (v1 == 0) = false := beq_eq_false_iff_ne.2 h1
    clear hR hrbW
    go_wp2_with fail
    go_at_call 14
    have bY1 := HBY C1
    have hp1 : p + 1 ≤ 100000 := by omega
    refine (pick_any (q := 3) (p := p + 1) (by decide) (by decide) hp1 hn hR1 bY1 hB).mono ?_
    rintro e w2 ⟨v2, rfl, v20, v21, hR2, hO2⟩
    have C2 := C1.trans (Chg.of_only hO2)
    have rbW2 : rb < w2.heap.size := by have := (Chg.of_only hO2).size; omega
    clear hO2 hR1 C1 rbW1
    by_cases h2 : v2 = 0
    · subst h2
      go_wp2_with fail
      go_at_call 38
      refine (IH.out _ _ _ _ _ _ _ _ _ _ (x - 1) (by have := HX.out; omega) (by omega) hn hR2 (HBY C2) hB rbW2).mono ?_
      rintro e w3 ⟨s1, p1, rfl, s1lo, s1hi, hR3, p1hi, hC3⟩
      have C3 := C2.trans hC3
      clear hC3 C2 hR2
      go_wp2_with fail
      go_returns
      exact ⟨_, _, rfl, by rw [ByteArray.size_append]; omega, by rw [ByteArray.size_append, lit1]; omega, hR3, by omega, C3⟩
    · have hn2 : (v2 == 0) = false := beq_eq_false_iff_ne.2 h2
      go_wp2_with fail
      have Cd := C2.trans (Chg.drew (fun j => j = rb) w2)
      have Rdd : Rd w2.drew rb A n c (p + 1 + 1) := hR2
      have rbWd : rb < w2.drew.heap.size := rbW2
      clear C2 hR2
      refine region_plain (fuel := 18) (listed := #[false, false, false, false, false, false, false, false, false, false, false, false, false, false, false, false, false, false]) (fun _ => True) (by kernel_rfl) (by kernel_rfl) (by kernel_rfl) ?_
      refine hold_take (i := 0) (d := 25) (v := ?vqT0) (listed' := #[true, false, false, false, false, false, false, false, false, false, false, false, false, false, false, false, false, false]) rfl (by kernel_rfl) (by kernel_rfl) (by kernel_rfl) rfl (by rfl) (by kernel_rfl) trivial ?hqT0 ?rqT0
      case hqT0 =>
        intro w' hSw
        clear hSw
        go_simp
        first | with_reducible rfl | (rw [if_neg (by omega)]; done) | (rw [if_neg (by omega)]; with_reducible rfl) | (simp only [ByteArray.size_append]; rw [if_neg (by simp only [ByteArray.size_append, lit1] at *; omega)]; done) | skip
      simp only [List.setIfInBounds_toArray, List.set_cons_zero, List.set_cons_succ]
      refine hold_take (i := 1) (d := 26) (v := ?vqT1) (listed' := #[true, true, false, false, false, false, false, false, false, false, false, false, false, false, false, false, false, false]) rfl (by kernel_rfl) (by kernel_rfl) (by kernel_rfl) rfl (by rfl) (by kernel_rfl) trivial ?hqT1 ?rqT1
      case hqT1 =>
        intro w' hSw
        clear hSw
        go_simp
        first | with_reducible rfl | (rw [if_neg (by omega)]; done) | (rw [if_neg (by omega)]; with_reducible rfl) | (simp only [ByteArray.size_append]; rw [if_neg (by simp only [ByteArray.size_append, lit1] at *; omega)]; done) | skip
      simp only [List.setIfInBounds_toArray, List.set_cons_zero, List.set_cons_succ]
      refine hold_take (i := 2) (d := 27) (v := ?vqT2) (listed' := #[true, true, true, false, false, false, false, false, false, false, false, false, false, false, false, false, false, false]) rfl (by kernel_rfl) (by kernel_rfl) (by kernel_rfl) rfl (by rfl) (by kernel_rfl) trivial ?hqT2 ?rqT2
      case hqT2 =>
        intro w' hSw
        clear hSw
        go_simp
        first | with_reducible rfl | (rw [if_neg (by omega)]; done) | (rw [if_neg (by omega)]; with_reducible rfl) | (simp only [ByteArray.size_append]; rw [if_neg (by simp only [ByteArray.size_append, lit1] at *; omega)]; done) | skip
      simp only [List.setIfInBounds_toArray, List.set_cons_zero, List.set_cons_succ]
      refine hold_take (i := 6) (d := 31) (v := ?vqT6) (listed' := #[true, true, true, false, false, false, true, false, false, false, false, false, false, false, false, false, false, false]) rfl (by kernel_rfl) (by kernel_rfl) (by kernel_rfl) rfl (by rfl) (by kernel_rfl) trivial ?hqT6 ?rqT6
      case hqT6 =>
        intro w' hSw
        clear hSw
        go_simp
        first | with_reducible rfl | (rw [if_neg (by omega)]; done) | (rw [if_neg (by omega)]; with_reducible rfl) | (simp only [ByteArray.size_append]; rw [if_neg (by simp only [ByteArray.size_append, lit1] at *; omega)]; done) | skip
      simp only [List.setIfInBounds_toArray, List.set_cons_zero, List.set_cons_succ]
      refine hold_take (i := 11) (d := 36) (v := ?vqT11) (listed' := #[true, true, true, false, false, false, true, false, false, false, false, true, false, false, false, false, false, false]) rfl (by kernel_rfl) (by kernel_rfl) (by kernel_rfl) rfl (by rfl) (by kernel_rfl) trivial ?hqT11 ?rqT11
      case hqT11 =>
        intro w' hSw
        clear hSw
        go_simp
        first | with_reducible rfl | (rw [if_neg (by omega)]; done) | (rw [if_neg (by omega)]; with_reducible rfl) | (simp only [ByteArray.size_append]; rw [if_neg (by simp only [ByteArray.size_append, lit1] at *; omega)]; done) | skip
      simp only [List.setIfInBounds_toArray, List.set_cons_zero, List.set_cons_succ]
      refine hold_take (i := 12) (d := 37) (v := ?vqT12) (listed' := #[true, true, true, false, false, false, true, false, false, false, false, true, true, false, false, false, false, false]) rfl (by kernel_rfl) (by kernel_rfl) (by kernel_rfl) rfl (by rfl) (by kernel_rfl) trivial ?hqT12 ?rqT12
      case hqT12 =>
        intro w' hSw
        clear hSw
        go_simp
        first | with_reducible rfl | (rw [if_neg (by omega)]; done) | (rw [if_neg (by omega)]; with_reducible rfl) | (simp only [ByteArray.size_append]; rw [if_neg (by simp only [ByteArray.size_append, lit1] at *; omega)]; done) | skip
      simp only [List.setIfInBounds_toArray, List.set_cons_zero, List.set_cons_succ]
      refine hold_take (i := 13) (d := 38) (v := ?vqT13) (listed' := #[true, true, true, false, false, false, true, false, false, false, false, true, true, true, false, false, false, false]) rfl (by kernel_rfl) (by kernel_rfl) (by kernel_rfl) rfl (by rfl) (by kernel_rfl) trivial ?hqT13 ?rqT13
      case hqT13 =>
        intro w' hSw
        clear hSw
        go_simp
        first | with_reducible rfl | (rw [if_neg (by omega)]; done) | (rw [if_neg (by omega)]; with_reducible rfl) | (simp only [ByteArray.size_append]; rw [if_neg (by simp only [ByteArray.size_append, lit1] at *; omega)]; done) | skip
      simp only [List.setIfInBounds_toArray, List.set_cons_zero, List.set_cons_succ]
      refine hold_two (i := 3) (j := 5) (by kernel_rfl) ?gTn3 ?gTn5
      case gTn3 =>
        refine opH_call (i := 3) (d := 28) (listed' := #[true, true, true, true, false, false, true, false, false, false, false, true, true, true, false, false, false, false]) rfl rfl (by rfl) (by kernel_rfl) ?eTa (IH.out _ _ _ _ _ _ _ _ _ _ (d : Int) rfl (by omega) hn Rdd (HBY Cd) hB rbWd) ?_
        case eTa =>
          go_simp
          have h9 := HX.out
          have h8 : IntKind.i64.wrap (x - 1) = (d : Int) := by rw [show x - 1 = (d : Int) by omega]; simp (disch := omega) only [IntWalk.i64_in]
          exact h8
        rintro e wfTa ⟨s1, p1, rfl, s1lo, s1hi, RTa, p1hi, ccTa⟩
        have CTa := Cd.trans ccTa
        have rbWTa : rb < wfTa.heap.size := by have := ccTa.size; omega
        clear ccTa
        refine ⟨_, rfl, trivial, ?_⟩
        simp only [List.setIfInBounds_toArray, List.set_cons_zero, List.set_cons_succ]
        refine hold_take (i := 4) (d := 29) (v := ?vqTa4) (listed' := #[true, true, true, true, true, false, true, false, false, false, false, true, true, true, false, false, false, false]) rfl (by kernel_rfl) (by kernel_rfl) (by kernel_rfl) rfl (by rfl) (by kernel_rfl) trivial ?hqTa4 ?rqTa4
        case hqTa4 =>
          intro w' hSw
          clear hSw
          go_simp
          first | with_reducible rfl | (rw [if_neg (by omega)]; done) | (rw [if_neg (by omega)]; with_reducible rfl) | (simp only [ByteArray.size_append]; rw [if_neg (by simp only [ByteArray.size_append, lit1] at *; omega)]; done) | skip
        simp only [List.setIfInBounds_toArray, List.set_cons_zero, List.set_cons_succ]
        refine hold_two (i := 5) (j := 7) (by kernel_rfl) ?gTan5 ?gTan7
        case gTan5 =>
          have XTab := BoxN.start wfTa #[.string ⟨#[38]⟩, .string ⟨#[124]⟩] 9
          have cbTab := Chg.alloc (fun j => j = rb) wfTa (.cells #[.string ⟨#[38]⟩, .string ⟨#[124]⟩] 9)
          have RTab := (Chg.alloc (fun _ => False) wfTa (.cells #[.string ⟨#[38]⟩, .string ⟨#[124]⟩] 9)).rd RTa rbWTa (fun h => h)
          have CTab := CTa.trans cbTab
          have rbWTab : rb < (wfTa.alloc (.cells #[.string ⟨#[38]⟩, .string ⟨#[124]⟩] 9)).heap.size := by simp; omega
          have bloTab : rb < wfTa.heap.size := rbWTa
          have k0Tab := XTab.cell 0 rfl
          have k1Tab := XTab.cell 1 rfl
          obtain ⟨blTab, eblTab⟩ : ∃ q, wfTa.heap.size = q := ⟨_, rfl⟩
          refine opH_value (i := 5) (d := 30) (listed' := #[true, true, true, true, true, true, true, false, false, false, false, true, true, true, false, false, false, false]) rfl rfl (by rfl) (by kernel_rfl) (v := .slice (some ⟨wfTa.heap.size, 0, none⟩) 2 2) (w' := (wfTa.alloc (.cells #[.string ⟨#[38]⟩, .string ⟨#[124]⟩] 9))) ?vTab trivial ?_
          case vTab =>
            go_simp
            try with_reducible rfl
          rw [eblTab] at k0Tab k1Tab bloTab ⊢
          clear eblTab XTab cbTab
          generalize (wfTa.alloc (.cells #[.string ⟨#[38]⟩, .string ⟨#[124]⟩] 9)) = wbTab at RTab CTab rbWTab k0Tab k1Tab ⊢
          simp only [List.setIfInBounds_toArray, List.set_cons_zero, List.set_cons_succ]
          refine hold_more (S' := fun w' => w'.cell? ⟨blTab, 0, none⟩ = some (.string ⟨#[38]⟩) ∧ w'.cell? ⟨blTab, 1, none⟩ = some (.string ⟨#[124]⟩)) (fun _ _ => trivial) _ _ _ _ ?_
          have STab : (fun w' => w'.cell? ⟨blTab, 0, none⟩ = some (.string ⟨#[38]⟩) ∧ w'.cell? ⟨blTab, 1, none⟩ = some (.string ⟨#[124]⟩)) wbTab := ⟨k0Tab, k1Tab⟩
          refine hold_call (i := 7) (d := 32) (listed' := #[true, true, true, true, true, true, true, true, false, false, false, true, true, true, false, false, false, false]) rfl (by kernel_rfl) rfl (by rfl) (by kernel_rfl) ?eTabc (pick_any (q := 2) (by omega) (by omega) (by omega) hn RTab (HBY CTab) hB) ?_
          case eTabc => go_simp
          rintro e wcTabc ⟨vp, rfl, vp0, vp1, RTabc, OTabc⟩
          have ccTabc := Chg.of_only OTabc
          have CTabc := CTab.trans ccTabc
          have rbWTabc : rb < wcTabc.heap.size := by have := ccTabc.size; omega
          have STabc : (fun w' => w'.cell? ⟨blTab, 0, none⟩ = some (.string ⟨#[38]⟩) ∧ w'.cell? ⟨blTab, 1, none⟩ = some (.string ⟨#[124]⟩)) wcTabc := ⟨ccTabc.at_ (by show ¬ (blTab = rb); omega) STab.1, ccTabc.at_ (by show ¬ (blTab = rb); omega) STab.2⟩
          clear OTabc ccTabc
          refine ⟨_, rfl, STabc, ?_⟩
          simp only [List.setIfInBounds_toArray, List.set_cons_zero, List.set_cons_succ]
          rcases (by omega : vp = 0 ∨ vp = 1) with rfl | rfl
          ·
            refine hold_take (i := 8) (d := 33) (v := ?vqTabc08) (listed' := #[true, true, true, true, true, true, true, true, true, false, false, true, true, true, false, false, false, false]) rfl (by kernel_rfl) (by kernel_rfl) (by kernel_rfl) rfl (by rfl) (by kernel_rfl) STabc ?hqTabc08 ?rqTabc08
            case hqTabc08 =>
              intro w' hSw
              obtain ⟨k0, k1⟩ := hSw
              go_simp
              first | with_reducible rfl | (rw [if_neg (by omega)]; done) | (rw [if_neg (by omega)]; with_reducible rfl) | (simp only [ByteArray.size_append]; rw [if_neg (by simp only [ByteArray.size_append, lit1] at *; omega)]; done) | skip
            simp only [List.setIfInBounds_toArray, List.set_cons_zero, List.set_cons_succ]
            refine hold_take (i := 9) (d := 34) (v := ?vqTabc09) (listed' := #[true, true, true, true, true, true, true, true, true, true, false, true, true, true, false, false, false, false]) rfl (by kernel_rfl) (by kernel_rfl) (by kernel_rfl) rfl (by rfl) (by kernel_rfl) STabc ?hqTabc09 ?rqTabc09
            case hqTabc09 =>
              intro w' hSw
              obtain ⟨k0, k1⟩ := hSw
              go_simp
              first | with_reducible rfl | (rw [if_neg (by omega)]; done) | (rw [if_neg (by omega)]; with_reducible rfl) | (simp only [ByteArray.size_append]; rw [if_neg (by simp only [ByteArray.size_append, lit1] at *; omega)]; done) | skip
            simp only [List.setIfInBounds_toArray, List.set_cons_zero, List.set_cons_succ]
            refine hold_take (i := 10) (d := 35) (v := ?vqTabc010) (listed' := #[true, true, true, true, true, true, true, true, true, true, true, true, true, true, false, false, false, false]) rfl (by kernel_rfl) (by kernel_rfl) (by kernel_rfl) rfl (by rfl) (by kernel_rfl) STabc ?hqTabc010 ?rqTabc010
            case hqTabc010 =>
              intro w' hSw
              obtain ⟨k0, k1⟩ := hSw
              go_simp
              first | with_reducible rfl | (rw [if_neg (by omega)]; done) | (rw [if_neg (by omega)]; with_reducible rfl) | (simp only [ByteArray.size_append]; rw [if_neg (by simp only [ByteArray.size_append, lit1] at *; omega)]; done) | skip
            simp only [List.setIfInBounds_toArray, List.set_cons_zero, List.set_cons_succ]
            refine hold_call (i := 14) (d := 39) (listed' := #[true, true, true, true, true, true, true, true, true, true, true, true, true, true, true, false, false, false]) rfl (by kernel_rfl) rfl (by rfl) (by kernel_rfl) ?eTabc0d (IH.out _ _ _ _ _ _ _ _ _ _ (d : Int) rfl (by omega) hn RTabc (HBY CTabc) hB rbWTabc) ?_
            case eTabc0d =>
              go_simp
              have h9 := HX.out
              have h8 : IntKind.i64.wrap (x - 1) = (d : Int) := by rw [show x - 1 = (d : Int) by omega]; simp (disch := omega) only [IntWalk.i64_in]
              exact h8
            rintro e wfTabc0d ⟨s2, p2, rfl, s2lo, s2hi, RTabc0d, p2hi, ccTabc0d⟩
            have CTabc0d := CTabc.trans ccTabc0d
            have rbWTabc0d : rb < wfTabc0d.heap.size := by have := ccTabc0d.size; omega
            have STabc0d : (fun w' => w'.cell? ⟨blTab, 0, none⟩ = some (.string ⟨#[38]⟩) ∧ w'.cell? ⟨blTab, 1, none⟩ = some (.string ⟨#[124]⟩)) wfTabc0d := ⟨ccTabc0d.at_ (by show ¬ (blTab = rb); omega) STabc.1, ccTabc0d.at_ (by show ¬ (blTab = rb); omega) STabc.2⟩
            clear ccTabc0d
            refine ⟨_, rfl, STabc0d, ?_⟩
            simp only [List.setIfInBounds_toArray, List.set_cons_zero, List.set_cons_succ]
            refine hold_take (i := 15) (d := 40) (v := ?vqTabc0d15) (listed' := #[true, true, true, true, true, true, true, true, true, true, true, true, true, true, true, true, false, false]) rfl (by kernel_rfl) (by kernel_rfl) (by kernel_rfl) rfl (by rfl) (by kernel_rfl) STabc0d ?hqTabc0d15 ?rqTabc0d15
            case hqTabc0d15 =>
              intro w' hSw
              obtain ⟨k0, k1⟩ := hSw
              go_simp
              first | with_reducible rfl | (rw [if_neg (by omega)]; done) | (rw [if_neg (by omega)]; with_reducible rfl) | (simp only [ByteArray.size_append]; rw [if_neg (by simp only [ByteArray.size_append, lit1] at *; omega)]; done) | skip
            simp only [List.setIfInBounds_toArray, List.set_cons_zero, List.set_cons_succ]
            refine hold_take (i := 16) (d := 41) (v := ?vqTabc0d16) (listed' := #[true, true, true, true, true, true, true, true, true, true, true, true, true, true, true, true, true, false]) rfl (by kernel_rfl) (by kernel_rfl) (by kernel_rfl) rfl (by rfl) (by kernel_rfl) STabc0d ?hqTabc0d16 ?rqTabc0d16
            case hqTabc0d16 =>
              intro w' hSw
              obtain ⟨k0, k1⟩ := hSw
              go_simp
              first | with_reducible rfl | (rw [if_neg (by omega)]; done) | (rw [if_neg (by omega)]; with_reducible rfl) | (simp only [ByteArray.size_append]; rw [if_neg (by simp only [ByteArray.size_append, lit1] at *; omega)]; done) | skip
            simp only [List.setIfInBounds_toArray, List.set_cons_zero, List.set_cons_succ]
            refine hold_take (i := 17) (d := 4) (v := ?vqTabc0d17) (listed' := #[true, true, true, true, true, true, true, true, true, true, true, true, true, true, true, true, true, true]) rfl (by kernel_rfl) (by kernel_rfl) (by kernel_rfl) rfl (by rfl) (by kernel_rfl) STabc0d ?hqTabc0d17 ?rqTabc0d17
            case hqTabc0d17 =>
              intro w' hSw
              obtain ⟨k0, k1⟩ := hSw
              go_simp
              first | with_reducible rfl | (rw [if_neg (by omega)]; done) | (rw [if_neg (by omega)]; with_reducible rfl) | (simp only [ByteArray.size_append]; rw [if_neg (by simp only [ByteArray.size_append, lit1] at *; omega)]; done) | skip
            simp only [List.setIfInBounds_toArray, List.set_cons_zero, List.set_cons_succ]
            refine hold_done (by kernel_rfl) ?_ _
            go_wp2_with fail
            go_returns
            exact ⟨_, _, rfl, by simp only [ByteArray.size_append]; omega, by simp only [ByteArray.size_append, lit1]; omega, RTabc0d, by omega, CTabc0d⟩
          ·
            refine hold_take (i := 8) (d := 33) (v := ?vqTabc18) (listed' := #[true, true, true, true, true, true, true, true, true, false, false, true, true, true, false, false, false, false]) rfl (by kernel_rfl) (by kernel_rfl) (by kernel_rfl) rfl (by rfl) (by kernel_rfl) STabc ?hqTabc18 ?rqTabc18
            case hqTabc18 =>
              intro w' hSw
              obtain ⟨k0, k1⟩ := hSw
              go_simp
              first | with_reducible rfl | (rw [if_neg (by omega)]; done) | (rw [if_neg (by omega)]; with_reducible rfl) | (simp only [ByteArray.size_append]; rw [if_neg (by simp only [ByteArray.size_append, lit1] at *; omega)]; done) | skip
            simp only [List.setIfInBounds_toArray, List.set_cons_zero, List.set_cons_succ]
            refine hold_take (i := 9) (d := 34) (v := ?vqTabc19) (listed' := #[true, true, true, true, true, true, true, true, true, true, false, true, true, true, false, false, false, false]) rfl (by kernel_rfl) (by kernel_rfl) (by kernel_rfl) rfl (by rfl) (by kernel_rfl) STabc ?hqTabc19 ?rqTabc19
            case hqTabc19 =>
              intro w' hSw
              obtain ⟨k0, k1⟩ := hSw
              go_simp
              first | with_reducible rfl | (rw [if_neg (by omega)]; done) | (rw [if_neg (by omega)]; with_reducible rfl) | (simp only [ByteArray.size_append]; rw [if_neg (by simp only [ByteArray.size_append, lit1] at *; omega)]; done) | skip
            simp only [List.setIfInBounds_toArray, List.set_cons_zero, List.set_cons_succ]
            refine hold_take (i := 10) (d := 35) (v := ?vqTabc110) (listed' := #[true, true, true, true, true, true, true, true, true, true, true, true, true, true, false, false, false, false]) rfl (by kernel_rfl) (by kernel_rfl) (by kernel_rfl) rfl (by rfl) (by kernel_rfl) STabc ?hqTabc110 ?rqTabc110
            case hqTabc110 =>
              intro w' hSw
              obtain ⟨k0, k1⟩ := hSw
              go_simp
              first | with_reducible rfl | (rw [if_neg (by omega)]; done) | (rw [if_neg (by omega)]; with_reducible rfl) | (simp only [ByteArray.size_append]; rw [if_neg (by simp only [ByteArray.size_append, lit1] at *; omega)]; done) | skip
            simp only [List.setIfInBounds_toArray, List.set_cons_zero, List.set_cons_succ]
            refine hold_call (i := 14) (d := 39) (listed' := #[true, true, true, true, true, true, true, true, true, true, true, true, true, true, true, false, false, false]) rfl (by kernel_rfl) rfl (by rfl) (by kernel_rfl) ?eTabc1d (IH.out _ _ _ _ _ _ _ _ _ _ (d : Int) rfl (by omega) hn RTabc (HBY CTabc) hB rbWTabc) ?_
            case eTabc1d =>
              go_simp
              have h9 := HX.out
              have h8 : IntKind.i64.wrap (x - 1) = (d : Int) := by rw [show x - 1 = (d : Int) by omega]; simp (disch := omega) only [IntWalk.i64_in]
              exact h8
            rintro e wfTabc1d ⟨s2, p2, rfl, s2lo, s2hi, RTabc1d, p2hi, ccTabc1d⟩
            have CTabc1d := CTabc.trans ccTabc1d
            have rbWTabc1d : rb < wfTabc1d.heap.size := by have := ccTabc1d.size; omega
            have STabc1d : (fun w' => w'.cell? ⟨blTab, 0, none⟩ = some (.string ⟨#[38]⟩) ∧ w'.cell? ⟨blTab, 1, none⟩ = some (.string ⟨#[124]⟩)) wfTabc1d := ⟨ccTabc1d.at_ (by show ¬ (blTab = rb); omega) STabc.1, ccTabc1d.at_ (by show ¬ (blTab = rb); omega) STabc.2⟩
            clear ccTabc1d
            refine ⟨_, rfl, STabc1d, ?_⟩
            simp only [List.setIfInBounds_toArray, List.set_cons_zero, List.set_cons_succ]
            refine hold_take (i := 15) (d := 40) (v := ?vqTabc1d15) (listed' := #[true, true, true, true, true, true, true, true, true, true, true, true, true, true, true, true, false, false]) rfl (by kernel_rfl) (by kernel_rfl) (by kernel_rfl) rfl (by rfl) (by kernel_rfl) STabc1d ?hqTabc1d15 ?rqTabc1d15
            case hqTabc1d15 =>
              intro w' hSw
              obtain ⟨k0, k1⟩ := hSw
              go_simp
              first | with_reducible rfl | (rw [if_neg (by omega)]; done) | (rw [if_neg (by omega)]; with_reducible rfl) | (simp only [ByteArray.size_append]; rw [if_neg (by simp only [ByteArray.size_append, lit1] at *; omega)]; done) | skip
            simp only [List.setIfInBounds_toArray, List.set_cons_zero, List.set_cons_succ]
            refine hold_take (i := 16) (d := 41) (v := ?vqTabc1d16) (listed' := #[true, true, true, true, true, true, true, true, true, true, true, true, true, true, true, true, true, false]) rfl (by kernel_rfl) (by kernel_rfl) (by kernel_rfl) rfl (by rfl) (by kernel_rfl) STabc1d ?hqTabc1d16 ?rqTabc1d16
            case hqTabc1d16 =>
              intro w' hSw
              obtain ⟨k0, k1⟩ := hSw
              go_simp
              first | with_reducible rfl | (rw [if_neg (by omega)]; done) | (rw [if_neg (by omega)]; with_reducible rfl) | (simp only [ByteArray.size_append]; rw [if_neg (by simp only [ByteArray.size_append, lit1] at *; omega)]; done) | skip
            simp only [List.setIfInBounds_toArray, List.set_cons_zero, List.set_cons_succ]
            refine hold_take (i := 17) (d := 4) (v := ?vqTabc1d17) (listed' := #[true, true, true, true, true, true, true, true, true, true, true, true, true, true, true, true, true, true]) rfl (by kernel_rfl) (by kernel_rfl) (by kernel_rfl) rfl (by rfl) (by kernel_rfl) STabc1d ?hqTabc1d17 ?rqTabc1d17
            case hqTabc1d17 =>
              intro w' hSw
              obtain ⟨k0, k1⟩ := hSw
              go_simp
              first | with_reducible rfl | (rw [if_neg (by omega)]; done) | (rw [if_neg (by omega)]; with_reducible rfl) | (simp only [ByteArray.size_append]; rw [if_neg (by simp only [ByteArray.size_append, lit1] at *; omega)]; done) | skip
            simp only [List.setIfInBounds_toArray, List.set_cons_zero, List.set_cons_succ]
            refine hold_done (by kernel_rfl) ?_ _
            go_wp2_with fail
            go_returns
            exact ⟨_, _, rfl, by simp only [ByteArray.size_append]; omega, by simp only [ByteArray.size_append, lit1]; omega, RTabc1d, by omega, CTabc1d⟩
        case gTan7 =>
          refine opH_call (i := 7) (d := 32) (listed' := #[true, true, true, true, true, false, true, true, false, false, false, true, true, true, false, false, false, false]) rfl rfl (by rfl) (by kernel_rfl) ?eTac (pick_any (q := 2) (by omega) (by omega) (by omega) hn RTa (HBY CTa) hB) ?_
          case eTac => go_simp
          rintro e wcTac ⟨vp, rfl, vp0, vp1, RTac, OTac⟩
          have ccTac := Chg.of_only OTac
          have CTac := CTa.trans ccTac
          have rbWTac : rb < wcTac.heap.size := by have := ccTac.size; omega
          clear OTac ccTac
          refine ⟨_, rfl, trivial, ?_⟩
          simp only [List.setIfInBounds_toArray, List.set_cons_zero, List.set_cons_succ]
          rcases (by omega : vp = 0 ∨ vp = 1) with rfl | rfl
          ·
            refine hold_two (i := 5) (j := 14) (by kernel_rfl) ?gTac0n5 ?gTac0n14
            case gTac0n5 =>
              have XTac0b := BoxN.start wcTac #[.string ⟨#[38]⟩, .string ⟨#[124]⟩] 9
              have cbTac0b := Chg.alloc (fun j => j = rb) wcTac (.cells #[.string ⟨#[38]⟩, .string ⟨#[124]⟩] 9)
              have RTac0b := (Chg.alloc (fun _ => False) wcTac (.cells #[.string ⟨#[38]⟩, .string ⟨#[124]⟩] 9)).rd RTac rbWTac (fun h => h)
              have CTac0b := CTac.trans cbTac0b
              have rbWTac0b : rb < (wcTac.alloc (.cells #[.string ⟨#[38]⟩, .string ⟨#[124]⟩] 9)).heap.size := by simp; omega
              have bloTac0b : rb < wcTac.heap.size := rbWTac
              have k0Tac0b := XTac0b.cell 0 rfl
              have k1Tac0b := XTac0b.cell 1 rfl
              obtain ⟨blTac0b, eblTac0b⟩ : ∃ q, wcTac.heap.size = q := ⟨_, rfl⟩
              refine opH_value (i := 5) (d := 30) (listed' := #[true, true, true, true, true, true, true, true, false, false, false, true, true, true, false, false, false, false]) rfl rfl (by rfl) (by kernel_rfl) (v := .slice (some ⟨wcTac.heap.size, 0, none⟩) 2 2) (w' := (wcTac.alloc (.cells #[.string ⟨#[38]⟩, .string ⟨#[124]⟩] 9))) ?vTac0b trivial ?_
              case vTac0b =>
                go_simp
                try with_reducible rfl
              rw [eblTac0b] at k0Tac0b k1Tac0b bloTac0b ⊢
              clear eblTac0b XTac0b cbTac0b
              generalize (wcTac.alloc (.cells #[.string ⟨#[38]⟩, .string ⟨#[124]⟩] 9)) = wbTac0b at RTac0b CTac0b rbWTac0b k0Tac0b k1Tac0b ⊢
              simp only [List.setIfInBounds_toArray, List.set_cons_zero, List.set_cons_succ]
              refine hold_more (S' := fun w' => w'.cell? ⟨blTac0b, 0, none⟩ = some (.string ⟨#[38]⟩) ∧ w'.cell? ⟨blTac0b, 1, none⟩ = some (.string ⟨#[124]⟩)) (fun _ _ => trivial) _ _ _ _ ?_
              have STac0b : (fun w' => w'.cell? ⟨blTac0b, 0, none⟩ = some (.string ⟨#[38]⟩) ∧ w'.cell? ⟨blTac0b, 1, none⟩ = some (.string ⟨#[124]⟩)) wbTac0b := ⟨k0Tac0b, k1Tac0b⟩
              refine hold_take (i := 8) (d := 33) (v := ?vqTac0b8) (listed' := #[true, true, true, true, true, true, true, true, true, false, false, true, true, true, false, false, false, false]) rfl (by kernel_rfl) (by kernel_rfl) (by kernel_rfl) rfl (by rfl) (by kernel_rfl) STac0b ?hqTac0b8 ?rqTac0b8
              case hqTac0b8 =>
                intro w' hSw
                obtain ⟨k0, k1⟩ := hSw
                go_simp
                first | with_reducible rfl | (rw [if_neg (by omega)]; done) | (rw [if_neg (by omega)]; with_reducible rfl) | (simp only [ByteArray.size_append]; rw [if_neg (by simp only [ByteArray.size_append, lit1] at *; omega)]; done) | skip
              simp only [List.setIfInBounds_toArray, List.set_cons_zero, List.set_cons_succ]
              refine hold_take (i := 9) (d := 34) (v := ?vqTac0b9) (listed' := #[true, true, true, true, true, true, true, true, true, true, false, true, true, true, false, false, false, false]) rfl (by kernel_rfl) (by kernel_rfl) (by kernel_rfl) rfl (by rfl) (by kernel_rfl) STac0b ?hqTac0b9 ?rqTac0b9
              case hqTac0b9 =>
                intro w' hSw
                obtain ⟨k0, k1⟩ := hSw
                go_simp
                first | with_reducible rfl | (rw [if_neg (by omega)]; done) | (rw [if_neg (by omega)]; with_reducible rfl) | (simp only [ByteArray.size_append]; rw [if_neg (by simp only [ByteArray.size_append, lit1] at *; omega)]; done) | skip
              simp only [List.setIfInBounds_toArray, List.set_cons_zero, List.set_cons_succ]
              refine hold_take (i := 10) (d := 35) (v := ?vqTac0b10) (listed' := #[true, true, true, true, true, true, true, true, true, true, true, true, true, true, false, false, false, false]) rfl (by kernel_rfl) (by kernel_rfl) (by kernel_rfl) rfl (by rfl) (by kernel_rfl) STac0b ?hqTac0b10 ?rqTac0b10
              case hqTac0b10 =>
                intro w' hSw
                obtain ⟨k0, k1⟩ := hSw
                go_simp
                first | with_reducible rfl | (rw [if_neg (by omega)]; done) | (rw [if_neg (by omega)]; with_reducible rfl) | (simp only [ByteArray.size_append]; rw [if_neg (by simp only [ByteArray.size_append, lit1] at *; omega)]; done) | skip
              simp only [List.setIfInBounds_toArray, List.set_cons_zero, List.set_cons_succ]
              refine hold_call (i := 14) (d := 39) (listed' := #[true, true, true, true, true, true, true, true, true, true, true, true, true, true, true, false, false, false]) rfl (by kernel_rfl) rfl (by rfl) (by kernel_rfl) ?eTac0bd (IH.out _ _ _ _ _ _ _ _ _ _ (d : Int) rfl (by omega) hn RTac0b (HBY CTac0b) hB rbWTac0b) ?_
              case eTac0bd =>
                go_simp
                have h9 := HX.out
                have h8 : IntKind.i64.wrap (x - 1) = (d : Int) := by rw [show x - 1 = (d : Int) by omega]; simp (disch := omega) only [IntWalk.i64_in]
                exact h8
              rintro e wfTac0bd ⟨s2, p2, rfl, s2lo, s2hi, RTac0bd, p2hi, ccTac0bd⟩
              have CTac0bd := CTac0b.trans ccTac0bd
              have rbWTac0bd : rb < wfTac0bd.heap.size := by have := ccTac0bd.size; omega
              have STac0bd : (fun w' => w'.cell? ⟨blTac0b, 0, none⟩ = some (.string ⟨#[38]⟩) ∧ w'.cell? ⟨blTac0b, 1, none⟩ = some (.string ⟨#[124]⟩)) wfTac0bd := ⟨ccTac0bd.at_ (by show ¬ (blTac0b = rb); omega) STac0b.1, ccTac0bd.at_ (by show ¬ (blTac0b = rb); omega) STac0b.2⟩
              clear ccTac0bd
              refine ⟨_, rfl, STac0bd, ?_⟩
              simp only [List.setIfInBounds_toArray, List.set_cons_zero, List.set_cons_succ]
              refine hold_take (i := 15) (d := 40) (v := ?vqTac0bd15) (listed' := #[true, true, true, true, true, true, true, true, true, true, true, true, true, true, true, true, false, false]) rfl (by kernel_rfl) (by kernel_rfl) (by kernel_rfl) rfl (by rfl) (by kernel_rfl) STac0bd ?hqTac0bd15 ?rqTac0bd15
              case hqTac0bd15 =>
                intro w' hSw
                obtain ⟨k0, k1⟩ := hSw
                go_simp
                first | with_reducible rfl | (rw [if_neg (by omega)]; done) | (rw [if_neg (by omega)]; with_reducible rfl) | (simp only [ByteArray.size_append]; rw [if_neg (by simp only [ByteArray.size_append, lit1] at *; omega)]; done) | skip
              simp only [List.setIfInBounds_toArray, List.set_cons_zero, List.set_cons_succ]
              refine hold_take (i := 16) (d := 41) (v := ?vqTac0bd16) (listed' := #[true, true, true, true, true, true, true, true, true, true, true, true, true, true, true, true, true, false]) rfl (by kernel_rfl) (by kernel_rfl) (by kernel_rfl) rfl (by rfl) (by kernel_rfl) STac0bd ?hqTac0bd16 ?rqTac0bd16
              case hqTac0bd16 =>
                intro w' hSw
                obtain ⟨k0, k1⟩ := hSw
                go_simp
                first | with_reducible rfl | (rw [if_neg (by omega)]; done) | (rw [if_neg (by omega)]; with_reducible rfl) | (simp only [ByteArray.size_append]; rw [if_neg (by simp only [ByteArray.size_append, lit1] at *; omega)]; done) | skip
              simp only [List.setIfInBounds_toArray, List.set_cons_zero, List.set_cons_succ]
              refine hold_take (i := 17) (d := 4) (v := ?vqTac0bd17) (listed' := #[true, true, true, true, true, true, true, true, true, true, true, true, true, true, true, true, true, true]) rfl (by kernel_rfl) (by kernel_rfl) (by kernel_rfl) rfl (by rfl) (by kernel_rfl) STac0bd ?hqTac0bd17 ?rqTac0bd17
              case hqTac0bd17 =>
                intro w' hSw
                obtain ⟨k0, k1⟩ := hSw
                go_simp
                first | with_reducible rfl | (rw [if_neg (by omega)]; done) | (rw [if_neg (by omega)]; with_reducible rfl) | (simp only [ByteArray.size_append]; rw [if_neg (by simp only [ByteArray.size_append, lit1] at *; omega)]; done) | skip
              simp only [List.setIfInBounds_toArray, List.set_cons_zero, List.set_cons_succ]
              refine hold_done (by kernel_rfl) ?_ _
              go_wp2_with fail
              go_returns
              exact ⟨_, _, rfl, by simp only [ByteArray.size_append]; omega, by simp only [ByteArray.size_append, lit1]; omega, RTac0bd, by omega, CTac0bd⟩
            case gTac0n14 =>
              refine opH_call (i := 14) (d := 39) (listed' := #[true, true, true, true, true, false, true, true, false, false, false, true, true, true, true, false, false, false]) rfl rfl (by rfl) (by kernel_rfl) ?eTac0d (IH.out _ _ _ _ _ _ _ _ _ _ (d : Int) rfl (by omega) hn RTac (HBY CTac) hB rbWTac) ?_
              case eTac0d =>
                go_simp
                have h9 := HX.out
                have h8 : IntKind.i64.wrap (x - 1) = (d : Int) := by rw [show x - 1 = (d : Int) by omega]; simp (disch := omega) only [IntWalk.i64_in]
                exact h8
              rintro e wfTac0d ⟨s2, p2, rfl, s2lo, s2hi, RTac0d, p2hi, ccTac0d⟩
              have CTac0d := CTac.trans ccTac0d
              have rbWTac0d : rb < wfTac0d.heap.size := by have := ccTac0d.size; omega
              clear ccTac0d
              refine ⟨_, rfl, trivial, ?_⟩
              simp only [List.setIfInBounds_toArray, List.set_cons_zero, List.set_cons_succ]
              have XTac0db := BoxN.start wfTac0d #[.string ⟨#[38]⟩, .string ⟨#[124]⟩] 9
              have cbTac0db := Chg.alloc (fun j => j = rb) wfTac0d (.cells #[.string ⟨#[38]⟩, .string ⟨#[124]⟩] 9)
              have RTac0db := (Chg.alloc (fun _ => False) wfTac0d (.cells #[.string ⟨#[38]⟩, .string ⟨#[124]⟩] 9)).rd RTac0d rbWTac0d (fun h => h)
              have CTac0db := CTac0d.trans cbTac0db
              have rbWTac0db : rb < (wfTac0d.alloc (.cells #[.string ⟨#[38]⟩, .string ⟨#[124]⟩] 9)).heap.size := by simp; omega
              have bloTac0db : rb < wfTac0d.heap.size := rbWTac0d
              have k0Tac0db := XTac0db.cell 0 rfl
              have k1Tac0db := XTac0db.cell 1 rfl
              obtain ⟨blTac0db, eblTac0db⟩ : ∃ q, wfTac0d.heap.size = q := ⟨_, rfl⟩
              refine hold_value (i := 5) (d := 30) (listed' := #[true, true, true, true, true, true, true, true, false, false, false, true, true, true, true, false, false, false]) rfl (by kernel_rfl) rfl (by rfl) (by kernel_rfl) (v := .slice (some ⟨wfTac0d.heap.size, 0, none⟩) 2 2) (w' := (wfTac0d.alloc (.cells #[.string ⟨#[38]⟩, .string ⟨#[124]⟩] 9))) ?vTac0db trivial ?_
              case vTac0db =>
                go_simp
                try with_reducible rfl
              rw [eblTac0db] at k0Tac0db k1Tac0db bloTac0db ⊢
              clear eblTac0db XTac0db cbTac0db
              generalize (wfTac0d.alloc (.cells #[.string ⟨#[38]⟩, .string ⟨#[124]⟩] 9)) = wbTac0db at RTac0db CTac0db rbWTac0db k0Tac0db k1Tac0db ⊢
              simp only [List.setIfInBounds_toArray, List.set_cons_zero, List.set_cons_succ]
              refine hold_more (S' := fun w' => w'.cell? ⟨blTac0db, 0, none⟩ = some (.string ⟨#[38]⟩) ∧ w'.cell? ⟨blTac0db, 1, none⟩ = some (.string ⟨#[124]⟩)) (fun _ _ => trivial) _ _ _ _ ?_
              have STac0db : (fun w' => w'.cell? ⟨blTac0db, 0, none⟩ = some (.string ⟨#[38]⟩) ∧ w'.cell? ⟨blTac0db, 1, none⟩ = some (.string ⟨#[124]⟩)) wbTac0db := ⟨k0Tac0db, k1Tac0db⟩
              refine hold_take (i := 8) (d := 33) (v := ?vqTac0db8) (listed' := #[true, true, true, true, true, true, true, true, true, false, false, true, true, true, true, false, false, false]) rfl (by kernel_rfl) (by kernel_rfl) (by kernel_rfl) rfl (by rfl) (by kernel_rfl) STac0db ?hqTac0db8 ?rqTac0db8
              case hqTac0db8 =>
                intro w' hSw
                obtain ⟨k0, k1⟩ := hSw
                go_simp
                first | with_reducible rfl | (rw [if_neg (by omega)]; done) | (rw [if_neg (by omega)]; with_reducible rfl) | (simp only [ByteArray.size_append]; rw [if_neg (by simp only [ByteArray.size_append, lit1] at *; omega)]; done) | skip
              simp only [List.setIfInBounds_toArray, List.set_cons_zero, List.set_cons_succ]
              refine hold_take (i := 9) (d := 34) (v := ?vqTac0db9) (listed' := #[true, true, true, true, true, true, true, true, true, true, false, true, true, true, true, false, false, false]) rfl (by kernel_rfl) (by kernel_rfl) (by kernel_rfl) rfl (by rfl) (by kernel_rfl) STac0db ?hqTac0db9 ?rqTac0db9
              case hqTac0db9 =>
                intro w' hSw
                obtain ⟨k0, k1⟩ := hSw
                go_simp
                first | with_reducible rfl | (rw [if_neg (by omega)]; done) | (rw [if_neg (by omega)]; with_reducible rfl) | (simp only [ByteArray.size_append]; rw [if_neg (by simp only [ByteArray.size_append, lit1] at *; omega)]; done) | skip
              simp only [List.setIfInBounds_toArray, List.set_cons_zero, List.set_cons_succ]
              refine hold_take (i := 10) (d := 35) (v := ?vqTac0db10) (listed' := #[true, true, true, true, true, true, true, true, true, true, true, true, true, true, true, false, false, false]) rfl (by kernel_rfl) (by kernel_rfl) (by kernel_rfl) rfl (by rfl) (by kernel_rfl) STac0db ?hqTac0db10 ?rqTac0db10
              case hqTac0db10 =>
                intro w' hSw
                obtain ⟨k0, k1⟩ := hSw
                go_simp
                first | with_reducible rfl | (rw [if_neg (by omega)]; done) | (rw [if_neg (by omega)]; with_reducible rfl) | (simp only [ByteArray.size_append]; rw [if_neg (by simp only [ByteArray.size_append, lit1] at *; omega)]; done) | skip
              simp only [List.setIfInBounds_toArray, List.set_cons_zero, List.set_cons_succ]
              refine hold_take (i := 15) (d := 40) (v := ?vqTac0db15) (listed' := #[true, true, true, true, true, true, true, true, true, true, true, true, true, true, true, true, false, false]) rfl (by kernel_rfl) (by kernel_rfl) (by kernel_rfl) rfl (by rfl) (by kernel_rfl) STac0db ?hqTac0db15 ?rqTac0db15
              case hqTac0db15 =>
                intro w' hSw
                obtain ⟨k0, k1⟩ := hSw
                go_simp
                first | with_reducible rfl | (rw [if_neg (by omega)]; done) | (rw [if_neg (by omega)]; with_reducible rfl) | (simp only [ByteArray.size_append]; rw [if_neg (by simp only [ByteArray.size_append, lit1] at *; omega)]; done) | skip
              simp only [List.setIfInBounds_toArray, List.set_cons_zero, List.set_cons_succ]
              refine hold_take (i := 16) (d := 41) (v := ?vqTac0db16) (listed' := #[true, true, true, true, true, true, true, true, true, true, true, true, true, true, true, true, true, false]) rfl (by kernel_rfl) (by kernel_rfl) (by kernel_rfl) rfl (by rfl) (by kernel_rfl) STac0db ?hqTac0db16 ?rqTac0db16
              case hqTac0db16 =>
                intro w' hSw
                obtain ⟨k0, k1⟩ := hSw
                go_simp
                first | with_reducible rfl | (rw [if_neg (by omega)]; done) | (rw [if_neg (by omega)]; with_reducible rfl) | (simp only [ByteArray.size_append]; rw [if_neg (by simp only [ByteArray.size_append, lit1] at *; omega)]; done) | skip
              simp only [List.setIfInBounds_toArray, List.set_cons_zero, List.set_cons_succ]
              refine hold_take (i := 17) (d := 4) (v := ?vqTac0db17) (listed' := #[true, true, true, true, true, true, true, true, true, true, true, true, true, true, true, true, true, true]) rfl (by kernel_rfl) (by kernel_rfl) (by kernel_rfl) rfl (by rfl) (by kernel_rfl) STac0db ?hqTac0db17 ?rqTac0db17
              case hqTac0db17 =>
                intro w' hSw
                obtain ⟨k0, k1⟩ := hSw
                go_simp
                first | with_reducible rfl | (rw [if_neg (by omega)]; done) | (rw [if_neg (by omega)]; with_reducible rfl) | (simp only [ByteArray.size_append]; rw [if_neg (by simp only [ByteArray.size_append, lit1] at *; omega)]; done) | skip
              simp only [List.setIfInBounds_toArray, List.set_cons_zero, List.set_cons_succ]
              refine hold_done (by kernel_rfl) ?_ _
              go_wp2_with fail
              go_returns
              exact ⟨_, _, rfl, by simp only [ByteArray.size_append]; omega, by simp only [ByteArray.size_append, lit1]; omega, RTac0db, by omega, CTac0db⟩
          ·
            refine hold_two (i := 5) (j := 14) (by kernel_rfl) ?gTac1n5 ?gTac1n14
            case gTac1n5 =>
              have XTac1b := BoxN.start wcTac #[.string ⟨#[38]⟩, .string ⟨#[124]⟩] 9
              have cbTac1b := Chg.alloc (fun j => j = rb) wcTac (.cells #[.string ⟨#[38]⟩, .string ⟨#[124]⟩] 9)
              have RTac1b := (Chg.alloc (fun _ => False) wcTac (.cells #[.string ⟨#[38]⟩, .string ⟨#[124]⟩] 9)).rd RTac rbWTac (fun h => h)
              have CTac1b := CTac.trans cbTac1b
              have rbWTac1b : rb < (wcTac.alloc (.cells #[.string ⟨#[38]⟩, .string ⟨#[124]⟩] 9)).heap.size := by simp; omega
              have bloTac1b : rb < wcTac.heap.size := rbWTac
              have k0Tac1b := XTac1b.cell 0 rfl
              have k1Tac1b := XTac1b.cell 1 rfl
              obtain ⟨blTac1b, eblTac1b⟩ : ∃ q, wcTac.heap.size = q := ⟨_, rfl⟩
              refine opH_value (i := 5) (d := 30) (listed' := #[true, true, true, true, true, true, true, true, false, false, false, true, true, true, false, false, false, false]) rfl rfl (by rfl) (by kernel_rfl) (v := .slice (some ⟨wcTac.heap.size, 0, none⟩) 2 2) (w' := (wcTac.alloc (.cells #[.string ⟨#[38]⟩, .string ⟨#[124]⟩] 9))) ?vTac1b trivial ?_
              case vTac1b =>
                go_simp
                try with_reducible rfl
              rw [eblTac1b] at k0Tac1b k1Tac1b bloTac1b ⊢
              clear eblTac1b XTac1b cbTac1b
              generalize (wcTac.alloc (.cells #[.string ⟨#[38]⟩, .string ⟨#[124]⟩] 9)) = wbTac1b at RTac1b CTac1b rbWTac1b k0Tac1b k1Tac1b ⊢
              simp only [List.setIfInBounds_toArray, List.set_cons_zero, List.set_cons_succ]
              refine hold_more (S' := fun w' => w'.cell? ⟨blTac1b, 0, none⟩ = some (.string ⟨#[38]⟩) ∧ w'.cell? ⟨blTac1b, 1, none⟩ = some (.string ⟨#[124]⟩)) (fun _ _ => trivial) _ _ _ _ ?_
              have STac1b : (fun w' => w'.cell? ⟨blTac1b, 0, none⟩ = some (.string ⟨#[38]⟩) ∧ w'.cell? ⟨blTac1b, 1, none⟩ = some (.string ⟨#[124]⟩)) wbTac1b := ⟨k0Tac1b, k1Tac1b⟩
              refine hold_take (i := 8) (d := 33) (v := ?vqTac1b8) (listed' := #[true, true, true, true, true, true, true, true, true, false, false, true, true, true, false, false, false, false]) rfl (by kernel_rfl) (by kernel_rfl) (by kernel_rfl) rfl (by rfl) (by kernel_rfl) STac1b ?hqTac1b8 ?rqTac1b8
              case hqTac1b8 =>
                intro w' hSw
                obtain ⟨k0, k1⟩ := hSw
                go_simp
                first | with_reducible rfl | (rw [if_neg (by omega)]; done) | (rw [if_neg (by omega)]; with_reducible rfl) | (simp only [ByteArray.size_append]; rw [if_neg (by simp only [ByteArray.size_append, lit1] at *; omega)]; done) | skip
              simp only [List.setIfInBounds_toArray, List.set_cons_zero, List.set_cons_succ]
              refine hold_take (i := 9) (d := 34) (v := ?vqTac1b9) (listed' := #[true, true, true, true, true, true, true, true, true, true, false, true, true, true, false, false, false, false]) rfl (by kernel_rfl) (by kernel_rfl) (by kernel_rfl) rfl (by rfl) (by kernel_rfl) STac1b ?hqTac1b9 ?rqTac1b9
              case hqTac1b9 =>
                intro w' hSw
                obtain ⟨k0, k1⟩ := hSw
                go_simp
                first | with_reducible rfl | (rw [if_neg (by omega)]; done) | (rw [if_neg (by omega)]; with_reducible rfl) | (simp only [ByteArray.size_append]; rw [if_neg (by simp only [ByteArray.size_append, lit1] at *; omega)]; done) | skip
              simp only [List.setIfInBounds_toArray, List.set_cons_zero, List.set_cons_succ]
              refine hold_take (i := 10) (d := 35) (v := ?vqTac1b10) (listed' := #[true, true, true, true, true, true, true, true, true, true, true, true, true, true, false, false, false, false]) rfl (by kernel_rfl) (by kernel_rfl) (by kernel_rfl) rfl (by rfl) (by kernel_rfl) STac1b ?hqTac1b10 ?rqTac1b10
              case hqTac1b10 =>
                intro w' hSw
                obtain ⟨k0, k1⟩ := hSw
                go_simp
                first | with_reducible rfl | (rw [if_neg (by omega)]; done) | (rw [if_neg (by omega)]; with_reducible rfl) | (simp only [ByteArray.size_append]; rw [if_neg (by simp only [ByteArray.size_append, lit1] at *; omega)]; done) | skip
              simp only [List.setIfInBounds_toArray, List.set_cons_zero, List.set_cons_succ]
              refine hold_call (i := 14) (d := 39) (listed' := #[true, true, true, true, true, true, true, true, true, true, true, true, true, true, true, false, false, false]) rfl (by kernel_rfl) rfl (by rfl) (by kernel_rfl) ?eTac1bd (IH.out _ _ _ _ _ _ _ _ _ _ (d : Int) rfl (by omega) hn RTac1b (HBY CTac1b) hB rbWTac1b) ?_
              case eTac1bd =>
                go_simp
                have h9 := HX.out
                have h8 : IntKind.i64.wrap (x - 1) = (d : Int) := by rw [show x - 1 = (d : Int) by omega]; simp (disch := omega) only [IntWalk.i64_in]
                exact h8
              rintro e wfTac1bd ⟨s2, p2, rfl, s2lo, s2hi, RTac1bd, p2hi, ccTac1bd⟩
              have CTac1bd := CTac1b.trans ccTac1bd
              have rbWTac1bd : rb < wfTac1bd.heap.size := by have := ccTac1bd.size; omega
              have STac1bd : (fun w' => w'.cell? ⟨blTac1b, 0, none⟩ = some (.string ⟨#[38]⟩) ∧ w'.cell? ⟨blTac1b, 1, none⟩ = some (.string ⟨#[124]⟩)) wfTac1bd := ⟨ccTac1bd.at_ (by show ¬ (blTac1b = rb); omega) STac1b.1, ccTac1bd.at_ (by show ¬ (blTac1b = rb); omega) STac1b.2⟩
              clear ccTac1bd
              refine ⟨_, rfl, STac1bd, ?_⟩
              simp only [List.setIfInBounds_toArray, List.set_cons_zero, List.set_cons_succ]
              refine hold_take (i := 15) (d := 40) (v := ?vqTac1bd15) (listed' := #[true, true, true, true, true, true, true, true, true, true, true, true, true, true, true, true, false, false]) rfl (by kernel_rfl) (by kernel_rfl) (by kernel_rfl) rfl (by rfl) (by kernel_rfl) STac1bd ?hqTac1bd15 ?rqTac1bd15
              case hqTac1bd15 =>
                intro w' hSw
                obtain ⟨k0, k1⟩ := hSw
                go_simp
                first | with_reducible rfl | (rw [if_neg (by omega)]; done) | (rw [if_neg (by omega)]; with_reducible rfl) | (simp only [ByteArray.size_append]; rw [if_neg (by simp only [ByteArray.size_append, lit1] at *; omega)]; done) | skip
              simp only [List.setIfInBounds_toArray, List.set_cons_zero, List.set_cons_succ]
              refine hold_take (i := 16) (d := 41) (v := ?vqTac1bd16) (listed' := #[true, true, true, true, true, true, true, true, true, true, true, true, true, true, true, true, true, false]) rfl (by kernel_rfl) (by kernel_rfl) (by kernel_rfl) rfl (by rfl) (by kernel_rfl) STac1bd ?hqTac1bd16 ?rqTac1bd16
              case hqTac1bd16 =>
                intro w' hSw
                obtain ⟨k0, k1⟩ := hSw
                go_simp
                first | with_reducible rfl | (rw [if_neg (by omega)]; done) | (rw [if_neg (by omega)]; with_reducible rfl) | (simp only [ByteArray.size_append]; rw [if_neg (by simp only [ByteArray.size_append, lit1] at *; omega)]; done) | skip
              simp only [List.setIfInBounds_toArray, List.set_cons_zero, List.set_cons_succ]
              refine hold_take (i := 17) (d := 4) (v := ?vqTac1bd17) (listed' := #[true, true, true, true, true, true, true, true, true, true, true, true, true, true, true, true, true, true]) rfl (by kernel_rfl) (by kernel_rfl) (by kernel_rfl) rfl (by rfl) (by kernel_rfl) STac1bd ?hqTac1bd17 ?rqTac1bd17
              case hqTac1bd17 =>
                intro w' hSw
                obtain ⟨k0, k1⟩ := hSw
                go_simp
                first | with_reducible rfl | (rw [if_neg (by omega)]; done) | (rw [if_neg (by omega)]; with_reducible rfl) | (simp only [ByteArray.size_append]; rw [if_neg (by simp only [ByteArray.size_append, lit1] at *; omega)]; done) | skip
              simp only [List.setIfInBounds_toArray, List.set_cons_zero, List.set_cons_succ]
              refine hold_done (by kernel_rfl) ?_ _
              go_wp2_with fail
              go_returns
              exact ⟨_, _, rfl, by simp only [ByteArray.size_append]; omega, by simp only [ByteArray.size_append, lit1]; omega, RTac1bd, by omega, CTac1bd⟩
            case gTac1n14 =>
              refine opH_call (i := 14) (d := 39) (listed' := #[true, true, true, true, true, false, true, true, false, false, false, true, true, true, true, false, false, false]) rfl rfl (by rfl) (by kernel_rfl) ?eTac1d (IH.out _ _ _ _ _ _ _ _ _ _ (d : Int) rfl (by omega) hn RTac (HBY CTac) hB rbWTac) ?_
              case eTac1d =>
                go_simp
                have h9 := HX.out
                have h8 : IntKind.i64.wrap (x - 1) = (d : Int) := by rw [show x - 1 = (d : Int) by omega]; simp (disch := omega) only [IntWalk.i64_in]
                exact h8
              rintro e wfTac1d ⟨s2, p2, rfl, s2lo, s2hi, RTac1d, p2hi, ccTac1d⟩
              have CTac1d := CTac.trans ccTac1d
              have rbWTac1d : rb < wfTac1d.heap.size := by have := ccTac1d.size; omega
              clear ccTac1d
              refine ⟨_, rfl, trivial, ?_⟩
              simp only [List.setIfInBounds_toArray, List.set_cons_zero, List.set_cons_succ]
              have XTac1db := BoxN.start wfTac1d #[.string ⟨#[38]⟩, .string ⟨#[124]⟩] 9
              have cbTac1db := Chg.alloc (fun j => j = rb) wfTac1d (.cells #[.string ⟨#[38]⟩, .string ⟨#[124]⟩] 9)
              have RTac1db := (Chg.alloc (fun _ => False) wfTac1d (.cells #[.string ⟨#[38]⟩, .string ⟨#[124]⟩] 9)).rd RTac1d rbWTac1d (fun h => h)
              have CTac1db := CTac1d.trans cbTac1db
              have rbWTac1db : rb < (wfTac1d.alloc (.cells #[.string ⟨#[38]⟩, .string ⟨#[124]⟩] 9)).heap.size := by simp; omega
              have bloTac1db : rb < wfTac1d.heap.size := rbWTac1d
              have k0Tac1db := XTac1db.cell 0 rfl
              have k1Tac1db := XTac1db.cell 1 rfl
              obtain ⟨blTac1db, eblTac1db⟩ : ∃ q, wfTac1d.heap.size = q := ⟨_, rfl⟩
              refine hold_value (i := 5) (d := 30) (listed' := #[true, true, true, true, true, true, true, true, false, false, false, true, true, true, true, false, false, false]) rfl (by kernel_rfl) rfl (by rfl) (by kernel_rfl) (v := .slice (some ⟨wfTac1d.heap.size, 0, none⟩) 2 2) (w' := (wfTac1d.alloc (.cells #[.string ⟨#[38]⟩, .string ⟨#[124]⟩] 9))) ?vTac1db trivial ?_
              case vTac1db =>
                go_simp
                try with_reducible rfl
              rw [eblTac1db] at k0Tac1db k1Tac1db bloTac1db ⊢
              clear eblTac1db XTac1db cbTac1db
              generalize (wfTac1d.alloc (.cells #[.string ⟨#[38]⟩, .string ⟨#[124]⟩] 9)) = wbTac1db at RTac1db CTac1db rbWTac1db k0Tac1db k1Tac1db ⊢
              simp only [List.setIfInBounds_toArray, List.set_cons_zero, List.set_cons_succ]
              refine hold_more (S' := fun w' => w'.cell? ⟨blTac1db, 0, none⟩ = some (.string ⟨#[38]⟩) ∧ w'.cell? ⟨blTac1db, 1, none⟩ = some (.string ⟨#[124]⟩)) (fun _ _ => trivial) _ _ _ _ ?_
              have STac1db : (fun w' => w'.cell? ⟨blTac1db, 0, none⟩ = some (.string ⟨#[38]⟩) ∧ w'.cell? ⟨blTac1db, 1, none⟩ = some (.string ⟨#[124]⟩)) wbTac1db := ⟨k0Tac1db, k1Tac1db⟩
              refine hold_take (i := 8) (d := 33) (v := ?vqTac1db8) (listed' := #[true, true, true, true, true, true, true, true, true, false, false, true, true, true, true, false, false, false]) rfl (by kernel_rfl) (by kernel_rfl) (by kernel_rfl) rfl (by rfl) (by kernel_rfl) STac1db ?hqTac1db8 ?rqTac1db8
              case hqTac1db8 =>
                intro w' hSw
                obtain ⟨k0, k1⟩ := hSw
                go_simp
                first | with_reducible rfl | (rw [if_neg (by omega)]; done) | (rw [if_neg (by omega)]; with_reducible rfl) | (simp only [ByteArray.size_append]; rw [if_neg (by simp only [ByteArray.size_append, lit1] at *; omega)]; done) | skip
              simp only [List.setIfInBounds_toArray, List.set_cons_zero, List.set_cons_succ]
              refine hold_take (i := 9) (d := 34) (v := ?vqTac1db9) (listed' := #[true, true, true, true, true, true, true, true, true, true, false, true, true, true, true, false, false, false]) rfl (by kernel_rfl) (by kernel_rfl) (by kernel_rfl) rfl (by rfl) (by kernel_rfl) STac1db ?hqTac1db9 ?rqTac1db9
              case hqTac1db9 =>
                intro w' hSw
                obtain ⟨k0, k1⟩ := hSw
                go_simp
                first | with_reducible rfl | (rw [if_neg (by omega)]; done) | (rw [if_neg (by omega)]; with_reducible rfl) | (simp only [ByteArray.size_append]; rw [if_neg (by simp only [ByteArray.size_append, lit1] at *; omega)]; done) | skip
              simp only [List.setIfInBounds_toArray, List.set_cons_zero, List.set_cons_succ]
              refine hold_take (i := 10) (d := 35) (v := ?vqTac1db10) (listed' := #[true, true, true, true, true, true, true, true, true, true, true, true, true, true, true, false, false, false]) rfl (by kernel_rfl) (by kernel_rfl) (by kernel_rfl) rfl (by rfl) (by kernel_rfl) STac1db ?hqTac1db10 ?rqTac1db10
              case hqTac1db10 =>
                intro w' hSw
                obtain ⟨k0, k1⟩ := hSw
                go_simp
                first | with_reducible rfl | (rw [if_neg (by omega)]; done) | (rw [if_neg (by omega)]; with_reducible rfl) | (simp only [ByteArray.size_append]; rw [if_neg (by simp only [ByteArray.size_append, lit1] at *; omega)]; done) | skip
              simp only [List.setIfInBounds_toArray, List.set_cons_zero, List.set_cons_succ]
              refine hold_take (i := 15) (d := 40) (v := ?vqTac1db15) (listed' := #[true, true, true, true, true, true, true, true, true, true, true, true, true, true, true, true, false, false]) rfl (by kernel_rfl) (by kernel_rfl) (by kernel_rfl) rfl (by rfl) (by kernel_rfl) STac1db ?hqTac1db15 ?rqTac1db15
              case hqTac1db15 =>
                intro w' hSw
                obtain ⟨k0, k1⟩ := hSw
                go_simp
                first | with_reducible rfl | (rw [if_neg (by omega)]; done) | (rw [if_neg (by omega)]; with_reducible rfl) | (simp only [ByteArray.size_append]; rw [if_neg (by simp only [ByteArray.size_append, lit1] at *; omega)]; done) | skip
              simp only [List.setIfInBounds_toArray, List.set_cons_zero, List.set_cons_succ]
              refine hold_take (i := 16) (d := 41) (v := ?vqTac1db16) (listed' := #[true, true, true, true, true, true, true, true, true, true, true, true, true, true, true, true, true, false]) rfl (by kernel_rfl) (by kernel_rfl) (by kernel_rfl) rfl (by rfl) (by kernel_rfl) STac1db ?hqTac1db16 ?rqTac1db16
              case hqTac1db16 =>
                intro w' hSw
                obtain ⟨k0, k1⟩ := hSw
                go_simp
                first | with_reducible rfl | (rw [if_neg (by omega)]; done) | (rw [if_neg (by omega)]; with_reducible rfl) | (simp only [ByteArray.size_append]; rw [if_neg (by simp only [ByteArray.size_append, lit1] at *; omega)]; done) | skip
              simp only [List.setIfInBounds_toArray, List.set_cons_zero, List.set_cons_succ]
              refine hold_take (i := 17) (d := 4) (v := ?vqTac1db17) (listed' := #[true, true, true, true, true, true, true, true, true, true, true, true, true, true, true, true, true, true]) rfl (by kernel_rfl) (by kernel_rfl) (by kernel_rfl) rfl (by rfl) (by kernel_rfl) STac1db ?hqTac1db17 ?rqTac1db17
              case hqTac1db17 =>
                intro w' hSw
                obtain ⟨k0, k1⟩ := hSw
                go_simp
                first | with_reducible rfl | (rw [if_neg (by omega)]; done) | (rw [if_neg (by omega)]; with_reducible rfl) | (simp only [ByteArray.size_append]; rw [if_neg (by simp only [ByteArray.size_append, lit1] at *; omega)]; done) | skip
              simp only [List.setIfInBounds_toArray, List.set_cons_zero, List.set_cons_succ]
              refine hold_done (by kernel_rfl) ?_ _
              go_wp2_with fail
              go_returns
              exact ⟨_, _, rfl, by simp only [ByteArray.size_append]; omega, by simp only [ByteArray.size_append, lit1]; omega, RTac1db, by omega, CTac1db⟩
      case gTn5 =>
        have XTb := BoxN.start w2.drew #[.string ⟨#[38]⟩, .string ⟨#[124]⟩] 9
        have cbTb := Chg.alloc (fun j => j = rb) w2.drew (.cells #[.string ⟨#[38]⟩, .string ⟨#[124]⟩] 9)
        have RTb := (Chg.alloc (fun _ => False) w2.drew (.cells #[.string ⟨#[38]⟩, .string ⟨#[124]⟩] 9)).rd Rdd rbWd (fun h => h)
        have CTb := Cd.trans cbTb
        have rbWTb : rb < (w2.drew.alloc (.cells #[.string ⟨#[38]⟩, .string ⟨#[124]⟩] 9)).heap.size := by simp; omega
        have bloTb : rb < w2.drew.heap.size := rbWd
        have k0Tb := XTb.cell 0 rfl
        have k1Tb := XTb.cell 1 rfl
        obtain ⟨blTb, eblTb⟩ : ∃ q, w2.drew.heap.size = q := ⟨_, rfl⟩
        refine opH_value (i := 5) (d := 30) (listed' := #[true, true, true, false, false, true, true, false, false, false, false, true, true, true, false, false, false, false]) rfl rfl (by rfl) (by kernel_rfl) (v := .slice (some ⟨w2.drew.heap.size, 0, none⟩) 2 2) (w' := (w2.drew.alloc (.cells #[.string ⟨#[38]⟩, .string ⟨#[124]⟩] 9))) ?vTb trivial ?_
        case vTb =>
          go_simp
          try with_reducible rfl
        rw [eblTb] at k0Tb k1Tb bloTb ⊢
        clear eblTb XTb cbTb
        generalize (w2.drew.alloc (.cells #[.string ⟨#[38]⟩, .string ⟨#[124]⟩] 9)) = wbTb at RTb CTb rbWTb k0Tb k1Tb ⊢
        simp only [List.setIfInBounds_toArray, List.set_cons_zero, List.set_cons_succ]
        refine hold_more (S' := fun w' => w'.cell? ⟨blTb, 0, none⟩ = some (.string ⟨#[38]⟩) ∧ w'.cell? ⟨blTb, 1, none⟩ = some (.string ⟨#[124]⟩)) (fun _ _ => trivial) _ _ _ _ ?_
        have STb : (fun w' => w'.cell? ⟨blTb, 0, none⟩ = some (.string ⟨#[38]⟩) ∧ w'.cell? ⟨blTb, 1, none⟩ = some (.string ⟨#[124]⟩)) wbTb := ⟨k0Tb, k1Tb⟩
        refine hold_call (i := 3) (d := 28) (listed' := #[true, true, true, true, false, true, true, false, false, false, false, true, true, true, false, false, false, false]) rfl (by kernel_rfl) rfl (by rfl) (by kernel_rfl) ?eTba (IH.out _ _ _ _ _ _ _ _ _ _ (d : Int) rfl (by omega) hn RTb (HBY CTb) hB rbWTb) ?_
        case eTba =>
          go_simp
          have h9 := HX.out
          have h8 : IntKind.i64.wrap (x - 1) = (d : Int) := by rw [show x - 1 = (d : Int) by omega]; simp (disch := omega) only [IntWalk.i64_in]
          exact h8
        rintro e wfTba ⟨s1, p1, rfl, s1lo, s1hi, RTba, p1hi, ccTba⟩
        have CTba := CTb.trans ccTba
        have rbWTba : rb < wfTba.heap.size := by have := ccTba.size; omega
        have STba : (fun w' => w'.cell? ⟨blTb, 0, none⟩ = some (.string ⟨#[38]⟩) ∧ w'.cell? ⟨blTb, 1, none⟩ = some (.string ⟨#[124]⟩)) wfTba := ⟨ccTba.at_ (by show ¬ (blTb = rb); omega) STb.1, ccTba.at_ (by show ¬ (blTb = rb); omega) STb.2⟩
        clear ccTba
        refine ⟨_, rfl, STba, ?_⟩
        simp only [List.setIfInBounds_toArray, List.set_cons_zero, List.set_cons_succ]
        refine hold_take (i := 4) (d := 29) (v := ?vqTba4) (listed' := #[true, true, true, true, true, true, true, false, false, false, false, true, true, true, false, false, false, false]) rfl (by kernel_rfl) (by kernel_rfl) (by kernel_rfl) rfl (by rfl) (by kernel_rfl) STba ?hqTba4 ?rqTba4
        case hqTba4 =>
          intro w' hSw
          obtain ⟨k0, k1⟩ := hSw
          go_simp
          first | with_reducible rfl | (rw [if_neg (by omega)]; done) | (rw [if_neg (by omega)]; with_reducible rfl) | (simp only [ByteArray.size_append]; rw [if_neg (by simp only [ByteArray.size_append, lit1] at *; omega)]; done) | skip
        simp only [List.setIfInBounds_toArray, List.set_cons_zero, List.set_cons_succ]
        refine hold_call (i := 7) (d := 32) (listed' := #[true, true, true, true, true, true, true, true, false, false, false, true, true, true, false, false, false, false]) rfl (by kernel_rfl) rfl (by rfl) (by kernel_rfl) ?eTbac (pick_any (q := 2) (by omega) (by omega) (by omega) hn RTba (HBY CTba) hB) ?_
        case eTbac => go_simp
        rintro e wcTbac ⟨vp, rfl, vp0, vp1, RTbac, OTbac⟩
        have ccTbac := Chg.of_only OTbac
        have CTbac := CTba.trans ccTbac
        have rbWTbac : rb < wcTbac.heap.size := by have := ccTbac.size; omega
        have STbac : (fun w' => w'.cell? ⟨blTb, 0, none⟩ = some (.string ⟨#[38]⟩) ∧ w'.cell? ⟨blTb, 1, none⟩ = some (.string ⟨#[124]⟩)) wcTbac := ⟨ccTbac.at_ (by show ¬ (blTb = rb); omega) STba.1, ccTbac.at_ (by show ¬ (blTb = rb); omega) STba.2⟩
        clear OTbac ccTbac
        refine ⟨_, rfl, STbac, ?_⟩
        simp only [List.setIfInBounds_toArray, List.set_cons_zero, List.set_cons_succ]
        rcases (by omega : vp = 0 ∨ vp = 1) with rfl | rfl
        ·
          refine hold_take (i := 8) (d := 33) (v := ?vqTbac08) (listed' := #[true, true, true, true, true, true, true, true, true, false, false, true, true, true, false, false, false, false]) rfl (by kernel_rfl) (by kernel_rfl) (by kernel_rfl) rfl (by rfl) (by kernel_rfl) STbac ?hqTbac08 ?rqTbac08
          case hqTbac08 =>
            intro w' hSw
            obtain ⟨k0, k1⟩ := hSw
            go_simp
            first | with_reducible rfl | (rw [if_neg (by omega)]; done) | (rw [if_neg (by omega)]; with_reducible rfl) | (simp only [ByteArray.size_append]; rw [if_neg (by simp only [ByteArray.size_append, lit1] at *; omega)]; done) | skip
          simp only [List.setIfInBounds_toArray, List.set_cons_zero, List.set_cons_succ]
          refine hold_take (i := 9) (d := 34) (v := ?vqTbac09) (listed' := #[true, true, true, true, true, true, true, true, true, true, false, true, true, true, false, false, false, false]) rfl (by kernel_rfl) (by kernel_rfl) (by kernel_rfl) rfl (by rfl) (by kernel_rfl) STbac ?hqTbac09 ?rqTbac09
          case hqTbac09 =>
            intro w' hSw
            obtain ⟨k0, k1⟩ := hSw
            go_simp
            first | with_reducible rfl | (rw [if_neg (by omega)]; done) | (rw [if_neg (by omega)]; with_reducible rfl) | (simp only [ByteArray.size_append]; rw [if_neg (by simp only [ByteArray.size_append, lit1] at *; omega)]; done) | skip
          simp only [List.setIfInBounds_toArray, List.set_cons_zero, List.set_cons_succ]
          refine hold_take (i := 10) (d := 35) (v := ?vqTbac010) (listed' := #[true, true, true, true, true, true, true, true, true, true, true, true, true, true, false, false, false, false]) rfl (by kernel_rfl) (by kernel_rfl) (by kernel_rfl) rfl (by rfl) (by kernel_rfl) STbac ?hqTbac010 ?rqTbac010
          case hqTbac010 =>
            intro w' hSw
            obtain ⟨k0, k1⟩ := hSw
            go_simp
            first | with_reducible rfl | (rw [if_neg (by omega)]; done) | (rw [if_neg (by omega)]; with_reducible rfl) | (simp only [ByteArray.size_append]; rw [if_neg (by simp only [ByteArray.size_append, lit1] at *; omega)]; done) | skip
          simp only [List.setIfInBounds_toArray, List.set_cons_zero, List.set_cons_succ]
          refine hold_call (i := 14) (d := 39) (listed' := #[true, true, true, true, true, true, true, true, true, true, true, true, true, true, true, false, false, false]) rfl (by kernel_rfl) rfl (by rfl) (by kernel_rfl) ?eTbac0d (IH.out _ _ _ _ _ _ _ _ _ _ (d : Int) rfl (by omega) hn RTbac (HBY CTbac) hB rbWTbac) ?_
          case eTbac0d =>
            go_simp
            have h9 := HX.out
            have h8 : IntKind.i64.wrap (x - 1) = (d : Int) := by rw [show x - 1 = (d : Int) by omega]; simp (disch := omega) only [IntWalk.i64_in]
            exact h8
          rintro e wfTbac0d ⟨s2, p2, rfl, s2lo, s2hi, RTbac0d, p2hi, ccTbac0d⟩
          have CTbac0d := CTbac.trans ccTbac0d
          have rbWTbac0d : rb < wfTbac0d.heap.size := by have := ccTbac0d.size; omega
          have STbac0d : (fun w' => w'.cell? ⟨blTb, 0, none⟩ = some (.string ⟨#[38]⟩) ∧ w'.cell? ⟨blTb, 1, none⟩ = some (.string ⟨#[124]⟩)) wfTbac0d := ⟨ccTbac0d.at_ (by show ¬ (blTb = rb); omega) STbac.1, ccTbac0d.at_ (by show ¬ (blTb = rb); omega) STbac.2⟩
          clear ccTbac0d
          refine ⟨_, rfl, STbac0d, ?_⟩
          simp only [List.setIfInBounds_toArray, List.set_cons_zero, List.set_cons_succ]
          refine hold_take (i := 15) (d := 40) (v := ?vqTbac0d15) (listed' := #[true, true, true, true, true, true, true, true, true, true, true, true, true, true, true, true, false, false]) rfl (by kernel_rfl) (by kernel_rfl) (by kernel_rfl) rfl (by rfl) (by kernel_rfl) STbac0d ?hqTbac0d15 ?rqTbac0d15
          case hqTbac0d15 =>
            intro w' hSw
            obtain ⟨k0, k1⟩ := hSw
            go_simp
            first | with_reducible rfl | (rw [if_neg (by omega)]; done) | (rw [if_neg (by omega)]; with_reducible rfl) | (simp only [ByteArray.size_append]; rw [if_neg (by simp only [ByteArray.size_append, lit1] at *; omega)]; done) | skip
          simp only [List.setIfInBounds_toArray, List.set_cons_zero, List.set_cons_succ]
          refine hold_take (i := 16) (d := 41) (v := ?vqTbac0d16) (listed' := #[true, true, true, true, true, true, true, true, true, true, true, true, true, true, true, true, true, false]) rfl (by kernel_rfl) (by kernel_rfl) (by kernel_rfl) rfl (by rfl) (by kernel_rfl) STbac0d ?hqTbac0d16 ?rqTbac0d16
          case hqTbac0d16 =>
            intro w' hSw
            obtain ⟨k0, k1⟩ := hSw
            go_simp
            first | with_reducible rfl | (rw [if_neg (by omega)]; done) | (rw [if_neg (by omega)]; with_reducible rfl) | (simp only [ByteArray.size_append]; rw [if_neg (by simp only [ByteArray.size_append, lit1] at *; omega)]; done) | skip
          simp only [List.setIfInBounds_toArray, List.set_cons_zero, List.set_cons_succ]
          refine hold_take (i := 17) (d := 4) (v := ?vqTbac0d17) (listed' := #[true, true, true, true, true, true, true, true, true, true, true, true, true, true, true, true, true, true]) rfl (by kernel_rfl) (by kernel_rfl) (by kernel_rfl) rfl (by rfl) (by kernel_rfl) STbac0d ?hqTbac0d17 ?rqTbac0d17
          case hqTbac0d17 =>
            intro w' hSw
            obtain ⟨k0, k1⟩ := hSw
            go_simp
            first | with_reducible rfl | (rw [if_neg (by omega)]; done) | (rw [if_neg (by omega)]; with_reducible rfl) | (simp only [ByteArray.size_append]; rw [if_neg (by simp only [ByteArray.size_append, lit1] at *; omega)]; done) | skip
          simp only [List.setIfInBounds_toArray, List.set_cons_zero, List.set_cons_succ]
          refine hold_done (by kernel_rfl) ?_ _
          go_wp2_with fail
          go_returns
          exact ⟨_, _, rfl, by simp only [ByteArray.size_append]; omega, by simp only [ByteArray.size_append, lit1]; omega, RTbac0d, by omega, CTbac0d⟩
        ·
          refine hold_take (i := 8) (d := 33) (v := ?vqTbac18) (listed' := #[true, true, true, true, true, true, true, true, true, false, false, true, true, true, false, false, false, false]) rfl (by kernel_rfl) (by kernel_rfl) (by kernel_rfl) rfl (by rfl) (by kernel_rfl) STbac ?hqTbac18 ?rqTbac18
          case hqTbac18 =>
            intro w' hSw
            obtain ⟨k0, k1⟩ := hSw
            go_simp
            first | with_reducible rfl | (rw [if_neg (by omega)]; done) | (rw [if_neg (by omega)]; with_reducible rfl) | (simp only [ByteArray.size_append]; rw [if_neg (by simp only [ByteArray.size_append, lit1] at *; omega)]; done) | skip
          simp only [List.setIfInBounds_toArray, List.set_cons_zero, List.set_cons_succ]
          refine hold_take (i := 9) (d := 34) (v := ?vqTbac19) (listed' := #[true, true, true, true, true, true, true, true, true, true, false, true, true, true, false, false, false, false]) rfl (by kernel_rfl) (by kernel_rfl) (by kernel_rfl) rfl (by rfl) (by kernel_rfl) STbac ?hqTbac19 ?rqTbac19
          case hqTbac19 =>
            intro w' hSw
            obtain ⟨k0, k1⟩ := hSw
            go_simp
            first | with_reducible rfl | (rw [if_neg (by omega)]; done) | (rw [if_neg (by omega)]; with_reducible rfl) | (simp only [ByteArray.size_append]; rw [if_neg (by simp only [ByteArray.size_append, lit1] at *; omega)]; done) | skip
          simp only [List.setIfInBounds_toArray, List.set_cons_zero, List.set_cons_succ]
          refine hold_take (i := 10) (d := 35) (v := ?vqTbac110) (listed' := #[true, true, true, true, true, true, true, true, true, true, true, true, true, true, false, false, false, false]) rfl (by kernel_rfl) (by kernel_rfl) (by kernel_rfl) rfl (by rfl) (by kernel_rfl) STbac ?hqTbac110 ?rqTbac110
          case hqTbac110 =>
            intro w' hSw
            obtain ⟨k0, k1⟩ := hSw
            go_simp
            first | with_reducible rfl | (rw [if_neg (by omega)]; done) | (rw [if_neg (by omega)]; with_reducible rfl) | (simp only [ByteArray.size_append]; rw [if_neg (by simp only [ByteArray.size_append, lit1] at *; omega)]; done) | skip
          simp only [List.setIfInBounds_toArray, List.set_cons_zero, List.set_cons_succ]
          refine hold_call (i := 14) (d := 39) (listed' := #[true, true, true, true, true, true, true, true, true, true, true, true, true, true, true, false, false, false]) rfl (by kernel_rfl) rfl (by rfl) (by kernel_rfl) ?eTbac1d (IH.out _ _ _ _ _ _ _ _ _ _ (d : Int) rfl (by omega) hn RTbac (HBY CTbac) hB rbWTbac) ?_
          case eTbac1d =>
            go_simp
            have h9 := HX.out
            have h8 : IntKind.i64.wrap (x - 1) = (d : Int) := by rw [show x - 1 = (d : Int) by omega]; simp (disch := omega) only [IntWalk.i64_in]
            exact h8
          rintro e wfTbac1d ⟨s2, p2, rfl, s2lo, s2hi, RTbac1d, p2hi, ccTbac1d⟩
          have CTbac1d := CTbac.trans ccTbac1d
          have rbWTbac1d : rb < wfTbac1d.heap.size := by have := ccTbac1d.size; omega
          have STbac1d : (fun w' => w'.cell? ⟨blTb, 0, none⟩ = some (.string ⟨#[38]⟩) ∧ w'.cell? ⟨blTb, 1, none⟩ = some (.string ⟨#[124]⟩)) wfTbac1d := ⟨ccTbac1d.at_ (by show ¬ (blTb = rb); omega) STbac.1, ccTbac1d.at_ (by show ¬ (blTb = rb); omega) STbac.2⟩
          clear ccTbac1d
          refine ⟨_, rfl, STbac1d, ?_⟩
          simp only [List.setIfInBounds_toArray, List.set_cons_zero, List.set_cons_succ]
          refine hold_take (i := 15) (d := 40) (v := ?vqTbac1d15) (listed' := #[true, true, true, true, true, true, true, true, true, true, true, true, true, true, true, true, false, false]) rfl (by kernel_rfl) (by kernel_rfl) (by kernel_rfl) rfl (by rfl) (by kernel_rfl) STbac1d ?hqTbac1d15 ?rqTbac1d15
          case hqTbac1d15 =>
            intro w' hSw
            obtain ⟨k0, k1⟩ := hSw
            go_simp
            first | with_reducible rfl | (rw [if_neg (by omega)]; done) | (rw [if_neg (by omega)]; with_reducible rfl) | (simp only [ByteArray.size_append]; rw [if_neg (by simp only [ByteArray.size_append, lit1] at *; omega)]; done) | skip
          simp only [List.setIfInBounds_toArray, List.set_cons_zero, List.set_cons_succ]
          refine hold_take (i := 16) (d := 41) (v := ?vqTbac1d16) (listed' := #[true, true, true, true, true, true, true, true, true, true, true, true, true, true, true, true, true, false]) rfl (by kernel_rfl) (by kernel_rfl) (by kernel_rfl) rfl (by rfl) (by kernel_rfl) STbac1d ?hqTbac1d16 ?rqTbac1d16
          case hqTbac1d16 =>
            intro w' hSw
            obtain ⟨k0, k1⟩ := hSw
            go_simp
            first | with_reducible rfl | (rw [if_neg (by omega)]; done) | (rw [if_neg (by omega)]; with_reducible rfl) | (simp only [ByteArray.size_append]; rw [if_neg (by simp only [ByteArray.size_append, lit1] at *; omega)]; done) | skip
          simp only [List.setIfInBounds_toArray, List.set_cons_zero, List.set_cons_succ]
          refine hold_take (i := 17) (d := 4) (v := ?vqTbac1d17) (listed' := #[true, true, true, true, true, true, true, true, true, true, true, true, true, true, true, true, true, true]) rfl (by kernel_rfl) (by kernel_rfl) (by kernel_rfl) rfl (by rfl) (by kernel_rfl) STbac1d ?hqTbac1d17 ?rqTbac1d17
          case hqTbac1d17 =>
            intro w' hSw
            obtain ⟨k0, k1⟩ := hSw
            go_simp
            first | with_reducible rfl | (rw [if_neg (by omega)]; done) | (rw [if_neg (by omega)]; with_reducible rfl) | (simp only [ByteArray.size_append]; rw [if_neg (by simp only [ByteArray.size_append, lit1] at *; omega)]; done) | skip
          simp only [List.setIfInBounds_toArray, List.set_cons_zero, List.set_cons_succ]
          refine hold_done (by kernel_rfl) ?_ _
          go_wp2_with fail
          go_returns
          exact ⟨_, _, rfl, by simp only [ByteArray.size_append]; omega, by simp only [ByteArray.size_append, lit1]; omega, RTbac1d, by omega, CTbac1d⟩
theorem form_three : FormC 3 := form_step (form_step (form_step form_zero (by decide)) (by decide)) (by decide)
end Go.Proofs.Ytmchgclaeipoeaa
