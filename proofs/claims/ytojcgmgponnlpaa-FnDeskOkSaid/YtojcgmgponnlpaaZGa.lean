import Derived.Test.YtojcgmgponnlpaaZDg
import Derived.RangeFuncNested
import Derived.RangeFuncBound
import Derived.RangeFuncCalls
import Derived.RangeFuncLeaves
import Derived.RangeFuncBox
import Derived.Test.YtojcgmgponnlpaaZOa
import Derived.Test.YtojcgmgponnlpaaZMath
import Derived.Laws.EntriesVeiled
import Derived.BigQuiet
import Derived.Test.YtojcgmgponnlpaaZDi
import Derived.Test.YtojcgmgponnlpaaZWv
namespace Go.Proofs.Ytojcgmgponnlpaa
open Go.RowKit Go.Deep

end Go.Proofs.Ytojcgmgponnlpaa
namespace Go.Proofs.Ytojcgmgponnlpaa
open Go.RowKit Go.Deep Go.Shelf

attribute [local go_sem] Oper.semAt_some

def bitZ (b : Nat → Nat → Bool) (x y : Nat) : Int := if b x y = true then 1 else 0
theorem bitZ_rng (b : Nat → Nat → Bool) (x y : Nat) : 0 ≤ bitZ b x y ∧ bitZ b x y ≤ 2 := by
  unfold bitZ
  split <;> omega



end Go.Proofs.Ytojcgmgponnlpaa
namespace Go.Proofs.Ytojcgmgponnlpaa
open Go.RowKit Go.Deep Go.Shelf

attribute [local go_sem] Oper.semAt_some

theorem MakeAt.begin {wr : World} {p base N : Nat} (Z : Nat → Nat → Int) (y : Nat → Int) (hp : p < base) (hb : TwoAt wr p (.slice none 0 0) (.slice none 0 0)) : MakeAt wr p base (.slice none 0 0) (.slice none 0 0) 0 0 N (fun _ => .slice none 0 0) Z y :=
  ⟨hp, hb, ⟨World.ownsRow_nil _ _ _ 1, fun _ hr => absurd hr (Nat.not_lt_zero _), fun _ _ hr => absurd hr (Nat.not_lt_zero _), fun _ _ hr => absurd hr (Nat.not_lt_zero _)⟩, IntsAt.nil _ _ _, fun _ hr => absurd hr (Nat.not_lt_zero _), fun _ hc => absurd hc (Nat.not_lt_zero _)⟩
theorem MakeAt.more' {wr wa w4 : World} {p base : Nat} {u t v' : Value} {k kt N : Nat} {rv : Nat → Value} {Z : Nat → Nat → Int} {y : Nat → Int} (h : MakeAt wr p base u t k kt N rv Z y) (ha : Chg (fun _ => False) wr wa)
    (hx : 0 ≤ y kt ∧ y kt < (N : Int)) (hown : w4.ownsRow base 3 1 v' (kt + 1) ((List.range kt).map (fun c => .int .i64 (y c)) ++ [.int .i64 (y kt)])) (hg : wa.grownBy w4 t.ownBlock) (hat : v'.ownBlock = t.ownBlock ∨ v'.ownBlock = some wa.heap.size) :
    MakeAt (w4.setCell ⟨p, 1, none⟩ v') p base u v' k (kt + 1) N rv Z y ∧ Chg (fun j => j = p ∨ base ≤ j) wr (w4.setCell ⟨p, 1, none⟩ v') := by
  have := h.more ha hx hown hg hat
  have e : (fun c => if c = kt then y kt else y c) = y := by
    funext c
    by_cases e1 : c = kt
    · rw [if_pos e1, e1]
    · rw [if_neg e1]
  rw [e] at this
  exact this
theorem MakeAt.row' {wo wi w4 : World} {p base : Nat} {u t v' u5 : Value} {k kt N : Nat} {rv : Nat → Value} {Z : Nat → Nat → Int} {y : Nat → Int} {o : Obj} (h : MakeAt wo p base u t k kt N rv Z y) (hbs : base ≤ wo.heap.size) (hi : Below wo.heap.size wo wi)
    (hu : IntsAt wi wo.heap.size u5 N (Z k)) (hz : ∀ c, c < N → 0 ≤ Z k c ∧ Z k c ≤ 2) (hown : w4.ownsRow base 24 1 v' (k + 1) ((List.range k).map rv ++ [u5])) (hg : (wi.alloc o).grownBy w4 u.ownBlock) (hN : 0 < N) :
    MakeAt (w4.setCell ⟨p, 0, none⟩ v') p base v' t (k + 1) kt N (fun r => if r = k then u5 else rv r) Z y ∧ Chg (fun j => j = p ∨ base ≤ j) wo (w4.setCell ⟨p, 0, none⟩ v') := by
  have := h.row hbs hi hu hz hown hg hN
  have e : (fun r c => if r = k then Z k c else Z r c) = Z := by
    funext r c
    by_cases e1 : r = k
    · rw [if_pos e1, e1]
    · rw [if_neg e1]
  rw [e] at this
  exact this

/-- One operation that hands over a value, whatever else may come up. -/
theorem opH_value {P : Program} {md : Region.Mode} {ops : Array Oper} {Q : Exit → Act → World → Prop} {S : World → Prop} {i d fuel : Nat} {v : Value} {listed listed' : Array Bool} {a : Act} {w w' : World} {o : Oper} {rest : List Oper} (hi : ops.toList.drop i = o :: rest)
    (hd : o.dst = some d) (hw : Region.wanted o (yielded ops a.tmps) = true) (hl : listed.setIfInBounds i true = listed') (he : (execOp a.eval o).run P w = .ok (.value v) w') (hS : S w')
    (h : wpAnyH P md ops Q S fuel listed' { tmps := a.tmps.setIfInBounds d v, defers := a.defers } w') : wpOp P ops Q i (fun a' w' => S w' ∧ wpAnyH P md ops Q S fuel (listed.setIfInBounds i true) a' w') a w := by
  unfold wpOp
  rw [at_drop hi]
  simp only
  rw [if_pos hw, hl]
  refine .inl ?_
  unfold Oper.wp
  rw [he, Oper.upon_value, hd]
  exact ⟨hS, h⟩
theorem opH_call {P : Program} {md : Region.Mode} {ops : Array Oper} {Q : Exit → Act → World → Prop} {S : World → Prop} {i d fuel : Nat} {listed listed' : Array Bool} {a : Act} {w : World} {o : Oper} {rest : List Oper} {f : FuncId} {args : Array Value} {R : Ending → World → Prop} (hi : ops.toList.drop i = o :: rest)
    (hd : o.dst = some d) (hw : Region.wanted o (yielded ops a.tmps) = true) (hl : listed.setIfInBounds i true = listed')
    (he : (execOp a.eval o).run P w = .ok (.enter f args) w) (hc : Calls P f args w R)
    (h : ∀ e w', R e w' → ∃ v, e = .returned v ∧ S w' ∧ wpAnyH P md ops Q S fuel listed' { tmps := a.tmps.setIfInBounds d v, defers := a.defers } w') : wpOp P ops Q i (fun a' w' => S w' ∧ wpAnyH P md ops Q S fuel (listed.setIfInBounds i true) a' w') a w := by
  unfold wpOp
  rw [at_drop hi]
  simp only
  rw [if_pos hw, hl]
  refine .inl ?_
  unfold Oper.wp
  rw [he, Oper.upon_enter]
  refine hc.mono fun e w' hR => ?_
  obtain ⟨v, rfl, hS, hA⟩ := h e w' hR
  rw [hd]
  exact ⟨hS, hA⟩
theorem hold_value {P : Program} {md : Region.Mode} {ops : Array Oper} {Q : Exit → Act → World → Prop} {S : World → Prop} {i d fuel : Nat} {v : Value} {listed listed' : Array Bool} {a : Act} {w w' : World} {o : Oper} {rest : List Oper} (hi : ops.toList.drop i = o :: rest)
    (hr : Region.ready md ops listed = [i]) (hd : o.dst = some d) (hw : Region.wanted o (yielded ops a.tmps) = true) (hl : listed.setIfInBounds i true = listed') (he : (execOp a.eval o).run P w = .ok (.value v) w') (hS : S w')
    (h : wpAnyH P md ops Q S fuel listed' { tmps := a.tmps.setIfInBounds d v, defers := a.defers } w') : wpAnyH P md ops Q S (fuel + 1) listed a w := by
  refine wpAnyH_all hr (by simp) fun j hj => ?_
  obtain rfl : j = i := by simpa using hj
  exact opH_value hi hd hw hl he hS h
/-- Two that may come up. -/
theorem hold_two {P : Program} {md : Region.Mode} {ops : Array Oper} {Q : Exit → Act → World → Prop} {S : World → Prop} {i j fuel : Nat} {listed : Array Bool} {a : Act} {w : World} (hr : Region.ready md ops listed = [i, j])
    (h1 : wpOp P ops Q i (fun a' w' => S w' ∧ wpAnyH P md ops Q S fuel (listed.setIfInBounds i true) a' w') a w) (h2 : wpOp P ops Q j (fun a' w' => S w' ∧ wpAnyH P md ops Q S fuel (listed.setIfInBounds j true) a' w') a w) : wpAnyH P md ops Q S (fuel + 1) listed a w := by
  refine wpAnyH_all hr (by simp) fun k hk => ?_
  rcases (by simpa using hk : k = i ∨ k = j) with rfl | rfl
  · exact h1
  · exact h2
/-- An append of the call's own that alone may come up. -/
theorem hold_append {P : Program} {md : Region.Mode} {ops : Array Oper} {Q : Exit → Act → World → Prop} {S : World → Prop} {k d fuel : Nat} {listed listed' : Array Bool} {a : Act} {w : World} {o : Oper} {rest : List Oper} (hi : ops.toList.drop k = o :: rest)
    (hr : Region.ready md ops listed = [k]) (hd : o.dst = some d) (hl : listed.setIfInBounds k true = listed')
    (hg : o.guard = none) (s x : Operand) (t : TypeId) (hop : o.op = Op.call { callee := Callee.builtin Builtin.append, args := #[s, x], argTypes := #[t, t] })
    (base : Nat) (e : TypeId) (i : TypeInfo) (z : Value) (size bytes : Nat) (ht : P.underlying t = some (.slice e)) (hinf : P.info? e = some i) (hz : i.zero = some z)
    (hsize : i.size = size) (hby : i.bytes = bytes) (hzs : z.cells.size = size) (hsz : 0 < size)
    (v : Value) (n : Nat) (xs : List Value) (hs : a.eval s = v) (hown : w.ownsRow base e size v n xs)
    (ad : Addr) (m c : Nat) (news : List Value) (hx : a.eval x = .slice (some ad) m c) (hlen : news.length = m * size) (hnews : ∀ j u, news[j]? = some u → w.cell? (ad.add j) = some u) (h1 : ∀ u ∈ news, u.oneCell' = true)
    (h63 : n + m ≤ maxLen) (hbytes : (n + m) * bytes ≤ 140737488355328) (hbase : base ≤ w.heap.size)
    (h : ∀ v' w', w'.ownsRow base e size v' (n + m) (xs ++ news) → w.grownBy w' v.ownBlock → (v'.ownBlock = v.ownBlock ∨ v'.ownBlock = some w.heap.size) → S w' ∧ wpAnyH P md ops Q S fuel listed' { tmps := a.tmps.setIfInBounds d v', defers := a.defers } w') : wpAnyH P md ops Q S (fuel + 1) listed a w := by
  refine wpAnyH_all hr (by simp) fun j hj => ?_
  obtain rfl : j = k := by simpa using hj
  unfold wpOp
  rw [at_drop hi]
  simp only
  have hw : Region.wanted o (yielded ops a.tmps) = true := by simp [Region.wanted, hg]
  rw [if_pos hw, hl]
  refine .inl ?_
  have := step_append_own (P := P) (ops := ops) (K := fun a' w' => S w' ∧ wpAnyH P md ops Q S fuel listed' a' w') (Q := Q) (E := True) hg s x t hop base e i z size bytes ht hinf hz hsize hby hzs hsz v n xs hs hown ad m c news hx hlen hnews h1 h63 hbytes hbase
    (fun v' w' e1 e2 e3 => by rw [hd]; exact h v' w' e1 e2 e3)
  rw [if_pos hw] at this
  exact this

end Go.Proofs.Ytojcgmgponnlpaa
namespace Go.Proofs.Ytojcgmgponnlpaa
open Go.RowKit Go.Deep

def setsB (x y : Nat) : Bool := decide (x &&& y = x)
theorem sets_bits : ∀ x : Nat, x < 8 → ∀ y : Nat, y < 8 → (bits BinOp.and IntKind.i64 (x : Int) (y : Int) == (x : Int)) = setsB x y := by decide +kernel

def setsOkB (t : Int) : Bool := decide (0 ≤ t) && decide (t ≤ 3)

end Go.Proofs.Ytojcgmgponnlpaa
namespace Go.Proofs.Ytojcgmgponnlpaa
open Go.RowKit Go.Deep

/-- A logic as it comes in. -/
structure LD where
  ua : Option Addr
  l : Lay
  m : Mx
  na : Option Addr
  g : Nat
  o : Nat
  k : Nat
  nc : Nat
  z : Nat → Int
abbrev LD.u (d : LD) : Value := .slice d.ua d.m.n d.l.cap
abbrev LD.t (d : LD) : Value := .slice d.na d.k d.nc
def LD.At (w : World) (B : Nat) (d : LD) : Prop := LogAt w B d.ua d.l d.m d.na d.g d.o d.k d.z
noncomputable def LD.ok (d : LD) : Bool := logicB d.m d.k d.z
def noLog : Value := .agg #[.slice none 0 0, .slice none 0 0]
/-- What makes a logic, or says that it cannot, hands back. -/
def MadeOk (w : World) (N : Nat) (Z : Nat → Nat → Int) (y : Nat → Nat) (ok : Bool) (e : Ending) (w' : World) : Prop :=
  Below w.heap.size w w' ∧ ((ok = false ∧ e = .returned (.tuple #[noLog, .bool false])) ∨ (ok = true ∧ ∃ u t rv, e = .returned (.tuple #[.agg #[u, t], .bool true]) ∧ LogO w' w.heap.size u t N rv Z (fun c => (y c : Int))))
theorem set2_only (v : World) (p : Nat) (x y : Value) : OnlyIn (fun q => q = p) v ((v.setCell ⟨p, 0, none⟩ x).setCell ⟨p, 1, none⟩ y) :=
  ((OnlyIn.refl (fun q => q = p) v).set (b := p) rfl 0 x).set (b := p) rfl 1 y
end Go.Proofs.Ytojcgmgponnlpaa
namespace Go.Proofs.Ytojcgmgponnlpaa
open Go.RowKit Go.Deep

theorem LogO.congrZ {w : World} {base : Nat} {u t : Value} {n : Nat} {rv : Nat → Value} {Z Z' : Nat → Nat → Int} {y y' : Nat → Int} (h : LogO w base u t n rv Z y) (e : ∀ r, r < n → ∀ c, c < n → Z r c = Z' r c) (e' : ∀ c, c < n → y c = y' c) : LogO w base u t n rv Z' y' := by
  refine ⟨h.pos, h.hi, ⟨h.out.top, fun r hr => ?_, h.out.apart, fun r c hr hc => by rw [← e r hr c hc]; exact h.out.bit r c hr hc⟩, ?_, h.sep, fun c hc => by rw [← e' c hc]; exact h.rng c hc⟩
  · have := h.out.row r hr
    rw [map_congr_range (g := fun c => Value.int .i64 (Z' r c)) fun c hc => by rw [e r hr c hc]] at this
    exact this
  · have := h.ints
    unfold IntsAt at this ⊢
    rw [map_congr_range (g := fun c => Value.int .i64 (y' c)) fun c hc => by rw [e' c hc]] at this
    exact this
end Go.Proofs.Ytojcgmgponnlpaa
namespace Go.Proofs.Ytojcgmgponnlpaa
open Go.RowKit Go.Deep

/-- What a loop that makes a logic row by row keeps: the result's box, and all that was. -/
structure BoxS (w : World) (p P0 : Nat) (wr : World) : Prop where
  res : TwoAt wr p (.slice none 0 0) (.slice none 0 0)
  old : Below w.heap.size w wr
  lt : p < P0
  wp : w.heap.size ≤ p
  size : P0 < wr.heap.size
theorem BoxS.chg {w wr w' : World} {p P0 : Nat} (h : BoxS w p P0 wr) (hc : Chg (fun j => j = P0 ∨ P0 + 1 ≤ j) wr w') : BoxS w p P0 w' :=
  have h1 := h.lt
  have h2 := h.wp
  ⟨hc.two h.res (by show ¬ (_ ∨ _); omega), h.old.trans (hc.below (by have := h.size; omega) fun j hj => by have hj' : j = P0 ∨ P0 + 1 ≤ j := hj; omega), h.lt, h.wp, Nat.lt_of_lt_of_le h.size hc.size⟩
theorem sets_bits_t {x y : Nat} (hx : x < 8) (hy : y < 8) (h : setsZ x y = 1) : (bits BinOp.and IntKind.i64 (x : Int) (y : Int) == (x : Int)) = true := by
  rw [sets_bits x hx y hy]
  unfold setsZ at h
  unfold setsB
  split at h
  · simpa using ‹_›
  · cases h
theorem sets_bits_f {x y : Nat} (hx : x < 8) (hy : y < 8) (h : setsZ x y = 0) : (bits BinOp.and IntKind.i64 (x : Int) (y : Int) == (x : Int)) = false := by
  rw [sets_bits x hx y hy]
  unfold setsZ at h
  unfold setsB
  split at h
  · cases h
  · simpa using ‹_›
theorem setsZ_ways (x y : Nat) : setsZ x y = 0 ∨ setsZ x y = 1 := by
  unfold setsZ
  split
  · exact .inr rfl
  · exact .inl rfl
/-- A row under way: the numbers told so far. -/
theorem IntsAt.told {w : World} {base : Nat} {t : Value} {k : Nat} {z : Nat → Int} (h : w.ownsRow base 3 1 t (k + 1) ((List.range k).map (fun c => .int .i64 (z c)) ++ [.int .i64 (z k)])) : IntsAt w base t (k + 1) z := by
  have := IntsAt.step h
  have e : (fun c => if c = k then z k else z c) = z := by
    funext c
    by_cases e1 : c = k
    · rw [if_pos e1, e1]
    · rw [if_neg e1]
  rw [e] at this
  exact this

set_option maxRecDepth 100000 in
set_option maxHeartbeats 2000000 in
theorem spec_SetsOf_0 (w : World) : Calls Try.prog 31 #[.int .i64 0] w (MadeOk w 1 setsZ (setsY 1) true) := by
  obtain ⟨i0, hi, hz0, hz1, hz2⟩ := info_parts infoInt
  have HI := Lib.hid hi
  have HZ0 := Lib.hid hz0
  have HZ1 := Lib.hid hz1
  have HZ2 := Lib.hid hz2
  obtain ⟨i1, hj, hy0, hy1, hy2⟩ := info_parts infoInts
  have HJ := Lib.hid hj
  have HY0 := Lib.hid hy0
  have HY1 := Lib.hid hy1
  have HY2 := Lib.hid hy2
  clear hi hz0 hz1 hz2 hj hy0 hy1 hy2
  have hr0 := TwoAt.new w (.slice none 0 0) (.slice none 0 0) 26
  have hl0 := TwoAt.new (w.alloc (.cells #[.slice none 0 0, .slice none 0 0] 26)) (.slice none 0 0) (.slice none 0 0) 26
  have hr1 := hr0.below ((Below.refl _ (w.alloc (.cells #[.slice none 0 0, .slice none 0 0] 26))).alloc (Nat.le_refl _) (.cells #[.slice none 0 0, .slice none 0 0] 26)) (by simp)
  have B1 := ((Below.refl w.heap.size w).alloc (Nat.le_refl _) (.cells #[.slice none 0 0, .slice none 0 0] 26)).alloc (by simp) (.cells #[.slice none 0 0, .slice none 0 0] 26)
  simp only [World.size_alloc] at hl0
  have hX0 : BoxS w w.heap.size (w.heap.size + 1) _ := ⟨hr1, B1, by omega, Nat.le_refl _, by simp⟩
  have hM0 := MakeAt.begin (N := 1) (base := w.heap.size + 1 + 1) setsZ (fun c => (setsY 1 c : Int)) (by omega) hl0
  clear hr0 hl0 hr1 B1
  go_enter Try.func31, Try.ntmps31
  go_wp2_with fail
  go_at_call 56
  refine (l1In_any _ _ _ _).mono ?_
  rintro e w1 ⟨rfl, rfl⟩
  go_wp2_with fail
  generalize (w.alloc (.cells #[.slice none 0 0, .slice none 0 0] 26)).alloc (.cells #[.slice none 0 0, .slice none 0 0] 26) = w2 at hX0 hM0 ⊢
  go_loopw [5] (fun i wr => ∃ (k : Nat) (u t : Value) (rv : Nat → Value), k ≤ 1 ∧ i = .int .i64 k ∧ BoxS w w.heap.size (w.heap.size + 1) wr ∧ MakeAt wr (w.heap.size + 1) (w.heap.size + 1 + 1) u t k k 1 rv setsZ (fun c => (setsY 1 c : Int))) (fun i _ => 1 - (intOf i).toNat)
  case atStart => exact ⟨0, _, _, _, Nat.zero_le _, rfl, hX0, hM0⟩
  case round =>
    clear hX0 hM0
    obtain ⟨k, u, t, rv, hk, rfl, hX, hM⟩ := hrel
    have hS := hX.size
    by_cases hlt : k < 1
    · have hlt' : (k : Int) < 1 := by omega
      obtain ⟨wo, rfl⟩ : ∃ wo : World, wo = wr := ⟨_, rfl⟩
      have hrow0 : IntsAt (wo.alloc (.cells #[] 3)) wo.heap.size (.slice (some ⟨wo.heap.size, 0, none⟩) 0 0) 0 (setsZ k) := World.ownsRow_lit (base := wo.heap.size) (e := 3) (size := 1) wo #[] 0 (Nat.le_refl _) (Nat.zero_le _) rfl
      have hbr := (Below.refl wo.heap.size wo).alloc (Nat.le_refl _) (.cells #[] 3)
      go_wp2_with fail
      go_loopw [6, 7] (fun t i wi => ∃ j : Nat, j ≤ 1 ∧ i = .int .i64 j ∧ IntsAt wi wo.heap.size t j (setsZ k) ∧ Below wo.heap.size wo wi) (fun _ i _ => 1 - (intOf i).toNat)
      case atStart => exact ⟨0, Nat.zero_le _, rfl, hrow0, hbr⟩
      case round =>
        clear hrow0 hbr
        obtain ⟨j, hj, rfl, hown, hWi⟩ := hrel
        have hws := hWi.size
        by_cases hjt : j < 1
        · have hjt' : (j : Int) < 1 := by omega
          have htb := Lib.hid (ownsRow_block hown)
          rcases setsZ_ways k j with hz | hz
          · have hb := sets_bits_f (by omega) (by omega) hz
            have HZ := Lib.hid hz
            clear hz
            go_wp2_with (at_builtin; refine wpList_append_own _ rfl _ _ 24 rfl wo.heap.size 3 i0 (.int .i64 0) 1 8 Try.underlying24 HI.out HZ0.out HZ1.out HZ2.out rfl (by decide) _ _ _ rfl (hown.alloc _) ⟨wr.heap.size, 0, none⟩ 1 1 [.int .i64 0] rfl rfl (cell_one_new _ _ _) ?c2 ?c3 ?c4 ?c5 ?_)
            case c2 => simp [Value.oneCell']
            case c3 => unfold maxLen; omega
            case c4 => omega
            case c5 => first | omega | (simp; omega)
            intro v6 w6 hown6 hgrow6 _
            have hown7 : Hid (IntsAt w6 wo.heap.size v6 (j + 1) (setsZ k)) := IntsAt.told (by rw [HZ.out]; exact hown6)
            have hW6 := (hWi.alloc hws _).grown hgrow6 (by simp; omega) htb.out
            clear hown6 hgrow6 hown hb
            go_wp2_with fail
            go_roundw
            case rel => exact ⟨j + 1, by omega, by go_num, hown7.out, hW6⟩
            case measure => simp [intOf]; omega
          · have hb := sets_bits_t (by omega) (by omega) hz
            have HZ := Lib.hid hz
            clear hz
            go_wp2_with (at_builtin; refine wpList_append_own _ rfl _ _ 24 rfl wo.heap.size 3 i0 (.int .i64 0) 1 8 Try.underlying24 HI.out HZ0.out HZ1.out HZ2.out rfl (by decide) _ _ _ rfl (hown.alloc _) ⟨wr.heap.size, 0, none⟩ 1 1 [.int .i64 1] rfl rfl (cell_one_new _ _ _) ?e2 ?e3 ?e4 ?e5 ?_)
            case e2 => simp [Value.oneCell']
            case e3 => unfold maxLen; omega
            case e4 => omega
            case e5 => first | omega | (simp; omega)
            intro v6 w6 hown6 hgrow6 _
            have hown7 : Hid (IntsAt w6 wo.heap.size v6 (j + 1) (setsZ k)) := IntsAt.told (by rw [HZ.out]; exact hown6)
            have hW6 := (hWi.alloc hws _).grown hgrow6 (by simp; omega) htb.out
            clear hown6 hgrow6 hown hb
            go_wp2_with fail
            go_roundw
            case rel => exact ⟨j + 1, by omega, by go_num, hown7.out, hW6⟩
            case measure => simp [intOf]; omega
        · have hjt' : ¬ (j : Int) < 1 := by omega
          have hjn : j = 1 := by omega
          have hrow : IntsAt wr wo.heap.size u6 1 (setsZ k) := by subst hjn; exact hown
          have hM1 := Lib.hid (hM.below hWi)
          have hq := hM1.out.box.c0
          have hqf := hM1.out.box.f0
          obtain ⟨gk, ck, rfl, hgk, hgl, _⟩ := hrow.val (by omega)
          have hbl := Lib.hid (ownsRow_block hM1.out.out.top)
          have hsi := hWi.size
          clear hjn hown
          go_wp2_with (at_builtin; refine wpList_append_own _ rfl _ _ 23 rfl (w.heap.size + 1 + 1) 24 i1 (.slice none 0 0) 1 24 Try.underlying23 HJ.out HY0.out HY1.out HY2.out rfl (by decide) _ _ _ rfl (hM1.out.out.top.alloc _) ⟨wr.heap.size, 0, none⟩ 1 1 [.slice (some ⟨gk, 0, none⟩) 1 ck] rfl rfl (cell_one_new _ _ _) ?d2 ?d3 ?d4 ?d5 ?_)
          case d2 => simp [Value.oneCell']
          case d3 => unfold maxLen; omega
          case d4 => omega
          case d5 => first | omega | (simp; omega)
          intro v' w4 hown4 hgrow _
          have HX := hM.row' (by omega) hWi hrow (fun c _ => by have := setsZ_ways k c; omega) hown4 hgrow (by omega)
          have hb4 := (hM1.out.mid (Chg.alloc (fun _ => False) _ _) hgrow hbl.out).2
          obtain ⟨g4, c4, rfl, _⟩ := HX.1.out.topv (by omega)
          have hX5 := hX.chg HX.2
          have hM5 := HX.1
          have r0 := hb4.c0
          have r1 := hb4.f0
          clear hown4 hgrow hb4 HX hM hX hrow hWi hM1 hqf
          go_upto_region 16 with fail
          clear r0 r1 hq
          generalize hW5 : w4.setCell ⟨w.heap.size + 1, 0, none⟩ (.slice (some ⟨g4, 0, none⟩) (k + 1) c4) = w5 at hX5 hM5 ⊢
          clear hW5
          have q1 := hM5.box.c1
          have hsz5 := hX5.size
          have hY : Hid (IntKind.i64.wrap (IntKind.i64.wrap (IntKind.i64.wrap 1 - 1) - (k : Int)) = ((setsY 1 k : Nat) : Int)) := by
            show _ = _
            rw [show IntKind.i64.wrap (IntKind.i64.wrap 1 - 1) = 0 from rfl, IntWalk.i64_in _ (by omega)]
            unfold setsY
            omega
          have hYr : Hid (0 ≤ ((setsY 1 k : Nat) : Int) ∧ ((setsY 1 k : Nat) : Int) < ((1 : Nat) : Int)) := by show _ ∧ _; unfold setsY; omega
          have hT1 : ∀ o, ((w5.drew).alloc o).ownsRow (w.heap.size + 1 + 1) 3 1 t k ((List.range k).map fun c => .int .i64 (setsY 1 c : Int)) := fun o => ((Chg.drew (fun _ => False) w5).trans (Chg.alloc _ _ o)).own hM5.ints (fun _ _ h => h)
          have hCH : ∀ o, Chg (fun _ => False) w5 ((w5.drew).alloc o) := fun o => (Chg.drew (fun _ => False) w5).trans (Chg.alloc _ _ o)
          have htb := Lib.hid (ownsRow_block hM5.ints)
          have m1 := Lib.hid (show k + 1 ≤ maxLen by unfold maxLen; omega)
          have m2 := Lib.hid (show (k + 1) * 8 ≤ 140737488355328 by omega)
          have m3 := Lib.hid (show ∀ o, w.heap.size + 1 + 1 ≤ ((w5.drew).alloc o).heap.size from fun o => by simp; omega)
          have m4 := Lib.hid (show ∀ x : Int, ∀ u ∈ [Value.int .i64 x], u.oneCell' = true from fun x => by simp [Value.oneCell'])
          have HX5 := Lib.hid hX5
          have HM5 := Lib.hid hM5
          clear hX5 hM5
          go_region_law (refine step_append_own rfl (.tmp 43) (.tmp 49) 24 rfl (w.heap.size + 1 + 1) 3 i0 (.int .i64 0) 1 8 Try.underlying24 HI.out HZ0.out HZ1.out HZ2.out rfl (by decide) t k _ (by simp [Act.eval]) (hT1 _) ⟨w5.heap.size, 0, none⟩ 1 1 [.int .i64 (IntKind.i64.wrap (IntKind.i64.wrap (IntKind.i64.wrap 1 - 1) - (k : Int)))] (by simp [Act.eval]) rfl (cell_one_new _ _ _) (m4.out _) m1.out m2.out (m3.out _) ?_; intro v6 w6 hown6 hgrow6 hat6; rw [hY.out] at hown6; have HZ := Lib.hid (HM5.out.more' (hCH _) hYr.out hown6 hgrow6 hat6); have hb6 := (HM5.out.mid (hCH _) hgrow6 htb.out).2; obtain ⟨g6, c6, rfl, _⟩ := HZ.out.1.ints.val (by omega); have r0 := hb6.c1; have r1 := hb6.f1; clear hown6 hgrow6 hat6 hb6)
          all_goals
            go_wp2_with fail
            go_roundw
            case rel => exact ⟨k + 1, _, _, _, by omega, by go_num, HX5.out.chg HZ.out.2, HZ.out.1⟩
            case measure => simp [intOf]; omega
    · have hlt' : ¬ (k : Int) < 1 := by omega
      have hkn : k = 1 := by omega
      have hM1 : MakeAt wr (w.heap.size + 1) (w.heap.size + 1 + 1) u t 1 1 1 rv setsZ (fun c => (setsY 1 c : Int)) := by subst hkn; exact hM
      have hL := hM1.made (by omega) (by omega)
      obtain ⟨gu, cu, rfl, _⟩ := hL.out.topv (by omega)
      obtain ⟨gt, ct, rfl, _⟩ := hL.ints.val (by omega)
      have q0 := hM1.box.c0
      have q1 := hM1.box.c1
      have p0 := hX.res.f0
      have p1 := hX.res.f1
      have p2 := hX.res.c0
      have p3 := hX.res.c1
      have HL := Lib.hid hL
      have HX := Lib.hid hX
      clear hkn hM hM1 hL hX
      go_wp2_with fail
      have hfin := (HX.out.res.set0 (.slice (some ⟨gu, 0, none⟩) 1 cu)).set1 (.slice (some ⟨gt, 0, none⟩) 1 ct)
      have t0 := hfin.c0
      have t1 := hfin.c1
      have hon := set2_only wr w.heap.size (.slice (some ⟨gu, 0, none⟩) 1 cu) (.slice (some ⟨gt, 0, none⟩) 1 ct)
      refine bodyPost_ret (v := .tuple #[.agg #[.slice (some ⟨gu, 0, none⟩) 1 cu, .slice (some ⟨gt, 0, none⟩) 1 ct], .bool true]) (by simp [results, Try.results31, go_sem, t0, t1]) rfl ⟨HX.out.old.trans (hon.below fun j hj => by have hj' : j = w.heap.size := hj; omega), .inr ⟨rfl, _, _, rv, rfl, ((HL.out.chg (Chg.of_only hon) fun j hj => ?_).base (by omega))⟩⟩
      have hj' : j = w.heap.size := hj
      omega

set_option maxRecDepth 100000 in
set_option maxHeartbeats 2000000 in
theorem spec_SetsOf_1 (w : World) : Calls Try.prog 31 #[.int .i64 1] w (MadeOk w 2 setsZ (setsY 2) true) := by
  obtain ⟨i0, hi, hz0, hz1, hz2⟩ := info_parts infoInt
  have HI := Lib.hid hi
  have HZ0 := Lib.hid hz0
  have HZ1 := Lib.hid hz1
  have HZ2 := Lib.hid hz2
  obtain ⟨i1, hj, hy0, hy1, hy2⟩ := info_parts infoInts
  have HJ := Lib.hid hj
  have HY0 := Lib.hid hy0
  have HY1 := Lib.hid hy1
  have HY2 := Lib.hid hy2
  clear hi hz0 hz1 hz2 hj hy0 hy1 hy2
  have hr0 := TwoAt.new w (.slice none 0 0) (.slice none 0 0) 26
  have hl0 := TwoAt.new (w.alloc (.cells #[.slice none 0 0, .slice none 0 0] 26)) (.slice none 0 0) (.slice none 0 0) 26
  have hr1 := hr0.below ((Below.refl _ (w.alloc (.cells #[.slice none 0 0, .slice none 0 0] 26))).alloc (Nat.le_refl _) (.cells #[.slice none 0 0, .slice none 0 0] 26)) (by simp)
  have B1 := ((Below.refl w.heap.size w).alloc (Nat.le_refl _) (.cells #[.slice none 0 0, .slice none 0 0] 26)).alloc (by simp) (.cells #[.slice none 0 0, .slice none 0 0] 26)
  simp only [World.size_alloc] at hl0
  have hX0 : BoxS w w.heap.size (w.heap.size + 1) _ := ⟨hr1, B1, by omega, Nat.le_refl _, by simp⟩
  have hM0 := MakeAt.begin (N := 2) (base := w.heap.size + 1 + 1) setsZ (fun c => (setsY 2 c : Int)) (by omega) hl0
  clear hr0 hl0 hr1 B1
  go_enter Try.func31, Try.ntmps31
  go_wp2_with fail
  go_at_call 56
  refine (l1In_any _ _ _ _).mono ?_
  rintro e w1 ⟨rfl, rfl⟩
  go_wp2_with fail
  generalize (w.alloc (.cells #[.slice none 0 0, .slice none 0 0] 26)).alloc (.cells #[.slice none 0 0, .slice none 0 0] 26) = w2 at hX0 hM0 ⊢
  go_loopw [5] (fun i wr => ∃ (k : Nat) (u t : Value) (rv : Nat → Value), k ≤ 2 ∧ i = .int .i64 k ∧ BoxS w w.heap.size (w.heap.size + 1) wr ∧ MakeAt wr (w.heap.size + 1) (w.heap.size + 1 + 1) u t k k 2 rv setsZ (fun c => (setsY 2 c : Int))) (fun i _ => 2 - (intOf i).toNat)
  case atStart => exact ⟨0, _, _, _, Nat.zero_le _, rfl, hX0, hM0⟩
  case round =>
    clear hX0 hM0
    obtain ⟨k, u, t, rv, hk, rfl, hX, hM⟩ := hrel
    have hS := hX.size
    by_cases hlt : k < 2
    · have hlt' : (k : Int) < 2 := by omega
      obtain ⟨wo, rfl⟩ : ∃ wo : World, wo = wr := ⟨_, rfl⟩
      have hrow0 : IntsAt (wo.alloc (.cells #[] 3)) wo.heap.size (.slice (some ⟨wo.heap.size, 0, none⟩) 0 0) 0 (setsZ k) := World.ownsRow_lit (base := wo.heap.size) (e := 3) (size := 1) wo #[] 0 (Nat.le_refl _) (Nat.zero_le _) rfl
      have hbr := (Below.refl wo.heap.size wo).alloc (Nat.le_refl _) (.cells #[] 3)
      go_wp2_with fail
      go_loopw [6, 7] (fun t i wi => ∃ j : Nat, j ≤ 2 ∧ i = .int .i64 j ∧ IntsAt wi wo.heap.size t j (setsZ k) ∧ Below wo.heap.size wo wi) (fun _ i _ => 2 - (intOf i).toNat)
      case atStart => exact ⟨0, Nat.zero_le _, rfl, hrow0, hbr⟩
      case round =>
        clear hrow0 hbr
        obtain ⟨j, hj, rfl, hown, hWi⟩ := hrel
        have hws := hWi.size
        by_cases hjt : j < 2
        · have hjt' : (j : Int) < 2 := by omega
          have htb := Lib.hid (ownsRow_block hown)
          rcases setsZ_ways k j with hz | hz
          · have hb := sets_bits_f (by omega) (by omega) hz
            have HZ := Lib.hid hz
            clear hz
            go_wp2_with (at_builtin; refine wpList_append_own _ rfl _ _ 24 rfl wo.heap.size 3 i0 (.int .i64 0) 1 8 Try.underlying24 HI.out HZ0.out HZ1.out HZ2.out rfl (by decide) _ _ _ rfl (hown.alloc _) ⟨wr.heap.size, 0, none⟩ 1 1 [.int .i64 0] rfl rfl (cell_one_new _ _ _) ?c2 ?c3 ?c4 ?c5 ?_)
            case c2 => simp [Value.oneCell']
            case c3 => unfold maxLen; omega
            case c4 => omega
            case c5 => first | omega | (simp; omega)
            intro v6 w6 hown6 hgrow6 _
            have hown7 : Hid (IntsAt w6 wo.heap.size v6 (j + 1) (setsZ k)) := IntsAt.told (by rw [HZ.out]; exact hown6)
            have hW6 := (hWi.alloc hws _).grown hgrow6 (by simp; omega) htb.out
            clear hown6 hgrow6 hown hb
            go_wp2_with fail
            go_roundw
            case rel => exact ⟨j + 1, by omega, by go_num, hown7.out, hW6⟩
            case measure => simp [intOf]; omega
          · have hb := sets_bits_t (by omega) (by omega) hz
            have HZ := Lib.hid hz
            clear hz
            go_wp2_with (at_builtin; refine wpList_append_own _ rfl _ _ 24 rfl wo.heap.size 3 i0 (.int .i64 0) 1 8 Try.underlying24 HI.out HZ0.out HZ1.out HZ2.out rfl (by decide) _ _ _ rfl (hown.alloc _) ⟨wr.heap.size, 0, none⟩ 1 1 [.int .i64 1] rfl rfl (cell_one_new _ _ _) ?e2 ?e3 ?e4 ?e5 ?_)
            case e2 => simp [Value.oneCell']
            case e3 => unfold maxLen; omega
            case e4 => omega
            case e5 => first | omega | (simp; omega)
            intro v6 w6 hown6 hgrow6 _
            have hown7 : Hid (IntsAt w6 wo.heap.size v6 (j + 1) (setsZ k)) := IntsAt.told (by rw [HZ.out]; exact hown6)
            have hW6 := (hWi.alloc hws _).grown hgrow6 (by simp; omega) htb.out
            clear hown6 hgrow6 hown hb
            go_wp2_with fail
            go_roundw
            case rel => exact ⟨j + 1, by omega, by go_num, hown7.out, hW6⟩
            case measure => simp [intOf]; omega
        · have hjt' : ¬ (j : Int) < 2 := by omega
          have hjn : j = 2 := by omega
          have hrow : IntsAt wr wo.heap.size u6 2 (setsZ k) := by subst hjn; exact hown
          have hM1 := Lib.hid (hM.below hWi)
          have hq := hM1.out.box.c0
          have hqf := hM1.out.box.f0
          obtain ⟨gk, ck, rfl, hgk, hgl, _⟩ := hrow.val (by omega)
          have hbl := Lib.hid (ownsRow_block hM1.out.out.top)
          have hsi := hWi.size
          clear hjn hown
          go_wp2_with (at_builtin; refine wpList_append_own _ rfl _ _ 23 rfl (w.heap.size + 1 + 1) 24 i1 (.slice none 0 0) 1 24 Try.underlying23 HJ.out HY0.out HY1.out HY2.out rfl (by decide) _ _ _ rfl (hM1.out.out.top.alloc _) ⟨wr.heap.size, 0, none⟩ 1 1 [.slice (some ⟨gk, 0, none⟩) 2 ck] rfl rfl (cell_one_new _ _ _) ?d2 ?d3 ?d4 ?d5 ?_)
          case d2 => simp [Value.oneCell']
          case d3 => unfold maxLen; omega
          case d4 => omega
          case d5 => first | omega | (simp; omega)
          intro v' w4 hown4 hgrow _
          have HX := hM.row' (by omega) hWi hrow (fun c _ => by have := setsZ_ways k c; omega) hown4 hgrow (by omega)
          have hb4 := (hM1.out.mid (Chg.alloc (fun _ => False) _ _) hgrow hbl.out).2
          obtain ⟨g4, c4, rfl, _⟩ := HX.1.out.topv (by omega)
          have hX5 := hX.chg HX.2
          have hM5 := HX.1
          have r0 := hb4.c0
          have r1 := hb4.f0
          clear hown4 hgrow hb4 HX hM hX hrow hWi hM1 hqf
          go_upto_region 16 with fail
          clear r0 r1 hq
          generalize hW5 : w4.setCell ⟨w.heap.size + 1, 0, none⟩ (.slice (some ⟨g4, 0, none⟩) (k + 1) c4) = w5 at hX5 hM5 ⊢
          clear hW5
          have q1 := hM5.box.c1
          have hsz5 := hX5.size
          have hY : Hid (IntKind.i64.wrap (IntKind.i64.wrap (IntKind.i64.wrap 2 - 1) - (k : Int)) = ((setsY 2 k : Nat) : Int)) := by
            show _ = _
            rw [show IntKind.i64.wrap (IntKind.i64.wrap 2 - 1) = 1 from rfl, IntWalk.i64_in _ (by omega)]
            unfold setsY
            omega
          have hYr : Hid (0 ≤ ((setsY 2 k : Nat) : Int) ∧ ((setsY 2 k : Nat) : Int) < ((2 : Nat) : Int)) := by show _ ∧ _; unfold setsY; omega
          have hT1 : ∀ o, ((w5.drew).alloc o).ownsRow (w.heap.size + 1 + 1) 3 1 t k ((List.range k).map fun c => .int .i64 (setsY 2 c : Int)) := fun o => ((Chg.drew (fun _ => False) w5).trans (Chg.alloc _ _ o)).own hM5.ints (fun _ _ h => h)
          have hCH : ∀ o, Chg (fun _ => False) w5 ((w5.drew).alloc o) := fun o => (Chg.drew (fun _ => False) w5).trans (Chg.alloc _ _ o)
          have htb := Lib.hid (ownsRow_block hM5.ints)
          have m1 := Lib.hid (show k + 1 ≤ maxLen by unfold maxLen; omega)
          have m2 := Lib.hid (show (k + 1) * 8 ≤ 140737488355328 by omega)
          have m3 := Lib.hid (show ∀ o, w.heap.size + 1 + 1 ≤ ((w5.drew).alloc o).heap.size from fun o => by simp; omega)
          have m4 := Lib.hid (show ∀ x : Int, ∀ u ∈ [Value.int .i64 x], u.oneCell' = true from fun x => by simp [Value.oneCell'])
          have HX5 := Lib.hid hX5
          have HM5 := Lib.hid hM5
          clear hX5 hM5
          go_region_law (refine step_append_own rfl (.tmp 43) (.tmp 49) 24 rfl (w.heap.size + 1 + 1) 3 i0 (.int .i64 0) 1 8 Try.underlying24 HI.out HZ0.out HZ1.out HZ2.out rfl (by decide) t k _ (by simp [Act.eval]) (hT1 _) ⟨w5.heap.size, 0, none⟩ 1 1 [.int .i64 (IntKind.i64.wrap (IntKind.i64.wrap (IntKind.i64.wrap 2 - 1) - (k : Int)))] (by simp [Act.eval]) rfl (cell_one_new _ _ _) (m4.out _) m1.out m2.out (m3.out _) ?_; intro v6 w6 hown6 hgrow6 hat6; rw [hY.out] at hown6; have HZ := Lib.hid (HM5.out.more' (hCH _) hYr.out hown6 hgrow6 hat6); have hb6 := (HM5.out.mid (hCH _) hgrow6 htb.out).2; obtain ⟨g6, c6, rfl, _⟩ := HZ.out.1.ints.val (by omega); have r0 := hb6.c1; have r1 := hb6.f1; clear hown6 hgrow6 hat6 hb6)
          all_goals
            go_wp2_with fail
            go_roundw
            case rel => exact ⟨k + 1, _, _, _, by omega, by go_num, HX5.out.chg HZ.out.2, HZ.out.1⟩
            case measure => simp [intOf]; omega
    · have hlt' : ¬ (k : Int) < 2 := by omega
      have hkn : k = 2 := by omega
      have hM1 : MakeAt wr (w.heap.size + 1) (w.heap.size + 1 + 1) u t 2 2 2 rv setsZ (fun c => (setsY 2 c : Int)) := by subst hkn; exact hM
      have hL := hM1.made (by omega) (by omega)
      obtain ⟨gu, cu, rfl, _⟩ := hL.out.topv (by omega)
      obtain ⟨gt, ct, rfl, _⟩ := hL.ints.val (by omega)
      have q0 := hM1.box.c0
      have q1 := hM1.box.c1
      have p0 := hX.res.f0
      have p1 := hX.res.f1
      have p2 := hX.res.c0
      have p3 := hX.res.c1
      have HL := Lib.hid hL
      have HX := Lib.hid hX
      clear hkn hM hM1 hL hX
      go_wp2_with fail
      have hfin := (HX.out.res.set0 (.slice (some ⟨gu, 0, none⟩) 2 cu)).set1 (.slice (some ⟨gt, 0, none⟩) 2 ct)
      have t0 := hfin.c0
      have t1 := hfin.c1
      have hon := set2_only wr w.heap.size (.slice (some ⟨gu, 0, none⟩) 2 cu) (.slice (some ⟨gt, 0, none⟩) 2 ct)
      refine bodyPost_ret (v := .tuple #[.agg #[.slice (some ⟨gu, 0, none⟩) 2 cu, .slice (some ⟨gt, 0, none⟩) 2 ct], .bool true]) (by simp [results, Try.results31, go_sem, t0, t1]) rfl ⟨HX.out.old.trans (hon.below fun j hj => by have hj' : j = w.heap.size := hj; omega), .inr ⟨rfl, _, _, rv, rfl, ((HL.out.chg (Chg.of_only hon) fun j hj => ?_).base (by omega))⟩⟩
      have hj' : j = w.heap.size := hj
      omega

set_option maxRecDepth 100000 in
set_option maxHeartbeats 2000000 in
theorem spec_SetsOf_2 (w : World) : Calls Try.prog 31 #[.int .i64 2] w (MadeOk w 4 setsZ (setsY 4) true) := by
  obtain ⟨i0, hi, hz0, hz1, hz2⟩ := info_parts infoInt
  have HI := Lib.hid hi
  have HZ0 := Lib.hid hz0
  have HZ1 := Lib.hid hz1
  have HZ2 := Lib.hid hz2
  obtain ⟨i1, hj, hy0, hy1, hy2⟩ := info_parts infoInts
  have HJ := Lib.hid hj
  have HY0 := Lib.hid hy0
  have HY1 := Lib.hid hy1
  have HY2 := Lib.hid hy2
  clear hi hz0 hz1 hz2 hj hy0 hy1 hy2
  have hr0 := TwoAt.new w (.slice none 0 0) (.slice none 0 0) 26
  have hl0 := TwoAt.new (w.alloc (.cells #[.slice none 0 0, .slice none 0 0] 26)) (.slice none 0 0) (.slice none 0 0) 26
  have hr1 := hr0.below ((Below.refl _ (w.alloc (.cells #[.slice none 0 0, .slice none 0 0] 26))).alloc (Nat.le_refl _) (.cells #[.slice none 0 0, .slice none 0 0] 26)) (by simp)
  have B1 := ((Below.refl w.heap.size w).alloc (Nat.le_refl _) (.cells #[.slice none 0 0, .slice none 0 0] 26)).alloc (by simp) (.cells #[.slice none 0 0, .slice none 0 0] 26)
  simp only [World.size_alloc] at hl0
  have hX0 : BoxS w w.heap.size (w.heap.size + 1) _ := ⟨hr1, B1, by omega, Nat.le_refl _, by simp⟩
  have hM0 := MakeAt.begin (N := 4) (base := w.heap.size + 1 + 1) setsZ (fun c => (setsY 4 c : Int)) (by omega) hl0
  clear hr0 hl0 hr1 B1
  go_enter Try.func31, Try.ntmps31
  go_wp2_with fail
  go_at_call 56
  refine (l1In_any _ _ _ _).mono ?_
  rintro e w1 ⟨rfl, rfl⟩
  go_wp2_with fail
  generalize (w.alloc (.cells #[.slice none 0 0, .slice none 0 0] 26)).alloc (.cells #[.slice none 0 0, .slice none 0 0] 26) = w2 at hX0 hM0 ⊢
  go_loopw [5] (fun i wr => ∃ (k : Nat) (u t : Value) (rv : Nat → Value), k ≤ 4 ∧ i = .int .i64 k ∧ BoxS w w.heap.size (w.heap.size + 1) wr ∧ MakeAt wr (w.heap.size + 1) (w.heap.size + 1 + 1) u t k k 4 rv setsZ (fun c => (setsY 4 c : Int))) (fun i _ => 4 - (intOf i).toNat)
  case atStart => exact ⟨0, _, _, _, Nat.zero_le _, rfl, hX0, hM0⟩
  case round =>
    clear hX0 hM0
    obtain ⟨k, u, t, rv, hk, rfl, hX, hM⟩ := hrel
    have hS := hX.size
    by_cases hlt : k < 4
    · have hlt' : (k : Int) < 4 := by omega
      obtain ⟨wo, rfl⟩ : ∃ wo : World, wo = wr := ⟨_, rfl⟩
      have hrow0 : IntsAt (wo.alloc (.cells #[] 3)) wo.heap.size (.slice (some ⟨wo.heap.size, 0, none⟩) 0 0) 0 (setsZ k) := World.ownsRow_lit (base := wo.heap.size) (e := 3) (size := 1) wo #[] 0 (Nat.le_refl _) (Nat.zero_le _) rfl
      have hbr := (Below.refl wo.heap.size wo).alloc (Nat.le_refl _) (.cells #[] 3)
      go_wp2_with fail
      go_loopw [6, 7] (fun t i wi => ∃ j : Nat, j ≤ 4 ∧ i = .int .i64 j ∧ IntsAt wi wo.heap.size t j (setsZ k) ∧ Below wo.heap.size wo wi) (fun _ i _ => 4 - (intOf i).toNat)
      case atStart => exact ⟨0, Nat.zero_le _, rfl, hrow0, hbr⟩
      case round =>
        clear hrow0 hbr
        obtain ⟨j, hj, rfl, hown, hWi⟩ := hrel
        have hws := hWi.size
        by_cases hjt : j < 4
        · have hjt' : (j : Int) < 4 := by omega
          have htb := Lib.hid (ownsRow_block hown)
          rcases setsZ_ways k j with hz | hz
          · have hb := sets_bits_f (by omega) (by omega) hz
            have HZ := Lib.hid hz
            clear hz
            go_wp2_with (at_builtin; refine wpList_append_own _ rfl _ _ 24 rfl wo.heap.size 3 i0 (.int .i64 0) 1 8 Try.underlying24 HI.out HZ0.out HZ1.out HZ2.out rfl (by decide) _ _ _ rfl (hown.alloc _) ⟨wr.heap.size, 0, none⟩ 1 1 [.int .i64 0] rfl rfl (cell_one_new _ _ _) ?c2 ?c3 ?c4 ?c5 ?_)
            case c2 => simp [Value.oneCell']
            case c3 => unfold maxLen; omega
            case c4 => omega
            case c5 => first | omega | (simp; omega)
            intro v6 w6 hown6 hgrow6 _
            have hown7 : Hid (IntsAt w6 wo.heap.size v6 (j + 1) (setsZ k)) := IntsAt.told (by rw [HZ.out]; exact hown6)
            have hW6 := (hWi.alloc hws _).grown hgrow6 (by simp; omega) htb.out
            clear hown6 hgrow6 hown hb
            go_wp2_with fail
            go_roundw
            case rel => exact ⟨j + 1, by omega, by go_num, hown7.out, hW6⟩
            case measure => simp [intOf]; omega
          · have hb := sets_bits_t (by omega) (by omega) hz
            have HZ := Lib.hid hz
            clear hz
            go_wp2_with (at_builtin; refine wpList_append_own _ rfl _ _ 24 rfl wo.heap.size 3 i0 (.int .i64 0) 1 8 Try.underlying24 HI.out HZ0.out HZ1.out HZ2.out rfl (by decide) _ _ _ rfl (hown.alloc _) ⟨wr.heap.size, 0, none⟩ 1 1 [.int .i64 1] rfl rfl (cell_one_new _ _ _) ?e2 ?e3 ?e4 ?e5 ?_)
            case e2 => simp [Value.oneCell']
            case e3 => unfold maxLen; omega
            case e4 => omega
            case e5 => first | omega | (simp; omega)
            intro v6 w6 hown6 hgrow6 _
            have hown7 : Hid (IntsAt w6 wo.heap.size v6 (j + 1) (setsZ k)) := IntsAt.told (by rw [HZ.out]; exact hown6)
            have hW6 := (hWi.alloc hws _).grown hgrow6 (by simp; omega) htb.out
            clear hown6 hgrow6 hown hb
            go_wp2_with fail
            go_roundw
            case rel => exact ⟨j + 1, by omega, by go_num, hown7.out, hW6⟩
            case measure => simp [intOf]; omega
        · have hjt' : ¬ (j : Int) < 4 := by omega
          have hjn : j = 4 := by omega
          have hrow : IntsAt wr wo.heap.size u6 4 (setsZ k) := by subst hjn; exact hown
          have hM1 := Lib.hid (hM.below hWi)
          have hq := hM1.out.box.c0
          have hqf := hM1.out.box.f0
          obtain ⟨gk, ck, rfl, hgk, hgl, _⟩ := hrow.val (by omega)
          have hbl := Lib.hid (ownsRow_block hM1.out.out.top)
          have hsi := hWi.size
          clear hjn hown
          go_wp2_with (at_builtin; refine wpList_append_own _ rfl _ _ 23 rfl (w.heap.size + 1 + 1) 24 i1 (.slice none 0 0) 1 24 Try.underlying23 HJ.out HY0.out HY1.out HY2.out rfl (by decide) _ _ _ rfl (hM1.out.out.top.alloc _) ⟨wr.heap.size, 0, none⟩ 1 1 [.slice (some ⟨gk, 0, none⟩) 4 ck] rfl rfl (cell_one_new _ _ _) ?d2 ?d3 ?d4 ?d5 ?_)
          case d2 => simp [Value.oneCell']
          case d3 => unfold maxLen; omega
          case d4 => omega
          case d5 => first | omega | (simp; omega)
          intro v' w4 hown4 hgrow _
          have HX := hM.row' (by omega) hWi hrow (fun c _ => by have := setsZ_ways k c; omega) hown4 hgrow (by omega)
          have hb4 := (hM1.out.mid (Chg.alloc (fun _ => False) _ _) hgrow hbl.out).2
          obtain ⟨g4, c4, rfl, _⟩ := HX.1.out.topv (by omega)
          have hX5 := hX.chg HX.2
          have hM5 := HX.1
          have r0 := hb4.c0
          have r1 := hb4.f0
          clear hown4 hgrow hb4 HX hM hX hrow hWi hM1 hqf
          go_upto_region 16 with fail
          clear r0 r1 hq
          generalize hW5 : w4.setCell ⟨w.heap.size + 1, 0, none⟩ (.slice (some ⟨g4, 0, none⟩) (k + 1) c4) = w5 at hX5 hM5 ⊢
          clear hW5
          have q1 := hM5.box.c1
          have hsz5 := hX5.size
          have hY : Hid (IntKind.i64.wrap (IntKind.i64.wrap (IntKind.i64.wrap 4 - 1) - (k : Int)) = ((setsY 4 k : Nat) : Int)) := by
            show _ = _
            rw [show IntKind.i64.wrap (IntKind.i64.wrap 4 - 1) = 3 from rfl, IntWalk.i64_in _ (by omega)]
            unfold setsY
            omega
          have hYr : Hid (0 ≤ ((setsY 4 k : Nat) : Int) ∧ ((setsY 4 k : Nat) : Int) < ((4 : Nat) : Int)) := by show _ ∧ _; unfold setsY; omega
          have hT1 : ∀ o, ((w5.drew).alloc o).ownsRow (w.heap.size + 1 + 1) 3 1 t k ((List.range k).map fun c => .int .i64 (setsY 4 c : Int)) := fun o => ((Chg.drew (fun _ => False) w5).trans (Chg.alloc _ _ o)).own hM5.ints (fun _ _ h => h)
          have hCH : ∀ o, Chg (fun _ => False) w5 ((w5.drew).alloc o) := fun o => (Chg.drew (fun _ => False) w5).trans (Chg.alloc _ _ o)
          have htb := Lib.hid (ownsRow_block hM5.ints)
          have m1 := Lib.hid (show k + 1 ≤ maxLen by unfold maxLen; omega)
          have m2 := Lib.hid (show (k + 1) * 8 ≤ 140737488355328 by omega)
          have m3 := Lib.hid (show ∀ o, w.heap.size + 1 + 1 ≤ ((w5.drew).alloc o).heap.size from fun o => by simp; omega)
          have m4 := Lib.hid (show ∀ x : Int, ∀ u ∈ [Value.int .i64 x], u.oneCell' = true from fun x => by simp [Value.oneCell'])
          have HX5 := Lib.hid hX5
          have HM5 := Lib.hid hM5
          clear hX5 hM5
          go_region_law (refine step_append_own rfl (.tmp 43) (.tmp 49) 24 rfl (w.heap.size + 1 + 1) 3 i0 (.int .i64 0) 1 8 Try.underlying24 HI.out HZ0.out HZ1.out HZ2.out rfl (by decide) t k _ (by simp [Act.eval]) (hT1 _) ⟨w5.heap.size, 0, none⟩ 1 1 [.int .i64 (IntKind.i64.wrap (IntKind.i64.wrap (IntKind.i64.wrap 4 - 1) - (k : Int)))] (by simp [Act.eval]) rfl (cell_one_new _ _ _) (m4.out _) m1.out m2.out (m3.out _) ?_; intro v6 w6 hown6 hgrow6 hat6; rw [hY.out] at hown6; have HZ := Lib.hid (HM5.out.more' (hCH _) hYr.out hown6 hgrow6 hat6); have hb6 := (HM5.out.mid (hCH _) hgrow6 htb.out).2; obtain ⟨g6, c6, rfl, _⟩ := HZ.out.1.ints.val (by omega); have r0 := hb6.c1; have r1 := hb6.f1; clear hown6 hgrow6 hat6 hb6)
          all_goals
            go_wp2_with fail
            go_roundw
            case rel => exact ⟨k + 1, _, _, _, by omega, by go_num, HX5.out.chg HZ.out.2, HZ.out.1⟩
            case measure => simp [intOf]; omega
    · have hlt' : ¬ (k : Int) < 4 := by omega
      have hkn : k = 4 := by omega
      have hM1 : MakeAt wr (w.heap.size + 1) (w.heap.size + 1 + 1) u t 4 4 4 rv setsZ (fun c => (setsY 4 c : Int)) := by subst hkn; exact hM
      have hL := hM1.made (by omega) (by omega)
      obtain ⟨gu, cu, rfl, _⟩ := hL.out.topv (by omega)
      obtain ⟨gt, ct, rfl, _⟩ := hL.ints.val (by omega)
      have q0 := hM1.box.c0
      have q1 := hM1.box.c1
      have p0 := hX.res.f0
      have p1 := hX.res.f1
      have p2 := hX.res.c0
      have p3 := hX.res.c1
      have HL := Lib.hid hL
      have HX := Lib.hid hX
      clear hkn hM hM1 hL hX
      go_wp2_with fail
      have hfin := (HX.out.res.set0 (.slice (some ⟨gu, 0, none⟩) 4 cu)).set1 (.slice (some ⟨gt, 0, none⟩) 4 ct)
      have t0 := hfin.c0
      have t1 := hfin.c1
      have hon := set2_only wr w.heap.size (.slice (some ⟨gu, 0, none⟩) 4 cu) (.slice (some ⟨gt, 0, none⟩) 4 ct)
      refine bodyPost_ret (v := .tuple #[.agg #[.slice (some ⟨gu, 0, none⟩) 4 cu, .slice (some ⟨gt, 0, none⟩) 4 ct], .bool true]) (by simp [results, Try.results31, go_sem, t0, t1]) rfl ⟨HX.out.old.trans (hon.below fun j hj => by have hj' : j = w.heap.size := hj; omega), .inr ⟨rfl, _, _, rv, rfl, ((HL.out.chg (Chg.of_only hon) fun j hj => ?_).base (by omega))⟩⟩
      have hj' : j = w.heap.size := hj
      omega

set_option maxRecDepth 100000 in
set_option maxHeartbeats 2000000 in
theorem spec_SetsOf_3 (w : World) : Calls Try.prog 31 #[.int .i64 3] w (MadeOk w 8 setsZ (setsY 8) true) := by
  obtain ⟨i0, hi, hz0, hz1, hz2⟩ := info_parts infoInt
  have HI := Lib.hid hi
  have HZ0 := Lib.hid hz0
  have HZ1 := Lib.hid hz1
  have HZ2 := Lib.hid hz2
  obtain ⟨i1, hj, hy0, hy1, hy2⟩ := info_parts infoInts
  have HJ := Lib.hid hj
  have HY0 := Lib.hid hy0
  have HY1 := Lib.hid hy1
  have HY2 := Lib.hid hy2
  clear hi hz0 hz1 hz2 hj hy0 hy1 hy2
  have hr0 := TwoAt.new w (.slice none 0 0) (.slice none 0 0) 26
  have hl0 := TwoAt.new (w.alloc (.cells #[.slice none 0 0, .slice none 0 0] 26)) (.slice none 0 0) (.slice none 0 0) 26
  have hr1 := hr0.below ((Below.refl _ (w.alloc (.cells #[.slice none 0 0, .slice none 0 0] 26))).alloc (Nat.le_refl _) (.cells #[.slice none 0 0, .slice none 0 0] 26)) (by simp)
  have B1 := ((Below.refl w.heap.size w).alloc (Nat.le_refl _) (.cells #[.slice none 0 0, .slice none 0 0] 26)).alloc (by simp) (.cells #[.slice none 0 0, .slice none 0 0] 26)
  simp only [World.size_alloc] at hl0
  have hX0 : BoxS w w.heap.size (w.heap.size + 1) _ := ⟨hr1, B1, by omega, Nat.le_refl _, by simp⟩
  have hM0 := MakeAt.begin (N := 8) (base := w.heap.size + 1 + 1) setsZ (fun c => (setsY 8 c : Int)) (by omega) hl0
  clear hr0 hl0 hr1 B1
  go_enter Try.func31, Try.ntmps31
  go_wp2_with fail
  go_at_call 56
  refine (l1In_any _ _ _ _).mono ?_
  rintro e w1 ⟨rfl, rfl⟩
  go_wp2_with fail
  generalize (w.alloc (.cells #[.slice none 0 0, .slice none 0 0] 26)).alloc (.cells #[.slice none 0 0, .slice none 0 0] 26) = w2 at hX0 hM0 ⊢
  go_loopw [5] (fun i wr => ∃ (k : Nat) (u t : Value) (rv : Nat → Value), k ≤ 8 ∧ i = .int .i64 k ∧ BoxS w w.heap.size (w.heap.size + 1) wr ∧ MakeAt wr (w.heap.size + 1) (w.heap.size + 1 + 1) u t k k 8 rv setsZ (fun c => (setsY 8 c : Int))) (fun i _ => 8 - (intOf i).toNat)
  case atStart => exact ⟨0, _, _, _, Nat.zero_le _, rfl, hX0, hM0⟩
  case round =>
    clear hX0 hM0
    obtain ⟨k, u, t, rv, hk, rfl, hX, hM⟩ := hrel
    have hS := hX.size
    by_cases hlt : k < 8
    · have hlt' : (k : Int) < 8 := by omega
      obtain ⟨wo, rfl⟩ : ∃ wo : World, wo = wr := ⟨_, rfl⟩
      have hrow0 : IntsAt (wo.alloc (.cells #[] 3)) wo.heap.size (.slice (some ⟨wo.heap.size, 0, none⟩) 0 0) 0 (setsZ k) := World.ownsRow_lit (base := wo.heap.size) (e := 3) (size := 1) wo #[] 0 (Nat.le_refl _) (Nat.zero_le _) rfl
      have hbr := (Below.refl wo.heap.size wo).alloc (Nat.le_refl _) (.cells #[] 3)
      go_wp2_with fail
      go_loopw [6, 7] (fun t i wi => ∃ j : Nat, j ≤ 8 ∧ i = .int .i64 j ∧ IntsAt wi wo.heap.size t j (setsZ k) ∧ Below wo.heap.size wo wi) (fun _ i _ => 8 - (intOf i).toNat)
      case atStart => exact ⟨0, Nat.zero_le _, rfl, hrow0, hbr⟩
      case round =>
        clear hrow0 hbr
        obtain ⟨j, hj, rfl, hown, hWi⟩ := hrel
        have hws := hWi.size
        by_cases hjt : j < 8
        · have hjt' : (j : Int) < 8 := by omega
          have htb := Lib.hid (ownsRow_block hown)
          rcases setsZ_ways k j with hz | hz
          · have hb := sets_bits_f (by omega) (by omega) hz
            have HZ := Lib.hid hz
            clear hz
            go_wp2_with (at_builtin; refine wpList_append_own _ rfl _ _ 24 rfl wo.heap.size 3 i0 (.int .i64 0) 1 8 Try.underlying24 HI.out HZ0.out HZ1.out HZ2.out rfl (by decide) _ _ _ rfl (hown.alloc _) ⟨wr.heap.size, 0, none⟩ 1 1 [.int .i64 0] rfl rfl (cell_one_new _ _ _) ?c2 ?c3 ?c4 ?c5 ?_)
            case c2 => simp [Value.oneCell']
            case c3 => unfold maxLen; omega
            case c4 => omega
            case c5 => first | omega | (simp; omega)
            intro v6 w6 hown6 hgrow6 _
            have hown7 : Hid (IntsAt w6 wo.heap.size v6 (j + 1) (setsZ k)) := IntsAt.told (by rw [HZ.out]; exact hown6)
            have hW6 := (hWi.alloc hws _).grown hgrow6 (by simp; omega) htb.out
            clear hown6 hgrow6 hown hb
            go_wp2_with fail
            go_roundw
            case rel => exact ⟨j + 1, by omega, by go_num, hown7.out, hW6⟩
            case measure => simp [intOf]; omega
          · have hb := sets_bits_t (by omega) (by omega) hz
            have HZ := Lib.hid hz
            clear hz
            go_wp2_with (at_builtin; refine wpList_append_own _ rfl _ _ 24 rfl wo.heap.size 3 i0 (.int .i64 0) 1 8 Try.underlying24 HI.out HZ0.out HZ1.out HZ2.out rfl (by decide) _ _ _ rfl (hown.alloc _) ⟨wr.heap.size, 0, none⟩ 1 1 [.int .i64 1] rfl rfl (cell_one_new _ _ _) ?e2 ?e3 ?e4 ?e5 ?_)
            case e2 => simp [Value.oneCell']
            case e3 => unfold maxLen; omega
            case e4 => omega
            case e5 => first | omega | (simp; omega)
            intro v6 w6 hown6 hgrow6 _
            have hown7 : Hid (IntsAt w6 wo.heap.size v6 (j + 1) (setsZ k)) := IntsAt.told (by rw [HZ.out]; exact hown6)
            have hW6 := (hWi.alloc hws _).grown hgrow6 (by simp; omega) htb.out
            clear hown6 hgrow6 hown hb
            go_wp2_with fail
            go_roundw
            case rel => exact ⟨j + 1, by omega, by go_num, hown7.out, hW6⟩
            case measure => simp [intOf]; omega
        · have hjt' : ¬ (j : Int) < 8 := by omega
          have hjn : j = 8 := by omega
          have hrow : IntsAt wr wo.heap.size u6 8 (setsZ k) := by subst hjn; exact hown
          have hM1 := Lib.hid (hM.below hWi)
          have hq := hM1.out.box.c0
          have hqf := hM1.out.box.f0
          obtain ⟨gk, ck, rfl, hgk, hgl, _⟩ := hrow.val (by omega)
          have hbl := Lib.hid (ownsRow_block hM1.out.out.top)
          have hsi := hWi.size
          clear hjn hown
          go_wp2_with (at_builtin; refine wpList_append_own _ rfl _ _ 23 rfl (w.heap.size + 1 + 1) 24 i1 (.slice none 0 0) 1 24 Try.underlying23 HJ.out HY0.out HY1.out HY2.out rfl (by decide) _ _ _ rfl (hM1.out.out.top.alloc _) ⟨wr.heap.size, 0, none⟩ 1 1 [.slice (some ⟨gk, 0, none⟩) 8 ck] rfl rfl (cell_one_new _ _ _) ?d2 ?d3 ?d4 ?d5 ?_)
          case d2 => simp [Value.oneCell']
          case d3 => unfold maxLen; omega
          case d4 => omega
          case d5 => first | omega | (simp; omega)
          intro v' w4 hown4 hgrow _
          have HX := hM.row' (by omega) hWi hrow (fun c _ => by have := setsZ_ways k c; omega) hown4 hgrow (by omega)
          have hb4 := (hM1.out.mid (Chg.alloc (fun _ => False) _ _) hgrow hbl.out).2
          obtain ⟨g4, c4, rfl, _⟩ := HX.1.out.topv (by omega)
          have hX5 := hX.chg HX.2
          have hM5 := HX.1
          have r0 := hb4.c0
          have r1 := hb4.f0
          clear hown4 hgrow hb4 HX hM hX hrow hWi hM1 hqf
          go_upto_region 16 with fail
          clear r0 r1 hq
          generalize hW5 : w4.setCell ⟨w.heap.size + 1, 0, none⟩ (.slice (some ⟨g4, 0, none⟩) (k + 1) c4) = w5 at hX5 hM5 ⊢
          clear hW5
          have q1 := hM5.box.c1
          have hsz5 := hX5.size
          have hY : Hid (IntKind.i64.wrap (IntKind.i64.wrap (IntKind.i64.wrap 8 - 1) - (k : Int)) = ((setsY 8 k : Nat) : Int)) := by
            show _ = _
            rw [show IntKind.i64.wrap (IntKind.i64.wrap 8 - 1) = 7 from rfl, IntWalk.i64_in _ (by omega)]
            unfold setsY
            omega
          have hYr : Hid (0 ≤ ((setsY 8 k : Nat) : Int) ∧ ((setsY 8 k : Nat) : Int) < ((8 : Nat) : Int)) := by show _ ∧ _; unfold setsY; omega
          have hT1 : ∀ o, ((w5.drew).alloc o).ownsRow (w.heap.size + 1 + 1) 3 1 t k ((List.range k).map fun c => .int .i64 (setsY 8 c : Int)) := fun o => ((Chg.drew (fun _ => False) w5).trans (Chg.alloc _ _ o)).own hM5.ints (fun _ _ h => h)
          have hCH : ∀ o, Chg (fun _ => False) w5 ((w5.drew).alloc o) := fun o => (Chg.drew (fun _ => False) w5).trans (Chg.alloc _ _ o)
          have htb := Lib.hid (ownsRow_block hM5.ints)
          have m1 := Lib.hid (show k + 1 ≤ maxLen by unfold maxLen; omega)
          have m2 := Lib.hid (show (k + 1) * 8 ≤ 140737488355328 by omega)
          have m3 := Lib.hid (show ∀ o, w.heap.size + 1 + 1 ≤ ((w5.drew).alloc o).heap.size from fun o => by simp; omega)
          have m4 := Lib.hid (show ∀ x : Int, ∀ u ∈ [Value.int .i64 x], u.oneCell' = true from fun x => by simp [Value.oneCell'])
          have HX5 := Lib.hid hX5
          have HM5 := Lib.hid hM5
          clear hX5 hM5
          go_region_law (refine step_append_own rfl (.tmp 43) (.tmp 49) 24 rfl (w.heap.size + 1 + 1) 3 i0 (.int .i64 0) 1 8 Try.underlying24 HI.out HZ0.out HZ1.out HZ2.out rfl (by decide) t k _ (by simp [Act.eval]) (hT1 _) ⟨w5.heap.size, 0, none⟩ 1 1 [.int .i64 (IntKind.i64.wrap (IntKind.i64.wrap (IntKind.i64.wrap 8 - 1) - (k : Int)))] (by simp [Act.eval]) rfl (cell_one_new _ _ _) (m4.out _) m1.out m2.out (m3.out _) ?_; intro v6 w6 hown6 hgrow6 hat6; rw [hY.out] at hown6; have HZ := Lib.hid (HM5.out.more' (hCH _) hYr.out hown6 hgrow6 hat6); have hb6 := (HM5.out.mid (hCH _) hgrow6 htb.out).2; obtain ⟨g6, c6, rfl, _⟩ := HZ.out.1.ints.val (by omega); have r0 := hb6.c1; have r1 := hb6.f1; clear hown6 hgrow6 hat6 hb6)
          all_goals
            go_wp2_with fail
            go_roundw
            case rel => exact ⟨k + 1, _, _, _, by omega, by go_num, HX5.out.chg HZ.out.2, HZ.out.1⟩
            case measure => simp [intOf]; omega
    · have hlt' : ¬ (k : Int) < 8 := by omega
      have hkn : k = 8 := by omega
      have hM1 : MakeAt wr (w.heap.size + 1) (w.heap.size + 1 + 1) u t 8 8 8 rv setsZ (fun c => (setsY 8 c : Int)) := by subst hkn; exact hM
      have hL := hM1.made (by omega) (by omega)
      obtain ⟨gu, cu, rfl, _⟩ := hL.out.topv (by omega)
      obtain ⟨gt, ct, rfl, _⟩ := hL.ints.val (by omega)
      have q0 := hM1.box.c0
      have q1 := hM1.box.c1
      have p0 := hX.res.f0
      have p1 := hX.res.f1
      have p2 := hX.res.c0
      have p3 := hX.res.c1
      have HL := Lib.hid hL
      have HX := Lib.hid hX
      clear hkn hM hM1 hL hX
      go_wp2_with fail
      have hfin := (HX.out.res.set0 (.slice (some ⟨gu, 0, none⟩) 8 cu)).set1 (.slice (some ⟨gt, 0, none⟩) 8 ct)
      have t0 := hfin.c0
      have t1 := hfin.c1
      have hon := set2_only wr w.heap.size (.slice (some ⟨gu, 0, none⟩) 8 cu) (.slice (some ⟨gt, 0, none⟩) 8 ct)
      refine bodyPost_ret (v := .tuple #[.agg #[.slice (some ⟨gu, 0, none⟩) 8 cu, .slice (some ⟨gt, 0, none⟩) 8 ct], .bool true]) (by simp [results, Try.results31, go_sem, t0, t1]) rfl ⟨HX.out.old.trans (hon.below fun j hj => by have hj' : j = w.heap.size := hj; omega), .inr ⟨rfl, _, _, rv, rfl, ((HL.out.chg (Chg.of_only hon) fun j hj => ?_).base (by omega))⟩⟩
      have hj' : j = w.heap.size := hj
      omega

set_option maxRecDepth 100000 in
set_option maxHeartbeats 1000000 in
theorem spec_SetsOf_no {w : World} {t : Int} {N : Nat} {Z : Nat → Nat → Int} {y : Nat → Nat} (h : (decide (0 ≤ t) && decide (t ≤ 3)) = false) : Calls Try.prog 31 #[.int .i64 t] w (MadeOk w N Z y false) := by
  have H := Lib.hid h
  have hr0 := TwoAt.new w (.slice none 0 0) (.slice none 0 0) 26
  have hr1 := hr0.below ((Below.refl _ (w.alloc (.cells #[.slice none 0 0, .slice none 0 0] 26))).alloc (Nat.le_refl _) (.cells #[.slice none 0 0, .slice none 0 0] 26)) (by simp)
  have B1 := ((Below.refl w.heap.size w).alloc (Nat.le_refl _) (.cells #[.slice none 0 0, .slice none 0 0] 26)).alloc (by simp) (.cells #[.slice none 0 0, .slice none 0 0] 26)
  clear h
  go_enter Try.func31, Try.ntmps31
  go_wp2_with fail
  go_at_call 56
  refine (l1In_any _ _ _ _).mono ?_
  rintro e w1 ⟨rfl, rfl⟩
  rw [H.out]
  have t0 := hr1.c0
  have t1 := hr1.c1
  go_wp2_with fail
  exact bodyPost_ret (v := .tuple #[noLog, .bool false]) (by simp [results, Try.results31, go_sem, noLog]) rfl ⟨B1, .inl ⟨rfl, rfl⟩⟩
theorem spec_SetsOf_any {w : World} {t : Int} : Calls Try.prog 31 #[.int .i64 t] w (MadeOk w (2 ^ t.toNat) setsZ (setsY (2 ^ t.toNat)) (setsOkB t)) := by
  cases h : setsOkB t with
  | false =>
    refine spec_SetsOf_no ?_
    unfold setsOkB at h
    exact h
  | true =>
    unfold setsOkB at h
    simp at h
    rcases (show t = 0 ∨ t = 1 ∨ t = 2 ∨ t = 3 by omega) with rfl | rfl | rfl | rfl
    · exact spec_SetsOf_0 w
    · exact spec_SetsOf_1 w
    · exact spec_SetsOf_2 w
    · exact spec_SetsOf_3 w

theorem six_logO (w : World) : LogO (allocs w (sixOs w.heap.size)) w.heap.size (.slice (some ⟨w.heap.size + 1 + 1 + 1 + 1 + 1 + 1 + 1, 0, none⟩) 6 6) (.slice (some ⟨w.heap.size + 1 + 1 + 1 + 1 + 1 + 1 + 1 + 1, 0, none⟩) 6 6) 6 (fun r => .slice (some ⟨w.heap.size + 1 + r, 0, none⟩) 6 6) ringZ (fun c => (ringY c : Int)) := by
  have h : LogO (allocs w (sixOs w.heap.size)) w.heap.size (.slice (some ⟨w.heap.size + 1 + 1 + 1 + 1 + 1 + 1 + 1, 0, none⟩) 6 6) (.slice (some ⟨w.heap.size + 1 + 1 + 1 + 1 + 1 + 1 + 1 + 1, 0, none⟩) 6 6) 6 (fun r => .slice (some ⟨w.heap.size + 1 + r, 0, none⟩) 6 6) sixZ sixY := by
    refine ⟨by omega, by omega, ⟨?_, fun r hr => ?_, fun r s _ _ hne e => hne ?_, fun r c hr hc => ?_⟩, ?_, fun r hr e => ?_, fun c hc => ?_⟩
    · exact own_of_heap (allocs_get (sixOs w.heap.size) w 7 (six_len w 7 (by omega))) rfl rfl (by omega) (by decide)
    · have h6 : r = 0 ∨ r = 1 ∨ r = 2 ∨ r = 3 ∨ r = 4 ∨ r = 5 := by omega
      rcases h6 with rfl | rfl | rfl | rfl | rfl | rfl
      · exact own_of_heap (allocs_get (sixOs w.heap.size) w 1 (six_len w 1 (by omega))) rfl rfl (by omega) (by decide)
      · exact own_of_heap (allocs_get (sixOs w.heap.size) w 2 (six_len w 2 (by omega))) rfl rfl (by omega) (by decide)
      · exact own_of_heap (allocs_get (sixOs w.heap.size) w 3 (six_len w 3 (by omega))) rfl rfl (by omega) (by decide)
      · exact own_of_heap (allocs_get (sixOs w.heap.size) w 4 (six_len w 4 (by omega))) rfl rfl (by omega) (by decide)
      · exact own_of_heap (allocs_get (sixOs w.heap.size) w 5 (six_len w 5 (by omega))) rfl rfl (by omega) (by decide)
      · exact own_of_heap (allocs_get (sixOs w.heap.size) w 6 (six_len w 6 (by omega))) rfl rfl (by omega) (by decide)
    · have e' : w.heap.size + 1 + r = w.heap.size + 1 + s := by simpa [Value.ownBlock] using e
      omega
    · have h6 : ∀ r, r < 6 → ∀ c, c < 6 → 0 ≤ sixZ r c ∧ sixZ r c ≤ 2 := by decide
      exact h6 r hr c hc
    · exact own_of_heap (allocs_get (sixOs w.heap.size) w 8 (six_len w 8 (by omega))) rfl rfl (by omega) (by decide)
    · have e' : w.heap.size + 1 + r = w.heap.size + 1 + 1 + 1 + 1 + 1 + 1 + 1 + 1 := by simpa [Value.ownBlock] using e
      omega
    · have h6 : ∀ c, c < 6 → 0 ≤ sixY c ∧ sixY c < 6 := by decide
      exact h6 c hc
  exact h.congrZ (fun _ _ _ _ => rfl) (by decide)

set_option maxRecDepth 100000 in
set_option maxHeartbeats 1000000 in
theorem spec_RingOf_any {w : World} {t : Int} : Calls Try.prog 114 #[.int .i64 t] w (MadeOk w 6 ringZ ringY (decide (t = 6))) := by
  by_cases h : t = 6
  · subst h
    have hL := Lib.hid (six_logO w)
    have hB := allocs_below (sixOs w.heap.size) w
    have hc : (allocs w (sixOs w.heap.size)).heap[w.heap.size]? = (sixOs w.heap.size)[0]? := allocs_get (sixOs w.heap.size) w 0 (six_len w 0 (by omega))
    have t0 : (allocs w (sixOs w.heap.size)).cell? ⟨w.heap.size, 0, none⟩ = some (.slice (some ⟨w.heap.size + 1 + 1 + 1 + 1 + 1 + 1 + 1, 0, none⟩) 6 6) := by simp only [World.cell?]; rw [hc]; rfl
    have t1 : (allocs w (sixOs w.heap.size)).cell? ⟨w.heap.size, 1, none⟩ = some (.slice (some ⟨w.heap.size + 1 + 1 + 1 + 1 + 1 + 1 + 1 + 1, 0, none⟩) 6 6) := by simp only [World.cell?]; rw [hc]; rfl
    clear hc
    go_enter Try.func114, Try.ntmps114
    go_wp2_with fail
    change bodyPost _ _ _ _ _ (allocs w (sixOs w.heap.size))
    generalize allocs w (sixOs w.heap.size) = W at hL hB t0 t1 ⊢
    exact bodyPost_ret (v := .tuple #[.agg #[.slice (some ⟨w.heap.size + 1 + 1 + 1 + 1 + 1 + 1 + 1, 0, none⟩) 6 6, .slice (some ⟨w.heap.size + 1 + 1 + 1 + 1 + 1 + 1 + 1 + 1, 0, none⟩) 6 6], .bool true]) (by simp [results, Try.results114, go_sem, t0, t1]) rfl ⟨hB, .inr ⟨by simp, _, _, _, rfl, hL.out⟩⟩
  · have e1 : (t != 6) = true := by simp [h]
    have e2 : decide (t = 6) = false := by simp [h]
    have hB := (Below.refl w.heap.size w).alloc (Nat.le_refl _) (.cells #[.slice none 0 0, .slice none 0 0] 26)
    rw [e2]
    clear h e2
    go_enter Try.func114, Try.ntmps114
    go_wp2_with fail
    exact bodyPost_ret (v := .tuple #[noLog, .bool false]) (by simp [results, Try.results114, go_sem, noLog]) rfl ⟨hB, .inl ⟨rfl, rfl⟩⟩
end Go.Proofs.Ytojcgmgponnlpaa
namespace Go.Proofs.Ytojcgmgponnlpaa
open Go.RowKit Go.Deep

/-- A row of numbers that may be written. -/
structure RowW (w : World) (B : Nat) (a : Option Addr) (g o n : Nat) (z : Nat → Int) : Prop where
  row : RowAt w B a g o n z
  fro : ∀ c, c < n → w.frozen? ⟨g, o + c, none⟩ = false
/-- Rows of numbers that may be written, each apart from the others and from the list of the rows. -/
structure MatW (w : World) (B : Nat) (a : Option Addr) (l : Lay) (m : Mx) : Prop where
  mat : MatAt w B a l m
  fro : ∀ r, r < m.n → ∀ c, c < m.L r → w.frozen? ⟨l.G r, l.O r + c, none⟩ = false
  sep : ∀ r s, r < m.n → s < m.n → r ≠ s → 0 < m.L r → 0 < m.L s → l.G r ≠ l.G s
  top : ∀ r, r < m.n → 0 < m.L r → l.G r ≠ l.b
end Go.Proofs.Ytojcgmgponnlpaa
namespace Go.Proofs.Ytojcgmgponnlpaa
open Go.RowKit Go.Deep

structure LogW (w : World) (B base : Nat) (ua : Option Addr) (l : Lay) (m : Mx) (na : Option Addr) (g o k : Nat) (z : Nat → Int) : Prop where
  mat : MatW w B ua l m
  row : RowW w B na g o k z
  ne : ∀ r, r < m.n → 0 < m.L r → 0 < k → l.G r ≠ g
  nb : 0 < m.n → 0 < k → l.b ≠ g
  bb : 0 < m.n → base ≤ l.b
  bG : ∀ r, r < m.n → 0 < m.L r → base ≤ l.G r
  bg : 0 < k → base ≤ g
  hn : m.n ≤ 1048576
  hL : ∀ r, r < m.n → m.L r ≤ 1048576
  hk : k ≤ 1048576
  hB : B ≤ w.heap.size
section
variable {w w' : World} {B base : Nat} {ua : Option Addr} {l : Lay} {m : Mx} {na : Option Addr} {g o k : Nat} {z : Nat → Int}
theorem LogW.logAt (h : LogW w B base ua l m na g o k z) : LogAt w B ua l m na g o k z :=
  ⟨h.mat.mat, h.row.row, by have := h.hn; omega, fun r hr => by have := h.hL r hr; omega, by have := h.hk; omega, h.hB⟩
theorem MatW.chg {S : Nat → Prop} (h : MatW w B ua l m) (hc : Chg S w w') (hB : B ≤ w.heap.size) (hb : 0 < m.n → ¬ S l.b) (hG : ∀ r, r < m.n → 0 < m.L r → ¬ S (l.G r)) : MatW w' B ua l m :=
  ⟨⟨fun r hr => by obtain ⟨h1, h2, h3⟩ := h.mat.top r hr; exact ⟨h1, h2, (World.cell?_of_block (w := w) (hc.block l.b (by omega) (hb (by omega)))).trans h3⟩,
    fun r hr c hc' => by obtain ⟨h1, h2, h3⟩ := h.mat.row r hr c hc'; exact ⟨h1, h2, (World.cell?_of_block (w := w) (hc.block (l.G r) (by omega) (hG r hr (by omega)))).trans h3⟩⟩,
   fun r hr c hc' => by
    obtain ⟨_, h2, _⟩ := h.mat.row r hr c hc'
    have hlt : l.G r < w.heap.size := by omega
    exact (World.frozen?_of_block (w := w) (a := ⟨l.G r, l.O r + c, none⟩) (hc.block (l.G r) hlt (hG r hr (by omega)))).trans (h.fro r hr c hc'), h.sep, h.top⟩
theorem RowW.chg {S : Nat → Prop} {a : Option Addr} {n : Nat} (h : RowW w B a g o n z) (hc : Chg S w w') (hB : B ≤ w.heap.size) (hg : 0 < n → ¬ S g) : RowW w' B a g o n z :=
  ⟨⟨fun c hc' => by obtain ⟨h1, h2, h3⟩ := h.row.row c hc'; exact ⟨h1, h2, (World.cell?_of_block (w := w) (hc.block g (by omega) (hg (by omega)))).trans h3⟩⟩,
   fun c hc' => by
    obtain ⟨_, h2, _⟩ := h.row.row c hc'
    exact (World.frozen?_of_block (w := w) (a := ⟨g, o + c, none⟩) (hc.block g (by omega) (hg (by omega)))).trans (h.fro c hc')⟩
theorem LogW.chg {S : Nat → Prop} (h : LogW w B base ua l m na g o k z) (hc : Chg S w w') (hS : ∀ j, S j → j < base ∨ B ≤ j) : LogW w' B base ua l m na g o k z := by
  have lt1 : 0 < m.n → l.b < B := fun h0 => (h.mat.mat.top 0 h0).2.1
  have lt2 : ∀ r, r < m.n → 0 < m.L r → l.G r < B := fun r hr h0 => (h.mat.mat.row r hr 0 h0).2.1
  have lt3 : 0 < k → g < B := fun h0 => (h.row.row.row 0 h0).2.1
  exact ⟨h.mat.chg hc h.hB (fun h0 e => by have := hS _ e; have := lt1 h0; have := h.bb h0; omega) (fun r hr h0 e => by have := hS _ e; have := lt2 r hr h0; have := h.bG r hr h0; omega),
    h.row.chg hc h.hB (fun h0 e => by have := hS _ e; have := lt3 h0; have := h.bg h0; omega), h.ne, h.nb, h.bb, h.bG, h.bg, h.hn, h.hL, h.hk, Nat.le_trans h.hB hc.size⟩
theorem LogW.more {B' : Nat} (h : LogW w B base ua l m na g o k z) (hB : B ≤ B') (hw : B' ≤ w.heap.size) : LogW w B' base ua l m na g o k z :=
  ⟨⟨h.mat.mat.more hB, h.mat.fro, h.mat.sep, h.mat.top⟩, ⟨⟨fun c hc => by obtain ⟨h1, h2, h3⟩ := h.row.row.row c hc; exact ⟨h1, by omega, h3⟩⟩, h.row.fro⟩, h.ne, h.nb, h.bb, h.bG, h.bg, h.hn, h.hL, h.hk, hw⟩
theorem LogW.rebase {b' : Nat} (h : LogW w B base ua l m na g o k z) (hb : b' ≤ base) : LogW w B b' ua l m na g o k z :=
  ⟨h.mat, h.row, h.ne, h.nb, fun h0 => Nat.le_trans hb (h.bb h0), fun r hr h0 => Nat.le_trans hb (h.bG r hr h0), fun h0 => Nat.le_trans hb (h.bg h0), h.hn, h.hL, h.hk, h.hB⟩
end

def noLay : Lay := ⟨0, 0, 0, fun _ => none, fun _ => 0, fun _ => 0, fun _ => 0⟩
theorem LogW.none (w : World) (Z : Nat → Nat → Int) (z : Nat → Int) (base : Nat) : LogW w w.heap.size base Option.none noLay ⟨0, fun _ => 0, Z⟩ Option.none 0 0 0 z :=
  ⟨⟨⟨fun _ hr => absurd hr (Nat.not_lt_zero _), fun _ hr => absurd hr (Nat.not_lt_zero _)⟩, fun _ hr => absurd hr (Nat.not_lt_zero _), fun _ _ hr => absurd hr (Nat.not_lt_zero _), fun _ hr => absurd hr (Nat.not_lt_zero _)⟩, ⟨⟨fun _ hr => absurd hr (Nat.not_lt_zero _)⟩, fun _ hr => absurd hr (Nat.not_lt_zero _)⟩,
   fun _ hr => absurd hr (Nat.not_lt_zero _), fun hr => absurd hr (Nat.not_lt_zero _), fun hr => absurd hr (Nat.not_lt_zero _), fun _ hr => absurd hr (Nat.not_lt_zero _), fun hr => absurd hr (Nat.not_lt_zero _), Nat.zero_le _, fun _ hr => absurd hr (Nat.not_lt_zero _), Nat.zero_le _, Nat.le_refl _⟩
theorem LogO.logW {w : World} {base : Nat} {u t : Value} {n : Nat} {rv : Nat → Value} {Z : Nat → Nat → Int} {y : Nat → Int} (h : LogO w base u t n rv Z y) :
    ∃ (ua : Option Addr) (l : Lay) (na : Option Addr) (g nc : Nat), u = .slice ua n l.cap ∧ t = .slice na n nc ∧ LogW w w.heap.size base ua l ⟨n, fun _ => n, Z⟩ na g 0 n y := by
  have hp := h.pos
  have hh := h.hi
  have hrv : ∀ r, r < n → ∃ y : Nat × Nat, rv r = .slice (some ⟨y.1, 0, none⟩) n y.2 ∧ y.1 < w.heap.size ∧ base ≤ y.1 ∧ (∀ j, j < n → w.cell? ⟨y.1, j, none⟩ = some (.int .i64 (Z r j))) ∧ (∀ j, w.frozen? ⟨y.1, j, none⟩ = false) := fun r hr => by
    obtain ⟨g, cap, h1, h2⟩ := h.out.bigN hr hp
    have h3 := h.out.row r hr
    rw [h1] at h3
    exact ⟨(g, cap), h1, own_lt h3 g rfl, ownsRow_block h3 g rfl, h2, fun j => World.ownsRow.frozenAt h3 j⟩
  obtain ⟨f, hf⟩ := choose_lt hrv
  obtain ⟨b, cap, rfl, hc⟩ := h.out.topv hp
  obtain ⟨g, nc, rfl, hg, hlt, _⟩ := h.ints.val (by omega)
  have hsep : ∀ r, r < n → (f r).1 ≠ g := fun r hr e => h.sep r hr (by rw [(hf r hr).1, e]; rfl)
  have hbg : b ≠ g := fun e => by
    have h1 := h.out.top
    have h2 := h.ints
    rcases owns_apart h1 h2 (by decide) with h3 | h3
    · simp [Value.ownBlock] at h3
    · exact h3 (by rw [e]; rfl)
  have hbr : ∀ r, r < n → (f r).1 ≠ b := fun r hr e => by
    have h1 := h.out.row r hr
    rw [(hf r hr).1] at h1
    rcases owns_apart h1 h.out.top (by decide) with h3 | h3
    · simp [Value.ownBlock] at h3
    · exact h3 (by rw [e]; rfl)
  have hrs : ∀ r s, r < n → s < n → r ≠ s → (f r).1 ≠ (f s).1 := fun r s hr hs hne e => h.out.apart r s hr hs hne (by rw [(hf r hr).1, (hf s hs).1, e]; rfl)
  refine ⟨some ⟨b, 0, Option.none⟩, ⟨b, 0, cap, fun r => some ⟨(f r).1, 0, Option.none⟩, fun r => (f r).2, fun r => (f r).1, fun _ => 0⟩, some ⟨g, 0, Option.none⟩, g, nc, rfl, rfl, ⟨⟨⟨fun r hr => ?_, fun r hr c hc' => ?_⟩, fun r hr c hc' => ?_, fun r s hr hs hne _ _ => hrs r s hr hs hne, fun r hr _ => hbr r hr⟩,
    ⟨⟨fun c hc' => ⟨rfl, hlt, by rw [Nat.zero_add]; exact h.ints.cell hc'⟩⟩, fun c _ => World.ownsRow.frozenAt h.ints _⟩, fun r hr _ _ => hsep r hr, fun _ _ => hbg, fun _ => ownsRow_block h.out.top b rfl, fun r hr _ => (hf r hr).2.2.1, fun _ => hg, by show n ≤ _; omega, fun _ _ => by show n ≤ _; omega, by omega, Nat.le_refl _⟩⟩
  · have hr' : r < n := hr
    refine ⟨rfl, own_lt h.out.top b rfl, ?_⟩
    rw [Nat.zero_add, hc r hr', (hf r hr').1]
  · have hr' : r < n := hr
    have hc'' : c < n := hc'
    refine ⟨rfl, (hf r hr').2.1, ?_⟩
    rw [Nat.zero_add]
    exact (hf r hr').2.2.2.1 c hc''
  · have hr' : r < n := hr
    exact (hf r hr').2.2.2.2 _
end Go.Proofs.Ytojcgmgponnlpaa
namespace Go.Proofs.Ytojcgmgponnlpaa
open Go.RowKit Go.Deep

end Go.Proofs.Ytojcgmgponnlpaa
namespace Go.Proofs.Ytojcgmgponnlpaa
open Go.RowKit Go.Deep

end Go.Proofs.Ytojcgmgponnlpaa
