/- The program's ReadJournal. -/
import Derived.Test.YtjofkejfldmmlaaDoorXq
import Derived.Test.YtjofkejfldmmlaaDoorXf
import Derived.RangeFuncBox
import Derived.OwnWalkIn
namespace Go.Proofs.YtjofkejfldmmlaaDoor
open Go.RowKit Go.Deep Go.Shelf
attribute [local go_sem] Oper.semAt_some

def laysCS_ren : Go.Shelf.Ren := ⟨fun | 104 => 48 | 207 => 73 | 211 => 65 | n => n, fun | 3 => 3 | 4 => 4 | 9 => 9 | 24 => 83 | n => n, fun n => n⟩
theorem laysCS : Lays.n104 Tryd.prog laysCS_ren :=
  { mixed := by kernel_rfl
    f104 := Tryd.func48.trans (congrArg some (by kernel_rfl))
    f207 := Tryd.func73.trans (congrArg some (by kernel_rfl))
    f211 := Tryd.func65.trans (congrArg some (by kernel_rfl))
    t3 := Tryd.underlying3
    a3 := Tryd.isAgg3
    z3 := Tryd.sizeOf3
    v3 := Tryd.zeroValue3
    t4 := Tryd.underlying4
    a4 := Tryd.isAgg4
    z4 := Tryd.sizeOf4
    v4 := Tryd.zeroValue4
    t9 := Tryd.underlying9
    a9 := Tryd.isAgg9
    z9 := Tryd.sizeOf9
    v9 := Tryd.zeroValue9
    t24 := Tryd.underlying83
    a24 := Tryd.isAgg83
    z24 := Tryd.sizeOf83
    v24 := Tryd.zeroValue83 }

theorem cutS_yes {x : ByteArray} {l : List UInt8} (hx : x.size ≤ 1073741824) (h : x.data.toList = l ++ [10]) (w : World) :
    Calls Tryd.prog 48 #[.string x, .string ⟨#[10]⟩] w fun e w' => e = .returned (.tuple #[strV l, .bool true]) ∧ w' = w := by
  have hs : Lib.hasSuffix x.data.toList [10] = true := by
    unfold Lib.hasSuffix
    rw [List.isSuffixOf_iff_suffix, h]
    exact ⟨l, rfl⟩
  have ht : Lib.trimSuffix x.data.toList [10] = l := by
    unfold Lib.trimSuffix
    rw [hs, h]
    simp
  have := Any.strings_CutSuffix laysCS x ⟨#[10]⟩ w (by omega)
  rw [show (⟨#[10]⟩ : ByteArray).data.toList = [10] from rfl, hs, ht] at this
  exact this
theorem cutS_no {x : ByteArray} (hx : x.size ≤ 1073741824) (h : (10 : UInt8) ∉ x.data.toList) (w : World) :
    Calls Tryd.prog 48 #[.string x, .string ⟨#[10]⟩] w fun e w' => e = .returned (.tuple #[.string x, .bool false]) ∧ w' = w := by
  have hs : Lib.hasSuffix x.data.toList [10] = false := by
    unfold Lib.hasSuffix
    rw [Bool.eq_false_iff]
    intro e
    rw [List.isSuffixOf_iff_suffix] at e
    obtain ⟨l, e⟩ := e
    exact h (by rw [← e]; simp)
  have ht : Lib.trimSuffix x.data.toList [10] = x.data.toList := by
    unfold Lib.trimSuffix
    rw [hs]; rfl
  have := Any.strings_CutSuffix laysCS x ⟨#[10]⟩ w (by omega)
  rw [show (⟨#[10]⟩ : ByteArray).data.toList = [10] from rfl, hs, ht, show (⟨x.data.toList.toArray⟩ : ByteArray) = x by simp] at this
  exact this
set_option maxHeartbeats 1000000 in
theorem lines_any (s : ByteArray) (w : World) : Calls Tryd.prog 47 #[.string s] w fun e w' =>
    e = .returned (.func (.func 63) #[] #[.pointer (some ⟨w.heap.size, 0, none⟩)]) ∧ w' = w.alloc (.cells #[.string s] 9) := by
  go_enter Tryd.func47, Tryd.ntmps47
  go_wp2_with fail
  go_returns
  exact ⟨rfl, rfl⟩

theorem line_no {r : List UInt8} (h : lineOf r = none) : (10 : UInt8) ∉ r := fun hm => by
  obtain ⟨l, q, e⟩ := List.append_of_mem hm
  rcases byte_cases r 10 with ⟨h1, _⟩ | ⟨l, q, h1, h2, _⟩
  · exact h1 hm
  · rw [h1, line_at h2] at h; cases h

/-- The list and the length under way, in their boxes; the iterator's box; of what was there nothing has turned. -/
structure JSt (w : World) (D : List Dd) (nn : Nat) (W : World) : Prop where
  list : ∃ v, Boxed W w.heap.size 32 v ∧ W.ownsRow w.heap.size 24 3 v D.length (D.flatMap deedC) ∧ True
  len : Boxed W (w.heap.size + 1) 3 (.int .i64 (nn : Int))
  it : ∃ u, Boxed W (w.heap.size + 2) 9 u
  old : Below w.heap.size w W
theorem JSt.own {w : World} {B : Nat} (hB : w.heap.size ≤ B) : OwnFrom B (fun (q : List Dd × Nat) W => JSt w q.1 q.2 W) := by
  intro q A C row h hg hr
  have cell : ∀ {k : Nat} {t : TypeId} {u : Value}, Boxed A k t u → some k ≠ row := fun hb e => by
    obtain ⟨_, o, ho, hc⟩ := hr _ e.symm
    rw [show A.heap[_]? = _ from hb] at ho
    cases ho; cases hc
  obtain ⟨u, hu⟩ := h.it
  exact ⟨(holdsRow_own w.heap.size w.heap.size 32 24 3 (fun q : List Dd × Nat => q.1.length) (fun q => q.1.flatMap deedC) (fun _ _ => True)).from B q A C row h.list hg hr, h.len.kept hg (cell h.len), ⟨u, hu.kept hg (cell hu)⟩, h.old.grown hg (by have := h.old.size; omega) (fun k e => by have := (hr k e).1; omega)⟩
theorem JSt.free {w W : World} {D : List Dd} {nn : Nat} (h : JSt w D nn W) (x : Value) : JSt w D nn (W.setCell ⟨w.heap.size + 2, 0, none⟩ x) := by
  obtain ⟨v, h1, h2, _⟩ := h.list
  obtain ⟨u, hu⟩ := h.it
  exact ⟨⟨v, h1.kept (grownBy_setCell' W (w.heap.size + 2) x) (by simp), h2.kept (grownBy_setCell' W (w.heap.size + 2) x) (.inr (hu.not_row (by decide) h2).symm), trivial⟩, h.len.kept (grownBy_setCell' W (w.heap.size + 2) x) (by simp), ⟨x, hu.set x⟩, h.old.setCell (p := ⟨w.heap.size + 2, 0, none⟩) (by show w.heap.size ≤ w.heap.size + 2; omega) x⟩
theorem JSt.below {w W W' : World} {D : List Dd} {nn : Nat} (h : JSt w D nn W) (hb : Below W.heap.size W W') : JSt w D nn W' := OwnFrom.below (JSt.own (w := w) (B := w.heap.size) (Nat.le_refl _)) (s := (D, nn)) h hb
theorem firstP_len (r : List UInt8) : (firstP r).1.length ≤ r.length := by
  unfold firstP
  cases h : lineOf r with
  | none => exact Nat.le_refl _
  | some p =>
    obtain ⟨l, q⟩ := p
    obtain ⟨e, _⟩ := line_is h
    rw [e]
    simp
set_option maxRecDepth 100000 in
set_option maxHeartbeats 4000000 in
theorem ReadJournal_any (s : ByteArray) (hs : s.size ≤ 1073741824) {w : World} (hE : ErrOk w) : Calls Tryd.prog 20 #[.string s] w (JourOf (readJ s.data.toList) w) := by
  obtain ⟨i0, hi, hz0, hz1, hz2⟩ := info_parts infoDeed
  have HI := Lib.hid hi
  have HZ0 := Lib.hid hz0
  have HZ1 := Lib.hid hz1
  have HZ2 := Lib.hid hz2
  clear hi hz0 hz1 hz2
  refine (callsIn_wide (n := 9)).1 ?_
  refine callsIn_of_wp_marks Tryd.func20 rfl trivial ?_ rfl
  simp only [Tryd.ntmps20, List.size_toArray, List.length_cons, List.length_nil, Nat.reduceAdd, Nat.reduceSub, Array.replicate_succ, Array.replicate_zero, List.push_toArray, List.append_toArray, List.nil_append, List.cons_append]
  gi_wp2_with fail
  refine ⟨trivial, ?_⟩
  have HLn := lines_any s ((w.alloc (.cells #[.slice none 0 0] 32)).alloc (.cells #[.int .i64 0] 3))
  have e2 : ((w.alloc (.cells #[.slice none 0 0] 32)).alloc (.cells #[.int .i64 0] 3)).heap.size = w.heap.size + 2 := by simp
  have X1 := Boxed.new w 32 (.slice none 0 0)
  have X2 := Boxed.new (w.alloc (.cells #[.slice none 0 0] 32)) 3 (.int .i64 0)
  have X3 := Boxed.new ((w.alloc (.cells #[.slice none 0 0] 32)).alloc (.cells #[.int .i64 0] 3)) 9 (.string s)
  rw [World.size_alloc] at X2
  rw [e2] at HLn X3
  have X4 := (X1.alloc (.cells #[.int .i64 0] 3)).alloc (.cells #[.string s] 9)
  have X5 := X2.alloc (.cells #[.string s] 9)
  have bw := (((Below.refl w.heap.size w).alloc (Nat.le_refl _) (.cells #[.slice none 0 0] 32)).alloc (by simp) (.cells #[.int .i64 0] 3)).alloc (by simp; omega) (.cells #[.string s] 9)
  refine (callsIn_wide.2 HLn).mono ?_
  rintro e W4 ⟨rfl, hW4⟩
  rw [← hW4] at X3 X4 X5 bw
  have s4 : W4.heap.size = w.heap.size + 3 := by rw [hW4]; simp
  have hst0 : JSt w [] 0 W4 := ⟨⟨.slice none 0 0, X4, ⟨rfl, .inl ⟨rfl, rfl⟩⟩, trivial⟩, X5, ⟨_, X3⟩, bw⟩
  have HSq := Lib.hid (lines_seq hs X3)
  clear hW4 HLn e2 X1 X2 X4 X5 bw
  gi_wp2_with fail
  refine wpIn_rangeS (Bs := w.heap.size + 2) (T := firstP) (s0 := s.data.toList) (gf := 63) (lb := #[.pointer (some ⟨w.heap.size + 2, 0, none⟩)]) rfl (enters_of Tryd.func63 (by kernel_rfl) rfl) (by omega) HSq.out rfl
    (fun r W => ∃ q : List Dd × Nat, JSt w q.1 q.2 W ∧ readJ s.data.toList = (q.1 ++ (readJ r).1, q.2 + (readJ r).2) ∧ q.1.length ≤ q.2 ∧ q.2 + r.length ≤ s.size)
    (fun c _ W => c = .exit 0 ∧ ∃ q : List Dd × Nat, JSt w q.1 q.2 W ∧ readJ s.data.toList = q)
    (fun r A C row ⟨q, h1, h2⟩ hg hr => ⟨q, JSt.own (by omega) q A C row h1 hg hr, h2⟩)
    (fun c r A C row ⟨hc, q, h1, h2⟩ hg hr => ⟨hc, q, JSt.own (by omega) q A C row h1 hg hr, h2⟩)
    (fun r A x ⟨q, h1, h2⟩ => ⟨q, h1.free x, h2⟩)
    ⟨([], 0), hst0, by simp, by simp, by rw [size_data]; omega⟩
    (fun x => { tmps := #[.string s, undef, .slice none 0 0, .int .i64 0, .pointer (some ⟨w.heap.size, 0, none⟩), .pointer (some ⟨w.heap.size + 1, 0, none⟩), .string x, undef, undef, undef, undef, .string s, .func (.func 63) #[] #[.pointer (some ⟨w.heap.size + 2, 0, none⟩)], .string x, undef, undef, undef, undef, undef, undef, undef, undef, undef, undef, undef, undef, undef, undef, undef, undef, undef, undef, undef, undef, undef, undef, undef, undef, undef, undef], defers := [] }) ?assign ?body ?done ?stop
  case assign =>
    intro m' l2 x W' K' hK'
    dsimp only
    clear HSq hst0 X3
    gi_wp2
    exact hK'
  case body =>
    rintro m' l2 r x W hwl ⟨⟨D, nn⟩, hJ, hM, hDn, hns⟩ hne hx
    clear hst0 X3 HSq
    dsimp only at hJ hM hDn hns
    have hEW := hE.below hJ.old
    have hxl := firstP_len r
    rw [← hx, ← size_data] at hxl
    have hxs : x.size ≤ 1073741824 := by omega
    cases hl : lineOf r with
    | none =>
      have hno := line_no hl
      have ex : x.data.toList = r := by rw [hx]; unfold firstP; rw [hl]
      have HM := Lib.hid (show readJ s.data.toList = (D, nn) by rw [hM, readJ_none hl]; simp)
      have HR := ReadDeed_any x (by omega) hEW
      unfold ReadOf at HR
      obtain ⟨b, hb⟩ : ∃ b, (readD x.data.toList).isSome = b := ⟨_, rfl⟩
      obtain ⟨d, hd⟩ : ∃ d, (readD x.data.toList).getD ⟨0, 0, 0⟩ = d := ⟨_, rfl⟩
      rw [hb, hd] at HR
      unfold deedV at HR
      have HC := cutS_no hxs (by rw [ex]; exact hno) W
      clear hb hd hM hl hx ex hno hEW
      gi_wp2_with fail
      refine ⟨trivial, fun h => (by cases h), ?_⟩
      refine (CallsIn.inRound l2 (callsIn_wide.2 (HC))).mono ?_
      rintro e W1 ⟨rfl, rfl⟩
      gi_wp2_with fail
      refine ⟨trivial, fun h => (by cases h), ?_⟩
      refine (CallsIn.inRound l2 (callsIn_wide.2 HR)).mono ?_
      rintro e W2 ⟨b2, rfl⟩
      have b3 := b2.trans ((BoxN.start W2 #[.int .i64 d.k, .int .i64 d.a, .int .i64 d.b] 24).below.mono b2.size)
      gi_wp2_with fail
      exact ⟨keepsFrom_below b3, rfl, ⟨D, nn⟩, hJ.below b3, HM.out⟩
    | some p =>
      obtain ⟨l, q⟩ := p
      obtain ⟨er, hnl⟩ := line_is hl
      have ex : x.data.toList = l ++ [10] := by rw [hx]; unfold firstP; rw [hl]
      have eT : (firstP r).2 = q := by unfold firstP; rw [hl]
      have HC := cutS_yes hxs ex W
      unfold strV at HC
      have hll : l.length + 1 = x.size := by rw [size_data, ex]; simp
      have HR := ReadDeed_any (⟨l.toArray⟩ : ByteArray) (show l.length ≤ _ by omega) hEW
      unfold ReadOf at HR
      rw [show (⟨l.toArray⟩ : ByteArray).data.toList = l from rfl] at HR
      have hrq : r.length = l.length + 1 + q.length := by rw [er]; simp; omega
      rw [eT]
      cases hd : readD l with
      | none =>
        have HM := Lib.hid (show readJ s.data.toList = (D, nn) by rw [hM, readJ_bad hl hd]; simp)
        rw [hd] at HR
        unfold deedV at HR
        dsimp only [Option.getD_none, Option.isSome_none] at HR
        clear hd hM hl hx ex hnl hEW er
        gi_wp2_with fail
        refine ⟨trivial, fun h => (by cases h), ?_⟩
        refine (CallsIn.inRound l2 (callsIn_wide.2 (HC))).mono ?_
        rintro e W1 ⟨rfl, rfl⟩
        gi_wp2_with fail
        refine ⟨trivial, fun h => (by cases h), ?_⟩
        refine (CallsIn.inRound l2 (callsIn_wide.2 HR)).mono ?_
        rintro e W2 ⟨b2, rfl⟩
        have b3 := b2.trans ((BoxN.start W2 #[.int .i64 0, .int .i64 0, .int .i64 0] 24).below.mono b2.size)
        gi_wp2_with fail
        exact ⟨keepsFrom_below b3, rfl, ⟨D, nn⟩, hJ.below b3, HM.out⟩
      | some d =>
        have HM := Lib.hid (show readJ s.data.toList = ((D ++ [d]) ++ (readJ q).1, (nn + x.size) + (readJ q).2) by
          rw [hM, readJ_cons hl hd, List.append_assoc, List.singleton_append]
          refine Prod.ext rfl ?_
          show nn + (l.length + 1 + _) = nn + x.size + _
          omega)
        rw [hd] at HR
        unfold deedV at HR
        dsimp only [Option.getD_some, Option.isSome_some] at HR
        have HW : Hid ((nn : Int) + (x.size : Int) = ((nn + x.size : Nat) : Int)) := by show _ = _; omega
        clear hd hM hl hx ex hnl hEW er
        gi_wp2_with fail
        refine ⟨trivial, fun h => (by cases h), ?_⟩
        refine (CallsIn.inRound l2 (callsIn_wide.2 (HC))).mono ?_
        rintro e W1 ⟨rfl, rfl⟩
        gi_wp2_with fail
        refine ⟨trivial, fun h => (by cases h), ?_⟩
        refine (CallsIn.inRound l2 (callsIn_wide.2 HR)).mono ?_
        rintro e W2 ⟨b2, rfl⟩
        have Y := BoxN.start W2 #[.int .i64 d.k, .int .i64 d.a, .int .i64 d.b] 24
        have b3 := b2.trans (Y.below.mono b2.size)
        have hJ3 := hJ.below b3
        obtain ⟨u, hu1⟩ := hJ.it
        have hu3 : Boxed (W2.alloc (.cells #[.int .i64 d.k, .int .i64 d.a, .int .i64 d.b] 24)) (w.heap.size + 2) 9 u := (b3.block _ hu1.lt).trans hu1
        obtain ⟨v, hv3, hown3, _⟩ := hJ3.list
        have hn3 := hJ3.len
        have p0 := Y.cell 0 rfl
        have p1 := Y.cell 1 rfl
        have p2 := Y.cell 2 rfl
        have s0 := hv3.cell
        have HNW : ∀ j u, ([.int .i64 d.k, .int .i64 d.a, .int .i64 d.b] : List Value)[j]? = some u → ((W2.alloc (.cells #[.int .i64 d.k, .int .i64 d.a, .int .i64 d.b] 24)).alloc (.cells #[.int .i64 d.k, .int .i64 d.a, .int .i64 d.b] 24)).cell? ((⟨W2.heap.size + 1, 0, none⟩ : Addr).add j) = some u := by
          have h := cells_new (W2.alloc (.cells #[.int .i64 d.k, .int .i64 d.a, .int .i64 d.b] 24)) 24 [.int .i64 d.k, .int .i64 d.a, .int .i64 d.b]
          rw [World.size_alloc] at h
          exact h
        have hsz3 := hJ3.old.size
        gi_wp2_with (gi_at_builtin; refine wpListIn_append_own _ rfl _ _ 32 rfl w.heap.size 24 i0 (.agg #[.int .i64 0, .int .i64 0, .int .i64 0]) 3 24 Tryd.underlying32 HI.out HZ0.out HZ1.out HZ2.out rfl (by decide) _ _ _ rfl (hown3.alloc _) ⟨W2.heap.size + 1, 0, none⟩ 1 1 [.int .i64 d.k, .int .i64 d.a, .int .i64 d.b] rfl rfl HNW ?c2 ?c3 ?c4 ?c5 ?_)
        case c2 => simp [Value.oneCell']
        case c3 => unfold maxLen; omega
        case c4 => omega
        case c5 => simp at hsz3 ⊢; omega
        intro v' w5 hown5 hgrow _
        obtain ⟨g', cap', rfl⟩ := ownsRow_succ hown5
        obtain ⟨t1, t2, t3, t4, t5⟩ := Boxed.appended hv3 (by decide) hown3 hsz3 (Nat.le_refl _) hown5 hgrow
        have hn5 := ((hn3.alloc _).kept hgrow (hn3.not_row (by decide) hown3)).kept (grownBy_setCell' w5 w.heap.size (.slice (some ⟨g', 0, none⟩) (D.length + 1) cap')) (by simp)
        have hu5 := ((hu3.alloc _).kept hgrow (hu3.not_row (by decide) hown3)).kept (grownBy_setCell' w5 w.heap.size (.slice (some ⟨g', 0, none⟩) (D.length + 1) cap')) (by simp)
        have n0 := t1.cell
        have n1 := t1.frozen
        have n2 := hn5.cell
        have n3 := hn5.frozen
        have HO : Hid ((w5.setCell ⟨w.heap.size, 0, none⟩ (.slice (some ⟨g', 0, none⟩) (D.length + 1) cap')).ownsRow w.heap.size 24 3 (.slice (some ⟨g', 0, none⟩) (D.length + 1) cap') (D ++ [d]).length ((D ++ [d]).flatMap deedC)) := by
          show World.ownsRow _ _ _ _ _ _ _
          rw [List.length_append, flat_snoc]; exact t3
        have old5 := hJ3.old.trans t5
        have g6 := grownBy_setCell' (w5.setCell ⟨w.heap.size, 0, none⟩ (.slice (some ⟨g', 0, none⟩) (D.length + 1) cap')) (w.heap.size + 1) (.int .i64 ((nn + x.size : Nat) : Int))
        have hJ6 : JSt w (D ++ [d]) (nn + x.size) ((w5.setCell ⟨w.heap.size, 0, none⟩ (.slice (some ⟨g', 0, none⟩) (D.length + 1) cap')).setCell ⟨w.heap.size + 1, 0, none⟩ (.int .i64 ((nn + x.size : Nat) : Int))) :=
          ⟨⟨_, t2.kept g6 (by simp), HO.out.kept g6 (.inr (hn5.not_row (by decide) t3).symm), trivial⟩, hn5.set _, ⟨u, hu5.kept g6 (by simp)⟩, old5.setCell (p := ⟨w.heap.size + 1, 0, none⟩) (by show w.heap.size ≤ w.heap.size + 1; omega) _⟩
        have hu6 := hu5.kept g6 (by simp)
        have hK6 : KeepsFrom W4.heap.size W1 ((w5.setCell ⟨w.heap.size, 0, none⟩ (.slice (some ⟨g', 0, none⟩) (D.length + 1) cap')).setCell ⟨w.heap.size + 1, 0, none⟩ (.int .i64 ((nn + x.size : Nat) : Int))) := (keepsFrom_below b3).trans ((t4.trans (KeepsOthers.setCell _ _ _)).from _)
        have HF := Lib.hid (And.intro hK6 (And.intro (hu6.trans hu1.symm) hJ6))
        clear hown5 hgrow hown3 p0 p1 p2 t3 hJ6 hu6 hK6 g6 t4 t5 old5 b3 hJ3 hv3 hn3 hu3 Y b2 HC HR
        gi_wp2_with fail
        rw [HW.out]
        exact ⟨HF.out.1, HF.out.2.1, ⟨D ++ [d], nn + x.size⟩, HF.out.2.2, HM.out, by rw [List.length_append, List.length_singleton]; omega, by omega⟩
  case done =>
    rintro D W hD ⟨⟨L, nn⟩, hJ, hM, _, _⟩ hDf
    obtain ⟨v, hv, hown, _⟩ := hJ.list
    have hn := hJ.len
    have hJd := hJ.below (Below.refl _ W).drew
    have hDd : W.drew.heap[D]? = some (.deferred (some [])) := hDf
    have hownd := ownsRow_below hown (Below.refl _ W).drew (Nat.le_refl _)
    have HM : Hid (readJ s.data.toList = (L, nn)) := by
      show _ = _
      rw [hM, readJ_none rfl]; simp
    clear hM
    have hwd : w.heap.size ≤ D := by omega
    clear hst0 X3 HSq
    have S0 : (fun w' => w'.cell? ⟨w.heap.size, 0, none⟩ = some v ∧ w'.cell? ⟨w.heap.size + 1, 0, none⟩ = some (.int .i64 (nn : Int))) W.drew := ⟨hv.cell, hn.cell⟩
    have hvs : ∃ a' n' c', v = .slice a' n' c' := by
      cases L with
      | nil => rcases hown.2 with ⟨e, _⟩ | ⟨g, cap, cur, e, _⟩ <;> exact ⟨_, _, _, e⟩
      | cons d L => obtain ⟨g, cap, e⟩ := ownsRow_succ hown; exact ⟨_, _, _, e⟩
    obtain ⟨a', n', c', rfl⟩ := hvs
    gi_wp2_with fail
    refine region_flatS (fuel := 4) (listed := #[false, false, false, false]) (fun w' => w'.cell? ⟨w.heap.size, 0, none⟩ = some (.slice a' n' c') ∧ w'.cell? ⟨w.heap.size + 1, 0, none⟩ = some (.int .i64 (nn : Int))) (by kernel_rfl) (by kernel_rfl) (by kernel_rfl) ?_
    refine hold_take (i := 0) (d := 38) (v := ?vza0) (listed' := #[true, false, false, false]) rfl (by kernel_rfl) (by kernel_rfl) (by kernel_rfl) rfl (by rfl) (by kernel_rfl) S0 ?hza0 ?rza0
    case hza0 =>
      intro w' hSw
      obtain ⟨k0, k1⟩ := hSw
      go_simp
      try with_reducible rfl
    simp only [List.setIfInBounds_toArray, List.set_cons_zero, List.set_cons_succ]
    refine hold_take (i := 1) (d := 39) (v := ?vza1) (listed' := #[true, true, false, false]) rfl (by kernel_rfl) (by kernel_rfl) (by kernel_rfl) rfl (by rfl) (by kernel_rfl) S0 ?hza1 ?rza1
    case hza1 =>
      intro w' hSw
      obtain ⟨k0, k1⟩ := hSw
      go_simp
      try with_reducible rfl
    simp only [List.setIfInBounds_toArray, List.set_cons_zero, List.set_cons_succ]
    refine hold_take (i := 2) (d := 2) (v := ?vza2) (listed' := #[true, true, true, false]) rfl (by kernel_rfl) (by kernel_rfl) (by kernel_rfl) rfl (by rfl) (by kernel_rfl) S0 ?hza2 ?rza2
    case hza2 =>
      intro w' hSw
      obtain ⟨k0, k1⟩ := hSw
      go_simp
      try with_reducible rfl
    simp only [List.setIfInBounds_toArray, List.set_cons_zero, List.set_cons_succ]
    refine hold_take (i := 3) (d := 3) (v := ?vza3) (listed' := #[true, true, true, true]) rfl (by kernel_rfl) (by kernel_rfl) (by kernel_rfl) rfl (by rfl) (by kernel_rfl) S0 ?hza3 ?rza3
    case hza3 =>
      intro w' hSw
      obtain ⟨k0, k1⟩ := hSw
      go_simp
      try with_reducible rfl
    simp only [List.setIfInBounds_toArray, List.set_cons_zero, List.set_cons_succ]
    refine hold_done (by kernel_rfl) ?_ _
    gi_wp2_with fail
    refine ⟨by simp, .inl ⟨_, _, rfl, run_takeDeferred hDd, ?_⟩⟩
    refine ⟨.tuple #[.slice a' n' c', .int .i64 (nn : Int)], ?_, ?_⟩
    · simp [results, Tryd.f20, go_sem]
    · exact ⟨hJd.old.trans (belowK_b (w := w) (Nat.le_refl _) _ D _ _ (by omega) hDd rfl rfl), _, by rw [HM.out], by rw [HM.out]; exact ownsRow_putObj hownd _ hDd rfl⟩
  case stop =>
    rintro D c r W hD ⟨rfl, ⟨L, nn⟩, hJ, hM⟩ hDf
    obtain ⟨v, hv, hown, _⟩ := hJ.list
    have hn := hJ.len
    have hJd := hJ.below (Below.refl _ W).drew
    have hDd : W.drew.heap[D]? = some (.deferred (some [])) := hDf
    have hownd := ownsRow_below hown (Below.refl _ W).drew (Nat.le_refl _)
    have HM := Lib.hid hM
    clear hM
    have hwd : w.heap.size ≤ D := by omega
    clear hst0 X3 HSq
    have S0 : (fun w' => w'.cell? ⟨w.heap.size, 0, none⟩ = some v ∧ w'.cell? ⟨w.heap.size + 1, 0, none⟩ = some (.int .i64 (nn : Int))) W.drew := ⟨hv.cell, hn.cell⟩
    have hvs : ∃ a' n' c', v = .slice a' n' c' := by
      cases L with
      | nil => rcases hown.2 with ⟨e, _⟩ | ⟨g, cap, cur, e, _⟩ <;> exact ⟨_, _, _, e⟩
      | cons d L => obtain ⟨g, cap, e⟩ := ownsRow_succ hown; exact ⟨_, _, _, e⟩
    obtain ⟨a', n', c', rfl⟩ := hvs
    gi_wp2_with fail
    refine region_flatS (fuel := 4) (listed := #[false, false, false, false]) (fun w' => w'.cell? ⟨w.heap.size, 0, none⟩ = some (.slice a' n' c') ∧ w'.cell? ⟨w.heap.size + 1, 0, none⟩ = some (.int .i64 (nn : Int))) (by kernel_rfl) (by kernel_rfl) (by kernel_rfl) ?_
    refine hold_take (i := 0) (d := 38) (v := ?vzb0) (listed' := #[true, false, false, false]) rfl (by kernel_rfl) (by kernel_rfl) (by kernel_rfl) rfl (by rfl) (by kernel_rfl) S0 ?hzb0 ?rzb0
    case hzb0 =>
      intro w' hSw
      obtain ⟨k0, k1⟩ := hSw
      go_simp
      try with_reducible rfl
    simp only [List.setIfInBounds_toArray, List.set_cons_zero, List.set_cons_succ]
    refine hold_take (i := 1) (d := 39) (v := ?vzb1) (listed' := #[true, true, false, false]) rfl (by kernel_rfl) (by kernel_rfl) (by kernel_rfl) rfl (by rfl) (by kernel_rfl) S0 ?hzb1 ?rzb1
    case hzb1 =>
      intro w' hSw
      obtain ⟨k0, k1⟩ := hSw
      go_simp
      try with_reducible rfl
    simp only [List.setIfInBounds_toArray, List.set_cons_zero, List.set_cons_succ]
    refine hold_take (i := 2) (d := 2) (v := ?vzb2) (listed' := #[true, true, true, false]) rfl (by kernel_rfl) (by kernel_rfl) (by kernel_rfl) rfl (by rfl) (by kernel_rfl) S0 ?hzb2 ?rzb2
    case hzb2 =>
      intro w' hSw
      obtain ⟨k0, k1⟩ := hSw
      go_simp
      try with_reducible rfl
    simp only [List.setIfInBounds_toArray, List.set_cons_zero, List.set_cons_succ]
    refine hold_take (i := 3) (d := 3) (v := ?vzb3) (listed' := #[true, true, true, true]) rfl (by kernel_rfl) (by kernel_rfl) (by kernel_rfl) rfl (by rfl) (by kernel_rfl) S0 ?hzb3 ?rzb3
    case hzb3 =>
      intro w' hSw
      obtain ⟨k0, k1⟩ := hSw
      go_simp
      try with_reducible rfl
    simp only [List.setIfInBounds_toArray, List.set_cons_zero, List.set_cons_succ]
    refine hold_done (by kernel_rfl) ?_ _
    gi_wp2_with fail
    refine ⟨by simp, .inl ⟨_, _, rfl, run_takeDeferred hDd, ?_⟩⟩
    refine ⟨.tuple #[.slice a' n' c', .int .i64 (nn : Int)], ?_, ?_⟩
    · simp [results, Tryd.f20, go_sem]
    · exact ⟨hJd.old.trans (belowK_b (w := w) (Nat.le_refl _) _ D _ _ (by omega) hDd rfl rfl), _, by rw [HM.out], by rw [HM.out]; exact ownsRow_putObj hownd _ hDd rfl⟩
end Go.Proofs.YtjofkejfldmmlaaDoor
