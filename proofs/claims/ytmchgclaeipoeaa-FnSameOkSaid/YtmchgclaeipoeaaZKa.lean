import Derived.Test.YtmchgclaeipoeaaZWa
import Derived.Test.YtmchgclaeipoeaaZMathV
import Derived.Handy
import Derived.Shelf.Small.Strs
import Derived.Shelf.Small.Wraps
namespace Go.Proofs.Ytmchgclaeipoeaa
open Go.RowKit Go.Deep Go.Shelf Go.Lib

def laysIB_ren : Go.Shelf.Ren := ⟨fun | 137 => 57 | 217 => 62 | 266 => 65 | n => n, fun | 3 => 3 | 5 => 5 | 9 => 9 | n => n, fun n => n⟩
theorem laysIB : Lays.n137 Try.prog laysIB_ren :=
  { mixed := by kernel_rfl
    f137 := Try.func57.trans (congrArg some (by kernel_rfl))
    f217 := Try.func62.trans (congrArg some (by kernel_rfl))
    f266 := Try.func65.trans (congrArg some (by kernel_rfl))
    t3 := Try.underlying3
    a3 := Try.isAgg3
    z3 := Try.sizeOf3
    v3 := Try.zeroValue3
    t5 := Try.underlying5
    a5 := Try.isAgg5
    z5 := Try.sizeOf5
    v5 := Try.zeroValue5
    t9 := Try.underlying9
    a9 := Try.isAgg9
    z9 := Try.sizeOf9
    v9 := Try.zeroValue9 }
def laysCP_ren : Go.Shelf.Ren := ⟨fun | 103 => 63 | 206 => 67 | 210 => 66 | n => n, fun | 3 => 3 | 4 => 4 | 9 => 9 | 24 => 93 | n => n, fun n => n⟩
theorem laysCP : Lays.n103 Try.prog laysCP_ren :=
  { mixed := by kernel_rfl
    f103 := Try.func63.trans (congrArg some (by kernel_rfl))
    f206 := Try.func67.trans (congrArg some (by kernel_rfl))
    f210 := Try.func66.trans (congrArg some (by kernel_rfl))
    t3 := Try.underlying3
    a3 := Try.isAgg3
    z3 := Try.sizeOf3
    v3 := Try.zeroValue3
    t4 := Try.underlying4
    a4 := Try.isAgg4
    z4 := Try.sizeOf4
    v4 := Try.zeroValue4
    t9 := Try.underlying9
    a9 := Try.isAgg9
    z9 := Try.sizeOf9
    v9 := Try.zeroValue9
    t24 := Try.underlying93
    a24 := Try.isAgg93
    z24 := Try.sizeOf93
    v24 := Try.zeroValue93 }
/-- The place of a sign among signs. -/
def placeI (l : List UInt8) (c : UInt8) : Int := Lib.indexByte l c
theorem indexByte_at (s : ByteArray) (c : UInt8) (w : World) : Calls Try.prog 57 #[.string s, .int .u8 (c.toNat : Int)] w fun e w' => e = .returned (.int .i64 (placeI s.data.toList c)) ∧ w' = w := by
  have h := Any.strings_IndexByte laysIB s (c.toNat : Int) w
  have e : (((c.toNat : Nat) : Int).toNat).toUInt8 = c := by rw [Int.toNat_natCast]; exact UInt8.ofNat_toNat
  rw [e] at h
  exact h
theorem cutPrefix_at (s p : ByteArray) (w : World) : Calls Try.prog 63 #[.string s, .string p] w fun e w' => e = .returned (.tuple #[.string ⟨(Lib.trimPrefix s.data.toList p.data.toList).toArray⟩, .bool (Lib.hasPrefix s.data.toList p.data.toList)]) ∧ w' = w :=
  Any.strings_CutPrefix laysCP s p w

/-- A formula as the program holds it. -/
def fmV : Fm → Value
  | .la => .iface 78 (.int .i64 0)
  | .lb => .iface 78 (.int .i64 1)
  | .lc => .iface 78 (.int .i64 2)
  | .no => .iface 79 (.int .i64 0)
  | .yes => .iface 79 (.int .i64 1)
  | .neg f => .iface 82 (.agg #[fmV f])
  | .meet f g => .iface 84 (.agg #[.int .i64 0, fmV f, fmV g])
  | .join f g => .iface 84 (.agg #[.int .i64 1, fmV f, fmV g])
theorem fmV_iface (f : Fm) : ∃ t v, fmV f = .iface t v := by cases f <;> exact ⟨_, _, rfl⟩
def IfV (v : Value) : Prop := v = .nilIface ∨ ∃ t x, v = .iface t x
/-- What the reader hands back at a text. -/
def AheadOf (x : Option (Fm × List UInt8)) (w : World) (e : Ending) (w' : World) : Prop :=
  Below w.heap.size w w' ∧ ∃ (v : Value) (r : ByteArray) (b : Bool), e = .returned (.tuple #[v, .string r, .bool b]) ∧ match x with
    | some (f, t) => v = fmV f ∧ r.data.toList = t ∧ b = true
    | none => b = false ∧ IfV v
theorem AheadOf.yes {x : Option (Fm × List UInt8)} {w w' : World} {f : Fm} {r : ByteArray} {t : List UInt8} (h : Below w.heap.size w w') (hx : x = some (f, t)) (hr : r.data.toList = t) : AheadOf x w (.returned (.tuple #[fmV f, .string r, .bool true])) w' := by
  subst hx; exact ⟨h, _, r, true, rfl, rfl, hr, rfl⟩
theorem AheadOf.no {x : Option (Fm × List UInt8)} {w w' : World} {v : Value} {r : ByteArray} (h : Below w.heap.size w w') (hx : x = none) (hv : IfV v) : AheadOf x w (.returned (.tuple #[v, .string r, .bool false])) w' := by
  subst hx; exact ⟨h, _, r, false, rfl, rfl, hv⟩
theorem sign_at (s : ByteArray) (c : UInt8) (x v : Int) (hx : x = (c.toNat : Int)) (hv : placeI s.data.toList c = v) (w : World) : Calls Try.prog 57 #[.string s, .int .u8 x] w fun e w' => e = .returned (.int .i64 v) ∧ w' = w := by
  rw [hx, ← hv]; exact indexByte_at s c w
theorem ba_nil {s : ByteArray} (h : s.data.toList = []) : s.toList.isEmpty = true := by rw [Lib.toList_data, h]; rfl
theorem ba_cons {s : ByteArray} {c : UInt8} {t : List UInt8} (h : s.data.toList = c :: t) : s.toList.isEmpty = false ∧ (∃ h : 0 < s.size, s[0]'h = c) ∧ (s.extract 1 s.size).data.toList = t ∧ s.size = t.length + 1 ∧ (s.extract 1 s.size).size = t.length := by
  have hs : s.size = t.length + 1 := by rw [size_data, h]; rfl
  have h1 : (s.extract 1 s.size).data.toList = t := by rw [ext_end, h]; rfl
  refine ⟨by rw [Lib.toList_data, h]; rfl, ⟨by omega, ?_⟩, h1, hs, by rw [size_data, h1]⟩
  have e := at_data (s := s) (i := 0) (by omega)
  rw [h] at e
  exact (Option.some.inj e).symm
theorem trim_yes {t : List UInt8} : Lib.trimPrefix (41 :: t) [41] = t ∧ Lib.hasPrefix (41 :: t) [41] = true := by
  have h : Lib.hasPrefix (41 :: t) [41] = true := by unfold Lib.hasPrefix; simp [List.isPrefixOf]
  refine ⟨?_, h⟩
  unfold Lib.trimPrefix
  rw [if_pos h]; rfl
theorem trim_no {l : List UInt8} (h : l.head? ≠ some 41) : Lib.hasPrefix l [41] = false := by
  unfold Lib.hasPrefix
  cases l with
  | nil => rfl
  | cons c t =>
    have hc : ¬ (41 : UInt8) = c := fun e => h (by rw [← e]; rfl)
    simp [List.isPrefixOf, hc]
def AheadAll (n : Nat) : Prop := ∀ (s : ByteArray), s.size ≤ n → ∀ w, Calls Try.prog 42 #[.string s] w (AheadOf (headF s.data.toList) w)

set_option maxRecDepth 100000 in
set_option maxHeartbeats 4000000 in
theorem compound_any {n : Nat} (IH : AheadAll n) (s : ByteArray) (hs : s.size ≤ n) (w : World) : Calls Try.prog 58 #[.string s] w (AheadOf (headF (40 :: s.data.toList)) w) := by
  have HP := Lib.hid (headF_pair s.data.toList)
  go_enter Try.func58, Try.ntmps58
  go_wp2_with fail
  go_at_call 42
  refine (IH s hs w).mono ?_
  rintro e w1 ⟨hb1, v1, r1, b1, rfl, hx⟩
  cases h1 : headF s.data.toList with
  | none =>
    rw [h1] at hx
    obtain ⟨rfl, hif⟩ := hx
    have HN : Hid (headF (40 :: s.data.toList) = none) := by show _ = _; rw [HP.out, h1]
    clear HP h1
    go_wp2_with fail
    go_returns
    exact AheadOf.no hb1 HN.out (by first | exact .inl rfl | exact .inr ⟨_, _, rfl⟩)
  | some x =>
    obtain ⟨f, t⟩ := x
    rw [h1] at hx
    obtain ⟨rfl, rfl, rfl⟩ := hx
    have hlt : r1.size < s.size := by
      have e := congrArg List.length (headF_is h1)
      rw [List.length_append] at e
      have := f.text_pos
      rw [size_data, size_data]; omega
    have HP1 : Hid (headF (40 :: s.data.toList) = match r1.data.toList with
      | o :: t1 => match headF t1 with
        | some (g, e :: r2) => if e = 41 then (opOf o f g).map fun x => (x, r2) else none
        | _ => none
      | [] => none) := by
      show _ = _
      rw [HP.out, h1]
      cases r1.data.toList <;> rfl
    clear HP h1
    cases ht : r1.data.toList with
    | nil =>
      have hem := ba_nil ht
      have HN : Hid (headF (40 :: s.data.toList) = none) := by show _ = _; rw [HP1.out, ht]
      clear HP1 ht
      go_wp2_with fail
      go_returns
      exact AheadOf.no hb1 HN.out (by first | exact .inl rfl | exact .inr ⟨_, _, rfl⟩)
    | cons o t1 =>
      obtain ⟨hem, ⟨h0, hc⟩, htl, hsz, hsz2⟩ := ba_cons ht
      rw [hsz] at htl hsz2
      have HP2 : Hid (headF (40 :: s.data.toList) = match headF t1 with
        | some (g, e :: r2) => if e = 41 then (opOf o f g).map fun x => (x, r2) else none
        | _ => none) := by show _ = _; rw [HP1.out, ht]
      clear HP1 ht
      by_cases ho1 : o = 38 ∨ o = 124
      · obtain ⟨kd, hkd, hk0, hk1⟩ : ∃ kd : Int, placeI [38, 124] o = kd ∧ 0 ≤ kd ∧ ((kd = 0 ∧ o = 38) ∨ (kd = 1 ∧ o = 124)) := by
          rcases ho1 with rfl | rfl
          · exact ⟨0, by decide, by decide, .inl ⟨rfl, rfl⟩⟩
          · exact ⟨1, by decide, by decide, .inr ⟨rfl, rfl⟩⟩
        have HK := Lib.hid hk1
        clear hk1
        go_wp2_with fail
        go_at_call 57
        refine (sign_at _ o _ kd (by first | rfl | (rw [hc]) | skip) hkd _).mono ?_
        rintro e w2 ⟨rfl, rfl⟩
        go_wp2_with fail
        go_at_call 42
        refine (IH _ (by omega) _).mono ?_
        rintro e w3 ⟨hb3, v3, r3, b3, rfl, hx⟩
        rw [htl] at hx
        have hb13 := hb1.trans (hb3.mono hb1.size)
        cases h3 : headF t1 with
        | none =>
          rw [h3] at hx
          obtain ⟨rfl, hif⟩ := hx
          have HN : Hid (headF (40 :: s.data.toList) = none) := by show _ = _; rw [HP2.out, h3]
          clear HP2 h3
          go_wp2_with fail
          go_returns
          exact AheadOf.no hb13 HN.out (by first | exact .inl rfl | exact .inr ⟨_, _, rfl⟩)
        | some x =>
          obtain ⟨g, t3⟩ := x
          rw [h3] at hx
          obtain ⟨rfl, rfl, rfl⟩ := hx
          obtain ⟨tf, vf, ef⟩ := fmV_iface f
          obtain ⟨tg, vg, eg⟩ := fmV_iface g
          rw [ef, eg]
          have EF := Lib.hid ef
          have EG := Lib.hid eg
          clear ef eg
          go_wp2_with fail
          go_at_call 63
          refine (cutPrefix_at _ _ _).mono ?_
          rintro e w4 ⟨rfl, rfl⟩
          by_cases hh : r3.data.toList.head? = some 41
          · obtain ⟨r2, hr2⟩ : ∃ r2, r3.data.toList = 41 :: r2 := by
              cases hl : r3.data.toList with
              | nil => rw [hl] at hh; cases hh
              | cons e9 t9 => rw [hl] at hh; exact ⟨t9, by rw [Option.some.inj hh]⟩
            have HT : Hid (Lib.trimPrefix r3.data.toList (ByteArray.mk #[41]).data.toList = r2) := by show _ = _; rw [hr2]; exact trim_yes.1
            have HQ : Hid (Lib.hasPrefix r3.data.toList (ByteArray.mk #[41]).data.toList = true) := by show _ = _; rw [hr2]; exact trim_yes.2
            have HR : Hid (headF (40 :: s.data.toList) = (opOf o f g).map fun x => (x, r2)) := by show _ = _; rw [HP2.out, h3, hr2]; exact if_pos rfl
            rw [HQ.out]
            clear HP2 h3 hr2 hh
            go_wp2_with fail
            go_returns
            rw [← EF.out, ← EG.out]
            rcases HK.out with ⟨rfl, rfl⟩ | ⟨rfl, rfl⟩
            · exact AheadOf.yes (f := .meet f g) hb13 HR.out (by rw [HT.out])
            · exact AheadOf.yes (f := .join f g) hb13 HR.out (by rw [HT.out])
          · have HQ : Hid (Lib.hasPrefix r3.data.toList (ByteArray.mk #[41]).data.toList = false) := trim_no hh
            have HN : Hid (headF (40 :: s.data.toList) = none) := by
              show _ = _
              rw [HP2.out, h3]
              cases hl : r3.data.toList with
              | nil => rfl
              | cons e9 t9 => exact if_neg fun e => hh (by rw [hl, e]; rfl)
            rw [HQ.out]
            clear HP2 h3 hh
            go_wp2_with fail
            go_returns
            exact AheadOf.no hb13 HN.out (by first | exact .inl rfl | exact .inr ⟨_, _, rfl⟩)
      · have ho2 : o ≠ 38 := fun e => ho1 (.inl e)
        have ho3 : o ≠ 124 := fun e => ho1 (.inr e)
        have hkd : placeI [38, 124] o = -1 := by
          have e1 : ((38 : UInt8) == o) = false := by simp [Ne.symm ho2]
          have e2 : ((124 : UInt8) == o) = false := by simp [Ne.symm ho3]
          simp [placeI, Lib.indexByte, e1, e2]
        have HN : Hid (headF (40 :: s.data.toList) = none) := by
          show _ = _
          rw [HP2.out]
          have e9 : ∀ g, opOf o f g = none := fun g => by unfold opOf; rw [if_neg ho2, if_neg ho3]
          split
          · split
            · rw [e9]; rfl
            · rfl
          · rfl
        clear HP2
        go_wp2_with fail
        go_at_call 57
        refine (sign_at _ o _ (-1) (by first | rfl | (rw [hc]) | skip) hkd _).mono ?_
        rintro e w2 ⟨rfl, rfl⟩
        go_wp2_with fail
        go_returns
        exact AheadOf.no hb1 HN.out (by first | exact .inl rfl | exact .inr ⟨_, _, rfl⟩)
end Go.Proofs.Ytmchgclaeipoeaa
