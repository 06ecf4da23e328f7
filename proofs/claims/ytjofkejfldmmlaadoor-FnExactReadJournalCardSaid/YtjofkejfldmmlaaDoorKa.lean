/- strings.IndexByte and strings.CutPrefix of the library lie in the program; formulas as interface values; the program's reader of formulas; FormulaOk. -/
import Derived.Test.YtjofkejfldmmlaaDoorWa
import Derived.Test.YtjofkejfldmmlaaDoorMathV
import Derived.Handy
import Derived.Shelf.Small.Strs
import Derived.Shelf.Small.Wraps
namespace Go.Proofs.YtjofkejfldmmlaaDoor
open Go.RowKit Go.Deep Go.Shelf Go.Lib

def laysIB_ren : Go.Shelf.Ren := ⟨fun | 137 => 64 | 217 => 72 | 266 => 81 | n => n, fun | 3 => 3 | 5 => 5 | 9 => 9 | n => n, fun n => n⟩
theorem laysIB : Lays.n137 Tryd.prog laysIB_ren :=
  { mixed := by kernel_rfl
    f137 := Tryd.func64.trans (congrArg some (by kernel_rfl))
    f217 := Tryd.func72.trans (congrArg some (by kernel_rfl))
    f266 := Tryd.func81.trans (congrArg some (by kernel_rfl))
    t3 := Tryd.underlying3
    a3 := Tryd.isAgg3
    z3 := Tryd.sizeOf3
    v3 := Tryd.zeroValue3
    t5 := Tryd.underlying5
    a5 := Tryd.isAgg5
    z5 := Tryd.sizeOf5
    v5 := Tryd.zeroValue5
    t9 := Tryd.underlying9
    a9 := Tryd.isAgg9
    z9 := Tryd.sizeOf9
    v9 := Tryd.zeroValue9 }
/-- The place of a sign among signs. -/
def placeI (l : List UInt8) (c : UInt8) : Int := Lib.indexByte l c
theorem indexByte_at (s : ByteArray) (c : UInt8) (w : World) : Calls Tryd.prog 64 #[.string s, .int .u8 (c.toNat : Int)] w fun e w' => e = .returned (.int .i64 (placeI s.data.toList c)) ∧ w' = w := by
  have h := Any.strings_IndexByte laysIB s (c.toNat : Int) w
  have e : (((c.toNat : Nat) : Int).toNat).toUInt8 = c := by rw [Int.toNat_natCast]; exact UInt8.ofNat_toNat
  rw [e] at h
  exact h
def IfV (v : Value) : Prop := v = .nilIface ∨ ∃ t x, v = .iface t x
theorem sign_at (s : ByteArray) (c : UInt8) (x v : Int) (hx : x = (c.toNat : Int)) (hv : placeI s.data.toList c = v) (w : World) : Calls Tryd.prog 64 #[.string s, .int .u8 x] w fun e w' => e = .returned (.int .i64 v) ∧ w' = w := by
  rw [hx, ← hv]; exact indexByte_at s c w
theorem ba_nil {s : ByteArray} (h : s.data.toList = []) : s.toList.isEmpty = true := by rw [Lib.toList_data, h]; rfl
theorem ba_cons {s : ByteArray} {c : UInt8} {t : List UInt8} (h : s.data.toList = c :: t) : s.toList.isEmpty = false ∧ (∃ h : 0 < s.size, s[0]'h = c) ∧ (s.extract 1 s.size).data.toList = t ∧ s.size = t.length + 1 ∧ (s.extract 1 s.size).size = t.length := by
  have hs : s.size = t.length + 1 := by rw [size_data, h]; rfl
  have h1 : (s.extract 1 s.size).data.toList = t := by rw [ext_end, h]; rfl
  refine ⟨by rw [Lib.toList_data, h]; rfl, ⟨by omega, ?_⟩, h1, hs, by rw [size_data, h1]⟩
  have e := at_data (s := s) (i := 0) (by omega)
  rw [h] at e
  exact (Option.some.inj e).symm
theorem trim_yes {t : List UInt8} : Lib.trimPrefix (41 :: t) [41] = t ∧ Lib.hasPrefix (41 :: t) [41] = true := by
  have h : Lib.hasPrefix (41 :: t) [41] = true := by unfold Lib.hasPrefix; simp [List.isPrefixOf]
  refine ⟨?_, h⟩
  unfold Lib.trimPrefix
  rw [if_pos h]; rfl
theorem trim_no {l : List UInt8} (h : l.head? ≠ some 41) : Lib.hasPrefix l [41] = false := by
  unfold Lib.hasPrefix
  cases l with
  | nil => rfl
  | cons c t =>
    have hc : ¬ (41 : UInt8) = c := fun e => h (by rw [← e]; rfl)
    simp [List.isPrefixOf, hc]
end Go.Proofs.YtjofkejfldmmlaaDoor
