/- strings.IndexByte of the library lies in the program. -/
import Derived.Test.YtjofkejfldmmlaaDoorWa
import Derived.Handy
import Derived.Shelf.Small.Strs
import Derived.Shelf.Small.Wraps
namespace Go.Proofs.YtjofkejfldmmlaaDoor
open Go.RowKit Go.Deep Go.Shelf Go.Lib

def laysIB_ren : Go.Shelf.Ren := ⟨fun | 137 => 64 | 217 => 72 | 266 => 81 | n => n, fun | 3 => 3 | 5 => 5 | 9 => 9 | n => n, fun n => n⟩
theorem laysIB : Lays.n137 Tryd.prog laysIB_ren :=
  { mixed := by kernel_rfl
    f137 := Tryd.func64.trans (congrArg some (by kernel_rfl))
    f217 := Tryd.func72.trans (congrArg some (by kernel_rfl))
    f266 := Tryd.func81.trans (congrArg some (by kernel_rfl))
    t3 := Tryd.underlying3
    a3 := Tryd.isAgg3
    z3 := Tryd.sizeOf3
    v3 := Tryd.zeroValue3
    t5 := Tryd.underlying5
    a5 := Tryd.isAgg5
    z5 := Tryd.sizeOf5
    v5 := Tryd.zeroValue5
    t9 := Tryd.underlying9
    a9 := Tryd.isAgg9
    z9 := Tryd.sizeOf9
    v9 := Tryd.zeroValue9 }
/-- The place of a sign among signs. -/
def placeI (l : List UInt8) (c : UInt8) : Int := Lib.indexByte l c
theorem indexByte_at (s : ByteArray) (c : UInt8) (w : World) : Calls Tryd.prog 64 #[.string s, .int .u8 (c.toNat : Int)] w fun e w' => e = .returned (.int .i64 (placeI s.data.toList c)) ∧ w' = w := by
  have h := Any.strings_IndexByte laysIB s (c.toNat : Int) w
  have e : (((c.toNat : Nat) : Int).toNat).toUInt8 = c := by rw [Int.toNat_natCast]; exact UInt8.ofNat_toNat
  rw [e] at h
  exact h
end Go.Proofs.YtjofkejfldmmlaaDoor
