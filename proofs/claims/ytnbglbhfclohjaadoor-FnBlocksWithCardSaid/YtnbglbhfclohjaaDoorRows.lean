/-
  NARROWER THAN 'FOR EVERY INPUT', by the rows' own cells (each row's printed sentence says how): FnCentreOf: laid · FnAgreeOk: laid · FnBlocksOf: laid · FnBooleanOk: laid · FnBlocksWith: laid · FnExactAgreeOk: laid · FnExactBlocksOf: laid · FnExactBlocksWith: laid.
  DERIVED. THE GIVEN ROWS OF THIS SEAT. 8 by the template 'for every input the law returns true; each argument reads behind the call as it read before'; 0 by the template 'total and deterministic' (their statements: YtnbglbhfclohjaaDoorTotals.lean).
  GIVEN WITH THE SEED: the statements are not yours to turn. If you find one false, say at which input.
  Laid BY PROGRAM, IN A SANDBOX (cutbox-rows.mjs): the forced cells as the released guide's own fill.sh prints them over the translation 303d27cc7a01b5a4… (all of the seat's roots in one cut). By AI agents, Wed Nov 11 2026. No macro, syntax, notation, axiom, sorry.
-/
import Derived.Test.YtnbglbhfclohjaaDoorChecked
import GoSem.Claim
import GoSem.ClaimJoined
import GoSem.ClaimMapViews
import Derived.JoinedTies
import Derived.KernelRfl
namespace Go.Proofs.YtnbglbhfclohjaaDoor
/- THE CELL 'sum', in the pinned program and in every row, IS THE sha256 OF THE DUMP (.gsa) THAT YtnbglbhfclohjaaDoorProg.lean LOADS. Nothing in Lean hashes anything: it is a label: what it is worth is what the hold of that sum in a sandbox is worth. -/
noncomputable def Tryd.pinned : Pinned := { name := "ytnbglbhfclohjaadoor", sum := "303d27cc7a01b5a4a41170f93a2a799bcdb01592c6953e7419114a30f64be5a7", checked := Tryd.checked }
namespace Rows
def none {H : Type} : Left H := { results := [], args := [] }

/- WHAT THE LISTED PACKAGE-LEVEL VARIABLES READ AS WHEN THE CALL BEGINS. Each datum BY PROGRAM (the guide's laid-datum.mjs) off the statement by which the dump's own 'gosem.cut.vars' lays the variable. In a bare row this is a premise. The card (YtnbglbhfclohjaaDoorCards.lean) ties it to the program's text. -/
def laid_math_bits_deBruijn32tab {H : Type} : DataW H := .agg [.lit (.int .u8 0), .lit (.int .u8 1), .lit (.int .u8 28), .lit (.int .u8 2), .lit (.int .u8 29), .lit (.int .u8 14), .lit (.int .u8 24), .lit (.int .u8 3), .lit (.int .u8 30), .lit (.int .u8 22), .lit (.int .u8 20), .lit (.int .u8 15), .lit (.int .u8 25), .lit (.int .u8 17), .lit (.int .u8 4), .lit (.int .u8 8), .lit (.int .u8 31), .lit (.int .u8 27), .lit (.int .u8 13), .lit (.int .u8 23), .lit (.int .u8 21), .lit (.int .u8 19), .lit (.int .u8 16), .lit (.int .u8 7), .lit (.int .u8 26), .lit (.int .u8 12), .lit (.int .u8 18), .lit (.int .u8 6), .lit (.int .u8 11), .lit (.int .u8 5), .lit (.int .u8 10), .lit (.int .u8 9)]
def laid_math_bits_deBruijn64tab {H : Type} : DataW H := .agg [.lit (.int .u8 0), .lit (.int .u8 1), .lit (.int .u8 56), .lit (.int .u8 2), .lit (.int .u8 57), .lit (.int .u8 49), .lit (.int .u8 28), .lit (.int .u8 3), .lit (.int .u8 61), .lit (.int .u8 58), .lit (.int .u8 42), .lit (.int .u8 50), .lit (.int .u8 38), .lit (.int .u8 29), .lit (.int .u8 17), .lit (.int .u8 4), .lit (.int .u8 62), .lit (.int .u8 47), .lit (.int .u8 59), .lit (.int .u8 36), .lit (.int .u8 45), .lit (.int .u8 43), .lit (.int .u8 51), .lit (.int .u8 22), .lit (.int .u8 53), .lit (.int .u8 39), .lit (.int .u8 33), .lit (.int .u8 30), .lit (.int .u8 24), .lit (.int .u8 18), .lit (.int .u8 12), .lit (.int .u8 5), .lit (.int .u8 63), .lit (.int .u8 55), .lit (.int .u8 48), .lit (.int .u8 27), .lit (.int .u8 60), .lit (.int .u8 41), .lit (.int .u8 37), .lit (.int .u8 16), .lit (.int .u8 46), .lit (.int .u8 35), .lit (.int .u8 44), .lit (.int .u8 21), .lit (.int .u8 52), .lit (.int .u8 32), .lit (.int .u8 23), .lit (.int .u8 11), .lit (.int .u8 54), .lit (.int .u8 26), .lit (.int .u8 40), .lit (.int .u8 15), .lit (.int .u8 34), .lit (.int .u8 20), .lit (.int .u8 31), .lit (.int .u8 10), .lit (.int .u8 25), .lit (.int .u8 14), .lit (.int .u8 19), .lit (.int .u8 9), .lit (.int .u8 13), .lit (.int .u8 8), .lit (.int .u8 7), .lit (.int .u8 6)]

/-- 'laws.FnCentreOf': WHATEVER THE INPUT: true; the input reads as it did. -/
def fnCentreOfSpec : ChangeSpec := { name := "fnCentreOf", fn := fun _ => fun
  | [d] => { results := [.lit (.bool true)], args := [d] }
  | _ => none }
def fnCentreOfRow : OpenClaim := { program := "ytnbglbhfclohjaadoor", sum := "303d27cc7a01b5a4a41170f93a2a799bcdb01592c6953e7419114a30f64be5a7", func := "loop.example/orthologics/laws.FnCentreOf", spec := "fnCentreOf", unfollowed := true, recurses := true, named := ["math/bits.deBruijn32tab", "math/bits.deBruijn64tab"], apart := false, laid := [("math/bits.deBruijn32tab", laid_math_bits_deBruijn32tab), ("math/bits.deBruijn64tab", laid_math_bits_deBruijn64tab)] }
def FnCentreOfSaid : Prop := fnCentreOfRow.holds Tryd.pinned (OpenSpec.ofChange fnCentreOfSpec)

/-- ITS FALSE NEIGHBOUR: 'it returns false'. Refute it at one input. -/
def fnCentreOfWrong : ChangeSpec := { name := "fnCentreOf", fn := fun _ => fun
  | [d] => { results := [.lit (.bool false)], args := [d] }
  | _ => none }
def FnCentreOfWrongFalsely : Prop := fnCentreOfRow.holds Tryd.pinned (OpenSpec.ofChange fnCentreOfWrong)

/-- 'laws.FnAgreeOk': WHATEVER THE INPUT: true; the input reads as it did. -/
def fnAgreeOkSpec : ChangeSpec := { name := "fnAgreeOk", fn := fun _ => fun
  | [d] => { results := [.lit (.bool true)], args := [d] }
  | _ => none }
def fnAgreeOkRow : OpenClaim := { program := "ytnbglbhfclohjaadoor", sum := "303d27cc7a01b5a4a41170f93a2a799bcdb01592c6953e7419114a30f64be5a7", func := "loop.example/orthologics/laws.FnAgreeOk", spec := "fnAgreeOk", inPlace := ["slices.overlaps[int]"], unfollowed := true, recurses := true, named := ["math/bits.deBruijn32tab", "math/bits.deBruijn64tab"], apart := false, laid := [("math/bits.deBruijn32tab", laid_math_bits_deBruijn32tab), ("math/bits.deBruijn64tab", laid_math_bits_deBruijn64tab)] }
def FnAgreeOkSaid : Prop := fnAgreeOkRow.holds Tryd.pinned (OpenSpec.ofChange fnAgreeOkSpec)

/-- ITS FALSE NEIGHBOUR: 'it returns false'. Refute it at one input. -/
def fnAgreeOkWrong : ChangeSpec := { name := "fnAgreeOk", fn := fun _ => fun
  | [d] => { results := [.lit (.bool false)], args := [d] }
  | _ => none }
def FnAgreeOkWrongFalsely : Prop := fnAgreeOkRow.holds Tryd.pinned (OpenSpec.ofChange fnAgreeOkWrong)

/-- 'laws.FnBlocksOf': WHATEVER THE INPUT: true; the input reads as it did. -/
def fnBlocksOfSpec : ChangeSpec := { name := "fnBlocksOf", fn := fun _ => fun
  | [d] => { results := [.lit (.bool true)], args := [d] }
  | _ => none }
def fnBlocksOfRow : OpenClaim := { program := "ytnbglbhfclohjaadoor", sum := "303d27cc7a01b5a4a41170f93a2a799bcdb01592c6953e7419114a30f64be5a7", func := "loop.example/orthologics/laws.FnBlocksOf", spec := "fnBlocksOf", inPlace := ["slices.overlaps[int]"], unfollowed := true, recurses := true, named := ["math/bits.deBruijn32tab", "math/bits.deBruijn64tab"], apart := false, laid := [("math/bits.deBruijn32tab", laid_math_bits_deBruijn32tab), ("math/bits.deBruijn64tab", laid_math_bits_deBruijn64tab)] }
def FnBlocksOfSaid : Prop := fnBlocksOfRow.holds Tryd.pinned (OpenSpec.ofChange fnBlocksOfSpec)

/-- ITS FALSE NEIGHBOUR: 'it returns false'. Refute it at one input. -/
def fnBlocksOfWrong : ChangeSpec := { name := "fnBlocksOf", fn := fun _ => fun
  | [d] => { results := [.lit (.bool false)], args := [d] }
  | _ => none }
def FnBlocksOfWrongFalsely : Prop := fnBlocksOfRow.holds Tryd.pinned (OpenSpec.ofChange fnBlocksOfWrong)

/-- 'laws.FnBooleanOk': WHATEVER THE INPUT: true; the input reads as it did. -/
def fnBooleanOkSpec : ChangeSpec := { name := "fnBooleanOk", fn := fun _ => fun
  | [d] => { results := [.lit (.bool true)], args := [d] }
  | _ => none }
def fnBooleanOkRow : OpenClaim := { program := "ytnbglbhfclohjaadoor", sum := "303d27cc7a01b5a4a41170f93a2a799bcdb01592c6953e7419114a30f64be5a7", func := "loop.example/orthologics/laws.FnBooleanOk", spec := "fnBooleanOk", inPlace := ["slices.overlaps[int]"], unfollowed := true, recurses := true, named := ["math/bits.deBruijn32tab", "math/bits.deBruijn64tab"], apart := false, laid := [("math/bits.deBruijn32tab", laid_math_bits_deBruijn32tab), ("math/bits.deBruijn64tab", laid_math_bits_deBruijn64tab)] }
def FnBooleanOkSaid : Prop := fnBooleanOkRow.holds Tryd.pinned (OpenSpec.ofChange fnBooleanOkSpec)

/-- ITS FALSE NEIGHBOUR: 'it returns false'. Refute it at one input. -/
def fnBooleanOkWrong : ChangeSpec := { name := "fnBooleanOk", fn := fun _ => fun
  | [d] => { results := [.lit (.bool false)], args := [d] }
  | _ => none }
def FnBooleanOkWrongFalsely : Prop := fnBooleanOkRow.holds Tryd.pinned (OpenSpec.ofChange fnBooleanOkWrong)

/-- 'laws.FnBlocksWith': WHATEVER THE INPUT: true; the input reads as it did. -/
def fnBlocksWithSpec : ChangeSpec := { name := "fnBlocksWith", fn := fun _ => fun
  | [d] => { results := [.lit (.bool true)], args := [d] }
  | _ => none }
def fnBlocksWithRow : OpenClaim := { program := "ytnbglbhfclohjaadoor", sum := "303d27cc7a01b5a4a41170f93a2a799bcdb01592c6953e7419114a30f64be5a7", func := "loop.example/orthologics/laws.FnBlocksWith", spec := "fnBlocksWith", inPlace := ["slices.overlaps[int]"], unfollowed := true, recurses := true, named := ["math/bits.deBruijn32tab", "math/bits.deBruijn64tab"], apart := false, laid := [("math/bits.deBruijn32tab", laid_math_bits_deBruijn32tab), ("math/bits.deBruijn64tab", laid_math_bits_deBruijn64tab)] }
def FnBlocksWithSaid : Prop := fnBlocksWithRow.holds Tryd.pinned (OpenSpec.ofChange fnBlocksWithSpec)

/-- ITS FALSE NEIGHBOUR: 'it returns false'. Refute it at one input. -/
def fnBlocksWithWrong : ChangeSpec := { name := "fnBlocksWith", fn := fun _ => fun
  | [d] => { results := [.lit (.bool false)], args := [d] }
  | _ => none }
def FnBlocksWithWrongFalsely : Prop := fnBlocksWithRow.holds Tryd.pinned (OpenSpec.ofChange fnBlocksWithWrong)

/-- 'laws.FnExactAgreeOk': WHATEVER THE INPUT: true; the input reads as it did. -/
def fnExactAgreeOkSpec : ChangeSpec := { name := "fnExactAgreeOk", fn := fun _ => fun
  | [d1, d2] => { results := [.lit (.bool true)], args := [d1, d2] }
  | _ => none }
def fnExactAgreeOkRow : OpenClaim := { program := "ytnbglbhfclohjaadoor", sum := "303d27cc7a01b5a4a41170f93a2a799bcdb01592c6953e7419114a30f64be5a7", func := "loop.example/orthologics/laws.FnExactAgreeOk", spec := "fnExactAgreeOk", unfollowed := true, recurses := true, named := ["math/bits.deBruijn32tab", "math/bits.deBruijn64tab"], apart := false, laid := [("math/bits.deBruijn32tab", laid_math_bits_deBruijn32tab), ("math/bits.deBruijn64tab", laid_math_bits_deBruijn64tab)] }
def FnExactAgreeOkSaid : Prop := fnExactAgreeOkRow.holds Tryd.pinned (OpenSpec.ofChange fnExactAgreeOkSpec)

/-- ITS FALSE NEIGHBOUR: 'it returns false'. Refute it at one input. -/
def fnExactAgreeOkWrong : ChangeSpec := { name := "fnExactAgreeOk", fn := fun _ => fun
  | [d1, d2] => { results := [.lit (.bool false)], args := [d1, d2] }
  | _ => none }
def FnExactAgreeOkWrongFalsely : Prop := fnExactAgreeOkRow.holds Tryd.pinned (OpenSpec.ofChange fnExactAgreeOkWrong)

/-- 'laws.FnExactBlocksOf': WHATEVER THE INPUT: true; the input reads as it did. -/
def fnExactBlocksOfSpec : ChangeSpec := { name := "fnExactBlocksOf", fn := fun _ => fun
  | [d] => { results := [.lit (.bool true)], args := [d] }
  | _ => none }
def fnExactBlocksOfRow : OpenClaim := { program := "ytnbglbhfclohjaadoor", sum := "303d27cc7a01b5a4a41170f93a2a799bcdb01592c6953e7419114a30f64be5a7", func := "loop.example/orthologics/laws.FnExactBlocksOf", spec := "fnExactBlocksOf", inPlace := ["slices.overlaps[int]"], unfollowed := true, recurses := true, named := ["math/bits.deBruijn32tab", "math/bits.deBruijn64tab"], apart := false, laid := [("math/bits.deBruijn32tab", laid_math_bits_deBruijn32tab), ("math/bits.deBruijn64tab", laid_math_bits_deBruijn64tab)] }
def FnExactBlocksOfSaid : Prop := fnExactBlocksOfRow.holds Tryd.pinned (OpenSpec.ofChange fnExactBlocksOfSpec)

/-- ITS FALSE NEIGHBOUR: 'it returns false'. Refute it at one input. -/
def fnExactBlocksOfWrong : ChangeSpec := { name := "fnExactBlocksOf", fn := fun _ => fun
  | [d] => { results := [.lit (.bool false)], args := [d] }
  | _ => none }
def FnExactBlocksOfWrongFalsely : Prop := fnExactBlocksOfRow.holds Tryd.pinned (OpenSpec.ofChange fnExactBlocksOfWrong)

/-- 'laws.FnExactBlocksWith': WHATEVER THE INPUT: true; the input reads as it did. -/
def fnExactBlocksWithSpec : ChangeSpec := { name := "fnExactBlocksWith", fn := fun _ => fun
  | [d1, d2] => { results := [.lit (.bool true)], args := [d1, d2] }
  | _ => none }
def fnExactBlocksWithRow : OpenClaim := { program := "ytnbglbhfclohjaadoor", sum := "303d27cc7a01b5a4a41170f93a2a799bcdb01592c6953e7419114a30f64be5a7", func := "loop.example/orthologics/laws.FnExactBlocksWith", spec := "fnExactBlocksWith", unfollowed := true, recurses := true, named := ["math/bits.deBruijn32tab", "math/bits.deBruijn64tab"], apart := false, laid := [("math/bits.deBruijn32tab", laid_math_bits_deBruijn32tab), ("math/bits.deBruijn64tab", laid_math_bits_deBruijn64tab)] }
def FnExactBlocksWithSaid : Prop := fnExactBlocksWithRow.holds Tryd.pinned (OpenSpec.ofChange fnExactBlocksWithSpec)

/-- ITS FALSE NEIGHBOUR: 'it returns false'. Refute it at one input. -/
def fnExactBlocksWithWrong : ChangeSpec := { name := "fnExactBlocksWith", fn := fun _ => fun
  | [d1, d2] => { results := [.lit (.bool false)], args := [d1, d2] }
  | _ => none }
def FnExactBlocksWithWrongFalsely : Prop := fnExactBlocksWithRow.holds Tryd.pinned (OpenSpec.ofChange fnExactBlocksWithWrong)

/- THE SECOND FORM. 'bulk': how many values and letters a reading holds, each counted each time it is reached (what is shared counts as often as it is met; a slice's spare places count too). A statement '..UptoSaid' is the law's where the arguments, and the package variables that the reading takes, are together of bulk at most 1048576: NARROWER than '..Said'. Prove '..Said' where nothing that the law and all that it calls make is longer than what came in: it says more and counts as full. Else prove '..UptoSaid'. A law counts once. -/
mutual
def uptoBulk {H : Type} : DataW H → Nat
  | .lit (.string bytes) => bytes.length + 1
  | .lit _ => 1
  | .nil => 1
  | .ptr d => uptoBulk d + 1
  | .slice elems spare => uptoBulkAll elems + uptoBulkAll spare + 1
  | .agg parts => uptoBulkAll parts + 1
  | .iface _ d => uptoBulk d + 1
  | .map entries => uptoBulkEntries entries + 1
  | .held _ => 1
def uptoBulkAll {H : Type} : List (DataW H) → Nat
  | [] => 0
  | d :: r => uptoBulk d + uptoBulkAll r
def uptoBulkEntries {H : Type} : List (Lit × DataW H) → Nat
  | [] => 0
  | x :: r => uptoBulkEntry x + uptoBulkEntries r
def uptoBulkEntry {H : Type} : Lit × DataW H → Nat
  | (.string bytes, d) => bytes.length + uptoBulk d + 1
  | (_, d) => uptoBulk d + 1
 end
def uptoSmall : (H : Type) → List (DataW H) → Bool := fun _ ds => decide (uptoBulkAll ds ≤ 1048576)
def OpenSpec.upto (s : _root_.Go.ChangeSpec) : _root_.Go.OpenSpec := { _root_.Go.OpenSpec.ofChange s with cond := some uptoSmall }

/-- 'laws.FnCentreOf', WHERE WHAT IT READS IS OF BULK AT MOST 1048576: true; the input reads as it did. -/
def fnCentreOfUptoRow : OpenClaim := { program := "ytnbglbhfclohjaadoor", sum := "303d27cc7a01b5a4a41170f93a2a799bcdb01592c6953e7419114a30f64be5a7", func := "loop.example/orthologics/laws.FnCentreOf", spec := "fnCentreOf", unfollowed := true, recurses := true, named := ["math/bits.deBruijn32tab", "math/bits.deBruijn64tab"], apart := false, laid := [("math/bits.deBruijn32tab", laid_math_bits_deBruijn32tab), ("math/bits.deBruijn64tab", laid_math_bits_deBruijn64tab)], narrowed := true }
def FnCentreOfUptoSaid : Prop := fnCentreOfUptoRow.holds Tryd.pinned (OpenSpec.upto fnCentreOfSpec)

/-- 'laws.FnAgreeOk', WHERE WHAT IT READS IS OF BULK AT MOST 1048576: true; the input reads as it did. -/
def fnAgreeOkUptoRow : OpenClaim := { program := "ytnbglbhfclohjaadoor", sum := "303d27cc7a01b5a4a41170f93a2a799bcdb01592c6953e7419114a30f64be5a7", func := "loop.example/orthologics/laws.FnAgreeOk", spec := "fnAgreeOk", inPlace := ["slices.overlaps[int]"], unfollowed := true, recurses := true, named := ["math/bits.deBruijn32tab", "math/bits.deBruijn64tab"], apart := false, laid := [("math/bits.deBruijn32tab", laid_math_bits_deBruijn32tab), ("math/bits.deBruijn64tab", laid_math_bits_deBruijn64tab)], narrowed := true }
def FnAgreeOkUptoSaid : Prop := fnAgreeOkUptoRow.holds Tryd.pinned (OpenSpec.upto fnAgreeOkSpec)

/-- 'laws.FnBlocksOf', WHERE WHAT IT READS IS OF BULK AT MOST 1048576: true; the input reads as it did. -/
def fnBlocksOfUptoRow : OpenClaim := { program := "ytnbglbhfclohjaadoor", sum := "303d27cc7a01b5a4a41170f93a2a799bcdb01592c6953e7419114a30f64be5a7", func := "loop.example/orthologics/laws.FnBlocksOf", spec := "fnBlocksOf", inPlace := ["slices.overlaps[int]"], unfollowed := true, recurses := true, named := ["math/bits.deBruijn32tab", "math/bits.deBruijn64tab"], apart := false, laid := [("math/bits.deBruijn32tab", laid_math_bits_deBruijn32tab), ("math/bits.deBruijn64tab", laid_math_bits_deBruijn64tab)], narrowed := true }
def FnBlocksOfUptoSaid : Prop := fnBlocksOfUptoRow.holds Tryd.pinned (OpenSpec.upto fnBlocksOfSpec)

/-- 'laws.FnBooleanOk', WHERE WHAT IT READS IS OF BULK AT MOST 1048576: true; the input reads as it did. -/
def fnBooleanOkUptoRow : OpenClaim := { program := "ytnbglbhfclohjaadoor", sum := "303d27cc7a01b5a4a41170f93a2a799bcdb01592c6953e7419114a30f64be5a7", func := "loop.example/orthologics/laws.FnBooleanOk", spec := "fnBooleanOk", inPlace := ["slices.overlaps[int]"], unfollowed := true, recurses := true, named := ["math/bits.deBruijn32tab", "math/bits.deBruijn64tab"], apart := false, laid := [("math/bits.deBruijn32tab", laid_math_bits_deBruijn32tab), ("math/bits.deBruijn64tab", laid_math_bits_deBruijn64tab)], narrowed := true }
def FnBooleanOkUptoSaid : Prop := fnBooleanOkUptoRow.holds Tryd.pinned (OpenSpec.upto fnBooleanOkSpec)

/-- 'laws.FnBlocksWith', WHERE WHAT IT READS IS OF BULK AT MOST 1048576: true; the input reads as it did. -/
def fnBlocksWithUptoRow : OpenClaim := { program := "ytnbglbhfclohjaadoor", sum := "303d27cc7a01b5a4a41170f93a2a799bcdb01592c6953e7419114a30f64be5a7", func := "loop.example/orthologics/laws.FnBlocksWith", spec := "fnBlocksWith", inPlace := ["slices.overlaps[int]"], unfollowed := true, recurses := true, named := ["math/bits.deBruijn32tab", "math/bits.deBruijn64tab"], apart := false, laid := [("math/bits.deBruijn32tab", laid_math_bits_deBruijn32tab), ("math/bits.deBruijn64tab", laid_math_bits_deBruijn64tab)], narrowed := true }
def FnBlocksWithUptoSaid : Prop := fnBlocksWithUptoRow.holds Tryd.pinned (OpenSpec.upto fnBlocksWithSpec)

/-- 'laws.FnExactAgreeOk', WHERE WHAT IT READS IS OF BULK AT MOST 1048576: true; the input reads as it did. -/
def fnExactAgreeOkUptoRow : OpenClaim := { program := "ytnbglbhfclohjaadoor", sum := "303d27cc7a01b5a4a41170f93a2a799bcdb01592c6953e7419114a30f64be5a7", func := "loop.example/orthologics/laws.FnExactAgreeOk", spec := "fnExactAgreeOk", unfollowed := true, recurses := true, named := ["math/bits.deBruijn32tab", "math/bits.deBruijn64tab"], apart := false, laid := [("math/bits.deBruijn32tab", laid_math_bits_deBruijn32tab), ("math/bits.deBruijn64tab", laid_math_bits_deBruijn64tab)], narrowed := true }
def FnExactAgreeOkUptoSaid : Prop := fnExactAgreeOkUptoRow.holds Tryd.pinned (OpenSpec.upto fnExactAgreeOkSpec)

/-- 'laws.FnExactBlocksOf', WHERE WHAT IT READS IS OF BULK AT MOST 1048576: true; the input reads as it did. -/
def fnExactBlocksOfUptoRow : OpenClaim := { program := "ytnbglbhfclohjaadoor", sum := "303d27cc7a01b5a4a41170f93a2a799bcdb01592c6953e7419114a30f64be5a7", func := "loop.example/orthologics/laws.FnExactBlocksOf", spec := "fnExactBlocksOf", inPlace := ["slices.overlaps[int]"], unfollowed := true, recurses := true, named := ["math/bits.deBruijn32tab", "math/bits.deBruijn64tab"], apart := false, laid := [("math/bits.deBruijn32tab", laid_math_bits_deBruijn32tab), ("math/bits.deBruijn64tab", laid_math_bits_deBruijn64tab)], narrowed := true }
def FnExactBlocksOfUptoSaid : Prop := fnExactBlocksOfUptoRow.holds Tryd.pinned (OpenSpec.upto fnExactBlocksOfSpec)

/-- 'laws.FnExactBlocksWith', WHERE WHAT IT READS IS OF BULK AT MOST 1048576: true; the input reads as it did. -/
def fnExactBlocksWithUptoRow : OpenClaim := { program := "ytnbglbhfclohjaadoor", sum := "303d27cc7a01b5a4a41170f93a2a799bcdb01592c6953e7419114a30f64be5a7", func := "loop.example/orthologics/laws.FnExactBlocksWith", spec := "fnExactBlocksWith", unfollowed := true, recurses := true, named := ["math/bits.deBruijn32tab", "math/bits.deBruijn64tab"], apart := false, laid := [("math/bits.deBruijn32tab", laid_math_bits_deBruijn32tab), ("math/bits.deBruijn64tab", laid_math_bits_deBruijn64tab)], narrowed := true }
def FnExactBlocksWithUptoSaid : Prop := fnExactBlocksWithUptoRow.holds Tryd.pinned (OpenSpec.upto fnExactBlocksWithSpec)

end Rows
end Go.Proofs.YtnbglbhfclohjaaDoor
