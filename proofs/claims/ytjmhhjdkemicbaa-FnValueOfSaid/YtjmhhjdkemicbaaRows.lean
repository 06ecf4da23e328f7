/-
  No cell of these rows narrows 'for every input' (looked for: loops, veiled, ifaces, maps, wideKeys, modest, calm, conditions, laid).
  DERIVED. THE GIVEN ROWS OF THIS SEAT. 8 by the template 'for every input the law returns true; each argument reads behind the call as it read before'; 0 by the template 'total and deterministic' (their statements: YtjmhhjdkemicbaaTotals.lean).
  GIVEN WITH THE SEED: the statements are not yours to turn. If you find one false, say at which input.
  Laid BY PROGRAM, IN A SANDBOX (cutbox-rows.mjs): the forced cells as the released guide's own fill.sh prints them over the translation e90bcc757efadf92… (all of the seat's roots in one cut). By AI agents, Wed Nov 11 2026. No macro, syntax, notation, axiom, sorry.
-/
import Derived.Test.YtjmhhjdkemicbaaChecked
import GoSem.Claim
import GoSem.ClaimJoined
import GoSem.ClaimMapViews
import Derived.JoinedTies
import Derived.KernelRfl
namespace Go.Proofs.Ytjmhhjdkemicbaa
/- THE CELL 'sum', in the pinned program and in every row, IS THE sha256 OF THE DUMP (.gsa) THAT YtjmhhjdkemicbaaProg.lean LOADS. Nothing in Lean hashes anything: it is a label: what it is worth is what the hold of that sum in a sandbox is worth. -/
noncomputable def Try.pinned : Pinned := { name := "ytjmhhjdkemicbaa", sum := "e90bcc757efadf92da12a3e359b739680feb89a23233072ec3bf014535bfea8f", checked := Try.checked }
namespace Rows
def none {H : Type} : Left H := { results := [], args := [] }

/-- 'laws.FnFormulaOk': WHATEVER THE INPUT: true; the input reads as it did. -/
def fnFormulaOkSpec : ChangeSpec := { name := "fnFormulaOk", fn := fun _ => fun
  | [d] => { results := [.lit (.bool true)], args := [d] }
  | _ => none }
def fnFormulaOkRow : OpenClaim := { program := "ytjmhhjdkemicbaa", sum := "e90bcc757efadf92da12a3e359b739680feb89a23233072ec3bf014535bfea8f", func := "loop.example/orthologics/laws.FnFormulaOk", spec := "fnFormulaOk", inPlace := ["internal/bytealg.IndexByteString"], unfollowed := true, recurses := true, apart := false }
def FnFormulaOkSaid : Prop := fnFormulaOkRow.holds Try.pinned (OpenSpec.ofChange fnFormulaOkSpec)

/-- ITS FALSE NEIGHBOUR: 'it returns false'. Refute it at one input. -/
def fnFormulaOkWrong : ChangeSpec := { name := "fnFormulaOk", fn := fun _ => fun
  | [d] => { results := [.lit (.bool false)], args := [d] }
  | _ => none }
def FnFormulaOkWrongFalsely : Prop := fnFormulaOkRow.holds Try.pinned (OpenSpec.ofChange fnFormulaOkWrong)

/-- 'laws.FnValueOf': WHATEVER THE INPUT: true; the input reads as it did. -/
def fnValueOfSpec : ChangeSpec := { name := "fnValueOf", fn := fun _ => fun
  | [d] => { results := [.lit (.bool true)], args := [d] }
  | _ => none }
def fnValueOfRow : OpenClaim := { program := "ytjmhhjdkemicbaa", sum := "e90bcc757efadf92da12a3e359b739680feb89a23233072ec3bf014535bfea8f", func := "loop.example/orthologics/laws.FnValueOf", spec := "fnValueOf", inPlace := ["internal/bytealg.IndexByteString"], unfollowed := true, recurses := true, apart := false }
def FnValueOfSaid : Prop := fnValueOfRow.holds Try.pinned (OpenSpec.ofChange fnValueOfSpec)

/-- ITS FALSE NEIGHBOUR: 'it returns false'. Refute it at one input. -/
def fnValueOfWrong : ChangeSpec := { name := "fnValueOf", fn := fun _ => fun
  | [d] => { results := [.lit (.bool false)], args := [d] }
  | _ => none }
def FnValueOfWrongFalsely : Prop := fnValueOfRow.holds Try.pinned (OpenSpec.ofChange fnValueOfWrong)

/-- 'laws.FnDualOf': WHATEVER THE INPUT: true; the input reads as it did. -/
def fnDualOfSpec : ChangeSpec := { name := "fnDualOf", fn := fun _ => fun
  | [d1, d2] => { results := [.lit (.bool true)], args := [d1, d2] }
  | _ => none }
def fnDualOfRow : OpenClaim := { program := "ytjmhhjdkemicbaa", sum := "e90bcc757efadf92da12a3e359b739680feb89a23233072ec3bf014535bfea8f", func := "loop.example/orthologics/laws.FnDualOf", spec := "fnDualOf", inPlace := ["internal/bytealg.IndexByteString"], unfollowed := true, recurses := true, apart := false }
def FnDualOfSaid : Prop := fnDualOfRow.holds Try.pinned (OpenSpec.ofChange fnDualOfSpec)

/-- ITS FALSE NEIGHBOUR: 'it returns false'. Refute it at one input. -/
def fnDualOfWrong : ChangeSpec := { name := "fnDualOf", fn := fun _ => fun
  | [d1, d2] => { results := [.lit (.bool false)], args := [d1, d2] }
  | _ => none }
def FnDualOfWrongFalsely : Prop := fnDualOfRow.holds Try.pinned (OpenSpec.ofChange fnDualOfWrong)

/-- 'laws.FnExactFormulaOk': WHATEVER THE INPUT: true; the input reads as it did. -/
def fnExactFormulaOkSpec : ChangeSpec := { name := "fnExactFormulaOk", fn := fun _ => fun
  | [d] => { results := [.lit (.bool true)], args := [d] }
  | _ => none }
def fnExactFormulaOkRow : OpenClaim := { program := "ytjmhhjdkemicbaa", sum := "e90bcc757efadf92da12a3e359b739680feb89a23233072ec3bf014535bfea8f", func := "loop.example/orthologics/laws.FnExactFormulaOk", spec := "fnExactFormulaOk", inPlace := ["internal/bytealg.IndexByteString"], recurses := true, apart := false }
def FnExactFormulaOkSaid : Prop := fnExactFormulaOkRow.holds Try.pinned (OpenSpec.ofChange fnExactFormulaOkSpec)

/-- ITS FALSE NEIGHBOUR: 'it returns false'. Refute it at one input. -/
def fnExactFormulaOkWrong : ChangeSpec := { name := "fnExactFormulaOk", fn := fun _ => fun
  | [d] => { results := [.lit (.bool false)], args := [d] }
  | _ => none }
def FnExactFormulaOkWrongFalsely : Prop := fnExactFormulaOkRow.holds Try.pinned (OpenSpec.ofChange fnExactFormulaOkWrong)

/-- 'laws.FnExactValueOf': WHATEVER THE INPUT: true; the input reads as it did. -/
def fnExactValueOfSpec : ChangeSpec := { name := "fnExactValueOf", fn := fun _ => fun
  | [d1, d2, d3, d4, d5] => { results := [.lit (.bool true)], args := [d1, d2, d3, d4, d5] }
  | _ => none }
def fnExactValueOfRow : OpenClaim := { program := "ytjmhhjdkemicbaa", sum := "e90bcc757efadf92da12a3e359b739680feb89a23233072ec3bf014535bfea8f", func := "loop.example/orthologics/laws.FnExactValueOf", spec := "fnExactValueOf", inPlace := ["internal/bytealg.IndexByteString"], unfollowed := true, recurses := true, apart := false }
def FnExactValueOfSaid : Prop := fnExactValueOfRow.holds Try.pinned (OpenSpec.ofChange fnExactValueOfSpec)

/-- ITS FALSE NEIGHBOUR: 'it returns false'. Refute it at one input. -/
def fnExactValueOfWrong : ChangeSpec := { name := "fnExactValueOf", fn := fun _ => fun
  | [d1, d2, d3, d4, d5] => { results := [.lit (.bool false)], args := [d1, d2, d3, d4, d5] }
  | _ => none }
def FnExactValueOfWrongFalsely : Prop := fnExactValueOfRow.holds Try.pinned (OpenSpec.ofChange fnExactValueOfWrong)

/-- 'laws.FnExactAlwaysOk': WHATEVER THE INPUT: true; the input reads as it did. -/
def fnExactAlwaysOkSpec : ChangeSpec := { name := "fnExactAlwaysOk", fn := fun _ => fun
  | [d1, d2] => { results := [.lit (.bool true)], args := [d1, d2] }
  | _ => none }
def fnExactAlwaysOkRow : OpenClaim := { program := "ytjmhhjdkemicbaa", sum := "e90bcc757efadf92da12a3e359b739680feb89a23233072ec3bf014535bfea8f", func := "loop.example/orthologics/laws.FnExactAlwaysOk", spec := "fnExactAlwaysOk", inPlace := ["internal/bytealg.IndexByteString"], unfollowed := true, recurses := true, apart := false }
def FnExactAlwaysOkSaid : Prop := fnExactAlwaysOkRow.holds Try.pinned (OpenSpec.ofChange fnExactAlwaysOkSpec)

/-- ITS FALSE NEIGHBOUR: 'it returns false'. Refute it at one input. -/
def fnExactAlwaysOkWrong : ChangeSpec := { name := "fnExactAlwaysOk", fn := fun _ => fun
  | [d1, d2] => { results := [.lit (.bool false)], args := [d1, d2] }
  | _ => none }
def FnExactAlwaysOkWrongFalsely : Prop := fnExactAlwaysOkRow.holds Try.pinned (OpenSpec.ofChange fnExactAlwaysOkWrong)

/-- 'laws.FnExactSameOk': WHATEVER THE INPUT: true; the input reads as it did. -/
def fnExactSameOkSpec : ChangeSpec := { name := "fnExactSameOk", fn := fun _ => fun
  | [d1, d2, d3] => { results := [.lit (.bool true)], args := [d1, d2, d3] }
  | _ => none }
def fnExactSameOkRow : OpenClaim := { program := "ytjmhhjdkemicbaa", sum := "e90bcc757efadf92da12a3e359b739680feb89a23233072ec3bf014535bfea8f", func := "loop.example/orthologics/laws.FnExactSameOk", spec := "fnExactSameOk", inPlace := ["internal/bytealg.IndexByteString"], unfollowed := true, recurses := true, apart := false }
def FnExactSameOkSaid : Prop := fnExactSameOkRow.holds Try.pinned (OpenSpec.ofChange fnExactSameOkSpec)

/-- ITS FALSE NEIGHBOUR: 'it returns false'. Refute it at one input. -/
def fnExactSameOkWrong : ChangeSpec := { name := "fnExactSameOk", fn := fun _ => fun
  | [d1, d2, d3] => { results := [.lit (.bool false)], args := [d1, d2, d3] }
  | _ => none }
def FnExactSameOkWrongFalsely : Prop := fnExactSameOkRow.holds Try.pinned (OpenSpec.ofChange fnExactSameOkWrong)

/-- 'laws.FnExactDualOf': WHATEVER THE INPUT: true; the input reads as it did. -/
def fnExactDualOfSpec : ChangeSpec := { name := "fnExactDualOf", fn := fun _ => fun
  | [d] => { results := [.lit (.bool true)], args := [d] }
  | _ => none }
def fnExactDualOfRow : OpenClaim := { program := "ytjmhhjdkemicbaa", sum := "e90bcc757efadf92da12a3e359b739680feb89a23233072ec3bf014535bfea8f", func := "loop.example/orthologics/laws.FnExactDualOf", spec := "fnExactDualOf", inPlace := ["internal/bytealg.IndexByteString"], unfollowed := true, recurses := true, apart := false }
def FnExactDualOfSaid : Prop := fnExactDualOfRow.holds Try.pinned (OpenSpec.ofChange fnExactDualOfSpec)

/-- ITS FALSE NEIGHBOUR: 'it returns false'. Refute it at one input. -/
def fnExactDualOfWrong : ChangeSpec := { name := "fnExactDualOf", fn := fun _ => fun
  | [d] => { results := [.lit (.bool false)], args := [d] }
  | _ => none }
def FnExactDualOfWrongFalsely : Prop := fnExactDualOfRow.holds Try.pinned (OpenSpec.ofChange fnExactDualOfWrong)

/- THE SECOND FORM. 'bulk': how many values and letters a reading holds, each counted each time it is reached (what is shared counts as often as it is met; a slice's spare places count too). A statement '..UptoSaid' is the law's where the arguments, and the package variables that the reading takes, are together of bulk at most 1048576: NARROWER than '..Said'. Prove '..Said' where nothing that the law and all that it calls make is longer than what came in: it says more and counts as full. Else prove '..UptoSaid'. A law counts once. -/
mutual
def uptoBulk {H : Type} : DataW H → Nat
  | .lit (.string bytes) => bytes.length + 1
  | .lit _ => 1
  | .nil => 1
  | .ptr d => uptoBulk d + 1
  | .slice elems spare => uptoBulkAll elems + uptoBulkAll spare + 1
  | .agg parts => uptoBulkAll parts + 1
  | .iface _ d => uptoBulk d + 1
  | .map entries => uptoBulkEntries entries + 1
  | .held _ => 1
def uptoBulkAll {H : Type} : List (DataW H) → Nat
  | [] => 0
  | d :: r => uptoBulk d + uptoBulkAll r
def uptoBulkEntries {H : Type} : List (Lit × DataW H) → Nat
  | [] => 0
  | x :: r => uptoBulkEntry x + uptoBulkEntries r
def uptoBulkEntry {H : Type} : Lit × DataW H → Nat
  | (.string bytes, d) => bytes.length + uptoBulk d + 1
  | (_, d) => uptoBulk d + 1
 end
def uptoSmall : (H : Type) → List (DataW H) → Bool := fun _ ds => decide (uptoBulkAll ds ≤ 1048576)
def OpenSpec.upto (s : _root_.Go.ChangeSpec) : _root_.Go.OpenSpec := { _root_.Go.OpenSpec.ofChange s with cond := some uptoSmall }

/-- 'laws.FnFormulaOk', WHERE WHAT IT READS IS OF BULK AT MOST 1048576: true; the input reads as it did. -/
def fnFormulaOkUptoRow : OpenClaim := { program := "ytjmhhjdkemicbaa", sum := "e90bcc757efadf92da12a3e359b739680feb89a23233072ec3bf014535bfea8f", func := "loop.example/orthologics/laws.FnFormulaOk", spec := "fnFormulaOk", inPlace := ["internal/bytealg.IndexByteString"], unfollowed := true, recurses := true, apart := false, narrowed := true }
def FnFormulaOkUptoSaid : Prop := fnFormulaOkUptoRow.holds Try.pinned (OpenSpec.upto fnFormulaOkSpec)

/-- 'laws.FnValueOf', WHERE WHAT IT READS IS OF BULK AT MOST 1048576: true; the input reads as it did. -/
def fnValueOfUptoRow : OpenClaim := { program := "ytjmhhjdkemicbaa", sum := "e90bcc757efadf92da12a3e359b739680feb89a23233072ec3bf014535bfea8f", func := "loop.example/orthologics/laws.FnValueOf", spec := "fnValueOf", inPlace := ["internal/bytealg.IndexByteString"], unfollowed := true, recurses := true, apart := false, narrowed := true }
def FnValueOfUptoSaid : Prop := fnValueOfUptoRow.holds Try.pinned (OpenSpec.upto fnValueOfSpec)

/-- 'laws.FnDualOf', WHERE WHAT IT READS IS OF BULK AT MOST 1048576: true; the input reads as it did. -/
def fnDualOfUptoRow : OpenClaim := { program := "ytjmhhjdkemicbaa", sum := "e90bcc757efadf92da12a3e359b739680feb89a23233072ec3bf014535bfea8f", func := "loop.example/orthologics/laws.FnDualOf", spec := "fnDualOf", inPlace := ["internal/bytealg.IndexByteString"], unfollowed := true, recurses := true, apart := false, narrowed := true }
def FnDualOfUptoSaid : Prop := fnDualOfUptoRow.holds Try.pinned (OpenSpec.upto fnDualOfSpec)

/-- 'laws.FnExactFormulaOk', WHERE WHAT IT READS IS OF BULK AT MOST 1048576: true; the input reads as it did. -/
def fnExactFormulaOkUptoRow : OpenClaim := { program := "ytjmhhjdkemicbaa", sum := "e90bcc757efadf92da12a3e359b739680feb89a23233072ec3bf014535bfea8f", func := "loop.example/orthologics/laws.FnExactFormulaOk", spec := "fnExactFormulaOk", inPlace := ["internal/bytealg.IndexByteString"], recurses := true, apart := false, narrowed := true }
def FnExactFormulaOkUptoSaid : Prop := fnExactFormulaOkUptoRow.holds Try.pinned (OpenSpec.upto fnExactFormulaOkSpec)

/-- 'laws.FnExactValueOf', WHERE WHAT IT READS IS OF BULK AT MOST 1048576: true; the input reads as it did. -/
def fnExactValueOfUptoRow : OpenClaim := { program := "ytjmhhjdkemicbaa", sum := "e90bcc757efadf92da12a3e359b739680feb89a23233072ec3bf014535bfea8f", func := "loop.example/orthologics/laws.FnExactValueOf", spec := "fnExactValueOf", inPlace := ["internal/bytealg.IndexByteString"], unfollowed := true, recurses := true, apart := false, narrowed := true }
def FnExactValueOfUptoSaid : Prop := fnExactValueOfUptoRow.holds Try.pinned (OpenSpec.upto fnExactValueOfSpec)

/-- 'laws.FnExactAlwaysOk', WHERE WHAT IT READS IS OF BULK AT MOST 1048576: true; the input reads as it did. -/
def fnExactAlwaysOkUptoRow : OpenClaim := { program := "ytjmhhjdkemicbaa", sum := "e90bcc757efadf92da12a3e359b739680feb89a23233072ec3bf014535bfea8f", func := "loop.example/orthologics/laws.FnExactAlwaysOk", spec := "fnExactAlwaysOk", inPlace := ["internal/bytealg.IndexByteString"], unfollowed := true, recurses := true, apart := false, narrowed := true }
def FnExactAlwaysOkUptoSaid : Prop := fnExactAlwaysOkUptoRow.holds Try.pinned (OpenSpec.upto fnExactAlwaysOkSpec)

/-- 'laws.FnExactSameOk', WHERE WHAT IT READS IS OF BULK AT MOST 1048576: true; the input reads as it did. -/
def fnExactSameOkUptoRow : OpenClaim := { program := "ytjmhhjdkemicbaa", sum := "e90bcc757efadf92da12a3e359b739680feb89a23233072ec3bf014535bfea8f", func := "loop.example/orthologics/laws.FnExactSameOk", spec := "fnExactSameOk", inPlace := ["internal/bytealg.IndexByteString"], unfollowed := true, recurses := true, apart := false, narrowed := true }
def FnExactSameOkUptoSaid : Prop := fnExactSameOkUptoRow.holds Try.pinned (OpenSpec.upto fnExactSameOkSpec)

/-- 'laws.FnExactDualOf', WHERE WHAT IT READS IS OF BULK AT MOST 1048576: true; the input reads as it did. -/
def fnExactDualOfUptoRow : OpenClaim := { program := "ytjmhhjdkemicbaa", sum := "e90bcc757efadf92da12a3e359b739680feb89a23233072ec3bf014535bfea8f", func := "loop.example/orthologics/laws.FnExactDualOf", spec := "fnExactDualOf", inPlace := ["internal/bytealg.IndexByteString"], unfollowed := true, recurses := true, apart := false, narrowed := true }
def FnExactDualOfUptoSaid : Prop := fnExactDualOfUptoRow.holds Try.pinned (OpenSpec.upto fnExactDualOfSpec)

end Rows
end Go.Proofs.Ytjmhhjdkemicbaa
