/-
  No cell of these rows narrows 'for every input' (looked for: loops, veiled, ifaces, maps, wideKeys, modest, calm, conditions, laid).
  DERIVED. THE GIVEN ROWS OF THIS SEAT. 9 by the template 'for every input the law returns true; each argument reads behind the call as it read before'; 0 by the template 'total and deterministic' (their statements: YtanhogaekdcooaaTotals.lean).
  GIVEN WITH THE SEED: the statements are not yours to turn. If you find one false, say at which input.
  Laid BY PROGRAM, IN A SANDBOX (cutbox-rows.mjs): the forced cells as the released guide's own fill.sh prints them over the translation 3b6acc57a7c268dd… (all of the seat's roots in one cut). By AI agents, Wed Nov 11 2026. No macro, syntax, notation, axiom, sorry.
-/
import Derived.Test.YtanhogaekdcooaaChecked
import GoSem.Claim
import GoSem.ClaimJoined
import GoSem.ClaimMapViews
import Derived.JoinedTies
import Derived.KernelRfl
namespace Go.Proofs.Ytanhogaekdcooaa
/- THE CELL 'sum', in the pinned program and in every row, IS THE sha256 OF THE DUMP (.gsa) THAT YtanhogaekdcooaaProg.lean LOADS. Nothing in Lean hashes anything: it is a label: what it is worth is what the hold of that sum in a sandbox is worth. -/
noncomputable def Try.pinned : Pinned := { name := "ytanhogaekdcooaa", sum := "3b6acc57a7c268ddb388d559eaa604f96b35d5b51b407a717b8124db9d86bf4b", checked := Try.checked }
namespace Rows
def none {H : Type} : Left H := { results := [], args := [] }

/-- 'laws.FnModularOk': WHATEVER THE INPUT: true; the input reads as it did. -/
def fnModularOkSpec : ChangeSpec := { name := "fnModularOk", fn := fun _ => fun
  | [d] => { results := [.lit (.bool true)], args := [d] }
  | _ => none }
def fnModularOkRow : OpenClaim := { program := "ytanhogaekdcooaa", sum := "3b6acc57a7c268ddb388d559eaa604f96b35d5b51b407a717b8124db9d86bf4b", func := "loop.example/orthologics/laws.FnModularOk", spec := "fnModularOk", unfollowed := true, recurses := true, apart := false }
def FnModularOkSaid : Prop := fnModularOkRow.holds Try.pinned (OpenSpec.ofChange fnModularOkSpec)

/-- ITS FALSE NEIGHBOUR: 'it returns false'. Refute it at one input. -/
def fnModularOkWrong : ChangeSpec := { name := "fnModularOk", fn := fun _ => fun
  | [d] => { results := [.lit (.bool false)], args := [d] }
  | _ => none }
def FnModularOkWrongFalsely : Prop := fnModularOkRow.holds Try.pinned (OpenSpec.ofChange fnModularOkWrong)

/-- 'laws.FnPentagonOf': WHATEVER THE INPUT: true; the input reads as it did. -/
def fnPentagonOfSpec : ChangeSpec := { name := "fnPentagonOf", fn := fun _ => fun
  | [d] => { results := [.lit (.bool true)], args := [d] }
  | _ => none }
def fnPentagonOfRow : OpenClaim := { program := "ytanhogaekdcooaa", sum := "3b6acc57a7c268ddb388d559eaa604f96b35d5b51b407a717b8124db9d86bf4b", func := "loop.example/orthologics/laws.FnPentagonOf", spec := "fnPentagonOf", unfollowed := true, recurses := true, apart := false }
def FnPentagonOfSaid : Prop := fnPentagonOfRow.holds Try.pinned (OpenSpec.ofChange fnPentagonOfSpec)

/-- ITS FALSE NEIGHBOUR: 'it returns false'. Refute it at one input. -/
def fnPentagonOfWrong : ChangeSpec := { name := "fnPentagonOf", fn := fun _ => fun
  | [d] => { results := [.lit (.bool false)], args := [d] }
  | _ => none }
def FnPentagonOfWrongFalsely : Prop := fnPentagonOfRow.holds Try.pinned (OpenSpec.ofChange fnPentagonOfWrong)

/-- 'laws.FnHighOf': WHATEVER THE INPUT: true; the input reads as it did. -/
def fnHighOfSpec : ChangeSpec := { name := "fnHighOf", fn := fun _ => fun
  | [d] => { results := [.lit (.bool true)], args := [d] }
  | _ => none }
def fnHighOfRow : OpenClaim := { program := "ytanhogaekdcooaa", sum := "3b6acc57a7c268ddb388d559eaa604f96b35d5b51b407a717b8124db9d86bf4b", func := "loop.example/orthologics/laws.FnHighOf", spec := "fnHighOf", unfollowed := true, recurses := true, apart := false }
def FnHighOfSaid : Prop := fnHighOfRow.holds Try.pinned (OpenSpec.ofChange fnHighOfSpec)

/-- ITS FALSE NEIGHBOUR: 'it returns false'. Refute it at one input. -/
def fnHighOfWrong : ChangeSpec := { name := "fnHighOf", fn := fun _ => fun
  | [d] => { results := [.lit (.bool false)], args := [d] }
  | _ => none }
def FnHighOfWrongFalsely : Prop := fnHighOfRow.holds Try.pinned (OpenSpec.ofChange fnHighOfWrong)

/-- 'laws.FnAddsUpOk': WHATEVER THE INPUT: true; the input reads as it did. -/
def fnAddsUpOkSpec : ChangeSpec := { name := "fnAddsUpOk", fn := fun _ => fun
  | [d] => { results := [.lit (.bool true)], args := [d] }
  | _ => none }
def fnAddsUpOkRow : OpenClaim := { program := "ytanhogaekdcooaa", sum := "3b6acc57a7c268ddb388d559eaa604f96b35d5b51b407a717b8124db9d86bf4b", func := "loop.example/orthologics/laws.FnAddsUpOk", spec := "fnAddsUpOk", unfollowed := true, recurses := true, apart := false }
def FnAddsUpOkSaid : Prop := fnAddsUpOkRow.holds Try.pinned (OpenSpec.ofChange fnAddsUpOkSpec)

/-- ITS FALSE NEIGHBOUR: 'it returns false'. Refute it at one input. -/
def fnAddsUpOkWrong : ChangeSpec := { name := "fnAddsUpOk", fn := fun _ => fun
  | [d] => { results := [.lit (.bool false)], args := [d] }
  | _ => none }
def FnAddsUpOkWrongFalsely : Prop := fnAddsUpOkRow.holds Try.pinned (OpenSpec.ofChange fnAddsUpOkWrong)

/-- 'laws.FnExactBooleanOk': WHATEVER THE INPUT: true; the input reads as it did. -/
def fnExactBooleanOkSpec : ChangeSpec := { name := "fnExactBooleanOk", fn := fun _ => fun
  | [d] => { results := [.lit (.bool true)], args := [d] }
  | _ => none }
def fnExactBooleanOkRow : OpenClaim := { program := "ytanhogaekdcooaa", sum := "3b6acc57a7c268ddb388d559eaa604f96b35d5b51b407a717b8124db9d86bf4b", func := "loop.example/orthologics/laws.FnExactBooleanOk", spec := "fnExactBooleanOk", unfollowed := true, recurses := true, apart := false }
def FnExactBooleanOkSaid : Prop := fnExactBooleanOkRow.holds Try.pinned (OpenSpec.ofChange fnExactBooleanOkSpec)

/-- ITS FALSE NEIGHBOUR: 'it returns false'. Refute it at one input. -/
def fnExactBooleanOkWrong : ChangeSpec := { name := "fnExactBooleanOk", fn := fun _ => fun
  | [d] => { results := [.lit (.bool false)], args := [d] }
  | _ => none }
def FnExactBooleanOkWrongFalsely : Prop := fnExactBooleanOkRow.holds Try.pinned (OpenSpec.ofChange fnExactBooleanOkWrong)

/-- 'laws.FnExactModularOk': WHATEVER THE INPUT: true; the input reads as it did. -/
def fnExactModularOkSpec : ChangeSpec := { name := "fnExactModularOk", fn := fun _ => fun
  | [d] => { results := [.lit (.bool true)], args := [d] }
  | _ => none }
def fnExactModularOkRow : OpenClaim := { program := "ytanhogaekdcooaa", sum := "3b6acc57a7c268ddb388d559eaa604f96b35d5b51b407a717b8124db9d86bf4b", func := "loop.example/orthologics/laws.FnExactModularOk", spec := "fnExactModularOk", unfollowed := true, recurses := true, apart := false }
def FnExactModularOkSaid : Prop := fnExactModularOkRow.holds Try.pinned (OpenSpec.ofChange fnExactModularOkSpec)

/-- ITS FALSE NEIGHBOUR: 'it returns false'. Refute it at one input. -/
def fnExactModularOkWrong : ChangeSpec := { name := "fnExactModularOk", fn := fun _ => fun
  | [d] => { results := [.lit (.bool false)], args := [d] }
  | _ => none }
def FnExactModularOkWrongFalsely : Prop := fnExactModularOkRow.holds Try.pinned (OpenSpec.ofChange fnExactModularOkWrong)

/-- 'laws.FnExactPentagonOf': WHATEVER THE INPUT: true; the input reads as it did. -/
def fnExactPentagonOfSpec : ChangeSpec := { name := "fnExactPentagonOf", fn := fun _ => fun
  | [d] => { results := [.lit (.bool true)], args := [d] }
  | _ => none }
def fnExactPentagonOfRow : OpenClaim := { program := "ytanhogaekdcooaa", sum := "3b6acc57a7c268ddb388d559eaa604f96b35d5b51b407a717b8124db9d86bf4b", func := "loop.example/orthologics/laws.FnExactPentagonOf", spec := "fnExactPentagonOf", unfollowed := true, recurses := true, apart := false }
def FnExactPentagonOfSaid : Prop := fnExactPentagonOfRow.holds Try.pinned (OpenSpec.ofChange fnExactPentagonOfSpec)

/-- ITS FALSE NEIGHBOUR: 'it returns false'. Refute it at one input. -/
def fnExactPentagonOfWrong : ChangeSpec := { name := "fnExactPentagonOf", fn := fun _ => fun
  | [d] => { results := [.lit (.bool false)], args := [d] }
  | _ => none }
def FnExactPentagonOfWrongFalsely : Prop := fnExactPentagonOfRow.holds Try.pinned (OpenSpec.ofChange fnExactPentagonOfWrong)

/-- 'laws.FnExactHighOf': WHATEVER THE INPUT: true; the input reads as it did. -/
def fnExactHighOfSpec : ChangeSpec := { name := "fnExactHighOf", fn := fun _ => fun
  | [d1, d2] => { results := [.lit (.bool true)], args := [d1, d2] }
  | _ => none }
def fnExactHighOfRow : OpenClaim := { program := "ytanhogaekdcooaa", sum := "3b6acc57a7c268ddb388d559eaa604f96b35d5b51b407a717b8124db9d86bf4b", func := "loop.example/orthologics/laws.FnExactHighOf", spec := "fnExactHighOf", unfollowed := true, recurses := true, apart := false }
def FnExactHighOfSaid : Prop := fnExactHighOfRow.holds Try.pinned (OpenSpec.ofChange fnExactHighOfSpec)

/-- ITS FALSE NEIGHBOUR: 'it returns false'. Refute it at one input. -/
def fnExactHighOfWrong : ChangeSpec := { name := "fnExactHighOf", fn := fun _ => fun
  | [d1, d2] => { results := [.lit (.bool false)], args := [d1, d2] }
  | _ => none }
def FnExactHighOfWrongFalsely : Prop := fnExactHighOfRow.holds Try.pinned (OpenSpec.ofChange fnExactHighOfWrong)

/-- 'laws.FnExactAddsUpOk': WHATEVER THE INPUT: true; the input reads as it did. -/
def fnExactAddsUpOkSpec : ChangeSpec := { name := "fnExactAddsUpOk", fn := fun _ => fun
  | [d] => { results := [.lit (.bool true)], args := [d] }
  | _ => none }
def fnExactAddsUpOkRow : OpenClaim := { program := "ytanhogaekdcooaa", sum := "3b6acc57a7c268ddb388d559eaa604f96b35d5b51b407a717b8124db9d86bf4b", func := "loop.example/orthologics/laws.FnExactAddsUpOk", spec := "fnExactAddsUpOk", unfollowed := true, recurses := true, apart := false }
def FnExactAddsUpOkSaid : Prop := fnExactAddsUpOkRow.holds Try.pinned (OpenSpec.ofChange fnExactAddsUpOkSpec)

/-- ITS FALSE NEIGHBOUR: 'it returns false'. Refute it at one input. -/
def fnExactAddsUpOkWrong : ChangeSpec := { name := "fnExactAddsUpOk", fn := fun _ => fun
  | [d] => { results := [.lit (.bool false)], args := [d] }
  | _ => none }
def FnExactAddsUpOkWrongFalsely : Prop := fnExactAddsUpOkRow.holds Try.pinned (OpenSpec.ofChange fnExactAddsUpOkWrong)

/- THE SECOND FORM. 'bulk': how many values and letters a reading holds, each counted each time it is reached (what is shared counts as often as it is met; a slice's spare places count too). A statement '..UptoSaid' is the law's where the arguments, and the package variables that the reading takes, are together of bulk at most 1048576: NARROWER than '..Said'. Prove '..Said' where nothing that the law and all that it calls make is longer than what came in: it says more and counts as full. Else prove '..UptoSaid'. A law counts once. -/
mutual
def uptoBulk {H : Type} : DataW H → Nat
  | .lit (.string bytes) => bytes.length + 1
  | .lit _ => 1
  | .nil => 1
  | .ptr d => uptoBulk d + 1
  | .slice elems spare => uptoBulkAll elems + uptoBulkAll spare + 1
  | .agg parts => uptoBulkAll parts + 1
  | .iface _ d => uptoBulk d + 1
  | .map entries => uptoBulkEntries entries + 1
  | .held _ => 1
def uptoBulkAll {H : Type} : List (DataW H) → Nat
  | [] => 0
  | d :: r => uptoBulk d + uptoBulkAll r
def uptoBulkEntries {H : Type} : List (Lit × DataW H) → Nat
  | [] => 0
  | x :: r => uptoBulkEntry x + uptoBulkEntries r
def uptoBulkEntry {H : Type} : Lit × DataW H → Nat
  | (.string bytes, d) => bytes.length + uptoBulk d + 1
  | (_, d) => uptoBulk d + 1
 end
def uptoSmall : (H : Type) → List (DataW H) → Bool := fun _ ds => decide (uptoBulkAll ds ≤ 1048576)
def OpenSpec.upto (s : _root_.Go.ChangeSpec) : _root_.Go.OpenSpec := { _root_.Go.OpenSpec.ofChange s with cond := some uptoSmall }

/-- 'laws.FnModularOk', WHERE WHAT IT READS IS OF BULK AT MOST 1048576: true; the input reads as it did. -/
def fnModularOkUptoRow : OpenClaim := { program := "ytanhogaekdcooaa", sum := "3b6acc57a7c268ddb388d559eaa604f96b35d5b51b407a717b8124db9d86bf4b", func := "loop.example/orthologics/laws.FnModularOk", spec := "fnModularOk", unfollowed := true, recurses := true, apart := false, narrowed := true }
def FnModularOkUptoSaid : Prop := fnModularOkUptoRow.holds Try.pinned (OpenSpec.upto fnModularOkSpec)

/-- 'laws.FnPentagonOf', WHERE WHAT IT READS IS OF BULK AT MOST 1048576: true; the input reads as it did. -/
def fnPentagonOfUptoRow : OpenClaim := { program := "ytanhogaekdcooaa", sum := "3b6acc57a7c268ddb388d559eaa604f96b35d5b51b407a717b8124db9d86bf4b", func := "loop.example/orthologics/laws.FnPentagonOf", spec := "fnPentagonOf", unfollowed := true, recurses := true, apart := false, narrowed := true }
def FnPentagonOfUptoSaid : Prop := fnPentagonOfUptoRow.holds Try.pinned (OpenSpec.upto fnPentagonOfSpec)

/-- 'laws.FnHighOf', WHERE WHAT IT READS IS OF BULK AT MOST 1048576: true; the input reads as it did. -/
def fnHighOfUptoRow : OpenClaim := { program := "ytanhogaekdcooaa", sum := "3b6acc57a7c268ddb388d559eaa604f96b35d5b51b407a717b8124db9d86bf4b", func := "loop.example/orthologics/laws.FnHighOf", spec := "fnHighOf", unfollowed := true, recurses := true, apart := false, narrowed := true }
def FnHighOfUptoSaid : Prop := fnHighOfUptoRow.holds Try.pinned (OpenSpec.upto fnHighOfSpec)

/-- 'laws.FnAddsUpOk', WHERE WHAT IT READS IS OF BULK AT MOST 1048576: true; the input reads as it did. -/
def fnAddsUpOkUptoRow : OpenClaim := { program := "ytanhogaekdcooaa", sum := "3b6acc57a7c268ddb388d559eaa604f96b35d5b51b407a717b8124db9d86bf4b", func := "loop.example/orthologics/laws.FnAddsUpOk", spec := "fnAddsUpOk", unfollowed := true, recurses := true, apart := false, narrowed := true }
def FnAddsUpOkUptoSaid : Prop := fnAddsUpOkUptoRow.holds Try.pinned (OpenSpec.upto fnAddsUpOkSpec)

/-- 'laws.FnExactBooleanOk', WHERE WHAT IT READS IS OF BULK AT MOST 1048576: true; the input reads as it did. -/
def fnExactBooleanOkUptoRow : OpenClaim := { program := "ytanhogaekdcooaa", sum := "3b6acc57a7c268ddb388d559eaa604f96b35d5b51b407a717b8124db9d86bf4b", func := "loop.example/orthologics/laws.FnExactBooleanOk", spec := "fnExactBooleanOk", unfollowed := true, recurses := true, apart := false, narrowed := true }
def FnExactBooleanOkUptoSaid : Prop := fnExactBooleanOkUptoRow.holds Try.pinned (OpenSpec.upto fnExactBooleanOkSpec)

/-- 'laws.FnExactModularOk', WHERE WHAT IT READS IS OF BULK AT MOST 1048576: true; the input reads as it did. -/
def fnExactModularOkUptoRow : OpenClaim := { program := "ytanhogaekdcooaa", sum := "3b6acc57a7c268ddb388d559eaa604f96b35d5b51b407a717b8124db9d86bf4b", func := "loop.example/orthologics/laws.FnExactModularOk", spec := "fnExactModularOk", unfollowed := true, recurses := true, apart := false, narrowed := true }
def FnExactModularOkUptoSaid : Prop := fnExactModularOkUptoRow.holds Try.pinned (OpenSpec.upto fnExactModularOkSpec)

/-- 'laws.FnExactPentagonOf', WHERE WHAT IT READS IS OF BULK AT MOST 1048576: true; the input reads as it did. -/
def fnExactPentagonOfUptoRow : OpenClaim := { program := "ytanhogaekdcooaa", sum := "3b6acc57a7c268ddb388d559eaa604f96b35d5b51b407a717b8124db9d86bf4b", func := "loop.example/orthologics/laws.FnExactPentagonOf", spec := "fnExactPentagonOf", unfollowed := true, recurses := true, apart := false, narrowed := true }
def FnExactPentagonOfUptoSaid : Prop := fnExactPentagonOfUptoRow.holds Try.pinned (OpenSpec.upto fnExactPentagonOfSpec)

/-- 'laws.FnExactHighOf', WHERE WHAT IT READS IS OF BULK AT MOST 1048576: true; the input reads as it did. -/
def fnExactHighOfUptoRow : OpenClaim := { program := "ytanhogaekdcooaa", sum := "3b6acc57a7c268ddb388d559eaa604f96b35d5b51b407a717b8124db9d86bf4b", func := "loop.example/orthologics/laws.FnExactHighOf", spec := "fnExactHighOf", unfollowed := true, recurses := true, apart := false, narrowed := true }
def FnExactHighOfUptoSaid : Prop := fnExactHighOfUptoRow.holds Try.pinned (OpenSpec.upto fnExactHighOfSpec)

/-- 'laws.FnExactAddsUpOk', WHERE WHAT IT READS IS OF BULK AT MOST 1048576: true; the input reads as it did. -/
def fnExactAddsUpOkUptoRow : OpenClaim := { program := "ytanhogaekdcooaa", sum := "3b6acc57a7c268ddb388d559eaa604f96b35d5b51b407a717b8124db9d86bf4b", func := "loop.example/orthologics/laws.FnExactAddsUpOk", spec := "fnExactAddsUpOk", unfollowed := true, recurses := true, apart := false, narrowed := true }
def FnExactAddsUpOkUptoSaid : Prop := fnExactAddsUpOkUptoRow.holds Try.pinned (OpenSpec.upto fnExactAddsUpOkSpec)

end Rows
end Go.Proofs.Ytanhogaekdcooaa
