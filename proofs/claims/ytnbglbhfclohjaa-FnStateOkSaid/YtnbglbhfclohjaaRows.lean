/-
  No cell of these rows narrows 'for every input' (looked for: loops, veiled, ifaces, maps, wideKeys, modest, calm, conditions, laid).
  DERIVED. THE GIVEN ROWS OF THIS SEAT. 5 by the template 'for every input the law returns true; each argument reads behind the call as it read before'; 0 by the template 'total and deterministic' (their statements: YtnbglbhfclohjaaTotals.lean).
  GIVEN WITH THE SEED: the statements are not yours to turn. If you find one false, say at which input.
  Laid BY PROGRAM, IN A SANDBOX (cutbox-rows.mjs): the forced cells as the released guide's own fill.sh prints them over the translation b91ac3aa9ce49540… (all of the seat's roots in one cut). By AI agents, Wed Nov 11 2026. No macro, syntax, notation, axiom, sorry.
-/
import Derived.Test.YtnbglbhfclohjaaChecked
import GoSem.Claim
import GoSem.ClaimJoined
import GoSem.ClaimMapViews
import Derived.JoinedTies
import Derived.KernelRfl
namespace Go.Proofs.Ytnbglbhfclohjaa
/- THE CELL 'sum', in the pinned program and in every row, IS THE sha256 OF THE DUMP (.gsa) THAT YtnbglbhfclohjaaProg.lean LOADS. Nothing in Lean hashes anything: it is a label: what it is worth is what the hold of that sum in a sandbox is worth. -/
noncomputable def Try.pinned : Pinned := { name := "ytnbglbhfclohjaa", sum := "b91ac3aa9ce49540f8ed88803ef442e3372fa2ed04f7161fddcba644d71fba82", checked := Try.checked }
namespace Rows
def none {H : Type} : Left H := { results := [], args := [] }

/-- 'laws.FnBothWaysOk': WHATEVER THE INPUT: true; the input reads as it did. -/
def fnBothWaysOkSpec : ChangeSpec := { name := "fnBothWaysOk", fn := fun _ => fun
  | [d] => { results := [.lit (.bool true)], args := [d] }
  | _ => none }
def fnBothWaysOkRow : OpenClaim := { program := "ytnbglbhfclohjaa", sum := "b91ac3aa9ce49540f8ed88803ef442e3372fa2ed04f7161fddcba644d71fba82", func := "loop.example/orthologics/laws.FnBothWaysOk", spec := "fnBothWaysOk", unfollowed := true, recurses := true, apart := false }
def FnBothWaysOkSaid : Prop := fnBothWaysOkRow.holds Try.pinned (OpenSpec.ofChange fnBothWaysOkSpec)

/-- ITS FALSE NEIGHBOUR: 'it returns false'. Refute it at one input. -/
def fnBothWaysOkWrong : ChangeSpec := { name := "fnBothWaysOk", fn := fun _ => fun
  | [d] => { results := [.lit (.bool false)], args := [d] }
  | _ => none }
def FnBothWaysOkWrongFalsely : Prop := fnBothWaysOkRow.holds Try.pinned (OpenSpec.ofChange fnBothWaysOkWrong)

/-- 'laws.FnStateOk': WHATEVER THE INPUT: true; the input reads as it did. -/
def fnStateOkSpec : ChangeSpec := { name := "fnStateOk", fn := fun _ => fun
  | [d] => { results := [.lit (.bool true)], args := [d] }
  | _ => none }
def fnStateOkRow : OpenClaim := { program := "ytnbglbhfclohjaa", sum := "b91ac3aa9ce49540f8ed88803ef442e3372fa2ed04f7161fddcba644d71fba82", func := "loop.example/orthologics/laws.FnStateOk", spec := "fnStateOk", unfollowed := true, recurses := true, apart := false }
def FnStateOkSaid : Prop := fnStateOkRow.holds Try.pinned (OpenSpec.ofChange fnStateOkSpec)

/-- ITS FALSE NEIGHBOUR: 'it returns false'. Refute it at one input. -/
def fnStateOkWrong : ChangeSpec := { name := "fnStateOk", fn := fun _ => fun
  | [d] => { results := [.lit (.bool false)], args := [d] }
  | _ => none }
def FnStateOkWrongFalsely : Prop := fnStateOkRow.holds Try.pinned (OpenSpec.ofChange fnStateOkWrong)

/-- 'laws.FnExactBothWaysOk': WHATEVER THE INPUT: true; the input reads as it did. -/
def fnExactBothWaysOkSpec : ChangeSpec := { name := "fnExactBothWaysOk", fn := fun _ => fun
  | [d] => { results := [.lit (.bool true)], args := [d] }
  | _ => none }
def fnExactBothWaysOkRow : OpenClaim := { program := "ytnbglbhfclohjaa", sum := "b91ac3aa9ce49540f8ed88803ef442e3372fa2ed04f7161fddcba644d71fba82", func := "loop.example/orthologics/laws.FnExactBothWaysOk", spec := "fnExactBothWaysOk", unfollowed := true, recurses := true, apart := false }
def FnExactBothWaysOkSaid : Prop := fnExactBothWaysOkRow.holds Try.pinned (OpenSpec.ofChange fnExactBothWaysOkSpec)

/-- ITS FALSE NEIGHBOUR: 'it returns false'. Refute it at one input. -/
def fnExactBothWaysOkWrong : ChangeSpec := { name := "fnExactBothWaysOk", fn := fun _ => fun
  | [d] => { results := [.lit (.bool false)], args := [d] }
  | _ => none }
def FnExactBothWaysOkWrongFalsely : Prop := fnExactBothWaysOkRow.holds Try.pinned (OpenSpec.ofChange fnExactBothWaysOkWrong)

/-- 'laws.FnExactCentreOf': WHATEVER THE INPUT: true; the input reads as it did. -/
def fnExactCentreOfSpec : ChangeSpec := { name := "fnExactCentreOf", fn := fun _ => fun
  | [d] => { results := [.lit (.bool true)], args := [d] }
  | _ => none }
def fnExactCentreOfRow : OpenClaim := { program := "ytnbglbhfclohjaa", sum := "b91ac3aa9ce49540f8ed88803ef442e3372fa2ed04f7161fddcba644d71fba82", func := "loop.example/orthologics/laws.FnExactCentreOf", spec := "fnExactCentreOf", unfollowed := true, recurses := true, apart := false }
def FnExactCentreOfSaid : Prop := fnExactCentreOfRow.holds Try.pinned (OpenSpec.ofChange fnExactCentreOfSpec)

/-- ITS FALSE NEIGHBOUR: 'it returns false'. Refute it at one input. -/
def fnExactCentreOfWrong : ChangeSpec := { name := "fnExactCentreOf", fn := fun _ => fun
  | [d] => { results := [.lit (.bool false)], args := [d] }
  | _ => none }
def FnExactCentreOfWrongFalsely : Prop := fnExactCentreOfRow.holds Try.pinned (OpenSpec.ofChange fnExactCentreOfWrong)

/-- 'laws.FnExactStateOk': WHATEVER THE INPUT: true; the input reads as it did. -/
def fnExactStateOkSpec : ChangeSpec := { name := "fnExactStateOk", fn := fun _ => fun
  | [d1, d2] => { results := [.lit (.bool true)], args := [d1, d2] }
  | _ => none }
def fnExactStateOkRow : OpenClaim := { program := "ytnbglbhfclohjaa", sum := "b91ac3aa9ce49540f8ed88803ef442e3372fa2ed04f7161fddcba644d71fba82", func := "loop.example/orthologics/laws.FnExactStateOk", spec := "fnExactStateOk", unfollowed := true, recurses := true, apart := false }
def FnExactStateOkSaid : Prop := fnExactStateOkRow.holds Try.pinned (OpenSpec.ofChange fnExactStateOkSpec)

/-- ITS FALSE NEIGHBOUR: 'it returns false'. Refute it at one input. -/
def fnExactStateOkWrong : ChangeSpec := { name := "fnExactStateOk", fn := fun _ => fun
  | [d1, d2] => { results := [.lit (.bool false)], args := [d1, d2] }
  | _ => none }
def FnExactStateOkWrongFalsely : Prop := fnExactStateOkRow.holds Try.pinned (OpenSpec.ofChange fnExactStateOkWrong)

/- THE SECOND FORM. 'bulk': how many values and letters a reading holds, each counted each time it is reached (what is shared counts as often as it is met; a slice's spare places count too). A statement '..UptoSaid' is the law's where the arguments, and the package variables that the reading takes, are together of bulk at most 1048576: NARROWER than '..Said'. Prove '..Said' where nothing that the law and all that it calls make is longer than what came in: it says more and counts as full. Else prove '..UptoSaid'. A law counts once. -/
mutual
def uptoBulk {H : Type} : DataW H → Nat
  | .lit (.string bytes) => bytes.length + 1
  | .lit _ => 1
  | .nil => 1
  | .ptr d => uptoBulk d + 1
  | .slice elems spare => uptoBulkAll elems + uptoBulkAll spare + 1
  | .agg parts => uptoBulkAll parts + 1
  | .iface _ d => uptoBulk d + 1
  | .map entries => uptoBulkEntries entries + 1
  | .held _ => 1
def uptoBulkAll {H : Type} : List (DataW H) → Nat
  | [] => 0
  | d :: r => uptoBulk d + uptoBulkAll r
def uptoBulkEntries {H : Type} : List (Lit × DataW H) → Nat
  | [] => 0
  | x :: r => uptoBulkEntry x + uptoBulkEntries r
def uptoBulkEntry {H : Type} : Lit × DataW H → Nat
  | (.string bytes, d) => bytes.length + uptoBulk d + 1
  | (_, d) => uptoBulk d + 1
 end
def uptoSmall : (H : Type) → List (DataW H) → Bool := fun _ ds => decide (uptoBulkAll ds ≤ 1048576)
def OpenSpec.upto (s : _root_.Go.ChangeSpec) : _root_.Go.OpenSpec := { _root_.Go.OpenSpec.ofChange s with cond := some uptoSmall }

/-- 'laws.FnBothWaysOk', WHERE WHAT IT READS IS OF BULK AT MOST 1048576: true; the input reads as it did. -/
def fnBothWaysOkUptoRow : OpenClaim := { program := "ytnbglbhfclohjaa", sum := "b91ac3aa9ce49540f8ed88803ef442e3372fa2ed04f7161fddcba644d71fba82", func := "loop.example/orthologics/laws.FnBothWaysOk", spec := "fnBothWaysOk", unfollowed := true, recurses := true, apart := false, narrowed := true }
def FnBothWaysOkUptoSaid : Prop := fnBothWaysOkUptoRow.holds Try.pinned (OpenSpec.upto fnBothWaysOkSpec)

/-- 'laws.FnStateOk', WHERE WHAT IT READS IS OF BULK AT MOST 1048576: true; the input reads as it did. -/
def fnStateOkUptoRow : OpenClaim := { program := "ytnbglbhfclohjaa", sum := "b91ac3aa9ce49540f8ed88803ef442e3372fa2ed04f7161fddcba644d71fba82", func := "loop.example/orthologics/laws.FnStateOk", spec := "fnStateOk", unfollowed := true, recurses := true, apart := false, narrowed := true }
def FnStateOkUptoSaid : Prop := fnStateOkUptoRow.holds Try.pinned (OpenSpec.upto fnStateOkSpec)

/-- 'laws.FnExactBothWaysOk', WHERE WHAT IT READS IS OF BULK AT MOST 1048576: true; the input reads as it did. -/
def fnExactBothWaysOkUptoRow : OpenClaim := { program := "ytnbglbhfclohjaa", sum := "b91ac3aa9ce49540f8ed88803ef442e3372fa2ed04f7161fddcba644d71fba82", func := "loop.example/orthologics/laws.FnExactBothWaysOk", spec := "fnExactBothWaysOk", unfollowed := true, recurses := true, apart := false, narrowed := true }
def FnExactBothWaysOkUptoSaid : Prop := fnExactBothWaysOkUptoRow.holds Try.pinned (OpenSpec.upto fnExactBothWaysOkSpec)

/-- 'laws.FnExactCentreOf', WHERE WHAT IT READS IS OF BULK AT MOST 1048576: true; the input reads as it did. -/
def fnExactCentreOfUptoRow : OpenClaim := { program := "ytnbglbhfclohjaa", sum := "b91ac3aa9ce49540f8ed88803ef442e3372fa2ed04f7161fddcba644d71fba82", func := "loop.example/orthologics/laws.FnExactCentreOf", spec := "fnExactCentreOf", unfollowed := true, recurses := true, apart := false, narrowed := true }
def FnExactCentreOfUptoSaid : Prop := fnExactCentreOfUptoRow.holds Try.pinned (OpenSpec.upto fnExactCentreOfSpec)

/-- 'laws.FnExactStateOk', WHERE WHAT IT READS IS OF BULK AT MOST 1048576: true; the input reads as it did. -/
def fnExactStateOkUptoRow : OpenClaim := { program := "ytnbglbhfclohjaa", sum := "b91ac3aa9ce49540f8ed88803ef442e3372fa2ed04f7161fddcba644d71fba82", func := "loop.example/orthologics/laws.FnExactStateOk", spec := "fnExactStateOk", unfollowed := true, recurses := true, apart := false, narrowed := true }
def FnExactStateOkUptoSaid : Prop := fnExactStateOkUptoRow.holds Try.pinned (OpenSpec.upto fnExactStateOkSpec)

end Rows
end Go.Proofs.Ytnbglbhfclohjaa
