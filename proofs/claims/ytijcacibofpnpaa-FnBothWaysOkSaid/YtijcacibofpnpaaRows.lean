/-
  No cell of these rows narrows 'for every input' (looked for: loops, veiled, ifaces, maps, wideKeys, modest, calm, conditions, laid).
  DERIVED. THE GIVEN ROWS OF THIS SEAT. 9 by the template 'for every input the law returns true; each argument reads behind the call as it read before'; 0 by the template 'total and deterministic' (their statements: YtijcacibofpnpaaTotals.lean).
  GIVEN WITH THE SEED: the statements are not yours to turn. If you find one false, say at which input.
  Laid BY PROGRAM, IN A SANDBOX (cutbox-rows.mjs): the forced cells as the released guide's own fill.sh prints them over the translation 690e6d14712e44d9… (all of the seat's roots in one cut). By AI agents, Wed Nov 11 2026. No macro, syntax, notation, axiom, sorry.
-/
import Derived.Test.YtijcacibofpnpaaChecked
import GoSem.Claim
import GoSem.ClaimJoined
import GoSem.ClaimMapViews
import Derived.JoinedTies
import Derived.KernelRfl
namespace Go.Proofs.Ytijcacibofpnpaa
/- THE CELL 'sum', in the pinned program and in every row, IS THE sha256 OF THE DUMP (.gsa) THAT YtijcacibofpnpaaProg.lean LOADS. Nothing in Lean hashes anything: it is a label: what it is worth is what the hold of that sum in a sandbox is worth. -/
noncomputable def Try.pinned : Pinned := { name := "ytijcacibofpnpaa", sum := "690e6d14712e44d903c4237d4bc9d1918fd630d7af536178bebdb8970bb3c33f", checked := Try.checked }
namespace Rows
def none {H : Type} : Left H := { results := [], args := [] }

/-- 'laws.FnWithOk': WHATEVER THE INPUT: true; the input reads as it did. -/
def fnWithOkSpec : ChangeSpec := { name := "fnWithOk", fn := fun _ => fun
  | [d] => { results := [.lit (.bool true)], args := [d] }
  | _ => none }
def fnWithOkRow : OpenClaim := { program := "ytijcacibofpnpaa", sum := "690e6d14712e44d903c4237d4bc9d1918fd630d7af536178bebdb8970bb3c33f", func := "loop.example/orthologics/laws.FnWithOk", spec := "fnWithOk", unfollowed := true, recurses := true, apart := false }
def FnWithOkSaid : Prop := fnWithOkRow.holds Try.pinned (OpenSpec.ofChange fnWithOkSpec)

/-- ITS FALSE NEIGHBOUR: 'it returns false'. Refute it at one input. -/
def fnWithOkWrong : ChangeSpec := { name := "fnWithOk", fn := fun _ => fun
  | [d] => { results := [.lit (.bool false)], args := [d] }
  | _ => none }
def FnWithOkWrongFalsely : Prop := fnWithOkRow.holds Try.pinned (OpenSpec.ofChange fnWithOkWrong)

/-- 'laws.FnBothWaysOk': WHATEVER THE INPUT: true; the input reads as it did. -/
def fnBothWaysOkSpec : ChangeSpec := { name := "fnBothWaysOk", fn := fun _ => fun
  | [d] => { results := [.lit (.bool true)], args := [d] }
  | _ => none }
def fnBothWaysOkRow : OpenClaim := { program := "ytijcacibofpnpaa", sum := "690e6d14712e44d903c4237d4bc9d1918fd630d7af536178bebdb8970bb3c33f", func := "loop.example/orthologics/laws.FnBothWaysOk", spec := "fnBothWaysOk", unfollowed := true, recurses := true, apart := false }
def FnBothWaysOkSaid : Prop := fnBothWaysOkRow.holds Try.pinned (OpenSpec.ofChange fnBothWaysOkSpec)

/-- ITS FALSE NEIGHBOUR: 'it returns false'. Refute it at one input. -/
def fnBothWaysOkWrong : ChangeSpec := { name := "fnBothWaysOk", fn := fun _ => fun
  | [d] => { results := [.lit (.bool false)], args := [d] }
  | _ => none }
def FnBothWaysOkWrongFalsely : Prop := fnBothWaysOkRow.holds Try.pinned (OpenSpec.ofChange fnBothWaysOkWrong)

/-- 'laws.FnApartFrom': WHATEVER THE INPUT: true; the input reads as it did. -/
def fnApartFromSpec : ChangeSpec := { name := "fnApartFrom", fn := fun _ => fun
  | [d] => { results := [.lit (.bool true)], args := [d] }
  | _ => none }
def fnApartFromRow : OpenClaim := { program := "ytijcacibofpnpaa", sum := "690e6d14712e44d903c4237d4bc9d1918fd630d7af536178bebdb8970bb3c33f", func := "loop.example/orthologics/laws.FnApartFrom", spec := "fnApartFrom", unfollowed := true, recurses := true, apart := false }
def FnApartFromSaid : Prop := fnApartFromRow.holds Try.pinned (OpenSpec.ofChange fnApartFromSpec)

/-- ITS FALSE NEIGHBOUR: 'it returns false'. Refute it at one input. -/
def fnApartFromWrong : ChangeSpec := { name := "fnApartFrom", fn := fun _ => fun
  | [d] => { results := [.lit (.bool false)], args := [d] }
  | _ => none }
def FnApartFromWrongFalsely : Prop := fnApartFromRow.holds Try.pinned (OpenSpec.ofChange fnApartFromWrong)

/-- 'laws.FnSplitOk': WHATEVER THE INPUT: true; the input reads as it did. -/
def fnSplitOkSpec : ChangeSpec := { name := "fnSplitOk", fn := fun _ => fun
  | [d] => { results := [.lit (.bool true)], args := [d] }
  | _ => none }
def fnSplitOkRow : OpenClaim := { program := "ytijcacibofpnpaa", sum := "690e6d14712e44d903c4237d4bc9d1918fd630d7af536178bebdb8970bb3c33f", func := "loop.example/orthologics/laws.FnSplitOk", spec := "fnSplitOk", unfollowed := true, recurses := true, apart := false }
def FnSplitOkSaid : Prop := fnSplitOkRow.holds Try.pinned (OpenSpec.ofChange fnSplitOkSpec)

/-- ITS FALSE NEIGHBOUR: 'it returns false'. Refute it at one input. -/
def fnSplitOkWrong : ChangeSpec := { name := "fnSplitOk", fn := fun _ => fun
  | [d] => { results := [.lit (.bool false)], args := [d] }
  | _ => none }
def FnSplitOkWrongFalsely : Prop := fnSplitOkRow.holds Try.pinned (OpenSpec.ofChange fnSplitOkWrong)

/-- 'laws.FnExactWithOk': WHATEVER THE INPUT: true; the input reads as it did. -/
def fnExactWithOkSpec : ChangeSpec := { name := "fnExactWithOk", fn := fun _ => fun
  | [d1, d2, d3] => { results := [.lit (.bool true)], args := [d1, d2, d3] }
  | _ => none }
def fnExactWithOkRow : OpenClaim := { program := "ytijcacibofpnpaa", sum := "690e6d14712e44d903c4237d4bc9d1918fd630d7af536178bebdb8970bb3c33f", func := "loop.example/orthologics/laws.FnExactWithOk", spec := "fnExactWithOk", unfollowed := true, recurses := true, apart := false }
def FnExactWithOkSaid : Prop := fnExactWithOkRow.holds Try.pinned (OpenSpec.ofChange fnExactWithOkSpec)

/-- ITS FALSE NEIGHBOUR: 'it returns false'. Refute it at one input. -/
def fnExactWithOkWrong : ChangeSpec := { name := "fnExactWithOk", fn := fun _ => fun
  | [d1, d2, d3] => { results := [.lit (.bool false)], args := [d1, d2, d3] }
  | _ => none }
def FnExactWithOkWrongFalsely : Prop := fnExactWithOkRow.holds Try.pinned (OpenSpec.ofChange fnExactWithOkWrong)

/-- 'laws.FnExactBothWaysOk': WHATEVER THE INPUT: true; the input reads as it did. -/
def fnExactBothWaysOkSpec : ChangeSpec := { name := "fnExactBothWaysOk", fn := fun _ => fun
  | [d] => { results := [.lit (.bool true)], args := [d] }
  | _ => none }
def fnExactBothWaysOkRow : OpenClaim := { program := "ytijcacibofpnpaa", sum := "690e6d14712e44d903c4237d4bc9d1918fd630d7af536178bebdb8970bb3c33f", func := "loop.example/orthologics/laws.FnExactBothWaysOk", spec := "fnExactBothWaysOk", unfollowed := true, recurses := true, apart := false }
def FnExactBothWaysOkSaid : Prop := fnExactBothWaysOkRow.holds Try.pinned (OpenSpec.ofChange fnExactBothWaysOkSpec)

/-- ITS FALSE NEIGHBOUR: 'it returns false'. Refute it at one input. -/
def fnExactBothWaysOkWrong : ChangeSpec := { name := "fnExactBothWaysOk", fn := fun _ => fun
  | [d] => { results := [.lit (.bool false)], args := [d] }
  | _ => none }
def FnExactBothWaysOkWrongFalsely : Prop := fnExactBothWaysOkRow.holds Try.pinned (OpenSpec.ofChange fnExactBothWaysOkWrong)

/-- 'laws.FnExactCentreOf': WHATEVER THE INPUT: true; the input reads as it did. -/
def fnExactCentreOfSpec : ChangeSpec := { name := "fnExactCentreOf", fn := fun _ => fun
  | [d] => { results := [.lit (.bool true)], args := [d] }
  | _ => none }
def fnExactCentreOfRow : OpenClaim := { program := "ytijcacibofpnpaa", sum := "690e6d14712e44d903c4237d4bc9d1918fd630d7af536178bebdb8970bb3c33f", func := "loop.example/orthologics/laws.FnExactCentreOf", spec := "fnExactCentreOf", unfollowed := true, recurses := true, apart := false }
def FnExactCentreOfSaid : Prop := fnExactCentreOfRow.holds Try.pinned (OpenSpec.ofChange fnExactCentreOfSpec)

/-- ITS FALSE NEIGHBOUR: 'it returns false'. Refute it at one input. -/
def fnExactCentreOfWrong : ChangeSpec := { name := "fnExactCentreOf", fn := fun _ => fun
  | [d] => { results := [.lit (.bool false)], args := [d] }
  | _ => none }
def FnExactCentreOfWrongFalsely : Prop := fnExactCentreOfRow.holds Try.pinned (OpenSpec.ofChange fnExactCentreOfWrong)

/-- 'laws.FnExactApartFrom': WHATEVER THE INPUT: true; the input reads as it did. -/
def fnExactApartFromSpec : ChangeSpec := { name := "fnExactApartFrom", fn := fun _ => fun
  | [d1, d2, d3] => { results := [.lit (.bool true)], args := [d1, d2, d3] }
  | _ => none }
def fnExactApartFromRow : OpenClaim := { program := "ytijcacibofpnpaa", sum := "690e6d14712e44d903c4237d4bc9d1918fd630d7af536178bebdb8970bb3c33f", func := "loop.example/orthologics/laws.FnExactApartFrom", spec := "fnExactApartFrom", unfollowed := true, recurses := true, apart := false }
def FnExactApartFromSaid : Prop := fnExactApartFromRow.holds Try.pinned (OpenSpec.ofChange fnExactApartFromSpec)

/-- ITS FALSE NEIGHBOUR: 'it returns false'. Refute it at one input. -/
def fnExactApartFromWrong : ChangeSpec := { name := "fnExactApartFrom", fn := fun _ => fun
  | [d1, d2, d3] => { results := [.lit (.bool false)], args := [d1, d2, d3] }
  | _ => none }
def FnExactApartFromWrongFalsely : Prop := fnExactApartFromRow.holds Try.pinned (OpenSpec.ofChange fnExactApartFromWrong)

/-- 'laws.FnExactSplitOk': WHATEVER THE INPUT: true; the input reads as it did. -/
def fnExactSplitOkSpec : ChangeSpec := { name := "fnExactSplitOk", fn := fun _ => fun
  | [d1, d2, d3, d4] => { results := [.lit (.bool true)], args := [d1, d2, d3, d4] }
  | _ => none }
def fnExactSplitOkRow : OpenClaim := { program := "ytijcacibofpnpaa", sum := "690e6d14712e44d903c4237d4bc9d1918fd630d7af536178bebdb8970bb3c33f", func := "loop.example/orthologics/laws.FnExactSplitOk", spec := "fnExactSplitOk", unfollowed := true, recurses := true, apart := false }
def FnExactSplitOkSaid : Prop := fnExactSplitOkRow.holds Try.pinned (OpenSpec.ofChange fnExactSplitOkSpec)

/-- ITS FALSE NEIGHBOUR: 'it returns false'. Refute it at one input. -/
def fnExactSplitOkWrong : ChangeSpec := { name := "fnExactSplitOk", fn := fun _ => fun
  | [d1, d2, d3, d4] => { results := [.lit (.bool false)], args := [d1, d2, d3, d4] }
  | _ => none }
def FnExactSplitOkWrongFalsely : Prop := fnExactSplitOkRow.holds Try.pinned (OpenSpec.ofChange fnExactSplitOkWrong)

/- THE SECOND FORM. 'bulk': how many values and letters a reading holds, each counted each time it is reached (what is shared counts as often as it is met; a slice's spare places count too). A statement '..UptoSaid' is the law's where the arguments, and the package variables that the reading takes, are together of bulk at most 1048576: NARROWER than '..Said'. Prove '..Said' where nothing that the law and all that it calls make is longer than what came in: it says more and counts as full. Else prove '..UptoSaid'. A law counts once. -/
mutual
def uptoBulk {H : Type} : DataW H → Nat
  | .lit (.string bytes) => bytes.length + 1
  | .lit _ => 1
  | .nil => 1
  | .ptr d => uptoBulk d + 1
  | .slice elems spare => uptoBulkAll elems + uptoBulkAll spare + 1
  | .agg parts => uptoBulkAll parts + 1
  | .iface _ d => uptoBulk d + 1
  | .map entries => uptoBulkEntries entries + 1
  | .held _ => 1
def uptoBulkAll {H : Type} : List (DataW H) → Nat
  | [] => 0
  | d :: r => uptoBulk d + uptoBulkAll r
def uptoBulkEntries {H : Type} : List (Lit × DataW H) → Nat
  | [] => 0
  | x :: r => uptoBulkEntry x + uptoBulkEntries r
def uptoBulkEntry {H : Type} : Lit × DataW H → Nat
  | (.string bytes, d) => bytes.length + uptoBulk d + 1
  | (_, d) => uptoBulk d + 1
 end
def uptoSmall : (H : Type) → List (DataW H) → Bool := fun _ ds => decide (uptoBulkAll ds ≤ 1048576)
def OpenSpec.upto (s : _root_.Go.ChangeSpec) : _root_.Go.OpenSpec := { _root_.Go.OpenSpec.ofChange s with cond := some uptoSmall }

/-- 'laws.FnWithOk', WHERE WHAT IT READS IS OF BULK AT MOST 1048576: true; the input reads as it did. -/
def fnWithOkUptoRow : OpenClaim := { program := "ytijcacibofpnpaa", sum := "690e6d14712e44d903c4237d4bc9d1918fd630d7af536178bebdb8970bb3c33f", func := "loop.example/orthologics/laws.FnWithOk", spec := "fnWithOk", unfollowed := true, recurses := true, apart := false, narrowed := true }
def FnWithOkUptoSaid : Prop := fnWithOkUptoRow.holds Try.pinned (OpenSpec.upto fnWithOkSpec)

/-- 'laws.FnBothWaysOk', WHERE WHAT IT READS IS OF BULK AT MOST 1048576: true; the input reads as it did. -/
def fnBothWaysOkUptoRow : OpenClaim := { program := "ytijcacibofpnpaa", sum := "690e6d14712e44d903c4237d4bc9d1918fd630d7af536178bebdb8970bb3c33f", func := "loop.example/orthologics/laws.FnBothWaysOk", spec := "fnBothWaysOk", unfollowed := true, recurses := true, apart := false, narrowed := true }
def FnBothWaysOkUptoSaid : Prop := fnBothWaysOkUptoRow.holds Try.pinned (OpenSpec.upto fnBothWaysOkSpec)

/-- 'laws.FnApartFrom', WHERE WHAT IT READS IS OF BULK AT MOST 1048576: true; the input reads as it did. -/
def fnApartFromUptoRow : OpenClaim := { program := "ytijcacibofpnpaa", sum := "690e6d14712e44d903c4237d4bc9d1918fd630d7af536178bebdb8970bb3c33f", func := "loop.example/orthologics/laws.FnApartFrom", spec := "fnApartFrom", unfollowed := true, recurses := true, apart := false, narrowed := true }
def FnApartFromUptoSaid : Prop := fnApartFromUptoRow.holds Try.pinned (OpenSpec.upto fnApartFromSpec)

/-- 'laws.FnSplitOk', WHERE WHAT IT READS IS OF BULK AT MOST 1048576: true; the input reads as it did. -/
def fnSplitOkUptoRow : OpenClaim := { program := "ytijcacibofpnpaa", sum := "690e6d14712e44d903c4237d4bc9d1918fd630d7af536178bebdb8970bb3c33f", func := "loop.example/orthologics/laws.FnSplitOk", spec := "fnSplitOk", unfollowed := true, recurses := true, apart := false, narrowed := true }
def FnSplitOkUptoSaid : Prop := fnSplitOkUptoRow.holds Try.pinned (OpenSpec.upto fnSplitOkSpec)

/-- 'laws.FnExactWithOk', WHERE WHAT IT READS IS OF BULK AT MOST 1048576: true; the input reads as it did. -/
def fnExactWithOkUptoRow : OpenClaim := { program := "ytijcacibofpnpaa", sum := "690e6d14712e44d903c4237d4bc9d1918fd630d7af536178bebdb8970bb3c33f", func := "loop.example/orthologics/laws.FnExactWithOk", spec := "fnExactWithOk", unfollowed := true, recurses := true, apart := false, narrowed := true }
def FnExactWithOkUptoSaid : Prop := fnExactWithOkUptoRow.holds Try.pinned (OpenSpec.upto fnExactWithOkSpec)

/-- 'laws.FnExactBothWaysOk', WHERE WHAT IT READS IS OF BULK AT MOST 1048576: true; the input reads as it did. -/
def fnExactBothWaysOkUptoRow : OpenClaim := { program := "ytijcacibofpnpaa", sum := "690e6d14712e44d903c4237d4bc9d1918fd630d7af536178bebdb8970bb3c33f", func := "loop.example/orthologics/laws.FnExactBothWaysOk", spec := "fnExactBothWaysOk", unfollowed := true, recurses := true, apart := false, narrowed := true }
def FnExactBothWaysOkUptoSaid : Prop := fnExactBothWaysOkUptoRow.holds Try.pinned (OpenSpec.upto fnExactBothWaysOkSpec)

/-- 'laws.FnExactCentreOf', WHERE WHAT IT READS IS OF BULK AT MOST 1048576: true; the input reads as it did. -/
def fnExactCentreOfUptoRow : OpenClaim := { program := "ytijcacibofpnpaa", sum := "690e6d14712e44d903c4237d4bc9d1918fd630d7af536178bebdb8970bb3c33f", func := "loop.example/orthologics/laws.FnExactCentreOf", spec := "fnExactCentreOf", unfollowed := true, recurses := true, apart := false, narrowed := true }
def FnExactCentreOfUptoSaid : Prop := fnExactCentreOfUptoRow.holds Try.pinned (OpenSpec.upto fnExactCentreOfSpec)

/-- 'laws.FnExactApartFrom', WHERE WHAT IT READS IS OF BULK AT MOST 1048576: true; the input reads as it did. -/
def fnExactApartFromUptoRow : OpenClaim := { program := "ytijcacibofpnpaa", sum := "690e6d14712e44d903c4237d4bc9d1918fd630d7af536178bebdb8970bb3c33f", func := "loop.example/orthologics/laws.FnExactApartFrom", spec := "fnExactApartFrom", unfollowed := true, recurses := true, apart := false, narrowed := true }
def FnExactApartFromUptoSaid : Prop := fnExactApartFromUptoRow.holds Try.pinned (OpenSpec.upto fnExactApartFromSpec)

/-- 'laws.FnExactSplitOk', WHERE WHAT IT READS IS OF BULK AT MOST 1048576: true; the input reads as it did. -/
def fnExactSplitOkUptoRow : OpenClaim := { program := "ytijcacibofpnpaa", sum := "690e6d14712e44d903c4237d4bc9d1918fd630d7af536178bebdb8970bb3c33f", func := "loop.example/orthologics/laws.FnExactSplitOk", spec := "fnExactSplitOk", unfollowed := true, recurses := true, apart := false, narrowed := true }
def FnExactSplitOkUptoSaid : Prop := fnExactSplitOkUptoRow.holds Try.pinned (OpenSpec.upto fnExactSplitOkSpec)

end Rows
end Go.Proofs.Ytijcacibofpnpaa
