/-
  No cell of these rows narrows 'for every input' (looked for: loops, veiled, ifaces, maps, wideKeys, modest, calm, conditions, laid).
  DERIVED. THE GIVEN ROWS OF THIS SEAT. 10 by the template 'for every input the law returns true; each argument reads behind the call as it read before'; 0 by the template 'total and deterministic' (their statements: YtgjacinolenheaaTotals.lean).
  GIVEN WITH THE SEED: the statements are not yours to turn. If you find one false, say at which input.
  Laid BY PROGRAM, IN A SANDBOX (cutbox-rows.mjs): the forced cells as the released guide's own fill.sh prints them over the translation 59daec6ae68750e1… (all of the seat's roots in one cut). By AI agents, Wed Nov 11 2026. No macro, syntax, notation, axiom, sorry.
-/
import Derived.Test.YtgjacinolenheaaChecked
import GoSem.Claim
import GoSem.ClaimJoined
import GoSem.ClaimMapViews
import Derived.JoinedTies
import Derived.KernelRfl
namespace Go.Proofs.Ytgjacinolenheaa
/- THE CELL 'sum', in the pinned program and in every row, IS THE sha256 OF THE DUMP (.gsa) THAT YtgjacinolenheaaProg.lean LOADS. Nothing in Lean hashes anything: it is a label: what it is worth is what the hold of that sum in a sandbox is worth. -/
noncomputable def Try.pinned : Pinned := { name := "ytgjacinolenheaa", sum := "59daec6ae68750e14a056e45a1d101889d2a4dd70b90c3b4e3838e8d0b63d3a0", checked := Try.checked }
namespace Rows
def none {H : Type} : Left H := { results := [], args := [] }

/-- 'laws.FnSetsOf': WHATEVER THE INPUT: true; the input reads as it did. -/
def fnSetsOfSpec : ChangeSpec := { name := "fnSetsOf", fn := fun _ => fun
  | [d] => { results := [.lit (.bool true)], args := [d] }
  | _ => none }
def fnSetsOfRow : OpenClaim := { program := "ytgjacinolenheaa", sum := "59daec6ae68750e14a056e45a1d101889d2a4dd70b90c3b4e3838e8d0b63d3a0", func := "loop.example/orthologics/laws.FnSetsOf", spec := "fnSetsOf", unfollowed := true, recurses := true, apart := false }
def FnSetsOfSaid : Prop := fnSetsOfRow.holds Try.pinned (OpenSpec.ofChange fnSetsOfSpec)

/-- ITS FALSE NEIGHBOUR: 'it returns false'. Refute it at one input. -/
def fnSetsOfWrong : ChangeSpec := { name := "fnSetsOf", fn := fun _ => fun
  | [d] => { results := [.lit (.bool false)], args := [d] }
  | _ => none }
def FnSetsOfWrongFalsely : Prop := fnSetsOfRow.holds Try.pinned (OpenSpec.ofChange fnSetsOfWrong)

/-- 'laws.FnRingOf': WHATEVER THE INPUT: true; the input reads as it did. -/
def fnRingOfSpec : ChangeSpec := { name := "fnRingOf", fn := fun _ => fun
  | [d] => { results := [.lit (.bool true)], args := [d] }
  | _ => none }
def fnRingOfRow : OpenClaim := { program := "ytgjacinolenheaa", sum := "59daec6ae68750e14a056e45a1d101889d2a4dd70b90c3b4e3838e8d0b63d3a0", func := "loop.example/orthologics/laws.FnRingOf", spec := "fnRingOf", unfollowed := true, recurses := true, apart := false }
def FnRingOfSaid : Prop := fnRingOfRow.holds Try.pinned (OpenSpec.ofChange fnRingOfSpec)

/-- ITS FALSE NEIGHBOUR: 'it returns false'. Refute it at one input. -/
def fnRingOfWrong : ChangeSpec := { name := "fnRingOf", fn := fun _ => fun
  | [d] => { results := [.lit (.bool false)], args := [d] }
  | _ => none }
def FnRingOfWrongFalsely : Prop := fnRingOfRow.holds Try.pinned (OpenSpec.ofChange fnRingOfWrong)

/-- 'laws.FnGluedOf': WHATEVER THE INPUT: true; the input reads as it did. -/
def fnGluedOfSpec : ChangeSpec := { name := "fnGluedOf", fn := fun _ => fun
  | [d] => { results := [.lit (.bool true)], args := [d] }
  | _ => none }
def fnGluedOfRow : OpenClaim := { program := "ytgjacinolenheaa", sum := "59daec6ae68750e14a056e45a1d101889d2a4dd70b90c3b4e3838e8d0b63d3a0", func := "loop.example/orthologics/laws.FnGluedOf", spec := "fnGluedOf", unfollowed := true, recurses := true, apart := false }
def FnGluedOfSaid : Prop := fnGluedOfRow.holds Try.pinned (OpenSpec.ofChange fnGluedOfSpec)

/-- ITS FALSE NEIGHBOUR: 'it returns false'. Refute it at one input. -/
def fnGluedOfWrong : ChangeSpec := { name := "fnGluedOf", fn := fun _ => fun
  | [d] => { results := [.lit (.bool false)], args := [d] }
  | _ => none }
def FnGluedOfWrongFalsely : Prop := fnGluedOfRow.holds Try.pinned (OpenSpec.ofChange fnGluedOfWrong)

/-- 'laws.FnTimesOf': WHATEVER THE INPUT: true; the input reads as it did. -/
def fnTimesOfSpec : ChangeSpec := { name := "fnTimesOf", fn := fun _ => fun
  | [d] => { results := [.lit (.bool true)], args := [d] }
  | _ => none }
def fnTimesOfRow : OpenClaim := { program := "ytgjacinolenheaa", sum := "59daec6ae68750e14a056e45a1d101889d2a4dd70b90c3b4e3838e8d0b63d3a0", func := "loop.example/orthologics/laws.FnTimesOf", spec := "fnTimesOf", unfollowed := true, recurses := true, apart := false }
def FnTimesOfSaid : Prop := fnTimesOfRow.holds Try.pinned (OpenSpec.ofChange fnTimesOfSpec)

/-- ITS FALSE NEIGHBOUR: 'it returns false'. Refute it at one input. -/
def fnTimesOfWrong : ChangeSpec := { name := "fnTimesOf", fn := fun _ => fun
  | [d] => { results := [.lit (.bool false)], args := [d] }
  | _ => none }
def FnTimesOfWrongFalsely : Prop := fnTimesOfRow.holds Try.pinned (OpenSpec.ofChange fnTimesOfWrong)

/-- 'laws.FnRenamed': WHATEVER THE INPUT: true; the input reads as it did. -/
def fnRenamedSpec : ChangeSpec := { name := "fnRenamed", fn := fun _ => fun
  | [d] => { results := [.lit (.bool true)], args := [d] }
  | _ => none }
def fnRenamedRow : OpenClaim := { program := "ytgjacinolenheaa", sum := "59daec6ae68750e14a056e45a1d101889d2a4dd70b90c3b4e3838e8d0b63d3a0", func := "loop.example/orthologics/laws.FnRenamed", spec := "fnRenamed", unfollowed := true, recurses := true, apart := false }
def FnRenamedSaid : Prop := fnRenamedRow.holds Try.pinned (OpenSpec.ofChange fnRenamedSpec)

/-- ITS FALSE NEIGHBOUR: 'it returns false'. Refute it at one input. -/
def fnRenamedWrong : ChangeSpec := { name := "fnRenamed", fn := fun _ => fun
  | [d] => { results := [.lit (.bool false)], args := [d] }
  | _ => none }
def FnRenamedWrongFalsely : Prop := fnRenamedRow.holds Try.pinned (OpenSpec.ofChange fnRenamedWrong)

/-- 'laws.FnExactSetsOf': WHATEVER THE INPUT: true; the input reads as it did. -/
def fnExactSetsOfSpec : ChangeSpec := { name := "fnExactSetsOf", fn := fun _ => fun
  | [d] => { results := [.lit (.bool true)], args := [d] }
  | _ => none }
def fnExactSetsOfRow : OpenClaim := { program := "ytgjacinolenheaa", sum := "59daec6ae68750e14a056e45a1d101889d2a4dd70b90c3b4e3838e8d0b63d3a0", func := "loop.example/orthologics/laws.FnExactSetsOf", spec := "fnExactSetsOf", unfollowed := true, recurses := true, apart := false }
def FnExactSetsOfSaid : Prop := fnExactSetsOfRow.holds Try.pinned (OpenSpec.ofChange fnExactSetsOfSpec)

/-- ITS FALSE NEIGHBOUR: 'it returns false'. Refute it at one input. -/
def fnExactSetsOfWrong : ChangeSpec := { name := "fnExactSetsOf", fn := fun _ => fun
  | [d] => { results := [.lit (.bool false)], args := [d] }
  | _ => none }
def FnExactSetsOfWrongFalsely : Prop := fnExactSetsOfRow.holds Try.pinned (OpenSpec.ofChange fnExactSetsOfWrong)

/-- 'laws.FnExactRingOf': WHATEVER THE INPUT: true; the input reads as it did. -/
def fnExactRingOfSpec : ChangeSpec := { name := "fnExactRingOf", fn := fun _ => fun
  | [d] => { results := [.lit (.bool true)], args := [d] }
  | _ => none }
def fnExactRingOfRow : OpenClaim := { program := "ytgjacinolenheaa", sum := "59daec6ae68750e14a056e45a1d101889d2a4dd70b90c3b4e3838e8d0b63d3a0", func := "loop.example/orthologics/laws.FnExactRingOf", spec := "fnExactRingOf", unfollowed := true, recurses := true, apart := false }
def FnExactRingOfSaid : Prop := fnExactRingOfRow.holds Try.pinned (OpenSpec.ofChange fnExactRingOfSpec)

/-- ITS FALSE NEIGHBOUR: 'it returns false'. Refute it at one input. -/
def fnExactRingOfWrong : ChangeSpec := { name := "fnExactRingOf", fn := fun _ => fun
  | [d] => { results := [.lit (.bool false)], args := [d] }
  | _ => none }
def FnExactRingOfWrongFalsely : Prop := fnExactRingOfRow.holds Try.pinned (OpenSpec.ofChange fnExactRingOfWrong)

/-- 'laws.FnExactGluedOf': WHATEVER THE INPUT: true; the input reads as it did. -/
def fnExactGluedOfSpec : ChangeSpec := { name := "fnExactGluedOf", fn := fun _ => fun
  | [d1, d2] => { results := [.lit (.bool true)], args := [d1, d2] }
  | _ => none }
def fnExactGluedOfRow : OpenClaim := { program := "ytgjacinolenheaa", sum := "59daec6ae68750e14a056e45a1d101889d2a4dd70b90c3b4e3838e8d0b63d3a0", func := "loop.example/orthologics/laws.FnExactGluedOf", spec := "fnExactGluedOf", unfollowed := true, recurses := true, apart := false }
def FnExactGluedOfSaid : Prop := fnExactGluedOfRow.holds Try.pinned (OpenSpec.ofChange fnExactGluedOfSpec)

/-- ITS FALSE NEIGHBOUR: 'it returns false'. Refute it at one input. -/
def fnExactGluedOfWrong : ChangeSpec := { name := "fnExactGluedOf", fn := fun _ => fun
  | [d1, d2] => { results := [.lit (.bool false)], args := [d1, d2] }
  | _ => none }
def FnExactGluedOfWrongFalsely : Prop := fnExactGluedOfRow.holds Try.pinned (OpenSpec.ofChange fnExactGluedOfWrong)

/-- 'laws.FnExactTimesOf': WHATEVER THE INPUT: true; the input reads as it did. -/
def fnExactTimesOfSpec : ChangeSpec := { name := "fnExactTimesOf", fn := fun _ => fun
  | [d1, d2] => { results := [.lit (.bool true)], args := [d1, d2] }
  | _ => none }
def fnExactTimesOfRow : OpenClaim := { program := "ytgjacinolenheaa", sum := "59daec6ae68750e14a056e45a1d101889d2a4dd70b90c3b4e3838e8d0b63d3a0", func := "loop.example/orthologics/laws.FnExactTimesOf", spec := "fnExactTimesOf", unfollowed := true, recurses := true, apart := false }
def FnExactTimesOfSaid : Prop := fnExactTimesOfRow.holds Try.pinned (OpenSpec.ofChange fnExactTimesOfSpec)

/-- ITS FALSE NEIGHBOUR: 'it returns false'. Refute it at one input. -/
def fnExactTimesOfWrong : ChangeSpec := { name := "fnExactTimesOf", fn := fun _ => fun
  | [d1, d2] => { results := [.lit (.bool false)], args := [d1, d2] }
  | _ => none }
def FnExactTimesOfWrongFalsely : Prop := fnExactTimesOfRow.holds Try.pinned (OpenSpec.ofChange fnExactTimesOfWrong)

/-- 'laws.FnExactRenamed': WHATEVER THE INPUT: true; the input reads as it did. -/
def fnExactRenamedSpec : ChangeSpec := { name := "fnExactRenamed", fn := fun _ => fun
  | [d1, d2] => { results := [.lit (.bool true)], args := [d1, d2] }
  | _ => none }
def fnExactRenamedRow : OpenClaim := { program := "ytgjacinolenheaa", sum := "59daec6ae68750e14a056e45a1d101889d2a4dd70b90c3b4e3838e8d0b63d3a0", func := "loop.example/orthologics/laws.FnExactRenamed", spec := "fnExactRenamed", unfollowed := true, recurses := true, apart := false }
def FnExactRenamedSaid : Prop := fnExactRenamedRow.holds Try.pinned (OpenSpec.ofChange fnExactRenamedSpec)

/-- ITS FALSE NEIGHBOUR: 'it returns false'. Refute it at one input. -/
def fnExactRenamedWrong : ChangeSpec := { name := "fnExactRenamed", fn := fun _ => fun
  | [d1, d2] => { results := [.lit (.bool false)], args := [d1, d2] }
  | _ => none }
def FnExactRenamedWrongFalsely : Prop := fnExactRenamedRow.holds Try.pinned (OpenSpec.ofChange fnExactRenamedWrong)

/- THE SECOND FORM. 'bulk': how many values and letters a reading holds, each counted each time it is reached (what is shared counts as often as it is met; a slice's spare places count too). A statement '..UptoSaid' is the law's where the arguments, and the package variables that the reading takes, are together of bulk at most 1048576: NARROWER than '..Said'. Prove '..Said' where nothing that the law and all that it calls make is longer than what came in: it says more and counts as full. Else prove '..UptoSaid'. A law counts once. -/
mutual
def uptoBulk {H : Type} : DataW H → Nat
  | .lit (.string bytes) => bytes.length + 1
  | .lit _ => 1
  | .nil => 1
  | .ptr d => uptoBulk d + 1
  | .slice elems spare => uptoBulkAll elems + uptoBulkAll spare + 1
  | .agg parts => uptoBulkAll parts + 1
  | .iface _ d => uptoBulk d + 1
  | .map entries => uptoBulkEntries entries + 1
  | .held _ => 1
def uptoBulkAll {H : Type} : List (DataW H) → Nat
  | [] => 0
  | d :: r => uptoBulk d + uptoBulkAll r
def uptoBulkEntries {H : Type} : List (Lit × DataW H) → Nat
  | [] => 0
  | x :: r => uptoBulkEntry x + uptoBulkEntries r
def uptoBulkEntry {H : Type} : Lit × DataW H → Nat
  | (.string bytes, d) => bytes.length + uptoBulk d + 1
  | (_, d) => uptoBulk d + 1
 end
def uptoSmall : (H : Type) → List (DataW H) → Bool := fun _ ds => decide (uptoBulkAll ds ≤ 1048576)
def OpenSpec.upto (s : _root_.Go.ChangeSpec) : _root_.Go.OpenSpec := { _root_.Go.OpenSpec.ofChange s with cond := some uptoSmall }

/-- 'laws.FnSetsOf', WHERE WHAT IT READS IS OF BULK AT MOST 1048576: true; the input reads as it did. -/
def fnSetsOfUptoRow : OpenClaim := { program := "ytgjacinolenheaa", sum := "59daec6ae68750e14a056e45a1d101889d2a4dd70b90c3b4e3838e8d0b63d3a0", func := "loop.example/orthologics/laws.FnSetsOf", spec := "fnSetsOf", unfollowed := true, recurses := true, apart := false, narrowed := true }
def FnSetsOfUptoSaid : Prop := fnSetsOfUptoRow.holds Try.pinned (OpenSpec.upto fnSetsOfSpec)

/-- 'laws.FnRingOf', WHERE WHAT IT READS IS OF BULK AT MOST 1048576: true; the input reads as it did. -/
def fnRingOfUptoRow : OpenClaim := { program := "ytgjacinolenheaa", sum := "59daec6ae68750e14a056e45a1d101889d2a4dd70b90c3b4e3838e8d0b63d3a0", func := "loop.example/orthologics/laws.FnRingOf", spec := "fnRingOf", unfollowed := true, recurses := true, apart := false, narrowed := true }
def FnRingOfUptoSaid : Prop := fnRingOfUptoRow.holds Try.pinned (OpenSpec.upto fnRingOfSpec)

/-- 'laws.FnGluedOf', WHERE WHAT IT READS IS OF BULK AT MOST 1048576: true; the input reads as it did. -/
def fnGluedOfUptoRow : OpenClaim := { program := "ytgjacinolenheaa", sum := "59daec6ae68750e14a056e45a1d101889d2a4dd70b90c3b4e3838e8d0b63d3a0", func := "loop.example/orthologics/laws.FnGluedOf", spec := "fnGluedOf", unfollowed := true, recurses := true, apart := false, narrowed := true }
def FnGluedOfUptoSaid : Prop := fnGluedOfUptoRow.holds Try.pinned (OpenSpec.upto fnGluedOfSpec)

/-- 'laws.FnTimesOf', WHERE WHAT IT READS IS OF BULK AT MOST 1048576: true; the input reads as it did. -/
def fnTimesOfUptoRow : OpenClaim := { program := "ytgjacinolenheaa", sum := "59daec6ae68750e14a056e45a1d101889d2a4dd70b90c3b4e3838e8d0b63d3a0", func := "loop.example/orthologics/laws.FnTimesOf", spec := "fnTimesOf", unfollowed := true, recurses := true, apart := false, narrowed := true }
def FnTimesOfUptoSaid : Prop := fnTimesOfUptoRow.holds Try.pinned (OpenSpec.upto fnTimesOfSpec)

/-- 'laws.FnRenamed', WHERE WHAT IT READS IS OF BULK AT MOST 1048576: true; the input reads as it did. -/
def fnRenamedUptoRow : OpenClaim := { program := "ytgjacinolenheaa", sum := "59daec6ae68750e14a056e45a1d101889d2a4dd70b90c3b4e3838e8d0b63d3a0", func := "loop.example/orthologics/laws.FnRenamed", spec := "fnRenamed", unfollowed := true, recurses := true, apart := false, narrowed := true }
def FnRenamedUptoSaid : Prop := fnRenamedUptoRow.holds Try.pinned (OpenSpec.upto fnRenamedSpec)

/-- 'laws.FnExactSetsOf', WHERE WHAT IT READS IS OF BULK AT MOST 1048576: true; the input reads as it did. -/
def fnExactSetsOfUptoRow : OpenClaim := { program := "ytgjacinolenheaa", sum := "59daec6ae68750e14a056e45a1d101889d2a4dd70b90c3b4e3838e8d0b63d3a0", func := "loop.example/orthologics/laws.FnExactSetsOf", spec := "fnExactSetsOf", unfollowed := true, recurses := true, apart := false, narrowed := true }
def FnExactSetsOfUptoSaid : Prop := fnExactSetsOfUptoRow.holds Try.pinned (OpenSpec.upto fnExactSetsOfSpec)

/-- 'laws.FnExactRingOf', WHERE WHAT IT READS IS OF BULK AT MOST 1048576: true; the input reads as it did. -/
def fnExactRingOfUptoRow : OpenClaim := { program := "ytgjacinolenheaa", sum := "59daec6ae68750e14a056e45a1d101889d2a4dd70b90c3b4e3838e8d0b63d3a0", func := "loop.example/orthologics/laws.FnExactRingOf", spec := "fnExactRingOf", unfollowed := true, recurses := true, apart := false, narrowed := true }
def FnExactRingOfUptoSaid : Prop := fnExactRingOfUptoRow.holds Try.pinned (OpenSpec.upto fnExactRingOfSpec)

/-- 'laws.FnExactGluedOf', WHERE WHAT IT READS IS OF BULK AT MOST 1048576: true; the input reads as it did. -/
def fnExactGluedOfUptoRow : OpenClaim := { program := "ytgjacinolenheaa", sum := "59daec6ae68750e14a056e45a1d101889d2a4dd70b90c3b4e3838e8d0b63d3a0", func := "loop.example/orthologics/laws.FnExactGluedOf", spec := "fnExactGluedOf", unfollowed := true, recurses := true, apart := false, narrowed := true }
def FnExactGluedOfUptoSaid : Prop := fnExactGluedOfUptoRow.holds Try.pinned (OpenSpec.upto fnExactGluedOfSpec)

/-- 'laws.FnExactTimesOf', WHERE WHAT IT READS IS OF BULK AT MOST 1048576: true; the input reads as it did. -/
def fnExactTimesOfUptoRow : OpenClaim := { program := "ytgjacinolenheaa", sum := "59daec6ae68750e14a056e45a1d101889d2a4dd70b90c3b4e3838e8d0b63d3a0", func := "loop.example/orthologics/laws.FnExactTimesOf", spec := "fnExactTimesOf", unfollowed := true, recurses := true, apart := false, narrowed := true }
def FnExactTimesOfUptoSaid : Prop := fnExactTimesOfUptoRow.holds Try.pinned (OpenSpec.upto fnExactTimesOfSpec)

/-- 'laws.FnExactRenamed', WHERE WHAT IT READS IS OF BULK AT MOST 1048576: true; the input reads as it did. -/
def fnExactRenamedUptoRow : OpenClaim := { program := "ytgjacinolenheaa", sum := "59daec6ae68750e14a056e45a1d101889d2a4dd70b90c3b4e3838e8d0b63d3a0", func := "loop.example/orthologics/laws.FnExactRenamed", spec := "fnExactRenamed", unfollowed := true, recurses := true, apart := false, narrowed := true }
def FnExactRenamedUptoSaid : Prop := fnExactRenamedUptoRow.holds Try.pinned (OpenSpec.upto fnExactRenamedSpec)

end Rows
end Go.Proofs.Ytgjacinolenheaa
