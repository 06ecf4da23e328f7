/-
  No cell of these rows narrows 'for every input' (looked for: loops, veiled, ifaces, maps, wideKeys, modest, calm, conditions, laid).
  DERIVED. THE GIVEN ROWS OF THIS SEAT. 8 by the template 'for every input the law returns true; each argument reads behind the call as it read before'; 0 by the template 'total and deterministic' (their statements: YtkfinkhdfbogjaaTotals.lean).
  GIVEN WITH THE SEED: the statements are not yours to turn. If you find one false, say at which input.
  Laid BY PROGRAM, IN A SANDBOX (cutbox-rows.mjs): the forced cells as the released guide's own fill.sh prints them over the translation 071d98e93e11fe9b… (all of the seat's roots in one cut). By AI agents, Wed Nov 11 2026. No macro, syntax, notation, axiom, sorry.
-/
import Derived.Test.YtkfinkhdfbogjaaChecked
import GoSem.Claim
import GoSem.ClaimJoined
import GoSem.ClaimMapViews
import Derived.JoinedTies
import Derived.KernelRfl
namespace Go.Proofs.Ytkfinkhdfbogjaa
/- THE CELL 'sum', in the pinned program and in every row, IS THE sha256 OF THE DUMP (.gsa) THAT YtkfinkhdfbogjaaProg.lean LOADS. Nothing in Lean hashes anything: it is a label: what it is worth is what the hold of that sum in a sandbox is worth. -/
noncomputable def Try.pinned : Pinned := { name := "ytkfinkhdfbogjaa", sum := "071d98e93e11fe9b0ff54e18b3e019425416d111b6724254866f0cfdf5deed5b", checked := Try.checked }
namespace Rows
def none {H : Type} : Left H := { results := [], args := [] }

/-- 'laws.FnProjectOf': WHATEVER THE INPUT: true; the input reads as it did. -/
def fnProjectOfSpec : ChangeSpec := { name := "fnProjectOf", fn := fun _ => fun
  | [d] => { results := [.lit (.bool true)], args := [d] }
  | _ => none }
def fnProjectOfRow : OpenClaim := { program := "ytkfinkhdfbogjaa", sum := "071d98e93e11fe9b0ff54e18b3e019425416d111b6724254866f0cfdf5deed5b", func := "loop.example/orthologics/laws.FnProjectOf", spec := "fnProjectOf", unfollowed := true, recurses := true, apart := false }
def FnProjectOfSaid : Prop := fnProjectOfRow.holds Try.pinned (OpenSpec.ofChange fnProjectOfSpec)

/-- ITS FALSE NEIGHBOUR: 'it returns false'. Refute it at one input. -/
def fnProjectOfWrong : ChangeSpec := { name := "fnProjectOf", fn := fun _ => fun
  | [d] => { results := [.lit (.bool false)], args := [d] }
  | _ => none }
def FnProjectOfWrongFalsely : Prop := fnProjectOfRow.holds Try.pinned (OpenSpec.ofChange fnProjectOfWrong)

/-- 'laws.FnHookOf': WHATEVER THE INPUT: true; the input reads as it did. -/
def fnHookOfSpec : ChangeSpec := { name := "fnHookOf", fn := fun _ => fun
  | [d] => { results := [.lit (.bool true)], args := [d] }
  | _ => none }
def fnHookOfRow : OpenClaim := { program := "ytkfinkhdfbogjaa", sum := "071d98e93e11fe9b0ff54e18b3e019425416d111b6724254866f0cfdf5deed5b", func := "loop.example/orthologics/laws.FnHookOf", spec := "fnHookOf", unfollowed := true, recurses := true, apart := false }
def FnHookOfSaid : Prop := fnHookOfRow.holds Try.pinned (OpenSpec.ofChange fnHookOfSpec)

/-- ITS FALSE NEIGHBOUR: 'it returns false'. Refute it at one input. -/
def fnHookOfWrong : ChangeSpec := { name := "fnHookOf", fn := fun _ => fun
  | [d] => { results := [.lit (.bool false)], args := [d] }
  | _ => none }
def FnHookOfWrongFalsely : Prop := fnHookOfRow.holds Try.pinned (OpenSpec.ofChange fnHookOfWrong)

/-- 'laws.FnBehindOf': WHATEVER THE INPUT: true; the input reads as it did. -/
def fnBehindOfSpec : ChangeSpec := { name := "fnBehindOf", fn := fun _ => fun
  | [d] => { results := [.lit (.bool true)], args := [d] }
  | _ => none }
def fnBehindOfRow : OpenClaim := { program := "ytkfinkhdfbogjaa", sum := "071d98e93e11fe9b0ff54e18b3e019425416d111b6724254866f0cfdf5deed5b", func := "loop.example/orthologics/laws.FnBehindOf", spec := "fnBehindOf", unfollowed := true, recurses := true, apart := false }
def FnBehindOfSaid : Prop := fnBehindOfRow.holds Try.pinned (OpenSpec.ofChange fnBehindOfSpec)

/-- ITS FALSE NEIGHBOUR: 'it returns false'. Refute it at one input. -/
def fnBehindOfWrong : ChangeSpec := { name := "fnBehindOf", fn := fun _ => fun
  | [d] => { results := [.lit (.bool false)], args := [d] }
  | _ => none }
def FnBehindOfWrongFalsely : Prop := fnBehindOfRow.holds Try.pinned (OpenSpec.ofChange fnBehindOfWrong)

/-- 'laws.FnClearOf': WHATEVER THE INPUT: true; the input reads as it did. -/
def fnClearOfSpec : ChangeSpec := { name := "fnClearOf", fn := fun _ => fun
  | [d] => { results := [.lit (.bool true)], args := [d] }
  | _ => none }
def fnClearOfRow : OpenClaim := { program := "ytkfinkhdfbogjaa", sum := "071d98e93e11fe9b0ff54e18b3e019425416d111b6724254866f0cfdf5deed5b", func := "loop.example/orthologics/laws.FnClearOf", spec := "fnClearOf", unfollowed := true, recurses := true, apart := false }
def FnClearOfSaid : Prop := fnClearOfRow.holds Try.pinned (OpenSpec.ofChange fnClearOfSpec)

/-- ITS FALSE NEIGHBOUR: 'it returns false'. Refute it at one input. -/
def fnClearOfWrong : ChangeSpec := { name := "fnClearOf", fn := fun _ => fun
  | [d] => { results := [.lit (.bool false)], args := [d] }
  | _ => none }
def FnClearOfWrongFalsely : Prop := fnClearOfRow.holds Try.pinned (OpenSpec.ofChange fnClearOfWrong)

/-- 'laws.FnExactProjectOf': WHATEVER THE INPUT: true; the input reads as it did. -/
def fnExactProjectOfSpec : ChangeSpec := { name := "fnExactProjectOf", fn := fun _ => fun
  | [d1, d2, d3] => { results := [.lit (.bool true)], args := [d1, d2, d3] }
  | _ => none }
def fnExactProjectOfRow : OpenClaim := { program := "ytkfinkhdfbogjaa", sum := "071d98e93e11fe9b0ff54e18b3e019425416d111b6724254866f0cfdf5deed5b", func := "loop.example/orthologics/laws.FnExactProjectOf", spec := "fnExactProjectOf", unfollowed := true, recurses := true, apart := false }
def FnExactProjectOfSaid : Prop := fnExactProjectOfRow.holds Try.pinned (OpenSpec.ofChange fnExactProjectOfSpec)

/-- ITS FALSE NEIGHBOUR: 'it returns false'. Refute it at one input. -/
def fnExactProjectOfWrong : ChangeSpec := { name := "fnExactProjectOf", fn := fun _ => fun
  | [d1, d2, d3] => { results := [.lit (.bool false)], args := [d1, d2, d3] }
  | _ => none }
def FnExactProjectOfWrongFalsely : Prop := fnExactProjectOfRow.holds Try.pinned (OpenSpec.ofChange fnExactProjectOfWrong)

/-- 'laws.FnExactHookOf': WHATEVER THE INPUT: true; the input reads as it did. -/
def fnExactHookOfSpec : ChangeSpec := { name := "fnExactHookOf", fn := fun _ => fun
  | [d1, d2, d3] => { results := [.lit (.bool true)], args := [d1, d2, d3] }
  | _ => none }
def fnExactHookOfRow : OpenClaim := { program := "ytkfinkhdfbogjaa", sum := "071d98e93e11fe9b0ff54e18b3e019425416d111b6724254866f0cfdf5deed5b", func := "loop.example/orthologics/laws.FnExactHookOf", spec := "fnExactHookOf", unfollowed := true, recurses := true, apart := false }
def FnExactHookOfSaid : Prop := fnExactHookOfRow.holds Try.pinned (OpenSpec.ofChange fnExactHookOfSpec)

/-- ITS FALSE NEIGHBOUR: 'it returns false'. Refute it at one input. -/
def fnExactHookOfWrong : ChangeSpec := { name := "fnExactHookOf", fn := fun _ => fun
  | [d1, d2, d3] => { results := [.lit (.bool false)], args := [d1, d2, d3] }
  | _ => none }
def FnExactHookOfWrongFalsely : Prop := fnExactHookOfRow.holds Try.pinned (OpenSpec.ofChange fnExactHookOfWrong)

/-- 'laws.FnExactBehindOf': WHATEVER THE INPUT: true; the input reads as it did. -/
def fnExactBehindOfSpec : ChangeSpec := { name := "fnExactBehindOf", fn := fun _ => fun
  | [d1, d2, d3, d4] => { results := [.lit (.bool true)], args := [d1, d2, d3, d4] }
  | _ => none }
def fnExactBehindOfRow : OpenClaim := { program := "ytkfinkhdfbogjaa", sum := "071d98e93e11fe9b0ff54e18b3e019425416d111b6724254866f0cfdf5deed5b", func := "loop.example/orthologics/laws.FnExactBehindOf", spec := "fnExactBehindOf", unfollowed := true, recurses := true, apart := false }
def FnExactBehindOfSaid : Prop := fnExactBehindOfRow.holds Try.pinned (OpenSpec.ofChange fnExactBehindOfSpec)

/-- ITS FALSE NEIGHBOUR: 'it returns false'. Refute it at one input. -/
def fnExactBehindOfWrong : ChangeSpec := { name := "fnExactBehindOf", fn := fun _ => fun
  | [d1, d2, d3, d4] => { results := [.lit (.bool false)], args := [d1, d2, d3, d4] }
  | _ => none }
def FnExactBehindOfWrongFalsely : Prop := fnExactBehindOfRow.holds Try.pinned (OpenSpec.ofChange fnExactBehindOfWrong)

/-- 'laws.FnExactClearOf': WHATEVER THE INPUT: true; the input reads as it did. -/
def fnExactClearOfSpec : ChangeSpec := { name := "fnExactClearOf", fn := fun _ => fun
  | [d1, d2] => { results := [.lit (.bool true)], args := [d1, d2] }
  | _ => none }
def fnExactClearOfRow : OpenClaim := { program := "ytkfinkhdfbogjaa", sum := "071d98e93e11fe9b0ff54e18b3e019425416d111b6724254866f0cfdf5deed5b", func := "loop.example/orthologics/laws.FnExactClearOf", spec := "fnExactClearOf", unfollowed := true, recurses := true, apart := false }
def FnExactClearOfSaid : Prop := fnExactClearOfRow.holds Try.pinned (OpenSpec.ofChange fnExactClearOfSpec)

/-- ITS FALSE NEIGHBOUR: 'it returns false'. Refute it at one input. -/
def fnExactClearOfWrong : ChangeSpec := { name := "fnExactClearOf", fn := fun _ => fun
  | [d1, d2] => { results := [.lit (.bool false)], args := [d1, d2] }
  | _ => none }
def FnExactClearOfWrongFalsely : Prop := fnExactClearOfRow.holds Try.pinned (OpenSpec.ofChange fnExactClearOfWrong)

/- THE SECOND FORM. 'bulk': how many values and letters a reading holds, each counted each time it is reached (what is shared counts as often as it is met; a slice's spare places count too). A statement '..UptoSaid' is the law's where the arguments, and the package variables that the reading takes, are together of bulk at most 1048576: NARROWER than '..Said'. Prove '..Said' where nothing that the law and all that it calls make is longer than what came in: it says more and counts as full. Else prove '..UptoSaid'. A law counts once. -/
mutual
def uptoBulk {H : Type} : DataW H → Nat
  | .lit (.string bytes) => bytes.length + 1
  | .lit _ => 1
  | .nil => 1
  | .ptr d => uptoBulk d + 1
  | .slice elems spare => uptoBulkAll elems + uptoBulkAll spare + 1
  | .agg parts => uptoBulkAll parts + 1
  | .iface _ d => uptoBulk d + 1
  | .map entries => uptoBulkEntries entries + 1
  | .held _ => 1
def uptoBulkAll {H : Type} : List (DataW H) → Nat
  | [] => 0
  | d :: r => uptoBulk d + uptoBulkAll r
def uptoBulkEntries {H : Type} : List (Lit × DataW H) → Nat
  | [] => 0
  | x :: r => uptoBulkEntry x + uptoBulkEntries r
def uptoBulkEntry {H : Type} : Lit × DataW H → Nat
  | (.string bytes, d) => bytes.length + uptoBulk d + 1
  | (_, d) => uptoBulk d + 1
 end
def uptoSmall : (H : Type) → List (DataW H) → Bool := fun _ ds => decide (uptoBulkAll ds ≤ 1048576)
def OpenSpec.upto (s : _root_.Go.ChangeSpec) : _root_.Go.OpenSpec := { _root_.Go.OpenSpec.ofChange s with cond := some uptoSmall }

/-- 'laws.FnProjectOf', WHERE WHAT IT READS IS OF BULK AT MOST 1048576: true; the input reads as it did. -/
def fnProjectOfUptoRow : OpenClaim := { program := "ytkfinkhdfbogjaa", sum := "071d98e93e11fe9b0ff54e18b3e019425416d111b6724254866f0cfdf5deed5b", func := "loop.example/orthologics/laws.FnProjectOf", spec := "fnProjectOf", unfollowed := true, recurses := true, apart := false, narrowed := true }
def FnProjectOfUptoSaid : Prop := fnProjectOfUptoRow.holds Try.pinned (OpenSpec.upto fnProjectOfSpec)

/-- 'laws.FnHookOf', WHERE WHAT IT READS IS OF BULK AT MOST 1048576: true; the input reads as it did. -/
def fnHookOfUptoRow : OpenClaim := { program := "ytkfinkhdfbogjaa", sum := "071d98e93e11fe9b0ff54e18b3e019425416d111b6724254866f0cfdf5deed5b", func := "loop.example/orthologics/laws.FnHookOf", spec := "fnHookOf", unfollowed := true, recurses := true, apart := false, narrowed := true }
def FnHookOfUptoSaid : Prop := fnHookOfUptoRow.holds Try.pinned (OpenSpec.upto fnHookOfSpec)

/-- 'laws.FnBehindOf', WHERE WHAT IT READS IS OF BULK AT MOST 1048576: true; the input reads as it did. -/
def fnBehindOfUptoRow : OpenClaim := { program := "ytkfinkhdfbogjaa", sum := "071d98e93e11fe9b0ff54e18b3e019425416d111b6724254866f0cfdf5deed5b", func := "loop.example/orthologics/laws.FnBehindOf", spec := "fnBehindOf", unfollowed := true, recurses := true, apart := false, narrowed := true }
def FnBehindOfUptoSaid : Prop := fnBehindOfUptoRow.holds Try.pinned (OpenSpec.upto fnBehindOfSpec)

/-- 'laws.FnClearOf', WHERE WHAT IT READS IS OF BULK AT MOST 1048576: true; the input reads as it did. -/
def fnClearOfUptoRow : OpenClaim := { program := "ytkfinkhdfbogjaa", sum := "071d98e93e11fe9b0ff54e18b3e019425416d111b6724254866f0cfdf5deed5b", func := "loop.example/orthologics/laws.FnClearOf", spec := "fnClearOf", unfollowed := true, recurses := true, apart := false, narrowed := true }
def FnClearOfUptoSaid : Prop := fnClearOfUptoRow.holds Try.pinned (OpenSpec.upto fnClearOfSpec)

/-- 'laws.FnExactProjectOf', WHERE WHAT IT READS IS OF BULK AT MOST 1048576: true; the input reads as it did. -/
def fnExactProjectOfUptoRow : OpenClaim := { program := "ytkfinkhdfbogjaa", sum := "071d98e93e11fe9b0ff54e18b3e019425416d111b6724254866f0cfdf5deed5b", func := "loop.example/orthologics/laws.FnExactProjectOf", spec := "fnExactProjectOf", unfollowed := true, recurses := true, apart := false, narrowed := true }
def FnExactProjectOfUptoSaid : Prop := fnExactProjectOfUptoRow.holds Try.pinned (OpenSpec.upto fnExactProjectOfSpec)

/-- 'laws.FnExactHookOf', WHERE WHAT IT READS IS OF BULK AT MOST 1048576: true; the input reads as it did. -/
def fnExactHookOfUptoRow : OpenClaim := { program := "ytkfinkhdfbogjaa", sum := "071d98e93e11fe9b0ff54e18b3e019425416d111b6724254866f0cfdf5deed5b", func := "loop.example/orthologics/laws.FnExactHookOf", spec := "fnExactHookOf", unfollowed := true, recurses := true, apart := false, narrowed := true }
def FnExactHookOfUptoSaid : Prop := fnExactHookOfUptoRow.holds Try.pinned (OpenSpec.upto fnExactHookOfSpec)

/-- 'laws.FnExactBehindOf', WHERE WHAT IT READS IS OF BULK AT MOST 1048576: true; the input reads as it did. -/
def fnExactBehindOfUptoRow : OpenClaim := { program := "ytkfinkhdfbogjaa", sum := "071d98e93e11fe9b0ff54e18b3e019425416d111b6724254866f0cfdf5deed5b", func := "loop.example/orthologics/laws.FnExactBehindOf", spec := "fnExactBehindOf", unfollowed := true, recurses := true, apart := false, narrowed := true }
def FnExactBehindOfUptoSaid : Prop := fnExactBehindOfUptoRow.holds Try.pinned (OpenSpec.upto fnExactBehindOfSpec)

/-- 'laws.FnExactClearOf', WHERE WHAT IT READS IS OF BULK AT MOST 1048576: true; the input reads as it did. -/
def fnExactClearOfUptoRow : OpenClaim := { program := "ytkfinkhdfbogjaa", sum := "071d98e93e11fe9b0ff54e18b3e019425416d111b6724254866f0cfdf5deed5b", func := "loop.example/orthologics/laws.FnExactClearOf", spec := "fnExactClearOf", unfollowed := true, recurses := true, apart := false, narrowed := true }
def FnExactClearOfUptoSaid : Prop := fnExactClearOfUptoRow.holds Try.pinned (OpenSpec.upto fnExactClearOfSpec)

end Rows
end Go.Proofs.Ytkfinkhdfbogjaa
