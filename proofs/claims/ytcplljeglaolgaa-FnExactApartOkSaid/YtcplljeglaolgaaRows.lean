/-
  No cell of these rows narrows 'for every input' (looked for: loops, veiled, ifaces, maps, wideKeys, modest, calm, conditions, laid).
  DERIVED. THE GIVEN ROWS OF THIS SEAT. 19 by the template 'for every input the law returns true; each argument reads behind the call as it read before'; 0 by the template 'total and deterministic' (their statements: YtcplljeglaolgaaTotals.lean).
  GIVEN WITH THE SEED: the statements are not yours to turn. If you find one false, say at which input.
  Laid BY PROGRAM, IN A SANDBOX (cutbox-rows.mjs): the forced cells as the released guide's own fill.sh prints them over the translation 28ab46d2700baa76… (all of the seat's roots in one cut). By AI agents, Wed Nov 11 2026. No macro, syntax, notation, axiom, sorry.
-/
import Derived.Test.YtcplljeglaolgaaChecked
import GoSem.Claim
import GoSem.ClaimJoined
import GoSem.ClaimMapViews
import Derived.JoinedTies
import Derived.KernelRfl
namespace Go.Proofs.Ytcplljeglaolgaa
/- THE CELL 'sum', in the pinned program and in every row, IS THE sha256 OF THE DUMP (.gsa) THAT YtcplljeglaolgaaProg.lean LOADS. Nothing in Lean hashes anything: it is a label: what it is worth is what the hold of that sum in a sandbox is worth. -/
noncomputable def Try.pinned : Pinned := { name := "ytcplljeglaolgaa", sum := "28ab46d2700baa76cb8bfe07814dd5a9555dc97db050ed1b21d9493b7134d84a", checked := Try.checked }
namespace Rows
def none {H : Type} : Left H := { results := [], args := [] }

/-- 'laws.FnMeetOf': WHATEVER THE INPUT: true; the input reads as it did. -/
def fnMeetOfSpec : ChangeSpec := { name := "fnMeetOf", fn := fun _ => fun
  | [d] => { results := [.lit (.bool true)], args := [d] }
  | _ => none }
def fnMeetOfRow : OpenClaim := { program := "ytcplljeglaolgaa", sum := "28ab46d2700baa76cb8bfe07814dd5a9555dc97db050ed1b21d9493b7134d84a", func := "loop.example/orthologics/laws.FnMeetOf", spec := "fnMeetOf", unfollowed := true, recurses := true, apart := false }
def FnMeetOfSaid : Prop := fnMeetOfRow.holds Try.pinned (OpenSpec.ofChange fnMeetOfSpec)

/-- ITS FALSE NEIGHBOUR: 'it returns false'. Refute it at one input. -/
def fnMeetOfWrong : ChangeSpec := { name := "fnMeetOf", fn := fun _ => fun
  | [d] => { results := [.lit (.bool false)], args := [d] }
  | _ => none }
def FnMeetOfWrongFalsely : Prop := fnMeetOfRow.holds Try.pinned (OpenSpec.ofChange fnMeetOfWrong)

/-- 'laws.FnJoinOf': WHATEVER THE INPUT: true; the input reads as it did. -/
def fnJoinOfSpec : ChangeSpec := { name := "fnJoinOf", fn := fun _ => fun
  | [d] => { results := [.lit (.bool true)], args := [d] }
  | _ => none }
def fnJoinOfRow : OpenClaim := { program := "ytcplljeglaolgaa", sum := "28ab46d2700baa76cb8bfe07814dd5a9555dc97db050ed1b21d9493b7134d84a", func := "loop.example/orthologics/laws.FnJoinOf", spec := "fnJoinOf", unfollowed := true, recurses := true, apart := false }
def FnJoinOfSaid : Prop := fnJoinOfRow.holds Try.pinned (OpenSpec.ofChange fnJoinOfSpec)

/-- ITS FALSE NEIGHBOUR: 'it returns false'. Refute it at one input. -/
def fnJoinOfWrong : ChangeSpec := { name := "fnJoinOf", fn := fun _ => fun
  | [d] => { results := [.lit (.bool false)], args := [d] }
  | _ => none }
def FnJoinOfWrongFalsely : Prop := fnJoinOfRow.holds Try.pinned (OpenSpec.ofChange fnJoinOfWrong)

/-- 'laws.FnLatticeOk': WHATEVER THE INPUT: true; the input reads as it did. -/
def fnLatticeOkSpec : ChangeSpec := { name := "fnLatticeOk", fn := fun _ => fun
  | [d] => { results := [.lit (.bool true)], args := [d] }
  | _ => none }
def fnLatticeOkRow : OpenClaim := { program := "ytcplljeglaolgaa", sum := "28ab46d2700baa76cb8bfe07814dd5a9555dc97db050ed1b21d9493b7134d84a", func := "loop.example/orthologics/laws.FnLatticeOk", spec := "fnLatticeOk", unfollowed := true, recurses := true, apart := false }
def FnLatticeOkSaid : Prop := fnLatticeOkRow.holds Try.pinned (OpenSpec.ofChange fnLatticeOkSpec)

/-- ITS FALSE NEIGHBOUR: 'it returns false'. Refute it at one input. -/
def fnLatticeOkWrong : ChangeSpec := { name := "fnLatticeOk", fn := fun _ => fun
  | [d] => { results := [.lit (.bool false)], args := [d] }
  | _ => none }
def FnLatticeOkWrongFalsely : Prop := fnLatticeOkRow.holds Try.pinned (OpenSpec.ofChange fnLatticeOkWrong)

/-- 'laws.FnTurnedOf': WHATEVER THE INPUT: true; the input reads as it did. -/
def fnTurnedOfSpec : ChangeSpec := { name := "fnTurnedOf", fn := fun _ => fun
  | [d] => { results := [.lit (.bool true)], args := [d] }
  | _ => none }
def fnTurnedOfRow : OpenClaim := { program := "ytcplljeglaolgaa", sum := "28ab46d2700baa76cb8bfe07814dd5a9555dc97db050ed1b21d9493b7134d84a", func := "loop.example/orthologics/laws.FnTurnedOf", spec := "fnTurnedOf", unfollowed := true, recurses := true, apart := false }
def FnTurnedOfSaid : Prop := fnTurnedOfRow.holds Try.pinned (OpenSpec.ofChange fnTurnedOfSpec)

/-- ITS FALSE NEIGHBOUR: 'it returns false'. Refute it at one input. -/
def fnTurnedOfWrong : ChangeSpec := { name := "fnTurnedOf", fn := fun _ => fun
  | [d] => { results := [.lit (.bool false)], args := [d] }
  | _ => none }
def FnTurnedOfWrongFalsely : Prop := fnTurnedOfRow.holds Try.pinned (OpenSpec.ofChange fnTurnedOfWrong)

/-- 'laws.FnAtomsOf': WHATEVER THE INPUT: true; the input reads as it did. -/
def fnAtomsOfSpec : ChangeSpec := { name := "fnAtomsOf", fn := fun _ => fun
  | [d] => { results := [.lit (.bool true)], args := [d] }
  | _ => none }
def fnAtomsOfRow : OpenClaim := { program := "ytcplljeglaolgaa", sum := "28ab46d2700baa76cb8bfe07814dd5a9555dc97db050ed1b21d9493b7134d84a", func := "loop.example/orthologics/laws.FnAtomsOf", spec := "fnAtomsOf", unfollowed := true, recurses := true, apart := false }
def FnAtomsOfSaid : Prop := fnAtomsOfRow.holds Try.pinned (OpenSpec.ofChange fnAtomsOfSpec)

/-- ITS FALSE NEIGHBOUR: 'it returns false'. Refute it at one input. -/
def fnAtomsOfWrong : ChangeSpec := { name := "fnAtomsOf", fn := fun _ => fun
  | [d] => { results := [.lit (.bool false)], args := [d] }
  | _ => none }
def FnAtomsOfWrongFalsely : Prop := fnAtomsOfRow.holds Try.pinned (OpenSpec.ofChange fnAtomsOfWrong)

/-- 'laws.FnLogicOk': WHATEVER THE INPUT: true; the input reads as it did. -/
def fnLogicOkSpec : ChangeSpec := { name := "fnLogicOk", fn := fun _ => fun
  | [d] => { results := [.lit (.bool true)], args := [d] }
  | _ => none }
def fnLogicOkRow : OpenClaim := { program := "ytcplljeglaolgaa", sum := "28ab46d2700baa76cb8bfe07814dd5a9555dc97db050ed1b21d9493b7134d84a", func := "loop.example/orthologics/laws.FnLogicOk", spec := "fnLogicOk", unfollowed := true, recurses := true, apart := false }
def FnLogicOkSaid : Prop := fnLogicOkRow.holds Try.pinned (OpenSpec.ofChange fnLogicOkSpec)

/-- ITS FALSE NEIGHBOUR: 'it returns false'. Refute it at one input. -/
def fnLogicOkWrong : ChangeSpec := { name := "fnLogicOk", fn := fun _ => fun
  | [d] => { results := [.lit (.bool false)], args := [d] }
  | _ => none }
def FnLogicOkWrongFalsely : Prop := fnLogicOkRow.holds Try.pinned (OpenSpec.ofChange fnLogicOkWrong)

/-- 'laws.FnAndOf': WHATEVER THE INPUT: true; the input reads as it did. -/
def fnAndOfSpec : ChangeSpec := { name := "fnAndOf", fn := fun _ => fun
  | [d] => { results := [.lit (.bool true)], args := [d] }
  | _ => none }
def fnAndOfRow : OpenClaim := { program := "ytcplljeglaolgaa", sum := "28ab46d2700baa76cb8bfe07814dd5a9555dc97db050ed1b21d9493b7134d84a", func := "loop.example/orthologics/laws.FnAndOf", spec := "fnAndOf", unfollowed := true, recurses := true, apart := false }
def FnAndOfSaid : Prop := fnAndOfRow.holds Try.pinned (OpenSpec.ofChange fnAndOfSpec)

/-- ITS FALSE NEIGHBOUR: 'it returns false'. Refute it at one input. -/
def fnAndOfWrong : ChangeSpec := { name := "fnAndOf", fn := fun _ => fun
  | [d] => { results := [.lit (.bool false)], args := [d] }
  | _ => none }
def FnAndOfWrongFalsely : Prop := fnAndOfRow.holds Try.pinned (OpenSpec.ofChange fnAndOfWrong)

/-- 'laws.FnOrOf': WHATEVER THE INPUT: true; the input reads as it did. -/
def fnOrOfSpec : ChangeSpec := { name := "fnOrOf", fn := fun _ => fun
  | [d] => { results := [.lit (.bool true)], args := [d] }
  | _ => none }
def fnOrOfRow : OpenClaim := { program := "ytcplljeglaolgaa", sum := "28ab46d2700baa76cb8bfe07814dd5a9555dc97db050ed1b21d9493b7134d84a", func := "loop.example/orthologics/laws.FnOrOf", spec := "fnOrOf", unfollowed := true, recurses := true, apart := false }
def FnOrOfSaid : Prop := fnOrOfRow.holds Try.pinned (OpenSpec.ofChange fnOrOfSpec)

/-- ITS FALSE NEIGHBOUR: 'it returns false'. Refute it at one input. -/
def fnOrOfWrong : ChangeSpec := { name := "fnOrOf", fn := fun _ => fun
  | [d] => { results := [.lit (.bool false)], args := [d] }
  | _ => none }
def FnOrOfWrongFalsely : Prop := fnOrOfRow.holds Try.pinned (OpenSpec.ofChange fnOrOfWrong)

/-- 'laws.FnNotOf': WHATEVER THE INPUT: true; the input reads as it did. -/
def fnNotOfSpec : ChangeSpec := { name := "fnNotOf", fn := fun _ => fun
  | [d] => { results := [.lit (.bool true)], args := [d] }
  | _ => none }
def fnNotOfRow : OpenClaim := { program := "ytcplljeglaolgaa", sum := "28ab46d2700baa76cb8bfe07814dd5a9555dc97db050ed1b21d9493b7134d84a", func := "loop.example/orthologics/laws.FnNotOf", spec := "fnNotOf", unfollowed := true, recurses := true, apart := false }
def FnNotOfSaid : Prop := fnNotOfRow.holds Try.pinned (OpenSpec.ofChange fnNotOfSpec)

/-- ITS FALSE NEIGHBOUR: 'it returns false'. Refute it at one input. -/
def fnNotOfWrong : ChangeSpec := { name := "fnNotOf", fn := fun _ => fun
  | [d] => { results := [.lit (.bool false)], args := [d] }
  | _ => none }
def FnNotOfWrongFalsely : Prop := fnNotOfRow.holds Try.pinned (OpenSpec.ofChange fnNotOfWrong)

/-- 'laws.FnNoOf': WHATEVER THE INPUT: true; the input reads as it did. -/
def fnNoOfSpec : ChangeSpec := { name := "fnNoOf", fn := fun _ => fun
  | [d] => { results := [.lit (.bool true)], args := [d] }
  | _ => none }
def fnNoOfRow : OpenClaim := { program := "ytcplljeglaolgaa", sum := "28ab46d2700baa76cb8bfe07814dd5a9555dc97db050ed1b21d9493b7134d84a", func := "loop.example/orthologics/laws.FnNoOf", spec := "fnNoOf", unfollowed := true, recurses := true, apart := false }
def FnNoOfSaid : Prop := fnNoOfRow.holds Try.pinned (OpenSpec.ofChange fnNoOfSpec)

/-- ITS FALSE NEIGHBOUR: 'it returns false'. Refute it at one input. -/
def fnNoOfWrong : ChangeSpec := { name := "fnNoOf", fn := fun _ => fun
  | [d] => { results := [.lit (.bool false)], args := [d] }
  | _ => none }
def FnNoOfWrongFalsely : Prop := fnNoOfRow.holds Try.pinned (OpenSpec.ofChange fnNoOfWrong)

/-- 'laws.FnYesOf': WHATEVER THE INPUT: true; the input reads as it did. -/
def fnYesOfSpec : ChangeSpec := { name := "fnYesOf", fn := fun _ => fun
  | [d] => { results := [.lit (.bool true)], args := [d] }
  | _ => none }
def fnYesOfRow : OpenClaim := { program := "ytcplljeglaolgaa", sum := "28ab46d2700baa76cb8bfe07814dd5a9555dc97db050ed1b21d9493b7134d84a", func := "loop.example/orthologics/laws.FnYesOf", spec := "fnYesOf", unfollowed := true, recurses := true, apart := false }
def FnYesOfSaid : Prop := fnYesOfRow.holds Try.pinned (OpenSpec.ofChange fnYesOfSpec)

/-- ITS FALSE NEIGHBOUR: 'it returns false'. Refute it at one input. -/
def fnYesOfWrong : ChangeSpec := { name := "fnYesOf", fn := fun _ => fun
  | [d] => { results := [.lit (.bool false)], args := [d] }
  | _ => none }
def FnYesOfWrongFalsely : Prop := fnYesOfRow.holds Try.pinned (OpenSpec.ofChange fnYesOfWrong)

/-- 'laws.FnApartOk': WHATEVER THE INPUT: true; the input reads as it did. -/
def fnApartOkSpec : ChangeSpec := { name := "fnApartOk", fn := fun _ => fun
  | [d] => { results := [.lit (.bool true)], args := [d] }
  | _ => none }
def fnApartOkRow : OpenClaim := { program := "ytcplljeglaolgaa", sum := "28ab46d2700baa76cb8bfe07814dd5a9555dc97db050ed1b21d9493b7134d84a", func := "loop.example/orthologics/laws.FnApartOk", spec := "fnApartOk", unfollowed := true, recurses := true, apart := false }
def FnApartOkSaid : Prop := fnApartOkRow.holds Try.pinned (OpenSpec.ofChange fnApartOkSpec)

/-- ITS FALSE NEIGHBOUR: 'it returns false'. Refute it at one input. -/
def fnApartOkWrong : ChangeSpec := { name := "fnApartOk", fn := fun _ => fun
  | [d] => { results := [.lit (.bool false)], args := [d] }
  | _ => none }
def FnApartOkWrongFalsely : Prop := fnApartOkRow.holds Try.pinned (OpenSpec.ofChange fnApartOkWrong)

/-- 'laws.FnExactLogicOk': WHATEVER THE INPUT: true; the input reads as it did. -/
def fnExactLogicOkSpec : ChangeSpec := { name := "fnExactLogicOk", fn := fun _ => fun
  | [d] => { results := [.lit (.bool true)], args := [d] }
  | _ => none }
def fnExactLogicOkRow : OpenClaim := { program := "ytcplljeglaolgaa", sum := "28ab46d2700baa76cb8bfe07814dd5a9555dc97db050ed1b21d9493b7134d84a", func := "loop.example/orthologics/laws.FnExactLogicOk", spec := "fnExactLogicOk", unfollowed := true, recurses := true, apart := false }
def FnExactLogicOkSaid : Prop := fnExactLogicOkRow.holds Try.pinned (OpenSpec.ofChange fnExactLogicOkSpec)

/-- ITS FALSE NEIGHBOUR: 'it returns false'. Refute it at one input. -/
def fnExactLogicOkWrong : ChangeSpec := { name := "fnExactLogicOk", fn := fun _ => fun
  | [d] => { results := [.lit (.bool false)], args := [d] }
  | _ => none }
def FnExactLogicOkWrongFalsely : Prop := fnExactLogicOkRow.holds Try.pinned (OpenSpec.ofChange fnExactLogicOkWrong)

/-- 'laws.FnExactAndOf': WHATEVER THE INPUT: true; the input reads as it did. -/
def fnExactAndOfSpec : ChangeSpec := { name := "fnExactAndOf", fn := fun _ => fun
  | [d1, d2, d3] => { results := [.lit (.bool true)], args := [d1, d2, d3] }
  | _ => none }
def fnExactAndOfRow : OpenClaim := { program := "ytcplljeglaolgaa", sum := "28ab46d2700baa76cb8bfe07814dd5a9555dc97db050ed1b21d9493b7134d84a", func := "loop.example/orthologics/laws.FnExactAndOf", spec := "fnExactAndOf", unfollowed := true, recurses := true, apart := false }
def FnExactAndOfSaid : Prop := fnExactAndOfRow.holds Try.pinned (OpenSpec.ofChange fnExactAndOfSpec)

/-- ITS FALSE NEIGHBOUR: 'it returns false'. Refute it at one input. -/
def fnExactAndOfWrong : ChangeSpec := { name := "fnExactAndOf", fn := fun _ => fun
  | [d1, d2, d3] => { results := [.lit (.bool false)], args := [d1, d2, d3] }
  | _ => none }
def FnExactAndOfWrongFalsely : Prop := fnExactAndOfRow.holds Try.pinned (OpenSpec.ofChange fnExactAndOfWrong)

/-- 'laws.FnExactOrOf': WHATEVER THE INPUT: true; the input reads as it did. -/
def fnExactOrOfSpec : ChangeSpec := { name := "fnExactOrOf", fn := fun _ => fun
  | [d1, d2, d3] => { results := [.lit (.bool true)], args := [d1, d2, d3] }
  | _ => none }
def fnExactOrOfRow : OpenClaim := { program := "ytcplljeglaolgaa", sum := "28ab46d2700baa76cb8bfe07814dd5a9555dc97db050ed1b21d9493b7134d84a", func := "loop.example/orthologics/laws.FnExactOrOf", spec := "fnExactOrOf", unfollowed := true, recurses := true, apart := false }
def FnExactOrOfSaid : Prop := fnExactOrOfRow.holds Try.pinned (OpenSpec.ofChange fnExactOrOfSpec)

/-- ITS FALSE NEIGHBOUR: 'it returns false'. Refute it at one input. -/
def fnExactOrOfWrong : ChangeSpec := { name := "fnExactOrOf", fn := fun _ => fun
  | [d1, d2, d3] => { results := [.lit (.bool false)], args := [d1, d2, d3] }
  | _ => none }
def FnExactOrOfWrongFalsely : Prop := fnExactOrOfRow.holds Try.pinned (OpenSpec.ofChange fnExactOrOfWrong)

/-- 'laws.FnExactNotOf': WHATEVER THE INPUT: true; the input reads as it did. -/
def fnExactNotOfSpec : ChangeSpec := { name := "fnExactNotOf", fn := fun _ => fun
  | [d1, d2] => { results := [.lit (.bool true)], args := [d1, d2] }
  | _ => none }
def fnExactNotOfRow : OpenClaim := { program := "ytcplljeglaolgaa", sum := "28ab46d2700baa76cb8bfe07814dd5a9555dc97db050ed1b21d9493b7134d84a", func := "loop.example/orthologics/laws.FnExactNotOf", spec := "fnExactNotOf", unfollowed := true, recurses := true, apart := false }
def FnExactNotOfSaid : Prop := fnExactNotOfRow.holds Try.pinned (OpenSpec.ofChange fnExactNotOfSpec)

/-- ITS FALSE NEIGHBOUR: 'it returns false'. Refute it at one input. -/
def fnExactNotOfWrong : ChangeSpec := { name := "fnExactNotOf", fn := fun _ => fun
  | [d1, d2] => { results := [.lit (.bool false)], args := [d1, d2] }
  | _ => none }
def FnExactNotOfWrongFalsely : Prop := fnExactNotOfRow.holds Try.pinned (OpenSpec.ofChange fnExactNotOfWrong)

/-- 'laws.FnExactNoOf': WHATEVER THE INPUT: true; the input reads as it did. -/
def fnExactNoOfSpec : ChangeSpec := { name := "fnExactNoOf", fn := fun _ => fun
  | [d] => { results := [.lit (.bool true)], args := [d] }
  | _ => none }
def fnExactNoOfRow : OpenClaim := { program := "ytcplljeglaolgaa", sum := "28ab46d2700baa76cb8bfe07814dd5a9555dc97db050ed1b21d9493b7134d84a", func := "loop.example/orthologics/laws.FnExactNoOf", spec := "fnExactNoOf", unfollowed := true, recurses := true, apart := false }
def FnExactNoOfSaid : Prop := fnExactNoOfRow.holds Try.pinned (OpenSpec.ofChange fnExactNoOfSpec)

/-- ITS FALSE NEIGHBOUR: 'it returns false'. Refute it at one input. -/
def fnExactNoOfWrong : ChangeSpec := { name := "fnExactNoOf", fn := fun _ => fun
  | [d] => { results := [.lit (.bool false)], args := [d] }
  | _ => none }
def FnExactNoOfWrongFalsely : Prop := fnExactNoOfRow.holds Try.pinned (OpenSpec.ofChange fnExactNoOfWrong)

/-- 'laws.FnExactYesOf': WHATEVER THE INPUT: true; the input reads as it did. -/
def fnExactYesOfSpec : ChangeSpec := { name := "fnExactYesOf", fn := fun _ => fun
  | [d] => { results := [.lit (.bool true)], args := [d] }
  | _ => none }
def fnExactYesOfRow : OpenClaim := { program := "ytcplljeglaolgaa", sum := "28ab46d2700baa76cb8bfe07814dd5a9555dc97db050ed1b21d9493b7134d84a", func := "loop.example/orthologics/laws.FnExactYesOf", spec := "fnExactYesOf", unfollowed := true, recurses := true, apart := false }
def FnExactYesOfSaid : Prop := fnExactYesOfRow.holds Try.pinned (OpenSpec.ofChange fnExactYesOfSpec)

/-- ITS FALSE NEIGHBOUR: 'it returns false'. Refute it at one input. -/
def fnExactYesOfWrong : ChangeSpec := { name := "fnExactYesOf", fn := fun _ => fun
  | [d] => { results := [.lit (.bool false)], args := [d] }
  | _ => none }
def FnExactYesOfWrongFalsely : Prop := fnExactYesOfRow.holds Try.pinned (OpenSpec.ofChange fnExactYesOfWrong)

/-- 'laws.FnExactApartOk': WHATEVER THE INPUT: true; the input reads as it did. -/
def fnExactApartOkSpec : ChangeSpec := { name := "fnExactApartOk", fn := fun _ => fun
  | [d1, d2, d3] => { results := [.lit (.bool true)], args := [d1, d2, d3] }
  | _ => none }
def fnExactApartOkRow : OpenClaim := { program := "ytcplljeglaolgaa", sum := "28ab46d2700baa76cb8bfe07814dd5a9555dc97db050ed1b21d9493b7134d84a", func := "loop.example/orthologics/laws.FnExactApartOk", spec := "fnExactApartOk", unfollowed := true, recurses := true, apart := false }
def FnExactApartOkSaid : Prop := fnExactApartOkRow.holds Try.pinned (OpenSpec.ofChange fnExactApartOkSpec)

/-- ITS FALSE NEIGHBOUR: 'it returns false'. Refute it at one input. -/
def fnExactApartOkWrong : ChangeSpec := { name := "fnExactApartOk", fn := fun _ => fun
  | [d1, d2, d3] => { results := [.lit (.bool false)], args := [d1, d2, d3] }
  | _ => none }
def FnExactApartOkWrongFalsely : Prop := fnExactApartOkRow.holds Try.pinned (OpenSpec.ofChange fnExactApartOkWrong)

/- THE SECOND FORM. 'bulk': how many values and letters a reading holds, each counted each time it is reached (what is shared counts as often as it is met; a slice's spare places count too). A statement '..UptoSaid' is the law's where the arguments, and the package variables that the reading takes, are together of bulk at most 1048576: NARROWER than '..Said'. Prove '..Said' where nothing that the law and all that it calls make is longer than what came in: it says more and counts as full. Else prove '..UptoSaid'. A law counts once. -/
mutual
def uptoBulk {H : Type} : DataW H → Nat
  | .lit (.string bytes) => bytes.length + 1
  | .lit _ => 1
  | .nil => 1
  | .ptr d => uptoBulk d + 1
  | .slice elems spare => uptoBulkAll elems + uptoBulkAll spare + 1
  | .agg parts => uptoBulkAll parts + 1
  | .iface _ d => uptoBulk d + 1
  | .map entries => uptoBulkEntries entries + 1
  | .held _ => 1
def uptoBulkAll {H : Type} : List (DataW H) → Nat
  | [] => 0
  | d :: r => uptoBulk d + uptoBulkAll r
def uptoBulkEntries {H : Type} : List (Lit × DataW H) → Nat
  | [] => 0
  | x :: r => uptoBulkEntry x + uptoBulkEntries r
def uptoBulkEntry {H : Type} : Lit × DataW H → Nat
  | (.string bytes, d) => bytes.length + uptoBulk d + 1
  | (_, d) => uptoBulk d + 1
 end
def uptoSmall : (H : Type) → List (DataW H) → Bool := fun _ ds => decide (uptoBulkAll ds ≤ 1048576)
def OpenSpec.upto (s : _root_.Go.ChangeSpec) : _root_.Go.OpenSpec := { _root_.Go.OpenSpec.ofChange s with cond := some uptoSmall }

/-- 'laws.FnMeetOf', WHERE WHAT IT READS IS OF BULK AT MOST 1048576: true; the input reads as it did. -/
def fnMeetOfUptoRow : OpenClaim := { program := "ytcplljeglaolgaa", sum := "28ab46d2700baa76cb8bfe07814dd5a9555dc97db050ed1b21d9493b7134d84a", func := "loop.example/orthologics/laws.FnMeetOf", spec := "fnMeetOf", unfollowed := true, recurses := true, apart := false, narrowed := true }
def FnMeetOfUptoSaid : Prop := fnMeetOfUptoRow.holds Try.pinned (OpenSpec.upto fnMeetOfSpec)

/-- 'laws.FnJoinOf', WHERE WHAT IT READS IS OF BULK AT MOST 1048576: true; the input reads as it did. -/
def fnJoinOfUptoRow : OpenClaim := { program := "ytcplljeglaolgaa", sum := "28ab46d2700baa76cb8bfe07814dd5a9555dc97db050ed1b21d9493b7134d84a", func := "loop.example/orthologics/laws.FnJoinOf", spec := "fnJoinOf", unfollowed := true, recurses := true, apart := false, narrowed := true }
def FnJoinOfUptoSaid : Prop := fnJoinOfUptoRow.holds Try.pinned (OpenSpec.upto fnJoinOfSpec)

/-- 'laws.FnLatticeOk', WHERE WHAT IT READS IS OF BULK AT MOST 1048576: true; the input reads as it did. -/
def fnLatticeOkUptoRow : OpenClaim := { program := "ytcplljeglaolgaa", sum := "28ab46d2700baa76cb8bfe07814dd5a9555dc97db050ed1b21d9493b7134d84a", func := "loop.example/orthologics/laws.FnLatticeOk", spec := "fnLatticeOk", unfollowed := true, recurses := true, apart := false, narrowed := true }
def FnLatticeOkUptoSaid : Prop := fnLatticeOkUptoRow.holds Try.pinned (OpenSpec.upto fnLatticeOkSpec)

/-- 'laws.FnTurnedOf', WHERE WHAT IT READS IS OF BULK AT MOST 1048576: true; the input reads as it did. -/
def fnTurnedOfUptoRow : OpenClaim := { program := "ytcplljeglaolgaa", sum := "28ab46d2700baa76cb8bfe07814dd5a9555dc97db050ed1b21d9493b7134d84a", func := "loop.example/orthologics/laws.FnTurnedOf", spec := "fnTurnedOf", unfollowed := true, recurses := true, apart := false, narrowed := true }
def FnTurnedOfUptoSaid : Prop := fnTurnedOfUptoRow.holds Try.pinned (OpenSpec.upto fnTurnedOfSpec)

/-- 'laws.FnAtomsOf', WHERE WHAT IT READS IS OF BULK AT MOST 1048576: true; the input reads as it did. -/
def fnAtomsOfUptoRow : OpenClaim := { program := "ytcplljeglaolgaa", sum := "28ab46d2700baa76cb8bfe07814dd5a9555dc97db050ed1b21d9493b7134d84a", func := "loop.example/orthologics/laws.FnAtomsOf", spec := "fnAtomsOf", unfollowed := true, recurses := true, apart := false, narrowed := true }
def FnAtomsOfUptoSaid : Prop := fnAtomsOfUptoRow.holds Try.pinned (OpenSpec.upto fnAtomsOfSpec)

/-- 'laws.FnLogicOk', WHERE WHAT IT READS IS OF BULK AT MOST 1048576: true; the input reads as it did. -/
def fnLogicOkUptoRow : OpenClaim := { program := "ytcplljeglaolgaa", sum := "28ab46d2700baa76cb8bfe07814dd5a9555dc97db050ed1b21d9493b7134d84a", func := "loop.example/orthologics/laws.FnLogicOk", spec := "fnLogicOk", unfollowed := true, recurses := true, apart := false, narrowed := true }
def FnLogicOkUptoSaid : Prop := fnLogicOkUptoRow.holds Try.pinned (OpenSpec.upto fnLogicOkSpec)

/-- 'laws.FnAndOf', WHERE WHAT IT READS IS OF BULK AT MOST 1048576: true; the input reads as it did. -/
def fnAndOfUptoRow : OpenClaim := { program := "ytcplljeglaolgaa", sum := "28ab46d2700baa76cb8bfe07814dd5a9555dc97db050ed1b21d9493b7134d84a", func := "loop.example/orthologics/laws.FnAndOf", spec := "fnAndOf", unfollowed := true, recurses := true, apart := false, narrowed := true }
def FnAndOfUptoSaid : Prop := fnAndOfUptoRow.holds Try.pinned (OpenSpec.upto fnAndOfSpec)

/-- 'laws.FnOrOf', WHERE WHAT IT READS IS OF BULK AT MOST 1048576: true; the input reads as it did. -/
def fnOrOfUptoRow : OpenClaim := { program := "ytcplljeglaolgaa", sum := "28ab46d2700baa76cb8bfe07814dd5a9555dc97db050ed1b21d9493b7134d84a", func := "loop.example/orthologics/laws.FnOrOf", spec := "fnOrOf", unfollowed := true, recurses := true, apart := false, narrowed := true }
def FnOrOfUptoSaid : Prop := fnOrOfUptoRow.holds Try.pinned (OpenSpec.upto fnOrOfSpec)

/-- 'laws.FnNotOf', WHERE WHAT IT READS IS OF BULK AT MOST 1048576: true; the input reads as it did. -/
def fnNotOfUptoRow : OpenClaim := { program := "ytcplljeglaolgaa", sum := "28ab46d2700baa76cb8bfe07814dd5a9555dc97db050ed1b21d9493b7134d84a", func := "loop.example/orthologics/laws.FnNotOf", spec := "fnNotOf", unfollowed := true, recurses := true, apart := false, narrowed := true }
def FnNotOfUptoSaid : Prop := fnNotOfUptoRow.holds Try.pinned (OpenSpec.upto fnNotOfSpec)

/-- 'laws.FnNoOf', WHERE WHAT IT READS IS OF BULK AT MOST 1048576: true; the input reads as it did. -/
def fnNoOfUptoRow : OpenClaim := { program := "ytcplljeglaolgaa", sum := "28ab46d2700baa76cb8bfe07814dd5a9555dc97db050ed1b21d9493b7134d84a", func := "loop.example/orthologics/laws.FnNoOf", spec := "fnNoOf", unfollowed := true, recurses := true, apart := false, narrowed := true }
def FnNoOfUptoSaid : Prop := fnNoOfUptoRow.holds Try.pinned (OpenSpec.upto fnNoOfSpec)

/-- 'laws.FnYesOf', WHERE WHAT IT READS IS OF BULK AT MOST 1048576: true; the input reads as it did. -/
def fnYesOfUptoRow : OpenClaim := { program := "ytcplljeglaolgaa", sum := "28ab46d2700baa76cb8bfe07814dd5a9555dc97db050ed1b21d9493b7134d84a", func := "loop.example/orthologics/laws.FnYesOf", spec := "fnYesOf", unfollowed := true, recurses := true, apart := false, narrowed := true }
def FnYesOfUptoSaid : Prop := fnYesOfUptoRow.holds Try.pinned (OpenSpec.upto fnYesOfSpec)

/-- 'laws.FnApartOk', WHERE WHAT IT READS IS OF BULK AT MOST 1048576: true; the input reads as it did. -/
def fnApartOkUptoRow : OpenClaim := { program := "ytcplljeglaolgaa", sum := "28ab46d2700baa76cb8bfe07814dd5a9555dc97db050ed1b21d9493b7134d84a", func := "loop.example/orthologics/laws.FnApartOk", spec := "fnApartOk", unfollowed := true, recurses := true, apart := false, narrowed := true }
def FnApartOkUptoSaid : Prop := fnApartOkUptoRow.holds Try.pinned (OpenSpec.upto fnApartOkSpec)

/-- 'laws.FnExactLogicOk', WHERE WHAT IT READS IS OF BULK AT MOST 1048576: true; the input reads as it did. -/
def fnExactLogicOkUptoRow : OpenClaim := { program := "ytcplljeglaolgaa", sum := "28ab46d2700baa76cb8bfe07814dd5a9555dc97db050ed1b21d9493b7134d84a", func := "loop.example/orthologics/laws.FnExactLogicOk", spec := "fnExactLogicOk", unfollowed := true, recurses := true, apart := false, narrowed := true }
def FnExactLogicOkUptoSaid : Prop := fnExactLogicOkUptoRow.holds Try.pinned (OpenSpec.upto fnExactLogicOkSpec)

/-- 'laws.FnExactAndOf', WHERE WHAT IT READS IS OF BULK AT MOST 1048576: true; the input reads as it did. -/
def fnExactAndOfUptoRow : OpenClaim := { program := "ytcplljeglaolgaa", sum := "28ab46d2700baa76cb8bfe07814dd5a9555dc97db050ed1b21d9493b7134d84a", func := "loop.example/orthologics/laws.FnExactAndOf", spec := "fnExactAndOf", unfollowed := true, recurses := true, apart := false, narrowed := true }
def FnExactAndOfUptoSaid : Prop := fnExactAndOfUptoRow.holds Try.pinned (OpenSpec.upto fnExactAndOfSpec)

/-- 'laws.FnExactOrOf', WHERE WHAT IT READS IS OF BULK AT MOST 1048576: true; the input reads as it did. -/
def fnExactOrOfUptoRow : OpenClaim := { program := "ytcplljeglaolgaa", sum := "28ab46d2700baa76cb8bfe07814dd5a9555dc97db050ed1b21d9493b7134d84a", func := "loop.example/orthologics/laws.FnExactOrOf", spec := "fnExactOrOf", unfollowed := true, recurses := true, apart := false, narrowed := true }
def FnExactOrOfUptoSaid : Prop := fnExactOrOfUptoRow.holds Try.pinned (OpenSpec.upto fnExactOrOfSpec)

/-- 'laws.FnExactNotOf', WHERE WHAT IT READS IS OF BULK AT MOST 1048576: true; the input reads as it did. -/
def fnExactNotOfUptoRow : OpenClaim := { program := "ytcplljeglaolgaa", sum := "28ab46d2700baa76cb8bfe07814dd5a9555dc97db050ed1b21d9493b7134d84a", func := "loop.example/orthologics/laws.FnExactNotOf", spec := "fnExactNotOf", unfollowed := true, recurses := true, apart := false, narrowed := true }
def FnExactNotOfUptoSaid : Prop := fnExactNotOfUptoRow.holds Try.pinned (OpenSpec.upto fnExactNotOfSpec)

/-- 'laws.FnExactNoOf', WHERE WHAT IT READS IS OF BULK AT MOST 1048576: true; the input reads as it did. -/
def fnExactNoOfUptoRow : OpenClaim := { program := "ytcplljeglaolgaa", sum := "28ab46d2700baa76cb8bfe07814dd5a9555dc97db050ed1b21d9493b7134d84a", func := "loop.example/orthologics/laws.FnExactNoOf", spec := "fnExactNoOf", unfollowed := true, recurses := true, apart := false, narrowed := true }
def FnExactNoOfUptoSaid : Prop := fnExactNoOfUptoRow.holds Try.pinned (OpenSpec.upto fnExactNoOfSpec)

/-- 'laws.FnExactYesOf', WHERE WHAT IT READS IS OF BULK AT MOST 1048576: true; the input reads as it did. -/
def fnExactYesOfUptoRow : OpenClaim := { program := "ytcplljeglaolgaa", sum := "28ab46d2700baa76cb8bfe07814dd5a9555dc97db050ed1b21d9493b7134d84a", func := "loop.example/orthologics/laws.FnExactYesOf", spec := "fnExactYesOf", unfollowed := true, recurses := true, apart := false, narrowed := true }
def FnExactYesOfUptoSaid : Prop := fnExactYesOfUptoRow.holds Try.pinned (OpenSpec.upto fnExactYesOfSpec)

/-- 'laws.FnExactApartOk', WHERE WHAT IT READS IS OF BULK AT MOST 1048576: true; the input reads as it did. -/
def fnExactApartOkUptoRow : OpenClaim := { program := "ytcplljeglaolgaa", sum := "28ab46d2700baa76cb8bfe07814dd5a9555dc97db050ed1b21d9493b7134d84a", func := "loop.example/orthologics/laws.FnExactApartOk", spec := "fnExactApartOk", unfollowed := true, recurses := true, apart := false, narrowed := true }
def FnExactApartOkUptoSaid : Prop := fnExactApartOkUptoRow.holds Try.pinned (OpenSpec.upto fnExactApartOkSpec)

end Rows
end Go.Proofs.Ytcplljeglaolgaa
