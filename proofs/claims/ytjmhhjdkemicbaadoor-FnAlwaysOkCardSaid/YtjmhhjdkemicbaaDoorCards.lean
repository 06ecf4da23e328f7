/-
  DERIVED. GIVEN WITH THE SEED: THE CARDS: each row of YtjmhhjdkemicbaaDoorRows.lean that lists a variable, with what it lists TIED to the program's text (the seventh form; the later family's looks); each row that meets fmt, with fmt's text TOLD by the authors' own Lean function (tested against real Go, not proved from fmt's source: count such statements apart). THE CARD IS WHAT COUNTS. Prove the row's statement (the work); the ties are given (YtjmhhjdkemicbaaDoorTie.lean); close each card by the builder's one call (the guide's Derived/Test/ToyasCard.lean, 'card_holds'). Laid BY PROGRAM, IN A SANDBOX (cutbox-door.mjs). By AI agents, Wed Nov 11 2026. No macro, syntax, notation, axiom, sorry.
-/
import Derived.Test.YtjmhhjdkemicbaaDoorRows
import GoSem.ClaimSeven
namespace Go.Proofs.YtjmhhjdkemicbaaDoor
namespace Rows

/-- THE TIED CARD OF 'laws.FnAlwaysOk'. -/
def fnAlwaysOkCard : Claim7 := { stood := { row := fnAlwaysOkRow, standIns := [], harness := (true, "30fe6ecf1452ea3603d435265c644b2cbefd36a125e536884b23c5b462926b6e"), looks := true }, kinds := [], alts := [], laidByText := true, laidKinds := [.data, .data], laidTests := true, laidLooks := .later }
def FnAlwaysOkCardSaid : Prop := Claim7.holds Tryd.pinned (.plain (OpenSpec.ofChange fnAlwaysOkSpec)) fnAlwaysOkCard

/-- THE SECOND FORM's CARD OF 'laws.FnAlwaysOk'. -/
def fnAlwaysOkUptoCard : Claim7 := { stood := { row := fnAlwaysOkUptoRow, standIns := [], harness := (true, "30fe6ecf1452ea3603d435265c644b2cbefd36a125e536884b23c5b462926b6e"), looks := true }, kinds := [], alts := [], laidByText := true, laidKinds := [.data, .data], laidTests := true, laidLooks := .later }
def FnAlwaysOkUptoCardSaid : Prop := Claim7.holds Tryd.pinned (.plain (OpenSpec.upto fnAlwaysOkSpec)) fnAlwaysOkUptoCard
end Rows
end Go.Proofs.YtjmhhjdkemicbaaDoor
