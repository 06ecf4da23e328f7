/-
  DERIVED. GIVEN WITH THE SEED: THE CARDS: each row of YtkfinkhdfbogjaaDoorRows.lean that lists a variable, with what it lists TIED to the program's text (the seventh form; the later family's looks); each row that meets fmt, with fmt's text TOLD by the authors' own Lean function (tested against real Go, not proved from fmt's source: count such statements apart). THE CARD IS WHAT COUNTS. Prove the row's statement (the work); the ties are given (YtkfinkhdfbogjaaDoorTie.lean); close each card by the builder's one call (the guide's Derived/Test/ToyasCard.lean, 'card_holds'). Laid BY PROGRAM, IN A SANDBOX (cutbox-door.mjs). By AI agents, Wed Nov 11 2026. No macro, syntax, notation, axiom, sorry.
-/
import Derived.Test.YtkfinkhdfbogjaaDoorRows
import GoSem.ClaimSeven
namespace Go.Proofs.YtkfinkhdfbogjaaDoor
namespace Rows

/-- THE TIED CARD OF 'laws.FnUpToOf'. -/
def fnUpToOfCard : Claim7 := { stood := { row := fnUpToOfRow, standIns := [], harness := (true, "2dd0aac8aa47ae24f9a63d829ebcf6614abc41f489ebe1629e16003421141d95"), looks := false }, kinds := [], alts := [], laidByText := true, laidKinds := [.data, .data], laidTests := true, laidLooks := .later }
def FnUpToOfCardSaid : Prop := Claim7.holds Tryd.pinned (.plain (OpenSpec.ofChange fnUpToOfSpec)) fnUpToOfCard

/-- THE TIED CARD OF 'laws.FnExactUpToOf'. -/
def fnExactUpToOfCard : Claim7 := { stood := { row := fnExactUpToOfRow, standIns := [], harness := (true, "2dd0aac8aa47ae24f9a63d829ebcf6614abc41f489ebe1629e16003421141d95"), looks := false }, kinds := [], alts := [], laidByText := true, laidKinds := [.data, .data], laidTests := true, laidLooks := .later }
def FnExactUpToOfCardSaid : Prop := Claim7.holds Tryd.pinned (.plain (OpenSpec.ofChange fnExactUpToOfSpec)) fnExactUpToOfCard

/-- THE SECOND FORM's CARD OF 'laws.FnUpToOf'. -/
def fnUpToOfUptoCard : Claim7 := { stood := { row := fnUpToOfUptoRow, standIns := [], harness := (true, "2dd0aac8aa47ae24f9a63d829ebcf6614abc41f489ebe1629e16003421141d95"), looks := false }, kinds := [], alts := [], laidByText := true, laidKinds := [.data, .data], laidTests := true, laidLooks := .later }
def FnUpToOfUptoCardSaid : Prop := Claim7.holds Tryd.pinned (.plain (OpenSpec.upto fnUpToOfSpec)) fnUpToOfUptoCard

/-- THE SECOND FORM's CARD OF 'laws.FnExactUpToOf'. -/
def fnExactUpToOfUptoCard : Claim7 := { stood := { row := fnExactUpToOfUptoRow, standIns := [], harness := (true, "2dd0aac8aa47ae24f9a63d829ebcf6614abc41f489ebe1629e16003421141d95"), looks := false }, kinds := [], alts := [], laidByText := true, laidKinds := [.data, .data], laidTests := true, laidLooks := .later }
def FnExactUpToOfUptoCardSaid : Prop := Claim7.holds Tryd.pinned (.plain (OpenSpec.upto fnExactUpToOfSpec)) fnExactUpToOfUptoCard
end Rows
end Go.Proofs.YtkfinkhdfbogjaaDoor
