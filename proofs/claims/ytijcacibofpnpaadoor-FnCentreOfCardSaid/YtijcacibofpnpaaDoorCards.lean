/-
  DERIVED. GIVEN WITH THE SEED: THE CARDS: each row of YtijcacibofpnpaaDoorRows.lean that lists a variable, with what it lists TIED to the program's text (the seventh form; the later family's looks); each row that meets fmt, with fmt's text TOLD by the authors' own Lean function (tested against real Go, not proved from fmt's source: count such statements apart). THE CARD IS WHAT COUNTS. Prove the row's statement (the work); the ties are given (YtijcacibofpnpaaDoorTie.lean); close each card by the builder's one call (the guide's Derived/Test/ToyasCard.lean, 'card_holds'). Laid BY PROGRAM, IN A SANDBOX (cutbox-door.mjs). By AI agents, Wed Nov 11 2026. No macro, syntax, notation, axiom, sorry.
-/
import Derived.Test.YtijcacibofpnpaaDoorRows
import GoSem.ClaimSeven
namespace Go.Proofs.YtijcacibofpnpaaDoor
namespace Rows

/-- THE TIED CARD OF 'laws.FnCentreOf'. -/
def fnCentreOfCard : Claim7 := { stood := { row := fnCentreOfRow, standIns := [], harness := (true, "9bfa014e1db8cd2ac8835884aafaec51bd308d2d5aa8bb5915597d34ccf75862"), looks := false }, kinds := [], alts := [], laidByText := true, laidKinds := [.data, .data], laidTests := true, laidLooks := .later }
def FnCentreOfCardSaid : Prop := Claim7.holds Tryd.pinned (.plain (OpenSpec.ofChange fnCentreOfSpec)) fnCentreOfCard

/-- THE SECOND FORM's CARD OF 'laws.FnCentreOf'. -/
def fnCentreOfUptoCard : Claim7 := { stood := { row := fnCentreOfUptoRow, standIns := [], harness := (true, "9bfa014e1db8cd2ac8835884aafaec51bd308d2d5aa8bb5915597d34ccf75862"), looks := false }, kinds := [], alts := [], laidByText := true, laidKinds := [.data, .data], laidTests := true, laidLooks := .later }
def FnCentreOfUptoCardSaid : Prop := Claim7.holds Tryd.pinned (.plain (OpenSpec.upto fnCentreOfSpec)) fnCentreOfUptoCard
end Rows
end Go.Proofs.YtijcacibofpnpaaDoor
