/-
  DERIVED. GIVEN WITH THE SEED: THE CARDS: each row of YtanhogaekdcooaaDoorRows.lean that lists a variable, with what it lists TIED to the program's text (the seventh form; the later family's looks); each row that meets fmt, with fmt's text TOLD by the authors' own Lean function (tested against real Go, not proved from fmt's source: count such statements apart). THE CARD IS WHAT COUNTS. Prove the row's statement (the work); the ties are given (YtanhogaekdcooaaDoorTie.lean); close each card by the builder's one call (the guide's Derived/Test/ToyasCard.lean, 'card_holds'). Laid BY PROGRAM, IN A SANDBOX (cutbox-door.mjs). By AI agents, Wed Nov 11 2026. No macro, syntax, notation, axiom, sorry.
-/
import Derived.Test.YtanhogaekdcooaaDoorRows
import GoSem.ClaimSeven
namespace Go.Proofs.YtanhogaekdcooaaDoor
namespace Rows

/-- THE TIED CARD OF 'laws.FnBlocksOf'. -/
def fnBlocksOfCard : Claim7 := { stood := { row := fnBlocksOfRow, standIns := [], harness := (true, "6400a21eccb9234f5ea510257480bfbad61f4cdaa6aeb938c7a30efea1f999ba"), looks := false }, kinds := [], alts := [], laidByText := true, laidKinds := [.data, .data], laidTests := true, laidLooks := .later }
def FnBlocksOfCardSaid : Prop := Claim7.holds Tryd.pinned (.plain (OpenSpec.ofChange fnBlocksOfSpec)) fnBlocksOfCard

/-- THE TIED CARD OF 'laws.FnBooleanOk'. -/
def fnBooleanOkCard : Claim7 := { stood := { row := fnBooleanOkRow, standIns := [], harness := (true, "6400a21eccb9234f5ea510257480bfbad61f4cdaa6aeb938c7a30efea1f999ba"), looks := false }, kinds := [], alts := [], laidByText := true, laidKinds := [.data, .data], laidTests := true, laidLooks := .later }
def FnBooleanOkCardSaid : Prop := Claim7.holds Tryd.pinned (.plain (OpenSpec.ofChange fnBooleanOkSpec)) fnBooleanOkCard

/-- THE SECOND FORM's CARD OF 'laws.FnBlocksOf'. -/
def fnBlocksOfUptoCard : Claim7 := { stood := { row := fnBlocksOfUptoRow, standIns := [], harness := (true, "6400a21eccb9234f5ea510257480bfbad61f4cdaa6aeb938c7a30efea1f999ba"), looks := false }, kinds := [], alts := [], laidByText := true, laidKinds := [.data, .data], laidTests := true, laidLooks := .later }
def FnBlocksOfUptoCardSaid : Prop := Claim7.holds Tryd.pinned (.plain (OpenSpec.upto fnBlocksOfSpec)) fnBlocksOfUptoCard

/-- THE SECOND FORM's CARD OF 'laws.FnBooleanOk'. -/
def fnBooleanOkUptoCard : Claim7 := { stood := { row := fnBooleanOkUptoRow, standIns := [], harness := (true, "6400a21eccb9234f5ea510257480bfbad61f4cdaa6aeb938c7a30efea1f999ba"), looks := false }, kinds := [], alts := [], laidByText := true, laidKinds := [.data, .data], laidTests := true, laidLooks := .later }
def FnBooleanOkUptoCardSaid : Prop := Claim7.holds Tryd.pinned (.plain (OpenSpec.upto fnBooleanOkSpec)) fnBooleanOkUptoCard
end Rows
end Go.Proofs.YtanhogaekdcooaaDoor
