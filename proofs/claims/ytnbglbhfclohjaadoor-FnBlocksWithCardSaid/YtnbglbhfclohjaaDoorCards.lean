/-
  DERIVED. GIVEN WITH THE SEED: THE CARDS: each row of YtnbglbhfclohjaaDoorRows.lean that lists a variable, with what it lists TIED to the program's text (the seventh form; the later family's looks); each row that meets fmt, with fmt's text TOLD by the authors' own Lean function (tested against real Go, not proved from fmt's source: count such statements apart). THE CARD IS WHAT COUNTS. Prove the row's statement (the work); the ties are given (YtnbglbhfclohjaaDoorTie.lean); close each card by the builder's one call (the guide's Derived/Test/ToyasCard.lean, 'card_holds'). Laid BY PROGRAM, IN A SANDBOX (cutbox-door.mjs). By AI agents, Wed Nov 11 2026. No macro, syntax, notation, axiom, sorry.
-/
import Derived.Test.YtnbglbhfclohjaaDoorRows
import GoSem.ClaimSeven
namespace Go.Proofs.YtnbglbhfclohjaaDoor
namespace Rows

/-- THE TIED CARD OF 'laws.FnCentreOf'. -/
def fnCentreOfCard : Claim7 := { stood := { row := fnCentreOfRow, standIns := [], harness := (true, "42fe5154f695cd1325579468a1ca3afc443a4c288fe0c118021326b0d8a6380a"), looks := false }, kinds := [], alts := [], laidByText := true, laidKinds := [.data, .data], laidTests := true, laidLooks := .later }
def FnCentreOfCardSaid : Prop := Claim7.holds Tryd.pinned (.plain (OpenSpec.ofChange fnCentreOfSpec)) fnCentreOfCard

/-- THE TIED CARD OF 'laws.FnAgreeOk'. -/
def fnAgreeOkCard : Claim7 := { stood := { row := fnAgreeOkRow, standIns := [], harness := (true, "42fe5154f695cd1325579468a1ca3afc443a4c288fe0c118021326b0d8a6380a"), looks := false }, kinds := [], alts := [], laidByText := true, laidKinds := [.data, .data], laidTests := true, laidLooks := .later }
def FnAgreeOkCardSaid : Prop := Claim7.holds Tryd.pinned (.plain (OpenSpec.ofChange fnAgreeOkSpec)) fnAgreeOkCard

/-- THE TIED CARD OF 'laws.FnBlocksOf'. -/
def fnBlocksOfCard : Claim7 := { stood := { row := fnBlocksOfRow, standIns := [], harness := (true, "42fe5154f695cd1325579468a1ca3afc443a4c288fe0c118021326b0d8a6380a"), looks := false }, kinds := [], alts := [], laidByText := true, laidKinds := [.data, .data], laidTests := true, laidLooks := .later }
def FnBlocksOfCardSaid : Prop := Claim7.holds Tryd.pinned (.plain (OpenSpec.ofChange fnBlocksOfSpec)) fnBlocksOfCard

/-- THE TIED CARD OF 'laws.FnBooleanOk'. -/
def fnBooleanOkCard : Claim7 := { stood := { row := fnBooleanOkRow, standIns := [], harness := (true, "42fe5154f695cd1325579468a1ca3afc443a4c288fe0c118021326b0d8a6380a"), looks := false }, kinds := [], alts := [], laidByText := true, laidKinds := [.data, .data], laidTests := true, laidLooks := .later }
def FnBooleanOkCardSaid : Prop := Claim7.holds Tryd.pinned (.plain (OpenSpec.ofChange fnBooleanOkSpec)) fnBooleanOkCard

/-- THE TIED CARD OF 'laws.FnBlocksWith'. -/
def fnBlocksWithCard : Claim7 := { stood := { row := fnBlocksWithRow, standIns := [], harness := (true, "42fe5154f695cd1325579468a1ca3afc443a4c288fe0c118021326b0d8a6380a"), looks := false }, kinds := [], alts := [], laidByText := true, laidKinds := [.data, .data], laidTests := true, laidLooks := .later }
def FnBlocksWithCardSaid : Prop := Claim7.holds Tryd.pinned (.plain (OpenSpec.ofChange fnBlocksWithSpec)) fnBlocksWithCard

/-- THE TIED CARD OF 'laws.FnExactAgreeOk'. -/
def fnExactAgreeOkCard : Claim7 := { stood := { row := fnExactAgreeOkRow, standIns := [], harness := (true, "42fe5154f695cd1325579468a1ca3afc443a4c288fe0c118021326b0d8a6380a"), looks := false }, kinds := [], alts := [], laidByText := true, laidKinds := [.data, .data], laidTests := true, laidLooks := .later }
def FnExactAgreeOkCardSaid : Prop := Claim7.holds Tryd.pinned (.plain (OpenSpec.ofChange fnExactAgreeOkSpec)) fnExactAgreeOkCard

/-- THE TIED CARD OF 'laws.FnExactBlocksOf'. -/
def fnExactBlocksOfCard : Claim7 := { stood := { row := fnExactBlocksOfRow, standIns := [], harness := (true, "42fe5154f695cd1325579468a1ca3afc443a4c288fe0c118021326b0d8a6380a"), looks := false }, kinds := [], alts := [], laidByText := true, laidKinds := [.data, .data], laidTests := true, laidLooks := .later }
def FnExactBlocksOfCardSaid : Prop := Claim7.holds Tryd.pinned (.plain (OpenSpec.ofChange fnExactBlocksOfSpec)) fnExactBlocksOfCard

/-- THE TIED CARD OF 'laws.FnExactBlocksWith'. -/
def fnExactBlocksWithCard : Claim7 := { stood := { row := fnExactBlocksWithRow, standIns := [], harness := (true, "42fe5154f695cd1325579468a1ca3afc443a4c288fe0c118021326b0d8a6380a"), looks := false }, kinds := [], alts := [], laidByText := true, laidKinds := [.data, .data], laidTests := true, laidLooks := .later }
def FnExactBlocksWithCardSaid : Prop := Claim7.holds Tryd.pinned (.plain (OpenSpec.ofChange fnExactBlocksWithSpec)) fnExactBlocksWithCard

/-- THE SECOND FORM's CARD OF 'laws.FnCentreOf'. -/
def fnCentreOfUptoCard : Claim7 := { stood := { row := fnCentreOfUptoRow, standIns := [], harness := (true, "42fe5154f695cd1325579468a1ca3afc443a4c288fe0c118021326b0d8a6380a"), looks := false }, kinds := [], alts := [], laidByText := true, laidKinds := [.data, .data], laidTests := true, laidLooks := .later }
def FnCentreOfUptoCardSaid : Prop := Claim7.holds Tryd.pinned (.plain (OpenSpec.upto fnCentreOfSpec)) fnCentreOfUptoCard

/-- THE SECOND FORM's CARD OF 'laws.FnAgreeOk'. -/
def fnAgreeOkUptoCard : Claim7 := { stood := { row := fnAgreeOkUptoRow, standIns := [], harness := (true, "42fe5154f695cd1325579468a1ca3afc443a4c288fe0c118021326b0d8a6380a"), looks := false }, kinds := [], alts := [], laidByText := true, laidKinds := [.data, .data], laidTests := true, laidLooks := .later }
def FnAgreeOkUptoCardSaid : Prop := Claim7.holds Tryd.pinned (.plain (OpenSpec.upto fnAgreeOkSpec)) fnAgreeOkUptoCard

/-- THE SECOND FORM's CARD OF 'laws.FnBlocksOf'. -/
def fnBlocksOfUptoCard : Claim7 := { stood := { row := fnBlocksOfUptoRow, standIns := [], harness := (true, "42fe5154f695cd1325579468a1ca3afc443a4c288fe0c118021326b0d8a6380a"), looks := false }, kinds := [], alts := [], laidByText := true, laidKinds := [.data, .data], laidTests := true, laidLooks := .later }
def FnBlocksOfUptoCardSaid : Prop := Claim7.holds Tryd.pinned (.plain (OpenSpec.upto fnBlocksOfSpec)) fnBlocksOfUptoCard

/-- THE SECOND FORM's CARD OF 'laws.FnBooleanOk'. -/
def fnBooleanOkUptoCard : Claim7 := { stood := { row := fnBooleanOkUptoRow, standIns := [], harness := (true, "42fe5154f695cd1325579468a1ca3afc443a4c288fe0c118021326b0d8a6380a"), looks := false }, kinds := [], alts := [], laidByText := true, laidKinds := [.data, .data], laidTests := true, laidLooks := .later }
def FnBooleanOkUptoCardSaid : Prop := Claim7.holds Tryd.pinned (.plain (OpenSpec.upto fnBooleanOkSpec)) fnBooleanOkUptoCard

/-- THE SECOND FORM's CARD OF 'laws.FnBlocksWith'. -/
def fnBlocksWithUptoCard : Claim7 := { stood := { row := fnBlocksWithUptoRow, standIns := [], harness := (true, "42fe5154f695cd1325579468a1ca3afc443a4c288fe0c118021326b0d8a6380a"), looks := false }, kinds := [], alts := [], laidByText := true, laidKinds := [.data, .data], laidTests := true, laidLooks := .later }
def FnBlocksWithUptoCardSaid : Prop := Claim7.holds Tryd.pinned (.plain (OpenSpec.upto fnBlocksWithSpec)) fnBlocksWithUptoCard

/-- THE SECOND FORM's CARD OF 'laws.FnExactAgreeOk'. -/
def fnExactAgreeOkUptoCard : Claim7 := { stood := { row := fnExactAgreeOkUptoRow, standIns := [], harness := (true, "42fe5154f695cd1325579468a1ca3afc443a4c288fe0c118021326b0d8a6380a"), looks := false }, kinds := [], alts := [], laidByText := true, laidKinds := [.data, .data], laidTests := true, laidLooks := .later }
def FnExactAgreeOkUptoCardSaid : Prop := Claim7.holds Tryd.pinned (.plain (OpenSpec.upto fnExactAgreeOkSpec)) fnExactAgreeOkUptoCard

/-- THE SECOND FORM's CARD OF 'laws.FnExactBlocksOf'. -/
def fnExactBlocksOfUptoCard : Claim7 := { stood := { row := fnExactBlocksOfUptoRow, standIns := [], harness := (true, "42fe5154f695cd1325579468a1ca3afc443a4c288fe0c118021326b0d8a6380a"), looks := false }, kinds := [], alts := [], laidByText := true, laidKinds := [.data, .data], laidTests := true, laidLooks := .later }
def FnExactBlocksOfUptoCardSaid : Prop := Claim7.holds Tryd.pinned (.plain (OpenSpec.upto fnExactBlocksOfSpec)) fnExactBlocksOfUptoCard

/-- THE SECOND FORM's CARD OF 'laws.FnExactBlocksWith'. -/
def fnExactBlocksWithUptoCard : Claim7 := { stood := { row := fnExactBlocksWithUptoRow, standIns := [], harness := (true, "42fe5154f695cd1325579468a1ca3afc443a4c288fe0c118021326b0d8a6380a"), looks := false }, kinds := [], alts := [], laidByText := true, laidKinds := [.data, .data], laidTests := true, laidLooks := .later }
def FnExactBlocksWithUptoCardSaid : Prop := Claim7.holds Tryd.pinned (.plain (OpenSpec.upto fnExactBlocksWithSpec)) fnExactBlocksWithUptoCard
end Rows
end Go.Proofs.YtnbglbhfclohjaaDoor
