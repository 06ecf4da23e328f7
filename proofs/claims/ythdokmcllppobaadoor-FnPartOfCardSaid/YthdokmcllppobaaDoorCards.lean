/-
  DERIVED. GIVEN WITH THE SEED: THE CARDS: each row of YthdokmcllppobaaDoorRows.lean that lists a variable, with what it lists TIED to the program's text (the seventh form; the later family's looks); each row that meets fmt, with fmt's text TOLD by the authors' own Lean function (tested against real Go, not proved from fmt's source: count such statements apart). THE CARD IS WHAT COUNTS. Prove the row's statement (the work); the ties are given (YthdokmcllppobaaDoorTie.lean); close each card by the builder's one call (the guide's Derived/Test/ToyasCard.lean, 'card_holds'). Laid BY PROGRAM, IN A SANDBOX (cutbox-door.mjs). By AI agents, Wed Nov 11 2026. No macro, syntax, notation, axiom, sorry.
-/
import Derived.Test.YthdokmcllppobaaDoorRows
import GoSem.ClaimSeven
namespace Go.Proofs.YthdokmcllppobaaDoor
namespace Rows

/-- THE TIED CARD OF 'laws.FnSubOk'. -/
def fnSubOkCard : Claim7 := { stood := { row := fnSubOkRow, standIns := [], harness := (true, "60fefc0ac8bc4fc6164b7da0710fac8f8432a62d7be217fa25b99cc1a4565873"), looks := false }, kinds := [], alts := [], laidByText := true, laidKinds := [.data, .data], laidTests := true, laidLooks := .later }
def FnSubOkCardSaid : Prop := Claim7.holds Tryd.pinned (.plain (OpenSpec.ofChange fnSubOkSpec)) fnSubOkCard

/-- THE TIED CARD OF 'laws.FnMadeBy'. -/
def fnMadeByCard : Claim7 := { stood := { row := fnMadeByRow, standIns := [], harness := (true, "60fefc0ac8bc4fc6164b7da0710fac8f8432a62d7be217fa25b99cc1a4565873"), looks := false }, kinds := [], alts := [], laidByText := true, laidKinds := [.data, .data], laidTests := true, laidLooks := .later }
def FnMadeByCardSaid : Prop := Claim7.holds Tryd.pinned (.plain (OpenSpec.ofChange fnMadeBySpec)) fnMadeByCard

/-- THE TIED CARD OF 'laws.FnPartOf'. -/
def fnPartOfCard : Claim7 := { stood := { row := fnPartOfRow, standIns := [], harness := (true, "60fefc0ac8bc4fc6164b7da0710fac8f8432a62d7be217fa25b99cc1a4565873"), looks := false }, kinds := [], alts := [], laidByText := true, laidKinds := [.data, .data], laidTests := true, laidLooks := .later }
def FnPartOfCardSaid : Prop := Claim7.holds Tryd.pinned (.plain (OpenSpec.ofChange fnPartOfSpec)) fnPartOfCard

/-- THE TIED CARD OF 'laws.FnExactSubOk'. -/
def fnExactSubOkCard : Claim7 := { stood := { row := fnExactSubOkRow, standIns := [], harness := (true, "60fefc0ac8bc4fc6164b7da0710fac8f8432a62d7be217fa25b99cc1a4565873"), looks := false }, kinds := [], alts := [], laidByText := true, laidKinds := [.data, .data], laidTests := true, laidLooks := .later }
def FnExactSubOkCardSaid : Prop := Claim7.holds Tryd.pinned (.plain (OpenSpec.ofChange fnExactSubOkSpec)) fnExactSubOkCard

/-- THE TIED CARD OF 'laws.FnExactMadeBy'. -/
def fnExactMadeByCard : Claim7 := { stood := { row := fnExactMadeByRow, standIns := [], harness := (true, "60fefc0ac8bc4fc6164b7da0710fac8f8432a62d7be217fa25b99cc1a4565873"), looks := false }, kinds := [], alts := [], laidByText := true, laidKinds := [.data, .data], laidTests := true, laidLooks := .later }
def FnExactMadeByCardSaid : Prop := Claim7.holds Tryd.pinned (.plain (OpenSpec.ofChange fnExactMadeBySpec)) fnExactMadeByCard

/-- THE TIED CARD OF 'laws.FnExactPartOf'. -/
def fnExactPartOfCard : Claim7 := { stood := { row := fnExactPartOfRow, standIns := [], harness := (true, "60fefc0ac8bc4fc6164b7da0710fac8f8432a62d7be217fa25b99cc1a4565873"), looks := false }, kinds := [], alts := [], laidByText := true, laidKinds := [.data, .data], laidTests := true, laidLooks := .later }
def FnExactPartOfCardSaid : Prop := Claim7.holds Tryd.pinned (.plain (OpenSpec.ofChange fnExactPartOfSpec)) fnExactPartOfCard

/-- THE SECOND FORM's CARD OF 'laws.FnSubOk'. -/
def fnSubOkUptoCard : Claim7 := { stood := { row := fnSubOkUptoRow, standIns := [], harness := (true, "60fefc0ac8bc4fc6164b7da0710fac8f8432a62d7be217fa25b99cc1a4565873"), looks := false }, kinds := [], alts := [], laidByText := true, laidKinds := [.data, .data], laidTests := true, laidLooks := .later }
def FnSubOkUptoCardSaid : Prop := Claim7.holds Tryd.pinned (.plain (OpenSpec.upto fnSubOkSpec)) fnSubOkUptoCard

/-- THE SECOND FORM's CARD OF 'laws.FnMadeBy'. -/
def fnMadeByUptoCard : Claim7 := { stood := { row := fnMadeByUptoRow, standIns := [], harness := (true, "60fefc0ac8bc4fc6164b7da0710fac8f8432a62d7be217fa25b99cc1a4565873"), looks := false }, kinds := [], alts := [], laidByText := true, laidKinds := [.data, .data], laidTests := true, laidLooks := .later }
def FnMadeByUptoCardSaid : Prop := Claim7.holds Tryd.pinned (.plain (OpenSpec.upto fnMadeBySpec)) fnMadeByUptoCard

/-- THE SECOND FORM's CARD OF 'laws.FnPartOf'. -/
def fnPartOfUptoCard : Claim7 := { stood := { row := fnPartOfUptoRow, standIns := [], harness := (true, "60fefc0ac8bc4fc6164b7da0710fac8f8432a62d7be217fa25b99cc1a4565873"), looks := false }, kinds := [], alts := [], laidByText := true, laidKinds := [.data, .data], laidTests := true, laidLooks := .later }
def FnPartOfUptoCardSaid : Prop := Claim7.holds Tryd.pinned (.plain (OpenSpec.upto fnPartOfSpec)) fnPartOfUptoCard

/-- THE SECOND FORM's CARD OF 'laws.FnExactSubOk'. -/
def fnExactSubOkUptoCard : Claim7 := { stood := { row := fnExactSubOkUptoRow, standIns := [], harness := (true, "60fefc0ac8bc4fc6164b7da0710fac8f8432a62d7be217fa25b99cc1a4565873"), looks := false }, kinds := [], alts := [], laidByText := true, laidKinds := [.data, .data], laidTests := true, laidLooks := .later }
def FnExactSubOkUptoCardSaid : Prop := Claim7.holds Tryd.pinned (.plain (OpenSpec.upto fnExactSubOkSpec)) fnExactSubOkUptoCard

/-- THE SECOND FORM's CARD OF 'laws.FnExactMadeBy'. -/
def fnExactMadeByUptoCard : Claim7 := { stood := { row := fnExactMadeByUptoRow, standIns := [], harness := (true, "60fefc0ac8bc4fc6164b7da0710fac8f8432a62d7be217fa25b99cc1a4565873"), looks := false }, kinds := [], alts := [], laidByText := true, laidKinds := [.data, .data], laidTests := true, laidLooks := .later }
def FnExactMadeByUptoCardSaid : Prop := Claim7.holds Tryd.pinned (.plain (OpenSpec.upto fnExactMadeBySpec)) fnExactMadeByUptoCard

/-- THE SECOND FORM's CARD OF 'laws.FnExactPartOf'. -/
def fnExactPartOfUptoCard : Claim7 := { stood := { row := fnExactPartOfUptoRow, standIns := [], harness := (true, "60fefc0ac8bc4fc6164b7da0710fac8f8432a62d7be217fa25b99cc1a4565873"), looks := false }, kinds := [], alts := [], laidByText := true, laidKinds := [.data, .data], laidTests := true, laidLooks := .later }
def FnExactPartOfUptoCardSaid : Prop := Claim7.holds Tryd.pinned (.plain (OpenSpec.upto fnExactPartOfSpec)) fnExactPartOfUptoCard
end Rows
end Go.Proofs.YthdokmcllppobaaDoor
