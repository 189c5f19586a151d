/-
  DERIVED. GIVEN WITH THE SEED: THE CARDS: each row of YtdegffffcbhjbaaGreatDoorRows.lean that lists a variable, with what it lists TIED to the program's text (the seventh form; the later family's looks); each row that meets fmt, with fmt's text TOLD by the authors' own Lean function (tested against real Go, not proved from fmt's source: count such statements apart). THE CARD IS WHAT COUNTS. Prove the row's statement (the work); the ties are given (YtdegffffcbhjbaaGreatDoorTie.lean); close each card by the builder's one call (the guide's Derived/Test/ToyasCard.lean, 'card_holds'). Laid BY PROGRAM, IN A SANDBOX (cutbox-door.mjs). By AI agents, Wed Nov 11 2026. No macro, syntax, notation, axiom, sorry.
-/
import Derived.Test.YtdegffffcbhjbaaGreatDoorRows
import GoSem.ClaimSeven
namespace Go.Proofs.YtdegffffcbhjbaaGreatDoor
namespace Rows

/-- THE TIED CARD OF 'comptrollerlaw11.PackTells'. -/
def packTellsCard : Claim7 := { stood := { row := packTellsRow, standIns := [], harness := (true, "1f2d1718134faf260aecbc118d04b1eea39da4ce7a98a63262852bfeab717dd5"), looks := true }, kinds := [], alts := [], laidByText := true, laidKinds := [.data, .data, .data, .sentinel, .sentinel, .data, .data], laidTests := true, laidLooks := .later }
def PackTellsCardSaid : Prop := Claim7.holds Tryz.pinned (.plain (OpenSpec.ofChange packTellsSpec)) packTellsCard

/-- THE TIED CARD OF 'comptrollerlaw11.PackChecks'. -/
def packChecksCard : Claim7 := { stood := { row := packChecksRow, standIns := [], harness := (true, "1f2d1718134faf260aecbc118d04b1eea39da4ce7a98a63262852bfeab717dd5"), looks := true }, kinds := [], alts := [], laidByText := true, laidKinds := [.data, .data, .data, .sentinel, .sentinel, .data, .data], laidTests := true, laidLooks := .later }
def PackChecksCardSaid : Prop := Claim7.holds Tryz.pinned (.plain (OpenSpec.ofChange packChecksSpec)) packChecksCard

/-- THE TIED CARD OF 'comptrollerlaw11.PackRight'. -/
def packRightCard : Claim7 := { stood := { row := packRightRow, standIns := [], harness := (true, "1f2d1718134faf260aecbc118d04b1eea39da4ce7a98a63262852bfeab717dd5"), looks := true }, kinds := [], alts := [], laidByText := true, laidKinds := [.data, .data, .data, .sentinel, .sentinel, .data, .data], laidTests := true, laidLooks := .later }
def PackRightCardSaid : Prop := Claim7.holds Tryz.pinned (.plain (OpenSpec.ofChange packRightSpec)) packRightCard

/-- THE TIED CARD OF 'comptrollerlaw11.PackOrder'. -/
def packOrderCard : Claim7 := { stood := { row := packOrderRow, standIns := [], harness := (true, "1f2d1718134faf260aecbc118d04b1eea39da4ce7a98a63262852bfeab717dd5"), looks := true }, kinds := [], alts := [], laidByText := true, laidKinds := [.data, .data, .data, .sentinel, .sentinel, .data, .data], laidTests := true, laidLooks := .later }
def PackOrderCardSaid : Prop := Claim7.holds Tryz.pinned (.plain (OpenSpec.ofChange packOrderSpec)) packOrderCard

/-- THE TIED CARD OF 'comptrollerlaw11.PackParts'. -/
def packPartsCard : Claim7 := { stood := { row := packPartsRow, standIns := [], harness := (true, "1f2d1718134faf260aecbc118d04b1eea39da4ce7a98a63262852bfeab717dd5"), looks := true }, kinds := [], alts := [], laidByText := true, laidKinds := [.data, .data, .data, .sentinel, .sentinel, .data, .data], laidTests := true, laidLooks := .later }
def PackPartsCardSaid : Prop := Claim7.holds Tryz.pinned (.plain (OpenSpec.ofChange packPartsSpec)) packPartsCard

/-- THE TIED CARD OF 'comptrollerlaw11.PackPartners'. -/
def packPartnersCard : Claim7 := { stood := { row := packPartnersRow, standIns := [], harness := (true, "1f2d1718134faf260aecbc118d04b1eea39da4ce7a98a63262852bfeab717dd5"), looks := true }, kinds := [], alts := [], laidByText := true, laidKinds := [.data, .data, .data, .sentinel, .sentinel, .data, .data], laidTests := true, laidLooks := .later }
def PackPartnersCardSaid : Prop := Claim7.holds Tryz.pinned (.plain (OpenSpec.ofChange packPartnersSpec)) packPartnersCard

/-- THE TIED CARD OF 'comptrollerlaw11.PackMarks'. -/
def packMarksCard : Claim7 := { stood := { row := packMarksRow, standIns := [], harness := (true, "1f2d1718134faf260aecbc118d04b1eea39da4ce7a98a63262852bfeab717dd5"), looks := true }, kinds := [], alts := [], laidByText := true, laidKinds := [.data, .data, .data, .sentinel, .sentinel, .data, .data], laidTests := true, laidLooks := .later }
def PackMarksCardSaid : Prop := Claim7.holds Tryz.pinned (.plain (OpenSpec.ofChange packMarksSpec)) packMarksCard

/-- THE SECOND FORM's CARD OF 'comptrollerlaw11.PackTells'. -/
def packTellsUptoCard : Claim7 := { stood := { row := packTellsUptoRow, standIns := [], harness := (true, "1f2d1718134faf260aecbc118d04b1eea39da4ce7a98a63262852bfeab717dd5"), looks := true }, kinds := [], alts := [], laidByText := true, laidKinds := [.data, .data, .data, .sentinel, .sentinel, .data, .data], laidTests := true, laidLooks := .later }
def PackTellsUptoCardSaid : Prop := Claim7.holds Tryz.pinned (.plain (OpenSpec.upto packTellsSpec)) packTellsUptoCard

/-- THE SECOND FORM's CARD OF 'comptrollerlaw11.PackChecks'. -/
def packChecksUptoCard : Claim7 := { stood := { row := packChecksUptoRow, standIns := [], harness := (true, "1f2d1718134faf260aecbc118d04b1eea39da4ce7a98a63262852bfeab717dd5"), looks := true }, kinds := [], alts := [], laidByText := true, laidKinds := [.data, .data, .data, .sentinel, .sentinel, .data, .data], laidTests := true, laidLooks := .later }
def PackChecksUptoCardSaid : Prop := Claim7.holds Tryz.pinned (.plain (OpenSpec.upto packChecksSpec)) packChecksUptoCard

/-- THE SECOND FORM's CARD OF 'comptrollerlaw11.PackRight'. -/
def packRightUptoCard : Claim7 := { stood := { row := packRightUptoRow, standIns := [], harness := (true, "1f2d1718134faf260aecbc118d04b1eea39da4ce7a98a63262852bfeab717dd5"), looks := true }, kinds := [], alts := [], laidByText := true, laidKinds := [.data, .data, .data, .sentinel, .sentinel, .data, .data], laidTests := true, laidLooks := .later }
def PackRightUptoCardSaid : Prop := Claim7.holds Tryz.pinned (.plain (OpenSpec.upto packRightSpec)) packRightUptoCard

/-- THE SECOND FORM's CARD OF 'comptrollerlaw11.PackOrder'. -/
def packOrderUptoCard : Claim7 := { stood := { row := packOrderUptoRow, standIns := [], harness := (true, "1f2d1718134faf260aecbc118d04b1eea39da4ce7a98a63262852bfeab717dd5"), looks := true }, kinds := [], alts := [], laidByText := true, laidKinds := [.data, .data, .data, .sentinel, .sentinel, .data, .data], laidTests := true, laidLooks := .later }
def PackOrderUptoCardSaid : Prop := Claim7.holds Tryz.pinned (.plain (OpenSpec.upto packOrderSpec)) packOrderUptoCard

/-- THE SECOND FORM's CARD OF 'comptrollerlaw11.PackParts'. -/
def packPartsUptoCard : Claim7 := { stood := { row := packPartsUptoRow, standIns := [], harness := (true, "1f2d1718134faf260aecbc118d04b1eea39da4ce7a98a63262852bfeab717dd5"), looks := true }, kinds := [], alts := [], laidByText := true, laidKinds := [.data, .data, .data, .sentinel, .sentinel, .data, .data], laidTests := true, laidLooks := .later }
def PackPartsUptoCardSaid : Prop := Claim7.holds Tryz.pinned (.plain (OpenSpec.upto packPartsSpec)) packPartsUptoCard

/-- THE SECOND FORM's CARD OF 'comptrollerlaw11.PackPartners'. -/
def packPartnersUptoCard : Claim7 := { stood := { row := packPartnersUptoRow, standIns := [], harness := (true, "1f2d1718134faf260aecbc118d04b1eea39da4ce7a98a63262852bfeab717dd5"), looks := true }, kinds := [], alts := [], laidByText := true, laidKinds := [.data, .data, .data, .sentinel, .sentinel, .data, .data], laidTests := true, laidLooks := .later }
def PackPartnersUptoCardSaid : Prop := Claim7.holds Tryz.pinned (.plain (OpenSpec.upto packPartnersSpec)) packPartnersUptoCard

/-- THE SECOND FORM's CARD OF 'comptrollerlaw11.PackMarks'. -/
def packMarksUptoCard : Claim7 := { stood := { row := packMarksUptoRow, standIns := [], harness := (true, "1f2d1718134faf260aecbc118d04b1eea39da4ce7a98a63262852bfeab717dd5"), looks := true }, kinds := [], alts := [], laidByText := true, laidKinds := [.data, .data, .data, .sentinel, .sentinel, .data, .data], laidTests := true, laidLooks := .later }
def PackMarksUptoCardSaid : Prop := Claim7.holds Tryz.pinned (.plain (OpenSpec.upto packMarksSpec)) packMarksUptoCard
end Rows
end Go.Proofs.YtdegffffcbhjbaaGreatDoor
