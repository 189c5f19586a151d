/-
  DERIVED. GIVEN WITH THE SEED: THE CARDS: each row of YticdmlijacnjbaaGreatDoorRows.lean that lists a variable, with what it lists TIED to the program's text (the seventh form; the later family's looks); each row that meets fmt, with fmt's text TOLD by the authors' own Lean function (tested against real Go, not proved from fmt's source: count such statements apart). THE CARD IS WHAT COUNTS. Prove the row's statement (the work); the ties are given (YticdmlijacnjbaaGreatDoorTie.lean); close each card by the builder's one call (the guide's Derived/Test/ToyasCard.lean, 'card_holds'). Laid BY PROGRAM, IN A SANDBOX (cutbox-door.mjs). By AI agents, Wed Nov 11 2026. No macro, syntax, notation, axiom, sorry.
-/
import Derived.Test.YticdmlijacnjbaaGreatDoorRows
import GoSem.ClaimSeven
namespace Go.Proofs.YticdmlijacnjbaaGreatDoor
namespace Rows

/-- THE TIED CARD OF 'comptrollerlaw08.UnitTells'. -/
def unitTellsCard : Claim7 := { stood := { row := unitTellsRow, standIns := [], harness := (true, "b23e614ac5cfe0d6a5805474541e7eac30b053915082fb6147f412cc9770f842"), looks := false }, kinds := [], alts := [], laidByText := true, laidKinds := [.data, .data], laidTests := true, laidLooks := .later }
def UnitTellsCardSaid : Prop := Claim7.holds Tryz.pinned (.plain (OpenSpec.ofChange unitTellsSpec)) unitTellsCard

/-- THE TIED CARD OF 'comptrollerlaw08.UnitFinds'. -/
def unitFindsCard : Claim7 := { stood := { row := unitFindsRow, standIns := [], harness := (true, "b23e614ac5cfe0d6a5805474541e7eac30b053915082fb6147f412cc9770f842"), looks := false }, kinds := [], alts := [], laidByText := true, laidKinds := [.data, .data], laidTests := true, laidLooks := .later }
def UnitFindsCardSaid : Prop := Claim7.holds Tryz.pinned (.plain (OpenSpec.ofChange unitFindsSpec)) unitFindsCard

/-- THE TIED CARD OF 'comptrollerlaw08.UnitBack'. -/
def unitBackCard : Claim7 := { stood := { row := unitBackRow, standIns := [], harness := (true, "b23e614ac5cfe0d6a5805474541e7eac30b053915082fb6147f412cc9770f842"), looks := false }, kinds := [], alts := [], laidByText := true, laidKinds := [.data, .data], laidTests := true, laidLooks := .later }
def UnitBackCardSaid : Prop := Claim7.holds Tryz.pinned (.plain (OpenSpec.ofChange unitBackSpec)) unitBackCard

/-- THE TIED CARD OF 'comptrollerlaw08.UnitOrder'. -/
def unitOrderCard : Claim7 := { stood := { row := unitOrderRow, standIns := [], harness := (true, "b23e614ac5cfe0d6a5805474541e7eac30b053915082fb6147f412cc9770f842"), looks := false }, kinds := [], alts := [], laidByText := true, laidKinds := [.data, .data], laidTests := true, laidLooks := .later }
def UnitOrderCardSaid : Prop := Claim7.holds Tryz.pinned (.plain (OpenSpec.ofChange unitOrderSpec)) unitOrderCard

/-- THE TIED CARD OF 'comptrollerlaw08.UnitTwice'. -/
def unitTwiceCard : Claim7 := { stood := { row := unitTwiceRow, standIns := [], harness := (true, "b23e614ac5cfe0d6a5805474541e7eac30b053915082fb6147f412cc9770f842"), looks := false }, kinds := [], alts := [], laidByText := true, laidKinds := [.data, .data], laidTests := true, laidLooks := .later }
def UnitTwiceCardSaid : Prop := Claim7.holds Tryz.pinned (.plain (OpenSpec.ofChange unitTwiceSpec)) unitTwiceCard

/-- THE TIED CARD OF 'comptrollerlaw08.UnitAll'. -/
def unitAllCard : Claim7 := { stood := { row := unitAllRow, standIns := [], harness := (true, "b23e614ac5cfe0d6a5805474541e7eac30b053915082fb6147f412cc9770f842"), looks := false }, kinds := [], alts := [], laidByText := true, laidKinds := [.data, .data], laidTests := true, laidLooks := .later }
def UnitAllCardSaid : Prop := Claim7.holds Tryz.pinned (.plain (OpenSpec.ofChange unitAllSpec)) unitAllCard

/-- THE TIED CARD OF 'comptrollerlaw08.UnitNeeds'. -/
def unitNeedsCard : Claim7 := { stood := { row := unitNeedsRow, standIns := [], harness := (true, "b23e614ac5cfe0d6a5805474541e7eac30b053915082fb6147f412cc9770f842"), looks := false }, kinds := [], alts := [], laidByText := true, laidKinds := [.data, .data], laidTests := true, laidLooks := .later }
def UnitNeedsCardSaid : Prop := Claim7.holds Tryz.pinned (.plain (OpenSpec.ofChange unitNeedsSpec)) unitNeedsCard

/-- THE SECOND FORM's CARD OF 'comptrollerlaw08.UnitTells'. -/
def unitTellsUptoCard : Claim7 := { stood := { row := unitTellsUptoRow, standIns := [], harness := (true, "b23e614ac5cfe0d6a5805474541e7eac30b053915082fb6147f412cc9770f842"), looks := false }, kinds := [], alts := [], laidByText := true, laidKinds := [.data, .data], laidTests := true, laidLooks := .later }
def UnitTellsUptoCardSaid : Prop := Claim7.holds Tryz.pinned (.plain (OpenSpec.upto unitTellsSpec)) unitTellsUptoCard

/-- THE SECOND FORM's CARD OF 'comptrollerlaw08.UnitFinds'. -/
def unitFindsUptoCard : Claim7 := { stood := { row := unitFindsUptoRow, standIns := [], harness := (true, "b23e614ac5cfe0d6a5805474541e7eac30b053915082fb6147f412cc9770f842"), looks := false }, kinds := [], alts := [], laidByText := true, laidKinds := [.data, .data], laidTests := true, laidLooks := .later }
def UnitFindsUptoCardSaid : Prop := Claim7.holds Tryz.pinned (.plain (OpenSpec.upto unitFindsSpec)) unitFindsUptoCard

/-- THE SECOND FORM's CARD OF 'comptrollerlaw08.UnitBack'. -/
def unitBackUptoCard : Claim7 := { stood := { row := unitBackUptoRow, standIns := [], harness := (true, "b23e614ac5cfe0d6a5805474541e7eac30b053915082fb6147f412cc9770f842"), looks := false }, kinds := [], alts := [], laidByText := true, laidKinds := [.data, .data], laidTests := true, laidLooks := .later }
def UnitBackUptoCardSaid : Prop := Claim7.holds Tryz.pinned (.plain (OpenSpec.upto unitBackSpec)) unitBackUptoCard

/-- THE SECOND FORM's CARD OF 'comptrollerlaw08.UnitOrder'. -/
def unitOrderUptoCard : Claim7 := { stood := { row := unitOrderUptoRow, standIns := [], harness := (true, "b23e614ac5cfe0d6a5805474541e7eac30b053915082fb6147f412cc9770f842"), looks := false }, kinds := [], alts := [], laidByText := true, laidKinds := [.data, .data], laidTests := true, laidLooks := .later }
def UnitOrderUptoCardSaid : Prop := Claim7.holds Tryz.pinned (.plain (OpenSpec.upto unitOrderSpec)) unitOrderUptoCard

/-- THE SECOND FORM's CARD OF 'comptrollerlaw08.UnitTwice'. -/
def unitTwiceUptoCard : Claim7 := { stood := { row := unitTwiceUptoRow, standIns := [], harness := (true, "b23e614ac5cfe0d6a5805474541e7eac30b053915082fb6147f412cc9770f842"), looks := false }, kinds := [], alts := [], laidByText := true, laidKinds := [.data, .data], laidTests := true, laidLooks := .later }
def UnitTwiceUptoCardSaid : Prop := Claim7.holds Tryz.pinned (.plain (OpenSpec.upto unitTwiceSpec)) unitTwiceUptoCard

/-- THE SECOND FORM's CARD OF 'comptrollerlaw08.UnitAll'. -/
def unitAllUptoCard : Claim7 := { stood := { row := unitAllUptoRow, standIns := [], harness := (true, "b23e614ac5cfe0d6a5805474541e7eac30b053915082fb6147f412cc9770f842"), looks := false }, kinds := [], alts := [], laidByText := true, laidKinds := [.data, .data], laidTests := true, laidLooks := .later }
def UnitAllUptoCardSaid : Prop := Claim7.holds Tryz.pinned (.plain (OpenSpec.upto unitAllSpec)) unitAllUptoCard

/-- THE SECOND FORM's CARD OF 'comptrollerlaw08.UnitNeeds'. -/
def unitNeedsUptoCard : Claim7 := { stood := { row := unitNeedsUptoRow, standIns := [], harness := (true, "b23e614ac5cfe0d6a5805474541e7eac30b053915082fb6147f412cc9770f842"), looks := false }, kinds := [], alts := [], laidByText := true, laidKinds := [.data, .data], laidTests := true, laidLooks := .later }
def UnitNeedsUptoCardSaid : Prop := Claim7.holds Tryz.pinned (.plain (OpenSpec.upto unitNeedsSpec)) unitNeedsUptoCard
end Rows
end Go.Proofs.YticdmlijacnjbaaGreatDoor
