/-
  DERIVED. GIVEN WITH THE SEED: THE CARDS: each row of YtfhhihamndbcnaaGreatDoorRows.lean that lists a variable, with what it lists TIED to the program's text (the seventh form; the later family's looks); each row that meets fmt, with fmt's text TOLD by the authors' own Lean function (tested against real Go, not proved from fmt's source: count such statements apart). THE CARD IS WHAT COUNTS. Prove the row's statement (the work); the ties are given (YtfhhihamndbcnaaGreatDoorTie.lean); close each card by the builder's one call (the guide's Derived/Test/ToyasCard.lean, 'card_holds'). Laid BY PROGRAM, IN A SANDBOX (cutbox-door.mjs). By AI agents, Wed Nov 11 2026. No macro, syntax, notation, axiom, sorry.
-/
import Derived.Test.YtfhhihamndbcnaaGreatDoorRows
import GoSem.ClaimSeven
namespace Go.Proofs.YtfhhihamndbcnaaGreatDoor
namespace Rows

/-- THE TIED CARD OF 'comptrollerlaw13.CarryTells'. -/
def carryTellsCard : Claim7 := { stood := { row := carryTellsRow, standIns := [], harness := (true, "b408427b0bb06cb7b7b4d21889c3eef61700e522b01d71c76103bd89a0a3735f"), looks := true }, kinds := [], alts := [], laidByText := true, laidKinds := [.data, .data, .data, .sentinel, .sentinel, .data, .data], laidTests := true, laidLooks := .later }
def CarryTellsCardSaid : Prop := Claim7.holds Tryz.pinned (.plain (OpenSpec.ofChange carryTellsSpec)) carryTellsCard

/-- THE TIED CARD OF 'comptrollerlaw13.CarryBrings'. -/
def carryBringsCard : Claim7 := { stood := { row := carryBringsRow, standIns := [], harness := (true, "b408427b0bb06cb7b7b4d21889c3eef61700e522b01d71c76103bd89a0a3735f"), looks := true }, kinds := [], alts := [], laidByText := true, laidKinds := [.data, .data, .data, .sentinel, .sentinel, .data, .data], laidTests := true, laidLooks := .later }
def CarryBringsCardSaid : Prop := Claim7.holds Tryz.pinned (.plain (OpenSpec.ofChange carryBringsSpec)) carryBringsCard

/-- THE TIED CARD OF 'comptrollerlaw13.CarryBalances'. -/
def carryBalancesCard : Claim7 := { stood := { row := carryBalancesRow, standIns := [], harness := (true, "b408427b0bb06cb7b7b4d21889c3eef61700e522b01d71c76103bd89a0a3735f"), looks := true }, kinds := [], alts := [], laidByText := true, laidKinds := [.data, .data, .data, .sentinel, .sentinel, .data, .data], laidTests := true, laidLooks := .later }
def CarryBalancesCardSaid : Prop := Claim7.holds Tryz.pinned (.plain (OpenSpec.ofChange carryBalancesSpec)) carryBalancesCard

/-- THE TIED CARD OF 'comptrollerlaw13.CarryAdds'. -/
def carryAddsCard : Claim7 := { stood := { row := carryAddsRow, standIns := [], harness := (true, "b408427b0bb06cb7b7b4d21889c3eef61700e522b01d71c76103bd89a0a3735f"), looks := true }, kinds := [], alts := [], laidByText := true, laidKinds := [.data, .data, .data, .sentinel, .sentinel, .data, .data], laidTests := true, laidLooks := .later }
def CarryAddsCardSaid : Prop := Claim7.holds Tryz.pinned (.plain (OpenSpec.ofChange carryAddsSpec)) carryAddsCard

/-- THE TIED CARD OF 'comptrollerlaw13.CarryChecks'. -/
def carryChecksCard : Claim7 := { stood := { row := carryChecksRow, standIns := [], harness := (true, "b408427b0bb06cb7b7b4d21889c3eef61700e522b01d71c76103bd89a0a3735f"), looks := true }, kinds := [], alts := [], laidByText := true, laidKinds := [.data, .data, .data, .sentinel, .sentinel, .data, .data], laidTests := true, laidLooks := .later }
def CarryChecksCardSaid : Prop := Claim7.holds Tryz.pinned (.plain (OpenSpec.ofChange carryChecksSpec)) carryChecksCard

/-- THE SECOND FORM's CARD OF 'comptrollerlaw13.CarryTells'. -/
def carryTellsUptoCard : Claim7 := { stood := { row := carryTellsUptoRow, standIns := [], harness := (true, "b408427b0bb06cb7b7b4d21889c3eef61700e522b01d71c76103bd89a0a3735f"), looks := true }, kinds := [], alts := [], laidByText := true, laidKinds := [.data, .data, .data, .sentinel, .sentinel, .data, .data], laidTests := true, laidLooks := .later }
def CarryTellsUptoCardSaid : Prop := Claim7.holds Tryz.pinned (.plain (OpenSpec.upto carryTellsSpec)) carryTellsUptoCard

/-- THE SECOND FORM's CARD OF 'comptrollerlaw13.CarryBrings'. -/
def carryBringsUptoCard : Claim7 := { stood := { row := carryBringsUptoRow, standIns := [], harness := (true, "b408427b0bb06cb7b7b4d21889c3eef61700e522b01d71c76103bd89a0a3735f"), looks := true }, kinds := [], alts := [], laidByText := true, laidKinds := [.data, .data, .data, .sentinel, .sentinel, .data, .data], laidTests := true, laidLooks := .later }
def CarryBringsUptoCardSaid : Prop := Claim7.holds Tryz.pinned (.plain (OpenSpec.upto carryBringsSpec)) carryBringsUptoCard

/-- THE SECOND FORM's CARD OF 'comptrollerlaw13.CarryBalances'. -/
def carryBalancesUptoCard : Claim7 := { stood := { row := carryBalancesUptoRow, standIns := [], harness := (true, "b408427b0bb06cb7b7b4d21889c3eef61700e522b01d71c76103bd89a0a3735f"), looks := true }, kinds := [], alts := [], laidByText := true, laidKinds := [.data, .data, .data, .sentinel, .sentinel, .data, .data], laidTests := true, laidLooks := .later }
def CarryBalancesUptoCardSaid : Prop := Claim7.holds Tryz.pinned (.plain (OpenSpec.upto carryBalancesSpec)) carryBalancesUptoCard

/-- THE SECOND FORM's CARD OF 'comptrollerlaw13.CarryAdds'. -/
def carryAddsUptoCard : Claim7 := { stood := { row := carryAddsUptoRow, standIns := [], harness := (true, "b408427b0bb06cb7b7b4d21889c3eef61700e522b01d71c76103bd89a0a3735f"), looks := true }, kinds := [], alts := [], laidByText := true, laidKinds := [.data, .data, .data, .sentinel, .sentinel, .data, .data], laidTests := true, laidLooks := .later }
def CarryAddsUptoCardSaid : Prop := Claim7.holds Tryz.pinned (.plain (OpenSpec.upto carryAddsSpec)) carryAddsUptoCard

/-- THE SECOND FORM's CARD OF 'comptrollerlaw13.CarryChecks'. -/
def carryChecksUptoCard : Claim7 := { stood := { row := carryChecksUptoRow, standIns := [], harness := (true, "b408427b0bb06cb7b7b4d21889c3eef61700e522b01d71c76103bd89a0a3735f"), looks := true }, kinds := [], alts := [], laidByText := true, laidKinds := [.data, .data, .data, .sentinel, .sentinel, .data, .data], laidTests := true, laidLooks := .later }
def CarryChecksUptoCardSaid : Prop := Claim7.holds Tryz.pinned (.plain (OpenSpec.upto carryChecksSpec)) carryChecksUptoCard
end Rows
end Go.Proofs.YtfhhihamndbcnaaGreatDoor
