/-
  DERIVED. GIVEN WITH THE SEED: THE CARDS: each row of YtdhfpgjnjlcciaaGreatDoorRows.lean that lists a variable, with what it lists TIED to the program's text (the seventh form; the later family's looks); each row that meets fmt, with fmt's text TOLD by the authors' own Lean function (tested against real Go, not proved from fmt's source: count such statements apart). THE CARD IS WHAT COUNTS. Prove the row's statement (the work); the ties are given (YtdhfpgjnjlcciaaGreatDoorTie.lean); close each card by the builder's one call (the guide's Derived/Test/ToyasCard.lean, 'card_holds'). Laid BY PROGRAM, IN A SANDBOX (cutbox-door.mjs). By AI agents, Wed Nov 11 2026. No macro, syntax, notation, axiom, sorry.
-/
import Derived.Test.YtdhfpgjnjlcciaaGreatDoorRows
import GoSem.ClaimSeven
namespace Go.Proofs.YtdhfpgjnjlcciaaGreatDoor
namespace Rows

/-- THE TIED CARD OF 'comptrollerlaw12.ControlTells'. -/
def controlTellsCard : Claim7 := { stood := { row := controlTellsRow, standIns := [], harness := (true, "2aec2e90025123e69d5f5ddc36c429585e1178b12888893a6dc50d150e1334ff"), looks := true }, kinds := [], alts := [], laidByText := true, laidKinds := [.data, .data, .data, .sentinel, .sentinel, .data, .data], laidTests := true, laidLooks := .later }
def ControlTellsCardSaid : Prop := Claim7.holds Tryz.pinned (.plain (OpenSpec.ofChange controlTellsSpec)) controlTellsCard

/-- THE TIED CARD OF 'comptrollerlaw12.ControlChecks'. -/
def controlChecksCard : Claim7 := { stood := { row := controlChecksRow, standIns := [], harness := (true, "2aec2e90025123e69d5f5ddc36c429585e1178b12888893a6dc50d150e1334ff"), looks := true }, kinds := [], alts := [], laidByText := true, laidKinds := [.data, .data, .data, .sentinel, .sentinel, .data, .data], laidTests := true, laidLooks := .later }
def ControlChecksCardSaid : Prop := Claim7.holds Tryz.pinned (.plain (OpenSpec.ofChange controlChecksSpec)) controlChecksCard

/-- THE TIED CARD OF 'comptrollerlaw12.ControlFixed'. -/
def controlFixedCard : Claim7 := { stood := { row := controlFixedRow, standIns := [], harness := (true, "2aec2e90025123e69d5f5ddc36c429585e1178b12888893a6dc50d150e1334ff"), looks := true }, kinds := [], alts := [], laidByText := true, laidKinds := [.data, .data, .data, .sentinel, .sentinel, .data, .data], laidTests := true, laidLooks := .later }
def ControlFixedCardSaid : Prop := Claim7.holds Tryz.pinned (.plain (OpenSpec.ofChange controlFixedSpec)) controlFixedCard

/-- THE TIED CARD OF 'comptrollerlaw12.ControlMoves'. -/
def controlMovesCard : Claim7 := { stood := { row := controlMovesRow, standIns := [], harness := (true, "2aec2e90025123e69d5f5ddc36c429585e1178b12888893a6dc50d150e1334ff"), looks := true }, kinds := [], alts := [], laidByText := true, laidKinds := [.data, .data, .data, .sentinel, .sentinel, .data, .data], laidTests := true, laidLooks := .later }
def ControlMovesCardSaid : Prop := Claim7.holds Tryz.pinned (.plain (OpenSpec.ofChange controlMovesSpec)) controlMovesCard

/-- THE TIED CARD OF 'comptrollerlaw12.ControlShifts'. -/
def controlShiftsCard : Claim7 := { stood := { row := controlShiftsRow, standIns := [], harness := (true, "2aec2e90025123e69d5f5ddc36c429585e1178b12888893a6dc50d150e1334ff"), looks := true }, kinds := [], alts := [], laidByText := true, laidKinds := [.data, .data, .data, .sentinel, .sentinel, .data, .data], laidTests := true, laidLooks := .later }
def ControlShiftsCardSaid : Prop := Claim7.holds Tryz.pinned (.plain (OpenSpec.ofChange controlShiftsSpec)) controlShiftsCard

/-- THE TIED CARD OF 'comptrollerlaw12.ControlLimits'. -/
def controlLimitsCard : Claim7 := { stood := { row := controlLimitsRow, standIns := [], harness := (true, "2aec2e90025123e69d5f5ddc36c429585e1178b12888893a6dc50d150e1334ff"), looks := true }, kinds := [], alts := [], laidByText := true, laidKinds := [.data, .data, .data, .sentinel, .sentinel, .data, .data], laidTests := true, laidLooks := .later }
def ControlLimitsCardSaid : Prop := Claim7.holds Tryz.pinned (.plain (OpenSpec.ofChange controlLimitsSpec)) controlLimitsCard

/-- THE SECOND FORM's CARD OF 'comptrollerlaw12.ControlTells'. -/
def controlTellsUptoCard : Claim7 := { stood := { row := controlTellsUptoRow, standIns := [], harness := (true, "2aec2e90025123e69d5f5ddc36c429585e1178b12888893a6dc50d150e1334ff"), looks := true }, kinds := [], alts := [], laidByText := true, laidKinds := [.data, .data, .data, .sentinel, .sentinel, .data, .data], laidTests := true, laidLooks := .later }
def ControlTellsUptoCardSaid : Prop := Claim7.holds Tryz.pinned (.plain (OpenSpec.upto controlTellsSpec)) controlTellsUptoCard

/-- THE SECOND FORM's CARD OF 'comptrollerlaw12.ControlChecks'. -/
def controlChecksUptoCard : Claim7 := { stood := { row := controlChecksUptoRow, standIns := [], harness := (true, "2aec2e90025123e69d5f5ddc36c429585e1178b12888893a6dc50d150e1334ff"), looks := true }, kinds := [], alts := [], laidByText := true, laidKinds := [.data, .data, .data, .sentinel, .sentinel, .data, .data], laidTests := true, laidLooks := .later }
def ControlChecksUptoCardSaid : Prop := Claim7.holds Tryz.pinned (.plain (OpenSpec.upto controlChecksSpec)) controlChecksUptoCard

/-- THE SECOND FORM's CARD OF 'comptrollerlaw12.ControlFixed'. -/
def controlFixedUptoCard : Claim7 := { stood := { row := controlFixedUptoRow, standIns := [], harness := (true, "2aec2e90025123e69d5f5ddc36c429585e1178b12888893a6dc50d150e1334ff"), looks := true }, kinds := [], alts := [], laidByText := true, laidKinds := [.data, .data, .data, .sentinel, .sentinel, .data, .data], laidTests := true, laidLooks := .later }
def ControlFixedUptoCardSaid : Prop := Claim7.holds Tryz.pinned (.plain (OpenSpec.upto controlFixedSpec)) controlFixedUptoCard

/-- THE SECOND FORM's CARD OF 'comptrollerlaw12.ControlMoves'. -/
def controlMovesUptoCard : Claim7 := { stood := { row := controlMovesUptoRow, standIns := [], harness := (true, "2aec2e90025123e69d5f5ddc36c429585e1178b12888893a6dc50d150e1334ff"), looks := true }, kinds := [], alts := [], laidByText := true, laidKinds := [.data, .data, .data, .sentinel, .sentinel, .data, .data], laidTests := true, laidLooks := .later }
def ControlMovesUptoCardSaid : Prop := Claim7.holds Tryz.pinned (.plain (OpenSpec.upto controlMovesSpec)) controlMovesUptoCard

/-- THE SECOND FORM's CARD OF 'comptrollerlaw12.ControlShifts'. -/
def controlShiftsUptoCard : Claim7 := { stood := { row := controlShiftsUptoRow, standIns := [], harness := (true, "2aec2e90025123e69d5f5ddc36c429585e1178b12888893a6dc50d150e1334ff"), looks := true }, kinds := [], alts := [], laidByText := true, laidKinds := [.data, .data, .data, .sentinel, .sentinel, .data, .data], laidTests := true, laidLooks := .later }
def ControlShiftsUptoCardSaid : Prop := Claim7.holds Tryz.pinned (.plain (OpenSpec.upto controlShiftsSpec)) controlShiftsUptoCard

/-- THE SECOND FORM's CARD OF 'comptrollerlaw12.ControlLimits'. -/
def controlLimitsUptoCard : Claim7 := { stood := { row := controlLimitsUptoRow, standIns := [], harness := (true, "2aec2e90025123e69d5f5ddc36c429585e1178b12888893a6dc50d150e1334ff"), looks := true }, kinds := [], alts := [], laidByText := true, laidKinds := [.data, .data, .data, .sentinel, .sentinel, .data, .data], laidTests := true, laidLooks := .later }
def ControlLimitsUptoCardSaid : Prop := Claim7.holds Tryz.pinned (.plain (OpenSpec.upto controlLimitsSpec)) controlLimitsUptoCard
end Rows
end Go.Proofs.YtdhfpgjnjlcciaaGreatDoor
