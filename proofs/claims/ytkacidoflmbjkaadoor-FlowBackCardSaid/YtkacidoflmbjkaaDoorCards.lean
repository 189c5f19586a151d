/-
  DERIVED. GIVEN WITH THE SEED: THE CARDS: each row of YtkacidoflmbjkaaDoorRows.lean that lists a variable, with what it lists TIED to the program's text (the seventh form; the later family's looks); each row that meets fmt, with fmt's text TOLD by the authors' own Lean function (tested against real Go, not proved from fmt's source: count such statements apart). THE CARD IS WHAT COUNTS. Prove the row's statement (the work); the ties are given (YtkacidoflmbjkaaDoorTie.lean); close each card by the builder's one call (the guide's Derived/Test/ToyasCard.lean, 'card_holds'). Laid BY PROGRAM, IN A SANDBOX (cutbox-door.mjs). By AI agents, Wed Nov 11 2026. No macro, syntax, notation, axiom, sorry.
-/
import Derived.Test.YtkacidoflmbjkaaDoorRows
import GoSem.ClaimSeven
namespace Go.Proofs.YtkacidoflmbjkaaDoor
namespace Rows

/-- THE TIED CARD OF 'comptrollerlaw07.FlowWords'. -/
def flowWordsCard : Claim7 := { stood := { row := flowWordsRow, standIns := [], harness := (true, "c7fbb2c34c9777bbc08652748520a4fc6aea93030c75a6cf51bf1e2ee7d52cb7"), looks := false }, kinds := [], alts := [], laidByText := true, laidKinds := [.data], laidTests := true, laidLooks := .later }
def FlowWordsCardSaid : Prop := Claim7.holds Tryd.pinned (.plain (OpenSpec.ofChange flowWordsSpec)) flowWordsCard

/-- THE TIED CARD OF 'comptrollerlaw07.FlowBack'. -/
def flowBackCard : Claim7 := { stood := { row := flowBackRow, standIns := [], harness := (true, "c7fbb2c34c9777bbc08652748520a4fc6aea93030c75a6cf51bf1e2ee7d52cb7"), looks := false }, kinds := [], alts := [], laidByText := true, laidKinds := [.data], laidTests := true, laidLooks := .later }
def FlowBackCardSaid : Prop := Claim7.holds Tryd.pinned (.plain (OpenSpec.ofChange flowBackSpec)) flowBackCard

/-- THE TIED CARD OF 'comptrollerlaw07.FlowAdds'. -/
def flowAddsCard : Claim7 := { stood := { row := flowAddsRow, standIns := [], harness := (true, "c7fbb2c34c9777bbc08652748520a4fc6aea93030c75a6cf51bf1e2ee7d52cb7"), looks := false }, kinds := [], alts := [], laidByText := true, laidKinds := [.data], laidTests := true, laidLooks := .later }
def FlowAddsCardSaid : Prop := Claim7.holds Tryd.pinned (.plain (OpenSpec.ofChange flowAddsSpec)) flowAddsCard

/-- THE TIED CARD OF 'comptrollerlaw07.FlowKinds'. -/
def flowKindsCard : Claim7 := { stood := { row := flowKindsRow, standIns := [], harness := (true, "c7fbb2c34c9777bbc08652748520a4fc6aea93030c75a6cf51bf1e2ee7d52cb7"), looks := false }, kinds := [], alts := [], laidByText := true, laidKinds := [.data], laidTests := true, laidLooks := .later }
def FlowKindsCardSaid : Prop := Claim7.holds Tryd.pinned (.plain (OpenSpec.ofChange flowKindsSpec)) flowKindsCard

/-- THE SECOND FORM's CARD OF 'comptrollerlaw07.FlowWords'. -/
def flowWordsUptoCard : Claim7 := { stood := { row := flowWordsUptoRow, standIns := [], harness := (true, "c7fbb2c34c9777bbc08652748520a4fc6aea93030c75a6cf51bf1e2ee7d52cb7"), looks := false }, kinds := [], alts := [], laidByText := true, laidKinds := [.data], laidTests := true, laidLooks := .later }
def FlowWordsUptoCardSaid : Prop := Claim7.holds Tryd.pinned (.plain (OpenSpec.upto flowWordsSpec)) flowWordsUptoCard

/-- THE SECOND FORM's CARD OF 'comptrollerlaw07.FlowBack'. -/
def flowBackUptoCard : Claim7 := { stood := { row := flowBackUptoRow, standIns := [], harness := (true, "c7fbb2c34c9777bbc08652748520a4fc6aea93030c75a6cf51bf1e2ee7d52cb7"), looks := false }, kinds := [], alts := [], laidByText := true, laidKinds := [.data], laidTests := true, laidLooks := .later }
def FlowBackUptoCardSaid : Prop := Claim7.holds Tryd.pinned (.plain (OpenSpec.upto flowBackSpec)) flowBackUptoCard

/-- THE SECOND FORM's CARD OF 'comptrollerlaw07.FlowAdds'. -/
def flowAddsUptoCard : Claim7 := { stood := { row := flowAddsUptoRow, standIns := [], harness := (true, "c7fbb2c34c9777bbc08652748520a4fc6aea93030c75a6cf51bf1e2ee7d52cb7"), looks := false }, kinds := [], alts := [], laidByText := true, laidKinds := [.data], laidTests := true, laidLooks := .later }
def FlowAddsUptoCardSaid : Prop := Claim7.holds Tryd.pinned (.plain (OpenSpec.upto flowAddsSpec)) flowAddsUptoCard

/-- THE SECOND FORM's CARD OF 'comptrollerlaw07.FlowKinds'. -/
def flowKindsUptoCard : Claim7 := { stood := { row := flowKindsUptoRow, standIns := [], harness := (true, "c7fbb2c34c9777bbc08652748520a4fc6aea93030c75a6cf51bf1e2ee7d52cb7"), looks := false }, kinds := [], alts := [], laidByText := true, laidKinds := [.data], laidTests := true, laidLooks := .later }
def FlowKindsUptoCardSaid : Prop := Claim7.holds Tryd.pinned (.plain (OpenSpec.upto flowKindsSpec)) flowKindsUptoCard
end Rows
end Go.Proofs.YtkacidoflmbjkaaDoor
