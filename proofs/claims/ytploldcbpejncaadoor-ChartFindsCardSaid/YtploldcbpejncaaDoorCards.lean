/-
  DERIVED. GIVEN WITH THE SEED: THE CARDS: each row of YtploldcbpejncaaDoorRows.lean that lists a variable, with what it lists TIED to the program's text (the seventh form; the later family's looks); each row that meets fmt, with fmt's text TOLD by the authors' own Lean function (tested against real Go, not proved from fmt's source: count such statements apart). THE CARD IS WHAT COUNTS. Prove the row's statement (the work); the ties are given (YtploldcbpejncaaDoorTie.lean); close each card by the builder's one call (the guide's Derived/Test/ToyasCard.lean, 'card_holds'). Laid BY PROGRAM, IN A SANDBOX (cutbox-door.mjs). By AI agents, Wed Nov 11 2026. No macro, syntax, notation, axiom, sorry.
-/
import Derived.Test.YtploldcbpejncaaDoorRows
import GoSem.ClaimSeven
namespace Go.Proofs.YtploldcbpejncaaDoor
namespace Rows

/-- THE TIED CARD OF 'comptrollerlaw06.ChartWords'. -/
def chartWordsCard : Claim7 := { stood := { row := chartWordsRow, standIns := [], harness := (true, "9a85654aff05b71f365fc2784824e3250ca0612eaead620d1a3e7e98a4f1ee2e"), looks := false }, kinds := [], alts := [], laidByText := true, laidKinds := [.data], laidTests := true, laidLooks := .later }
def ChartWordsCardSaid : Prop := Claim7.holds Tryd.pinned (.plain (OpenSpec.ofChange chartWordsSpec)) chartWordsCard

/-- THE TIED CARD OF 'comptrollerlaw06.ChartBack'. -/
def chartBackCard : Claim7 := { stood := { row := chartBackRow, standIns := [], harness := (true, "9a85654aff05b71f365fc2784824e3250ca0612eaead620d1a3e7e98a4f1ee2e"), looks := false }, kinds := [], alts := [], laidByText := true, laidKinds := [.data], laidTests := true, laidLooks := .later }
def ChartBackCardSaid : Prop := Claim7.holds Tryd.pinned (.plain (OpenSpec.ofChange chartBackSpec)) chartBackCard

/-- THE TIED CARD OF 'comptrollerlaw06.ChartFinds'. -/
def chartFindsCard : Claim7 := { stood := { row := chartFindsRow, standIns := [], harness := (true, "9a85654aff05b71f365fc2784824e3250ca0612eaead620d1a3e7e98a4f1ee2e"), looks := false }, kinds := [], alts := [], laidByText := true, laidKinds := [.data], laidTests := true, laidLooks := .later }
def ChartFindsCardSaid : Prop := Claim7.holds Tryd.pinned (.plain (OpenSpec.ofChange chartFindsSpec)) chartFindsCard

/-- THE TIED CARD OF 'comptrollerlaw06.ChartMarks'. -/
def chartMarksCard : Claim7 := { stood := { row := chartMarksRow, standIns := [], harness := (true, "9a85654aff05b71f365fc2784824e3250ca0612eaead620d1a3e7e98a4f1ee2e"), looks := false }, kinds := [], alts := [], laidByText := true, laidKinds := [.data], laidTests := true, laidLooks := .later }
def ChartMarksCardSaid : Prop := Claim7.holds Tryd.pinned (.plain (OpenSpec.ofChange chartMarksSpec)) chartMarksCard

/-- THE TIED CARD OF 'comptrollerlaw06.ChartOwn'. -/
def chartOwnCard : Claim7 := { stood := { row := chartOwnRow, standIns := [], harness := (true, "9a85654aff05b71f365fc2784824e3250ca0612eaead620d1a3e7e98a4f1ee2e"), looks := false }, kinds := [], alts := [], laidByText := true, laidKinds := [.data], laidTests := true, laidLooks := .later }
def ChartOwnCardSaid : Prop := Claim7.holds Tryd.pinned (.plain (OpenSpec.ofChange chartOwnSpec)) chartOwnCard

/-- THE SECOND FORM's CARD OF 'comptrollerlaw06.ChartWords'. -/
def chartWordsUptoCard : Claim7 := { stood := { row := chartWordsUptoRow, standIns := [], harness := (true, "9a85654aff05b71f365fc2784824e3250ca0612eaead620d1a3e7e98a4f1ee2e"), looks := false }, kinds := [], alts := [], laidByText := true, laidKinds := [.data], laidTests := true, laidLooks := .later }
def ChartWordsUptoCardSaid : Prop := Claim7.holds Tryd.pinned (.plain (OpenSpec.upto chartWordsSpec)) chartWordsUptoCard

/-- THE SECOND FORM's CARD OF 'comptrollerlaw06.ChartBack'. -/
def chartBackUptoCard : Claim7 := { stood := { row := chartBackUptoRow, standIns := [], harness := (true, "9a85654aff05b71f365fc2784824e3250ca0612eaead620d1a3e7e98a4f1ee2e"), looks := false }, kinds := [], alts := [], laidByText := true, laidKinds := [.data], laidTests := true, laidLooks := .later }
def ChartBackUptoCardSaid : Prop := Claim7.holds Tryd.pinned (.plain (OpenSpec.upto chartBackSpec)) chartBackUptoCard

/-- THE SECOND FORM's CARD OF 'comptrollerlaw06.ChartFinds'. -/
def chartFindsUptoCard : Claim7 := { stood := { row := chartFindsUptoRow, standIns := [], harness := (true, "9a85654aff05b71f365fc2784824e3250ca0612eaead620d1a3e7e98a4f1ee2e"), looks := false }, kinds := [], alts := [], laidByText := true, laidKinds := [.data], laidTests := true, laidLooks := .later }
def ChartFindsUptoCardSaid : Prop := Claim7.holds Tryd.pinned (.plain (OpenSpec.upto chartFindsSpec)) chartFindsUptoCard

/-- THE SECOND FORM's CARD OF 'comptrollerlaw06.ChartMarks'. -/
def chartMarksUptoCard : Claim7 := { stood := { row := chartMarksUptoRow, standIns := [], harness := (true, "9a85654aff05b71f365fc2784824e3250ca0612eaead620d1a3e7e98a4f1ee2e"), looks := false }, kinds := [], alts := [], laidByText := true, laidKinds := [.data], laidTests := true, laidLooks := .later }
def ChartMarksUptoCardSaid : Prop := Claim7.holds Tryd.pinned (.plain (OpenSpec.upto chartMarksSpec)) chartMarksUptoCard

/-- THE SECOND FORM's CARD OF 'comptrollerlaw06.ChartOwn'. -/
def chartOwnUptoCard : Claim7 := { stood := { row := chartOwnUptoRow, standIns := [], harness := (true, "9a85654aff05b71f365fc2784824e3250ca0612eaead620d1a3e7e98a4f1ee2e"), looks := false }, kinds := [], alts := [], laidByText := true, laidKinds := [.data], laidTests := true, laidLooks := .later }
def ChartOwnUptoCardSaid : Prop := Claim7.holds Tryd.pinned (.plain (OpenSpec.upto chartOwnSpec)) chartOwnUptoCard
end Rows
end Go.Proofs.YtploldcbpejncaaDoor
