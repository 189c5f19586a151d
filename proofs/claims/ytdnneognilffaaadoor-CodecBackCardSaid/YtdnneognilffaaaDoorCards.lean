/-
  DERIVED. GIVEN WITH THE SEED: THE CARDS: each row of YtdnneognilffaaaDoorRows.lean that lists a variable, with what it lists TIED to the program's text (the seventh form; the later family's looks); each row that meets fmt, with fmt's text TOLD by the authors' own Lean function (tested against real Go, not proved from fmt's source: count such statements apart). THE CARD IS WHAT COUNTS. Prove the row's statement (the work); the ties are given (YtdnneognilffaaaDoorTie.lean); close each card by the builder's one call (the guide's Derived/Test/ToyasCard.lean, 'card_holds'). Laid BY PROGRAM, IN A SANDBOX (cutbox-door.mjs). By AI agents, Wed Nov 11 2026. No macro, syntax, notation, axiom, sorry.
-/
import Derived.Test.YtdnneognilffaaaDoorRows
import GoSem.ClaimSeven
namespace Go.Proofs.YtdnneognilffaaaDoor
namespace Rows

/-- THE TIED CARD OF 'comptrollerlaw10.CodecBack'. -/
def codecBackCard : Claim7 := { stood := { row := codecBackRow, standIns := [], harness := (true, "ff086f77ca9cea0d45026a15cc638737eae147e8f0ac59cccba6191a3f5d62c3"), looks := true }, kinds := [], alts := [], laidByText := true, laidKinds := [.data, .data, .data, .data, .sentinel, .sentinel, .pinned], laidTests := true, laidLooks := .later }
def CodecBackCardSaid : Prop := Claim7.holds Tryd.pinned (.plain (OpenSpec.ofChange codecBackSpec)) codecBackCard

/-- THE TIED CARD OF 'comptrollerlaw10.CodecBlank'. -/
def codecBlankCard : Claim7 := { stood := { row := codecBlankRow, standIns := [], harness := (true, "ff086f77ca9cea0d45026a15cc638737eae147e8f0ac59cccba6191a3f5d62c3"), looks := true }, kinds := [], alts := [], laidByText := true, laidKinds := [.data, .data, .data, .data, .sentinel, .sentinel, .pinned], laidTests := true, laidLooks := .later }
def CodecBlankCardSaid : Prop := Claim7.holds Tryd.pinned (.plain (OpenSpec.ofChange codecBlankSpec)) codecBlankCard

/-- THE TIED CARD OF 'comptrollerlaw10.CodecLines'. -/
def codecLinesCard : Claim7 := { stood := { row := codecLinesRow, standIns := [], harness := (true, "ff086f77ca9cea0d45026a15cc638737eae147e8f0ac59cccba6191a3f5d62c3"), looks := true }, kinds := [], alts := [], laidByText := true, laidKinds := [.data, .data, .data, .data, .sentinel, .sentinel, .pinned], laidTests := true, laidLooks := .later }
def CodecLinesCardSaid : Prop := Claim7.holds Tryd.pinned (.plain (OpenSpec.ofChange codecLinesSpec)) codecLinesCard

/-- THE TIED CARD OF 'comptrollerlaw10.CodecSwaps'. -/
def codecSwapsCard : Claim7 := { stood := { row := codecSwapsRow, standIns := [], harness := (true, "ff086f77ca9cea0d45026a15cc638737eae147e8f0ac59cccba6191a3f5d62c3"), looks := true }, kinds := [], alts := [], laidByText := true, laidKinds := [.data, .data, .data, .data, .sentinel, .sentinel, .pinned], laidTests := true, laidLooks := .later }
def CodecSwapsCardSaid : Prop := Claim7.holds Tryd.pinned (.plain (OpenSpec.ofChange codecSwapsSpec)) codecSwapsCard

/-- THE SECOND FORM's CARD OF 'comptrollerlaw10.CodecBack'. -/
def codecBackUptoCard : Claim7 := { stood := { row := codecBackUptoRow, standIns := [], harness := (true, "ff086f77ca9cea0d45026a15cc638737eae147e8f0ac59cccba6191a3f5d62c3"), looks := true }, kinds := [], alts := [], laidByText := true, laidKinds := [.data, .data, .data, .data, .sentinel, .sentinel, .pinned], laidTests := true, laidLooks := .later }
def CodecBackUptoCardSaid : Prop := Claim7.holds Tryd.pinned (.plain (OpenSpec.upto codecBackSpec)) codecBackUptoCard

/-- THE SECOND FORM's CARD OF 'comptrollerlaw10.CodecBlank'. -/
def codecBlankUptoCard : Claim7 := { stood := { row := codecBlankUptoRow, standIns := [], harness := (true, "ff086f77ca9cea0d45026a15cc638737eae147e8f0ac59cccba6191a3f5d62c3"), looks := true }, kinds := [], alts := [], laidByText := true, laidKinds := [.data, .data, .data, .data, .sentinel, .sentinel, .pinned], laidTests := true, laidLooks := .later }
def CodecBlankUptoCardSaid : Prop := Claim7.holds Tryd.pinned (.plain (OpenSpec.upto codecBlankSpec)) codecBlankUptoCard

/-- THE SECOND FORM's CARD OF 'comptrollerlaw10.CodecLines'. -/
def codecLinesUptoCard : Claim7 := { stood := { row := codecLinesUptoRow, standIns := [], harness := (true, "ff086f77ca9cea0d45026a15cc638737eae147e8f0ac59cccba6191a3f5d62c3"), looks := true }, kinds := [], alts := [], laidByText := true, laidKinds := [.data, .data, .data, .data, .sentinel, .sentinel, .pinned], laidTests := true, laidLooks := .later }
def CodecLinesUptoCardSaid : Prop := Claim7.holds Tryd.pinned (.plain (OpenSpec.upto codecLinesSpec)) codecLinesUptoCard

/-- THE SECOND FORM's CARD OF 'comptrollerlaw10.CodecSwaps'. -/
def codecSwapsUptoCard : Claim7 := { stood := { row := codecSwapsUptoRow, standIns := [], harness := (true, "ff086f77ca9cea0d45026a15cc638737eae147e8f0ac59cccba6191a3f5d62c3"), looks := true }, kinds := [], alts := [], laidByText := true, laidKinds := [.data, .data, .data, .data, .sentinel, .sentinel, .pinned], laidTests := true, laidLooks := .later }
def CodecSwapsUptoCardSaid : Prop := Claim7.holds Tryd.pinned (.plain (OpenSpec.upto codecSwapsSpec)) codecSwapsUptoCard
end Rows
end Go.Proofs.YtdnneognilffaaaDoor
