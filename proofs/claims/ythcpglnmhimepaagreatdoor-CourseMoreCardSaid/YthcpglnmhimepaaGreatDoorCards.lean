/-
  DERIVED. GIVEN WITH THE SEED: THE CARDS: each row of YthcpglnmhimepaaGreatDoorRows.lean that lists a variable, with what it lists TIED to the program's text (the seventh form; the later family's looks); each row that meets fmt, with fmt's text TOLD by the authors' own Lean function (tested against real Go, not proved from fmt's source: count such statements apart). THE CARD IS WHAT COUNTS. Prove the row's statement (the work); the ties are given (YthcpglnmhimepaaGreatDoorTie.lean); close each card by the builder's one call (the guide's Derived/Test/ToyasCard.lean, 'card_holds'). Laid BY PROGRAM, IN A SANDBOX (cutbox-door.mjs). By AI agents, Wed Nov 11 2026. No macro, syntax, notation, axiom, sorry.
-/
import Derived.Test.YthcpglnmhimepaaGreatDoorRows
import GoSem.ClaimSeven
namespace Go.Proofs.YthcpglnmhimepaaGreatDoor
namespace Rows

/-- THE TIED CARD OF 'comptrollerlaw14.CourseTells'. -/
def courseTellsCard : Claim7 := { stood := { row := courseTellsRow, standIns := [], harness := (true, "90c09cd7efc65d62a17c2e171149bfe90f7ad74e6e6ddb0da8a9320b2ccf2e9f"), looks := true }, kinds := [], alts := [], laidByText := true, laidKinds := [.data, .data, .data, .sentinel, .sentinel, .data, .data], laidTests := true, laidLooks := .later }
def CourseTellsCardSaid : Prop := Claim7.holds Tryz.pinned (.plain (OpenSpec.ofChange courseTellsSpec)) courseTellsCard

/-- THE TIED CARD OF 'comptrollerlaw14.CourseOf'. -/
def courseOfCard : Claim7 := { stood := { row := courseOfRow, standIns := [], harness := (true, "90c09cd7efc65d62a17c2e171149bfe90f7ad74e6e6ddb0da8a9320b2ccf2e9f"), looks := true }, kinds := [], alts := [], laidByText := true, laidKinds := [.data, .data, .data, .sentinel, .sentinel, .data, .data], laidTests := true, laidLooks := .later }
def CourseOfCardSaid : Prop := Claim7.holds Tryz.pinned (.plain (OpenSpec.ofChange courseOfSpec)) courseOfCard

/-- THE TIED CARD OF 'comptrollerlaw14.CourseBack'. -/
def courseBackCard : Claim7 := { stood := { row := courseBackRow, standIns := [], harness := (true, "90c09cd7efc65d62a17c2e171149bfe90f7ad74e6e6ddb0da8a9320b2ccf2e9f"), looks := true }, kinds := [], alts := [], laidByText := true, laidKinds := [.data, .data, .data, .sentinel, .sentinel, .data, .data], laidTests := true, laidLooks := .later }
def CourseBackCardSaid : Prop := Claim7.holds Tryz.pinned (.plain (OpenSpec.ofChange courseBackSpec)) courseBackCard

/-- THE TIED CARD OF 'comptrollerlaw14.CourseMore'. -/
def courseMoreCard : Claim7 := { stood := { row := courseMoreRow, standIns := [], harness := (true, "90c09cd7efc65d62a17c2e171149bfe90f7ad74e6e6ddb0da8a9320b2ccf2e9f"), looks := true }, kinds := [], alts := [], laidByText := true, laidKinds := [.data, .data, .data, .sentinel, .sentinel, .data, .data], laidTests := true, laidLooks := .later }
def CourseMoreCardSaid : Prop := Claim7.holds Tryz.pinned (.plain (OpenSpec.ofChange courseMoreSpec)) courseMoreCard

/-- THE TIED CARD OF 'comptrollerlaw14.CourseGroup'. -/
def courseGroupCard : Claim7 := { stood := { row := courseGroupRow, standIns := [], harness := (true, "90c09cd7efc65d62a17c2e171149bfe90f7ad74e6e6ddb0da8a9320b2ccf2e9f"), looks := true }, kinds := [], alts := [], laidByText := true, laidKinds := [.data, .data, .data, .sentinel, .sentinel, .data, .data], laidTests := true, laidLooks := .later }
def CourseGroupCardSaid : Prop := Claim7.holds Tryz.pinned (.plain (OpenSpec.ofChange courseGroupSpec)) courseGroupCard

/-- THE TIED CARD OF 'comptrollerlaw14.CourseTwice'. -/
def courseTwiceCard : Claim7 := { stood := { row := courseTwiceRow, standIns := [], harness := (true, "90c09cd7efc65d62a17c2e171149bfe90f7ad74e6e6ddb0da8a9320b2ccf2e9f"), looks := true }, kinds := [], alts := [], laidByText := true, laidKinds := [.data, .data, .data, .sentinel, .sentinel, .data, .data], laidTests := true, laidLooks := .later }
def CourseTwiceCardSaid : Prop := Claim7.holds Tryz.pinned (.plain (OpenSpec.ofChange courseTwiceSpec)) courseTwiceCard

/-- THE TIED CARD OF 'comptrollerlaw14.CourseNamed'. -/
def courseNamedCard : Claim7 := { stood := { row := courseNamedRow, standIns := [], harness := (true, "90c09cd7efc65d62a17c2e171149bfe90f7ad74e6e6ddb0da8a9320b2ccf2e9f"), looks := true }, kinds := [], alts := [], laidByText := true, laidKinds := [.data, .data, .data, .sentinel, .sentinel, .data, .data], laidTests := true, laidLooks := .later }
def CourseNamedCardSaid : Prop := Claim7.holds Tryz.pinned (.plain (OpenSpec.ofChange courseNamedSpec)) courseNamedCard

/-- THE SECOND FORM's CARD OF 'comptrollerlaw14.CourseTells'. -/
def courseTellsUptoCard : Claim7 := { stood := { row := courseTellsUptoRow, standIns := [], harness := (true, "90c09cd7efc65d62a17c2e171149bfe90f7ad74e6e6ddb0da8a9320b2ccf2e9f"), looks := true }, kinds := [], alts := [], laidByText := true, laidKinds := [.data, .data, .data, .sentinel, .sentinel, .data, .data], laidTests := true, laidLooks := .later }
def CourseTellsUptoCardSaid : Prop := Claim7.holds Tryz.pinned (.plain (OpenSpec.upto courseTellsSpec)) courseTellsUptoCard

/-- THE SECOND FORM's CARD OF 'comptrollerlaw14.CourseOf'. -/
def courseOfUptoCard : Claim7 := { stood := { row := courseOfUptoRow, standIns := [], harness := (true, "90c09cd7efc65d62a17c2e171149bfe90f7ad74e6e6ddb0da8a9320b2ccf2e9f"), looks := true }, kinds := [], alts := [], laidByText := true, laidKinds := [.data, .data, .data, .sentinel, .sentinel, .data, .data], laidTests := true, laidLooks := .later }
def CourseOfUptoCardSaid : Prop := Claim7.holds Tryz.pinned (.plain (OpenSpec.upto courseOfSpec)) courseOfUptoCard

/-- THE SECOND FORM's CARD OF 'comptrollerlaw14.CourseBack'. -/
def courseBackUptoCard : Claim7 := { stood := { row := courseBackUptoRow, standIns := [], harness := (true, "90c09cd7efc65d62a17c2e171149bfe90f7ad74e6e6ddb0da8a9320b2ccf2e9f"), looks := true }, kinds := [], alts := [], laidByText := true, laidKinds := [.data, .data, .data, .sentinel, .sentinel, .data, .data], laidTests := true, laidLooks := .later }
def CourseBackUptoCardSaid : Prop := Claim7.holds Tryz.pinned (.plain (OpenSpec.upto courseBackSpec)) courseBackUptoCard

/-- THE SECOND FORM's CARD OF 'comptrollerlaw14.CourseMore'. -/
def courseMoreUptoCard : Claim7 := { stood := { row := courseMoreUptoRow, standIns := [], harness := (true, "90c09cd7efc65d62a17c2e171149bfe90f7ad74e6e6ddb0da8a9320b2ccf2e9f"), looks := true }, kinds := [], alts := [], laidByText := true, laidKinds := [.data, .data, .data, .sentinel, .sentinel, .data, .data], laidTests := true, laidLooks := .later }
def CourseMoreUptoCardSaid : Prop := Claim7.holds Tryz.pinned (.plain (OpenSpec.upto courseMoreSpec)) courseMoreUptoCard

/-- THE SECOND FORM's CARD OF 'comptrollerlaw14.CourseGroup'. -/
def courseGroupUptoCard : Claim7 := { stood := { row := courseGroupUptoRow, standIns := [], harness := (true, "90c09cd7efc65d62a17c2e171149bfe90f7ad74e6e6ddb0da8a9320b2ccf2e9f"), looks := true }, kinds := [], alts := [], laidByText := true, laidKinds := [.data, .data, .data, .sentinel, .sentinel, .data, .data], laidTests := true, laidLooks := .later }
def CourseGroupUptoCardSaid : Prop := Claim7.holds Tryz.pinned (.plain (OpenSpec.upto courseGroupSpec)) courseGroupUptoCard

/-- THE SECOND FORM's CARD OF 'comptrollerlaw14.CourseTwice'. -/
def courseTwiceUptoCard : Claim7 := { stood := { row := courseTwiceUptoRow, standIns := [], harness := (true, "90c09cd7efc65d62a17c2e171149bfe90f7ad74e6e6ddb0da8a9320b2ccf2e9f"), looks := true }, kinds := [], alts := [], laidByText := true, laidKinds := [.data, .data, .data, .sentinel, .sentinel, .data, .data], laidTests := true, laidLooks := .later }
def CourseTwiceUptoCardSaid : Prop := Claim7.holds Tryz.pinned (.plain (OpenSpec.upto courseTwiceSpec)) courseTwiceUptoCard

/-- THE SECOND FORM's CARD OF 'comptrollerlaw14.CourseNamed'. -/
def courseNamedUptoCard : Claim7 := { stood := { row := courseNamedUptoRow, standIns := [], harness := (true, "90c09cd7efc65d62a17c2e171149bfe90f7ad74e6e6ddb0da8a9320b2ccf2e9f"), looks := true }, kinds := [], alts := [], laidByText := true, laidKinds := [.data, .data, .data, .sentinel, .sentinel, .data, .data], laidTests := true, laidLooks := .later }
def CourseNamedUptoCardSaid : Prop := Claim7.holds Tryz.pinned (.plain (OpenSpec.upto courseNamedSpec)) courseNamedUptoCard
end Rows
end Go.Proofs.YthcpglnmhimepaaGreatDoor
