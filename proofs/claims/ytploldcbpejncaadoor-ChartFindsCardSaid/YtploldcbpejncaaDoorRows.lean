/-
  NARROWER THAN 'FOR EVERY INPUT', by the rows' own cells (each row's printed sentence says how): ChartWords: laid · ChartBack: laid · ChartFinds: laid · ChartMarks: laid · ChartOwn: laid.
  DERIVED. THE GIVEN ROWS OF THIS SEAT. 5 by the template 'for every input the law returns true; each argument reads behind the call as it read before'; 0 by the template 'total and deterministic' (their statements: YtploldcbpejncaaDoorTotals.lean).
  GIVEN WITH THE SEED: the statements are not yours to turn. If you find one false, say at which input.
  Laid BY PROGRAM, IN A SANDBOX (cutbox-rows.mjs): the forced cells as the released guide's own fill.sh prints them over the translation 78a12a1c7aed18d4… (all of the seat's roots in one cut). By AI agents, Wed Nov 11 2026. No macro, syntax, notation, axiom, sorry.
-/
import Derived.Test.YtploldcbpejncaaDoorChecked
import GoSem.Claim
import GoSem.ClaimJoined
import GoSem.ClaimMapViews
import Derived.JoinedTies
import Derived.KernelRfl
namespace Go.Proofs.YtploldcbpejncaaDoor
/- THE CELL 'sum', in the pinned program and in every row, IS THE sha256 OF THE DUMP (.gsa) THAT YtploldcbpejncaaDoorProg.lean LOADS. Nothing in Lean hashes anything: it is a label: what it is worth is what the hold of that sum in a sandbox is worth. -/
noncomputable def Tryd.pinned : Pinned := { name := "ytploldcbpejncaadoor", sum := "78a12a1c7aed18d403318b2fede562314da5d67c655e2ce981107f28be58c678", checked := Tryd.checked }
namespace Rows
def none {H : Type} : Left H := { results := [], args := [] }

/- WHAT THE LISTED PACKAGE-LEVEL VARIABLES READ AS WHEN THE CALL BEGINS. Each datum BY PROGRAM (the guide's laid-datum.mjs) off the statement by which the dump's own 'gosem.cut.vars' lays the variable. In a bare row this is a premise. The card (YtploldcbpejncaaDoorCards.lean) ties it to the program's text. -/
def laid_comptroller_chart_classWords {H : Type} : DataW H := .agg [.lit (.string [97, 115, 115, 101, 116]), .lit (.string [108, 105, 97, 98, 105, 108, 105, 116, 121]), .lit (.string [101, 113, 117, 105, 116, 121])]

/-- 'comptrollerlaw06.ChartWords': WHATEVER THE INPUT: true; the input reads as it did. -/
def chartWordsSpec : ChangeSpec := { name := "chartWords", fn := fun _ => fun
  | [d1, d2] => { results := [.lit (.bool true)], args := [d1, d2] }
  | _ => none }
def chartWordsRow : OpenClaim := { program := "ytploldcbpejncaadoor", sum := "78a12a1c7aed18d403318b2fede562314da5d67c655e2ce981107f28be58c678", func := "comptroller/comptrollerlaw06.ChartWords", spec := "chartWords", inPlace := ["slices.overlaps[comptroller/chart.Account]"], named := ["comptroller/chart.classWords"], apart := false, laid := [("comptroller/chart.classWords", laid_comptroller_chart_classWords)] }
def ChartWordsSaid : Prop := chartWordsRow.holds Tryd.pinned (OpenSpec.ofChange chartWordsSpec)

/-- ITS FALSE NEIGHBOUR: 'it returns false'. Refute it at one input. -/
def chartWordsWrong : ChangeSpec := { name := "chartWords", fn := fun _ => fun
  | [d1, d2] => { results := [.lit (.bool false)], args := [d1, d2] }
  | _ => none }
def ChartWordsWrongFalsely : Prop := chartWordsRow.holds Tryd.pinned (OpenSpec.ofChange chartWordsWrong)

/-- 'comptrollerlaw06.ChartBack': WHATEVER THE INPUT: true; the input reads as it did. -/
def chartBackSpec : ChangeSpec := { name := "chartBack", fn := fun _ => fun
  | [d1, d2, d3] => { results := [.lit (.bool true)], args := [d1, d2, d3] }
  | _ => none }
def chartBackRow : OpenClaim := { program := "ytploldcbpejncaadoor", sum := "78a12a1c7aed18d403318b2fede562314da5d67c655e2ce981107f28be58c678", func := "comptroller/comptrollerlaw06.ChartBack", spec := "chartBack", inPlace := ["slices.overlaps[comptroller/chart.Account]"], named := ["comptroller/chart.classWords"], apart := false, laid := [("comptroller/chart.classWords", laid_comptroller_chart_classWords)] }
def ChartBackSaid : Prop := chartBackRow.holds Tryd.pinned (OpenSpec.ofChange chartBackSpec)

/-- ITS FALSE NEIGHBOUR: 'it returns false'. Refute it at one input. -/
def chartBackWrong : ChangeSpec := { name := "chartBack", fn := fun _ => fun
  | [d1, d2, d3] => { results := [.lit (.bool false)], args := [d1, d2, d3] }
  | _ => none }
def ChartBackWrongFalsely : Prop := chartBackRow.holds Tryd.pinned (OpenSpec.ofChange chartBackWrong)

/-- 'comptrollerlaw06.ChartFinds': WHATEVER THE INPUT: true; the input reads as it did. -/
def chartFindsSpec : ChangeSpec := { name := "chartFinds", fn := fun _ => fun
  | [d1, d2, d3] => { results := [.lit (.bool true)], args := [d1, d2, d3] }
  | _ => none }
def chartFindsRow : OpenClaim := { program := "ytploldcbpejncaadoor", sum := "78a12a1c7aed18d403318b2fede562314da5d67c655e2ce981107f28be58c678", func := "comptroller/comptrollerlaw06.ChartFinds", spec := "chartFinds", inPlace := ["slices.overlaps[comptroller/chart.Account]"], named := ["comptroller/chart.classWords"], apart := false, laid := [("comptroller/chart.classWords", laid_comptroller_chart_classWords)] }
def ChartFindsSaid : Prop := chartFindsRow.holds Tryd.pinned (OpenSpec.ofChange chartFindsSpec)

/-- ITS FALSE NEIGHBOUR: 'it returns false'. Refute it at one input. -/
def chartFindsWrong : ChangeSpec := { name := "chartFinds", fn := fun _ => fun
  | [d1, d2, d3] => { results := [.lit (.bool false)], args := [d1, d2, d3] }
  | _ => none }
def ChartFindsWrongFalsely : Prop := chartFindsRow.holds Tryd.pinned (OpenSpec.ofChange chartFindsWrong)

/-- 'comptrollerlaw06.ChartMarks': WHATEVER THE INPUT: true; the input reads as it did. -/
def chartMarksSpec : ChangeSpec := { name := "chartMarks", fn := fun _ => fun
  | [d] => { results := [.lit (.bool true)], args := [d] }
  | _ => none }
def chartMarksRow : OpenClaim := { program := "ytploldcbpejncaadoor", sum := "78a12a1c7aed18d403318b2fede562314da5d67c655e2ce981107f28be58c678", func := "comptroller/comptrollerlaw06.ChartMarks", spec := "chartMarks", inPlace := ["slices.overlaps[comptroller/chart.Account]"], named := ["comptroller/chart.classWords"], apart := false, laid := [("comptroller/chart.classWords", laid_comptroller_chart_classWords)] }
def ChartMarksSaid : Prop := chartMarksRow.holds Tryd.pinned (OpenSpec.ofChange chartMarksSpec)

/-- ITS FALSE NEIGHBOUR: 'it returns false'. Refute it at one input. -/
def chartMarksWrong : ChangeSpec := { name := "chartMarks", fn := fun _ => fun
  | [d] => { results := [.lit (.bool false)], args := [d] }
  | _ => none }
def ChartMarksWrongFalsely : Prop := chartMarksRow.holds Tryd.pinned (OpenSpec.ofChange chartMarksWrong)

/-- 'comptrollerlaw06.ChartOwn': WHATEVER THE INPUT: true; the input reads as it did. -/
def chartOwnSpec : ChangeSpec := { name := "chartOwn", fn := fun _ => fun
  | [d1, d2, d3] => { results := [.lit (.bool true)], args := [d1, d2, d3] }
  | _ => none }
def chartOwnRow : OpenClaim := { program := "ytploldcbpejncaadoor", sum := "78a12a1c7aed18d403318b2fede562314da5d67c655e2ce981107f28be58c678", func := "comptroller/comptrollerlaw06.ChartOwn", spec := "chartOwn", inPlace := ["slices.overlaps[comptroller/chart.Account]"], named := ["comptroller/chart.classWords"], apart := false, laid := [("comptroller/chart.classWords", laid_comptroller_chart_classWords)] }
def ChartOwnSaid : Prop := chartOwnRow.holds Tryd.pinned (OpenSpec.ofChange chartOwnSpec)

/-- ITS FALSE NEIGHBOUR: 'it returns false'. Refute it at one input. -/
def chartOwnWrong : ChangeSpec := { name := "chartOwn", fn := fun _ => fun
  | [d1, d2, d3] => { results := [.lit (.bool false)], args := [d1, d2, d3] }
  | _ => none }
def ChartOwnWrongFalsely : Prop := chartOwnRow.holds Tryd.pinned (OpenSpec.ofChange chartOwnWrong)

/- THE SECOND FORM. 'bulk': how many values and letters a reading holds, each counted each time it is reached (what is shared counts as often as it is met; a slice's spare places count too). A statement '..UptoSaid' is the law's where the arguments, and the package variables that the reading takes, are together of bulk at most 1048576: NARROWER than '..Said'. Prove '..Said' where nothing that the law and all that it calls make is longer than what came in: it says more and counts as full. Else prove '..UptoSaid'. A law counts once. -/
mutual
def uptoBulk {H : Type} : DataW H → Nat
  | .lit (.string bytes) => bytes.length + 1
  | .lit _ => 1
  | .nil => 1
  | .ptr d => uptoBulk d + 1
  | .slice elems spare => uptoBulkAll elems + uptoBulkAll spare + 1
  | .agg parts => uptoBulkAll parts + 1
  | .iface _ d => uptoBulk d + 1
  | .map entries => uptoBulkEntries entries + 1
  | .held _ => 1
def uptoBulkAll {H : Type} : List (DataW H) → Nat
  | [] => 0
  | d :: r => uptoBulk d + uptoBulkAll r
def uptoBulkEntries {H : Type} : List (Lit × DataW H) → Nat
  | [] => 0
  | x :: r => uptoBulkEntry x + uptoBulkEntries r
def uptoBulkEntry {H : Type} : Lit × DataW H → Nat
  | (.string bytes, d) => bytes.length + uptoBulk d + 1
  | (_, d) => uptoBulk d + 1
 end
def uptoSmall : (H : Type) → List (DataW H) → Bool := fun _ ds => decide (uptoBulkAll ds ≤ 1048576)
def OpenSpec.upto (s : _root_.Go.ChangeSpec) : _root_.Go.OpenSpec := { _root_.Go.OpenSpec.ofChange s with cond := some uptoSmall }

/-- 'comptrollerlaw06.ChartWords', WHERE WHAT IT READS IS OF BULK AT MOST 1048576: true; the input reads as it did. -/
def chartWordsUptoRow : OpenClaim := { program := "ytploldcbpejncaadoor", sum := "78a12a1c7aed18d403318b2fede562314da5d67c655e2ce981107f28be58c678", func := "comptroller/comptrollerlaw06.ChartWords", spec := "chartWords", inPlace := ["slices.overlaps[comptroller/chart.Account]"], named := ["comptroller/chart.classWords"], apart := false, laid := [("comptroller/chart.classWords", laid_comptroller_chart_classWords)], narrowed := true }
def ChartWordsUptoSaid : Prop := chartWordsUptoRow.holds Tryd.pinned (OpenSpec.upto chartWordsSpec)

/-- 'comptrollerlaw06.ChartBack', WHERE WHAT IT READS IS OF BULK AT MOST 1048576: true; the input reads as it did. -/
def chartBackUptoRow : OpenClaim := { program := "ytploldcbpejncaadoor", sum := "78a12a1c7aed18d403318b2fede562314da5d67c655e2ce981107f28be58c678", func := "comptroller/comptrollerlaw06.ChartBack", spec := "chartBack", inPlace := ["slices.overlaps[comptroller/chart.Account]"], named := ["comptroller/chart.classWords"], apart := false, laid := [("comptroller/chart.classWords", laid_comptroller_chart_classWords)], narrowed := true }
def ChartBackUptoSaid : Prop := chartBackUptoRow.holds Tryd.pinned (OpenSpec.upto chartBackSpec)

/-- 'comptrollerlaw06.ChartFinds', WHERE WHAT IT READS IS OF BULK AT MOST 1048576: true; the input reads as it did. -/
def chartFindsUptoRow : OpenClaim := { program := "ytploldcbpejncaadoor", sum := "78a12a1c7aed18d403318b2fede562314da5d67c655e2ce981107f28be58c678", func := "comptroller/comptrollerlaw06.ChartFinds", spec := "chartFinds", inPlace := ["slices.overlaps[comptroller/chart.Account]"], named := ["comptroller/chart.classWords"], apart := false, laid := [("comptroller/chart.classWords", laid_comptroller_chart_classWords)], narrowed := true }
def ChartFindsUptoSaid : Prop := chartFindsUptoRow.holds Tryd.pinned (OpenSpec.upto chartFindsSpec)

/-- 'comptrollerlaw06.ChartMarks', WHERE WHAT IT READS IS OF BULK AT MOST 1048576: true; the input reads as it did. -/
def chartMarksUptoRow : OpenClaim := { program := "ytploldcbpejncaadoor", sum := "78a12a1c7aed18d403318b2fede562314da5d67c655e2ce981107f28be58c678", func := "comptroller/comptrollerlaw06.ChartMarks", spec := "chartMarks", inPlace := ["slices.overlaps[comptroller/chart.Account]"], named := ["comptroller/chart.classWords"], apart := false, laid := [("comptroller/chart.classWords", laid_comptroller_chart_classWords)], narrowed := true }
def ChartMarksUptoSaid : Prop := chartMarksUptoRow.holds Tryd.pinned (OpenSpec.upto chartMarksSpec)

/-- 'comptrollerlaw06.ChartOwn', WHERE WHAT IT READS IS OF BULK AT MOST 1048576: true; the input reads as it did. -/
def chartOwnUptoRow : OpenClaim := { program := "ytploldcbpejncaadoor", sum := "78a12a1c7aed18d403318b2fede562314da5d67c655e2ce981107f28be58c678", func := "comptroller/comptrollerlaw06.ChartOwn", spec := "chartOwn", inPlace := ["slices.overlaps[comptroller/chart.Account]"], named := ["comptroller/chart.classWords"], apart := false, laid := [("comptroller/chart.classWords", laid_comptroller_chart_classWords)], narrowed := true }
def ChartOwnUptoSaid : Prop := chartOwnUptoRow.holds Tryd.pinned (OpenSpec.upto chartOwnSpec)

end Rows
end Go.Proofs.YtploldcbpejncaaDoor
