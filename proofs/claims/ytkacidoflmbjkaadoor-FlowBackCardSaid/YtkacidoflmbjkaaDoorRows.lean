/-
  NARROWER THAN 'FOR EVERY INPUT', by the rows' own cells (each row's printed sentence says how): FlowWords: laid · FlowBack: laid · FlowAdds: laid · FlowKinds: laid.
  DERIVED. THE GIVEN ROWS OF THIS SEAT. 4 by the template 'for every input the law returns true; each argument reads behind the call as it read before'; 0 by the template 'total and deterministic' (their statements: YtkacidoflmbjkaaDoorTotals.lean).
  GIVEN WITH THE SEED: the statements are not yours to turn. If you find one false, say at which input.
  Laid BY PROGRAM, IN A SANDBOX (cutbox-rows.mjs): the forced cells as the released guide's own fill.sh prints them over the translation 30261be781ec5dbb… (all of the seat's roots in one cut). By AI agents, Wed Nov 11 2026. No macro, syntax, notation, axiom, sorry.
-/
import Derived.Test.YtkacidoflmbjkaaDoorChecked
import GoSem.Claim
import GoSem.ClaimJoined
import GoSem.ClaimMapViews
import Derived.JoinedTies
import Derived.KernelRfl
namespace Go.Proofs.YtkacidoflmbjkaaDoor
/- THE CELL 'sum', in the pinned program and in every row, IS THE sha256 OF THE DUMP (.gsa) THAT YtkacidoflmbjkaaDoorProg.lean LOADS. Nothing in Lean hashes anything: it is a label: what it is worth is what the hold of that sum in a sandbox is worth. -/
noncomputable def Tryd.pinned : Pinned := { name := "ytkacidoflmbjkaadoor", sum := "30261be781ec5dbbd9ea8d34f03eecde354e07108f02d39fcbe272ed1edf3389", checked := Tryd.checked }
namespace Rows
def none {H : Type} : Left H := { results := [], args := [] }

/- WHAT THE LISTED PACKAGE-LEVEL VARIABLES READ AS WHEN THE CALL BEGINS. Each datum BY PROGRAM (the guide's laid-datum.mjs) off the statement by which the dump's own 'gosem.cut.vars' lays the variable. In a bare row this is a premise. The card (YtkacidoflmbjkaaDoorCards.lean) ties it to the program's text. -/
def laid_comptroller_flow_kindWords {H : Type} : DataW H := .agg [.lit (.string [111, 112, 101, 110]), .lit (.string [109, 111, 118, 101]), .lit (.string [102, 120]), .lit (.string [115, 99, 111, 112, 101]), .lit (.string [99, 108, 111, 115, 101])]

/-- 'comptrollerlaw07.FlowWords': WHATEVER THE INPUT: true; the input reads as it did. -/
def flowWordsSpec : ChangeSpec := { name := "flowWords", fn := fun _ => fun
  | [d1, d2] => { results := [.lit (.bool true)], args := [d1, d2] }
  | _ => none }
def flowWordsRow : OpenClaim := { program := "ytkacidoflmbjkaadoor", sum := "30261be781ec5dbbd9ea8d34f03eecde354e07108f02d39fcbe272ed1edf3389", func := "comptroller/comptrollerlaw07.FlowWords", spec := "flowWords", inPlace := ["internal/bytealg.abigen_runtime_cmpstring", "slices.overlaps[comptroller/flow.Flow]"], unfollowed := true, recurses := true, named := ["comptroller/flow.kindWords"], apart := false, laid := [("comptroller/flow.kindWords", laid_comptroller_flow_kindWords)] }
def FlowWordsSaid : Prop := flowWordsRow.holds Tryd.pinned (OpenSpec.ofChange flowWordsSpec)

/-- ITS FALSE NEIGHBOUR: 'it returns false'. Refute it at one input. -/
def flowWordsWrong : ChangeSpec := { name := "flowWords", fn := fun _ => fun
  | [d1, d2] => { results := [.lit (.bool false)], args := [d1, d2] }
  | _ => none }
def FlowWordsWrongFalsely : Prop := flowWordsRow.holds Tryd.pinned (OpenSpec.ofChange flowWordsWrong)

/-- 'comptrollerlaw07.FlowBack': WHATEVER THE INPUT: true; the input reads as it did. -/
def flowBackSpec : ChangeSpec := { name := "flowBack", fn := fun _ => fun
  | [d1, d2] => { results := [.lit (.bool true)], args := [d1, d2] }
  | _ => none }
def flowBackRow : OpenClaim := { program := "ytkacidoflmbjkaadoor", sum := "30261be781ec5dbbd9ea8d34f03eecde354e07108f02d39fcbe272ed1edf3389", func := "comptroller/comptrollerlaw07.FlowBack", spec := "flowBack", inPlace := ["internal/bytealg.abigen_runtime_cmpstring", "slices.overlaps[comptroller/flow.Flow]"], unfollowed := true, recurses := true, named := ["comptroller/flow.kindWords"], apart := false, laid := [("comptroller/flow.kindWords", laid_comptroller_flow_kindWords)] }
def FlowBackSaid : Prop := flowBackRow.holds Tryd.pinned (OpenSpec.ofChange flowBackSpec)

/-- ITS FALSE NEIGHBOUR: 'it returns false'. Refute it at one input. -/
def flowBackWrong : ChangeSpec := { name := "flowBack", fn := fun _ => fun
  | [d1, d2] => { results := [.lit (.bool false)], args := [d1, d2] }
  | _ => none }
def FlowBackWrongFalsely : Prop := flowBackRow.holds Tryd.pinned (OpenSpec.ofChange flowBackWrong)

/-- 'comptrollerlaw07.FlowAdds': WHATEVER THE INPUT: true; the input reads as it did. -/
def flowAddsSpec : ChangeSpec := { name := "flowAdds", fn := fun _ => fun
  | [d1, d2] => { results := [.lit (.bool true)], args := [d1, d2] }
  | _ => none }
def flowAddsRow : OpenClaim := { program := "ytkacidoflmbjkaadoor", sum := "30261be781ec5dbbd9ea8d34f03eecde354e07108f02d39fcbe272ed1edf3389", func := "comptroller/comptrollerlaw07.FlowAdds", spec := "flowAdds", inPlace := ["internal/bytealg.abigen_runtime_cmpstring", "slices.overlaps[comptroller/flow.Flow]"], unfollowed := true, recurses := true, named := ["comptroller/flow.kindWords"], apart := false, laid := [("comptroller/flow.kindWords", laid_comptroller_flow_kindWords)] }
def FlowAddsSaid : Prop := flowAddsRow.holds Tryd.pinned (OpenSpec.ofChange flowAddsSpec)

/-- ITS FALSE NEIGHBOUR: 'it returns false'. Refute it at one input. -/
def flowAddsWrong : ChangeSpec := { name := "flowAdds", fn := fun _ => fun
  | [d1, d2] => { results := [.lit (.bool false)], args := [d1, d2] }
  | _ => none }
def FlowAddsWrongFalsely : Prop := flowAddsRow.holds Tryd.pinned (OpenSpec.ofChange flowAddsWrong)

/-- 'comptrollerlaw07.FlowKinds': WHATEVER THE INPUT: true; the input reads as it did. -/
def flowKindsSpec : ChangeSpec := { name := "flowKinds", fn := fun _ => fun
  | [d] => { results := [.lit (.bool true)], args := [d] }
  | _ => none }
def flowKindsRow : OpenClaim := { program := "ytkacidoflmbjkaadoor", sum := "30261be781ec5dbbd9ea8d34f03eecde354e07108f02d39fcbe272ed1edf3389", func := "comptroller/comptrollerlaw07.FlowKinds", spec := "flowKinds", inPlace := ["internal/bytealg.abigen_runtime_cmpstring", "slices.overlaps[comptroller/flow.Flow]"], unfollowed := true, recurses := true, named := ["comptroller/flow.kindWords"], apart := false, laid := [("comptroller/flow.kindWords", laid_comptroller_flow_kindWords)] }
def FlowKindsSaid : Prop := flowKindsRow.holds Tryd.pinned (OpenSpec.ofChange flowKindsSpec)

/-- ITS FALSE NEIGHBOUR: 'it returns false'. Refute it at one input. -/
def flowKindsWrong : ChangeSpec := { name := "flowKinds", fn := fun _ => fun
  | [d] => { results := [.lit (.bool false)], args := [d] }
  | _ => none }
def FlowKindsWrongFalsely : Prop := flowKindsRow.holds Tryd.pinned (OpenSpec.ofChange flowKindsWrong)

/- THE SECOND FORM. 'bulk': how many values and letters a reading holds, each counted each time it is reached (what is shared counts as often as it is met; a slice's spare places count too). A statement '..UptoSaid' is the law's where the arguments, and the package variables that the reading takes, are together of bulk at most 1048576: NARROWER than '..Said'. Prove '..Said' where nothing that the law and all that it calls make is longer than what came in: it says more and counts as full. Else prove '..UptoSaid'. A law counts once. -/
mutual
def uptoBulk {H : Type} : DataW H → Nat
  | .lit (.string bytes) => bytes.length + 1
  | .lit _ => 1
  | .nil => 1
  | .ptr d => uptoBulk d + 1
  | .slice elems spare => uptoBulkAll elems + uptoBulkAll spare + 1
  | .agg parts => uptoBulkAll parts + 1
  | .iface _ d => uptoBulk d + 1
  | .map entries => uptoBulkEntries entries + 1
  | .held _ => 1
def uptoBulkAll {H : Type} : List (DataW H) → Nat
  | [] => 0
  | d :: r => uptoBulk d + uptoBulkAll r
def uptoBulkEntries {H : Type} : List (Lit × DataW H) → Nat
  | [] => 0
  | x :: r => uptoBulkEntry x + uptoBulkEntries r
def uptoBulkEntry {H : Type} : Lit × DataW H → Nat
  | (.string bytes, d) => bytes.length + uptoBulk d + 1
  | (_, d) => uptoBulk d + 1
 end
def uptoSmall : (H : Type) → List (DataW H) → Bool := fun _ ds => decide (uptoBulkAll ds ≤ 1048576)
def OpenSpec.upto (s : _root_.Go.ChangeSpec) : _root_.Go.OpenSpec := { _root_.Go.OpenSpec.ofChange s with cond := some uptoSmall }

/-- 'comptrollerlaw07.FlowWords', WHERE WHAT IT READS IS OF BULK AT MOST 1048576: true; the input reads as it did. -/
def flowWordsUptoRow : OpenClaim := { program := "ytkacidoflmbjkaadoor", sum := "30261be781ec5dbbd9ea8d34f03eecde354e07108f02d39fcbe272ed1edf3389", func := "comptroller/comptrollerlaw07.FlowWords", spec := "flowWords", inPlace := ["internal/bytealg.abigen_runtime_cmpstring", "slices.overlaps[comptroller/flow.Flow]"], unfollowed := true, recurses := true, named := ["comptroller/flow.kindWords"], apart := false, laid := [("comptroller/flow.kindWords", laid_comptroller_flow_kindWords)], narrowed := true }
def FlowWordsUptoSaid : Prop := flowWordsUptoRow.holds Tryd.pinned (OpenSpec.upto flowWordsSpec)

/-- 'comptrollerlaw07.FlowBack', WHERE WHAT IT READS IS OF BULK AT MOST 1048576: true; the input reads as it did. -/
def flowBackUptoRow : OpenClaim := { program := "ytkacidoflmbjkaadoor", sum := "30261be781ec5dbbd9ea8d34f03eecde354e07108f02d39fcbe272ed1edf3389", func := "comptroller/comptrollerlaw07.FlowBack", spec := "flowBack", inPlace := ["internal/bytealg.abigen_runtime_cmpstring", "slices.overlaps[comptroller/flow.Flow]"], unfollowed := true, recurses := true, named := ["comptroller/flow.kindWords"], apart := false, laid := [("comptroller/flow.kindWords", laid_comptroller_flow_kindWords)], narrowed := true }
def FlowBackUptoSaid : Prop := flowBackUptoRow.holds Tryd.pinned (OpenSpec.upto flowBackSpec)

/-- 'comptrollerlaw07.FlowAdds', WHERE WHAT IT READS IS OF BULK AT MOST 1048576: true; the input reads as it did. -/
def flowAddsUptoRow : OpenClaim := { program := "ytkacidoflmbjkaadoor", sum := "30261be781ec5dbbd9ea8d34f03eecde354e07108f02d39fcbe272ed1edf3389", func := "comptroller/comptrollerlaw07.FlowAdds", spec := "flowAdds", inPlace := ["internal/bytealg.abigen_runtime_cmpstring", "slices.overlaps[comptroller/flow.Flow]"], unfollowed := true, recurses := true, named := ["comptroller/flow.kindWords"], apart := false, laid := [("comptroller/flow.kindWords", laid_comptroller_flow_kindWords)], narrowed := true }
def FlowAddsUptoSaid : Prop := flowAddsUptoRow.holds Tryd.pinned (OpenSpec.upto flowAddsSpec)

/-- 'comptrollerlaw07.FlowKinds', WHERE WHAT IT READS IS OF BULK AT MOST 1048576: true; the input reads as it did. -/
def flowKindsUptoRow : OpenClaim := { program := "ytkacidoflmbjkaadoor", sum := "30261be781ec5dbbd9ea8d34f03eecde354e07108f02d39fcbe272ed1edf3389", func := "comptroller/comptrollerlaw07.FlowKinds", spec := "flowKinds", inPlace := ["internal/bytealg.abigen_runtime_cmpstring", "slices.overlaps[comptroller/flow.Flow]"], unfollowed := true, recurses := true, named := ["comptroller/flow.kindWords"], apart := false, laid := [("comptroller/flow.kindWords", laid_comptroller_flow_kindWords)], narrowed := true }
def FlowKindsUptoSaid : Prop := flowKindsUptoRow.holds Tryd.pinned (OpenSpec.upto flowKindsSpec)

end Rows
end Go.Proofs.YtkacidoflmbjkaaDoor
