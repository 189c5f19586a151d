/-
  NARROWER THAN 'FOR EVERY INPUT', by the rows' own cells (each row's printed sentence says how): UnitTells: laid · UnitFinds: laid · UnitBack: laid · UnitOrder: laid · UnitTwice: laid · UnitAll: laid · UnitNeeds: laid.
  DERIVED. THE GIVEN ROWS OF THIS SEAT. 7 by the template 'for every input the law returns true; each argument reads behind the call as it read before'; 0 by the template 'total and deterministic' (their statements: YticdmlijacnjbaaGreatDoorTotals.lean).
  GIVEN WITH THE SEED: the statements are not yours to turn. If you find one false, say at which input.
  Laid BY PROGRAM, IN A SANDBOX (cutbox-rows.mjs): the forced cells as the released guide's own fill.sh prints them over the translation f0b12bf5d6f6471b… (all of the seat's roots in one cut). By AI agents, Wed Nov 11 2026. No macro, syntax, notation, axiom, sorry.
-/
import Derived.Test.YticdmlijacnjbaaGreatDoorChecked
import GoSem.Claim
import GoSem.ClaimJoined
import GoSem.ClaimMapViews
import Derived.JoinedTies
import Derived.KernelRfl
namespace Go.Proofs.YticdmlijacnjbaaGreatDoor
/- THE CELL 'sum', in the pinned program and in every row, IS THE sha256 OF THE DUMP (.gsa) THAT YticdmlijacnjbaaGreatDoorProg.lean LOADS. Nothing in Lean hashes anything: it is a label: what it is worth is what the hold of that sum in a sandbox is worth. -/
noncomputable def Tryz.pinned : Pinned := { name := "yticdmlijacnjbaagreatdoor", sum := "f0b12bf5d6f6471bfd7116c52285bb15c3e58f79d6243fbfcd4d92e1efb83d2c", checked := Tryz.checked }
namespace Rows
def none {H : Type} : Left H := { results := [], args := [] }

/- WHAT THE LISTED PACKAGE-LEVEL VARIABLES READ AS WHEN THE CALL BEGINS. Each datum BY PROGRAM (the guide's laid-datum.mjs) off the statement by which the dump's own 'gosem.cut.vars' lays the variable. In a bare row this is a premise. The card (YticdmlijacnjbaaGreatDoorCards.lean) ties it to the program's text. -/
def laid_comptroller_chart_classWords {H : Type} : DataW H := .agg [.lit (.string [97, 115, 115, 101, 116]), .lit (.string [108, 105, 97, 98, 105, 108, 105, 116, 121]), .lit (.string [101, 113, 117, 105, 116, 121])]
def laid_comptroller_flow_kindWords {H : Type} : DataW H := .agg [.lit (.string [111, 112, 101, 110]), .lit (.string [109, 111, 118, 101]), .lit (.string [102, 120]), .lit (.string [115, 99, 111, 112, 101]), .lit (.string [99, 108, 111, 115, 101])]

/-- 'comptrollerlaw08.UnitTells': WHATEVER THE INPUT: true; the input reads as it did. -/
def unitTellsSpec : ChangeSpec := { name := "unitTells", fn := fun _ => fun
  | [d] => { results := [.lit (.bool true)], args := [d] }
  | _ => none }
def unitTellsRow : OpenClaim := { program := "yticdmlijacnjbaagreatdoor", sum := "f0b12bf5d6f6471bfd7116c52285bb15c3e58f79d6243fbfcd4d92e1efb83d2c", func := "comptroller/comptrollerlaw08.UnitTells", spec := "unitTells", inPlace := ["internal/bytealg.IndexByteString", "internal/bytealg.IndexString", "slices.overlaps[comptroller/chart.Account]", "internal/bytealg.abigen_runtime_cmpstring", "slices.overlaps[comptroller/flow.Flow]", "slices.overlaps[comptroller/unit.Entity]", "slices.overlaps[comptroller/unit.Line]", "internal/abi.NoEscape", "internal/bytealg.MakeNoZero"], unfollowed := true, recurses := true, named := ["internal/bytealg.MaxLen", "comptroller/chart.classWords", "comptroller/flow.kindWords"], plainKeys := false, apart := false, laid := [("comptroller/chart.classWords", laid_comptroller_chart_classWords), ("comptroller/flow.kindWords", laid_comptroller_flow_kindWords)] }
def UnitTellsSaid : Prop := unitTellsRow.holds Tryz.pinned (OpenSpec.ofChange unitTellsSpec)

/-- ITS FALSE NEIGHBOUR: 'it returns false'. Refute it at one input. -/
def unitTellsWrong : ChangeSpec := { name := "unitTells", fn := fun _ => fun
  | [d] => { results := [.lit (.bool false)], args := [d] }
  | _ => none }
def UnitTellsWrongFalsely : Prop := unitTellsRow.holds Tryz.pinned (OpenSpec.ofChange unitTellsWrong)

/-- 'comptrollerlaw08.UnitFinds': WHATEVER THE INPUT: true; the input reads as it did. -/
def unitFindsSpec : ChangeSpec := { name := "unitFinds", fn := fun _ => fun
  | [d1, d2, d3] => { results := [.lit (.bool true)], args := [d1, d2, d3] }
  | _ => none }
def unitFindsRow : OpenClaim := { program := "yticdmlijacnjbaagreatdoor", sum := "f0b12bf5d6f6471bfd7116c52285bb15c3e58f79d6243fbfcd4d92e1efb83d2c", func := "comptroller/comptrollerlaw08.UnitFinds", spec := "unitFinds", inPlace := ["internal/bytealg.IndexByteString", "internal/bytealg.IndexString", "slices.overlaps[comptroller/chart.Account]", "internal/bytealg.abigen_runtime_cmpstring", "slices.overlaps[comptroller/flow.Flow]", "slices.overlaps[comptroller/unit.Entity]", "slices.overlaps[comptroller/unit.Line]", "internal/abi.NoEscape", "internal/bytealg.MakeNoZero"], unfollowed := true, recurses := true, named := ["internal/bytealg.MaxLen", "comptroller/chart.classWords", "comptroller/flow.kindWords"], plainKeys := false, apart := false, laid := [("comptroller/chart.classWords", laid_comptroller_chart_classWords), ("comptroller/flow.kindWords", laid_comptroller_flow_kindWords)] }
def UnitFindsSaid : Prop := unitFindsRow.holds Tryz.pinned (OpenSpec.ofChange unitFindsSpec)

/-- ITS FALSE NEIGHBOUR: 'it returns false'. Refute it at one input. -/
def unitFindsWrong : ChangeSpec := { name := "unitFinds", fn := fun _ => fun
  | [d1, d2, d3] => { results := [.lit (.bool false)], args := [d1, d2, d3] }
  | _ => none }
def UnitFindsWrongFalsely : Prop := unitFindsRow.holds Tryz.pinned (OpenSpec.ofChange unitFindsWrong)

/-- 'comptrollerlaw08.UnitBack': WHATEVER THE INPUT: true; the input reads as it did. -/
def unitBackSpec : ChangeSpec := { name := "unitBack", fn := fun _ => fun
  | [d] => { results := [.lit (.bool true)], args := [d] }
  | _ => none }
def unitBackRow : OpenClaim := { program := "yticdmlijacnjbaagreatdoor", sum := "f0b12bf5d6f6471bfd7116c52285bb15c3e58f79d6243fbfcd4d92e1efb83d2c", func := "comptroller/comptrollerlaw08.UnitBack", spec := "unitBack", inPlace := ["internal/bytealg.IndexByteString", "internal/bytealg.IndexString", "slices.overlaps[comptroller/chart.Account]", "internal/bytealg.abigen_runtime_cmpstring", "slices.overlaps[comptroller/flow.Flow]", "slices.overlaps[comptroller/unit.Entity]", "slices.overlaps[comptroller/unit.Line]", "internal/abi.NoEscape", "internal/bytealg.MakeNoZero"], unfollowed := true, recurses := true, named := ["internal/bytealg.MaxLen", "comptroller/chart.classWords", "comptroller/flow.kindWords"], plainKeys := false, apart := false, laid := [("comptroller/chart.classWords", laid_comptroller_chart_classWords), ("comptroller/flow.kindWords", laid_comptroller_flow_kindWords)] }
def UnitBackSaid : Prop := unitBackRow.holds Tryz.pinned (OpenSpec.ofChange unitBackSpec)

/-- ITS FALSE NEIGHBOUR: 'it returns false'. Refute it at one input. -/
def unitBackWrong : ChangeSpec := { name := "unitBack", fn := fun _ => fun
  | [d] => { results := [.lit (.bool false)], args := [d] }
  | _ => none }
def UnitBackWrongFalsely : Prop := unitBackRow.holds Tryz.pinned (OpenSpec.ofChange unitBackWrong)

/-- 'comptrollerlaw08.UnitOrder': WHATEVER THE INPUT: true; the input reads as it did. -/
def unitOrderSpec : ChangeSpec := { name := "unitOrder", fn := fun _ => fun
  | [d1, d2, d3] => { results := [.lit (.bool true)], args := [d1, d2, d3] }
  | _ => none }
def unitOrderRow : OpenClaim := { program := "yticdmlijacnjbaagreatdoor", sum := "f0b12bf5d6f6471bfd7116c52285bb15c3e58f79d6243fbfcd4d92e1efb83d2c", func := "comptroller/comptrollerlaw08.UnitOrder", spec := "unitOrder", inPlace := ["internal/bytealg.IndexByteString", "internal/bytealg.IndexString", "slices.overlaps[comptroller/chart.Account]", "internal/bytealg.abigen_runtime_cmpstring", "slices.overlaps[comptroller/flow.Flow]", "slices.overlaps[comptroller/unit.Entity]", "slices.overlaps[comptroller/unit.Line]", "internal/abi.NoEscape", "internal/bytealg.MakeNoZero"], unfollowed := true, recurses := true, named := ["internal/bytealg.MaxLen", "comptroller/chart.classWords", "comptroller/flow.kindWords"], plainKeys := false, apart := false, laid := [("comptroller/chart.classWords", laid_comptroller_chart_classWords), ("comptroller/flow.kindWords", laid_comptroller_flow_kindWords)] }
def UnitOrderSaid : Prop := unitOrderRow.holds Tryz.pinned (OpenSpec.ofChange unitOrderSpec)

/-- ITS FALSE NEIGHBOUR: 'it returns false'. Refute it at one input. -/
def unitOrderWrong : ChangeSpec := { name := "unitOrder", fn := fun _ => fun
  | [d1, d2, d3] => { results := [.lit (.bool false)], args := [d1, d2, d3] }
  | _ => none }
def UnitOrderWrongFalsely : Prop := unitOrderRow.holds Tryz.pinned (OpenSpec.ofChange unitOrderWrong)

/-- 'comptrollerlaw08.UnitTwice': WHATEVER THE INPUT: true; the input reads as it did. -/
def unitTwiceSpec : ChangeSpec := { name := "unitTwice", fn := fun _ => fun
  | [d1, d2] => { results := [.lit (.bool true)], args := [d1, d2] }
  | _ => none }
def unitTwiceRow : OpenClaim := { program := "yticdmlijacnjbaagreatdoor", sum := "f0b12bf5d6f6471bfd7116c52285bb15c3e58f79d6243fbfcd4d92e1efb83d2c", func := "comptroller/comptrollerlaw08.UnitTwice", spec := "unitTwice", inPlace := ["internal/bytealg.IndexByteString", "internal/bytealg.IndexString", "slices.overlaps[comptroller/chart.Account]", "internal/bytealg.abigen_runtime_cmpstring", "slices.overlaps[comptroller/flow.Flow]", "slices.overlaps[comptroller/unit.Entity]", "slices.overlaps[comptroller/unit.Line]", "internal/abi.NoEscape", "internal/bytealg.MakeNoZero"], unfollowed := true, recurses := true, named := ["internal/bytealg.MaxLen", "comptroller/chart.classWords", "comptroller/flow.kindWords"], plainKeys := false, apart := false, laid := [("comptroller/chart.classWords", laid_comptroller_chart_classWords), ("comptroller/flow.kindWords", laid_comptroller_flow_kindWords)] }
def UnitTwiceSaid : Prop := unitTwiceRow.holds Tryz.pinned (OpenSpec.ofChange unitTwiceSpec)

/-- ITS FALSE NEIGHBOUR: 'it returns false'. Refute it at one input. -/
def unitTwiceWrong : ChangeSpec := { name := "unitTwice", fn := fun _ => fun
  | [d1, d2] => { results := [.lit (.bool false)], args := [d1, d2] }
  | _ => none }
def UnitTwiceWrongFalsely : Prop := unitTwiceRow.holds Tryz.pinned (OpenSpec.ofChange unitTwiceWrong)

/-- 'comptrollerlaw08.UnitAll': WHATEVER THE INPUT: true; the input reads as it did. -/
def unitAllSpec : ChangeSpec := { name := "unitAll", fn := fun _ => fun
  | [d1, d2] => { results := [.lit (.bool true)], args := [d1, d2] }
  | _ => none }
def unitAllRow : OpenClaim := { program := "yticdmlijacnjbaagreatdoor", sum := "f0b12bf5d6f6471bfd7116c52285bb15c3e58f79d6243fbfcd4d92e1efb83d2c", func := "comptroller/comptrollerlaw08.UnitAll", spec := "unitAll", inPlace := ["internal/bytealg.IndexByteString", "internal/bytealg.IndexString", "slices.overlaps[comptroller/chart.Account]", "internal/bytealg.abigen_runtime_cmpstring", "slices.overlaps[comptroller/flow.Flow]", "slices.overlaps[comptroller/unit.Entity]", "slices.overlaps[comptroller/unit.Line]", "internal/abi.NoEscape", "internal/bytealg.MakeNoZero"], unfollowed := true, recurses := true, named := ["internal/bytealg.MaxLen", "comptroller/chart.classWords", "comptroller/flow.kindWords"], plainKeys := false, apart := false, laid := [("comptroller/chart.classWords", laid_comptroller_chart_classWords), ("comptroller/flow.kindWords", laid_comptroller_flow_kindWords)] }
def UnitAllSaid : Prop := unitAllRow.holds Tryz.pinned (OpenSpec.ofChange unitAllSpec)

/-- ITS FALSE NEIGHBOUR: 'it returns false'. Refute it at one input. -/
def unitAllWrong : ChangeSpec := { name := "unitAll", fn := fun _ => fun
  | [d1, d2] => { results := [.lit (.bool false)], args := [d1, d2] }
  | _ => none }
def UnitAllWrongFalsely : Prop := unitAllRow.holds Tryz.pinned (OpenSpec.ofChange unitAllWrong)

/-- 'comptrollerlaw08.UnitNeeds': WHATEVER THE INPUT: true; the input reads as it did. -/
def unitNeedsSpec : ChangeSpec := { name := "unitNeeds", fn := fun _ => fun
  | [d1, d2] => { results := [.lit (.bool true)], args := [d1, d2] }
  | _ => none }
def unitNeedsRow : OpenClaim := { program := "yticdmlijacnjbaagreatdoor", sum := "f0b12bf5d6f6471bfd7116c52285bb15c3e58f79d6243fbfcd4d92e1efb83d2c", func := "comptroller/comptrollerlaw08.UnitNeeds", spec := "unitNeeds", inPlace := ["internal/bytealg.IndexByteString", "internal/bytealg.IndexString", "slices.overlaps[comptroller/chart.Account]", "internal/bytealg.abigen_runtime_cmpstring", "slices.overlaps[comptroller/flow.Flow]", "slices.overlaps[comptroller/unit.Entity]", "slices.overlaps[comptroller/unit.Line]", "internal/abi.NoEscape", "internal/bytealg.MakeNoZero"], unfollowed := true, recurses := true, named := ["internal/bytealg.MaxLen", "comptroller/chart.classWords", "comptroller/flow.kindWords"], plainKeys := false, apart := false, laid := [("comptroller/chart.classWords", laid_comptroller_chart_classWords), ("comptroller/flow.kindWords", laid_comptroller_flow_kindWords)] }
def UnitNeedsSaid : Prop := unitNeedsRow.holds Tryz.pinned (OpenSpec.ofChange unitNeedsSpec)

/-- ITS FALSE NEIGHBOUR: 'it returns false'. Refute it at one input. -/
def unitNeedsWrong : ChangeSpec := { name := "unitNeeds", fn := fun _ => fun
  | [d1, d2] => { results := [.lit (.bool false)], args := [d1, d2] }
  | _ => none }
def UnitNeedsWrongFalsely : Prop := unitNeedsRow.holds Tryz.pinned (OpenSpec.ofChange unitNeedsWrong)

/- THE SECOND FORM. 'bulk': how many values and letters a reading holds, each counted each time it is reached (what is shared counts as often as it is met; a slice's spare places count too). A statement '..UptoSaid' is the law's where the arguments, and the package variables that the reading takes, are together of bulk at most 1048576: NARROWER than '..Said'. Prove '..Said' where nothing that the law and all that it calls make is longer than what came in: it says more and counts as full. Else prove '..UptoSaid'. A law counts once. -/
mutual
def uptoBulk {H : Type} : DataW H → Nat
  | .lit (.string bytes) => bytes.length + 1
  | .lit _ => 1
  | .nil => 1
  | .ptr d => uptoBulk d + 1
  | .slice elems spare => uptoBulkAll elems + uptoBulkAll spare + 1
  | .agg parts => uptoBulkAll parts + 1
  | .iface _ d => uptoBulk d + 1
  | .map entries => uptoBulkEntries entries + 1
  | .held _ => 1
def uptoBulkAll {H : Type} : List (DataW H) → Nat
  | [] => 0
  | d :: r => uptoBulk d + uptoBulkAll r
def uptoBulkEntries {H : Type} : List (Lit × DataW H) → Nat
  | [] => 0
  | x :: r => uptoBulkEntry x + uptoBulkEntries r
def uptoBulkEntry {H : Type} : Lit × DataW H → Nat
  | (.string bytes, d) => bytes.length + uptoBulk d + 1
  | (_, d) => uptoBulk d + 1
 end
def uptoSmall : (H : Type) → List (DataW H) → Bool := fun _ ds => decide (uptoBulkAll ds ≤ 1048576)
def OpenSpec.upto (s : _root_.Go.ChangeSpec) : _root_.Go.OpenSpec := { _root_.Go.OpenSpec.ofChange s with cond := some uptoSmall }

/-- 'comptrollerlaw08.UnitTells', WHERE WHAT IT READS IS OF BULK AT MOST 1048576: true; the input reads as it did. -/
def unitTellsUptoRow : OpenClaim := { program := "yticdmlijacnjbaagreatdoor", sum := "f0b12bf5d6f6471bfd7116c52285bb15c3e58f79d6243fbfcd4d92e1efb83d2c", func := "comptroller/comptrollerlaw08.UnitTells", spec := "unitTells", inPlace := ["internal/bytealg.IndexByteString", "internal/bytealg.IndexString", "slices.overlaps[comptroller/chart.Account]", "internal/bytealg.abigen_runtime_cmpstring", "slices.overlaps[comptroller/flow.Flow]", "slices.overlaps[comptroller/unit.Entity]", "slices.overlaps[comptroller/unit.Line]", "internal/abi.NoEscape", "internal/bytealg.MakeNoZero"], unfollowed := true, recurses := true, named := ["internal/bytealg.MaxLen", "comptroller/chart.classWords", "comptroller/flow.kindWords"], plainKeys := false, apart := false, laid := [("comptroller/chart.classWords", laid_comptroller_chart_classWords), ("comptroller/flow.kindWords", laid_comptroller_flow_kindWords)], narrowed := true }
def UnitTellsUptoSaid : Prop := unitTellsUptoRow.holds Tryz.pinned (OpenSpec.upto unitTellsSpec)

/-- 'comptrollerlaw08.UnitFinds', WHERE WHAT IT READS IS OF BULK AT MOST 1048576: true; the input reads as it did. -/
def unitFindsUptoRow : OpenClaim := { program := "yticdmlijacnjbaagreatdoor", sum := "f0b12bf5d6f6471bfd7116c52285bb15c3e58f79d6243fbfcd4d92e1efb83d2c", func := "comptroller/comptrollerlaw08.UnitFinds", spec := "unitFinds", inPlace := ["internal/bytealg.IndexByteString", "internal/bytealg.IndexString", "slices.overlaps[comptroller/chart.Account]", "internal/bytealg.abigen_runtime_cmpstring", "slices.overlaps[comptroller/flow.Flow]", "slices.overlaps[comptroller/unit.Entity]", "slices.overlaps[comptroller/unit.Line]", "internal/abi.NoEscape", "internal/bytealg.MakeNoZero"], unfollowed := true, recurses := true, named := ["internal/bytealg.MaxLen", "comptroller/chart.classWords", "comptroller/flow.kindWords"], plainKeys := false, apart := false, laid := [("comptroller/chart.classWords", laid_comptroller_chart_classWords), ("comptroller/flow.kindWords", laid_comptroller_flow_kindWords)], narrowed := true }
def UnitFindsUptoSaid : Prop := unitFindsUptoRow.holds Tryz.pinned (OpenSpec.upto unitFindsSpec)

/-- 'comptrollerlaw08.UnitBack', WHERE WHAT IT READS IS OF BULK AT MOST 1048576: true; the input reads as it did. -/
def unitBackUptoRow : OpenClaim := { program := "yticdmlijacnjbaagreatdoor", sum := "f0b12bf5d6f6471bfd7116c52285bb15c3e58f79d6243fbfcd4d92e1efb83d2c", func := "comptroller/comptrollerlaw08.UnitBack", spec := "unitBack", inPlace := ["internal/bytealg.IndexByteString", "internal/bytealg.IndexString", "slices.overlaps[comptroller/chart.Account]", "internal/bytealg.abigen_runtime_cmpstring", "slices.overlaps[comptroller/flow.Flow]", "slices.overlaps[comptroller/unit.Entity]", "slices.overlaps[comptroller/unit.Line]", "internal/abi.NoEscape", "internal/bytealg.MakeNoZero"], unfollowed := true, recurses := true, named := ["internal/bytealg.MaxLen", "comptroller/chart.classWords", "comptroller/flow.kindWords"], plainKeys := false, apart := false, laid := [("comptroller/chart.classWords", laid_comptroller_chart_classWords), ("comptroller/flow.kindWords", laid_comptroller_flow_kindWords)], narrowed := true }
def UnitBackUptoSaid : Prop := unitBackUptoRow.holds Tryz.pinned (OpenSpec.upto unitBackSpec)

/-- 'comptrollerlaw08.UnitOrder', WHERE WHAT IT READS IS OF BULK AT MOST 1048576: true; the input reads as it did. -/
def unitOrderUptoRow : OpenClaim := { program := "yticdmlijacnjbaagreatdoor", sum := "f0b12bf5d6f6471bfd7116c52285bb15c3e58f79d6243fbfcd4d92e1efb83d2c", func := "comptroller/comptrollerlaw08.UnitOrder", spec := "unitOrder", inPlace := ["internal/bytealg.IndexByteString", "internal/bytealg.IndexString", "slices.overlaps[comptroller/chart.Account]", "internal/bytealg.abigen_runtime_cmpstring", "slices.overlaps[comptroller/flow.Flow]", "slices.overlaps[comptroller/unit.Entity]", "slices.overlaps[comptroller/unit.Line]", "internal/abi.NoEscape", "internal/bytealg.MakeNoZero"], unfollowed := true, recurses := true, named := ["internal/bytealg.MaxLen", "comptroller/chart.classWords", "comptroller/flow.kindWords"], plainKeys := false, apart := false, laid := [("comptroller/chart.classWords", laid_comptroller_chart_classWords), ("comptroller/flow.kindWords", laid_comptroller_flow_kindWords)], narrowed := true }
def UnitOrderUptoSaid : Prop := unitOrderUptoRow.holds Tryz.pinned (OpenSpec.upto unitOrderSpec)

/-- 'comptrollerlaw08.UnitTwice', WHERE WHAT IT READS IS OF BULK AT MOST 1048576: true; the input reads as it did. -/
def unitTwiceUptoRow : OpenClaim := { program := "yticdmlijacnjbaagreatdoor", sum := "f0b12bf5d6f6471bfd7116c52285bb15c3e58f79d6243fbfcd4d92e1efb83d2c", func := "comptroller/comptrollerlaw08.UnitTwice", spec := "unitTwice", inPlace := ["internal/bytealg.IndexByteString", "internal/bytealg.IndexString", "slices.overlaps[comptroller/chart.Account]", "internal/bytealg.abigen_runtime_cmpstring", "slices.overlaps[comptroller/flow.Flow]", "slices.overlaps[comptroller/unit.Entity]", "slices.overlaps[comptroller/unit.Line]", "internal/abi.NoEscape", "internal/bytealg.MakeNoZero"], unfollowed := true, recurses := true, named := ["internal/bytealg.MaxLen", "comptroller/chart.classWords", "comptroller/flow.kindWords"], plainKeys := false, apart := false, laid := [("comptroller/chart.classWords", laid_comptroller_chart_classWords), ("comptroller/flow.kindWords", laid_comptroller_flow_kindWords)], narrowed := true }
def UnitTwiceUptoSaid : Prop := unitTwiceUptoRow.holds Tryz.pinned (OpenSpec.upto unitTwiceSpec)

/-- 'comptrollerlaw08.UnitAll', WHERE WHAT IT READS IS OF BULK AT MOST 1048576: true; the input reads as it did. -/
def unitAllUptoRow : OpenClaim := { program := "yticdmlijacnjbaagreatdoor", sum := "f0b12bf5d6f6471bfd7116c52285bb15c3e58f79d6243fbfcd4d92e1efb83d2c", func := "comptroller/comptrollerlaw08.UnitAll", spec := "unitAll", inPlace := ["internal/bytealg.IndexByteString", "internal/bytealg.IndexString", "slices.overlaps[comptroller/chart.Account]", "internal/bytealg.abigen_runtime_cmpstring", "slices.overlaps[comptroller/flow.Flow]", "slices.overlaps[comptroller/unit.Entity]", "slices.overlaps[comptroller/unit.Line]", "internal/abi.NoEscape", "internal/bytealg.MakeNoZero"], unfollowed := true, recurses := true, named := ["internal/bytealg.MaxLen", "comptroller/chart.classWords", "comptroller/flow.kindWords"], plainKeys := false, apart := false, laid := [("comptroller/chart.classWords", laid_comptroller_chart_classWords), ("comptroller/flow.kindWords", laid_comptroller_flow_kindWords)], narrowed := true }
def UnitAllUptoSaid : Prop := unitAllUptoRow.holds Tryz.pinned (OpenSpec.upto unitAllSpec)

/-- 'comptrollerlaw08.UnitNeeds', WHERE WHAT IT READS IS OF BULK AT MOST 1048576: true; the input reads as it did. -/
def unitNeedsUptoRow : OpenClaim := { program := "yticdmlijacnjbaagreatdoor", sum := "f0b12bf5d6f6471bfd7116c52285bb15c3e58f79d6243fbfcd4d92e1efb83d2c", func := "comptroller/comptrollerlaw08.UnitNeeds", spec := "unitNeeds", inPlace := ["internal/bytealg.IndexByteString", "internal/bytealg.IndexString", "slices.overlaps[comptroller/chart.Account]", "internal/bytealg.abigen_runtime_cmpstring", "slices.overlaps[comptroller/flow.Flow]", "slices.overlaps[comptroller/unit.Entity]", "slices.overlaps[comptroller/unit.Line]", "internal/abi.NoEscape", "internal/bytealg.MakeNoZero"], unfollowed := true, recurses := true, named := ["internal/bytealg.MaxLen", "comptroller/chart.classWords", "comptroller/flow.kindWords"], plainKeys := false, apart := false, laid := [("comptroller/chart.classWords", laid_comptroller_chart_classWords), ("comptroller/flow.kindWords", laid_comptroller_flow_kindWords)], narrowed := true }
def UnitNeedsUptoSaid : Prop := unitNeedsUptoRow.holds Tryz.pinned (OpenSpec.upto unitNeedsSpec)

end Rows
end Go.Proofs.YticdmlijacnjbaaGreatDoor
