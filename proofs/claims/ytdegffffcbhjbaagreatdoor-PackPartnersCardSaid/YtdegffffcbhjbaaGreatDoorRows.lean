/-
  NARROWER THAN 'FOR EVERY INPUT', by the rows' own cells (each row's printed sentence says how): PackTells: laid · PackChecks: laid · PackRight: laid · PackOrder: laid · PackParts: laid · PackPartners: laid · PackMarks: laid.
  DERIVED. THE GIVEN ROWS OF THIS SEAT. 7 by the template 'for every input the law returns true; each argument reads behind the call as it read before'; 0 by the template 'total and deterministic' (their statements: YtdegffffcbhjbaaGreatDoorTotals.lean).
  GIVEN WITH THE SEED: the statements are not yours to turn. If you find one false, say at which input.
  Laid BY PROGRAM, IN A SANDBOX (cutbox-rows.mjs): the forced cells as the released guide's own fill.sh prints them over the translation e726f8c73f7df4f6… (all of the seat's roots in one cut). By AI agents, Wed Nov 11 2026. No macro, syntax, notation, axiom, sorry.
-/
import Derived.Test.YtdegffffcbhjbaaGreatDoorChecked
import GoSem.Claim
import GoSem.ClaimJoined
import GoSem.ClaimMapViews
import Derived.JoinedTies
import Derived.KernelRfl
namespace Go.Proofs.YtdegffffcbhjbaaGreatDoor
/- THE CELL 'sum', in the pinned program and in every row, IS THE sha256 OF THE DUMP (.gsa) THAT YtdegffffcbhjbaaGreatDoorProg.lean LOADS. Nothing in Lean hashes anything: it is a label: what it is worth is what the hold of that sum in a sandbox is worth. -/
noncomputable def Tryz.pinned : Pinned := { name := "ytdegffffcbhjbaagreatdoor", sum := "e726f8c73f7df4f61924b95ccf6ea7239d8088abdf8375d221dd8a61e418187d", checked := Tryz.checked }
namespace Rows
def none {H : Type} : Left H := { results := [], args := [] }

/- WHAT THE LISTED PACKAGE-LEVEL VARIABLES READ AS WHEN THE CALL BEGINS. Each datum BY PROGRAM (the guide's laid-datum.mjs) off the statement by which the dump's own 'gosem.cut.vars' lays the variable. In a bare row this is a premise. The card (YtdegffffcbhjbaaGreatDoorCards.lean) ties it to the program's text. -/
def laid_math_bits_deBruijn32tab {H : Type} : DataW H := .agg [.lit (.int .u8 0), .lit (.int .u8 1), .lit (.int .u8 28), .lit (.int .u8 2), .lit (.int .u8 29), .lit (.int .u8 14), .lit (.int .u8 24), .lit (.int .u8 3), .lit (.int .u8 30), .lit (.int .u8 22), .lit (.int .u8 20), .lit (.int .u8 15), .lit (.int .u8 25), .lit (.int .u8 17), .lit (.int .u8 4), .lit (.int .u8 8), .lit (.int .u8 31), .lit (.int .u8 27), .lit (.int .u8 13), .lit (.int .u8 23), .lit (.int .u8 21), .lit (.int .u8 19), .lit (.int .u8 16), .lit (.int .u8 7), .lit (.int .u8 26), .lit (.int .u8 12), .lit (.int .u8 18), .lit (.int .u8 6), .lit (.int .u8 11), .lit (.int .u8 5), .lit (.int .u8 10), .lit (.int .u8 9)]
def laid_math_bits_deBruijn64tab {H : Type} : DataW H := .agg [.lit (.int .u8 0), .lit (.int .u8 1), .lit (.int .u8 56), .lit (.int .u8 2), .lit (.int .u8 57), .lit (.int .u8 49), .lit (.int .u8 28), .lit (.int .u8 3), .lit (.int .u8 61), .lit (.int .u8 58), .lit (.int .u8 42), .lit (.int .u8 50), .lit (.int .u8 38), .lit (.int .u8 29), .lit (.int .u8 17), .lit (.int .u8 4), .lit (.int .u8 62), .lit (.int .u8 47), .lit (.int .u8 59), .lit (.int .u8 36), .lit (.int .u8 45), .lit (.int .u8 43), .lit (.int .u8 51), .lit (.int .u8 22), .lit (.int .u8 53), .lit (.int .u8 39), .lit (.int .u8 33), .lit (.int .u8 30), .lit (.int .u8 24), .lit (.int .u8 18), .lit (.int .u8 12), .lit (.int .u8 5), .lit (.int .u8 63), .lit (.int .u8 55), .lit (.int .u8 48), .lit (.int .u8 27), .lit (.int .u8 60), .lit (.int .u8 41), .lit (.int .u8 37), .lit (.int .u8 16), .lit (.int .u8 46), .lit (.int .u8 35), .lit (.int .u8 44), .lit (.int .u8 21), .lit (.int .u8 52), .lit (.int .u8 32), .lit (.int .u8 23), .lit (.int .u8 11), .lit (.int .u8 54), .lit (.int .u8 26), .lit (.int .u8 40), .lit (.int .u8 15), .lit (.int .u8 34), .lit (.int .u8 20), .lit (.int .u8 31), .lit (.int .u8 10), .lit (.int .u8 25), .lit (.int .u8 14), .lit (.int .u8 19), .lit (.int .u8 9), .lit (.int .u8 13), .lit (.int .u8 8), .lit (.int .u8 7), .lit (.int .u8 6)]
def laid_internal_strconv_uint64pow10 {H : Type} : DataW H := .agg [.lit (.int .u64 1), .lit (.int .u64 10), .lit (.int .u64 100), .lit (.int .u64 1000), .lit (.int .u64 10000), .lit (.int .u64 100000), .lit (.int .u64 1000000), .lit (.int .u64 10000000), .lit (.int .u64 100000000), .lit (.int .u64 1000000000), .lit (.int .u64 10000000000), .lit (.int .u64 100000000000), .lit (.int .u64 1000000000000), .lit (.int .u64 10000000000000), .lit (.int .u64 100000000000000), .lit (.int .u64 1000000000000000), .lit (.int .u64 10000000000000000), .lit (.int .u64 100000000000000000), .lit (.int .u64 1000000000000000000), .lit (.int .u64 10000000000000000000)]
def laid_strconv_ErrRange {H : Type} : DataW H := .iface "*errors.errorString" (.ptr (.agg [.lit (.string [118, 97, 108, 117, 101, 32, 111, 117, 116, 32, 111, 102, 32, 114, 97, 110, 103, 101])]))
def laid_strconv_ErrSyntax {H : Type} : DataW H := .iface "*errors.errorString" (.ptr (.agg [.lit (.string [105, 110, 118, 97, 108, 105, 100, 32, 115, 121, 110, 116, 97, 120])]))
def laid_comptroller_chart_classWords {H : Type} : DataW H := .agg [.lit (.string [97, 115, 115, 101, 116]), .lit (.string [108, 105, 97, 98, 105, 108, 105, 116, 121]), .lit (.string [101, 113, 117, 105, 116, 121])]
def laid_comptroller_flow_kindWords {H : Type} : DataW H := .agg [.lit (.string [111, 112, 101, 110]), .lit (.string [109, 111, 118, 101]), .lit (.string [102, 120]), .lit (.string [115, 99, 111, 112, 101]), .lit (.string [99, 108, 111, 115, 101])]

/-- 'comptrollerlaw11.PackTells': WHATEVER THE INPUT: true; the input reads as it did. -/
def packTellsSpec : ChangeSpec := { name := "packTells", fn := fun _ => fun
  | [d1, d2] => { results := [.lit (.bool true)], args := [d1, d2] }
  | _ => none }
def packTellsRow : OpenClaim := { program := "ytdegffffcbhjbaagreatdoor", sum := "e726f8c73f7df4f61924b95ccf6ea7239d8088abdf8375d221dd8a61e418187d", func := "comptroller/comptrollerlaw11.PackTells", spec := "packTells", inPlace := ["internal/bytealg.IndexByteString", "internal/bytealg.IndexString", "slices.overlaps[comptroller/chart.Account]", "internal/bytealg.abigen_runtime_cmpstring", "slices.overlaps[comptroller/flow.Flow]", "slices.overlaps[comptroller/unit.Entity]", "slices.overlaps[comptroller/unit.Line]"], unfollowed := true, recurses := true, named := ["internal/bytealg.MaxLen", "comptroller/chart.classWords", "comptroller/flow.kindWords", "strconv.ErrSyntax", "strconv.ErrRange", "internal/strconv.uint64pow10", "math/bits.deBruijn32tab", "math/bits.deBruijn64tab"], plainKeys := false, apart := false, laid := [("math/bits.deBruijn32tab", laid_math_bits_deBruijn32tab), ("math/bits.deBruijn64tab", laid_math_bits_deBruijn64tab), ("internal/strconv.uint64pow10", laid_internal_strconv_uint64pow10), ("strconv.ErrRange", laid_strconv_ErrRange), ("strconv.ErrSyntax", laid_strconv_ErrSyntax), ("comptroller/chart.classWords", laid_comptroller_chart_classWords), ("comptroller/flow.kindWords", laid_comptroller_flow_kindWords)] }
def PackTellsSaid : Prop := packTellsRow.holds Tryz.pinned (OpenSpec.ofChange packTellsSpec)

/-- ITS FALSE NEIGHBOUR: 'it returns false'. Refute it at one input. -/
def packTellsWrong : ChangeSpec := { name := "packTells", fn := fun _ => fun
  | [d1, d2] => { results := [.lit (.bool false)], args := [d1, d2] }
  | _ => none }
def PackTellsWrongFalsely : Prop := packTellsRow.holds Tryz.pinned (OpenSpec.ofChange packTellsWrong)

/-- 'comptrollerlaw11.PackChecks': WHATEVER THE INPUT: true; the input reads as it did. -/
def packChecksSpec : ChangeSpec := { name := "packChecks", fn := fun _ => fun
  | [d1, d2] => { results := [.lit (.bool true)], args := [d1, d2] }
  | _ => none }
def packChecksRow : OpenClaim := { program := "ytdegffffcbhjbaagreatdoor", sum := "e726f8c73f7df4f61924b95ccf6ea7239d8088abdf8375d221dd8a61e418187d", func := "comptroller/comptrollerlaw11.PackChecks", spec := "packChecks", inPlace := ["internal/bytealg.IndexByteString", "internal/bytealg.IndexString", "slices.overlaps[comptroller/chart.Account]", "internal/bytealg.abigen_runtime_cmpstring", "slices.overlaps[comptroller/flow.Flow]", "slices.overlaps[comptroller/unit.Entity]", "slices.overlaps[comptroller/unit.Line]"], unfollowed := true, recurses := true, named := ["internal/bytealg.MaxLen", "comptroller/chart.classWords", "comptroller/flow.kindWords", "strconv.ErrSyntax", "strconv.ErrRange", "internal/strconv.uint64pow10", "math/bits.deBruijn32tab", "math/bits.deBruijn64tab"], plainKeys := false, apart := false, laid := [("math/bits.deBruijn32tab", laid_math_bits_deBruijn32tab), ("math/bits.deBruijn64tab", laid_math_bits_deBruijn64tab), ("internal/strconv.uint64pow10", laid_internal_strconv_uint64pow10), ("strconv.ErrRange", laid_strconv_ErrRange), ("strconv.ErrSyntax", laid_strconv_ErrSyntax), ("comptroller/chart.classWords", laid_comptroller_chart_classWords), ("comptroller/flow.kindWords", laid_comptroller_flow_kindWords)] }
def PackChecksSaid : Prop := packChecksRow.holds Tryz.pinned (OpenSpec.ofChange packChecksSpec)

/-- ITS FALSE NEIGHBOUR: 'it returns false'. Refute it at one input. -/
def packChecksWrong : ChangeSpec := { name := "packChecks", fn := fun _ => fun
  | [d1, d2] => { results := [.lit (.bool false)], args := [d1, d2] }
  | _ => none }
def PackChecksWrongFalsely : Prop := packChecksRow.holds Tryz.pinned (OpenSpec.ofChange packChecksWrong)

/-- 'comptrollerlaw11.PackRight': WHATEVER THE INPUT: true; the input reads as it did. -/
def packRightSpec : ChangeSpec := { name := "packRight", fn := fun _ => fun
  | [d1, d2] => { results := [.lit (.bool true)], args := [d1, d2] }
  | _ => none }
def packRightRow : OpenClaim := { program := "ytdegffffcbhjbaagreatdoor", sum := "e726f8c73f7df4f61924b95ccf6ea7239d8088abdf8375d221dd8a61e418187d", func := "comptroller/comptrollerlaw11.PackRight", spec := "packRight", inPlace := ["internal/bytealg.IndexByteString", "internal/bytealg.IndexString", "slices.overlaps[comptroller/chart.Account]", "internal/bytealg.abigen_runtime_cmpstring", "slices.overlaps[comptroller/flow.Flow]", "slices.overlaps[comptroller/unit.Entity]", "slices.overlaps[comptroller/unit.Line]"], unfollowed := true, recurses := true, named := ["internal/bytealg.MaxLen", "comptroller/chart.classWords", "comptroller/flow.kindWords", "strconv.ErrSyntax", "strconv.ErrRange", "internal/strconv.uint64pow10", "math/bits.deBruijn32tab", "math/bits.deBruijn64tab"], plainKeys := false, apart := false, laid := [("math/bits.deBruijn32tab", laid_math_bits_deBruijn32tab), ("math/bits.deBruijn64tab", laid_math_bits_deBruijn64tab), ("internal/strconv.uint64pow10", laid_internal_strconv_uint64pow10), ("strconv.ErrRange", laid_strconv_ErrRange), ("strconv.ErrSyntax", laid_strconv_ErrSyntax), ("comptroller/chart.classWords", laid_comptroller_chart_classWords), ("comptroller/flow.kindWords", laid_comptroller_flow_kindWords)] }
def PackRightSaid : Prop := packRightRow.holds Tryz.pinned (OpenSpec.ofChange packRightSpec)

/-- ITS FALSE NEIGHBOUR: 'it returns false'. Refute it at one input. -/
def packRightWrong : ChangeSpec := { name := "packRight", fn := fun _ => fun
  | [d1, d2] => { results := [.lit (.bool false)], args := [d1, d2] }
  | _ => none }
def PackRightWrongFalsely : Prop := packRightRow.holds Tryz.pinned (OpenSpec.ofChange packRightWrong)

/-- 'comptrollerlaw11.PackOrder': WHATEVER THE INPUT: true; the input reads as it did. -/
def packOrderSpec : ChangeSpec := { name := "packOrder", fn := fun _ => fun
  | [d1, d2, d3] => { results := [.lit (.bool true)], args := [d1, d2, d3] }
  | _ => none }
def packOrderRow : OpenClaim := { program := "ytdegffffcbhjbaagreatdoor", sum := "e726f8c73f7df4f61924b95ccf6ea7239d8088abdf8375d221dd8a61e418187d", func := "comptroller/comptrollerlaw11.PackOrder", spec := "packOrder", inPlace := ["internal/bytealg.IndexByteString", "internal/bytealg.IndexString", "slices.overlaps[comptroller/chart.Account]", "internal/bytealg.abigen_runtime_cmpstring", "slices.overlaps[comptroller/flow.Flow]", "slices.overlaps[comptroller/unit.Entity]", "slices.overlaps[comptroller/unit.Line]"], unfollowed := true, recurses := true, named := ["internal/bytealg.MaxLen", "comptroller/chart.classWords", "comptroller/flow.kindWords", "strconv.ErrSyntax", "strconv.ErrRange", "internal/strconv.uint64pow10", "math/bits.deBruijn32tab", "math/bits.deBruijn64tab"], plainKeys := false, apart := false, laid := [("math/bits.deBruijn32tab", laid_math_bits_deBruijn32tab), ("math/bits.deBruijn64tab", laid_math_bits_deBruijn64tab), ("internal/strconv.uint64pow10", laid_internal_strconv_uint64pow10), ("strconv.ErrRange", laid_strconv_ErrRange), ("strconv.ErrSyntax", laid_strconv_ErrSyntax), ("comptroller/chart.classWords", laid_comptroller_chart_classWords), ("comptroller/flow.kindWords", laid_comptroller_flow_kindWords)] }
def PackOrderSaid : Prop := packOrderRow.holds Tryz.pinned (OpenSpec.ofChange packOrderSpec)

/-- ITS FALSE NEIGHBOUR: 'it returns false'. Refute it at one input. -/
def packOrderWrong : ChangeSpec := { name := "packOrder", fn := fun _ => fun
  | [d1, d2, d3] => { results := [.lit (.bool false)], args := [d1, d2, d3] }
  | _ => none }
def PackOrderWrongFalsely : Prop := packOrderRow.holds Tryz.pinned (OpenSpec.ofChange packOrderWrong)

/-- 'comptrollerlaw11.PackParts': WHATEVER THE INPUT: true; the input reads as it did. -/
def packPartsSpec : ChangeSpec := { name := "packParts", fn := fun _ => fun
  | [d1, d2, d3] => { results := [.lit (.bool true)], args := [d1, d2, d3] }
  | _ => none }
def packPartsRow : OpenClaim := { program := "ytdegffffcbhjbaagreatdoor", sum := "e726f8c73f7df4f61924b95ccf6ea7239d8088abdf8375d221dd8a61e418187d", func := "comptroller/comptrollerlaw11.PackParts", spec := "packParts", inPlace := ["internal/bytealg.IndexByteString", "internal/bytealg.IndexString", "slices.overlaps[comptroller/chart.Account]", "internal/bytealg.abigen_runtime_cmpstring", "slices.overlaps[comptroller/flow.Flow]", "slices.overlaps[comptroller/unit.Entity]", "slices.overlaps[comptroller/unit.Line]"], unfollowed := true, recurses := true, named := ["internal/bytealg.MaxLen", "comptroller/chart.classWords", "comptroller/flow.kindWords", "strconv.ErrSyntax", "strconv.ErrRange", "internal/strconv.uint64pow10", "math/bits.deBruijn32tab", "math/bits.deBruijn64tab"], plainKeys := false, apart := false, laid := [("math/bits.deBruijn32tab", laid_math_bits_deBruijn32tab), ("math/bits.deBruijn64tab", laid_math_bits_deBruijn64tab), ("internal/strconv.uint64pow10", laid_internal_strconv_uint64pow10), ("strconv.ErrRange", laid_strconv_ErrRange), ("strconv.ErrSyntax", laid_strconv_ErrSyntax), ("comptroller/chart.classWords", laid_comptroller_chart_classWords), ("comptroller/flow.kindWords", laid_comptroller_flow_kindWords)] }
def PackPartsSaid : Prop := packPartsRow.holds Tryz.pinned (OpenSpec.ofChange packPartsSpec)

/-- ITS FALSE NEIGHBOUR: 'it returns false'. Refute it at one input. -/
def packPartsWrong : ChangeSpec := { name := "packParts", fn := fun _ => fun
  | [d1, d2, d3] => { results := [.lit (.bool false)], args := [d1, d2, d3] }
  | _ => none }
def PackPartsWrongFalsely : Prop := packPartsRow.holds Tryz.pinned (OpenSpec.ofChange packPartsWrong)

/-- 'comptrollerlaw11.PackPartners': WHATEVER THE INPUT: true; the input reads as it did. -/
def packPartnersSpec : ChangeSpec := { name := "packPartners", fn := fun _ => fun
  | [d1, d2] => { results := [.lit (.bool true)], args := [d1, d2] }
  | _ => none }
def packPartnersRow : OpenClaim := { program := "ytdegffffcbhjbaagreatdoor", sum := "e726f8c73f7df4f61924b95ccf6ea7239d8088abdf8375d221dd8a61e418187d", func := "comptroller/comptrollerlaw11.PackPartners", spec := "packPartners", inPlace := ["internal/bytealg.IndexByteString", "internal/bytealg.IndexString", "slices.overlaps[comptroller/chart.Account]", "internal/bytealg.abigen_runtime_cmpstring", "slices.overlaps[comptroller/flow.Flow]", "slices.overlaps[comptroller/unit.Entity]", "slices.overlaps[comptroller/unit.Line]"], unfollowed := true, recurses := true, named := ["internal/bytealg.MaxLen", "comptroller/chart.classWords", "comptroller/flow.kindWords", "strconv.ErrSyntax", "strconv.ErrRange", "internal/strconv.uint64pow10", "math/bits.deBruijn32tab", "math/bits.deBruijn64tab"], plainKeys := false, apart := false, laid := [("math/bits.deBruijn32tab", laid_math_bits_deBruijn32tab), ("math/bits.deBruijn64tab", laid_math_bits_deBruijn64tab), ("internal/strconv.uint64pow10", laid_internal_strconv_uint64pow10), ("strconv.ErrRange", laid_strconv_ErrRange), ("strconv.ErrSyntax", laid_strconv_ErrSyntax), ("comptroller/chart.classWords", laid_comptroller_chart_classWords), ("comptroller/flow.kindWords", laid_comptroller_flow_kindWords)] }
def PackPartnersSaid : Prop := packPartnersRow.holds Tryz.pinned (OpenSpec.ofChange packPartnersSpec)

/-- ITS FALSE NEIGHBOUR: 'it returns false'. Refute it at one input. -/
def packPartnersWrong : ChangeSpec := { name := "packPartners", fn := fun _ => fun
  | [d1, d2] => { results := [.lit (.bool false)], args := [d1, d2] }
  | _ => none }
def PackPartnersWrongFalsely : Prop := packPartnersRow.holds Tryz.pinned (OpenSpec.ofChange packPartnersWrong)

/-- 'comptrollerlaw11.PackMarks': WHATEVER THE INPUT: true; the input reads as it did. -/
def packMarksSpec : ChangeSpec := { name := "packMarks", fn := fun _ => fun
  | [d1, d2, d3] => { results := [.lit (.bool true)], args := [d1, d2, d3] }
  | _ => none }
def packMarksRow : OpenClaim := { program := "ytdegffffcbhjbaagreatdoor", sum := "e726f8c73f7df4f61924b95ccf6ea7239d8088abdf8375d221dd8a61e418187d", func := "comptroller/comptrollerlaw11.PackMarks", spec := "packMarks", inPlace := ["internal/bytealg.IndexByteString", "internal/bytealg.IndexString", "slices.overlaps[comptroller/chart.Account]", "internal/bytealg.abigen_runtime_cmpstring", "slices.overlaps[comptroller/flow.Flow]", "slices.overlaps[comptroller/unit.Entity]", "slices.overlaps[comptroller/unit.Line]"], unfollowed := true, recurses := true, named := ["internal/bytealg.MaxLen", "comptroller/chart.classWords", "comptroller/flow.kindWords", "strconv.ErrSyntax", "strconv.ErrRange", "internal/strconv.uint64pow10", "math/bits.deBruijn32tab", "math/bits.deBruijn64tab"], plainKeys := false, apart := false, laid := [("math/bits.deBruijn32tab", laid_math_bits_deBruijn32tab), ("math/bits.deBruijn64tab", laid_math_bits_deBruijn64tab), ("internal/strconv.uint64pow10", laid_internal_strconv_uint64pow10), ("strconv.ErrRange", laid_strconv_ErrRange), ("strconv.ErrSyntax", laid_strconv_ErrSyntax), ("comptroller/chart.classWords", laid_comptroller_chart_classWords), ("comptroller/flow.kindWords", laid_comptroller_flow_kindWords)] }
def PackMarksSaid : Prop := packMarksRow.holds Tryz.pinned (OpenSpec.ofChange packMarksSpec)

/-- ITS FALSE NEIGHBOUR: 'it returns false'. Refute it at one input. -/
def packMarksWrong : ChangeSpec := { name := "packMarks", fn := fun _ => fun
  | [d1, d2, d3] => { results := [.lit (.bool false)], args := [d1, d2, d3] }
  | _ => none }
def PackMarksWrongFalsely : Prop := packMarksRow.holds Tryz.pinned (OpenSpec.ofChange packMarksWrong)

/- THE SECOND FORM. 'bulk': how many values and letters a reading holds, each counted each time it is reached (what is shared counts as often as it is met; a slice's spare places count too). A statement '..UptoSaid' is the law's where the arguments, and the package variables that the reading takes, are together of bulk at most 1048576: NARROWER than '..Said'. Prove '..Said' where nothing that the law and all that it calls make is longer than what came in: it says more and counts as full. Else prove '..UptoSaid'. A law counts once. -/
mutual
def uptoBulk {H : Type} : DataW H → Nat
  | .lit (.string bytes) => bytes.length + 1
  | .lit _ => 1
  | .nil => 1
  | .ptr d => uptoBulk d + 1
  | .slice elems spare => uptoBulkAll elems + uptoBulkAll spare + 1
  | .agg parts => uptoBulkAll parts + 1
  | .iface _ d => uptoBulk d + 1
  | .map entries => uptoBulkEntries entries + 1
  | .held _ => 1
def uptoBulkAll {H : Type} : List (DataW H) → Nat
  | [] => 0
  | d :: r => uptoBulk d + uptoBulkAll r
def uptoBulkEntries {H : Type} : List (Lit × DataW H) → Nat
  | [] => 0
  | x :: r => uptoBulkEntry x + uptoBulkEntries r
def uptoBulkEntry {H : Type} : Lit × DataW H → Nat
  | (.string bytes, d) => bytes.length + uptoBulk d + 1
  | (_, d) => uptoBulk d + 1
 end
def uptoSmall : (H : Type) → List (DataW H) → Bool := fun _ ds => decide (uptoBulkAll ds ≤ 1048576)
def OpenSpec.upto (s : _root_.Go.ChangeSpec) : _root_.Go.OpenSpec := { _root_.Go.OpenSpec.ofChange s with cond := some uptoSmall }

/-- 'comptrollerlaw11.PackTells', WHERE WHAT IT READS IS OF BULK AT MOST 1048576: true; the input reads as it did. -/
def packTellsUptoRow : OpenClaim := { program := "ytdegffffcbhjbaagreatdoor", sum := "e726f8c73f7df4f61924b95ccf6ea7239d8088abdf8375d221dd8a61e418187d", func := "comptroller/comptrollerlaw11.PackTells", spec := "packTells", inPlace := ["internal/bytealg.IndexByteString", "internal/bytealg.IndexString", "slices.overlaps[comptroller/chart.Account]", "internal/bytealg.abigen_runtime_cmpstring", "slices.overlaps[comptroller/flow.Flow]", "slices.overlaps[comptroller/unit.Entity]", "slices.overlaps[comptroller/unit.Line]"], unfollowed := true, recurses := true, named := ["internal/bytealg.MaxLen", "comptroller/chart.classWords", "comptroller/flow.kindWords", "strconv.ErrSyntax", "strconv.ErrRange", "internal/strconv.uint64pow10", "math/bits.deBruijn32tab", "math/bits.deBruijn64tab"], plainKeys := false, apart := false, laid := [("math/bits.deBruijn32tab", laid_math_bits_deBruijn32tab), ("math/bits.deBruijn64tab", laid_math_bits_deBruijn64tab), ("internal/strconv.uint64pow10", laid_internal_strconv_uint64pow10), ("strconv.ErrRange", laid_strconv_ErrRange), ("strconv.ErrSyntax", laid_strconv_ErrSyntax), ("comptroller/chart.classWords", laid_comptroller_chart_classWords), ("comptroller/flow.kindWords", laid_comptroller_flow_kindWords)], narrowed := true }
def PackTellsUptoSaid : Prop := packTellsUptoRow.holds Tryz.pinned (OpenSpec.upto packTellsSpec)

/-- 'comptrollerlaw11.PackChecks', WHERE WHAT IT READS IS OF BULK AT MOST 1048576: true; the input reads as it did. -/
def packChecksUptoRow : OpenClaim := { program := "ytdegffffcbhjbaagreatdoor", sum := "e726f8c73f7df4f61924b95ccf6ea7239d8088abdf8375d221dd8a61e418187d", func := "comptroller/comptrollerlaw11.PackChecks", spec := "packChecks", inPlace := ["internal/bytealg.IndexByteString", "internal/bytealg.IndexString", "slices.overlaps[comptroller/chart.Account]", "internal/bytealg.abigen_runtime_cmpstring", "slices.overlaps[comptroller/flow.Flow]", "slices.overlaps[comptroller/unit.Entity]", "slices.overlaps[comptroller/unit.Line]"], unfollowed := true, recurses := true, named := ["internal/bytealg.MaxLen", "comptroller/chart.classWords", "comptroller/flow.kindWords", "strconv.ErrSyntax", "strconv.ErrRange", "internal/strconv.uint64pow10", "math/bits.deBruijn32tab", "math/bits.deBruijn64tab"], plainKeys := false, apart := false, laid := [("math/bits.deBruijn32tab", laid_math_bits_deBruijn32tab), ("math/bits.deBruijn64tab", laid_math_bits_deBruijn64tab), ("internal/strconv.uint64pow10", laid_internal_strconv_uint64pow10), ("strconv.ErrRange", laid_strconv_ErrRange), ("strconv.ErrSyntax", laid_strconv_ErrSyntax), ("comptroller/chart.classWords", laid_comptroller_chart_classWords), ("comptroller/flow.kindWords", laid_comptroller_flow_kindWords)], narrowed := true }
def PackChecksUptoSaid : Prop := packChecksUptoRow.holds Tryz.pinned (OpenSpec.upto packChecksSpec)

/-- 'comptrollerlaw11.PackRight', WHERE WHAT IT READS IS OF BULK AT MOST 1048576: true; the input reads as it did. -/
def packRightUptoRow : OpenClaim := { program := "ytdegffffcbhjbaagreatdoor", sum := "e726f8c73f7df4f61924b95ccf6ea7239d8088abdf8375d221dd8a61e418187d", func := "comptroller/comptrollerlaw11.PackRight", spec := "packRight", inPlace := ["internal/bytealg.IndexByteString", "internal/bytealg.IndexString", "slices.overlaps[comptroller/chart.Account]", "internal/bytealg.abigen_runtime_cmpstring", "slices.overlaps[comptroller/flow.Flow]", "slices.overlaps[comptroller/unit.Entity]", "slices.overlaps[comptroller/unit.Line]"], unfollowed := true, recurses := true, named := ["internal/bytealg.MaxLen", "comptroller/chart.classWords", "comptroller/flow.kindWords", "strconv.ErrSyntax", "strconv.ErrRange", "internal/strconv.uint64pow10", "math/bits.deBruijn32tab", "math/bits.deBruijn64tab"], plainKeys := false, apart := false, laid := [("math/bits.deBruijn32tab", laid_math_bits_deBruijn32tab), ("math/bits.deBruijn64tab", laid_math_bits_deBruijn64tab), ("internal/strconv.uint64pow10", laid_internal_strconv_uint64pow10), ("strconv.ErrRange", laid_strconv_ErrRange), ("strconv.ErrSyntax", laid_strconv_ErrSyntax), ("comptroller/chart.classWords", laid_comptroller_chart_classWords), ("comptroller/flow.kindWords", laid_comptroller_flow_kindWords)], narrowed := true }
def PackRightUptoSaid : Prop := packRightUptoRow.holds Tryz.pinned (OpenSpec.upto packRightSpec)

/-- 'comptrollerlaw11.PackOrder', WHERE WHAT IT READS IS OF BULK AT MOST 1048576: true; the input reads as it did. -/
def packOrderUptoRow : OpenClaim := { program := "ytdegffffcbhjbaagreatdoor", sum := "e726f8c73f7df4f61924b95ccf6ea7239d8088abdf8375d221dd8a61e418187d", func := "comptroller/comptrollerlaw11.PackOrder", spec := "packOrder", inPlace := ["internal/bytealg.IndexByteString", "internal/bytealg.IndexString", "slices.overlaps[comptroller/chart.Account]", "internal/bytealg.abigen_runtime_cmpstring", "slices.overlaps[comptroller/flow.Flow]", "slices.overlaps[comptroller/unit.Entity]", "slices.overlaps[comptroller/unit.Line]"], unfollowed := true, recurses := true, named := ["internal/bytealg.MaxLen", "comptroller/chart.classWords", "comptroller/flow.kindWords", "strconv.ErrSyntax", "strconv.ErrRange", "internal/strconv.uint64pow10", "math/bits.deBruijn32tab", "math/bits.deBruijn64tab"], plainKeys := false, apart := false, laid := [("math/bits.deBruijn32tab", laid_math_bits_deBruijn32tab), ("math/bits.deBruijn64tab", laid_math_bits_deBruijn64tab), ("internal/strconv.uint64pow10", laid_internal_strconv_uint64pow10), ("strconv.ErrRange", laid_strconv_ErrRange), ("strconv.ErrSyntax", laid_strconv_ErrSyntax), ("comptroller/chart.classWords", laid_comptroller_chart_classWords), ("comptroller/flow.kindWords", laid_comptroller_flow_kindWords)], narrowed := true }
def PackOrderUptoSaid : Prop := packOrderUptoRow.holds Tryz.pinned (OpenSpec.upto packOrderSpec)

/-- 'comptrollerlaw11.PackParts', WHERE WHAT IT READS IS OF BULK AT MOST 1048576: true; the input reads as it did. -/
def packPartsUptoRow : OpenClaim := { program := "ytdegffffcbhjbaagreatdoor", sum := "e726f8c73f7df4f61924b95ccf6ea7239d8088abdf8375d221dd8a61e418187d", func := "comptroller/comptrollerlaw11.PackParts", spec := "packParts", inPlace := ["internal/bytealg.IndexByteString", "internal/bytealg.IndexString", "slices.overlaps[comptroller/chart.Account]", "internal/bytealg.abigen_runtime_cmpstring", "slices.overlaps[comptroller/flow.Flow]", "slices.overlaps[comptroller/unit.Entity]", "slices.overlaps[comptroller/unit.Line]"], unfollowed := true, recurses := true, named := ["internal/bytealg.MaxLen", "comptroller/chart.classWords", "comptroller/flow.kindWords", "strconv.ErrSyntax", "strconv.ErrRange", "internal/strconv.uint64pow10", "math/bits.deBruijn32tab", "math/bits.deBruijn64tab"], plainKeys := false, apart := false, laid := [("math/bits.deBruijn32tab", laid_math_bits_deBruijn32tab), ("math/bits.deBruijn64tab", laid_math_bits_deBruijn64tab), ("internal/strconv.uint64pow10", laid_internal_strconv_uint64pow10), ("strconv.ErrRange", laid_strconv_ErrRange), ("strconv.ErrSyntax", laid_strconv_ErrSyntax), ("comptroller/chart.classWords", laid_comptroller_chart_classWords), ("comptroller/flow.kindWords", laid_comptroller_flow_kindWords)], narrowed := true }
def PackPartsUptoSaid : Prop := packPartsUptoRow.holds Tryz.pinned (OpenSpec.upto packPartsSpec)

/-- 'comptrollerlaw11.PackPartners', WHERE WHAT IT READS IS OF BULK AT MOST 1048576: true; the input reads as it did. -/
def packPartnersUptoRow : OpenClaim := { program := "ytdegffffcbhjbaagreatdoor", sum := "e726f8c73f7df4f61924b95ccf6ea7239d8088abdf8375d221dd8a61e418187d", func := "comptroller/comptrollerlaw11.PackPartners", spec := "packPartners", inPlace := ["internal/bytealg.IndexByteString", "internal/bytealg.IndexString", "slices.overlaps[comptroller/chart.Account]", "internal/bytealg.abigen_runtime_cmpstring", "slices.overlaps[comptroller/flow.Flow]", "slices.overlaps[comptroller/unit.Entity]", "slices.overlaps[comptroller/unit.Line]"], unfollowed := true, recurses := true, named := ["internal/bytealg.MaxLen", "comptroller/chart.classWords", "comptroller/flow.kindWords", "strconv.ErrSyntax", "strconv.ErrRange", "internal/strconv.uint64pow10", "math/bits.deBruijn32tab", "math/bits.deBruijn64tab"], plainKeys := false, apart := false, laid := [("math/bits.deBruijn32tab", laid_math_bits_deBruijn32tab), ("math/bits.deBruijn64tab", laid_math_bits_deBruijn64tab), ("internal/strconv.uint64pow10", laid_internal_strconv_uint64pow10), ("strconv.ErrRange", laid_strconv_ErrRange), ("strconv.ErrSyntax", laid_strconv_ErrSyntax), ("comptroller/chart.classWords", laid_comptroller_chart_classWords), ("comptroller/flow.kindWords", laid_comptroller_flow_kindWords)], narrowed := true }
def PackPartnersUptoSaid : Prop := packPartnersUptoRow.holds Tryz.pinned (OpenSpec.upto packPartnersSpec)

/-- 'comptrollerlaw11.PackMarks', WHERE WHAT IT READS IS OF BULK AT MOST 1048576: true; the input reads as it did. -/
def packMarksUptoRow : OpenClaim := { program := "ytdegffffcbhjbaagreatdoor", sum := "e726f8c73f7df4f61924b95ccf6ea7239d8088abdf8375d221dd8a61e418187d", func := "comptroller/comptrollerlaw11.PackMarks", spec := "packMarks", inPlace := ["internal/bytealg.IndexByteString", "internal/bytealg.IndexString", "slices.overlaps[comptroller/chart.Account]", "internal/bytealg.abigen_runtime_cmpstring", "slices.overlaps[comptroller/flow.Flow]", "slices.overlaps[comptroller/unit.Entity]", "slices.overlaps[comptroller/unit.Line]"], unfollowed := true, recurses := true, named := ["internal/bytealg.MaxLen", "comptroller/chart.classWords", "comptroller/flow.kindWords", "strconv.ErrSyntax", "strconv.ErrRange", "internal/strconv.uint64pow10", "math/bits.deBruijn32tab", "math/bits.deBruijn64tab"], plainKeys := false, apart := false, laid := [("math/bits.deBruijn32tab", laid_math_bits_deBruijn32tab), ("math/bits.deBruijn64tab", laid_math_bits_deBruijn64tab), ("internal/strconv.uint64pow10", laid_internal_strconv_uint64pow10), ("strconv.ErrRange", laid_strconv_ErrRange), ("strconv.ErrSyntax", laid_strconv_ErrSyntax), ("comptroller/chart.classWords", laid_comptroller_chart_classWords), ("comptroller/flow.kindWords", laid_comptroller_flow_kindWords)], narrowed := true }
def PackMarksUptoSaid : Prop := packMarksUptoRow.holds Tryz.pinned (OpenSpec.upto packMarksSpec)

end Rows
end Go.Proofs.YtdegffffcbhjbaaGreatDoor
