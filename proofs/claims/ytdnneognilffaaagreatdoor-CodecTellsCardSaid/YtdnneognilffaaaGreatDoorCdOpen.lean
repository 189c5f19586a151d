
/- From the listed variables to what the walks ask of memory: the library's table of powers of ten, and its error for what is out of range; and a world in which the list is met, a great table of the library among it. -/
import Derived.Test.YtdnneognilffaaaGreatDoorRows
import Derived.Test.YtdnneognilffaaaGreatDoorCentText
import Derived.Test.YtdnneognilffaaaGreatDoorRow
import Derived.Test.YtdnneognilffaaaGreatDoorOpen
import Derived.Test.YtdnneognilffaaaGreatDoorFaOpen
import Derived.ProofKit
import Derived.LaidMore
import Derived.OpenShut
import Derived.Stop.Joined
import Derived.Stop.LaidErr
import Derived.Lib.LaidTab
import Derived.Lay
import Derived.LaidOnce
import Derived.SevenTiedAt
namespace Go.Proofs.YtdnneognilffaaaGreatDoor
open Go.ChangeShapes Go.WideShapes Go.ChangeAt Go.RowKit

theorem own : ownKnob Tryz.prog.godebug = none := by kernel_rfl
/-- What the rows list. -/
abbrev listed : List (String × DataW Unit) := Rows.codecTellsRow.laid
theorem door_met (os : Os) (args : Array Value) : laidMetH Tryz.prog listed ((World.laidAll Tryz.prog os listed).forCall (fun _ _ => 0) ⟨#[], args, []⟩).memory := by
  rw [MakeChecks.laidMetH_plain _ _ _ (by kernel_rfl)]
  exact laidMet_laidAll _ (by kernel_rfl) (by kernel_rfl)
theorem door_shaped (os : Os) : (World.laidAll Tryz.prog os listed).Shaped Tryz.prog := World.shaped_of_ZipB (by kernel_rfl) (by kernel_rfl)

theorem pow_data : Rows.laid_internal_strconv_uint64pow10 (H := Unit) = Lib.tabData .u64 Lib.pow10Tab := by kernel_rfl
theorem tPow : (Tryz.prog.globals[0]?).map (·.type) = some 105 := by kernel_rfl
theorem tRng : (Tryz.prog.globals[7]?).map (·.type) = some 69 := by kernel_rfl
theorem cPow : Tryz.prog.cellsOf 105 = 20 := by kernel_rfl
theorem cU64 : Tryz.prog.cellsOf 91 = 1 := by kernel_rfl
theorem cErrS : Tryz.prog.cellsOf 142 = 1 := by kernel_rfl
theorem cStr : Tryz.prog.cellsOf 9 = 1 := by kernel_rfl
theorem star : "*" ++ "errors.errorString" = "*errors.errorString" := by decide
theorem rowErr (u : TypeId) (h : Tryz.prog.typeName? 3 u = some "*errors.errorString") : u = 140 :=
  typeName_ptr_named (nm := "errors.errorString") (by rw [star]; kernel_rfl) (by kernel_rfl) (by decide) u (by rw [star]; exact h)

theorem of_laid {W : World} (h : laidMetH Tryz.prog listed W) : Laid W := by
  rw [MakeChecks.laidMetH_plain _ _ _ (by kernel_rfl)] at h
  have h3 : laidMet Tryz.prog (("internal/strconv.uint64pow10", Lib.tabData .u64 Lib.pow10Tab) :: [("unicode/utf8.acceptRanges", Rows.laid_unicode_utf8_acceptRanges), ("strconv.ErrRange", Rows.laid_strconv_ErrRange), ("strconv.ErrSyntax", Rows.laid_strconv_ErrSyntax), ("unicode/utf8.first", Rows.laid_unicode_utf8_first)]) W := by
    rw [← pow_data]; exact h.tail.tail
  refine ⟨Lib.tabIs_of_head gPow tPow Tryz.underlying105 Tryz.underlying91 cU64 cPow h3, ?_⟩
  obtain ⟨a0, s0, hv0, -, -, -⟩ := laid_sentinel h3.tail.tail gRng tRng Tryz.underlying69 rowErr Tryz.underlying140 Tryz.underlying142 rfl rfl Tryz.underlying9 cErrS cStr
  exact ⟨_, _, hv0⟩
end Go.Proofs.YtdnneognilffaaaGreatDoor
