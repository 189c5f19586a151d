/- FaFacts -/
import Derived.Test.YtdegffffcbhjbaaGreatDoorQ21
namespace Go.Proofs.YtdegffffcbhjbaaGreatDoor.Fa
theorem isum_cons (f:Fact) (l:List Fact) (k:Key):isum (f::l) k=(if f.key=k then f.amt else 0)+isum l k:=by
 unfold isum amts
 rw [List.filter_cons]
 by_cases h:f.key=k <;> simp [h]
end Go.Proofs.YtdegffffcbhjbaaGreatDoor.Fa
