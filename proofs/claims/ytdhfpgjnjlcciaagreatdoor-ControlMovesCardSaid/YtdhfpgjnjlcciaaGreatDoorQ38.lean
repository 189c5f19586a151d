/- FaFacts -/
import Derived.Test.YtdhfpgjnjlcciaaGreatDoorQ34
import Derived.Test.YtdhfpgjnjlcciaaGreatDoorQ35
namespace Go.Proofs.YtdhfpgjnjlcciaaGreatDoor.Fa
theorem XH (a b:List Fact) (k:Key):amts (a++b) k=amts a k++amts b k:=by simp [amts]
theorem Qn (a b:List Fact) (k:Key):isum (a++b) k=isum a k+isum b k:=by unfold isum;rw [XH,List.sum_append]
end Go.Proofs.YtdhfpgjnjlcciaaGreatDoor.Fa
