/- CoPlain -/
import Derived.Test.YtdhfpgjnjlcciaaGreatDoorQ32
namespace Go.Proofs.YtdhfpgjnjlcciaaGreatDoor.Co
open Go.RowKit Go.Proofs.YtdhfpgjnjlcciaaGreatDoor.Un Go.Proofs.YtdhfpgjnjlcciaaGreatDoor.Fa Go.Proofs.YtdhfpgjnjlcciaaGreatDoor.Pk
theorem Yo (M:Mast) (c:List Fact) (e:ByteArray) (n:Int):((weighP M c e n).2=0∧(weighP M c e n).1=ssum (weighL M c e n))∨weighP M c e n=(0,2):=by
 rcases JM (weighL M c e n) 0 with ⟨h1,h2⟩ | h
 ·exact .inl ⟨h1,by unfold weighP;rw [h2];omega⟩
 ·exact .inr h
end Go.Proofs.YtdhfpgjnjlcciaaGreatDoor.Co
