/- CyPlain -/
import Derived.Test.YtfhhihamndbcnaaGreatDoorR44
import Derived.Test.YtfhhihamndbcnaaGreatDoorR45
namespace Go.Proofs.YtfhhihamndbcnaaGreatDoor.Cy
open Go.RowKit Go.Proofs.YtfhhihamndbcnaaGreatDoor.Un Go.Proofs.YtfhhihamndbcnaaGreatDoor.Fa Go.Proofs.YtfhhihamndbcnaaGreatDoor.Pk Go.Proofs.YtfhhihamndbcnaaGreatDoor.Co
def telG (M:Mast) (n:Int) (fl:ByteArray) (k x:Key):Int:=if ofK M n x=true∧asK fl x=k then 1 else 0
theorem isum_told (M:Mast) (n:Int) (fl:ByteArray) (k:Key):∀ c:List Fact,isum (toldF M c n fl) k=lin (telG M n fl k) c
 | []=>rfl
 | f::c=>by
   have ih:=isum_told M n fl k c
   rw [lin_cons,←ih]
   unfold toldF telG
   rw [List.filter_cons]
   cases h:ofK M n f.key with
   | true =>
     rw [if_pos rfl,List.map_cons,isum_cons]
     by_cases e:asK fl f.key=k
     ·rw [if_pos e,if_pos ⟨rfl,e⟩,Int.one_mul]
     ·rw [if_neg e,if_neg fun h=>e h.2,Int.zero_mul]
   | false =>
     rw [if_neg (by simp),if_neg (by simp),Int.zero_mul,Int.zero_add]
end Go.Proofs.YtfhhihamndbcnaaGreatDoor.Cy
