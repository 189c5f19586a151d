/- CyGiven -/
import Derived.Test.YtfhhihamndbcnaaGreatDoorR50
namespace Go.Proofs.YtfhhihamndbcnaaGreatDoor.Cy
open Go.RowKit Go.Maps Go.Proofs.YtfhhihamndbcnaaGreatDoor.Un Go.Proofs.YtfhhihamndbcnaaGreatDoor.Fa Go.Proofs.YtfhhihamndbcnaaGreatDoor.Pk Go.Proofs.YtfhhihamndbcnaaGreatDoor.Co
theorem read_of {M:Mast} {s:ByteArray} {c:List Fact} {er:Int} (h:parseP M s=(c,er)) (hs:s.size≤4000):(∀ f∈c,In64 f.amt)∧c.length≤400:=by
 rcases parseP_ways M s with ⟨T,_,_,h3,h4,h5⟩ | ⟨_,h1,_⟩
 ·rw [h] at h5
  have e:c=(ofL T.facts).1:=congrArg Prod.fst h5
  rw [e]
  refine ⟨ofL_in64 _,?_⟩
  have hl:=Fa.ofL_length T.facts
  omega
 ·rw [h] at h1
  have e:c=[]:=h1
  subst e
  exact ⟨fun f hf=>(by cases hf),by simp⟩
end Go.Proofs.YtfhhihamndbcnaaGreatDoor.Cy
