/- CyGiven -/
import Derived.Test.YtfhhihamndbcnaaGreatDoorR51
namespace Go.Proofs.YtfhhihamndbcnaaGreatDoor.Cy
open Go.RowKit Go.Maps Go.Proofs.YtfhhihamndbcnaaGreatDoor.Un Go.Proofs.YtfhhihamndbcnaaGreatDoor.Fa Go.Proofs.YtfhhihamndbcnaaGreatDoor.Pk Go.Proofs.YtfhhihamndbcnaaGreatDoor.Co
theorem bring_few {M:Mast} {p c:List Fact} (h:p.length+c.length≤800):(bringP M p c).1.length≤800:=by
 unfold bringP
 split
 ·simp
 ·have h1:=Fa.ofL_length (restF M c++(openP M p).1)
  have h2:=rest_length M c
  have h3:=open_length M p
  rw [List.length_append] at h1
  omega
theorem bring_in64 (M:Mast) (p c:List Fact):∀ x∈(bringP M p c).1,In64 x.amt:=by
 unfold bringP
 split
 ·exact fun x hx=>by cases hx
 ·exact ofL_in64 _
end Go.Proofs.YtfhhihamndbcnaaGreatDoor.Cy
