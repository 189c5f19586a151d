/- FaGet FaFacts -/
import Derived.Test.YtdegffffcbhjbaaGreatDoorQ24
section
namespace Go.Proofs.YtdegffffcbhjbaaGreatDoor.Fa
open Go.RowKit
def getL (c:List Fact) (k:Key):Int:=match c.find? fun f=>decide (f.key=k) with
 | some f=>f.amt
 | none=>0
theorem riseF_uniq {c:List Fact} (h:RiseF c) {x y:Fact} (hx:x∈c) (hy:y∈c) (e:x.key=y.key):x=y:=by
 obtain ⟨i,hi,rfl⟩:=List.getElem_of_mem hx
 obtain ⟨j,hj,rfl⟩:=List.getElem_of_mem hy
 rcases Nat.lt_trichotomy i j with h1 | h1 | h1
 ·exact absurd e (ltK_ne (List.pairwise_iff_getElem.1 h i j hi hj h1))
 ·subst h1;rfl
 ·exact absurd e.symm (ltK_ne (List.pairwise_iff_getElem.1 h j i hj hi h1))
theorem getL_mem {c:List Fact} (h:RiseF c) {x:Fact} (hx:x∈c):getL c x.key=x.amt:=by
 unfold getL
 cases hf:c.find? fun f=>decide (f.key=x.key) with
 | none=>exact absurd (List.find?_eq_none.1 hf x hx) (by simp)
 | some y =>
   have h1:=List.mem_of_find?_eq_some hf
   have h2:y.key=x.key:=by have:=List.find?_some hf;simpa using this
   rw [riseF_uniq h h1 hx h2]
theorem getL_no {c:List Fact} {k:Key} (h:∀ x∈c,x.key≠k):getL c k=0:=by
 unfold getL
 rw [List.find?_eq_none.2 fun x hx=>by simpa using h x hx]
end Go.Proofs.YtdegffffcbhjbaaGreatDoor.Fa
end
section
namespace Go.Proofs.YtdegffffcbhjbaaGreatDoor.Fa
theorem getL_cube (l:List Fact) (k:Key):getL (cube l) k=isum l k:=by
 by_cases h:isum l k=0
 ·rw [h]
  refine getL_no fun x hx e=>?_
  obtain ⟨h1,h2⟩:=mem_cube.1 hx
  rw [e,h] at h1
  exact h2 h1
 ·have hm:(⟨k,isum l k⟩:Fact)∈cube l:=mem_cube.2 ⟨rfl,h⟩
  exact getL_mem (cube_rise l) hm
end Go.Proofs.YtdegffffcbhjbaaGreatDoor.Fa
end
