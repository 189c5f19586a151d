/- PkFacts -/
import Derived.Test.YtdegffffcbhjbaaGreatDoorQ19
import Derived.Test.YtdegffffcbhjbaaGreatDoorQ21
namespace Go.Proofs.YtdegffffcbhjbaaGreatDoor.Pk
open Go.RowKit Go.Proofs.YtdegffffcbhjbaaGreatDoor.Un Go.Proofs.YtdegffffcbhjbaaGreatDoor.Fa
theorem sumFrom_ways:∀ (ns:List Int) (n:Int),((sumFrom n ns).2=0∧(sumFrom n ns).1=n+ns.sum)∨(sumFrom n ns).2=2
 | [],n=>.inl ⟨rfl,by simp [sumFrom]⟩
 | a::r,n=>by
   cases hf:fit (n+a) with
   | false=>rw [sumFrom_no r hf];exact .inr rfl
   | true =>
     rw [sumFrom_yes r hf]
     rcases sumFrom_ways r (n+a) with ⟨h1,h2⟩ | h
     ·exact .inl ⟨h1,by rw [h2,List.sum_cons];omega⟩
     ·exact .inr h
theorem runG_ways:∀ (G:List (Key × List Int)),((runG G).2=0∧okG G)∨((runG G).2=2∧(runG G).1=[])
 | []=>.inl ⟨rfl,fun _ h=>by cases h⟩
 | g::r=>by
   unfold runG
   rcases sumFrom_ways g.2 0 with ⟨h1,_⟩ | h1
   ·rw [if_pos h1]
    rcases runG_ways r with ⟨h2,h3⟩ | ⟨h2,h3⟩
    ·rw [if_pos h2]
     exact .inl ⟨rfl,fun x hx=>by
      rcases List.mem_cons.1 hx with rfl | hx
      ·exact h1
      ·exact h3 x hx⟩
    ·rw [if_neg (by rw [h2];decide)]
     exact .inr ⟨h2,rfl⟩
   ·rw [if_neg (by rw [h1];decide)]
    exact .inr ⟨h1,rfl⟩
theorem ofL_ways (l:List Fact):ofL l=(cube l,0)∨ofL l=([],2):=by
 rcases runG_ways (grps l) with ⟨h1,h2⟩ | ⟨h1,h2⟩
 ·left
  unfold ofL
  rw [run_end _ h2]
  unfold accG cube grps
  rw [List.flatMap_map]
  suffices e:(fun k=>putF k (sumFrom 0 (amts l k)).1)=fun k=>putF k (isum l k) by
   show ((keysL l).flatMap (fun k=>putF k (sumFrom 0 (amts l k)).1),(0:Int))=_
   rw [e]
  funext k
  by_cases hk:k∈keysL l
  ·have:=h2 (k,amts l k) (by unfold grps;exact List.mem_map.2 ⟨k,hk,rfl⟩)
   rcases sumFrom_ways (amts l k) 0 with ⟨_,h4⟩ | h4
   ·show putF k (sumFrom 0 (amts l k)).1=putF k (isum l k)
    rw [h4,Int.zero_add];rfl
   ·rw [show (sumFrom 0 (k,amts l k).2).2=2 from h4] at this
    cases this
  ·have:amts l k=[]:=by
    unfold amts
    rw [List.map_eq_nil_iff,List.filter_eq_nil_iff]
    intro f hf e
    exact hk (mem_keys.2 ⟨f,hf,of_decide_eq_true e⟩)
   show putF k (sumFrom 0 (amts l k)).1=putF k (isum l k)
   unfold isum
   rw [this];rfl
 ·right
  unfold ofL
  exact Prod.ext h2 h1
end Go.Proofs.YtdegffffcbhjbaaGreatDoor.Pk
