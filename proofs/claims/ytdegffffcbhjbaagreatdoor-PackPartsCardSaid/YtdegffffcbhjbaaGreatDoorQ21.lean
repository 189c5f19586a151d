/- FaFacts -/
import Derived.Test.YtdegffffcbhjbaaGreatDoorQ10
namespace Go.Proofs.YtdegffffcbhjbaaGreatDoor.Fa
def isum (l:List Fact) (k:Key):Int:=(amts l k).sum
def cube (l:List Fact):List Fact:=(keysL l).flatMap fun k=>putF k (isum l k)
theorem isum_no {l:List Fact} {k:Key} (h:k ∉ keysL l):isum l k=0:=by
 have:amts l k=[]:=by
  unfold amts
  rw [List.map_eq_nil_iff,List.filter_eq_nil_iff]
  intro f hf e
  exact h (mem_keys.2 ⟨f,hf,of_decide_eq_true e⟩)
 unfold isum
 rw [this];rfl
theorem mem_cube {l:List Fact} {f:Fact}:f∈cube l ↔ f.amt=isum l f.key∧f.amt≠0:=by
 unfold cube
 rw [List.mem_flatMap]
 constructor
 ·rintro ⟨k,_,hf⟩
  unfold putF at hf
  split at hf
  ·cases hf
  ·simp at hf;subst hf
   exact ⟨rfl,by assumption⟩
 ·rintro ⟨h1,h2⟩
  refine ⟨f.key,?_,?_⟩
  ·by_cases c:f.key∈keysL l
   ·exact c
   ·rw [isum_no c] at h1;exact absurd h1 h2
  ·rw [←h1]
   unfold putF
   rw [if_neg h2]
   exact List.mem_singleton.2 rfl
theorem cube_rise (l:List Fact):RiseF (cube l):=by
 unfold RiseF cube
 rw [List.pairwise_flatMap]
 refine ⟨fun k _=>?_,?_⟩
 ·unfold putF;split <;> simp
 ·refine List.Pairwise.imp ?_ (rise_keys l)
  intro k k' hlt x hx y hy
  unfold putF at hx hy
  split at hx
  ·cases hx
  ·split at hy
   ·cases hy
   ·simp at hx hy;subst hx;subst hy;exact hlt
end Go.Proofs.YtdegffffcbhjbaaGreatDoor.Fa
