/- CyGiven -/
import Derived.Test.YtfhhihamndbcnaaGreatDoorR51
namespace Go.Proofs.YtfhhihamndbcnaaGreatDoor.Cy
open Go.RowKit Go.Maps Go.Proofs.YtfhhihamndbcnaaGreatDoor.Un Go.Proofs.YtfhhihamndbcnaaGreatDoor.Fa Go.Proofs.YtfhhihamndbcnaaGreatDoor.Pk Go.Proofs.YtfhhihamndbcnaaGreatDoor.Co
structure Got (M:Mast) (c:List Fact):Prop where
 cube:IsCube c
 all:∀ f∈c,cnt M f.key=true
theorem cnt_ok {M:Mast} {k:Key} (h:checkE M k=0):cnt M k=true:=by
 have hi:inM M k=true:=by
  cases hi:inM M k with
  | true=>rfl
  | false=>rw [checkE_no hi] at h;cases h
 unfold inM at hi
 unfold cnt
 simp only [Bool.and_eq_true] at hi ⊢
 exact ⟨hi.1.1.2,hi.1.2⟩
theorem got_of {M:Mast} {s:ByteArray} {c:List Fact} (h:parseP M s=(c,0)):Got M c:=by
 rcases parseP_ways M s with ⟨T,_,_,h3,h4,h5⟩ | ⟨h1,_⟩
 ·rw [h] at h5
  have h0:(ofL T.facts).2=0:=by rw [←h5]
  obtain ⟨hc,he⟩:=isCube_cube (l:=T.facts) (d:=(ofL T.facts).1) (Prod.ext rfl h0)
  have e:c=(ofL T.facts).1:=congrArg Prod.fst h5
  refine ⟨by rw [e];exact hc,fun f hf=>?_⟩
  rw [e,he] at hf
  obtain ⟨x,hx,ek⟩:=cube_key hf
  rw [←ek]
  exact cnt_ok (h3.ok x hx).2.1
 ·rw [h] at h1;exact absurd rfl h1
theorem kindC {M:Mast} (hr:riseK Fl.Flow.code M.flows=true) (c:ByteArray):Fl.kindL M.flows c=kindF M c∧isK Fl.Flow.code M.flows c=hasFl M c :=
 ⟨kind_of_find hr c,(isK_find hr c).1⟩
end Go.Proofs.YtfhhihamndbcnaaGreatDoor.Cy
