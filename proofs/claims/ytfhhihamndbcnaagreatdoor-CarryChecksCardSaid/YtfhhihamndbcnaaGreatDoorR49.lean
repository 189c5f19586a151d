/- Open ElsOpen CoPlain CyPlain CoCompact -/
import Derived.Test.YtfhhihamndbcnaaGreatDoorR21
import Derived.Test.YtfhhihamndbcnaaGreatDoorR47
section
namespace Go.Proofs.YtfhhihamndbcnaaGreatDoor
open Go.ChangeShapes Go.WideShapes Go.ChangeAt Go.RowKit
def In16 (a:Int):Prop:=-32768≤a∧a≤32767
theorem in_of_wf_i16 {a:Int} (h:(Lit.int .i16 a).wf=true):In16 a:=by
 have e1:IntKind.i16.min=-32768:=rfl
 have e2:IntKind.i16.max=32767:=rfl
 simp [Lit.wf,e1,e2] at h
 exact h
end Go.Proofs.YtfhhihamndbcnaaGreatDoor
end
section
namespace Go.Proofs.YtfhhihamndbcnaaGreatDoor
open Go.ChangeShapes Go.WideShapes Go.ChangeAt Go.RowKit Go.Deep
section
variable {H:Type} {enc:TypeId × Value→H} {P:Program} {W:World} {base:Nat} {sp:Nat→Bool} {held:Bool}
theorem el_open {α:Type} {E:Enc α} {r:Reach} {b0:Nat} {e:TypeId} {fs:Array Field} {v:Value} {d:DataW H} {p:List MemPlace} (he:P.underlying e=some (.struct fs))
 (hcells:∀ fuel cs x,DataW.trod enc P W base sp held fuel e cs=some x→∃ a:α,cs=E.cs a)
 (hv:Value.okWide P W r b0 e v) (h:DataW.Trod enc P W base sp held e v d p):∃ a:α,v=.agg (E.cs a).toArray:=by
 obtain ⟨cs,rfl,_⟩:=okWide_struct he hv
 obtain ⟨fuel,hf⟩:=h
 obtain ⟨a,ha⟩:=hcells _ _ _ hf
 refine ⟨a,?_⟩
 have:cs.toList=E.cs a:=by simpa [Value.cells] using ha
 rw [←this]
end
end Go.Proofs.YtfhhihamndbcnaaGreatDoor
end
section
namespace Go.Proofs.YtfhhihamndbcnaaGreatDoor.Co
open Go.RowKit Go.Proofs.YtfhhihamndbcnaaGreatDoor.Un Go.Proofs.YtfhhihamndbcnaaGreatDoor.Fa Go.Proofs.YtfhhihamndbcnaaGreatDoor.Pk
theorem lin_nil (g:Key→Int):lin g []=0:=rfl
theorem lin_append (g:Key→Int) (a b:List Fact):lin g (a++b)=lin g a+lin g b:=by simp [lin]
end Go.Proofs.YtfhhihamndbcnaaGreatDoor.Co
end
section
namespace Go.Proofs.YtfhhihamndbcnaaGreatDoor.Cy
open Go.RowKit Go.Proofs.YtfhhihamndbcnaaGreatDoor.Un Go.Proofs.YtfhhihamndbcnaaGreatDoor.Fa Go.Proofs.YtfhhihamndbcnaaGreatDoor.Pk Go.Proofs.YtfhhihamndbcnaaGreatDoor.Co
theorem check_more {M:Mast} (ho:Opens M) {p b d:List Fact} {k:Key} {n:Int} (hn:n≠0) (hb:bringP M p []=(b,0)) (hk:k.f=firstF M) (hd:ofL (b++[⟨k,n⟩])=(d,0)):checkP M p d≠0:=by
 obtain ⟨a,h1,h2⟩:=bring_ok hb
 obtain ⟨ha,hac,_⟩:=open_ok h1
 have h3:=bring_open ho hb h1
 unfold checkP
 rw [h1]
 rw [if_neg (by simp)]
 by_cases h4:(ofL (toldF M d 0 (firstF M))).2=0
 ·rw [if_neg (by rw [h4];simp),if_neg]
  ·decide
  ·intro e
   obtain ⟨_,h5⟩:=isCube_cube (l:=toldF M d 0 (firstF M)) (d:=(ofL (toldF M d 0 (firstF M))).1) (Prod.ext rfl h4)
   rw [h5] at e
   have e2:=congrArg (fun l=>isum l (asK (firstF M) k)) e
   simp only at e2
   rw [isum_cube,isum_told,(isCube_cube hd).2,lin_cube,lin_append,←isum_told,h3,lin_cons,lin_nil] at e2
   have hg:telG M 0 (firstF M) (asK (firstF M) k) k=1:=by
    unfold telG
    rw [if_pos]
    refine ⟨?_,rfl⟩
    have:=ho.ofK k
    unfold Cy.ofK at this ⊢
    rw [hk]
    exact this
   have e3:isum a (asK (firstF M) k)=isum a (asK (firstF M) k)+(telG M 0 (firstF M) (asK (firstF M) k) k * n+0):=e2
   rw [hg] at e3
   omega
 ·rw [if_pos h4];exact h4
end Go.Proofs.YtfhhihamndbcnaaGreatDoor.Cy
end
section
namespace Go.Proofs.YtfhhihamndbcnaaGreatDoor.Co
open Go.RowKit Go.Proofs.YtfhhihamndbcnaaGreatDoor.Fa
def lastF (l:Option Key):List Key→Option Key
 | []=>l
 | a::r=>lastF (some a) r
end Go.Proofs.YtfhhihamndbcnaaGreatDoor.Co
end
