/- Base CoFacts CoMark -/
import Derived.Test.YtdhfpgjnjlcciaaGreatDoorQ35
import Derived.Test.YtdhfpgjnjlcciaaGreatDoorQ36
section
namespace Go.Proofs.YtdhfpgjnjlcciaaGreatDoor
open Go.RowKit
def In32 (a:Int):Prop:=-2147483648≤a∧a≤2147483647
theorem V3 {a:Int} (h:(Lit.int .i32 a).wf=true):In32 a:=by
 have e1:IntKind.i32.min=-2147483648:=rfl
 have e2:IntKind.i32.max=2147483647:=rfl
 simp [Lit.wf,e1,e2] at h
 exact h
end Go.Proofs.YtdhfpgjnjlcciaaGreatDoor
end
section
namespace Go.Proofs.YtdhfpgjnjlcciaaGreatDoor.Co
open Go.RowKit Go.Proofs.YtdhfpgjnjlcciaaGreatDoor.Un Go.Proofs.YtdhfpgjnjlcciaaGreatDoor.Fa Go.Proofs.YtdhfpgjnjlcciaaGreatDoor.Pk
theorem Vc {M:Mast} {c:List Fact} {p:Key} (h:(gapP M c p).2=0):(gapP M c p).1=lin (gapG M p) c:=by
 rcases x7 M c p with ⟨_,g⟩ | g
 ·rw [g,Jb]
 ·rw [g] at h;cases h
theorem XJ {M:Mast} {c m d:List Fact} {p:Key} (h:ofL (c++m)=(d,0)) (h1:(gapP M c p).2=0) (h2:(gapP M d p).2=0):(gapP M d p).1=(gapP M c p).1+lin (gapG M p) m:=by
 rw [Vc h2,Vc h1,(kH h).2,QO,J5]
end Go.Proofs.YtdhfpgjnjlcciaaGreatDoor.Co
end
section
namespace Go.Proofs.YtdhfpgjnjlcciaaGreatDoor.Co
open Go.RowKit Go.Maps Go.Proofs.YtdhfpgjnjlcciaaGreatDoor.Un Go.Proofs.YtdhfpgjnjlcciaaGreatDoor.Pk
open Go.Proofs.YtdhfpgjnjlcciaaGreatDoor.Fa (Key Fact encF FactsV)
theorem Vg {M:Mast} (h:allE M=0):2≤M.flows.length∧Fl.hasF M.flows 0=true∧Fl.hasF M.flows 4=true:=by
 obtain ⟨_,_,_,hw,_⟩:=JS h
 unfold Fl.wholeF at hw
 simp only [Bool.and_eq_true] at hw
 have h0:=hw.1.1.1
 have h4:=hw.2
 refine ⟨?_,h0,h4⟩
 have one:∀ n,Fl.hasF M.flows n=true→∃ f∈M.flows,f.kind=n:=fun n hn=>by
  unfold Fl.hasF at hn
  obtain ⟨c,hc⟩:=List.exists_mem_of_length_pos (of_decide_eq_true hn)
  obtain ⟨f,hf,hk,_⟩:=Fl.mem_of.1 hc
  exact ⟨f,hf,hk⟩
 obtain ⟨f,hf,hk⟩:=one 0 h0
 obtain ⟨g,hg,hk'⟩:=one 4 h4
 generalize M.flows=L at hf hg
 match L with
 | []=>cases hf
 | [a] =>
   obtain rfl:=List.mem_singleton.1 hf
   obtain rfl:=List.mem_singleton.1 hg
   omega
 | a::b::r=>simp
end Go.Proofs.YtdhfpgjnjlcciaaGreatDoor.Co
end
