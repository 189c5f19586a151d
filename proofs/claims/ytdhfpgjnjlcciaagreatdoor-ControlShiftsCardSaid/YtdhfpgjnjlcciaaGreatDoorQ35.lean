/- SortedG FaFacts CoPlain CoFacts -/
import Derived.Test.YtdhfpgjnjlcciaaGreatDoorQ32
import Derived.Test.YtdhfpgjnjlcciaaGreatDoorQ33
section
namespace Go.Proofs.YtdhfpgjnjlcciaaGreatDoor.G
open Go.RowKit
section
variable {α κ:Type} [KeyO κ] (key:α→κ)
variable {key}
theorem xX {L:List α} (h:riseK key L=true):(L.map key).Nodup:=by
 induction L with
 | nil=>exact List.nodup_nil
 | cons a L ih =>
   rw [List.map_cons,List.nodup_cons]
   refine ⟨fun hm=>?_,ih (yE h)⟩
   obtain ⟨y,hy,e⟩:=List.mem_map.1 hm
   have:=yT h y hy
   rw [e,KeyO.irr] at this;cases this
end
section
variable {α κ:Type} [DecidableEq κ] (key:α→κ)
variable {key}
end
section
variable {α κ:Type} [DecidableEq κ] [KeyO κ] {key:α→κ}
end
end Go.Proofs.YtdhfpgjnjlcciaaGreatDoor.G
end
section
namespace Go.Proofs.YtdhfpgjnjlcciaaGreatDoor.Fa
theorem Yz (k:Key):isum [] k=0:=rfl
theorem zes (l:List Fact) (k:Key):getL (cube l) k=isum l k:=by
 by_cases h:isum l k=0
 ·rw [h]
  refine Jk fun x hx e=>?_
  obtain ⟨h1,h2⟩:=jB.1 hx
  rw [e,h] at h1
  exact h2 h1
 ·have hm:(⟨k,isum l k⟩:Fact)∈cube l:=jB.2 ⟨rfl,h⟩
  exact Qe (kP l) hm
theorem YZ (l:List Fact) (k:Key):isum (cube l) k=isum l k:=by rw [XL (kP l),zes]
end Go.Proofs.YtdhfpgjnjlcciaaGreatDoor.Fa
end
section
namespace Go.Proofs.YtdhfpgjnjlcciaaGreatDoor.Co
open Go.RowKit Go.Proofs.YtdhfpgjnjlcciaaGreatDoor.Un Go.Proofs.YtdhfpgjnjlcciaaGreatDoor.Fa Go.Proofs.YtdhfpgjnjlcciaaGreatDoor.Pk
theorem yF (g:Key→Int) (f:Fact) (l:List Fact):lin g (f::l)=g f.key * f.amt+lin g l:=rfl
theorem J5 (g:Key→Int) (a b:List Fact):lin g (a++b)=lin g a+lin g b:=by simp [lin]
theorem K9 {α:Type} (u v:α→Int):∀ (K:List α),(K.map fun k=>u k+v k).sum=(K.map u).sum+(K.map v).sum
 | []=>rfl
 | k::K=>by simp only [List.map_cons,List.sum_cons];rw [K9 u v K];omega
theorem Qo {α:Type} (u:α→Int):∀ (K:List α),(∀ k∈K,u k=0)→(K.map u).sum=0
 | [],_=>rfl
 | k::K,h=>by simp only [List.map_cons,List.sum_cons];rw [h k (List.mem_cons_self),Qo u K fun x hx=>h x (List.mem_cons_of_mem _ hx)];rfl
theorem Ja {α:Type} [DecidableEq α] (u:α→Int) (x:α):∀ (K:List α),K.Nodup→x∈K→(K.map fun k=>if x=k then u k else 0).sum=u x
 | [],_,h=>by cases h
 | k::K,hn,h=>by
   simp only [List.map_cons,List.sum_cons]
   obtain ⟨h1,h2⟩:=List.nodup_cons.1 hn
   by_cases e:x=k
   ·subst e
    rw [if_pos rfl,Qo _ K fun y hy=>if_neg fun e:x=y=>h1 (by rw [e];exact hy)]
    omega
   ·rw [if_neg e,Ja u x K h2 ((List.mem_cons.1 h).resolve_left e)]
    omega
theorem QB (g:Key→Int):∀ (l:List Fact) (K:List Key),K.Nodup→(∀ f∈l,f.key∈K)→lin g l=(K.map fun k=>g k * isum l k).sum
 | [],K,_,_=>by rw [Qo];· rfl
                intro k _;rw [Yz];simp
 | f::l,K,hn,h=>by
   rw [yF,QB g l K hn fun x hx=>h x (List.mem_cons_of_mem _ hx)]
   have e:(fun k=>g k * isum (f::l) k)=fun k=>(if f.key=k then g k * f.amt else 0)+g k * isum l k:=by
    funext k
    rw [xT,Int.mul_add]
    split <;> simp
   rw [e,K9,Ja (fun k=>g k * f.amt) f.key K hn (h f List.mem_cons_self)]
theorem xX {L:List Key} (h:Rise L):L.Nodup:=h.imp fun h e=>yD h e
theorem QO (g:Key→Int) (l:List Fact):lin g (cube l)=lin g l:=by
 rw [QB g l (keysL l) (xX (j9 l)) fun f hf=>mem_keys.2 ⟨f,hf,rfl⟩,QB g (cube l) (keysL l) (xX (j9 l)) fun f hf=>by
  obtain ⟨x,hx,e⟩:=Jl hf
  exact mem_keys.2 ⟨x,hx,e⟩]
 congr 1
 exact List.map_congr_left fun k _=>by rw [YZ]
def gapG (M:Mast) (p k:Key):Int:=if inGap M p k=true then (if kindF M k.f=4 then 1 else -1) else 0
theorem Jm (u:Key→Bool) (v:Key→Bool):∀ (c:List Fact),ssum ((c.filter fun f=>u f.key).map fun f=>(v f.key,f.amt))=lin (fun k=>if u k=true then (if v k=true then 1 else -1) else 0) c
 | []=>rfl
 | f::c=>by
   rw [yF,←Jm u v c,List.filter_cons]
   cases hu:u f.key with
   | false=>simp
   | true =>
     simp only [if_true,List.map_cons,ssum]
     cases v f.key <;> simp <;> omega
theorem Jb (M:Mast) (c:List Fact) (p:Key):ssum (gapL M c p)=lin (gapG M p) c:=by
 unfold gapL
 rw [Jm (inGap M p) (fun k=>decide (kindF M k.f=4))]
 congr 1
 funext k
 unfold gapG
 simp
end Go.Proofs.YtdhfpgjnjlcciaaGreatDoor.Co
end
section
namespace Go.Proofs.YtdhfpgjnjlcciaaGreatDoor.Co
open Go.RowKit Go.Proofs.YtdhfpgjnjlcciaaGreatDoor.Un Go.Proofs.YtdhfpgjnjlcciaaGreatDoor.Fa Go.Proofs.YtdhfpgjnjlcciaaGreatDoor.Pk
theorem kH {l d:List Fact} (h:ofL l=(d,0)):IsCube d∧d=cube l:=by
 have:=XE (l:=l) (by rw [h])
 rwa [h] at this
end Go.Proofs.YtdhfpgjnjlcciaaGreatDoor.Co
end
