/- SortedG FaFacts CoPlain -/
import Derived.Test.YtfhhihamndbcnaaGreatDoorR41
section
namespace Go.Proofs.YtfhhihamndbcnaaGreatDoor.G
open Go.RowKit
section
variable {α κ:Type} [KeyO κ] (key:α→κ)
variable {key}
theorem rise_nodup {L:List α} (h:riseK key L=true):(L.map key).Nodup:=by
 induction L with
 | nil=>exact List.nodup_nil
 | cons a L ih =>
   rw [List.map_cons,List.nodup_cons]
   refine ⟨fun hm=>?_,ih (riseK_tail h)⟩
   obtain ⟨y,hy,e⟩:=List.mem_map.1 hm
   have:=riseK_head h y hy
   rw [e,KeyO.irr] at this;cases this
end
section
variable {α κ:Type} [DecidableEq κ] (key:α→κ)
variable {key}
end
section
variable {α κ:Type} [DecidableEq κ] [KeyO κ] {key:α→κ}
end
end Go.Proofs.YtfhhihamndbcnaaGreatDoor.G
end
section
namespace Go.Proofs.YtfhhihamndbcnaaGreatDoor.Fa
theorem getL_cube (l:List Fact) (k:Key):getL (cube l) k=isum l k:=by
 by_cases h:isum l k=0
 ·rw [h]
  refine getL_no fun x hx e=>?_
  obtain ⟨h1,h2⟩:=mem_cube.1 hx
  rw [e,h] at h1
  exact h2 h1
 ·have hm:(⟨k,isum l k⟩:Fact)∈cube l:=mem_cube.2 ⟨rfl,h⟩
  exact getL_mem (cube_rise l) hm
theorem isum_cube (l:List Fact) (k:Key):isum (cube l) k=isum l k:=by rw [isum_rise (cube_rise l),getL_cube]
end Go.Proofs.YtfhhihamndbcnaaGreatDoor.Fa
end
section
namespace Go.Proofs.YtfhhihamndbcnaaGreatDoor.Co
open Go.RowKit Go.Proofs.YtfhhihamndbcnaaGreatDoor.Un Go.Proofs.YtfhhihamndbcnaaGreatDoor.Fa Go.Proofs.YtfhhihamndbcnaaGreatDoor.Pk
theorem lin_cons (g:Key→Int) (f:Fact) (l:List Fact):lin g (f::l)=g f.key * f.amt+lin g l:=rfl
theorem sum_map_add {α:Type} (u v:α→Int):∀ (K:List α),(K.map fun k=>u k+v k).sum=(K.map u).sum+(K.map v).sum
 | []=>rfl
 | k::K=>by simp only [List.map_cons,List.sum_cons];rw [sum_map_add u v K];omega
theorem sum_none {α:Type} (u:α→Int):∀ (K:List α),(∀ k∈K,u k=0)→(K.map u).sum=0
 | [],_=>rfl
 | k::K,h=>by simp only [List.map_cons,List.sum_cons];rw [h k (List.mem_cons_self),sum_none u K fun x hx=>h x (List.mem_cons_of_mem _ hx)];rfl
theorem sum_one {α:Type} [DecidableEq α] (u:α→Int) (x:α):∀ (K:List α),K.Nodup→x∈K→(K.map fun k=>if x=k then u k else 0).sum=u x
 | [],_,h=>by cases h
 | k::K,hn,h=>by
   simp only [List.map_cons,List.sum_cons]
   obtain ⟨h1,h2⟩:=List.nodup_cons.1 hn
   by_cases e:x=k
   ·subst e
    rw [if_pos rfl,sum_none _ K fun y hy=>if_neg fun e:x=y=>h1 (by rw [e];exact hy)]
    omega
   ·rw [if_neg e,sum_one u x K h2 ((List.mem_cons.1 h).resolve_left e)]
    omega
theorem lin_keys (g:Key→Int):∀ (l:List Fact) (K:List Key),K.Nodup→(∀ f∈l,f.key∈K)→lin g l=(K.map fun k=>g k * isum l k).sum
 | [],K,_,_=>by rw [sum_none];· rfl
                intro k _;rw [isum_nil];simp
 | f::l,K,hn,h=>by
   rw [lin_cons,lin_keys g l K hn fun x hx=>h x (List.mem_cons_of_mem _ hx)]
   have e:(fun k=>g k * isum (f::l) k)=fun k=>(if f.key=k then g k * f.amt else 0)+g k * isum l k:=by
    funext k
    rw [isum_cons,Int.mul_add]
    split <;> simp
   rw [e,sum_map_add,sum_one (fun k=>g k * f.amt) f.key K hn (h f List.mem_cons_self)]
theorem rise_nodup {L:List Key} (h:Rise L):L.Nodup:=h.imp fun h e=>ltK_ne h e
theorem lin_cube (g:Key→Int) (l:List Fact):lin g (cube l)=lin g l:=by
 rw [lin_keys g l (keysL l) (rise_nodup (rise_keys l)) fun f hf=>mem_keys.2 ⟨f,hf,rfl⟩,lin_keys g (cube l) (keysL l) (rise_nodup (rise_keys l)) fun f hf=>by
  obtain ⟨x,hx,e⟩:=cube_key hf
  exact mem_keys.2 ⟨x,hx,e⟩]
 congr 1
 exact List.map_congr_left fun k _=>by rw [isum_cube]
end Go.Proofs.YtfhhihamndbcnaaGreatDoor.Co
end
