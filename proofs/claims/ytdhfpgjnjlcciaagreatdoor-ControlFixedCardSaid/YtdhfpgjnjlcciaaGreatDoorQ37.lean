/- CoPlain CoSmall CoFacts CoGiven -/
import Derived.Test.YtdhfpgjnjlcciaaGreatDoorQ34
section
namespace Go.Proofs.YtdhfpgjnjlcciaaGreatDoor.Co
open Go.RowKit Go.Proofs.YtdhfpgjnjlcciaaGreatDoor.Un Go.Proofs.YtdhfpgjnjlcciaaGreatDoor.Fa Go.Proofs.YtdhfpgjnjlcciaaGreatDoor.Pk
def fixP (M:Mast) (c:List Fact) (lim:Int):List Fact × Int :=
 if lim < 0 then ([],1) else if (fixGo M c lim (places c)).2=0 then ofL (c++(fixGo M c lim (places c)).1) else ([],(fixGo M c lim (places c)).2)
end Go.Proofs.YtdhfpgjnjlcciaaGreatDoor.Co
end
section
namespace Go.Proofs.YtdhfpgjnjlcciaaGreatDoor.Co
open Go.RowKit Go.Proofs.YtdhfpgjnjlcciaaGreatDoor.Un Go.Proofs.YtdhfpgjnjlcciaaGreatDoor.Fa Go.Proofs.YtdhfpgjnjlcciaaGreatDoor.Pk
theorem KZ {M:Mast} {c:List Fact} (lim:Int) (h:AllC M c):fixC M c lim=fixP M c lim:=by
 unfold fixC fixP
 rw [vD h]
section
variable {M:Mast} (h:SmallM false M)
include h
end
section
variable {M:Mast} (h:SmallM false M)
include h
end
end Go.Proofs.YtdhfpgjnjlcciaaGreatDoor.Co
end
section
namespace Go.Proofs.YtdhfpgjnjlcciaaGreatDoor.Co
open Go.RowKit Go.Proofs.YtdhfpgjnjlcciaaGreatDoor.Un Go.Proofs.YtdhfpgjnjlcciaaGreatDoor.Fa Go.Proofs.YtdhfpgjnjlcciaaGreatDoor.Pk
theorem IsCube.self {c:List Fact} (h:IsCube c):ofL c=(c,0):=by
 rw [XT,Qk h.rise h.nz]
 intro k
 rcases Ya h.rise k with e | ⟨f,hf,_,e⟩
 ·rw [e];rfl
 ·rw [e,Jg (h.fit f hf)]
theorem y7 {M:Mast} {c:List Fact} {lim:Int}:∀ {r:List Key},(fixGo M c lim r).2=0 →
 (∀ p∈r,(gapP M c p).2=0∧((gapP M c p).1≠0→moveF M≠none∧(gapP M c p).1≤lim∧-lim≤(gapP M c p).1)) ∧
 (fixGo M c lim r).1=(r.filter fun p=>decide ((gapP M c p).1≠0)).map fun p=>fixF ((moveF M).getD emp) p (gapP M c p).1
 | [],_=>⟨fun _ h=>by (cases h),rfl⟩
 | p::r,h=>by
   unfold fixGo at h ⊢
   by_cases h1:(gapP M c p).2=0
   ·rw [if_neg (by rw [h1];simp)] at h ⊢
    by_cases h2:(gapP M c p).1=0
    ·rw [if_pos h2] at h ⊢
     obtain ⟨h3,h4⟩:=y7 h
     refine ⟨fun q hq=>?_,?_⟩
     ·rcases List.mem_cons.1 hq with rfl | hq
      ·exact ⟨h1,fun h=>absurd h2 h⟩
      ·exact h3 q hq
     ·rw [List.filter_cons,if_neg (by simp [h2])]
      exact h4
    ·rw [if_neg h2] at h ⊢
     by_cases h5:lim < (gapP M c p).1∨(gapP M c p).1 < -lim∨moveF M=none
     ·rw [if_pos h5] at h;cases h
     ·rw [if_neg h5] at h ⊢
      by_cases h6:(fixGo M c lim r).2=0
      ·rw [if_pos h6]
       obtain ⟨h3,h4⟩:=y7 h6
       refine ⟨fun q hq=>?_,?_⟩
       ·rcases List.mem_cons.1 hq with rfl | hq
        ·exact ⟨h1,fun _=>⟨fun e=>h5 (.inr (.inr e)),by omega,by omega⟩⟩
        ·exact h3 q hq
       ·rw [List.filter_cons,if_pos (by simp [h2]),List.map_cons,←h4]
      ·rw [if_neg h6] at h;exact absurd h h6
   ·rw [if_pos h1] at h;exact absurd h h1
theorem vP {M:Mast} {c d:List Fact} {lim:Int} (h:fixP M c lim=(d,0)):0≤lim∧(fixGo M c lim (places c)).2=0∧ofL (c++(fixGo M c lim (places c)).1)=(d,0):=by
 unfold fixP at h
 by_cases h0:lim < 0
 ·rw [if_pos h0] at h;cases congrArg Prod.snd h
 ·rw [if_neg h0] at h
  by_cases h1:(fixGo M c lim (places c)).2=0
  ·rw [if_pos h1] at h;exact ⟨by omega,h1,h⟩
  ·rw [if_neg h1] at h;exact absurd (congrArg Prod.snd h) h1
theorem Jc {M:Mast} {c:List Fact} {lim:Int}:∀ {r:List Key},(∀ p∈r,gapP M c p=(0,0))→fixGo M c lim r=([],0)
 | [],_=>rfl
 | p::r,h=>by
   unfold fixGo
   rw [h p List.mem_cons_self,if_neg (by simp),if_pos rfl]
   exact Jc fun q hq=>h q (List.mem_cons_of_mem _ hq)
theorem JD {M:Mast} {c:List Fact} {lim:Int} (hc:IsCube c) (hl:0≤lim) (h:∀ p∈places c,gapP M c p=(0,0)):fixP M c lim=(c,0):=by
 unfold fixP
 rw [Jc h,if_neg (by omega),if_pos rfl,List.append_nil,hc.self]
end Go.Proofs.YtdhfpgjnjlcciaaGreatDoor.Co
end
section
namespace Go.Proofs.YtdhfpgjnjlcciaaGreatDoor.Co
open Go.RowKit Go.Proofs.YtdhfpgjnjlcciaaGreatDoor.Un Go.Proofs.YtdhfpgjnjlcciaaGreatDoor.Fa Go.Proofs.YtdhfpgjnjlcciaaGreatDoor.Pk
theorem Ze (M:Mast) (c:List Fact) (lim:Int):∀ l:List Key,(fixGo M c lim l).1.length≤l.length
 | []=>Nat.le_refl _
 | p::r=>by
   have ih:=Ze M c lim r
   unfold fixGo
   split
   ·simp
   ·split
    ·simp only [List.length_cons];omega
    ·split
     ·simp
     ·split
      ·simp only [List.length_cons];omega
      ·simp
theorem Parsed.sum {M:Mast} {c:List Fact} (h:Parsed M c) (lim:Int):c.length+(fixGo M c lim (zH M c)).1.length≤1000:=by
 have h1:=Ze M c lim (zH M c)
 have h2:=Q4 M c
 have:=h.len
 omega
theorem Parsed.fix {M:Mast} {c:List Fact} (h:Parsed M c) {lim:Int} (hl:In64 lim) {W:World} {ch f e l v:Value} (hg:Giv W ch f e l v M c):Calls Tryz.prog 18 #[aggM ch f e l M,v,.int .i64 lim] W (yh W (fixP M c lim)):=by
 have:=ZI ch f e l v M c lim W hg hl (h.sum lim)
 rwa [KZ lim h.all] at this
end Go.Proofs.YtdhfpgjnjlcciaaGreatDoor.Co
end
