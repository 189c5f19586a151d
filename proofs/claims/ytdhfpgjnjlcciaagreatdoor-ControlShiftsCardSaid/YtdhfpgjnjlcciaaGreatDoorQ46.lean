/- CoPlain CoFacts CoMark -/
import Derived.Test.YtdhfpgjnjlcciaaGreatDoorQ39
import Derived.Test.YtdhfpgjnjlcciaaGreatDoorQ41
import Derived.Test.YtdhfpgjnjlcciaaGreatDoorQ42
section
namespace Go.Proofs.YtdhfpgjnjlcciaaGreatDoor.Co
open Go.RowKit Go.Proofs.YtdhfpgjnjlcciaaGreatDoor.Un Go.Proofs.YtdhfpgjnjlcciaaGreatDoor.Fa Go.Proofs.YtdhfpgjnjlcciaaGreatDoor.Pk
theorem ziq (M:Mast) (c:List Fact) (e:ByteArray) (n:Int):ssum (weighL M c e n)=lin (fun k=>if ql M e n k=true then (if clsF M k.a=0 then 1 else -1) else 0) c:=by
 unfold weighL
 rw [Jm (ql M e n) (fun k=>decide (clsF M k.a=0))]
 congr 1
 funext k
 simp
end Go.Proofs.YtdhfpgjnjlcciaaGreatDoor.Co
end
section
namespace Go.Proofs.YtdhfpgjnjlcciaaGreatDoor.Co
open Go.RowKit Go.Proofs.YtdhfpgjnjlcciaaGreatDoor.Un Go.Proofs.YtdhfpgjnjlcciaaGreatDoor.Fa Go.Proofs.YtdhfpgjnjlcciaaGreatDoor.Pk
theorem VN {α:Type} (g:Key→Int) (u:α→Fact):∀ (K:List α),(∀ x∈K,g (u x).key=0)→lin g (K.map u)=0
 | [],_=>rfl
 | x::K,h=>by rw [List.map_cons,yF,h x List.mem_cons_self,VN g u K fun y hy=>h y (List.mem_cons_of_mem _ hy)];simp
def weighG (M:Mast) (e:ByteArray) (n:Int) (k:Key):Int:=if ql M e n k=true then (if clsF M k.a=0 then 1 else -1) else 0
theorem Km {M:Mast} {c:List Fact} {e:ByteArray} {n:Int} (h:(weighP M c e n).2=0):(weighP M c e n).1=lin (weighG M e n) c:=by
 rcases Yo M c e n with ⟨_,g⟩ | g
 ·rw [g,ziq];rfl
 ·rw [g] at h;cases h
theorem zf4 {M:Mast} {c m d:List Fact} {e:ByteArray} {n:Int} (h:ofL (c++m)=(d,0)) (h1:(weighP M c e n).2=0) (h2:(weighP M d e n).2=0):(weighP M d e n).1=(weighP M c e n).1+lin (weighG M e n) m:=by
 rw [Km h2,Km h1,(kH h).2,QO,J5]
theorem VI {M:Mast} (hr:riseK Fl.Flow.code M.flows=true) {f:Fl.Flow} (hf:f∈M.flows):hasFl M f.code=true∧kindF M f.code=f.kind:=by
 obtain ⟨_,_,x,h1,h2⟩:=Fl.XV hr (Fl.mem_of.2 ⟨f,hf,rfl,rfl⟩)
 unfold hasFl kindF
 rw [h1]
 exact ⟨rfl,h2⟩
def moreF (L:List Fl.Flow) (k:Key) (n:Int):List Fact:=(L.filter fun f=>decide (f.kind=0) || decide (f.kind=4)).map fun f=>⟨⟨k.e,k.a,f.code,k.p,1⟩,n⟩
theorem zi8 (f:Fl.Flow) (L:List Fl.Flow) (k:Key) (n:Int):moreF (f::L) k n=if f.kind=0∨f.kind=4 then ⟨⟨k.e,k.a,f.code,k.p,1⟩,n⟩::moreF L k n else moreF L k n:=by
 unfold moreF
 rw [List.filter_cons]
 by_cases h:f.kind=0∨f.kind=4
 ·rw [if_pos h,if_pos (by simpa using h)];rfl
 ·rw [if_neg h,if_neg (by simpa using h)]
theorem YP {M:Mast} (hr:riseK Fl.Flow.code M.flows=true) (p k:Key) (n:Int):∀ (L:List Fl.Flow),(∀ f∈L,f∈M.flows) →
 lin (gapG M p) (moreF L k n)=(if hasA M.chart k.a=true∧plc k=p then (((L.filter fun f=>decide (f.kind=4)).length:Int) - ((L.filter fun f=>decide (f.kind=0)).length:Int)) * n else 0)
 | [],_=>by simp [moreF,lin]
 | f::L,h=>by
   obtain ⟨h1,h2⟩:=VI hr (h f List.mem_cons_self)
   have ih:=YP hr p k n L fun x hx=>h x (List.mem_cons_of_mem _ hx)
   have hg:gapG M p ⟨k.e,k.a,f.code,k.p,1⟩=if hasA M.chart k.a=true∧plc k=p then (if f.kind=4 then 1 else -1) else 0:=by
    unfold gapG inGap cnt
    rw [show plc ⟨k.e,k.a,f.code,k.p,1⟩=plc k from rfl]
    simp only [h1,h2,Bool.and_true,Bool.and_eq_true,decide_eq_true_eq]
   rw [zi8,List.filter_cons,List.filter_cons]
   by_cases hp:hasA M.chart k.a=true∧plc k=p
   ·rw [if_pos hp] at ih hg ⊢
    by_cases h4:f.kind=4
    ·rw [if_pos (.inr h4),yF,ih]
     show gapG M p ⟨k.e,k.a,f.code,k.p,1⟩ * n+_=_
     rw [hg,if_pos h4,if_pos (by simp [h4]),if_neg (by simp [h4]),List.length_cons]
     rw [show (((List.filter (fun f=>decide (f.kind=4)) L).length+1:Nat):Int) - ((List.filter (fun f=>decide (f.kind=0)) L).length:Int)=1+(((List.filter (fun f=>decide (f.kind=4)) L).length:Int) - ((List.filter (fun f=>decide (f.kind=0)) L).length:Int)) by omega,Int.add_mul]
    ·by_cases h0:f.kind=0
     ·rw [if_pos (.inl h0),yF,ih]
      show gapG M p ⟨k.e,k.a,f.code,k.p,1⟩ * n+_=_
      rw [hg,if_neg h4,if_neg (by simp [h4]),if_pos (by simp [h0]),List.length_cons]
      rw [show ((List.filter (fun f=>decide (f.kind=4)) L).length:Int) - (((List.filter (fun f=>decide (f.kind=0)) L).length+1:Nat):Int)=-1+(((List.filter (fun f=>decide (f.kind=4)) L).length:Int) - ((List.filter (fun f=>decide (f.kind=0)) L).length:Int)) by omega,Int.add_mul]
     ·rw [if_neg (by rintro (h | h);exact h0 h;exact h4 h),ih,if_neg (by simp [h4]),if_neg (by simp [h0])]
   ·rw [if_neg hp] at ih hg ⊢
    split
    ·rw [yF,ih]
     show gapG M p ⟨k.e,k.a,f.code,k.p,1⟩ * n+_=_
     rw [hg];simp
    ·exact ih
theorem zfA {M:Mast} (hr:riseK Fl.Flow.code M.flows=true) (e:ByteArray) (k:Key) (n:Int) {L:List Fl.Flow} (hL:∀ f∈L,f∈M.flows):lin (weighG M e 1) (moreF L k n)=0:=by
 unfold moreF
 refine VN _ _ _ fun f hf=>?_
 obtain ⟨h1,h2⟩:=List.mem_filter.1 hf
 obtain ⟨_,h3⟩:=VI hr (hL f h1)
 show weighG M e 1 ⟨k.e,k.a,f.code,k.p,1⟩=0
 unfold weighG ql
 rw [if_neg]
 intro h
 simp only [Bool.and_eq_true,decide_eq_true_eq] at h
 have h5:=h.1.2
 rw [show kindF M (⟨k.e,k.a,f.code,k.p,1⟩:Key).f=f.kind from h3] at h5
 rw [h5] at h2
 simp at h2
theorem Xi {L:List Fl.Flow} (ho:Fl.onesF L) {n:Int} (hn:0≤n∧n < 5) (h1:n≠1) (h:Fl.hasF L n=true):(L.filter fun f=>decide (f.kind=n)).length=1:=by
 have h2:=ho n hn h1
 unfold Fl.hasF at h
 have h3:=of_decide_eq_true h
 rw [Fl.yx] at h2 h3
 omega
theorem zfr {M:Mast} (hr:Fl.riseF M.flows=true) (h0:Fl.hasF M.flows 0=true) (h4:Fl.hasF M.flows 4=true) {c d:List Fact} {p k:Key} {n:Int} (h:ofL (c++moreF M.flows k n)=(d,0)) (g1:(gapP M c p).2=0) (g2:(gapP M d p).2=0):(gapP M d p).1=(gapP M c p).1:=by
 rw [XJ h g1 g2,YP (Fl.qm hr) p k n _ fun _ h=>h,Xi (Fl.QH hr) (by omega) (by omega) h0,Xi (Fl.QH hr) (by omega) (by omega) h4]
 split <;> simp
theorem zg5 {M:Mast} (hr:Fl.riseF M.flows=true) {c d:List Fact} {e:ByteArray} {k:Key} {n:Int} (h:ofL (c++moreF M.flows k n)=(d,0)) (g1:(weighP M c e 1).2=0) (g2:(weighP M d e 1).2=0):(weighP M d e 1).1=(weighP M c e 1).1:=by
 rw [zf4 h g1 g2,zfA (Fl.qm hr) e k n fun _ h=>h]
 omega
end Go.Proofs.YtdhfpgjnjlcciaaGreatDoor.Co
end
section
namespace Go.Proofs.YtdhfpgjnjlcciaaGreatDoor.Co
open Go.RowKit Go.Maps Go.Proofs.YtdhfpgjnjlcciaaGreatDoor.Un Go.Proofs.YtdhfpgjnjlcciaaGreatDoor.Pk
open Go.Proofs.YtdhfpgjnjlcciaaGreatDoor.Fa (Key Fact encF FactsV)
theorem ze1 (L:List Fl.Flow) (f:Fl.Flow) (k:Key) (n:Int):moreF (L++[f]) k n=if f.kind=0∨f.kind=4 then moreF L k n++[⟨⟨k.e,k.a,f.code,k.p,1⟩,n⟩] else moreF L k n:=by
 unfold moreF
 rw [List.filter_append,List.filter_cons,List.filter_nil]
 by_cases h:f.kind=0∨f.kind=4
 ·rw [if_pos h,if_pos (by simpa using h)];simp
 ·rw [if_neg h,if_neg (by simpa using h)];simp
theorem JW (L:List Fl.Flow) (k:Key) (n:Int):(moreF L k n).length≤L.length:=by
 unfold moreF
 rw [List.length_map]
 exact List.length_filter_le _ _
theorem zfd {L:List Fl.Flow} {k:Key} {n:Int} (hn:In64 n):∀ f∈moreF L k n,In64 f.amt:=fun f hf=>by
 unfold moreF at hf
 obtain ⟨x,_,rfl⟩:=List.mem_map.1 hf
 exact hn
theorem za6 {M:Mast} {s:ByteArray} {c:List Fact} {e:Int} (h:parseP M s=(c,e)) (hs:s.size≤4000):(∀ f∈c,In64 f.amt)∧c.length≤401:=by
 rcases J4 M s with ⟨T,_,_,_,h4,h5⟩ | ⟨_,h1,_⟩
 ·rw [h] at h5
  have hl:=Fa.y6 T.facts
  rw [←h5] at hl
  refine ⟨?_,by simp only at hl;omega⟩
  have:=ZW T.facts
  rw [←h5] at this
  exact this
 ·rw [h] at h1
  have h2:c=[]:=h1
  subst h2
  exact ⟨fun f hf=>(by cases hf),by simp⟩
end Go.Proofs.YtdhfpgjnjlcciaaGreatDoor.Co
end
