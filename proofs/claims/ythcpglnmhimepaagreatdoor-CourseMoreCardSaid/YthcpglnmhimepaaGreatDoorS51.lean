/- SortedG CentNum CsPlain CsLines -/
import Derived.Test.YthcpglnmhimepaaGreatDoorS49
section
namespace Go.Proofs.YthcpglnmhimepaaGreatDoor.G
open Go.RowKit
section
variable {α κ:Type} [KeyO κ] (key:α→κ)
variable {key}
theorem rise_perm {L M:List α} (hL:riseK key L=true) (hM:riseK key M=true) (h:L.Perm M):L=M:=by
 induction L generalizing M with
 | nil=>exact (List.nil_perm.1 h).symm
 | cons a L ih =>
   cases M with
   | nil=>exact absurd (List.perm_nil.1 h) (by simp)
   | cons b M =>
     have hab:a=b:=by
      rcases List.mem_cons.1 (h.mem_iff.1 (List.mem_cons_self (a:=a) (l:=L))) with e | h1
      ·exact e
      ·rcases List.mem_cons.1 (h.mem_iff.2 (List.mem_cons_self (a:=b) (l:=M))) with e | h2
       ·exact e.symm
       ·have h3:=KeyO.trans (riseK_head hL b h2) (riseK_head hM a h1)
        rw [KeyO.irr] at h3;cases h3
     subst hab
     rw [ih (riseK_tail hL) (riseK_tail hM) ((List.perm_cons a).1 h)]
theorem rise_nodup {L:List α} (h:riseK key L=true):(L.map key).Nodup:=by
 induction L with
 | nil=>exact List.nodup_nil
 | cons a L ih =>
   rw [List.map_cons,List.nodup_cons]
   refine ⟨fun hm=>?_,ih (riseK_tail h)⟩
   obtain ⟨y,hy,e⟩:=List.mem_map.1 hm
   have:=riseK_head h y hy
   rw [e,KeyO.irr] at this;cases this
end
section
variable {α κ:Type} [DecidableEq κ] (key:α→κ)
variable {key}
end
section
variable {α κ:Type} [DecidableEq κ] [KeyO κ] {key:α→κ}
end
end Go.Proofs.YthcpglnmhimepaaGreatDoor.G
end
section
namespace Go.Proofs.YthcpglnmhimepaaGreatDoor
open Go.Lib (decDigits itoa nDigits parseIntB parseUintB parseMag parseUint10)
theorem itoa_ne_nil (a:Int):itoa a≠[]:=by
 intro h
 have:=(whole_itoa a).1
 rw [h] at this
 cases this
end Go.Proofs.YthcpglnmhimepaaGreatDoor
end
section
namespace Go.Proofs.YthcpglnmhimepaaGreatDoor.Cs
open Go.RowKit Go.Proofs.YthcpglnmhimepaaGreatDoor.Un Go.Proofs.YthcpglnmhimepaaGreatDoor.Pk
theorem Inv.length {M:Mast} {l:List (List ByteArray)} {L:List Crs} (h:Inv M l L):L.length=l.length:=by rw [h.perm.length_eq,List.length_map]
theorem Inv.noKey {M:Mast} {l:List (List ByteArray)} {L:List Crs} (h:Inv M l L) {c:ByteArray × ByteArray × ByteArray} (hc:c ∉ l.map fun ws=>(readV ws).key):G.findK Crs.key L c=none:=by
 refine G.findK_none fun x hx e=>hc ?_
 obtain ⟨ws,hw,rfl⟩:=List.mem_map.1 (h.perm.mem_iff.1 hx)
 exact List.mem_map.2 ⟨ws,hw,e⟩
theorem run_of {M:Mast}:∀ (k:List (List ByteArray)) {l:List (List ByteArray)} {L:List Crs},Inv M l L→(∀ ws∈k,LineOk M ws)→((l++k).map fun ws=>(readV ws).key).Nodup→(l++k).length≤500→∃ N,runC M L k=(N,0)
 | [],l,L,_,_,_,_=>⟨L,rfl⟩
 | ws::k,l,L,h,hk,hn,hl=>by
   have hs:stepE M L ws=0:=by
    refine step_zero.2 ⟨hk ws List.mem_cons_self,h.noKey ?_,?_⟩
    ·intro hc
     rw [List.map_append,List.map_cons] at hn
     exact (List.nodup_append.1 hn).2.2 _ hc _ List.mem_cons_self rfl
    ·rw [h.length]
     simp only [List.length_append,List.length_cons] at hl
     omega
   rw [runC_cons _ hs]
   exact run_of k (h.step hs) (fun x hx=>hk x (List.mem_cons_of_mem _ hx)) (by simpa using hn) (by simpa using hl)
theorem RightX.back {M:Mast} {x:Crs} (h:RightX M x):LineOk M (wordsX x)∧readV (wordsX x)=x:=by
 obtain ⟨p1,p2,p3⟩:=prs_prt h.rate
 obtain ⟨s,f,c,n,d⟩:=x
 have hc:nmB c=true:=h.cur
 rcases h.sort with ⟨h1,h2⟩ | ⟨h1,h2⟩
 ·have h1':simB s=true:=h1
  have h2':f=emp:=h2
  subst h2'
  have e:wordsX ⟨s,emp,c,n,d⟩=[s,c,mkB (prt n d)]:=if_neg (sim_flow h1')
  have hv:readV [s,c,mkB (prt n d)]=⟨s,emp,c,n,d⟩:=by
   unfold readV rateW
   show (⟨s,if s=tFlow then c else emp,c,prsN (mkB (prt n d)).data.toList,prsD (mkB (prt n d)).data.toList⟩:Crs)=_
   rw [if_neg (sim_flow h1'),mkB_data,p2,p3]
  rw [e]
  refine ⟨⟨?_,?_,?_,?_⟩,hv⟩
  ·unfold formC
   show ((decide True && simB s && nmB c) || _)=true
   rw [h1',hc];simp
  ·show prsE (mkB (prt n d)).data.toList=0
   rw [mkB_data];exact p1
  ·rw [hv];exact h.flow
  ·rw [hv];exact h.ne
 ·have h1':s=tFlow:=h1
  subst h1'
  have e:wordsX ⟨tFlow,f,c,n,d⟩=[tFlow,f,c,mkB (prt n d)]:=if_pos rfl
  have hv:readV [tFlow,f,c,mkB (prt n d)]=⟨tFlow,f,c,n,d⟩:=by
   unfold readV rateW
   show (⟨tFlow,if tFlow=tFlow then f else emp,c,prsN (mkB (prt n d)).data.toList,prsD (mkB (prt n d)).data.toList⟩:Crs)=_
   rw [if_pos rfl,mkB_data,p2,p3]
  rw [e]
  refine ⟨⟨?_,?_,?_,?_⟩,hv⟩
  ·unfold formC
   show (_ || (decide True && decide (tFlow=tFlow) && nmB f && nmB c))=true
   rw [show nmB f=true from h2,hc];simp
  ·show prsE (mkB (prt n d)).data.toList=0
   rw [mkB_data];exact p1
  ·rw [hv];exact h.flow
  ·rw [hv];exact h.ne
theorem map_back {M:Mast}:∀ {L:List Crs},(∀ x∈L,RightX M x)→(L.map wordsX).map readV=L
 | [],_=>rfl
 | x::L,h=>by
   rw [List.map_cons,List.map_cons,(h x List.mem_cons_self).back.2,map_back fun y hy=>h y (List.mem_cons_of_mem _ hy)]
theorem run_words {M:Mast} {l:List (List ByteArray)} {L:List Crs} (h:Inv M l L):runC M [] (L.map wordsX)=(L,0):=by
 have hr:=h.rightX
 have e:=map_back hr
 obtain ⟨N,hN⟩:=run_of (L.map wordsX) (Inv.zero M) (fun ws hw=>by
  obtain ⟨x,hx,rfl⟩:=List.mem_map.1 hw
  exact (hr x hx).back.1) (by
  rw [List.nil_append,show (L.map wordsX).map (fun ws=>(readV ws).key)=((L.map wordsX).map readV).map Crs.key by simp only [List.map_map];rfl,e]
  exact G.rise_nodup h.rise) (by rw [List.nil_append,List.length_map];exact h.len)
 have hi:=run_zero_of hN
 rw [hN,G.rise_perm hi.rise h.rise (by have:=hi.perm;rw [e] at this;exact this)]
theorem nm_right {s:ByteArray} (h:nmB s=true):rightL s.data.toList=true:=by
 unfold nmB nameL at h
 simp only [Bool.and_eq_true,decide_eq_true_eq] at h
 unfold rightL
 rw [Bool.and_eq_true,decide_eq_true_eq]
 refine ⟨fun e=>by rw [e] at h;simp at h,?_⟩
 have h2:=h.2
 rw [List.all_eq_true] at h2 ⊢
 intro c hc
 have h3:=h2 c hc
 unfold inB at h3
 unfold rwB
 simp only [decide_eq_true_eq] at h3 ⊢
 omega
theorem dec_rw (u:Nat):(Lib.decDigits u).all rwB=true:=by
 have:=digs_dec u
 unfold digs at this
 rw [List.all_eq_true] at this ⊢
 intro x hx
 have:=(dig_iff x).1 (this x hx)
 unfold rwB
 rw [decide_eq_true_eq]
 omega
theorem itoa_rw (n:Int):(Lib.itoa n).all rwB=true:=by
 unfold Lib.itoa
 split
 ·rw [List.all_cons,dec_rw];rfl
 ·exact dec_rw _
theorem prt_right {n d:Int} (h:rightB n d=true):rightL (prt n d)=true:=by
 unfold prt
 rw [if_pos h]
 unfold rightL
 rw [Bool.and_eq_true,decide_eq_true_eq]
 split
 ·exact ⟨itoa_ne_nil n,itoa_rw n⟩
 ·refine ⟨by simp,?_⟩
  rw [List.all_append,List.all_cons,itoa_rw,itoa_rw];rfl
theorem words_right {M:Mast} {x:Crs} (h:RightX M x):rightW (wordsX x):=by
 have hp:rightL (mkB (prt x.num x.den)).data.toList=true:=by rw [mkB_data];exact prt_right h.rate
 unfold wordsX
 split
 ·rename_i e
  refine ⟨by simp,fun y hy=>?_⟩
  simp only [List.mem_cons,List.not_mem_nil,or_false] at hy
  rcases hy with rfl | rfl | rfl | rfl
  ·rw [e];decide
  ·rcases h.sort with ⟨h1,_⟩ | ⟨_,h1⟩
   ·exact absurd e (sim_flow h1)
   ·exact nm_right h1
  ·exact nm_right h.cur
  ·exact hp
 ·rename_i e
  refine ⟨by simp,fun y hy=>?_⟩
  simp only [List.mem_cons,List.not_mem_nil,or_false] at hy
  rcases hy with rfl | rfl | rfl
  ·rcases h.sort with ⟨h1,_⟩ | ⟨h1,_⟩
   ·unfold simB at h1
    simp only [Bool.or_eq_true,decide_eq_true_eq] at h1
    rcases h1 with (h1 | h1) | h1 <;> rw [h1] <;> decide
   ·exact absurd h1 e
  ·exact nm_right h.cur
  ·exact hp
end Go.Proofs.YthcpglnmhimepaaGreatDoor.Cs
end
section
namespace Go.Proofs.YthcpglnmhimepaaGreatDoor.Cs
open Go.RowKit Go.Proofs.YthcpglnmhimepaaGreatDoor.Un Go.Proofs.YthcpglnmhimepaaGreatDoor.Pk
open Go.Lib (itoa)
structure TurnAt (w0 wx:World) (g:Nat) (v:Value) (T:List Crs):Prop where
 cell:wx.cell? ⟨g,0,none⟩=some v
 tab:TabV wx v T
 bel:Below w0.heap.size w0 wx
end Go.Proofs.YthcpglnmhimepaaGreatDoor.Cs
end
