/- FlowClone FlowInsert -/
import Derived.Handy
import Derived.Laws.Externs
import Derived.Laws.NewBlocks
import Derived.Laws.Slices
import Derived.Lib.SliceRun
import Derived.Lib.Walk
import Derived.Maps.AppendAt
import Derived.Maps.Range
import Derived.OwnWalk
import Derived.Test.YthcpglnmhimepaaGreatDoorS07
section
namespace Go.Proofs.YthcpglnmhimepaaGreatDoor.Fl
open Go.RowKit
theorem gen_info:(Tryz.prog.info? 70).map (fun i=>(i.zero,i.size,i.bytes))=some (some (.agg #[.string ⟨#[]⟩,.int .i64 0]),2,24):=by kernel_rfl
theorem gen_length (L:List Flow):(flat encF L).length=L.length * 2:=flat_length L
theorem gen_take (L:List Flow) (k:Nat):flat encF (L.take k)=(flat encF L).take (k * 2):=flat_take L k
theorem gen_drop (L:List Flow) (k:Nat):flat encF (L.drop k)=(flat encF L).drop (k * 2):=flat_drop L k
def RowTold (w:World) (L:List Flow) (e:Ending) (w':World):Prop:=∃ v,e=.returned v∧w'.ownsRow w.heap.size 70 2 v L.length (flat encF L)∧Below w.heap.size w w'
set_option maxRecDepth 100000 in
set_option maxHeartbeats 2000000 in
theorem clone_any (v:Value) (L:List Flow) (w:World) (h:ElsV encF w v L) (hL:L.length≤1000) :
 Calls Tryz.prog 146 #[v] w (RowTold w L):=by
 have HV:=Lib.hid h
 obtain ⟨p,c,rfl,hcap,hm,hp,hc⟩:=h
 have hq:∀ (w:World) (a:Option Addr) (n c n' c':Nat),(binOp .eql 26 (.slice a n c) (.slice none n' c')).run Tryz.prog w=.ok (.bool a.isNone) w:=fun w a n c n' c'=>Lib.run_eql_slice_nil w _ _ a n c n' c' Tryz.underlying26
 obtain ⟨i0,hi,hz0,hz1,hz2⟩:=info_parts gen_info
 have HI:=Lib.hid (And.intro hi (And.intro hz0 (And.intro hz1 hz2)))
 clear hi hz0 hz1 hz2 hc
 unfold maxLen at hm
 cases p with
 | none =>
   have h0:=hp rfl
   have:L=[]:=List.eq_nil_of_length_eq_zero (by omega)
   subst this
   clear HV hp
   go_enter Tryz.func146,Tryz.ntmps146
   go_wp2
   go_ret
   exact ⟨_,rfl,World.ownsRow_nil _ _ _ _,Below.refl _ _⟩
 | some ad =>
   have HC:Hid (∀ (j:Nat) u,(flat encF L)[j]?=some u→w.cell? (ad.add j)=some u):=Lib.hid (fun j u hj=>by
    by_cases hne:L=[]
    ·subst hne;simp [flat] at hj
    ·obtain ⟨b,o,e,_,hcell⟩:=HV.out.cells hne
     cases e
     rw [add_off];exact hcell j u hj)
   obtain ⟨n,hn⟩:∃ n,L.length=n:=⟨_,rfl⟩
   have HN:=Lib.hid hn
   rw [hn] at hcap hL ⊢
   clear hn hp HV
   go_enter Tryz.func146,Tryz.ntmps146
   go_wp2_with (at_builtin;refine wpList_append_own _ rfl _ _ 26 rfl w.heap.size 70 i0 (.agg #[.string ⟨#[]⟩,.int .i64 0]) 2 24 Tryz.underlying26 HI.out.1 HI.out.2.1 HI.out.2.2.1 HI.out.2.2.2 rfl (by decide) _ _ _ rfl (World.ownsRow_made w #[] 0 (Nat.le_refl _) (Nat.zero_le _) (by simp)) ad n c (flat encF L) rfl ?qc1 ?qc2 ?qc3 ?qc4 ?qc5 ?qc6 ?_)
   case qc1=>rw [gen_length,HN.out]
   case qc2=>exact fun j u hj=>Lib.cell?_alloc_some _ (HC.out j u hj)
   case qc3=>exact flat_ones L
   case qc4=>rw [Nat.zero_add];unfold maxLen;omega
   case qc5=>rw [Nat.zero_add];omega
   case qc6=>simp
   intro v' w1 hown hgrow hnil
   have HOW:Hid (w1.ownsRow w.heap.size 70 2 v' L.length (flat encF L)):=Lib.hid (by rw [HN.out];simpa using hown)
   have HBL:=Lib.hid (((Below.refl _ w).alloc (Nat.le_refl _) (.cells #[] 70)).grown hgrow (by simp) (by intro k hk;simp [Value.ownBlock] at hk;omega))
   clear hown hgrow hnil
   go_wp2
   go_ret
   exact ⟨v',rfl,HOW.out,HBL.out⟩
end Go.Proofs.YthcpglnmhimepaaGreatDoor.Fl
end
section
namespace Go.Proofs.YthcpglnmhimepaaGreatDoor.Fl
open Go.RowKit
theorem ins_u:Tryz.prog.underlying 26=some (.slice (Tryz.prog.elem 26)):=by kernel_rfl
theorem ins_s (w:World):(sizeOf (Tryz.prog.elem 26)).run Tryz.prog w=.ok 2 w:=by kernel_rfl
theorem ins_sz:(Tryz.prog.info? 70).map (·.size)=some 2:=by kernel_rfl
theorem ins_size (w:World):(sizeOf 70).run Tryz.prog w=.ok 2 w:=by kernel_rfl
theorem from_at (w:World) (g n c k:Nat) (z:Int) (hz:z=(k:Int)) (hk:k≤n) (hc:k < c):(Instr.slice 26 (.slice (some ⟨g,0,none⟩) n c) (some (.int .i64 z)) none none).run Tryz.prog w=.ok (.slice (some ⟨g,k * 2,none⟩) (n - k) (c - k)) w:=by
 subst hz
 rw [run_slice_l w 26 _ n c ins_u .i64 (k:Int) (by omega) (by omega),ins_s]
 have:¬ c=k:=by omega
 simp [Result.andThen,sliced,this,add_off]
theorem upto_at (w:World) (g n c k:Nat) (z:Int) (hz:z=(k:Int)) (hk:k≤c):(Instr.slice 26 (.slice (some ⟨g,0,none⟩) n c) none (some (.int .i64 z)) none).run Tryz.prog w=.ok (.slice (some ⟨g,0,none⟩) k c) w:=by
 subst hz
 rw [run_slice_h w 26 _ n c ins_u .i64 (k:Int) (by omega) (by omega),ins_s]
 simp [Result.andThen,sliced,Addr.add]
theorem overlaps_no (w:World) (vb g off lb cb:Nat) (x:Flow) (cur:Array Value) (hne:vb≠g) (hx:BoxE encF w vb 70 x) (hg:w.heap[g]?=some (.cells cur 70 (0,0))) (h0:cur.size≠0) :
 (callFunc 166 #[.slice (some ⟨vb,0,none⟩) 1 1,.slice (some ⟨g,off,none⟩) lb cb]).run Tryz.prog w=.ok (.value (.bool false)) w:=by
 unfold BoxE encF at hx
 rw [run_callFunc_extern Tryz.func166 (by kernel_rfl) (by kernel_rfl) (by kernel_rfl) (e:=Extern.SlicesOverlaps.overlaps #[25,25] #[4]) (by kernel_rfl),
  Lib.run_overlaps_apart w 25 4 70 Tryz.underlying25 2 ins_size ⟨vb,0,none⟩ ⟨g,off,none⟩ 1 1 lb cb hne 70 70 2 cur.size (by simp [World.shape?,hx]) (by simp [World.shape?,hg]) h0 (by simp [World.frozen?,hx]) (by simp [World.frozen?,hx])]
 rfl
theorem ins_cells (L:List Flow) (x:Flow) (i:Nat):flat encF (L.take i++x::L.drop i)=(flat encF L).take (i * 2)++((encF.cs x)++(flat encF L).drop (i * 2)):=by
 rw [flat_append,flat_cons,gen_take,gen_drop]
def InsOwn (w:World) (B:Nat) (v0:Value) (M:List Flow) (e:Ending) (w':World):Prop:=∃ v,e=.returned v∧w'.ownsRow B 70 2 v M.length (flat encF M)∧w.grownBy w' v0.ownBlock
theorem grownBy_drewN (w:World) (q:Nat) (row:Option Nat):w.grownBy (w.drewN q) row:=⟨rfl,rfl,rfl,Nat.le_refl _,fun _ _ _=>rfl⟩
theorem grownBy_of_below {w w':World} (h:Below w.heap.size w w') (row:Option Nat):w.grownBy w' row:=⟨h.os,h.tape,h.output,h.size,fun j hj _=>h.block j hj⟩
set_option maxRecDepth 100000 in
set_option maxHeartbeats 4000000 in
theorem insert_end (v:Value) (L:List Flow) (x:Flow) (vb B:Nat) (w:World) (h:w.ownsRow B 70 2 v L.length (flat encF L)) (hB:B≤w.heap.size) (hx:BoxE encF w vb 70 x) (hL:L.length≤1000) :
 Calls Tryz.prog 147 #[v,.int .i64 (L.length:Int),.slice (some ⟨vb,0,none⟩) 1 1] w (InsOwn w B v (L.take L.length++x::L.drop L.length)):=by
 have HM:Hid (L.take L.length++x::L.drop L.length=L++[x]):=Lib.hid (by simp)
 rw [HM.out]
 obtain ⟨i0,hi,hz0,hz1,hz2⟩:=info_parts gen_info
 have hcx:∀ (j:Nat) u,(encF.cs x)[j]?=some u→w.cell? ((⟨vb,0,none⟩:Addr).add j)=some u:=fun j u hj=>by rw [add_off];exact hx.at0 j u hj
 have HOW:=Lib.hid h
 have hv:∃ p c,v=.slice p L.length c∧L.length≤c∧c≤maxLen∧(p=none→c=0)∧(∀ a,p=some a→∃ g,a=⟨g,0,none⟩):=by
  rcases h.2 with ⟨rfl,hn⟩ | ⟨g,cap,cur,rfl,_,_,hnc,hcm,_⟩
  ·exact ⟨none,0,by rw [hn],by omega,by simp,fun _=>rfl,fun a e=>by cases e⟩
  ·exact ⟨_,cap,rfl,hnc,hcm,(fun e=>by cases e),fun a e=>by cases e;exact ⟨g,rfl⟩⟩
 obtain ⟨p,c,rfl,hnc,hcm,hpn,hps⟩:=hv
 obtain ⟨v',w',hr,h2,h3,_⟩:=run_append_own (P:=Tryz.prog) w B 26 26 70 i0 _ 2 24 Tryz.underlying26 hi hz0 hz1 hz2 rfl (by decide) _ _ _ h ⟨vb,0,none⟩ 1 1 (encF.cs x) rfl hcx (encF.one x) (by unfold maxLen;omega) (by omega) hB
 have hra:(Builtin.append_ #[26,25] 26 #[.slice p L.length c,.slice (some ⟨vb,0,none⟩) 1 1]).run Tryz.prog w=.ok v' w':=by
  rw [append_types w _ _ _ _ _ i0 Tryz.underlying26 Tryz.underlying25 hi];exact hr
 have HRA:=Lib.hid hra
 have HCV:Hid (w'.ownsRow B 70 2 v' (L++[x]).length (flat encF (L++[x]))):=Lib.hid (by
  have:w'.ownsRow B 70 2 v' (L++[x]).length (flat encF (L++[x])):=by
   rw [List.length_append,flat_append,show flat encF [x]=encF.cs x from flat_one x];exact h2
  exact this)
 have HBL:=Lib.hid h3
 obtain ⟨n,hn⟩:∃ n,L.length=n:=⟨_,rfl⟩
 rw [hn] at HRA hL hnc ⊢
 unfold maxLen at hcm
 clear hr h2 h3 hra h HOW hn hi hz0 hz1 hz2 hcx
 cases p with
 | none =>
   have hc0:=hpn rfl
   obtain rfl:n=0:=by omega
   subst hc0
   go_enter Tryz.func147,Tryz.ntmps147
   go_wp2_with (at_builtin;refine Lib.wpList_append_run _ rfl _ _ _ _ rfl _ _ rfl rfl v' w' HRA.out ?_)
   go_ret
   exact ⟨v',rfl,HCV.out,HBL.out⟩
 | some a =>
   obtain ⟨g,rfl⟩:=hps a rfl
   have hnn:(n:Int)≤(n:Int):=Int.le_refl _
   by_cases hcn:c=n
   ·subst hcn
    go_enter Tryz.func147,Tryz.ntmps147
    go_wp2_with (at_builtin;refine Lib.wpList_append_run _ rfl _ _ _ _ rfl _ _ rfl rfl v' w' HRA.out ?_)
    go_ret
    exact ⟨v',rfl,HCV.out,HBL.out⟩
   ·have e1:=from_at (z:=(n:Int)) (g:=g) (n:=n) (c:=c) (k:=n) (hz:=rfl) (hk:=Nat.le_refl _) (hc:=by omega)
    go_enter Tryz.func147,Tryz.ntmps147
    go_wp2_with (at_builtin;refine Lib.wpList_append_run _ rfl _ _ _ _ rfl _ _ rfl rfl v' w' HRA.out ?_)
    go_ret
    exact ⟨v',rfl,HCV.out,HBL.out⟩
set_option maxRecDepth 100000 in
set_option maxHeartbeats 4000000 in
theorem insert_room (g cap:Nat) (cur:Array Value) (L:List Flow) (x:Flow) (i vb B:Nat) (w:World) (hBg:B≤g) (hg:w.heap[g]?=some (.cells cur 70 (0,0))) (hcap:cap≤maxLen) (hcs:cur.size=cap * 2) (htk:cur.toList.take (L.length * 2)=flat encF L)
 (hx:BoxE encF w vb 70 x) (hne:vb≠g) (hi:i < L.length) (hr:L.length+1≤cap) :
 Calls Tryz.prog 147 #[.slice (some ⟨g,0,none⟩) L.length cap,.int .i64 (i:Int),.slice (some ⟨vb,0,none⟩) 1 1] w (InsOwn w B (.slice (some ⟨g,0,none⟩) L.length cap) (L.take i++x::L.drop i)):=by
 obtain ⟨M,hM⟩:∃ M,L.take i++x::L.drop i=M:=⟨_,rfl⟩
 obtain ⟨n,hn⟩:∃ n,L.length=n:=⟨_,rfl⟩
 have hML:M.length=n+1:=by rw [←hM,←hn];simp;omega
 obtain ⟨A,hA⟩:∃ A,(flat encF L).take (i * 2)=A:=⟨_,rfl⟩
 obtain ⟨D,hD⟩:∃ D,(flat encF L).drop (i * 2)=D:=⟨_,rfl⟩
 have hFM:flat encF M=A++((encF.cs x)++D):=by rw [←hM,ins_cells,hA,hD]
 have hFL:flat encF L=A++D:=by rw [←hA,←hD,List.take_append_drop]
 have hFlen:=gen_length L
 rw [hn] at hFlen htk hi hr ⊢
 have hAl:A.length=i * 2:=by rw [←hA,List.length_take,hFlen];omega
 have hDl:D.length=(n - i) * 2:=by rw [←hD,List.length_drop,hFlen];omega
 obtain ⟨S,hS⟩:∃ S,cur.toList.drop (n * 2)=S:=⟨_,rfl⟩
 have hcur:cur.toList=A++(D++S):=by rw [←List.take_append_drop (n * 2) cur.toList,htk,hS,hFL,List.append_assoc]
 have hSl:S.length=(cap - n) * 2:=by rw [←hS,List.length_drop,Array.length_toList,hcs];omega
 have hXl:(encF.cs x).length=2:=rfl
 have hg':w.heap[g]?=some (.cells (A++(D++S)).toArray 70 (0,0)):=by rw [←hcur];simpa using hg
 have hDone:∀ v∈D,v.oneCell'=true:=fun v hv=>flat_ones L v (by rw [hFL];simp [hv])
 have HG:=Lib.hid hg'
 have HX:=Lib.hid hx
 have HM:=Lib.hid hM
 have HOV:=Lib.hid (fun off lb cb=>overlaps_no w vb g off lb cb x cur hne hx hg (by rw [hcs];omega))
 have HSRC:Hid (∀ (w':World),w'.heap[g]?=w.heap[g]?→∀ (j:Nat) v,D[j]?=some v→w'.cell? ((⟨g,i * 2,none⟩:Addr).add j)=some v):=Lib.hid (fun w' hw' j v hj=>by
  rw [add_off,cell_of_row _ g (i * 2+j) _ 70 (0,0) (hw'.trans hg')]
  simp only [List.getElem?_toArray]
  rw [←hAl,List.getElem?_append_right (by omega),Nat.add_sub_cancel_left,List.getElem?_append_left (List.getElem?_eq_some_iff.1 hj).1]
  exact hj)
 have HL:=Lib.hid (And.intro hML (And.intro hFM (And.intro hAl (And.intro hDl (And.intro hSl hDone)))))
 rw [hM]
 unfold maxLen at hcap
 have e0:=fun wq=>from_at (w:=wq) (z:=(i:Int)) (g:=g) (n:=n) (c:=cap) (k:=i) (hz:=rfl) (hk:=by omega) (hc:=by omega)
 have e1:=fun wq=>upto_at (w:=wq) (z:=(n:Int)+1) (g:=g) (n:=n) (c:=cap) (k:=n+1) (hz:=by omega) (hk:=by omega)
 have e2:=fun wq=>from_at (w:=wq) (z:=(i:Int)+1) (g:=g) (n:=n+1) (c:=cap) (k:=i+1) (hz:=by omega) (hk:=by omega) (hc:=by omega)
 have e3:=fun wq=>from_at (w:=wq) (z:=(i:Int)) (g:=g) (n:=n+1) (c:=cap) (k:=i) (hz:=rfl) (hk:=by omega) (hc:=by omega)
 have hz1:¬ ((i:Int)=(n:Int)):=by omega
 have hz2:¬ ((cap:Int) < (n:Int)+1):=by omega
 have hw1:IntKind.i64.wrap ((i:Int)+1)=(i:Int)+1:=by rw [IntKind.wrap_i64];omega
 have hov:=HOV.out
 clear hFlen hcur hS hFL hA hD hn hM hML hFM hAl hDl hSl hXl hg hg' hDone htk hcs hx HOV
 go_enter Tryz.func147,Tryz.ntmps147
 go_wp2_with (simp only [hov])
 go_region_law (refine step_copyK rfl (.tmp 73) (.tmp 76) 26 26 rfl 70 Tryz.underlying26 2 ins_sz (some ⟨g,(i+1) * 2,none⟩) (some ⟨g,i * 2,none⟩) (n+1 - (i+1)) (cap - (i+1)) (n+1 - i) (cap - i) (by simp [Act.eval,Act.put]) (by simp [Act.eval,Act.put]) g ((i+1) * 2) (A++(D++S)) 70 HG.out D (n - i) (by simp only [Nat.min_def];split <;> omega) HL.out.2.2.2.1 rfl ⟨g,i * 2,none⟩ rfl (HSRC.out _ rfl) (by have h:=HL.out;simp only [List.length_append];omega) HL.out.2.2.2.2.2 ?_;intro w1 hg1 hgr1)
 have HG1:=Lib.hid hg1.out
 have HGR1:=Lib.hid hgr1
 have HX1:Hid (BoxE encF w1 vb 70 x):=Lib.hid (by
  have hb:=HX.out
  have hlt:vb < w.heap.size:=(Array.getElem?_eq_some_iff.1 hb).1
  exact (hgr1.block vb hlt (fun e=>hne (Option.some.inj e))).trans hb)
 clear hg1 hgr1
 go_wp2_with (refine wpList_copyK rfl (.tmp 80) (.tmp 81) 26 25 rfl 70 Tryz.underlying26 2 ins_sz _ _ _ _ _ _ rfl rfl g (i * 2) (splice (A++(D++S)) ((i+1) * 2) D) 70 HG1.out (encF.cs x) 1 (by simp only [Nat.min_def];split <;> omega) rfl rfl ⟨vb,0,none⟩ rfl (fun j u hj=>by rw [add_off];exact HX1.out.at0 j u hj) (by have h:=HL.out;rw [length_splice _ _ _ (by simp only [List.length_append];omega)];simp only [List.length_append];show _+2≤_;omega) (encF.one x) ?_;intro w2 hg2 hgr2)
 have HF:Hid (w2.ownsRow B 70 2 (.slice (some ⟨g,0,none⟩) (n+1) cap) M.length (flat encF M)):=Lib.hid (by
  obtain ⟨hML,hFM,hAl,hDl,hSl,_⟩:=HL.out
  have hsp:splice (splice (A++(D++S)) ((i+1) * 2) D) (i * 2) (encF.cs x)=A++((encF.cs x)++(D++(D++S).drop (2+D.length))):=by
   rw [show (i+1) * 2=A.length+(encF.cs x).length by rw [hAl];show _=_+2;omega,show i * 2=A.length from hAl.symm]
   exact splice_back A (encF.cs x) D (D++S) (by simp only [List.length_append];show 2+_≤_;omega)
  have hh:=hg2.out
  rw [hsp] at hh
  have own:w2.ownsRow B 70 2 (.slice (some ⟨g,0,none⟩) M.length cap) M.length (flat encF M):=by
   refine ⟨gen_length M,.inr ⟨g,cap,_,rfl,hBg,hh,by omega,by unfold maxLen;omega,?_,?_⟩⟩
   ·simp only [List.size_toArray,List.length_append,List.length_drop]
    show _+(2+_)=_
    omega
   ·rw [hFM,hML]
    have:(A++((encF.cs x)++D)).length=(n+1) * 2:=by simp only [List.length_append];show _+(2+_)=_;omega
    rw [←this,show A++((encF.cs x)++(D++(D++S).drop (2+D.length)))=(A++((encF.cs x)++D))++(D++S).drop (2+D.length) by simp]
    exact List.take_left
  rw [←hML]
  exact own)
 have HBL:Hid (w.grownBy w2 (some g)):=Lib.hid (((grownBy_drewN w 1 (some g)).trans HGR1.out).trans hgr2)
 clear hg2 hgr2
 go_ret
 exact ⟨_,rfl,HF.out,HBL.out⟩
set_option maxRecDepth 100000 in
set_option maxHeartbeats 4000000 in
theorem insert_grow (g cap:Nat) (cur:Array Value) (L:List Flow) (x:Flow) (i vb B:Nat) (w:World) (hg:w.heap[g]?=some (.cells cur 70 (0,0))) (hcap:cap≤maxLen) (hcs:cur.size=cap * 2) (htk:cur.toList.take (L.length * 2)=flat encF L)
 (hB:B≤w.heap.size) (hx:BoxE encF w vb 70 x) (hi:i < L.length) (hnc:L.length≤cap) (hr:cap < L.length+1) (hL:L.length≤1000) :
 Calls Tryz.prog 147 #[.slice (some ⟨g,0,none⟩) L.length cap,.int .i64 (i:Int),.slice (some ⟨vb,0,none⟩) 1 1] w (InsOwn w B (.slice (some ⟨g,0,none⟩) L.length cap) (L.take i++x::L.drop i)):=by
 obtain ⟨M,hM⟩:∃ M,L.take i++x::L.drop i=M:=⟨_,rfl⟩
 obtain ⟨n,hn⟩:∃ n,L.length=n:=⟨_,rfl⟩
 have hML:M.length=n+1:=by rw [←hM,←hn];simp;omega
 obtain ⟨A,hA⟩:∃ A,(flat encF L).take (i * 2)=A:=⟨_,rfl⟩
 obtain ⟨D,hD⟩:∃ D,(flat encF L).drop (i * 2)=D:=⟨_,rfl⟩
 have hFM:flat encF M=A++((encF.cs x)++D):=by rw [←hM,ins_cells,hA,hD]
 have hFL:flat encF L=A++D:=by rw [←hA,←hD,List.take_append_drop]
 have hFlen:=gen_length L
 rw [hn] at hFlen htk hi hr hnc hL ⊢
 obtain rfl:cap=n:=by omega
 have hAl:A.length=i * 2:=by rw [←hA,List.length_take,hFlen];omega
 have hDl:D.length=(cap - i) * 2:=by rw [←hD,List.length_drop,hFlen];omega
 have hcur:cur.toList=A++D:=by rw [←hFL,←htk,List.take_of_length_le (by rw [Array.length_toList,hcs];exact Nat.le_refl _)]
 have hg':w.heap[g]?=some (.cells (A++D).toArray 70 (0,0)):=by rw [←hcur];simpa using hg
 have hDone:∀ v∈D,v.oneCell'=true:=fun v hv=>flat_ones L v (by rw [hFL];simp [hv])
 obtain ⟨i0,hi0,hz0,hz1,hz2⟩:=info_parts gen_info
 have hgl:g < w.heap.size:=(Array.getElem?_eq_some_iff.1 hg).1
 have hvl:vb < w.heap.size:=(Array.getElem?_eq_some_iff.1 hx).1
 have hAt:∀ (j:Nat) v,A[j]?=some v→w.cell? ((⟨g,0,none⟩:Addr).add j)=some v:=fun j v hj=>by
  rw [add_off,Nat.zero_add,cell_of_row _ g j _ 70 (0,0) hg']
  simp only [List.getElem?_toArray]
  rw [List.getElem?_append_left (List.getElem?_eq_some_iff.1 hj).1];exact hj
 have hold:(Builtin.firstCells i0.size i (.slice (some ⟨g,0,none⟩) i cap)).run Tryz.prog w.drew=.ok A.toArray w.drew:=by
  rw [hz1];exact run_firstCells_some w.drew 2 i ⟨g,0,none⟩ i cap A hAl hAt
 have hk:i+(cap+1 - i)=cap+1:=by omega
 have hrz:∀ ty,(Builtin.append_ #[26,3] ty #[.slice (some ⟨g,0,none⟩) i cap,.int .i64 ((cap+1 - i:Nat):Int)]).run Tryz.prog w=_:=fun ty =>
  Lib.run_append_grow_zeros w 26 3 ty 70 i0 _ .i64 .i64 Tryz.underlying26 Tryz.underlying3 hi0 hz0 (some ⟨g,0,none⟩) i cap A hold (cap+1 - i) (by omega) (by omega) (by omega) (by omega) (by rw [hz2];omega) (by rw [hz2,hk];exact growslice_fits (by omega) (by omega))
 rw [hk] at hrz
 obtain ⟨G,hG⟩:∃ G,grownCap w (cap+1) cap 70=G:=⟨_,rfl⟩
 have hGge:cap+1≤G:=by rw [←hG];exact grownCap_ge w _ _ _
 have hGle:G≤maxLen:=by rw [←hG];exact grownCap_le_maxLen w _ _ _ (by unfold maxLen;omega)
 rw [hG] at hrz
 obtain ⟨Z,hZ⟩:∃ Z:List Value,(Builtin.zeroCells (Value.agg #[.string ⟨#[]⟩,.int .i64 0]).cells (cap+1 - i)++Builtin.zeroCells (Value.agg #[.string ⟨#[]⟩,.int .i64 0]).cells (G - (cap+1))).toList=Z:=⟨_,rfl⟩
 have hZl:Z.length=(cap+1 - i) * 2+(G - (cap+1)) * 2:=by rw [←hZ];simp [Builtin.zeroCells,Value.cells]
 obtain ⟨W1,hW1⟩:∃ W1,w.drew.alloc (.cells (A++Z).toArray 70)=W1:=⟨_,rfl⟩
 have hrow:(A.toArray++Builtin.zeroCells (Value.agg #[.string ⟨#[]⟩,.int .i64 0]).cells (cap+1 - i)++Builtin.zeroCells (Value.agg #[.string ⟨#[]⟩,.int .i64 0]).cells (G - (cap+1)))=(A++Z).toArray:=by
  rw [←hZ];apply Array.ext';simp
 rw [hrow,hW1] at hrz
 have hG1:W1.heap[w.heap.size]?=some (.cells (A++Z).toArray 70 (0,0)):=by rw [←hW1];exact heap_alloc_new w.drew _
 have hB1:Below w.heap.size w W1:=by rw [←hW1];exact (below_drewN (Below.refl w.heap.size w) 1).alloc (Nat.le_refl _) _
 have HG1:=Lib.hid hG1
 have HB1:=Lib.hid hB1
 have HX1:Hid (BoxE encF W1 vb 70 x):=Lib.hid (hx.keep hB1 hvl)
 have HGO:Hid (W1.heap[g]?=some (.cells (A++D).toArray 70 (0,0))):=Lib.hid ((hB1.block g hgl).trans hg')
 have HL:=Lib.hid (And.intro hML (And.intro hFM (And.intro hAl (And.intro hDl (And.intro hZl hDone)))))
 have HRZ:=Lib.hid (hrz 26)
 rw [hM]
 unfold maxLen at hcap hGle
 have hki:((cap:Int)+1 - (i:Int))=((cap+1 - i:Nat):Int):=by omega
 have HKI:=Lib.hid hki
 have e0:=fun wq=>from_at (w:=wq) (z:=(i:Int)) (g:=g) (n:=cap) (c:=cap) (k:=i) (hz:=rfl) (hk:=by omega) (hc:=by omega)
 have e1:=fun wq=>upto_at (w:=wq) (z:=(i:Int)) (g:=g) (n:=cap) (c:=cap) (k:=i) (hz:=rfl) (hk:=by omega)
 have e2:=fun wq=>from_at (w:=wq) (z:=(i:Int)+1) (g:=w.heap.size) (n:=cap+1) (c:=G) (k:=i+1) (hz:=by omega) (hk:=by omega) (hc:=by omega)
 have e3:=fun wq=>from_at (w:=wq) (z:=(i:Int)) (g:=w.heap.size) (n:=cap+1) (c:=G) (k:=i) (hz:=rfl) (hk:=by omega) (hc:=by omega)
 have hz1':¬ ((i:Int)=(cap:Int)):=by omega
 have hz2':((cap:Int) < (cap:Int)+1):=by omega
 have hw1:IntKind.i64.wrap ((i:Int)+1)=(i:Int)+1:=by rw [IntKind.wrap_i64];omega
 have HGL:=Lib.hid hgl
 clear hFlen hcur hFL hA hD hn hM hML hFM hAl hDl hg hg' hDone htk hcs hx hZ hZl hW1 hrow hrz hG1 hB1 hG hold hAt hi0 hz0 hz1 hz2 hk hki hgl hvl
 go_enter Tryz.func147,Tryz.ntmps147
 go_wp2_with (first
  | (at_builtin;refine Lib.wpList_append_run _ rfl _ _ _ _ rfl _ _ rfl rfl _ W1 (by rw [HKI.out];exact HRZ.out) ?_)
  | (refine wpList_copyK rfl (.tmp 43) (.tmp 44) 26 25 rfl 70 Tryz.underlying26 2 ins_sz _ _ _ _ _ _ rfl rfl w.heap.size (i * 2) (A++Z) 70 HG1.out (encF.cs x) 1 (by simp only [Nat.min_def];split <;> omega) rfl rfl ⟨vb,0,none⟩ rfl (fun j u hj=>by rw [add_off];exact HX1.out.at0 j u hj) (by have h:=HL.out;simp only [List.length_append];show _+2≤_;omega) (encF.one x) ?_;intro w2 hg2 hgr2))
 have HG2:=Lib.hid hg2.out
 have HGR2:=Lib.hid hgr2
 have HGO2:Hid (w2.heap[g]?=some (.cells (A++D).toArray 70 (0,0))):=Lib.hid ((hgr2.block g (Nat.lt_of_lt_of_le HGL.out HB1.out.size) (fun e=>by have:=Option.some.inj e;have:=HGL.out;omega)).trans HGO.out)
 have HSRC:Hid (∀ (j:Nat) v,D[j]?=some v→w2.cell? ((⟨g,i * 2,none⟩:Addr).add j)=some v):=Lib.hid (fun j v hj=>by
  rw [add_off,cell_of_row _ g (i * 2+j) _ 70 (0,0) HGO2.out]
  simp only [List.getElem?_toArray]
  rw [←HL.out.2.2.1,List.getElem?_append_right (by omega),Nat.add_sub_cancel_left]
  exact hj)
 clear hg2 hgr2
 go_region_law (refine step_copyK rfl (.tmp 50) (.tmp 53) 26 26 rfl 70 Tryz.underlying26 2 ins_sz (some ⟨w.heap.size,(i+1) * 2,none⟩) (some ⟨g,i * 2,none⟩) (cap+1 - (i+1)) (G - (i+1)) (cap - i) (cap - i) (by simp [Act.eval,Act.put]) (by simp [Act.eval,Act.put]) w.heap.size ((i+1) * 2) (splice (A++Z) (i * 2) (encF.cs x)) 70 HG2.out D (cap - i) (by simp only [Nat.min_def];split <;> omega) HL.out.2.2.2.1 rfl ⟨g,i * 2,none⟩ rfl HSRC.out (by have h:=HL.out;rw [length_splice _ _ _ (by simp only [List.length_append];show _+2≤_;omega)];simp only [List.length_append];omega) HL.out.2.2.2.2.2 ?_;intro w3 hg3 hgr3)
 have HF:Hid (w3.ownsRow B 70 2 (.slice (some ⟨w.heap.size,0,none⟩) (cap+1) G) M.length (flat encF M)):=Lib.hid (by
  obtain ⟨hML,hFM,hAl,hDl,hZl,_⟩:=HL.out
  have hsp:splice (splice (A++Z) (i * 2) (encF.cs x)) ((i+1) * 2) D=A++((encF.cs x)++(D++Z.drop (2+D.length))):=by
   rw [show (i+1) * 2=A.length+(encF.cs x).length by rw [hAl];show _=_+2;omega,show i * 2=A.length from hAl.symm]
   exact splice_fwd A (encF.cs x) D Z (by show 2+_≤_;omega)
  have hh:=hg3.out
  rw [hsp] at hh
  have own:w3.ownsRow w.heap.size 70 2 (.slice (some ⟨w.heap.size,0,none⟩) M.length G) M.length (flat encF M):=by
   refine ⟨gen_length M,.inr ⟨w.heap.size,G,_,rfl,Nat.le_refl _,hh,by omega,by unfold maxLen;omega,?_,?_⟩⟩
   ·simp only [List.size_toArray,List.length_append,List.length_drop]
    show _+(2+_)=_
    omega
   ·rw [hFM,hML]
    have:(A++((encF.cs x)++D)).length=(cap+1) * 2:=by simp only [List.length_append];show _+(2+_)=_;omega
    rw [←this,show A++((encF.cs x)++(D++Z.drop (2+D.length)))=(A++((encF.cs x)++D))++Z.drop (2+D.length) by simp]
    exact List.take_left
  rw [←hML]
  exact row_base own hB)
 have HBL:Hid (w.grownBy w3 (some g)):=Lib.hid (((grownBy_of_below HB1.out (some g)).andThen HGR2.out (fun j hj=>.inl (by cases hj;exact Nat.le_refl _))).andThen ((grownBy_drewN w2 1 (some w.heap.size)).trans hgr3) (fun j hj=>.inl (by cases hj;exact Nat.le_refl _)))
 clear hg3 hgr3
 go_wp2
 go_ret
 exact ⟨_,rfl,HF.out,HBL.out⟩
theorem insert_own (v:Value) (L:List Flow) (x:Flow) (i vb B:Nat) (w:World) (h:w.ownsRow B 70 2 v L.length (flat encF L)) (hB:B≤w.heap.size) (hx:BoxE encF w vb 70 x) (hne:v.ownBlock≠some vb) (hi:i≤L.length) (hL:L.length≤1000) :
 Calls Tryz.prog 147 #[v,.int .i64 (i:Int),.slice (some ⟨vb,0,none⟩) 1 1] w (InsOwn w B v (L.take i++x::L.drop i)):=by
 by_cases hie:i=L.length
 ·subst hie;exact insert_end v L x vb B w h hB hx hL
 ·rcases h.2 with ⟨rfl,hn⟩ | ⟨g,cap,cur,rfl,hBg,hg,hnc,hcm,hcs,htk⟩
  ·omega
  ·by_cases hr:L.length+1≤cap
   ·exact insert_room g cap cur L x i vb B w hBg hg hcm hcs htk hx (fun e=>hne (by rw [e];rfl)) (by omega) hr
   ·exact insert_grow g cap cur L x i vb B w hg hcm hcs htk hB hx (by omega) hnc (by omega) hL
end Go.Proofs.YthcpglnmhimepaaGreatDoor.Fl
end
