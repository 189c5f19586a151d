/- LinInsert LinPut ChartOurs ChartClone ChartInsert ChartBelow LexDocName -/
import Derived.Test.YtdhfpgjnjlcciaaGreatDoorQ04
section
namespace Go.Proofs.YtdhfpgjnjlcciaaGreatDoor.Un.Li
open Go.RowKit
theorem qY:Tryz.prog.underlying 31=some (.slice (Tryz.prog.elem 31)):=by kernel_rfl
theorem qV (w:World):(sizeOf (Tryz.prog.elem 31)).run Tryz.prog w=.ok 3 w:=by kernel_rfl
theorem zW:(Tryz.prog.info? 235).map (·.size)=some 3:=by kernel_rfl
theorem ym (w:World):(sizeOf 235).run Tryz.prog w=.ok 3 w:=by kernel_rfl
theorem zF (w:World) (g n c k:Nat) (z:Int) (hz:z=(k:Int)) (hk:k≤n) (hc:k < c):(Instr.slice 31 (.slice (some ⟨g,0,none⟩) n c) (some (.int .i64 z)) none none).run Tryz.prog w=.ok (.slice (some ⟨g,k * 3,none⟩) (n - k) (c - k)) w:=by
 subst hz
 rw [run_slice_l w 31 _ n c qY .i64 (k:Int) (by omega) (by omega),qV]
 have:¬ c=k:=by omega
 simp [Result.andThen,sliced,this,zl]
theorem qR (w:World) (g n c k:Nat) (z:Int) (hz:z=(k:Int)) (hk:k≤c):(Instr.slice 31 (.slice (some ⟨g,0,none⟩) n c) none (some (.int .i64 z)) none).run Tryz.prog w=.ok (.slice (some ⟨g,0,none⟩) k c) w:=by
 subst hz
 rw [run_slice_h w 31 _ n c qY .i64 (k:Int) (by omega) (by omega),qV]
 simp [Result.andThen,sliced,Addr.add]
theorem yN (w:World) (vb g off lb cb:Nat) (x:Lin) (cur:Array Value) (hne:vb≠g) (hx:BoxE encL w vb 235 x) (hg:w.heap[g]?=some (.cells cur 235 (0,0))) (h0:cur.size≠0) :
 (callFunc 202 #[.slice (some ⟨vb,0,none⟩) 1 1,.slice (some ⟨g,off,none⟩) lb cb]).run Tryz.prog w=.ok (.value (.bool false)) w:=by
 unfold BoxE encL at hx
 rw [run_callFunc_extern Tryz.func202 (by kernel_rfl) (by kernel_rfl) (by kernel_rfl) (e:=Extern.SlicesOverlaps.overlaps #[31,31] #[4]) (by kernel_rfl),
  Lib.run_overlaps_apart w 31 4 235 Tryz.underlying31 3 ym ⟨vb,0,none⟩ ⟨g,off,none⟩ 1 1 lb cb hne 235 235 3 cur.size (by simp [World.shape?,hx]) (by simp [World.shape?,hg]) h0 (by simp [World.frozen?,hx]) (by simp [World.frozen?,hx])]
 rfl
theorem q9 (L:List Lin) (x:Lin) (i:Nat):flat encL (L.take i++x::L.drop i)=(flat encL L).take (i * 3)++((encL.cs x)++(flat encL L).drop (i * 3)):=by
 rw [qy,ja,kJ,kf]
def InsOwn (w:World) (B:Nat) (v0:Value) (M:List Lin) (e:Ending) (w':World):Prop:=∃ v,e=.returned v∧w'.ownsRow B 235 3 v M.length (flat encL M)∧w.grownBy w' v0.ownBlock
theorem qS (w:World) (q:Nat) (row:Option Nat):w.grownBy (w.drewN q) row:=⟨rfl,rfl,rfl,Nat.le_refl _,fun _ _ _=>rfl⟩
theorem jH {w w':World} (h:Below w.heap.size w w') (row:Option Nat):w.grownBy w' row:=⟨h.os,h.tape,h.output,h.size,fun j hj _=>h.block j hj⟩
set_option maxRecDepth 100000 in
set_option maxHeartbeats 4000000 in
theorem yK (v:Value) (L:List Lin) (x:Lin) (vb B:Nat) (w:World) (h:w.ownsRow B 235 3 v L.length (flat encL L)) (hB:B≤w.heap.size) (hx:BoxE encL w vb 235 x) (hL:L.length≤1000) :
 Calls Tryz.prog 179 #[v,.int .i64 (L.length:Int),.slice (some ⟨vb,0,none⟩) 1 1] w (InsOwn w B v (L.take L.length++x::L.drop L.length)):=by
 have HM:Hid (L.take L.length++x::L.drop L.length=L++[x]):=Lib.hid (by simp)
 rw [HM.out]
 obtain ⟨i0,hi,hz0,hz1,hz2⟩:=info_parts qZ
 have hcx:∀ (j:Nat) u,(encL.cs x)[j]?=some u→w.cell? ((⟨vb,0,none⟩:Addr).add j)=some u:=fun j u hj=>by rw [zl];exact hx.at0 j u hj
 have HOW:=Lib.hid h
 have hv:∃ p c,v=.slice p L.length c∧L.length≤c∧c≤maxLen∧(p=none→c=0)∧(∀ a,p=some a→∃ g,a=⟨g,0,none⟩):=by
  rcases h.2 with ⟨rfl,hn⟩ | ⟨g,cap,cur,rfl,_,_,hnc,hcm,_⟩
  ·exact ⟨none,0,by rw [hn],by omega,by simp,fun _=>rfl,fun a e=>by cases e⟩
  ·exact ⟨_,cap,rfl,hnc,hcm,(fun e=>by cases e),fun a e=>by cases e;exact ⟨g,rfl⟩⟩
 obtain ⟨p,c,rfl,hnc,hcm,hpn,hps⟩:=hv
 obtain ⟨v',w',hr,h2,h3,_⟩:=run_append_own (P:=Tryz.prog) w B 31 31 235 i0 _ 3 48 Tryz.underlying31 hi hz0 hz1 hz2 rfl (by decide) _ _ _ h ⟨vb,0,none⟩ 1 1 (encL.cs x) rfl hcx (encL.one x) (by unfold maxLen;omega) (by omega) hB
 have hra:(Builtin.append_ #[31,31] 31 #[.slice p L.length c,.slice (some ⟨vb,0,none⟩) 1 1]).run Tryz.prog w=.ok v' w':=by
  rw [ZA w _ _ _ _ _ i0 Tryz.underlying31 Tryz.underlying31 hi];exact hr
 have HRA:=Lib.hid hra
 have HCV:Hid (w'.ownsRow B 235 3 v' (L++[x]).length (flat encL (L++[x]))):=Lib.hid (by
  have:w'.ownsRow B 235 3 v' (L++[x]).length (flat encL (L++[x])):=by
   rw [List.length_append,qy,show flat encL [x]=encL.cs x from jY x];exact h2
  exact this)
 have HBL:=Lib.hid h3
 obtain ⟨n,hn⟩:∃ n,L.length=n:=⟨_,rfl⟩
 rw [hn] at HRA hL hnc ⊢
 unfold maxLen at hcm
 clear hr h2 h3 hra h HOW hn hi hz0 hz1 hz2 hcx
 cases p with
 | none =>
   have hc0:=hpn rfl
   obtain rfl:n=0:=by omega
   subst hc0
   go_enter Tryz.func179,Tryz.ntmps179
   go_wp2_with (at_builtin;refine Lib.wpList_append_run _ rfl _ _ _ _ rfl _ _ rfl rfl v' w' HRA.out ?_)
   go_ret
   exact ⟨v',rfl,HCV.out,HBL.out⟩
 | some a =>
   obtain ⟨g,rfl⟩:=hps a rfl
   have hnn:(n:Int)≤(n:Int):=Int.le_refl _
   by_cases hcn:c=n
   ·subst hcn
    go_enter Tryz.func179,Tryz.ntmps179
    go_wp2_with (at_builtin;refine Lib.wpList_append_run _ rfl _ _ _ _ rfl _ _ rfl rfl v' w' HRA.out ?_)
    go_ret
    exact ⟨v',rfl,HCV.out,HBL.out⟩
   ·have e1:=zF (z:=(n:Int)) (g:=g) (n:=n) (c:=c) (k:=n) (hz:=rfl) (hk:=Nat.le_refl _) (hc:=by omega)
    go_enter Tryz.func179,Tryz.ntmps179
    go_wp2_with (at_builtin;refine Lib.wpList_append_run _ rfl _ _ _ _ rfl _ _ rfl rfl v' w' HRA.out ?_)
    go_ret
    exact ⟨v',rfl,HCV.out,HBL.out⟩
set_option maxRecDepth 100000 in
set_option maxHeartbeats 4000000 in
theorem yz (g cap:Nat) (cur:Array Value) (L:List Lin) (x:Lin) (i vb B:Nat) (w:World) (hBg:B≤g) (hg:w.heap[g]?=some (.cells cur 235 (0,0))) (hcap:cap≤maxLen) (hcs:cur.size=cap * 3) (htk:cur.toList.take (L.length * 3)=flat encL L)
 (hx:BoxE encL w vb 235 x) (hne:vb≠g) (hi:i < L.length) (hr:L.length+1≤cap) :
 Calls Tryz.prog 179 #[.slice (some ⟨g,0,none⟩) L.length cap,.int .i64 (i:Int),.slice (some ⟨vb,0,none⟩) 1 1] w (InsOwn w B (.slice (some ⟨g,0,none⟩) L.length cap) (L.take i++x::L.drop i)):=by
 obtain ⟨M,hM⟩:∃ M,L.take i++x::L.drop i=M:=⟨_,rfl⟩
 obtain ⟨n,hn⟩:∃ n,L.length=n:=⟨_,rfl⟩
 have hML:M.length=n+1:=by rw [←hM,←hn];simp;omega
 obtain ⟨A,hA⟩:∃ A,(flat encL L).take (i * 3)=A:=⟨_,rfl⟩
 obtain ⟨D,hD⟩:∃ D,(flat encL L).drop (i * 3)=D:=⟨_,rfl⟩
 have hFM:flat encL M=A++((encL.cs x)++D):=by rw [←hM,q9,hA,hD]
 have hFL:flat encL L=A++D:=by rw [←hA,←hD,List.take_append_drop]
 have hFlen:=qd L
 rw [hn] at hFlen htk hi hr ⊢
 have hAl:A.length=i * 3:=by rw [←hA,List.length_take,hFlen];omega
 have hDl:D.length=(n - i) * 3:=by rw [←hD,List.length_drop,hFlen];omega
 obtain ⟨S,hS⟩:∃ S,cur.toList.drop (n * 3)=S:=⟨_,rfl⟩
 have hcur:cur.toList=A++(D++S):=by rw [←List.take_append_drop (n * 3) cur.toList,htk,hS,hFL,List.append_assoc]
 have hSl:S.length=(cap - n) * 3:=by rw [←hS,List.length_drop,Array.length_toList,hcs];omega
 have hXl:(encL.cs x).length=3:=rfl
 have hg':w.heap[g]?=some (.cells (A++(D++S)).toArray 235 (0,0)):=by rw [←hcur];simpa using hg
 have hDone:∀ v∈D,v.oneCell'=true:=fun v hv=>je L v (by rw [hFL];simp [hv])
 have HG:=Lib.hid hg'
 have HX:=Lib.hid hx
 have HM:=Lib.hid hM
 have HOV:=Lib.hid (fun off lb cb=>yN w vb g off lb cb x cur hne hx hg (by rw [hcs];omega))
 have HSRC:Hid (∀ (w':World),w'.heap[g]?=w.heap[g]?→∀ (j:Nat) v,D[j]?=some v→w'.cell? ((⟨g,i * 3,none⟩:Addr).add j)=some v):=Lib.hid (fun w' hw' j v hj=>by
  rw [zl,cell_of_row _ g (i * 3+j) _ 235 (0,0) (hw'.trans hg')]
  simp only [List.getElem?_toArray]
  rw [←hAl,List.getElem?_append_right (by omega),Nat.add_sub_cancel_left,List.getElem?_append_left (List.getElem?_eq_some_iff.1 hj).1]
  exact hj)
 have HL:=Lib.hid (And.intro hML (And.intro hFM (And.intro hAl (And.intro hDl (And.intro hSl hDone)))))
 rw [hM]
 unfold maxLen at hcap
 have e0:=fun wq=>zF (w:=wq) (z:=(i:Int)) (g:=g) (n:=n) (c:=cap) (k:=i) (hz:=rfl) (hk:=by omega) (hc:=by omega)
 have e1:=fun wq=>qR (w:=wq) (z:=(n:Int)+1) (g:=g) (n:=n) (c:=cap) (k:=n+1) (hz:=by omega) (hk:=by omega)
 have e2:=fun wq=>zF (w:=wq) (z:=(i:Int)+1) (g:=g) (n:=n+1) (c:=cap) (k:=i+1) (hz:=by omega) (hk:=by omega) (hc:=by omega)
 have e3:=fun wq=>zF (w:=wq) (z:=(i:Int)) (g:=g) (n:=n+1) (c:=cap) (k:=i) (hz:=rfl) (hk:=by omega) (hc:=by omega)
 have hz1:¬ ((i:Int)=(n:Int)):=by omega
 have hz2:¬ ((cap:Int) < (n:Int)+1):=by omega
 have hw1:IntKind.i64.wrap ((i:Int)+1)=(i:Int)+1:=by rw [IntKind.wrap_i64];omega
 have hov:=HOV.out
 clear hFlen hcur hS hFL hA hD hn hM hML hFM hAl hDl hSl hXl hg hg' hDone htk hcs hx HOV
 go_enter Tryz.func179,Tryz.ntmps179
 go_wp2_with (simp only [hov])
 go_region_law (refine jW rfl (.tmp 73) (.tmp 76) 31 31 rfl 235 Tryz.underlying31 3 zW (some ⟨g,(i+1) * 3,none⟩) (some ⟨g,i * 3,none⟩) (n+1 - (i+1)) (cap - (i+1)) (n+1 - i) (cap - i) (by simp [Act.eval,Act.put]) (by simp [Act.eval,Act.put]) g ((i+1) * 3) (A++(D++S)) 235 HG.out D (n - i) (by simp only [Nat.min_def];split <;> omega) HL.out.2.2.2.1 rfl ⟨g,i * 3,none⟩ rfl (HSRC.out _ rfl) (by have h:=HL.out;simp only [List.length_append];omega) HL.out.2.2.2.2.2 ?_;intro w1 hg1 hgr1)
 have HG1:=Lib.hid hg1.out
 have HGR1:=Lib.hid hgr1
 have HX1:Hid (BoxE encL w1 vb 235 x):=Lib.hid (by
  have hb:=HX.out
  have hlt:vb < w.heap.size:=(Array.getElem?_eq_some_iff.1 hb).1
  exact (hgr1.block vb hlt (fun e=>hne (Option.some.inj e))).trans hb)
 clear hg1 hgr1
 go_wp2_with (refine jV rfl (.tmp 80) (.tmp 81) 31 31 rfl 235 Tryz.underlying31 3 zW _ _ _ _ _ _ rfl rfl g (i * 3) (splice (A++(D++S)) ((i+1) * 3) D) 235 HG1.out (encL.cs x) 1 (by simp only [Nat.min_def];split <;> omega) rfl rfl ⟨vb,0,none⟩ rfl (fun j u hj=>by rw [zl];exact HX1.out.at0 j u hj) (by have h:=HL.out;rw [length_splice _ _ _ (by simp only [List.length_append];omega)];simp only [List.length_append];show _+3≤_;omega) (encL.one x) ?_;intro w2 hg2 hgr2)
 have HF:Hid (w2.ownsRow B 235 3 (.slice (some ⟨g,0,none⟩) (n+1) cap) M.length (flat encL M)):=Lib.hid (by
  obtain ⟨hML,hFM,hAl,hDl,hSl,_⟩:=HL.out
  have hsp:splice (splice (A++(D++S)) ((i+1) * 3) D) (i * 3) (encL.cs x)=A++((encL.cs x)++(D++(D++S).drop (3+D.length))):=by
   rw [show (i+1) * 3=A.length+(encL.cs x).length by rw [hAl];show _=_+3;omega,show i * 3=A.length from hAl.symm]
   exact ZT A (encL.cs x) D (D++S) (by simp only [List.length_append];show 3+_≤_;omega)
  have hh:=hg2.out
  rw [hsp] at hh
  have own:w2.ownsRow B 235 3 (.slice (some ⟨g,0,none⟩) M.length cap) M.length (flat encL M):=by
   refine ⟨qd M,.inr ⟨g,cap,_,rfl,hBg,hh,by omega,by unfold maxLen;omega,?_,?_⟩⟩
   ·simp only [List.size_toArray,List.length_append,List.length_drop]
    show _+(3+_)=_
    omega
   ·rw [hFM,hML]
    have:(A++((encL.cs x)++D)).length=(n+1) * 3:=by simp only [List.length_append];show _+(3+_)=_;omega
    rw [←this,show A++((encL.cs x)++(D++(D++S).drop (3+D.length)))=(A++((encL.cs x)++D))++(D++S).drop (3+D.length) by simp]
    exact List.take_left
  rw [←hML]
  exact own)
 have HBL:Hid (w.grownBy w2 (some g)):=Lib.hid (((qS w 1 (some g)).trans HGR1.out).trans hgr2)
 clear hg2 hgr2
 go_ret
 exact ⟨_,rfl,HF.out,HBL.out⟩
set_option maxRecDepth 100000 in
set_option maxHeartbeats 4000000 in
theorem yC (g cap:Nat) (cur:Array Value) (L:List Lin) (x:Lin) (i vb B:Nat) (w:World) (hg:w.heap[g]?=some (.cells cur 235 (0,0))) (hcap:cap≤maxLen) (hcs:cur.size=cap * 3) (htk:cur.toList.take (L.length * 3)=flat encL L)
 (hB:B≤w.heap.size) (hx:BoxE encL w vb 235 x) (hi:i < L.length) (hnc:L.length≤cap) (hr:cap < L.length+1) (hL:L.length≤1000) :
 Calls Tryz.prog 179 #[.slice (some ⟨g,0,none⟩) L.length cap,.int .i64 (i:Int),.slice (some ⟨vb,0,none⟩) 1 1] w (InsOwn w B (.slice (some ⟨g,0,none⟩) L.length cap) (L.take i++x::L.drop i)):=by
 obtain ⟨M,hM⟩:∃ M,L.take i++x::L.drop i=M:=⟨_,rfl⟩
 obtain ⟨n,hn⟩:∃ n,L.length=n:=⟨_,rfl⟩
 have hML:M.length=n+1:=by rw [←hM,←hn];simp;omega
 obtain ⟨A,hA⟩:∃ A,(flat encL L).take (i * 3)=A:=⟨_,rfl⟩
 obtain ⟨D,hD⟩:∃ D,(flat encL L).drop (i * 3)=D:=⟨_,rfl⟩
 have hFM:flat encL M=A++((encL.cs x)++D):=by rw [←hM,q9,hA,hD]
 have hFL:flat encL L=A++D:=by rw [←hA,←hD,List.take_append_drop]
 have hFlen:=qd L
 rw [hn] at hFlen htk hi hr hnc hL ⊢
 obtain rfl:cap=n:=by omega
 have hAl:A.length=i * 3:=by rw [←hA,List.length_take,hFlen];omega
 have hDl:D.length=(cap - i) * 3:=by rw [←hD,List.length_drop,hFlen];omega
 have hcur:cur.toList=A++D:=by rw [←hFL,←htk,List.take_of_length_le (by rw [Array.length_toList,hcs];exact Nat.le_refl _)]
 have hg':w.heap[g]?=some (.cells (A++D).toArray 235 (0,0)):=by rw [←hcur];simpa using hg
 have hDone:∀ v∈D,v.oneCell'=true:=fun v hv=>je L v (by rw [hFL];simp [hv])
 obtain ⟨i0,hi0,hz0,hz1,hz2⟩:=info_parts qZ
 have hgl:g < w.heap.size:=(Array.getElem?_eq_some_iff.1 hg).1
 have hvl:vb < w.heap.size:=(Array.getElem?_eq_some_iff.1 hx).1
 have hAt:∀ (j:Nat) v,A[j]?=some v→w.cell? ((⟨g,0,none⟩:Addr).add j)=some v:=fun j v hj=>by
  rw [zl,Nat.zero_add,cell_of_row _ g j _ 235 (0,0) hg']
  simp only [List.getElem?_toArray]
  rw [List.getElem?_append_left (List.getElem?_eq_some_iff.1 hj).1];exact hj
 have hold:(Builtin.firstCells i0.size i (.slice (some ⟨g,0,none⟩) i cap)).run Tryz.prog w.drew=.ok A.toArray w.drew:=by
  rw [hz1];exact run_firstCells_some w.drew 3 i ⟨g,0,none⟩ i cap A hAl hAt
 have hk:i+(cap+1 - i)=cap+1:=by omega
 have hrz:∀ ty,(Builtin.append_ #[31,3] ty #[.slice (some ⟨g,0,none⟩) i cap,.int .i64 ((cap+1 - i:Nat):Int)]).run Tryz.prog w=_:=fun ty =>
  Lib.run_append_grow_zeros w 31 3 ty 235 i0 _ .i64 .i64 Tryz.underlying31 Tryz.underlying3 hi0 hz0 (some ⟨g,0,none⟩) i cap A hold (cap+1 - i) (by omega) (by omega) (by omega) (by omega) (by rw [hz2];omega) (by rw [hz2,hk];exact growslice_fits (by omega) (by omega))
 rw [hk] at hrz
 obtain ⟨G,hG⟩:∃ G,grownCap w (cap+1) cap 235=G:=⟨_,rfl⟩
 have hGge:cap+1≤G:=by rw [←hG];exact grownCap_ge w _ _ _
 have hGle:G≤maxLen:=by rw [←hG];exact grownCap_le_maxLen w _ _ _ (by unfold maxLen;omega)
 rw [hG] at hrz
 obtain ⟨Z,hZ⟩:∃ Z:List Value,(Builtin.zeroCells (Value.agg #[.string ⟨#[]⟩,.string ⟨#[]⟩,.string ⟨#[]⟩]).cells (cap+1 - i)++Builtin.zeroCells (Value.agg #[.string ⟨#[]⟩,.string ⟨#[]⟩,.string ⟨#[]⟩]).cells (G - (cap+1))).toList=Z:=⟨_,rfl⟩
 have hZl:Z.length=(cap+1 - i) * 3+(G - (cap+1)) * 3:=by rw [←hZ];simp [Builtin.zeroCells,Value.cells]
 obtain ⟨W1,hW1⟩:∃ W1,w.drew.alloc (.cells (A++Z).toArray 235)=W1:=⟨_,rfl⟩
 have hrow:(A.toArray++Builtin.zeroCells (Value.agg #[.string ⟨#[]⟩,.string ⟨#[]⟩,.string ⟨#[]⟩]).cells (cap+1 - i)++Builtin.zeroCells (Value.agg #[.string ⟨#[]⟩,.string ⟨#[]⟩,.string ⟨#[]⟩]).cells (G - (cap+1)))=(A++Z).toArray:=by
  rw [←hZ];apply Array.ext';simp
 rw [hrow,hW1] at hrz
 have hG1:W1.heap[w.heap.size]?=some (.cells (A++Z).toArray 235 (0,0)):=by rw [←hW1];exact heap_alloc_new w.drew _
 have hB1:Below w.heap.size w W1:=by rw [←hW1];exact (below_drewN (Below.refl w.heap.size w) 1).alloc (Nat.le_refl _) _
 have HG1:=Lib.hid hG1
 have HB1:=Lib.hid hB1
 have HX1:Hid (BoxE encL W1 vb 235 x):=Lib.hid (hx.keep hB1 hvl)
 have HGO:Hid (W1.heap[g]?=some (.cells (A++D).toArray 235 (0,0))):=Lib.hid ((hB1.block g hgl).trans hg')
 have HL:=Lib.hid (And.intro hML (And.intro hFM (And.intro hAl (And.intro hDl (And.intro hZl hDone)))))
 have HRZ:=Lib.hid (hrz 31)
 rw [hM]
 unfold maxLen at hcap hGle
 have hki:((cap:Int)+1 - (i:Int))=((cap+1 - i:Nat):Int):=by omega
 have HKI:=Lib.hid hki
 have e0:=fun wq=>zF (w:=wq) (z:=(i:Int)) (g:=g) (n:=cap) (c:=cap) (k:=i) (hz:=rfl) (hk:=by omega) (hc:=by omega)
 have e1:=fun wq=>qR (w:=wq) (z:=(i:Int)) (g:=g) (n:=cap) (c:=cap) (k:=i) (hz:=rfl) (hk:=by omega)
 have e2:=fun wq=>zF (w:=wq) (z:=(i:Int)+1) (g:=w.heap.size) (n:=cap+1) (c:=G) (k:=i+1) (hz:=by omega) (hk:=by omega) (hc:=by omega)
 have e3:=fun wq=>zF (w:=wq) (z:=(i:Int)) (g:=w.heap.size) (n:=cap+1) (c:=G) (k:=i) (hz:=rfl) (hk:=by omega) (hc:=by omega)
 have hz1':¬ ((i:Int)=(cap:Int)):=by omega
 have hz2':((cap:Int) < (cap:Int)+1):=by omega
 have hw1:IntKind.i64.wrap ((i:Int)+1)=(i:Int)+1:=by rw [IntKind.wrap_i64];omega
 have HGL:=Lib.hid hgl
 clear hFlen hcur hFL hA hD hn hM hML hFM hAl hDl hg hg' hDone htk hcs hx hZ hZl hW1 hrow hrz hG1 hB1 hG hold hAt hi0 hz0 hz1 hz2 hk hki hgl hvl
 go_enter Tryz.func179,Tryz.ntmps179
 go_wp2_with (first
  | (at_builtin;refine Lib.wpList_append_run _ rfl _ _ _ _ rfl _ _ rfl rfl _ W1 (by rw [HKI.out];exact HRZ.out) ?_)
  | (refine jV rfl (.tmp 43) (.tmp 44) 31 31 rfl 235 Tryz.underlying31 3 zW _ _ _ _ _ _ rfl rfl w.heap.size (i * 3) (A++Z) 235 HG1.out (encL.cs x) 1 (by simp only [Nat.min_def];split <;> omega) rfl rfl ⟨vb,0,none⟩ rfl (fun j u hj=>by rw [zl];exact HX1.out.at0 j u hj) (by have h:=HL.out;simp only [List.length_append];show _+3≤_;omega) (encL.one x) ?_;intro w2 hg2 hgr2))
 have HG2:=Lib.hid hg2.out
 have HGR2:=Lib.hid hgr2
 have HGO2:Hid (w2.heap[g]?=some (.cells (A++D).toArray 235 (0,0))):=Lib.hid ((hgr2.block g (Nat.lt_of_lt_of_le HGL.out HB1.out.size) (fun e=>by have:=Option.some.inj e;have:=HGL.out;omega)).trans HGO.out)
 have HSRC:Hid (∀ (j:Nat) v,D[j]?=some v→w2.cell? ((⟨g,i * 3,none⟩:Addr).add j)=some v):=Lib.hid (fun j v hj=>by
  rw [zl,cell_of_row _ g (i * 3+j) _ 235 (0,0) HGO2.out]
  simp only [List.getElem?_toArray]
  rw [←HL.out.2.2.1,List.getElem?_append_right (by omega),Nat.add_sub_cancel_left]
  exact hj)
 clear hg2 hgr2
 go_region_law (refine jW rfl (.tmp 50) (.tmp 53) 31 31 rfl 235 Tryz.underlying31 3 zW (some ⟨w.heap.size,(i+1) * 3,none⟩) (some ⟨g,i * 3,none⟩) (cap+1 - (i+1)) (G - (i+1)) (cap - i) (cap - i) (by simp [Act.eval,Act.put]) (by simp [Act.eval,Act.put]) w.heap.size ((i+1) * 3) (splice (A++Z) (i * 3) (encL.cs x)) 235 HG2.out D (cap - i) (by simp only [Nat.min_def];split <;> omega) HL.out.2.2.2.1 rfl ⟨g,i * 3,none⟩ rfl HSRC.out (by have h:=HL.out;rw [length_splice _ _ _ (by simp only [List.length_append];show _+3≤_;omega)];simp only [List.length_append];omega) HL.out.2.2.2.2.2 ?_;intro w3 hg3 hgr3)
 have HF:Hid (w3.ownsRow B 235 3 (.slice (some ⟨w.heap.size,0,none⟩) (cap+1) G) M.length (flat encL M)):=Lib.hid (by
  obtain ⟨hML,hFM,hAl,hDl,hZl,_⟩:=HL.out
  have hsp:splice (splice (A++Z) (i * 3) (encL.cs x)) ((i+1) * 3) D=A++((encL.cs x)++(D++Z.drop (3+D.length))):=by
   rw [show (i+1) * 3=A.length+(encL.cs x).length by rw [hAl];show _=_+3;omega,show i * 3=A.length from hAl.symm]
   exact Zy A (encL.cs x) D Z (by show 3+_≤_;omega)
  have hh:=hg3.out
  rw [hsp] at hh
  have own:w3.ownsRow w.heap.size 235 3 (.slice (some ⟨w.heap.size,0,none⟩) M.length G) M.length (flat encL M):=by
   refine ⟨qd M,.inr ⟨w.heap.size,G,_,rfl,Nat.le_refl _,hh,by omega,by unfold maxLen;omega,?_,?_⟩⟩
   ·simp only [List.size_toArray,List.length_append,List.length_drop]
    show _+(3+_)=_
    omega
   ·rw [hFM,hML]
    have:(A++((encL.cs x)++D)).length=(cap+1) * 3:=by simp only [List.length_append];show _+(3+_)=_;omega
    rw [←this,show A++((encL.cs x)++(D++Z.drop (3+D.length)))=(A++((encL.cs x)++D))++Z.drop (3+D.length) by simp]
    exact List.take_left
  rw [←hML]
  exact zw own hB)
 have HBL:Hid (w.grownBy w3 (some g)):=Lib.hid (((jH HB1.out (some g)).andThen HGR2.out (fun j hj=>.inl (by cases hj;exact Nat.le_refl _))).andThen ((qS w2 1 (some w.heap.size)).trans hgr3) (fun j hj=>.inl (by cases hj;exact Nat.le_refl _)))
 clear hg3 hgr3
 go_wp2
 go_ret
 exact ⟨_,rfl,HF.out,HBL.out⟩
theorem yt (v:Value) (L:List Lin) (x:Lin) (i vb B:Nat) (w:World) (h:w.ownsRow B 235 3 v L.length (flat encL L)) (hB:B≤w.heap.size) (hx:BoxE encL w vb 235 x) (hne:v.ownBlock≠some vb) (hi:i≤L.length) (hL:L.length≤1000) :
 Calls Tryz.prog 179 #[v,.int .i64 (i:Int),.slice (some ⟨vb,0,none⟩) 1 1] w (InsOwn w B v (L.take i++x::L.drop i)):=by
 by_cases hie:i=L.length
 ·subst hie;exact yK v L x vb B w h hB hx hL
 ·rcases h.2 with ⟨rfl,hn⟩ | ⟨g,cap,cur,rfl,hBg,hg,hnc,hcm,hcs,htk⟩
  ·omega
  ·by_cases hr:L.length+1≤cap
   ·exact yz g cap cur L x i vb B w hBg hg hcm hcs htk hx (fun e=>hne (by rw [e];rfl)) (by omega) hr
   ·exact yC g cap cur L x i vb B w hg hcm hcs htk hB hx (by omega) hnc (by omega) hL
end Go.Proofs.YtdhfpgjnjlcciaaGreatDoor.Un.Li
end
section
namespace Go.Proofs.YtdhfpgjnjlcciaaGreatDoor.Un.Li
open Go.RowKit
theorem JZ {W:World} {B:Nat} {e:TypeId} {s:Nat} {v:Value} {n:Nat} {xs:List Value} (h:W.ownsRow B e s v n xs):∃ a c,v=.slice a n c:=by
 rcases h.2 with ⟨rfl,rfl⟩ | ⟨g,cap,cur,rfl,_⟩
 ·exact ⟨none,0,rfl⟩
 ·exact ⟨_,_,rfl⟩
def Qf (w:World) (B:Nat) (v:Value) (M:List Lin) (n m:Nat) (e:Ending) (w':World):Prop :=
 ∃ p9 n9 c9,e=.returned (.tuple #[.slice p9 n9 c9,.int .i64 (if m≤n then 4 else 0)])∧w.grownBy w' v.ownBlock∧(¬ m≤n→w'.ownsRow B 235 3 (.slice p9 n9 c9) M.length (flat encL M))
set_option maxRecDepth 100000 in
set_option maxHeartbeats 4000000 in
theorem Yg (v:Value) (L:List Lin) (x:Lin) (m B:Nat) (w:World) (h:w.ownsRow B 235 3 v L.length (flat encL L)) (hB:B≤w.heap.size) (hr:G.riseK Lin.key L=true) (hL:L.length≤1000) :
 Calls Tryz.prog 131 #[v,aggN x,.int .i64 (m:Int),.func (.func 132) #[] #[]] w (Qf w B v (G.insK Lin.key L x) L.length m):=by
 have HB0:=Lib.hid ((Below.refl w.heap.size w).alloc (Nat.le_refl _) (.cells (encL.cs x).toArray 235))
 have HX0:=Lib.hid (BoxE.new encL w x 235)
 have HO0:=Lib.hid (h.alloc (.cells (encL.cs x).toArray 235))
 have HV0:=Lib.hid (zq HO0.out)
 have hlt:∀ g,v.ownBlock=some g→g < w.heap.size:=fun g e=>(h.lt g e).2
 have HLT:=Lib.hid hlt
 have hv:∃ p c,v=.slice p L.length c∧L.length≤c∧c≤maxLen:=by
  obtain ⟨p,c,e,h1,h2,_⟩:=zq h
  exact ⟨p,c,e,h1,h2⟩
 obtain ⟨p,c,rfl,hcap,hcm⟩:=hv
 have HR:=Lib.hid hr
 have HL:=Lib.hid hL
 have HSE:=Lib.hid (xy (.slice p L.length c) L x (w.alloc (.cells (encL.cs x).toArray 235)) HV0.out hr hL)
 have HPL:=Lib.hid (G.kT (key:=Lin.key) L (Lin.key x))
 have hins:G.insK Lin.key L x=L.take (G.placeK Lin.key L (Lin.key x))++x::L.drop (G.placeK Lin.key L (Lin.key x)):=rfl
 obtain ⟨M,hM⟩:∃ M,G.insK Lin.key L x=M:=⟨_,rfl⟩
 obtain ⟨pl,hpl⟩:∃ pl,G.placeK Lin.key L (Lin.key x)=pl:=⟨_,rfl⟩
 obtain ⟨is,his⟩:∃ is,G.isK Lin.key L (Lin.key x)=is:=⟨_,rfl⟩
 rw [hM,hpl] at hins
 rw [hpl,his] at HSE
 rw [hpl] at HPL
 rw [hM]
 have HM:=Lib.hid hins
 obtain ⟨n,hn⟩:∃ n,L.length=n:=⟨_,rfl⟩
 have HN:=Lib.hid hn
 rw [hn] at HSE hcap hL ⊢
 unfold maxLen at hcm
 clear h hlt hr hpl his hM hins hn
 by_cases hmn:m≤n
 ·have HMN:=Lib.hid hmn
  go_enter Tryz.func131,Tryz.ntmps131
  go_wp2
  go_ret2
  exact ⟨p,n,c,by rw [if_pos HMN.out];rfl,World.grownBy_alloc _ _ _,fun h=>absurd HMN.out h⟩
 ·have HMN:=Lib.hid hmn
  obtain ⟨c0,c1,c2⟩:=lin3 HX0.out.at0
  go_enter Tryz.func131,Tryz.ntmps131
  go_wp2_with fail
  refine HSE.out.mono ?_
  rintro e w2 ⟨rfl,hb2⟩
  have HO2:=Lib.hid (zu HO0.out hb2)
  have HX2:=Lib.hid (HX0.out.kept hb2)
  have HG2:Hid (w.grownBy w2 (Value.slice p n c).ownBlock):=Lib.hid ((World.grownBy_alloc w _ _).trans (jH hb2 _))
  have HS2:Hid (w.heap.size < w2.heap.size):=Lib.hid (by have:=hb2.size;rw [World.size_alloc] at this;omega)
  clear hb2 c0 c1 c2
  obtain ⟨c0,c1,c2⟩:=lin3 HX2.out.at0
  go_wp2_with fail
  clear c0 c1 c2
  refine (yt (.slice p n c) L x pl w2.heap.size B (w2.alloc (.cells (encL.cs x).toArray 235)) (by rw [←HN.out];rw [HN.out] at HO2 ⊢;exact HO2.out.alloc _) (by rw [World.size_alloc];have:=HS2.out;omega) (BoxE.new encL w2 x 235) (fun e=>by have:=HLT.out _ (by rw [HN.out];exact e);have:=HS2.out;omega) HPL.out HL.out).mono ?_
  rintro e w9 ⟨v9,rfl,ho9,hg9⟩
  rw [←HM.out] at ho9
  obtain ⟨p9,c9,rfl⟩:=JZ ho9
  have HO9:=Lib.hid ho9
  have HG9:Hid (w.grownBy w9 (Value.slice p n c).ownBlock):=Lib.hid ((HG2.out.trans (World.grownBy_alloc w2 _ _)).trans hg9)
  clear ho9 hg9
  go_wp2
  go_ret2
  exact ⟨p9,M.length,c9,by rw [if_neg HMN.out];rfl,HG9.out,fun _=>HO9.out⟩
end Go.Proofs.YtdhfpgjnjlcciaaGreatDoor.Un.Li
end
section
namespace Go.Proofs.YtdhfpgjnjlcciaaGreatDoor
open Go.RowKit
theorem QF:(Tryz.prog.info? 129).map (fun i=>(i.zero,i.size,i.bytes))=some (some (.agg #[.string ⟨#[]⟩,.int .i64 0,.bool false,.bool false,.string ⟨#[]⟩,.bool false]),6,56):=by kernel_rfl
end Go.Proofs.YtdhfpgjnjlcciaaGreatDoor
end
section
namespace Go.Proofs.YtdhfpgjnjlcciaaGreatDoor
open Go.RowKit
def yM (w:World) (L:List Acct) (e:Ending) (w':World):Prop:=∃ v,e=.returned v∧w'.ownsRow w.heap.size 129 6 v L.length (flatA L)∧Below w.heap.size w w'
set_option maxRecDepth 100000 in
set_option maxHeartbeats 2000000 in
theorem xA (v:Value) (L:List Acct) (w:World) (h:ChartV w v L) (hL:L.length≤1000) :
 Calls Tryz.prog 166 #[v] w (yM w L):=by
 have HV:=Lib.hid h
 obtain ⟨p,c,rfl,hcap,hm,hp,hc⟩:=h
 have hq:∀ (w:World) (a:Option Addr) (n c n' c':Nat),(binOp .eql 27 (.slice a n c) (.slice none n' c')).run Tryz.prog w=.ok (.bool a.isNone) w:=fun w a n c n' c'=>Lib.run_eql_slice_nil w _ _ a n c n' c' Tryz.underlying27
 obtain ⟨i0,hi,hz0,hz1,hz2⟩:=info_parts QF
 have HI:=Lib.hid (And.intro hi (And.intro hz0 (And.intro hz1 hz2)))
 clear hi hz0 hz1 hz2 hc
 unfold maxLen at hm
 cases p with
 | none =>
   have h0:=hp rfl
   have:L=[]:=List.eq_nil_of_length_eq_zero (by omega)
   subst this
   clear HV hp
   go_enter Tryz.func166,Tryz.ntmps166
   go_wp2
   go_ret
   exact ⟨_,rfl,World.ownsRow_nil _ _ _ _,Below.refl _ _⟩
 | some ad =>
   have HC:Hid (∀ (j:Nat) u,(flatA L)[j]?=some u→w.cell? (ad.add j)=some u):=Lib.hid (fun j u hj=>by
    by_cases hne:L=[]
    ·subst hne;simp [flatA] at hj
    ·obtain ⟨b,o,e,_,hcell⟩:=HV.out.cells hne
     cases e
     rw [zl];exact hcell j u hj)
   obtain ⟨n,hn⟩:∃ n,L.length=n:=⟨_,rfl⟩
   have HN:=Lib.hid hn
   rw [hn] at hcap hL ⊢
   clear hn hp HV
   go_enter Tryz.func166,Tryz.ntmps166
   go_wp2_with (at_builtin;refine wpList_append_own _ rfl _ _ 27 rfl w.heap.size 129 i0 (.agg #[.string ⟨#[]⟩,.int .i64 0,.bool false,.bool false,.string ⟨#[]⟩,.bool false]) 6 56 Tryz.underlying27 HI.out.1 HI.out.2.1 HI.out.2.2.1 HI.out.2.2.2 rfl (by decide) _ _ _ rfl (World.ownsRow_made w #[] 0 (Nat.le_refl _) (Nat.zero_le _) (by simp)) ad n c (flatA L) rfl ?qc1 ?qc2 ?qc3 ?qc4 ?qc5 ?qc6 ?_)
   case qc1=>rw [vh,HN.out]
   case qc2=>exact fun j u hj=>Lib.cell?_alloc_some _ (HC.out j u hj)
   case qc3=>exact QT L
   case qc4=>rw [Nat.zero_add];unfold maxLen;omega
   case qc5=>rw [Nat.zero_add];omega
   case qc6=>simp
   intro v' w1 hown hgrow hnil
   have HOW:Hid (w1.ownsRow w.heap.size 129 6 v' L.length (flatA L)):=Lib.hid (by rw [HN.out];simpa using hown)
   have HBL:=Lib.hid (((Below.refl _ w).alloc (Nat.le_refl _) (.cells #[] 129)).grown hgrow (by simp) (by intro k hk;simp [Value.ownBlock] at hk;omega))
   clear hown hgrow hnil
   go_wp2
   go_ret
   exact ⟨v',rfl,HOW.out,HBL.out⟩
end Go.Proofs.YtdhfpgjnjlcciaaGreatDoor
end
section
namespace Go.Proofs.YtdhfpgjnjlcciaaGreatDoor
open Go.RowKit
theorem qY:Tryz.prog.underlying 27=some (.slice (Tryz.prog.elem 27)):=by kernel_rfl
theorem qV (w:World):(sizeOf (Tryz.prog.elem 27)).run Tryz.prog w=.ok 6 w:=by kernel_rfl
theorem zW:(Tryz.prog.info? 129).map (·.size)=some 6:=by kernel_rfl
theorem ym (w:World):(sizeOf 129).run Tryz.prog w=.ok 6 w:=by kernel_rfl
theorem zF (w:World) (g n c k:Nat) (z:Int) (hz:z=(k:Int)) (hk:k≤n) (hc:k < c):(Instr.slice 27 (.slice (some ⟨g,0,none⟩) n c) (some (.int .i64 z)) none none).run Tryz.prog w=.ok (.slice (some ⟨g,k * 6,none⟩) (n - k) (c - k)) w:=by
 subst hz
 rw [run_slice_l w 27 _ n c qY .i64 (k:Int) (by omega) (by omega),qV]
 have:¬ c=k:=by omega
 simp [Result.andThen,sliced,this,zl]
theorem qR (w:World) (g n c k:Nat) (z:Int) (hz:z=(k:Int)) (hk:k≤c):(Instr.slice 27 (.slice (some ⟨g,0,none⟩) n c) none (some (.int .i64 z)) none).run Tryz.prog w=.ok (.slice (some ⟨g,0,none⟩) k c) w:=by
 subst hz
 rw [run_slice_h w 27 _ n c qY .i64 (k:Int) (by omega) (by omega),qV]
 simp [Result.andThen,sliced,Addr.add]
theorem yN (w:World) (vb g off lb cb:Nat) (x:Acct) (cur:Array Value) (hne:vb≠g) (hx:BoxA w vb 129 x) (hg:w.heap[g]?=some (.cells cur 129 (0,0))) (h0:cur.size≠0) :
 (callFunc 196 #[.slice (some ⟨vb,0,none⟩) 1 1,.slice (some ⟨g,off,none⟩) lb cb]).run Tryz.prog w=.ok (.value (.bool false)) w:=by
 unfold BoxA at hx
 rw [run_callFunc_extern Tryz.func196 (by kernel_rfl) (by kernel_rfl) (by kernel_rfl) (e:=Extern.SlicesOverlaps.overlaps #[26,26] #[4]) (by kernel_rfl),
  Lib.run_overlaps_apart w 26 4 129 Tryz.underlying26 6 ym ⟨vb,0,none⟩ ⟨g,off,none⟩ 1 1 lb cb hne 129 129 6 cur.size (by simp [World.shape?,hx]) (by simp [World.shape?,hg]) h0 (by simp [World.frozen?,hx]) (by simp [World.frozen?,hx])]
 rfl
theorem q9 (L:List Acct) (x:Acct) (i:Nat):flatA (L.take i++x::L.drop i)=(flatA L).take (i * 6)++(x.cells++(flatA L).drop (i * 6)):=by
 rw [zaG,yG,zdN,zcy]
theorem Ji (x:Acct):∀ u∈x.cells,u.oneCell'=true:=by
 intro u hu;simp [Acct.cells] at hu;rcases hu with rfl | rfl | rfl | rfl | rfl | rfl <;> rfl
def InsOwn (w:World) (B:Nat) (v0:Value) (M:List Acct) (e:Ending) (w':World):Prop:=∃ v,e=.returned v∧w'.ownsRow B 129 6 v M.length (flatA M)∧w.grownBy w' v0.ownBlock
theorem qS (w:World) (q:Nat) (row:Option Nat):w.grownBy (w.drewN q) row:=⟨rfl,rfl,rfl,Nat.le_refl _,fun _ _ _=>rfl⟩
theorem jH {w w':World} (h:Below w.heap.size w w') (row:Option Nat):w.grownBy w' row:=⟨h.os,h.tape,h.output,h.size,fun j hj _=>h.block j hj⟩
set_option maxRecDepth 100000 in
set_option maxHeartbeats 4000000 in
theorem yK (v:Value) (L:List Acct) (x:Acct) (vb B:Nat) (w:World) (h:w.ownsRow B 129 6 v L.length (flatA L)) (hB:B≤w.heap.size) (hx:BoxA w vb 129 x) (hL:L.length≤1000) :
 Calls Tryz.prog 168 #[v,.int .i64 (L.length:Int),.slice (some ⟨vb,0,none⟩) 1 1] w (InsOwn w B v (L.take L.length++x::L.drop L.length)):=by
 have HM:Hid (L.take L.length++x::L.drop L.length=L++[x]):=Lib.hid (by simp)
 rw [HM.out]
 obtain ⟨i0,hi,hz0,hz1,hz2⟩:=info_parts QF
 have hcx:∀ (j:Nat) u,x.cells[j]?=some u→w.cell? ((⟨vb,0,none⟩:Addr).add j)=some u:=fun j u hj=>by rw [zl];exact hx.at0.cell j u hj
 have HOW:=Lib.hid h
 have hv:∃ p c,v=.slice p L.length c∧L.length≤c∧c≤maxLen∧(p=none→c=0)∧(∀ a,p=some a→∃ g,a=⟨g,0,none⟩):=by
  rcases h.2 with ⟨rfl,hn⟩ | ⟨g,cap,cur,rfl,_,_,hnc,hcm,_⟩
  ·exact ⟨none,0,by rw [hn],by omega,by simp,fun _=>rfl,fun a e=>by cases e⟩
  ·exact ⟨_,cap,rfl,hnc,hcm,(fun e=>by cases e),fun a e=>by cases e;exact ⟨g,rfl⟩⟩
 obtain ⟨p,c,rfl,hnc,hcm,hpn,hps⟩:=hv
 obtain ⟨v',w',hr,h2,h3,_⟩:=run_append_own (P:=Tryz.prog) w B 27 27 129 i0 _ 6 56 Tryz.underlying27 hi hz0 hz1 hz2 rfl (by decide) _ _ _ h ⟨vb,0,none⟩ 1 1 x.cells rfl hcx (Ji x) (by unfold maxLen;omega) (by omega) hB
 have hra:(Builtin.append_ #[27,26] 27 #[.slice p L.length c,.slice (some ⟨vb,0,none⟩) 1 1]).run Tryz.prog w=.ok v' w':=by
  rw [ZA w _ _ _ _ _ i0 Tryz.underlying27 Tryz.underlying26 hi];exact hr
 have HRA:=Lib.hid hra
 have HCV:Hid (w'.ownsRow B 129 6 v' (L++[x]).length (flatA (L++[x]))):=Lib.hid (by
  have:w'.ownsRow B 129 6 v' (L++[x]).length (flatA (L++[x])):=by
   rw [List.length_append,zaG,show flatA [x]=x.cells from by simp [flatA]];exact h2
  exact this)
 have HBL:=Lib.hid h3
 obtain ⟨n,hn⟩:∃ n,L.length=n:=⟨_,rfl⟩
 rw [hn] at HRA hL hnc ⊢
 unfold maxLen at hcm
 clear hr h2 h3 hra h HOW hn hi hz0 hz1 hz2 hcx
 cases p with
 | none =>
   have hc0:=hpn rfl
   obtain rfl:n=0:=by omega
   subst hc0
   go_enter Tryz.func168,Tryz.ntmps168
   go_wp2_with (at_builtin;refine Lib.wpList_append_run _ rfl _ _ _ _ rfl _ _ rfl rfl v' w' HRA.out ?_)
   go_ret
   exact ⟨v',rfl,HCV.out,HBL.out⟩
 | some a =>
   obtain ⟨g,rfl⟩:=hps a rfl
   have hnn:(n:Int)≤(n:Int):=Int.le_refl _
   by_cases hcn:c=n
   ·subst hcn
    go_enter Tryz.func168,Tryz.ntmps168
    go_wp2_with (at_builtin;refine Lib.wpList_append_run _ rfl _ _ _ _ rfl _ _ rfl rfl v' w' HRA.out ?_)
    go_ret
    exact ⟨v',rfl,HCV.out,HBL.out⟩
   ·have e1:=zF (z:=(n:Int)) (g:=g) (n:=n) (c:=c) (k:=n) (hz:=rfl) (hk:=Nat.le_refl _) (hc:=by omega)
    go_enter Tryz.func168,Tryz.ntmps168
    go_wp2_with (at_builtin;refine Lib.wpList_append_run _ rfl _ _ _ _ rfl _ _ rfl rfl v' w' HRA.out ?_)
    go_ret
    exact ⟨v',rfl,HCV.out,HBL.out⟩
set_option maxRecDepth 100000 in
set_option maxHeartbeats 4000000 in
theorem yz (g cap:Nat) (cur:Array Value) (L:List Acct) (x:Acct) (i vb B:Nat) (w:World) (hBg:B≤g) (hg:w.heap[g]?=some (.cells cur 129 (0,0))) (hcap:cap≤maxLen) (hcs:cur.size=cap * 6) (htk:cur.toList.take (L.length * 6)=flatA L)
 (hx:BoxA w vb 129 x) (hne:vb≠g) (hi:i < L.length) (hr:L.length+1≤cap) :
 Calls Tryz.prog 168 #[.slice (some ⟨g,0,none⟩) L.length cap,.int .i64 (i:Int),.slice (some ⟨vb,0,none⟩) 1 1] w (InsOwn w B (.slice (some ⟨g,0,none⟩) L.length cap) (L.take i++x::L.drop i)):=by
 obtain ⟨M,hM⟩:∃ M,L.take i++x::L.drop i=M:=⟨_,rfl⟩
 obtain ⟨n,hn⟩:∃ n,L.length=n:=⟨_,rfl⟩
 have hML:M.length=n+1:=by rw [←hM,←hn];simp;omega
 obtain ⟨A,hA⟩:∃ A,(flatA L).take (i * 6)=A:=⟨_,rfl⟩
 obtain ⟨D,hD⟩:∃ D,(flatA L).drop (i * 6)=D:=⟨_,rfl⟩
 have hFM:flatA M=A++(x.cells++D):=by rw [←hM,q9,hA,hD]
 have hFL:flatA L=A++D:=by rw [←hA,←hD,List.take_append_drop]
 have hFlen:=vh L
 rw [hn] at hFlen htk hi hr ⊢
 have hAl:A.length=i * 6:=by rw [←hA,List.length_take,hFlen];omega
 have hDl:D.length=(n - i) * 6:=by rw [←hD,List.length_drop,hFlen];omega
 obtain ⟨S,hS⟩:∃ S,cur.toList.drop (n * 6)=S:=⟨_,rfl⟩
 have hcur:cur.toList=A++(D++S):=by rw [←List.take_append_drop (n * 6) cur.toList,htk,hS,hFL,List.append_assoc]
 have hSl:S.length=(cap - n) * 6:=by rw [←hS,List.length_drop,Array.length_toList,hcs];omega
 have hXl:x.cells.length=6:=rfl
 have hg':w.heap[g]?=some (.cells (A++(D++S)).toArray 129 (0,0)):=by rw [←hcur];simpa using hg
 have hDone:∀ v∈D,v.oneCell'=true:=fun v hv=>QT L v (by rw [hFL];simp [hv])
 have HG:=Lib.hid hg'
 have HX:=Lib.hid hx
 have HM:=Lib.hid hM
 have HOV:=Lib.hid (fun off lb cb=>yN w vb g off lb cb x cur hne hx hg (by rw [hcs];omega))
 have HSRC:Hid (∀ (w':World),w'.heap[g]?=w.heap[g]?→∀ (j:Nat) v,D[j]?=some v→w'.cell? ((⟨g,i * 6,none⟩:Addr).add j)=some v):=Lib.hid (fun w' hw' j v hj=>by
  rw [zl,cell_of_row _ g (i * 6+j) _ 129 (0,0) (hw'.trans hg')]
  simp only [List.getElem?_toArray]
  rw [←hAl,List.getElem?_append_right (by omega),Nat.add_sub_cancel_left,List.getElem?_append_left (List.getElem?_eq_some_iff.1 hj).1]
  exact hj)
 have HL:=Lib.hid (And.intro hML (And.intro hFM (And.intro hAl (And.intro hDl (And.intro hSl hDone)))))
 rw [hM]
 unfold maxLen at hcap
 have e0:=fun wq=>zF (w:=wq) (z:=(i:Int)) (g:=g) (n:=n) (c:=cap) (k:=i) (hz:=rfl) (hk:=by omega) (hc:=by omega)
 have e1:=fun wq=>qR (w:=wq) (z:=(n:Int)+1) (g:=g) (n:=n) (c:=cap) (k:=n+1) (hz:=by omega) (hk:=by omega)
 have e2:=fun wq=>zF (w:=wq) (z:=(i:Int)+1) (g:=g) (n:=n+1) (c:=cap) (k:=i+1) (hz:=by omega) (hk:=by omega) (hc:=by omega)
 have e3:=fun wq=>zF (w:=wq) (z:=(i:Int)) (g:=g) (n:=n+1) (c:=cap) (k:=i) (hz:=rfl) (hk:=by omega) (hc:=by omega)
 have hz1:¬ ((i:Int)=(n:Int)):=by omega
 have hz2:¬ ((cap:Int) < (n:Int)+1):=by omega
 have hw1:IntKind.i64.wrap ((i:Int)+1)=(i:Int)+1:=by rw [IntKind.wrap_i64];omega
 have hov:=HOV.out
 clear hFlen hcur hS hFL hA hD hn hM hML hFM hAl hDl hSl hXl hg hg' hDone htk hcs hx HOV
 go_enter Tryz.func168,Tryz.ntmps168
 go_wp2_with (simp only [hov])
 go_region_law (refine jW rfl (.tmp 73) (.tmp 76) 27 27 rfl 129 Tryz.underlying27 6 zW (some ⟨g,(i+1) * 6,none⟩) (some ⟨g,i * 6,none⟩) (n+1 - (i+1)) (cap - (i+1)) (n+1 - i) (cap - i) (by simp [Act.eval,Act.put]) (by simp [Act.eval,Act.put]) g ((i+1) * 6) (A++(D++S)) 129 HG.out D (n - i) (by simp only [Nat.min_def];split <;> omega) HL.out.2.2.2.1 rfl ⟨g,i * 6,none⟩ rfl (HSRC.out _ rfl) (by have h:=HL.out;simp only [List.length_append];omega) HL.out.2.2.2.2.2 ?_;intro w1 hg1 hgr1)
 have HG1:=Lib.hid hg1.out
 have HGR1:=Lib.hid hgr1
 have HX1:Hid (BoxA w1 vb 129 x):=Lib.hid (by
  have hb:=HX.out
  have hlt:vb < w.heap.size:=(Array.getElem?_eq_some_iff.1 hb).1
  exact (hgr1.block vb hlt (fun e=>hne (Option.some.inj e))).trans hb)
 clear hg1 hgr1
 go_wp2_with (refine jV rfl (.tmp 80) (.tmp 81) 27 26 rfl 129 Tryz.underlying27 6 zW _ _ _ _ _ _ rfl rfl g (i * 6) (splice (A++(D++S)) ((i+1) * 6) D) 129 HG1.out x.cells 1 (by simp only [Nat.min_def];split <;> omega) rfl rfl ⟨vb,0,none⟩ rfl (fun j u hj=>by rw [zl];exact HX1.out.at0.cell j u hj) (by have h:=HL.out;rw [length_splice _ _ _ (by simp only [List.length_append];omega)];simp only [List.length_append];show _+6≤_;omega) (Ji x) ?_;intro w2 hg2 hgr2)
 have HF:Hid (w2.ownsRow B 129 6 (.slice (some ⟨g,0,none⟩) (n+1) cap) M.length (flatA M)):=Lib.hid (by
  obtain ⟨hML,hFM,hAl,hDl,hSl,_⟩:=HL.out
  have hsp:splice (splice (A++(D++S)) ((i+1) * 6) D) (i * 6) x.cells=A++(x.cells++(D++(D++S).drop (6+D.length))):=by
   rw [show (i+1) * 6=A.length+x.cells.length by rw [hAl];show _=_+6;omega,show i * 6=A.length from hAl.symm]
   exact ZT A x.cells D (D++S) (by simp only [List.length_append];show 6+_≤_;omega)
  have hh:=hg2.out
  rw [hsp] at hh
  have own:w2.ownsRow B 129 6 (.slice (some ⟨g,0,none⟩) M.length cap) M.length (flatA M):=by
   refine ⟨vh M,.inr ⟨g,cap,_,rfl,hBg,hh,by omega,by unfold maxLen;omega,?_,?_⟩⟩
   ·simp only [List.size_toArray,List.length_append,List.length_drop]
    show _+(6+_)=_
    omega
   ·rw [hFM,hML]
    have:(A++(x.cells++D)).length=(n+1) * 6:=by simp only [List.length_append];show _+(6+_)=_;omega
    rw [←this,show A++(x.cells++(D++(D++S).drop (6+D.length)))=(A++(x.cells++D))++(D++S).drop (6+D.length) by simp]
    exact List.take_left
  rw [←hML]
  exact own)
 have HBL:Hid (w.grownBy w2 (some g)):=Lib.hid (((qS w 1 (some g)).trans HGR1.out).trans hgr2)
 clear hg2 hgr2
 go_ret
 exact ⟨_,rfl,HF.out,HBL.out⟩
set_option maxRecDepth 100000 in
set_option maxHeartbeats 4000000 in
theorem yC (g cap:Nat) (cur:Array Value) (L:List Acct) (x:Acct) (i vb B:Nat) (w:World) (hg:w.heap[g]?=some (.cells cur 129 (0,0))) (hcap:cap≤maxLen) (hcs:cur.size=cap * 6) (htk:cur.toList.take (L.length * 6)=flatA L)
 (hB:B≤w.heap.size) (hx:BoxA w vb 129 x) (hi:i < L.length) (hnc:L.length≤cap) (hr:cap < L.length+1) (hL:L.length≤1000) :
 Calls Tryz.prog 168 #[.slice (some ⟨g,0,none⟩) L.length cap,.int .i64 (i:Int),.slice (some ⟨vb,0,none⟩) 1 1] w (InsOwn w B (.slice (some ⟨g,0,none⟩) L.length cap) (L.take i++x::L.drop i)):=by
 obtain ⟨M,hM⟩:∃ M,L.take i++x::L.drop i=M:=⟨_,rfl⟩
 obtain ⟨n,hn⟩:∃ n,L.length=n:=⟨_,rfl⟩
 have hML:M.length=n+1:=by rw [←hM,←hn];simp;omega
 obtain ⟨A,hA⟩:∃ A,(flatA L).take (i * 6)=A:=⟨_,rfl⟩
 obtain ⟨D,hD⟩:∃ D,(flatA L).drop (i * 6)=D:=⟨_,rfl⟩
 have hFM:flatA M=A++(x.cells++D):=by rw [←hM,q9,hA,hD]
 have hFL:flatA L=A++D:=by rw [←hA,←hD,List.take_append_drop]
 have hFlen:=vh L
 rw [hn] at hFlen htk hi hr hnc hL ⊢
 obtain rfl:cap=n:=by omega
 have hAl:A.length=i * 6:=by rw [←hA,List.length_take,hFlen];omega
 have hDl:D.length=(cap - i) * 6:=by rw [←hD,List.length_drop,hFlen];omega
 have hcur:cur.toList=A++D:=by rw [←hFL,←htk,List.take_of_length_le (by rw [Array.length_toList,hcs];exact Nat.le_refl _)]
 have hg':w.heap[g]?=some (.cells (A++D).toArray 129 (0,0)):=by rw [←hcur];simpa using hg
 have hDone:∀ v∈D,v.oneCell'=true:=fun v hv=>QT L v (by rw [hFL];simp [hv])
 obtain ⟨i0,hi0,hz0,hz1,hz2⟩:=info_parts QF
 have hgl:g < w.heap.size:=(Array.getElem?_eq_some_iff.1 hg).1
 have hvl:vb < w.heap.size:=(Array.getElem?_eq_some_iff.1 hx).1
 have hAt:∀ (j:Nat) v,A[j]?=some v→w.cell? ((⟨g,0,none⟩:Addr).add j)=some v:=fun j v hj=>by
  rw [zl,Nat.zero_add,cell_of_row _ g j _ 129 (0,0) hg']
  simp only [List.getElem?_toArray]
  rw [List.getElem?_append_left (List.getElem?_eq_some_iff.1 hj).1];exact hj
 have hold:(Builtin.firstCells i0.size i (.slice (some ⟨g,0,none⟩) i cap)).run Tryz.prog w.drew=.ok A.toArray w.drew:=by
  rw [hz1];exact run_firstCells_some w.drew 6 i ⟨g,0,none⟩ i cap A hAl hAt
 have hk:i+(cap+1 - i)=cap+1:=by omega
 have hrz:∀ ty,(Builtin.append_ #[27,3] ty #[.slice (some ⟨g,0,none⟩) i cap,.int .i64 ((cap+1 - i:Nat):Int)]).run Tryz.prog w=_:=fun ty =>
  Lib.run_append_grow_zeros w 27 3 ty 129 i0 _ .i64 .i64 Tryz.underlying27 Tryz.underlying3 hi0 hz0 (some ⟨g,0,none⟩) i cap A hold (cap+1 - i) (by omega) (by omega) (by omega) (by omega) (by rw [hz2];omega) (by rw [hz2,hk];exact growslice_fits (by omega) (by omega))
 rw [hk] at hrz
 obtain ⟨G,hG⟩:∃ G,grownCap w (cap+1) cap 129=G:=⟨_,rfl⟩
 have hGge:cap+1≤G:=by rw [←hG];exact grownCap_ge w _ _ _
 have hGle:G≤maxLen:=by rw [←hG];exact grownCap_le_maxLen w _ _ _ (by unfold maxLen;omega)
 rw [hG] at hrz
 obtain ⟨Z,hZ⟩:∃ Z:List Value,(Builtin.zeroCells (Value.agg #[.string ⟨#[]⟩,.int .i64 0,.bool false,.bool false,.string ⟨#[]⟩,.bool false]).cells (cap+1 - i)++Builtin.zeroCells (Value.agg #[.string ⟨#[]⟩,.int .i64 0,.bool false,.bool false,.string ⟨#[]⟩,.bool false]).cells (G - (cap+1))).toList=Z:=⟨_,rfl⟩
 have hZl:Z.length=(cap+1 - i) * 6+(G - (cap+1)) * 6:=by rw [←hZ];simp [Builtin.zeroCells,Value.cells]
 obtain ⟨W1,hW1⟩:∃ W1,w.drew.alloc (.cells (A++Z).toArray 129)=W1:=⟨_,rfl⟩
 have hrow:(A.toArray++Builtin.zeroCells (Value.agg #[.string ⟨#[]⟩,.int .i64 0,.bool false,.bool false,.string ⟨#[]⟩,.bool false]).cells (cap+1 - i)++Builtin.zeroCells (Value.agg #[.string ⟨#[]⟩,.int .i64 0,.bool false,.bool false,.string ⟨#[]⟩,.bool false]).cells (G - (cap+1)))=(A++Z).toArray:=by
  rw [←hZ];apply Array.ext';simp
 rw [hrow,hW1] at hrz
 have hG1:W1.heap[w.heap.size]?=some (.cells (A++Z).toArray 129 (0,0)):=by rw [←hW1];exact heap_alloc_new w.drew _
 have hB1:Below w.heap.size w W1:=by rw [←hW1];exact (below_drewN (Below.refl w.heap.size w) 1).alloc (Nat.le_refl _) _
 have HG1:=Lib.hid hG1
 have HB1:=Lib.hid hB1
 have HX1:Hid (BoxA W1 vb 129 x):=Lib.hid (hx.keep hB1 hvl)
 have HGO:Hid (W1.heap[g]?=some (.cells (A++D).toArray 129 (0,0))):=Lib.hid ((hB1.block g hgl).trans hg')
 have HL:=Lib.hid (And.intro hML (And.intro hFM (And.intro hAl (And.intro hDl (And.intro hZl hDone)))))
 have HRZ:=Lib.hid (hrz 27)
 rw [hM]
 unfold maxLen at hcap hGle
 have hki:((cap:Int)+1 - (i:Int))=((cap+1 - i:Nat):Int):=by omega
 have HKI:=Lib.hid hki
 have e0:=fun wq=>zF (w:=wq) (z:=(i:Int)) (g:=g) (n:=cap) (c:=cap) (k:=i) (hz:=rfl) (hk:=by omega) (hc:=by omega)
 have e1:=fun wq=>qR (w:=wq) (z:=(i:Int)) (g:=g) (n:=cap) (c:=cap) (k:=i) (hz:=rfl) (hk:=by omega)
 have e2:=fun wq=>zF (w:=wq) (z:=(i:Int)+1) (g:=w.heap.size) (n:=cap+1) (c:=G) (k:=i+1) (hz:=by omega) (hk:=by omega) (hc:=by omega)
 have e3:=fun wq=>zF (w:=wq) (z:=(i:Int)) (g:=w.heap.size) (n:=cap+1) (c:=G) (k:=i) (hz:=rfl) (hk:=by omega) (hc:=by omega)
 have hz1':¬ ((i:Int)=(cap:Int)):=by omega
 have hz2':((cap:Int) < (cap:Int)+1):=by omega
 have hw1:IntKind.i64.wrap ((i:Int)+1)=(i:Int)+1:=by rw [IntKind.wrap_i64];omega
 have HGL:=Lib.hid hgl
 clear hFlen hcur hFL hA hD hn hM hML hFM hAl hDl hg hg' hDone htk hcs hx hZ hZl hW1 hrow hrz hG1 hB1 hG hold hAt hi0 hz0 hz1 hz2 hk hki hgl hvl
 go_enter Tryz.func168,Tryz.ntmps168
 go_wp2_with (first
  | (at_builtin;refine Lib.wpList_append_run _ rfl _ _ _ _ rfl _ _ rfl rfl _ W1 (by rw [HKI.out];exact HRZ.out) ?_)
  | (refine jV rfl (.tmp 43) (.tmp 44) 27 26 rfl 129 Tryz.underlying27 6 zW _ _ _ _ _ _ rfl rfl w.heap.size (i * 6) (A++Z) 129 HG1.out x.cells 1 (by simp only [Nat.min_def];split <;> omega) rfl rfl ⟨vb,0,none⟩ rfl (fun j u hj=>by rw [zl];exact HX1.out.at0.cell j u hj) (by have h:=HL.out;simp only [List.length_append];show _+6≤_;omega) (Ji x) ?_;intro w2 hg2 hgr2))
 have HG2:=Lib.hid hg2.out
 have HGR2:=Lib.hid hgr2
 have HGO2:Hid (w2.heap[g]?=some (.cells (A++D).toArray 129 (0,0))):=Lib.hid ((hgr2.block g (Nat.lt_of_lt_of_le HGL.out HB1.out.size) (fun e=>by have:=Option.some.inj e;have:=HGL.out;omega)).trans HGO.out)
 have HSRC:Hid (∀ (j:Nat) v,D[j]?=some v→w2.cell? ((⟨g,i * 6,none⟩:Addr).add j)=some v):=Lib.hid (fun j v hj=>by
  rw [zl,cell_of_row _ g (i * 6+j) _ 129 (0,0) HGO2.out]
  simp only [List.getElem?_toArray]
  rw [←HL.out.2.2.1,List.getElem?_append_right (by omega),Nat.add_sub_cancel_left]
  exact hj)
 clear hg2 hgr2
 go_region_law (refine jW rfl (.tmp 50) (.tmp 53) 27 27 rfl 129 Tryz.underlying27 6 zW (some ⟨w.heap.size,(i+1) * 6,none⟩) (some ⟨g,i * 6,none⟩) (cap+1 - (i+1)) (G - (i+1)) (cap - i) (cap - i) (by simp [Act.eval,Act.put]) (by simp [Act.eval,Act.put]) w.heap.size ((i+1) * 6) (splice (A++Z) (i * 6) x.cells) 129 HG2.out D (cap - i) (by simp only [Nat.min_def];split <;> omega) HL.out.2.2.2.1 rfl ⟨g,i * 6,none⟩ rfl HSRC.out (by have h:=HL.out;rw [length_splice _ _ _ (by simp only [List.length_append];show _+6≤_;omega)];simp only [List.length_append];omega) HL.out.2.2.2.2.2 ?_;intro w3 hg3 hgr3)
 have HF:Hid (w3.ownsRow B 129 6 (.slice (some ⟨w.heap.size,0,none⟩) (cap+1) G) M.length (flatA M)):=Lib.hid (by
  obtain ⟨hML,hFM,hAl,hDl,hZl,_⟩:=HL.out
  have hsp:splice (splice (A++Z) (i * 6) x.cells) ((i+1) * 6) D=A++(x.cells++(D++Z.drop (6+D.length))):=by
   rw [show (i+1) * 6=A.length+x.cells.length by rw [hAl];show _=_+6;omega,show i * 6=A.length from hAl.symm]
   exact Zy A x.cells D Z (by show 6+_≤_;omega)
  have hh:=hg3.out
  rw [hsp] at hh
  have own:w3.ownsRow w.heap.size 129 6 (.slice (some ⟨w.heap.size,0,none⟩) M.length G) M.length (flatA M):=by
   refine ⟨vh M,.inr ⟨w.heap.size,G,_,rfl,Nat.le_refl _,hh,by omega,by unfold maxLen;omega,?_,?_⟩⟩
   ·simp only [List.size_toArray,List.length_append,List.length_drop]
    show _+(6+_)=_
    omega
   ·rw [hFM,hML]
    have:(A++(x.cells++D)).length=(cap+1) * 6:=by simp only [List.length_append];show _+(6+_)=_;omega
    rw [←this,show A++(x.cells++(D++Z.drop (6+D.length)))=(A++(x.cells++D))++Z.drop (6+D.length) by simp]
    exact List.take_left
  rw [←hML]
  exact zw own hB)
 have HBL:Hid (w.grownBy w3 (some g)):=Lib.hid (((jH HB1.out (some g)).andThen HGR2.out (fun j hj=>.inl (by cases hj;exact Nat.le_refl _))).andThen ((qS w2 1 (some w.heap.size)).trans hgr3) (fun j hj=>.inl (by cases hj;exact Nat.le_refl _)))
 clear hg3 hgr3
 go_wp2
 go_ret
 exact ⟨_,rfl,HF.out,HBL.out⟩
theorem yt (v:Value) (L:List Acct) (x:Acct) (i vb B:Nat) (w:World) (h:w.ownsRow B 129 6 v L.length (flatA L)) (hB:B≤w.heap.size) (hx:BoxA w vb 129 x) (hne:v.ownBlock≠some vb) (hi:i≤L.length) (hL:L.length≤1000) :
 Calls Tryz.prog 168 #[v,.int .i64 (i:Int),.slice (some ⟨vb,0,none⟩) 1 1] w (InsOwn w B v (L.take i++x::L.drop i)):=by
 by_cases hie:i=L.length
 ·subst hie;exact yK v L x vb B w h hB hx hL
 ·rcases h.2 with ⟨rfl,hn⟩ | ⟨g,cap,cur,rfl,hBg,hg,hnc,hcm,hcs,htk⟩
  ·omega
  ·by_cases hr:L.length+1≤cap
   ·exact yz g cap cur L x i vb B w hBg hg hcm hcs htk hx (fun e=>hne (by rw [e];rfl)) (by omega) hr
   ·exact yC g cap cur L x i vb B w hg hcm hcs htk hB hx (by omega) hnc (by omega) hL
end Go.Proofs.YtdhfpgjnjlcciaaGreatDoor
end
section
namespace Go.Proofs.YtdhfpgjnjlcciaaGreatDoor
open Go.RowKit
theorem y9 {k:IntKind} {a b:Int} (h:a=b):Ending.returned (.int k a)=.returned (.int k b):=by rw [h]
set_option maxRecDepth 100000 in
set_option maxHeartbeats 2000000 in
theorem zdL (v:Value) (L:List Acct) (code:ByteArray) (w:World) (h:ChartV w v L) :
 Calls Tryz.prog 169 #[v,.string code] w fun e w'=>e=.returned (.int .i64 (belowL L code))∧Below w.heap.size w w':=by
 obtain ⟨a,c,rfl,hcap,hm,_,hc⟩:=h
 obtain ⟨n,hn⟩:∃ n,L.length=n:=⟨_,rfl⟩
 obtain ⟨r,hr⟩:∃ r,belowL L code=r:=⟨_,rfl⟩
 rw [hn] at hcap ⊢
 rw [hr]
 have HC:=Lib.hid hc
 have HN:=Lib.hid hn
 have HR:=Lib.hid hr
 unfold maxLen at hm
 clear hc hn hr
 go_enter Tryz.func169,Tryz.ntmps169
 go_wp2
 go_loopw [9] (fun s9 wr=>∃ i:Nat,i≤n∧s9=.int .i64 (i:Int)∧Below w.heap.size w wr∧Hid (∀ (j:Nat) (y:Acct),j < i→L[j]?=some y→gtS y.code code=false)) (fun s9 _=>n - (intOf s9).toNat)
 case atStart=>exact ⟨0,Nat.zero_le _,rfl,Below.refl _ _,Lib.hid fun j y hj=>absurd hj (Nat.not_lt_zero _)⟩
 case round =>
  obtain ⟨i,hi,rfl,hnx,HNO⟩:=hrel
  by_cases hlt:i < n
  ·obtain ⟨x,hx⟩:∃ x,L[i]?=some x:=⟨_,List.getElem?_eq_getElem (by rw [HN.out];exact hlt)⟩
   obtain ⟨b,o,rfl,hat⟩:=HC.out i x hx
   obtain ⟨c0,c1,c2,c3,c4,c5⟩:=hat.keep hnx hat.lt
   have HX:=Lib.hid hx
   have HNX:=Lib.hid (hnx.alloc hnx.size (.cells #[.string x.code,.int .i64 x.cls,.bool x.cash,.bool x.both,.string x.fixed,.bool x.worn] 129))
   clear hx hat
   cases hxe:gtS x.code code with
   | false =>
     have HXE:=Lib.hid hxe
     unfold gtS ltS at hxe
     simp only [Bool.not_eq_false'] at hxe
     go_wp2
     all_goals
      go_roundw
      case rel=>exact ⟨i+1,by omega,by go_num,HNX.out,Lib.hid fun j y hj hy=>by
       rcases Nat.lt_or_ge j i with h | h
       ·exact HNO.out j y h hy
       ·obtain rfl:j=i:=by omega
        rw [HX.out] at hy;cases hy;exact HXE.out⟩
      case measure=>simp [intOf];omega
   | true =>
     have HXE:=Lib.hid hxe
     have hres:Hid (r=i):=Lib.hid (by rw [←HR.out];exact zhW HNO.out HX.out HXE.out)
     unfold gtS ltS at hxe
     simp only [Bool.not_eq_true',Bool.or_eq_false_iff] at hxe
     obtain ⟨g1,g2⟩:=hxe
     go_wp2
     all_goals
      go_ret
      exact ⟨y9 (by rw [hres.out]),HNX.out⟩
  ·have hres:Hid (r=n):=Lib.hid (by
    rw [←HR.out,←HN.out]
    refine zdZ fun j y hy=>HNO.out j y ?_ hy
    have:=(List.getElem?_eq_some_iff.1 hy).1
    rw [HN.out] at this;omega)
   go_wp2
   go_ret
   exact ⟨y9 (by rw [hres.out]),hnx⟩
end Go.Proofs.YtdhfpgjnjlcciaaGreatDoor
end
section
namespace Go.Proofs.YtdhfpgjnjlcciaaGreatDoor
open Go.RowKit
set_option maxHeartbeats 2000000 in
theorem Qq (s:ByteArray) (w:World) :
 Calls Tryz.prog 180 #[.string s] w fun e w'=>e=.returned (.bool (nameL s.data.toList))∧w=w':=by
 by_cases hl:0 < s.size∧s.size≤12
 ·obtain ⟨h0,h12⟩:=hl
  have HN:=Lib.hid (YF s h0 h12)
  cases hf:letB s[0].toNat with
  | false =>
    have HF:=Lib.hid hf
    clear hf
    have HR:Hid (nameL s.data.toList=false):=Lib.hid (by rw [HN.out,HF.out];rfl)
    have a1:¬ s.size < 1:=by omega
    have a2:¬ 12 < s.size:=by omega
    go_enter Tryz.func180,Tryz.ntmps180
    go_wp2_with fail
    refine (Z6 _ _ (UInt8.toNat_lt _)).mono ?_
    rintro e w' ⟨rfl,rfl⟩
    rw [HF.out]
    go_wp2
    go_ret
    exact ⟨zk HR.out.symm,rfl⟩
  | true =>
    have HF:=Lib.hid hf
    clear hf
    have HR:Hid (nameL s.data.toList=s.data.toList.all fun c=>inB c.toNat):=Lib.hid (by rw [HN.out,HF.out];rfl)
    clear HN
    have a1:¬ s.size < 1:=by omega
    have a2:¬ 12 < s.size:=by omega
    go_enter Tryz.func180,Tryz.ntmps180
    go_wp2_with fail
    refine (Z6 _ _ (UInt8.toNat_lt _)).mono ?_
    rintro e w' ⟨rfl,rfl⟩
    rw [HF.out]
    go_wp2
    go_loop [3] (fun i=>∃ k:Nat,k≤s.size∧i=.int .i64 k∧(s.data.toList.take k).all (fun c=>inB c.toNat)=true) (fun i=>s.size - (intOf i).toNat)
    case atStart=>exact ⟨0,Nat.zero_le _,rfl,rfl⟩
    case round =>
     obtain ⟨k,hk,rfl,hd⟩:=hrel
     have HD:=Lib.hid hd
     clear hd
     by_cases hlt:k < s.size
     ·have hb:s[k].toNat < 256:=UInt8.toNat_lt _
      cases hc:letB s[k].toNat with
      | true =>
        have HC:=Lib.hid hc
        have hin:Hid (inB s[k].toNat=true):=Lib.hid (decide_eq_true (.inl (of_decide_eq_true hc)))
        clear hc
        go_wp2_with fail
        refine (Z6 _ _ (UInt8.toNat_lt _)).mono ?_
        rintro e w' ⟨rfl,rfl⟩
        rw [HC.out]
        go_wp2
        go_round
        case rel=>exact ⟨k+1,by omega,by go_num,by rw [xD _ s k hlt,HD.out,hin.out];rfl⟩
        case measure=>simp [intOf];omega
      | false =>
        have HC:=Lib.hid hc
        have hno:¬ (97≤s[k].toNat∧s[k].toNat≤122∨65≤s[k].toNat∧s[k].toNat≤90):=of_decide_eq_false hc
        have HNO:=Lib.hid hno
        clear hc hno
        go_wp2_with fail
        refine (Z6 _ _ (UInt8.toNat_lt _)).mono ?_
        rintro e w' ⟨rfl,rfl⟩
        rw [HC.out]
        go_wp2
        all_goals
         have hno:=HNO.out
         try simp only [bne_eq_false_iff_eq,bne_iff_ne] at *
        all_goals first
         | (go_ret
            exact ⟨zk (by rw [HR.out,zX _ s k hlt (decide_eq_false (by omega))]),rfl⟩)
         | (go_round
            case rel=>exact ⟨k+1,by omega,by go_num,by rw [xD _ s k hlt,HD.out];exact decide_eq_true (by omega)⟩
            case measure=>simp [intOf];omega)
     ·go_wp2
      go_ret
      exact ⟨zk (by rw [HR.out,xS _ s k hlt hk HD.out]),rfl⟩
 ·have HR:=Lib.hid (VA s hl)
  rcases (by omega:s.size < 1∨(¬ s.size < 1∧12 < s.size)) with a1 | ⟨a1,a2⟩
  ·clear hl
   go_enter Tryz.func180,Tryz.ntmps180
   go_wp2
   go_ret
   exact ⟨zk HR.out.symm,rfl⟩
  ·clear hl
   go_enter Tryz.func180,Tryz.ntmps180
   go_wp2
   go_ret
   exact ⟨zk HR.out.symm,rfl⟩
end Go.Proofs.YtdhfpgjnjlcciaaGreatDoor
end
