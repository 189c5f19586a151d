/- FlowInsert FlowRight FlowAdd UnitReader PkReader ChartLaid ChartMarked ChartWords ChartWordsSame ChartParse UnitFormed PkRead1 CentText Segs StoreEl -/
import Derived.Deep.CutBlock
import Derived.Deep.DeepCutAuto
import Derived.Deep.OwnRows
import Derived.Deep.RegionLaw
import Derived.Lib.LaidTab
import Derived.Lib.SmallJoins
import Derived.OrdersHeld
import Derived.Test.YtdegffffcbhjbaaGreatDoorQ03
section
namespace Go.Proofs.YtdegffffcbhjbaaGreatDoor.Fl
open Go.RowKit
theorem ins_u:Tryz.prog.underlying 26=some (.slice (Tryz.prog.elem 26)):=by kernel_rfl
theorem ins_s (w:World):(sizeOf (Tryz.prog.elem 26)).run Tryz.prog w=.ok 2 w:=by kernel_rfl
theorem ins_sz:(Tryz.prog.info? 143).map (·.size)=some 2:=by kernel_rfl
theorem ins_size (w:World):(sizeOf 143).run Tryz.prog w=.ok 2 w:=by kernel_rfl
theorem from_at (w:World) (g n c k:Nat) (z:Int) (hz:z=(k:Int)) (hk:k≤n) (hc:k < c):(Instr.slice 26 (.slice (some ⟨g,0,none⟩) n c) (some (.int .i64 z)) none none).run Tryz.prog w=.ok (.slice (some ⟨g,k * 2,none⟩) (n - k) (c - k)) w:=by
 subst hz
 rw [run_slice_l w 26 _ n c ins_u .i64 (k:Int) (by omega) (by omega),ins_s]
 have:¬ c=k:=by omega
 simp [Result.andThen,sliced,this,add_off]
theorem upto_at (w:World) (g n c k:Nat) (z:Int) (hz:z=(k:Int)) (hk:k≤c):(Instr.slice 26 (.slice (some ⟨g,0,none⟩) n c) none (some (.int .i64 z)) none).run Tryz.prog w=.ok (.slice (some ⟨g,0,none⟩) k c) w:=by
 subst hz
 rw [run_slice_h w 26 _ n c ins_u .i64 (k:Int) (by omega) (by omega),ins_s]
 simp [Result.andThen,sliced,Addr.add]
theorem overlaps_no (w:World) (vb g off lb cb:Nat) (x:Flow) (cur:Array Value) (hne:vb≠g) (hx:BoxE encF w vb 143 x) (hg:w.heap[g]?=some (.cells cur 143 (0,0))) (h0:cur.size≠0) :
 (callFunc 163 #[.slice (some ⟨vb,0,none⟩) 1 1,.slice (some ⟨g,off,none⟩) lb cb]).run Tryz.prog w=.ok (.value (.bool false)) w:=by
 unfold BoxE encF at hx
 rw [run_callFunc_extern Tryz.func163 (by kernel_rfl) (by kernel_rfl) (by kernel_rfl) (e:=Extern.SlicesOverlaps.overlaps #[25,25] #[4]) (by kernel_rfl),
  Lib.run_overlaps_apart w 25 4 143 Tryz.underlying25 2 ins_size ⟨vb,0,none⟩ ⟨g,off,none⟩ 1 1 lb cb hne 143 143 2 cur.size (by simp [World.shape?,hx]) (by simp [World.shape?,hg]) h0 (by simp [World.frozen?,hx]) (by simp [World.frozen?,hx])]
 rfl
theorem ins_cells (L:List Flow) (x:Flow) (i:Nat):flat encF (L.take i++x::L.drop i)=(flat encF L).take (i * 2)++((encF.cs x)++(flat encF L).drop (i * 2)):=by
 rw [flat_append,flat_cons,gen_take,gen_drop]
def InsOwn (w:World) (B:Nat) (v0:Value) (M:List Flow) (e:Ending) (w':World):Prop:=∃ v,e=.returned v∧w'.ownsRow B 143 2 v M.length (flat encF M)∧w.grownBy w' v0.ownBlock
theorem grownBy_drewN (w:World) (q:Nat) (row:Option Nat):w.grownBy (w.drewN q) row:=⟨rfl,rfl,rfl,Nat.le_refl _,fun _ _ _=>rfl⟩
theorem grownBy_of_below {w w':World} (h:Below w.heap.size w w') (row:Option Nat):w.grownBy w' row:=⟨h.os,h.tape,h.output,h.size,fun j hj _=>h.block j hj⟩
set_option maxRecDepth 100000 in
set_option maxHeartbeats 4000000 in
theorem insert_end (v:Value) (L:List Flow) (x:Flow) (vb B:Nat) (w:World) (h:w.ownsRow B 143 2 v L.length (flat encF L)) (hB:B≤w.heap.size) (hx:BoxE encF w vb 143 x) (hL:L.length≤1000) :
 Calls Tryz.prog 144 #[v,.int .i64 (L.length:Int),.slice (some ⟨vb,0,none⟩) 1 1] w (InsOwn w B v (L.take L.length++x::L.drop L.length)):=by
 have HM:Hid (L.take L.length++x::L.drop L.length=L++[x]):=Lib.hid (by simp)
 rw [HM.out]
 obtain ⟨i0,hi,hz0,hz1,hz2⟩:=info_parts gen_info
 have hcx:∀ (j:Nat) u,(encF.cs x)[j]?=some u→w.cell? ((⟨vb,0,none⟩:Addr).add j)=some u:=fun j u hj=>by rw [add_off];exact hx.at0 j u hj
 have HOW:=Lib.hid h
 have hv:∃ p c,v=.slice p L.length c∧L.length≤c∧c≤maxLen∧(p=none→c=0)∧(∀ a,p=some a→∃ g,a=⟨g,0,none⟩):=by
  rcases h.2 with ⟨rfl,hn⟩ | ⟨g,cap,cur,rfl,_,_,hnc,hcm,_⟩
  ·exact ⟨none,0,by rw [hn],by omega,by simp,fun _=>rfl,fun a e=>by cases e⟩
  ·exact ⟨_,cap,rfl,hnc,hcm,(fun e=>by cases e),fun a e=>by cases e;exact ⟨g,rfl⟩⟩
 obtain ⟨p,c,rfl,hnc,hcm,hpn,hps⟩:=hv
 obtain ⟨v',w',hr,h2,h3,_⟩:=run_append_own (P:=Tryz.prog) w B 26 26 143 i0 _ 2 24 Tryz.underlying26 hi hz0 hz1 hz2 rfl (by decide) _ _ _ h ⟨vb,0,none⟩ 1 1 (encF.cs x) rfl hcx (encF.one x) (by unfold maxLen;omega) (by omega) hB
 have hra:(Builtin.append_ #[26,25] 26 #[.slice p L.length c,.slice (some ⟨vb,0,none⟩) 1 1]).run Tryz.prog w=.ok v' w':=by
  rw [append_types w _ _ _ _ _ i0 Tryz.underlying26 Tryz.underlying25 hi];exact hr
 have HRA:=Lib.hid hra
 have HCV:Hid (w'.ownsRow B 143 2 v' (L++[x]).length (flat encF (L++[x]))):=Lib.hid (by
  have:w'.ownsRow B 143 2 v' (L++[x]).length (flat encF (L++[x])):=by
   rw [List.length_append,flat_append,show flat encF [x]=encF.cs x from flat_one x];exact h2
  exact this)
 have HBL:=Lib.hid h3
 obtain ⟨n,hn⟩:∃ n,L.length=n:=⟨_,rfl⟩
 rw [hn] at HRA hL hnc ⊢
 unfold maxLen at hcm
 clear hr h2 h3 hra h HOW hn hi hz0 hz1 hz2 hcx
 cases p with
 | none =>
   have hc0:=hpn rfl
   obtain rfl:n=0:=by omega
   subst hc0
   go_enter Tryz.func144,Tryz.ntmps144
   go_wp2_with (at_builtin;refine Lib.wpList_append_run _ rfl _ _ _ _ rfl _ _ rfl rfl v' w' HRA.out ?_)
   go_ret
   exact ⟨v',rfl,HCV.out,HBL.out⟩
 | some a =>
   obtain ⟨g,rfl⟩:=hps a rfl
   have hnn:(n:Int)≤(n:Int):=Int.le_refl _
   by_cases hcn:c=n
   ·subst hcn
    go_enter Tryz.func144,Tryz.ntmps144
    go_wp2_with (at_builtin;refine Lib.wpList_append_run _ rfl _ _ _ _ rfl _ _ rfl rfl v' w' HRA.out ?_)
    go_ret
    exact ⟨v',rfl,HCV.out,HBL.out⟩
   ·have e1:=from_at (z:=(n:Int)) (g:=g) (n:=n) (c:=c) (k:=n) (hz:=rfl) (hk:=Nat.le_refl _) (hc:=by omega)
    go_enter Tryz.func144,Tryz.ntmps144
    go_wp2_with (at_builtin;refine Lib.wpList_append_run _ rfl _ _ _ _ rfl _ _ rfl rfl v' w' HRA.out ?_)
    go_ret
    exact ⟨v',rfl,HCV.out,HBL.out⟩
set_option maxRecDepth 100000 in
set_option maxHeartbeats 4000000 in
theorem insert_room (g cap:Nat) (cur:Array Value) (L:List Flow) (x:Flow) (i vb B:Nat) (w:World) (hBg:B≤g) (hg:w.heap[g]?=some (.cells cur 143 (0,0))) (hcap:cap≤maxLen) (hcs:cur.size=cap * 2) (htk:cur.toList.take (L.length * 2)=flat encF L)
 (hx:BoxE encF w vb 143 x) (hne:vb≠g) (hi:i < L.length) (hr:L.length+1≤cap) :
 Calls Tryz.prog 144 #[.slice (some ⟨g,0,none⟩) L.length cap,.int .i64 (i:Int),.slice (some ⟨vb,0,none⟩) 1 1] w (InsOwn w B (.slice (some ⟨g,0,none⟩) L.length cap) (L.take i++x::L.drop i)):=by
 obtain ⟨M,hM⟩:∃ M,L.take i++x::L.drop i=M:=⟨_,rfl⟩
 obtain ⟨n,hn⟩:∃ n,L.length=n:=⟨_,rfl⟩
 have hML:M.length=n+1:=by rw [←hM,←hn];simp;omega
 obtain ⟨A,hA⟩:∃ A,(flat encF L).take (i * 2)=A:=⟨_,rfl⟩
 obtain ⟨D,hD⟩:∃ D,(flat encF L).drop (i * 2)=D:=⟨_,rfl⟩
 have hFM:flat encF M=A++((encF.cs x)++D):=by rw [←hM,ins_cells,hA,hD]
 have hFL:flat encF L=A++D:=by rw [←hA,←hD,List.take_append_drop]
 have hFlen:=gen_length L
 rw [hn] at hFlen htk hi hr ⊢
 have hAl:A.length=i * 2:=by rw [←hA,List.length_take,hFlen];omega
 have hDl:D.length=(n - i) * 2:=by rw [←hD,List.length_drop,hFlen];omega
 obtain ⟨S,hS⟩:∃ S,cur.toList.drop (n * 2)=S:=⟨_,rfl⟩
 have hcur:cur.toList=A++(D++S):=by rw [←List.take_append_drop (n * 2) cur.toList,htk,hS,hFL,List.append_assoc]
 have hSl:S.length=(cap - n) * 2:=by rw [←hS,List.length_drop,Array.length_toList,hcs];omega
 have hXl:(encF.cs x).length=2:=rfl
 have hg':w.heap[g]?=some (.cells (A++(D++S)).toArray 143 (0,0)):=by rw [←hcur];simpa using hg
 have hDone:∀ v∈D,v.oneCell'=true:=fun v hv=>flat_ones L v (by rw [hFL];simp [hv])
 have HG:=Lib.hid hg'
 have HX:=Lib.hid hx
 have HM:=Lib.hid hM
 have HOV:=Lib.hid (fun off lb cb=>overlaps_no w vb g off lb cb x cur hne hx hg (by rw [hcs];omega))
 have HSRC:Hid (∀ (w':World),w'.heap[g]?=w.heap[g]?→∀ (j:Nat) v,D[j]?=some v→w'.cell? ((⟨g,i * 2,none⟩:Addr).add j)=some v):=Lib.hid (fun w' hw' j v hj=>by
  rw [add_off,cell_of_row _ g (i * 2+j) _ 143 (0,0) (hw'.trans hg')]
  simp only [List.getElem?_toArray]
  rw [←hAl,List.getElem?_append_right (by omega),Nat.add_sub_cancel_left,List.getElem?_append_left (List.getElem?_eq_some_iff.1 hj).1]
  exact hj)
 have HL:=Lib.hid (And.intro hML (And.intro hFM (And.intro hAl (And.intro hDl (And.intro hSl hDone)))))
 rw [hM]
 unfold maxLen at hcap
 have e0:=fun wq=>from_at (w:=wq) (z:=(i:Int)) (g:=g) (n:=n) (c:=cap) (k:=i) (hz:=rfl) (hk:=by omega) (hc:=by omega)
 have e1:=fun wq=>upto_at (w:=wq) (z:=(n:Int)+1) (g:=g) (n:=n) (c:=cap) (k:=n+1) (hz:=by omega) (hk:=by omega)
 have e2:=fun wq=>from_at (w:=wq) (z:=(i:Int)+1) (g:=g) (n:=n+1) (c:=cap) (k:=i+1) (hz:=by omega) (hk:=by omega) (hc:=by omega)
 have e3:=fun wq=>from_at (w:=wq) (z:=(i:Int)) (g:=g) (n:=n+1) (c:=cap) (k:=i) (hz:=rfl) (hk:=by omega) (hc:=by omega)
 have hz1:¬ ((i:Int)=(n:Int)):=by omega
 have hz2:¬ ((cap:Int) < (n:Int)+1):=by omega
 have hw1:IntKind.i64.wrap ((i:Int)+1)=(i:Int)+1:=by rw [IntKind.wrap_i64];omega
 have hov:=HOV.out
 clear hFlen hcur hS hFL hA hD hn hM hML hFM hAl hDl hSl hXl hg hg' hDone htk hcs hx HOV
 go_enter Tryz.func144,Tryz.ntmps144
 go_wp2_with (simp only [hov])
 go_region_law (refine step_copyK rfl (.tmp 73) (.tmp 76) 26 26 rfl 143 Tryz.underlying26 2 ins_sz (some ⟨g,(i+1) * 2,none⟩) (some ⟨g,i * 2,none⟩) (n+1 - (i+1)) (cap - (i+1)) (n+1 - i) (cap - i) (by simp [Act.eval,Act.put]) (by simp [Act.eval,Act.put]) g ((i+1) * 2) (A++(D++S)) 143 HG.out D (n - i) (by simp only [Nat.min_def];split <;> omega) HL.out.2.2.2.1 rfl ⟨g,i * 2,none⟩ rfl (HSRC.out _ rfl) (by have h:=HL.out;simp only [List.length_append];omega) HL.out.2.2.2.2.2 ?_;intro w1 hg1 hgr1)
 have HG1:=Lib.hid hg1.out
 have HGR1:=Lib.hid hgr1
 have HX1:Hid (BoxE encF w1 vb 143 x):=Lib.hid (by
  have hb:=HX.out
  have hlt:vb < w.heap.size:=(Array.getElem?_eq_some_iff.1 hb).1
  exact (hgr1.block vb hlt (fun e=>hne (Option.some.inj e))).trans hb)
 clear hg1 hgr1
 go_wp2_with (refine wpList_copyK rfl (.tmp 80) (.tmp 81) 26 25 rfl 143 Tryz.underlying26 2 ins_sz _ _ _ _ _ _ rfl rfl g (i * 2) (splice (A++(D++S)) ((i+1) * 2) D) 143 HG1.out (encF.cs x) 1 (by simp only [Nat.min_def];split <;> omega) rfl rfl ⟨vb,0,none⟩ rfl (fun j u hj=>by rw [add_off];exact HX1.out.at0 j u hj) (by have h:=HL.out;rw [length_splice _ _ _ (by simp only [List.length_append];omega)];simp only [List.length_append];show _+2≤_;omega) (encF.one x) ?_;intro w2 hg2 hgr2)
 have HF:Hid (w2.ownsRow B 143 2 (.slice (some ⟨g,0,none⟩) (n+1) cap) M.length (flat encF M)):=Lib.hid (by
  obtain ⟨hML,hFM,hAl,hDl,hSl,_⟩:=HL.out
  have hsp:splice (splice (A++(D++S)) ((i+1) * 2) D) (i * 2) (encF.cs x)=A++((encF.cs x)++(D++(D++S).drop (2+D.length))):=by
   rw [show (i+1) * 2=A.length+(encF.cs x).length by rw [hAl];show _=_+2;omega,show i * 2=A.length from hAl.symm]
   exact splice_back A (encF.cs x) D (D++S) (by simp only [List.length_append];show 2+_≤_;omega)
  have hh:=hg2.out
  rw [hsp] at hh
  have own:w2.ownsRow B 143 2 (.slice (some ⟨g,0,none⟩) M.length cap) M.length (flat encF M):=by
   refine ⟨gen_length M,.inr ⟨g,cap,_,rfl,hBg,hh,by omega,by unfold maxLen;omega,?_,?_⟩⟩
   ·simp only [List.size_toArray,List.length_append,List.length_drop]
    show _+(2+_)=_
    omega
   ·rw [hFM,hML]
    have:(A++((encF.cs x)++D)).length=(n+1) * 2:=by simp only [List.length_append];show _+(2+_)=_;omega
    rw [←this,show A++((encF.cs x)++(D++(D++S).drop (2+D.length)))=(A++((encF.cs x)++D))++(D++S).drop (2+D.length) by simp]
    exact List.take_left
  rw [←hML]
  exact own)
 have HBL:Hid (w.grownBy w2 (some g)):=Lib.hid (((grownBy_drewN w 1 (some g)).trans HGR1.out).trans hgr2)
 clear hg2 hgr2
 go_ret
 exact ⟨_,rfl,HF.out,HBL.out⟩
set_option maxRecDepth 100000 in
set_option maxHeartbeats 4000000 in
theorem insert_grow (g cap:Nat) (cur:Array Value) (L:List Flow) (x:Flow) (i vb B:Nat) (w:World) (hg:w.heap[g]?=some (.cells cur 143 (0,0))) (hcap:cap≤maxLen) (hcs:cur.size=cap * 2) (htk:cur.toList.take (L.length * 2)=flat encF L)
 (hB:B≤w.heap.size) (hx:BoxE encF w vb 143 x) (hi:i < L.length) (hnc:L.length≤cap) (hr:cap < L.length+1) (hL:L.length≤1000) :
 Calls Tryz.prog 144 #[.slice (some ⟨g,0,none⟩) L.length cap,.int .i64 (i:Int),.slice (some ⟨vb,0,none⟩) 1 1] w (InsOwn w B (.slice (some ⟨g,0,none⟩) L.length cap) (L.take i++x::L.drop i)):=by
 obtain ⟨M,hM⟩:∃ M,L.take i++x::L.drop i=M:=⟨_,rfl⟩
 obtain ⟨n,hn⟩:∃ n,L.length=n:=⟨_,rfl⟩
 have hML:M.length=n+1:=by rw [←hM,←hn];simp;omega
 obtain ⟨A,hA⟩:∃ A,(flat encF L).take (i * 2)=A:=⟨_,rfl⟩
 obtain ⟨D,hD⟩:∃ D,(flat encF L).drop (i * 2)=D:=⟨_,rfl⟩
 have hFM:flat encF M=A++((encF.cs x)++D):=by rw [←hM,ins_cells,hA,hD]
 have hFL:flat encF L=A++D:=by rw [←hA,←hD,List.take_append_drop]
 have hFlen:=gen_length L
 rw [hn] at hFlen htk hi hr hnc hL ⊢
 obtain rfl:cap=n:=by omega
 have hAl:A.length=i * 2:=by rw [←hA,List.length_take,hFlen];omega
 have hDl:D.length=(cap - i) * 2:=by rw [←hD,List.length_drop,hFlen];omega
 have hcur:cur.toList=A++D:=by rw [←hFL,←htk,List.take_of_length_le (by rw [Array.length_toList,hcs];exact Nat.le_refl _)]
 have hg':w.heap[g]?=some (.cells (A++D).toArray 143 (0,0)):=by rw [←hcur];simpa using hg
 have hDone:∀ v∈D,v.oneCell'=true:=fun v hv=>flat_ones L v (by rw [hFL];simp [hv])
 obtain ⟨i0,hi0,hz0,hz1,hz2⟩:=info_parts gen_info
 have hgl:g < w.heap.size:=(Array.getElem?_eq_some_iff.1 hg).1
 have hvl:vb < w.heap.size:=(Array.getElem?_eq_some_iff.1 hx).1
 have hAt:∀ (j:Nat) v,A[j]?=some v→w.cell? ((⟨g,0,none⟩:Addr).add j)=some v:=fun j v hj=>by
  rw [add_off,Nat.zero_add,cell_of_row _ g j _ 143 (0,0) hg']
  simp only [List.getElem?_toArray]
  rw [List.getElem?_append_left (List.getElem?_eq_some_iff.1 hj).1];exact hj
 have hold:(Builtin.firstCells i0.size i (.slice (some ⟨g,0,none⟩) i cap)).run Tryz.prog w.drew=.ok A.toArray w.drew:=by
  rw [hz1];exact run_firstCells_some w.drew 2 i ⟨g,0,none⟩ i cap A hAl hAt
 have hk:i+(cap+1 - i)=cap+1:=by omega
 have hrz:∀ ty,(Builtin.append_ #[26,3] ty #[.slice (some ⟨g,0,none⟩) i cap,.int .i64 ((cap+1 - i:Nat):Int)]).run Tryz.prog w=_:=fun ty =>
  Lib.run_append_grow_zeros w 26 3 ty 143 i0 _ .i64 .i64 Tryz.underlying26 Tryz.underlying3 hi0 hz0 (some ⟨g,0,none⟩) i cap A hold (cap+1 - i) (by omega) (by omega) (by omega) (by omega) (by rw [hz2];omega) (by rw [hz2,hk];exact growslice_fits (by omega) (by omega))
 rw [hk] at hrz
 obtain ⟨G,hG⟩:∃ G,grownCap w (cap+1) cap 143=G:=⟨_,rfl⟩
 have hGge:cap+1≤G:=by rw [←hG];exact grownCap_ge w _ _ _
 have hGle:G≤maxLen:=by rw [←hG];exact grownCap_le_maxLen w _ _ _ (by unfold maxLen;omega)
 rw [hG] at hrz
 obtain ⟨Z,hZ⟩:∃ Z:List Value,(Builtin.zeroCells (Value.agg #[.string ⟨#[]⟩,.int .i64 0]).cells (cap+1 - i)++Builtin.zeroCells (Value.agg #[.string ⟨#[]⟩,.int .i64 0]).cells (G - (cap+1))).toList=Z:=⟨_,rfl⟩
 have hZl:Z.length=(cap+1 - i) * 2+(G - (cap+1)) * 2:=by rw [←hZ];simp [Builtin.zeroCells,Value.cells]
 obtain ⟨W1,hW1⟩:∃ W1,w.drew.alloc (.cells (A++Z).toArray 143)=W1:=⟨_,rfl⟩
 have hrow:(A.toArray++Builtin.zeroCells (Value.agg #[.string ⟨#[]⟩,.int .i64 0]).cells (cap+1 - i)++Builtin.zeroCells (Value.agg #[.string ⟨#[]⟩,.int .i64 0]).cells (G - (cap+1)))=(A++Z).toArray:=by
  rw [←hZ];apply Array.ext';simp
 rw [hrow,hW1] at hrz
 have hG1:W1.heap[w.heap.size]?=some (.cells (A++Z).toArray 143 (0,0)):=by rw [←hW1];exact heap_alloc_new w.drew _
 have hB1:Below w.heap.size w W1:=by rw [←hW1];exact (below_drewN (Below.refl w.heap.size w) 1).alloc (Nat.le_refl _) _
 have HG1:=Lib.hid hG1
 have HB1:=Lib.hid hB1
 have HX1:Hid (BoxE encF W1 vb 143 x):=Lib.hid (hx.keep hB1 hvl)
 have HGO:Hid (W1.heap[g]?=some (.cells (A++D).toArray 143 (0,0))):=Lib.hid ((hB1.block g hgl).trans hg')
 have HL:=Lib.hid (And.intro hML (And.intro hFM (And.intro hAl (And.intro hDl (And.intro hZl hDone)))))
 have HRZ:=Lib.hid (hrz 26)
 rw [hM]
 unfold maxLen at hcap hGle
 have hki:((cap:Int)+1 - (i:Int))=((cap+1 - i:Nat):Int):=by omega
 have HKI:=Lib.hid hki
 have e0:=fun wq=>from_at (w:=wq) (z:=(i:Int)) (g:=g) (n:=cap) (c:=cap) (k:=i) (hz:=rfl) (hk:=by omega) (hc:=by omega)
 have e1:=fun wq=>upto_at (w:=wq) (z:=(i:Int)) (g:=g) (n:=cap) (c:=cap) (k:=i) (hz:=rfl) (hk:=by omega)
 have e2:=fun wq=>from_at (w:=wq) (z:=(i:Int)+1) (g:=w.heap.size) (n:=cap+1) (c:=G) (k:=i+1) (hz:=by omega) (hk:=by omega) (hc:=by omega)
 have e3:=fun wq=>from_at (w:=wq) (z:=(i:Int)) (g:=w.heap.size) (n:=cap+1) (c:=G) (k:=i) (hz:=rfl) (hk:=by omega) (hc:=by omega)
 have hz1':¬ ((i:Int)=(cap:Int)):=by omega
 have hz2':((cap:Int) < (cap:Int)+1):=by omega
 have hw1:IntKind.i64.wrap ((i:Int)+1)=(i:Int)+1:=by rw [IntKind.wrap_i64];omega
 have HGL:=Lib.hid hgl
 clear hFlen hcur hFL hA hD hn hM hML hFM hAl hDl hg hg' hDone htk hcs hx hZ hZl hW1 hrow hrz hG1 hB1 hG hold hAt hi0 hz0 hz1 hz2 hk hki hgl hvl
 go_enter Tryz.func144,Tryz.ntmps144
 go_wp2_with (first
  | (at_builtin;refine Lib.wpList_append_run _ rfl _ _ _ _ rfl _ _ rfl rfl _ W1 (by rw [HKI.out];exact HRZ.out) ?_)
  | (refine wpList_copyK rfl (.tmp 43) (.tmp 44) 26 25 rfl 143 Tryz.underlying26 2 ins_sz _ _ _ _ _ _ rfl rfl w.heap.size (i * 2) (A++Z) 143 HG1.out (encF.cs x) 1 (by simp only [Nat.min_def];split <;> omega) rfl rfl ⟨vb,0,none⟩ rfl (fun j u hj=>by rw [add_off];exact HX1.out.at0 j u hj) (by have h:=HL.out;simp only [List.length_append];show _+2≤_;omega) (encF.one x) ?_;intro w2 hg2 hgr2))
 have HG2:=Lib.hid hg2.out
 have HGR2:=Lib.hid hgr2
 have HGO2:Hid (w2.heap[g]?=some (.cells (A++D).toArray 143 (0,0))):=Lib.hid ((hgr2.block g (Nat.lt_of_lt_of_le HGL.out HB1.out.size) (fun e=>by have:=Option.some.inj e;have:=HGL.out;omega)).trans HGO.out)
 have HSRC:Hid (∀ (j:Nat) v,D[j]?=some v→w2.cell? ((⟨g,i * 2,none⟩:Addr).add j)=some v):=Lib.hid (fun j v hj=>by
  rw [add_off,cell_of_row _ g (i * 2+j) _ 143 (0,0) HGO2.out]
  simp only [List.getElem?_toArray]
  rw [←HL.out.2.2.1,List.getElem?_append_right (by omega),Nat.add_sub_cancel_left]
  exact hj)
 clear hg2 hgr2
 go_region_law (refine step_copyK rfl (.tmp 50) (.tmp 53) 26 26 rfl 143 Tryz.underlying26 2 ins_sz (some ⟨w.heap.size,(i+1) * 2,none⟩) (some ⟨g,i * 2,none⟩) (cap+1 - (i+1)) (G - (i+1)) (cap - i) (cap - i) (by simp [Act.eval,Act.put]) (by simp [Act.eval,Act.put]) w.heap.size ((i+1) * 2) (splice (A++Z) (i * 2) (encF.cs x)) 143 HG2.out D (cap - i) (by simp only [Nat.min_def];split <;> omega) HL.out.2.2.2.1 rfl ⟨g,i * 2,none⟩ rfl HSRC.out (by have h:=HL.out;rw [length_splice _ _ _ (by simp only [List.length_append];show _+2≤_;omega)];simp only [List.length_append];omega) HL.out.2.2.2.2.2 ?_;intro w3 hg3 hgr3)
 have HF:Hid (w3.ownsRow B 143 2 (.slice (some ⟨w.heap.size,0,none⟩) (cap+1) G) M.length (flat encF M)):=Lib.hid (by
  obtain ⟨hML,hFM,hAl,hDl,hZl,_⟩:=HL.out
  have hsp:splice (splice (A++Z) (i * 2) (encF.cs x)) ((i+1) * 2) D=A++((encF.cs x)++(D++Z.drop (2+D.length))):=by
   rw [show (i+1) * 2=A.length+(encF.cs x).length by rw [hAl];show _=_+2;omega,show i * 2=A.length from hAl.symm]
   exact splice_fwd A (encF.cs x) D Z (by show 2+_≤_;omega)
  have hh:=hg3.out
  rw [hsp] at hh
  have own:w3.ownsRow w.heap.size 143 2 (.slice (some ⟨w.heap.size,0,none⟩) M.length G) M.length (flat encF M):=by
   refine ⟨gen_length M,.inr ⟨w.heap.size,G,_,rfl,Nat.le_refl _,hh,by omega,by unfold maxLen;omega,?_,?_⟩⟩
   ·simp only [List.size_toArray,List.length_append,List.length_drop]
    show _+(2+_)=_
    omega
   ·rw [hFM,hML]
    have:(A++((encF.cs x)++D)).length=(cap+1) * 2:=by simp only [List.length_append];show _+(2+_)=_;omega
    rw [←this,show A++((encF.cs x)++(D++Z.drop (2+D.length)))=(A++((encF.cs x)++D))++Z.drop (2+D.length) by simp]
    exact List.take_left
  rw [←hML]
  exact row_base own hB)
 have HBL:Hid (w.grownBy w3 (some g)):=Lib.hid (((grownBy_of_below HB1.out (some g)).andThen HGR2.out (fun j hj=>.inl (by cases hj;exact Nat.le_refl _))).andThen ((grownBy_drewN w2 1 (some w.heap.size)).trans hgr3) (fun j hj=>.inl (by cases hj;exact Nat.le_refl _)))
 clear hg3 hgr3
 go_wp2
 go_ret
 exact ⟨_,rfl,HF.out,HBL.out⟩
theorem insert_own (v:Value) (L:List Flow) (x:Flow) (i vb B:Nat) (w:World) (h:w.ownsRow B 143 2 v L.length (flat encF L)) (hB:B≤w.heap.size) (hx:BoxE encF w vb 143 x) (hne:v.ownBlock≠some vb) (hi:i≤L.length) (hL:L.length≤1000) :
 Calls Tryz.prog 144 #[v,.int .i64 (i:Int),.slice (some ⟨vb,0,none⟩) 1 1] w (InsOwn w B v (L.take i++x::L.drop i)):=by
 by_cases hie:i=L.length
 ·subst hie;exact insert_end v L x vb B w h hB hx hL
 ·rcases h.2 with ⟨rfl,hn⟩ | ⟨g,cap,cur,rfl,hBg,hg,hnc,hcm,hcs,htk⟩
  ·omega
  ·by_cases hr:L.length+1≤cap
   ·exact insert_room g cap cur L x i vb B w hBg hg hcm hcs htk hx (fun e=>hne (by rw [e];rfl)) (by omega) hr
   ·exact insert_grow g cap cur L x i vb B w hg hcm hcs htk hB hx (by omega) hnc (by omega) hL
end Go.Proofs.YtdegffffcbhjbaaGreatDoor.Fl
end
section
namespace Go.Proofs.YtdegffffcbhjbaaGreatDoor.Fl
open Go.RowKit
theorem name_is (s:ByteArray) (b:Bool) (h:nmB s=b) (w:World):Calls Tryz.prog 107 #[.string s] w fun e w'=>e=.returned (.bool b)∧w=w':=by
 rw [←h];exact name_at s w
set_option maxRecDepth 100000 in
set_option maxHeartbeats 4000000 in
theorem right_any (f:Flow) (w:World):Calls Tryz.prog 142 #[aggL f] w fun e w'=>e=.returned (.bool (rightF f))∧Below w.heap.size w w':=by
 have HB:=Lib.hid ((Below.refl w.heap.size w).alloc (Nat.le_refl _) (.cells #[.string f.code,.int .i64 f.kind] 143))
 obtain ⟨r,hr⟩:∃ r,rightF f=r:=⟨_,rfl⟩
 rw [hr]
 have HR:=Lib.hid hr
 clear hr
 obtain ⟨co,k⟩:=f
 simp only at HB HR ⊢
 cases hc:nmB co with
 | false =>
   have HC:=Lib.hid hc
   clear hc
   go_enter Tryz.func142,Tryz.ntmps142
   go_wp2_with (go_at_call 107;refine (name_is co _ HC.out _).mono ?_;rintro e w' ⟨rfl,rfl⟩)
   go_ret
   exact ⟨ret_bool (by rw [←HR.out];simp [rightF,HC.out]),HB.out⟩
 | true =>
   have HC:=Lib.hid hc
   clear hc
   by_cases h0:0≤k
   ·by_cases h5:k < 5
    ·go_enter Tryz.func142,Tryz.ntmps142
     go_wp2_with (go_at_call 107;refine (name_is co _ HC.out _).mono ?_;rintro e w' ⟨rfl,rfl⟩)
     go_ret
     exact ⟨ret_bool (by rw [←HR.out];simp [rightF,HC.out,h0,h5]),HB.out⟩
    ·go_enter Tryz.func142,Tryz.ntmps142
     go_wp2_with (go_at_call 107;refine (name_is co _ HC.out _).mono ?_;rintro e w' ⟨rfl,rfl⟩)
     go_ret
     exact ⟨ret_bool (by rw [←HR.out];have:¬ k < 5:=(by omega);simp [rightF,this]),HB.out⟩
   ·go_enter Tryz.func142,Tryz.ntmps142
    go_wp2_with (go_at_call 107;refine (name_is co _ HC.out _).mono ?_;rintro e w' ⟨rfl,rfl⟩)
    go_ret
    exact ⟨ret_bool (by rw [←HR.out];have:¬ 0≤k:=(by omega);simp [rightF,this]),HB.out⟩
end Go.Proofs.YtdegffffcbhjbaaGreatDoor.Fl
end
section
namespace Go.Proofs.YtdegffffcbhjbaaGreatDoor.Fl
open Go.RowKit
def AddOwn (w:World) (M:List Flow) (n:Int) (e:Ending) (w':World):Prop:=∃ v,e=.returned (.tuple #[v,.int .i64 n])∧w'.ownsRow w.heap.size 143 2 v M.length (flat encF M)∧Below w.heap.size w w'
def InsRow (w:World) (B:Nat) (M:List Flow) (e:Ending) (w':World):Prop:=∃ v,e=.returned v∧w'.ownsRow B 143 2 v M.length (flat encF M)∧Below B w w'
theorem insert_row (v:Value) (L:List Flow) (x:Flow) (i vb B:Nat) (w:World) (h:w.ownsRow B 143 2 v L.length (flat encF L)) (hB:B≤w.heap.size) (hx:BoxE encF w vb 143 x) (hne:v.ownBlock≠some vb) (hi:i≤L.length) (hL:L.length≤1000) :
 Calls Tryz.prog 144 #[v,.int .i64 (i:Int),.slice (some ⟨vb,0,none⟩) 1 1] w (InsRow w B (L.take i++x::L.drop i)) :=
 (insert_own v L x i vb B w h hB hx hne hi hL).mono fun _ _ ⟨u,e,ho,hg⟩=>⟨u,e,ho,below_grown (Below.refl B w) hB h hg⟩
abbrev cellsF (a:Flow):Array Value:=#[.string a.code,.int .i64 a.kind]
theorem ret_pair {v:Value} {a b:Int} (h:a=b):Ending.returned (.tuple #[v,.int .i64 a])=.returned (.tuple #[v,.int .i64 b]):=by rw [h]
theorem ins_late {w5:World} {v:Value} {L:List Flow} {a:Flow} {i B:Nat} (h:w5.ownsRow B 143 2 v L.length (flat encF L)) (hB:B≤w5.heap.size) (hi:i≤L.length) (hL:L.length≤1000) :
 Calls Tryz.prog 144 #[v,.int .i64 (i:Int),.slice (some ⟨w5.heap.size,0,none⟩) 1 1] (w5.alloc (.cells (cellsF a) 143)) (InsRow (w5.alloc (.cells (cellsF a) 143)) B (L.take i++a::L.drop i)) :=
 insert_row v L a i w5.heap.size B _ (h.alloc _) (by simp;omega) (BoxE.new encF w5 a _) (fun e=>by have:=(h.lt _ e).2;omega) hi hL
set_option maxRecDepth 100000 in
set_option maxHeartbeats 8000000 in
theorem add_own (v:Value) (L:List Flow) (a:Flow) (w:World) (h:FlowsV w v L) (hrise:riseK Flow.code L=true) (hL:L.length≤1000) :
 Calls Tryz.prog 105 #[v,aggL a] w (AddOwn w (addV L a) (addE L a)):=by
 obtain ⟨E,hE⟩:∃ E,addE L a=E:=⟨_,rfl⟩
 obtain ⟨M,hM⟩:∃ M,addV L a=M:=⟨_,rfl⟩
 rw [hE,hM]
 have HE:=Lib.hid hE
 have HMV:=Lib.hid hM
 clear hE hM
 have HRI:=Lib.hid hrise
 have HB0:=Lib.hid ((Below.refl w.heap.size w).alloc (Nat.le_refl _) (.cells (cellsF a) 143))
 have HX0:=Lib.hid (BoxE.new encF w a 143)
 have HV0:=Lib.hid (h.keep HB0.out)
 obtain ⟨p,c,rfl,hcap,hm,hpn,hc⟩:=h
 obtain ⟨n,hn⟩:∃ n,L.length=n:=⟨_,rfl⟩
 have HLL:=Lib.hid hL
 rw [hn] at hcap HV0 hL ⊢
 have HN:=Lib.hid hn
 unfold maxLen at hm
 clear hc hpn hn hrise
 obtain ⟨r,hr⟩:∃ r,rightF a=r:=⟨_,rfl⟩
 have HR:=Lib.hid (right_any a)
 rw [hr] at HR
 have HRV:=Lib.hid hr
 clear hr
 go_enter Tryz.func105,Tryz.ntmps105
 go_wp2_with fail
 refine (clone_any _ L _ HV0.out HLL.out).mono ?_
 rintro e w1 ⟨v1,rfl,hown,hb1⟩
 rw [World.size_alloc] at hown
 have HO1:=Lib.hid hown
 have HX1:=Lib.hid (HX0.out.keep hb1 (by simp))
 have HV1:=Lib.hid (HV0.out.keep hb1)
 have HB1:=Lib.hid (HB0.out.trans (hb1.mono HB0.out.size))
 clear hown hb1
 obtain ⟨c0,c1⟩:=box HX1.out
 go_wp2_with fail
 clear c0 c1
 refine (HR.out _).mono ?_
 rintro e w2 ⟨rfl,hb2⟩
 have HO2:=Lib.hid (row_below HO1.out hb2)
 have HX2:=Lib.hid (HX1.out.kept hb2)
 have HV2:=Lib.hid (HV1.out.keep hb2)
 have HB2:=Lib.hid (HB1.out.trans (hb2.mono HB1.out.size))
 clear hb2
 cases r with
 | false =>
   have hE1:Hid (E=1):=Lib.hid (by rw [←HE.out];unfold addE;rw [HRV.out];rfl)
   have hM1:Hid (World.ownsRow w2 w.heap.size 143 2 v1 M.length (flat encF M)):=Lib.hid (by
    rw [←HMV.out];unfold addV;rw [HE.out,hE1.out]
    exact row_base HO2.out (Nat.le_succ _))
   go_wp2
   go_ret2
   exact ⟨v1,ret_pair hE1.out.symm,hM1.out,HB2.out⟩
 | true =>
   obtain ⟨c0,c1⟩:=box HX2.out
   obtain ⟨pl,hpl⟩:∃ pl,placeK Flow.code L a.code=pl:=⟨_,rfl⟩
   obtain ⟨is,his⟩:∃ is,isK Flow.code L a.code=is:=⟨_,rfl⟩
   have HPA:=Lib.hid (place_any _ L a.code _ HV2.out HRI.out HLL.out)
   rw [hpl,his] at HPA
   have HIS:=Lib.hid his
   have HPL:=Lib.hid hpl
   have hpn:pl≤n:=by rw [←hpl,←HN.out];exact placeK_le L a.code
   clear his hpl
   go_wp2_with fail
   clear c0 c1
   refine HPA.out.mono ?_
   rintro e w3 ⟨rfl,hb3⟩
   have HO3:=Lib.hid (row_below HO2.out hb3)
   have HX3:=Lib.hid (HX2.out.kept hb3)
   have HV3:=Lib.hid (HV2.out.keep hb3)
   have HB3:=Lib.hid (HB2.out.trans (hb3.mono HB2.out.size))
   clear hb3 HO2 HX2 HV2 HB2 HPA
   obtain ⟨c0,c1⟩:=box HX3.out
   cases is with
   | true =>
     have hE1:Hid (E=7):=Lib.hid (by rw [←HE.out];unfold addE;rw [HRV.out,HIS.out];rfl)
     have hM1:Hid (World.ownsRow w3 w.heap.size 143 2 v1 M.length (flat encF M)):=Lib.hid (by
      rw [←HMV.out];unfold addV;rw [HE.out,hE1.out]
      exact row_base HO3.out (Nat.le_succ _))
     go_wp2
     go_ret2
     exact ⟨v1,ret_pair hE1.out.symm,hM1.out,HB3.out⟩
   | false =>
     by_cases hk1:a.kind=1
     ·have hkz:(a.kind != 1)=false:=by rw [hk1];rfl
      have HAE:Hid (E=if 60≤n then 4 else 0):=Lib.hid (by
       rw [←HE.out];unfold addE
       rw [HRV.out,HIS.out,HN.out,if_neg (by simp),if_neg (by simp [hk1])])
      clear hk1
      by_cases h60:60≤n
      ·have hE1:Hid (E=4):=Lib.hid (by rw [HAE.out,if_pos h60])
       have hM1:Hid (World.ownsRow w3 w.heap.size 143 2 v1 M.length (flat encF M)):=Lib.hid (by
        rw [←HMV.out];unfold addV;rw [HE.out,hE1.out]
        exact row_base HO3.out (Nat.le_succ _))
       go_wp2
       go_ret2
       exact ⟨v1,ret_pair hE1.out.symm,hM1.out,HB3.out⟩
      ·have hE1:Hid (E=0):=Lib.hid (by rw [HAE.out,if_neg h60])
       have hM1:Hid (L.take pl++a::L.drop pl=M):=Lib.hid (by
        rw [←HMV.out];unfold addV;rw [HE.out,hE1.out,if_pos rfl];unfold insK;rw [HPL.out])
       go_wp2_with fail
       refine (ins_late (a:=a) HO3.out (Nat.succ_le_of_lt HX3.out.lt) (by rw [HN.out];exact hpn) HLL.out).mono ?_
       rintro e w9 ⟨v9,rfl,hc9,hb9⟩
       have HCM:Hid (w9.ownsRow w.heap.size 143 2 v9 M.length (flat encF M)):=Lib.hid (by rw [←hM1.out];exact row_base hc9 (Nat.le_succ _))
       have HB9:=Lib.hid ((HB3.out.alloc HB3.out.size (.cells (cellsF a) 143)).trans (hb9.mono (Nat.le_succ _)))
       clear hc9 hb9
       go_wp2
       go_ret2
       exact ⟨v9,ret_pair hE1.out.symm,HCM.out,HB9.out⟩
     ·have hkz:(a.kind != 1)=true:=by simpa using hk1
      obtain ⟨hh,hhh⟩:∃ b,hasF L a.kind=b:=⟨_,rfl⟩
      have HHA:=Lib.hid (has_any _ L a.kind _ HV3.out HLL.out)
      rw [hhh] at HHA
      have HAE:Hid (E=if hh=true then 7 else if 60≤n then 4 else 0):=Lib.hid (by
       rw [←HE.out];unfold addE
       rw [HRV.out,HIS.out,HN.out,hhh,if_neg (by simp)]
       simp [hk1])
      clear hk1 hhh
      go_wp2_with fail
      clear c0 c1
      refine HHA.out.mono ?_
      rintro e w4 ⟨rfl,hb4⟩
      have HO4:=Lib.hid (row_below HO3.out hb4)
      have HX4:=Lib.hid (HX3.out.kept hb4)
      have HB4:=Lib.hid (HB3.out.trans (hb4.mono HB3.out.size))
      clear hb4 HO3 HX3 HB3 HHA
      cases hh with
      | true =>
        have hE1:Hid (E=7):=Lib.hid (by rw [HAE.out];rfl)
        have hM1:Hid (World.ownsRow w4 w.heap.size 143 2 v1 M.length (flat encF M)):=Lib.hid (by
         rw [←HMV.out];unfold addV;rw [HE.out,hE1.out]
         exact row_base HO4.out (Nat.le_succ _))
        go_wp2
        go_ret2
        exact ⟨v1,ret_pair hE1.out.symm,hM1.out,HB4.out⟩
      | false =>
        by_cases h60:60≤n
        ·have hE1:Hid (E=4):=Lib.hid (by rw [HAE.out,if_neg (by simp),if_pos h60])
         have hM1:Hid (World.ownsRow w4 w.heap.size 143 2 v1 M.length (flat encF M)):=Lib.hid (by
          rw [←HMV.out];unfold addV;rw [HE.out,hE1.out]
          exact row_base HO4.out (Nat.le_succ _))
         go_wp2
         go_ret2
         exact ⟨v1,ret_pair hE1.out.symm,hM1.out,HB4.out⟩
        ·have hE1:Hid (E=0):=Lib.hid (by rw [HAE.out,if_neg (by simp),if_neg h60])
         have hM1:Hid (L.take pl++a::L.drop pl=M):=Lib.hid (by
          rw [←HMV.out];unfold addV;rw [HE.out,hE1.out,if_pos rfl];unfold insK;rw [HPL.out])
         obtain ⟨c0,c1⟩:=box HX4.out
         go_wp2_with fail
         refine (ins_late (a:=a) HO4.out (Nat.succ_le_of_lt HX4.out.lt) (by rw [HN.out];exact hpn) HLL.out).mono ?_
         rintro e w9 ⟨v9,rfl,hc9,hb9⟩
         have HCM:Hid (w9.ownsRow w.heap.size 143 2 v9 M.length (flat encF M)):=Lib.hid (by rw [←hM1.out];exact row_base hc9 (Nat.le_succ _))
         have HB9:=Lib.hid ((HB4.out.alloc HB4.out.size (.cells (cellsF a) 143)).trans (hb9.mono (Nat.le_succ _)))
         clear hc9 hb9
         go_wp2
         go_ret2
         exact ⟨v9,ret_pair hE1.out.symm,HCM.out,HB9.out⟩
end Go.Proofs.YtdegffffcbhjbaaGreatDoor.Fl
end
section
namespace Go.Proofs.YtdegffffcbhjbaaGreatDoor.Un
open Go.RowKit Go.Maps
abbrev rdCells (c f e l:Value) (M:Mast) (m:Nat):Array Value:=#[c,f,e,l,.string M.cur,.string M.res,.string M.dif,.string M.min,.string M.stk,.map (some m)]
abbrev BoxRd (W:World) (R m:Nat) (c f e l:Value) (M:Mast):Prop:=W.heap[R]?=some (.cells (rdCells c f e l M m) 116 (0,0))
abbrev MapRd (W:World) (m n:Nat) (D:DataW Unit):Prop:=W.ownsMap Tryz.prog 154 (plainElem Tryz.prog 3) m n D
structure RdAt (W:World) (B R m:Nat) (c f e l:Value) (n:Nat) (D:DataW Unit) (M:Mast):Prop where
 box:BoxRd W R m c f e l M
 chart:W.ownsRow B 99 6 c M.chart.length (flatA M.chart)
 flows:W.ownsRow B 143 2 f M.flows.length (flat Fl.encF M.flows)
 ents:W.ownsRow B 188 2 e M.ents.length (flat encE M.ents)
 lines:W.ownsRow B 207 3 l M.lines.length (flat encL M.lines)
 map:MapRd W m n D
 geR:B≤R
 geM:B≤m
section
variable {W W':World} {B R m n:Nat} {c f e l:Value} {D:DataW Unit} {M:Mast}
theorem RdAt.lt (h:RdAt W B R m c f e l n D M):R < W.heap.size:=(Array.getElem?_eq_some_iff.1 h.box).1
theorem RdAt.nine (h:RdAt W B R m c f e l n D M):NineAt W R c f e l M:=nine_of (more:=[.map (some m)]) h.box
theorem RdAt.ten (h:RdAt W B R m c f e l n D M):W.cell? ⟨R,9,none⟩=some (.map (some m)):=(cell_of_row W R 9 _ _ (0,0) h.box).trans rfl
theorem RdAt.free (h:RdAt W B R m c f e l n D M) (o:Nat):W.frozen? ⟨R,o,none⟩=false:=by
 have:=h.box
 unfold BoxRd at this
 simp [World.frozen?,this]
theorem RdAt.mast (h:RdAt W B R m c f e l n D M):MastIn W c f e l M:=⟨chart_of_own h.chart,els_of_own h.flows,els_of_own h.ents,els_of_own h.lines⟩
theorem RdAt.below (h:RdAt W B R m c f e l n D M) (hb:Below W.heap.size W W'):RdAt W' B R m c f e l n D M :=
 ⟨(hb.block R h.lt).trans h.box,row_below h.chart hb,row_below h.flows hb,row_below h.ents hb,row_below h.lines hb,h.map.kept (row:=none) ⟨hb.os,hb.tape,hb.output,hb.size,fun j hj _=>hb.block j hj⟩ (by simp),h.geR,h.geM⟩
theorem box_apart {W:World} {R B:Nat} {t e:TypeId} {cs:Array Value} {fr:Nat × Nat} {s n:Nat} {v:Value} {xs:List Value} (hb:W.heap[R]?=some (.cells cs t fr)) (h:W.ownsRow B e s v n xs) (hne:t≠e):v.ownBlock≠some R:=by
 rcases h.2 with ⟨rfl,_⟩ | ⟨g,cap,cur,rfl,_,hg,_⟩
 ·simp [Value.ownBlock]
 ·intro e0
  obtain rfl:g=R:=by simpa [Value.ownBlock] using e0
  rw [hb] at hg
  simp at hg
  exact hne hg.2.1
theorem map_apart {W:World} {m n B:Nat} {D:DataW Unit} {e:TypeId} {s k:Nat} {v:Value} {xs:List Value} (hm:MapRd W m n D) (h:W.ownsRow B e s v k xs):some m≠v.ownBlock:=by
 obtain ⟨es,cl,hb,_⟩:=hm
 rcases h.2 with ⟨rfl,_⟩ | ⟨g,cap,cur,rfl,_,hg,_⟩
 ·simp [Value.ownBlock]
 ·intro e0
  obtain rfl:m=g:=by simpa [Value.ownBlock] using e0
  rw [hb] at hg
  cases hg
theorem own_or {v:Value} {R:Nat} (h:v.ownBlock≠some R):v.ownBlock=none∨v.ownBlock≠some R:=.inr h
theorem rd_stored {c' f' e' l':Value} {M':Mast} (i:Nat) (v:Value) (hbox:BoxRd W R m c f e l M) (heq:(rdCells c f e l M m).setIfInBounds i v=rdCells c' f' e' l' M' m)
 (h0:W.ownsRow B 99 6 c' M'.chart.length (flatA M'.chart)) (h1:W.ownsRow B 143 2 f' M'.flows.length (flat Fl.encF M'.flows)) (h2:W.ownsRow B 188 2 e' M'.ents.length (flat encE M'.ents)) (h3:W.ownsRow B 207 3 l' M'.lines.length (flat encL M'.lines))
 (hm:MapRd W m n D) (gR:B≤R) (gM:B≤m):RdAt (W.setCell ⟨R,i,none⟩ v) B R m c' f' e' l' n D M':=by
 have hg:W.grownBy (W.setCell ⟨R,i,none⟩ v) (some R):=⟨rfl,rfl,rfl,by simp [World.setCell],fun k _ hk=>Below.heap_setCell W _ v k (fun e=>hk (by rw [e]))⟩
 refine ⟨?_,h0.kept hg (own_or (box_apart hbox h0 (by decide))),h1.kept hg (own_or (box_apart hbox h1 (by decide))),h2.kept hg (own_or (box_apart hbox h2 (by decide))),h3.kept hg (own_or (box_apart hbox h3 (by decide))),hm.kept hg (fun e=>?_),gR,gM⟩
 ·have:=Joins.block_setCell (i:=i) hbox v
  rw [heq] at this
  exact this
 ·obtain ⟨es,cl,hb,_⟩:=hm
  cases e
  rw [hbox] at hb;cases hb
theorem below_stored {W1:World} (h:Below B W1 W) (hR:B≤R) (i:Nat) (v:Value):Below B W1 (W.setCell ⟨R,i,none⟩ v):=h.setCell (p:=⟨R,i,none⟩) hR v
end
end Go.Proofs.YtdegffffcbhjbaaGreatDoor.Un
end
section
namespace Go.Proofs.YtdegffffcbhjbaaGreatDoor.Pk
open Go.RowKit Go.Maps Go.Proofs.YtdegffffcbhjbaaGreatDoor.Un
abbrev pkCells (c f e l:Value) (M:Mast) (m:Nat) (S:St) (v:Value):Array Value:=#[c,f,e,l,.string M.cur,.string M.res,.string M.dif,.string M.min,.string M.stk,.map (some m),.string S.ent,.int .i64 S.mrk,v]
abbrev BoxPk (W:World) (R m:Nat) (c f e l:Value) (M:Mast) (S:St) (v:Value):Prop:=W.heap[R]?=some (.cells (pkCells c f e l M m S v) 89 (0,0))
abbrev MapPk (W:World) (m n:Nat) (D:DataW Unit):Prop:=W.ownsMap Tryz.prog 9 (plainElem Tryz.prog 3) m n D
def HadD (D:DataW Unit) (had:List ByteArray):Prop:=∀ c:ByteArray,D.atKey (kS c) (.lit (.int .i64 0))=.lit (.int .i64 (if hadB had c=true then 1 else 0))
theorem HadD.zero:HadD (.map []) []:=fun _=>rfl
structure PkAt (W:World) (B R m:Nat) (c f e l:Value) (M:Mast) (n:Nat) (D:DataW Unit) (S:St) (v:Value):Prop where
 box:BoxPk W R m c f e l M S v
 facts:W.ownsRow B 58 6 v S.facts.length (flat Fa.encF S.facts)
 map:MapPk W m n D
 had:HadD D S.had
 geR:B≤R
 geM:B≤m
section
variable {W W':World} {B R m n:Nat} {c f e l v:Value} {D:DataW Unit} {M:Mast} {S:St}
theorem PkAt.lt (h:PkAt W B R m c f e l M n D S v):R < W.heap.size:=(Array.getElem?_eq_some_iff.1 h.box).1
theorem PkAt.nine (h:PkAt W B R m c f e l M n D S v):NineAt W R c f e l M:=nine_of (more:=[.map (some m),.string S.ent,.int .i64 S.mrk,v]) h.box
theorem PkAt.four (h:PkAt W B R m c f e l M n D S v):W.cell? ⟨R,9,none⟩=some (.map (some m))∧W.cell? ⟨R,10,none⟩=some (.string S.ent)∧W.cell? ⟨R,11,none⟩=some (.int .i64 S.mrk)∧W.cell? ⟨R,12,none⟩=some v:=by
 have hc:=fun i=>cell_of_row W R i _ _ (0,0) h.box
 exact ⟨(hc 9).trans rfl,(hc 10).trans rfl,(hc 11).trans rfl,(hc 12).trans rfl⟩
theorem PkAt.free (h:PkAt W B R m c f e l M n D S v) (o:Nat):W.frozen? ⟨R,o,none⟩=false:=by
 have:=h.box
 unfold BoxPk at this
 simp [World.frozen?,this]
theorem PkAt.below (h:PkAt W B R m c f e l M n D S v) (hb:Below W.heap.size W W'):PkAt W' B R m c f e l M n D S v :=
 ⟨(hb.block R h.lt).trans h.box,row_below h.facts hb,h.map.kept (row:=none) ⟨hb.os,hb.tape,hb.output,hb.size,fun j hj _=>hb.block j hj⟩ (by simp),h.had,h.geR,h.geM⟩
theorem PkAt.mono {k:Nat} (h:PkAt W B R m c f e l M n D S v) (hk:n≤k):PkAt W B R m c f e l M k D S v:=⟨h.box,h.facts,h.map.mono hk,h.had,h.geR,h.geM⟩
theorem pmap_apart {W:World} {m n B:Nat} {D:DataW Unit} {e:TypeId} {s k:Nat} {v:Value} {xs:List Value} (hm:MapPk W m n D) (h:W.ownsRow B e s v k xs):some m≠v.ownBlock:=by
 obtain ⟨es,cl,hb,_⟩:=hm
 rcases h.2 with ⟨rfl,_⟩ | ⟨g,cap,cur,rfl,_,hg,_⟩
 ·simp [Value.ownBlock]
 ·intro e0
  obtain rfl:m=g:=by simpa [Value.ownBlock] using e0
  rw [hb] at hg
  cases hg
theorem PkAt.apart (h:PkAt W B R m c f e l M n D S v):R≠m:=fun e0=>by
 subst e0
 obtain ⟨es,cl,hb,_⟩:=h.map
 have:=h.box
 unfold BoxPk at this
 rw [hb] at this;cases this
theorem PkAt.stored {S':St} {v':Value} (h:PkAt W B R m c f e l M n D S v) (i:Nat) (x:Value) (heq:(pkCells c f e l M m S v).setIfInBounds i x=pkCells c f e l M m S' v')
 (h0:W.ownsRow B 58 6 v' S'.facts.length (flat Fa.encF S'.facts)) (hd:S'.had=S.had):PkAt (W.setCell ⟨R,i,none⟩ x) B R m c f e l M n D S' v':=by
 have hg:W.grownBy (W.setCell ⟨R,i,none⟩ x) (some R):=⟨rfl,rfl,rfl,by simp [World.setCell],fun k _ hk=>Below.heap_setCell W _ x k (fun e=>hk (by rw [e]))⟩
 refine ⟨?_,h0.kept hg (own_or (box_apart h.box h0 (by decide))),h.map.kept hg (fun e=>h.apart (Option.some.inj e).symm),by rw [hd];exact h.had,h.geR,h.geM⟩
 have:=Joins.block_setCell (i:=i) h.box x
 rw [heq] at this
 exact this
theorem PkAt.mapTurned {k:Nat} {D':DataW Unit} {had':List ByteArray} (h:PkAt W B R m c f e l M n D S v) (hg:W.grownBy W' (some m)) (hm:MapPk W' m k D') (hd:HadD D' had'):PkAt W' B R m c f e l M k D' ⟨S.ent,S.mrk,had',S.facts⟩ v :=
 ⟨(hg.block R h.lt (fun e0=>h.apart (Option.some.inj e0))).trans h.box,h.facts.kept hg (.inr (pmap_apart h.map h.facts).symm),hm,hd,h.geR,h.geM⟩
end
theorem HadD.put {D:DataW Unit} {had:List ByteArray} (h:HadD D had) (ht:Tidy D) (c:ByteArray):HadD (D.put (kS c) (.lit (.int .i64 1))) (had++[c]):=fun x=>by
 by_cases he:x=c
 ·subst he
  rw [atKey_put_same ht.isMap (kS_key _),if_pos (hadB_iff.2 (by simp))]
 ·rw [atKey_put_other (fun e=>he (kS_inj e)),h x]
  have:hadB (had++[c]) x=hadB had x:=by
   rw [Bool.eq_iff_iff,hadB_iff,hadB_iff]
   simp [he]
  rw [this]
def BeginTold (W:World) (B R m:Nat) (c f e l:Value) (M:Mast) (n:Nat) (D:DataW Unit) (S:St) (v:Value) (x:ByteArray) (k:Int) (en:Ending) (W':World):Prop :=
 en=.returned (.int .i64 (begE M x))∧Below B W W'∧(begE M x=0→PkAt W' B R m c f e l M n D ⟨x,k,S.had,S.facts⟩ v)
set_option maxRecDepth 100000 in
set_option maxHeartbeats 4000000 in
theorem begin_any (x:ByteArray) (k:Int) (W:World) (B R m:Nat) (c f e l:Value) (M:Mast) (n:Nat) (D:DataW Unit) (S:St) (v:Value) (hB:B≤W.heap.size) (hm:MastIn W c f e l M) (h:PkAt W B R m c f e l M n D S v) :
 Calls Tryz.prog 125 #[.pointer (some ⟨R,0,none⟩),.string x,.int .i64 k] W (BeginTold W B R m c f e l M n D S v x k):=by
 obtain ⟨pc,cc,pf,cf,pe,ce,pl,cl,rfl,rfl,rfl,rfl⟩:=shapes hm
 have HB0:=Lib.hid hB
 have HM:=Lib.hid hm
 have HP:=Lib.hid h
 have HNM:=Lib.hid (fun W=>name_at x W)
 have HEE:=Lib.hid (fun W h=>isEntity_any (.slice pc M.chart.length cc) (.slice pf M.flows.length cf) (.slice pe M.ents.length ce) (.slice pl M.lines.length cl) M x W h)
 obtain ⟨I,hI⟩:∃ I,nameL x.data.toList=I:=⟨_,rfl⟩
 obtain ⟨J,hJ⟩:∃ J,hasE M x=J:=⟨_,rfl⟩
 have HBE:Hid (begE M x=if I=false then 5 else if J=false then 6 else 0):=Lib.hid (by unfold begE nmB;rw [hI,hJ])
 simp only [hI] at HNM
 simp only [hJ] at HEE
 obtain ⟨N,hN⟩:∃ N,begE M x=N:=⟨_,rfl⟩
 unfold BeginTold
 rw [hN] at HBE ⊢
 clear hI hJ hN hm h hB
 go_enter Tryz.func125,Tryz.ntmps125
 go_wp2_with fail
 refine (HNM.out _).mono ?_
 rintro en w1 ⟨rfl,rfl⟩
 cases I with
 | false =>
   have HNN:Hid (N=5):=Lib.hid (by rw [HBE.out];rfl)
   go_wp2
   go_ret
   exact ⟨by rw [HNN.out];rfl,Below.refl _ _,fun h=>by rw [HNN.out] at h;cases h⟩
 | true =>
   obtain ⟨k0,k1,k2,k3,k4,k5,k6,k7,k8⟩:=HP.out.nine
   go_wp2_with fail
   clear k0 k1 k2 k3 k4 k5 k6 k7 k8
   refine (HEE.out _ HM.out).mono ?_
   rintro en w2 ⟨rfl,hb2⟩
   have HB2:=Lib.hid (hb2.mono HB0.out)
   have HP2:=Lib.hid (HP.out.below hb2)
   clear hb2
   cases J with
   | false =>
     have HNN:Hid (N=6):=Lib.hid (by rw [HBE.out];rfl)
     go_wp2
     go_ret
     exact ⟨by rw [HNN.out];rfl,HB2.out,fun h=>by rw [HNN.out] at h;cases h⟩
   | true =>
     have HNN:Hid (N=0):=Lib.hid (by rw [HBE.out];rfl)
     have HP3:Hid (PkAt (w2.setCell ⟨R,10,none⟩ (.string x)) B R m _ _ _ _ M n D ⟨x,S.mrk,S.had,S.facts⟩ v):=Lib.hid (HP2.out.stored 10 _ rfl HP2.out.facts rfl)
     have HP4:Hid (PkAt ((w2.setCell ⟨R,10,none⟩ (.string x)).setCell ⟨R,11,none⟩ (.int .i64 k)) B R m _ _ _ _ M n D ⟨x,k,S.had,S.facts⟩ v):=Lib.hid (HP3.out.stored 11 _ rfl HP3.out.facts rfl)
     have HB4:Hid (Below B W ((w2.setCell ⟨R,10,none⟩ (.string x)).setCell ⟨R,11,none⟩ (.int .i64 k))):=Lib.hid ((HB2.out.setCell (p:=⟨R,10,none⟩) HP.out.geR _).setCell (p:=⟨R,11,none⟩) HP.out.geR _)
     obtain ⟨_,d10,d11,_⟩:=HP2.out.four
     have fz:=HP2.out.free
     have fz10:=fz 10
     have fz11:=fz 11
     obtain ⟨_,_,e11,_⟩:=HP3.out.four
     have gz11:=HP3.out.free 11
     clear fz
     go_wp2
     go_ret
     exact ⟨by rw [HNN.out];rfl,HB4.out,fun _=>HP4.out⟩
end Go.Proofs.YtdegffffcbhjbaaGreatDoor.Pk
end
section
namespace Go.Proofs.YtdegffffcbhjbaaGreatDoor
open Go.RowKit
structure Laid (w:World):Prop where
 g0:w.cell? ⟨1,0,none⟩=some (.string tAsset)
 g1:w.cell? ⟨1,1,none⟩=some (.string tLiability)
 g2:w.cell? ⟨1,2,none⟩=some (.string tEquity)
theorem Laid.below {w w':World} {B:Nat} (h:Laid w) (hb:Below B w w') (hB:w.heap.size≤B):Laid w' :=
 have lt:=Nat.lt_of_lt_of_le (World.block_lt_of_cell? w _ h.g0) hB
 ⟨(hb.cell (p:=⟨_,0,none⟩) lt).trans h.g0,(hb.cell (p:=⟨_,1,none⟩) lt).trans h.g1,(hb.cell (p:=⟨_,2,none⟩) lt).trans h.g2⟩
theorem at_arr0 (w:World):(Instr.index 259 (.agg #[.string tAsset,.string tLiability,.string tEquity]) (.int .i64 0)).run Tryz.prog w=.ok (.string tAsset) w:=by kernel_rfl
theorem at_arr1 (w:World):(Instr.index 259 (.agg #[.string tAsset,.string tLiability,.string tEquity]) (.int .i64 1)).run Tryz.prog w=.ok (.string tLiability) w:=by kernel_rfl
theorem at_arr2 (w:World):(Instr.index 259 (.agg #[.string tAsset,.string tLiability,.string tEquity]) (.int .i64 2)).run Tryz.prog w=.ok (.string tEquity) w:=by kernel_rfl
theorem beqS (x y:ByteArray):(x.toList==y.toList)=decide (x=y):=by
 cases h:(x.toList==y.toList) with
 | true=>rw [decide_eq_true ((Lib.bytes_beq_iff x y).1 h)]
 | false=>rw [decide_eq_false ((Lib.bytes_beq_false_iff x y).1 h)]
set_option maxRecDepth 100000 in
set_option maxHeartbeats 2000000 in
theorem classOf_any (s:ByteArray) (w:World) (hL:Laid w) :
 Calls Tryz.prog 134 #[.string s] w fun e w'=>e=.returned (.int .i64 (clsOf s))∧w=w':=by
 obtain ⟨g0,g1,g2⟩:=hL
 obtain ⟨r,hr⟩:∃ r,clsOf s=r:=⟨_,rfl⟩
 rw [hr]
 have HR:=Lib.hid hr
 clear hr
 obtain ⟨A,hA⟩:∃ A,tAsset=A:=⟨_,rfl⟩
 obtain ⟨B,hB⟩:∃ B,tLiability=B:=⟨_,rfl⟩
 obtain ⟨C,hC⟩:∃ C,tEquity=C:=⟨_,rfl⟩
 have i0:=at_arr0
 have i1:=at_arr1
 have i2:=at_arr2
 rw [hA] at g0 i0 i1 i2
 rw [hB] at g1 i0 i1 i2
 rw [hC] at g2 i0 i1 i2
 have HA:=Lib.hid hA
 have HBB:=Lib.hid hB
 have HCC:=Lib.hid hC
 clear hA hB hC
 cases hs0:(A.toList==s.toList) with
 | true =>
   have HS:=Lib.hid ((Lib.bytes_beq_iff A s).1 hs0)
   go_enter Tryz.func134,Tryz.ntmps134
   go_wp2
   refine wp_loop_rounds 1 ?_
   rw [rounds_succ]
   go_wp2
   go_ret
   exact ⟨ret_num (by rw [←HR.out,←HS.out,←HA.out];decide),rfl⟩
 | false =>
   have HS:=Lib.hid ((Lib.bytes_beq_false_iff A s).1 hs0)
   cases hs1:(B.toList==s.toList) with
   | true =>
     have HS1:=Lib.hid ((Lib.bytes_beq_iff B s).1 hs1)
     go_enter Tryz.func134,Tryz.ntmps134
     go_wp2
     refine wp_loop_rounds 2 ?_
     rw [rounds_succ]
     go_wp2
     rw [rounds_succ]
     go_wp2
     go_ret
     exact ⟨ret_num (by rw [←HR.out,←HS1.out,←HBB.out];decide),rfl⟩
   | false =>
     have HS1:=Lib.hid ((Lib.bytes_beq_false_iff B s).1 hs1)
     cases hs2:(C.toList==s.toList) with
     | true =>
       have HS2:=Lib.hid ((Lib.bytes_beq_iff C s).1 hs2)
       go_enter Tryz.func134,Tryz.ntmps134
       go_wp2
       refine wp_loop_rounds 3 ?_
       rw [rounds_succ]
       go_wp2
       rw [rounds_succ]
       go_wp2
       rw [rounds_succ]
       go_wp2
       go_ret
       exact ⟨ret_num (by rw [←HR.out,←HS2.out,←HCC.out];decide),rfl⟩
     | false =>
       have HS2:=Lib.hid ((Lib.bytes_beq_false_iff C s).1 hs2)
       have hres:Hid (r=-1):=Lib.hid (by
        rw [←HR.out]
        have a0:s≠tAsset:=by rw [HA.out];exact fun e=>HS.out e.symm
        have a1:s≠tLiability:=by rw [HBB.out];exact fun e=>HS1.out e.symm
        have a2:s≠tEquity:=by rw [HCC.out];exact fun e=>HS2.out e.symm
        unfold clsOf
        rw [if_neg a0,if_neg a1,if_neg a2])
       go_enter Tryz.func134,Tryz.ntmps134
       go_wp2
       refine wp_loop_rounds 4 ?_
       rw [rounds_succ]
       go_wp2
       rw [rounds_succ]
       go_wp2
       rw [rounds_succ]
       go_wp2
       rw [rounds_succ]
       go_wp2
       go_ret
       exact ⟨ret_num hres.out.symm,rfl⟩
end Go.Proofs.YtdegffffcbhjbaaGreatDoor
end
section
namespace Go.Proofs.YtdegffffcbhjbaaGreatDoor
open Go.RowKit
theorem list_cash:tCash.toList=[99,97,115,104]:=by rw [ByteArray.toList_eq];rfl
theorem list_both:tMutual.toList=[109,117,116,117,97,108]:=by rw [ByteArray.toList_eq];rfl
theorem list_worn:tWorn.toList=[119,111,114,110]:=by rw [ByteArray.toList_eq];rfl
theorem beq_cash (x:ByteArray):(x.toList==[99,97,115,104])=decide (x=tCash):=by rw [←list_cash,beqS]
theorem beq_both (x:ByteArray):(x.toList==[109,117,116,117,97,108])=decide (x=tMutual):=by rw [←list_both,beqS]
theorem beq_worn (x:ByteArray):(x.toList==[119,111,114,110])=decide (x=tWorn):=by rw [←list_worn,beqS]
set_option maxRecDepth 100000 in
set_option maxHeartbeats 2000000 in
theorem marked_any (a:Acct) (v:Value) (ws:List ByteArray) (w:World) (h:StrsV w v ws) :
 Calls Tryz.prog 133 #[aggF a,v] w fun e w'=>e=.returned (aggF (markedA a ws))∧Below w.heap.size w w':=by
 obtain ⟨p,c,rfl,_,hm,hc⟩:=h
 obtain ⟨r,hr⟩:∃ r,markedA a ws=r:=⟨_,rfl⟩
 rw [hr]
 have HR:=Lib.hid hr
 clear hr
 unfold maxLen at hm
 have hc0:=hc
 clear hc
 match ws,hc0,hm,HR with
 | [],hc,hm,HR =>
   clear hc0 hc
   go_enter Tryz.func133,Tryz.ntmps133
   go_wp2
   refine bodyPost_ret (v:=.agg #[.string a.code,.int .i64 a.cls,.bool a.cash,.bool a.both,.string a.fixed,.bool a.worn]) (by simp [results,Tryz.results133,go_sem]) rfl ⟨?_,((Below.refl _ _).alloc (Nat.le_refl _) _).alloc (by simp) _⟩
   rw [←HR.out];rfl
 | [x],hc,hm,HR =>
   obtain ⟨b,o,rfl,d0⟩:=hc 0 x rfl
   have d:w.cell? ⟨b,o,none⟩=some (.string x):=d0
   clear d0
   clear hc0 hc
   have hlt:=World.block_lt_of_cell? w _ d
   go_enter Tryz.func133,Tryz.ntmps133
   go_wp2
   refine bodyPost_ret (v:=.agg #[.string a.code,.int .i64 a.cls,.bool (x.toList==[99,97,115,104]),.bool (x.toList==[109,117,116,117,97,108]),.string a.fixed,.bool a.worn]) (by simp [results,Tryz.results133,go_sem]) rfl ⟨?_,((Below.refl _ _).alloc (Nat.le_refl _) _).alloc (by simp) _⟩
   rw [←HR.out,beq_cash,beq_both];rfl
 | [x,y],hc,hm,HR =>
   obtain ⟨b,o,rfl,d0⟩:=hc 0 x rfl
   have d:w.cell? ⟨b,o,none⟩=some (.string x):=d0
   clear d0
   obtain ⟨b',o',e',d'⟩:=hc 1 y rfl
   cases e'
   have d2:w.cell? ⟨b,o+1,none⟩=some (.string y):=d'
   clear d'
   clear hc0 hc
   have hlt:=World.block_lt_of_cell? w _ d
   go_enter Tryz.func133,Tryz.ntmps133
   go_wp2
   refine bodyPost_ret (v:=.agg #[.string a.code,.int .i64 a.cls,.bool a.cash,.bool a.both,.string y,.bool (x.toList==[119,111,114,110])]) (by simp [results,Tryz.results133,go_sem]) rfl ⟨?_,((Below.refl _ _).alloc (Nat.le_refl _) _).alloc (by simp) _⟩
   rw [←HR.out,beq_worn];rfl
 | x::y::z::l,hc,hm,HR =>
   clear hc0 hc
   have h1:¬ ((l.length:Int)+1+1+1=1):=by omega
   go_enter Tryz.func133,Tryz.ntmps133
   go_wp2
   refine bodyPost_ret (v:=.agg #[.string a.code,.int .i64 a.cls,.bool a.cash,.bool a.both,.string a.fixed,.bool a.worn]) (by simp [results,Tryz.results133,go_sem]) rfl ⟨?_,((Below.refl _ _).alloc (Nat.le_refl _) _).alloc (by simp) _⟩
   rw [←HR.out];rfl
end Go.Proofs.YtdegffffcbhjbaaGreatDoor
end
section
namespace Go.Proofs.YtdegffffcbhjbaaGreatDoor
open Go.RowKit
theorem info_str:(Tryz.prog.info? 9).map (fun i=>(i.zero,i.size,i.bytes))=some (some (.string ⟨#[]⟩),1,16):=by kernel_rfl
def WordsTold (w:World) (ws:List ByteArray) (e:Ending) (w':World):Prop:=∃ v,e=.returned v∧StrsV w' v ws∧Below w.heap.size w w'
set_option maxRecDepth 100000 in
set_option maxHeartbeats 4000000 in
theorem words_no (a:Acct) (w:World) (h:rightA a=false):Calls Tryz.prog 136 #[aggF a] w (WordsTold w (wordsA a)):=by
 have HR:=Lib.hid (right_any a)
 rw [h] at HR
 rw [words_nil h]
 have HB:=Lib.hid ((Below.refl w.heap.size w).alloc (Nat.le_refl _) (.cells #[.string a.code,.int .i64 a.cls,.bool a.cash,.bool a.both,.string a.fixed,.bool a.worn] 99))
 clear h
 go_enter Tryz.func136,Tryz.ntmps136
 go_wp2_with fail
 refine (HR.out _).mono ?_
 rintro e w1 ⟨rfl,hb1⟩
 have HB1:=Lib.hid hb1
 clear hb1
 go_wp2
 go_ret
 exact ⟨_,rfl,StrsV.nil _,HB.out.trans (HB1.out.mono HB.out.size)⟩
theorem own_three (w:World) (x y z:ByteArray) (t:TypeId):(w.alloc (.cells #[.string x,.string y,.string z] t)).ownsRow w.heap.size t 1 (.slice (some ⟨w.heap.size,0,none⟩) 3 3) 3 ([x,y,z].map Value.string) :=
 ⟨rfl,.inr ⟨w.heap.size,3,_,rfl,Nat.le_refl _,heap_alloc_new w _,Nat.le_refl _,by unfold maxLen;omega,rfl,rfl⟩⟩
set_option maxRecDepth 100000 in
set_option maxHeartbeats 4000000 in
theorem words_plain (co:ByteArray) (cl:Int) (w:World) (hL:Laid w) (h:rightA ⟨co,cl,false,false,⟨#[]⟩,false⟩=true):Calls Tryz.prog 136 #[aggF ⟨co,cl,false,false,⟨#[]⟩,false⟩] w (WordsTold w (wordsA ⟨co,cl,false,false,⟨#[]⟩,false⟩)):=by
 have HR:=Lib.hid (right_any ⟨co,cl,false,false,⟨#[]⟩,false⟩)
 rw [h] at HR
 have hcl:=(right_parts h).2.1
 simp only at hcl
 have HW:Hid (wordsA ⟨co,cl,false,false,⟨#[]⟩,false⟩=[tAccount,co,clsW cl]):=Lib.hid (by unfold wordsA;rw [if_pos h];simp [markW,neB_empty])
 rw [HW.out]
 obtain ⟨i0,hi,hz0,hz1,hz2⟩:=info_parts info_str
 have HI:=Lib.hid (And.intro hi (And.intro hz0 (And.intro hz1 hz2)))
 clear h HW hi hz0 hz1 hz2
 have HB:=Lib.hid ((Below.refl w.heap.size w).alloc (Nat.le_refl _) (.cells #[.string co,.int .i64 cl,.bool false,.bool false,.string ⟨#[]⟩,.bool false] 99))
 have HL0:=Lib.hid (hL.below HB.out (Nat.le_refl _))
 have HX0:=Lib.hid (BoxA.new w ⟨co,cl,false,false,⟨#[]⟩,false⟩ 99)
 clear hL
 rcases hcl with rfl | rfl | rfl
 all_goals
  go_enter Tryz.func136,Tryz.ntmps136
  go_wp2_with fail
  refine (HR.out _).mono ?_
  rintro e w1 ⟨rfl,hb1⟩
  have HB1:=Lib.hid (HB.out.trans (hb1.mono HB.out.size))
  have hlt:w.heap.size < w1.heap.size:=by have:=hb1.size;simp at this;omega
  obtain ⟨g0,g1,g2⟩:=HL0.out.below hb1 (Nat.le_refl _)
  obtain ⟨c0,c1,c2,c3,c4,c5⟩:=(HX0.out.keep hb1 (by simp)).facts
  simp only at c0 c1 c2 c3 c4 c5
  clear hb1
  go_wp2
  go_region
  clear g0 g1 g2
  go_wp2
  go_ret
  exact ⟨_,rfl,strs_of_own (own_three w1 tAccount _ _ _),below_drewN (HB1.out.alloc HB1.out.size _) 1⟩
set_option maxRecDepth 100000 in
set_option maxHeartbeats 4000000 in
theorem words_cash (co:ByteArray) (w:World) (hL:Laid w) (h:rightA ⟨co,0,true,false,⟨#[]⟩,false⟩=true):Calls Tryz.prog 136 #[aggF ⟨co,0,true,false,⟨#[]⟩,false⟩] w (WordsTold w (wordsA ⟨co,0,true,false,⟨#[]⟩,false⟩)):=by
 have HR:=Lib.hid (right_any ⟨co,0,true,false,⟨#[]⟩,false⟩)
 rw [h] at HR
 have HW:Hid (wordsA ⟨co,0,true,false,⟨#[]⟩,false⟩=[tAccount,co,tAsset,tCash]):=Lib.hid (by unfold wordsA;rw [if_pos h];simp [markW,clsW])
 rw [HW.out]
 obtain ⟨i0,hi,hz0,hz1,hz2⟩:=info_parts info_str
 have HI:=Lib.hid (And.intro hi (And.intro hz0 (And.intro hz1 hz2)))
 clear h HW hi hz0 hz1 hz2
 have HB:=Lib.hid ((Below.refl w.heap.size w).alloc (Nat.le_refl _) (.cells #[.string co,.int .i64 0,.bool true,.bool false,.string ⟨#[]⟩,.bool false] 99))
 have HL0:=Lib.hid (hL.below HB.out (Nat.le_refl _))
 have HX0:=Lib.hid (BoxA.new w ⟨co,0,true,false,⟨#[]⟩,false⟩ 99)
 clear hL
 go_enter Tryz.func136,Tryz.ntmps136
 go_wp2_with fail
 refine (HR.out _).mono ?_
 rintro e w1 ⟨rfl,hb1⟩
 have HB1:=Lib.hid (HB.out.trans (hb1.mono HB.out.size))
 have hlt:w.heap.size < w1.heap.size:=by have:=hb1.size;simp at this;omega
 obtain ⟨g0,g1,g2⟩:=HL0.out.below hb1 (Nat.le_refl _)
 obtain ⟨c0,c1,c2,c3,c4,c5⟩:=(HX0.out.keep hb1 (by simp)).facts
 simp only at c0 c1 c2 c3 c4 c5
 clear hb1
 go_wp2
 go_region
 clear g0 g1 g2
 go_wp2_with (at_builtin;refine wpList_append_own _ rfl _ _ 67 rfl w1.heap.size 9 i0 (.string ⟨#[]⟩) 1 16 Tryz.underlying67 HI.out.1 HI.out.2.1 HI.out.2.2.1 HI.out.2.2.2 rfl (by decide) _ 3 _ rfl ((own_three w1 tAccount _ _ _).alloc _) ⟨w1.heap.size+1,0,none⟩ 1 1 [.string tCash] rfl rfl (new_cells2 w1 _ [.string tCash] _) (by intro u hu;simp at hu;rcases hu with rfl <;> rfl) (by unfold maxLen;omega) (by omega) (by simp;omega) ?_;intro v' w2 hown' hgrow _)
 have HF:=Lib.hid (below_grown (below_drewN ((HB1.out.alloc HB1.out.size _).alloc (by have:=HB1.out.size;simp;omega) _) 1) (by have:=HB1.out.size;simp;omega) (row_base ((own_three w1 tAccount _ _ _).alloc _) HB1.out.size) hgrow)
 go_wp2
 go_ret
 exact ⟨_,rfl,strs_of_own (ws:=[tAccount,co,tAsset,tCash]) hown',HF.out⟩
set_option maxRecDepth 100000 in
set_option maxHeartbeats 4000000 in
theorem words_both (co:ByteArray) (cl:Int) (w:World) (hL:Laid w) (h:rightA ⟨co,cl,false,true,⟨#[]⟩,false⟩=true) (h2:cl≠2):Calls Tryz.prog 136 #[aggF ⟨co,cl,false,true,⟨#[]⟩,false⟩] w (WordsTold w (wordsA ⟨co,cl,false,true,⟨#[]⟩,false⟩)):=by
 have HR:=Lib.hid (right_any ⟨co,cl,false,true,⟨#[]⟩,false⟩)
 rw [h] at HR
 have hcl:=(right_parts h).2.1
 simp only at hcl
 have HW:Hid (wordsA ⟨co,cl,false,true,⟨#[]⟩,false⟩=[tAccount,co,clsW cl,tMutual]):=Lib.hid (by unfold wordsA;rw [if_pos h];simp [markW])
 rw [HW.out]
 obtain ⟨i0,hi,hz0,hz1,hz2⟩:=info_parts info_str
 have HI:=Lib.hid (And.intro hi (And.intro hz0 (And.intro hz1 hz2)))
 clear h HW hi hz0 hz1 hz2
 have HB:=Lib.hid ((Below.refl w.heap.size w).alloc (Nat.le_refl _) (.cells #[.string co,.int .i64 cl,.bool false,.bool true,.string ⟨#[]⟩,.bool false] 99))
 have HL0:=Lib.hid (hL.below HB.out (Nat.le_refl _))
 have HX0:=Lib.hid (BoxA.new w ⟨co,cl,false,true,⟨#[]⟩,false⟩ 99)
 clear hL
 rcases (by omega:cl=0∨cl=1) with rfl | rfl
 all_goals
  go_enter Tryz.func136,Tryz.ntmps136
  go_wp2_with fail
  refine (HR.out _).mono ?_
  rintro e w1 ⟨rfl,hb1⟩
  have HB1:=Lib.hid (HB.out.trans (hb1.mono HB.out.size))
  have hlt:w.heap.size < w1.heap.size:=by have:=hb1.size;simp at this;omega
  obtain ⟨g0,g1,g2⟩:=HL0.out.below hb1 (Nat.le_refl _)
  obtain ⟨c0,c1,c2,c3,c4,c5⟩:=(HX0.out.keep hb1 (by simp)).facts
  simp only at c0 c1 c2 c3 c4 c5
  clear hb1
  go_wp2
  go_region
  clear g0 g1 g2
  go_wp2_with (at_builtin;refine wpList_append_own _ rfl _ _ 67 rfl w1.heap.size 9 i0 (.string ⟨#[]⟩) 1 16 Tryz.underlying67 HI.out.1 HI.out.2.1 HI.out.2.2.1 HI.out.2.2.2 rfl (by decide) _ 3 _ rfl ((own_three w1 tAccount _ _ _).alloc _) ⟨w1.heap.size+1,0,none⟩ 1 1 [.string tMutual] rfl rfl (new_cells2 w1 _ [.string tMutual] _) (by intro u hu;simp at hu;rcases hu with rfl <;> rfl) (by unfold maxLen;omega) (by omega) (by simp;omega) ?_;intro v' w2 hown' hgrow _)
  have HF:=Lib.hid (below_grown (below_drewN ((HB1.out.alloc HB1.out.size _).alloc (by have:=HB1.out.size;simp;omega) _) 1) (by have:=HB1.out.size;simp;omega) (row_base ((own_three w1 tAccount _ _ _).alloc _) HB1.out.size) hgrow)
  go_wp2
  go_ret
  exact ⟨_,rfl,strs_of_own (ws:=[tAccount,co,_,tMutual]) hown',HF.out⟩
set_option maxRecDepth 100000 in
set_option maxHeartbeats 4000000 in
theorem words_fixed (co fi:ByteArray) (w:World) (hL:Laid w) (h:rightA ⟨co,0,false,false,fi,false⟩=true) (hf:neB fi=true):Calls Tryz.prog 136 #[aggF ⟨co,0,false,false,fi,false⟩] w (WordsTold w (wordsA ⟨co,0,false,false,fi,false⟩)):=by
 have HR:=Lib.hid (right_any ⟨co,0,false,false,fi,false⟩)
 rw [h] at HR
 have HW:Hid (wordsA ⟨co,0,false,false,fi,false⟩=[tAccount,co,tAsset,tFixed,fi]):=Lib.hid (by unfold wordsA;rw [if_pos h];simp [markW,clsW,hf])
 rw [HW.out]
 obtain ⟨i0,hi,hz0,hz1,hz2⟩:=info_parts info_str
 have HI:=Lib.hid (And.intro hi (And.intro hz0 (And.intro hz1 hz2)))
 clear h HW hi hz0 hz1 hz2
 have HB:=Lib.hid ((Below.refl w.heap.size w).alloc (Nat.le_refl _) (.cells #[.string co,.int .i64 0,.bool false,.bool false,.string fi,.bool false] 99))
 have HL0:=Lib.hid (hL.below HB.out (Nat.le_refl _))
 have HX0:=Lib.hid (BoxA.new w ⟨co,0,false,false,fi,false⟩ 99)
 clear hL
 have HN:=Lib.hid hf
 unfold neB at hf
 go_enter Tryz.func136,Tryz.ntmps136
 go_wp2_with fail
 refine (HR.out _).mono ?_
 rintro e w1 ⟨rfl,hb1⟩
 have HB1:=Lib.hid (HB.out.trans (hb1.mono HB.out.size))
 have hlt:w.heap.size < w1.heap.size:=by have:=hb1.size;simp at this;omega
 obtain ⟨g0,g1,g2⟩:=HL0.out.below hb1 (Nat.le_refl _)
 obtain ⟨c0,c1,c2,c3,c4,c5⟩:=(HX0.out.keep hb1 (by simp)).facts
 simp only at c0 c1 c2 c3 c4 c5
 clear hb1
 go_wp2
 go_region
 clear g0 g1 g2
 go_wp2_with (at_builtin;refine wpList_append_own _ rfl _ _ 67 rfl w1.heap.size 9 i0 (.string ⟨#[]⟩) 1 16 Tryz.underlying67 HI.out.1 HI.out.2.1 HI.out.2.2.1 HI.out.2.2.2 rfl (by decide) _ 3 _ rfl ((own_three w1 tAccount _ _ _).alloc _) ⟨w1.heap.size+1,0,none⟩ 2 2 [.string tFixed,.string fi] rfl rfl (new_cells2 w1 _ [.string tFixed,.string fi] _) (by intro u hu;simp at hu;rcases hu with rfl | rfl <;> rfl) (by unfold maxLen;omega) (by omega) (by simp;omega) ?_;intro v' w2 hown' hgrow _)
 have HF:=Lib.hid (below_grown (below_drewN ((HB1.out.alloc HB1.out.size _).alloc (by have:=HB1.out.size;simp;omega) _) 1) (by have:=HB1.out.size;simp;omega) (row_base ((own_three w1 tAccount _ _ _).alloc _) HB1.out.size) hgrow)
 go_wp2
 go_ret
 exact ⟨_,rfl,strs_of_own (ws:=[tAccount,co,tAsset,tFixed,fi]) hown',HF.out⟩
set_option maxRecDepth 100000 in
set_option maxHeartbeats 4000000 in
theorem words_worn (co fi:ByteArray) (w:World) (hL:Laid w) (h:rightA ⟨co,0,false,false,fi,true⟩=true):Calls Tryz.prog 136 #[aggF ⟨co,0,false,false,fi,true⟩] w (WordsTold w (wordsA ⟨co,0,false,false,fi,true⟩)):=by
 have HR:=Lib.hid (right_any ⟨co,0,false,false,fi,true⟩)
 rw [h] at HR
 have HW:Hid (wordsA ⟨co,0,false,false,fi,true⟩=[tAccount,co,tAsset,tWorn,fi]):=Lib.hid (by unfold wordsA;rw [if_pos h];simp [markW,clsW])
 rw [HW.out]
 obtain ⟨i0,hi,hz0,hz1,hz2⟩:=info_parts info_str
 have HI:=Lib.hid (And.intro hi (And.intro hz0 (And.intro hz1 hz2)))
 clear h HW hi hz0 hz1 hz2
 have HB:=Lib.hid ((Below.refl w.heap.size w).alloc (Nat.le_refl _) (.cells #[.string co,.int .i64 0,.bool false,.bool false,.string fi,.bool true] 99))
 have HL0:=Lib.hid (hL.below HB.out (Nat.le_refl _))
 have HX0:=Lib.hid (BoxA.new w ⟨co,0,false,false,fi,true⟩ 99)
 clear hL
 go_enter Tryz.func136,Tryz.ntmps136
 go_wp2_with fail
 refine (HR.out _).mono ?_
 rintro e w1 ⟨rfl,hb1⟩
 have HB1:=Lib.hid (HB.out.trans (hb1.mono HB.out.size))
 have hlt:w.heap.size < w1.heap.size:=by have:=hb1.size;simp at this;omega
 obtain ⟨g0,g1,g2⟩:=HL0.out.below hb1 (Nat.le_refl _)
 obtain ⟨c0,c1,c2,c3,c4,c5⟩:=(HX0.out.keep hb1 (by simp)).facts
 simp only at c0 c1 c2 c3 c4 c5
 clear hb1
 go_wp2
 go_region
 clear g0 g1 g2
 go_wp2_with (at_builtin;refine wpList_append_own _ rfl _ _ 67 rfl w1.heap.size 9 i0 (.string ⟨#[]⟩) 1 16 Tryz.underlying67 HI.out.1 HI.out.2.1 HI.out.2.2.1 HI.out.2.2.2 rfl (by decide) _ 3 _ rfl ((own_three w1 tAccount _ _ _).alloc _) ⟨w1.heap.size+1,0,none⟩ 2 2 [.string tWorn,.string fi] rfl rfl (new_cells2 w1 _ [.string tWorn,.string fi] _) (by intro u hu;simp at hu;rcases hu with rfl | rfl <;> rfl) (by unfold maxLen;omega) (by omega) (by simp;omega) ?_;intro v' w2 hown' hgrow _)
 have HF:=Lib.hid (below_grown (below_drewN ((HB1.out.alloc HB1.out.size _).alloc (by have:=HB1.out.size;simp;omega) _) 1) (by have:=HB1.out.size;simp;omega) (row_base ((own_three w1 tAccount _ _ _).alloc _) HB1.out.size) hgrow)
 go_wp2
 go_ret
 exact ⟨_,rfl,strs_of_own (ws:=[tAccount,co,tAsset,tWorn,fi]) hown',HF.out⟩
theorem words_any (a:Acct) (w:World) (hL:Laid w):Calls Tryz.prog 136 #[aggF a] w (WordsTold w (wordsA a)):=by
 cases h:rightA a with
 | false=>exact words_no a w h
 | true =>
   obtain ⟨co,cl,ca,mu,fi,wo⟩:=a
   rcases marks_ways (right_parts h).2.2 with ⟨e1,e2,e3,e4⟩ | ⟨e1,e2,e3,e4,e5⟩ | ⟨e1,e2,e3,e4,e5⟩ | ⟨e1,e2,e3,e6,e4,e5⟩ | ⟨e1,e2,e3,e6,e4,e5⟩ <;> simp only at e1 e2 e3 e4 <;> subst e1 e2 e4
   ·subst e3;exact words_plain co cl w hL h
   ·simp only at e5;subst e3 e5;exact words_cash co w hL h
   ·simp only at e5;subst e3;exact words_both co cl w hL h e5
   ·simp only at e5;subst e5;exact words_fixed co fi w hL h e6
   ·simp only at e5;subst e5;exact words_worn co fi w hL h
end Go.Proofs.YtdegffffcbhjbaaGreatDoor
end
section
namespace Go.Proofs.YtdegffffcbhjbaaGreatDoor
open Go.RowKit
theorem cellD (w:World) (q:Nat) (p:Addr):(w.drewN q).cell? p=w.cell? p:=rfl
def sameW (us vs:List ByteArray):Bool:=decide (us=vs)
theorem sameW_len {us vs:List ByteArray} (h:us.length≠vs.length):sameW us vs=false:=decide_eq_false fun e=>h (by rw [e])
theorem sameW_no {us vs:List ByteArray} {i:Nat} {x y:ByteArray} (hx:us[i]?=some x) (hy:vs[i]?=some y) (h:x≠y):sameW us vs=false :=
 decide_eq_false fun e=>h (by rw [e,hy] at hx;exact (Option.some.inj hx).symm)
theorem sameW_yes {us vs:List ByteArray} {n:Nat} (hu:us.length=n) (hv:vs.length=n) (h:∀ (j:Nat) (x y:ByteArray),j < n→us[j]?=some x→vs[j]?=some y→x=y):sameW us vs=true :=
 decide_eq_true (by
  apply List.ext_getElem?
  intro j
  by_cases hj:j < n
  ·rw [List.getElem?_eq_getElem (by omega),List.getElem?_eq_getElem (by omega)]
   rw [h j _ _ hj (List.getElem?_eq_getElem (by omega)) (List.getElem?_eq_getElem (by omega))]
  ·rw [List.getElem?_eq_none (by omega),List.getElem?_eq_none (by omega)])
set_option maxRecDepth 100000 in
set_option maxHeartbeats 2000000 in
theorem equal_any (v u:Value) (vs us:List ByteArray) (w:World) (h:StrsV w v vs) (h':StrsV w u us) :
 Calls Tryz.prog 135 #[v,u] w fun e w'=>e=.returned (.bool (sameW vs us))∧∃ q,w'=w.drewN q:=by
 obtain ⟨a,c,rfl,_,hm,hc⟩:=h
 obtain ⟨a',c',rfl,_,hm',hc'⟩:=h'
 obtain ⟨n,hn⟩:∃ n,vs.length=n:=⟨_,rfl⟩
 obtain ⟨n',hn'⟩:∃ n,us.length=n:=⟨_,rfl⟩
 obtain ⟨r,hr⟩:∃ r,sameW vs us=r:=⟨_,rfl⟩
 rw [hn] at hm ⊢
 rw [hn'] at hm' ⊢
 rw [hr]
 have H:=Lib.hid hc
 have H':=Lib.hid hc'
 have HN:=Lib.hid hn
 have HN':=Lib.hid hn'
 have HR:=Lib.hid hr
 unfold maxLen at hm hm'
 clear hc hc' hn hn' hr
 by_cases hne:n=n'
 ·subst hne
  have hnn:((n:Int) != (n:Int))=false:=by simp
  go_enter Tryz.func135,Tryz.ntmps135
  go_wp2
  go_loopg [13] n (fun kx vi wr=>∃ i q:Nat,vi=.int .i64 (i:Int)∧i≤n∧n - i≤kx∧Hid (wr=w.drewN q)∧Hid (∀ (j:Nat) (x y:ByteArray),j < i→vs[j]?=some x→us[j]?=some y→x=y))
  case atStart=>exact ⟨0,0,rfl,Nat.zero_le _,by omega,rfl,Lib.hid fun j x y hj=>absurd hj (Nat.not_lt_zero _)⟩
  case round =>
   obtain ⟨i,q,rfl,hin,hkx,HW,HA⟩:=hrel
   by_cases hlt:i < n
   ·obtain ⟨x,hx⟩:∃ y,vs[i]?=some y:=⟨_,List.getElem?_eq_getElem (by rw [HN.out];exact hlt)⟩
    obtain ⟨y,hy⟩:∃ y,us[i]?=some y:=⟨_,List.getElem?_eq_getElem (by rw [HN'.out];exact hlt)⟩
    obtain ⟨b1,o1,rfl,d1⟩:=H.out i _ hx
    obtain ⟨b2,o2,rfl,d2⟩:=H'.out i _ hy
    have HX:=Lib.hid hx
    have HY:=Lib.hid hy
    clear hx hy
    rw [←cellD w q,←HW.out] at d1 d2
    have hltz:(i:Int) < (n:Int):=by omega
    cases hxy:(x.toList==y.toList) with
    | true =>
      have HXE:=Lib.hid ((Lib.bytes_beq_iff x y).1 hxy)
      go_wp2_with fail
      go_big_quiet (fail)
      clear d1 d2 hxy
      go_wp2
      go_roundg (n - (i+1))
      case measure=>omega
      case rel=>exact ⟨i+1,q+nq,by first | rfl | go_num,by omega,Nat.le_refl _,Lib.hid (by rw [HW.out,World.drewN_drewN]),Lib.hid fun j z t hj hz ht=>by
       rcases Nat.lt_or_ge j i with h | h
       ·exact HA.out j z t h hz ht
       ·obtain rfl:j=i:=by omega
        rw [HX.out] at hz;rw [HY.out] at ht
        cases hz;cases ht;exact HXE.out⟩
    | false =>
      have HXE:=Lib.hid ((Lib.bytes_beq_false_iff x y).1 hxy)
      go_wp2_with fail
      go_big_quiet (fail)
      clear d1 d2 hxy
      go_wp2
      go_ret
      exact ⟨ret_bool (by rw [←HR.out,sameW_no HX.out HY.out HXE.out]),q+nq,by rw [HW.out,World.drewN_drewN]⟩
   ·have hltz:¬ (i:Int) < (n:Int):=by omega
    go_wp2
    go_ret
    exact ⟨ret_bool (by rw [←HR.out,sameW_yes HN.out HN'.out fun j x y hj=>HA.out j x y (by omega)]),q,HW.out⟩
 ·have hnn:((n:Int) != (n':Int))=true:=by simp;omega
  have HNE:=Lib.hid hne
  clear hne
  go_enter Tryz.func135,Tryz.ntmps135
  go_wp2
  go_ret
  exact ⟨ret_bool (by rw [←HR.out,sameW_len (by rw [HN.out,HN'.out];exact HNE.out)]),0,rfl⟩
end Go.Proofs.YtdegffffcbhjbaaGreatDoor
end
section
namespace Go.Proofs.YtdegffffcbhjbaaGreatDoor
open Go.RowKit
theorem strs_tail {P:Program} {t:TypeId} (ht:P.underlying t=some (.slice (P.elem t))) (hs:∀ w,(sizeOf (P.elem t)).run P w=.ok 1 w) {w:World} {p:Option Addr} {n c k:Nat} {ws:List ByteArray}
 (h:StrsV w (.slice p n c) ws) (hk:k≤n):∃ v,(∀ w',(Instr.slice t (.slice p n c) (some (.int .i64 (k:Int))) none none).run P w'=.ok v w')∧StrsV w v (ws.drop k):=by
 obtain ⟨p',c',e,h1,h2,hc⟩:=h
 injection e with e1 e2 e3
 subst e1 e2 e3
 refine ⟨sliced p k ws.length c 1,fun w'=>?_,?_⟩
 ·rw [run_slice_l w' t p _ c ht .i64 (k:Int) (by omega) (by omega),hs];simp [Result.andThen]
 ·cases p with
  | none =>
    refine ⟨none,c - k,by simp [sliced],by simp;omega,by simp;omega,fun i x hx=>?_⟩
    rw [List.getElem?_drop] at hx
    obtain ⟨b,o,e,_⟩:=hc _ x hx
    cases e
  | some ad =>
    by_cases hck:c=k
    ·subst hck
     refine ⟨some ad,0,by simp [sliced],by simp;omega,by simp;omega,fun i x hx=>?_⟩
     rw [List.getElem?_drop] at hx
     have:=(List.getElem?_eq_some_iff.1 hx).1
     omega
    ·refine ⟨some (ad.add k),c - k,by simp [sliced,hck],by simp;omega,by simp;omega,fun i x hx=>?_⟩
     rw [List.getElem?_drop] at hx
     obtain ⟨b,o,e,h3⟩:=hc _ x hx
     cases e
     exact ⟨b,o+k,by rw [add_off],by rw [Nat.add_assoc];exact h3⟩
theorem tail_u:Tryz.prog.underlying 67=some (.slice (Tryz.prog.elem 67)):=by kernel_rfl
theorem tail_s (w:World):(sizeOf (Tryz.prog.elem 67)).run Tryz.prog w=.ok 1 w:=by kernel_rfl
abbrev put6 (w:World) (g:Nat) (a:Acct):World :=
 (((((w.setCell ⟨g,0,none⟩ (.string a.code)).setCell ⟨g,1,none⟩ (.int .i64 a.cls)).setCell ⟨g,2,none⟩ (.bool a.cash)).setCell ⟨g,3,none⟩ (.bool a.both)).setCell ⟨g,4,none⟩ (.string a.fixed)).setCell ⟨g,5,none⟩ (.bool a.worn)
theorem put6_eq {w:World} {g:Nat} {t:TypeId} {z:Acct} (h:BoxA w g t z) (a:Acct):put6 w g a=w.setRow g #[.string a.code,.int .i64 a.cls,.bool a.cash,.bool a.both,.string a.fixed,.bool a.worn]:=by
 unfold BoxA at h
 unfold put6
 rw [setCell_eq_setRow w g 0 _ t (0,0) _ h,
  setCell_eq_setRow _ g 1 _ t (0,0) _ (setRow_heap w g _ _ t _ h),setRow_setRow,
  setCell_eq_setRow _ g 2 _ t (0,0) _ (setRow_heap w g _ _ t _ h),setRow_setRow,
  setCell_eq_setRow _ g 3 _ t (0,0) _ (setRow_heap w g _ _ t _ h),setRow_setRow,
  setCell_eq_setRow _ g 4 _ t (0,0) _ (setRow_heap w g _ _ t _ h),setRow_setRow,
  setCell_eq_setRow _ g 5 _ t (0,0) _ (setRow_heap w g _ _ t _ h),setRow_setRow]
 simp
theorem put6_box {w:World} {g:Nat} {t:TypeId} {z:Acct} (h:BoxA w g t z) (a:Acct):BoxA (put6 w g a) g t a∧w.grownBy (put6 w g a) (some g):=by
 rw [put6_eq h a];exact ⟨h.set a,grownBy_setRow w g _⟩
theorem BoxA.free {w:World} {b:Nat} {t:TypeId} {a:Acct} (h:BoxA w b t a) (o:Nat):w.frozen? ⟨b,o,none⟩=false:=by unfold BoxA at h;simp [World.frozen?,h]
abbrev zcells:Array Value:=#[.string ⟨#[]⟩,.int .i64 0,.bool false,.bool false,.string ⟨#[]⟩,.bool false]
theorem below_undrew {B:Nat} {w w':World} (h:Below B w.drew w'):Below B w w':=⟨h.os,h.tape,h.output,h.size,h.block⟩
def ParseAt (w wx:World) (g:Nat) (A:Acct):Prop:=BoxA wx g 99 A∧w.heap.size < g∧Below (w.heap.size+1) (w.alloc (.cells zcells 99)) wx
theorem parseAt_late {w W0 w5:World} {A M:Acct} (hW:w.alloc (.cells zcells 99)=W0) (hA:M=A) (hb5:Below W0.drew.heap.size W0.drew w5) :
 ParseAt w (w5.alloc (.cells #[.string M.code,.int .i64 M.cls,.bool M.cash,.bool M.both,.string M.fixed,.bool M.worn] 99)) w5.heap.size A:=by
 subst hA
 have hz:W0.heap.size=w.heap.size+1:=by rw [←hW];simp
 have hb:Below (w.heap.size+1) W0 w5:=by rw [←hz];exact below_undrew hb5
 refine ⟨BoxA.new w5 M _,?_,?_⟩
 ·have:=hb.size;omega
 ·rw [hW];exact hb.alloc (by have:=hb.size;omega) _
theorem parseAt_early {w W0 w5:World} {A M:Acct} (hW:w.alloc (.cells zcells 99)=W0) (hA:M=A) (hx:BoxA w5 W0.heap.size 99 zeroA) (hb5:Below (W0.alloc (.cells zcells 99)).drew.heap.size (W0.alloc (.cells zcells 99)).drew w5) :
 ParseAt w (put6 w5 W0.heap.size M) W0.heap.size A:=by
 subst hA
 have hz:W0.heap.size=w.heap.size+1:=by rw [←hW];simp
 have hb:Below W0.heap.size W0 w5:=((Below.refl W0.heap.size W0).alloc (Nat.le_refl _) _).trans ((below_undrew hb5).mono (by simp))
 obtain ⟨h1,h2⟩:=put6_box hx M
 refine ⟨h1,by omega,?_⟩
 rw [hW,←hz]
 exact hb.grown h2 hb.size (fun j hj=>by cases hj;exact Nat.le_refl _)
set_option maxRecDepth 100000 in
set_option maxHeartbeats 8000000 in
theorem parse_any (v:Value) (ws:List ByteArray) (w:World) (h:StrsV w v ws) (hL:Laid w) :
 Calls Tryz.prog 102 #[v] w fun e w'=>e=.returned (.tuple #[aggF (parseA ws).1,.int .i64 (parseA ws).2])∧Below w.heap.size w w':=by
 have HV:=Lib.hid h
 obtain ⟨p,c,rfl,hcap,hm,hc⟩:=h
 obtain ⟨n,hn⟩:∃ n,ws.length=n:=⟨_,rfl⟩
 rw [hn] at hcap hm HV ⊢
 unfold maxLen at hm
 have HB0:=Lib.hid ((Below.refl w.heap.size w).alloc (Nat.le_refl _) (.cells zcells 99))
 have HX0:=Lib.hid (BoxA.new w zeroA 99)
 by_cases h3:n < 3
 ·have hP:Hid (parseA ws=(zeroA,5)):=Lib.hid (by unfold parseA;rw [if_pos (by rw [hn];exact h3)])
  rw [hP.out]
  have H3:=Lib.hid h3
  clear hn hc
  go_enter Tryz.func102,Tryz.ntmps102
  go_wp2
  refine bodyPost_ret (v:=.tuple #[aggF zeroA,.int .i64 5]) (by simp [results,Tryz.results102,go_sem,zeroA]) rfl ⟨rfl,HB0.out⟩
 ·obtain ⟨A,hA⟩:∃ A,candA ws=A:=⟨_,rfl⟩
  obtain ⟨x1,hx1⟩:∃ x,ws[1]?=some x:=⟨_,List.getElem?_eq_getElem (by omega)⟩
  obtain ⟨x2,hx2⟩:∃ x,ws[2]?=some x:=⟨_,List.getElem?_eq_getElem (by omega)⟩
  obtain ⟨b,o,rfl,k1⟩:=hc 1 x1 hx1
  obtain ⟨b',o',e',k2⟩:=hc 2 x2 hx2
  cases e'
  obtain ⟨v3,hv3,hs3⟩:=strs_tail tail_u tail_s HV.out (k:=3) (by omega)
  have HA:Hid (markedA ⟨x1,clsOf x2,false,false,⟨#[]⟩,false⟩ (ws.drop 3)=A):=Lib.hid (by
   rw [←hA];unfold candA
   rw [List.getD_eq_getElem?_getD,List.getD_eq_getElem?_getD,hx1,hx2];rfl)
  have HP:Hid (parseA ws=if wordsA A=ws then (A,0) else (zeroA,5)):=Lib.hid (by unfold parseA;rw [if_neg (by rw [hn];exact h3),hA])
  obtain ⟨R,hR⟩:∃ R,parseA ws=R:=⟨_,rfl⟩
  rw [hR] at HP ⊢
  have HN:=Lib.hid hn
  have HL0:=Lib.hid (hL.below HB0.out (Nat.le_refl _))
  have HS0:=Lib.hid (hs3.keep HB0.out)
  have HV0:=Lib.hid (HV.out.keep HB0.out)
  have j1:=cell_later HB0.out k1
  have j2:=cell_later HB0.out k2
  clear hA hx1 hx2 hc hn hR hL k1 k2 hs3
  obtain ⟨W0,hW0⟩:∃ W0,w.alloc (.cells zcells 99)=W0:=⟨_,rfl⟩
  have HSZ:Hid (W0.heap.size=w.heap.size+1):=Lib.hid (by rw [←hW0];simp)
  have HX1:Hid (BoxA W0 w.heap.size 99 zeroA):=Lib.hid (by rw [←hW0];exact HX0.out)
  rw [hW0] at HB0 HL0 HS0 HV0 j1 j2
  clear HX0
  go_enter Tryz.func102,Tryz.ntmps102
  go_upto_region 3 with (fail)
  have HW0:=Lib.hid hW0
  clear hW0
  go_cut [4] (fun s4 wx=>∃ g,s4=.pointer (some ⟨g,0,none⟩)∧ParseAt w wx g A)
  case first =>
   have hv:∀ w',(Instr.slice 67 (.slice (some ⟨b,o,none⟩) n c) (some (.int .i64 3)) none none).run Tryz.prog w'=.ok v3 w':=hv3
   clear hv3
   have l1:(1:Int) < (n:Int):=by omega
   have l2:(2:Int) < (n:Int):=by omega
   have n1:=cell_later ((Below.refl W0.heap.size W0).alloc (Nat.le_refl _) (.cells zcells 99)) j1
   have n2:=cell_later ((Below.refl W0.heap.size W0).alloc (Nat.le_refl _) (.cells zcells 99)) j2
   have y1:W0.drew.cell? ⟨b,o+1,none⟩=some (.string x1):=j1
   have y2:W0.drew.cell? ⟨b,o+2,none⟩=some (.string x2):=j2
   have z1:(W0.alloc (.cells zcells 99)).drew.cell? ⟨b,o+1,none⟩=some (.string x1):=n1
   have z2:(W0.alloc (.cells zcells 99)).drew.cell? ⟨b,o+2,none⟩=some (.string x2):=n2
   have HLa:=Lib.hid (HL0.out.below ((Below.refl W0.heap.size W0).alloc (Nat.le_refl _) (.cells zcells 99)) (Nat.le_refl _))
   have HSa:=Lib.hid (HS0.out.keep ((Below.refl W0.heap.size W0).alloc (Nat.le_refl _) (.cells zcells 99)))
   have HNE:Hid (some b≠some W0.heap.size):=Lib.hid (fun e=>World.new_ne W0 _ j1 (Option.some.inj e).symm)
   have HXa:=Lib.hid (BoxA.new W0 zeroA 99)
   go_region_held3 (fun w'=>w'.cell? ⟨b,o+1,none⟩=some (.string x1)∧w'.cell? ⟨b,o+2,none⟩=some (.string x2))
    (first | (with_reducible exact ⟨j1,j2⟩) | (with_reducible exact ⟨y1,y2⟩) | (with_reducible exact ⟨n1,n2⟩) | (with_reducible exact ⟨z1,z2⟩) | (with_reducible exact ⟨m1,m2⟩) | (with_reducible exact ⟨p1 _,p2 _⟩) | (with_reducible exact ⟨s1,s2⟩) | fail)
    (first
     | (go_at_call 134;refine (classOf_any x2 W0.drew ⟨HL0.out.g0,HL0.out.g1,HL0.out.g2⟩).mono ?_;rintro e w' ⟨rfl,rfl⟩)
     | (go_at_call 134;refine (classOf_any x2 (W0.alloc (.cells zcells 99)).drew ⟨HLa.out.g0,HLa.out.g1,HLa.out.g2⟩).mono ?_;rintro e w' ⟨rfl,rfl⟩)
     | (go_at_call 133;refine (marked_any ⟨x1,clsOf x2,false,false,⟨#[]⟩,false⟩ v3 (ws.drop 3) W0.drew HS0.out).mono ?_;rintro e w5 ⟨rfl,hb5⟩;have m1:=cell_later hb5 j1;have m2:=cell_later hb5 j2;have p1:=fun C:Array Value=>cell_later ((Below.refl w5.heap.size w5).alloc (Nat.le_refl _) (.cells C 99)) m1;have p2:=fun C:Array Value=>cell_later ((Below.refl w5.heap.size w5).alloc (Nat.le_refl _) (.cells C 99)) m2)
     | (go_at_call 133;refine (marked_any ⟨x1,clsOf x2,false,false,⟨#[]⟩,false⟩ v3 (ws.drop 3) (W0.alloc (.cells zcells 99)).drew HSa.out).mono ?_;rintro e w5 ⟨rfl,hb5⟩;have m1:=cell_later hb5 n1;have m2:=cell_later hb5 n2;have HX5:Hid (BoxA w5 W0.heap.size 99 zeroA):=Lib.hid (BoxA.keep (w:=(W0.alloc (.cells zcells 99)).drew) HXa.out hb5 (by simp));obtain ⟨d0,d1,d2,d3,d4,d5⟩:=HX5.out.facts;have f0:=HX5.out.free 0;have f1:=HX5.out.free 1;have f2:=HX5.out.free 2;have f3:=HX5.out.free 3;have f4:=HX5.out.free 4;have f5:=HX5.out.free 5;have s1:=(put6_box HX5.out (markedA ⟨x1,clsOf x2,false,false,⟨#[]⟩,false⟩ (ws.drop 3))).2.cell m1 HNE.out;have s2:=(put6_box HX5.out (markedA ⟨x1,clsOf x2,false,false,⟨#[]⟩,false⟩ (ws.drop 3))).2.cell m2 HNE.out)
     | fail)
   all_goals
    go_wp2_with fail
    go_meet
    case rel =>
     refine ⟨_,rfl,?_⟩
     first | (with_reducible exact parseAt_late HW0.out HA.out hb5) | (with_reducible exact parseAt_early HW0.out HA.out HX5.out hb5)
  case rest =>
   obtain ⟨g,rfl,hP⟩:=hcut
   rename World=>wx
   obtain ⟨hx,hg,hb⟩:=hP
   rw [HW0.out] at hb
   rw [←HSZ.out] at hb
   have HXR:=Lib.hid (HX1.out.keep hb (by rw [HSZ.out];omega))
   have HBX:=Lib.hid (HB0.out.trans (hb.mono (by rw [HSZ.out];omega)))
   have HLX:=Lib.hid (HL0.out.below hb (Nat.le_refl _))
   have HVX:=Lib.hid (HV0.out.keep hb)
   have HX:=Lib.hid hx
   obtain ⟨d0,d1,d2,d3,d4,d5⟩:=hx.facts
   have hlt:w.heap.size < wx.heap.size:=by have:=hb.size;rw [HSZ.out] at this;omega
   have hgx:g < wx.heap.size:=World.block_lt_of_cell? wx _ d0
   clear hx hb hv3 j1 j2
   go_wp2_with fail
   clear d0 d1 d2 d3 d4 d5
   refine (words_any A _ HLX.out).mono ?_
   rintro e w6 ⟨v6,rfl,hs6,hb6⟩
   have HS6:=Lib.hid hs6
   have HV6:=Lib.hid (HVX.out.keep hb6)
   have HXR6:=Lib.hid (HXR.out.keep hb6 hlt)
   have HX6:=Lib.hid (HX.out.keep hb6 hgx)
   have HB6:=Lib.hid (HBX.out.trans (hb6.mono HBX.out.size))
   clear hs6 hb6
   go_wp2_with fail
   refine (equal_any _ _ _ ws _ HS6.out HV6.out).mono ?_
   rintro e w7 ⟨rfl,q,hq⟩
   have HXR7:Hid (BoxA w7 w.heap.size 99 zeroA):=Lib.hid (by rw [hq];exact HXR6.out)
   have HX7:Hid (BoxA w7 g 99 A):=Lib.hid (by rw [hq];exact HX6.out)
   have HB7:Hid (Below w.heap.size w w7):=Lib.hid (by rw [hq];exact below_drewN HB6.out q)
   clear hq
   by_cases hw:wordsA A=ws
   ·have hsm:Hid (sameW (wordsA A) ws=true):=Lib.hid (decide_eq_true hw)
    have hRR:Hid (R=(A,0)):=Lib.hid (by rw [HP.out,if_pos hw])
    rw [hsm.out]
    clear hw
    obtain ⟨d0,d1,d2,d3,d4,d5⟩:=HX7.out.facts
    go_wp2_with (refine wpList_store_acct rfl 99 (.tmp 2) (.tmp 26) rfl w.heap.size zeroA A 99 rfl rfl HXR7.out (by kernel_rfl) ?_;intro w8 hb8 hg8)
    have HF:=Lib.hid (HB7.out.grown hg8 HB7.out.size (fun j hj=>by cases hj;exact Nat.le_refl _))
    obtain ⟨t0,t1,t2,t3,t4,t5⟩:=hb8.facts
    clear hb8 hg8
    refine bodyPost_ret (v:=.tuple #[aggF A,.int .i64 0]) (by simp [results,Tryz.results102,go_sem,t0,t1,t2,t3,t4,t5]) rfl ⟨by rw [hRR.out],HF.out⟩
   ·have hsm:Hid (sameW (wordsA A) ws=false):=Lib.hid (decide_eq_false hw)
    have hRR:Hid (R=(zeroA,5)):=Lib.hid (by rw [HP.out,if_neg hw])
    rw [hsm.out]
    clear hw
    go_wp2_with (refine wpList_store_acct rfl 99 (.tmp 2) (.tmp 25) rfl w.heap.size zeroA zeroA 99 rfl rfl HXR7.out (by kernel_rfl) ?_;intro w8 hb8 hg8)
    have HF:=Lib.hid (HB7.out.grown hg8 HB7.out.size (fun j hj=>by cases hj;exact Nat.le_refl _))
    obtain ⟨t0,t1,t2,t3,t4,t5⟩:=hb8.facts
    clear hb8 hg8
    refine bodyPost_ret (v:=.tuple #[aggF zeroA,.int .i64 5]) (by simp [results,Tryz.results102,go_sem,t0,t1,t2,t3,t4,t5]) rfl ⟨by rw [hRR.out],HF.out⟩
end Go.Proofs.YtdegffffcbhjbaaGreatDoor
end
section
namespace Go.Proofs.YtdegffffcbhjbaaGreatDoor.Un
open Go.RowKit
theorem qL (s t:ByteArray) (l:List UInt8) (h:t.data.toList=l):(s.toList==l)=decide (s=t):=by
 have e:t.toList=l:=by rw [ByteArray.toList_eq,h]
 rw [←e,Bool.eq_iff_iff,decide_eq_true_eq]
 exact ⟨fun h=>(Lib.bytes_beq_iff s t).1 h,fun h=>(Lib.bytes_beq_iff s t).2 h⟩
theorem qGroup (s:ByteArray):(s.toList==[103,114,111,117,112])=decide (s=tGroup):=qL s tGroup _ rfl
theorem qReserve (s:ByteArray):(s.toList==[114,101,115,101,114,118,101])=decide (s=tReserve):=qL s tReserve _ rfl
theorem qDiffer (s:ByteArray):(s.toList==[100,105,102,102,101,114])=decide (s=tDiffer):=qL s tDiffer _ rfl
theorem qMinor (s:ByteArray):(s.toList==[109,105,110,111,114])=decide (s=tMinor):=qL s tMinor _ rfl
theorem qStake (s:ByteArray):(s.toList==[115,116,97,107,101])=decide (s=tStake):=qL s tStake _ rfl
theorem qEntity (s:ByteArray):(s.toList==[101,110,116,105,116,121])=decide (s=tEntity):=qL s tEntity _ rfl
theorem qMap (s:ByteArray):(s.toList==[109,97,112])=decide (s=tMap):=qL s tMap _ rfl
theorem qAccount (s:ByteArray):(s.toList==[97,99,99,111,117,110,116])=decide (s=tAccount):=qL s tAccount _ rfl
theorem qFlow (s:ByteArray):(s.toList==[102,108,111,119])=decide (s=Fl.tFlow):=qL s Fl.tFlow _ rfl
theorem lenW_none {h:ByteArray} (h1:h≠tGroup) (h2:h≠tReserve) (h3:h≠tDiffer) (h4:h≠tMinor) (h5:h≠tStake) (h6:h≠tEntity) (h7:h≠tMap):lenW h=0:=by
 unfold lenW
 rw [if_neg (by simp [h1,h2,h3,h4,h5]),if_neg h6,if_neg h7]
theorem lenW_2 {h:ByteArray} (h1:h=tGroup∨h=tReserve∨h=tDiffer∨h=tMinor∨h=tStake):lenW h=2:=by unfold lenW;rw [if_pos h1]
theorem lenW_3 {h:ByteArray} (h1:h=tEntity):lenW h=3:=by subst h1;decide
theorem lenW_4 {h:ByteArray} (h1:h=tMap):lenW h=4:=by subst h1;decide
set_option maxRecDepth 100000 in
set_option maxHeartbeats 2000000 in
theorem length_any (s:ByteArray) (w:World) :
 Calls Tryz.prog 106 #[.string s] w fun en w'=>en=.returned (.int .i64 (lenW s))∧w'=w:=by
 have g1:=qGroup s
 have g2:=qReserve s
 have g3:=qDiffer s
 have g4:=qMinor s
 have g5:=qStake s
 have g6:=qEntity s
 have g7:=qMap s
 have n2:=lenW_2 (h:=s)
 have n3:=lenW_3 (h:=s)
 have n4:=lenW_4 (h:=s)
 have n0:=lenW_none (h:=s)
 obtain ⟨N,hN⟩:∃ N,lenW s=N:=⟨_,rfl⟩
 rw [hN] at n2 n3 n4 n0 ⊢
 clear hN
 by_cases h1:s=tGroup
 ·have HN:=Lib.hid (n2 (by simp [h1]))
  rw [decide_eq_true h1] at g1
  clear h1 n2 n3 n4 n0
  go_enter Tryz.func106,Tryz.ntmps106
  go_wp2
  go_ret
  exact ⟨by rw [HN.out];rfl,rfl⟩
 rw [decide_eq_false h1] at g1
 by_cases h2:s=tReserve
 ·have HN:=Lib.hid (n2 (by simp [h2]))
  rw [decide_eq_true h2] at g2
  clear h2 n2 n3 n4 n0 h1
  go_enter Tryz.func106,Tryz.ntmps106
  go_wp2
  go_ret
  exact ⟨by rw [HN.out];rfl,rfl⟩
 rw [decide_eq_false h2] at g2
 by_cases h3:s=tDiffer
 ·have HN:=Lib.hid (n2 (by simp [h3]))
  rw [decide_eq_true h3] at g3
  clear h3 n2 n3 n4 n0 h1 h2
  go_enter Tryz.func106,Tryz.ntmps106
  go_wp2
  go_ret
  exact ⟨by rw [HN.out];rfl,rfl⟩
 rw [decide_eq_false h3] at g3
 by_cases h4:s=tMinor
 ·have HN:=Lib.hid (n2 (by simp [h4]))
  rw [decide_eq_true h4] at g4
  clear h4 n2 n3 n4 n0 h1 h2 h3
  go_enter Tryz.func106,Tryz.ntmps106
  go_wp2
  go_ret
  exact ⟨by rw [HN.out];rfl,rfl⟩
 rw [decide_eq_false h4] at g4
 by_cases h5:s=tStake
 ·have HN:=Lib.hid (n2 (by simp [h5]))
  rw [decide_eq_true h5] at g5
  clear h5 n2 n3 n4 n0 h1 h2 h3 h4
  go_enter Tryz.func106,Tryz.ntmps106
  go_wp2
  go_ret
  exact ⟨by rw [HN.out];rfl,rfl⟩
 rw [decide_eq_false h5] at g5
 by_cases h6:s=tEntity
 ·have HN:=Lib.hid (n3 h6)
  rw [decide_eq_true h6] at g6
  clear h6 n2 n3 n4 n0 h1 h2 h3 h4 h5
  go_enter Tryz.func106,Tryz.ntmps106
  go_wp2
  go_ret
  exact ⟨by rw [HN.out];rfl,rfl⟩
 rw [decide_eq_false h6] at g6
 by_cases h7:s=tMap
 ·have HN:=Lib.hid (n4 h7)
  rw [decide_eq_true h7] at g7
  clear h7 n2 n3 n4 n0 h1 h2 h3 h4 h5 h6
  go_enter Tryz.func106,Tryz.ntmps106
  go_wp2
  go_ret
  exact ⟨by rw [HN.out];rfl,rfl⟩
 rw [decide_eq_false h7] at g7
 have HN:=Lib.hid (n0 h1 h2 h3 h4 h5 h6 h7)
 clear h1 h2 h3 h4 h5 h6 h7 n2 n3 n4 n0
 go_enter Tryz.func106,Tryz.ntmps106
 go_wp2
 go_ret
 exact ⟨by rw [HN.out];rfl,rfl⟩
theorem formed_parts {ws:List ByteArray} (h0:0 < ws.length):formedW ws=(decide ((ws.length:Int)=lenW (wd ws 0)) && (ws.drop 1).all nmB):=by
 unfold formedW namesW
 rw [decide_eq_true h0,Bool.true_and]
def SoFarS {α:Type} (p:α→Bool) (L:List α) (i:Nat):Prop:=∀ (j:Nat) (x:α),j < i→L[j]?=some x→p x=true
theorem strs_u:Tryz.prog.underlying 67=some (.slice (Tryz.prog.elem 67)):=by kernel_rfl
theorem strs_s (w:World):(sizeOf (Tryz.prog.elem 67)).run Tryz.prog w=.ok 1 w:=by kernel_rfl
theorem wd_of {ws:List ByteArray} {i:Nat} {x:ByteArray} (h:ws[i]?=some x):wd ws i=x:=by unfold wd;rw [List.getD_eq_getElem?_getD,h];rfl
set_option maxRecDepth 100000 in
set_option maxHeartbeats 2000000 in
theorem formed_any (v:Value) (ws:List ByteArray) (w:World) (h:StrsV w v ws) (h0:0 < ws.length) :
 Calls Tryz.prog 66 #[v] w fun en w'=>en=.returned (.bool (formedW ws))∧w'=w:=by
 have HV:=Lib.hid h
 obtain ⟨p,c,rfl,hcap,hm,hc⟩:=h
 obtain ⟨x0,hx0⟩:∃ x,ws[0]?=some x:=⟨_,List.getElem?_eq_getElem h0⟩
 obtain ⟨b,o,rfl,k0⟩:=hc 0 x0 hx0
 rw [Nat.add_zero] at k0
 have hfp:=formed_parts h0
 rw [wd_of hx0] at hfp
 obtain ⟨n,hn⟩:∃ n,ws.length=n:=⟨_,rfl⟩
 rw [hn] at hfp HV hcap hm h0 ⊢
 unfold maxLen at hm
 obtain ⟨N,hN⟩:∃ N,lenW x0=N:=⟨_,rfl⟩
 have HLA:=Lib.hid (fun W=>length_any x0 W)
 simp only [hN] at HLA
 rw [hN] at hfp
 obtain ⟨r,hr⟩:∃ r,formedW ws=r:=⟨_,rfl⟩
 rw [hr] at hfp ⊢
 have HFP:=Lib.hid hfp
 have HN:=Lib.hid hn
 clear hfp hr hN hx0 hc hn
 by_cases hl:(n:Int)=N
 ·have HFP2:Hid (r=(ws.drop 1).all nmB):=Lib.hid (by rw [HFP.out,decide_eq_true hl,Bool.true_and])
  obtain ⟨v1,hv1,hs1⟩:=strs_tail strs_u strs_s HV.out (k:=1) (by omega)
  obtain ⟨p1,c1,rfl,hcap1,hm1,hc1⟩:=hs1
  have HC1:=Lib.hid hc1
  obtain ⟨n1,hn1⟩:∃ n1,(ws.drop 1).length=n1:=⟨_,rfl⟩
  rw [hn1] at hv1 hcap1 hm1
  have HN1:=Lib.hid hn1
  unfold maxLen at hm1
  have HVE:=Lib.hid hv1
  clear hc1 hn1 hv1
  subst hl
  go_enter Tryz.func66,Tryz.ntmps66
  go_wp2_with fail
  refine (HLA.out _).mono ?_
  rintro en w1 ⟨rfl,rfl⟩
  have hv1:=HVE.out
  simp only [Int.natCast_one] at hv1
  go_wp2
  clear hv1
  go_loop [15] (fun s15=>∃ i:Nat,i≤n1∧s15=.int .i64 (i:Int)∧Hid (SoFarS nmB (ws.drop 1) i)) (fun s15=>n1 - (intOf s15).toNat)
  case atStart=>exact ⟨0,Nat.zero_le _,rfl,Lib.hid (fun j x hj=>absurd hj (Nat.not_lt_zero _))⟩
  case round =>
   obtain ⟨i,hi,rfl,HSF⟩:=hrel
   by_cases hlt:i < n1
   ·obtain ⟨x,hx⟩:∃ x,(ws.drop 1)[i]?=some x:=⟨_,List.getElem?_eq_getElem (by rw [HN1.out];exact hlt)⟩
    obtain ⟨b2,o2,rfl,q0⟩:=HC1.out i x hx
    have HX:=Lib.hid hx
    obtain ⟨bb,hbb⟩:∃ bb,nmB x=bb:=⟨_,rfl⟩
    have HNA:=Lib.hid (fun W=>name_at x W)
    have hnm:nameL x.data.toList=bb:=hbb
    simp only [hnm] at HNA
    have HBB:=Lib.hid hbb
    clear hx hnm hbb
    cases bb with
    | false =>
      have HRF:Hid (r=false):=Lib.hid (by
       rw [HFP2.out,←Bool.not_eq_true,List.all_eq_true]
       intro h'
       have:=h' x (List.mem_of_getElem? HX.out)
       rw [HBB.out] at this;cases this)
      go_wp2_with fail
      refine (HNA.out _).mono ?_
      rintro en w1 ⟨rfl,rfl⟩
      go_wp2
      go_ret
      exact ⟨by rw [HRF.out];rfl,rfl⟩
    | true =>
      have HSN:Hid (SoFarS nmB (ws.drop 1) (i+1)):=Lib.hid (fun j y hj hy=>by
       rcases Nat.lt_or_ge j i with h' | h'
       ·exact HSF.out j y h' hy
       ·obtain rfl:j=i:=by omega
        rw [HX.out] at hy;cases hy;exact HBB.out)
      go_wp2_with fail
      refine (HNA.out _).mono ?_
      rintro en w1 ⟨rfl,rfl⟩
      go_wp2
      go_round
      case rel=>exact ⟨i+1,by omega,by go_num,HSN⟩
      case measure=>simp [intOf];omega
   ·have HRT:Hid (r=true):=Lib.hid (by
     rw [HFP2.out,List.all_eq_true]
     intro x hx
     obtain ⟨j,hj,ej⟩:=List.getElem_of_mem hx
     exact HSF.out j x (by rw [HN1.out] at hj;omega) (by rw [List.getElem?_eq_getElem hj,ej]))
    go_wp2
    go_ret
    exact ⟨by rw [HRT.out];rfl,rfl⟩
 ·have HRF:Hid (r=false):=Lib.hid (by rw [HFP.out,decide_eq_false hl,Bool.false_and])
  go_enter Tryz.func66,Tryz.ntmps66
  go_wp2_with fail
  refine (HLA.out _).mono ?_
  rintro en w1 ⟨rfl,rfl⟩
  go_wp2
  go_ret
  exact ⟨by rw [HRF.out];rfl,rfl⟩
end Go.Proofs.YtdegffffcbhjbaaGreatDoor.Un
end
section
namespace Go.Proofs.YtdegffffcbhjbaaGreatDoor.Pk
open Go.RowKit Go.Maps Go.Proofs.YtdegffffcbhjbaaGreatDoor.Un
set_option maxRecDepth 100000 in
theorem pack_entry {W:World} {m n:Nat} {D:DataW Unit} {had:List ByteArray} {x:ByteArray} (hm:MapPk W m n D) (hd:HadD D had) (hx:x.size≤maxLen) (hn:n < maxLen) :
 ∃ (W4:World) (D':DataW Unit),(Instr.lookup 87 (.map (some m)) (.string x) false).run Tryz.prog W=.ok (.int .i64 (if hadB had x=true then 1 else 0)) W ∧
   (Instr.mapUpdate 87 (.map (some m)) (.string x) (.int .i64 (if hadB had x=true then 2 else 1))).run Tryz.prog W=.ok () W4 ∧
   (Instr.lookup 87 (.map (some m)) (.string x) false).run Tryz.prog W4=.ok (.int .i64 (if hadB had x=true then 2 else 1)) W4 ∧
   MapPk W4 m (n+1) D'∧W.grownBy W4 (some m)∧(hadB had x=false→HadD D' (had++[x])):=by
 have hT:=Tryz.underlying87
 have hI:=Tryz.underlying3
 have hkey:keyOf Tryz.prog 9 (.string x)=some (kS x):=WideMaps.keyOf_string_mk Tryz.underlying9 hx
 obtain ⟨c,hrun,hat,_⟩:=hm.lookup_int law9 hT hI (zeroInt _) hkey
 have hc:c=if hadB had x=true then 1 else 0:=by
  rw [hd x] at hat
  injection hat with hat
  injection hat with _ hat
  exact hat.symm
 subst hc
 have hv:plainElem (H:=Unit) Tryz.prog 3 (.int .i64 (if hadB had x=true then 2 else 1))=some (.lit (.int .i64 (if hadB had x=true then 2 else 1)),[]):=plainElem_int hI (by split <;> decide)
 obtain ⟨W4,hu,hm4,hg4⟩:=hm.update law9 hT hn hkey hv
 obtain ⟨c4,hrun4,hat4,_⟩:=hm4.lookup_int law9 hT hI (zeroInt _) hkey
 have hc4:c4=if hadB had x=true then 2 else 1:=by
  rw [atKey_put_same (hm.tidy law9).isMap (kS_key _)] at hat4
  injection hat4 with hat4
  injection hat4 with _ hat4
  exact hat4.symm
 subst hc4
 refine ⟨W4,_,hrun,hu,hrun4,hm4,hg4,fun hno=>?_⟩
 rw [if_neg (by rw [hno];simp)]
 exact hd.put (hm.tidy law9) x
def LineP (W:World) (B R m n:Nat) (c f e l:Value) (M:Mast) (S':St) (E:Int) (en:Ending) (W':World):Prop :=
 en=.returned (.int .i64 E)∧Below B W W'∧(E=0→∃ D' v',PkAt W' B R m c f e l M (n+1) D' S' v')
set_option maxRecDepth 100000 in
set_option maxHeartbeats 4000000 in
theorem readPackage_any (u:Value) (x:ByteArray) (W:World) (B R m:Nat) (c f e l:Value) (M:Mast) (n:Nat) (D:DataW Unit) (S:St) (v:Value) (hu:StrsV W u [x]) (hB:B≤W.heap.size) (hn:n < maxLen) (hm:MastIn W c f e l M) (h:PkAt W B R m c f e l M n D S v) :
 Calls Tryz.prog 84 #[.pointer (some ⟨R,0,none⟩),u] W (LineP W B R m n c f e l M ⟨x,0,S.had++[x],S.facts⟩ (if begE M x=0 then (if hadB S.had x=true then 7 else 0) else begE M x)):=by
 obtain ⟨p,cp,rfl,_,_,hc⟩:=hu
 obtain ⟨g,o,rfl,k0⟩:=hc 0 x rfl
 rw [Nat.add_zero] at k0
 have HBG:=Lib.hid (begin_any x 0 W B R m c f e l M n D S v hB hm h)
 have HB0:=Lib.hid hB
 have HSZ:Hid (begE M x=0→x.size≤maxLen):=Lib.hid (fun h0=>by have:=(Go.Proofs.YtdegffffcbhjbaaGreatDoor.Un.nm_size (begE_zero.1 h0).1).2;unfold maxLen;omega)
 have HNN:=Lib.hid hn
 unfold BeginTold at HBG
 obtain ⟨N,hN⟩:∃ N,begE M x=N:=⟨_,rfl⟩
 rw [hN] at HBG HSZ ⊢
 obtain ⟨E,hE⟩:∃ E,(if N=0 then (if hadB S.had x=true then 7 else 0) else N)=E:=⟨_,rfl⟩
 rw [hE]
 have HE:=Lib.hid hE
 clear hc hm h hB hN hn hE
 go_enter Tryz.func84,Tryz.ntmps84
 go_wp2_with fail
 clear k0
 refine HBG.out.mono ?_
 rintro en w1 ⟨rfl,hb1,hp1⟩
 have HB1:=Lib.hid hb1
 have HP1:=Lib.hid hp1
 clear hb1 hp1
 by_cases h0:N=0
 ·subst h0
  have HP:=Lib.hid (HP1.out rfl)
  obtain ⟨W4,D',hl1,hu1,hl2,hm4,hg4,hd4⟩:=pack_entry HP.out.map HP.out.had (HSZ.out rfl) HNN.out
  obtain ⟨d9,_,_,_⟩:=HP.out.four
  have HB4:Hid (Below B W W4):=Lib.hid (HB1.out.grown hg4 (by have:=HB1.out.size;have:=HB0.out;omega) (fun j hj=>by cases hj;exact HP.out.geM))
  have HM4:=Lib.hid hm4
  have HG4:=Lib.hid hg4
  have HD4:=Lib.hid hd4
  have hR:R < w1.heap.size:=HP.out.lt
  have d9':W4.cell? ⟨R,9,none⟩=some (.map (some m)):=by
   have:=(HP.out.mapTurned (had':=S.had++[x]) (D':=D') (k:=n+1) hg4 hm4)
   exact (hg4.cell d9 (fun e=>HP.out.apart (Option.some.inj e)))
  clear hm4 hg4 hd4 hR
  cases hh:hadB S.had x with
  | true =>
    rw [hh] at hl1 hu1 hl2
    simp only [if_true] at hl1 hu1 hl2
    have HEE:Hid (E=7):=Lib.hid (by rw [←HE.out,if_pos rfl,if_pos hh])
    go_wp2
    go_ret
    exact ⟨by rw [HEE.out];rfl,HB4.out,fun h=>by rw [HEE.out] at h;cases h⟩
  | false =>
    have HD5:=Lib.hid (HD4.out hh)
    rw [hh] at hl1 hu1 hl2
    simp only [Bool.false_eq_true,if_false] at hl1 hu1 hl2
    have HEE:Hid (E=0):=Lib.hid (by rw [←HE.out,if_pos rfl,if_neg (by rw [hh];simp)])
    go_wp2
    go_ret
    exact ⟨by rw [HEE.out];rfl,HB4.out,fun _=>⟨D',v,HP.out.mapTurned HG4.out HM4.out HD5.out⟩⟩
 ·have hnz:(N != 0)=true:=by simp [h0]
  have HH0:=Lib.hid h0
  have HEE:Hid (E=N):=Lib.hid (by rw [←HE.out,if_neg h0])
  clear h0
  go_wp2
  go_ret
  exact ⟨by rw [HEE.out];rfl,HB1.out,fun h=>absurd (HEE.out.symm.trans h) HH0.out⟩
set_option maxRecDepth 100000 in
set_option maxHeartbeats 4000000 in
theorem readJournal_any (u:Value) (x:ByteArray) (W:World) (B R m:Nat) (c f e l:Value) (M:Mast) (n:Nat) (D:DataW Unit) (S:St) (v:Value) (hu:StrsV W u [x]) (hB:B≤W.heap.size) (hm:MastIn W c f e l M) (h:PkAt W B R m c f e l M n D S v) :
 Calls Tryz.prog 85 #[.pointer (some ⟨R,0,none⟩),u] W (LineP W B R m n c f e l M ⟨x,1,S.had,S.facts⟩ (begE M x)):=by
 obtain ⟨p,cp,rfl,_,_,hc⟩:=hu
 obtain ⟨g,o,rfl,k0⟩:=hc 0 x rfl
 rw [Nat.add_zero] at k0
 have HBG:=Lib.hid (begin_any x 1 W B R m c f e l M n D S v hB hm h)
 unfold BeginTold at HBG
 obtain ⟨N,hN⟩:∃ N,begE M x=N:=⟨_,rfl⟩
 rw [hN] at HBG ⊢
 clear hc hm h hB hN
 go_enter Tryz.func85,Tryz.ntmps85
 go_wp2_with fail
 clear k0
 refine HBG.out.mono ?_
 rintro en w1 ⟨rfl,hb1,hp1⟩
 have HB1:=Lib.hid hb1
 have HP1:=Lib.hid hp1
 clear hb1 hp1
 go_wp2
 go_ret
 exact ⟨rfl,HB1.out,fun h=>⟨D,v,(HP1.out h).mono (Nat.le_succ _)⟩⟩
theorem qDash (s:ByteArray):(s.toList==[45])=decide (s=tDash):=qL s tDash _ rfl
set_option maxHeartbeats 1000000 in
theorem partnerOf_any (x:ByteArray) (w:World):Calls Tryz.prog 126 #[.string x] w fun en w'=>en=.returned (.string (parB x))∧w=w':=by
 have q:=qDash x
 obtain ⟨P,hP⟩:∃ P,parB x=P:=⟨_,rfl⟩
 rw [hP]
 by_cases h:x=tDash
 ·have HP:Hid (P=emp):=Lib.hid (by rw [←hP];unfold parB;rw [if_pos h])
  rw [decide_eq_true h] at q
  clear hP h
  go_enter Tryz.func126,Tryz.ntmps126
  go_wp2
  go_ret
  exact ⟨by rw [HP.out];rfl,rfl⟩
 ·have HP:Hid (P=x):=Lib.hid (by rw [←hP];unfold parB;rw [if_neg h])
  rw [decide_eq_false h] at q
  clear hP h
  go_enter Tryz.func126,Tryz.ntmps126
  go_wp2
  go_ret
  exact ⟨by rw [HP.out];rfl,rfl⟩
set_option maxRecDepth 100000 in
set_option maxHeartbeats 4000000 in
theorem named_any (k:Fa.Key) (w:World):Calls Tryz.prog 127 #[Fa.aggK k] w fun en w'=>en=.returned (.bool (namedK k))∧Below w.heap.size w w':=by
 have hb1:=(Below.refl w.heap.size w).alloc (Nat.le_refl _) (.cells (kCells k) 56)
 have hk1:=Fa.key5 (el_new Fa.encK w k 56)
 obtain ⟨W1,hW1⟩:∃ W1,w.alloc (.cells (kCells k) 56)=W1:=⟨_,rfl⟩
 rw [show (Fa.encK.cs k).toArray=kCells k from rfl,hW1] at hk1
 rw [hW1] at hb1
 have HB1:=Lib.hid hb1
 have HA:=Lib.hid (fun W=>name_at k.a W)
 have HF:=Lib.hid (fun W=>name_at k.f W)
 have HP:=Lib.hid (fun W=>name_at k.p W)
 obtain ⟨A,hA⟩:∃ I,nameL k.a.data.toList=I:=⟨_,rfl⟩
 obtain ⟨F,hF⟩:∃ I,nameL k.f.data.toList=I:=⟨_,rfl⟩
 obtain ⟨P,hP⟩:∃ I,nameL k.p.data.toList=I:=⟨_,rfl⟩
 obtain ⟨I,hI⟩:∃ I,isP k=I:=⟨_,rfl⟩
 have hq0:=isP_ne k
 rw [hI] at hq0
 have HN:Hid (namedK k=(A && F && (!I || P))):=Lib.hid (by unfold namedK nmB;rw [hA,hF,hP,hI])
 simp only [hA] at HA
 simp only [hF] at HF
 simp only [hP] at HP
 obtain ⟨N,hN⟩:∃ N,namedK k=N:=⟨_,rfl⟩
 rw [hN] at HN ⊢
 clear hA hF hP hI hN hb1
 obtain ⟨y0,y1,y2,y3,y4⟩:=hk1
 simp only [Nat.zero_add] at y0 y1 y2 y3 y4
 go_enter Tryz.func127,Tryz.ntmps127
 go_wp2_with fail
 clear hW1
 refine (HA.out _).mono ?_
 rintro en w1 ⟨rfl,rfl⟩
 cases A with
 | false =>
   have HNN:Hid (N=false):=Lib.hid (by rw [HN.out];rfl)
   go_wp2
   go_ret
   exact ⟨by rw [HNN.out];rfl,HB1.out⟩
 | true =>
 go_wp2_with fail
 refine (HF.out _).mono ?_
 rintro en w1 ⟨rfl,rfl⟩
 cases F with
 | false =>
   have HNN:Hid (N=false):=Lib.hid (by rw [HN.out];rfl)
   go_wp2
   go_ret
   exact ⟨by rw [HNN.out];rfl,HB1.out⟩
 | true =>
 cases I with
 | false =>
   have hq:k.p.toList.isEmpty=true:=by simpa using hq0.symm
   have HNN:Hid (N=true):=Lib.hid (by rw [HN.out];rfl)
   clear hq0
   go_wp2
   go_ret
   exact ⟨by rw [HNN.out];rfl,HB1.out⟩
 | true =>
   have hq:k.p.toList.isEmpty=false:=by simpa using hq0.symm
   have HNN:Hid (N=P):=Lib.hid (by rw [HN.out];cases P <;> rfl)
   clear hq0
   go_wp2_with fail
   refine (HP.out _).mono ?_
   rintro en w1 ⟨rfl,rfl⟩
   go_wp2
   go_ret
   exact ⟨by rw [HNN.out];rfl,HB1.out⟩
end Go.Proofs.YtdegffffcbhjbaaGreatDoor.Pk
end
section
namespace Go.Proofs.YtdegffffcbhjbaaGreatDoor
open Go.RowKit
theorem digs_take (s:ByteArray) (k:Nat) (h:k < s.size):digs (s.data.toList.take (k+1))=(digs (s.data.toList.take k) && dig s[k]):=by
 rw [List.take_succ_eq_append_getElem (by simpa using h),digs_snoc];rfl
theorem digs_at (l:List UInt8) (k:Nat) (h:k < l.length) (hd:digs l=true):dig l[k]=true:=by
 unfold digs at hd
 exact List.all_eq_true.1 hd _ (List.getElem_mem h)
set_option maxHeartbeats 400000 in
theorem allDigits_any (s:ByteArray) (w:World) (hs:s.size≤maxLen) :
 Calls Tryz.prog 173 #[.string s] w fun e w'=>e=.returned (.bool (digs s.data.toList))∧w=w':=by
 unfold maxLen at hs
 go_enter Tryz.func173,Tryz.ntmps173
 go_wp2
 go_loop [6] (fun i=>∃ k:Nat,k≤s.size∧i=.int .i64 k∧digs (s.data.toList.take k)=true) (fun i=>s.size - (intOf i).toNat)
 case atStart=>exact ⟨0,Nat.zero_le _,rfl,rfl⟩
 case round =>
  obtain ⟨k,hk,rfl,hd⟩:=hrel
  have HD:=Lib.hid hd
  clear hd
  by_cases hlt:k < s.size
  ·cases hc:dig s[k] with
   | true =>
     have HC:=Lib.hid hc
     obtain ⟨c1,c2⟩:=(dig_iff _).1 hc
     have c3:(48:Int)≤(s[k].toNat:Int):=by omega
     have c4:(s[k].toNat:Int)≤57:=by omega
     clear hc c1 c2
     go_wp2
     go_round
     case rel=>exact ⟨k+1,by omega,by go_num,by rw [digs_take s k hlt,HD.out,HC.out];rfl⟩
     case measure=>simp [intOf];omega
   | false =>
     have hfin:digs s.data.toList=false:=by
      cases h:digs s.data.toList with
      | false=>rfl
      | true =>
        have:=digs_at _ k (by simpa using hlt) h
        rw [←hc];exact this.symm
     have HFIN:=Lib.hid hfin
     clear hfin
     have hc':¬ (48≤s[k].toNat∧s[k].toNat≤57):=by rw [←dig_iff,hc];simp
     clear hc
     by_cases c1:48≤s[k].toNat
     ·have c3:(48:Int)≤(s[k].toNat:Int):=by omega
      have c4:(57:Int) < (s[k].toNat:Int):=by omega
      clear hc' c1
      go_wp2
      go_ret
      exact ⟨ret_bool HFIN.out.symm,rfl⟩
     ·have c3:(s[k].toNat:Int) < 48:=by omega
      clear hc' c1
      go_wp2
      go_ret
      exact ⟨ret_bool HFIN.out.symm,rfl⟩
  ·have hfin:digs s.data.toList=true:=by
    have:=HD.out
    rwa [List.take_of_length_le (by simp;omega)] at this
   have HFIN:=Lib.hid hfin
   clear hfin
   go_wp2
   go_ret
   exact ⟨ret_bool HFIN.out.symm,rfl⟩
theorem beq_lit {c:UInt8} {n:Nat} (h:c.toNat≠n):((c.toNat:Int)==(n:Int))=false:=by
 rw [beq_eq_false_iff_ne];omega
theorem bne_lit {c:UInt8} {n:Nat} (h:c.toNat≠n):((c.toNat:Int) != (n:Int))=true:=by
 rw [bne_iff_ne];omega
theorem list_ne {c d:UInt8} {r:List UInt8} (h:c≠d):((c::r)==[d])=false:=by
 rw [beq_eq_false_iff_ne];intro e;injection e with e _;exact h e
theorem list_ne2 {c d e:UInt8} {r:List UInt8}:((c::d::r)==[e])=false:=by
 rw [beq_eq_false_iff_ne];intro h;injection h with _ h;cases h
theorem extract_tail (c:UInt8) (l:List UInt8):(⟨(c::l).toArray⟩:ByteArray).extract 1 (l.length+1)=⟨l.toArray⟩:=by
 apply ByteArray.ext
 rw [ByteArray.data_extract]
 apply Array.ext'
 simp
theorem first_at (c:UInt8) (l:List UInt8) (h:0 < (⟨(c::l).toArray⟩:ByteArray).size):(⟨(c::l).toArray⟩:ByteArray)[0]=c:=rfl
theorem size_pos (c:UInt8) (l:List UInt8):0 < (⟨(c::l).toArray⟩:ByteArray).size:=by show 0 < (c::l).toArray.size;simp
set_option maxHeartbeats 400000 in
theorem isWhole_nil (w:World) :
 Calls Tryz.prog 155 #[.string ⟨#[]⟩] w fun e w'=>e=.returned (.bool (whole []))∧w=w':=by
 go_enter Tryz.func155,Tryz.ntmps155
 go_wp2
 go_ret
 exact ⟨rfl,rfl⟩
set_option maxHeartbeats 400000 in
theorem isWhole_zero (w:World) :
 Calls Tryz.prog 155 #[.string ⟨#[48]⟩] w fun e w'=>e=.returned (.bool (whole [48]))∧w=w':=by
 go_enter Tryz.func155,Tryz.ntmps155
 go_wp2
 go_ret
 exact ⟨rfl,rfl⟩
set_option maxHeartbeats 400000 in
theorem isWhole_minus (w:World) :
 Calls Tryz.prog 155 #[.string ⟨#[45]⟩] w fun e w'=>e=.returned (.bool (whole [45]))∧w=w':=by
 go_enter Tryz.func155,Tryz.ntmps155
 go_wp2
 go_ret
 exact ⟨rfl,rfl⟩
set_option maxHeartbeats 400000 in
theorem isWhole_minus0 (r:List UInt8) (w:World) (hs:r.length+2≤maxLen) :
 Calls Tryz.prog 155 #[.string ⟨(45::48::r).toArray⟩] w fun e w'=>e=.returned (.bool (whole (45::48::r)))∧w=w':=by
 unfold maxLen at hs
 have hx:=extract_tail 45 (48::r)
 rw [show (48::r).length+1=r.length+1+1 from rfl] at hx
 go_enter Tryz.func155,Tryz.ntmps155
 go_wp2
 go_ret
 exact ⟨rfl,rfl⟩
set_option maxHeartbeats 400000 in
theorem isWhole_minusd (d:UInt8) (r:List UInt8) (w:World) (hs:r.length+2≤maxLen) (hd:d≠48) :
 Calls Tryz.prog 155 #[.string ⟨(45::d::r).toArray⟩] w fun e w'=>e=.returned (.bool (whole (45::d::r)))∧w=w':=by
 have hfin:whole (45::d::r)=digs (d::r):=by rw [whole_minus];simp [plainNum,hd]
 rw [hfin]
 clear hfin
 have hm:(⟨(d::r).toArray⟩:ByteArray).size≤maxLen:=by show (d::r).toArray.size≤maxLen;simp;omega
 unfold maxLen at hs
 have h1:((d.toNat:Int) != 48)=true:=bne_lit (n:=48) (toNat_ne hd)
 have hx0:=first_at d r (size_pos d r)
 clear hd
 have hx:=extract_tail 45 (d::r)
 rw [show (d::r).length+1=r.length+1+1 from rfl] at hx
 go_enter Tryz.func155,Tryz.ntmps155
 go_wp2_with (go_at_call 173;refine (allDigits_any ⟨(d::r).toArray⟩ _ hm).mono ?_;rintro e w' ⟨rfl,rfl⟩)
 go_ret
 exact ⟨rfl,rfl⟩
set_option maxHeartbeats 400000 in
theorem isWhole_0 (d:UInt8) (r:List UInt8) (w:World) (hs:r.length+2≤maxLen) :
 Calls Tryz.prog 155 #[.string ⟨(48::d::r).toArray⟩] w fun e w'=>e=.returned (.bool (whole (48::d::r)))∧w=w':=by
 have hfin:whole (48::d::r)=false:=by rw [whole_other (d::r) (by decide),list_ne2];rfl
 rw [hfin]
 clear hfin
 unfold maxLen at hs
 have h0:((48::d::r:List UInt8)==[48])=false:=list_ne2
 go_enter Tryz.func155,Tryz.ntmps155
 go_wp2
 go_ret
 exact ⟨rfl,rfl⟩
set_option maxHeartbeats 400000 in
theorem isWhole_d (d:UInt8) (r:List UInt8) (w:World) (hs:r.length+1≤maxLen) (hd:d≠48) (hd':d≠45) :
 Calls Tryz.prog 155 #[.string ⟨(d::r).toArray⟩] w fun e w'=>e=.returned (.bool (whole (d::r)))∧w=w':=by
 have h0:((d::r:List UInt8)==[48])=false:=list_ne hd
 have hfin:whole (d::r)=digs (d::r):=by rw [whole_other r hd',h0];simp [plainNum,hd]
 rw [hfin]
 clear hfin
 have hm:(⟨(d::r).toArray⟩:ByteArray).size≤maxLen:=by show (d::r).toArray.size≤maxLen;simp;omega
 unfold maxLen at hs
 have h1:((d.toNat:Int) != 48)=true:=bne_lit (n:=48) (toNat_ne hd)
 have hx0:=first_at d r (size_pos d r)
 have h2:((d.toNat:Int)==45)=false:=beq_lit (n:=45) (toNat_ne hd')
 clear hd hd'
 go_enter Tryz.func155,Tryz.ntmps155
 go_wp2_with (go_at_call 173;refine (allDigits_any ⟨(d::r).toArray⟩ _ hm).mono ?_;rintro e w' ⟨rfl,rfl⟩)
 go_ret
 exact ⟨rfl,rfl⟩
theorem isWhole_any (s:ByteArray) (w:World) (hs:s.size≤maxLen) :
 Calls Tryz.prog 155 #[.string s] w fun e w'=>e=.returned (.bool (whole s.data.toList))∧w=w':=by
 obtain ⟨⟨l⟩⟩:=s
 have hl:l.length≤maxLen:=hs
 show Calls Tryz.prog 155 #[.string ⟨l.toArray⟩] w fun e w'=>e=.returned (.bool (whole l))∧w=w'
 match l,hl with
 | [],_=>exact isWhole_nil w
 | c::r,hl =>
   simp only [List.length_cons] at hl
   by_cases h45:c=45
   ·subst h45
    match r,hl with
    | [],_=>exact isWhole_minus w
    | d::r,hl =>
      simp only [List.length_cons] at hl
      by_cases h48:d=48
      ·subst h48;exact isWhole_minus0 r w (by omega)
      ·exact isWhole_minusd d r w (by omega) h48
   ·by_cases h48:c=48
    ·subst h48
     match r,hl with
     | [],_=>exact isWhole_zero w
     | d::r,hl =>
       simp only [List.length_cons] at hl
       exact isWhole_0 d r w (by omega)
    ·exact isWhole_d c r w (by omega) h48 h45
structure LaidC (w:World):Prop where
 tab:Lib.TabIs Tryz.prog w "internal/strconv.uint64pow10" .u64 Lib.pow10Tab
 rng:∃ tp p,w.var? Tryz.prog "strconv.ErrRange"=some #[.iface tp p]
theorem gPow:Tryz.prog.globalNamed "internal/strconv.uint64pow10"=some 5:=by kernel_rfl
theorem gRng:Tryz.prog.globalNamed "strconv.ErrRange"=some 4:=by kernel_rfl
theorem var_lt {P:Program} {w:World} {n:String} {g:Nat} {cs:Array Value} (hg:P.globalNamed n=some g) (h:w.var? P n=some cs):g < w.heap.size:=by
 unfold World.var? at h
 rw [hg] at h
 simp only [Option.bind_some] at h
 rcases Nat.lt_or_ge g w.heap.size with hlt | hge
 ·exact hlt
 ·rw [Array.getElem?_eq_none hge] at h;cases h
theorem LaidC.below {w w':World} (h:LaidC w) (hb:Below w.heap.size w w'):LaidC w':=by
 obtain ⟨tp,p,hv⟩:=h.rng
 exact ⟨var?_below hb gPow (var_lt gPow h.tab) h.tab,tp,p,var?_below hb gRng (var_lt gRng hv) hv⟩
theorem pint_ok (s:ByteArray) (w:World) (hs:s.size≤1000000) (v:Int) (h:Lib.parseIntB 64 s.data.toList=.ok v) :
 Calls Tryz.prog 156 #[.string s,.int .i64 10,.int .i64 64] w fun e w'=>e=.returned (.tuple #[.int .i64 v,.nilIface])∧Below w.heap.size w w':=by
 refine (Tryz.strconv_ParseInt_10_at64_ok s (by omega) v h w).mono ?_
 rintro e w' ⟨rfl,rfl | ⟨t,rfl⟩⟩
 ·exact ⟨rfl,Below.refl _ _⟩
 ·exact ⟨rfl,Lib.bytesWorld_below _ _ _⟩
theorem pint_over (s:ByteArray) (w:World) (hs:s.size≤1000000) (hL:LaidC w) (h:Lib.parseIntB 64 s.data.toList=.range) :
 Calls Tryz.prog 156 #[.string s,.int .i64 10,.int .i64 64] w fun e w'=>(∃ N,e=.returned (.tuple #[.int .i64 (Lib.intSat 64 s.data.toList),.iface 279 (.pointer (some ⟨N,0,none⟩))]))∧Below w.heap.size w w':=by
 obtain ⟨tp,p,hv⟩:=hL.rng
 refine (Tryz.strconv_ParseInt_10_at64_range_var s (by omega) h tp p w hv).mono ?_
 rintro e w' ⟨N,rfl,_,_,hb⟩
 exact ⟨⟨N,rfl⟩,hb⟩
set_option maxHeartbeats 400000 in
theorem cnum_long (s:ByteArray) (w:World) (hs:s.size≤1000000) (hL:LaidC w) :
 Calls Tryz.prog 128 #[.string s] w fun e w'=>e=.returned (.tuple #[.int .i64 (parseV s.data.toList),.int .i64 (parseE s.data.toList)])∧Below w.heap.size w w':=by
 have hm:s.size≤maxLen:=by unfold maxLen;omega
 cases hw:whole s.data.toList with
 | false =>
   have e1:parseV s.data.toList=0:=by simp [parseV,hw]
   have e2:parseE s.data.toList=5:=by simp [parseE,hw]
   rw [e1,e2]
   clear e1 e2 hL
   go_enter Tryz.func128,Tryz.ntmps128
   go_wp2_with (go_at_call 155;refine (isWhole_any s _ hm).mono ?_;rintro e w' ⟨rfl,rfl⟩)
   go_ret2
   exact ⟨rfl,Below.refl _ _⟩
 | true =>
   have hp:=parseInt_whole hw
   have HL:=Lib.hid hL
   clear hL
   cases hf:fit (val s.data.toList) with
   | true =>
     have e1:parseV s.data.toList=val s.data.toList:=by simp [parseV,hw,hf]
     have e2:parseE s.data.toList=0:=by simp [parseE,hw,hf]
     rw [e1,e2]
     rw [hf,if_pos rfl] at hp
     clear e1 e2 hf
     have HP:=Lib.hid hp
     clear hp
     go_enter Tryz.func128,Tryz.ntmps128
     go_wp2_with (first | (go_at_call 155;refine (isWhole_any s _ hm).mono ?_;rintro e w' ⟨rfl,rfl⟩) | (go_at_call 156;refine (pint_ok s _ hs _ HP.out).mono ?_;rintro e w' ⟨rfl,hb⟩))
     go_ret2
     exact ⟨rfl,hb⟩
   | false =>
     have e1:parseV s.data.toList=0:=by simp [parseV,hw,hf]
     have e2:parseE s.data.toList=2:=by simp [parseE,hw,hf]
     rw [e1,e2]
     rw [hf,if_neg (by decide)] at hp
     clear e1 e2 hf
     have HP:=Lib.hid hp
     clear hp
     go_enter Tryz.func128,Tryz.ntmps128
     go_wp2_with (first | (go_at_call 155;refine (isWhole_any s _ hm).mono ?_;rintro e w' ⟨rfl,rfl⟩) | (go_at_call 156;refine (pint_over s _ hs HL.out HP.out).mono ?_;rintro e w' ⟨⟨N,rfl⟩,hb⟩))
     go_ret2
     exact ⟨rfl,hb⟩
end Go.Proofs.YtdegffffcbhjbaaGreatDoor
end
section
namespace Go.Proofs.YtdegffffcbhjbaaGreatDoor
open Go.RowKit
def looksOnly (o:Oper):Bool :=
 match o.op with
 | .move _ | .assign _ | .load .. | .binOp .. | .unOp .. | .convert .. | .fieldAddr .. | .field .. | .indexAddr .. | .index .. | .extract .. | .slice .. | .lookup .. | .makeInterface .. | .box .. | .build .. | .pick ..=>true
 | .nilCheck _=>true
 | .call c=>match c.callee with
   | .builtin .len=>true
   | .builtin .cap=>true
   | _=>false
 | _=>false
theorem next_value {α:Type} (P:Program) (s:Sem α) (g:α→Value) (w w':World) (n:Next) (h:(do pure (Next.value (g (←s))):Sem Next).run P w=.ok n w'):∃ v,n=.value v:=by
 simp only [Sem.run_bind] at h
 cases hs:s.run P w with
 | ok x w1 =>
   rw [hs] at h
   simp only [Result.andThen_ok,Sem.run_pure] at h
   cases h
   exact ⟨_,rfl⟩
 | halt x w1=>rw [hs] at h;simp [Result.andThen] at h
theorem nil_halts (P:Program) (w:World):∃ x,(runtimePanic .nilDeref:Sem Next).run P w=.halt x w:=⟨_,rfl⟩
theorem looks_value {P:Program} {ρ:Operand→Value} {o:Oper} {w w':World} {n:Next} (hl:looksOnly o=true) (h:(execOp ρ o).run P w=.ok n w'):∃ v,n=.value v:=by
 obtain ⟨dst,op,type,pos,after,guard⟩:=o
 cases op <;> simp only [looksOnly,Bool.false_eq_true] at hl <;> simp only [execOp] at h
 case move x=>simp only [Sem.run_pure] at h;cases h;exact ⟨_,rfl⟩
 case assign x=>simp only [Sem.run_pure] at h;cases h;exact ⟨_,rfl⟩
 case nilCheck x =>
  split at h
  all_goals first
   | (simp only [Sem.run_pure] at h;cases h;exact ⟨_,rfl⟩)
   | (obtain ⟨x,hx⟩:=nil_halts P w;rw [hx] at h;cases h;done)
   | skip
  split at h
  ·obtain ⟨x,hx⟩:=nil_halts P w;rw [hx] at h;cases h
  ·rename_i t u _
   simp only [Sem.run_bind] at h
   have hp:(program:Sem Program).run P w=.ok P w:=rfl
   rw [hp] at h
   simp only [Result.andThen_ok] at h
   revert h
   generalize (nilAhead (P.types.size+Made.depth) t u _).run P w=r
   intro h
   cases r with
   | halt x w1=>simp [Result.andThen] at h
   | ok b w1 =>
     simp only [Result.andThen_ok] at h
     split at h
     ·simp only [Sem.run_bind,run_unsupported] at h
      simp [Result.andThen] at h
     ·simp only [Sem.run_pure] at h;cases h;exact ⟨_,rfl⟩
  ·simp only [Sem.run_pure] at h;cases h;exact ⟨_,rfl⟩
 case call c =>
  split at hl
  ·rename_i hc
   simp only [resolve,hc,invoke,builtin,Sem.run_bind,Sem.run_pure,Result.andThen_ok] at h
   exact next_value P _ id _ _ _ (by simpa only [Sem.run_bind,Sem.run_pure,id] using h)
  ·rename_i hc
   simp only [resolve,hc,invoke,builtin,Sem.run_bind,Sem.run_pure,Result.andThen_ok] at h
   exact next_value P _ id _ _ _ (by simpa only [Sem.run_bind,Sem.run_pure,id] using h)
  ·cases hl
 all_goals exact next_value P _ _ _ _ _ h
section
variable {P:Program} {md:Region.Mode} {ops:Array Oper} {Q:Exit→Act→World→Prop} {S:World→Prop}
theorem yieldsIf_of_quiet {o:Oper} {a:Act} {v:Value} (hl:looksOnly o=true) (hw:Region.wanted o (yielded ops a.tmps)=true) (h:∀ w,S w→o.quietAt P a S w v):YieldsIf P ops S o v a:=by
 refine .inl ⟨hw,fun w hs=>?_⟩
 have h1:=h w hs
 unfold Oper.quietAt at h1
 cases hr:(execOp a.eval o).run P w with
 | ok n w' =>
   rw [hr] at h1
   obtain ⟨u,rfl⟩:=looks_value hl hr
   obtain ⟨rfl,rfl⟩:=h1
   rfl
 | halt x w'=>rw [hr] at h1;exact h1.elim
def nth:List Oper→Nat→List Oper→List Oper
 | [],_,more=>more
 | o::_,0,more=>o::more
 | _::l,i+1,more=>nth l i more
def pick (l:List Oper):List Nat→List Oper
 | []=>[]
 | i::r=>nth l i (pick l r)
theorem nth_eq {o:Oper}:∀ (l:List Oper) (i:Nat) (more:List Oper),l[i]?=some o→nth l i more=o::more
 | [],_,_,h=>by simp at h
 | x::l,0,more,h=>by simp at h;subst h;rfl
 | x::l,i+1,more,h=>by simp at h;exact nth_eq l i more h
def marked (listed:Array Bool):List Nat→Array Bool
 | []=>listed
 | i::r=>marked (listed.setIfInBounds i true) r
def sweepB (md:Region.Mode) (ops:Array Oper):List Nat→Array Bool→Bool
 | [],_=>true
 | i::r,listed=>((ops[i]?).map looksOnly).getD false && Region.free md ops listed i && (Region.ready md ops listed).contains i && sweepB md ops r (listed.setIfInBounds i true)
theorem sweep {l:List Oper} (hs:Region.noSelect l.toArray=true) (hQ:∀ d v c a w,Q (.panic c) (Act.put a d v) w→Q (.panic c) a w) {R:Act→Prop} {w:World} (hS:S w) :
 ∀ (q:List Nat) (fuel:Nat) (listed:Array Bool) (a:Act),sweepB md l.toArray q listed=true→wpQuiet P l.toArray S R (pick l q) a →
   (∀ a',R a'→wpAnyH P md l.toArray Q S fuel (marked listed q) a' w)→wpAnyH P md l.toArray Q S (fuel+q.length) listed a w
 | [],_,_,_,_,h,hr=>hr _ h
 | i::r,fuel,listed,a,hB,h,hr=>by
   simp only [sweepB,Bool.and_eq_true] at hB
   obtain ⟨⟨⟨hl,hf⟩,hc⟩,hB'⟩:=hB
   obtain ⟨o,ho⟩:∃ o,l.toArray[i]?=some o:=by
    cases he:l.toArray[i]? with
    | none=>rw [he] at hl;simp at hl
    | some o=>exact ⟨o,rfl⟩
   rw [ho] at hl
   simp only [Option.map_some,Option.getD_some] at hl
   have hp:pick l (i::r)=o::pick l r:=nth_eq l i _ (by simpa using ho)
   rw [hp] at h
   have hlen:fuel+(i::r).length=(fuel+r.length)+1:=by simp;omega
   rw [hlen]
   unfold wpQuiet at h
   by_cases hw:Region.wanted o (yielded l.toArray a.tmps)=true
   ·rw [if_pos hw] at h
    obtain ⟨v,hv,hk⟩:=h
    exact wpAnyH_take ho hs hf hc (fun c a' w'=>hQ _ _ c a' w') (yieldsIf_of_quiet hl hw hv) hS (sweep hs hQ hS r fuel _ _ hB' hk hr)
   ·rw [if_neg hw] at h
    exact wpAnyH_take ho hs hf hc (fun c a' w'=>hQ _ _ c a' w') (.inr ⟨by simpa using hw,rfl⟩) hS (sweep hs hQ hS r fuel _ _ hB' h hr)
def alone (P:Program) (ops:Array Oper) (Q:Exit→Act→World→Prop) (K:Act→World→Prop) (a:Act) (w:World):List Oper→Prop
 | []=>False
 | o::_=>if Region.wanted o (yielded ops a.tmps) then o.wp P a w K Q else K (a.put o.dst undef) w
inductive Plan where
 | last (q:List Nat)
 | one (q:List Nat) (k:Nat) (n:Plan)
 | two (q:List Nat) (k1:Nat) (n1:Plan) (k2:Nat) (n2:Plan)
def wpPlan (P:Program) (l:List Oper) (Q:Exit→Act→World→Prop) (S:World→Prop):Plan→Act→World→Prop
 | .last q,a,w=>wpQuiet P l.toArray S (fun a'=>Q .normal a' w) (pick l q) a
 | .one q k n,a,w=>wpQuiet P l.toArray S (fun a'=>∀ K:Act→World→Prop,(∀ a2 w2,S w2→wpPlan P l Q S n a2 w2→K a2 w2)→alone P l.toArray Q K a' w (nth l k [])) (pick l q) a
 | .two q k1 n1 k2 n2,a,w=>wpQuiet P l.toArray S (fun a'=>(∀ K:Act→World→Prop,(∀ a2 w2,S w2→wpPlan P l Q S n1 a2 w2→K a2 w2)→alone P l.toArray Q K a' w (nth l k1 []))∧(∀ K:Act→World→Prop,(∀ a2 w2,S w2→wpPlan P l Q S n2 a2 w2→K a2 w2)→alone P l.toArray Q K a' w (nth l k2 []))) (pick l q) a
def planN:Plan→Nat
 | .last q=>q.length
 | .one q _ n=>planN n+1+q.length
 | .two q _ n _ _=>planN n+1+q.length
def planB (md:Region.Mode) (ops:Array Oper):Plan→Array Bool→Bool
 | .last q,listed=>sweepB md ops q listed && (Region.ready md ops (marked listed q)).isEmpty
 | .one q k n,listed=>sweepB md ops q listed && decide (Region.ready md ops (marked listed q)=[k]) && planB md ops n ((marked listed q).setIfInBounds k true)
 | .two q k1 n1 k2 n2,listed=>sweepB md ops q listed && decide (Region.ready md ops (marked listed q)=[k1,k2]) && (planN n1==planN n2) && planB md ops n1 ((marked listed q).setIfInBounds k1 true) && planB md ops n2 ((marked listed q).setIfInBounds k2 true)
theorem op_alone {l:List Oper} {i:Nat} {K:Act→World→Prop} {a:Act} {w:World} {listed:Array Bool} (hr:i∈Region.ready md l.toArray listed) (hk:alone P l.toArray Q K a w (nth l i [])):wpOp P l.toArray Q i K a w:=by
 obtain ⟨_,o,ho,_⟩:=mem_ready.1 hr
 rw [nth_eq l i [] (by simpa using ho)] at hk
 unfold wpOp
 simp only [ho]
 simp only [alone] at hk
 split
 ·rename_i hw;rw [if_pos hw] at hk;exact .inl hk
 ·rename_i hw;rw [if_neg hw] at hk;exact hk
theorem any_of_plan {l:List Oper} (hs:Region.noSelect l.toArray=true) (hQ:∀ d v c a w,Q (.panic c) (Act.put a d v) w→Q (.panic c) a w) :
 ∀ (p:Plan) (listed:Array Bool) (a:Act) (w:World),planB md l.toArray p listed=true→S w→wpPlan P l Q S p a w→wpAnyH P md l.toArray Q S (planN p) listed a w
 | .last q,listed,a,w,hB,hS,h=>by
   simp only [planB,Bool.and_eq_true,List.isEmpty_iff] at hB
   have:=sweep (md:=md) hs hQ hS q 0 listed a hB.1 h (fun a' ha=>wpAnyH_done hB.2 ha 0)
   simpa [planN] using this
 | .one q k n,listed,a,w,hB,hS,h=>by
   simp only [planB,Bool.and_eq_true,decide_eq_true_eq] at hB
   obtain ⟨⟨h1,h2⟩,h3⟩:=hB
   refine sweep (md:=md) hs hQ hS q (planN n+1) listed a h1 h (fun a' ha=>?_)
   refine wpAnyH_all h2 (by simp) (fun i hi=>?_)
   simp only [List.mem_singleton] at hi
   subst hi
   exact op_alone (by rw [h2];simp) (ha _ (fun a2 w2 hs2 h4=>⟨hs2,any_of_plan hs hQ n _ a2 w2 h3 hs2 h4⟩))
 | .two q k1 n1 k2 n2,listed,a,w,hB,hS,h=>by
   simp only [planB,Bool.and_eq_true,decide_eq_true_eq,beq_iff_eq] at hB
   obtain ⟨⟨⟨⟨h1,h2⟩,hn⟩,h3⟩,h4⟩:=hB
   refine sweep (md:=md) hs hQ hS q (planN n1+1) listed a h1 h (fun a' ha=>?_)
   refine wpAnyH_all h2 (by simp) (fun i hi=>?_)
   simp only [List.mem_cons,List.not_mem_nil,or_false] at hi
   rcases hi with rfl | rfl
   ·exact op_alone (by rw [h2];simp) (ha.1 _ (fun a2 w2 hs2 h5=>⟨hs2,any_of_plan hs hQ n1 _ a2 w2 h3 hs2 h5⟩))
   ·rw [hn]
    exact op_alone (by rw [h2];simp) (ha.2 _ (fun a2 w2 hs2 h5=>⟨hs2,any_of_plan hs hQ n2 _ a2 w2 h4 hs2 h5⟩))
structure Since (B:Nat) (w:World) where
 goal:World
 below:Below B w goal
instance (B:Nat) (w:World):Nonempty (Since B w):=⟨⟨w,Below.refl _ _⟩⟩
theorem wp_region_plan_if {id:Nat} {l:List Oper} {a:Act} {w:World} (p:Plan) (hm:P.follows .mixedOrders=true)
 (hs:(Region.noSelect l.toArray && planB .any l.toArray p (Array.replicate l.toArray.size false) && (planN p==l.toArray.size))=true)
 (hQ:∀ d v c a w,Q (.panic c) (Act.put a d v) w→Q (.panic c) a w) (hS:S w.drew)
 (h:wpPlan P l Q S p a w.drew):(Code.region id l.toArray true).wp P Q a w:=by
 simp only [Bool.and_eq_true,beq_iff_eq] at hs
 refine wp_region_held (S:=S) hm ?_
 have:=any_of_plan (P:=P) hs.1.1 hQ p _ a w.drew hs.1.2 (S:=S) hS h
 rw [hs.2] at this
 exact this
theorem wp_region_plan {id:Nat} {l:List Oper} {a:Act} {w:World} (p:Plan) (hm:P.follows .mixedOrders=true)
 (hs:(Region.noSelect l.toArray && planB .any l.toArray p (Array.replicate l.toArray.size false) && (planN p==l.toArray.size))=true)
 (hQ:∀ d v c a w,Q (.panic c) (Act.put a d v) w→Q (.panic c) a w)
 (h:wpPlan P l Q (fun w'=>∃ p:Past w,w'=p.goal) p a w.drew):(Code.region id l.toArray true).wp P Q a w :=
 wp_region_plan_if p hm hs hQ ⟨⟨w.drew,⟨rfl,rfl,rfl,Nat.le_refl _,fun _ _=>rfl⟩⟩,rfl⟩ h
end
theorem alone_want {P:Program} {ops:Array Oper} {Q:Exit→Act→World→Prop} {K:Act→World→Prop} {a:Act} {w:World} {o:Oper} {l:List Oper} (hw:Region.wanted o (yielded ops a.tmps)=true) (h:o.wp P a w K Q):alone P ops Q K a w (o::l):=by
 simp only [alone];rw [if_pos hw];exact h
theorem past_in {w0 w:World} (h:Below w0.heap.size w0 w):∃ p:Past w0,w=p.goal:=⟨⟨w,h⟩,rfl⟩
end Go.Proofs.YtdegffffcbhjbaaGreatDoor
end
section
namespace Go.Proofs.YtdegffffcbhjbaaGreatDoor.Fa
open Go.RowKit
def putL:List Value→Nat→List Value→List Value
 | xs,_,[]=>xs
 | xs,o,v::r=>putL (xs.set o v) (o+1) r
theorem putL_mid:∀ (vs A X D:List Value),X.length=vs.length→putL (A++X++D) A.length vs=A++vs++D
 | [],A,X,D,h=>by
   have:X=[]:=List.eq_nil_of_length_eq_zero h
   subst this
   rfl
 | v::vs,A,[],D,h=>by simp at h
 | v::vs,A,x::X,D,h=>by
   have e:(A++x::X++D).set A.length v=(A++[v])++X++D:=by
    rw [List.append_assoc,List.set_append_right _ _ (Nat.le_refl _),Nat.sub_self]
    simp
   have ih:=putL_mid vs (A++[v]) X D (by simpa using h)
   rw [List.length_append,List.length_singleton] at ih
   show putL ((A++x::X++D).set A.length v) (A.length+1) vs=_
   rw [e,ih]
   simp
theorem putL_flat {α:Type} (E:Enc α) (L:List α) (i:Nat) (y:α) (hi:i < L.length):putL (flat E L) (i * E.k) (E.cs y)=flat E (L.set i y):=by
 have e:L=L.take i++L[i]::L.drop (i+1):=by rw [←List.drop_eq_getElem_cons hi,List.take_append_drop]
 have e2:L.set i y=L.take i++y::L.drop (i+1):=by rw [List.set_eq_take_append_cons_drop,if_pos hi]
 have h1:(flat E (L.take i)).length=i * E.k:=by rw [flat_length,List.length_take,Nat.min_eq_left (by omega)]
 conv=>lhs;rw [e]
 rw [flat_append,flat_cons,←List.append_assoc,←h1,putL_mid (E.cs y) _ _ _ (by rw [E.len,E.len]),e2,flat_append,flat_cons,List.append_assoc]
theorem stored_cells {w:World} {B g s n c:Nat} {e:TypeId} {xs:List Value} (h:w.ownsRow B e s (.slice (some ⟨g,0,none⟩) n c) n xs):∀ (vs:List Value) (o:Nat),(w.setCells g o vs).ownsRow B e s (.slice (some ⟨g,0,none⟩) n c) n (putL xs o vs)∧w.grownBy (w.setCells g o vs) (some g):=by
 intro vs
 induction vs generalizing w xs with
 | nil=>intro o;exact ⟨h,World.grownBy.refl w _⟩
 | cons v vs ih =>
   intro o
   obtain ⟨s1,g1⟩:=World.ownsRow.stored h o v
   obtain ⟨s2,g2⟩:=ih s1 (o+1)
   exact ⟨s2,g1.trans g2⟩
theorem wp_store_part {α:Type} {E:Enc α} {P:Program} {o:Oper} {a:Act} {w:World} {K:Act→World→Prop} {Q:Exit→Act→World→Prop} (ty:TypeId) (x y:Operand) (ho:o.op=.store ty x y)
 (B g n c:Nat) (e:TypeId) (L:List α) (i:Nat) (z:α) (hx:a.eval x=.pointer (some ⟨g,i * E.k,none⟩)) (hy:a.eval y=.agg (E.cs z).toArray) (hrow:w.ownsRow B e E.k (.slice (some ⟨g,0,none⟩) n c) n (flat E L)) (hn:L.length=n) (hi:i < n) (hti:(P.info? ty).map (·.size)=some E.k)
 (h:∀ w',w'.ownsRow B e E.k (.slice (some ⟨g,0,none⟩) n c) n (flat E (L.set i z))→w.grownBy w' (some g)→K (a.put o.dst undef) w'):o.wp P a w K Q:=by
 subst hn
 have hfr:∀ j,w.frozen? ⟨g,j,none⟩=false:=fun j=>by
  rcases hrow.2 with ⟨h',_⟩ | ⟨g',cap',cur,h',_,hg,_⟩
  ·cases h'
  ·cases h';simp [World.frozen?,hg]
 have hst:=run_storeCells_cells (P:=P) g (i * E.k) (E.cs z) 0 w (fun j hj=>by
  rw [E.len] at hj
  have hxl:j < (E.cs L[i]).length:=by rw [E.len];exact hj
  have:=hrow.cells (g:=g) rfl _ _ (flat_at L i L[i] (List.getElem?_eq_getElem hi) j _ (List.getElem?_eq_getElem hxl))
  rw [add_off,Nat.zero_add] at this
  rw [Nat.add_zero,this];rfl) (fun j _=>hfr _) (E.one z)
 rw [Nat.add_zero] at hst
 have hrun:(storeVar ty ⟨g,i * E.k,none⟩ (.agg (E.cs z).toArray)).run P w=.ok () (w.setCells g (i * E.k) (E.cs z)):=by
  cases hq:P.info? ty with
  | none=>simp [hq] at hti
  | some inf =>
    have hs:E.k=inf.size:=by simp [hq] at hti;omega
    simp [storeVar,sizeOf,typeInfo,hq,Value.cells,hs.symm,E.len,hst]
 obtain ⟨h1,h2⟩:=stored_cells hrow (E.cs z) (i * E.k)
 rw [putL_flat E L i z hi] at h1
 unfold Oper.wp execOp
 simp only [ho,hx,hy,Instr.storeAt,Instr.sureAddr,Sem.run_bind,Sem.run_pure,Result.andThen_ok,hrun]
 exact h _ h1 h2
theorem box_own {α:Type} {E:Enc α} {w:World} {B b:Nat} {t:TypeId} {a:α} (h:BoxE E w b t a) (hB:B≤b):w.ownsRow B t E.k (.slice (some ⟨b,0,none⟩) 1 1) 1 (flat E [a]) :=
 ⟨by rw [flat_length];simp,.inr ⟨b,1,_,rfl,hB,h,Nat.le_refl _,by unfold maxLen;omega,by simp [E.len],by rw [flat_one];simp [List.take_of_length_le,E.len]⟩⟩
theorem own_box {α:Type} {E:Enc α} {w:World} {B b c:Nat} {t:TypeId} {a:α} (h:w.ownsRow B t E.k (.slice (some ⟨b,0,none⟩) 1 c) 1 (flat E [a])):ElAt E w b 0 a:=fun j v hj=>by
 have:=h.cells (g:=b) rfl j v (by rw [flat_one];exact hj)
 rwa [add_off] at this
theorem wp_store_box {α:Type} {E:Enc α} {P:Program} {o:Oper} {a:Act} {w:World} {K:Act→World→Prop} {Q:Exit→Act→World→Prop} (ty:TypeId) (x y:Operand) (ho:o.op=.store ty x y)
 (g:Nat) (t:TypeId) (z0 z:α) (hx:a.eval x=.pointer (some ⟨g,0,none⟩)) (hy:a.eval y=.agg (E.cs z).toArray) (hg:BoxE E w g t z0) (hti:(P.info? ty).map (·.size)=some E.k)
 (h:∀ w',ElAt E w' g 0 z→w.grownBy w' (some g)→K (a.put o.dst undef) w'):o.wp P a w K Q :=
 wp_store_part ty x y ho g g 1 1 t [z0] 0 z (by rw [Nat.zero_mul];exact hx) hy (box_own hg (Nat.le_refl _)) rfl (by omega) hti (fun w' h1 h2=>h w' (own_box h1) h2)
end Go.Proofs.YtdegffffcbhjbaaGreatDoor.Fa
end
