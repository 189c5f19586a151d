/- CsPlain CourseNamed -/
import Derived.Test.YthcpglnmhimepaaGreatDoorS43
import Derived.Test.YthcpglnmhimepaaGreatDoorS47
import Derived.Test.YthcpglnmhimepaaGreatDoorS50
section
namespace Go.Proofs.YthcpglnmhimepaaGreatDoor.Cs
open Go.RowKit Go.Proofs.YthcpglnmhimepaaGreatDoor.Un Go.Proofs.YthcpglnmhimepaaGreatDoor.Pk
theorem Inv.rate {M:Mast} {l:List (List ByteArray)} {L:List Crs} (h:Inv M l L) {ws:List ByteArray} (hw:ws∈l):rateO L (readV ws).key=some (prsN (rateW ws),prsD (rateW ws)):=by
 unfold rateO
 rw [h.find hw];rfl
theorem named_flow {M:Mast} {l:List (List ByteArray)} {L:List Crs} (h:Inv M l L) {ws:List ByteArray} (hw:ws∈l) (h0:wd ws 0=tFlow):ofC M L (wd ws (ws.length - 2)) (wd ws 1)=((prsN (rateW ws),prsD (rateW ws)),0):=by
 have ho:=h.good ws hw
 have hk:(readV ws).key=(tFlow,wd ws 1,wd ws (ws.length - 2)):=by
  show (wd ws 0,(if wd ws 0=tFlow then wd ws 1 else emp),wd ws (ws.length - 2))=_
  rw [if_pos h0,h0]
 have hr:=h.rate hw
 rw [hk] at hr
 have hf:=ho.flow
 unfold flowE at hf
 rw [if_pos (show (readV ws).sort=tFlow from h0)] at hf
 have e2:(readV ws).flw=wd ws 1:=if_pos h0
 rw [e2] at hf
 have hc:wd ws (ws.length - 2)≠M.cur:=ho.cur
 unfold ofC
 cases hl:hasFl M (wd ws 1) with
 | false=>rw [hl,if_pos rfl] at hf;cases hf
 | true =>
   rw [hl,if_neg (by simp)] at hf
   rw [if_neg (by simp),if_neg (by intro e;rw [e] at hf;simp at hf),if_neg hc,hr]
theorem named_kind {M:Mast} {l:List (List ByteArray)} {L:List Crs} (h:Inv M l L) {ws:List ByteArray} (hw:ws∈l) {f:ByteArray} {k:Int} (hf:hasFl M f=true) (hk:kindF M f=k) (h2:(k=0∧wd ws 0=tPrior)∨(k=4∧wd ws 0=tClose)):ofC M L (wd ws (ws.length - 2)) f=((prsN (rateW ws),prsD (rateW ws)),0):=by
 have ho:=h.good ws hw
 have hc:wd ws (ws.length - 2)≠M.cur:=ho.cur
 have hn:wd ws 0≠tFlow:=by rcases h2 with ⟨_,e⟩ | ⟨_,e⟩ <;> rw [e] <;> decide
 have hs:sortK k=wd ws 0:=by rcases h2 with ⟨rfl,e⟩ | ⟨rfl,e⟩ <;> rw [e] <;> rfl
 have hkey:(readV ws).key=(wd ws 0,emp,wd ws (ws.length - 2)):=by
  show (wd ws 0,(if wd ws 0=tFlow then wd ws 1 else emp),wd ws (ws.length - 2))=_
  rw [if_neg hn]
 have hr:=h.rate hw
 rw [hkey] at hr
 have hk2:k≠1∧k≠2∧k≠3:=by rcases h2 with ⟨rfl,_⟩ | ⟨rfl,_⟩ <;> decide
 unfold ofC
 rw [hf,if_neg (by simp),if_neg (by rw [hk];exact hk2.2.1),if_neg hc,h.flow_none (by rw [hk];exact hk2.1) (by rw [hk];exact hk2.2.2),hk,hs,hr]
end Go.Proofs.YthcpglnmhimepaaGreatDoor.Cs
end
section
namespace Go.Proofs.YthcpglnmhimepaaGreatDoor.Cs
open Go.RowKit Go.Maps Go.Proofs.YthcpglnmhimepaaGreatDoor.Un Go.Proofs.YthcpglnmhimepaaGreatDoor.Pk
def encRt:Enc (Int × Int):=⟨fun x=>[.int .i64 x.1,.int .i64 x.2],2,fun _=>rfl,by decide,fun _ v hv=>by simp at hv;rcases hv with rfl | rfl <;> rfl⟩
theorem two_rt {w:World} {b:Nat} {t:TypeId} {x:Int × Int} (h:BoxE encRt w b t x):w.cell? ⟨b,0,none⟩=some (.int .i64 x.1)∧w.cell? ⟨b,1,none⟩=some (.int .i64 x.2):=⟨by simpa using h.at0 0 _ rfl,by simpa using h.at0 1 _ rfl⟩
def asksB (a b:ByteArray) (x:Fl.Flow):Bool:=(a.toList==[102,108,111,119] && x.code.toList==b.toList) || (a.toList==[112,114,105,111,114] && x.kind==0) || (a.toList==[99,108,111,115,101] && x.kind==4)
theorem line_new2 (w:World) (n:Int) (u:Value) (t:TypeId):(w.alloc (.cells #[.int .i64 n,u] t)).cell? ⟨w.heap.size,1,none⟩=some u:=(cell_of_row _ w.heap.size 1 _ t (0,0) (heap_alloc_new w _)).trans rfl
theorem fl_new (w:World) (x:Fl.Flow):(w.alloc (.cells #[.string x.code,.int .i64 x.kind] 70)).cell? ⟨w.heap.size,0,none⟩=some (.string x.code)∧(w.alloc (.cells #[.string x.code,.int .i64 x.kind] 70)).cell? ⟨w.heap.size,1,none⟩=some (.int .i64 x.kind) :=
 ⟨(cell_of_row _ w.heap.size 0 _ _ (0,0) (heap_alloc_new w _)).trans rfl,(cell_of_row _ w.heap.size 1 _ _ (0,0) (heap_alloc_new w _)).trans rfl⟩
theorem asks_of {M:Mast} (ho:MastOk M) {l:List (List ByteArray)} {T:List Crs} (hi:Inv M l T) {ws:List ByteArray} (hw:ws∈l) {x:Fl.Flow} (hx:x∈M.flows) (h:asksB (wd ws 0) (wd ws 1) x=true):ofC M T (wd ws (ws.length - 2)) x.code=((prsN (rateW ws),prsD (rateW ws)),0):=by
 obtain ⟨h1,h2⟩:=ho.self x hx
 unfold asksB at h
 simp only [Bool.or_eq_true,Bool.and_eq_true,beq_iff_eq] at h
 have e1:∀ a b:ByteArray,a.toList=b.toList→a=b:=fun a b e=>(Lib.bytes_beq_iff a b).1 (by rw [e];exact beq_self_eq_true _)
 rcases h with (⟨ha,hb⟩ | ⟨ha,hb⟩) | ⟨ha,hb⟩
 ·have h0:wd ws 0=tFlow:=e1 _ _ (by rw [ha,flow_list])
  rw [e1 _ _ hb]
  exact named_flow hi hw h0
 ·have h0:wd ws 0=tPrior:=e1 _ _ (by rw [ha,list_prior])
  exact named_kind hi hw h1 (h2.trans hb) (.inl ⟨rfl,h0⟩)
 ·have h0:wd ws 0=tClose:=e1 _ _ (by rw [ha,list_close])
  exact named_kind hi hw h1 (h2.trans hb) (.inr ⟨rfl,h0⟩)
set_option maxRecDepth 100000 in
set_option maxHeartbeats 16000000 in
theorem courseNamed_walk (s0 s1:ByteArray) (w:World) (_hs0:s0.size≤maxLen) (_hs1:s1.size≤maxLen) (hU:LaidP w):Calls Tryz.prog 9 #[.string s0,.string s1] w fun en w'=>en=.returned (.bool true)∧Below w.heap.size w w':=by
 clear _hs0
 have HS1:=Lib.hid _hs1
 clear _hs1
 have HB0:=Lib.hid (Below.refl w.heap.size w)
 have HL0:=Lib.hid hU
 clear hU
 go_enter Tryz.func9,Tryz.ntmps9
 go_wp2_with fail
 refine (alive14_any _ HL0.out).mono ?_
 rintro en w1 ⟨rfl,hb1⟩
 have HB1:=Lib.hid (HB0.out.trans (hb1.mono HB0.out.size))
 have HL1:=Lib.hid (HL0.out.keep hb1)
 clear HB0 HL0
 clear hb1
 go_wp2_with fail
 refine (master_any s0 _ HL1.out.1 HL1.out.2.1).mono ?_
 rintro en w2 ⟨M,c,f,e,l,c',f',e',l',is,rfl,hm,hm',hb2,his⟩
 obtain ⟨pc,cc,pf,cf,pe,ce,pl,cl,rfl,rfl,rfl,rfl⟩:=shapes hm
 obtain ⟨pc',cc',pf',cf',pe',ce',pl',cl',rfl,rfl,rfl,rfl⟩:=shapes hm'
 have HM2:=Lib.hid hm
 have HM2':=Lib.hid hm'
 have HB2:=Lib.hid (HB1.out.trans (hb2.mono HB1.out.size))
 have HL2:=Lib.hid (HL1.out.keep hb2)
 clear HB1 HL1
 have HIS:=Lib.hid his
 clear hm hm' hb2 his
 go_wp2_with (first
  | (refine wpList_store_mast rfl 30 (.tmp 5) (.tmp 27) rfl w2.heap.size nil4 nil4 nil4 nil4 (.slice pc M.chart.length cc) (.slice pf M.flows.length cf) (.slice pe M.ents.length ce) (.slice pl M.lines.length cl) zeroM M 30 rfl rfl (start1 w2) ⟨rfl,rfl,rfl,rfl⟩ (by kernel_rfl) ?_;intro w3 hb3 hg3;have HX3:=Lib.hid hb3;have HG3:=Lib.hid hg3;clear hb3 hg3)
  | (refine wpList_store_mast rfl 36 (.tmp 6) (.tmp 28) rfl (w2.heap.size+1) nil4 nil4 nil4 nil4 (.slice pc' M.chart.length cc') (.slice pf' M.flows.length cf') (.slice pe' M.ents.length ce') (.slice pl' M.lines.length cl') zeroM M 36 rfl rfl (start_keep HG3.out) ⟨rfl,rfl,rfl,rfl⟩ (by kernel_rfl) ?_;intro w4 hb4 hg4;have HT4:=Lib.hid (two_of HM2.out HM2'.out HX3.out HG3.out hb4 hg4);clear hb4 hg4;have HB4:=Lib.hid (HB2.out.trans (HT4.out.bel.mono HB2.out.size));have HL4:=Lib.hid (HL2.out.keep HT4.out.bel))
  | fail)
 clear HM2 HM2' HB2 HL2 HX3 HG3
 by_cases hbig:3000 < s1.size
 ·refine (rlines_some s1 _ HS1.out).mono ?_
  rintro en w5 ⟨L0,p0,c0,n0,rfl,hb5⟩
  have HB5:=Lib.hid (HB4.out.trans (hb5.mono HB4.out.size))
  clear hb5
  cases is
  all_goals
   go_wp2
   go_ret
   exact ⟨rfl,HB5.out⟩
 refine (rlines_had s1 _ (by omega)).mono ?_
 intro en w5 hlh
 obtain ⟨v5,rfl,hh5,hb5⟩:=had_of hlh
 have HF5:=Lib.hid hb5
 have HTW:=HT4
 have HLW:=HL4
 have HLT4:=Lib.hid (show w2.heap.size < w4.heap.size from HT4.out.nine.lt)
 have HSZ4:=Lib.hid (show w.heap.size≤w4.heap.size from HB4.out.size)
 have HB5:=Lib.hid (HB4.out.trans (hb5.mono HB4.out.size))
 have HL5:=Lib.hid (HL4.out.keep hb5)
 have HT5:=Lib.hid (HT4.out.keep hb5)
 clear HB4 HL4 HT4
 clear hlh hb5
 obtain ⟨L,hL⟩:∃ L,asB (linV s1.data.toList)=L:=⟨_,rfl⟩
 have hWT:wordsT s1=L.map (·.2):=by unfold wordsT;rw [hL]
 rw [hL] at hh5
 obtain ⟨E0,hE0⟩:∃ E0,linE s1.data.toList=E0:=⟨_,rfl⟩
 rw [hE0]
 obtain ⟨p5,cap5,rfl⟩:=hh5.len
 have HH5:=Lib.hid hh5
 have HWT:=Lib.hid hWT
 have hNL:L.length≤3001:=by
  have h1:=text_size s1
  have h2:=szL_count (wordsT s1)
  rw [hWT] at h1 h2
  rw [List.length_map] at h2
  omega
 obtain ⟨N,hN⟩:∃ N,L.length=N:=⟨_,rfl⟩
 have HN:=Lib.hid hN
 rw [hN] at HH5 hNL ⊢
 clear hL hWT hh5 hN
 cases is with
 | false =>
   go_wp2
   go_ret
   exact ⟨rfl,HB5.out⟩
 | true =>
 by_cases hE:E0=0
 rotate_left
 ·have h1:(E0 != 0)=true:=by simpa using hE
  clear hE hE0
  go_wp2
  go_ret
  exact ⟨rfl,HB5.out⟩
 subst hE
 have ho:=mast_ok (HIS.out (by first | trivial | rfl)).1
 have HO:=Lib.hid ho
 clear ho
 have hs1:s1.size≤3000:=by omega
 have HTO:=Lib.hid (tab_ok M s1 (by omega))
 have HPP:=Lib.hid (fun W h hL=>pparse_ok (c:=(.slice pc M.chart.length cc)) (f:=(.slice pf M.flows.length cf)) (e:=(.slice pe M.ents.length ce)) (l:=(.slice pl M.lines.length cl)) s1 W h HO.out (by omega) hL)
 have hpw:=parse_ways M s1
 obtain ⟨P,hP⟩:∃ P,parseC M s1=P:=⟨_,rfl⟩
 simp only [hP] at HPP HTO hpw
 obtain ⟨T,E⟩:=P
 dsimp only at HTO hpw
 clear hP HIS HS1 hE0
 obtain ⟨n0,n1,n2,n3,n4,n5,n6,n7,n8⟩:=HT5.out.nine
 go_wp2_with fail
 clear n0 n1 n2 n3 n4 n5 n6 n7 n8
 refine (HPP.out _ HT5.out.mast HL5.out).mono ?_
 rintro en w6 ⟨v6,rfl,hv6,hb6⟩
 dsimp only at hv6 ⊢
 obtain ⟨p6,c6,rfl⟩:=tab_slice hv6
 obtain ⟨l6,hl6⟩:∃ l,T.length=l:=⟨_,rfl⟩
 rw [hl6] at hv6 ⊢
 have hc6:=hb6.alloc hb6.size (.cells #[.slice p6 l6 c6] 41)
 have hx6:=(Below.refl w6.heap.size w6).alloc (Nat.le_refl _) (.cells #[.slice p6 l6 c6] 41)
 have hk6:=tab_box w6 (.slice p6 l6 c6)
 have hv6':=tab_keep hv6 hx6
 obtain ⟨W6,hW6⟩:∃ W5,w6.alloc (.cells #[.slice p6 l6 c6] 41)=W5:=⟨_,rfl⟩
 rw [hW6] at hc6 hk6 hv6'
 have HV6:=Lib.hid hv6'
 have HK6:=Lib.hid hk6
 have HB6:=Lib.hid (HB5.out.trans (hc6.mono HB5.out.size))
 have HL6:=Lib.hid (HL5.out.keep hc6)
 have HT6:=Lib.hid (HT5.out.keep hc6)
 have HF6:=Lib.hid (HF5.out.trans (hc6.mono HF5.out.size))
 have HH6:=Lib.hid (HH5.out.below hc6)
 clear HB5 HL5 HT5 HH5 HF5
 clear hl6 hv6 hv6' hb6 hc6 hx6 hk6 HPP
 rcases hpw with ⟨T',hrun,_,hTE⟩ | ⟨_,hEn⟩
 rotate_left
 ·have h1:(E != 0)=true:=by simpa using hEn
  clear hEn
  go_wp2
  go_ret
  exact ⟨rfl,HB6.out⟩
 obtain ⟨rfl,rfl⟩:=Prod.mk.injEq .. ▸ hTE
 clear hTE
 have HINV:=Lib.hid (run_zero_of hrun)
 have HPO:=Lib.hid (fun (c f:ByteArray) W (v:Value) h hV=>pof_ok (cv:=(.slice pc M.chart.length cc)) (fv:=(.slice pf M.flows.length cf)) (e:=(.slice pe M.ents.length ce)) (l:=(.slice pl M.lines.length cl)) (v:=v) (M:=M) (L:=T) c f W h HO.out hV HTO.out.rd)
 obtain ⟨nf,hnf⟩:∃ nf,M.flows.length=nf:=⟨_,rfl⟩
 have HNF:=Lib.hid hnf
 have hnf60:nf≤60:=by rw [←hnf];exact HO.out.few
 clear hrun hnf
 go_wp2
 clear hW6
 go_loopw [56] (fun s56 wr=>∃ j:Nat,s56=.int .i64 (j:Int)∧j≤N∧Hid (Below W6.heap.size W6 wr)) (fun s56 _=>N - (intOf s56).toNat)
 case atStart=>exact ⟨0,rfl,Nat.zero_le _,Lib.hid (Below.refl _ _)⟩
 case round =>
  obtain ⟨j,rfl,hj,HBR⟩:=hrel
  have HB7:=Lib.hid (HB6.out.trans (HBR.out.mono HB6.out.size))
  have HL7:=Lib.hid (HL6.out.keep HBR.out)
  have HT7:=Lib.hid (HT6.out.keep HBR.out)
  have HV7:=Lib.hid (tab_keep HV6.out HBR.out)
  have HK7:=Lib.hid ((HBR.out.cell (World.block_lt_of_cell? _ _ HK6.out)).trans HK6.out)
  have HH7:=Lib.hid (HH6.out.below HBR.out)
  by_cases hjN:j < N
  rotate_left
  ·obtain rfl:j=N:=by omega
   go_wp2
   go_ret
   exact ⟨rfl,HB7.out⟩
  have hjd:decide ((j:Int) < (N:Int))=true:=decide_eq_true (by omega)
  obtain ⟨⟨num,ws⟩,hx⟩:∃ x,L[j]?=some x:=⟨_,List.getElem?_eq_getElem (by rw [HN.out];exact hjN)⟩
  obtain ⟨g,cap,u,e4,hcap,hcm,c0,c1,hu⟩:=HH7.out.at hx
  rw [HN.out] at e4 hcap
  cases e4
  dsimp only at c0 c1 hu
  have hmw:ws∈wordsT s1:=by rw [HWT.out];exact List.mem_map.2 ⟨_,List.mem_of_getElem? hx,rfl⟩
  have HMW:=Lib.hid hmw
  have hok:=HINV.out.good ws hmw
  obtain ⟨hl3,hl4,hwz⟩:=line_few hok
  obtain ⟨gu,cu,rfl,hcu0,hcu⟩:∃ gu cu,u=.slice (some ⟨gu,0,none⟩) ws.length cu∧ws.length≤cu∧cu≤maxLen:=by
   rcases hu.2 with ⟨_,e0⟩ | ⟨gu,cu,cur,e,_,_,h3,h4,_⟩
   ·omega
   ·exact ⟨gu,cu,e,h3,h4⟩
  have hcell:∀ (i:Nat),i < ws.length→wr.cell? ⟨gu,i,none⟩=some (.string (wd ws i)):=fun i hi=>by
   have:=hu.cells (g:=gu) rfl i (.string (wd ws i)) (by
    rw [List.getElem?_map,List.getElem?_eq_getElem hi]
    unfold wd
    rw [List.getD_eq_getElem?_getD,List.getElem?_eq_getElem hi]
    rfl)
   rwa [add_off,Nat.zero_add] at this
  have HWa7:=Lib.hid (hcell 0 (by omega))
  have HWb7:=Lib.hid (hcell 1 (by omega))
  have HWc7:=Lib.hid (hcell (ws.length - 2) (by omega))
  have hd7:=hcell (ws.length - 1) (by omega)
  have HAS:=Lib.hid (fun (x:Fl.Flow) (hx:x∈M.flows)=>asks_of HO.out HINV.out hmw hx)
  have hwl:(wd ws (ws.length - 1)).size≤1000000:=by
   have:wd ws (ws.length - 1)∈ws:=by
    unfold wd
    rw [List.getD_eq_getElem?_getD,List.getElem?_eq_getElem (show ws.length - 1 < ws.length by omega)]
    exact List.getElem_mem _
   have:=hwz _ this
   omega
  have hqp:=fun W=>Ra.qparse_any (wd ws (ws.length - 1)) W hwl
  have hrt:prsE (wd ws (ws.length - 1)).data.toList=0:=hok.rate
  obtain ⟨rn,hrn⟩:∃ rn,prsN (rateW ws)=rn:=⟨_,rfl⟩
  obtain ⟨rd,hrd⟩:∃ rd,prsD (rateW ws)=rd:=⟨_,rfl⟩
  simp only [hrt,show prsN (wd ws (ws.length - 1)).data.toList=rn from hrn,show prsD (wd ws (ws.length - 1)).data.toList=rd from hrd] at hqp
  simp only [hrn,hrd] at HAS
  have HQP:=Lib.hid hqp
  obtain ⟨wa,hwa⟩:∃ wa,wd ws 0=wa:=⟨_,rfl⟩
  obtain ⟨wb,hwb⟩:∃ wb,wd ws 1=wb:=⟨_,rfl⟩
  obtain ⟨wc,hwc⟩:∃ wc,wd ws (ws.length - 2)=wc:=⟨_,rfl⟩
  obtain ⟨we,hwe⟩:∃ we,wd ws (ws.length - 1)=we:=⟨_,rfl⟩
  simp only [hwa] at HWa7 HAS
  simp only [hwb] at HWb7 HAS
  simp only [hwc] at HWc7 HAS
  rw [hwe] at hd7 HQP
  obtain ⟨nw,hnw⟩:∃ nw,ws.length=nw:=⟨_,rfl⟩
  rw [hnw] at c1 hl3 hl4 hcu0 HWc7 hd7
  have hb8:=(Below.refl wr.heap.size wr).alloc (Nat.le_refl _) (.cells #[.int .i64 num,.slice (some ⟨gu,0,none⟩) nw cu] 68)
  have hl8:=line_new2 wr num (.slice (some ⟨gu,0,none⟩) nw cu) 68
  obtain ⟨W8,hW8⟩:∃ W8,wr.alloc (.cells #[.int .i64 num,.slice (some ⟨gu,0,none⟩) nw cu] 68)=W8:=⟨_,rfl⟩
  rw [hW8] at hb8 hl8
  have hd8:=(hb8.cell (World.block_lt_of_cell? _ _ hd7)).trans hd7
  have hwn:IntKind.i64.wrap ((nw:Int) - 1)=((nw - 1:Nat):Int):=by rw [IntKind.wrap_i64];omega
  unfold maxLen at hcm hcu
  have HB8:=Lib.hid (HB7.out.trans (hb8.mono HB7.out.size))
  have HL8:=Lib.hid (HL7.out.keep hb8)
  have HT8:=Lib.hid (HT7.out.keep hb8)
  have HV8:=Lib.hid (tab_keep HV7.out hb8)
  have HK8:=Lib.hid ((hb8.cell (World.block_lt_of_cell? _ _ HK7.out)).trans HK7.out)
  have HWa8:=Lib.hid ((hb8.cell (World.block_lt_of_cell? _ _ HWa7.out)).trans HWa7.out)
  have HWb8:=Lib.hid ((hb8.cell (World.block_lt_of_cell? _ _ HWb7.out)).trans HWb7.out)
  have HWc8:=Lib.hid ((hb8.cell (World.block_lt_of_cell? _ _ HWc7.out)).trans HWc7.out)
  have HR8:=Lib.hid (HBR.out.trans (hb8.mono HBR.out.size))
  clear hx hu hmw hok hwz hcell hwl hqp hrt hrn hrd hwa hwb hwc hwe hnw hb8 hd7
  go_wp2_with fail
  clear c0 c1 hl8 hd8 hW8 hjd
  refine (HQP.out _).mono ?_
  rintro en w9 ⟨rfl,hb9⟩
  have hc9:=hb9.alloc hb9.size (.cells #[.int .i64 rn,.int .i64 rd] 56)
  have hr9:=Ra.RateAt.mk w9 rn rd 56
  obtain ⟨W9,hW9⟩:∃ W5,w9.alloc (.cells #[.int .i64 rn,.int .i64 rd] 56)=W5:=⟨_,rfl⟩
  rw [hW9] at hc9 hr9
  have HX9:=Lib.hid hr9
  have HB9:=Lib.hid (HB8.out.trans (hc9.mono HB8.out.size))
  have HL9:=Lib.hid (HL8.out.keep hc9)
  have HT9:=Lib.hid (HT8.out.keep hc9)
  have HV9:=Lib.hid (tab_keep HV8.out hc9)
  have HK9:=Lib.hid ((hc9.cell (World.block_lt_of_cell? _ _ HK8.out)).trans HK8.out)
  have HWa9:=Lib.hid ((hc9.cell (World.block_lt_of_cell? _ _ HWa8.out)).trans HWa8.out)
  have HWb9:=Lib.hid ((hc9.cell (World.block_lt_of_cell? _ _ HWb8.out)).trans HWb8.out)
  have HWc9:=Lib.hid ((hc9.cell (World.block_lt_of_cell? _ _ HWc8.out)).trans HWc8.out)
  have HR9:=Lib.hid (HR8.out.trans (hc9.mono HR8.out.size))
  clear HB8 HL8 HT8 HV8 HK8 HWa8 HWb8 HWc8 HR8
  clear hb9 hc9 hr9 HQP
  obtain ⟨n0,n1,n2,n3,n4,n5,n6,n7,n8⟩:=HT9.out.nine
  rw [HNF.out] at n1
  go_wp2
  clear n0 n1 n2 n3 n4 n5 n6 n7 n8 hW9
  go_loopw [77] (fun s77 wr2=>∃ i:Nat,s77=.int .i64 (i:Int)∧i≤nf∧Hid (Below W9.heap.size W9 wr2)) (fun s77 _=>nf - (intOf s77).toNat)
  case atStart=>exact ⟨0,rfl,Nat.zero_le _,Lib.hid (Below.refl _ _)⟩
  case round =>
   obtain ⟨i,rfl,hi,HBI⟩:=hrel
   rename World=>wi
   have HB10:=Lib.hid (HB9.out.trans (HBI.out.mono HB9.out.size))
   have HL10:=Lib.hid (HL9.out.keep HBI.out)
   have HT10:=Lib.hid (HT9.out.keep HBI.out)
   have HV10:=Lib.hid (tab_keep HV9.out HBI.out)
   have HK10:=Lib.hid ((HBI.out.cell (World.block_lt_of_cell? _ _ HK9.out)).trans HK9.out)
   have HWa10:=Lib.hid ((HBI.out.cell (World.block_lt_of_cell? _ _ HWa9.out)).trans HWa9.out)
   have HWb10:=Lib.hid ((HBI.out.cell (World.block_lt_of_cell? _ _ HWb9.out)).trans HWb9.out)
   have HWc10:=Lib.hid ((HBI.out.cell (World.block_lt_of_cell? _ _ HWc9.out)).trans HWc9.out)
   have HX10:=Lib.hid (HX9.out.keep HBI.out (Nat.le_refl _))
   by_cases hin:i < nf
   rotate_left
   ·obtain rfl:i=nf:=by omega
    have HRR:=Lib.hid (HR9.out.trans (HBI.out.mono HR9.out.size))
    go_wp2
    go_roundw
    case rel=>exact ⟨j+1,by go_num,by omega,HRR⟩
    case measure=>simp [intOf];omega
   obtain ⟨x,hx⟩:∃ x,M.flows[i]?=some x:=⟨_,List.getElem?_eq_getElem (by rw [HNF.out];exact hin)⟩
   have hxm:=List.mem_of_getElem? hx
   obtain ⟨b,o,e',hat⟩:=Fa.ElsV.at_ HT10.out.mast.flows hx
   cases e'
   obtain ⟨d0,d1⟩:=Fl.two hat
   have hb11:=(Below.refl wi.heap.size wi).alloc (Nat.le_refl _) (.cells #[.string x.code,.int .i64 x.kind] 70)
   obtain ⟨hf0,hf1⟩:=fl_new wi x
   obtain ⟨W11,hW11⟩:∃ W11,wi.alloc (.cells #[.string x.code,.int .i64 x.kind] 70)=W11:=⟨_,rfl⟩
   rw [hW11] at hb11 hf0 hf1
   have HFa11:=Lib.hid hf0
   have HFb11:=Lib.hid hf1
   have HB11:=Lib.hid (HB10.out.trans (hb11.mono HB10.out.size))
   have HL11:=Lib.hid (HL10.out.keep hb11)
   have HT11:=Lib.hid (HT10.out.keep hb11)
   have HV11:=Lib.hid (tab_keep HV10.out hb11)
   have HK11:=Lib.hid ((hb11.cell (World.block_lt_of_cell? _ _ HK10.out)).trans HK10.out)
   have HWa11:=Lib.hid ((hb11.cell (World.block_lt_of_cell? _ _ HWa10.out)).trans HWa10.out)
   have HWb11:=Lib.hid ((hb11.cell (World.block_lt_of_cell? _ _ HWb10.out)).trans HWb10.out)
   have HWc11:=Lib.hid ((hb11.cell (World.block_lt_of_cell? _ _ HWc10.out)).trans HWc10.out)
   have HX11:=Lib.hid (HX10.out.keep hb11 (Nat.le_refl _))
   have HR11:=Lib.hid (HBI.out.trans (hb11.mono HBI.out.size))
   have HA:=Lib.hid (HAS.out x hxm)
   have HOF:=Lib.hid (fun W h hV=>HPO.out wc x.code W (.slice p6 l6 c6) h hV)
   obtain ⟨xc,xk⟩:=x
   dsimp only at HA HOF HFa11 HFb11 hf0 hf1 hW11 d0 d1
   obtain ⟨⟨⟨N2,D2⟩,G2⟩,hO2⟩:∃ O,ofC M T wc xc=O:=⟨_,rfl⟩
   simp only [hO2] at HA HOF
   obtain ⟨A,hA⟩:∃ A,asksB wa wb ⟨xc,xk⟩=A:=⟨_,rfl⟩
   rw [hA] at HA
   have HAV:Hid (((wa.toList==[102,108,111,119] && xc.toList==wb.toList) || (wa.toList==[112,114,105,111,114] && xk==0) || (wa.toList==[99,108,111,115,101] && xk==4))=A):=Lib.hid hA
   clear hx hxm hat hb11 hO2 hA
   go_upto_region 20 with (fail)
   clear d0 d1 hW11
   go_cut [19] (fun s19 wx=>s19=.bool A∧Hid (Below W11.heap.size W11 wx))
   case first =>
    have ka:=HWa11.out
    have kb:=HWb11.out
    have ra:=fun p:Past W11=>cell_past ka p
    have rb:=fun p:Past W11=>cell_past kb p
    have rc:=fun p:Past W11=>cell_past hf0 p
    have rd':=fun p:Past W11=>cell_past hf1 p
    clear ka kb hf0 hf1
    cases q1:(wa.toList==[102,108,111,119]) with
    | true =>
      have q3:(wa.toList==[112,114,105,111,114])=false:=by rw [eq_of_beq q1];rfl
      have q5:(wa.toList==[99,108,111,115,101])=false:=by rw [eq_of_beq q1];rfl
      cases q2:(xc.toList==wb.toList) with
      | true =>
        obtain rfl:A=true:=by rw [←HAV.out,q1,q2];rfl
        refine wp_region_plan (.last [0,1,2,3,4,5,6,7,8,9,10,11,12,13,14,15,16,17,18,19,20,21,22,23,24,25,26,27,28,29,30,31,32,33,34]) (by kernel_rfl) (by kernel_rfl) (fun d _ _ _ _ h=>by cases d <;> exact h) ?_
        obtain ⟨wz,hwz⟩:∃ wz,W11.drew=wz:=⟨_,rfl⟩
        rw [hwz]
        have HDZ:=Lib.hid (show Below W11.heap.size W11 wz by rw [←hwz];exact ⟨rfl,rfl,rfl,Nat.le_refl _,fun _ _=>rfl⟩)
        clear hwz
        simp only [wpPlan,pick,nth]
        repeat (go_big_quiet_step (fail))
        refine wpQuiet_nil ?_
        go_wp2_with fail
        go_meet
        case rel=>exact ⟨rfl,HDZ⟩
      | false =>
        obtain rfl:A=false:=by rw [←HAV.out,q1,q2,q3,q5];rfl
        refine wp_region_plan (.last [0,1,2,3,4,5,6,7,8,9,10,11,12,13,14,15,16,17,18,19,20,21,22,23,24,25,26,27,28,29,30,31,32,33,34]) (by kernel_rfl) (by kernel_rfl) (fun d _ _ _ _ h=>by cases d <;> exact h) ?_
        obtain ⟨wz,hwz⟩:∃ wz,W11.drew=wz:=⟨_,rfl⟩
        rw [hwz]
        have HDZ:=Lib.hid (show Below W11.heap.size W11 wz by rw [←hwz];exact ⟨rfl,rfl,rfl,Nat.le_refl _,fun _ _=>rfl⟩)
        clear hwz
        simp only [wpPlan,pick,nth]
        repeat (go_big_quiet_step (fail))
        refine wpQuiet_nil ?_
        go_wp2_with fail
        go_meet
        case rel=>exact ⟨rfl,HDZ⟩
    | false =>
      cases q3:(wa.toList==[112,114,105,111,114]) with
      | true =>
        have q5:(wa.toList==[99,108,111,115,101])=false:=by rw [eq_of_beq q3];rfl
        by_cases h0:xk=0
        ·obtain rfl:A=true:=by rw [←HAV.out,q1,q3,h0];rfl
         subst h0
         refine wp_region_plan (.last [0,1,2,3,4,5,6,7,8,9,10,11,12,13,14,15,16,17,18,19,20,21,22,23,24,25,26,27,28,29,30,31,32,33,34]) (by kernel_rfl) (by kernel_rfl) (fun d _ _ _ _ h=>by cases d <;> exact h) ?_
         obtain ⟨wz,hwz⟩:∃ wz,W11.drew=wz:=⟨_,rfl⟩
         rw [hwz]
         have HDZ:=Lib.hid (show Below W11.heap.size W11 wz by rw [←hwz];exact ⟨rfl,rfl,rfl,Nat.le_refl _,fun _ _=>rfl⟩)
         clear hwz
         simp only [wpPlan,pick,nth]
         repeat (go_big_quiet_step (fail))
         refine wpQuiet_nil ?_
         go_wp2_with fail
         go_meet
         case rel=>exact ⟨rfl,HDZ⟩
        ·have q4:(xk==0)=false:=by simpa using h0
         clear h0
         obtain rfl:A=false:=by rw [←HAV.out,q1,q3,q4,q5];rfl
         refine wp_region_plan (.last [0,1,2,3,4,5,6,7,8,9,10,11,12,13,14,15,16,17,18,19,20,21,22,23,24,25,26,27,28,29,30,31,32,33,34]) (by kernel_rfl) (by kernel_rfl) (fun d _ _ _ _ h=>by cases d <;> exact h) ?_
         obtain ⟨wz,hwz⟩:∃ wz,W11.drew=wz:=⟨_,rfl⟩
         rw [hwz]
         have HDZ:=Lib.hid (show Below W11.heap.size W11 wz by rw [←hwz];exact ⟨rfl,rfl,rfl,Nat.le_refl _,fun _ _=>rfl⟩)
         clear hwz
         simp only [wpPlan,pick,nth]
         repeat (go_big_quiet_step (fail))
         refine wpQuiet_nil ?_
         go_wp2_with fail
         go_meet
         case rel=>exact ⟨rfl,HDZ⟩
      | false =>
        cases q5:(wa.toList==[99,108,111,115,101]) with
        | true =>
          by_cases h4:xk=4
          ·obtain rfl:A=true:=by rw [←HAV.out,q1,q3,q5,h4];rfl
           subst h4
           refine wp_region_plan (.last [0,1,2,3,4,5,6,7,8,9,10,11,12,13,14,15,16,17,18,19,20,21,22,23,24,25,26,27,28,29,30,31,32,33,34]) (by kernel_rfl) (by kernel_rfl) (fun d _ _ _ _ h=>by cases d <;> exact h) ?_
           obtain ⟨wz,hwz⟩:∃ wz,W11.drew=wz:=⟨_,rfl⟩
           rw [hwz]
           have HDZ:=Lib.hid (show Below W11.heap.size W11 wz by rw [←hwz];exact ⟨rfl,rfl,rfl,Nat.le_refl _,fun _ _=>rfl⟩)
           clear hwz
           simp only [wpPlan,pick,nth]
           repeat (go_big_quiet_step (fail))
           refine wpQuiet_nil ?_
           go_wp2_with fail
           go_meet
           case rel=>exact ⟨rfl,HDZ⟩
          ·have q6:(xk==4)=false:=by simpa using h4
           clear h4
           obtain rfl:A=false:=by rw [←HAV.out,q1,q3,q5,q6];rfl
           refine wp_region_plan (.last [0,1,2,3,4,5,6,7,8,9,10,11,12,13,14,15,16,17,18,19,20,21,22,23,24,25,26,27,28,29,30,31,32,33,34]) (by kernel_rfl) (by kernel_rfl) (fun d _ _ _ _ h=>by cases d <;> exact h) ?_
           obtain ⟨wz,hwz⟩:∃ wz,W11.drew=wz:=⟨_,rfl⟩
           rw [hwz]
           have HDZ:=Lib.hid (show Below W11.heap.size W11 wz by rw [←hwz];exact ⟨rfl,rfl,rfl,Nat.le_refl _,fun _ _=>rfl⟩)
           clear hwz
           simp only [wpPlan,pick,nth]
           repeat (go_big_quiet_step (fail))
           refine wpQuiet_nil ?_
           go_wp2_with fail
           go_meet
           case rel=>exact ⟨rfl,HDZ⟩
        | false =>
          obtain rfl:A=false:=by rw [←HAV.out,q1,q3,q5];rfl
          refine wp_region_plan (.last [0,1,2,3,4,5,6,7,8,9,10,11,12,13,14,15,16,17,18,19,20,21,22,23,24,25,26,27,28,29,30,31,32,33,34]) (by kernel_rfl) (by kernel_rfl) (fun d _ _ _ _ h=>by cases d <;> exact h) ?_
          obtain ⟨wz,hwz⟩:∃ wz,W11.drew=wz:=⟨_,rfl⟩
          rw [hwz]
          have HDZ:=Lib.hid (show Below W11.heap.size W11 wz by rw [←hwz];exact ⟨rfl,rfl,rfl,Nat.le_refl _,fun _ _=>rfl⟩)
          clear hwz
          simp only [wpPlan,pick,nth]
          repeat (go_big_quiet_step (fail))
          refine wpQuiet_nil ?_
          go_wp2_with fail
          go_meet
          case rel=>exact ⟨rfl,HDZ⟩
   case rest =>
    obtain ⟨rfl,HBX⟩:=hcut
    rename World=>wx
    clear hf0 hf1 HAV
    have HB12:=Lib.hid (HB11.out.trans (HBX.out.mono HB11.out.size))
    have HL12:=Lib.hid (HL11.out.keep HBX.out)
    have HT12:=Lib.hid (HT11.out.keep HBX.out)
    have HV12:=Lib.hid (tab_keep HV11.out HBX.out)
    have HK12:=Lib.hid ((HBX.out.cell (World.block_lt_of_cell? _ _ HK11.out)).trans HK11.out)
    have HWa12:=Lib.hid ((HBX.out.cell (World.block_lt_of_cell? _ _ HWa11.out)).trans HWa11.out)
    have HWb12:=Lib.hid ((HBX.out.cell (World.block_lt_of_cell? _ _ HWb11.out)).trans HWb11.out)
    have HWc12:=Lib.hid ((HBX.out.cell (World.block_lt_of_cell? _ _ HWc11.out)).trans HWc11.out)
    have HX12:=Lib.hid (HX11.out.keep HBX.out (Nat.le_refl _))
    have HFa12:=Lib.hid ((HBX.out.cell (World.block_lt_of_cell? _ _ HFa11.out)).trans HFa11.out)
    have HFb12:=Lib.hid ((HBX.out.cell (World.block_lt_of_cell? _ _ HFb11.out)).trans HFb11.out)
    have HR12:=Lib.hid (HR11.out.trans (HBX.out.mono HR11.out.size))
    clear HB11 HL11 HT11 HV11 HK11 HWa11 HWb11 HWc11 HX11 HFa11 HFb11 HR11
    have hwn2:IntKind.i64.wrap ((nw:Int) - 2)=((nw - 2:Nat):Int):=by rw [IntKind.wrap_i64];omega
    cases A with
    | false =>
      clear HA
      obtain ⟨n0,n1,n2,n3,n4,n5,n6,n7,n8⟩:=HT12.out.nine
      have r0:=fun p:Past wx=>cell_past n0 p
      have r1:=fun p:Past wx=>cell_past n1 p
      have r2:=fun p:Past wx=>cell_past n2 p
      have r3:=fun p:Past wx=>cell_past n3 p
      have r4:=fun p:Past wx=>cell_past n4 p
      have r5:=fun p:Past wx=>cell_past n5 p
      have r6:=fun p:Past wx=>cell_past n6 p
      have r7:=fun p:Past wx=>cell_past n7 p
      have r8:=fun p:Past wx=>cell_past n8 p
      have k0:=HK12.out
      have kc:=HWc12.out
      have kf:=HFa12.out
      have u0:=fun p:Past wx=>cell_past k0 p
      have u1:=fun p:Past wx=>cell_past kc p
      have u2:=fun p:Past wx=>cell_past kf p
      clear n0 n1 n2 n3 n4 n5 n6 n7 n8 k0 kc kf
      go_wp2_with fail
      refine wp_region_plan (.two [0,1,2,3,4,5,6,7,8,9] 10 (.one [11,12,13] 14 (.one [] 15 (.last [16]))) 14 (.one [] 10 (.one [11,12,13] 15 (.last [16])))) (by kernel_rfl) (by kernel_rfl) (fun d _ _ _ _ h=>by cases d <;> exact h) ?_
      obtain ⟨wz,hwz⟩:∃ wz,wx.drew=wz:=⟨_,rfl⟩
      rw [hwz]
      have HD0:=Lib.hid (show Below wx.heap.size wx wz by rw [←hwz];exact ⟨rfl,rfl,rfl,Nat.le_refl _,fun _ _=>rfl⟩)
      clear hwz
      simp only [wpPlan,pick,nth]
      repeat (go_big_quiet_step (fail))
      refine wpQuiet_nil ?_
      refine ⟨?_,?_⟩
      ·intro K hK
       refine alone_want (by kernel_rfl) ?_
       go_big_op
       refine (HOF.out wz (HT12.out.mast.keep HD0.out) (tab_keep HV12.out HD0.out)).mono ?_
       rintro en x1 ⟨rfl,hb1⟩
       have HD1:=Lib.hid (HD0.out.trans (hb1.mono HD0.out.size))
       refine hK _ _ (past_in HD1.out) ?_
       clear hK K hb1
       repeat (go_big_quiet_step (fail))
       refine wpQuiet_nil ?_
       intro K hK
       refine alone_want (by kernel_rfl) ?_
       have hb2:=(Below.refl x1.heap.size x1).alloc (Nat.le_refl _) (.cells #[.int .i64 0,.int .i64 0] 53)
       have hq2:=BoxE.new encRt x1 ((0:Int),(0:Int)) 53
       obtain ⟨x2,hy2⟩:∃ y,x1.alloc (.cells #[.int .i64 0,.int .i64 0] 53)=y:=⟨_,rfl⟩
       replace hq2:BoxE encRt x2 x1.heap.size 53 ((0:Int),(0:Int)):=by rw [←hy2];exact hq2
       rw [hy2] at hb2
       go_big_op
       have HE2:=Lib.hid (show wx.heap.size≤x1.heap.size from HD1.out.size)
       have HD2:=Lib.hid (HD1.out.trans (hb2.mono HD1.out.size))
       have HJ2:=Lib.hid hq2
       refine hK _ x2 (past_in HD2.out) ?_
       clear hK K hb2 hq2 hy2
       refine wpQuiet_nil ?_
       intro K hK
       refine alone_want (by kernel_rfl) ?_
       refine Fa.wp_store_whole (E:=encRt) 53 (.tmp 20) (.tmp 127) rfl x1.heap.size 53 ((0:Int),(0:Int)) (N2,D2) rfl rfl HJ2.out (by kernel_rfl) ?_
       intro x3 hx3 hg3
       have HJ3:=Lib.hid hx3
       have HD3:=Lib.hid (HD2.out.grown hg3 HD2.out.size (fun j hj=>by cases hj;exact HE2.out))
       refine hK _ _ (past_in HD3.out) ?_
       clear hK K hx3 hg3
       simp only [Act.put]
       repeat (go_big_quiet_step (fail))
       refine wpQuiet_nil ?_
       have HRF:=Lib.hid (HR12.out.trans (HD3.out.mono HR12.out.size))
       go_wp2
       go_roundw
       case rel=>exact ⟨i+1,by go_num,by omega,HRF⟩
       case measure=>simp [intOf];omega
      ·intro K hK
       refine alone_want (by kernel_rfl) ?_
       have hb1:=(Below.refl wz.heap.size wz).alloc (Nat.le_refl _) (.cells #[.int .i64 0,.int .i64 0] 53)
       have hq1:=BoxE.new encRt wz ((0:Int),(0:Int)) 53
       obtain ⟨x1,hy1⟩:∃ y,wz.alloc (.cells #[.int .i64 0,.int .i64 0] 53)=y:=⟨_,rfl⟩
       replace hq1:BoxE encRt x1 wz.heap.size 53 ((0:Int),(0:Int)):=by rw [←hy1];exact hq1
       rw [hy1] at hb1
       go_big_op
       have HE1:=Lib.hid (show wx.heap.size≤wz.heap.size from HD0.out.size)
       have HD1:=Lib.hid (HD0.out.trans (hb1.mono HD0.out.size))
       have HJ1:=Lib.hid hq1
       refine hK _ x1 (past_in HD1.out) ?_
       clear hK K hb1 hq1 hy1
       refine wpQuiet_nil ?_
       intro K hK
       refine alone_want (by kernel_rfl) ?_
       go_big_op
       refine (HOF.out x1 (HT12.out.mast.keep HD1.out) (tab_keep HV12.out HD1.out)).mono ?_
       rintro en x2 ⟨rfl,hb2⟩
       have HD2:=Lib.hid (HD1.out.trans (hb2.mono HD1.out.size))
       have HJ2:=Lib.hid (HJ1.out.kept hb2)
       refine hK _ _ (past_in HD2.out) ?_
       clear hK K hb2
       repeat (go_big_quiet_step (fail))
       refine wpQuiet_nil ?_
       intro K hK
       refine alone_want (by kernel_rfl) ?_
       refine Fa.wp_store_whole (E:=encRt) 53 (.tmp 20) (.tmp 127) rfl wz.heap.size 53 ((0:Int),(0:Int)) (N2,D2) rfl rfl HJ2.out (by kernel_rfl) ?_
       intro x3 hx3 hg3
       have HJ3:=Lib.hid hx3
       have HD3:=Lib.hid (HD2.out.grown hg3 HD2.out.size (fun j hj=>by cases hj;exact HE1.out))
       refine hK _ _ (past_in HD3.out) ?_
       clear hK K hx3 hg3
       simp only [Act.put]
       repeat (go_big_quiet_step (fail))
       refine wpQuiet_nil ?_
       have HRF:=Lib.hid (HR12.out.trans (HD3.out.mono HR12.out.size))
       go_wp2
       go_roundw
       case rel=>exact ⟨i+1,by go_num,by omega,HRF⟩
       case measure=>simp [intOf];omega
    | true =>
      have ha:=HA.out rfl
      obtain ⟨⟨rfl,rfl⟩,rfl⟩:(N2=rn∧D2=rd)∧G2=0:=by simpa using ha
      clear ha HA
      obtain ⟨n0,n1,n2,n3,n4,n5,n6,n7,n8⟩:=HT12.out.nine
      have r0:=fun p:Past wx=>cell_past n0 p
      have r1:=fun p:Past wx=>cell_past n1 p
      have r2:=fun p:Past wx=>cell_past n2 p
      have r3:=fun p:Past wx=>cell_past n3 p
      have r4:=fun p:Past wx=>cell_past n4 p
      have r5:=fun p:Past wx=>cell_past n5 p
      have r6:=fun p:Past wx=>cell_past n6 p
      have r7:=fun p:Past wx=>cell_past n7 p
      have r8:=fun p:Past wx=>cell_past n8 p
      have k0:=HK12.out
      have kc:=HWc12.out
      have kf:=HFa12.out
      have u0:=fun p:Past wx=>cell_past k0 p
      have u1:=fun p:Past wx=>cell_past kc p
      have u2:=fun p:Past wx=>cell_past kf p
      clear n0 n1 n2 n3 n4 n5 n6 n7 n8 k0 kc kf
      go_wp2_with fail
      refine wp_region_plan (.two [0,1,2,3,4,5,6,7,8,9] 10 (.one [11,12,13] 14 (.one [] 15 (.last [16]))) 14 (.one [] 10 (.one [11,12,13] 15 (.last [16])))) (by kernel_rfl) (by kernel_rfl) (fun d _ _ _ _ h=>by cases d <;> exact h) ?_
      obtain ⟨wz,hwz⟩:∃ wz,wx.drew=wz:=⟨_,rfl⟩
      rw [hwz]
      have HD0:=Lib.hid (show Below wx.heap.size wx wz by rw [←hwz];exact ⟨rfl,rfl,rfl,Nat.le_refl _,fun _ _=>rfl⟩)
      clear hwz
      simp only [wpPlan,pick,nth]
      repeat (go_big_quiet_step (fail))
      refine wpQuiet_nil ?_
      refine ⟨?_,?_⟩
      ·intro K hK
       refine alone_want (by kernel_rfl) ?_
       go_big_op
       refine (HOF.out wz (HT12.out.mast.keep HD0.out) (tab_keep HV12.out HD0.out)).mono ?_
       rintro en x1 ⟨rfl,hb1⟩
       have HD1:=Lib.hid (HD0.out.trans (hb1.mono HD0.out.size))
       refine hK _ _ (past_in HD1.out) ?_
       clear hK K hb1
       repeat (go_big_quiet_step (fail))
       refine wpQuiet_nil ?_
       intro K hK
       refine alone_want (by kernel_rfl) ?_
       have hb2:=(Below.refl x1.heap.size x1).alloc (Nat.le_refl _) (.cells #[.int .i64 0,.int .i64 0] 53)
       have hq2:=BoxE.new encRt x1 ((0:Int),(0:Int)) 53
       obtain ⟨x2,hy2⟩:∃ y,x1.alloc (.cells #[.int .i64 0,.int .i64 0] 53)=y:=⟨_,rfl⟩
       replace hq2:BoxE encRt x2 x1.heap.size 53 ((0:Int),(0:Int)):=by rw [←hy2];exact hq2
       rw [hy2] at hb2
       go_big_op
       have HE2:=Lib.hid (show wx.heap.size≤x1.heap.size from HD1.out.size)
       have HD2:=Lib.hid (HD1.out.trans (hb2.mono HD1.out.size))
       have HJ2:=Lib.hid hq2
       refine hK _ x2 (past_in HD2.out) ?_
       clear hK K hb2 hq2 hy2
       refine wpQuiet_nil ?_
       intro K hK
       refine alone_want (by kernel_rfl) ?_
       refine Fa.wp_store_whole (E:=encRt) 53 (.tmp 20) (.tmp 127) rfl x1.heap.size 53 ((0:Int),(0:Int)) (N2,D2) rfl rfl HJ2.out (by kernel_rfl) ?_
       intro x3 hx3 hg3
       have HJ3:=Lib.hid hx3
       have HD3:=Lib.hid (HD2.out.grown hg3 HD2.out.size (fun j hj=>by cases hj;exact HE2.out))
       refine hK _ _ (past_in HD3.out) ?_
       clear hK K hx3 hg3
       simp only [Act.put]
       repeat (go_big_quiet_step (fail))
       refine wpQuiet_nil ?_
       have HRF:=Lib.hid (HR12.out.trans (HD3.out.mono HR12.out.size))
       obtain ⟨z0,z1⟩:=two_rt HJ3.out
       have HXF:=Lib.hid (HX12.out.keep HD3.out (Nat.le_refl _))
       obtain ⟨y0,y1⟩:=HXF.out
       go_wp2
       go_roundw
       case rel=>exact ⟨i+1,by go_num,by omega,HRF⟩
       case measure=>simp [intOf];omega
      ·intro K hK
       refine alone_want (by kernel_rfl) ?_
       have hb1:=(Below.refl wz.heap.size wz).alloc (Nat.le_refl _) (.cells #[.int .i64 0,.int .i64 0] 53)
       have hq1:=BoxE.new encRt wz ((0:Int),(0:Int)) 53
       obtain ⟨x1,hy1⟩:∃ y,wz.alloc (.cells #[.int .i64 0,.int .i64 0] 53)=y:=⟨_,rfl⟩
       replace hq1:BoxE encRt x1 wz.heap.size 53 ((0:Int),(0:Int)):=by rw [←hy1];exact hq1
       rw [hy1] at hb1
       go_big_op
       have HE1:=Lib.hid (show wx.heap.size≤wz.heap.size from HD0.out.size)
       have HD1:=Lib.hid (HD0.out.trans (hb1.mono HD0.out.size))
       have HJ1:=Lib.hid hq1
       refine hK _ x1 (past_in HD1.out) ?_
       clear hK K hb1 hq1 hy1
       refine wpQuiet_nil ?_
       intro K hK
       refine alone_want (by kernel_rfl) ?_
       go_big_op
       refine (HOF.out x1 (HT12.out.mast.keep HD1.out) (tab_keep HV12.out HD1.out)).mono ?_
       rintro en x2 ⟨rfl,hb2⟩
       have HD2:=Lib.hid (HD1.out.trans (hb2.mono HD1.out.size))
       have HJ2:=Lib.hid (HJ1.out.kept hb2)
       refine hK _ _ (past_in HD2.out) ?_
       clear hK K hb2
       repeat (go_big_quiet_step (fail))
       refine wpQuiet_nil ?_
       intro K hK
       refine alone_want (by kernel_rfl) ?_
       refine Fa.wp_store_whole (E:=encRt) 53 (.tmp 20) (.tmp 127) rfl wz.heap.size 53 ((0:Int),(0:Int)) (N2,D2) rfl rfl HJ2.out (by kernel_rfl) ?_
       intro x3 hx3 hg3
       have HJ3:=Lib.hid hx3
       have HD3:=Lib.hid (HD2.out.grown hg3 HD2.out.size (fun j hj=>by cases hj;exact HE1.out))
       refine hK _ _ (past_in HD3.out) ?_
       clear hK K hx3 hg3
       simp only [Act.put]
       repeat (go_big_quiet_step (fail))
       refine wpQuiet_nil ?_
       have HRF:=Lib.hid (HR12.out.trans (HD3.out.mono HR12.out.size))
       obtain ⟨z0,z1⟩:=two_rt HJ3.out
       have HXF:=Lib.hid (HX12.out.keep HD3.out (Nat.le_refl _))
       obtain ⟨y0,y1⟩:=HXF.out
       go_wp2
       go_roundw
       case rel=>exact ⟨i+1,by go_num,by omega,HRF⟩
       case measure=>simp [intOf];omega
end Go.Proofs.YthcpglnmhimepaaGreatDoor.Cs
end
