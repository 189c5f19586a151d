/- ControlTells -/
import Derived.Test.YtdhfpgjnjlcciaaGreatDoorQ48
namespace Go.Proofs.YtdhfpgjnjlcciaaGreatDoor.Co
open Go.RowKit Go.Maps Go.Proofs.YtdhfpgjnjlcciaaGreatDoor.Un Go.Proofs.YtdhfpgjnjlcciaaGreatDoor.Pk
open Go.Proofs.YtdhfpgjnjlcciaaGreatDoor.Fa (Key Fact encF key5 fact6 FactsV)
set_option maxRecDepth 100000 in
set_option maxHeartbeats 16000000 in
theorem zgY (s0:ByteArray) (vc:Value) (C:List Fact) (k:Key) (w:World) (_hs0:s0.size≤maxLen) (hv:FactsV w vc C) (hz:∀ f∈C,In64 f.key.m∧In64 f.amt) (_hk:In64 k.m) (hU:LaidP w):Calls Tryz.prog 3 #[.string s0,vc,Fa.aggK k] w fun en w'=>en=.returned (.bool true)∧Below w.heap.size w w':=by
 have hb0:=(Below.refl w.heap.size w).alloc (Nat.le_refl _) (.cells (kCells k) 24)
 have hf0:ElAt Fa.encK (w.alloc (.cells (kCells k) 24)) w.heap.size 0 k:=zf Fa.encK w k 24
 obtain ⟨W0,hW0⟩:∃ W0,w.alloc (.cells (kCells k) 24)=W0:=⟨_,rfl⟩
 rw [hW0] at hb0 hf0
 obtain ⟨p0,c0,rfl,_⟩:=id hv
 obtain ⟨nC,hnC⟩:∃ n,C.length=n:=⟨_,rfl⟩
 have HNC:=Lib.hid hnC
 rw [hnC] at hv
 rw [hnC]
 have HV0:=Lib.hid (hv.keep hb0)
 have HB0:=Lib.hid hb0
 have HF0:=Lib.hid hf0
 have HZ:=Lib.hid (fun f hf=>(hz f hf).2:∀ f∈C,In64 f.amt)
 have HL:=Lib.hid (hU.keep hb0)
 clear hU hb0 hf0 hv hz hnC _hs0 _hk
 go_enter Tryz.func3,Tryz.ntmps3
 go_wp2_with fail
 clear hW0
 refine (vV _ HL.out).mono ?_
 rintro en w1 ⟨rfl,hb1⟩
 have HB1:=Lib.hid hb1
 have HL1:=Lib.hid (HL.out.keep hb1)
 clear hb1
 go_wp2_with fail
 refine (vz s0 _ HL1.out.1 HL1.out.2.1).mono ?_
 rintro en w2 ⟨M,c,f,e,l,c',f',e',l',is,rfl,hm,hm',hb2,his⟩
 obtain ⟨pc,cc,pf,cf,pe,ce,pl,cl,rfl,rfl,rfl,rfl⟩:=shapes hm
 obtain ⟨pc',cc',pf',cf',pe',ce',pl',cl',rfl,rfl,rfl,rfl⟩:=shapes hm'
 have HM2:=Lib.hid hm
 have HM2':=Lib.hid hm'
 have HB2:=Lib.hid (HB1.out.trans (hb2.mono HB1.out.size))
 have HL2:=Lib.hid (HL1.out.keep hb2)
 have HIS:=Lib.hid his
 clear hm hm' hb2 his HB1 HL1
 cases is with
 | false =>
   go_wp2_with (first
    | (refine zi rfl 33 (.tmp 7) (.tmp 23) rfl w2.heap.size nil4 nil4 nil4 nil4 (.slice pc M.chart.length cc) (.slice pf M.flows.length cf) (.slice pe M.ents.length ce) (.slice pl M.lines.length cl) zeroM M 33 rfl rfl (start1 w2) ⟨rfl,rfl,rfl,rfl⟩ (by kernel_rfl) ?_;intro w3 hb3 hg3;have HX3:=Lib.hid hb3;have HG3:=Lib.hid hg3;clear hb3 hg3)
    | (refine zi rfl 39 (.tmp 8) (.tmp 24) rfl (w2.heap.size+1) nil4 nil4 nil4 nil4 (.slice pc' M.chart.length cc') (.slice pf' M.flows.length cf') (.slice pe' M.ents.length ce') (.slice pl' M.lines.length cl') zeroM M 39 rfl rfl (qu HG3.out) ⟨rfl,rfl,rfl,rfl⟩ (by kernel_rfl) ?_;intro w4 hb4 hg4;have HT4:=Lib.hid (qs HM2.out HM2'.out HX3.out HG3.out hb4 hg4);clear hb4 hg4)
    | fail)
   have HB4:=Lib.hid (HB2.out.trans (HT4.out.bel.mono HB2.out.size))
   go_ret
   exact ⟨rfl,HB0.out.trans (HB4.out.mono HB0.out.size)⟩
 | true =>
 go_wp2_with (first
  | (refine zi rfl 33 (.tmp 7) (.tmp 23) rfl w2.heap.size nil4 nil4 nil4 nil4 (.slice pc M.chart.length cc) (.slice pf M.flows.length cf) (.slice pe M.ents.length ce) (.slice pl M.lines.length cl) zeroM M 33 rfl rfl (start1 w2) ⟨rfl,rfl,rfl,rfl⟩ (by kernel_rfl) ?_;intro w3 hb3 hg3;have HX3:=Lib.hid hb3;have HG3:=Lib.hid hg3;clear hb3 hg3)
  | (refine zi rfl 39 (.tmp 8) (.tmp 24) rfl (w2.heap.size+1) nil4 nil4 nil4 nil4 (.slice pc' M.chart.length cc') (.slice pf' M.flows.length cf') (.slice pe' M.ents.length ce') (.slice pl' M.lines.length cl') zeroM M 39 rfl rfl (qu HG3.out) ⟨rfl,rfl,rfl,rfl⟩ (by kernel_rfl) ?_;intro w4 hb4 hg4;have HT4:=Lib.hid (qs HM2.out HM2'.out HX3.out HG3.out hb4 hg4);clear hb4 hg4)
  | fail)
 have HB4:=Lib.hid (HB2.out.trans (HT4.out.bel.mono HB2.out.size))
 have HL4:=Lib.hid (HL2.out.keep HT4.out.bel)
 clear HM2 HM2' HB2 HL2 HX3 HG3
 have HF4:=Lib.hid (HF0.out.keep HB4.out HF0.out.lt)
 have HV4:=Lib.hid (ElsV.keep HV0.out HB4.out)
 refine (Fa.Zj _ C _ HV4.out).mono ?_
 rintro en w5 ⟨rfl,hb5⟩
 have HB5:=Lib.hid (HB4.out.trans (hb5.mono HB4.out.size))
 have HT5:=Lib.hid (HT4.out.keep hb5)
 have HF5:=Lib.hid (HF4.out.keep hb5 HF4.out.lt)
 have HV5:=Lib.hid (ElsV.keep HV4.out hb5)
 clear hb5 HB4 HT4 HL4 HF4 HV4 HV0
 cases hfew:Fa.fewL C with
 | false =>
   go_wp2
   go_ret
   exact ⟨rfl,HB0.out.trans (HB5.out.mono HB0.out.size)⟩
 | true =>
 have HFEW:=Lib.hid hfew
 clear hfew
 obtain ⟨y0,y1,y2,y3,y4⟩:=key5 HF5.out
 simp only [Nat.zero_add] at y0 y1 y2 y3 y4
 have hb6:=(Below.refl w5.heap.size w5).alloc (Nat.le_refl _) (.cells (flat encF [(⟨k,0⟩:Fact)]).toArray 44)
 have HX6:=Lib.hid (jQ encF w5 [(⟨k,0⟩:Fact)] 44 (by simp [maxLen]))
 have HB6:=Lib.hid (HB5.out.trans (hb6.mono HB5.out.size))
 have HT6:=Lib.hid (HT5.out.keep hb6)
 have HF6:=Lib.hid (HF5.out.keep hb6 HF5.out.lt)
 have HV6:=Lib.hid (ElsV.keep HV5.out hb6)
 clear hb6
 go_wp2_with fail
 clear y0 y1 y2 y3 y4
 refine (Fa.Zj _ [(⟨k,0⟩:Fact)] _ HX6.out).mono ?_
 rintro en w7 ⟨rfl,hb7⟩
 have HB7:=Lib.hid (HB6.out.trans (hb7.mono HB6.out.size))
 have HT7:=Lib.hid (HT6.out.keep hb7)
 have HF7:=Lib.hid (HF6.out.keep hb7 HF6.out.lt)
 have HV7:=Lib.hid (ElsV.keep HV6.out hb7)
 clear hb7 HB5 HT5 HF5 HV5 HB6 HT6 HF6 HV6 HX6
 cases hfew:Fa.fewL [(⟨k,0⟩:Fact)] with
 | false =>
   go_wp2
   go_ret
   exact ⟨rfl,HB0.out.trans (HB7.out.mono HB0.out.size)⟩
 | true =>
 clear hfew
 have hlC:=Fa.zi0 HFEW.out
 go_wp2_with fail
 refine (Fa.zV _ C _ HV7.out (by omega)).mono ?_
 rintro en w8 ⟨rfl,hb8⟩
 have HB8:=Lib.hid (HB7.out.trans (hb8.mono HB7.out.size))
 have HT8:=Lib.hid (HT7.out.keep hb8)
 have HF8:=Lib.hid (HF7.out.keep hb8 HF7.out.lt)
 have HV8:=Lib.hid (ElsV.keep HV7.out hb8)
 clear hb8 HB7 HT7 HF7 HV7
 cases hrt:Fa.rightL C with
 | false =>
   go_wp2
   go_ret
   exact ⟨rfl,HB0.out.trans (HB8.out.mono HB0.out.size)⟩
 | true =>
 clear hrt
 have hR:=(HIS.out (by first | trivial | rfl)).1
 have hsn:=hR.inv.sane
 have hrc:=Fl.qm hsn.fl
 have hlf:M.flows.length≤1000:=by have:=hsn.lf;omega
 have hgiv:∀ (W:World) (v:Value),MastIn W (.slice pc M.chart.length cc) (.slice pf M.flows.length cf) (.slice pe M.ents.length ce) (.slice pl M.lines.length cl) M→FactsV W v C→Giv W (.slice pc M.chart.length cc) (.slice pf M.flows.length cf) (.slice pe M.ents.length ce) (.slice pl M.lines.length cl) v M C:=fun W v h1 h2=>⟨h1,hrc,hlf,h2,by omega,HZ.out⟩
 have HGIV:=Lib.hid hgiv
 have HLC:Hid (C.length≤1000):=Lib.hid (by omega)
 have HLN:Hid (nC≤150):=Lib.hid (by rw [←HNC.out];exact hlC)
 clear hR hsn hrc hlf hgiv hlC
 obtain ⟨gx,hgx⟩:∃ g,gapP M C (plc k)=g:=⟨_,rfl⟩
 obtain ⟨wx,hwx⟩:∃ g,weighP M C k.e k.m=g:=⟨_,rfl⟩
 have HGX:=Lib.hid hgx
 have HWX:=Lib.hid hwx
 clear hgx hwx
 have HGC:Hid (∀ W (v:Value),Giv W (.slice pc M.chart.length cc) (.slice pf M.flows.length cf) (.slice pe M.ents.length ce) (.slice pl M.lines.length cl) v M C→Calls Tryz.prog 13 #[aggM (.slice pc M.chart.length cc) (.slice pf M.flows.length cf) (.slice pe M.ents.length ce) (.slice pl M.lines.length cl) M,v,.string k.e,.string k.a,.string k.p] W fun en w'=>en=.returned (.tuple #[.int .i64 gx.1,.int .i64 gx.2])∧Below W.heap.size W w'):=Lib.hid fun W v h=>by
  have:=h.gap (plc k) rfl
  rw [HGX.out] at this
  exact this
 have HWC:Hid (∀ W (v:Value),Giv W (.slice pc M.chart.length cc) (.slice pf M.flows.length cf) (.slice pe M.ents.length ce) (.slice pl M.lines.length cl) v M C→Calls Tryz.prog 16 #[aggM (.slice pc M.chart.length cc) (.slice pf M.flows.length cf) (.slice pe M.ents.length ce) (.slice pl M.lines.length cl) M,v,.string k.e,.int .i64 k.m] W fun en w'=>en=.returned (.tuple #[.int .i64 wx.1,.int .i64 wx.2])∧Below W.heap.size W w'):=Lib.hid fun W v h=>by
  have:=h.weigh k.e k.m
  rw [HWX.out] at this
  exact this
 have HGD:Hid (∀ W,MastIn W (.slice pc' M.chart.length cc') (.slice pf' M.flows.length cf') (.slice pe' M.ents.length ce') (.slice pl' M.lines.length cl') M→FactsV W (.slice p0 nC c0) C→Calls Tryz.prog 15 #[aggM (.slice pc' M.chart.length cc') (.slice pf' M.flows.length cf') (.slice pe' M.ents.length ce') (.slice pl' M.lines.length cl') M,.slice p0 nC c0,.agg #[.string k.e,.string k.a,.string k.p]] W fun en w'=>en=.returned (.tuple #[.int .i64 gx.1,.int .i64 gx.2])∧Below W.heap.size W w'):=Lib.hid fun W h1 h2=>by
  have:=zbv _ _ _ _ _ M C (plc k) W h1 h2 HLC.out HZ.out rfl
  rw [HGX.out] at this
  exact this
 have HWD:Hid (∀ W,MastIn W (.slice pc' M.chart.length cc') (.slice pf' M.flows.length cf') (.slice pe' M.ents.length ce') (.slice pl' M.lines.length cl') M→FactsV W (.slice p0 nC c0) C→Calls Tryz.prog 17 #[aggM (.slice pc' M.chart.length cc') (.slice pf' M.flows.length cf') (.slice pe' M.ents.length ce') (.slice pl' M.lines.length cl') M,.slice p0 nC c0,.string k.e,.int .i64 k.m] W fun en w'=>en=.returned (.tuple #[.int .i64 wx.1,.int .i64 wx.2])∧Below W.heap.size W w'):=Lib.hid fun W h1 h2=>by
  have:=zdn _ _ _ _ _ M C k.e k.m W h1 h2 HLC.out HZ.out
  rw [HWX.out] at this
  exact this
 obtain ⟨n0,n1,n2,n3,n4,n5,n6,n7,n8⟩:=HT8.out.nine
 obtain ⟨y0,y1,y2,y3,y4⟩:=key5 HF8.out
 simp only [Nat.zero_add] at y0 y1 y2 y3 y4
 have s0:=fun q:Past w8=>za n0 q
 have s1:=fun q:Past w8=>za n1 q
 have s2:=fun q:Past w8=>za n2 q
 have s3:=fun q:Past w8=>za n3 q
 have s4:=fun q:Past w8=>za n4 q
 have s5:=fun q:Past w8=>za n5 q
 have s6:=fun q:Past w8=>za n6 q
 have s7:=fun q:Past w8=>za n7 q
 have s8:=fun q:Past w8=>za n8 q
 have t0:=fun q:Past w8=>za y0 q
 have t1:=fun q:Past w8=>za y1 q
 have t2:=fun q:Past w8=>za y2 q
 have t3:=fun q:Past w8=>za y3 q
 have t4:=fun q:Past w8=>za y4 q
 clear n0 n1 n2 n3 n4 n5 n6 n7 n8 y0 y1 y2 y3 y4
 go_wp2_with fail
 refine qX (.one [0,1,3,4,5,6,7,8] 2 (.one [] 9 (.last [10,11,12,13,14]))) (by kernel_rfl) (by kernel_rfl) (fun d _ _ _ _ h=>by cases d <;> exact h) ?_
 obtain ⟨wz,hwz⟩:∃ wz,w8.drew=wz:=⟨_,rfl⟩
 rw [hwz]
 have HDX:Hid (Below w8.heap.size w8 wz):=Lib.hid (by rw [←hwz];exact ⟨rfl,rfl,rfl,Nat.le_refl _,fun _ _=>rfl⟩)
 clear hwz
 simp only [wpPlan,pick,nth]
 repeat (go_big_quiet_step (fail))
 refine wpQuiet_nil ?_
 clear s0 s1 s2 s3 s4 s5 s6 s7 s8 t0 t1 t2 t3 t4
 intro K hK
 refine ze (by kernel_rfl) ?_
 go_big_op
 refine (Fa.vU _ C _ (ElsV.keep HV8.out HDX.out) (by have:=HLC.out;omega)).mono ?_
 rintro en wt ⟨ut,rfl,hot,hbt⟩
 have HBT:=Lib.hid (HDX.out.trans (hbt.mono HDX.out.size))
 have HVT:=Lib.hid (zq (E:=encF) hot)
 obtain ⟨pt,qt,rfl,_⟩:=id HVT.out
 have HGT:=Lib.hid (HGIV.out wt _ (HT8.out.keep HBT.out).mast HVT.out)
 refine hK _ _ (zy HBT.out) ?_
 clear hK K hbt hot
 refine wpQuiet_nil ?_
 intro K hK
 refine ze (by kernel_rfl) ?_
 go_big_op
 refine (HGC.out _ _ HGT.out).mono ?_
 rintro en w9 ⟨rfl,hbg⟩
 have HBG:=Lib.hid (HBT.out.trans (hbg.mono HBT.out.size))
 refine hK _ _ (zy HBG.out) ?_
 clear hK K hbg
 repeat (go_big_quiet_step (fail))
 refine wpQuiet_nil ?_
 have HB9:=Lib.hid (HB8.out.trans (HBG.out.mono HB8.out.size))
 have HT9:=Lib.hid (HT8.out.keep HBG.out)
 have HF9:=Lib.hid (HF8.out.keep HBG.out HF8.out.lt)
 have HV9:=Lib.hid (ElsV.keep HV8.out HBG.out)
 clear HDX HBT HVT HGT HBG HB8 HT8 HF8 HV8
 obtain ⟨n0,n1,n2,n3,n4,n5,n6,n7,n8⟩:=HT9.out.nine'
 obtain ⟨y0,y1,y2,y3,y4⟩:=key5 HF9.out
 simp only [Nat.zero_add] at y0 y1 y2 y3 y4
 go_wp2_with fail
 clear n0 n1 n2 n3 n4 n5 n6 n7 n8 y0 y1 y2 y3 y4
 refine (HGD.out _ HT9.out.mast' HV9.out).mono ?_
 rintro en w10 ⟨rfl,hb10⟩
 have HB10:=Lib.hid (HB9.out.trans (hb10.mono HB9.out.size))
 have HT10:=Lib.hid (HT9.out.keep hb10)
 have HF10:=Lib.hid (HF9.out.keep hb10 HF9.out.lt)
 have HV10:=Lib.hid (ElsV.keep HV9.out hb10)
 clear hb10 HB9 HT9 HF9 HV9
 obtain ⟨n0,n1,n2,n3,n4,n5,n6,n7,n8⟩:=HT10.out.nine
 obtain ⟨y0,y1,y2,y3,y4⟩:=key5 HF10.out
 simp only [Nat.zero_add] at y0 y1 y2 y3 y4
 have s0:=fun q:Past w10=>za n0 q
 have s1:=fun q:Past w10=>za n1 q
 have s2:=fun q:Past w10=>za n2 q
 have s3:=fun q:Past w10=>za n3 q
 have s4:=fun q:Past w10=>za n4 q
 have s5:=fun q:Past w10=>za n5 q
 have s6:=fun q:Past w10=>za n6 q
 have s7:=fun q:Past w10=>za n7 q
 have s8:=fun q:Past w10=>za n8 q
 have t0:=fun q:Past w10=>za y0 q
 have t1:=fun q:Past w10=>za y1 q
 have t2:=fun q:Past w10=>za y2 q
 have t3:=fun q:Past w10=>za y3 q
 have t4:=fun q:Past w10=>za y4 q
 clear n0 n1 n2 n3 n4 n5 n6 n7 n8 y0 y1 y2 y3 y4
 go_wp2_with fail
 refine qX (.one [0,1,3,4,5,6] 2 (.one [] 7 (.last [8,9,10,11,12]))) (by kernel_rfl) (by kernel_rfl) (fun d _ _ _ _ h=>by cases d <;> exact h) ?_
 obtain ⟨wz,hwz⟩:∃ wz,w10.drew=wz:=⟨_,rfl⟩
 rw [hwz]
 have HDX:Hid (Below w10.heap.size w10 wz):=Lib.hid (by rw [←hwz];exact ⟨rfl,rfl,rfl,Nat.le_refl _,fun _ _=>rfl⟩)
 clear hwz
 simp only [wpPlan,pick,nth]
 repeat (go_big_quiet_step (fail))
 refine wpQuiet_nil ?_
 clear s0 s1 s2 s3 s4 s5 s6 s7 s8 t0 t1 t2 t3 t4
 intro K hK
 refine ze (by kernel_rfl) ?_
 go_big_op
 refine (Fa.vU _ C _ (ElsV.keep HV10.out HDX.out) (by have:=HLC.out;omega)).mono ?_
 rintro en wt ⟨ut,rfl,hot,hbt⟩
 have HBT:=Lib.hid (HDX.out.trans (hbt.mono HDX.out.size))
 have HVT:=Lib.hid (zq (E:=encF) hot)
 obtain ⟨pt,qt,rfl,_⟩:=id HVT.out
 have HGT:=Lib.hid (HGIV.out wt _ (HT10.out.keep HBT.out).mast HVT.out)
 refine hK _ _ (zy HBT.out) ?_
 clear hK K hbt hot
 refine wpQuiet_nil ?_
 intro K hK
 refine ze (by kernel_rfl) ?_
 go_big_op
 refine (HWC.out _ _ HGT.out).mono ?_
 rintro en w11 ⟨rfl,hbg⟩
 have HBG:=Lib.hid (HBT.out.trans (hbg.mono HBT.out.size))
 refine hK _ _ (zy HBG.out) ?_
 clear hK K hbg
 repeat (go_big_quiet_step (fail))
 refine wpQuiet_nil ?_
 have HB11:=Lib.hid (HB10.out.trans (HBG.out.mono HB10.out.size))
 have HT11:=Lib.hid (HT10.out.keep HBG.out)
 have HF11:=Lib.hid (HF10.out.keep HBG.out HF10.out.lt)
 have HV11:=Lib.hid (ElsV.keep HV10.out HBG.out)
 clear HDX HBT HVT HGT HBG HB10 HT10 HF10 HV10
 obtain ⟨n0,n1,n2,n3,n4,n5,n6,n7,n8⟩:=HT11.out.nine'
 obtain ⟨y0,y1,y2,y3,y4⟩:=key5 HF11.out
 simp only [Nat.zero_add] at y0 y1 y2 y3 y4
 go_wp2_with fail
 clear n0 n1 n2 n3 n4 n5 n6 n7 n8 y0 y1 y2 y3 y4
 refine (HWD.out _ HT11.out.mast' HV11.out).mono ?_
 rintro en w12 ⟨rfl,hb12⟩
 have HB12:=Lib.hid (HB11.out.trans (hb12.mono HB11.out.size))
 have HT12:=Lib.hid (HT11.out.keep hb12)
 have HF12:=Lib.hid (HF11.out.keep hb12 HF11.out.lt)
 have HV12:=Lib.hid (ElsV.keep HV11.out hb12)
 clear hb12 HB11 HT11 HF11 HV11
 go_wp2
 go_ret
 exact ⟨by simp,HB0.out.trans (HB12.out.mono HB0.out.size)⟩
end Go.Proofs.YtdhfpgjnjlcciaaGreatDoor.Co
