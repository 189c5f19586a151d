/- FaGet CyPlain CyGiven CarryBrings -/
import Derived.Test.YtfhhihamndbcnaaGreatDoorR18
import Derived.Test.YtfhhihamndbcnaaGreatDoorR53
import Derived.Test.YtfhhihamndbcnaaGreatDoorR54
section
namespace Go.Proofs.YtfhhihamndbcnaaGreatDoor.Fa
open Go.RowKit
set_option maxRecDepth 100000 in
set_option maxHeartbeats 2000000 in
theorem get_any (v:Value) (L:List Fact) (c:Key) (w:World) (h:FactsV w v L) (hr:RiseF L) (hL:L.length≤1000) :
 Calls Tryz.prog 23 #[v,aggK c] w fun e w'=>e=.returned (.int .i64 (getL L c))∧Below w.heap.size w w':=by
 have HB0:=Lib.hid ((Below.refl w.heap.size w).alloc (Nat.le_refl _) (.cells (encK.cs c).toArray 60))
 have hV:=h.keep HB0.out
 obtain ⟨g,hg⟩:∃ g,getL L c=g:=⟨_,rfl⟩
 rw [hg]
 have HG:=Lib.hid hg
 have HR:=Lib.hid hr
 have HS:=Lib.hid (search_any v L c _ hV hr hL)
 have HV:=Lib.hid hV
 clear hg hV h hr
 go_enter Tryz.func23,Tryz.ntmps23
 go_wp2_with fail
 refine HS.out.mono ?_
 rintro e w1 ⟨at_,is,rfl,hf,hb⟩
 have HB1:=Lib.hid (HB0.out.trans (hb.mono HB0.out.size))
 cases is with
 | false =>
   have hg0:g=0:=by rw [←HG.out,getL_no (hf.2 rfl)]
   subst hg0
   clear hf hb
   go_wp2
   go_ret
   exact ⟨rfl,HB1.out⟩
 | true =>
   obtain ⟨x,hx,hk⟩:=hf.1 rfl
   have hgx:x.amt=g:=by rw [←HG.out,←hk,getL_mem HR.out (List.mem_of_getElem? hx)]
   obtain ⟨p,cap,rfl,hcap,hm,_,hc⟩:=HV.out
   obtain ⟨b,o,rfl,hat⟩:=hc at_ x hx
   have hlt:=hat.lt
   obtain ⟨r0,r1,r2,r3,r4,r5⟩:=fact6 (hat.keep hb hlt)
   rw [hgx] at r5
   simp only [show encF.k=6 from rfl] at r5
   have hin:=(List.getElem?_eq_some_iff.1 hx).1
   obtain ⟨n,hn⟩:∃ n,L.length=n:=⟨_,rfl⟩
   rw [hn] at hin hL ⊢
   unfold maxLen at hm
   clear hf hb hx hk hgx hat hlt hc r0 r1 r2 r3 r4 hcap HS HV
   go_wp2
   go_ret
   exact ⟨rfl,HB1.out⟩
end Go.Proofs.YtfhhihamndbcnaaGreatDoor.Fa
end
section
namespace Go.Proofs.YtfhhihamndbcnaaGreatDoor.Cy
open Go.RowKit Go.Proofs.YtfhhihamndbcnaaGreatDoor.Un Go.Proofs.YtfhhihamndbcnaaGreatDoor.Fa Go.Proofs.YtfhhihamndbcnaaGreatDoor.Pk Go.Proofs.YtfhhihamndbcnaaGreatDoor.Co
theorem rest_none {M:Mast} (ho:Opens M) {a:List Fact} (h:∀ f∈a,asK (firstF M) f.key=f.key):restF M a=[]:=by
 unfold restF
 refine List.filter_eq_nil_iff.2 fun f hf=>?_
 rw [←h f hf,ho.ofK]
 simp
theorem rest_append (M:Mast) (a b:List Fact):restF M (a++b)=restF M a++restF M b:=by simp [restF]
theorem rest_rest (M:Mast) (c:List Fact):restF M (restF M c)=restF M c:=by simp [restF,List.filter_filter]
theorem bring_err {M:Mast} {p c b:List Fact} {g:Int} (h:bringP M p c=(b,g)) (hg:g≠0):b=[]∧g=2:=by
 unfold bringP at h
 split at h
 ·rename_i h1
  rcases ofL_ways (toldF M p 4 (firstF M)) with h2 | h2
  ·unfold openP at h1;rw [h2] at h1;exact absurd rfl h1
  ·unfold openP at h;rw [h2] at h;cases h;exact ⟨rfl,rfl⟩
 ·rcases ofL_ways (restF M c++(openP M p).1) with h2 | h2
  ·rw [h2] at h;cases h;exact absurd rfl hg
  ·rw [h2] at h;cases h;exact ⟨rfl,rfl⟩
theorem bring_rest {M:Mast} (ho:Opens M) {p c b:List Fact} (hc:IsCube c) (h:bringP M p c=(b,0)):restF M b=restF M c:=by
 obtain ⟨a,h1,h2⟩:=bring_ok h
 obtain ⟨_,h3⟩:=isCube_cube h2
 obtain ⟨_,_,h4⟩:=open_ok h1
 rw [h3]
 unfold restF
 rw [cube_filter fun k=>!ofK M 0 k]
 change cube (restF M (restF M c++a))=restF M c
 rw [rest_append,rest_rest,rest_none ho h4,List.append_nil]
 exact cube_self (hc.rise.filter _) fun f hf=>hc.nz f (List.mem_filter.1 hf).1
theorem bring_twice {M:Mast} (ho:Opens M) {p c b:List Fact} (hc:IsCube c) (h:bringP M p c=(b,0)):bringP M p b=(b,0):=by
 obtain ⟨a,h1,h2⟩:=bring_ok h
 have h3:=bring_rest ho hc h
 unfold bringP
 rw [h1,h3]
 simpa using h2
theorem mem_rest {M:Mast} {c:List Fact} {f:Fact}:f∈restF M c ↔ f∈c∧ofK M 0 f.key=false:=by
 unfold restF
 rw [List.mem_filter]
 simp
theorem bring_gets {M:Mast} (ho:Opens M) {p c b:List Fact} (hc:IsCube c) (h:bringP M p c=(b,0)) {f:Fact} (hk:ofK M 0 f.key=false):(f∈b→getL c f.key=f.amt)∧(f∈c→getL b f.key=f.amt):=by
 have h3:=bring_rest ho hc h
 obtain ⟨a,_,h2⟩:=bring_ok h
 obtain ⟨hb,_⟩:=isCube_cube h2
 refine ⟨fun hf=>getL_mem hc.rise ?_,fun hf=>getL_mem hb.rise ?_⟩
 ·exact (mem_rest.1 (by rw [←h3];exact mem_rest.2 ⟨hf,hk⟩)).1
 ·exact (mem_rest.1 (by rw [h3];exact mem_rest.2 ⟨hf,hk⟩)).1
end Go.Proofs.YtfhhihamndbcnaaGreatDoor.Cy
end
section
namespace Go.Proofs.YtfhhihamndbcnaaGreatDoor.Cy
open Go.RowKit Go.Maps Go.Proofs.YtfhhihamndbcnaaGreatDoor.Un Go.Proofs.YtfhhihamndbcnaaGreatDoor.Fa Go.Proofs.YtfhhihamndbcnaaGreatDoor.Pk Go.Proofs.YtfhhihamndbcnaaGreatDoor.Co
theorem bring_rise {M:Mast} {p c b:List Fact} (h:bringP M p c=(b,0)):RiseF b:=by
 obtain ⟨_,_,h2⟩:=bring_ok h
 exact (isCube_cube h2).1.rise
theorem ofK_not {M:Mast} {k:Key} (h:kindF M k.f≠0):ofK M 0 k=false:=by
 unfold ofK
 rw [decide_eq_false h,Bool.and_false]
end Go.Proofs.YtfhhihamndbcnaaGreatDoor.Cy
end
section
namespace Go.Proofs.YtfhhihamndbcnaaGreatDoor.Cy
open Go.RowKit Go.Maps Go.Proofs.YtfhhihamndbcnaaGreatDoor.Un Go.Proofs.YtfhhihamndbcnaaGreatDoor.Pk Go.Proofs.YtfhhihamndbcnaaGreatDoor.Co
open Go.Proofs.YtfhhihamndbcnaaGreatDoor.Fa (Key Fact encF key5 fact6 FactsV CubeTold)
set_option maxRecDepth 100000 in
set_option maxHeartbeats 16000000 in
theorem carryBrings_walk (s0 s1 s2:ByteArray) (w:World) (_hs0:s0.size≤maxLen) (_hs1:s1.size≤maxLen) (_hs2:s2.size≤maxLen) (hU:LaidP w):Calls Tryz.prog 4 #[.string s0,.string s1,.string s2] w fun en w'=>en=.returned (.bool true)∧Below w.heap.size w w':=by
 have HL:=Lib.hid hU
 clear hU _hs0 _hs1 _hs2
 go_enter Tryz.func4,Tryz.ntmps4
 go_wp2_with fail
 refine (alive13_any _ HL.out).mono ?_
 rintro en w1 ⟨rfl,hb1⟩
 have HB1:=Lib.hid hb1
 have HL1:=Lib.hid (HL.out.keep hb1)
 clear hb1
 go_wp2_with fail
 refine (master_any s0 _ HL1.out.1 HL1.out.2.1).mono ?_
 rintro en w2 ⟨M,c,f,e,l,c',f',e',l',is,rfl,hm,hm',hb2,his⟩
 obtain ⟨pc,cc,pf,cf,pe,ce,pl,cl,rfl,rfl,rfl,rfl⟩:=shapes hm
 obtain ⟨pc',cc',pf',cf',pe',ce',pl',cl',rfl,rfl,rfl,rfl⟩:=shapes hm'
 have HM2:=Lib.hid hm
 have HM2':=Lib.hid hm'
 have HB2:=Lib.hid (HB1.out.trans (hb2.mono HB1.out.size))
 have HL2:=Lib.hid (HL1.out.keep hb2)
 have HIS:=Lib.hid his
 clear hm hm' hb2 his HB1 HL1 HL
 by_cases hbig1:4000 < s1.size
 ·cases is
  all_goals
   go_wp2_with (first
    | (refine wpList_store_mast rfl 31 (.tmp 7) (.tmp 29) rfl w2.heap.size nil4 nil4 nil4 nil4 (.slice pc M.chart.length cc) (.slice pf M.flows.length cf) (.slice pe M.ents.length ce) (.slice pl M.lines.length cl) zeroM M 31 rfl rfl (start1 w2) ⟨rfl,rfl,rfl,rfl⟩ (by kernel_rfl) ?_;intro w3 hb3 hg3;have HX3:=Lib.hid hb3;have HG3:=Lib.hid hg3;clear hb3 hg3)
    | (refine wpList_store_mast rfl 37 (.tmp 8) (.tmp 30) rfl (w2.heap.size+1) nil4 nil4 nil4 nil4 (.slice pc' M.chart.length cc') (.slice pf' M.flows.length cf') (.slice pe' M.ents.length ce') (.slice pl' M.lines.length cl') zeroM M 37 rfl rfl (start_keep HG3.out) ⟨rfl,rfl,rfl,rfl⟩ (by kernel_rfl) ?_;intro w4 hb4 hg4;have HT4:=Lib.hid (two_of HM2.out HM2'.out HX3.out HG3.out hb4 hg4);clear hb4 hg4;have HB4:=Lib.hid (HB2.out.trans (HT4.out.bel.mono HB2.out.size));obtain ⟨n0,n1,n2,n3,n4,n5,n6,n7,n8⟩:=HT4.out.nine)
    | fail)
   go_ret
   exact ⟨rfl,HB4.out⟩
 by_cases hbig2:4000 < s2.size
 ·cases is
  all_goals
   go_wp2_with (first
    | (refine wpList_store_mast rfl 31 (.tmp 7) (.tmp 29) rfl w2.heap.size nil4 nil4 nil4 nil4 (.slice pc M.chart.length cc) (.slice pf M.flows.length cf) (.slice pe M.ents.length ce) (.slice pl M.lines.length cl) zeroM M 31 rfl rfl (start1 w2) ⟨rfl,rfl,rfl,rfl⟩ (by kernel_rfl) ?_;intro w3 hb3 hg3;have HX3:=Lib.hid hb3;have HG3:=Lib.hid hg3;clear hb3 hg3)
    | (refine wpList_store_mast rfl 37 (.tmp 8) (.tmp 30) rfl (w2.heap.size+1) nil4 nil4 nil4 nil4 (.slice pc' M.chart.length cc') (.slice pf' M.flows.length cf') (.slice pe' M.ents.length ce') (.slice pl' M.lines.length cl') zeroM M 37 rfl rfl (start_keep HG3.out) ⟨rfl,rfl,rfl,rfl⟩ (by kernel_rfl) ?_;intro w4 hb4 hg4;have HT4:=Lib.hid (two_of HM2.out HM2'.out HX3.out HG3.out hb4 hg4);clear hb4 hg4;have HB4:=Lib.hid (HB2.out.trans (HT4.out.bel.mono HB2.out.size));obtain ⟨n0,n1,n2,n3,n4,n5,n6,n7,n8⟩:=HT4.out.nine)
    | fail)
   go_ret
   exact ⟨rfl,HB4.out⟩
 cases is with
 | false =>
   go_wp2_with (first
    | (refine wpList_store_mast rfl 31 (.tmp 7) (.tmp 29) rfl w2.heap.size nil4 nil4 nil4 nil4 (.slice pc M.chart.length cc) (.slice pf M.flows.length cf) (.slice pe M.ents.length ce) (.slice pl M.lines.length cl) zeroM M 31 rfl rfl (start1 w2) ⟨rfl,rfl,rfl,rfl⟩ (by kernel_rfl) ?_;intro w3 hb3 hg3;have HX3:=Lib.hid hb3;have HG3:=Lib.hid hg3;clear hb3 hg3)
    | (refine wpList_store_mast rfl 37 (.tmp 8) (.tmp 30) rfl (w2.heap.size+1) nil4 nil4 nil4 nil4 (.slice pc' M.chart.length cc') (.slice pf' M.flows.length cf') (.slice pe' M.ents.length ce') (.slice pl' M.lines.length cl') zeroM M 37 rfl rfl (start_keep HG3.out) ⟨rfl,rfl,rfl,rfl⟩ (by kernel_rfl) ?_;intro w4 hb4 hg4;have HT4:=Lib.hid (two_of HM2.out HM2'.out HX3.out HG3.out hb4 hg4);clear hb4 hg4;have HB4:=Lib.hid (HB2.out.trans (HT4.out.bel.mono HB2.out.size));obtain ⟨n0,n1,n2,n3,n4,n5,n6,n7,n8⟩:=HT4.out.nine)
    | fail)
   go_ret
   exact ⟨rfl,HB4.out⟩
 | true =>
 go_wp2_with (first
  | (refine wpList_store_mast rfl 31 (.tmp 7) (.tmp 29) rfl w2.heap.size nil4 nil4 nil4 nil4 (.slice pc M.chart.length cc) (.slice pf M.flows.length cf) (.slice pe M.ents.length ce) (.slice pl M.lines.length cl) zeroM M 31 rfl rfl (start1 w2) ⟨rfl,rfl,rfl,rfl⟩ (by kernel_rfl) ?_;intro w3 hb3 hg3;have HX3:=Lib.hid hb3;have HG3:=Lib.hid hg3;clear hb3 hg3)
  | (refine wpList_store_mast rfl 37 (.tmp 8) (.tmp 30) rfl (w2.heap.size+1) nil4 nil4 nil4 nil4 (.slice pc' M.chart.length cc') (.slice pf' M.flows.length cf') (.slice pe' M.ents.length ce') (.slice pl' M.lines.length cl') zeroM M 37 rfl rfl (start_keep HG3.out) ⟨rfl,rfl,rfl,rfl⟩ (by kernel_rfl) ?_;intro w4 hb4 hg4;have HT4:=Lib.hid (two_of HM2.out HM2'.out HX3.out HG3.out hb4 hg4);clear hb4 hg4;have HB4:=Lib.hid (HB2.out.trans (HT4.out.bel.mono HB2.out.size));obtain ⟨n0,n1,n2,n3,n4,n5,n6,n7,n8⟩:=HT4.out.nine)
  | fail)
 clear n0 n1 n2 n3 n4 n5 n6 n7 n8
 have HL4:=Lib.hid (HL2.out.keep HT4.out.bel)
 clear HM2 HM2' HB2 HL2 HX3 HG3
 have hR:=(HIS.out (by first | trivial | rfl)).1
 have HSN:=Lib.hid hR.inv.sane
 have HOP:=Lib.hid (opn_of hR.inv.sane hR.all)
 have HON:=Lib.hid (opens_of hR.inv.sane.fl (has_open hR.all))
 clear hR
 have hsz1:s1.size≤4000:=by omega
 have HSZ1:=Lib.hid hsz1
 have HPP1:=Lib.hid (fun W h hL=>pparse_any (.slice pc M.chart.length cc) (.slice pf M.flows.length cf) (.slice pe M.ents.length ce) (.slice pl M.lines.length cl) M s1 W h HSN.out hL (by have:=HSZ1.out;omega))
 obtain ⟨PR1,hPR1⟩:∃ PR,parseP M s1=PR:=⟨_,rfl⟩
 have HPR1:=Lib.hid hPR1
 have HRD1:=Lib.hid (read_of (c:=PR1.1) (er:=PR1.2) hPR1 hsz1)
 simp only [hPR1] at HPP1
 obtain ⟨C1,e1⟩:=PR1
 dsimp only at HRD1
 clear hsz1 hPR1 hbig1
 have hsz2:s2.size≤4000:=by omega
 have HSZ2:=Lib.hid hsz2
 have HPP2:=Lib.hid (fun W h hL=>pparse_any (.slice pc M.chart.length cc) (.slice pf M.flows.length cf) (.slice pe M.ents.length ce) (.slice pl M.lines.length cl) M s2 W h HSN.out hL (by have:=HSZ2.out;omega))
 obtain ⟨PR2,hPR2⟩:∃ PR,parseP M s2=PR:=⟨_,rfl⟩
 have HPR2:=Lib.hid hPR2
 have HRD2:=Lib.hid (read_of (c:=PR2.1) (er:=PR2.2) hPR2 hsz2)
 simp only [hPR2] at HPP2
 obtain ⟨C2,e2⟩:=PR2
 dsimp only at HRD2
 clear hsz2 hPR2 hbig2
 refine (HPP1.out _ HT4.out.mast HL4.out.2.2).mono ?_
 rintro en w5 ⟨u5,rfl,hv5,hb5⟩
 dsimp only at hv5
 have HVX5:=Lib.hid hv5
 have HB5:=Lib.hid (HB4.out.trans (hb5.mono HB4.out.size))
 have HT5:=Lib.hid (HT4.out.keep hb5)
 have HL5:=Lib.hid (HL4.out.keep hb5)
 clear HB4 HT4 HL4
 clear hb5 hv5 HPP1
 obtain ⟨n0,n1,n2,n3,n4,n5,n6,n7,n8⟩:=HT5.out.nine
 go_wp2_with fail
 clear n0 n1 n2 n3 n4 n5 n6 n7 n8
 refine (HPP2.out _ HT5.out.mast HL5.out.2.2).mono ?_
 rintro en w6 ⟨u6,rfl,hv6,hb6⟩
 dsimp only at hv6
 have HVY6:=Lib.hid hv6
 have HB6:=Lib.hid (HB5.out.trans (hb6.mono HB5.out.size))
 have HT6:=Lib.hid (HT5.out.keep hb6)
 have HL6:=Lib.hid (HL5.out.keep hb6)
 have HVX6:=Lib.hid (ElsV.keep HVX5.out hb6)
 clear HB5 HT5 HL5 HVX5
 clear hb6 hv6 HPP2
 by_cases he1:e1=0
 ·subst he1
  by_cases he2:e2=0
  ·subst he2
   have HG1:=Lib.hid (got_of HPR1.out)
   have HG2:=Lib.hid (got_of HPR2.out)
   obtain ⟨BR,hBR⟩:∃ R,bringP M C1 C2=R:=⟨_,rfl⟩
   have HBR:=Lib.hid hBR
   have hbl:BR.1.length≤800:=by rw [←hBR];exact bring_few (by have:=HRD1.out.2;have:=HRD2.out.2;omega)
   have hbz:∀ x∈BR.1,In64 x.amt:=by rw [←hBR];exact bring_in64 M C1 C2
   have HLEB:=Lib.hid hbl
   have HBZ:=Lib.hid hbz
   have HLEC:=Lib.hid HRD2.out.2
   have HCB:Hid (∀ W (v u:Value),FlIn W (.slice pc M.chart.length cc) (.slice pf M.flows.length cf) (.slice pe M.ents.length ce) (.slice pl M.lines.length cl) M→FactsV W v C1→FactsV W u C2→Calls Tryz.prog 15 #[aggM (.slice pc M.chart.length cc) (.slice pf M.flows.length cf) (.slice pe M.ents.length ce) (.slice pl M.lines.length cl) M,v,u] W (CubeTold W BR)):=Lib.hid fun W v u h1 h2 h3=>by
    have:=bring_any (.slice pc M.chart.length cc) (.slice pf M.flows.length cf) (.slice pe M.ents.length ce) (.slice pl M.lines.length cl) v u M C1 C2 W h1 HOP.out h2 HRD1.out.1 (by have:=HRD1.out.2;omega) h3 HRD2.out.1 (by have:=HRD2.out.2;omega) (sum_length (by have:=HRD1.out.2;omega) (by have:=HRD2.out.2;omega))
    rw [HBR.out] at this
    exact this
   obtain ⟨B,eb⟩:=BR
   dsimp only at HLEB HBZ
   clear hBR hbl hbz
   obtain ⟨n0,n1,n2,n3,n4,n5,n6,n7,n8⟩:=HT6.out.nine
   go_wp2_with fail
   clear n0 n1 n2 n3 n4 n5 n6 n7 n8
   refine (HCB.out _ _ _ (.of HT6.out.mast) HVX6.out HVY6.out).mono ?_
   rintro en w7 ⟨u7,rfl,hv7,hb7⟩
   dsimp only at hv7
   have HVB7:=Lib.hid hv7
   have HB7:=Lib.hid (HB6.out.trans (hb7.mono HB6.out.size))
   have HT7:=Lib.hid (HT6.out.keep hb7)
   have HVX7:=Lib.hid (ElsV.keep HVX6.out hb7)
   have HVY7:=Lib.hid (ElsV.keep HVY6.out hb7)
   clear HB6 HT6 HVX6 HVY6
   clear hb7 hv7 HCB
   by_cases heb:eb=0
   ·subst heb
    have HTW:=Lib.hid (bring_twice HON.out HG2.out.cube HBR.out)
    have HCK:=Lib.hid (bring_check HON.out HBR.out)
    have HRS:=Lib.hid (bring_rest HON.out HG2.out.cube HBR.out)
    have HGB:Hid (∀ x∈B,kindF M x.key.f≠0→Fa.getL C2 x.key=x.amt):=Lib.hid fun x hx hk=>(bring_gets HON.out HG2.out.cube HBR.out (ofK_not hk)).1 hx
    have HGC:Hid (∀ x∈C2,kindF M x.key.f≠0→Fa.getL B x.key=x.amt):=Lib.hid fun x hx hk=>(bring_gets HON.out HG2.out.cube HBR.out (ofK_not hk)).2 hx
    have HRIC:=Lib.hid HG2.out.cube.rise
    have HRIB:=Lib.hid (bring_rise HBR.out)
    have HCB2:Hid (∀ W (v u:Value),FlIn W (.slice pc M.chart.length cc) (.slice pf M.flows.length cf) (.slice pe M.ents.length ce) (.slice pl M.lines.length cl) M→FactsV W v C1→FactsV W u B→Calls Tryz.prog 15 #[aggM (.slice pc M.chart.length cc) (.slice pf M.flows.length cf) (.slice pe M.ents.length ce) (.slice pl M.lines.length cl) M,v,u] W (CubeTold W (B,0))):=Lib.hid fun W v u h1 h2 h3=>by
     have:=bring_any (.slice pc M.chart.length cc) (.slice pf M.flows.length cf) (.slice pe M.ents.length ce) (.slice pl M.lines.length cl) v u M C1 B W h1 HOP.out h2 HRD1.out.1 (by have:=HRD1.out.2;omega) h3 HBZ.out (by have:=HLEB.out;omega) (by rw [HRS.out];exact sum_length (by have:=HRD1.out.2;omega) (by have:=HRD2.out.2;omega))
     rw [HTW.out] at this
     exact this
    have HCC:Hid (∀ W (v u:Value),FlIn W (.slice pc M.chart.length cc) (.slice pf M.flows.length cf) (.slice pe M.ents.length ce) (.slice pl M.lines.length cl) M→FactsV W v C1→FactsV W u B→Calls Tryz.prog 19 #[aggM (.slice pc M.chart.length cc) (.slice pf M.flows.length cf) (.slice pe M.ents.length ce) (.slice pl M.lines.length cl) M,v,u] W fun en w'=>en=.returned (.int .i64 0)∧Below W.heap.size W w'):=Lib.hid fun W v u h1 h2 h3=>by
     have:=check_any (.slice pc M.chart.length cc) (.slice pf M.flows.length cf) (.slice pe M.ents.length ce) (.slice pl M.lines.length cl) v u M C1 B W h1 HOP.out h2 HRD1.out.1 (by have:=HRD1.out.2;omega) h3 HBZ.out (by have:=HLEB.out;omega)
     rw [HCK.out] at this
     exact this
    obtain ⟨n0,n1,n2,n3,n4,n5,n6,n7,n8⟩:=HT7.out.nine
    go_wp2_with fail
    clear n0 n1 n2 n3 n4 n5 n6 n7 n8
    refine (HCB2.out _ _ _ (.of HT7.out.mast) HVX7.out HVB7.out).mono ?_
    rintro en w8 ⟨u8,rfl,hv8,hb8⟩
    dsimp only at hv8
    have HVA8:=Lib.hid hv8
    have HB8:=Lib.hid (HB7.out.trans (hb8.mono HB7.out.size))
    have HT8:=Lib.hid (HT7.out.keep hb8)
    have HVX8:=Lib.hid (ElsV.keep HVX7.out hb8)
    have HVY8:=Lib.hid (ElsV.keep HVY7.out hb8)
    have HVB8:=Lib.hid (ElsV.keep HVB7.out hb8)
    clear HB7 HT7 HVX7 HVY7 HVB7
    clear hb8 hv8 HCB2
    go_wp2_with fail
    refine (Fa.ours_any _ B _ HVA8.out (by have:=HLEB.out;omega)).mono ?_
    rintro en w9 ⟨o9,rfl,ho9,hb9⟩
    have HO9:=Lib.hid (els_of_own (E:=encF) ho9)
    have HB9:=Lib.hid (HB8.out.trans (hb9.mono HB8.out.size))
    have HT9:=Lib.hid (HT8.out.keep hb9)
    have HVX9:=Lib.hid (ElsV.keep HVX8.out hb9)
    have HVY9:=Lib.hid (ElsV.keep HVY8.out hb9)
    have HVB9:=Lib.hid (ElsV.keep HVB8.out hb9)
    have HVA9:=Lib.hid (ElsV.keep HVA8.out hb9)
    clear HB8 HT8 HVX8 HVY8 HVB8 HVA8
    clear hb9 ho9
    go_wp2_with fail
    refine (Fa.ours_any _ B _ HVB9.out (by have:=HLEB.out;omega)).mono ?_
    rintro en w10 ⟨o10,rfl,ho10,hb10⟩
    have HO10:=Lib.hid (els_of_own (E:=encF) ho10)
    have HP10:=Lib.hid (HO9.out.keep hb10)
    have HB10:=Lib.hid (HB9.out.trans (hb10.mono HB9.out.size))
    have HT10:=Lib.hid (HT9.out.keep hb10)
    have HVX10:=Lib.hid (ElsV.keep HVX9.out hb10)
    have HVY10:=Lib.hid (ElsV.keep HVY9.out hb10)
    have HVB10:=Lib.hid (ElsV.keep HVB9.out hb10)
    have HVA10:=Lib.hid (ElsV.keep HVA9.out hb10)
    clear HB9 HT9 HVX9 HVY9 HVB9 HVA9
    clear hb10 ho10 HO9
    go_wp2_with fail
    refine (Fa.same_any _ _ B B _ HP10.out HO10.out).mono ?_
    rintro en w11 ⟨rfl,hb11⟩
    have HB11:=Lib.hid (HB10.out.trans (hb11.mono HB10.out.size))
    have HT11:=Lib.hid (HT10.out.keep hb11)
    have HVX11:=Lib.hid (ElsV.keep HVX10.out hb11)
    have HVY11:=Lib.hid (ElsV.keep HVY10.out hb11)
    have HVB11:=Lib.hid (ElsV.keep HVB10.out hb11)
    have HVA11:=Lib.hid (ElsV.keep HVA10.out hb11)
    clear HB10 HT10 HVX10 HVY10 HVB10 HVA10
    clear hb11 HO10 HP10
    have hsm:Fa.sameL B B=true:=decide_eq_true rfl
    simp only [hsm]
    clear hsm
    obtain ⟨n0,n1,n2,n3,n4,n5,n6,n7,n8⟩:=HT11.out.nine
    go_wp2_with fail
    clear n0 n1 n2 n3 n4 n5 n6 n7 n8
    refine (HCC.out _ _ _ (.of HT11.out.mast) HVX11.out HVB11.out).mono ?_
    rintro en w12 ⟨rfl,hb12⟩
    have HB12:=Lib.hid (HB11.out.trans (hb12.mono HB11.out.size))
    have HT12:=Lib.hid (HT11.out.keep hb12)
    have HVX12:=Lib.hid (ElsV.keep HVX11.out hb12)
    have HVY12:=Lib.hid (ElsV.keep HVY11.out hb12)
    have HVB12:=Lib.hid (ElsV.keep HVB11.out hb12)
    have HVA12:=Lib.hid (ElsV.keep HVA11.out hb12)
    clear HB11 HT11 HVX11 HVY11 HVB11 HVA11
    clear hb12 HCC
    clear HPR1 HPR2 HRD1 HRD2 HG1 HG2 HTW HCK HRS HBR HBZ
    obtain ⟨nb,hnb⟩:∃ n,B.length=n:=⟨_,rfl⟩
    have HNB:=Lib.hid hnb
    obtain ⟨p7,q7,rfl,hcb,hmb,_⟩:=id HVB12.out
    rw [hnb] at HVB12 hcb HLEB ⊢
    clear hnb
    obtain ⟨nc,hnc⟩:∃ n,C2.length=n:=⟨_,rfl⟩
    have HNC:=Lib.hid hnc
    obtain ⟨p6,q6,rfl,hcc,hmc,_⟩:=id HVY12.out
    rw [hnc] at HVY12 hcc HLEC ⊢
    clear hnc
    have hlb:=HLEB.out
    have hlc:=HLEC.out
    have HLEB:Hid (B.length≤800):=Lib.hid (by rw [HNB.out];exact hlb)
    have HLEC:Hid (C2.length≤400):=Lib.hid (by rw [HNC.out];exact hlc)
    unfold maxLen at hmb hmc
    have hq13:=(Below.refl w12.heap.size w12).alloc (Nat.le_refl _) (.cells #[.slice p7 nb q7,.slice p6 nc q6,.slice p6 nc q6,.slice p7 nb q7] 57)
    obtain ⟨z0,z1,z2,z3⟩:=four_new w12 (.slice p7 nb q7) (.slice p6 nc q6) (.slice p6 nc q6) (.slice p7 nb q7) 57
    obtain ⟨W13,hW13⟩:∃ W13,w12.alloc (.cells #[.slice p7 nb q7,.slice p6 nc q6,.slice p6 nc q6,.slice p7 nb q7] 57)=W13:=⟨_,rfl⟩
    rw [hW13] at hq13 z0 z1 z2 z3
    have HQ13:=Lib.hid hq13
    have HZ0:=Lib.hid z0
    have HZ1:=Lib.hid z1
    have HZ2:=Lib.hid z2
    have HZ3:=Lib.hid z3
    have HS13:=Lib.hid (World.block_lt_of_cell? W13 _ z0)
    clear hq13 z0 z1 z2 z3
    go_wp2_with fail
    clear hW13
    go_loopw [114] (fun s114 wr=>∃ j:Int,s114=.int .i64 j∧(j=0∨j=1∨j=2)∧Hid (Below w12.heap.size w12 wr)∧Hid (Below W13.heap.size W13 wr)) (fun s114 _=>2 - (intOf s114).toNat)
    case atStart=>exact ⟨0,rfl,.inl rfl,HQ13,Lib.hid (Below.refl _ _)⟩
    case round =>
     rename World=>wo
     obtain ⟨j,rfl,hj,HQO,HQP⟩:=hrel
     have z0:=(HQP.out.cell (p:=⟨w12.heap.size,0,none⟩) HS13.out).trans HZ0.out
     have z1:=(HQP.out.cell (p:=⟨w12.heap.size,1,none⟩) HS13.out).trans HZ1.out
     have z2:=(HQP.out.cell (p:=⟨w12.heap.size,2,none⟩) HS13.out).trans HZ2.out
     have z3:=(HQP.out.cell (p:=⟨w12.heap.size,3,none⟩) HS13.out).trans HZ3.out
     rcases hj with rfl | rfl | rfl
     ·have hq14:=(Below.refl wo.heap.size wo).alloc (Nat.le_refl _) (.cells #[(.slice p7 nb q7),(.slice p6 nc q6)] 57)
      obtain ⟨y0,y1⟩:=Fa.two_new wo (.slice p7 nb q7) (.slice p6 nc q6) 57
      obtain ⟨W14,hW14⟩:∃ W14,wo.alloc (.cells #[(.slice p7 nb q7),(.slice p6 nc q6)] 57)=W14:=⟨_,rfl⟩
      rw [hW14] at hq14 y0 y1
      have HQ14:=Lib.hid (HQO.out.trans (hq14.mono HQO.out.size))
      have HP14:=Lib.hid (HQP.out.trans (hq14.mono HQP.out.size))
      have HY0:=Lib.hid y0
      have HY1:=Lib.hid y1
      have HSO:=Lib.hid (World.block_lt_of_cell? W14 _ y0)
      clear hq14
      go_wp2_with fail
      clear hW14 y0 y1 z0 z1 z2 z3
      go_loopw [121] (fun s121 wr=>∃ i:Nat,s121=.int .i64 (i:Int)∧i≤nb∧Hid (Below W14.heap.size W14 wr)) (fun s121 _=>nb - (intOf s121).toNat)
      case atStart=>exact ⟨0,rfl,Nat.zero_le _,Lib.hid (Below.refl _ _)⟩
      case round =>
       obtain ⟨i,rfl,hi,HQR⟩:=hrel
       have HQT:=Lib.hid (HQ14.out.trans (HQR.out.mono HQ14.out.size))
       have HQQ:=Lib.hid (HP14.out.trans (HQR.out.mono HP14.out.size))
       by_cases hlt:i < nb
       ·obtain ⟨x,hx⟩:∃ x,B[i]?=some x:=⟨_,List.getElem?_eq_getElem (by rw [HNB.out];exact hlt)⟩
        have HXM:=Lib.hid (HGB.out x (List.mem_of_getElem? hx))
        obtain ⟨b,o,e',hat⟩:=Fa.ElsV.at_ (HVB12.out.keep HQT.out) hx
        cases e'
        obtain ⟨r0,r1,r2,r3,r4,r5⟩:=fact6 hat
        simp only [show encF.k=6 from rfl] at r0 r1 r2 r3 r4 r5
        have hq1:=(Below.refl wr.heap.size wr).alloc (Nat.le_refl _) (.cells #[.string x.key.e,.string x.key.a,.string x.key.f,.string x.key.p,.int .i64 x.key.m,.int .i64 x.amt] 62)
        have hf1:BoxE encF (wr.alloc (.cells #[.string x.key.e,.string x.key.a,.string x.key.f,.string x.key.p,.int .i64 x.key.m,.int .i64 x.amt] 62)) wr.heap.size 62 x:=BoxE.new encF wr x _
        obtain ⟨W1,hW1⟩:∃ W1,wr.alloc (.cells #[.string x.key.e,.string x.key.a,.string x.key.f,.string x.key.p,.int .i64 x.key.m,.int .i64 x.amt] 62)=W1:=⟨_,rfl⟩
        rw [hW1] at hq1 hf1
        have HQ1:=Lib.hid (HQR.out.trans (hq1.mono HQR.out.size))
        have HF1:=Lib.hid hf1
        have HT1:=Lib.hid (HT12.out.keep (HQ14.out.trans (HQ1.out.mono HQ14.out.size)))
        have HKI:=Lib.hid (Fl.kind_any _ M.flows x.key.f W1 HT1.out.mast.flows HOP.out.rise HOP.out.flen)
        rw [(kindC HOP.out.rise x.key.f).1] at HKI
        obtain ⟨kn,hkn⟩:∃ k,kindF M x.key.f=k:=⟨_,rfl⟩
        obtain ⟨kb,hkb⟩:∃ k,isK Fl.Flow.code M.flows x.key.f=k:=⟨_,rfl⟩
        rw [hkn,hkb] at HKI
        rw [hkn] at HXM
        obtain ⟨f0,f1,f2,f3,f4,f5⟩:=fact6 HF1.out.at0
        simp only [Nat.zero_add] at f0 f1 f2 f3 f4 f5
        obtain ⟨n0,n1,n2,n3,n4,n5,n6,n7,n8⟩:=HT1.out.nine
        clear hx hat hq1 hf1 hkn hkb
        go_wp2_with fail
        clear f0 f1 f2 f3 f4 f5 n0 n1 n2 n3 n4 n5 n6 n7 n8 r0 r1 r2 r3 r4 r5 hW1
        refine HKI.out.mono ?_
        rintro en w7 ⟨rfl,hb7⟩
        have HQ7:=Lib.hid (HQ1.out.trans (hb7.mono HQ1.out.size))
        have HF7:=Lib.hid (HF1.out.kept hb7)
        clear hb7 HQ1 HF1 HT1 HKI
        have y0:=(HQ7.out.cell (p:=⟨wo.heap.size,0,none⟩) HSO.out).trans HY0.out
        have y1:=(HQ7.out.cell (p:=⟨wo.heap.size,1,none⟩) HSO.out).trans HY1.out
        obtain ⟨f0,f1,f2,f3,f4,f5⟩:=fact6 HF7.out.at0
        simp only [Nat.zero_add] at f0 f1 f2 f3 f4 f5
        have t0:=fun q:Past w7=>cell_past f0 q
        have t1:=fun q:Past w7=>cell_past f1 q
        have t2:=fun q:Past w7=>cell_past f2 q
        have t3:=fun q:Past w7=>cell_past f3 q
        have t4:=fun q:Past w7=>cell_past f4 q
        have t5:=fun q:Past w7=>cell_past f5 q
        have s0:=fun q:Past w7=>cell_past y0 q
        have s1:=fun q:Past w7=>cell_past y1 q
        clear f0 f1 f2 f3 f4 f5 y0 y1
        by_cases hk:kn=0
        ·have hk1:(kn != 0)=false:=by simpa using hk
         clear hk
         go_wp2_with fail
         refine wp_region_past (by kernel_rfl) (by kernel_rfl) ?_
         repeat (go_big_quiet_step (fail))
         refine wpQuiet_nil ?_
         intro w8 hw'
         obtain ⟨⟨w8',hb8⟩,rfl⟩:=hw'
         have HQ8:=Lib.hid (HQ7.out.trans (hb8.mono HQ7.out.size))
         clear hb8 t0 t1 t2 t3 t4 t5 s0 s1
         go_wp2
         go_roundw
         case rel=>exact ⟨i+1,by go_num,by omega,HQ8⟩
         case measure=>simp [intOf];omega
        ·have hk1:(kn != 0)=true:=by simpa using hk
         have HGE:Hid (∀ q:Past w7,Calls Tryz.prog 23 #[(.slice p6 nc q6),Fa.aggK x.key] q.goal fun en w'=>en=.returned (.int .i64 x.amt)∧Below q.goal.heap.size q.goal w'):=Lib.hid fun q=>by
          have:=Fa.get_any (.slice p6 nc q6) C2 x.key q.goal (HVY12.out.keep (HQ14.out.trans ((HQ7.out.trans (q.below.mono HQ7.out.size)).mono HQ14.out.size))) HRIC.out (by have:=HLEC.out;omega)
          rw [HXM.out hk] at this
          exact this
         have hne:(x.amt != x.amt)=false:=by simp
         clear hk
         go_wp2_with fail
         refine wp_region_past (by kernel_rfl) (by kernel_rfl) ?_
         repeat (go_big_quiet_step (first | (go_at_call 23;exact Calls.past_of (HGE.out _)) | fail))
         refine wpQuiet_nil ?_
         intro w8 hw'
         obtain ⟨⟨w8',hb8⟩,rfl⟩:=hw'
         have HQ8:=Lib.hid (HQ7.out.trans (hb8.mono HQ7.out.size))
         clear hb8 t0 t1 t2 t3 t4 t5 s0 s1 HGE
         go_wp2
         go_roundw
         case rel=>exact ⟨i+1,by go_num,by omega,HQ8⟩
         case measure=>simp [intOf];omega
       ·go_wp2
        go_roundw
        case rel=>exact ⟨1,by go_num,.inr (.inl rfl),HQT,HQQ⟩
        case measure=>simp [intOf]
     ·have hq14:=(Below.refl wo.heap.size wo).alloc (Nat.le_refl _) (.cells #[(.slice p6 nc q6),(.slice p7 nb q7)] 57)
      obtain ⟨y0,y1⟩:=Fa.two_new wo (.slice p6 nc q6) (.slice p7 nb q7) 57
      obtain ⟨W14,hW14⟩:∃ W14,wo.alloc (.cells #[(.slice p6 nc q6),(.slice p7 nb q7)] 57)=W14:=⟨_,rfl⟩
      rw [hW14] at hq14 y0 y1
      have HQ14:=Lib.hid (HQO.out.trans (hq14.mono HQO.out.size))
      have HP14:=Lib.hid (HQP.out.trans (hq14.mono HQP.out.size))
      have HY0:=Lib.hid y0
      have HY1:=Lib.hid y1
      have HSO:=Lib.hid (World.block_lt_of_cell? W14 _ y0)
      clear hq14
      go_wp2_with fail
      clear hW14 y0 y1 z0 z1 z2 z3
      go_loopw [121] (fun s121 wr=>∃ i:Nat,s121=.int .i64 (i:Int)∧i≤nc∧Hid (Below W14.heap.size W14 wr)) (fun s121 _=>nc - (intOf s121).toNat)
      case atStart=>exact ⟨0,rfl,Nat.zero_le _,Lib.hid (Below.refl _ _)⟩
      case round =>
       obtain ⟨i,rfl,hi,HQR⟩:=hrel
       have HQT:=Lib.hid (HQ14.out.trans (HQR.out.mono HQ14.out.size))
       have HQQ:=Lib.hid (HP14.out.trans (HQR.out.mono HP14.out.size))
       by_cases hlt:i < nc
       ·obtain ⟨x,hx⟩:∃ x,C2[i]?=some x:=⟨_,List.getElem?_eq_getElem (by rw [HNC.out];exact hlt)⟩
        have HXM:=Lib.hid (HGC.out x (List.mem_of_getElem? hx))
        obtain ⟨b,o,e',hat⟩:=Fa.ElsV.at_ (HVY12.out.keep HQT.out) hx
        cases e'
        obtain ⟨r0,r1,r2,r3,r4,r5⟩:=fact6 hat
        simp only [show encF.k=6 from rfl] at r0 r1 r2 r3 r4 r5
        have hq1:=(Below.refl wr.heap.size wr).alloc (Nat.le_refl _) (.cells #[.string x.key.e,.string x.key.a,.string x.key.f,.string x.key.p,.int .i64 x.key.m,.int .i64 x.amt] 62)
        have hf1:BoxE encF (wr.alloc (.cells #[.string x.key.e,.string x.key.a,.string x.key.f,.string x.key.p,.int .i64 x.key.m,.int .i64 x.amt] 62)) wr.heap.size 62 x:=BoxE.new encF wr x _
        obtain ⟨W1,hW1⟩:∃ W1,wr.alloc (.cells #[.string x.key.e,.string x.key.a,.string x.key.f,.string x.key.p,.int .i64 x.key.m,.int .i64 x.amt] 62)=W1:=⟨_,rfl⟩
        rw [hW1] at hq1 hf1
        have HQ1:=Lib.hid (HQR.out.trans (hq1.mono HQR.out.size))
        have HF1:=Lib.hid hf1
        have HT1:=Lib.hid (HT12.out.keep (HQ14.out.trans (HQ1.out.mono HQ14.out.size)))
        have HKI:=Lib.hid (Fl.kind_any _ M.flows x.key.f W1 HT1.out.mast.flows HOP.out.rise HOP.out.flen)
        rw [(kindC HOP.out.rise x.key.f).1] at HKI
        obtain ⟨kn,hkn⟩:∃ k,kindF M x.key.f=k:=⟨_,rfl⟩
        obtain ⟨kb,hkb⟩:∃ k,isK Fl.Flow.code M.flows x.key.f=k:=⟨_,rfl⟩
        rw [hkn,hkb] at HKI
        rw [hkn] at HXM
        obtain ⟨f0,f1,f2,f3,f4,f5⟩:=fact6 HF1.out.at0
        simp only [Nat.zero_add] at f0 f1 f2 f3 f4 f5
        obtain ⟨n0,n1,n2,n3,n4,n5,n6,n7,n8⟩:=HT1.out.nine
        clear hx hat hq1 hf1 hkn hkb
        go_wp2_with fail
        clear f0 f1 f2 f3 f4 f5 n0 n1 n2 n3 n4 n5 n6 n7 n8 r0 r1 r2 r3 r4 r5 hW1
        refine HKI.out.mono ?_
        rintro en w7 ⟨rfl,hb7⟩
        have HQ7:=Lib.hid (HQ1.out.trans (hb7.mono HQ1.out.size))
        have HF7:=Lib.hid (HF1.out.kept hb7)
        clear hb7 HQ1 HF1 HT1 HKI
        have y0:=(HQ7.out.cell (p:=⟨wo.heap.size,0,none⟩) HSO.out).trans HY0.out
        have y1:=(HQ7.out.cell (p:=⟨wo.heap.size,1,none⟩) HSO.out).trans HY1.out
        obtain ⟨f0,f1,f2,f3,f4,f5⟩:=fact6 HF7.out.at0
        simp only [Nat.zero_add] at f0 f1 f2 f3 f4 f5
        have t0:=fun q:Past w7=>cell_past f0 q
        have t1:=fun q:Past w7=>cell_past f1 q
        have t2:=fun q:Past w7=>cell_past f2 q
        have t3:=fun q:Past w7=>cell_past f3 q
        have t4:=fun q:Past w7=>cell_past f4 q
        have t5:=fun q:Past w7=>cell_past f5 q
        have s0:=fun q:Past w7=>cell_past y0 q
        have s1:=fun q:Past w7=>cell_past y1 q
        clear f0 f1 f2 f3 f4 f5 y0 y1
        by_cases hk:kn=0
        ·have hk1:(kn != 0)=false:=by simpa using hk
         clear hk
         go_wp2_with fail
         refine wp_region_past (by kernel_rfl) (by kernel_rfl) ?_
         repeat (go_big_quiet_step (fail))
         refine wpQuiet_nil ?_
         intro w8 hw'
         obtain ⟨⟨w8',hb8⟩,rfl⟩:=hw'
         have HQ8:=Lib.hid (HQ7.out.trans (hb8.mono HQ7.out.size))
         clear hb8 t0 t1 t2 t3 t4 t5 s0 s1
         go_wp2
         go_roundw
         case rel=>exact ⟨i+1,by go_num,by omega,HQ8⟩
         case measure=>simp [intOf];omega
        ·have hk1:(kn != 0)=true:=by simpa using hk
         have HGE:Hid (∀ q:Past w7,Calls Tryz.prog 23 #[(.slice p7 nb q7),Fa.aggK x.key] q.goal fun en w'=>en=.returned (.int .i64 x.amt)∧Below q.goal.heap.size q.goal w'):=Lib.hid fun q=>by
          have:=Fa.get_any (.slice p7 nb q7) B x.key q.goal (HVB12.out.keep (HQ14.out.trans ((HQ7.out.trans (q.below.mono HQ7.out.size)).mono HQ14.out.size))) HRIB.out (by have:=HLEB.out;omega)
          rw [HXM.out hk] at this
          exact this
         have hne:(x.amt != x.amt)=false:=by simp
         clear hk
         go_wp2_with fail
         refine wp_region_past (by kernel_rfl) (by kernel_rfl) ?_
         repeat (go_big_quiet_step (first | (go_at_call 23;exact Calls.past_of (HGE.out _)) | fail))
         refine wpQuiet_nil ?_
         intro w8 hw'
         obtain ⟨⟨w8',hb8⟩,rfl⟩:=hw'
         have HQ8:=Lib.hid (HQ7.out.trans (hb8.mono HQ7.out.size))
         clear hb8 t0 t1 t2 t3 t4 t5 s0 s1 HGE
         go_wp2
         go_roundw
         case rel=>exact ⟨i+1,by go_num,by omega,HQ8⟩
         case measure=>simp [intOf];omega
       ·go_wp2
        go_roundw
        case rel=>exact ⟨2,by go_num,.inr (.inr rfl),HQT,HQQ⟩
        case measure=>simp [intOf]
     ·have HBF:=Lib.hid (HB12.out.trans (HQO.out.mono HB12.out.size))
      clear z0 z1 z2 z3
      go_wp2
      go_ret
      exact ⟨rfl,HBF.out⟩
   ·have heb1:(eb != 0)=true:=by simpa using heb
    obtain ⟨hB0,hE2⟩:=bring_err HBR.out heb
    have HB0:=Lib.hid hB0
    clear heb
    subst hE2
    obtain ⟨p7,q7,rfl,_⟩:=id HVB7.out
    rw [show B.length=0 by rw [hB0];rfl]
    clear hB0
    go_wp2
    go_ret
    exact ⟨rfl,HB7.out⟩
  ·have he21:(e2 != 0)=true:=by simpa using he2
   clear he2
   go_wp2
   go_ret
   exact ⟨rfl,HB6.out⟩
 ·have he11:(e1 != 0)=true:=by simpa using he1
  clear he1
  go_wp2
  go_ret
  exact ⟨rfl,HB6.out⟩
end Go.Proofs.YtfhhihamndbcnaaGreatDoor.Cy
end
