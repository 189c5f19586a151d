/- CyGiven CarryBalances -/
import Derived.Test.YtfhhihamndbcnaaGreatDoorR48
import Derived.Test.YtfhhihamndbcnaaGreatDoorR53
section
namespace Go.Proofs.YtfhhihamndbcnaaGreatDoor.Cy
open Go.RowKit Go.Maps Go.Proofs.YtfhhihamndbcnaaGreatDoor.Un Go.Proofs.YtfhhihamndbcnaaGreatDoor.Fa Go.Proofs.YtfhhihamndbcnaaGreatDoor.Pk Go.Proofs.YtfhhihamndbcnaaGreatDoor.Co
theorem ent_box {w:World} {g:Nat} {t:TypeId} {x:Ent} (h:BoxE encE w g t x):w.cell? ⟨g,0,none⟩=some (.string x.code)∧w.cell? ⟨g,1,none⟩=some (.string x.cur):=by
 have h0:=h.at0 0 _ rfl
 have h1:=h.at0 1 _ rfl
 simp only [Nat.zero_add] at h0 h1
 exact ⟨h0,h1⟩
end Go.Proofs.YtfhhihamndbcnaaGreatDoor.Cy
end
section
namespace Go.Proofs.YtfhhihamndbcnaaGreatDoor.Cy
open Go.RowKit Go.Maps Go.Proofs.YtfhhihamndbcnaaGreatDoor.Un Go.Proofs.YtfhhihamndbcnaaGreatDoor.Pk Go.Proofs.YtfhhihamndbcnaaGreatDoor.Co
open Go.Proofs.YtfhhihamndbcnaaGreatDoor.Fa (Key Fact encF key5 fact6 FactsV CubeTold)
set_option maxRecDepth 100000 in
set_option maxHeartbeats 16000000 in
theorem carryBalances_walk (s0 s1:ByteArray) (w:World) (_hs0:s0.size≤maxLen) (_hs1:s1.size≤maxLen) (hU:LaidP w):Calls Tryz.prog 5 #[.string s0,.string s1] w fun en w'=>en=.returned (.bool true)∧Below w.heap.size w w':=by
 have HL:=Lib.hid hU
 clear hU _hs0 _hs1
 go_enter Tryz.func5,Tryz.ntmps5
 go_wp2_with fail
 refine (alive13_any _ HL.out).mono ?_
 rintro en w1 ⟨rfl,hb1⟩
 have HB1:=Lib.hid hb1
 have HL1:=Lib.hid (HL.out.keep hb1)
 clear hb1
 go_wp2_with fail
 refine (master_any s0 _ HL1.out.1 HL1.out.2.1).mono ?_
 rintro en w2 ⟨M,c,f,e,l,c',f',e',l',is,rfl,hm,hm',hb2,his⟩
 obtain ⟨pc,cc,pf,cf,pe,ce,pl,cl,rfl,rfl,rfl,rfl⟩:=shapes hm
 obtain ⟨pc',cc',pf',cf',pe',ce',pl',cl',rfl,rfl,rfl,rfl⟩:=shapes hm'
 have HM2:=Lib.hid hm
 have HM2':=Lib.hid hm'
 have HB2:=Lib.hid (HB1.out.trans (hb2.mono HB1.out.size))
 have HL2:=Lib.hid (HL1.out.keep hb2)
 have HIS:=Lib.hid his
 clear hm hm' hb2 his HB1 HL1 HL
 by_cases hbig1:4000 < s1.size
 ·cases is
  all_goals
   go_wp2_with (first
    | (refine wpList_store_mast rfl 31 (.tmp 5) (.tmp 29) rfl w2.heap.size nil4 nil4 nil4 nil4 (.slice pc M.chart.length cc) (.slice pf M.flows.length cf) (.slice pe M.ents.length ce) (.slice pl M.lines.length cl) zeroM M 31 rfl rfl (start1 w2) ⟨rfl,rfl,rfl,rfl⟩ (by kernel_rfl) ?_;intro w3 hb3 hg3;have HX3:=Lib.hid hb3;have HG3:=Lib.hid hg3;clear hb3 hg3)
    | (refine wpList_store_mast rfl 37 (.tmp 6) (.tmp 30) rfl (w2.heap.size+1) nil4 nil4 nil4 nil4 (.slice pc' M.chart.length cc') (.slice pf' M.flows.length cf') (.slice pe' M.ents.length ce') (.slice pl' M.lines.length cl') zeroM M 37 rfl rfl (start_keep HG3.out) ⟨rfl,rfl,rfl,rfl⟩ (by kernel_rfl) ?_;intro w4 hb4 hg4;have HT4:=Lib.hid (two_of HM2.out HM2'.out HX3.out HG3.out hb4 hg4);clear hb4 hg4;have HB4:=Lib.hid (HB2.out.trans (HT4.out.bel.mono HB2.out.size));obtain ⟨n0,n1,n2,n3,n4,n5,n6,n7,n8⟩:=HT4.out.nine)
    | fail)
   go_ret
   exact ⟨rfl,HB4.out⟩
 cases is with
 | false =>
   go_wp2_with (first
    | (refine wpList_store_mast rfl 31 (.tmp 5) (.tmp 29) rfl w2.heap.size nil4 nil4 nil4 nil4 (.slice pc M.chart.length cc) (.slice pf M.flows.length cf) (.slice pe M.ents.length ce) (.slice pl M.lines.length cl) zeroM M 31 rfl rfl (start1 w2) ⟨rfl,rfl,rfl,rfl⟩ (by kernel_rfl) ?_;intro w3 hb3 hg3;have HX3:=Lib.hid hb3;have HG3:=Lib.hid hg3;clear hb3 hg3)
    | (refine wpList_store_mast rfl 37 (.tmp 6) (.tmp 30) rfl (w2.heap.size+1) nil4 nil4 nil4 nil4 (.slice pc' M.chart.length cc') (.slice pf' M.flows.length cf') (.slice pe' M.ents.length ce') (.slice pl' M.lines.length cl') zeroM M 37 rfl rfl (start_keep HG3.out) ⟨rfl,rfl,rfl,rfl⟩ (by kernel_rfl) ?_;intro w4 hb4 hg4;have HT4:=Lib.hid (two_of HM2.out HM2'.out HX3.out HG3.out hb4 hg4);clear hb4 hg4;have HB4:=Lib.hid (HB2.out.trans (HT4.out.bel.mono HB2.out.size));obtain ⟨n0,n1,n2,n3,n4,n5,n6,n7,n8⟩:=HT4.out.nine)
    | fail)
   go_ret
   exact ⟨rfl,HB4.out⟩
 | true =>
 go_wp2_with (first
  | (refine wpList_store_mast rfl 31 (.tmp 5) (.tmp 29) rfl w2.heap.size nil4 nil4 nil4 nil4 (.slice pc M.chart.length cc) (.slice pf M.flows.length cf) (.slice pe M.ents.length ce) (.slice pl M.lines.length cl) zeroM M 31 rfl rfl (start1 w2) ⟨rfl,rfl,rfl,rfl⟩ (by kernel_rfl) ?_;intro w3 hb3 hg3;have HX3:=Lib.hid hb3;have HG3:=Lib.hid hg3;clear hb3 hg3)
  | (refine wpList_store_mast rfl 37 (.tmp 6) (.tmp 30) rfl (w2.heap.size+1) nil4 nil4 nil4 nil4 (.slice pc' M.chart.length cc') (.slice pf' M.flows.length cf') (.slice pe' M.ents.length ce') (.slice pl' M.lines.length cl') zeroM M 37 rfl rfl (start_keep HG3.out) ⟨rfl,rfl,rfl,rfl⟩ (by kernel_rfl) ?_;intro w4 hb4 hg4;have HT4:=Lib.hid (two_of HM2.out HM2'.out HX3.out HG3.out hb4 hg4);clear hb4 hg4;have HB4:=Lib.hid (HB2.out.trans (HT4.out.bel.mono HB2.out.size));obtain ⟨n0,n1,n2,n3,n4,n5,n6,n7,n8⟩:=HT4.out.nine)
  | fail)
 clear n0 n1 n2 n3 n4 n5 n6 n7 n8
 have HL4:=Lib.hid (HL2.out.keep HT4.out.bel)
 clear HM2 HM2' HB2 HL2 HX3 HG3
 have hR:=(HIS.out (by first | trivial | rfl)).1
 have HSN:=Lib.hid hR.inv.sane
 have HOP:=Lib.hid (opn_of hR.inv.sane hR.all)
 have HON:=Lib.hid (opens_of hR.inv.sane.fl (has_open hR.all))
 clear hR
 have hsz1:s1.size≤4000:=by omega
 have HSZ1:=Lib.hid hsz1
 have HPP1:=Lib.hid (fun W h hL=>pparse_any (.slice pc M.chart.length cc) (.slice pf M.flows.length cf) (.slice pe M.ents.length ce) (.slice pl M.lines.length cl) M s1 W h HSN.out hL (by have:=HSZ1.out;omega))
 obtain ⟨PR1,hPR1⟩:∃ PR,parseP M s1=PR:=⟨_,rfl⟩
 have HPR1:=Lib.hid hPR1
 have HRD1:=Lib.hid (read_of (c:=PR1.1) (er:=PR1.2) hPR1 hsz1)
 simp only [hPR1] at HPP1
 obtain ⟨C1,e1⟩:=PR1
 dsimp only at HRD1
 clear hsz1 hPR1 hbig1
 refine (HPP1.out _ HT4.out.mast HL4.out.2.2).mono ?_
 rintro en w5 ⟨u5,rfl,hv5,hb5⟩
 dsimp only at hv5
 have HVC5:=Lib.hid hv5
 have HB5:=Lib.hid (HB4.out.trans (hb5.mono HB4.out.size))
 have HT5:=Lib.hid (HT4.out.keep hb5)
 clear HB4 HT4
 clear hb5 hv5 HPP1 HL4
 obtain ⟨O,hO⟩:∃ O,openP M C1=O:=⟨_,rfl⟩
 have HO:=Lib.hid hO
 have hz:=open_in64 M C1
 have hl:=open_length M C1
 rw [hO] at hz hl
 have HZ:=Lib.hid hz
 have HK:Hid (O.1.length≤400):=Lib.hid (by have:=HRD1.out.2;omega)
 have HQ:Hid (∀ W (v:Value),FlIn W (.slice pc M.chart.length cc) (.slice pf M.flows.length cf) (.slice pe M.ents.length ce) (.slice pl M.lines.length cl) M→FactsV W v C1→Calls Tryz.prog 12 #[aggM (.slice pc M.chart.length cc) (.slice pf M.flows.length cf) (.slice pe M.ents.length ce) (.slice pl M.lines.length cl) M,v] W (CubeTold W O)):=Lib.hid fun W v h1 h2=>by
  have:=open_any (.slice pc M.chart.length cc) (.slice pf M.flows.length cf) (.slice pe M.ents.length ce) (.slice pl M.lines.length cl) v M C1 W h1 HOP.out h2 HRD1.out.1 (by have:=HRD1.out.2;omega)
  rw [HO.out] at this
  exact this
 obtain ⟨D,ef⟩:=O
 dsimp only at HZ HK
 clear hO hz hl
 obtain ⟨n0,n1,n2,n3,n4,n5,n6,n7,n8⟩:=HT5.out.nine
 go_wp2_with fail
 clear n0 n1 n2 n3 n4 n5 n6 n7 n8
 refine (HQ.out _ _ (.of HT5.out.mast) HVC5.out).mono ?_
 rintro en w6 ⟨u6,rfl,hv6,hb6⟩
 dsimp only at hv6
 have HVD6:=Lib.hid hv6
 have HB6:=Lib.hid (HB5.out.trans (hb6.mono HB5.out.size))
 have HT6:=Lib.hid (HT5.out.keep hb6)
 have HVC6:=Lib.hid (ElsV.keep HVC5.out hb6)
 clear HB5 HT5 HVC5
 clear hb6 hv6 HQ
 by_cases he1:e1=0
 ·subst he1
  by_cases hef:ef=0
  ·subst hef
   have HGT:=Lib.hid (got_of HPR1.out)
   have hok:=open_ok HO.out
   have HWE:Hid (∀ (W:World) (v:Value) (s:ByteArray) (k:Int),MastIn W (.slice pc M.chart.length cc) (.slice pf M.flows.length cf) (.slice pe M.ents.length ce) (.slice pl M.lines.length cl) M→FactsV W v C1→Calls Tryz.prog 24 #[aggM (.slice pc M.chart.length cc) (.slice pf M.flows.length cf) (.slice pe M.ents.length ce) (.slice pl M.lines.length cl) M,v,.string s,.int .i64 k] W fun en w'=>en=.returned (.tuple #[.int .i64 (weighP M C1 s k).1,.int .i64 (weighP M C1 s k).2])∧Below W.heap.size W w'):=Lib.hid fun W v s k h1 h2=>weigh_any (.slice pc M.chart.length cc) (.slice pf M.flows.length cf) (.slice pe M.ents.length ce) (.slice pl M.lines.length cl) v M C1 s k W h1 HOP.out.rise HOP.out.flen h2 (by have:=HRD1.out.2;omega) HRD1.out.1
   have HWD:Hid (∀ (W:World) (v:Value) (s:ByteArray) (k:Int),MastIn W (.slice pc M.chart.length cc) (.slice pf M.flows.length cf) (.slice pe M.ents.length ce) (.slice pl M.lines.length cl) M→FactsV W v D→Calls Tryz.prog 24 #[aggM (.slice pc M.chart.length cc) (.slice pf M.flows.length cf) (.slice pe M.ents.length ce) (.slice pl M.lines.length cl) M,v,.string s,.int .i64 k] W fun en w'=>en=.returned (.tuple #[.int .i64 (weighP M D s k).1,.int .i64 (weighP M D s k).2])∧Below W.heap.size W w'):=Lib.hid fun W v s k h1 h2=>weigh_any (.slice pc M.chart.length cc) (.slice pf M.flows.length cf) (.slice pe M.ents.length ce) (.slice pl M.lines.length cl) v M D s k W h1 HOP.out.rise HOP.out.flen h2 (by have:=HK.out;omega) HZ.out
   have HEQ:Hid (∀ s:ByteArray,(weighP M C1 s 4).2=0→(weighP M D s 0).2=0→(weighP M C1 s 4).1=(weighP M D s 0).1):=Lib.hid fun s h1 h2=>open_weigh HON.out HGT.out.all HO.out s h1 h2
   have HW0:Hid (∀ (W:World) (v:Value),MastIn W (.slice pc M.chart.length cc) (.slice pf M.flows.length cf) (.slice pe M.ents.length ce) (.slice pl M.lines.length cl) M→FactsV W v D→Calls Tryz.prog 24 #[aggM (.slice pc M.chart.length cc) (.slice pf M.flows.length cf) (.slice pe M.ents.length ce) (.slice pl M.lines.length cl) M,v,.string ⟨#[]⟩,.int .i64 4] W fun en w'=>en=.returned (.tuple #[.int .i64 0,.int .i64 0])∧Below W.heap.size W w'):=Lib.hid fun W v h1 h2=>by
    have:=HWD.out W v emp 4 h1 h2
    rw [open_close HON.out HO.out emp] at this
    exact this
   have HRT:Hid (∀ (W:World) (v:Value),FactsV W v D→Calls Tryz.prog 25 #[v] W fun en w'=>en=.returned (.bool true)∧Below W.heap.size W w'):=Lib.hid fun W v h=>by
    have:=Fa.right_any v D W h (by have:=HK.out;omega)
    rw [show Fa.rightL D=true by rw [hok.2.1];exact Fa.cube_right _ (Nat.le_trans (told_length _ _ _ _) (by have:=HRD1.out.2;omega))] at this
    exact this
   obtain ⟨fl,hfl⟩:∃ fl,firstF M=fl:=⟨_,rfl⟩
   have HKY:Hid (∀ x∈D,x.key.f=fl∧x.key.m=0):=Lib.hid fun x hx=>by
    have h1:=hok.2.2 x hx
    rw [hfl] at h1
    exact ⟨(congrArg Key.f h1).symm,(congrArg Key.m h1).symm⟩
   have HKI:Hid (∀ (W:World),Fl.FlowsV W (.slice pf M.flows.length cf) M.flows→Calls Tryz.prog 22 #[.slice pf M.flows.length cf,.string fl] W fun en w'=>en=.returned (.tuple #[.int .i64 0,.bool true])∧Below W.heap.size W w'):=Lib.hid fun W h=>by
    have:=Fl.kind_any (.slice pf M.flows.length cf) M.flows fl W h HOP.out.rise HOP.out.flen
    have hk:kindF M fl=0:=by rw [←hfl];exact HON.out.kind
    have hh:hasFl M fl=true:=by rw [←hfl];exact HON.out.has
    rw [(kindC HOP.out.rise fl).1,(kindC HOP.out.rise fl).2,hk,hh] at this
    exact this
   clear hok hfl
   have hle:=HSN.out.le
   obtain ⟨nd,hnd⟩:∃ n,D.length=n:=⟨_,rfl⟩
   have HND:=Lib.hid hnd
   obtain ⟨p6,q6,rfl,hc6,hm6,_⟩:=id HVD6.out
   rw [hnd] at HVD6 hc6 ⊢
   have hld:nd≤400:=by rw [←hnd];exact HK.out
   clear hnd
   unfold maxLen at hm6
   obtain ⟨n0,n1,n2,n3,n4,n5,n6,n7,n8⟩:=HT6.out.nine
   go_wp2_with fail
   clear n0 n1 n2 n3 n4 n5 n6 n7 n8
   go_loopw [60] (fun s60 wr=>∃ i:Nat,s60=.int .i64 (i:Int)∧i≤M.ents.length∧Hid (Below w6.heap.size w6 wr)) (fun s60 _=>M.ents.length - (intOf s60).toNat)
   case atStart=>exact ⟨0,rfl,Nat.zero_le _,Lib.hid (Below.refl _ _)⟩
   case round =>
    obtain ⟨i,rfl,hi,HQR⟩:=hrel
    by_cases hlt:i < M.ents.length
    ·obtain ⟨en0,hx⟩:∃ x,M.ents[i]?=some x:=⟨_,List.getElem?_eq_getElem hlt⟩
     obtain ⟨b,o,e',hat⟩:=Fa.ElsV.at_ (HT6.out.keep HQR.out).mast.ents hx
     cases e'
     obtain ⟨ec,eu⟩:=en0
     have r0:=hat 0 _ rfl
     have r1:=hat 1 _ rfl
     simp only [Nat.add_zero] at r0 r1
     have hq1:=(Below.refl wr.heap.size wr).alloc (Nat.le_refl _) (.cells #[.string ec,.string eu] 68)
     have hf1:BoxE encE (wr.alloc (.cells #[.string ec,.string eu] 68)) wr.heap.size 68 ⟨ec,eu⟩:=BoxE.new encE wr ⟨ec,eu⟩ _
     obtain ⟨W1,hW1⟩:∃ W1,wr.alloc (.cells #[.string ec,.string eu] 68)=W1:=⟨_,rfl⟩
     rw [hW1] at hq1 hf1
     have HQ1:=Lib.hid (HQR.out.trans (hq1.mono HQR.out.size))
     have HF1:=Lib.hid hf1
     have HT1:=Lib.hid (HT6.out.keep HQ1.out)
     obtain ⟨ga,hga⟩:∃ g,weighP M C1 ec 4=g:=⟨_,rfl⟩
     obtain ⟨gb,hgb⟩:∃ g,weighP M D ec 0=g:=⟨_,rfl⟩
     have HEC:=Lib.hid (HEQ.out ec)
     have HC1:=Lib.hid (HWE.out W1 _ ec 4 HT1.out.mast (HVC6.out.keep HQ1.out))
     have HC2:Hid (∀ W,MastIn W (.slice pc M.chart.length cc) (.slice pf M.flows.length cf) (.slice (some ⟨b,o,none⟩) M.ents.length ce) (.slice pl M.lines.length cl) M→FactsV W (.slice p6 nd q6) D→Calls Tryz.prog 24 #[aggM (.slice pc M.chart.length cc) (.slice pf M.flows.length cf) (.slice (some ⟨b,o,none⟩) M.ents.length ce) (.slice pl M.lines.length cl) M,.slice p6 nd q6,.string ec,.int .i64 0] W fun en w'=>en=.returned (.tuple #[.int .i64 gb.1,.int .i64 gb.2])∧Below W.heap.size W w'):=Lib.hid fun W h1 h2=>by
      have:=HWD.out W _ ec 0 h1 h2
      rw [hgb] at this
      exact this
     rw [hga] at HC1
     rw [hga,hgb] at HEC
     obtain ⟨a1,a2⟩:=ga
     obtain ⟨b1,b2⟩:=gb
     dsimp only at HEC HC1 HC2
     obtain ⟨c0,c1⟩:=ent_box HF1.out
     obtain ⟨n0,n1,n2,n3,n4,n5,n6,n7,n8⟩:=HT1.out.nine
     clear hx hat hq1 hf1 hga hgb
     go_wp2_with fail
     clear c0 c1 n0 n1 n2 n3 n4 n5 n6 n7 n8 r0 r1 hW1
     refine HC1.out.mono ?_
     rintro en w7 ⟨rfl,hb7⟩
     have HQ7:=Lib.hid (HQ1.out.trans (hb7.mono HQ1.out.size))
     have HF7:=Lib.hid (HF1.out.kept hb7)
     have HT7:=Lib.hid (HT6.out.keep HQ7.out)
     clear hb7 HC1 HQ1 HF1 HT1
     obtain ⟨c0,c1⟩:=ent_box HF7.out
     obtain ⟨n0,n1,n2,n3,n4,n5,n6,n7,n8⟩:=HT7.out.nine
     go_wp2_with fail
     clear c0 c1 n0 n1 n2 n3 n4 n5 n6 n7 n8
     refine (HC2.out _ HT7.out.mast (HVD6.out.keep HQ7.out)).mono ?_
     rintro en w8 ⟨rfl,hb8⟩
     have HQ8:=Lib.hid (HQ7.out.trans (hb8.mono HQ7.out.size))
     clear hb8 HC2 HQ7 HF7 HT7
     by_cases ha2:a2=0
     ·by_cases hb2:b2=0
      ·subst ha2 hb2
       obtain rfl:a1=b1:=HEC.out rfl rfl
       have hnn:(a1 != a1)=false:=by simp
       clear HEC
       go_wp2
       go_roundw
       case rel=>exact ⟨i+1,by go_num,by omega,HQ8⟩
       case measure=>simp [intOf];omega
      ·have hb21:(b2==0)=false:=by simpa using hb2
       subst ha2
       clear hb2 HEC
       go_wp2
       go_roundw
       case rel=>exact ⟨i+1,by go_num,by omega,HQ8⟩
       case measure=>simp [intOf];omega
     ·have ha21:(a2==0)=false:=by simpa using ha2
      clear ha2 HEC
      go_wp2
      go_roundw
      case rel=>exact ⟨i+1,by go_num,by omega,HQ8⟩
      case measure=>simp [intOf];omega
    ·rename World=>wa
     have HQA:=HQR
     clear HQR HWE HEQ
     go_wp2_with fail
     go_loopw [94] (fun s94 wr=>∃ j:Nat,s94=.int .i64 (j:Int)∧j≤nd∧Hid (Below w6.heap.size w6 wr)) (fun s94 _=>nd - (intOf s94).toNat)
     case atStart=>exact ⟨0,rfl,Nat.zero_le _,HQA⟩
     case round =>
      obtain ⟨j,rfl,hj,HQR⟩:=hrel
      by_cases hlt:j < nd
      ·obtain ⟨x,hx⟩:∃ x,D[j]?=some x:=⟨_,List.getElem?_eq_getElem (by rw [HND.out];exact hlt)⟩
       have HXM:=Lib.hid (HKY.out x (List.mem_of_getElem? hx))
       obtain ⟨b,o,e',hat⟩:=Fa.ElsV.at_ (HVD6.out.keep HQR.out) hx
       cases e'
       obtain ⟨⟨xe,xc,xf,xp,xm⟩,xn⟩:=x
       obtain ⟨hxf,hxm⟩:=HXM.out
       dsimp only at hxf hxm
       subst hxf hxm
       obtain ⟨r0,r1,r2,r3,r4,r5⟩:=fact6 hat
       simp only [show encF.k=6 from rfl] at r0 r1 r2 r3 r4 r5
       have hq1:=(Below.refl wr.heap.size wr).alloc (Nat.le_refl _) (.cells #[.string xe,.string xc,.string xf,.string xp,.int .i64 0,.int .i64 xn] 62)
       have hf1:BoxE encF (wr.alloc (.cells #[.string xe,.string xc,.string xf,.string xp,.int .i64 0,.int .i64 xn] 62)) wr.heap.size 62 ⟨⟨xe,xc,xf,xp,0⟩,xn⟩:=BoxE.new encF wr ⟨⟨xe,xc,xf,xp,0⟩,xn⟩ _
       obtain ⟨W1,hW1⟩:∃ W1,wr.alloc (.cells #[.string xe,.string xc,.string xf,.string xp,.int .i64 0,.int .i64 xn] 62)=W1:=⟨_,rfl⟩
       rw [hW1] at hq1 hf1
       have HQ1:=Lib.hid (HQR.out.trans (hq1.mono HQR.out.size))
       have HF1:=Lib.hid hf1
       have HT1:=Lib.hid (HT6.out.keep HQ1.out)
       obtain ⟨f0,f1,f2,f3,f4,f5⟩:=fact6 HF1.out.at0
       simp only [Nat.zero_add] at f0 f1 f2 f3 f4 f5
       obtain ⟨n0,n1,n2,n3,n4,n5,n6,n7,n8⟩:=HT1.out.nine
       clear hx hat hq1 hf1 HXM
       go_wp2_with fail
       clear f0 f1 f2 f3 f4 f5 n0 n1 n2 n3 n4 n5 n6 n7 n8 r0 r1 r2 r3 r4 r5 hW1
       refine (HKI.out _ HT1.out.mast.flows).mono ?_
       rintro en w7 ⟨rfl,hb7⟩
       have HQ7:=Lib.hid (HQ1.out.trans (hb7.mono HQ1.out.size))
       have HF7:=Lib.hid (HF1.out.kept hb7)
       clear hb7 HQ1 HF1 HT1
       obtain ⟨f0,f1,f2,f3,f4,f5⟩:=fact6 HF7.out.at0
       simp only [Nat.zero_add] at f0 f1 f2 f3 f4 f5
       go_wp2
       go_roundw
       case rel=>exact ⟨j+1,by go_num,by omega,HQ7⟩
       case measure=>simp [intOf];omega
      ·have HTr:=Lib.hid (HT6.out.keep HQR.out)
       have HVr:=Lib.hid (HVD6.out.keep HQR.out)
       have HBr:=Lib.hid (HB6.out.trans (HQR.out.mono HB6.out.size))
       clear HQR
       obtain ⟨n0,n1,n2,n3,n4,n5,n6,n7,n8⟩:=HTr.out.nine
       go_wp2_with fail
       clear n0 n1 n2 n3 n4 n5 n6 n7 n8
       refine (HW0.out _ _ HTr.out.mast HVr.out).mono ?_
       rintro en w7 ⟨rfl,hb7⟩
       have HB7:=Lib.hid (HBr.out.trans (hb7.mono HBr.out.size))
       have HV7:=Lib.hid (HVr.out.keep hb7)
       clear hb7 HBr HVr HTr
       go_wp2_with fail
       refine (HRT.out _ _ HV7.out).mono ?_
       rintro en w8 ⟨rfl,hb8⟩
       have HB8:=Lib.hid (HB7.out.trans (hb8.mono HB7.out.size))
       clear hb8
       go_wp2
       go_ret
       exact ⟨rfl,HB8.out⟩
  ·have hef1:(ef != 0)=true:=by simpa using hef
   clear hef
   go_wp2
   go_ret
   exact ⟨rfl,HB6.out⟩
 ·have he11:(e1 != 0)=true:=by simpa using he1
  clear he1
  go_wp2
  go_ret
  exact ⟨rfl,HB6.out⟩
end Go.Proofs.YtfhhihamndbcnaaGreatDoor.Cy
end
