/- ControlShifts -/
import Derived.Test.YtdhfpgjnjlcciaaGreatDoorQ46
namespace Go.Proofs.YtdhfpgjnjlcciaaGreatDoor.Co
open Go.RowKit Go.Maps Go.Proofs.YtdhfpgjnjlcciaaGreatDoor.Un Go.Proofs.YtdhfpgjnjlcciaaGreatDoor.Pk
open Go.Proofs.YtdhfpgjnjlcciaaGreatDoor.Fa (Key Fact encF key5 fact6 FactsV)
set_option maxRecDepth 100000 in
set_option maxHeartbeats 16000000 in
theorem zdY (s0 s1:ByteArray) (k:Key) (n:Int) (w:World) (_hs0:s0.size≤maxLen) (_hs1:s1.size≤maxLen) (_hk:In64 k.m) (hn:In32 n) (hU:LaidP w):Calls Tryz.prog 7 #[.agg #[.string s0,.string s1],Fa.aggK k,.int .i32 n] w fun en w'=>en=.returned (.bool true)∧Below w.heap.size w w':=by
 have hb0:=(Below.refl w.heap.size w).alloc (Nat.le_refl _) (.cells #[.string s0,.string s1] 68)
 have hg0:=Z4 w s0 s1 68
 obtain ⟨V0,hV0⟩:∃ V0,w.alloc (.cells #[.string s0,.string s1] 68)=V0:=⟨_,rfl⟩
 rw [hV0] at hb0 hg0
 have hb1:=(Below.refl V0.heap.size V0).alloc (Nat.le_refl _) (.cells (kCells k) 24)
 have hl0:BoxE Fa.encK (V0.alloc (.cells (kCells k) 24)) V0.heap.size 24 k:=BoxE.new Fa.encK V0 k 24
 obtain ⟨W0,hW0⟩:∃ W0,V0.alloc (.cells (kCells k) 24)=W0:=⟨_,rfl⟩
 rw [hW0] at hb1 hl0
 have HB0:=Lib.hid (hb0.trans (hb1.mono hb0.size))
 have HS0:=Lib.hid hb0.size
 have HGB0:=Lib.hid (hg0.kept hb1)
 have HKB0:=Lib.hid hl0
 have HL:=Lib.hid (hU.keep HB0.out)
 have HN64:=Lib.hid (show In64 n by obtain ⟨h1,h2⟩:=hn;exact ⟨by omega,by omega⟩)
 have HNM:=Lib.hid (show In64 (-n) by obtain ⟨h1,h2⟩:=hn;exact ⟨by omega,by omega⟩)
 obtain ⟨hn1,hn2⟩:=hn
 clear hU hb0 hb1 hg0 hl0 _hs0 _hs1 _hk
 go_enter Tryz.func7,Tryz.ntmps7
 go_wp2_with fail
 clear hV0 hW0
 refine (vV _ HL.out).mono ?_
 rintro en w1 ⟨rfl,hb1⟩
 have HB1:=Lib.hid (HB0.out.trans (hb1.mono HB0.out.size))
 have HGB1:=Lib.hid (HGB0.out.kept hb1)
 have HKB1:=Lib.hid (HKB0.out.kept hb1)
 have HL1:=Lib.hid (HL.out.keep hb1)
 clear hb1
 obtain ⟨g0,g1⟩:=HGB1.out
 go_wp2_with fail
 clear g0 g1
 refine (vz s0 _ HL1.out.1 HL1.out.2.1).mono ?_
 rintro en w2 ⟨M,c,f,e,l,c',f',e',l',is,rfl,hm,hm',hb2,his⟩
 obtain ⟨pc,cc,pf,cf,pe,ce,pl,cl,rfl,rfl,rfl,rfl⟩:=shapes hm
 obtain ⟨pc',cc',pf',cf',pe',ce',pl',cl',rfl,rfl,rfl,rfl⟩:=shapes hm'
 have HM2:=Lib.hid hm
 have HM2':=Lib.hid hm'
 have HB2:=Lib.hid (HB1.out.trans (hb2.mono HB1.out.size))
 have HGB2:=Lib.hid (HGB1.out.kept hb2)
 have HKB2:=Lib.hid (HKB1.out.kept hb2)
 have HNE:=Lib.hid (show w2.heap.size≠V0.heap.size by have:=HKB2.out.lt;omega)
 have HL2:=Lib.hid (HL1.out.keep hb2)
 have HIS:=Lib.hid his
 clear hm hm' hb2 his HB1 HL1 HGB1 HKB1 HGB0 HKB0 HL HB0
 by_cases hbig:4000 < s1.size
 ·cases is
  all_goals
   go_wp2_with (first
    | (refine zi rfl 33 (.tmp 7) (.tmp 32) rfl w2.heap.size nil4 nil4 nil4 nil4 (.slice pc M.chart.length cc) (.slice pf M.flows.length cf) (.slice pe M.ents.length ce) (.slice pl M.lines.length cl) zeroM M 33 rfl rfl (start1 w2) ⟨rfl,rfl,rfl,rfl⟩ (by kernel_rfl) ?_;intro w3 hb3 hg3;have HX3:=Lib.hid hb3;have HG3:=Lib.hid hg3;clear hb3 hg3)
    | (refine zi rfl 39 (.tmp 8) (.tmp 33) rfl (w2.heap.size+1) nil4 nil4 nil4 nil4 (.slice pc' M.chart.length cc') (.slice pf' M.flows.length cf') (.slice pe' M.ents.length ce') (.slice pl' M.lines.length cl') zeroM M 39 rfl rfl (qu HG3.out) ⟨rfl,rfl,rfl,rfl⟩ (by kernel_rfl) ?_;intro w4 hb4 hg4;have HT4:=Lib.hid (qs HM2.out HM2'.out HX3.out HG3.out hb4 hg4);clear hb4 hg4;have HB4:=Lib.hid (HB2.out.trans (HT4.out.bel.mono HB2.out.size));have HGB4:=Lib.hid (HGB2.out.kept HT4.out.bel);have HKB4:=Lib.hid (HKB2.out.kept HT4.out.bel);obtain ⟨g0,g1⟩:=HGB4.out;obtain ⟨y0,y1,y2,y3,y4⟩:=key5 HKB4.out.at0;simp only [Nat.zero_add] at y0 y1 y2 y3 y4;obtain ⟨n0,n1,n2,n3,n4,n5,n6,n7,n8⟩:=HT4.out.nine)
    | fail)
   go_ret
   exact ⟨rfl,HB4.out⟩
 cases is with
 | false =>
   go_wp2_with (first
    | (refine zi rfl 33 (.tmp 7) (.tmp 32) rfl w2.heap.size nil4 nil4 nil4 nil4 (.slice pc M.chart.length cc) (.slice pf M.flows.length cf) (.slice pe M.ents.length ce) (.slice pl M.lines.length cl) zeroM M 33 rfl rfl (start1 w2) ⟨rfl,rfl,rfl,rfl⟩ (by kernel_rfl) ?_;intro w3 hb3 hg3;have HX3:=Lib.hid hb3;have HG3:=Lib.hid hg3;clear hb3 hg3)
    | (refine zi rfl 39 (.tmp 8) (.tmp 33) rfl (w2.heap.size+1) nil4 nil4 nil4 nil4 (.slice pc' M.chart.length cc') (.slice pf' M.flows.length cf') (.slice pe' M.ents.length ce') (.slice pl' M.lines.length cl') zeroM M 39 rfl rfl (qu HG3.out) ⟨rfl,rfl,rfl,rfl⟩ (by kernel_rfl) ?_;intro w4 hb4 hg4;have HT4:=Lib.hid (qs HM2.out HM2'.out HX3.out HG3.out hb4 hg4);clear hb4 hg4;have HB4:=Lib.hid (HB2.out.trans (HT4.out.bel.mono HB2.out.size));have HGB4:=Lib.hid (HGB2.out.kept HT4.out.bel);have HKB4:=Lib.hid (HKB2.out.kept HT4.out.bel);obtain ⟨g0,g1⟩:=HGB4.out;obtain ⟨y0,y1,y2,y3,y4⟩:=key5 HKB4.out.at0;simp only [Nat.zero_add] at y0 y1 y2 y3 y4;obtain ⟨n0,n1,n2,n3,n4,n5,n6,n7,n8⟩:=HT4.out.nine)
    | fail)
   go_ret
   exact ⟨rfl,HB4.out⟩
 | true =>
 go_wp2_with (first
  | (refine zi rfl 33 (.tmp 7) (.tmp 32) rfl w2.heap.size nil4 nil4 nil4 nil4 (.slice pc M.chart.length cc) (.slice pf M.flows.length cf) (.slice pe M.ents.length ce) (.slice pl M.lines.length cl) zeroM M 33 rfl rfl (start1 w2) ⟨rfl,rfl,rfl,rfl⟩ (by kernel_rfl) ?_;intro w3 hb3 hg3;have HX3:=Lib.hid hb3;have HG3:=Lib.hid hg3;clear hb3 hg3)
  | (refine zi rfl 39 (.tmp 8) (.tmp 33) rfl (w2.heap.size+1) nil4 nil4 nil4 nil4 (.slice pc' M.chart.length cc') (.slice pf' M.flows.length cf') (.slice pe' M.ents.length ce') (.slice pl' M.lines.length cl') zeroM M 39 rfl rfl (qu HG3.out) ⟨rfl,rfl,rfl,rfl⟩ (by kernel_rfl) ?_;intro w4 hb4 hg4;have HT4:=Lib.hid (qs HM2.out HM2'.out HX3.out HG3.out hb4 hg4);clear hb4 hg4;have HB4:=Lib.hid (HB2.out.trans (HT4.out.bel.mono HB2.out.size));have HGB4:=Lib.hid (HGB2.out.kept HT4.out.bel);have HKB4:=Lib.hid (HKB2.out.kept HT4.out.bel);obtain ⟨g0,g1⟩:=HGB4.out;obtain ⟨y0,y1,y2,y3,y4⟩:=key5 HKB4.out.at0;simp only [Nat.zero_add] at y0 y1 y2 y3 y4;obtain ⟨n0,n1,n2,n3,n4,n5,n6,n7,n8⟩:=HT4.out.nine)
  | fail)
 clear g0 g1 y0 y1 y2 y3 y4 n0 n1 n2 n3 n4 n5 n6 n7 n8
 have HL4:=Lib.hid (HL2.out.keep HT4.out.bel)
 clear HM2 HM2' HB2 HL2 HX3 HG3 HGB2 HKB2
 have hb5:=(Below.refl w4.heap.size w4).alloc (Nat.le_refl _) (.cells (flat encF [(⟨k,0⟩:Fact)]).toArray 44)
 have HX5:=Lib.hid (jQ encF w4 [(⟨k,0⟩:Fact)] 44 (by simp [maxLen]))
 have HB5:=Lib.hid (HB4.out.trans (hb5.mono HB4.out.size))
 have HT5:=Lib.hid (HT4.out.keep hb5)
 have HGB5:=Lib.hid (HGB4.out.kept hb5)
 have HKB5:=Lib.hid (HKB4.out.kept hb5)
 have HL5:=Lib.hid (HL4.out.keep hb5)
 clear HB4 HT4 HGB4 HKB4 HL4
 clear hb5
 refine (Fa.Zj _ [(⟨k,0⟩:Fact)] _ HX5.out).mono ?_
 rintro en w6 ⟨rfl,hb6⟩
 have HB6:=Lib.hid (HB5.out.trans (hb6.mono HB5.out.size))
 have HT6:=Lib.hid (HT5.out.keep hb6)
 have HGB6:=Lib.hid (HGB5.out.kept hb6)
 have HKB6:=Lib.hid (HKB5.out.kept hb6)
 have HL6:=Lib.hid (HL5.out.keep hb6)
 clear HB5 HT5 HGB5 HKB5 HL5
 clear hb6 HX5
 cases hfew:Fa.fewL [(⟨k,0⟩:Fact)] with
 | false =>
   go_wp2
   go_ret
   exact ⟨rfl,HB6.out⟩
 | true =>
 clear hfew
 have hR:=(HIS.out (by first | trivial | rfl)).1
 have HSN:=Lib.hid hR.inv.sane
 have HTW:=Lib.hid (Vg hR.all)
 have HRC:=Lib.hid (Fl.qm HSN.out.fl)
 have HLF:Hid (M.flows.length≤1000):=Lib.hid (by have:=HSN.out.lf;omega)
 have hsz:s1.size≤4000:=by omega
 have HSZ:=Lib.hid hsz
 have HPP:=Lib.hid (fun W h hL=>vB (.slice pc M.chart.length cc) (.slice pf M.flows.length cf) (.slice pe M.ents.length ce) (.slice pl M.lines.length cl) M s1 W h HSN.out hL (by have:=HSZ.out;omega))
 obtain ⟨PR,hPR⟩:∃ PR,parseP M s1=PR:=⟨_,rfl⟩
 have HPR:=Lib.hid hPR
 simp only [hPR] at HPP
 obtain ⟨C,er⟩:=PR
 clear hR hsz hPR
 obtain ⟨g0,g1⟩:=HGB6.out
 obtain ⟨n0,n1,n2,n3,n4,n5,n6,n7,n8⟩:=HT6.out.nine
 go_wp2_with fail
 clear g0 g1 n0 n1 n2 n3 n4 n5 n6 n7 n8
 refine (HPP.out _ HT6.out.mast HL6.out.2.2).mono ?_
 rintro en w7 ⟨u7,rfl,hv7,hb7⟩
 dsimp only at hv7
 have HVC7:=Lib.hid hv7
 have HB7:=Lib.hid (HB6.out.trans (hb7.mono HB6.out.size))
 have HT7:=Lib.hid (HT6.out.keep hb7)
 have HKB7:=Lib.hid (HKB6.out.kept hb7)
 clear HB6 HT6 HKB6
 clear hb7 hv7 HL6 HGB6 HPP
 obtain ⟨qc,kc,rfl,_⟩:=id HVC7.out
 have HFT:=Lib.hid (za6 HPR.out HSZ.out)
 obtain ⟨n0,n1,n2,n3,n4,n5,n6,n7,n8⟩:=HT7.out.nine
 go_wp2_with fail
 clear n0 n1 n2 n3 n4 n5 n6 n7 n8
 go_loopw [12,60] (fun s12 s60 wr=>∃ i:Nat,s60=.int .i64 (i:Int)∧i≤M.flows.length∧Hid (wr.ownsRow w7.heap.size 76 6 s12 (moreF (M.flows.take i) k n).length (flat encF (moreF (M.flows.take i) k n)))∧Hid (Below w7.heap.size w7 wr)) (fun _ s60 _=>M.flows.length - (intOf s60).toNat)
 case atStart=>exact ⟨0,rfl,Nat.zero_le _,World.ownsRow_nil _ _ _ _,Lib.hid (Below.refl _ _)⟩
 case round =>
  obtain ⟨i,rfl,hi,HO,HQ⟩:=hrel
  have hlf:=HLF.out
  by_cases hlt:i < M.flows.length
  ·obtain ⟨fl,hx⟩:∃ x,M.flows[i]?=some x:=⟨_,List.getElem?_eq_getElem hlt⟩
   obtain ⟨b,o,e',hat⟩:=Fa.ElsV.at_ (HT7.out.keep HQ.out).mast.flows hx
   cases e'
   have HTK:Hid (M.flows.take (i+1)=M.flows.take i++[fl]):=Lib.hid (by rw [List.take_add_one,hx];rfl)
   have HLI:Hid ((moreF (M.flows.take i) k n).length≤i):=Lib.hid (Nat.le_trans (JW _ _ _) (by rw [List.length_take];exact Nat.min_le_left _ _))
   obtain ⟨fc,fk⟩:=fl
   have r0:=hat 0 _ rfl
   have r1:=hat 1 _ rfl
   simp only [Nat.add_zero] at r0 r1
   have hq1:=(Below.refl wr.heap.size wr).alloc (Nat.le_refl _) (.cells #[.string fc,.int .i64 fk] 81)
   have hf1:BoxE Fl.encF (wr.alloc (.cells #[.string fc,.int .i64 fk] 81)) wr.heap.size 81 ⟨fc,fk⟩:=BoxE.new Fl.encF wr ⟨fc,fk⟩ _
   have HQ1:=Lib.hid hq1
   have HF1:=Lib.hid hf1
   have HSF:=Lib.hid (ze1 (M.flows.take i) ⟨fc,fk⟩ k n)
   clear hx hat hq1 hf1
   by_cases h04:fk=0∨fk=4
   ·have HMS:Hid (moreF (M.flows.take (i+1)) k n=(moreF (M.flows.take i) k n)++[(⟨⟨k.e,k.a,fc,k.p,1⟩,n⟩:Fact)]):=Lib.hid (by rw [HTK.out,HSF.out,if_pos h04])
    have HCK:=Lib.hid (fun W h=>Pk.yJ (.slice pc M.chart.length cc) (.slice (some ⟨b,o,none⟩) M.flows.length cf) (.slice pe M.ents.length ce) (.slice pl M.lines.length cl) M (⟨⟨k.e,k.a,fc,k.p,1⟩,n⟩:Fact) W h HRC.out HLF.out)
    obtain ⟨CE,hCE⟩:∃ e,checkE M ⟨k.e,k.a,fc,k.p,1⟩=e:=⟨_,rfl⟩
    simp only [hCE] at HCK
    clear hCE HTK HSF
    rcases h04 with rfl | rfl
    ·obtain ⟨c0,c1⟩:=Fl.box HF1.out
     obtain ⟨y0,y1,y2,y3,y4⟩:=key5 (HKB7.out.kept (HQ.out.trans (HQ1.out.mono HQ.out.size))).at0
     simp only [Nat.zero_add] at y0 y1 y2 y3 y4
     have hx2:=jQ encF (wr.alloc (.cells #[.string fc,.int .i64 0] 81)) [(⟨k,n⟩:Fact)] 44 (by simp [maxLen])
     have hq2:=HQ1.out.alloc HQ1.out.size (.cells (flat encF [(⟨k,n⟩:Fact)]).toArray 44)
     rw [World.size_alloc] at hx2
     have HX2:=Lib.hid hx2
     have HQ2:=Lib.hid hq2
     have HF2:=Lib.hid (HF1.out.kept ((Below.refl _ _).alloc (Nat.le_refl _) (.cells (flat encF [(⟨k,n⟩:Fact)]).toArray 44)))
     clear hx2 hq2
     go_wp2_with fail
     clear c0 c1 r0 r1 y0 y1 y2 y3 y4
     refine (Fa.vU _ [(⟨k,n⟩:Fact)] _ HX2.out (by simp)).mono ?_
     rintro en w3 ⟨x3,rfl,ho3,hb3⟩
     have HQ3:=Lib.hid (HQ2.out.trans (hb3.mono HQ2.out.size))
     have HF3:=Lib.hid (HF2.out.kept hb3)
     obtain ⟨p3,l3,rfl,hcap3,hm3,_,hc3⟩:=zq (E:=encF) (L:=[(⟨k,n⟩:Fact)]) ho3
     obtain ⟨g3,o3,rfl,hat3⟩:=hc3 0 _ rfl
     obtain ⟨f0,f1,f2,f3,f4,f5⟩:=fact6 hat3
     simp only [show encF.k=6 from rfl,Nat.zero_mul,Nat.add_zero] at f0 f1 f2 f3 f4 f5
     simp only [List.length_singleton] at hcap3 hm3 ⊢
     clear hb3 ho3 hc3 hat3 HX2 HQ2 HF2 HQ1 HF1
     have hb4:=(Below.refl w3.heap.size w3).alloc (Nat.le_refl _) (.cells #[.string k.e,.string k.a,.string k.f,.string k.p,.int .i64 k.m,.int .i64 n] 76)
     have hb6:=(Below.refl w3.heap.size w3).alloc (Nat.le_refl _) (.cells #[.string k.e,.string k.a,.string fc,.string k.p,.int .i64 1,.int .i64 n] 76)
     have HX6:Hid (BoxE encF (w3.alloc (.cells #[.string k.e,.string k.a,.string fc,.string k.p,.int .i64 1,.int .i64 n] 76)) w3.heap.size 76 (⟨⟨k.e,k.a,fc,k.p,1⟩,n⟩:Fact)):=Lib.hid (BoxE.new encF w3 (⟨⟨k.e,k.a,fc,k.p,1⟩,n⟩:Fact) _)
     have HQ6:=Lib.hid (HQ3.out.trans (hb6.mono HQ3.out.size))
     obtain ⟨c0,c1⟩:=Fl.box (HF3.out.kept hb4)
     obtain ⟨j0,j1,j2,j3,j4,j5⟩:=fact6 HX6.out.at0
     simp only [Nat.zero_add] at j0 j1 j2 j3 j4 j5
     have hq6:=HQ.out.trans (HQ6.out.mono HQ.out.size)
     obtain ⟨n0,n1,n2,n3,n4,n5,n6,n7,n8⟩:=HT7.out.nine.kept hq6
     have HCM:=Lib.hid (HCK.out _ (HT7.out.keep hq6).mast)
     clear hb4 hb6 hq6
     go_wp2_with fail
     clear c0 c1 j0 j1 j2 j3 j4 j5 f0 f1 f2 f3 f4 f5 n0 n1 n2 n3 n4 n5 n6 n7 n8
     refine HCM.out.mono ?_
     rintro en w4 ⟨rfl,hb7⟩
     have HQ7:=Lib.hid (HQ6.out.trans (hb7.mono HQ6.out.size))
     have HX7:=Lib.hid (HX6.out.kept hb7)
     have HBW:=Lib.hid (HQ.out.trans (HQ7.out.mono HQ.out.size))
     clear hb7 HQ6 HX6 HCM HCK HQ3 HF3
     by_cases hce:CE=0
     ·subst hce
      have HO7:=Lib.hid (zu HO.out HQ7.out)
      obtain ⟨j0,j1,j2,j3,j4,j5⟩:=fact6 HX7.out.at0
      simp only [Nat.zero_add] at j0 j1 j2 j3 j4 j5
      go_wp2_with (at_builtin;refine zx (E:=encF) rfl _ _ 48 76 rfl Fa.infoT w7.heap.size (moreF (M.flows.take i) k n) (⟨⟨k.e,k.a,fc,k.p,1⟩,n⟩:Fact) w4.heap.size (HO7.out.alloc _) rfl (zf encF w4 (⟨⟨k.e,k.a,fc,k.p,1⟩,n⟩:Fact) _) (by have:=HBW.out.size;simp;omega) (by have:=HLI.out;omega) ?_;intro v9 w9 hr9 hb9 hg9)
      have HR9:=Lib.hid hr9
      have HB9:Hid (Below w7.heap.size w7 w9):=Lib.hid ((HBW.out.alloc HBW.out.size _).trans hb9)
      clear hr9 hb9 hg9 j0 j1 j2 j3 j4 j5
      go_wp2
      go_roundw
      case rel=>exact ⟨i+1,by go_num,by omega,by rw [HMS.out];exact HR9,HB9⟩
      case measure=>simp [intOf];omega
     ·have hce1:(CE != 0)=true:=by simpa using hce
      have HBF:=Lib.hid (HB7.out.trans (HBW.out.mono HB7.out.size))
      clear hce
      go_wp2
      go_ret
      exact ⟨rfl,HBF.out⟩
    ·obtain ⟨c0,c1⟩:=Fl.box HF1.out
     obtain ⟨y0,y1,y2,y3,y4⟩:=key5 (HKB7.out.kept (HQ.out.trans (HQ1.out.mono HQ.out.size))).at0
     simp only [Nat.zero_add] at y0 y1 y2 y3 y4
     have hx2:=jQ encF (wr.alloc (.cells #[.string fc,.int .i64 4] 81)) [(⟨k,n⟩:Fact)] 44 (by simp [maxLen])
     have hq2:=HQ1.out.alloc HQ1.out.size (.cells (flat encF [(⟨k,n⟩:Fact)]).toArray 44)
     rw [World.size_alloc] at hx2
     have HX2:=Lib.hid hx2
     have HQ2:=Lib.hid hq2
     have HF2:=Lib.hid (HF1.out.kept ((Below.refl _ _).alloc (Nat.le_refl _) (.cells (flat encF [(⟨k,n⟩:Fact)]).toArray 44)))
     clear hx2 hq2
     go_wp2_with fail
     clear c0 c1 r0 r1 y0 y1 y2 y3 y4
     refine (Fa.vU _ [(⟨k,n⟩:Fact)] _ HX2.out (by simp)).mono ?_
     rintro en w3 ⟨x3,rfl,ho3,hb3⟩
     have HQ3:=Lib.hid (HQ2.out.trans (hb3.mono HQ2.out.size))
     have HF3:=Lib.hid (HF2.out.kept hb3)
     obtain ⟨p3,l3,rfl,hcap3,hm3,_,hc3⟩:=zq (E:=encF) (L:=[(⟨k,n⟩:Fact)]) ho3
     obtain ⟨g3,o3,rfl,hat3⟩:=hc3 0 _ rfl
     obtain ⟨f0,f1,f2,f3,f4,f5⟩:=fact6 hat3
     simp only [show encF.k=6 from rfl,Nat.zero_mul,Nat.add_zero] at f0 f1 f2 f3 f4 f5
     simp only [List.length_singleton] at hcap3 hm3 ⊢
     clear hb3 ho3 hc3 hat3 HX2 HQ2 HF2 HQ1 HF1
     have hb4:=(Below.refl w3.heap.size w3).alloc (Nat.le_refl _) (.cells #[.string k.e,.string k.a,.string k.f,.string k.p,.int .i64 k.m,.int .i64 n] 76)
     have hb6:=(Below.refl w3.heap.size w3).alloc (Nat.le_refl _) (.cells #[.string k.e,.string k.a,.string fc,.string k.p,.int .i64 1,.int .i64 n] 76)
     have HX6:Hid (BoxE encF (w3.alloc (.cells #[.string k.e,.string k.a,.string fc,.string k.p,.int .i64 1,.int .i64 n] 76)) w3.heap.size 76 (⟨⟨k.e,k.a,fc,k.p,1⟩,n⟩:Fact)):=Lib.hid (BoxE.new encF w3 (⟨⟨k.e,k.a,fc,k.p,1⟩,n⟩:Fact) _)
     have HQ6:=Lib.hid (HQ3.out.trans (hb6.mono HQ3.out.size))
     obtain ⟨c0,c1⟩:=Fl.box (HF3.out.kept hb4)
     obtain ⟨j0,j1,j2,j3,j4,j5⟩:=fact6 HX6.out.at0
     simp only [Nat.zero_add] at j0 j1 j2 j3 j4 j5
     have hq6:=HQ.out.trans (HQ6.out.mono HQ.out.size)
     obtain ⟨n0,n1,n2,n3,n4,n5,n6,n7,n8⟩:=HT7.out.nine.kept hq6
     have HCM:=Lib.hid (HCK.out _ (HT7.out.keep hq6).mast)
     clear hb4 hb6 hq6
     go_wp2_with fail
     clear c0 c1 j0 j1 j2 j3 j4 j5 f0 f1 f2 f3 f4 f5 n0 n1 n2 n3 n4 n5 n6 n7 n8
     refine HCM.out.mono ?_
     rintro en w4 ⟨rfl,hb7⟩
     have HQ7:=Lib.hid (HQ6.out.trans (hb7.mono HQ6.out.size))
     have HX7:=Lib.hid (HX6.out.kept hb7)
     have HBW:=Lib.hid (HQ.out.trans (HQ7.out.mono HQ.out.size))
     clear hb7 HQ6 HX6 HCM HCK HQ3 HF3
     by_cases hce:CE=0
     ·subst hce
      have HO7:=Lib.hid (zu HO.out HQ7.out)
      obtain ⟨j0,j1,j2,j3,j4,j5⟩:=fact6 HX7.out.at0
      simp only [Nat.zero_add] at j0 j1 j2 j3 j4 j5
      go_wp2_with (at_builtin;refine zx (E:=encF) rfl _ _ 48 76 rfl Fa.infoT w7.heap.size (moreF (M.flows.take i) k n) (⟨⟨k.e,k.a,fc,k.p,1⟩,n⟩:Fact) w4.heap.size (HO7.out.alloc _) rfl (zf encF w4 (⟨⟨k.e,k.a,fc,k.p,1⟩,n⟩:Fact) _) (by have:=HBW.out.size;simp;omega) (by have:=HLI.out;omega) ?_;intro v9 w9 hr9 hb9 hg9)
      have HR9:=Lib.hid hr9
      have HB9:Hid (Below w7.heap.size w7 w9):=Lib.hid ((HBW.out.alloc HBW.out.size _).trans hb9)
      clear hr9 hb9 hg9 j0 j1 j2 j3 j4 j5
      go_wp2
      go_roundw
      case rel=>exact ⟨i+1,by go_num,by omega,by rw [HMS.out];exact HR9,HB9⟩
      case measure=>simp [intOf];omega
     ·have hce1:(CE != 0)=true:=by simpa using hce
      have HBF:=Lib.hid (HB7.out.trans (HBW.out.mono HB7.out.size))
      clear hce
      go_wp2
      go_ret
      exact ⟨rfl,HBF.out⟩
   ·have HMS:Hid (moreF (M.flows.take (i+1)) k n=(moreF (M.flows.take i) k n)):=Lib.hid (by rw [HTK.out,HSF.out,if_neg h04])
    have hk0:(fk==0)=false:=by rw [beq_eq_false_iff_ne];exact fun e=>h04 (.inl e)
    have hk4:(fk==4)=false:=by rw [beq_eq_false_iff_ne];exact fun e=>h04 (.inr e)
    have HO1:=Lib.hid (zu HO.out HQ1.out)
    have HB1:=Lib.hid (HQ.out.trans (HQ1.out.mono HQ.out.size))
    obtain ⟨c0,c1⟩:=Fl.box HF1.out
    clear h04 HSF HTK HQ1 HF1
    go_wp2
    go_roundw
    case rel=>exact ⟨i+1,by go_num,by omega,by rw [HMS.out];exact HO1,HB1⟩
    case measure=>simp [intOf];omega
  ·have hil:i=M.flows.length:=by omega
   have HV:=Lib.hid (show FactsV wr u12 (moreF M.flows k n) by
    have h:=HO.out
    rw [List.take_of_length_le (by omega)] at h
    exact zq (E:=encF) h)
   obtain ⟨R,hR⟩:∃ R,Fa.ofL (C++moreF M.flows k n)=R:=⟨_,rfl⟩
   have HDA:Hid (∀ x∈R.1,In64 x.amt):=Lib.hid (by rw [←hR];exact ZW _)
   have HDL:Hid (R.1.length≤1000):=Lib.hid (by rw [←hR];have h1:=Fa.y6 (C++moreF M.flows k n);have h2:=HFT.out.2;have h3:=JW M.flows k n;have h4:=HSN.out.lf;simp only [List.length_append] at h1;omega)
   have HR:=Lib.hid hR
   clear hR
   obtain ⟨D,eh⟩:=R
   dsimp only at HDA HDL
   have had:=Fa.Yd _ _ C (moreF M.flows k n) wr (ElsV.keep HVC7.out HQ.out) HV.out HFT.out.1 (zfd HN64.out) (by have h2:=HFT.out.2;have h3:=JW M.flows k n;have h4:=HSN.out.lf;omega)
   rw [HR.out] at had
   have HAD:=Lib.hid had
   obtain ⟨p12,c12,rfl,_⟩:=id HV.out
   clear had HO HV
   go_wp2_with fail
   refine HAD.out.mono ?_
   rintro en w14 ⟨u14,rfl,hv14,hb14⟩
   dsimp only at hv14
   obtain ⟨q14,k14,rfl,_⟩:=id hv14
   have HVD14:=Lib.hid hv14
   have HQ14:=Lib.hid (HQ.out.trans (hb14.mono HQ.out.size))
   clear hv14 hb14 HAD HQ
   by_cases her:er=0
   ·by_cases hh:eh=0
    ·subst her hh
     have HPD:=Lib.hid (x5 HPR.out HSZ.out)
     obtain ⟨gc,hgc⟩:∃ g,gapP M C (plc k)=g:=⟨_,rfl⟩
     obtain ⟨gd,hgd⟩:∃ g,gapP M D (plc k)=g:=⟨_,rfl⟩
     obtain ⟨wc,hwc⟩:∃ g,weighP M C k.e 1=g:=⟨_,rfl⟩
     obtain ⟨wd,hwd⟩:∃ g,weighP M D k.e 1=g:=⟨_,rfl⟩
     have HGC:=Lib.hid hgc
     have HGD:=Lib.hid hgd
     have HWC:=Lib.hid hwc
     have HWD:=Lib.hid hwd
     clear hgc hgd hwc hwd
     obtain ⟨gb,ei⟩:=gc
     obtain ⟨ga,ej⟩:=gd
     obtain ⟨wb,eu⟩:=wc
     obtain ⟨wa,ev⟩:=wd
     have HG3:Hid ((ei != 0)=true∨(ei=0∧(ej != 0)=true)∨(ei=0∧ej=0∧ga=gb)):=Lib.hid (by
      by_cases h1:ei=0
      ·by_cases h2:ej=0
       ·refine .inr (.inr ⟨h1,h2,?_⟩)
        have:=zfr (p:=plc k) HSN.out.fl HTW.out.2.1 HTW.out.2.2 HR.out (by rw [HGC.out];exact h1) (by rw [HGD.out];exact h2)
        rw [HGC.out,HGD.out] at this
        exact this
       ·exact .inr (.inl ⟨h1,by simpa using h2⟩)
      ·exact .inl (by simpa using h1))
     have HW3:Hid ((eu != 0)=true∨(eu=0∧(ev != 0)=true)∨(eu=0∧ev=0∧wa=wb)):=Lib.hid (by
      by_cases h1:eu=0
      ·by_cases h2:ev=0
       ·refine .inr (.inr ⟨h1,h2,?_⟩)
        have:=zg5 (e:=k.e) HSN.out.fl HR.out (by rw [HWC.out];exact h1) (by rw [HWD.out];exact h2)
        rw [HWC.out,HWD.out] at this
        exact this
       ·exact .inr (.inl ⟨h1,by simpa using h2⟩)
      ·exact .inl (by simpa using h1))
     have HCC:Hid (∀ W (v:Value),MastIn W (.slice pc M.chart.length cc) (.slice pf M.flows.length cf) (.slice pe M.ents.length ce) (.slice pl M.lines.length cl) M→FactsV W v C→Calls Tryz.prog 13 #[aggM (.slice pc M.chart.length cc) (.slice pf M.flows.length cf) (.slice pe M.ents.length ce) (.slice pl M.lines.length cl) M,v,.string k.e,.string k.a,.string k.p] W fun en w'=>en=.returned (.tuple #[.int .i64 gb,.int .i64 ei])∧Below W.heap.size W w'):=Lib.hid fun W v h1 h2=>by
      have:=(HPD.out.giv HSN.out h1 h2).gap (plc k) rfl
      rw [HGC.out] at this
      exact this
     have HCD:Hid (∀ W (v:Value),MastIn W (.slice pc M.chart.length cc) (.slice pf M.flows.length cf) (.slice pe M.ents.length ce) (.slice pl M.lines.length cl) M→FactsV W v D→Calls Tryz.prog 13 #[aggM (.slice pc M.chart.length cc) (.slice pf M.flows.length cf) (.slice pe M.ents.length ce) (.slice pl M.lines.length cl) M,v,.string k.e,.string k.a,.string k.p] W fun en w'=>en=.returned (.tuple #[.int .i64 ga,.int .i64 ej])∧Below W.heap.size W w'):=Lib.hid fun W v h1 h2=>by
      have hg:Giv W (.slice pc M.chart.length cc) (.slice pf M.flows.length cf) (.slice pe M.ents.length ce) (.slice pl M.lines.length cl) v M D:=⟨h1,HRC.out,HLF.out,h2,HDL.out,HDA.out⟩
      have:=hg.gap (plc k) rfl
      rw [HGD.out] at this
      exact this
     have HWX:Hid (∀ W (v:Value),MastIn W (.slice pc M.chart.length cc) (.slice pf M.flows.length cf) (.slice pe M.ents.length ce) (.slice pl M.lines.length cl) M→FactsV W v C→Calls Tryz.prog 16 #[aggM (.slice pc M.chart.length cc) (.slice pf M.flows.length cf) (.slice pe M.ents.length ce) (.slice pl M.lines.length cl) M,v,.string k.e,.int .i64 1] W fun en w'=>en=.returned (.tuple #[.int .i64 wb,.int .i64 eu])∧Below W.heap.size W w'):=Lib.hid fun W v h1 h2=>by
      have:=(HPD.out.giv HSN.out h1 h2).weigh k.e 1
      rw [HWC.out] at this
      exact this
     have HWY:Hid (∀ W (v:Value),MastIn W (.slice pc M.chart.length cc) (.slice pf M.flows.length cf) (.slice pe M.ents.length ce) (.slice pl M.lines.length cl) M→FactsV W v D→Calls Tryz.prog 16 #[aggM (.slice pc M.chart.length cc) (.slice pf M.flows.length cf) (.slice pe M.ents.length ce) (.slice pl M.lines.length cl) M,v,.string k.e,.int .i64 1] W fun en w'=>en=.returned (.tuple #[.int .i64 wa,.int .i64 ev])∧Below W.heap.size W w'):=Lib.hid fun W v h1 h2=>by
      have hg:Giv W (.slice pc M.chart.length cc) (.slice pf M.flows.length cf) (.slice pe M.ents.length ce) (.slice pl M.lines.length cl) v M D:=⟨h1,HRC.out,HLF.out,h2,HDL.out,HDA.out⟩
      have:=hg.weigh k.e 1
      rw [HWD.out] at this
      exact this
     clear HGC HGD HWC HWD HR HPD HPR
     obtain ⟨n0,n1,n2,n3,n4,n5,n6,n7,n8⟩:=HT7.out.nine.kept HQ14.out
     obtain ⟨y0,y1,y2,y3,y4⟩:=key5 (HKB7.out.kept HQ14.out).at0
     simp only [Nat.zero_add] at y0 y1 y2 y3 y4
     go_wp2_with fail
     clear y0 y1 y2 y3 y4 n0 n1 n2 n3 n4 n5 n6 n7 n8
     refine (HCC.out _ _ (HT7.out.keep HQ14.out).mast (ElsV.keep HVC7.out HQ14.out)).mono ?_
     rintro en w15 ⟨rfl,hb15⟩
     have HQ15:=Lib.hid (HQ14.out.trans (hb15.mono HQ14.out.size))
     have HVD15:=Lib.hid (ElsV.keep HVD14.out hb15)
     clear hb15 HQ14 HVD14 HCC
     obtain ⟨n0,n1,n2,n3,n4,n5,n6,n7,n8⟩:=HT7.out.nine.kept HQ15.out
     obtain ⟨y0,y1,y2,y3,y4⟩:=key5 (HKB7.out.kept HQ15.out).at0
     simp only [Nat.zero_add] at y0 y1 y2 y3 y4
     go_wp2_with fail
     clear y0 y1 y2 y3 y4 n0 n1 n2 n3 n4 n5 n6 n7 n8
     refine (HCD.out _ _ (HT7.out.keep HQ15.out).mast HVD15.out).mono ?_
     rintro en w16 ⟨rfl,hb16⟩
     have HQ16:=Lib.hid (HQ15.out.trans (hb16.mono HQ15.out.size))
     have HVD16:=Lib.hid (ElsV.keep HVD15.out hb16)
     clear hb16 HQ15 HVD15 HCD
     obtain ⟨n0,n1,n2,n3,n4,n5,n6,n7,n8⟩:=HT7.out.nine.kept HQ16.out
     obtain ⟨y0,y1,y2,y3,y4⟩:=key5 (HKB7.out.kept HQ16.out).at0
     simp only [Nat.zero_add] at y0 y1 y2 y3 y4
     go_wp2_with fail
     clear y0 y1 y2 y3 y4 n0 n1 n2 n3 n4 n5 n6 n7 n8
     refine (HWX.out _ _ (HT7.out.keep HQ16.out).mast (ElsV.keep HVC7.out HQ16.out)).mono ?_
     rintro en w17 ⟨rfl,hb17⟩
     have HQ17:=Lib.hid (HQ16.out.trans (hb17.mono HQ16.out.size))
     have HVD17:=Lib.hid (ElsV.keep HVD16.out hb17)
     clear hb17 HQ16 HVD16 HWX
     obtain ⟨n0,n1,n2,n3,n4,n5,n6,n7,n8⟩:=HT7.out.nine.kept HQ17.out
     obtain ⟨y0,y1,y2,y3,y4⟩:=key5 (HKB7.out.kept HQ17.out).at0
     simp only [Nat.zero_add] at y0 y1 y2 y3 y4
     go_wp2_with fail
     clear y0 y1 y2 y3 y4 n0 n1 n2 n3 n4 n5 n6 n7 n8
     refine (HWY.out _ _ (HT7.out.keep HQ17.out).mast HVD17.out).mono ?_
     rintro en w18 ⟨rfl,hb18⟩
     have HQ18:=Lib.hid (HQ17.out.trans (hb18.mono HQ17.out.size))
     have HVD18:=Lib.hid (ElsV.keep HVD17.out hb18)
     clear hb18 HQ17 HVD17 HWY
     have HBZ:=Lib.hid (HB7.out.trans (HQ18.out.mono HB7.out.size))
     clear HQ18 HVD18 HT7 HB7 HVC7 HKB7
     rcases HG3.out with hi1 | ⟨rfl,hj1⟩ | ⟨rfl,rfl,rfl⟩ <;> rcases HW3.out with hu1 | ⟨rfl,hv1⟩ | ⟨rfl,rfl,rfl⟩
     all_goals
      clear HG3 HW3
      go_wp2
      go_ret
      exact ⟨rfl,HBZ.out⟩
    ·have hh1:(eh != 0)=true:=by simpa using hh
     have HBF:=Lib.hid (HB7.out.trans (HQ14.out.mono HB7.out.size))
     clear hh
     subst her
     go_wp2
     go_ret
     exact ⟨rfl,HBF.out⟩
   ·have her1:(er != 0)=true:=by simpa using her
    have HBF:=Lib.hid (HB7.out.trans (HQ14.out.mono HB7.out.size))
    clear her
    go_wp2
    go_ret
    exact ⟨rfl,HBF.out⟩
end Go.Proofs.YtdhfpgjnjlcciaaGreatDoor.Co
