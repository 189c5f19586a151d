/- CsPlain CourseGroup -/
import Derived.Test.YthcpglnmhimepaaGreatDoorS47
section
namespace Go.Proofs.YthcpglnmhimepaaGreatDoor.Cs
open Go.RowKit Go.Proofs.YthcpglnmhimepaaGreatDoor.Un Go.Proofs.YthcpglnmhimepaaGreatDoor.Pk
theorem of_group {M:Mast} (L:List Crs) {f:ByteArray} (hf:hasFl M f=true):ofC M L M.cur f=if kindF M f=2 then ((0,0),8) else ((1,1),0):=by
 unfold ofC
 rw [hf,if_neg (by simp)]
 split
 ·rfl
 ·rw [if_pos rfl]
theorem of_none {M:Mast} {c f:ByteArray} (hf:hasFl M f=true) (h2:kindF M f≠2) (hc:c≠M.cur):ofC M [] c f=((0,0),10):=by
 unfold ofC
 rw [hf,if_neg (by simp),if_neg h2,if_neg hc]
 rfl
end Go.Proofs.YthcpglnmhimepaaGreatDoor.Cs
end
section
namespace Go.Proofs.YthcpglnmhimepaaGreatDoor.Cs
open Go.RowKit Go.Maps Go.Proofs.YthcpglnmhimepaaGreatDoor.Un Go.Proofs.YthcpglnmhimepaaGreatDoor.Pk
def tNone:ByteArray:=⟨#[110,111,110,101]⟩
theorem none_list:tNone.toList=[110,111,110,101]:=by kernel_rfl
theorem two_tabs (w:World) (x y:Value) (t:TypeId):(w.alloc (.cells #[x,y] t)).cell? ⟨w.heap.size,0,none⟩=some x∧(w.alloc (.cells #[x,y] t)).cell? ⟨w.heap.size,1,none⟩=some y :=
 ⟨(cell_of_row _ w.heap.size 0 _ t (0,0) (heap_alloc_new w _)).trans rfl,(cell_of_row _ w.heap.size 1 _ t (0,0) (heap_alloc_new w _)).trans rfl⟩
theorem tab_of_two {M:Mast} {w:World} {b:Nat} {p:Option Addr} {n c:Nat} {L:List Crs} (h0:w.cell? ⟨b,0,none⟩=some (.slice p n c)) (h1:w.cell? ⟨b,1,none⟩=some (.slice none 0 0)) (hV:TabV w (.slice p n c) L) (hO:TabOk M L) {j:Nat} (hj:j < 2):∃ pt nt ct LL,w.cell? ⟨b,j,none⟩=some (.slice pt nt ct)∧TabV w (.slice pt nt ct) LL∧TabOk M LL:=by
 match j,hj with
 | 0,_=>exact ⟨p,n,c,L,h0,hV,hO⟩
 | 1,_=>exact ⟨none,0,0,[],h1,ElsV.nil _,TabOk.nil M⟩
theorem fl_box (w:World) (x:Fl.Flow):(w.alloc (.cells #[.string x.code,.int .i64 x.kind] 70)).cell? ⟨w.heap.size,0,none⟩=some (.string x.code)∧(w.alloc (.cells #[.string x.code,.int .i64 x.kind] 70)).cell? ⟨w.heap.size,1,none⟩=some (.int .i64 x.kind) :=
 two_tabs w _ _ _
theorem group_of {M:Mast} (ho:MastOk M) (L:List Crs) {x:Fl.Flow} (hx:x∈M.flows):ofC M L M.cur x.code=if x.kind=2 then ((0,0),8) else ((1,1),0):=by
 obtain ⟨h1,h2⟩:=ho.self x hx
 rw [of_group L h1,h2]
theorem none_of {M:Mast} (ho:MastOk M) {x:Fl.Flow} (hx:x∈M.flows) (hk:x.kind≠2) (hc:M.cur≠tNone):ofC M [] tNone x.code=((0,0),10):=by
 obtain ⟨h1,h2⟩:=ho.self x hx
 exact of_none h1 (by rw [h2];exact hk) (fun e=>hc e.symm)
set_option maxRecDepth 100000 in
set_option maxHeartbeats 16000000 in
theorem courseGroup_walk (s0 s1:ByteArray) (w:World) (_hs0:s0.size≤maxLen) (_hs1:s1.size≤maxLen) (hU:LaidP w):Calls Tryz.prog 7 #[.string s0,.string s1] w fun en w'=>en=.returned (.bool true)∧Below w.heap.size w w':=by
 clear _hs0 _hs1
 have HB0:=Lib.hid (Below.refl w.heap.size w)
 have HL0:=Lib.hid hU
 clear hU
 go_enter Tryz.func7,Tryz.ntmps7
 go_wp2_with fail
 refine (alive14_any _ HL0.out).mono ?_
 rintro en w1 ⟨rfl,hb1⟩
 have HB1:=Lib.hid (HB0.out.trans (hb1.mono HB0.out.size))
 have HL1:=Lib.hid (HL0.out.keep hb1)
 clear HB0 HL0
 clear hb1
 go_wp2_with fail
 refine (master_any s0 _ HL1.out.1 HL1.out.2.1).mono ?_
 rintro en w2 ⟨M,c,f,e,l,c',f',e',l',is,rfl,hm,hm',hb2,his⟩
 obtain ⟨pc,cc,pf,cf,pe,ce,pl,cl,rfl,rfl,rfl,rfl⟩:=shapes hm
 obtain ⟨pc',cc',pf',cf',pe',ce',pl',cl',rfl,rfl,rfl,rfl⟩:=shapes hm'
 have HM2:=Lib.hid hm
 have HM2':=Lib.hid hm'
 have HB2:=Lib.hid (HB1.out.trans (hb2.mono HB1.out.size))
 have HL2:=Lib.hid (HL1.out.keep hb2)
 clear HB1 HL1
 have HIS:=Lib.hid his
 clear hm hm' hb2 his
 by_cases hbig:3000 < s1.size
 ·cases is
  all_goals
   go_wp2_with (first
    | (refine wpList_store_mast rfl 30 (.tmp 5) (.tmp 23) rfl w2.heap.size nil4 nil4 nil4 nil4 (.slice pc M.chart.length cc) (.slice pf M.flows.length cf) (.slice pe M.ents.length ce) (.slice pl M.lines.length cl) zeroM M 30 rfl rfl (start1 w2) ⟨rfl,rfl,rfl,rfl⟩ (by kernel_rfl) ?_;intro w3 hb3 hg3;have HX3:=Lib.hid hb3;have HG3:=Lib.hid hg3;clear hb3 hg3)
    | (refine wpList_store_mast rfl 36 (.tmp 6) (.tmp 24) rfl (w2.heap.size+1) nil4 nil4 nil4 nil4 (.slice pc' M.chart.length cc') (.slice pf' M.flows.length cf') (.slice pe' M.ents.length ce') (.slice pl' M.lines.length cl') zeroM M 36 rfl rfl (start_keep HG3.out) ⟨rfl,rfl,rfl,rfl⟩ (by kernel_rfl) ?_;intro w4 hb4 hg4;have HT4:=Lib.hid (two_of HM2.out HM2'.out HX3.out HG3.out hb4 hg4);clear hb4 hg4;have HB4:=Lib.hid (HB2.out.trans (HT4.out.bel.mono HB2.out.size));have HL4:=Lib.hid (HL2.out.keep HT4.out.bel);obtain ⟨n0,n1,n2,n3,n4,n5,n6,n7,n8⟩:=HT4.out.nine)
    | fail)
   go_ret
   exact ⟨rfl,HB4.out⟩
 cases is with
 | false =>
   go_wp2_with (first
    | (refine wpList_store_mast rfl 30 (.tmp 5) (.tmp 23) rfl w2.heap.size nil4 nil4 nil4 nil4 (.slice pc M.chart.length cc) (.slice pf M.flows.length cf) (.slice pe M.ents.length ce) (.slice pl M.lines.length cl) zeroM M 30 rfl rfl (start1 w2) ⟨rfl,rfl,rfl,rfl⟩ (by kernel_rfl) ?_;intro w3 hb3 hg3;have HX3:=Lib.hid hb3;have HG3:=Lib.hid hg3;clear hb3 hg3)
    | (refine wpList_store_mast rfl 36 (.tmp 6) (.tmp 24) rfl (w2.heap.size+1) nil4 nil4 nil4 nil4 (.slice pc' M.chart.length cc') (.slice pf' M.flows.length cf') (.slice pe' M.ents.length ce') (.slice pl' M.lines.length cl') zeroM M 36 rfl rfl (start_keep HG3.out) ⟨rfl,rfl,rfl,rfl⟩ (by kernel_rfl) ?_;intro w4 hb4 hg4;have HT4:=Lib.hid (two_of HM2.out HM2'.out HX3.out HG3.out hb4 hg4);clear hb4 hg4;have HB4:=Lib.hid (HB2.out.trans (HT4.out.bel.mono HB2.out.size));have HL4:=Lib.hid (HL2.out.keep HT4.out.bel);obtain ⟨n0,n1,n2,n3,n4,n5,n6,n7,n8⟩:=HT4.out.nine)
    | fail)
   go_ret
   exact ⟨rfl,HB4.out⟩
 | true =>
 go_wp2_with (first
  | (refine wpList_store_mast rfl 30 (.tmp 5) (.tmp 23) rfl w2.heap.size nil4 nil4 nil4 nil4 (.slice pc M.chart.length cc) (.slice pf M.flows.length cf) (.slice pe M.ents.length ce) (.slice pl M.lines.length cl) zeroM M 30 rfl rfl (start1 w2) ⟨rfl,rfl,rfl,rfl⟩ (by kernel_rfl) ?_;intro w3 hb3 hg3;have HX3:=Lib.hid hb3;have HG3:=Lib.hid hg3;clear hb3 hg3)
  | (refine wpList_store_mast rfl 36 (.tmp 6) (.tmp 24) rfl (w2.heap.size+1) nil4 nil4 nil4 nil4 (.slice pc' M.chart.length cc') (.slice pf' M.flows.length cf') (.slice pe' M.ents.length ce') (.slice pl' M.lines.length cl') zeroM M 36 rfl rfl (start_keep HG3.out) ⟨rfl,rfl,rfl,rfl⟩ (by kernel_rfl) ?_;intro w4 hb4 hg4;have HT4:=Lib.hid (two_of HM2.out HM2'.out HX3.out HG3.out hb4 hg4);clear hb4 hg4;have HB4:=Lib.hid (HB2.out.trans (HT4.out.bel.mono HB2.out.size));have HL4:=Lib.hid (HL2.out.keep HT4.out.bel);obtain ⟨n0,n1,n2,n3,n4,n5,n6,n7,n8⟩:=HT4.out.nine)
  | fail)
 clear HM2 HM2' HB2 HL2 HX3 HG3
 have ho:=mast_ok (HIS.out (by first | trivial | rfl)).1
 have HO:=Lib.hid ho
 clear ho
 have hs1:s1.size≤3000:=by omega
 have HTO:=Lib.hid (tab_ok M s1 (by omega))
 have HPP:=Lib.hid (fun W h hL=>pparse_ok (c:=(.slice pc M.chart.length cc)) (f:=(.slice pf M.flows.length cf)) (e:=(.slice pe M.ents.length ce)) (l:=(.slice pl M.lines.length cl)) s1 W h HO.out (by omega) hL)
 obtain ⟨P,hP⟩:∃ P,parseC M s1=P:=⟨_,rfl⟩
 simp only [hP] at HPP HTO
 obtain ⟨L,E⟩:=P
 dsimp only at HTO
 have HPR:=Lib.hid (fun W (v:Value) hV hL=>pprint_ok (v:=v) (M:=M) (L:=L) W hV HTO.out hL)
 have HPO:=Lib.hid (fun (c f:ByteArray) (LL:List Crs) (hLL:TabRd M LL) W (v:Value) h hV=>pof_ok (cv:=(.slice pc M.chart.length cc)) (fv:=(.slice pf M.flows.length cf)) (e:=(.slice pe M.ents.length ce)) (l:=(.slice pl M.lines.length cl)) (v:=v) (M:=M) (L:=LL) c f W h HO.out hV hLL)
 obtain ⟨S,hS⟩:∃ S,printC L=S:=⟨_,rfl⟩
 simp only [hS] at HPR
 clear hs1 hbig hP hS HIS n0 n1 n2 n3 n4 n5 n6 n7 n8
 refine (HPP.out _ HT4.out.mast HL4.out).mono ?_
 rintro en w5 ⟨v5,rfl,hv5,hb5⟩
 dsimp only at hv5 ⊢
 obtain ⟨p5,c5,rfl⟩:=tab_slice hv5
 obtain ⟨l5,hl5⟩:∃ l,L.length=l:=⟨_,rfl⟩
 rw [hl5] at hv5 ⊢
 have hc5:=hb5.alloc hb5.size (.cells #[.slice p5 l5 c5] 41)
 have hx5:=(Below.refl w5.heap.size w5).alloc (Nat.le_refl _) (.cells #[.slice p5 l5 c5] 41)
 have hk5:=tab_box w5 (.slice p5 l5 c5)
 have hv5':=tab_keep hv5 hx5
 obtain ⟨W5,hW5⟩:∃ W5,w5.alloc (.cells #[.slice p5 l5 c5] 41)=W5:=⟨_,rfl⟩
 rw [hW5] at hc5 hk5 hv5'
 have HV5:=Lib.hid hv5'
 have HK5:=Lib.hid hk5
 have HB5:=Lib.hid (HB4.out.trans (hc5.mono HB4.out.size))
 have HL5:=Lib.hid (HL4.out.keep hc5)
 have HT5:=Lib.hid (HT4.out.keep hc5)
 clear HB4 HL4 HT4
 clear hl5 hv5 hv5' hb5 hc5 hx5 hk5 HPP
 have hb6:=(Below.refl W5.heap.size W5).alloc (Nat.le_refl _) (.cells #[.slice p5 l5 c5,.slice none 0 0] 41)
 obtain ⟨ha0,ha1⟩:=two_tabs W5 (.slice p5 l5 c5) (.slice none 0 0) 41
 obtain ⟨W6,hW6⟩:∃ W6,W5.alloc (.cells #[.slice p5 l5 c5,.slice none 0 0] 41)=W6:=⟨_,rfl⟩
 rw [hW6] at hb6 ha0 ha1
 have k0:=HK5.out
 have HAa6:=Lib.hid ha0
 have HAb6:=Lib.hid ha1
 have HB6:=Lib.hid (HB5.out.trans (hb6.mono HB5.out.size))
 have HL6:=Lib.hid (HL5.out.keep hb6)
 have HT6:=Lib.hid (HT5.out.keep hb6)
 have HV6:=Lib.hid (tab_keep HV5.out hb6)
 have HK6:=Lib.hid ((hb6.cell (World.block_lt_of_cell? _ _ HK5.out)).trans HK5.out)
 clear HB5 HL5 HT5 HV5 HK5
 clear hb6 ha0 ha1
 obtain ⟨nf,hnf⟩:∃ nf,M.flows.length=nf:=⟨_,rfl⟩
 have HNF:=Lib.hid hnf
 have hnf60:nf≤60:=by rw [←hnf];exact HO.out.few
 clear hnf
 go_wp2
 clear k0 hW5 hW6
 go_loopw [43] (fun s43 wr=>∃ j:Nat,s43=.int .i64 (j:Int)∧j≤2∧Hid (Below W6.heap.size W6 wr)) (fun s43 _=>2 - (intOf s43).toNat)
 case atStart=>exact ⟨0,rfl,Nat.zero_le _,Lib.hid (Below.refl _ _)⟩
 case round =>
  obtain ⟨j,rfl,hj,HBR⟩:=hrel
  have HB7:=Lib.hid (HB6.out.trans (HBR.out.mono HB6.out.size))
  have HL7:=Lib.hid (HL6.out.keep HBR.out)
  have HT7:=Lib.hid (HT6.out.keep HBR.out)
  have HV7:=Lib.hid (tab_keep HV6.out HBR.out)
  have HK7:=Lib.hid ((HBR.out.cell (World.block_lt_of_cell? _ _ HK6.out)).trans HK6.out)
  have HAa7:=Lib.hid ((HBR.out.cell (World.block_lt_of_cell? _ _ HAa6.out)).trans HAa6.out)
  have HAb7:=Lib.hid ((HBR.out.cell (World.block_lt_of_cell? _ _ HAb6.out)).trans HAb6.out)
  by_cases hj2:j < 2
  ·have hjd:decide ((j:Int) < 2)=true:=decide_eq_true (by omega)
   obtain ⟨pt,nt,ct,LL,ct0,htv,hto⟩:=tab_of_two HAa7.out HAb7.out HV7.out HTO.out hj2
   have HLO:=Lib.hid hto
   have hb8:=(Below.refl wr.heap.size wr).alloc (Nat.le_refl _) (.cells #[.slice pt nt ct] 41)
   have hk8:=tab_box wr (.slice pt nt ct)
   have hv8:=tab_keep htv hb8
   obtain ⟨W8,hW8⟩:∃ W8,wr.alloc (.cells #[.slice pt nt ct] 41)=W8:=⟨_,rfl⟩
   rw [hW8] at hb8 hk8 hv8
   have HVT8:=Lib.hid hv8
   have HKT8:=Lib.hid hk8
   have HB8:=Lib.hid (HB7.out.trans (hb8.mono HB7.out.size))
   have HL8:=Lib.hid (HL7.out.keep hb8)
   have HT8:=Lib.hid (HT7.out.keep hb8)
   have HR8:=Lib.hid (HBR.out.trans (hb8.mono HBR.out.size))
   clear htv hto hb8 hk8 hv8
   obtain ⟨n0,n1,n2,n3,n4,n5,n6,n7,n8⟩:=HT8.out.nine
   rw [HNF.out] at n1
   go_wp2
   clear n0 n1 n2 n3 n4 n5 n6 n7 n8 ct0 hW8 hjd
   go_loopw [50] (fun s50 wr2=>∃ i:Nat,s50=.int .i64 (i:Int)∧i≤nf∧Hid (Below W8.heap.size W8 wr2)) (fun s50 _=>nf - (intOf s50).toNat)
   case atStart=>exact ⟨0,rfl,Nat.zero_le _,Lib.hid (Below.refl _ _)⟩
   case round =>
    obtain ⟨i,rfl,hi,HBI⟩:=hrel
    rename World=>wi
    have HB9:=Lib.hid (HB8.out.trans (HBI.out.mono HB8.out.size))
    have HL9:=Lib.hid (HL8.out.keep HBI.out)
    have HT9:=Lib.hid (HT8.out.keep HBI.out)
    have HVT9:=Lib.hid (tab_keep HVT8.out HBI.out)
    have HKT9:=Lib.hid ((HBI.out.cell (World.block_lt_of_cell? _ _ HKT8.out)).trans HKT8.out)
    by_cases hin:i < nf
    ·obtain ⟨x,hx⟩:∃ x,M.flows[i]?=some x:=⟨_,List.getElem?_eq_getElem (by rw [HNF.out];exact hin)⟩
     have hxm:=List.mem_of_getElem? hx
     obtain ⟨b,o,e',hat⟩:=Fa.ElsV.at_ HT9.out.mast.flows hx
     cases e'
     obtain ⟨d0,d1⟩:=Fl.two hat
     have HGO:=Lib.hid (group_of HO.out LL hxm)
     have HG0:=Lib.hid (group_of HO.out [] hxm)
     have HNO:=Lib.hid (fun h1 h2=>none_of HO.out hxm h1 h2)
     have hb10:=(Below.refl wi.heap.size wi).alloc (Nat.le_refl _) (.cells #[.string x.code,.int .i64 x.kind] 70)
     obtain ⟨hf0,hf1⟩:=fl_box wi x
     obtain ⟨W10,hW10⟩:∃ W10,wi.alloc (.cells #[.string x.code,.int .i64 x.kind] 70)=W10:=⟨_,rfl⟩
     rw [hW10] at hb10 hf0 hf1
     have HFa10:=Lib.hid hf0
     have HFb10:=Lib.hid hf1
     have HB10:=Lib.hid (HB9.out.trans (hb10.mono HB9.out.size))
     have HL10:=Lib.hid (HL9.out.keep hb10)
     have HT10:=Lib.hid (HT9.out.keep hb10)
     have HVT10:=Lib.hid (tab_keep HVT9.out hb10)
     have HKT10:=Lib.hid ((hb10.cell (World.block_lt_of_cell? _ _ HKT9.out)).trans HKT9.out)
     have HR10:=Lib.hid (HBI.out.trans (hb10.mono HBI.out.size))
     have HC1:=Lib.hid (HPO.out M.cur x.code LL HLO.out.rd W10 (.slice pt nt ct) HT10.out.mast HVT10.out)
     have HC2:=Lib.hid (fun W h=>HPO.out tNone x.code [] (TabOk.nil M).rd W (.slice none 0 0) h (ElsV.nil _))
     obtain ⟨xc,xk⟩:=x
     dsimp only at HGO HG0 HNO HFa10 HFb10 hf0 hf1 hW10 d0 d1 HC1 HC2
     clear hx hxm hat hb10
     by_cases hk2:xk=2
     ·subst hk2
      rw [HGO.out,if_pos rfl] at HC1
      have HC2':Hid (∃ N D G,ofC M [] tNone xc=((N,D),G)):=Lib.hid ⟨_,_,_,rfl⟩
      obtain ⟨N2,D2,G2,h2⟩:=HC2'.out
      simp only [h2] at HC2
      clear h2 HC2' HNO HG0 HGO
      obtain ⟨n0,n1,n2,n3,n4,n5,n6,n7,n8⟩:=HT10.out.nine
      have t0:=HKT10.out
      go_wp2_with fail
      clear n0 n1 n2 n3 n4 n5 n6 n7 n8 t0 hf0 hf1 d0 d1 hW10
      refine HC1.out.mono ?_
      rintro en w11 ⟨rfl,hb11⟩
      have hc11:=hb11.alloc hb11.size (.cells #[.int .i64 0,.int .i64 0] 53)
      have hr11:=Ra.RateAt.mk w11 0 0 53
      have HX11:=Lib.hid hr11
      have HB11:=Lib.hid (HB10.out.trans (hc11.mono HB10.out.size))
      have HL11:=Lib.hid (HL10.out.keep hc11)
      have HT11:=Lib.hid (HT10.out.keep hc11)
      have HVT11:=Lib.hid (tab_keep HVT10.out hc11)
      have HKT11:=Lib.hid ((hc11.cell (World.block_lt_of_cell? _ _ HKT10.out)).trans HKT10.out)
      have HFa11:=Lib.hid ((hc11.cell (World.block_lt_of_cell? _ _ HFa10.out)).trans HFa10.out)
      have HFb11:=Lib.hid ((hc11.cell (World.block_lt_of_cell? _ _ HFb10.out)).trans HFb10.out)
      have HR11:=Lib.hid (HR10.out.trans (hc11.mono HR10.out.size))
      clear HB10 HL10 HT10 HVT10 HKT10 HFa10 HFb10 HR10
      clear hb11 hc11 hr11
      obtain ⟨n0,n1,n2,n3,n4,n5,n6,n7,n8⟩:=HT11.out.nine
      have f0:=HFa11.out
      have f1:=HFb11.out
      obtain ⟨x0,x1⟩:=HX11.out
      go_wp2_with fail
      clear n0 n1 n2 n3 n4 n5 n6 n7 n8 f0 x0 x1
      refine (HC2.out _ HT11.out.mast).mono ?_
      rintro en w12 ⟨rfl,hb12⟩
      have hc12:=hb12.alloc hb12.size (.cells #[.int .i64 N2,.int .i64 D2] 53)
      have hr12:=Ra.RateAt.mk w12 N2 D2 53
      obtain ⟨W12,hW12⟩:∃ W5,w12.alloc (.cells #[.int .i64 N2,.int .i64 D2] 53)=W5:=⟨_,rfl⟩
      rw [hW12] at hc12 hr12
      have HY12:=Lib.hid hr12
      have HB12:=Lib.hid (HB11.out.trans (hc12.mono HB11.out.size))
      have HL12:=Lib.hid (HL11.out.keep hc12)
      have HT12:=Lib.hid (HT11.out.keep hc12)
      have HVT12:=Lib.hid (tab_keep HVT11.out hc12)
      have HKT12:=Lib.hid ((hc12.cell (World.block_lt_of_cell? _ _ HKT11.out)).trans HKT11.out)
      have HFa12:=Lib.hid ((hc12.cell (World.block_lt_of_cell? _ _ HFa11.out)).trans HFa11.out)
      have HFb12:=Lib.hid ((hc12.cell (World.block_lt_of_cell? _ _ HFb11.out)).trans HFb11.out)
      have HR12:=Lib.hid (HR11.out.trans (hc12.mono HR11.out.size))
      have HX12:=Lib.hid (HX11.out.keep hc12 (Nat.le_refl _))
      clear HB11 HL11 HT11 HVT11 HKT11 HFa11 HFb11 HR11 HX11
      clear hb12 hc12 hr12
      obtain ⟨n0,n1,n2,n3,n4,n5,n6,n7,n8⟩:=HT12.out.nine
      have f0:=HFa12.out
      have f1:=HFb12.out
      go_wp2
      go_roundw
      case rel=>exact ⟨i+1,by go_num,by omega,HR12⟩
      case measure=>simp [intOf];omega
     ·rw [HGO.out,if_neg hk2] at HC1
      have hk21:(xk==2)=false:=by simpa using hk2
      have hk22:(xk != 2)=true:=by simpa using hk2
      cases hcn:(M.cur.toList==tNone.toList) with
      | true =>
        have HC2':Hid (∃ N D G,ofC M [] tNone xc=((N,D),G)):=Lib.hid ⟨_,_,_,rfl⟩
        obtain ⟨N2,D2,G2,h2⟩:=HC2'.out
        simp only [h2] at HC2
        rw [none_list] at hcn
        clear h2 HC2' HNO HG0 HGO
        obtain ⟨n0,n1,n2,n3,n4,n5,n6,n7,n8⟩:=HT10.out.nine
        have t0:=HKT10.out
        go_wp2_with fail
        clear n0 n1 n2 n3 n4 n5 n6 n7 n8 t0 hf0 hf1 d0 d1 hW10
        refine HC1.out.mono ?_
        rintro en w11 ⟨rfl,hb11⟩
        have hc11:=hb11.alloc hb11.size (.cells #[.int .i64 1,.int .i64 1] 53)
        have hr11:=Ra.RateAt.mk w11 1 1 53
        obtain ⟨W11,hW11⟩:∃ W5,w11.alloc (.cells #[.int .i64 1,.int .i64 1] 53)=W5:=⟨_,rfl⟩
        rw [hW11] at hc11 hr11
        have HX11:=Lib.hid hr11
        have HB11:=Lib.hid (HB10.out.trans (hc11.mono HB10.out.size))
        have HL11:=Lib.hid (HL10.out.keep hc11)
        have HT11:=Lib.hid (HT10.out.keep hc11)
        have HVT11:=Lib.hid (tab_keep HVT10.out hc11)
        have HKT11:=Lib.hid ((hc11.cell (World.block_lt_of_cell? _ _ HKT10.out)).trans HKT10.out)
        have HFa11:=Lib.hid ((hc11.cell (World.block_lt_of_cell? _ _ HFa10.out)).trans HFa10.out)
        have HFb11:=Lib.hid ((hc11.cell (World.block_lt_of_cell? _ _ HFb10.out)).trans HFb10.out)
        have HR11:=Lib.hid (HR10.out.trans (hc11.mono HR10.out.size))
        clear HB10 HL10 HT10 HVT10 HKT10 HFa10 HFb10 HR10
        clear hb11 hc11 hr11
        obtain ⟨n0,n1,n2,n3,n4,n5,n6,n7,n8⟩:=HT11.out.nine
        have f0:=HFa11.out
        have f1:=HFb11.out
        obtain ⟨x0,x1⟩:=HX11.out
        go_wp2_with fail
        clear n0 n1 n2 n3 n4 n5 n6 n7 n8 f0 x0 x1 hW11
        refine (HC2.out _ HT11.out.mast).mono ?_
        rintro en w12 ⟨rfl,hb12⟩
        have hc12:=hb12.alloc hb12.size (.cells #[.int .i64 N2,.int .i64 D2] 53)
        have hr12:=Ra.RateAt.mk w12 N2 D2 53
        obtain ⟨W12,hW12⟩:∃ W5,w12.alloc (.cells #[.int .i64 N2,.int .i64 D2] 53)=W5:=⟨_,rfl⟩
        rw [hW12] at hc12 hr12
        have HY12:=Lib.hid hr12
        have HB12:=Lib.hid (HB11.out.trans (hc12.mono HB11.out.size))
        have HL12:=Lib.hid (HL11.out.keep hc12)
        have HT12:=Lib.hid (HT11.out.keep hc12)
        have HVT12:=Lib.hid (tab_keep HVT11.out hc12)
        have HKT12:=Lib.hid ((hc12.cell (World.block_lt_of_cell? _ _ HKT11.out)).trans HKT11.out)
        have HFa12:=Lib.hid ((hc12.cell (World.block_lt_of_cell? _ _ HFa11.out)).trans HFa11.out)
        have HFb12:=Lib.hid ((hc12.cell (World.block_lt_of_cell? _ _ HFb11.out)).trans HFb11.out)
        have HR12:=Lib.hid (HR11.out.trans (hc12.mono HR11.out.size))
        have HX12:=Lib.hid (HX11.out.keep hc12 (Nat.le_refl _))
        clear HB11 HL11 HT11 HVT11 HKT11 HFa11 HFb11 HR11 HX11
        clear hb12 hc12 hr12
        obtain ⟨n0,n1,n2,n3,n4,n5,n6,n7,n8⟩:=HT12.out.nine
        have f0:=HFa12.out
        have f1:=HFb12.out
        go_wp2
        go_roundw
        case rel=>exact ⟨i+1,by go_num,by omega,HR12⟩
        case measure=>simp [intOf];omega
      | false =>
        rw [HNO.out hk2 ((Lib.bytes_beq_false_iff _ _).1 hcn)] at HC2
        rw [none_list] at hcn
        clear HNO HG0 HGO
        obtain ⟨n0,n1,n2,n3,n4,n5,n6,n7,n8⟩:=HT10.out.nine
        have t0:=HKT10.out
        go_wp2_with fail
        clear n0 n1 n2 n3 n4 n5 n6 n7 n8 t0 hf0 hf1 d0 d1 hW10
        refine HC1.out.mono ?_
        rintro en w11 ⟨rfl,hb11⟩
        have hc11:=hb11.alloc hb11.size (.cells #[.int .i64 1,.int .i64 1] 53)
        have hr11:=Ra.RateAt.mk w11 1 1 53
        obtain ⟨W11,hW11⟩:∃ W5,w11.alloc (.cells #[.int .i64 1,.int .i64 1] 53)=W5:=⟨_,rfl⟩
        rw [hW11] at hc11 hr11
        have HX11:=Lib.hid hr11
        have HB11:=Lib.hid (HB10.out.trans (hc11.mono HB10.out.size))
        have HL11:=Lib.hid (HL10.out.keep hc11)
        have HT11:=Lib.hid (HT10.out.keep hc11)
        have HVT11:=Lib.hid (tab_keep HVT10.out hc11)
        have HKT11:=Lib.hid ((hc11.cell (World.block_lt_of_cell? _ _ HKT10.out)).trans HKT10.out)
        have HFa11:=Lib.hid ((hc11.cell (World.block_lt_of_cell? _ _ HFa10.out)).trans HFa10.out)
        have HFb11:=Lib.hid ((hc11.cell (World.block_lt_of_cell? _ _ HFb10.out)).trans HFb10.out)
        have HR11:=Lib.hid (HR10.out.trans (hc11.mono HR10.out.size))
        clear HB10 HL10 HT10 HVT10 HKT10 HFa10 HFb10 HR10
        clear hb11 hc11 hr11
        obtain ⟨n0,n1,n2,n3,n4,n5,n6,n7,n8⟩:=HT11.out.nine
        have f0:=HFa11.out
        have f1:=HFb11.out
        obtain ⟨x0,x1⟩:=HX11.out
        go_wp2_with fail
        clear n0 n1 n2 n3 n4 n5 n6 n7 n8 f0 x0 x1 hW11
        refine (HC2.out _ HT11.out.mast).mono ?_
        rintro en w12 ⟨rfl,hb12⟩
        have hc12:=hb12.alloc hb12.size (.cells #[.int .i64 0,.int .i64 0] 53)
        have hr12:=Ra.RateAt.mk w12 0 0 53
        have HY12:=Lib.hid hr12
        have HB12:=Lib.hid (HB11.out.trans (hc12.mono HB11.out.size))
        have HL12:=Lib.hid (HL11.out.keep hc12)
        have HT12:=Lib.hid (HT11.out.keep hc12)
        have HVT12:=Lib.hid (tab_keep HVT11.out hc12)
        have HKT12:=Lib.hid ((hc12.cell (World.block_lt_of_cell? _ _ HKT11.out)).trans HKT11.out)
        have HFa12:=Lib.hid ((hc12.cell (World.block_lt_of_cell? _ _ HFa11.out)).trans HFa11.out)
        have HFb12:=Lib.hid ((hc12.cell (World.block_lt_of_cell? _ _ HFb11.out)).trans HFb11.out)
        have HR12:=Lib.hid (HR11.out.trans (hc12.mono HR11.out.size))
        have HX12:=Lib.hid (HX11.out.keep hc12 (Nat.le_refl _))
        clear HB11 HL11 HT11 HVT11 HKT11 HFa11 HFb11 HR11 HX11
        clear hb12 hc12 hr12
        obtain ⟨n0,n1,n2,n3,n4,n5,n6,n7,n8⟩:=HT12.out.nine
        have f0:=HFa12.out
        have f1:=HFb12.out
        go_wp2
        go_roundw
        case rel=>exact ⟨i+1,by go_num,by omega,HR12⟩
        case measure=>simp [intOf];omega
    ·obtain rfl:i=nf:=by omega
     have HRR:=Lib.hid (HR8.out.trans (HBI.out.mono HR8.out.size))
     go_wp2
     go_roundw
     case rel=>exact ⟨j+1,by go_num,by omega,HRR⟩
     case measure=>simp [intOf];omega
  ·obtain rfl:j=2:=by omega
   have k0:=HK7.out
   by_cases hE:E=0
   ·subst hE
    by_cases hz:0 < S.size
    ·go_wp2_with fail
     clear k0
     refine (HPR.out _ _ HV7.out HL7.out).mono ?_
     rintro en w9 ⟨rfl,hb9⟩
     have HB9:=Lib.hid (HB7.out.trans (hb9.mono HB7.out.size))
     clear hb9
     go_wp2
     go_ret
     exact ⟨rfl,HB9.out⟩
    ·go_wp2_with fail
     clear k0
     refine (HPR.out _ _ HV7.out HL7.out).mono ?_
     rintro en w9 ⟨rfl,hb9⟩
     have HB9:=Lib.hid (HB7.out.trans (hb9.mono HB7.out.size))
     clear hb9
     go_wp2
     go_ret
     exact ⟨rfl,HB9.out⟩
   ·have h1:(E != 0)=true:=by simpa using hE
    clear hE k0
    go_wp2
    go_ret
    exact ⟨rfl,HB7.out⟩
end Go.Proofs.YthcpglnmhimepaaGreatDoor.Cs
end
