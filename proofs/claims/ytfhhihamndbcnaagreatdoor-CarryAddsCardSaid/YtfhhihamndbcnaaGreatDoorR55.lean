/- FaFacts CyPlain CarryAdds -/
import Derived.Test.YtfhhihamndbcnaaGreatDoorR18
import Derived.Test.YtfhhihamndbcnaaGreatDoorR47
import Derived.Test.YtfhhihamndbcnaaGreatDoorR51
section
namespace Go.Proofs.YtfhhihamndbcnaaGreatDoor.Fa
theorem cube_eq {l l':List Fact} (h:∀ k,isum l k=isum l' k):cube l=cube l' :=
 riseF_uniq_list (cube_rise l) (cube_rise l') fun f=>by rw [mem_cube,mem_cube,h]
theorem amts_append (a b:List Fact) (k:Key):amts (a++b) k=amts a k++amts b k:=by simp [amts]
theorem isum_append (a b:List Fact) (k:Key):isum (a++b) k=isum a k+isum b k:=by unfold isum;rw [amts_append,List.sum_append]
theorem cube_parts (a b l:List Fact) (h:∀ k,isum l k=isum a k+isum b k):cube (cube a++cube b)=cube l :=
 cube_eq fun k=>by rw [isum_append,isum_cube,isum_cube,h]
end Go.Proofs.YtfhhihamndbcnaaGreatDoor.Fa
end
section
namespace Go.Proofs.YtfhhihamndbcnaaGreatDoor.Cy
open Go.RowKit Go.Proofs.YtfhhihamndbcnaaGreatDoor.Un Go.Proofs.YtfhhihamndbcnaaGreatDoor.Fa Go.Proofs.YtfhhihamndbcnaaGreatDoor.Pk Go.Proofs.YtfhhihamndbcnaaGreatDoor.Co
theorem told_append (M:Mast) (a b:List Fact) (n:Int) (fl:ByteArray):toldF M (a++b) n fl=toldF M a n fl++toldF M b n fl:=by simp [toldF]
theorem told_cube (M:Mast) (l:List Fact) (n:Int) (fl:ByteArray):cube (toldF M (cube l) n fl)=cube (toldF M l n fl) :=
 cube_eq fun k=>by rw [isum_told,isum_told,lin_cube]
theorem open_adds {M:Mast} {x y both p q r z:List Fact} (h:ofL (x++y)=(both,0)) (hp:openP M x=(p,0)) (hq:openP M y=(q,0)) (hr:openP M both=(r,0)) (hz:ofL (p++q)=(z,0)):r=z:=by
 rw [(open_ok hr).2.1,(isCube_cube hz).2,(isCube_cube h).2,told_cube,(open_ok hp).2.1,(open_ok hq).2.1]
 exact (cube_parts _ _ _ fun k=>by rw [told_append,isum_append]).symm
end Go.Proofs.YtfhhihamndbcnaaGreatDoor.Cy
end
section
namespace Go.Proofs.YtfhhihamndbcnaaGreatDoor.Cy
open Go.RowKit Go.Maps Go.Proofs.YtfhhihamndbcnaaGreatDoor.Un Go.Proofs.YtfhhihamndbcnaaGreatDoor.Pk Go.Proofs.YtfhhihamndbcnaaGreatDoor.Co
open Go.Proofs.YtfhhihamndbcnaaGreatDoor.Fa (Key Fact encF key5 fact6 FactsV CubeTold)
set_option maxRecDepth 100000 in
set_option maxHeartbeats 16000000 in
theorem carryAdds_walk (s0 s1 s2:ByteArray) (w:World) (_hs0:s0.size≤maxLen) (_hs1:s1.size≤maxLen) (_hs2:s2.size≤maxLen) (hU:LaidP w):Calls Tryz.prog 6 #[.string s0,.string s1,.string s2] w fun en w'=>en=.returned (.bool true)∧Below w.heap.size w w':=by
 have HL:=Lib.hid hU
 clear hU _hs0 _hs1 _hs2
 go_enter Tryz.func6,Tryz.ntmps6
 go_wp2_with fail
 refine (alive13_any _ HL.out).mono ?_
 rintro en w1 ⟨rfl,hb1⟩
 have HB1:=Lib.hid hb1
 have HL1:=Lib.hid (HL.out.keep hb1)
 clear hb1
 go_wp2_with fail
 refine (master_any s0 _ HL1.out.1 HL1.out.2.1).mono ?_
 rintro en w2 ⟨M,c,f,e,l,c',f',e',l',is,rfl,hm,hm',hb2,his⟩
 obtain ⟨pc,cc,pf,cf,pe,ce,pl,cl,rfl,rfl,rfl,rfl⟩:=shapes hm
 obtain ⟨pc',cc',pf',cf',pe',ce',pl',cl',rfl,rfl,rfl,rfl⟩:=shapes hm'
 have HM2:=Lib.hid hm
 have HM2':=Lib.hid hm'
 have HB2:=Lib.hid (HB1.out.trans (hb2.mono HB1.out.size))
 have HL2:=Lib.hid (HL1.out.keep hb2)
 have HIS:=Lib.hid his
 clear hm hm' hb2 his HB1 HL1 HL
 by_cases hbig1:4000 < s1.size
 ·cases is
  all_goals
   go_wp2_with (first
    | (refine wpList_store_mast rfl 31 (.tmp 7) (.tmp 29) rfl w2.heap.size nil4 nil4 nil4 nil4 (.slice pc M.chart.length cc) (.slice pf M.flows.length cf) (.slice pe M.ents.length ce) (.slice pl M.lines.length cl) zeroM M 31 rfl rfl (start1 w2) ⟨rfl,rfl,rfl,rfl⟩ (by kernel_rfl) ?_;intro w3 hb3 hg3;have HX3:=Lib.hid hb3;have HG3:=Lib.hid hg3;clear hb3 hg3)
    | (refine wpList_store_mast rfl 37 (.tmp 8) (.tmp 30) rfl (w2.heap.size+1) nil4 nil4 nil4 nil4 (.slice pc' M.chart.length cc') (.slice pf' M.flows.length cf') (.slice pe' M.ents.length ce') (.slice pl' M.lines.length cl') zeroM M 37 rfl rfl (start_keep HG3.out) ⟨rfl,rfl,rfl,rfl⟩ (by kernel_rfl) ?_;intro w4 hb4 hg4;have HT4:=Lib.hid (two_of HM2.out HM2'.out HX3.out HG3.out hb4 hg4);clear hb4 hg4;have HB4:=Lib.hid (HB2.out.trans (HT4.out.bel.mono HB2.out.size));obtain ⟨n0,n1,n2,n3,n4,n5,n6,n7,n8⟩:=HT4.out.nine)
    | fail)
   go_ret
   exact ⟨rfl,HB4.out⟩
 by_cases hbig2:4000 < s2.size
 ·cases is
  all_goals
   go_wp2_with (first
    | (refine wpList_store_mast rfl 31 (.tmp 7) (.tmp 29) rfl w2.heap.size nil4 nil4 nil4 nil4 (.slice pc M.chart.length cc) (.slice pf M.flows.length cf) (.slice pe M.ents.length ce) (.slice pl M.lines.length cl) zeroM M 31 rfl rfl (start1 w2) ⟨rfl,rfl,rfl,rfl⟩ (by kernel_rfl) ?_;intro w3 hb3 hg3;have HX3:=Lib.hid hb3;have HG3:=Lib.hid hg3;clear hb3 hg3)
    | (refine wpList_store_mast rfl 37 (.tmp 8) (.tmp 30) rfl (w2.heap.size+1) nil4 nil4 nil4 nil4 (.slice pc' M.chart.length cc') (.slice pf' M.flows.length cf') (.slice pe' M.ents.length ce') (.slice pl' M.lines.length cl') zeroM M 37 rfl rfl (start_keep HG3.out) ⟨rfl,rfl,rfl,rfl⟩ (by kernel_rfl) ?_;intro w4 hb4 hg4;have HT4:=Lib.hid (two_of HM2.out HM2'.out HX3.out HG3.out hb4 hg4);clear hb4 hg4;have HB4:=Lib.hid (HB2.out.trans (HT4.out.bel.mono HB2.out.size));obtain ⟨n0,n1,n2,n3,n4,n5,n6,n7,n8⟩:=HT4.out.nine)
    | fail)
   go_ret
   exact ⟨rfl,HB4.out⟩
 cases is with
 | false =>
   go_wp2_with (first
    | (refine wpList_store_mast rfl 31 (.tmp 7) (.tmp 29) rfl w2.heap.size nil4 nil4 nil4 nil4 (.slice pc M.chart.length cc) (.slice pf M.flows.length cf) (.slice pe M.ents.length ce) (.slice pl M.lines.length cl) zeroM M 31 rfl rfl (start1 w2) ⟨rfl,rfl,rfl,rfl⟩ (by kernel_rfl) ?_;intro w3 hb3 hg3;have HX3:=Lib.hid hb3;have HG3:=Lib.hid hg3;clear hb3 hg3)
    | (refine wpList_store_mast rfl 37 (.tmp 8) (.tmp 30) rfl (w2.heap.size+1) nil4 nil4 nil4 nil4 (.slice pc' M.chart.length cc') (.slice pf' M.flows.length cf') (.slice pe' M.ents.length ce') (.slice pl' M.lines.length cl') zeroM M 37 rfl rfl (start_keep HG3.out) ⟨rfl,rfl,rfl,rfl⟩ (by kernel_rfl) ?_;intro w4 hb4 hg4;have HT4:=Lib.hid (two_of HM2.out HM2'.out HX3.out HG3.out hb4 hg4);clear hb4 hg4;have HB4:=Lib.hid (HB2.out.trans (HT4.out.bel.mono HB2.out.size));obtain ⟨n0,n1,n2,n3,n4,n5,n6,n7,n8⟩:=HT4.out.nine)
    | fail)
   go_ret
   exact ⟨rfl,HB4.out⟩
 | true =>
 go_wp2_with (first
  | (refine wpList_store_mast rfl 31 (.tmp 7) (.tmp 29) rfl w2.heap.size nil4 nil4 nil4 nil4 (.slice pc M.chart.length cc) (.slice pf M.flows.length cf) (.slice pe M.ents.length ce) (.slice pl M.lines.length cl) zeroM M 31 rfl rfl (start1 w2) ⟨rfl,rfl,rfl,rfl⟩ (by kernel_rfl) ?_;intro w3 hb3 hg3;have HX3:=Lib.hid hb3;have HG3:=Lib.hid hg3;clear hb3 hg3)
  | (refine wpList_store_mast rfl 37 (.tmp 8) (.tmp 30) rfl (w2.heap.size+1) nil4 nil4 nil4 nil4 (.slice pc' M.chart.length cc') (.slice pf' M.flows.length cf') (.slice pe' M.ents.length ce') (.slice pl' M.lines.length cl') zeroM M 37 rfl rfl (start_keep HG3.out) ⟨rfl,rfl,rfl,rfl⟩ (by kernel_rfl) ?_;intro w4 hb4 hg4;have HT4:=Lib.hid (two_of HM2.out HM2'.out HX3.out HG3.out hb4 hg4);clear hb4 hg4;have HB4:=Lib.hid (HB2.out.trans (HT4.out.bel.mono HB2.out.size));obtain ⟨n0,n1,n2,n3,n4,n5,n6,n7,n8⟩:=HT4.out.nine)
  | fail)
 clear n0 n1 n2 n3 n4 n5 n6 n7 n8
 have HL4:=Lib.hid (HL2.out.keep HT4.out.bel)
 clear HM2 HM2' HB2 HL2 HX3 HG3
 have hR:=(HIS.out (by first | trivial | rfl)).1
 have HSN:=Lib.hid hR.inv.sane
 have HOP:=Lib.hid (opn_of hR.inv.sane hR.all)
 have HON:=Lib.hid (opens_of hR.inv.sane.fl (has_open hR.all))
 clear hR
 have hsz1:s1.size≤4000:=by omega
 have HSZ1:=Lib.hid hsz1
 have HPP1:=Lib.hid (fun W h hL=>pparse_any (.slice pc M.chart.length cc) (.slice pf M.flows.length cf) (.slice pe M.ents.length ce) (.slice pl M.lines.length cl) M s1 W h HSN.out hL (by have:=HSZ1.out;omega))
 obtain ⟨PR1,hPR1⟩:∃ PR,parseP M s1=PR:=⟨_,rfl⟩
 have HPR1:=Lib.hid hPR1
 have HRD1:=Lib.hid (read_of (c:=PR1.1) (er:=PR1.2) hPR1 hsz1)
 simp only [hPR1] at HPP1
 obtain ⟨C1,e1⟩:=PR1
 dsimp only at HRD1
 clear hsz1 hPR1 hbig1
 have hsz2:s2.size≤4000:=by omega
 have HSZ2:=Lib.hid hsz2
 have HPP2:=Lib.hid (fun W h hL=>pparse_any (.slice pc M.chart.length cc) (.slice pf M.flows.length cf) (.slice pe M.ents.length ce) (.slice pl M.lines.length cl) M s2 W h HSN.out hL (by have:=HSZ2.out;omega))
 obtain ⟨PR2,hPR2⟩:∃ PR,parseP M s2=PR:=⟨_,rfl⟩
 have HPR2:=Lib.hid hPR2
 have HRD2:=Lib.hid (read_of (c:=PR2.1) (er:=PR2.2) hPR2 hsz2)
 simp only [hPR2] at HPP2
 obtain ⟨C2,e2⟩:=PR2
 dsimp only at HRD2
 clear hsz2 hPR2 hbig2
 refine (HPP1.out _ HT4.out.mast HL4.out.2.2).mono ?_
 rintro en w5 ⟨u5,rfl,hv5,hb5⟩
 dsimp only at hv5
 have HVX5:=Lib.hid hv5
 have HB5:=Lib.hid (HB4.out.trans (hb5.mono HB4.out.size))
 have HT5:=Lib.hid (HT4.out.keep hb5)
 have HL5:=Lib.hid (HL4.out.keep hb5)
 clear HB4 HT4 HL4
 clear hb5 hv5 HPP1
 obtain ⟨n0,n1,n2,n3,n4,n5,n6,n7,n8⟩:=HT5.out.nine
 go_wp2_with fail
 clear n0 n1 n2 n3 n4 n5 n6 n7 n8
 refine (HPP2.out _ HT5.out.mast HL5.out.2.2).mono ?_
 rintro en w6 ⟨u6,rfl,hv6,hb6⟩
 dsimp only at hv6
 have HVY6:=Lib.hid hv6
 have HB6:=Lib.hid (HB5.out.trans (hb6.mono HB5.out.size))
 have HT6:=Lib.hid (HT5.out.keep hb6)
 have HL6:=Lib.hid (HL5.out.keep hb6)
 have HVX6:=Lib.hid (ElsV.keep HVX5.out hb6)
 clear HB5 HT5 HL5 HVX5
 clear hb6 hv6 HPP2
 obtain ⟨BR,hBR⟩:∃ R,Fa.ofL (C1++C2)=R:=⟨_,rfl⟩
 have HBR:=Lib.hid hBR
 have hbz:=ofL_in64 (C1++C2)
 have hbl:=Fa.ofL_length (C1++C2)
 rw [hBR] at hbz hbl
 rw [List.length_append] at hbl
 have HBZ:=Lib.hid hbz
 have HBL:Hid (BR.1.length≤800):=Lib.hid (by have:=HRD1.out.2;have:=HRD2.out.2;omega)
 have HAD:=Lib.hid (Fa.add_many u5 u6 C1 C2 w6 HVX6.out HVY6.out HRD1.out.1 HRD2.out.1 (by have:=HRD1.out.2;have:=HRD2.out.2;omega))
 rw [hBR] at HAD
 obtain ⟨B,eb⟩:=BR
 dsimp only at HBZ HBL
 clear hbz hbl hBR HL6
 go_wp2_with fail
 refine HAD.out.mono ?_
 rintro en w7 ⟨u7,rfl,hv7,hb7⟩
 dsimp only at hv7
 have HVB7:=Lib.hid hv7
 have HB7:=Lib.hid (HB6.out.trans (hb7.mono HB6.out.size))
 have HT7:=Lib.hid (HT6.out.keep hb7)
 have HVX7:=Lib.hid (ElsV.keep HVX6.out hb7)
 have HVY7:=Lib.hid (ElsV.keep HVY6.out hb7)
 clear HB6 HT6 HVX6 HVY6
 clear hb7 hv7 HAD
 by_cases he1:e1=0
 ·subst he1
  by_cases he2:e2=0
  ·subst he2
   by_cases heb:eb=0
   ·subst heb
    obtain ⟨O1,hO1⟩:∃ O,openP M C1=O:=⟨_,rfl⟩
    have HO1:=Lib.hid hO1
    have hz1:=open_in64 M C1
    have hl1:=open_length M C1
    rw [hO1] at hz1 hl1
    have HZ1:=Lib.hid hz1
    have HK1:=Lib.hid hl1
    have HQ1:Hid (∀ W (v:Value),FlIn W (.slice pc M.chart.length cc) (.slice pf M.flows.length cf) (.slice pe M.ents.length ce) (.slice pl M.lines.length cl) M→FactsV W v C1→Calls Tryz.prog 12 #[aggM (.slice pc M.chart.length cc) (.slice pf M.flows.length cf) (.slice pe M.ents.length ce) (.slice pl M.lines.length cl) M,v] W (CubeTold W O1)):=Lib.hid fun W v h1 h2=>by
     have:=open_any (.slice pc M.chart.length cc) (.slice pf M.flows.length cf) (.slice pe M.ents.length ce) (.slice pl M.lines.length cl) v M C1 W h1 HOP.out h2 HRD1.out.1 (by have:=HRD1.out.2;omega)
     rw [HO1.out] at this
     exact this
    obtain ⟨O1,f1⟩:=O1
    dsimp only at HZ1 HK1
    clear hO1 hz1 hl1
    obtain ⟨O2,hO2⟩:∃ O,openP M C2=O:=⟨_,rfl⟩
    have HO2:=Lib.hid hO2
    have hz2:=open_in64 M C2
    have hl2:=open_length M C2
    rw [hO2] at hz2 hl2
    have HZ2:=Lib.hid hz2
    have HK2:=Lib.hid hl2
    have HQ2:Hid (∀ W (v:Value),FlIn W (.slice pc M.chart.length cc) (.slice pf M.flows.length cf) (.slice pe M.ents.length ce) (.slice pl M.lines.length cl) M→FactsV W v C2→Calls Tryz.prog 12 #[aggM (.slice pc M.chart.length cc) (.slice pf M.flows.length cf) (.slice pe M.ents.length ce) (.slice pl M.lines.length cl) M,v] W (CubeTold W O2)):=Lib.hid fun W v h1 h2=>by
     have:=open_any (.slice pc M.chart.length cc) (.slice pf M.flows.length cf) (.slice pe M.ents.length ce) (.slice pl M.lines.length cl) v M C2 W h1 HOP.out h2 HRD2.out.1 (by have:=HRD2.out.2;omega)
     rw [HO2.out] at this
     exact this
    obtain ⟨O2,f2⟩:=O2
    dsimp only at HZ2 HK2
    clear hO2 hz2 hl2
    obtain ⟨O3,hO3⟩:∃ O,openP M B=O:=⟨_,rfl⟩
    have HO3:=Lib.hid hO3
    have hz3:=open_in64 M B
    have hl3:=open_length M B
    rw [hO3] at hz3 hl3
    have HZ3:=Lib.hid hz3
    have HK3:=Lib.hid hl3
    have HQ3:Hid (∀ W (v:Value),FlIn W (.slice pc M.chart.length cc) (.slice pf M.flows.length cf) (.slice pe M.ents.length ce) (.slice pl M.lines.length cl) M→FactsV W v B→Calls Tryz.prog 12 #[aggM (.slice pc M.chart.length cc) (.slice pf M.flows.length cf) (.slice pe M.ents.length ce) (.slice pl M.lines.length cl) M,v] W (CubeTold W O3)):=Lib.hid fun W v h1 h2=>by
     have:=open_any (.slice pc M.chart.length cc) (.slice pf M.flows.length cf) (.slice pe M.ents.length ce) (.slice pl M.lines.length cl) v M B W h1 HOP.out h2 HBZ.out (by have:=HBL.out;omega)
     rw [HO3.out] at this
     exact this
    obtain ⟨O3,f3⟩:=O3
    dsimp only at HZ3 HK3
    clear hO3 hz3 hl3
    obtain ⟨n0,n1,n2,n3,n4,n5,n6,n7,n8⟩:=HT7.out.nine
    go_wp2_with fail
    clear n0 n1 n2 n3 n4 n5 n6 n7 n8
    refine (HQ1.out _ _ (.of HT7.out.mast) HVX7.out).mono ?_
    rintro en w8 ⟨u8,rfl,hv8,hb8⟩
    dsimp only at hv8
    have HVP8:=Lib.hid hv8
    have HB8:=Lib.hid (HB7.out.trans (hb8.mono HB7.out.size))
    have HT8:=Lib.hid (HT7.out.keep hb8)
    have HVX8:=Lib.hid (ElsV.keep HVX7.out hb8)
    have HVY8:=Lib.hid (ElsV.keep HVY7.out hb8)
    have HVB8:=Lib.hid (ElsV.keep HVB7.out hb8)
    clear HB7 HT7 HVX7 HVY7 HVB7
    clear hb8 hv8 HQ1
    obtain ⟨n0,n1,n2,n3,n4,n5,n6,n7,n8⟩:=HT8.out.nine
    go_wp2_with fail
    clear n0 n1 n2 n3 n4 n5 n6 n7 n8
    refine (HQ2.out _ _ (.of HT8.out.mast) HVY8.out).mono ?_
    rintro en w9 ⟨u9,rfl,hv9,hb9⟩
    dsimp only at hv9
    have HVQ9:=Lib.hid hv9
    have HB9:=Lib.hid (HB8.out.trans (hb9.mono HB8.out.size))
    have HT9:=Lib.hid (HT8.out.keep hb9)
    have HVX9:=Lib.hid (ElsV.keep HVX8.out hb9)
    have HVY9:=Lib.hid (ElsV.keep HVY8.out hb9)
    have HVB9:=Lib.hid (ElsV.keep HVB8.out hb9)
    have HVP9:=Lib.hid (ElsV.keep HVP8.out hb9)
    clear HB8 HT8 HVX8 HVY8 HVB8 HVP8
    clear hb9 hv9 HQ2
    obtain ⟨n0,n1,n2,n3,n4,n5,n6,n7,n8⟩:=HT9.out.nine
    go_wp2_with fail
    clear n0 n1 n2 n3 n4 n5 n6 n7 n8
    refine (HQ3.out _ _ (.of HT9.out.mast) HVB9.out).mono ?_
    rintro en w10 ⟨u10,rfl,hv10,hb10⟩
    dsimp only at hv10
    have HVR10:=Lib.hid hv10
    have HB10:=Lib.hid (HB9.out.trans (hb10.mono HB9.out.size))
    have HT10:=Lib.hid (HT9.out.keep hb10)
    have HVX10:=Lib.hid (ElsV.keep HVX9.out hb10)
    have HVY10:=Lib.hid (ElsV.keep HVY9.out hb10)
    have HVB10:=Lib.hid (ElsV.keep HVB9.out hb10)
    have HVP10:=Lib.hid (ElsV.keep HVP9.out hb10)
    have HVQ10:=Lib.hid (ElsV.keep HVQ9.out hb10)
    clear HB9 HT9 HVX9 HVY9 HVB9 HVP9 HVQ9
    clear hb10 hv10 HQ3
    obtain ⟨ZR,hZR⟩:∃ R,Fa.ofL (O1++O2)=R:=⟨_,rfl⟩
    have HZR:=Lib.hid hZR
    have hzl:=Fa.ofL_length (O1++O2)
    rw [hZR] at hzl
    rw [List.length_append] at hzl
    have HZL:Hid (ZR.1.length≤800):=Lib.hid (by have:=HRD1.out.2;have:=HRD2.out.2;have:=HK1.out;have:=HK2.out;omega)
    have HAZ:=Lib.hid (Fa.add_many u8 u9 O1 O2 w10 HVP10.out HVQ10.out HZ1.out HZ2.out (by have:=HRD1.out.2;have:=HRD2.out.2;have:=HK1.out;have:=HK2.out;omega))
    rw [hZR] at HAZ
    obtain ⟨Z,ez⟩:=ZR
    dsimp only at HZL
    clear hzl hZR
    go_wp2_with fail
    refine HAZ.out.mono ?_
    rintro en w11 ⟨u11,rfl,hv11,hb11⟩
    dsimp only at hv11
    have HVZ11:=Lib.hid hv11
    have HB11:=Lib.hid (HB10.out.trans (hb11.mono HB10.out.size))
    have HT11:=Lib.hid (HT10.out.keep hb11)
    have HVX11:=Lib.hid (ElsV.keep HVX10.out hb11)
    have HVY11:=Lib.hid (ElsV.keep HVY10.out hb11)
    have HVB11:=Lib.hid (ElsV.keep HVB10.out hb11)
    have HVP11:=Lib.hid (ElsV.keep HVP10.out hb11)
    have HVQ11:=Lib.hid (ElsV.keep HVQ10.out hb11)
    have HVR11:=Lib.hid (ElsV.keep HVR10.out hb11)
    clear HB10 HT10 HVX10 HVY10 HVB10 HVP10 HVQ10 HVR10
    clear hb11 hv11 HAZ
    by_cases hf1:f1=0
    ·subst hf1
     by_cases hf2:f2=0
     ·subst hf2
      by_cases hf3:f3=0
      ·subst hf3
       by_cases hez:ez=0
       ·subst hez
        have hrz:O3=Z:=open_adds HBR.out HO1.out HO2.out HO3.out HZR.out
        subst hrz
        go_wp2_with fail
        refine (Fa.ours_any _ O3 _ HVR11.out (by have:=HZL.out;omega)).mono ?_
        rintro en w12 ⟨o12,rfl,ho12,hb12⟩
        have HO12:=Lib.hid (els_of_own (E:=encF) ho12)
        have HB12:=Lib.hid (HB11.out.trans (hb12.mono HB11.out.size))
        have HVZ12:=Lib.hid (HVZ11.out.keep hb12)
        clear hb12 ho12
        go_wp2_with fail
        refine (Fa.ours_any _ O3 _ HVZ12.out (by have:=HZL.out;omega)).mono ?_
        rintro en w13 ⟨o13,rfl,ho13,hb13⟩
        have HO13:=Lib.hid (els_of_own (E:=encF) ho13)
        have HP13:=Lib.hid (HO12.out.keep hb13)
        have HB13:=Lib.hid (HB12.out.trans (hb13.mono HB12.out.size))
        clear hb13 ho13
        go_wp2_with fail
        refine (Fa.same_any _ _ O3 O3 _ HP13.out HO13.out).mono ?_
        rintro en w14 ⟨rfl,hb14⟩
        have HB14:=Lib.hid (HB13.out.trans (hb14.mono HB13.out.size))
        clear hb14
        have hsm:Fa.sameL O3 O3=true:=decide_eq_true rfl
        simp only [hsm]
        go_wp2
        go_ret
        exact ⟨rfl,HB14.out⟩
       ·have hez1:(ez != 0)=true:=by simpa using hez
        clear hez
        go_wp2
        go_ret
        exact ⟨rfl,HB11.out⟩
      ·have hf31:(f3 != 0)=true:=by simpa using hf3
       clear hf3
       go_wp2
       go_ret
       exact ⟨rfl,HB11.out⟩
     ·have hf21:(f2 != 0)=true:=by simpa using hf2
      clear hf2
      go_wp2
      go_ret
      exact ⟨rfl,HB11.out⟩
    ·have hf11:(f1 != 0)=true:=by simpa using hf1
     clear hf1
     go_wp2
     go_ret
     exact ⟨rfl,HB11.out⟩
   ·have heb1:(eb != 0)=true:=by simpa using heb
    clear heb
    go_wp2
    go_ret
    exact ⟨rfl,HB7.out⟩
  ·have he21:(e2 != 0)=true:=by simpa using he2
   clear he2
   go_wp2
   go_ret
   exact ⟨rfl,HB7.out⟩
 ·have he11:(e1 != 0)=true:=by simpa using he1
  clear he1
  go_wp2
  go_ret
  exact ⟨rfl,HB7.out⟩
end Go.Proofs.YtfhhihamndbcnaaGreatDoor.Cy
end
