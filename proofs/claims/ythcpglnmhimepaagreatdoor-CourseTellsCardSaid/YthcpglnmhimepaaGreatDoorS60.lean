/- CsGiven CourseTells -/
import Derived.Test.YthcpglnmhimepaaGreatDoorS45
import Derived.Test.YthcpglnmhimepaaGreatDoorS47
section
namespace Go.Proofs.YthcpglnmhimepaaGreatDoor.Cs
open Go.RowKit Go.Proofs.YthcpglnmhimepaaGreatDoor.Un Go.Proofs.YthcpglnmhimepaaGreatDoor.Pk
theorem dprint_ok {v:Value} {M:Mast} {L:List Crs} (w:World) (hV:TabV w v L) (ho:TabOk M L):Calls Tryz.prog 15 #[v] w fun en w'=>en=.returned (.string (printC L))∧Below w.heap.size w w' :=
 print_any v L w hV (by have:=ho.few;omega) ho.num ho.doc
end Go.Proofs.YthcpglnmhimepaaGreatDoor.Cs
end
section
namespace Go.Proofs.YthcpglnmhimepaaGreatDoor.Cs
open Go.RowKit Go.Maps Go.Proofs.YthcpglnmhimepaaGreatDoor.Un Go.Proofs.YthcpglnmhimepaaGreatDoor.Pk
set_option maxRecDepth 100000 in
set_option maxHeartbeats 16000000 in
theorem courseTells_walk (s0 s1:ByteArray) (w:World) (_hs0:s0.size≤maxLen) (_hs1:s1.size≤maxLen) (hU:LaidP w):Calls Tryz.prog 3 #[.string s0,.string s1] w fun en w'=>en=.returned (.bool true)∧Below w.heap.size w w':=by
 clear _hs0 _hs1
 have HB0:=Lib.hid (Below.refl w.heap.size w)
 have HL0:=Lib.hid hU
 clear hU
 go_enter Tryz.func3,Tryz.ntmps3
 go_wp2_with fail
 refine (alive14_any _ HL0.out).mono ?_
 rintro en w1 ⟨rfl,hb1⟩
 have HB1:=Lib.hid (HB0.out.trans (hb1.mono HB0.out.size))
 have HL1:=Lib.hid (HL0.out.keep hb1)
 clear HB0 HL0
 clear hb1
 go_wp2_with fail
 refine (master_any s0 _ HL1.out.1 HL1.out.2.1).mono ?_
 rintro en w2 ⟨M,c,f,e,l,c',f',e',l',is,rfl,hm,hm',hb2,his⟩
 obtain ⟨pc,cc,pf,cf,pe,ce,pl,cl,rfl,rfl,rfl,rfl⟩:=shapes hm
 obtain ⟨pc',cc',pf',cf',pe',ce',pl',cl',rfl,rfl,rfl,rfl⟩:=shapes hm'
 have HM2:=Lib.hid hm
 have HM2':=Lib.hid hm'
 have HB2:=Lib.hid (HB1.out.trans (hb2.mono HB1.out.size))
 have HL2:=Lib.hid (HL1.out.keep hb2)
 clear HB1 HL1
 have HIS:=Lib.hid his
 clear hm hm' hb2 his
 by_cases hbig:3000 < s1.size
 ·cases is
  all_goals
   go_wp2_with (first
    | (refine wpList_store_mast rfl 30 (.tmp 5) (.tmp 17) rfl w2.heap.size nil4 nil4 nil4 nil4 (.slice pc M.chart.length cc) (.slice pf M.flows.length cf) (.slice pe M.ents.length ce) (.slice pl M.lines.length cl) zeroM M 30 rfl rfl (start1 w2) ⟨rfl,rfl,rfl,rfl⟩ (by kernel_rfl) ?_;intro w3 hb3 hg3;have HX3:=Lib.hid hb3;have HG3:=Lib.hid hg3;clear hb3 hg3)
    | (refine wpList_store_mast rfl 36 (.tmp 6) (.tmp 18) rfl (w2.heap.size+1) nil4 nil4 nil4 nil4 (.slice pc' M.chart.length cc') (.slice pf' M.flows.length cf') (.slice pe' M.ents.length ce') (.slice pl' M.lines.length cl') zeroM M 36 rfl rfl (start_keep HG3.out) ⟨rfl,rfl,rfl,rfl⟩ (by kernel_rfl) ?_;intro w4 hb4 hg4;have HT4:=Lib.hid (two_of HM2.out HM2'.out HX3.out HG3.out hb4 hg4);clear hb4 hg4;have HB4:=Lib.hid (HB2.out.trans (HT4.out.bel.mono HB2.out.size));have HL4:=Lib.hid (HL2.out.keep HT4.out.bel);obtain ⟨n0,n1,n2,n3,n4,n5,n6,n7,n8⟩:=HT4.out.nine)
    | fail)
   go_ret
   exact ⟨rfl,HB4.out⟩
 cases is with
 | false =>
   go_wp2_with (first
    | (refine wpList_store_mast rfl 30 (.tmp 5) (.tmp 17) rfl w2.heap.size nil4 nil4 nil4 nil4 (.slice pc M.chart.length cc) (.slice pf M.flows.length cf) (.slice pe M.ents.length ce) (.slice pl M.lines.length cl) zeroM M 30 rfl rfl (start1 w2) ⟨rfl,rfl,rfl,rfl⟩ (by kernel_rfl) ?_;intro w3 hb3 hg3;have HX3:=Lib.hid hb3;have HG3:=Lib.hid hg3;clear hb3 hg3)
    | (refine wpList_store_mast rfl 36 (.tmp 6) (.tmp 18) rfl (w2.heap.size+1) nil4 nil4 nil4 nil4 (.slice pc' M.chart.length cc') (.slice pf' M.flows.length cf') (.slice pe' M.ents.length ce') (.slice pl' M.lines.length cl') zeroM M 36 rfl rfl (start_keep HG3.out) ⟨rfl,rfl,rfl,rfl⟩ (by kernel_rfl) ?_;intro w4 hb4 hg4;have HT4:=Lib.hid (two_of HM2.out HM2'.out HX3.out HG3.out hb4 hg4);clear hb4 hg4;have HB4:=Lib.hid (HB2.out.trans (HT4.out.bel.mono HB2.out.size));have HL4:=Lib.hid (HL2.out.keep HT4.out.bel);obtain ⟨n0,n1,n2,n3,n4,n5,n6,n7,n8⟩:=HT4.out.nine)
    | fail)
   go_ret
   exact ⟨rfl,HB4.out⟩
 | true =>
 go_wp2_with (first
  | (refine wpList_store_mast rfl 30 (.tmp 5) (.tmp 17) rfl w2.heap.size nil4 nil4 nil4 nil4 (.slice pc M.chart.length cc) (.slice pf M.flows.length cf) (.slice pe M.ents.length ce) (.slice pl M.lines.length cl) zeroM M 30 rfl rfl (start1 w2) ⟨rfl,rfl,rfl,rfl⟩ (by kernel_rfl) ?_;intro w3 hb3 hg3;have HX3:=Lib.hid hb3;have HG3:=Lib.hid hg3;clear hb3 hg3)
  | (refine wpList_store_mast rfl 36 (.tmp 6) (.tmp 18) rfl (w2.heap.size+1) nil4 nil4 nil4 nil4 (.slice pc' M.chart.length cc') (.slice pf' M.flows.length cf') (.slice pe' M.ents.length ce') (.slice pl' M.lines.length cl') zeroM M 36 rfl rfl (start_keep HG3.out) ⟨rfl,rfl,rfl,rfl⟩ (by kernel_rfl) ?_;intro w4 hb4 hg4;have HT4:=Lib.hid (two_of HM2.out HM2'.out HX3.out HG3.out hb4 hg4);clear hb4 hg4;have HB4:=Lib.hid (HB2.out.trans (HT4.out.bel.mono HB2.out.size));have HL4:=Lib.hid (HL2.out.keep HT4.out.bel);obtain ⟨n0,n1,n2,n3,n4,n5,n6,n7,n8⟩:=HT4.out.nine)
  | fail)
 clear HM2 HM2' HB2 HL2 HX3 HG3
 have ho:=mast_ok (HIS.out (by first | trivial | rfl)).1
 have HO:=Lib.hid ho
 clear ho
 have hs1:s1.size≤3000:=by omega
 have HTO:=Lib.hid (tab_ok M s1 (by omega))
 have HPP:=Lib.hid (fun W h hL=>pparse_ok (c:=(.slice pc M.chart.length cc)) (f:=(.slice pf M.flows.length cf)) (e:=(.slice pe M.ents.length ce)) (l:=(.slice pl M.lines.length cl)) s1 W h HO.out (by omega) hL)
 have HDP:=Lib.hid (fun W h=>cparse_any (.slice pc' M.chart.length cc') (.slice pf' M.flows.length cf') (.slice pe' M.ents.length ce') (.slice pl' M.lines.length cl') M s1 W h (by omega))
 obtain ⟨P,hP⟩:∃ P,parseC M s1=P:=⟨_,rfl⟩
 simp only [hP] at HPP HDP HTO
 obtain ⟨L,E⟩:=P
 dsimp only at HTO
 have HPR:=Lib.hid (fun W (v:Value) hV hL=>pprint_ok (v:=v) (M:=M) (L:=L) W hV HTO.out hL)
 have HDR:=Lib.hid (fun W (v:Value) hV=>dprint_ok (v:=v) (M:=M) (L:=L) W hV HTO.out)
 obtain ⟨S,hS⟩:∃ S,printC L=S:=⟨_,rfl⟩
 simp only [hS] at HPR HDR
 have hee:(E==E)=true:=by simp
 clear hs1 hbig hP hS HIS n0 n1 n2 n3 n4 n5 n6 n7 n8
 refine (HPP.out _ HT4.out.mast HL4.out).mono ?_
 rintro en w5 ⟨v5,rfl,hv5,hb5⟩
 dsimp only at hv5 ⊢
 obtain ⟨p5,c5,rfl⟩:=tab_slice hv5
 have hc5:=hb5.alloc hb5.size (.cells #[.slice p5 L.length c5] 41)
 have hx5:=(Below.refl w5.heap.size w5).alloc (Nat.le_refl _) (.cells #[.slice p5 L.length c5] 41)
 have hk5:=tab_box w5 (.slice p5 L.length c5)
 have hv5':=tab_keep hv5 hx5
 obtain ⟨W5,hW5⟩:∃ W5,w5.alloc (.cells #[.slice p5 L.length c5] 41)=W5:=⟨_,rfl⟩
 rw [hW5] at hc5 hk5 hv5'
 have HV5:=Lib.hid hv5'
 have HK5:=Lib.hid hk5
 have HB5:=Lib.hid (HB4.out.trans (hc5.mono HB4.out.size))
 have HL5:=Lib.hid (HL4.out.keep hc5)
 have HT5:=Lib.hid (HT4.out.keep hc5)
 clear HB4 HL4 HT4
 clear hv5 hv5' hb5 hc5 hx5 hk5 HPP
 obtain ⟨n0,n1,n2,n3,n4,n5,n6,n7,n8⟩:=HT5.out.nine'
 go_wp2_with fail
 clear n0 n1 n2 n3 n4 n5 n6 n7 n8 hW5
 refine (HDP.out _ HT5.out.mast').mono ?_
 rintro en w6 ⟨v6,rfl,hv6,hb6⟩
 dsimp only at hv6 ⊢
 obtain ⟨p6,c6,rfl⟩:=tab_slice hv6
 have HU6:=Lib.hid hv6
 have HB6:=Lib.hid (HB5.out.trans (hb6.mono HB5.out.size))
 have HL6:=Lib.hid (HL5.out.keep hb6)
 have HT6:=Lib.hid (HT5.out.keep hb6)
 have HV6:=Lib.hid (tab_keep HV5.out hb6)
 have HK6:=Lib.hid ((hb6.cell (World.block_lt_of_cell? _ _ HK5.out)).trans HK5.out)
 clear HB5 HL5 HT5 HV5 HK5
 clear hv6 hb6 HDP
 have k0:=HK6.out
 go_wp2_with fail
 clear k0
 refine (HPR.out _ _ HV6.out HL6.out).mono ?_
 rintro en w7 ⟨rfl,hb7⟩
 have HB7:=Lib.hid (HB6.out.trans (hb7.mono HB6.out.size))
 have HL7:=Lib.hid (HL6.out.keep hb7)
 have HT7:=Lib.hid (HT6.out.keep hb7)
 have HV7:=Lib.hid (tab_keep HV6.out hb7)
 have HK7:=Lib.hid ((hb7.cell (World.block_lt_of_cell? _ _ HK6.out)).trans HK6.out)
 have HU7:=Lib.hid (tab_keep HU6.out hb7)
 clear HB6 HL6 HT6 HV6 HK6 HU6
 clear hb7 HPR
 go_wp2_with fail
 refine (HDR.out _ _ HU7.out).mono ?_
 rintro en w8 ⟨rfl,hb8⟩
 have HB8:=Lib.hid (HB7.out.trans (hb8.mono HB7.out.size))
 clear hb8 HDR
 go_wp2
 go_ret
 exact ⟨rfl,HB8.out⟩
end Go.Proofs.YthcpglnmhimepaaGreatDoor.Cs
end
