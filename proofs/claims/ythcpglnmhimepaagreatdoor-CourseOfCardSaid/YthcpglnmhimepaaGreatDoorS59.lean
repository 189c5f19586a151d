/- CsArgs CsGiven CourseOf -/
import Derived.Test.YthcpglnmhimepaaGreatDoorS45
import Derived.Test.YthcpglnmhimepaaGreatDoorS47
section
namespace Go.Proofs.YthcpglnmhimepaaGreatDoor.Cs
open Go.ChangeShapes Go.WideShapes Go.ChangeAt Go.RowKit
set_option maxRecDepth 100000
section
variable {H:Type} {enc:TypeId × Value→H} {W:World} {base:Nat} {sp:Nat→Bool} {held:Bool}
theorem twoS_open {r:Reach} {b0:Nat} {v:Value} {d:DataW H} {p:List MemPlace} (hv:Value.okWide Tryz.prog W r b0 51 v) (h:DataW.Trod enc Tryz.prog W base sp held 51 v d p):∃ a b:ByteArray,v=.agg #[.string a,.string b]∧a.size≤maxLen∧b.size≤maxLen:=by
 have hC:Tryz.prog.cellsOf 51=2:=by kernel_rfl
 have c1:Tryz.prog.cellsOf 9=1:=by kernel_rfl
 simp only [Value.okWide,Tryz.underlying51] at hv
 obtain ⟨cs,rfl,hs,_⟩:=hv
 obtain ⟨fuel,hf⟩:=h
 obtain ⟨xs,n,_,_,hl,hxl,hg⟩:=DataW.trod_array Tryz.underlying51 hf
 rw [hC] at hs
 obtain ⟨cs⟩:=cs
 match cs,hs,xs,hxl with
 | [a0,a1],_,[y0,y1],_ =>
   have g0:=hg 0 (by decide)
   have g1:=hg 1 (by decide)
   simp [c1,Value.cells] at g0 g1
   obtain ⟨i0,e0,_,z0⟩:=DataW.trod_string Tryz.underlying9 g0
   obtain ⟨i1,e1,_,z1⟩:=DataW.trod_string Tryz.underlying9 g1
   simp at e0 e1
   subst e0 e1
   exact ⟨i0,i1,rfl,z0,z1⟩
end
end Go.Proofs.YthcpglnmhimepaaGreatDoor.Cs
end
section
namespace Go.Proofs.YthcpglnmhimepaaGreatDoor.Cs
open Go.RowKit Go.Proofs.YthcpglnmhimepaaGreatDoor.Un Go.Proofs.YthcpglnmhimepaaGreatDoor.Pk
theorem dof_ok {cv fv e l v:Value} {M:Mast} {L:List Crs} (c f:ByteArray) (w:World) (hm:MastIn w cv fv e l M) (ho:MastOk M) (hV:TabV w v L) (ht:TabRd M L):Calls Tryz.prog 17 #[aggM cv fv e l M,v,.string c,.string f] w fun en w'=>en=.returned (.tuple #[.agg #[.int .i64 (ofC M L c f).1.1,.int .i64 (ofC M L c f).1.2],.int .i64 (ofC M L c f).2])∧Below w.heap.size w w' :=
 of_any cv fv e l v M L c f w hm hV (by have:=ht.few;omega) (ho.kind f)
end Go.Proofs.YthcpglnmhimepaaGreatDoor.Cs
end
section
namespace Go.Proofs.YthcpglnmhimepaaGreatDoor.Cs
open Go.RowKit Go.Maps Go.Proofs.YthcpglnmhimepaaGreatDoor.Un Go.Proofs.YthcpglnmhimepaaGreatDoor.Pk
set_option maxRecDepth 100000 in
set_option maxHeartbeats 16000000 in
theorem courseOf_walk (s0 s1:ByteArray) (a b:ByteArray) (w:World) (_hs0:s0.size≤maxLen) (_hs1:s1.size≤maxLen) (_ha:a.size≤maxLen) (_hb:b.size≤maxLen) (hU:LaidP w):Calls Tryz.prog 4 #[.string s0,.string s1,.agg #[.string a,.string b]] w fun en w'=>en=.returned (.bool true)∧Below w.heap.size w w':=by
 clear _hs0 _hs1 _ha _hb
 have hb0:=(Below.refl w.heap.size w).alloc (Nat.le_refl _) (.cells #[.string a,.string b] 51)
 have hc0:(w.alloc (.cells #[.string a,.string b] 51)).cell? ⟨w.heap.size,0,none⟩=_:=(cell_of_row _ w.heap.size 0 _ _ (0,0) (heap_alloc_new w _)).trans rfl
 have hc1:(w.alloc (.cells #[.string a,.string b] 51)).cell? ⟨w.heap.size,1,none⟩=_:=(cell_of_row _ w.heap.size 1 _ _ (0,0) (heap_alloc_new w _)).trans rfl
 obtain ⟨w0,hw0⟩:∃ w0,w.alloc (.cells #[.string a,.string b] 51)=w0:=⟨_,rfl⟩
 rw [hw0] at hb0 hc0 hc1
 have HB0:=Lib.hid hb0
 have HL0:=Lib.hid (hU.keep hb0)
 have HCa0:=Lib.hid hc0
 have HCb0:=Lib.hid hc1
 clear hU hb0 hc0 hc1
 go_enter Tryz.func4,Tryz.ntmps4
 go_wp2_with fail
 clear hw0
 refine (alive14_any _ HL0.out).mono ?_
 rintro en w1 ⟨rfl,hb1⟩
 have HB1:=Lib.hid (HB0.out.trans (hb1.mono HB0.out.size))
 have HL1:=Lib.hid (HL0.out.keep hb1)
 have HCa1:=Lib.hid ((hb1.cell (World.block_lt_of_cell? _ _ HCa0.out)).trans HCa0.out)
 have HCb1:=Lib.hid ((hb1.cell (World.block_lt_of_cell? _ _ HCb0.out)).trans HCb0.out)
 clear HB0 HL0 HCa0 HCb0
 clear hb1
 go_wp2_with fail
 refine (master_any s0 _ HL1.out.1 HL1.out.2.1).mono ?_
 rintro en w2 ⟨M,c,f,e,l,c',f',e',l',is,rfl,hm,hm',hb2,his⟩
 obtain ⟨pc,cc,pf,cf,pe,ce,pl,cl,rfl,rfl,rfl,rfl⟩:=shapes hm
 obtain ⟨pc',cc',pf',cf',pe',ce',pl',cl',rfl,rfl,rfl,rfl⟩:=shapes hm'
 have HM2:=Lib.hid hm
 have HM2':=Lib.hid hm'
 have HB2:=Lib.hid (HB1.out.trans (hb2.mono HB1.out.size))
 have HL2:=Lib.hid (HL1.out.keep hb2)
 have HCa2:=Lib.hid ((hb2.cell (World.block_lt_of_cell? _ _ HCa1.out)).trans HCa1.out)
 have HCb2:=Lib.hid ((hb2.cell (World.block_lt_of_cell? _ _ HCb1.out)).trans HCb1.out)
 clear HB1 HL1 HCa1 HCb1
 have HIS:=Lib.hid his
 clear hm hm' hb2 his
 by_cases hbig:3000 < s1.size
 ·cases is
  all_goals
   go_wp2_with (first
    | (refine wpList_store_mast rfl 30 (.tmp 7) (.tmp 23) rfl w2.heap.size nil4 nil4 nil4 nil4 (.slice pc M.chart.length cc) (.slice pf M.flows.length cf) (.slice pe M.ents.length ce) (.slice pl M.lines.length cl) zeroM M 30 rfl rfl (start1 w2) ⟨rfl,rfl,rfl,rfl⟩ (by kernel_rfl) ?_;intro w3 hb3 hg3;have HX3:=Lib.hid hb3;have HG3:=Lib.hid hg3;clear hb3 hg3)
    | (refine wpList_store_mast rfl 36 (.tmp 8) (.tmp 24) rfl (w2.heap.size+1) nil4 nil4 nil4 nil4 (.slice pc' M.chart.length cc') (.slice pf' M.flows.length cf') (.slice pe' M.ents.length ce') (.slice pl' M.lines.length cl') zeroM M 36 rfl rfl (start_keep HG3.out) ⟨rfl,rfl,rfl,rfl⟩ (by kernel_rfl) ?_;intro w4 hb4 hg4;have HT4:=Lib.hid (two_of HM2.out HM2'.out HX3.out HG3.out hb4 hg4);clear hb4 hg4;have HB4:=Lib.hid (HB2.out.trans (HT4.out.bel.mono HB2.out.size));have HL4:=Lib.hid (HL2.out.keep HT4.out.bel);have HCa4:=Lib.hid ((HT4.out.bel.cell (World.block_lt_of_cell? _ _ HCa2.out)).trans HCa2.out);have HCb4:=Lib.hid ((HT4.out.bel.cell (World.block_lt_of_cell? _ _ HCb2.out)).trans HCb2.out);have qa:=HCa4.out;have qb:=HCb4.out;obtain ⟨n0,n1,n2,n3,n4,n5,n6,n7,n8⟩:=HT4.out.nine)
    | fail)
   go_ret
   exact ⟨rfl,HB4.out⟩
 by_cases hbiga:100 < a.size
 ·cases is
  all_goals
   go_wp2_with (first
    | (refine wpList_store_mast rfl 30 (.tmp 7) (.tmp 23) rfl w2.heap.size nil4 nil4 nil4 nil4 (.slice pc M.chart.length cc) (.slice pf M.flows.length cf) (.slice pe M.ents.length ce) (.slice pl M.lines.length cl) zeroM M 30 rfl rfl (start1 w2) ⟨rfl,rfl,rfl,rfl⟩ (by kernel_rfl) ?_;intro w3 hb3 hg3;have HX3:=Lib.hid hb3;have HG3:=Lib.hid hg3;clear hb3 hg3)
    | (refine wpList_store_mast rfl 36 (.tmp 8) (.tmp 24) rfl (w2.heap.size+1) nil4 nil4 nil4 nil4 (.slice pc' M.chart.length cc') (.slice pf' M.flows.length cf') (.slice pe' M.ents.length ce') (.slice pl' M.lines.length cl') zeroM M 36 rfl rfl (start_keep HG3.out) ⟨rfl,rfl,rfl,rfl⟩ (by kernel_rfl) ?_;intro w4 hb4 hg4;have HT4:=Lib.hid (two_of HM2.out HM2'.out HX3.out HG3.out hb4 hg4);clear hb4 hg4;have HB4:=Lib.hid (HB2.out.trans (HT4.out.bel.mono HB2.out.size));have HL4:=Lib.hid (HL2.out.keep HT4.out.bel);have HCa4:=Lib.hid ((HT4.out.bel.cell (World.block_lt_of_cell? _ _ HCa2.out)).trans HCa2.out);have HCb4:=Lib.hid ((HT4.out.bel.cell (World.block_lt_of_cell? _ _ HCb2.out)).trans HCb2.out);have qa:=HCa4.out;have qb:=HCb4.out;obtain ⟨n0,n1,n2,n3,n4,n5,n6,n7,n8⟩:=HT4.out.nine)
    | fail)
   go_ret
   exact ⟨rfl,HB4.out⟩
 by_cases hbigb:100 < b.size
 ·cases is
  all_goals
   go_wp2_with (first
    | (refine wpList_store_mast rfl 30 (.tmp 7) (.tmp 23) rfl w2.heap.size nil4 nil4 nil4 nil4 (.slice pc M.chart.length cc) (.slice pf M.flows.length cf) (.slice pe M.ents.length ce) (.slice pl M.lines.length cl) zeroM M 30 rfl rfl (start1 w2) ⟨rfl,rfl,rfl,rfl⟩ (by kernel_rfl) ?_;intro w3 hb3 hg3;have HX3:=Lib.hid hb3;have HG3:=Lib.hid hg3;clear hb3 hg3)
    | (refine wpList_store_mast rfl 36 (.tmp 8) (.tmp 24) rfl (w2.heap.size+1) nil4 nil4 nil4 nil4 (.slice pc' M.chart.length cc') (.slice pf' M.flows.length cf') (.slice pe' M.ents.length ce') (.slice pl' M.lines.length cl') zeroM M 36 rfl rfl (start_keep HG3.out) ⟨rfl,rfl,rfl,rfl⟩ (by kernel_rfl) ?_;intro w4 hb4 hg4;have HT4:=Lib.hid (two_of HM2.out HM2'.out HX3.out HG3.out hb4 hg4);clear hb4 hg4;have HB4:=Lib.hid (HB2.out.trans (HT4.out.bel.mono HB2.out.size));have HL4:=Lib.hid (HL2.out.keep HT4.out.bel);have HCa4:=Lib.hid ((HT4.out.bel.cell (World.block_lt_of_cell? _ _ HCa2.out)).trans HCa2.out);have HCb4:=Lib.hid ((HT4.out.bel.cell (World.block_lt_of_cell? _ _ HCb2.out)).trans HCb2.out);have qa:=HCa4.out;have qb:=HCb4.out;obtain ⟨n0,n1,n2,n3,n4,n5,n6,n7,n8⟩:=HT4.out.nine)
    | fail)
   go_ret
   exact ⟨rfl,HB4.out⟩
 cases is with
 | false =>
   go_wp2_with (first
    | (refine wpList_store_mast rfl 30 (.tmp 7) (.tmp 23) rfl w2.heap.size nil4 nil4 nil4 nil4 (.slice pc M.chart.length cc) (.slice pf M.flows.length cf) (.slice pe M.ents.length ce) (.slice pl M.lines.length cl) zeroM M 30 rfl rfl (start1 w2) ⟨rfl,rfl,rfl,rfl⟩ (by kernel_rfl) ?_;intro w3 hb3 hg3;have HX3:=Lib.hid hb3;have HG3:=Lib.hid hg3;clear hb3 hg3)
    | (refine wpList_store_mast rfl 36 (.tmp 8) (.tmp 24) rfl (w2.heap.size+1) nil4 nil4 nil4 nil4 (.slice pc' M.chart.length cc') (.slice pf' M.flows.length cf') (.slice pe' M.ents.length ce') (.slice pl' M.lines.length cl') zeroM M 36 rfl rfl (start_keep HG3.out) ⟨rfl,rfl,rfl,rfl⟩ (by kernel_rfl) ?_;intro w4 hb4 hg4;have HT4:=Lib.hid (two_of HM2.out HM2'.out HX3.out HG3.out hb4 hg4);clear hb4 hg4;have HB4:=Lib.hid (HB2.out.trans (HT4.out.bel.mono HB2.out.size));have HL4:=Lib.hid (HL2.out.keep HT4.out.bel);have HCa4:=Lib.hid ((HT4.out.bel.cell (World.block_lt_of_cell? _ _ HCa2.out)).trans HCa2.out);have HCb4:=Lib.hid ((HT4.out.bel.cell (World.block_lt_of_cell? _ _ HCb2.out)).trans HCb2.out);have qa:=HCa4.out;have qb:=HCb4.out;obtain ⟨n0,n1,n2,n3,n4,n5,n6,n7,n8⟩:=HT4.out.nine)
    | fail)
   go_ret
   exact ⟨rfl,HB4.out⟩
 | true =>
 go_wp2_with (first
  | (refine wpList_store_mast rfl 30 (.tmp 7) (.tmp 23) rfl w2.heap.size nil4 nil4 nil4 nil4 (.slice pc M.chart.length cc) (.slice pf M.flows.length cf) (.slice pe M.ents.length ce) (.slice pl M.lines.length cl) zeroM M 30 rfl rfl (start1 w2) ⟨rfl,rfl,rfl,rfl⟩ (by kernel_rfl) ?_;intro w3 hb3 hg3;have HX3:=Lib.hid hb3;have HG3:=Lib.hid hg3;clear hb3 hg3)
  | (refine wpList_store_mast rfl 36 (.tmp 8) (.tmp 24) rfl (w2.heap.size+1) nil4 nil4 nil4 nil4 (.slice pc' M.chart.length cc') (.slice pf' M.flows.length cf') (.slice pe' M.ents.length ce') (.slice pl' M.lines.length cl') zeroM M 36 rfl rfl (start_keep HG3.out) ⟨rfl,rfl,rfl,rfl⟩ (by kernel_rfl) ?_;intro w4 hb4 hg4;have HT4:=Lib.hid (two_of HM2.out HM2'.out HX3.out HG3.out hb4 hg4);clear hb4 hg4;have HB4:=Lib.hid (HB2.out.trans (HT4.out.bel.mono HB2.out.size));have HL4:=Lib.hid (HL2.out.keep HT4.out.bel);have HCa4:=Lib.hid ((HT4.out.bel.cell (World.block_lt_of_cell? _ _ HCa2.out)).trans HCa2.out);have HCb4:=Lib.hid ((HT4.out.bel.cell (World.block_lt_of_cell? _ _ HCb2.out)).trans HCb2.out);have qa:=HCa4.out;have qb:=HCb4.out;obtain ⟨n0,n1,n2,n3,n4,n5,n6,n7,n8⟩:=HT4.out.nine)
  | fail)
 clear HM2 HM2' HB2 HL2 HCa2 HCb2 HX3 HG3
 have ho:=mast_ok (HIS.out (by first | trivial | rfl)).1
 have HO:=Lib.hid ho
 clear ho
 have hs1:s1.size≤3000:=by omega
 have HTO:=Lib.hid (tab_ok M s1 (by omega))
 have HPP:=Lib.hid (fun W h hL=>pparse_ok (c:=(.slice pc M.chart.length cc)) (f:=(.slice pf M.flows.length cf)) (e:=(.slice pe M.ents.length ce)) (l:=(.slice pl M.lines.length cl)) s1 W h HO.out (by omega) hL)
 have HDP:=Lib.hid (fun W h=>cparse_any (.slice pc' M.chart.length cc') (.slice pf' M.flows.length cf') (.slice pe' M.ents.length ce') (.slice pl' M.lines.length cl') M s1 W h (by omega))
 obtain ⟨P,hP⟩:∃ P,parseC M s1=P:=⟨_,rfl⟩
 simp only [hP] at HPP HDP HTO
 obtain ⟨L,E⟩:=P
 dsimp only at HTO
 have HPO:=Lib.hid (fun W (v:Value) h hV=>pof_ok (cv:=(.slice pc M.chart.length cc)) (fv:=(.slice pf M.flows.length cf)) (e:=(.slice pe M.ents.length ce)) (l:=(.slice pl M.lines.length cl)) (v:=v) (M:=M) (L:=L) a b W h HO.out hV HTO.out.rd)
 have HDO:=Lib.hid (fun W (v:Value) h hV=>dof_ok (cv:=(.slice pc' M.chart.length cc')) (fv:=(.slice pf' M.flows.length cf')) (e:=(.slice pe' M.ents.length ce')) (l:=(.slice pl' M.lines.length cl')) (v:=v) (M:=M) (L:=L) a b W h HO.out hV HTO.out.rd)
 obtain ⟨O,hOO⟩:∃ O,ofC M L a b=O:=⟨_,rfl⟩
 simp only [hOO] at HPO HDO
 obtain ⟨⟨N,D⟩,G⟩:=O
 dsimp only at HPO HDO
 have hee:(E != E)=false:=by simp
 have hgg:(G==G)=true:=by simp
 clear hs1 hbig hbiga hbigb hP hOO HIS n0 n1 n2 n3 n4 n5 n6 n7 n8 qa qb
 refine (HPP.out _ HT4.out.mast HL4.out).mono ?_
 rintro en w5 ⟨v5,rfl,hv5,hb5⟩
 dsimp only at hv5 ⊢
 obtain ⟨p5,c5,rfl⟩:=tab_slice hv5
 have hc5:=hb5.alloc hb5.size (.cells #[.slice p5 L.length c5] 41)
 have hx5:=(Below.refl w5.heap.size w5).alloc (Nat.le_refl _) (.cells #[.slice p5 L.length c5] 41)
 have hk5:=tab_box w5 (.slice p5 L.length c5)
 have hv5':=tab_keep hv5 hx5
 obtain ⟨W5,hW5⟩:∃ W5,w5.alloc (.cells #[.slice p5 L.length c5] 41)=W5:=⟨_,rfl⟩
 rw [hW5] at hc5 hk5 hv5'
 have HV5:=Lib.hid hv5'
 have HK5:=Lib.hid hk5
 have HB5:=Lib.hid (HB4.out.trans (hc5.mono HB4.out.size))
 have HL5:=Lib.hid (HL4.out.keep hc5)
 have HCa5:=Lib.hid ((hc5.cell (World.block_lt_of_cell? _ _ HCa4.out)).trans HCa4.out)
 have HCb5:=Lib.hid ((hc5.cell (World.block_lt_of_cell? _ _ HCb4.out)).trans HCb4.out)
 have HT5:=Lib.hid (HT4.out.keep hc5)
 clear HB4 HL4 HCa4 HCb4 HT4
 clear hv5 hv5' hb5 hc5 hx5 hk5 HPP
 obtain ⟨n0,n1,n2,n3,n4,n5,n6,n7,n8⟩:=HT5.out.nine'
 go_wp2_with fail
 clear n0 n1 n2 n3 n4 n5 n6 n7 n8 hW5
 refine (HDP.out _ HT5.out.mast').mono ?_
 rintro en w6 ⟨v6,rfl,hv6,hb6⟩
 dsimp only at hv6 ⊢
 obtain ⟨p6,c6,rfl⟩:=tab_slice hv6
 have HU6:=Lib.hid hv6
 have HB6:=Lib.hid (HB5.out.trans (hb6.mono HB5.out.size))
 have HL6:=Lib.hid (HL5.out.keep hb6)
 have HCa6:=Lib.hid ((hb6.cell (World.block_lt_of_cell? _ _ HCa5.out)).trans HCa5.out)
 have HCb6:=Lib.hid ((hb6.cell (World.block_lt_of_cell? _ _ HCb5.out)).trans HCb5.out)
 have HT6:=Lib.hid (HT5.out.keep hb6)
 have HV6:=Lib.hid (tab_keep HV5.out hb6)
 have HK6:=Lib.hid ((hb6.cell (World.block_lt_of_cell? _ _ HK5.out)).trans HK5.out)
 clear HB5 HL5 HCa5 HCb5 HT5 HV5 HK5
 clear hv6 hb6 HDP
 obtain ⟨n0,n1,n2,n3,n4,n5,n6,n7,n8⟩:=HT6.out.nine
 have k0:=HK6.out
 have qa:=HCa6.out
 have qb:=HCb6.out
 go_wp2_with fail
 clear n0 n1 n2 n3 n4 n5 n6 n7 n8 k0 qa qb
 refine (HPO.out _ _ HT6.out.mast HV6.out).mono ?_
 rintro en w7 ⟨rfl,hb7⟩
 have hc7:=hb7.alloc hb7.size (.cells #[.int .i64 N,.int .i64 D] 53)
 have hr7:=Ra.RateAt.mk w7 N D 53
 obtain ⟨W7,hW7⟩:∃ W5,w7.alloc (.cells #[.int .i64 N,.int .i64 D] 53)=W5:=⟨_,rfl⟩
 rw [hW7] at hc7 hr7
 have HX7:=Lib.hid hr7
 have HB7:=Lib.hid (HB6.out.trans (hc7.mono HB6.out.size))
 have HL7:=Lib.hid (HL6.out.keep hc7)
 have HCa7:=Lib.hid ((hc7.cell (World.block_lt_of_cell? _ _ HCa6.out)).trans HCa6.out)
 have HCb7:=Lib.hid ((hc7.cell (World.block_lt_of_cell? _ _ HCb6.out)).trans HCb6.out)
 have HT7:=Lib.hid (HT6.out.keep hc7)
 have HV7:=Lib.hid (tab_keep HV6.out hc7)
 have HK7:=Lib.hid ((hc7.cell (World.block_lt_of_cell? _ _ HK6.out)).trans HK6.out)
 have HU7:=Lib.hid (tab_keep HU6.out hc7)
 clear HB6 HL6 HCa6 HCb6 HT6 HV6 HK6 HU6
 clear hb7 hc7 hr7 HPO
 obtain ⟨n0,n1,n2,n3,n4,n5,n6,n7,n8⟩:=HT7.out.nine'
 have qa:=HCa7.out
 have qb:=HCb7.out
 go_wp2_with fail
 clear n0 n1 n2 n3 n4 n5 n6 n7 n8 qa qb hW7
 refine (HDO.out _ _ HT7.out.mast' HU7.out).mono ?_
 rintro en w8 ⟨rfl,hb8⟩
 have hc8:=hb8.alloc hb8.size (.cells #[.int .i64 N,.int .i64 D] 56)
 have hr8:=Ra.RateAt.mk w8 N D 56
 obtain ⟨W8,hW8⟩:∃ W5,w8.alloc (.cells #[.int .i64 N,.int .i64 D] 56)=W5:=⟨_,rfl⟩
 rw [hW8] at hc8 hr8
 have HY8:=Lib.hid hr8
 have HB8:=Lib.hid (HB7.out.trans (hc8.mono HB7.out.size))
 have HL8:=Lib.hid (HL7.out.keep hc8)
 have HCa8:=Lib.hid ((hc8.cell (World.block_lt_of_cell? _ _ HCa7.out)).trans HCa7.out)
 have HCb8:=Lib.hid ((hc8.cell (World.block_lt_of_cell? _ _ HCb7.out)).trans HCb7.out)
 have HT8:=Lib.hid (HT7.out.keep hc8)
 have HV8:=Lib.hid (tab_keep HV7.out hc8)
 have HK8:=Lib.hid ((hc8.cell (World.block_lt_of_cell? _ _ HK7.out)).trans HK7.out)
 have HU8:=Lib.hid (tab_keep HU7.out hc8)
 have HX8:=Lib.hid (HX7.out.keep hc8 (Nat.le_refl _))
 clear HB7 HL7 HCa7 HCb7 HT7 HV7 HK7 HU7 HX7
 clear hb8 hc8 hr8 HDO
 obtain ⟨x0,x1⟩:=HX8.out
 obtain ⟨y0,y1⟩:=HY8.out
 go_wp2
 go_ret
 exact ⟨rfl,HB8.out⟩
end Go.Proofs.YthcpglnmhimepaaGreatDoor.Cs
end
