/- PackChecks -/
import Derived.Test.YtdegffffcbhjbaaGreatDoorQ22
import Derived.Test.YtdegffffcbhjbaaGreatDoorQ26
namespace Go.Proofs.YtdegffffcbhjbaaGreatDoor.Pk
open Go.RowKit Go.Maps Go.Proofs.YtdegffffcbhjbaaGreatDoor.Un
set_option maxRecDepth 100000 in
set_option maxHeartbeats 16000000 in
theorem packChecks_walk (s0:ByteArray) (x:Fa.Fact) (w:World) (_hs0:s0.size≤maxLen) (_hx:In64 x.key.m∧In64 x.amt) (hU:LaidP w):Calls Tryz.prog 4 #[.string s0,Fa.aggF x] w fun en w'=>en=.returned (.bool true)∧Below w.heap.size w w':=by
 have hb0:=(Below.refl w.heap.size w).alloc (Nat.le_refl _) (.cells (fCells x) 53)
 have hf0:ElAt Fa.encF (w.alloc (.cells (fCells x) 53)) w.heap.size 0 x:=el_new Fa.encF w x 53
 obtain ⟨W0,hW0⟩:∃ W0,w.alloc (.cells (fCells x) 53)=W0:=⟨_,rfl⟩
 rw [hW0] at hb0 hf0
 have HB0:=Lib.hid hb0
 have HF0:=Lib.hid hf0
 have HL:=Lib.hid (hU.keep hb0)
 clear hU hb0 hf0 _hs0 _hx
 go_enter Tryz.func4,Tryz.ntmps4
 go_wp2_with fail
 clear hW0
 refine (alive11_any _ HL.out).mono ?_
 rintro en w1 ⟨rfl,hb1⟩
 have HB1:=Lib.hid hb1
 have HL1:=Lib.hid (HL.out.keep hb1)
 clear hb1
 go_wp2_with fail
 refine (master_any s0 _ HL1.out.1 HL1.out.2.1).mono ?_
 rintro en w2 ⟨M,c,f,e,l,c',f',e',l',is,rfl,hm,hm',hb2,his⟩
 obtain ⟨pc,cc,pf,cf,pe,ce,pl,cl,rfl,rfl,rfl,rfl⟩:=shapes hm
 obtain ⟨pc',cc',pf',cf',pe',ce',pl',cl',rfl,rfl,rfl,rfl⟩:=shapes hm'
 have HM2:=Lib.hid hm
 have HM2':=Lib.hid hm'
 have HB2:=Lib.hid (HB1.out.trans (hb2.mono HB1.out.size))
 have HL2:=Lib.hid (HL1.out.keep hb2)
 have HIS:=Lib.hid his
 clear hm hm' hb2 his HB1 HL1
 cases is with
 | false =>
   go_wp2_with (first
    | (refine wpList_store_mast rfl 30 (.tmp 5) (.tmp 13) rfl w2.heap.size nil4 nil4 nil4 nil4 (.slice pc M.chart.length cc) (.slice pf M.flows.length cf) (.slice pe M.ents.length ce) (.slice pl M.lines.length cl) zeroM M 30 rfl rfl (start1 w2) ⟨rfl,rfl,rfl,rfl⟩ (by kernel_rfl) ?_;intro w3 hb3 hg3;have HX3:=Lib.hid hb3;have HG3:=Lib.hid hg3;clear hb3 hg3)
    | (refine wpList_store_mast rfl 36 (.tmp 6) (.tmp 14) rfl (w2.heap.size+1) nil4 nil4 nil4 nil4 (.slice pc' M.chart.length cc') (.slice pf' M.flows.length cf') (.slice pe' M.ents.length ce') (.slice pl' M.lines.length cl') zeroM M 36 rfl rfl (start_keep HG3.out) ⟨rfl,rfl,rfl,rfl⟩ (by kernel_rfl) ?_;intro w4 hb4 hg4;have HT4:=Lib.hid (two_of HM2.out HM2'.out HX3.out HG3.out hb4 hg4);clear hb4 hg4)
    | fail)
   have HB4:=Lib.hid (HB2.out.trans (HT4.out.bel.mono HB2.out.size))
   go_ret
   exact ⟨rfl,HB0.out.trans (HB4.out.mono HB0.out.size)⟩
 | true =>
 go_wp2_with (first
  | (refine wpList_store_mast rfl 30 (.tmp 5) (.tmp 13) rfl w2.heap.size nil4 nil4 nil4 nil4 (.slice pc M.chart.length cc) (.slice pf M.flows.length cf) (.slice pe M.ents.length ce) (.slice pl M.lines.length cl) zeroM M 30 rfl rfl (start1 w2) ⟨rfl,rfl,rfl,rfl⟩ (by kernel_rfl) ?_;intro w3 hb3 hg3;have HX3:=Lib.hid hb3;have HG3:=Lib.hid hg3;clear hb3 hg3)
  | (refine wpList_store_mast rfl 36 (.tmp 6) (.tmp 14) rfl (w2.heap.size+1) nil4 nil4 nil4 nil4 (.slice pc' M.chart.length cc') (.slice pf' M.flows.length cf') (.slice pe' M.ents.length ce') (.slice pl' M.lines.length cl') zeroM M 36 rfl rfl (start_keep HG3.out) ⟨rfl,rfl,rfl,rfl⟩ (by kernel_rfl) ?_;intro w4 hb4 hg4;have HT4:=Lib.hid (two_of HM2.out HM2'.out HX3.out HG3.out hb4 hg4);clear hb4 hg4;have HF4:=Lib.hid (HF0.out.keep (HB2.out.trans (HT4.out.bel.mono HB2.out.size)) HF0.out.lt);obtain ⟨f0,f1,f2,f3,f4,f5⟩:=Fa.fact6 HF4.out;simp only [Nat.zero_add] at f0 f1 f2 f3 f4 f5)
  | fail)
 have HB4:=Lib.hid (HB2.out.trans (HT4.out.bel.mono HB2.out.size))
 have HL4:=Lib.hid (HL2.out.keep HT4.out.bel)
 clear HM2 HM2' HB2 HL2 HX3 HG3
 have hb5:=(Below.refl w4.heap.size w4).alloc (Nat.le_refl _) (.cells (flat Fa.encF [x]).toArray 53)
 have HV5:=Lib.hid (els_new Fa.encF w4 [x] 53 (by simp [maxLen]))
 have HB5:=Lib.hid (HB4.out.trans (hb5.mono HB4.out.size))
 have HT5:=Lib.hid (HT4.out.keep hb5)
 have HF5:=Lib.hid (HF4.out.keep hb5 HF4.out.lt)
 have HL5:=Lib.hid (HL4.out.keep hb5)
 clear hb5
 clear f0 f1 f2 f3 f4 f5
 refine (Fa.few_any _ [x] _ HV5.out).mono ?_
 rintro en w6 ⟨rfl,hb6⟩
 have HB6:=Lib.hid (HB5.out.trans (hb6.mono HB5.out.size))
 have HT6:=Lib.hid (HT5.out.keep hb6)
 have HF6:=Lib.hid (HF5.out.keep hb6 HF5.out.lt)
 have HL6:=Lib.hid (HL5.out.keep hb6)
 clear hb6 HB4 HT4 HL4 HF4 HB5 HT5 HF5 HL5 HV5
 cases hfew:Fa.fewL [x] with
 | false =>
   go_wp2
   go_ret
   exact ⟨rfl,HB0.out.trans (HB6.out.mono HB0.out.size)⟩
 | true =>
 have hR:=(HIS.out (by first | trivial | rfl)).1
 have hsn:=hR.inv.sane
 have hz:=solid_none (solid_of hR)
 have HC1:=Lib.hid (fun W h=>check_any (.slice pc M.chart.length cc) (.slice pf M.flows.length cf) (.slice pe M.ents.length ce) (.slice pl M.lines.length cl) M x W h (Fl.rise_codes hsn.fl) (by have:=hsn.lf;omega))
 have HC2:=Lib.hid (fun W h=>rcheck_any (.slice pc' M.chart.length cc') (.slice pf' M.flows.length cf') (.slice pe' M.ents.length ce') (.slice pl' M.lines.length cl') M x W h hz)
 obtain ⟨E,hE⟩:∃ E,checkE M x.key=E:=⟨_,rfl⟩
 simp only [hE] at HC1 HC2
 clear hE hR hsn hz hfew
 obtain ⟨n0,n1,n2,n3,n4,n5,n6,n7,n8⟩:=HT6.out.nine
 obtain ⟨m0,m1,m2,m3,m4,m5,m6,m7,m8⟩:=HT6.out.nine'
 obtain ⟨f0,f1,f2,f3,f4,f5⟩:=Fa.fact6 HF6.out
 simp only [Nat.zero_add] at f0 f1 f2 f3 f4 f5
 have s0:=fun q:Past w6=>cell_past n0 q
 have r0:=fun q:Past w6=>cell_past m0 q
 have s1:=fun q:Past w6=>cell_past n1 q
 have r1:=fun q:Past w6=>cell_past m1 q
 have s2:=fun q:Past w6=>cell_past n2 q
 have r2:=fun q:Past w6=>cell_past m2 q
 have s3:=fun q:Past w6=>cell_past n3 q
 have r3:=fun q:Past w6=>cell_past m3 q
 have s4:=fun q:Past w6=>cell_past n4 q
 have r4:=fun q:Past w6=>cell_past m4 q
 have s5:=fun q:Past w6=>cell_past n5 q
 have r5:=fun q:Past w6=>cell_past m5 q
 have s6:=fun q:Past w6=>cell_past n6 q
 have r6:=fun q:Past w6=>cell_past m6 q
 have s7:=fun q:Past w6=>cell_past n7 q
 have r7:=fun q:Past w6=>cell_past m7 q
 have s8:=fun q:Past w6=>cell_past n8 q
 have r8:=fun q:Past w6=>cell_past m8 q
 have t0:=fun q:Past w6=>cell_past f0 q
 have t1:=fun q:Past w6=>cell_past f1 q
 have t2:=fun q:Past w6=>cell_past f2 q
 have t3:=fun q:Past w6=>cell_past f3 q
 have t4:=fun q:Past w6=>cell_past f4 q
 have t5:=fun q:Past w6=>cell_past f5 q
 clear n0 n1 n2 n3 n4 n5 n6 n7 n8 m0 m1 m2 m3 m4 m5 m6 m7 m8 f0 f1 f2 f3 f4 f5
 go_wp2_with fail
 refine wp_region_plan (.one [0,1,7,8] 2 (.one [] 3 (.one [4] 5 (.one [] 6 (.one [] 9 (.last [10,11])))))) (by kernel_rfl) (by kernel_rfl) (fun d _ _ _ _ h=>by cases d <;> exact h) ?_
 obtain ⟨wx,hwx⟩:∃ wx,w6.drew=wx:=⟨_,rfl⟩
 rw [hwx]
 have HDX:Hid (Below w6.heap.size w6 wx):=Lib.hid (by rw [←hwx];exact ⟨rfl,rfl,rfl,Nat.le_refl _,fun _ _=>rfl⟩)
 clear hwx
 simp only [wpPlan,pick,nth]
 repeat (go_big_quiet_step (fail))
 refine wpQuiet_nil ?_
 clear s0 s1 s2 s3 s4 s5 s6 s7 s8 r0 r1 r2 r3 r4 r5 r6 r7 r8 t0 t1 t2 t3 t4 t5
 have HBX:=Lib.hid (HDX.out.alloc HDX.out.size (.cells (flat Fa.encF [x]).toArray 53))
 have HV7:=Lib.hid (els_new Fa.encF wx [x] 53 (by simp [maxLen]))
 intro K hK
 refine alone_want (by kernel_rfl) ?_
 go_big_op
 refine hK _ _ (past_in HBX.out) ?_
 clear hK K
 refine wpQuiet_nil ?_
 intro K hK
 refine alone_want (by kernel_rfl) ?_
 go_big_op
 refine (Fa.theirs_any _ [x] _ HV7.out (by simp)).mono ?_
 rintro en w8 ⟨u8,rfl,ho8,hb8⟩
 have HB8:=Lib.hid (HBX.out.trans (hb8.mono HBX.out.size))
 obtain ⟨p8,c8,rfl,hcap8,hm8,_,hc8⟩:=els_of_own (E:=Fa.encF) (L:=[x]) ho8
 obtain ⟨g8,o8,rfl,hat8⟩:=hc8 0 x rfl
 obtain ⟨f0,f1,f2,f3,f4,f5⟩:=Fa.fact6 hat8
 simp only [show Fa.encF.k=6 from rfl,Nat.zero_mul,Nat.add_zero] at f0 f1 f2 f3 f4 f5
 simp only [List.length_singleton] at hcap8 hm8 ⊢
 refine hK _ _ (past_in HB8.out) ?_
 clear hK K hb8 ho8 hc8 hat8
 repeat (go_big_quiet_step (fail))
 refine wpQuiet_nil ?_
 intro K hK
 refine alone_want (by kernel_rfl) ?_
 go_big_op
 refine hK _ _ (past_in HB8.out) ?_
 clear hK K f0 f1 f2 f3 f4 f5
 refine wpQuiet_nil ?_
 intro K hK
 refine alone_want (by kernel_rfl) ?_
 go_big_op
 refine (HC1.out _ (HT6.out.mast.keep HB8.out)).mono ?_
 rintro en wa ⟨rfl,hba⟩
 have HBA:=Lib.hid (HB8.out.trans (hba.mono HB8.out.size))
 refine hK _ _ (past_in HBA.out) ?_
 clear hK K hba
 refine wpQuiet_nil ?_
 intro K hK
 refine alone_want (by kernel_rfl) ?_
 go_big_op
 refine (HC2.out _ (HT6.out.mast'.keep HBA.out)).mono ?_
 rintro en wb ⟨rfl,hbb⟩
 have HBB:=Lib.hid (HBA.out.trans (hbb.mono HBA.out.size))
 refine hK _ _ (past_in HBB.out) ?_
 clear hK K hbb HC1 HC2
 have hEE:(E==E)=true:=by simp
 repeat (go_big_quiet_step (fail))
 refine wpQuiet_nil ?_
 have HBT:=Lib.hid (HB0.out.trans ((HB6.out.trans (HBB.out.mono HB6.out.size)).mono HB0.out.size))
 go_wp2
 go_ret
 exact ⟨by simp,HBT.out⟩
end Go.Proofs.YtdegffffcbhjbaaGreatDoor.Pk
