/- PackPartners -/
import Derived.Test.YtdegffffcbhjbaaGreatDoorQ26
namespace Go.Proofs.YtdegffffcbhjbaaGreatDoor.Pk
open Go.RowKit Go.Maps Go.Proofs.YtdegffffcbhjbaaGreatDoor.Un
theorem checkE_zero {M:Mast} {k:Fa.Key} (h:checkE M k=0):inM M k=true∧(isP k && decide (k.p=k.e))=false∧isP k=mutA M k.a∧kindF M k.f≠2:=by
 cases h1:inM M k with
 | false=>rw [checkE_no h1] at h;cases h
 | true =>
   cases h2:(isP k && decide (k.p=k.e)) with
   | true=>rw [checkE_arg h1 h2] at h;cases h
   | false =>
     by_cases h3:isP k=mutA M k.a
     ·rw [checkE_end h1 h2 h3] at h
      refine ⟨rfl,rfl,h3,fun h4=>?_⟩
      rw [if_pos h4] at h;cases h
     ·rw [checkE_cls h1 h2 h3] at h;cases h
theorem isP_emp (e a f:ByteArray) (m:Int):isP (⟨e,a,f,⟨#[]⟩,m⟩:Fa.Key)=false:=by unfold isP;simp
theorem partner_none {M:Mast} {k:Fa.Key} (hp:isP k=true) (h:checkE M k=0):checkE M ⟨k.e,k.a,k.f,⟨#[]⟩,k.m⟩=15:=by
 obtain ⟨h1,_,h3,_⟩:=checkE_zero h
 have h0:=isP_emp k.e k.a k.f k.m
 unfold inM at h1
 simp only [Bool.and_eq_true] at h1
 refine checkE_cls ?_ (by rw [h0];rfl) ?_
 ·unfold inM
  rw [h0]
  show (hasE M k.e && hasA M.chart k.a && hasFl M k.f && (!false || _))=true
  rw [h1.1.1.1,h1.1.1.2,h1.1.2];rfl
 ·rw [h0]
  show false≠mutA M k.a
  rw [←h3,hp];decide
theorem partner_self {M:Mast} {k:Fa.Key} (hz:hasE M emp=false) (h:checkE M k=0):checkE M ⟨k.e,k.a,k.f,k.e,k.m⟩=1:=by
 obtain ⟨h1,_,_,_⟩:=checkE_zero h
 unfold inM at h1
 simp only [Bool.and_eq_true] at h1
 have hne:k.e≠emp:=fun e=>by rw [e,hz] at h1;cases h1.1.1.1
 refine checkE_arg ?_ ?_
 ·unfold inM
  show (hasE M k.e && hasA M.chart k.a && hasFl M k.f && (_ || hasE M k.e))=true
  rw [h1.1.1.1,h1.1.1.2,h1.1.2];simp
 ·unfold isP
  simp [hne]
set_option maxRecDepth 100000 in
set_option maxHeartbeats 16000000 in
theorem packPartners_walk (s0:ByteArray) (x:Fa.Fact) (w:World) (_hs0:s0.size≤maxLen) (_hx:In64 x.key.m∧In64 x.amt) (hU:LaidP w):Calls Tryz.prog 8 #[.string s0,Fa.aggF x] w fun en w'=>en=.returned (.bool true)∧Below w.heap.size w w':=by
 have hb0:=(Below.refl w.heap.size w).alloc (Nat.le_refl _) (.cells (fCells x) 53)
 have hf0:ElAt Fa.encF (w.alloc (.cells (fCells x) 53)) w.heap.size 0 x:=el_new Fa.encF w x 53
 obtain ⟨W0,hW0⟩:∃ W0,w.alloc (.cells (fCells x) 53)=W0:=⟨_,rfl⟩
 rw [hW0] at hb0 hf0
 have HB0:=Lib.hid hb0
 have HF0:=Lib.hid hf0
 have HL:=Lib.hid (hU.keep hb0)
 clear hU hb0 hf0 _hs0 _hx
 go_enter Tryz.func8,Tryz.ntmps8
 go_wp2_with fail
 clear hW0
 refine (alive11_any _ HL.out).mono ?_
 rintro en w1 ⟨rfl,hb1⟩
 have HB1:=Lib.hid hb1
 have HL1:=Lib.hid (HL.out.keep hb1)
 clear hb1
 go_wp2_with fail
 refine (master_any s0 _ HL1.out.1 HL1.out.2.1).mono ?_
 rintro en w2 ⟨M,c,f,e,l,c',f',e',l',is,rfl,hm,hm',hb2,his⟩
 obtain ⟨pc,cc,pf,cf,pe,ce,pl,cl,rfl,rfl,rfl,rfl⟩:=shapes hm
 obtain ⟨pc',cc',pf',cf',pe',ce',pl',cl',rfl,rfl,rfl,rfl⟩:=shapes hm'
 have HM2:=Lib.hid hm
 have HM2':=Lib.hid hm'
 have HB2:=Lib.hid (HB1.out.trans (hb2.mono HB1.out.size))
 have HL2:=Lib.hid (HL1.out.keep hb2)
 have HIS:=Lib.hid his
 clear hm hm' hb2 his HB1 HL1
 cases is with
 | false =>
   go_wp2_with (first
    | (refine wpList_store_mast rfl 30 (.tmp 5) (.tmp 18) rfl w2.heap.size nil4 nil4 nil4 nil4 (.slice pc M.chart.length cc) (.slice pf M.flows.length cf) (.slice pe M.ents.length ce) (.slice pl M.lines.length cl) zeroM M 30 rfl rfl (start1 w2) ⟨rfl,rfl,rfl,rfl⟩ (by kernel_rfl) ?_;intro w3 hb3 hg3;have HX3:=Lib.hid hb3;have HG3:=Lib.hid hg3;clear hb3 hg3)
    | (refine wpList_store_mast rfl 36 (.tmp 6) (.tmp 19) rfl (w2.heap.size+1) nil4 nil4 nil4 nil4 (.slice pc' M.chart.length cc') (.slice pf' M.flows.length cf') (.slice pe' M.ents.length ce') (.slice pl' M.lines.length cl') zeroM M 36 rfl rfl (start_keep HG3.out) ⟨rfl,rfl,rfl,rfl⟩ (by kernel_rfl) ?_;intro w4 hb4 hg4;have HT4:=Lib.hid (two_of HM2.out HM2'.out HX3.out HG3.out hb4 hg4);clear hb4 hg4)
    | fail)
   have HB4:=Lib.hid (HB2.out.trans (HT4.out.bel.mono HB2.out.size))
   go_ret
   exact ⟨rfl,HB0.out.trans (HB4.out.mono HB0.out.size)⟩
 | true =>
 go_wp2_with (first
  | (refine wpList_store_mast rfl 30 (.tmp 5) (.tmp 18) rfl w2.heap.size nil4 nil4 nil4 nil4 (.slice pc M.chart.length cc) (.slice pf M.flows.length cf) (.slice pe M.ents.length ce) (.slice pl M.lines.length cl) zeroM M 30 rfl rfl (start1 w2) ⟨rfl,rfl,rfl,rfl⟩ (by kernel_rfl) ?_;intro w3 hb3 hg3;have HX3:=Lib.hid hb3;have HG3:=Lib.hid hg3;clear hb3 hg3)
  | (refine wpList_store_mast rfl 36 (.tmp 6) (.tmp 19) rfl (w2.heap.size+1) nil4 nil4 nil4 nil4 (.slice pc' M.chart.length cc') (.slice pf' M.flows.length cf') (.slice pe' M.ents.length ce') (.slice pl' M.lines.length cl') zeroM M 36 rfl rfl (start_keep HG3.out) ⟨rfl,rfl,rfl,rfl⟩ (by kernel_rfl) ?_;intro w4 hb4 hg4;have HT4:=Lib.hid (two_of HM2.out HM2'.out HX3.out HG3.out hb4 hg4);clear hb4 hg4;have HF4:=Lib.hid (HF0.out.keep (HB2.out.trans (HT4.out.bel.mono HB2.out.size)) HF0.out.lt);obtain ⟨f0,f1,f2,f3,f4,f5⟩:=Fa.fact6 HF4.out;simp only [Nat.zero_add] at f0 f1 f2 f3 f4 f5)
  | fail)
 have HB4:=Lib.hid (HB2.out.trans (HT4.out.bel.mono HB2.out.size))
 have HL4:=Lib.hid (HL2.out.keep HT4.out.bel)
 clear HM2 HM2' HB2 HL2 HX3 HG3
 have hb5:=(Below.refl w4.heap.size w4).alloc (Nat.le_refl _) (.cells (flat Fa.encF [x]).toArray 53)
 have HV5:=Lib.hid (els_new Fa.encF w4 [x] 53 (by simp [maxLen]))
 have HB5:=Lib.hid (HB4.out.trans (hb5.mono HB4.out.size))
 have HT5:=Lib.hid (HT4.out.keep hb5)
 have HF5:=Lib.hid (HF4.out.keep hb5 HF4.out.lt)
 have HL5:=Lib.hid (HL4.out.keep hb5)
 clear hb5
 clear f0 f1 f2 f3 f4 f5
 refine (Fa.few_any _ [x] _ HV5.out).mono ?_
 rintro en w6 ⟨rfl,hb6⟩
 have HB6:=Lib.hid (HB5.out.trans (hb6.mono HB5.out.size))
 have HT6:=Lib.hid (HT5.out.keep hb6)
 have HF6:=Lib.hid (HF5.out.keep hb6 HF5.out.lt)
 have HL6:=Lib.hid (HL5.out.keep hb6)
 clear hb6 HB4 HT4 HL4 HF4 HB5 HT5 HF5 HL5 HV5
 cases hfew:Fa.fewL [x] with
 | false =>
   go_wp2
   go_ret
   exact ⟨rfl,HB0.out.trans (HB6.out.mono HB0.out.size)⟩
 | true =>
 obtain ⟨f0,f1,f2,f3,f4,f5⟩:=Fa.fact6 HF6.out
 simp only [Nat.zero_add] at f0 f1 f2 f3 f4 f5
 have hb7:=(Below.refl w6.heap.size w6).alloc (Nat.le_refl _) (.cells (flat Fa.encF [x]).toArray 53)
 have HV7:=Lib.hid (els_new Fa.encF w6 [x] 53 (by simp [maxLen]))
 have HB7:=Lib.hid (HB6.out.trans (hb7.mono HB6.out.size))
 have HT7:=Lib.hid (HT6.out.keep hb7)
 have HL7:=Lib.hid (HL6.out.keep hb7)
 clear hb7 HB6 HT6 HF6 HL6 hfew
 go_wp2_with fail
 clear f0 f1 f2 f3 f4 f5
 refine (Fa.theirs_any _ [x] _ HV7.out (by simp)).mono ?_
 rintro en w8 ⟨u8,rfl,ho8,hb8⟩
 have HB8:=Lib.hid (HB7.out.trans (hb8.mono HB7.out.size))
 have HT8:=Lib.hid (HT7.out.keep hb8)
 have HL8:=Lib.hid (HL7.out.keep hb8)
 obtain ⟨p8,c8,rfl,hcap8,hm8,_,hc8⟩:=els_of_own (E:=Fa.encF) (L:=[x]) ho8
 obtain ⟨g8,o8,rfl,hat8⟩:=hc8 0 x rfl
 obtain ⟨f0,f1,f2,f3,f4,f5⟩:=Fa.fact6 hat8
 simp only [show Fa.encF.k=6 from rfl,Nat.zero_mul,Nat.add_zero] at f0 f1 f2 f3 f4 f5
 simp only [List.length_singleton] at hcap8 hm8 ⊢
 clear hb8 HB7 HT7 HL7 HV7 ho8 hc8 hat8
 go_wp2_with fail
 clear f0 f1 f2 f3 f4 f5
 have hx9:ElAt Fa.encF (((w8.alloc (.cells (fCells x) 58)).alloc (.cells (fCells ⟨⟨x.key.e,x.key.a,x.key.f,⟨#[]⟩,x.key.m⟩,x.amt⟩) 58)).alloc (.cells (fCells ⟨⟨x.key.e,x.key.a,x.key.f,x.key.e,x.key.m⟩,x.amt⟩) 58)) w8.heap.size 0 x :=
  ((el_new Fa.encF w8 x 58).keep ((Below.refl _ _).alloc (Nat.le_refl _) _) (el_new Fa.encF w8 x 58).lt).keep ((Below.refl _ _).alloc (Nat.le_refl _) _) (by simp;omega)
 have hy9:ElAt Fa.encF (((w8.alloc (.cells (fCells x) 58)).alloc (.cells (fCells ⟨⟨x.key.e,x.key.a,x.key.f,⟨#[]⟩,x.key.m⟩,x.amt⟩) 58)).alloc (.cells (fCells ⟨⟨x.key.e,x.key.a,x.key.f,x.key.e,x.key.m⟩,x.amt⟩) 58)) (w8.heap.size+1) 0 ⟨⟨x.key.e,x.key.a,x.key.f,⟨#[]⟩,x.key.m⟩,x.amt⟩:=by
  have:=(el_new Fa.encF (w8.alloc (.cells (fCells x) 58)) ⟨⟨x.key.e,x.key.a,x.key.f,⟨#[]⟩,x.key.m⟩,x.amt⟩ 58)
  rw [World.size_alloc] at this
  exact this.keep ((Below.refl _ _).alloc (Nat.le_refl _) _) (by simp)
 have hz9:ElAt Fa.encF (((w8.alloc (.cells (fCells x) 58)).alloc (.cells (fCells ⟨⟨x.key.e,x.key.a,x.key.f,⟨#[]⟩,x.key.m⟩,x.amt⟩) 58)).alloc (.cells (fCells ⟨⟨x.key.e,x.key.a,x.key.f,x.key.e,x.key.m⟩,x.amt⟩) 58)) (w8.heap.size+1+1) 0 ⟨⟨x.key.e,x.key.a,x.key.f,x.key.e,x.key.m⟩,x.amt⟩:=by
  have:=(el_new Fa.encF ((w8.alloc (.cells (fCells x) 58)).alloc (.cells (fCells ⟨⟨x.key.e,x.key.a,x.key.f,⟨#[]⟩,x.key.m⟩,x.amt⟩) 58)) ⟨⟨x.key.e,x.key.a,x.key.f,x.key.e,x.key.m⟩,x.amt⟩ 58)
  rw [World.size_alloc,World.size_alloc] at this
  exact this
 have hb9:=(((Below.refl w8.heap.size w8).alloc (Nat.le_refl _) (.cells (fCells x) 58)).alloc (by simp) (.cells (fCells ⟨⟨x.key.e,x.key.a,x.key.f,⟨#[]⟩,x.key.m⟩,x.amt⟩) 58)).alloc (by simp;omega) (.cells (fCells ⟨⟨x.key.e,x.key.a,x.key.f,x.key.e,x.key.m⟩,x.amt⟩) 58)
 generalize hW9:((w8.alloc (.cells (fCells x) 58)).alloc (.cells (fCells ⟨⟨x.key.e,x.key.a,x.key.f,⟨#[]⟩,x.key.m⟩,x.amt⟩) 58)).alloc (.cells (fCells ⟨⟨x.key.e,x.key.a,x.key.f,x.key.e,x.key.m⟩,x.amt⟩) 58)=W9 at hx9 hy9 hz9 hb9
 clear hW9
 have HX9:=Lib.hid hx9
 have HY9:=Lib.hid hy9
 have HZ9:=Lib.hid hz9
 have HB9:=Lib.hid (HB8.out.trans (hb9.mono HB8.out.size))
 have HT9:=Lib.hid (HT8.out.keep hb9)
 have hR:=(HIS.out (by first | trivial | rfl)).1
 have hsn:=hR.inv.sane
 have hz:=solid_none (solid_of hR)
 have HC1:=Lib.hid (fun W h=>check_any (.slice pc M.chart.length cc) (.slice pf M.flows.length cf) (.slice pe M.ents.length ce) (.slice pl M.lines.length cl) M x W h (Fl.rise_codes hsn.fl) (by have:=hsn.lf;omega))
 have HC2:=Lib.hid (fun W h=>check_any (.slice pc M.chart.length cc) (.slice pf M.flows.length cf) (.slice pe M.ents.length ce) (.slice pl M.lines.length cl) M ⟨⟨x.key.e,x.key.a,x.key.f,⟨#[]⟩,x.key.m⟩,x.amt⟩ W h (Fl.rise_codes hsn.fl) (by have:=hsn.lf;omega))
 have HC3:=Lib.hid (fun W h=>check_any (.slice pc M.chart.length cc) (.slice pf M.flows.length cf) (.slice pe M.ents.length ce) (.slice pl M.lines.length cl) M ⟨⟨x.key.e,x.key.a,x.key.f,x.key.e,x.key.m⟩,x.amt⟩ W h (Fl.rise_codes hsn.fl) (by have:=hsn.lf;omega))
 have h12:=partner_none (M:=M) (k:=x.key)
 have h13:=partner_self (M:=M) (k:=x.key) hz
 obtain ⟨E1,hE1⟩:∃ E,checkE M x.key=E:=⟨_,rfl⟩
 obtain ⟨E2,hE2⟩:∃ E,checkE M ⟨x.key.e,x.key.a,x.key.f,⟨#[]⟩,x.key.m⟩=E:=⟨_,rfl⟩
 obtain ⟨E3,hE3⟩:∃ E,checkE M ⟨x.key.e,x.key.a,x.key.f,x.key.e,x.key.m⟩=E:=⟨_,rfl⟩
 simp only [hE1] at HC1
 simp only [hE2] at HC2
 simp only [hE3] at HC3
 rw [hE1,hE2] at h12
 rw [hE1,hE3] at h13
 have hne:=isP_ne x.key
 obtain ⟨P,hP⟩:∃ P,isP x.key=P:=⟨_,rfl⟩
 rw [hP] at hne h12
 have H12:=Lib.hid h12
 have H13:=Lib.hid h13
 obtain ⟨n0,n1,n2,n3,n4,n5,n6,n7,n8⟩:=HT9.out.nine
 obtain ⟨f0,f1,f2,f3,f4,f5⟩:=Fa.fact6 hx9
 obtain ⟨g0,g1,g2,g3,g4,g5⟩:=Fa.fact6 hy9
 simp only [Nat.zero_add] at f0 f1 f2 f3 f4 f5 g0 g1 g2 g3 g4 g5
 clear hx9 hy9 hz9 hb9 hR hsn hz h12 h13 hE1 hE2 hE3 hP HB8 HT8 HL8
 have s0:=fun q:Past W9=>cell_past n0 q
 have s1:=fun q:Past W9=>cell_past n1 q
 have s2:=fun q:Past W9=>cell_past n2 q
 have s3:=fun q:Past W9=>cell_past n3 q
 have s4:=fun q:Past W9=>cell_past n4 q
 have s5:=fun q:Past W9=>cell_past n5 q
 have s6:=fun q:Past W9=>cell_past n6 q
 have s7:=fun q:Past W9=>cell_past n7 q
 have s8:=fun q:Past W9=>cell_past n8 q
 have t0:=fun q:Past W9=>cell_past f0 q
 have u0:=fun q:Past W9=>cell_past g0 q
 have t1:=fun q:Past W9=>cell_past f1 q
 have u1:=fun q:Past W9=>cell_past g1 q
 have t2:=fun q:Past W9=>cell_past f2 q
 have u2:=fun q:Past W9=>cell_past g2 q
 have t3:=fun q:Past W9=>cell_past f3 q
 have u3:=fun q:Past W9=>cell_past g3 q
 have t4:=fun q:Past W9=>cell_past f4 q
 have u4:=fun q:Past W9=>cell_past g4 q
 have t5:=fun q:Past W9=>cell_past f5 q
 have u5:=fun q:Past W9=>cell_past g5 q
 clear n0 n1 n2 n3 n4 n5 n6 n7 n8 f0 f1 f2 f3 f4 f5 g0 g1 g2 g3 g4 g5
 refine wp_region_plan (.one [0,1,3,4] 2 (.one [] 5 (.last [6,7]))) (by kernel_rfl) (by kernel_rfl) (fun d _ _ _ _ h=>by cases d <;> exact h) ?_
 obtain ⟨wx,hwx⟩:∃ wx,W9.drew=wx:=⟨_,rfl⟩
 rw [hwx]
 have HDX:Hid (Below W9.heap.size W9 wx):=Lib.hid (by rw [←hwx];exact ⟨rfl,rfl,rfl,Nat.le_refl _,fun _ _=>rfl⟩)
 clear hwx
 simp only [wpPlan,pick,nth]
 repeat (go_big_quiet_step (fail))
 refine wpQuiet_nil ?_
 clear s0 s1 s2 s3 s4 s5 s6 s7 s8 t0 t1 t2 t3 t4 t5 u0 u1 u2 u3 u4 u5
 intro K hK
 refine alone_want (by kernel_rfl) ?_
 go_big_op
 refine (HC1.out _ (HT9.out.mast.keep HDX.out)).mono ?_
 rintro en wa ⟨rfl,hba⟩
 have HBA:=Lib.hid (HDX.out.trans (hba.mono HDX.out.size))
 refine hK _ _ (past_in HBA.out) ?_
 clear hK K hba
 refine wpQuiet_nil ?_
 intro K hK
 refine alone_want (by kernel_rfl) ?_
 go_big_op
 refine (HC2.out _ (HT9.out.mast.keep HBA.out)).mono ?_
 rintro en wb ⟨rfl,hbb⟩
 have HBB:=Lib.hid (HBA.out.trans (hbb.mono HBA.out.size))
 refine hK _ _ (past_in HBB.out) ?_
 clear hK K hbb HC1 HC2
 repeat (go_big_quiet_step (fail))
 refine wpQuiet_nil ?_
 have HXB:=Lib.hid (HX9.out.keep HBB.out HX9.out.lt)
 have HZB:=Lib.hid (HZ9.out.keep HBB.out HZ9.out.lt)
 have HTB:=Lib.hid (HT9.out.keep HBB.out)
 have HBT:=Lib.hid (HB0.out.trans ((HB9.out.trans (HBB.out.mono HB9.out.size)).mono HB0.out.size))
 clear HX9 HY9 HZ9 HT9 HBA HDX HB9 HBB
 obtain ⟨f0,f1,f2,f3,f4,f5⟩:=Fa.fact6 HXB.out
 simp only [Nat.zero_add] at f0 f1 f2 f3 f4 f5
 by_cases h1:E1=0
 ·have h13:=H13.out h1
  subst h1
  subst h13
  obtain ⟨z0,z1,z2,z3,z4,z5⟩:=Fa.fact6 HZB.out
  obtain ⟨n0,n1,n2,n3,n4,n5,n6,n7,n8⟩:=HTB.out.nine
  simp only [Nat.zero_add] at z0 z1 z2 z3 z4 z5
  cases P with
  | true =>
    have h2:=H12.out rfl rfl
    subst h2
    have hq:x.key.p.toList.isEmpty=false:=by simpa using hne.symm
    have hq2:(!x.key.p.toList.isEmpty)=true:=hne.symm
    clear hne
    go_wp2_with fail
    clear f0 f1 f2 f3 f4 f5 z0 z1 z2 z3 z4 z5 n0 n1 n2 n3 n4 n5 n6 n7 n8
    refine (HC3.out _ HTB.out.mast).mono ?_
    rintro en wc ⟨rfl,hbc⟩
    have HBC:=Lib.hid (HBT.out.trans (hbc.mono HBT.out.size))
    clear hbc
    go_wp2
    go_ret
    exact ⟨rfl,HBC.out⟩
  | false =>
    have hq:x.key.p.toList.isEmpty=true:=by simpa using hne.symm
    have hq2:(!x.key.p.toList.isEmpty)=false:=hne.symm
    clear hne
    go_wp2_with fail
    clear f0 f1 f2 f3 f4 f5 z0 z1 z2 z3 z4 z5 n0 n1 n2 n3 n4 n5 n6 n7 n8
    refine (HC3.out _ HTB.out.mast).mono ?_
    rintro en wc ⟨rfl,hbc⟩
    have HBC:=Lib.hid (HBT.out.trans (hbc.mono HBT.out.size))
    clear hbc
    go_wp2
    go_ret
    exact ⟨rfl,HBC.out⟩
 ·have h1a:(E1==0)=false:=by simpa using h1
  clear h1
  cases P with
  | false =>
    have hq:x.key.p.toList.isEmpty=true:=by simpa using hne.symm
    have hq2:(!x.key.p.toList.isEmpty)=false:=hne.symm
    clear hne
    go_wp2
    go_ret
    exact ⟨rfl,HBT.out⟩
  | true =>
    have hq:x.key.p.toList.isEmpty=false:=by simpa using hne.symm
    have hq2:(!x.key.p.toList.isEmpty)=true:=hne.symm
    clear hne
    by_cases h2:E2=0
    ·subst h2
     go_wp2
     go_ret
     exact ⟨rfl,HBT.out⟩
    ·have h2a:(E2==0)=false:=by simpa using h2
     clear h2
     go_wp2
     go_ret
     exact ⟨rfl,HBT.out⟩
end Go.Proofs.YtdegffffcbhjbaaGreatDoor.Pk
