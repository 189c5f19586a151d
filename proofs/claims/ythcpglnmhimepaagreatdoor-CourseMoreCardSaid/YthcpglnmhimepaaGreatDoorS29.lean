/- CsRead -/
import Derived.Lib.BufferWrite
import Derived.Lib.SmallJoins
import Derived.Test.YthcpglnmhimepaaGreatDoorS27
namespace Go.Proofs.YthcpglnmhimepaaGreatDoor.Cs
open Go.RowKit Go.Proofs.YthcpglnmhimepaaGreatDoor.Un Go.Proofs.YthcpglnmhimepaaGreatDoor.Pk
def zX:Crs:=⟨⟨#[]⟩,⟨#[]⟩,⟨#[]⟩,0,0⟩
theorem box_wet {α:Type} {E:Enc α} {W:World} {g:Nat} {t:TypeId} {k:α} (h:BoxE E W g t k) (o:Nat):W.frozen? ⟨g,o,none⟩=false:=by simp [World.frozen?,show W.heap[g]?=_ from h]
theorem box_rate1 {W:World} {g:Nat} {t:TypeId} {x:Crs} (h:BoxE encX W g t x) (n:Int):BoxE encX (W.setCell ⟨g,3,none⟩ (.int .i64 n)) g t ⟨x.sort,x.flw,x.cur,n,x.den⟩:=by
 unfold BoxE at h ⊢
 rw [Joins.block_setCell h]
 rfl
theorem box_rate2 {W:World} {g:Nat} {t:TypeId} {x:Crs} (h:BoxE encX W g t x) (d:Int):BoxE encX (W.setCell ⟨g,4,none⟩ (.int .i64 d)) g t ⟨x.sort,x.flw,x.cur,x.num,d⟩:=by
 unfold BoxE at h ⊢
 rw [Joins.block_setCell h]
 rfl
theorem box_two {W:World} {g b:Nat} {t:TypeId} {x:Crs} (h:BoxE encX W b t x) (hn:b≠g) (u v:Value):BoxE encX ((W.setCell ⟨g,3,none⟩ u).setCell ⟨g,4,none⟩ v) b t x :=
 Fa.box_grown (Fa.box_grown h (Lib.grownBy_setCell W g 3 u) hn) (Lib.grownBy_setCell _ g 4 v) hn
theorem list_prior:tPrior.toList=[112,114,105,111,114]:=by kernel_rfl
theorem list_average:tAverage.toList=[97,118,101,114,97,103,101]:=by kernel_rfl
theorem list_close:tClose.toList=[99,108,111,115,101]:=by kernel_rfl
def ReadTold (w:World) (ws:List ByteArray) (R:Int) (e:Ending) (w':World):Prop:=∃ y:Crs,e=.returned (.tuple #[aggX y,.int .i64 R])∧(R=0→readV ws=y)∧Below w.heap.size w w'
theorem nm_doc (s:ByteArray):nmB s=nameL s.data.toList:=rfl
theorem sim_ways {a:ByteArray} (h:simB a=true):(a.toList==[112,114,105,111,114])=true∨((a.toList==[112,114,105,111,114])=false∧(a.toList==[97,118,101,114,97,103,101])=true)∨((a.toList==[112,114,105,111,114])=false∧(a.toList==[97,118,101,114,97,103,101])=false∧(a.toList==[99,108,111,115,101])=true):=by
 unfold simB at h
 simp only [Bool.or_eq_true,decide_eq_true_eq] at h
 rcases h with (rfl | rfl) | rfl
 ·exact .inl (by rw [list_prior];rfl)
 ·exact .inr (.inl ⟨by rw [list_average];rfl,by rw [list_average];rfl⟩)
 ·exact .inr (.inr ⟨by rw [list_close];rfl,by rw [list_close];rfl,by rw [list_close];rfl⟩)
theorem sim_not {a:ByteArray} (h:¬ simB a=true):(a.toList==[112,114,105,111,114])=false∧(a.toList==[97,118,101,114,97,103,101])=false∧(a.toList==[99,108,111,115,101])=false:=by
 unfold simB at h
 simp only [Bool.or_eq_true,decide_eq_true_eq,not_or] at h
 rw [←list_prior,←list_average,←list_close]
 exact ⟨(Lib.bytes_beq_false_iff _ _).2 h.1.1,(Lib.bytes_beq_false_iff _ _).2 h.1.2,(Lib.bytes_beq_false_iff _ _).2 h.2⟩
theorem form3 (a b c:ByteArray):formC [a,b,c]=(simB a && nmB b):=by unfold formC;simp [wd]
theorem form4 (a b c d:ByteArray):formC [a,b,c,d]=(decide (a=tFlow) && nmB b && nmB c):=by unfold formC;simp [wd]
theorem read3_no {a b c:ByteArray} (h:simB a=true) (hn:nameL b.data.toList=false):readE [a,b,c]=5:=by unfold readE;rw [form3,h,nm_doc,hn];rfl
theorem read3_not {a b c:ByteArray} (h:simB a=false):readE [a,b,c]=5:=by unfold readE;rw [form3,h];rfl
theorem read3_yes {a b c:ByteArray} (h:simB a=true) (hn:nameL b.data.toList=true):readE [a,b,c]=prsE c.data.toList∧(readE [a,b,c]=0→readV [a,b,c]=⟨a,⟨#[]⟩,b,prsN c.data.toList,prsD c.data.toList⟩):=by
 refine ⟨by unfold readE;rw [form3,h,nm_doc,hn];rfl,fun _=>?_⟩
 unfold readV
 have e:wd [a,b,c] 0≠tFlow:=sim_flow h
 rw [if_neg e]
 rfl
theorem read4_no {a b c d:ByteArray} (_h:a=tFlow) (hn:nameL c.data.toList=false):readE [a,b,c,d]=5:=by unfold readE;rw [form4,nm_doc c,hn,Bool.and_false];rfl
theorem read4_not {a b c d:ByteArray} (_h:a=tFlow) (hn:nameL b.data.toList=false):readE [a,b,c,d]=5:=by unfold readE;rw [form4,nm_doc b,hn,Bool.and_false,Bool.false_and];rfl
theorem read4_other {a b c d:ByteArray} (h:a≠tFlow):readE [a,b,c,d]=5:=by unfold readE;rw [form4,decide_eq_false h];rfl
theorem read4_yes {a b c d:ByteArray} (h:a=tFlow) (hb:nameL b.data.toList=true) (hn:nameL c.data.toList=true):readE [a,b,c,d]=prsE d.data.toList∧(readE [a,b,c,d]=0→readV [a,b,c,d]=⟨a,b,c,prsN d.data.toList,prsD d.data.toList⟩):=by
 refine ⟨by unfold readE;rw [form4,h,nm_doc,nm_doc,hb,hn];rfl,fun _=>?_⟩
 unfold readV
 have e:wd [a,b,c,d] 0=tFlow:=h
 rw [if_pos e]
 rfl
theorem read_long (a b c d e:ByteArray) (r:List ByteArray):readE (a::b::c::d::e::r)=5:=by unfold readE formC;simp
set_option maxRecDepth 100000 in
set_option maxHeartbeats 8000000 in
theorem read_any (v:Value) (ws:List ByteArray) (w:World) (hV:StrsV w v ws) (hl:ws.length≤30000) (hz:∀ s∈ws,s.size≤900000) :
 Calls Tryz.prog 26 #[v] w (ReadTold w ws (readE ws)):=by
 obtain ⟨pv,cp,rfl,_,hmx,hcl⟩:=id hV
 have HSZ:Hid (∀ s∈ws,s.size≤maxLen):=Lib.hid (fun s hs=>Nat.le_trans (hz s hs) (by decide))
 have HSZ1:Hid (∀ s∈ws,s.size≤1000000):=Lib.hid (fun s hs=>Nat.le_trans (hz s hs) (by decide))
 obtain ⟨R,hR⟩:∃ R,readE ws=R:=⟨_,rfl⟩
 have HR:=Lib.hid hR
 have hb1:=(Below.refl w.heap.size w).alloc (Nat.le_refl _) (.cells (encX.cs zX).toArray 90)
 have hr1:=BoxE.new encX w zX 90
 obtain ⟨W1,hW1⟩:∃ W1,w.alloc (.cells #[.string ⟨#[]⟩,.string ⟨#[]⟩,.string ⟨#[]⟩,.int .i64 0,.int .i64 0] 90)=W1:=⟨_,rfl⟩
 have hs1:W1.heap.size=w.heap.size+1:=by rw [←hW1,World.size_alloc]
 replace hb1:Below w.heap.size w W1:=by rw [←hW1];exact hb1
 replace hr1:BoxE encX W1 w.heap.size 90 zX:=by rw [←hW1];exact hr1
 have hb12:=(Below.refl W1.heap.size W1).alloc (Nat.le_refl _) (.cells (encX.cs zX).toArray 90)
 have hx2:=BoxE.new encX W1 zX 90
 obtain ⟨W2,hW2⟩:∃ W2,W1.alloc (.cells #[.string ⟨#[]⟩,.string ⟨#[]⟩,.string ⟨#[]⟩,.int .i64 0,.int .i64 0] 90)=W2:=⟨_,rfl⟩
 replace hb12:Below W1.heap.size W1 W2:=by rw [←hW2];exact hb12
 replace hx2:BoxE encX W2 W1.heap.size 90 zX:=by rw [←hW2];exact hx2
 have HB2:=Lib.hid (hb1.trans (hb12.mono hb1.size))
 have HR2:=Lib.hid (hr1.kept hb12)
 have HX2:=Lib.hid hx2
 have HS1:=Lib.hid hs1
 rw [hR]
 clear hb1 hr1 hb12 hx2 hV hz hs1
 match ws,hcl,HSZ,HSZ1,hR,HR,hl with
 | [a,b,c],hcl,HSZ,HSZ1,hR,HR,hl =>
   obtain ⟨pb,po,e0,d0⟩:=hcl 0 _ rfl
   cases e0
   obtain ⟨_,_,e1,d1⟩:=hcl 1 _ rfl
   cases e1
   obtain ⟨_,_,e1,d2⟩:=hcl 2 _ rfl
   cases e1
   rw [Nat.add_zero] at d0
   have hlt:pb < w.heap.size:=World.block_lt_of_cell? w _ d0
   have HNB:Hid (pb≠W1.heap.size):=Lib.hid (by have:=HS1.out;omega)
   have k0:=(HB2.out.cell (p:=⟨pb,po,none⟩) hlt).trans d0
   have HK0:=Lib.hid k0
   have k1:=(HB2.out.cell (p:=⟨pb,po+1,none⟩) hlt).trans d1
   have HK1:=Lib.hid k1
   have k2:=(HB2.out.cell (p:=⟨pb,po+2,none⟩) hlt).trans d2
   have HK2:=Lib.hid k2
   clear hcl hlt d0 d1 d2 hR
   by_cases hsim:simB a=true
   ·have HFO:Hid (nameL b.data.toList=false→readE [a,b,c]=5):=Lib.hid (fun h=>read3_no hsim h)
    have HGO:Hid (nameL b.data.toList=true→readE [a,b,c]=prsE c.data.toList∧(readE [a,b,c]=0→readV [a,b,c]=⟨a,⟨#[]⟩,b,prsN c.data.toList,prsD c.data.toList⟩)):=Lib.hid (fun h=>read3_yes hsim h)
    rcases sim_ways hsim with q1 | ⟨q1,q2⟩ | ⟨q1,q2,q3⟩
    all_goals
     go_enter Tryz.func26,Tryz.ntmps26
     have s0:=fun p:Fa.ButG W1.heap.size W2=>Fa.cell_butG k0 HNB.out p
     have s1:=fun p:Fa.ButG W1.heap.size W2=>Fa.cell_butG k1 HNB.out p
     have s2:=fun p:Fa.ButG W1.heap.size W2=>Fa.cell_butG k2 HNB.out p
     go_wp2_with fail
     refine wp_region_plan_if (S:=fun w'=>∃ p:Fa.ButG W1.heap.size W2,w'=p.goal) (.one [0,1,2,3,4,5,6] 7 (.last [])) (by kernel_rfl) (by kernel_rfl) (fun d _ _ _ _ h=>by cases d <;> exact h) ⟨⟨W2.drew,Fa.drew_but W2 _⟩,rfl⟩ ?_
     obtain ⟨wz,hwz⟩:∃ wz,W2.drew=wz:=⟨_,rfl⟩
     rw [hwz]
     have HDX:Hid (Below W2.heap.size W2 wz):=Lib.hid (by rw [←hwz];exact ⟨rfl,rfl,rfl,Nat.le_refl _,fun _ _=>rfl⟩)
     clear hwz
     simp only [wpPlan,pick,nth]
     repeat (go_big_quiet_step (fail))
     refine wpQuiet_nil ?_
     clear s0 s1 s2 k0 k1 k2
     intro K hK
     refine alone_want (by kernel_rfl) ?_
     refine Fa.wp_store_whole (E:=encX) 90 (.tmp 4) (.tmp 36) rfl W1.heap.size 90 zX (⟨a,⟨#[]⟩,b,0,0⟩:Crs) rfl rfl (HX2.out.kept HDX.out) (by kernel_rfl) ?_
     intro w6 hx6 hg6
     have HDZ:=Lib.hid (HB2.out.trans (HDX.out.mono HB2.out.size))
     have HB6:=Lib.hid (HDZ.out.grown hg6 HDZ.out.size (fun j hj=>by cases hj;have:=HS1.out;omega))
     have HX6:=Lib.hid hx6
     have HR6:=Lib.hid (Fa.box_grown (HR2.out.kept HDX.out) hg6 (by have:=HS1.out;omega))
     have HG6:=Lib.hid ((Fa.grown_but HDX.out (some W1.heap.size)).trans hg6)
     refine hK _ _ (Fa.butG_in HG6.out) ?_
     clear hK K hx6 hg6 HDX HDZ
     simp only [Act.put]
     refine wpQuiet_nil ?_
     have k0:=Fa.cell_butG HK0.out HNB.out ⟨w6,HG6.out⟩
     have HL0:=Lib.hid k0
     clear k0
     have k1:=Fa.cell_butG HK1.out HNB.out ⟨w6,HG6.out⟩
     have HL1:=Lib.hid k1
     clear k1
     have k2:=Fa.cell_butG HK2.out HNB.out ⟨w6,HG6.out⟩
     have HL2:=Lib.hid k2
     clear k2
     obtain ⟨x0,x1,x2,x3,x4⟩:=crs5 HX6.out.at0
     simp only [Nat.zero_add] at x0 x1 x2 x3 x4
     go_wp2_with fail
     refine (rname_any b _ (HSZ.out b (by simp))).mono ?_
     rintro en w7 ⟨rfl,rfl⟩
     cases hnm:nameL b.data.toList with
     | false =>
       have HE:Hid (R=5):=Lib.hid (by rw [←HR.out];exact (HFO.out hnm))
       go_wp2_with (first
        | (refine wpList_store_el (E:=encX) rfl 90 (.tmp 2) (.tmp 67) rfl w.heap.size zX (⟨a,⟨#[]⟩,b,0,0⟩:Crs) 90 rfl rfl HR6.out (by kernel_rfl) ?_;intro w9 hb9 hg9)
        | fail)
       have HF9:=Lib.hid (HB6.out.grown hg9 HB6.out.size (fun j hj=>by cases hj;exact Nat.le_refl _))
       obtain ⟨j0,j1,j2,j3,j4⟩:=crs5 hb9.at0
       simp only [Nat.zero_add] at j0 j1 j2 j3 j4
       clear hb9 hg9
       exact bodyPost_ret (v:=.tuple #[aggX (⟨a,⟨#[]⟩,b,0,0⟩:Crs),.int .i64 5]) (by simp [results,Tryz.results26,go_sem,j0,j1,j2,j3,j4]) rfl ⟨(⟨a,⟨#[]⟩,b,0,0⟩:Crs),by rw [HE.out],fun h=>absurd h (by rw [HE.out];decide),HF9.out⟩
     | true =>
       have HPR:Hid (R=prsE c.data.toList∧(R=0→readV [a,b,c]=(⟨a,⟨#[]⟩,b,prsN c.data.toList,prsD c.data.toList⟩:Crs))):=Lib.hid (by rw [←HR.out];exact HGO.out hnm)
       have HQP:=Lib.hid (fun W=>Ra.qparse_any c W (HSZ1.out c (by simp)))
       obtain ⟨N,hN⟩:∃ N,prsN c.data.toList=N:=⟨_,rfl⟩
       obtain ⟨D,hD⟩:∃ D,prsD c.data.toList=D:=⟨_,rfl⟩
       obtain ⟨E,hE⟩:∃ E,prsE c.data.toList=E:=⟨_,rfl⟩
       rw [hE,hN,hD] at HPR
       simp only [hN,hD,hE] at HQP
       clear hN hD hE hnm HFO HGO
       have kl:=HL2.out
       go_wp2_with fail
       clear x0 x1 x2 x3 x4 kl
       refine (HQP.out _).mono ?_
       rintro en w7 ⟨rfl,hb7⟩
       have hb8:=hb7.alloc hb7.size (.cells #[.int .i64 N,.int .i64 D] 56)
       have HB8:=Lib.hid (HB6.out.trans (hb8.mono HB6.out.size))
       have HX8:=Lib.hid (HX6.out.kept hb8)
       have HR8:=Lib.hid (HR6.out.kept hb8)
       obtain ⟨q0,q1⟩:=Ra.RateAt.mk w7 N D 56
       have hfz3:=box_wet HX8.out 3
       have hx9:=box_rate1 HX8.out N
       have hfz4:=box_wet hx9 4
       have HX9:=Lib.hid (box_rate2 hx9 D)
       have HR9:=Lib.hid (box_two HR8.out (show w.heap.size≠W1.heap.size by have:=HS1.out;omega) (.int .i64 N) (.int .i64 D))
       have HB9:=Lib.hid ((HB8.out.setCell (p:=⟨W1.heap.size,3,none⟩) (show w.heap.size≤W1.heap.size by have:=HS1.out;omega) (.int .i64 N)).setCell (p:=⟨W1.heap.size,4,none⟩) (show w.heap.size≤W1.heap.size by have:=HS1.out;omega) (.int .i64 D))
       obtain ⟨x0,x1,x2,x3,x4⟩:=crs5 HX8.out.at0
       obtain ⟨y0,y1,y2,y3,y4⟩:=crs5 hx9.at0
       obtain ⟨z0,z1,z2,z3,z4⟩:=crs5 HX9.out.at0
       simp only [Nat.zero_add] at x0 x1 x2 x3 x4 y0 y1 y2 y3 y4 z0 z1 z2 z3 z4
       clear hb7 hb8 hx9 HQP
       have HE:Hid (R=E):=Lib.hid HPR.out.1
       go_wp2_with (first
        | (refine wpList_store_el (E:=encX) rfl 90 (.tmp 2) (.tmp 80) rfl w.heap.size zX (⟨a,⟨#[]⟩,b,N,D⟩:Crs) 90 rfl rfl HR9.out (by kernel_rfl) ?_;intro w9 hb9 hg9)
        | fail)
       have HF9:=Lib.hid (HB9.out.grown hg9 HB9.out.size (fun j hj=>by cases hj;exact Nat.le_refl _))
       obtain ⟨j0,j1,j2,j3,j4⟩:=crs5 hb9.at0
       simp only [Nat.zero_add] at j0 j1 j2 j3 j4
       clear hb9 hg9
       exact bodyPost_ret (v:=.tuple #[aggX (⟨a,⟨#[]⟩,b,N,D⟩:Crs),.int .i64 E]) (by simp [results,Tryz.results26,go_sem,j0,j1,j2,j3,j4]) rfl ⟨(⟨a,⟨#[]⟩,b,N,D⟩:Crs),by rw [HE.out],fun h=>HPR.out.2 h,HF9.out⟩
   ·obtain ⟨q1,q2,q3⟩:=sim_not hsim
    have HE:Hid (R=5):=Lib.hid (by rw [←HR.out];exact read3_not (by simpa using hsim))
    obtain ⟨x0,x1,x2,x3,x4⟩:=crs5 HX2.out.at0
    simp only [Nat.zero_add] at x0 x1 x2 x3 x4
    go_enter Tryz.func26,Tryz.ntmps26
    go_wp2_with (first
     | (refine wpList_store_el (E:=encX) rfl 90 (.tmp 2) (.tmp 7) rfl w.heap.size zX zX 90 rfl rfl HR2.out (by kernel_rfl) ?_;intro w9 hb9 hg9)
     | fail)
    have HF9:=Lib.hid (HB2.out.grown hg9 HB2.out.size (fun j hj=>by cases hj;exact Nat.le_refl _))
    obtain ⟨j0,j1,j2,j3,j4⟩:=crs5 hb9.at0
    simp only [Nat.zero_add] at j0 j1 j2 j3 j4
    clear hb9 hg9
    exact bodyPost_ret (v:=.tuple #[aggX zX,.int .i64 5]) (by simp [results,Tryz.results26,go_sem,j0,j1,j2,j3,j4]) rfl ⟨zX,by rw [HE.out],fun h=>absurd h (by rw [HE.out];decide),HF9.out⟩
 | [a,b,c,d],hcl,HSZ,HSZ1,hR,HR,hl =>
   obtain ⟨pb,po,e0,d0⟩:=hcl 0 _ rfl
   cases e0
   obtain ⟨_,_,e1,d1⟩:=hcl 1 _ rfl
   cases e1
   obtain ⟨_,_,e1,d2⟩:=hcl 2 _ rfl
   cases e1
   obtain ⟨_,_,e1,d3⟩:=hcl 3 _ rfl
   cases e1
   rw [Nat.add_zero] at d0
   have hlt:pb < w.heap.size:=World.block_lt_of_cell? w _ d0
   have HNB:Hid (pb≠W1.heap.size):=Lib.hid (by have:=HS1.out;omega)
   have k0:=(HB2.out.cell (p:=⟨pb,po,none⟩) hlt).trans d0
   have HK0:=Lib.hid k0
   have k1:=(HB2.out.cell (p:=⟨pb,po+1,none⟩) hlt).trans d1
   have HK1:=Lib.hid k1
   have k2:=(HB2.out.cell (p:=⟨pb,po+2,none⟩) hlt).trans d2
   have HK2:=Lib.hid k2
   have k3:=(HB2.out.cell (p:=⟨pb,po+3,none⟩) hlt).trans d3
   have HK3:=Lib.hid k3
   clear hcl hlt d0 d1 d2 d3 hR
   by_cases hf:a=tFlow
   ·subst hf
    have q1:(tFlow.toList==[102,108,111,119])=true:=by rw [←flow_list];exact beq_self_eq_true _
    cases hn:nameL b.data.toList with
    | false =>
      have HNM:Hid (∀ W:World,Calls Tryz.prog 52 #[.string b] W fun e w'=>e=.returned (.bool false)∧W=w'):=Lib.hid fun W=>by
       have:=rname_any b W (HSZ.out b (by simp))
       rw [hn] at this
       exact this
      have HE:Hid (R=5):=Lib.hid (by rw [←HR.out];exact read4_not rfl hn)
      obtain ⟨x0,x1,x2,x3,x4⟩:=crs5 HX2.out.at0
      simp only [Nat.zero_add] at x0 x1 x2 x3 x4
      go_enter Tryz.func26,Tryz.ntmps26
      go_wp2_with fail
      refine (HNM.out _).mono ?_
      rintro en w7 ⟨rfl,rfl⟩
      go_wp2_with (first
       | (refine wpList_store_el (E:=encX) rfl 90 (.tmp 2) (.tmp 7) rfl w.heap.size zX zX 90 rfl rfl HR2.out (by kernel_rfl) ?_;intro w9 hb9 hg9)
       | fail)
      have HF9:=Lib.hid (HB2.out.grown hg9 HB2.out.size (fun j hj=>by cases hj;exact Nat.le_refl _))
      obtain ⟨j0,j1,j2,j3,j4⟩:=crs5 hb9.at0
      simp only [Nat.zero_add] at j0 j1 j2 j3 j4
      clear hb9 hg9
      exact bodyPost_ret (v:=.tuple #[aggX zX,.int .i64 5]) (by simp [results,Tryz.results26,go_sem,j0,j1,j2,j3,j4]) rfl ⟨zX,by rw [HE.out],fun h=>absurd h (by rw [HE.out];decide),HF9.out⟩
    | true =>
      have HNM:Hid (∀ W:World,Calls Tryz.prog 52 #[.string b] W fun e w'=>e=.returned (.bool true)∧W=w'):=Lib.hid fun W=>by
       have:=rname_any b W (HSZ.out b (by simp))
       rw [hn] at this
       exact this
      have HFO:Hid (nameL c.data.toList=false→readE [tFlow,b,c,d]=5):=Lib.hid (fun h=>read4_no rfl h)
      have HGO:Hid (nameL c.data.toList=true→readE [tFlow,b,c,d]=prsE d.data.toList∧(readE [tFlow,b,c,d]=0→readV [tFlow,b,c,d]=⟨tFlow,b,c,prsN d.data.toList,prsD d.data.toList⟩)):=Lib.hid (fun h=>read4_yes rfl hn h)
      clear hn
      go_enter Tryz.func26,Tryz.ntmps26
      go_wp2_with fail
      refine (HNM.out _).mono ?_
      rintro en w7 ⟨rfl,rfl⟩
      have s0:=fun p:Fa.ButG W1.heap.size W2=>Fa.cell_butG k0 HNB.out p
      have s1:=fun p:Fa.ButG W1.heap.size W2=>Fa.cell_butG k1 HNB.out p
      have s2:=fun p:Fa.ButG W1.heap.size W2=>Fa.cell_butG k2 HNB.out p
      have s3:=fun p:Fa.ButG W1.heap.size W2=>Fa.cell_butG k3 HNB.out p
      go_wp2_with fail
      refine wp_region_plan_if (S:=fun w'=>∃ p:Fa.ButG W1.heap.size W2,w'=p.goal) (.one [0,1,2,3,4,5,6,7,8,9] 10 (.last [])) (by kernel_rfl) (by kernel_rfl) (fun d _ _ _ _ h=>by cases d <;> exact h) ⟨⟨W2.drew,Fa.drew_but W2 _⟩,rfl⟩ ?_
      obtain ⟨wz,hwz⟩:∃ wz,W2.drew=wz:=⟨_,rfl⟩
      rw [hwz]
      have HDX:Hid (Below W2.heap.size W2 wz):=Lib.hid (by rw [←hwz];exact ⟨rfl,rfl,rfl,Nat.le_refl _,fun _ _=>rfl⟩)
      clear hwz
      simp only [wpPlan,pick,nth]
      repeat (go_big_quiet_step (fail))
      refine wpQuiet_nil ?_
      clear s0 s1 s2 s3 k0 k1 k2 k3
      intro K hK
      refine alone_want (by kernel_rfl) ?_
      refine Fa.wp_store_whole (E:=encX) 90 (.tmp 4) (.tmp 62) rfl W1.heap.size 90 zX (⟨tFlow,b,c,0,0⟩:Crs) rfl rfl (HX2.out.kept HDX.out) (by kernel_rfl) ?_
      intro w6 hx6 hg6
      have HDZ:=Lib.hid (HB2.out.trans (HDX.out.mono HB2.out.size))
      have HB6:=Lib.hid (HDZ.out.grown hg6 HDZ.out.size (fun j hj=>by cases hj;have:=HS1.out;omega))
      have HX6:=Lib.hid hx6
      have HR6:=Lib.hid (Fa.box_grown (HR2.out.kept HDX.out) hg6 (by have:=HS1.out;omega))
      have HG6:=Lib.hid ((Fa.grown_but HDX.out (some W1.heap.size)).trans hg6)
      refine hK _ _ (Fa.butG_in HG6.out) ?_
      clear hK K hx6 hg6 HDX HDZ
      simp only [Act.put]
      refine wpQuiet_nil ?_
      have k0:=Fa.cell_butG HK0.out HNB.out ⟨w6,HG6.out⟩
      have HL0:=Lib.hid k0
      clear k0
      have k1:=Fa.cell_butG HK1.out HNB.out ⟨w6,HG6.out⟩
      have HL1:=Lib.hid k1
      clear k1
      have k2:=Fa.cell_butG HK2.out HNB.out ⟨w6,HG6.out⟩
      have HL2:=Lib.hid k2
      clear k2
      have k3:=Fa.cell_butG HK3.out HNB.out ⟨w6,HG6.out⟩
      have HL3:=Lib.hid k3
      clear k3
      obtain ⟨x0,x1,x2,x3,x4⟩:=crs5 HX6.out.at0
      simp only [Nat.zero_add] at x0 x1 x2 x3 x4
      go_wp2_with fail
      refine (rname_any c _ (HSZ.out c (by simp))).mono ?_
      rintro en w7 ⟨rfl,rfl⟩
      cases hnm:nameL c.data.toList with
      | false =>
        have HE:Hid (R=5):=Lib.hid (by rw [←HR.out];exact (HFO.out hnm))
        go_wp2_with (first
         | (refine wpList_store_el (E:=encX) rfl 90 (.tmp 2) (.tmp 67) rfl w.heap.size zX (⟨tFlow,b,c,0,0⟩:Crs) 90 rfl rfl HR6.out (by kernel_rfl) ?_;intro w9 hb9 hg9)
         | fail)
        have HF9:=Lib.hid (HB6.out.grown hg9 HB6.out.size (fun j hj=>by cases hj;exact Nat.le_refl _))
        obtain ⟨j0,j1,j2,j3,j4⟩:=crs5 hb9.at0
        simp only [Nat.zero_add] at j0 j1 j2 j3 j4
        clear hb9 hg9
        exact bodyPost_ret (v:=.tuple #[aggX (⟨tFlow,b,c,0,0⟩:Crs),.int .i64 5]) (by simp [results,Tryz.results26,go_sem,j0,j1,j2,j3,j4]) rfl ⟨(⟨tFlow,b,c,0,0⟩:Crs),by rw [HE.out],fun h=>absurd h (by rw [HE.out];decide),HF9.out⟩
      | true =>
        have HPR:Hid (R=prsE d.data.toList∧(R=0→readV [tFlow,b,c,d]=(⟨tFlow,b,c,prsN d.data.toList,prsD d.data.toList⟩:Crs))):=Lib.hid (by rw [←HR.out];exact HGO.out hnm)
        have HQP:=Lib.hid (fun W=>Ra.qparse_any d W (HSZ1.out d (by simp)))
        obtain ⟨N,hN⟩:∃ N,prsN d.data.toList=N:=⟨_,rfl⟩
        obtain ⟨D,hD⟩:∃ D,prsD d.data.toList=D:=⟨_,rfl⟩
        obtain ⟨E,hE⟩:∃ E,prsE d.data.toList=E:=⟨_,rfl⟩
        rw [hE,hN,hD] at HPR
        simp only [hN,hD,hE] at HQP
        clear hN hD hE hnm HFO HGO
        have kl:=HL3.out
        go_wp2_with fail
        clear x0 x1 x2 x3 x4 kl
        refine (HQP.out _).mono ?_
        rintro en w7 ⟨rfl,hb7⟩
        have hb8:=hb7.alloc hb7.size (.cells #[.int .i64 N,.int .i64 D] 56)
        have HB8:=Lib.hid (HB6.out.trans (hb8.mono HB6.out.size))
        have HX8:=Lib.hid (HX6.out.kept hb8)
        have HR8:=Lib.hid (HR6.out.kept hb8)
        obtain ⟨q0,q1⟩:=Ra.RateAt.mk w7 N D 56
        have hfz3:=box_wet HX8.out 3
        have hx9:=box_rate1 HX8.out N
        have hfz4:=box_wet hx9 4
        have HX9:=Lib.hid (box_rate2 hx9 D)
        have HR9:=Lib.hid (box_two HR8.out (show w.heap.size≠W1.heap.size by have:=HS1.out;omega) (.int .i64 N) (.int .i64 D))
        have HB9:=Lib.hid ((HB8.out.setCell (p:=⟨W1.heap.size,3,none⟩) (show w.heap.size≤W1.heap.size by have:=HS1.out;omega) (.int .i64 N)).setCell (p:=⟨W1.heap.size,4,none⟩) (show w.heap.size≤W1.heap.size by have:=HS1.out;omega) (.int .i64 D))
        obtain ⟨x0,x1,x2,x3,x4⟩:=crs5 HX8.out.at0
        obtain ⟨y0,y1,y2,y3,y4⟩:=crs5 hx9.at0
        obtain ⟨z0,z1,z2,z3,z4⟩:=crs5 HX9.out.at0
        simp only [Nat.zero_add] at x0 x1 x2 x3 x4 y0 y1 y2 y3 y4 z0 z1 z2 z3 z4
        clear hb7 hb8 hx9 HQP
        have HE:Hid (R=E):=Lib.hid HPR.out.1
        go_wp2_with (first
         | (refine wpList_store_el (E:=encX) rfl 90 (.tmp 2) (.tmp 80) rfl w.heap.size zX (⟨tFlow,b,c,N,D⟩:Crs) 90 rfl rfl HR9.out (by kernel_rfl) ?_;intro w9 hb9 hg9)
         | fail)
        have HF9:=Lib.hid (HB9.out.grown hg9 HB9.out.size (fun j hj=>by cases hj;exact Nat.le_refl _))
        obtain ⟨j0,j1,j2,j3,j4⟩:=crs5 hb9.at0
        simp only [Nat.zero_add] at j0 j1 j2 j3 j4
        clear hb9 hg9
        exact bodyPost_ret (v:=.tuple #[aggX (⟨tFlow,b,c,N,D⟩:Crs),.int .i64 E]) (by simp [results,Tryz.results26,go_sem,j0,j1,j2,j3,j4]) rfl ⟨(⟨tFlow,b,c,N,D⟩:Crs),by rw [HE.out],fun h=>HPR.out.2 h,HF9.out⟩
   ·have q1:(a.toList==[102,108,111,119])=false:=by rw [←flow_list];exact (Lib.bytes_beq_false_iff a tFlow).2 hf
    have HE:Hid (R=5):=Lib.hid (by rw [←HR.out];exact read4_other hf)
    obtain ⟨x0,x1,x2,x3,x4⟩:=crs5 HX2.out.at0
    simp only [Nat.zero_add] at x0 x1 x2 x3 x4
    go_enter Tryz.func26,Tryz.ntmps26
    go_wp2_with (first
     | (refine wpList_store_el (E:=encX) rfl 90 (.tmp 2) (.tmp 7) rfl w.heap.size zX zX 90 rfl rfl HR2.out (by kernel_rfl) ?_;intro w9 hb9 hg9)
     | fail)
    have HF9:=Lib.hid (HB2.out.grown hg9 HB2.out.size (fun j hj=>by cases hj;exact Nat.le_refl _))
    obtain ⟨j0,j1,j2,j3,j4⟩:=crs5 hb9.at0
    simp only [Nat.zero_add] at j0 j1 j2 j3 j4
    clear hb9 hg9
    exact bodyPost_ret (v:=.tuple #[aggX zX,.int .i64 5]) (by simp [results,Tryz.results26,go_sem,j0,j1,j2,j3,j4]) rfl ⟨zX,by rw [HE.out],fun h=>absurd h (by rw [HE.out];decide),HF9.out⟩
 | [],hcl,HSZ,HSZ1,hR,HR,hl =>
   clear hcl hR
   have HE:Hid (R=5):=Lib.hid (by rw [←HR.out];exact rfl)
   obtain ⟨x0,x1,x2,x3,x4⟩:=crs5 HX2.out.at0
   simp only [Nat.zero_add] at x0 x1 x2 x3 x4
   go_enter Tryz.func26,Tryz.ntmps26
   go_wp2_with (first
    | (refine wpList_store_el (E:=encX) rfl 90 (.tmp 2) (.tmp 7) rfl w.heap.size zX zX 90 rfl rfl HR2.out (by kernel_rfl) ?_;intro w9 hb9 hg9)
    | fail)
   have HF9:=Lib.hid (HB2.out.grown hg9 HB2.out.size (fun j hj=>by cases hj;exact Nat.le_refl _))
   obtain ⟨j0,j1,j2,j3,j4⟩:=crs5 hb9.at0
   simp only [Nat.zero_add] at j0 j1 j2 j3 j4
   clear hb9 hg9
   exact bodyPost_ret (v:=.tuple #[aggX zX,.int .i64 5]) (by simp [results,Tryz.results26,go_sem,j0,j1,j2,j3,j4]) rfl ⟨zX,by rw [HE.out],fun h=>absurd h (by rw [HE.out];decide),HF9.out⟩
 | [a],hcl,HSZ,HSZ1,hR,HR,hl =>
   clear hcl hR
   have HE:Hid (R=5):=Lib.hid (by rw [←HR.out];exact rfl)
   obtain ⟨x0,x1,x2,x3,x4⟩:=crs5 HX2.out.at0
   simp only [Nat.zero_add] at x0 x1 x2 x3 x4
   go_enter Tryz.func26,Tryz.ntmps26
   go_wp2_with (first
    | (refine wpList_store_el (E:=encX) rfl 90 (.tmp 2) (.tmp 7) rfl w.heap.size zX zX 90 rfl rfl HR2.out (by kernel_rfl) ?_;intro w9 hb9 hg9)
    | fail)
   have HF9:=Lib.hid (HB2.out.grown hg9 HB2.out.size (fun j hj=>by cases hj;exact Nat.le_refl _))
   obtain ⟨j0,j1,j2,j3,j4⟩:=crs5 hb9.at0
   simp only [Nat.zero_add] at j0 j1 j2 j3 j4
   clear hb9 hg9
   exact bodyPost_ret (v:=.tuple #[aggX zX,.int .i64 5]) (by simp [results,Tryz.results26,go_sem,j0,j1,j2,j3,j4]) rfl ⟨zX,by rw [HE.out],fun h=>absurd h (by rw [HE.out];decide),HF9.out⟩
 | [a,b],hcl,HSZ,HSZ1,hR,HR,hl =>
   clear hcl hR
   have HE:Hid (R=5):=Lib.hid (by rw [←HR.out];exact rfl)
   obtain ⟨x0,x1,x2,x3,x4⟩:=crs5 HX2.out.at0
   simp only [Nat.zero_add] at x0 x1 x2 x3 x4
   go_enter Tryz.func26,Tryz.ntmps26
   go_wp2_with (first
    | (refine wpList_store_el (E:=encX) rfl 90 (.tmp 2) (.tmp 7) rfl w.heap.size zX zX 90 rfl rfl HR2.out (by kernel_rfl) ?_;intro w9 hb9 hg9)
    | fail)
   have HF9:=Lib.hid (HB2.out.grown hg9 HB2.out.size (fun j hj=>by cases hj;exact Nat.le_refl _))
   obtain ⟨j0,j1,j2,j3,j4⟩:=crs5 hb9.at0
   simp only [Nat.zero_add] at j0 j1 j2 j3 j4
   clear hb9 hg9
   exact bodyPost_ret (v:=.tuple #[aggX zX,.int .i64 5]) (by simp [results,Tryz.results26,go_sem,j0,j1,j2,j3,j4]) rfl ⟨zX,by rw [HE.out],fun h=>absurd h (by rw [HE.out];decide),HF9.out⟩
 | a::b::c::d::e::r,hcl,HSZ,HSZ1,hR,HR,hl =>
   clear hcl hR
   obtain ⟨m,hm⟩:∃ m,(a::b::c::d::e::r).length=m:=⟨_,rfl⟩
   have h5:5≤m:=by rw [←hm];simp
   rw [hm] at hl ⊢
   clear hm
   have n3:((m:Int)==3)=false:=by rw [beq_eq_false_iff_ne];omega
   have n4:((m:Int)==4)=false:=by rw [beq_eq_false_iff_ne];omega
   have HE:Hid (R=5):=Lib.hid (by rw [←HR.out];exact read_long _ _ _ _ _ _)
   obtain ⟨x0,x1,x2,x3,x4⟩:=crs5 HX2.out.at0
   simp only [Nat.zero_add] at x0 x1 x2 x3 x4
   go_enter Tryz.func26,Tryz.ntmps26
   go_wp2_with (first
    | (refine wpList_store_el (E:=encX) rfl 90 (.tmp 2) (.tmp 7) rfl w.heap.size zX zX 90 rfl rfl HR2.out (by kernel_rfl) ?_;intro w9 hb9 hg9)
    | fail)
   have HF9:=Lib.hid (HB2.out.grown hg9 HB2.out.size (fun j hj=>by cases hj;exact Nat.le_refl _))
   obtain ⟨j0,j1,j2,j3,j4⟩:=crs5 hb9.at0
   simp only [Nat.zero_add] at j0 j1 j2 j3 j4
   clear hb9 hg9
   exact bodyPost_ret (v:=.tuple #[aggX zX,.int .i64 5]) (by simp [results,Tryz.results26,go_sem,j0,j1,j2,j3,j4]) rfl ⟨zX,by rw [HE.out],fun h=>absurd h (by rw [HE.out];decide),HF9.out⟩
end Go.Proofs.YthcpglnmhimepaaGreatDoor.Cs
