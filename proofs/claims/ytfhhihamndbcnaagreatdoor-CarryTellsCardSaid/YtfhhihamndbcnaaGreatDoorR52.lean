/- CyPlain CyGiven CyDoc CyDocCheck CarryTells -/
import Derived.Test.YtfhhihamndbcnaaGreatDoorR46
import Derived.Test.YtfhhihamndbcnaaGreatDoorR50
section
namespace Go.Proofs.YtfhhihamndbcnaaGreatDoor.Cy
open Go.RowKit Go.Proofs.YtfhhihamndbcnaaGreatDoor.Un Go.Proofs.YtfhhihamndbcnaaGreatDoor.Fa Go.Proofs.YtfhhihamndbcnaaGreatDoor.Pk Go.Proofs.YtfhhihamndbcnaaGreatDoor.Co
theorem told_in64 {M:Mast} {c:List Fact} {n:Int} {fl:ByteArray} (h:∀ f∈c,In64 f.amt):∀ f∈toldF M c n fl,In64 f.amt:=fun f hf=>by
 unfold toldF at hf
 obtain ⟨x,hx,rfl⟩:=List.mem_map.1 hf
 exact h x (List.mem_filter.1 hx).1
end Go.Proofs.YtfhhihamndbcnaaGreatDoor.Cy
end
section
namespace Go.Proofs.YtfhhihamndbcnaaGreatDoor.Cy
open Go.RowKit Go.Maps Go.Proofs.YtfhhihamndbcnaaGreatDoor.Un Go.Proofs.YtfhhihamndbcnaaGreatDoor.Fa Go.Proofs.YtfhhihamndbcnaaGreatDoor.Pk Go.Proofs.YtfhhihamndbcnaaGreatDoor.Co
theorem bring_length {M:Mast} {p c:List Fact} (h:p.length+c.length≤1000):(bringP M p c).1.length≤1000:=by
 unfold bringP
 split
 ·simp
 ·have h1:=Fa.ofL_length (restF M c++(openP M p).1)
  have h2:=rest_length M c
  have h3:=open_length M p
  rw [List.length_append] at h1
  omega
end Go.Proofs.YtfhhihamndbcnaaGreatDoor.Cy
end
section
namespace Go.Proofs.YtfhhihamndbcnaaGreatDoor.Cy
open Go.RowKit Go.Proofs.YtfhhihamndbcnaaGreatDoor.Un Go.Proofs.YtfhhihamndbcnaaGreatDoor.Fa Go.Proofs.YtfhhihamndbcnaaGreatDoor.Pk Go.Proofs.YtfhhihamndbcnaaGreatDoor.Co
theorem told_yes {M:Mast} {kd:Int} {fl:ByteArray} {c:List Fact} {i:Nat} {x:Fact} (hx:c[i]?=some x) (h:ofK M kd x.key=true):toldF M (c.take (i+1)) kd fl=toldF M (c.take i) kd fl++[(⟨⟨x.key.e,x.key.a,fl,x.key.p,0⟩,x.amt⟩:Fact)]:=by
 unfold toldF asK
 rw [List.take_add_one,hx]
 simp [h]
theorem told_no {M:Mast} {kd:Int} {fl:ByteArray} {c:List Fact} {i:Nat} {x:Fact} (hx:c[i]?=some x) (h:ofK M kd x.key=false):toldF M (c.take (i+1)) kd fl=toldF M (c.take i) kd fl:=by
 unfold toldF
 rw [List.take_add_one,hx]
 simp [h]
theorem ofK_kind (M:Mast) (kd:Int) (k:Key):ofK M kd k=((Fl.findF M.flows k.f).isSome && decide (kindO' (Fl.findF M.flows k.f)=kd)):=by
 have e:kindF M k.f=kindO' (Fl.findF M.flows k.f):=by unfold kindF kindO';cases Fl.findF M.flows k.f <;> rfl
 unfold ofK hasFl
 rw [e]
set_option maxRecDepth 100000 in
set_option maxHeartbeats 8000000 in
theorem told_any (c f e l vc:Value) (M:Mast) (L:List Fact) (kd:Int) (fl:ByteArray) (w:World) (hM:MastIn w c f e l M) (hV:FactsV w vc L) (hL:L.length≤1000) :
 Calls Tryz.prog 33 #[aggM c f e l M,vc,.int .i64 kd,.string fl] w fun en w'=>∃ u,en=.returned u∧FactsV w' u (toldF M L kd fl)∧Below w.heap.size w w':=by
 obtain ⟨pv,cp,rfl,hcap,hmx,_,hcl⟩:=id hV
 obtain ⟨n,hn⟩:∃ n,L.length=n:=⟨_,rfl⟩
 obtain ⟨pc,cc,pf,cf,pe,ce,pl,cl,rfl,rfl,rfl,rfl⟩:=shapes hM
 obtain ⟨W1,hW1⟩:∃ W1,w.alloc (.cells (cellsM (.slice pc M.chart.length cc) (.slice pf M.flows.length cf) (.slice pe M.ents.length ce) (.slice pl M.lines.length cl) M) 37)=W1:=⟨_,rfl⟩
 have hb1:Below w.heap.size w W1:=by rw [←hW1];exact (Below.refl _ w).alloc (Nat.le_refl _) _
 have hn1:NineAt W1 w.heap.size (.slice pc M.chart.length cc) (.slice pf M.flows.length cf) (.slice pe M.ents.length ce) (.slice pl M.lines.length cl) M:=by rw [←hW1];exact nine_new w _ _ _ _ M _
 have HB1:=Lib.hid hb1
 have HN1:=Lib.hid hn1
 have HM1:=Lib.hid (hM.keep hb1)
 have HNN:=Lib.hid hn
 have HV1:=Lib.hid (hV.keep hb1)
 rw [hn] at hcap hL HV1
 rw [hn]
 unfold maxLen at hmx
 clear hM hV hcl hb1 hn1 hn
 go_enter Tryz.func33,Tryz.ntmps33
 go_wp2_with fail
 clear hW1
 go_loopw [9,10] (fun s9 s10 wr=>∃ i:Nat,s10=.int .i64 (i:Int)∧i≤n∧Hid (wr.ownsRow W1.heap.size 79 6 s9 (toldF M (L.take i) kd fl).length (flat encF (toldF M (L.take i) kd fl)))∧Hid (Below W1.heap.size W1 wr)) (fun _ s10 _=>n - (intOf s10).toNat)
 case atStart=>exact ⟨0,rfl,Nat.zero_le _,World.ownsRow_nil _ _ _ _,Lib.hid (Below.refl _ _)⟩
 case round =>
  obtain ⟨i,rfl,hi,HRO,HBR⟩:=hrel
  by_cases hlt:i < n
  ·obtain ⟨x,hx⟩:∃ x,L[i]?=some x:=⟨_,List.getElem?_eq_getElem (by rw [HNN.out];exact hlt)⟩
   obtain ⟨b,o,e',hat⟩:=ElsV.at_ HV1.out hx
   cases e'
   have HXA:=Lib.hid (hat.keep HBR.out hat.lt)
   obtain ⟨f0,f1,f2,f3,f4,f5⟩:=fact6 HXA.out
   simp only [show encF.k=6 from rfl] at f0 f1 f2 f3 f4 f5
   have HN3:=Lib.hid (HN1.out.kept HBR.out)
   obtain ⟨k0,k1,k2,k3,k4,k5,k6,k7,k8⟩:=HN3.out
   have r0:=fun q:Past wr=>cell_past f0 q
   have r1:=fun q:Past wr=>cell_past f1 q
   have r2:=fun q:Past wr=>cell_past f2 q
   have r3:=fun q:Past wr=>cell_past f3 q
   have r4:=fun q:Past wr=>cell_past f4 q
   have r5:=fun q:Past wr=>cell_past f5 q
   have s0:=fun q:Past wr=>cell_past k0 q
   have s1:=fun q:Past wr=>cell_past k1 q
   have s2:=fun q:Past wr=>cell_past k2 q
   have s3:=fun q:Past wr=>cell_past k3 q
   have s4:=fun q:Past wr=>cell_past k4 q
   have s5:=fun q:Past wr=>cell_past k5 q
   have s6:=fun q:Past wr=>cell_past k6 q
   have s7:=fun q:Past wr=>cell_past k7 q
   have s8:=fun q:Past wr=>cell_past k8 q
   have HCT:Hid (∀ q:Past wr,Calls Tryz.prog 35 #[.slice pf M.flows.length cf,.string x.key.f] q.goal fun en w'=>en=.returned (.tuple #[.int .i64 (kindO' (Fl.findF M.flows x.key.f)),.bool (Fl.findF M.flows x.key.f).isSome])∧Below q.goal.heap.size q.goal w'):=Lib.hid fun q=>rkind_any _ _ _ q.goal (HM1.out.keep (HBR.out.trans (q.below.mono HBR.out.size))).flows
   have HOK:=Lib.hid (ofK_kind M kd x.key)
   obtain ⟨kn,hkn⟩:∃ kn,kindO' (Fl.findF M.flows x.key.f)=kn:=⟨_,rfl⟩
   obtain ⟨is,his⟩:∃ is,(Fl.findF M.flows x.key.f).isSome=is:=⟨_,rfl⟩
   rw [hkn,his] at HCT HOK
   have HX:=Lib.hid hx
   have HL6:Hid ((toldF M (L.take i) kd fl).length≤i):=Lib.hid (Nat.le_trans (told_length _ _ _ _) (by rw [List.length_take];exact Nat.min_le_left _ _))
   clear hx hat f0 f1 f2 f3 f4 f5 k0 k1 k2 k3 k4 k5 k6 k7 k8 hkn his
   go_wp2_with fail
   refine wp_region_past (by kernel_rfl) (by kernel_rfl) ?_
   repeat (go_big_quiet_step (first | (go_at_call 35;exact Calls.past_of (HCT.out _)) | fail))
   refine wpQuiet_nil ?_
   intro w5 hw'
   obtain ⟨⟨w5',hb5⟩,rfl⟩:=hw'
   have HB5:=Lib.hid (HBR.out.trans (hb5.mono HBR.out.size))
   have HXA5:=Lib.hid (HXA.out.keep hb5 HXA.out.lt)
   have HRO5:=Lib.hid (row_below HRO.out hb5)
   clear hb5 HCT r0 r1 r2 r3 r4 r5 s0 s1 s2 s3 s4 s5 s6 s7 s8 HXA HN3 HRO
   obtain ⟨f0,f1,f2,f3,f4,f5⟩:=fact6 HXA5.out
   simp only [show encF.k=6 from rfl] at f0 f1 f2 f3 f4 f5
   cases is with
   | false =>
     have HTK:=Lib.hid (told_no (fl:=fl) HX.out (by rw [HOK.out];rfl))
     go_wp2
     go_roundw
     case rel=>exact ⟨i+1,by go_num,by omega,by rw [HTK.out];exact HRO5,HB5⟩
     case measure=>simp [intOf];omega
   | true =>
   by_cases hkd:kn=kd
   ·have hk1:(kn==kd)=true:=by simpa using hkd
    have HTK:=Lib.hid (told_yes (fl:=fl) HX.out (by rw [HOK.out,decide_eq_true hkd];rfl))
    have hb6:=(Below.refl w5.heap.size w5).alloc (Nat.le_refl _) (.cells #[.string x.key.e,.string x.key.a,.string fl,.string x.key.p,.int .i64 0,.int .i64 x.amt] 79)
    have HB6:=Lib.hid (HB5.out.trans (hb6.mono HB5.out.size))
    have HO6:=Lib.hid (HRO5.out.alloc (.cells #[.string x.key.e,.string x.key.a,.string fl,.string x.key.p,.int .i64 0,.int .i64 x.amt] 79))
    clear hkd hb6
    go_wp2_with (at_builtin;refine wpList_append_el (E:=encF) rfl _ _ 22 79 rfl infoR W1.heap.size (toldF M (L.take i) kd fl) (⟨⟨x.key.e,x.key.a,fl,x.key.p,0⟩,x.amt⟩:Fact) (w5.heap.size+1) (HO6.out.alloc _) rfl (el_new1 _ _ _ _) (by have:=HB5.out.size;simp;omega) (by have:=HL6.out;omega) ?_;intro v9 w9 hr9 hb9 hg9)
    have HR9:=Lib.hid hr9
    have HB9:Hid (Below W1.heap.size W1 w9):=Lib.hid ((HB6.out.alloc (by have:=HB5.out.size;simp;omega) _).trans hb9)
    clear hr9 hb9 hg9 f0 f1 f2 f3 f4 f5
    go_wp2
    go_roundw
    case rel=>exact ⟨i+1,by go_num,by omega,by rw [HTK.out];exact HR9,HB9⟩
    case measure=>simp [intOf];omega
   ·have hk1:(kn==kd)=false:=by simpa using hkd
    have HTK:=Lib.hid (told_no (fl:=fl) HX.out (by rw [HOK.out,decide_eq_false hkd];rfl))
    clear hkd
    go_wp2
    go_roundw
    case rel=>exact ⟨i+1,by go_num,by omega,by rw [HTK.out];exact HRO5,HB5⟩
    case measure=>simp [intOf];omega
  ·obtain rfl:i=n:=by omega
   have HF:Hid (FactsV wr u9 (toldF M L kd fl)):=Lib.hid (by have:=HRO.out;rw [List.take_of_length_le (by rw [HNN.out];exact Nat.le_refl _)] at this;exact els_of_own this)
   have HBF:=Lib.hid (HB1.out.trans (HBR.out.mono HB1.out.size))
   clear HRO
   go_wp2
   go_ret
   exact ⟨_,rfl,HF.out,HBF.out⟩
set_option maxRecDepth 100000 in
set_option maxHeartbeats 8000000 in
theorem first_any (c f e l:Value) (M:Mast) (w:World) (hM:MastIn w c f e l M) (hlf:M.flows.length≤1000) (hop:Fl.hasF M.flows 0=true) :
 Calls Tryz.prog 34 #[aggM c f e l M] w fun en w'=>en=.returned (.string (firstF M))∧Below w.heap.size w w':=by
 obtain ⟨pc,cc,pf,cf,pe,ce,pl,cl,rfl,rfl,rfl,rfl⟩:=shapes hM
 obtain ⟨W1,hW1⟩:∃ W1,w.alloc (.cells (cellsM (.slice pc M.chart.length cc) (.slice pf M.flows.length cf) (.slice pe M.ents.length ce) (.slice pl M.lines.length cl) M) 37)=W1:=⟨_,rfl⟩
 have hb1:Below w.heap.size w W1:=by rw [←hW1];exact (Below.refl _ w).alloc (Nat.le_refl _) _
 have hn1:NineAt W1 w.heap.size (.slice pc M.chart.length cc) (.slice pf M.flows.length cf) (.slice pe M.ents.length ce) (.slice pl M.lines.length cl) M:=by rw [←hW1];exact nine_new w _ _ _ _ M _
 have HB1:=Lib.hid hb1
 have HN1:=Lib.hid hn1
 have HM1:=Lib.hid (hM.keep hb1)
 have HOF:=Lib.hid (Fl.rof_any (.slice pf M.flows.length cf) M.flows 0 W1 HM1.out.flows hlf)
 have hol:(Fl.ofF M.flows 0).length≤1000:=Nat.le_trans (Fl.ofF_len_le _ _) hlf
 have hpos:0 < (Fl.ofF M.flows 0).length:=by unfold Fl.hasF at hop;exact of_decide_eq_true hop
 obtain ⟨fl,hfl⟩:∃ fl,firstF M=fl:=⟨_,rfl⟩
 have h0:(Fl.ofF M.flows 0)[0]?=some fl:=by
  rw [←hfl]
  unfold firstF
  cases hq:Fl.ofF M.flows 0 with
  | nil=>rw [hq] at hpos;exact absurd hpos (by simp)
  | cons a r=>rfl
 obtain ⟨ws,hws⟩:∃ ws,Fl.ofF M.flows 0=ws:=⟨_,rfl⟩
 rw [hws] at HOF hol hpos h0
 rw [hfl]
 have HF0:=Lib.hid h0
 obtain ⟨m,hm⟩:∃ m,ws.length=m:=⟨_,rfl⟩
 rw [hm] at hpos hol
 have HM:=Lib.hid hm
 have hm1:((m:Int)==0)=false:=by simp;omega
 obtain ⟨k0,k1,k2,k3,k4,k5,k6,k7,k8⟩:=HN1.out
 clear hb1 hn1 hM hlf hop hws HN1 h0 hm hfl
 go_enter Tryz.func34,Tryz.ntmps34
 go_wp2_with fail
 clear k0 k1 k2 k3 k4 k5 k6 k7 k8 hW1
 refine HOF.out.mono ?_
 rintro en w2 ⟨vf,rfl,hs2,hb2⟩
 obtain ⟨pw,cw,rfl,hcw,hmw,hcl⟩:=hs2
 rw [HM.out] at hcw ⊢
 obtain ⟨b1,o1,rfl,d1⟩:=hcl 0 _ HF0.out
 rw [Nat.add_zero] at d1
 have HB2:=Lib.hid (HB1.out.trans (hb2.mono HB1.out.size))
 unfold maxLen at hmw
 clear hb2 HOF hcl
 go_wp2
 go_ret
 exact ⟨rfl,HB2.out⟩
set_option maxRecDepth 100000 in
set_option maxHeartbeats 8000000 in
theorem ropen_any (c f e l vc:Value) (M:Mast) (L:List Fact) (w:World) (hM:MastIn w c f e l M) (hlf:M.flows.length≤1000) (hop:Fl.hasF M.flows 0=true) (hV:FactsV w vc L) (hz:∀ x∈L,In64 x.amt) (hL:L.length≤1000) :
 Calls Tryz.prog 14 #[aggM c f e l M,vc] w (CubeTold w (openP M L)):=by
 obtain ⟨pc,cc,pf,cf,pe,ce,pl,cl,rfl,rfl,rfl,rfl⟩:=shapes hM
 obtain ⟨W1,hW1⟩:∃ W1,w.alloc (.cells (cellsM (.slice pc M.chart.length cc) (.slice pf M.flows.length cf) (.slice pe M.ents.length ce) (.slice pl M.lines.length cl) M) 37)=W1:=⟨_,rfl⟩
 have hb1:Below w.heap.size w W1:=by rw [←hW1];exact (Below.refl _ w).alloc (Nat.le_refl _) _
 have hn1:NineAt W1 w.heap.size (.slice pc M.chart.length cc) (.slice pf M.flows.length cf) (.slice pe M.ents.length ce) (.slice pl M.lines.length cl) M:=by rw [←hW1];exact nine_new w _ _ _ _ M _
 have HB1:=Lib.hid hb1
 have HN1:=Lib.hid hn1
 have HM1:=Lib.hid (hM.keep hb1)
 have HMR:=HM1
 have HVR:=Lib.hid (hV.keep hb1)
 have HLR:=Lib.hid hL
 have HLF:=Lib.hid hlf
 have HOP:=Lib.hid hop
 obtain ⟨R,hR⟩:∃ R,openP M L=R:=⟨_,rfl⟩
 have HOF:Hid (∀ (v:Value) (W:World),FactsV W v (toldF M L 4 (firstF M))→Calls Tryz.prog 32 #[v] W (CubeTold W R)):=Lib.hid fun v W h=>by
  have:=Fa.rof_any v _ W h (told_in64 hz) (Nat.le_trans (told_length _ _ _ _) hL)
  unfold openP at hR
  rw [hR] at this
  exact this
 rw [hR]
 obtain ⟨k0,k1,k2,k3,k4,k5,k6,k7,k8⟩:=HN1.out
 have s0:=fun q:Past W1=>cell_past k0 q
 have s1:=fun q:Past W1=>cell_past k1 q
 have s2:=fun q:Past W1=>cell_past k2 q
 have s3:=fun q:Past W1=>cell_past k3 q
 have s4:=fun q:Past W1=>cell_past k4 q
 have s5:=fun q:Past W1=>cell_past k5 q
 have s6:=fun q:Past W1=>cell_past k6 q
 have s7:=fun q:Past W1=>cell_past k7 q
 have s8:=fun q:Past W1=>cell_past k8 q
 clear hb1 hn1 hM hlf hop hV hz hL hR k0 k1 k2 k3 k4 k5 k6 k7 k8
 go_enter Tryz.func14,Tryz.ntmps14
 go_wp2_with fail
 clear hW1
 refine wp_region_plan (.one [0,1,2] 3 (.one [] 4 (.one [] 5 (.last [6,7,8,9])))) (by kernel_rfl) (by kernel_rfl) (fun d _ _ _ _ h=>by cases d <;> exact h) ?_
 obtain ⟨wz,hwz⟩:∃ wz,W1.drew=wz:=⟨_,rfl⟩
 rw [hwz]
 have HDX:Hid (Below W1.heap.size W1 wz):=Lib.hid (by rw [←hwz];exact ⟨rfl,rfl,rfl,Nat.le_refl _,fun _ _=>rfl⟩)
 clear hwz
 simp only [wpPlan,pick,nth]
 repeat (go_big_quiet_step (fail))
 refine wpQuiet_nil ?_
 clear s0 s1 s2 s3 s4 s5 s6 s7 s8
 intro K hK
 refine alone_want (by kernel_rfl) ?_
 go_big_op
 refine (first_any _ _ _ _ M _ (HMR.out.keep HDX.out) HLF.out HOP.out).mono ?_
 rintro en wa ⟨rfl,hba⟩
 have HBA:=Lib.hid (HDX.out.trans (hba.mono HDX.out.size))
 refine hK _ _ (past_in HBA.out) ?_
 clear hK K hba HDX
 refine wpQuiet_nil ?_
 intro K hK
 refine alone_want (by kernel_rfl) ?_
 go_big_op
 refine (told_any _ _ _ _ _ M L 4 (firstF M) _ (HMR.out.keep HBA.out) (HVR.out.keep HBA.out) HLR.out).mono ?_
 rintro en wt ⟨ut,rfl,hvt,hbt⟩
 have HVT:=Lib.hid hvt
 have HBT:=Lib.hid (HBA.out.trans (hbt.mono HBA.out.size))
 refine hK _ _ (past_in HBT.out) ?_
 clear hK K hbt hvt HBA
 refine wpQuiet_nil ?_
 intro K hK
 refine alone_want (by kernel_rfl) ?_
 go_big_op
 refine (HOF.out _ _ HVT.out).mono ?_
 rintro en wo ⟨uwo,rfl,hvo,hbo⟩
 have HVO:=Lib.hid hvo
 have HBO:=Lib.hid (HBT.out.trans (hbo.mono HBT.out.size))
 refine hK _ _ (past_in HBO.out) ?_
 clear hK K hvo hbo HVT HBT
 repeat (go_big_quiet_step (fail))
 refine wpQuiet_nil ?_
 have HBF:=Lib.hid (HB1.out.trans (HBO.out.mono HB1.out.size))
 go_wp2
 go_ret2
 exact ⟨uwo,rfl,HVO.out,HBF.out⟩
end Go.Proofs.YtfhhihamndbcnaaGreatDoor.Cy
end
section
namespace Go.Proofs.YtfhhihamndbcnaaGreatDoor.Cy
open Go.RowKit Go.Proofs.YtfhhihamndbcnaaGreatDoor.Un Go.Proofs.YtfhhihamndbcnaaGreatDoor.Fa Go.Proofs.YtfhhihamndbcnaaGreatDoor.Pk Go.Proofs.YtfhhihamndbcnaaGreatDoor.Co
set_option maxRecDepth 100000 in
set_option maxHeartbeats 8000000 in
theorem rcheck_any (c f e l vp vc:Value) (M:Mast) (Q L:List Fact) (w:World) (hM:MastIn w c f e l M) (hlf:M.flows.length≤1000) (hop:Fl.hasF M.flows 0=true) (hVp:FactsV w vp Q) (hzp:∀ x∈Q,In64 x.amt) (hLp:Q.length≤1000) (hV:FactsV w vc L) (hz:∀ x∈L,In64 x.amt) (hL:L.length≤1000) :
 Calls Tryz.prog 20 #[aggM c f e l M,vp,vc] w fun en w'=>en=.returned (.int .i64 (checkP M Q L))∧Below w.heap.size w w':=by
 obtain ⟨pc,cc,pf,cf,pe,ce,pl,cl,rfl,rfl,rfl,rfl⟩:=shapes hM
 obtain ⟨W1,hW1⟩:∃ W1,w.alloc (.cells (cellsM (.slice pc M.chart.length cc) (.slice pf M.flows.length cf) (.slice pe M.ents.length ce) (.slice pl M.lines.length cl) M) 37)=W1:=⟨_,rfl⟩
 have hb1:Below w.heap.size w W1:=by rw [←hW1];exact (Below.refl _ w).alloc (Nat.le_refl _) _
 have hn1:NineAt W1 w.heap.size (.slice pc M.chart.length cc) (.slice pf M.flows.length cf) (.slice pe M.ents.length ce) (.slice pl M.lines.length cl) M:=by rw [←hW1];exact nine_new w _ _ _ _ M _
 have HB1:=Lib.hid hb1
 have HN1:=Lib.hid hn1
 have HM1:=Lib.hid (hM.keep hb1)
 have HV1:=Lib.hid (hV.keep hb1)
 have HLR:=Lib.hid hL
 have HLF:=Lib.hid hlf
 have HOP:=Lib.hid hop
 obtain ⟨S,hS⟩:∃ S,checkP M Q L=S:=⟨_,rfl⟩
 have HSS:=Lib.hid hS
 rw [hS]
 have HOQ:=Lib.hid (ropen_any (.slice pc M.chart.length cc) (.slice pf M.flows.length cf) (.slice pe M.ents.length ce) (.slice pl M.lines.length cl) vp M Q W1 HM1.out hlf hop (hVp.keep hb1) hzp hLp)
 obtain ⟨A,hA⟩:∃ A,openP M Q=A:=⟨_,rfl⟩
 have HAA:=Lib.hid hA
 rw [hA] at HOQ
 obtain ⟨A,ae⟩:=A
 obtain ⟨R,hR⟩:∃ R,ofL (toldF M L 0 (firstF M))=R:=⟨_,rfl⟩
 have HRR:=Lib.hid hR
 have HOF:Hid (∀ (v:Value) (W:World),FactsV W v (toldF M L 0 (firstF M))→Calls Tryz.prog 32 #[v] W (CubeTold W R)):=Lib.hid fun v W h=>by
  have:=Fa.rof_any v _ W h (told_in64 hz) (Nat.le_trans (told_length _ _ _ _) hL)
  rw [hR] at this
  exact this
 obtain ⟨B,be⟩:=R
 obtain ⟨k0,k1,k2,k3,k4,k5,k6,k7,k8⟩:=HN1.out
 clear hb1 hn1 hM hlf hop hVp hzp hLp hV hz hL hR hA hS
 go_enter Tryz.func20,Tryz.ntmps20
 go_wp2_with fail
 clear k0 k1 k2 k3 k4 k5 k6 k7 k8 hW1
 refine HOQ.out.mono ?_
 rintro en w2 ⟨u2,rfl,hv2,hb2⟩
 dsimp only at hv2
 have HVA:=Lib.hid hv2
 have HB2:=Lib.hid (HB1.out.trans (hb2.mono HB1.out.size))
 have HMR:=Lib.hid (HM1.out.keep hb2)
 have HVR:=Lib.hid (HV1.out.keep hb2)
 have HN2:=Lib.hid (HN1.out.kept hb2)
 clear hb2 hv2 HOQ HM1 HV1 HN1 HB1
 by_cases hae:ae=0
 ·subst hae
  obtain ⟨k0,k1,k2,k3,k4,k5,k6,k7,k8⟩:=HN2.out
  have s0:=fun q:Past w2=>cell_past k0 q
  have s1:=fun q:Past w2=>cell_past k1 q
  have s2:=fun q:Past w2=>cell_past k2 q
  have s3:=fun q:Past w2=>cell_past k3 q
  have s4:=fun q:Past w2=>cell_past k4 q
  have s5:=fun q:Past w2=>cell_past k5 q
  have s6:=fun q:Past w2=>cell_past k6 q
  have s7:=fun q:Past w2=>cell_past k7 q
  have s8:=fun q:Past w2=>cell_past k8 q
  clear k0 k1 k2 k3 k4 k5 k6 k7 k8
  go_wp2_with fail
  refine wp_region_plan (.one [0,1,2] 3 (.one [] 4 (.one [] 5 (.last [6,7,8,9,10])))) (by kernel_rfl) (by kernel_rfl) (fun d _ _ _ _ h=>by cases d <;> exact h) ?_
  obtain ⟨wz,hwz⟩:∃ wz,w2.drew=wz:=⟨_,rfl⟩
  rw [hwz]
  have HDX:Hid (Below w2.heap.size w2 wz):=Lib.hid (by rw [←hwz];exact ⟨rfl,rfl,rfl,Nat.le_refl _,fun _ _=>rfl⟩)
  clear hwz
  simp only [wpPlan,pick,nth]
  repeat (go_big_quiet_step (fail))
  refine wpQuiet_nil ?_
  clear s0 s1 s2 s3 s4 s5 s6 s7 s8
  intro K hK
  refine alone_want (by kernel_rfl) ?_
  go_big_op
  refine (first_any _ _ _ _ M _ (HMR.out.keep HDX.out) HLF.out HOP.out).mono ?_
  rintro en wa ⟨rfl,hba⟩
  have HBA:=Lib.hid (HDX.out.trans (hba.mono HDX.out.size))
  refine hK _ _ (past_in HBA.out) ?_
  clear hK K hba HDX
  refine wpQuiet_nil ?_
  intro K hK
  refine alone_want (by kernel_rfl) ?_
  go_big_op
  refine (told_any _ _ _ _ _ M L 0 (firstF M) _ (HMR.out.keep HBA.out) (HVR.out.keep HBA.out) HLR.out).mono ?_
  rintro en wt ⟨ut,rfl,hvt,hbt⟩
  have HVT:=Lib.hid hvt
  have HBT:=Lib.hid (HBA.out.trans (hbt.mono HBA.out.size))
  refine hK _ _ (past_in HBT.out) ?_
  clear hK K hbt hvt HBA
  refine wpQuiet_nil ?_
  intro K hK
  refine alone_want (by kernel_rfl) ?_
  go_big_op
  refine (HOF.out _ _ HVT.out).mono ?_
  rintro en wo ⟨uwo,rfl,hvo,hbo⟩
  have HVO:=Lib.hid hvo
  have HBO:=Lib.hid (HBT.out.trans (hbo.mono HBT.out.size))
  refine hK _ _ (past_in HBO.out) ?_
  clear hK K hvo hbo HVT HBT
  repeat (go_big_quiet_step (fail))
  refine wpQuiet_nil ?_
  dsimp only at HVO
  have HBF:=Lib.hid (HB2.out.trans (HBO.out.mono HB2.out.size))
  have HVA2:=Lib.hid (HVA.out.keep HBO.out)
  clear HVA HBO HOF
  by_cases hbe:be=0
  ·subst hbe
   have HCS:Hid (S=if A=B then 0 else 8):=Lib.hid (by
    rw [←HSS.out]
    unfold checkP
    rw [HAA.out,HRR.out]
    simp)
   go_wp2_with fail
   refine (Fa.same_any _ _ A B _ HVA2.out HVO.out).mono ?_
   rintro en w7 ⟨rfl,hb7⟩
   have HB7:=Lib.hid (HBF.out.trans (hb7.mono HBF.out.size))
   clear hb7
   by_cases hab:A=B
   ·have hsm:Fa.sameL A B=true:=by unfold Fa.sameL;exact decide_eq_true hab
    obtain rfl:S=0:=by rw [HCS.out,if_pos hab]
    clear hab
    rw [hsm]
    clear hsm
    go_wp2
    go_ret
    exact ⟨rfl,HB7.out⟩
   ·have hsm:Fa.sameL A B=false:=by unfold Fa.sameL;exact decide_eq_false hab
    obtain rfl:S=8:=by rw [HCS.out,if_neg hab]
    clear hab
    rw [hsm]
    clear hsm
    go_wp2
    go_ret
    exact ⟨rfl,HB7.out⟩
  ·have hbe1:(be != 0)=true:=by simpa using hbe
   obtain rfl:S=be:=by
    rw [←HSS.out]
    unfold checkP
    rw [HAA.out,HRR.out]
    simp [hbe]
   clear hbe
   go_wp2
   go_ret
   exact ⟨rfl,HBF.out⟩
 ·have hae1:(ae != 0)=true:=by simpa using hae
  obtain rfl:S=ae:=by
   rw [←HSS.out]
   unfold checkP
   rw [HAA.out]
   simp [hae]
  clear hae
  go_wp2
  go_ret
  exact ⟨rfl,HB2.out⟩
theorem rest_yes {M:Mast} {c:List Fact} {i:Nat} {x:Fact} (hx:c[i]?=some x) (h:ofK M 0 x.key=true):restF M (c.take (i+1))=restF M (c.take i):=by
 unfold restF
 rw [List.take_add_one,hx]
 simp [h]
theorem rest_no {M:Mast} {c:List Fact} {i:Nat} {x:Fact} (hx:c[i]?=some x) (h:ofK M 0 x.key=false):restF M (c.take (i+1))=restF M (c.take i)++[x]:=by
 unfold restF
 rw [List.take_add_one,hx]
 simp [h]
theorem rest_in64 {M:Mast} {c:List Fact} (h:∀ f∈c,In64 f.amt):∀ f∈restF M c,In64 f.amt:=fun f hf=>h f (List.mem_filter.1 hf).1
set_option maxRecDepth 100000 in
set_option maxHeartbeats 8000000 in
theorem rbring_any (c f e l vp vc:Value) (M:Mast) (Q L:List Fact) (w:World) (hM:MastIn w c f e l M) (hlf:M.flows.length≤1000) (hop:Fl.hasF M.flows 0=true) (hVp:FactsV w vp Q) (hzp:∀ x∈Q,In64 x.amt) (hLp:Q.length≤400) (hV:FactsV w vc L) (hz:∀ x∈L,In64 x.amt) (hL:L.length≤400) :
 Calls Tryz.prog 16 #[aggM c f e l M,vp,vc] w (CubeTold w (bringP M Q L)):=by
 obtain ⟨pv,cp,rfl,hcap,hmx,_,hcl⟩:=id hV
 obtain ⟨n,hn⟩:∃ n,L.length=n:=⟨_,rfl⟩
 obtain ⟨pc,cc,pf,cf,pe,ce,pl,cl,rfl,rfl,rfl,rfl⟩:=shapes hM
 obtain ⟨W1,hW1⟩:∃ W1,w.alloc (.cells (cellsM (.slice pc M.chart.length cc) (.slice pf M.flows.length cf) (.slice pe M.ents.length ce) (.slice pl M.lines.length cl) M) 37)=W1:=⟨_,rfl⟩
 have hb1:Below w.heap.size w W1:=by rw [←hW1];exact (Below.refl _ w).alloc (Nat.le_refl _) _
 have hn1:NineAt W1 w.heap.size (.slice pc M.chart.length cc) (.slice pf M.flows.length cf) (.slice pe M.ents.length ce) (.slice pl M.lines.length cl) M:=by rw [←hW1];exact nine_new w _ _ _ _ M _
 have HB1:=Lib.hid hb1
 have HN1:=Lib.hid hn1
 have HM1:=Lib.hid (hM.keep hb1)
 have HNN:=Lib.hid hn
 have HV1:=Lib.hid (hV.keep hb1)
 obtain ⟨S,hS⟩:∃ S,bringP M Q L=S:=⟨_,rfl⟩
 have HSS:=Lib.hid hS
 have HZ:=Lib.hid hz
 rw [hS]
 have HOQ:=Lib.hid (ropen_any (.slice pc M.chart.length cc) (.slice pf M.flows.length cf) (.slice pe M.ents.length ce) (.slice pl M.lines.length cl) vp M Q W1 HM1.out hlf hop (hVp.keep hb1) hzp (Nat.le_trans hLp (by decide)))
 have hoz:=open_in64 M Q
 have hol:=Nat.le_trans (open_length M Q) hLp
 obtain ⟨A,hA⟩:∃ A,openP M Q=A:=⟨_,rfl⟩
 have HAA:=Lib.hid hA
 rw [hA] at HOQ hoz hol
 obtain ⟨A,ae⟩:=A
 have HOZ:=Lib.hid hoz
 have HOL:=Lib.hid hol
 dsimp only at HOZ HOL
 rw [hn] at hcap hL HV1
 rw [hn]
 unfold maxLen at hmx
 obtain ⟨k0,k1,k2,k3,k4,k5,k6,k7,k8⟩:=HN1.out
 clear hb1 hn1 hM hlf hop hVp hzp hLp hV hz hA hS hn hcl hoz hol
 go_enter Tryz.func16,Tryz.ntmps16
 go_wp2_with fail
 clear k0 k1 k2 k3 k4 k5 k6 k7 k8 hW1
 refine HOQ.out.mono ?_
 rintro en w2 ⟨u2,rfl,hv2,hb2⟩
 dsimp only at hv2
 have HVA:=Lib.hid hv2
 have HB2:=Lib.hid (HB1.out.trans (hb2.mono HB1.out.size))
 have HM2:=Lib.hid (HM1.out.keep hb2)
 have HV2:=Lib.hid (HV1.out.keep hb2)
 have HN2:=Lib.hid (HN1.out.kept hb2)
 clear hb2 hv2 HOQ HM1 HV1 HN1 HB1
 by_cases hae:ae=0
 ·subst hae
  go_wp2_with fail
  go_loopw [10,11] (fun s10 s11 wr=>∃ i:Nat,s11=.int .i64 (i:Int)∧i≤n∧Hid (wr.ownsRow w2.heap.size 79 6 s10 (restF M (L.take i)).length (flat encF (restF M (L.take i))))∧Hid (Below w2.heap.size w2 wr)) (fun _ s11 _=>n - (intOf s11).toNat)
  case atStart=>exact ⟨0,rfl,Nat.zero_le _,World.ownsRow_nil _ _ _ _,Lib.hid (Below.refl _ _)⟩
  case round =>
   obtain ⟨i,rfl,hi,HRO,HBR⟩:=hrel
   by_cases hlt:i < n
   ·obtain ⟨x,hx⟩:∃ x,L[i]?=some x:=⟨_,List.getElem?_eq_getElem (by rw [HNN.out];exact hlt)⟩
    obtain ⟨b,o,e',hat⟩:=ElsV.at_ HV2.out hx
    cases e'
    have HXA:=Lib.hid (hat.keep HBR.out hat.lt)
    obtain ⟨f0,f1,f2,f3,f4,f5⟩:=fact6 HXA.out
    simp only [show encF.k=6 from rfl] at f0 f1 f2 f3 f4 f5
    have HN3:=Lib.hid (HN2.out.kept HBR.out)
    obtain ⟨k0,k1,k2,k3,k4,k5,k6,k7,k8⟩:=HN3.out
    have r0:=fun q:Past wr=>cell_past f0 q
    have r1:=fun q:Past wr=>cell_past f1 q
    have r2:=fun q:Past wr=>cell_past f2 q
    have r3:=fun q:Past wr=>cell_past f3 q
    have r4:=fun q:Past wr=>cell_past f4 q
    have r5:=fun q:Past wr=>cell_past f5 q
    have s0:=fun q:Past wr=>cell_past k0 q
    have s1:=fun q:Past wr=>cell_past k1 q
    have s2:=fun q:Past wr=>cell_past k2 q
    have s3:=fun q:Past wr=>cell_past k3 q
    have s4:=fun q:Past wr=>cell_past k4 q
    have s5:=fun q:Past wr=>cell_past k5 q
    have s6:=fun q:Past wr=>cell_past k6 q
    have s7:=fun q:Past wr=>cell_past k7 q
    have s8:=fun q:Past wr=>cell_past k8 q
    have HCT:Hid (∀ q:Past wr,Calls Tryz.prog 35 #[.slice pf M.flows.length cf,.string x.key.f] q.goal fun en w'=>en=.returned (.tuple #[.int .i64 (kindO' (Fl.findF M.flows x.key.f)),.bool (Fl.findF M.flows x.key.f).isSome])∧Below q.goal.heap.size q.goal w'):=Lib.hid fun q=>rkind_any _ _ _ q.goal (HM2.out.keep (HBR.out.trans (q.below.mono HBR.out.size))).flows
    have HOK:=Lib.hid (ofK_kind M 0 x.key)
    obtain ⟨kn,hkn⟩:∃ kn,kindO' (Fl.findF M.flows x.key.f)=kn:=⟨_,rfl⟩
    obtain ⟨is,his⟩:∃ is,(Fl.findF M.flows x.key.f).isSome=is:=⟨_,rfl⟩
    rw [hkn,his] at HCT HOK
    have HX:=Lib.hid hx
    have HL6:Hid ((restF M (L.take i)).length≤i):=Lib.hid (Nat.le_trans (rest_length _ _) (by rw [List.length_take];exact Nat.min_le_left _ _))
    clear hx hat f0 f1 f2 f3 f4 f5 k0 k1 k2 k3 k4 k5 k6 k7 k8 hkn his
    go_wp2_with fail
    refine wp_region_past (by kernel_rfl) (by kernel_rfl) ?_
    repeat (go_big_quiet_step (first | (go_at_call 35;exact Calls.past_of (HCT.out _)) | fail))
    refine wpQuiet_nil ?_
    intro w5 hw'
    obtain ⟨⟨w5',hb5⟩,rfl⟩:=hw'
    have HB5:=Lib.hid (HBR.out.trans (hb5.mono HBR.out.size))
    have HXA5:=Lib.hid (HXA.out.keep hb5 HXA.out.lt)
    have HRO5:=Lib.hid (row_below HRO.out hb5)
    clear hb5 HCT r0 r1 r2 r3 r4 r5 s0 s1 s2 s3 s4 s5 s6 s7 s8 HXA HN3 HRO
    obtain ⟨f0,f1,f2,f3,f4,f5⟩:=fact6 HXA5.out
    simp only [show encF.k=6 from rfl] at f0 f1 f2 f3 f4 f5
    cases is with
    | false =>
      have HTK:=Lib.hid (rest_no HX.out (by rw [HOK.out];rfl))
      go_wp2_with (at_builtin;refine wpList_append_el (E:=encF) rfl _ _ 22 79 rfl infoR w2.heap.size (restF M (L.take i)) x w5.heap.size (HRO5.out.alloc _) rfl (el_new _ _ _ _) (by have:=HB5.out.size;simp;omega) (by have:=HL6.out;omega) ?_;intro v9 w9 hr9 hb9 hg9)
      have HR9:=Lib.hid hr9
      have HB9:Hid (Below w2.heap.size w2 w9):=Lib.hid ((HB5.out.alloc HB5.out.size _).trans hb9)
      clear hr9 hb9 hg9 f0 f1 f2 f3 f4 f5
      go_wp2
      go_roundw
      case rel=>exact ⟨i+1,by go_num,by omega,by rw [HTK.out];exact HR9,HB9⟩
      case measure=>simp [intOf];omega
    | true =>
    by_cases hkd:kn=0
    ·have hk1:(kn != 0)=false:=by simpa using hkd
     have HTK:=Lib.hid (rest_yes HX.out (by rw [HOK.out,decide_eq_true hkd];rfl))
     clear hkd
     go_wp2
     go_roundw
     case rel=>exact ⟨i+1,by go_num,by omega,by rw [HTK.out];exact HRO5,HB5⟩
     case measure=>simp [intOf];omega
    ·have hk1:(kn != 0)=true:=by simpa using hkd
     have HTK:=Lib.hid (rest_no HX.out (by rw [HOK.out,decide_eq_false hkd];rfl))
     clear hkd
     go_wp2_with (at_builtin;refine wpList_append_el (E:=encF) rfl _ _ 22 79 rfl infoR w2.heap.size (restF M (L.take i)) x w5.heap.size (HRO5.out.alloc _) rfl (el_new _ _ _ _) (by have:=HB5.out.size;simp;omega) (by have:=HL6.out;omega) ?_;intro v9 w9 hr9 hb9 hg9)
     have HR9:=Lib.hid hr9
     have HB9:Hid (Below w2.heap.size w2 w9):=Lib.hid ((HB5.out.alloc HB5.out.size _).trans hb9)
     clear hr9 hb9 hg9 f0 f1 f2 f3 f4 f5
     go_wp2
     go_roundw
     case rel=>exact ⟨i+1,by go_num,by omega,by rw [HTK.out];exact HR9,HB9⟩
     case measure=>simp [intOf];omega
   ·obtain rfl:i=n:=by omega
    have HF:Hid (FactsV wr u10 (restF M L)):=Lib.hid (by have:=HRO.out;rw [List.take_of_length_le (by rw [HNN.out];exact Nat.le_refl _)] at this;exact els_of_own this)
    have HBF:=Lib.hid (HB2.out.trans (HBR.out.mono HB2.out.size))
    have HAD:=Lib.hid (Fa.radd_any u10 u2 (restF M L) A wr HF.out (HVA.out.keep HBR.out) (rest_in64 HZ.out) HOZ.out (Nat.le_trans (rest_length _ _) (by rw [HNN.out];exact hL)) HOL.out)
    have hst:ofL (restF M L++A)=S:=by rw [←HSS.out];unfold bringP;rw [HAA.out];simp
    rw [hst] at HAD
    clear HRO HF hst
    go_wp2_with fail
    refine HAD.out.mono ?_
    rintro en w7 ⟨u7,rfl,hv7,hb7⟩
    have HV7:=Lib.hid hv7
    have HB7:=Lib.hid (HBF.out.trans (hb7.mono HBF.out.size))
    clear hv7 hb7
    go_wp2
    go_ret2
    exact ⟨u7,rfl,HV7.out,HB7.out⟩
 ·have hae1:(ae != 0)=true:=by simpa using hae
  have HS2:Hid (S=([],ae)):=Lib.hid (by
   rw [←HSS.out]
   unfold bringP
   rw [HAA.out]
   simp [hae])
  clear hae
  go_wp2
  go_ret2
  exact ⟨.slice none 0 0,by rw [HS2.out];rfl,by rw [HS2.out];exact ElsV.nil _,HB2.out⟩
end Go.Proofs.YtfhhihamndbcnaaGreatDoor.Cy
end
section
namespace Go.Proofs.YtfhhihamndbcnaaGreatDoor.Cy
open Go.RowKit Go.Maps Go.Proofs.YtfhhihamndbcnaaGreatDoor.Un Go.Proofs.YtfhhihamndbcnaaGreatDoor.Pk
open Go.Proofs.YtfhhihamndbcnaaGreatDoor.Fa (Key Fact encF key5 fact6 FactsV CubeTold)
set_option maxRecDepth 100000 in
set_option maxHeartbeats 16000000 in
theorem carryTells_walk (s0:ByteArray) (vp:Value) (Q:List Fact) (vc:Value) (C:List Fact) (w:World) (_hs0:s0.size≤maxLen) (hp:FactsV w vp Q) (hzp:∀ f∈Q,In64 f.key.m∧In64 f.amt) (hv:FactsV w vc C) (hz:∀ f∈C,In64 f.key.m∧In64 f.amt) (hU:LaidP w):Calls Tryz.prog 3 #[.string s0,vp,vc] w fun en w'=>en=.returned (.bool true)∧Below w.heap.size w w':=by
 have HVP0:=Lib.hid hp
 have HVC0:=Lib.hid hv
 have HZP:=Lib.hid (fun f hf=>(hzp f hf).2:∀ f∈Q,In64 f.amt)
 have HZC:=Lib.hid (fun f hf=>(hz f hf).2:∀ f∈C,In64 f.amt)
 have HL:=Lib.hid hU
 clear hU hp hv hz hzp _hs0
 go_enter Tryz.func3,Tryz.ntmps3
 go_wp2_with fail
 refine (alive13_any _ HL.out).mono ?_
 rintro en w1 ⟨rfl,hb1⟩
 have HB1:=Lib.hid hb1
 have HVP1:=Lib.hid (HVP0.out.keep hb1)
 have HVC1:=Lib.hid (HVC0.out.keep hb1)
 have HL1:=Lib.hid (HL.out.keep hb1)
 clear hb1 HVP0 HVC0
 go_wp2_with fail
 refine (master_any s0 _ HL1.out.1 HL1.out.2.1).mono ?_
 rintro en w2 ⟨M,c,f,e,l,c',f',e',l',is,rfl,hm,hm',hb2,his⟩
 obtain ⟨pc,cc,pf,cf,pe,ce,pl,cl,rfl,rfl,rfl,rfl⟩:=shapes hm
 obtain ⟨pc',cc',pf',cf',pe',ce',pl',cl',rfl,rfl,rfl,rfl⟩:=shapes hm'
 have HM2:=Lib.hid hm
 have HM2':=Lib.hid hm'
 have HB2:=Lib.hid (HB1.out.trans (hb2.mono HB1.out.size))
 have HVP2:=Lib.hid (HVP1.out.keep hb2)
 have HVC2:=Lib.hid (HVC1.out.keep hb2)
 have HIS:=Lib.hid his
 clear hm hm' hb2 his HB1 HL1 HVP1 HVC1
 cases is with
 | false =>
   go_wp2_with (first
    | (refine wpList_store_mast rfl 31 (.tmp 7) (.tmp 23) rfl w2.heap.size nil4 nil4 nil4 nil4 (.slice pc M.chart.length cc) (.slice pf M.flows.length cf) (.slice pe M.ents.length ce) (.slice pl M.lines.length cl) zeroM M 31 rfl rfl (start1 w2) ⟨rfl,rfl,rfl,rfl⟩ (by kernel_rfl) ?_;intro w3 hb3 hg3;have HX3:=Lib.hid hb3;have HG3:=Lib.hid hg3;clear hb3 hg3)
    | (refine wpList_store_mast rfl 37 (.tmp 8) (.tmp 24) rfl (w2.heap.size+1) nil4 nil4 nil4 nil4 (.slice pc' M.chart.length cc') (.slice pf' M.flows.length cf') (.slice pe' M.ents.length ce') (.slice pl' M.lines.length cl') zeroM M 37 rfl rfl (start_keep HG3.out) ⟨rfl,rfl,rfl,rfl⟩ (by kernel_rfl) ?_;intro w4 hb4 hg4;have HT4:=Lib.hid (two_of HM2.out HM2'.out HX3.out HG3.out hb4 hg4);clear hb4 hg4;have HB4:=Lib.hid (HB2.out.trans (HT4.out.bel.mono HB2.out.size));have HVP4:=Lib.hid (HVP2.out.keep HT4.out.bel);have HVC4:=Lib.hid (HVC2.out.keep HT4.out.bel))
    | fail)
   go_ret
   exact ⟨rfl,HB4.out⟩
 | true =>
 go_wp2_with (first
  | (refine wpList_store_mast rfl 31 (.tmp 7) (.tmp 23) rfl w2.heap.size nil4 nil4 nil4 nil4 (.slice pc M.chart.length cc) (.slice pf M.flows.length cf) (.slice pe M.ents.length ce) (.slice pl M.lines.length cl) zeroM M 31 rfl rfl (start1 w2) ⟨rfl,rfl,rfl,rfl⟩ (by kernel_rfl) ?_;intro w3 hb3 hg3;have HX3:=Lib.hid hb3;have HG3:=Lib.hid hg3;clear hb3 hg3)
  | (refine wpList_store_mast rfl 37 (.tmp 8) (.tmp 24) rfl (w2.heap.size+1) nil4 nil4 nil4 nil4 (.slice pc' M.chart.length cc') (.slice pf' M.flows.length cf') (.slice pe' M.ents.length ce') (.slice pl' M.lines.length cl') zeroM M 37 rfl rfl (start_keep HG3.out) ⟨rfl,rfl,rfl,rfl⟩ (by kernel_rfl) ?_;intro w4 hb4 hg4;have HT4:=Lib.hid (two_of HM2.out HM2'.out HX3.out HG3.out hb4 hg4);clear hb4 hg4;have HB4:=Lib.hid (HB2.out.trans (HT4.out.bel.mono HB2.out.size));have HVP4:=Lib.hid (HVP2.out.keep HT4.out.bel);have HVC4:=Lib.hid (HVC2.out.keep HT4.out.bel))
  | fail)
 clear HM2 HM2' HB2 HX3 HG3 HVP2 HVC2
 refine (Fa.few_any _ Q _ HVP4.out).mono ?_
 rintro en w5 ⟨rfl,hb5⟩
 have HB5:=Lib.hid (HB4.out.trans (hb5.mono HB4.out.size))
 have HT5:=Lib.hid (HT4.out.keep hb5)
 have HVP5:=Lib.hid (ElsV.keep HVP4.out hb5)
 have HVC5:=Lib.hid (ElsV.keep HVC4.out hb5)
 clear HB4 HT4 HVP4 HVC4
 clear hb5
 cases hq:Fa.fewL Q with
 | false =>
   go_wp2
   go_ret
   exact ⟨rfl,HB5.out⟩
 | true =>
 have HFQ:=Lib.hid hq
 clear hq
 go_wp2_with fail
 refine (Fa.few_any _ C _ HVC5.out).mono ?_
 rintro en w6 ⟨rfl,hb6⟩
 have HB6:=Lib.hid (HB5.out.trans (hb6.mono HB5.out.size))
 have HT6:=Lib.hid (HT5.out.keep hb6)
 have HVP6:=Lib.hid (ElsV.keep HVP5.out hb6)
 have HVC6:=Lib.hid (ElsV.keep HVC5.out hb6)
 clear HB5 HT5 HVP5 HVC5
 clear hb6
 cases hq:Fa.fewL C with
 | false =>
   go_wp2
   go_ret
   exact ⟨rfl,HB6.out⟩
 | true =>
 have HFC:=Lib.hid hq
 clear hq
 go_wp2_with fail
 have HLQ:Hid (Q.length≤150):=Lib.hid (Fa.few_length HFQ.out)
 have HLC:Hid (C.length≤150):=Lib.hid (Fa.few_length HFC.out)
 refine (Fa.rright_any _ Q _ HVP6.out (by have:=HLQ.out;omega)).mono ?_
 rintro en w7 ⟨rfl,hb7⟩
 have HB7:=Lib.hid (HB6.out.trans (hb7.mono HB6.out.size))
 have HT7:=Lib.hid (HT6.out.keep hb7)
 have HVP7:=Lib.hid (ElsV.keep HVP6.out hb7)
 have HVC7:=Lib.hid (ElsV.keep HVC6.out hb7)
 clear HB6 HT6 HVP6 HVC6
 clear hb7
 cases hq:Fa.rightL Q with
 | false =>
   go_wp2
   go_ret
   exact ⟨rfl,HB7.out⟩
 | true =>
 have HRQ:=Lib.hid hq
 clear hq
 go_wp2_with fail
 refine (Fa.rright_any _ C _ HVC7.out (by have:=HLC.out;omega)).mono ?_
 rintro en w8 ⟨rfl,hb8⟩
 have HB8:=Lib.hid (HB7.out.trans (hb8.mono HB7.out.size))
 have HT8:=Lib.hid (HT7.out.keep hb8)
 have HVP8:=Lib.hid (ElsV.keep HVP7.out hb8)
 have HVC8:=Lib.hid (ElsV.keep HVC7.out hb8)
 clear HB7 HT7 HVP7 HVC7
 clear hb8
 cases hq:Fa.rightL C with
 | false =>
   go_wp2
   go_ret
   exact ⟨rfl,HB8.out⟩
 | true =>
 have HRC:=Lib.hid hq
 clear hq
 have hR:=(HIS.out (by first | trivial | rfl)).1
 have HOP:=Lib.hid (opn_of hR.inv.sane hR.all)
 clear hR HRQ HRC HFQ HFC
 obtain ⟨XO,hXO⟩:∃ X,openP M Q=X:=⟨_,rfl⟩
 obtain ⟨XB,hXB⟩:∃ X,bringP M Q C=X:=⟨_,rfl⟩
 obtain ⟨XC,hXC⟩:∃ X,checkP M Q C=X:=⟨_,rfl⟩
 have HXL:Hid (XO.1.length≤1000):=Lib.hid (by rw [←hXO];exact Nat.le_trans (open_length M Q) (by have:=HLQ.out;omega))
 have HXM:Hid (XB.1.length≤1000):=Lib.hid (by rw [←hXB];exact bring_length (by have:=HLQ.out;have:=HLC.out;omega))
 have HXO:=Lib.hid hXO
 have HXB:=Lib.hid hXB
 have HXC:=Lib.hid hXC
 obtain ⟨XO,eo⟩:=XO
 obtain ⟨XB,eb⟩:=XB
 dsimp only at HXL HXM
 clear hXO hXB hXC
 have HCO:Hid (∀ W (v:Value),FlIn W (.slice pc M.chart.length cc) (.slice pf M.flows.length cf) (.slice pe M.ents.length ce) (.slice pl M.lines.length cl) M→FactsV W v Q→Calls Tryz.prog 12 #[aggM (.slice pc M.chart.length cc) (.slice pf M.flows.length cf) (.slice pe M.ents.length ce) (.slice pl M.lines.length cl) M,v] W (CubeTold W (XO,eo))):=Lib.hid fun W v h1 h2=>by
  have:=open_any (.slice pc M.chart.length cc) (.slice pf M.flows.length cf) (.slice pe M.ents.length ce) (.slice pl M.lines.length cl) v M Q W h1 HOP.out h2 HZP.out (by have:=HLQ.out;omega)
  rw [HXO.out] at this
  exact this
 have HDO:Hid (∀ W (v:Value),MastIn W (.slice pc' M.chart.length cc') (.slice pf' M.flows.length cf') (.slice pe' M.ents.length ce') (.slice pl' M.lines.length cl') M→FactsV W v Q→Calls Tryz.prog 14 #[aggM (.slice pc' M.chart.length cc') (.slice pf' M.flows.length cf') (.slice pe' M.ents.length ce') (.slice pl' M.lines.length cl') M,v] W (CubeTold W (XO,eo))):=Lib.hid fun W v h1 h2=>by
  have:=ropen_any (.slice pc' M.chart.length cc') (.slice pf' M.flows.length cf') (.slice pe' M.ents.length ce') (.slice pl' M.lines.length cl') v M Q W h1 HOP.out.flen HOP.out.has h2 HZP.out (by have:=HLQ.out;omega)
  rw [HXO.out] at this
  exact this
 have HCB:Hid (∀ W (v u:Value),FlIn W (.slice pc M.chart.length cc) (.slice pf M.flows.length cf) (.slice pe M.ents.length ce) (.slice pl M.lines.length cl) M→FactsV W v Q→FactsV W u C→Calls Tryz.prog 15 #[aggM (.slice pc M.chart.length cc) (.slice pf M.flows.length cf) (.slice pe M.ents.length ce) (.slice pl M.lines.length cl) M,v,u] W (CubeTold W (XB,eb))):=Lib.hid fun W v u h1 h2 h3=>by
  have:=bring_any (.slice pc M.chart.length cc) (.slice pf M.flows.length cf) (.slice pe M.ents.length ce) (.slice pl M.lines.length cl) v u M Q C W h1 HOP.out h2 HZP.out (by have:=HLQ.out;omega) h3 HZC.out (by have:=HLC.out;omega) (sum_length (by have:=HLQ.out;omega) (by have:=HLC.out;omega))
  rw [HXB.out] at this
  exact this
 have HDB:Hid (∀ W (v u:Value),MastIn W (.slice pc' M.chart.length cc') (.slice pf' M.flows.length cf') (.slice pe' M.ents.length ce') (.slice pl' M.lines.length cl') M→FactsV W v Q→FactsV W u C→Calls Tryz.prog 16 #[aggM (.slice pc' M.chart.length cc') (.slice pf' M.flows.length cf') (.slice pe' M.ents.length ce') (.slice pl' M.lines.length cl') M,v,u] W (CubeTold W (XB,eb))):=Lib.hid fun W v u h1 h2 h3=>by
  have:=rbring_any (.slice pc' M.chart.length cc') (.slice pf' M.flows.length cf') (.slice pe' M.ents.length ce') (.slice pl' M.lines.length cl') v u M Q C W h1 HOP.out.flen HOP.out.has h2 HZP.out (by have:=HLQ.out;omega) h3 HZC.out (by have:=HLC.out;omega)
  rw [HXB.out] at this
  exact this
 have HCC:Hid (∀ W (v u:Value),FlIn W (.slice pc M.chart.length cc) (.slice pf M.flows.length cf) (.slice pe M.ents.length ce) (.slice pl M.lines.length cl) M→FactsV W v Q→FactsV W u C→Calls Tryz.prog 19 #[aggM (.slice pc M.chart.length cc) (.slice pf M.flows.length cf) (.slice pe M.ents.length ce) (.slice pl M.lines.length cl) M,v,u] W fun en w'=>en=.returned (.int .i64 XC)∧Below W.heap.size W w'):=Lib.hid fun W v u h1 h2 h3=>by
  have:=check_any (.slice pc M.chart.length cc) (.slice pf M.flows.length cf) (.slice pe M.ents.length ce) (.slice pl M.lines.length cl) v u M Q C W h1 HOP.out h2 HZP.out (by have:=HLQ.out;omega) h3 HZC.out (by have:=HLC.out;omega)
  rw [HXC.out] at this
  exact this
 have HDC:Hid (∀ W (v u:Value),MastIn W (.slice pc' M.chart.length cc') (.slice pf' M.flows.length cf') (.slice pe' M.ents.length ce') (.slice pl' M.lines.length cl') M→FactsV W v Q→FactsV W u C→Calls Tryz.prog 20 #[aggM (.slice pc' M.chart.length cc') (.slice pf' M.flows.length cf') (.slice pe' M.ents.length ce') (.slice pl' M.lines.length cl') M,v,u] W fun en w'=>en=.returned (.int .i64 XC)∧Below W.heap.size W w'):=Lib.hid fun W v u h1 h2 h3=>by
  have:=rcheck_any (.slice pc' M.chart.length cc') (.slice pf' M.flows.length cf') (.slice pe' M.ents.length ce') (.slice pl' M.lines.length cl') v u M Q C W h1 HOP.out.flen HOP.out.has h2 HZP.out (by have:=HLQ.out;omega) h3 HZC.out (by have:=HLC.out;omega)
  rw [HXC.out] at this
  exact this
 have HSM:Hid (∀ (L:List Fact) W (v u:Value),FactsV W v L→FactsV W u L→Calls Tryz.prog 17 #[v,u] W fun en w'=>en=.returned (.bool true)∧Below W.heap.size W w'):=Lib.hid fun L W v u h1 h2=>by
  have:=Fa.same_any v u L L W h1 h2
  rw [show Fa.sameL L L=true from decide_eq_true rfl] at this
  exact this
 obtain ⟨n0,n1,n2,n3,n4,n5,n6,n7,n8⟩:=HT8.out.nine
 have s0:=fun q:Past w8=>cell_past n0 q
 have s1:=fun q:Past w8=>cell_past n1 q
 have s2:=fun q:Past w8=>cell_past n2 q
 have s3:=fun q:Past w8=>cell_past n3 q
 have s4:=fun q:Past w8=>cell_past n4 q
 have s5:=fun q:Past w8=>cell_past n5 q
 have s6:=fun q:Past w8=>cell_past n6 q
 have s7:=fun q:Past w8=>cell_past n7 q
 have s8:=fun q:Past w8=>cell_past n8 q
 clear n0 n1 n2 n3 n4 n5 n6 n7 n8
 go_wp2_with fail
 refine wp_region_plan (.one [0,1] 2 (.one [] 3 (.last [4,5,6,7,8]))) (by kernel_rfl) (by kernel_rfl) (fun d _ _ _ _ h=>by cases d <;> exact h) ?_
 obtain ⟨wz,hwz⟩:∃ wz,w8.drew=wz:=⟨_,rfl⟩
 rw [hwz]
 have HDX:Hid (Below w8.heap.size w8 wz):=Lib.hid (by rw [←hwz];exact ⟨rfl,rfl,rfl,Nat.le_refl _,fun _ _=>rfl⟩)
 clear hwz
 simp only [wpPlan,pick,nth]
 repeat (go_big_quiet_step (fail))
 refine wpQuiet_nil ?_
 clear s0 s1 s2 s3 s4 s5 s6 s7 s8
 intro K hK
 refine alone_want (by kernel_rfl) ?_
 go_big_op
 refine (Fa.theirs_any _ Q _ (HVP8.out.keep HDX.out) (by have:=HLQ.out;omega)).mono ?_
 rintro en wt ⟨ut,rfl,hot,hbq⟩
 have HBT:=Lib.hid (HDX.out.trans (hbq.mono HDX.out.size))
 have HVT:=Lib.hid (els_of_own (E:=encF) hot)
 clear hot
 refine hK _ _ (past_in HBT.out) ?_
 clear hK K hbq
 refine wpQuiet_nil ?_
 intro K hK
 refine alone_want (by kernel_rfl) ?_
 go_big_op
 refine (HCO.out _ _ (.of (HT8.out.keep HBT.out).mast) HVT.out).mono ?_
 rintro en w9 ⟨ux,rfl,hvx,hbq⟩
 have HBG:=Lib.hid (HBT.out.trans (hbq.mono HBT.out.size))
 dsimp only at hvx
 have HVX9:=Lib.hid hvx
 clear hvx
 refine hK _ _ (past_in HBG.out) ?_
 clear hK K hbq
 repeat (go_big_quiet_step (fail))
 refine wpQuiet_nil ?_
 have HB9:=Lib.hid (HB8.out.trans (HBG.out.mono HB8.out.size))
 have HT9:=Lib.hid (HT8.out.keep HBG.out)
 have HVP9:=Lib.hid (ElsV.keep HVP8.out HBG.out)
 have HVC9:=Lib.hid (ElsV.keep HVC8.out HBG.out)
 clear HDX HBT HVT HBG
 clear HB8 HT8 HVP8 HVC8
 obtain ⟨n0,n1,n2,n3,n4,n5,n6,n7,n8⟩:=HT9.out.nine'
 go_wp2_with fail
 clear n0 n1 n2 n3 n4 n5 n6 n7 n8
 refine (HDO.out _ _ HT9.out.mast' HVP9.out).mono ?_
 rintro en w10 ⟨uy,rfl,hv10,hb10⟩
 dsimp only at hv10
 have HVY10:=Lib.hid hv10
 have HB10:=Lib.hid (HB9.out.trans (hb10.mono HB9.out.size))
 have HT10:=Lib.hid (HT9.out.keep hb10)
 have HVP10:=Lib.hid (ElsV.keep HVP9.out hb10)
 have HVC10:=Lib.hid (ElsV.keep HVC9.out hb10)
 have HVX10:=Lib.hid (ElsV.keep HVX9.out hb10)
 clear HB9 HT9 HVP9 HVC9 HVX9
 clear hv10 hb10
 obtain ⟨n0,n1,n2,n3,n4,n5,n6,n7,n8⟩:=HT10.out.nine
 have s0:=fun q:Past w10=>cell_past n0 q
 have s1:=fun q:Past w10=>cell_past n1 q
 have s2:=fun q:Past w10=>cell_past n2 q
 have s3:=fun q:Past w10=>cell_past n3 q
 have s4:=fun q:Past w10=>cell_past n4 q
 have s5:=fun q:Past w10=>cell_past n5 q
 have s6:=fun q:Past w10=>cell_past n6 q
 have s7:=fun q:Past w10=>cell_past n7 q
 have s8:=fun q:Past w10=>cell_past n8 q
 clear n0 n1 n2 n3 n4 n5 n6 n7 n8
 go_wp2_with fail
 refine wp_region_plan (.one [0,1,3] 2 (.one [] 4 (.one [] 5 (.last [6,7,8,9,10])))) (by kernel_rfl) (by kernel_rfl) (fun d _ _ _ _ h=>by cases d <;> exact h) ?_
 obtain ⟨wz,hwz⟩:∃ wz,w10.drew=wz:=⟨_,rfl⟩
 rw [hwz]
 have HDX:Hid (Below w10.heap.size w10 wz):=Lib.hid (by rw [←hwz];exact ⟨rfl,rfl,rfl,Nat.le_refl _,fun _ _=>rfl⟩)
 clear hwz
 simp only [wpPlan,pick,nth]
 repeat (go_big_quiet_step (fail))
 refine wpQuiet_nil ?_
 clear s0 s1 s2 s3 s4 s5 s6 s7 s8
 intro K hK
 refine alone_want (by kernel_rfl) ?_
 go_big_op
 refine (Fa.theirs_any _ Q _ (HVP10.out.keep HDX.out) (by have:=HLQ.out;omega)).mono ?_
 rintro en wt ⟨ut,rfl,hot,hbq⟩
 have HBT:=Lib.hid (HDX.out.trans (hbq.mono HDX.out.size))
 have HVT:=Lib.hid (els_of_own (E:=encF) hot)
 clear hot
 refine hK _ _ (past_in HBT.out) ?_
 clear hK K hbq
 refine wpQuiet_nil ?_
 intro K hK
 refine alone_want (by kernel_rfl) ?_
 go_big_op
 refine (Fa.theirs_any _ C _ (HVC10.out.keep HBT.out) (by have:=HLC.out;omega)).mono ?_
 rintro en ws ⟨us,rfl,hos,hbq⟩
 have HBS:=Lib.hid (HBT.out.trans (hbq.mono HBT.out.size))
 have HVS:=Lib.hid (els_of_own (E:=encF) hos)
 have HVT2:=Lib.hid (HVT.out.keep hbq)
 clear hos
 refine hK _ _ (past_in HBS.out) ?_
 clear hK K hbq
 refine wpQuiet_nil ?_
 intro K hK
 refine alone_want (by kernel_rfl) ?_
 go_big_op
 refine (HCB.out _ _ _ (.of (HT10.out.keep HBS.out).mast) HVT2.out HVS.out).mono ?_
 rintro en w11 ⟨uu,rfl,hvx,hbq⟩
 have HBG:=Lib.hid (HBS.out.trans (hbq.mono HBS.out.size))
 dsimp only at hvx
 have HVU11:=Lib.hid hvx
 clear hvx
 refine hK _ _ (past_in HBG.out) ?_
 clear hK K hbq
 repeat (go_big_quiet_step (fail))
 refine wpQuiet_nil ?_
 have HB11:=Lib.hid (HB10.out.trans (HBG.out.mono HB10.out.size))
 have HT11:=Lib.hid (HT10.out.keep HBG.out)
 have HVP11:=Lib.hid (ElsV.keep HVP10.out HBG.out)
 have HVC11:=Lib.hid (ElsV.keep HVC10.out HBG.out)
 have HVX11:=Lib.hid (ElsV.keep HVX10.out HBG.out)
 have HVY11:=Lib.hid (ElsV.keep HVY10.out HBG.out)
 clear HDX HBT HVT HBS HVS HVT2 HBG
 clear HB10 HT10 HVP10 HVC10 HVX10 HVY10
 obtain ⟨n0,n1,n2,n3,n4,n5,n6,n7,n8⟩:=HT11.out.nine'
 go_wp2_with fail
 clear n0 n1 n2 n3 n4 n5 n6 n7 n8
 refine (HDB.out _ _ _ HT11.out.mast' HVP11.out HVC11.out).mono ?_
 rintro en w12 ⟨uv,rfl,hv12,hb12⟩
 dsimp only at hv12
 have HVV12:=Lib.hid hv12
 have HB12:=Lib.hid (HB11.out.trans (hb12.mono HB11.out.size))
 have HT12:=Lib.hid (HT11.out.keep hb12)
 have HVP12:=Lib.hid (ElsV.keep HVP11.out hb12)
 have HVC12:=Lib.hid (ElsV.keep HVC11.out hb12)
 have HVX12:=Lib.hid (ElsV.keep HVX11.out hb12)
 have HVY12:=Lib.hid (ElsV.keep HVY11.out hb12)
 have HVU12:=Lib.hid (ElsV.keep HVU11.out hb12)
 clear HB11 HT11 HVP11 HVC11 HVX11 HVY11 HVU11
 clear hv12 hb12
 obtain ⟨n0,n1,n2,n3,n4,n5,n6,n7,n8⟩:=HT12.out.nine
 have s0:=fun q:Past w12=>cell_past n0 q
 have s1:=fun q:Past w12=>cell_past n1 q
 have s2:=fun q:Past w12=>cell_past n2 q
 have s3:=fun q:Past w12=>cell_past n3 q
 have s4:=fun q:Past w12=>cell_past n4 q
 have s5:=fun q:Past w12=>cell_past n5 q
 have s6:=fun q:Past w12=>cell_past n6 q
 have s7:=fun q:Past w12=>cell_past n7 q
 have s8:=fun q:Past w12=>cell_past n8 q
 obtain ⟨m0,m1,m2,m3,m4,m5,m6,m7,m8⟩:=HT12.out.nine'
 have t0:=fun q:Past w12=>cell_past m0 q
 have t1:=fun q:Past w12=>cell_past m1 q
 have t2:=fun q:Past w12=>cell_past m2 q
 have t3:=fun q:Past w12=>cell_past m3 q
 have t4:=fun q:Past w12=>cell_past m4 q
 have t5:=fun q:Past w12=>cell_past m5 q
 have t6:=fun q:Past w12=>cell_past m6 q
 have t7:=fun q:Past w12=>cell_past m7 q
 have t8:=fun q:Past w12=>cell_past m8 q
 clear n0 n1 n2 n3 n4 n5 n6 n7 n8 m0 m1 m2 m3 m4 m5 m6 m7 m8
 have he1:(eo==eo)=true:=by simp
 have he2:(eb==eb)=true:=by simp
 have he3:(XC==XC)=true:=by simp
 go_wp2_with fail
 refine wp_region_plan (.one [0,2] 1 (.one [] 3 (.one [4,5,6,7,8,9,10,12] 11 (.one [] 13 (.one [14,15,16,17,18,19,20,21,22,24,27,28,29] 23 (.one [] 25 (.one [] 26 (.one [] 30 (.last [31,32,33]))))))))) (by kernel_rfl) (by kernel_rfl) (fun d _ _ _ _ h=>by cases d <;> exact h) ?_
 obtain ⟨wz,hwz⟩:∃ wz,w12.drew=wz:=⟨_,rfl⟩
 rw [hwz]
 have HDX:Hid (Below w12.heap.size w12 wz):=Lib.hid (by rw [←hwz];exact ⟨rfl,rfl,rfl,Nat.le_refl _,fun _ _=>rfl⟩)
 clear hwz
 simp only [wpPlan,pick,nth]
 repeat (go_big_quiet_step (fail))
 refine wpQuiet_nil ?_
 intro K hK
 refine alone_want (by kernel_rfl) ?_
 go_big_op
 refine (Fa.ours_any _ XO _ (HVX12.out.keep HDX.out) (by have:=HXL.out;omega)).mono ?_
 rintro en wa ⟨o1,rfl,ho,hbq⟩
 have HBA:=Lib.hid (HDX.out.trans (hbq.mono HDX.out.size))
 have HO1:=Lib.hid (els_of_own (E:=encF) ho)
 clear ho
 refine hK _ _ (past_in HBA.out) ?_
 clear hK K hbq
 refine wpQuiet_nil ?_
 intro K hK
 refine alone_want (by kernel_rfl) ?_
 go_big_op
 refine (HSM.out XO _ _ _ HO1.out (HVY12.out.keep HBA.out)).mono ?_
 rintro en wb ⟨rfl,hbq⟩
 have HBB:=Lib.hid (HBA.out.trans (hbq.mono HBA.out.size))
 clear HO1
 refine hK _ _ (past_in HBB.out) ?_
 clear hK K hbq
 repeat (go_big_quiet_step (fail))
 refine wpQuiet_nil ?_
 intro K hK
 refine alone_want (by kernel_rfl) ?_
 go_big_op
 refine (Fa.ours_any _ XB _ (HVU12.out.keep HBB.out) (by have:=HXM.out;omega)).mono ?_
 rintro en wc ⟨o2,rfl,ho,hbq⟩
 have HBC:=Lib.hid (HBB.out.trans (hbq.mono HBB.out.size))
 have HO2:=Lib.hid (els_of_own (E:=encF) ho)
 clear ho
 refine hK _ _ (past_in HBC.out) ?_
 clear hK K hbq
 refine wpQuiet_nil ?_
 intro K hK
 refine alone_want (by kernel_rfl) ?_
 go_big_op
 refine (HSM.out XB _ _ _ HO2.out (HVV12.out.keep HBC.out)).mono ?_
 rintro en wd ⟨rfl,hbq⟩
 have HBD:=Lib.hid (HBC.out.trans (hbq.mono HBC.out.size))
 clear HO2
 refine hK _ _ (past_in HBD.out) ?_
 clear hK K hbq
 repeat (go_big_quiet_step (fail))
 refine wpQuiet_nil ?_
 intro K hK
 refine alone_want (by kernel_rfl) ?_
 go_big_op
 refine (Fa.theirs_any _ Q _ (HVP12.out.keep HBD.out) (by have:=HLQ.out;omega)).mono ?_
 rintro en we ⟨ut,rfl,hot,hbq⟩
 have HBE:=Lib.hid (HBD.out.trans (hbq.mono HBD.out.size))
 have HVT:=Lib.hid (els_of_own (E:=encF) hot)
 clear hot
 refine hK _ _ (past_in HBE.out) ?_
 clear hK K hbq
 refine wpQuiet_nil ?_
 intro K hK
 refine alone_want (by kernel_rfl) ?_
 go_big_op
 refine (Fa.theirs_any _ C _ (HVC12.out.keep HBE.out) (by have:=HLC.out;omega)).mono ?_
 rintro en wf ⟨us,rfl,hos,hbq⟩
 have HBF:=Lib.hid (HBE.out.trans (hbq.mono HBE.out.size))
 have HVS:=Lib.hid (els_of_own (E:=encF) hos)
 have HVT2:=Lib.hid (HVT.out.keep hbq)
 clear hos
 refine hK _ _ (past_in HBF.out) ?_
 clear hK K hbq
 refine wpQuiet_nil ?_
 intro K hK
 refine alone_want (by kernel_rfl) ?_
 go_big_op
 refine (HCC.out _ _ _ (.of (HT12.out.keep HBF.out).mast) HVT2.out HVS.out).mono ?_
 rintro en wg ⟨rfl,hbq⟩
 have HBG:=Lib.hid (HBF.out.trans (hbq.mono HBF.out.size))
 clear HVT HVS HVT2
 refine hK _ _ (past_in HBG.out) ?_
 clear hK K hbq
 refine wpQuiet_nil ?_
 intro K hK
 refine alone_want (by kernel_rfl) ?_
 go_big_op
 refine (HDC.out _ _ _ (HT12.out.keep HBG.out).mast' (HVP12.out.keep HBG.out) (HVC12.out.keep HBG.out)).mono ?_
 rintro en wh ⟨rfl,hbq⟩
 have HBH:=Lib.hid (HBG.out.trans (hbq.mono HBG.out.size))
 refine hK _ _ (past_in HBH.out) ?_
 clear hK K hbq
 repeat (go_big_quiet_step (fail))
 refine wpQuiet_nil ?_
 have HBF2:=Lib.hid (HB12.out.trans (HBH.out.mono HB12.out.size))
 go_wp2
 go_ret
 exact ⟨rfl,HBF2.out⟩
end Go.Proofs.YtfhhihamndbcnaaGreatDoor.Cy
end
