/- PkMaster -/
import Derived.Test.YthcpglnmhimepaaGreatDoorS40
namespace Go.Proofs.YthcpglnmhimepaaGreatDoor.Pk
open Go.RowKit Go.Maps Go.Proofs.YthcpglnmhimepaaGreatDoor.Un
structure Solid (M:Mast):Prop where
 ch:∀ x∈M.chart,x.code≠emp
 fl:∀ x∈M.flows,x.code≠emp
 en:∀ x∈M.ents,x.code≠emp
 li:∀ x∈M.lines,x.acc≠emp
theorem Solid.zero:Solid zeroM:=⟨fun _ h=>(by cases h),fun _ h=>(by cases h),fun _ h=>(by cases h),fun _ h=>(by cases h)⟩
theorem ent_named {l:List (List ByteArray)} {M:Mast} (h:Inv l M):∀ x∈M.ents,nmB x.code=true:=fun x hx=>by
 have hm:=(h.ents.mem_iff).1 hx
 obtain ⟨ws,_,e⟩:=List.mem_filterMap.1 hm
 unfold enO at e
 split at e
 ·rename_i hh
  cases e
  rcases formed_ways hh.2 with ⟨_,a,b,rfl,ha,_⟩ | ⟨h0,_⟩ | ⟨h0,_⟩
  ·exact ha
  ·rw [hh.1] at h0;exact absurd h0 (by decide)
  ·rw [hh.1] at h0;exact absurd h0 (by decide)
 ·cases e
theorem solid_of {s:ByteArray} {M:Mast} (h:RightOf s M):Solid M where
 ch x hx:=nm_ne (right_parts (h.inv.right x hx)).1
 fl x hx:=nm_ne (Fl.right_parts (h.inv.rightF x hx)).1
 en x hx:=nm_ne (ent_named h.inv x hx)
 li x hx e:=by
  obtain ⟨_,_,hl,_⟩:=allE_parts h.all
  have h1:=List.all_eq_true.1 hl x hx
  unfold lineN at h1
  rw [Bool.and_eq_true,e,h.inv.no_emp] at h1
  cases h1.1
theorem solid_parse (s:ByteArray):Solid (parseM s).1:=by
 rcases parse_ways s with ⟨M,h1,h2,h3,h4,h5⟩ | ⟨h1,_⟩
 ·rw [h4];exact solid_of (s:=s) ⟨h1,h2,h3,h5⟩
 ·rw [h1];exact Solid.zero
theorem off_zero {α:Type} {E:Enc α} {W:World} {g:Nat} {t:TypeId} {v:Value} {L:List α} (hb:BoxM W g t nil4 nil4 nil4 nil4 zeroM) (h:ElsV E W v L) (hf:∀ x∈L,∃ s:ByteArray,s≠emp∧(E.cs x)[0]?=some (.string s)):OffV (fun b=>b≠g) v:=fun ad n c e hn=>by
 obtain ⟨p,c',ev,_,_,_,hc⟩:=h
 rw [ev] at e
 cases e
 obtain ⟨x,hx⟩:∃ x,L[0]?=some x:=⟨_,List.getElem?_eq_getElem hn⟩
 obtain ⟨b,o,e1,hat⟩:=hc 0 x hx
 cases e1
 obtain ⟨s,hs,hs0⟩:=hf x (List.mem_of_getElem? hx)
 have hcell:=hat 0 _ hs0
 intro hbg
 have hbg':b=g:=hbg
 subst hbg'
 have hcr:=cell_of_row W b (o+0 * E.k+0) _ _ (0,0) hb
 rw [hcell] at hcr
 generalize o+0 * E.k+0=i at hcr
 match i with
 | 0=>cases hcr
 | 1=>cases hcr
 | 2=>cases hcr
 | 3=>cases hcr
 | 4=>cases hcr;exact hs rfl
 | 5=>cases hcr;exact hs rfl
 | 6=>cases hcr;exact hs rfl
 | 7=>cases hcr;exact hs rfl
 | 8=>cases hcr;exact hs rfl
 | j+9=>cases hcr
theorem mast_zero {W:World} {g:Nat} {t:TypeId} {c f e l:Value} {M:Mast} (hb:BoxM W g t nil4 nil4 nil4 nil4 zeroM) (h:MastIn W c f e l M) (hs:Solid M):OffV (fun b=>b≠g) c∧OffV (fun b=>b≠g) f∧OffV (fun b=>b≠g) e∧OffV (fun b=>b≠g) l :=
 ⟨off_zero hb (chart_els.1 h.chart) fun x hx=>⟨_,hs.ch x hx,rfl⟩,off_zero hb h.flows fun x hx=>⟨_,hs.fl x hx,rfl⟩,off_zero hb h.ents fun x hx=>⟨_,hs.en x hx,rfl⟩,off_zero hb h.lines fun x hx=>⟨_,hs.li x hx,rfl⟩⟩
theorem mast_two {W W':World} {g1 g2:Nat} {t1 t2:TypeId} {c f e l:Value} {M:Mast} (hb1:BoxM W g1 t1 nil4 nil4 nil4 nil4 zeroM) (hb2:BoxM W g2 t2 nil4 nil4 nil4 nil4 zeroM) (h:MastIn W c f e l M) (hs:Solid M)
 (hk:∀ b,b≠g1→b≠g2→b < W.heap.size→W'.heap[b]?=W.heap[b]?):MastIn W' c f e l M:=by
 obtain ⟨a1,a2,a3,a4⟩:=mast_zero hb1 h hs
 obtain ⟨b1,b2,b3,b4⟩:=mast_zero hb2 h hs
 have both:∀ v,OffV (fun b=>b≠g1) v→OffV (fun b=>b≠g2) v→OffV (fun b=>b≠g1∧b≠g2) v:=fun v x y ad n c e hn=>⟨x ad n c e hn,y ad n c e hn⟩
 exact mast_off h (both _ a1 b1) (both _ a2 b2) (both _ a3 b3) (both _ a4 b4) (fun b hb hlt=>hk b hb.1 hb.2 hlt)
def MasterTold (s:ByteArray) (w:World) (en:Ending) (w':World):Prop :=
 ∃ M c f e l c' f' e' l',∃ is:Bool,en=.returned (.tuple #[aggM c f e l M,aggM c' f' e' l' M,.bool is])∧MastIn w' c f e l M∧MastIn w' c' f' e' l' M∧Below w.heap.size w w'∧(is=true→RightOf s M∧s.size≤4000)
abbrev rzeroBox (w:World):World:=w.alloc (.cells #[.slice none 0 0,.slice none 0 0,.slice none 0 0,.slice none 0 0,.string emp,.string emp,.string emp,.string emp,.string emp] 36)
theorem rbox_start (w:World):BoxM (rzeroBox w) w.heap.size 36 nil4 nil4 nil4 nil4 zeroM:=heap_alloc_new w _
set_option maxRecDepth 100000 in
set_option maxHeartbeats 16000000 in
theorem master_any (s:ByteArray) (w:World) (hl:Laid w) (hlf:Fl.Laid w):Calls Tryz.prog 11 #[.string s] w (MasterTold s w):=by
 have hb1:=(Below.refl w.heap.size w).alloc (Nat.le_refl _) (.cells #[.slice none 0 0,.slice none 0 0,.slice none 0 0,.slice none 0 0,.string emp,.string emp,.string emp,.string emp,.string emp] 30)
 have hx1:=box_start w
 obtain ⟨W1,hW1⟩:∃ W1,w.alloc (.cells #[.slice none 0 0,.slice none 0 0,.slice none 0 0,.slice none 0 0,.string ⟨#[]⟩,.string ⟨#[]⟩,.string ⟨#[]⟩,.string ⟨#[]⟩,.string ⟨#[]⟩] 30)=W1:=⟨_,rfl⟩
 have hW1':zeroBox w=W1:=hW1
 rw [hW1'] at hx1
 rw [show w.alloc (.cells #[.slice none 0 0,.slice none 0 0,.slice none 0 0,.slice none 0 0,.string emp,.string emp,.string emp,.string emp,.string emp] 30)=W1 from hW1] at hb1
 have hb2:=(Below.refl W1.heap.size W1).alloc (Nat.le_refl _) (.cells #[.slice none 0 0,.slice none 0 0,.slice none 0 0,.slice none 0 0,.string emp,.string emp,.string emp,.string emp,.string emp] 36)
 have hx2:=rbox_start W1
 obtain ⟨W2,hW2⟩:∃ W2,W1.alloc (.cells #[.slice none 0 0,.slice none 0 0,.slice none 0 0,.slice none 0 0,.string ⟨#[]⟩,.string ⟨#[]⟩,.string ⟨#[]⟩,.string ⟨#[]⟩,.string ⟨#[]⟩] 36)=W2:=⟨_,rfl⟩
 have hW2':rzeroBox W1=W2:=hW2
 rw [hW2'] at hx2
 rw [show W1.alloc (.cells #[.slice none 0 0,.slice none 0 0,.slice none 0 0,.slice none 0 0,.string emp,.string emp,.string emp,.string emp,.string emp] 36)=W2 from hW2] at hb2
 have hlt:w.heap.size < W1.heap.size:=hx1.lt
 have HLT:=Lib.hid hlt
 have HB2:=Lib.hid (hb1.trans (hb2.mono hb1.size))
 have HX1:=Lib.hid (hx1.kept hb2)
 have HX2:=Lib.hid hx2
 have HL2:=Lib.hid (hl.below HB2.out (Nat.le_refl _))
 have HLF2:=Lib.hid (hlf.below HB2.out (Nat.le_refl _))
 clear hb1 hb2 hx1 hx2 hlt hW1' hW2' hl hlf
 go_enter Tryz.func11,Tryz.ntmps11
 by_cases hs:4000 < s.size
 ·go_wp2_with (first
   | (refine wpList_store_mast rfl 30 (.tmp 2) (.tmp 12) rfl w.heap.size nil4 nil4 nil4 nil4 nil4 nil4 nil4 nil4 zeroM zeroM 30 rfl rfl HX1.out ones_nil (by kernel_rfl) ?_;intro w3 hb3 hg3;have HX3:=Lib.hid hb3;have HG3:=Lib.hid hg3;have HY3:Hid (BoxM w3 W1.heap.size 36 nil4 nil4 nil4 nil4 zeroM):=Lib.hid ((hg3.block _ HX2.out.lt (fun e0=>by have:=HLT.out;have:=Option.some.inj e0;omega)).trans HX2.out);clear hb3 hg3)
   | (refine wpList_store_mast rfl 36 (.tmp 3) (.tmp 13) rfl W1.heap.size nil4 nil4 nil4 nil4 nil4 nil4 nil4 nil4 zeroM zeroM 36 rfl rfl HY3.out ones_nil (by kernel_rfl) ?_;intro w4 hb4 hg4;have HX4:=Lib.hid hb4;have HG4:=Lib.hid hg4;clear hb4 hg4)
   | fail)
  have HY4:Hid (BoxM w4 w.heap.size 30 nil4 nil4 nil4 nil4 zeroM):=Lib.hid ((HG4.out.block _ HX3.out.lt (fun e0=>by have:=HLT.out;have:=Option.some.inj e0;omega)).trans HX3.out)
  have HBF:=Lib.hid ((HB2.out.grown HG3.out HB2.out.size (fun j hj=>by cases hj;exact Nat.le_refl _)).grown HG4.out (HB2.out.grown HG3.out HB2.out.size (fun j hj=>by cases hj;exact Nat.le_refl _)).size (fun j hj=>by cases hj;have:=HLT.out;omega))
  have HZ:=Lib.hid (MastIn.zero w4)
  obtain ⟨c0,c1,c2,c3,c4,c5,c6,c7,c8⟩:=HY4.out.nine
  obtain ⟨d0,d1,d2,d3,d4,d5,d6,d7,d8⟩:=HX4.out.nine
  exact bodyPost_ret (v:=.tuple #[aggM nil4 nil4 nil4 nil4 zeroM,aggM nil4 nil4 nil4 nil4 zeroM,.bool false]) (by simp [results,Tryz.results11,go_sem,c0,c1,c2,c3,c4,c5,c6,c7,c8,d0,d1,d2,d3,d4,d5,d6,d7,d8]) rfl ⟨_,_,_,_,_,_,_,_,_,_,rfl,HZ.out,HZ.out,HBF.out,fun h=>by cases h⟩
 ·have HS:Hid (s.size≤4000):=Lib.hid (by omega)
  have HPA:=Lib.hid (fun W h1 h2=>Un.parse_any s W (by omega) h1 h2)
  have HPD:=Lib.hid (fun W=>rparseU_any s W (by omega))
  have hpw:((parseM s).2=0∧RightOf s (parseM s).1)∨(parseM s).2≠0:=by
   rcases parse_ways s with ⟨M,h1,h2,h3,h4,h5⟩ | ⟨h1,h2⟩
   ·rw [h4];exact .inl ⟨rfl,h1,h2,h3,h5⟩
   ·exact .inr h2
  obtain ⟨M,hM⟩:∃ M,(parseM s).1=M:=⟨_,rfl⟩
  obtain ⟨n,hn⟩:∃ n,(parseM s).2=n:=⟨_,rfl⟩
  have hso:=solid_parse s
  rw [hM] at hso
  have HSO:=Lib.hid hso
  clear hso
  rw [hM,hn] at hpw
  simp only [hM,hn] at HPA HPD
  have HPW:=Lib.hid hpw
  clear hpw hM hn
  go_wp2_with fail
  clear hW1 hW2
  refine (HPA.out _ HL2.out HLF2.out).mono ?_
  rintro en w3 ⟨v3,rfl,⟨c,f,e,l,rfl,hm⟩,hb3⟩
  obtain ⟨pc,cc,pf,cf,pe,ce,pl,cl,rfl,rfl,rfl,rfl⟩:=shapes hm
  have hb4:=hb3.alloc hb3.size (.cells (cellsM (.slice pc M.chart.length cc) (.slice pf M.flows.length cf) (.slice pe M.ents.length ce) (.slice pl M.lines.length cl) M) 30)
  have HB4:=Lib.hid hb4
  have HM4:=Lib.hid (hm.keep ((Below.refl w3.heap.size w3).alloc (Nat.le_refl _) (.cells (cellsM (.slice pc M.chart.length cc) (.slice pf M.flows.length cf) (.slice pe M.ents.length ce) (.slice pl M.lines.length cl) M) 30)))
  have HN4:=Lib.hid (nine_new w3 (.slice pc M.chart.length cc) (.slice pf M.flows.length cf) (.slice pe M.ents.length ce) (.slice pl M.lines.length cl) M 30)
  have HSZ3:Hid (W2.heap.size≤w3.heap.size):=Lib.hid hb3.size
  clear hm hb3 hb4
  go_wp2_with fail
  refine (HPD.out _).mono ?_
  rintro en w5 ⟨v5,rfl,⟨c',f',e',l',rfl,hm'⟩,hb5⟩
  obtain ⟨pc',cc',pf',cf',pe',ce',pl',cl',rfl,rfl,rfl,rfl⟩:=shapes hm'
  have hb6:=hb5.alloc hb5.size (.cells (cellsM (.slice pc' M.chart.length cc') (.slice pf' M.flows.length cf') (.slice pe' M.ents.length ce') (.slice pl' M.lines.length cl') M) 36)
  have HB6:=Lib.hid (HB4.out.trans (hb6.mono HB4.out.size))
  have HM6:=Lib.hid (HM4.out.keep hb6)
  have HN6:=Lib.hid (HN4.out.kept hb6)
  have HM6':=Lib.hid (hm'.keep ((Below.refl w5.heap.size w5).alloc (Nat.le_refl _) (.cells (cellsM (.slice pc' M.chart.length cc') (.slice pf' M.flows.length cf') (.slice pe' M.ents.length ce') (.slice pl' M.lines.length cl') M) 36)))
  have HN6':=Lib.hid (nine_new w5 (.slice pc' M.chart.length cc') (.slice pf' M.flows.length cf') (.slice pe' M.ents.length ce') (.slice pl' M.lines.length cl') M 36)
  have HSZ5:Hid (W2.heap.size≤w5.heap.size):=Lib.hid (by have h1:=hb5.size;rw [World.size_alloc] at h1;have:=HSZ3.out;omega)
  clear hm' hb5 hb6 HM4 HN4 HB4
  obtain ⟨k0,k1,k2,k3,k4,k5,k6,k7,k8⟩:=HN6.out
  obtain ⟨j0,j1,j2,j3,j4,j5,j6,j7,j8⟩:=HN6'.out
  obtain ⟨is,his⟩:∃ b,decide (n=0)=b:=⟨_,rfl⟩
  have HIS:Hid (is=true→RightOf s M∧s.size≤4000):=Lib.hid (fun h1=>by
   rw [←his] at h1
   rcases HPW.out with ⟨_,h2⟩ | h2
   ·exact ⟨h2,HS.out⟩
   ·exact absurd (of_decide_eq_true h1) h2)
  have hn0:(n==0)=is:=by rw [←his];by_cases h:n=0 <;> simp [h]
  clear his
  generalize hW6:w5.alloc (.cells (cellsM (.slice pc' M.chart.length cc') (.slice pf' M.flows.length cf') (.slice pe' M.ents.length ce') (.slice pl' M.lines.length cl') M) 36)=W6 at HB6 HM6 HN6 HM6' HN6' k0 k1 k2 k3 k4 k5 k6 k7 k8 j0 j1 j2 j3 j4 j5 j6 j7 j8
  have HX6:Hid (BoxM W6 w.heap.size 30 nil4 nil4 nil4 nil4 zeroM):=Lib.hid ((HB6.out.block _ HX1.out.lt).trans HX1.out)
  have HX6':Hid (BoxM W6 W1.heap.size 36 nil4 nil4 nil4 nil4 zeroM):=Lib.hid ((HB6.out.block _ HX2.out.lt).trans HX2.out)
  have hok1:w3.heap.size≠w.heap.size∧w3.heap.size≠W1.heap.size:=by have h1:=HX1.out.lt;have h2:=HX2.out.lt;have:=HSZ3.out;omega
  have hok2:w5.heap.size≠w.heap.size∧w5.heap.size≠W1.heap.size:=by have h1:=HX1.out.lt;have h2:=HX2.out.lt;have:=HSZ5.out;omega
  cases is
  all_goals
   go_wp2_with fail
   clear hW6
   have r0:=fun q:Leave (fun j=>j≠w.heap.size∧j≠W1.heap.size) W6=>cell_leave k0 hok1 q
   have t0:=fun q:Leave (fun j=>j≠w.heap.size∧j≠W1.heap.size) W6=>cell_leave j0 hok2 q
   have r1:=fun q:Leave (fun j=>j≠w.heap.size∧j≠W1.heap.size) W6=>cell_leave k1 hok1 q
   have t1:=fun q:Leave (fun j=>j≠w.heap.size∧j≠W1.heap.size) W6=>cell_leave j1 hok2 q
   have r2:=fun q:Leave (fun j=>j≠w.heap.size∧j≠W1.heap.size) W6=>cell_leave k2 hok1 q
   have t2:=fun q:Leave (fun j=>j≠w.heap.size∧j≠W1.heap.size) W6=>cell_leave j2 hok2 q
   have r3:=fun q:Leave (fun j=>j≠w.heap.size∧j≠W1.heap.size) W6=>cell_leave k3 hok1 q
   have t3:=fun q:Leave (fun j=>j≠w.heap.size∧j≠W1.heap.size) W6=>cell_leave j3 hok2 q
   have r4:=fun q:Leave (fun j=>j≠w.heap.size∧j≠W1.heap.size) W6=>cell_leave k4 hok1 q
   have t4:=fun q:Leave (fun j=>j≠w.heap.size∧j≠W1.heap.size) W6=>cell_leave j4 hok2 q
   have r5:=fun q:Leave (fun j=>j≠w.heap.size∧j≠W1.heap.size) W6=>cell_leave k5 hok1 q
   have t5:=fun q:Leave (fun j=>j≠w.heap.size∧j≠W1.heap.size) W6=>cell_leave j5 hok2 q
   have r6:=fun q:Leave (fun j=>j≠w.heap.size∧j≠W1.heap.size) W6=>cell_leave k6 hok1 q
   have t6:=fun q:Leave (fun j=>j≠w.heap.size∧j≠W1.heap.size) W6=>cell_leave j6 hok2 q
   have r7:=fun q:Leave (fun j=>j≠w.heap.size∧j≠W1.heap.size) W6=>cell_leave k7 hok1 q
   have t7:=fun q:Leave (fun j=>j≠w.heap.size∧j≠W1.heap.size) W6=>cell_leave j7 hok2 q
   have r8:=fun q:Leave (fun j=>j≠w.heap.size∧j≠W1.heap.size) W6=>cell_leave k8 hok1 q
   have t8:=fun q:Leave (fun j=>j≠w.heap.size∧j≠W1.heap.size) W6=>cell_leave j8 hok2 q
   clear k0 k1 k2 k3 k4 k5 k6 k7 k8 j0 j1 j2 j3 j4 j5 j6 j7 j8
   refine wp_region_plan_if (S:=fun w'=>∃ q:Leave (fun j=>j≠w.heap.size∧j≠W1.heap.size) W6,w'=q.its) (.one [0,1,2,3,4,5,6,7] 8 (.one [] 9 (.last [10]))) (by kernel_rfl) (by kernel_rfl) (fun d _ _ _ _ h=>by cases d <;> exact h) ⟨⟨W6.drew,fun _ _ _=>rfl⟩,rfl⟩ ?_
   obtain ⟨wz,hwz⟩:∃ wz,W6.drew=wz:=⟨_,rfl⟩
   rw [hwz]
   have HQ:Hid (Below W6.heap.size W6 wz):=Lib.hid (by rw [←hwz];exact ⟨rfl,rfl,rfl,Nat.le_refl _,fun _ _=>rfl⟩)
   clear hwz
   simp only [wpPlan,pick,nth]
   repeat (go_big_quiet_step (fail))
   refine wpQuiet_nil ?_
   clear r0 r1 r2 r3 r4 r5 r6 r7 r8 t0 t1 t2 t3 t4 t5 t6 t7 t8
   have HXZ:=Lib.hid (HX6.out.kept HQ.out)
   have HXZ':=Lib.hid (HX6'.out.kept HQ.out)
   have HMZ:=Lib.hid (HM6.out.keep HQ.out)
   have HMZ':=Lib.hid (HM6'.out.keep HQ.out)
   intro K hK
   refine alone_want (by kernel_rfl) ?_
   refine wp_store_mast 30 (.tmp 2) (.tmp 24) rfl w.heap.size nil4 nil4 nil4 nil4 (.slice pc M.chart.length cc) (.slice pf M.flows.length cf) (.slice pe M.ents.length ce) (.slice pl M.lines.length cl) zeroM M 30 rfl rfl HXZ.out ⟨rfl,rfl,rfl,rfl⟩ (by kernel_rfl) ?_
   intro w7 hb7 hg7
   have HG7:=Lib.hid hg7
   have HB7:=Lib.hid hb7
   have HY7:Hid (BoxM w7 W1.heap.size 36 nil4 nil4 nil4 nil4 zeroM):=Lib.hid ((hg7.block _ HXZ'.out.lt (fun e0=>by have:=HLT.out;have:=Option.some.inj e0;omega)).trans HXZ'.out)
   have HKP7:Hid (∀ j,j≠w.heap.size→j < wz.heap.size→w7.heap[j]?=wz.heap[j]?):=Lib.hid (fun j h1 h2=>hg7.block j h2 (fun e0=>h1 (Option.some.inj e0)))
   refine hK _ _ (leave_in fun j hj hjl=>?_) ?_
   ·exact (HKP7.out j hj.1 (by have:=HQ.out.size;omega)).trans (HQ.out.block j hjl)
   clear hK K hb7 hg7
   simp only [Act.put]
   refine wpQuiet_nil ?_
   intro K hK
   refine alone_want (by kernel_rfl) ?_
   refine wp_store_mast 36 (.tmp 3) (.tmp 25) rfl W1.heap.size nil4 nil4 nil4 nil4 (.slice pc' M.chart.length cc') (.slice pf' M.flows.length cf') (.slice pe' M.ents.length ce') (.slice pl' M.lines.length cl') zeroM M 36 rfl rfl HY7.out ⟨rfl,rfl,rfl,rfl⟩ (by kernel_rfl) ?_
   intro w8 hb8 hg8
   have HB8:=Lib.hid hb8
   have HKP8:Hid (∀ j,j≠w.heap.size→j≠W1.heap.size→j < wz.heap.size→w8.heap[j]?=wz.heap[j]?):=Lib.hid (fun j h1 h2 h3=>(hg8.block j (by have:=HG7.out.size;omega) (fun e0=>h2 (Option.some.inj e0))).trans (HKP7.out j h1 h3))
   have HY8:Hid (BoxM w8 w.heap.size 30 (.slice pc M.chart.length cc) (.slice pf M.flows.length cf) (.slice pe M.ents.length ce) (.slice pl M.lines.length cl) M):=Lib.hid ((hg8.block _ HB7.out.lt (fun e0=>by have:=HLT.out;have:=Option.some.inj e0;omega)).trans HB7.out)
   have hbz:=HB2.out.trans ((HB6.out.trans (HQ.out.mono HB6.out.size)).mono HB2.out.size)
   have hbz7:=hbz.grown HG7.out hbz.size (fun j hj=>by cases hj;exact Nat.le_refl _)
   have HBF:=Lib.hid (hbz7.grown hg8 hbz7.size (fun j hj=>by cases hj;have:=HLT.out;omega))
   have HMF:=Lib.hid (mast_two HXZ.out HXZ'.out HMZ.out HSO.out HKP8.out)
   have HMF':=Lib.hid (mast_two HXZ.out HXZ'.out HMZ'.out HSO.out HKP8.out)
   refine hK _ _ (leave_in fun j hj hjl=>?_) ?_
   ·exact (HKP8.out j hj.1 hj.2 (by have:=HQ.out.size;omega)).trans (HQ.out.block j hjl)
   clear hK K hb8 hg8 hbz hbz7
   simp only [Act.put]
   repeat (go_big_quiet_step (fail))
   refine wpQuiet_nil ?_
   go_wp2
   obtain ⟨c0,c1,c2,c3,c4,c5,c6,c7,c8⟩:=HY8.out.nine
   obtain ⟨d0,d1,d2,d3,d4,d5,d6,d7,d8⟩:=HB8.out.nine
   first
    | exact bodyPost_ret (v:=.tuple #[aggM (.slice pc M.chart.length cc) (.slice pf M.flows.length cf) (.slice pe M.ents.length ce) (.slice pl M.lines.length cl) M,aggM (.slice pc' M.chart.length cc') (.slice pf' M.flows.length cf') (.slice pe' M.ents.length ce') (.slice pl' M.lines.length cl') M,.bool true]) (by simp [results,Tryz.results11,go_sem,c0,c1,c2,c3,c4,c5,c6,c7,c8,d0,d1,d2,d3,d4,d5,d6,d7,d8]) rfl ⟨_,_,_,_,_,_,_,_,_,_,rfl,HMF.out,HMF'.out,HBF.out,fun _=>HIS.out (by first | trivial | rfl)⟩
    | exact bodyPost_ret (v:=.tuple #[aggM (.slice pc M.chart.length cc) (.slice pf M.flows.length cf) (.slice pe M.ents.length ce) (.slice pl M.lines.length cl) M,aggM (.slice pc' M.chart.length cc') (.slice pf' M.flows.length cf') (.slice pe' M.ents.length ce') (.slice pl' M.lines.length cl') M,.bool false]) (by simp [results,Tryz.results11,go_sem,c0,c1,c2,c3,c4,c5,c6,c7,c8,d0,d1,d2,d3,d4,d5,d6,d7,d8]) rfl ⟨_,_,_,_,_,_,_,_,_,_,rfl,HMF.out,HMF'.out,HBF.out,fun h=>(by cases h)⟩
end Go.Proofs.YthcpglnmhimepaaGreatDoor.Pk
