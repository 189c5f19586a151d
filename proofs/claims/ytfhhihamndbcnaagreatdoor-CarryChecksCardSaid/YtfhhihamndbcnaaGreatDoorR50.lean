/- PkMaster PkSmall PkAlive PkOpen CyAlive PkStart CyGiven CyMark -/
import Derived.Test.YtfhhihamndbcnaaGreatDoorRows
import Derived.Test.YtfhhihamndbcnaaGreatDoorR43
import Derived.Test.YtfhhihamndbcnaaGreatDoorR44
section
namespace Go.Proofs.YtfhhihamndbcnaaGreatDoor.Pk
open Go.RowKit Go.Maps Go.Proofs.YtfhhihamndbcnaaGreatDoor.Un
structure Solid (M:Mast):Prop where
 ch:∀ x∈M.chart,x.code≠emp
 fl:∀ x∈M.flows,x.code≠emp
 en:∀ x∈M.ents,x.code≠emp
 li:∀ x∈M.lines,x.acc≠emp
theorem Solid.zero:Solid zeroM:=⟨fun _ h=>(by cases h),fun _ h=>(by cases h),fun _ h=>(by cases h),fun _ h=>(by cases h)⟩
theorem ent_named {l:List (List ByteArray)} {M:Mast} (h:Inv l M):∀ x∈M.ents,nmB x.code=true:=fun x hx=>by
 have hm:=(h.ents.mem_iff).1 hx
 obtain ⟨ws,_,e⟩:=List.mem_filterMap.1 hm
 unfold enO at e
 split at e
 ·rename_i hh
  cases e
  rcases formed_ways hh.2 with ⟨_,a,b,rfl,ha,_⟩ | ⟨h0,_⟩ | ⟨h0,_⟩
  ·exact ha
  ·rw [hh.1] at h0;exact absurd h0 (by decide)
  ·rw [hh.1] at h0;exact absurd h0 (by decide)
 ·cases e
theorem solid_of {s:ByteArray} {M:Mast} (h:RightOf s M):Solid M where
 ch x hx:=nm_ne (right_parts (h.inv.right x hx)).1
 fl x hx:=nm_ne (Fl.right_parts (h.inv.rightF x hx)).1
 en x hx:=nm_ne (ent_named h.inv x hx)
 li x hx e:=by
  obtain ⟨_,_,hl,_⟩:=allE_parts h.all
  have h1:=List.all_eq_true.1 hl x hx
  unfold lineN at h1
  rw [Bool.and_eq_true,e,h.inv.no_emp] at h1
  cases h1.1
theorem solid_parse (s:ByteArray):Solid (parseM s).1:=by
 rcases parse_ways s with ⟨M,h1,h2,h3,h4,h5⟩ | ⟨h1,_⟩
 ·rw [h4];exact solid_of (s:=s) ⟨h1,h2,h3,h5⟩
 ·rw [h1];exact Solid.zero
theorem off_zero {α:Type} {E:Enc α} {W:World} {g:Nat} {t:TypeId} {v:Value} {L:List α} (hb:BoxM W g t nil4 nil4 nil4 nil4 zeroM) (h:ElsV E W v L) (hf:∀ x∈L,∃ s:ByteArray,s≠emp∧(E.cs x)[0]?=some (.string s)):OffV (fun b=>b≠g) v:=fun ad n c e hn=>by
 obtain ⟨p,c',ev,_,_,_,hc⟩:=h
 rw [ev] at e
 cases e
 obtain ⟨x,hx⟩:∃ x,L[0]?=some x:=⟨_,List.getElem?_eq_getElem hn⟩
 obtain ⟨b,o,e1,hat⟩:=hc 0 x hx
 cases e1
 obtain ⟨s,hs,hs0⟩:=hf x (List.mem_of_getElem? hx)
 have hcell:=hat 0 _ hs0
 intro hbg
 have hbg':b=g:=hbg
 subst hbg'
 have hcr:=cell_of_row W b (o+0 * E.k+0) _ _ (0,0) hb
 rw [hcell] at hcr
 generalize o+0 * E.k+0=i at hcr
 match i with
 | 0=>cases hcr
 | 1=>cases hcr
 | 2=>cases hcr
 | 3=>cases hcr
 | 4=>cases hcr;exact hs rfl
 | 5=>cases hcr;exact hs rfl
 | 6=>cases hcr;exact hs rfl
 | 7=>cases hcr;exact hs rfl
 | 8=>cases hcr;exact hs rfl
 | j+9=>cases hcr
theorem mast_zero {W:World} {g:Nat} {t:TypeId} {c f e l:Value} {M:Mast} (hb:BoxM W g t nil4 nil4 nil4 nil4 zeroM) (h:MastIn W c f e l M) (hs:Solid M):OffV (fun b=>b≠g) c∧OffV (fun b=>b≠g) f∧OffV (fun b=>b≠g) e∧OffV (fun b=>b≠g) l :=
 ⟨off_zero hb (chart_els.1 h.chart) fun x hx=>⟨_,hs.ch x hx,rfl⟩,off_zero hb h.flows fun x hx=>⟨_,hs.fl x hx,rfl⟩,off_zero hb h.ents fun x hx=>⟨_,hs.en x hx,rfl⟩,off_zero hb h.lines fun x hx=>⟨_,hs.li x hx,rfl⟩⟩
theorem mast_two {W W':World} {g1 g2:Nat} {t1 t2:TypeId} {c f e l:Value} {M:Mast} (hb1:BoxM W g1 t1 nil4 nil4 nil4 nil4 zeroM) (hb2:BoxM W g2 t2 nil4 nil4 nil4 nil4 zeroM) (h:MastIn W c f e l M) (hs:Solid M)
 (hk:∀ b,b≠g1→b≠g2→b < W.heap.size→W'.heap[b]?=W.heap[b]?):MastIn W' c f e l M:=by
 obtain ⟨a1,a2,a3,a4⟩:=mast_zero hb1 h hs
 obtain ⟨b1,b2,b3,b4⟩:=mast_zero hb2 h hs
 have both:∀ v,OffV (fun b=>b≠g1) v→OffV (fun b=>b≠g2) v→OffV (fun b=>b≠g1∧b≠g2) v:=fun v x y ad n c e hn=>⟨x ad n c e hn,y ad n c e hn⟩
 exact mast_off h (both _ a1 b1) (both _ a2 b2) (both _ a3 b3) (both _ a4 b4) (fun b hb hlt=>hk b hb.1 hb.2 hlt)
def MasterTold (s:ByteArray) (w:World) (en:Ending) (w':World):Prop :=
 ∃ M c f e l c' f' e' l',∃ is:Bool,en=.returned (.tuple #[aggM c f e l M,aggM c' f' e' l' M,.bool is])∧MastIn w' c f e l M∧MastIn w' c' f' e' l' M∧Below w.heap.size w w'∧(is=true→RightOf s M∧s.size≤4000)
abbrev rzeroBox (w:World):World:=w.alloc (.cells #[.slice none 0 0,.slice none 0 0,.slice none 0 0,.slice none 0 0,.string emp,.string emp,.string emp,.string emp,.string emp] 37)
theorem rbox_start (w:World):BoxM (rzeroBox w) w.heap.size 37 nil4 nil4 nil4 nil4 zeroM:=heap_alloc_new w _
set_option maxRecDepth 100000 in
set_option maxHeartbeats 16000000 in
theorem master_any (s:ByteArray) (w:World) (hl:Laid w) (hlf:Fl.Laid w):Calls Tryz.prog 9 #[.string s] w (MasterTold s w):=by
 have hb1:=(Below.refl w.heap.size w).alloc (Nat.le_refl _) (.cells #[.slice none 0 0,.slice none 0 0,.slice none 0 0,.slice none 0 0,.string emp,.string emp,.string emp,.string emp,.string emp] 31)
 have hx1:=box_start w
 obtain ⟨W1,hW1⟩:∃ W1,w.alloc (.cells #[.slice none 0 0,.slice none 0 0,.slice none 0 0,.slice none 0 0,.string ⟨#[]⟩,.string ⟨#[]⟩,.string ⟨#[]⟩,.string ⟨#[]⟩,.string ⟨#[]⟩] 31)=W1:=⟨_,rfl⟩
 have hW1':zeroBox w=W1:=hW1
 rw [hW1'] at hx1
 rw [show w.alloc (.cells #[.slice none 0 0,.slice none 0 0,.slice none 0 0,.slice none 0 0,.string emp,.string emp,.string emp,.string emp,.string emp] 31)=W1 from hW1] at hb1
 have hb2:=(Below.refl W1.heap.size W1).alloc (Nat.le_refl _) (.cells #[.slice none 0 0,.slice none 0 0,.slice none 0 0,.slice none 0 0,.string emp,.string emp,.string emp,.string emp,.string emp] 37)
 have hx2:=rbox_start W1
 obtain ⟨W2,hW2⟩:∃ W2,W1.alloc (.cells #[.slice none 0 0,.slice none 0 0,.slice none 0 0,.slice none 0 0,.string ⟨#[]⟩,.string ⟨#[]⟩,.string ⟨#[]⟩,.string ⟨#[]⟩,.string ⟨#[]⟩] 37)=W2:=⟨_,rfl⟩
 have hW2':rzeroBox W1=W2:=hW2
 rw [hW2'] at hx2
 rw [show W1.alloc (.cells #[.slice none 0 0,.slice none 0 0,.slice none 0 0,.slice none 0 0,.string emp,.string emp,.string emp,.string emp,.string emp] 37)=W2 from hW2] at hb2
 have hlt:w.heap.size < W1.heap.size:=hx1.lt
 have HLT:=Lib.hid hlt
 have HB2:=Lib.hid (hb1.trans (hb2.mono hb1.size))
 have HX1:=Lib.hid (hx1.kept hb2)
 have HX2:=Lib.hid hx2
 have HL2:=Lib.hid (hl.below HB2.out (Nat.le_refl _))
 have HLF2:=Lib.hid (hlf.below HB2.out (Nat.le_refl _))
 clear hb1 hb2 hx1 hx2 hlt hW1' hW2' hl hlf
 go_enter Tryz.func9,Tryz.ntmps9
 by_cases hs:4000 < s.size
 ·go_wp2_with (first
   | (refine wpList_store_mast rfl 31 (.tmp 2) (.tmp 12) rfl w.heap.size nil4 nil4 nil4 nil4 nil4 nil4 nil4 nil4 zeroM zeroM 31 rfl rfl HX1.out ones_nil (by kernel_rfl) ?_;intro w3 hb3 hg3;have HX3:=Lib.hid hb3;have HG3:=Lib.hid hg3;have HY3:Hid (BoxM w3 W1.heap.size 37 nil4 nil4 nil4 nil4 zeroM):=Lib.hid ((hg3.block _ HX2.out.lt (fun e0=>by have:=HLT.out;have:=Option.some.inj e0;omega)).trans HX2.out);clear hb3 hg3)
   | (refine wpList_store_mast rfl 37 (.tmp 3) (.tmp 13) rfl W1.heap.size nil4 nil4 nil4 nil4 nil4 nil4 nil4 nil4 zeroM zeroM 37 rfl rfl HY3.out ones_nil (by kernel_rfl) ?_;intro w4 hb4 hg4;have HX4:=Lib.hid hb4;have HG4:=Lib.hid hg4;clear hb4 hg4)
   | fail)
  have HY4:Hid (BoxM w4 w.heap.size 31 nil4 nil4 nil4 nil4 zeroM):=Lib.hid ((HG4.out.block _ HX3.out.lt (fun e0=>by have:=HLT.out;have:=Option.some.inj e0;omega)).trans HX3.out)
  have HBF:=Lib.hid ((HB2.out.grown HG3.out HB2.out.size (fun j hj=>by cases hj;exact Nat.le_refl _)).grown HG4.out (HB2.out.grown HG3.out HB2.out.size (fun j hj=>by cases hj;exact Nat.le_refl _)).size (fun j hj=>by cases hj;have:=HLT.out;omega))
  have HZ:=Lib.hid (MastIn.zero w4)
  obtain ⟨c0,c1,c2,c3,c4,c5,c6,c7,c8⟩:=HY4.out.nine
  obtain ⟨d0,d1,d2,d3,d4,d5,d6,d7,d8⟩:=HX4.out.nine
  exact bodyPost_ret (v:=.tuple #[aggM nil4 nil4 nil4 nil4 zeroM,aggM nil4 nil4 nil4 nil4 zeroM,.bool false]) (by simp [results,Tryz.results9,go_sem,c0,c1,c2,c3,c4,c5,c6,c7,c8,d0,d1,d2,d3,d4,d5,d6,d7,d8]) rfl ⟨_,_,_,_,_,_,_,_,_,_,rfl,HZ.out,HZ.out,HBF.out,fun h=>by cases h⟩
 ·have HS:Hid (s.size≤4000):=Lib.hid (by omega)
  have HPA:=Lib.hid (fun W h1 h2=>Un.parse_any s W (by omega) h1 h2)
  have HPD:=Lib.hid (fun W=>rparseU_any s W (by omega))
  have hpw:((parseM s).2=0∧RightOf s (parseM s).1)∨(parseM s).2≠0:=by
   rcases parse_ways s with ⟨M,h1,h2,h3,h4,h5⟩ | ⟨h1,h2⟩
   ·rw [h4];exact .inl ⟨rfl,h1,h2,h3,h5⟩
   ·exact .inr h2
  obtain ⟨M,hM⟩:∃ M,(parseM s).1=M:=⟨_,rfl⟩
  obtain ⟨n,hn⟩:∃ n,(parseM s).2=n:=⟨_,rfl⟩
  have hso:=solid_parse s
  rw [hM] at hso
  have HSO:=Lib.hid hso
  clear hso
  rw [hM,hn] at hpw
  simp only [hM,hn] at HPA HPD
  have HPW:=Lib.hid hpw
  clear hpw hM hn
  go_wp2_with fail
  clear hW1 hW2
  refine (HPA.out _ HL2.out HLF2.out).mono ?_
  rintro en w3 ⟨v3,rfl,⟨c,f,e,l,rfl,hm⟩,hb3⟩
  obtain ⟨pc,cc,pf,cf,pe,ce,pl,cl,rfl,rfl,rfl,rfl⟩:=shapes hm
  have hb4:=hb3.alloc hb3.size (.cells (cellsM (.slice pc M.chart.length cc) (.slice pf M.flows.length cf) (.slice pe M.ents.length ce) (.slice pl M.lines.length cl) M) 31)
  have HB4:=Lib.hid hb4
  have HM4:=Lib.hid (hm.keep ((Below.refl w3.heap.size w3).alloc (Nat.le_refl _) (.cells (cellsM (.slice pc M.chart.length cc) (.slice pf M.flows.length cf) (.slice pe M.ents.length ce) (.slice pl M.lines.length cl) M) 31)))
  have HN4:=Lib.hid (nine_new w3 (.slice pc M.chart.length cc) (.slice pf M.flows.length cf) (.slice pe M.ents.length ce) (.slice pl M.lines.length cl) M 31)
  have HSZ3:Hid (W2.heap.size≤w3.heap.size):=Lib.hid hb3.size
  clear hm hb3 hb4
  go_wp2_with fail
  refine (HPD.out _).mono ?_
  rintro en w5 ⟨v5,rfl,⟨c',f',e',l',rfl,hm'⟩,hb5⟩
  obtain ⟨pc',cc',pf',cf',pe',ce',pl',cl',rfl,rfl,rfl,rfl⟩:=shapes hm'
  have hb6:=hb5.alloc hb5.size (.cells (cellsM (.slice pc' M.chart.length cc') (.slice pf' M.flows.length cf') (.slice pe' M.ents.length ce') (.slice pl' M.lines.length cl') M) 37)
  have HB6:=Lib.hid (HB4.out.trans (hb6.mono HB4.out.size))
  have HM6:=Lib.hid (HM4.out.keep hb6)
  have HN6:=Lib.hid (HN4.out.kept hb6)
  have HM6':=Lib.hid (hm'.keep ((Below.refl w5.heap.size w5).alloc (Nat.le_refl _) (.cells (cellsM (.slice pc' M.chart.length cc') (.slice pf' M.flows.length cf') (.slice pe' M.ents.length ce') (.slice pl' M.lines.length cl') M) 37)))
  have HN6':=Lib.hid (nine_new w5 (.slice pc' M.chart.length cc') (.slice pf' M.flows.length cf') (.slice pe' M.ents.length ce') (.slice pl' M.lines.length cl') M 37)
  have HSZ5:Hid (W2.heap.size≤w5.heap.size):=Lib.hid (by have h1:=hb5.size;rw [World.size_alloc] at h1;have:=HSZ3.out;omega)
  clear hm' hb5 hb6 HM4 HN4 HB4
  obtain ⟨k0,k1,k2,k3,k4,k5,k6,k7,k8⟩:=HN6.out
  obtain ⟨j0,j1,j2,j3,j4,j5,j6,j7,j8⟩:=HN6'.out
  obtain ⟨is,his⟩:∃ b,decide (n=0)=b:=⟨_,rfl⟩
  have HIS:Hid (is=true→RightOf s M∧s.size≤4000):=Lib.hid (fun h1=>by
   rw [←his] at h1
   rcases HPW.out with ⟨_,h2⟩ | h2
   ·exact ⟨h2,HS.out⟩
   ·exact absurd (of_decide_eq_true h1) h2)
  have hn0:(n==0)=is:=by rw [←his];by_cases h:n=0 <;> simp [h]
  clear his
  generalize hW6:w5.alloc (.cells (cellsM (.slice pc' M.chart.length cc') (.slice pf' M.flows.length cf') (.slice pe' M.ents.length ce') (.slice pl' M.lines.length cl') M) 37)=W6 at HB6 HM6 HN6 HM6' HN6' k0 k1 k2 k3 k4 k5 k6 k7 k8 j0 j1 j2 j3 j4 j5 j6 j7 j8
  have HX6:Hid (BoxM W6 w.heap.size 31 nil4 nil4 nil4 nil4 zeroM):=Lib.hid ((HB6.out.block _ HX1.out.lt).trans HX1.out)
  have HX6':Hid (BoxM W6 W1.heap.size 37 nil4 nil4 nil4 nil4 zeroM):=Lib.hid ((HB6.out.block _ HX2.out.lt).trans HX2.out)
  have hok1:w3.heap.size≠w.heap.size∧w3.heap.size≠W1.heap.size:=by have h1:=HX1.out.lt;have h2:=HX2.out.lt;have:=HSZ3.out;omega
  have hok2:w5.heap.size≠w.heap.size∧w5.heap.size≠W1.heap.size:=by have h1:=HX1.out.lt;have h2:=HX2.out.lt;have:=HSZ5.out;omega
  cases is
  all_goals
   go_wp2_with fail
   clear hW6
   have r0:=fun q:Leave (fun j=>j≠w.heap.size∧j≠W1.heap.size) W6=>cell_leave k0 hok1 q
   have t0:=fun q:Leave (fun j=>j≠w.heap.size∧j≠W1.heap.size) W6=>cell_leave j0 hok2 q
   have r1:=fun q:Leave (fun j=>j≠w.heap.size∧j≠W1.heap.size) W6=>cell_leave k1 hok1 q
   have t1:=fun q:Leave (fun j=>j≠w.heap.size∧j≠W1.heap.size) W6=>cell_leave j1 hok2 q
   have r2:=fun q:Leave (fun j=>j≠w.heap.size∧j≠W1.heap.size) W6=>cell_leave k2 hok1 q
   have t2:=fun q:Leave (fun j=>j≠w.heap.size∧j≠W1.heap.size) W6=>cell_leave j2 hok2 q
   have r3:=fun q:Leave (fun j=>j≠w.heap.size∧j≠W1.heap.size) W6=>cell_leave k3 hok1 q
   have t3:=fun q:Leave (fun j=>j≠w.heap.size∧j≠W1.heap.size) W6=>cell_leave j3 hok2 q
   have r4:=fun q:Leave (fun j=>j≠w.heap.size∧j≠W1.heap.size) W6=>cell_leave k4 hok1 q
   have t4:=fun q:Leave (fun j=>j≠w.heap.size∧j≠W1.heap.size) W6=>cell_leave j4 hok2 q
   have r5:=fun q:Leave (fun j=>j≠w.heap.size∧j≠W1.heap.size) W6=>cell_leave k5 hok1 q
   have t5:=fun q:Leave (fun j=>j≠w.heap.size∧j≠W1.heap.size) W6=>cell_leave j5 hok2 q
   have r6:=fun q:Leave (fun j=>j≠w.heap.size∧j≠W1.heap.size) W6=>cell_leave k6 hok1 q
   have t6:=fun q:Leave (fun j=>j≠w.heap.size∧j≠W1.heap.size) W6=>cell_leave j6 hok2 q
   have r7:=fun q:Leave (fun j=>j≠w.heap.size∧j≠W1.heap.size) W6=>cell_leave k7 hok1 q
   have t7:=fun q:Leave (fun j=>j≠w.heap.size∧j≠W1.heap.size) W6=>cell_leave j7 hok2 q
   have r8:=fun q:Leave (fun j=>j≠w.heap.size∧j≠W1.heap.size) W6=>cell_leave k8 hok1 q
   have t8:=fun q:Leave (fun j=>j≠w.heap.size∧j≠W1.heap.size) W6=>cell_leave j8 hok2 q
   clear k0 k1 k2 k3 k4 k5 k6 k7 k8 j0 j1 j2 j3 j4 j5 j6 j7 j8
   refine wp_region_plan_if (S:=fun w'=>∃ q:Leave (fun j=>j≠w.heap.size∧j≠W1.heap.size) W6,w'=q.its) (.one [0,1,2,3,4,5,6,7] 8 (.one [] 9 (.last [10]))) (by kernel_rfl) (by kernel_rfl) (fun d _ _ _ _ h=>by cases d <;> exact h) ⟨⟨W6.drew,fun _ _ _=>rfl⟩,rfl⟩ ?_
   obtain ⟨wz,hwz⟩:∃ wz,W6.drew=wz:=⟨_,rfl⟩
   rw [hwz]
   have HQ:Hid (Below W6.heap.size W6 wz):=Lib.hid (by rw [←hwz];exact ⟨rfl,rfl,rfl,Nat.le_refl _,fun _ _=>rfl⟩)
   clear hwz
   simp only [wpPlan,pick,nth]
   repeat (go_big_quiet_step (fail))
   refine wpQuiet_nil ?_
   clear r0 r1 r2 r3 r4 r5 r6 r7 r8 t0 t1 t2 t3 t4 t5 t6 t7 t8
   have HXZ:=Lib.hid (HX6.out.kept HQ.out)
   have HXZ':=Lib.hid (HX6'.out.kept HQ.out)
   have HMZ:=Lib.hid (HM6.out.keep HQ.out)
   have HMZ':=Lib.hid (HM6'.out.keep HQ.out)
   intro K hK
   refine alone_want (by kernel_rfl) ?_
   refine wp_store_mast 31 (.tmp 2) (.tmp 24) rfl w.heap.size nil4 nil4 nil4 nil4 (.slice pc M.chart.length cc) (.slice pf M.flows.length cf) (.slice pe M.ents.length ce) (.slice pl M.lines.length cl) zeroM M 31 rfl rfl HXZ.out ⟨rfl,rfl,rfl,rfl⟩ (by kernel_rfl) ?_
   intro w7 hb7 hg7
   have HG7:=Lib.hid hg7
   have HB7:=Lib.hid hb7
   have HY7:Hid (BoxM w7 W1.heap.size 37 nil4 nil4 nil4 nil4 zeroM):=Lib.hid ((hg7.block _ HXZ'.out.lt (fun e0=>by have:=HLT.out;have:=Option.some.inj e0;omega)).trans HXZ'.out)
   have HKP7:Hid (∀ j,j≠w.heap.size→j < wz.heap.size→w7.heap[j]?=wz.heap[j]?):=Lib.hid (fun j h1 h2=>hg7.block j h2 (fun e0=>h1 (Option.some.inj e0)))
   refine hK _ _ (leave_in fun j hj hjl=>?_) ?_
   ·exact (HKP7.out j hj.1 (by have:=HQ.out.size;omega)).trans (HQ.out.block j hjl)
   clear hK K hb7 hg7
   simp only [Act.put]
   refine wpQuiet_nil ?_
   intro K hK
   refine alone_want (by kernel_rfl) ?_
   refine wp_store_mast 37 (.tmp 3) (.tmp 25) rfl W1.heap.size nil4 nil4 nil4 nil4 (.slice pc' M.chart.length cc') (.slice pf' M.flows.length cf') (.slice pe' M.ents.length ce') (.slice pl' M.lines.length cl') zeroM M 37 rfl rfl HY7.out ⟨rfl,rfl,rfl,rfl⟩ (by kernel_rfl) ?_
   intro w8 hb8 hg8
   have HB8:=Lib.hid hb8
   have HKP8:Hid (∀ j,j≠w.heap.size→j≠W1.heap.size→j < wz.heap.size→w8.heap[j]?=wz.heap[j]?):=Lib.hid (fun j h1 h2 h3=>(hg8.block j (by have:=HG7.out.size;omega) (fun e0=>h2 (Option.some.inj e0))).trans (HKP7.out j h1 h3))
   have HY8:Hid (BoxM w8 w.heap.size 31 (.slice pc M.chart.length cc) (.slice pf M.flows.length cf) (.slice pe M.ents.length ce) (.slice pl M.lines.length cl) M):=Lib.hid ((hg8.block _ HB7.out.lt (fun e0=>by have:=HLT.out;have:=Option.some.inj e0;omega)).trans HB7.out)
   have hbz:=HB2.out.trans ((HB6.out.trans (HQ.out.mono HB6.out.size)).mono HB2.out.size)
   have hbz7:=hbz.grown HG7.out hbz.size (fun j hj=>by cases hj;exact Nat.le_refl _)
   have HBF:=Lib.hid (hbz7.grown hg8 hbz7.size (fun j hj=>by cases hj;have:=HLT.out;omega))
   have HMF:=Lib.hid (mast_two HXZ.out HXZ'.out HMZ.out HSO.out HKP8.out)
   have HMF':=Lib.hid (mast_two HXZ.out HXZ'.out HMZ'.out HSO.out HKP8.out)
   refine hK _ _ (leave_in fun j hj hjl=>?_) ?_
   ·exact (HKP8.out j hj.1 hj.2 (by have:=HQ.out.size;omega)).trans (HQ.out.block j hjl)
   clear hK K hb8 hg8 hbz hbz7
   simp only [Act.put]
   repeat (go_big_quiet_step (fail))
   refine wpQuiet_nil ?_
   go_wp2
   obtain ⟨c0,c1,c2,c3,c4,c5,c6,c7,c8⟩:=HY8.out.nine
   obtain ⟨d0,d1,d2,d3,d4,d5,d6,d7,d8⟩:=HB8.out.nine
   first
    | exact bodyPost_ret (v:=.tuple #[aggM (.slice pc M.chart.length cc) (.slice pf M.flows.length cf) (.slice pe M.ents.length ce) (.slice pl M.lines.length cl) M,aggM (.slice pc' M.chart.length cc') (.slice pf' M.flows.length cf') (.slice pe' M.ents.length ce') (.slice pl' M.lines.length cl') M,.bool true]) (by simp [results,Tryz.results9,go_sem,c0,c1,c2,c3,c4,c5,c6,c7,c8,d0,d1,d2,d3,d4,d5,d6,d7,d8]) rfl ⟨_,_,_,_,_,_,_,_,_,_,rfl,HMF.out,HMF'.out,HBF.out,fun _=>HIS.out (by first | trivial | rfl)⟩
    | exact bodyPost_ret (v:=.tuple #[aggM (.slice pc M.chart.length cc) (.slice pf M.flows.length cf) (.slice pe M.ents.length ce) (.slice pl M.lines.length cl) M,aggM (.slice pc' M.chart.length cc') (.slice pf' M.flows.length cf') (.slice pe' M.ents.length ce') (.slice pl' M.lines.length cl') M,.bool false]) (by simp [results,Tryz.results9,go_sem,c0,c1,c2,c3,c4,c5,c6,c7,c8,d0,d1,d2,d3,d4,d5,d6,d7,d8]) rfl ⟨_,_,_,_,_,_,_,_,_,_,rfl,HMF.out,HMF'.out,HBF.out,fun h=>(by cases h)⟩
end Go.Proofs.YtfhhihamndbcnaaGreatDoor.Pk
end
section
namespace Go.Proofs.YtfhhihamndbcnaaGreatDoor.Pk
open Go.RowKit Go.Proofs.YtfhhihamndbcnaaGreatDoor.Un Go.Proofs.YtfhhihamndbcnaaGreatDoor.Fa
abbrev xE2:ByteArray:=⟨#[69,50]⟩
def extraL (b:Bool):List (List ByteArray):=if b=true then [[tEntity,xE2,xU]] else []
def restP (b:Bool):List (List ByteArray):=[[Fl.tFlow,xF0,Fl.tOpen],[Fl.tFlow,xF1,Fl.tMove],[Fl.tFlow,xF8,Fl.tFx],[Fl.tFlow,xF9,Fl.tScope],[Fl.tFlow,xFz,Fl.tClose],[tEntity,xE1,xU],[tGroup,xU],[tReserve,xc],[tMinor,xc],[tDiffer,xa],[tStake,xa]]++extraL b
def smallP (b:Bool):List (List ByteArray):=accLines++restP b
theorem pm_ac (b:Bool):(smallP b).filterMap acO=smallA:=by
 unfold smallP
 rw [List.filterMap_append,show (restP b).filterMap acO=[] by cases b <;> kernel_rfl,List.append_nil]
 unfold accLines
 rw [List.filterMap_cons,acO_a,List.filterMap_cons,acO_b,List.filterMap_cons,acO_c];rfl
def entsP (b:Bool):List Ent:=if b=true then [⟨xE1,xU⟩,⟨xE2,xU⟩] else [⟨xE1,xU⟩]
theorem pm_fl (b:Bool):(smallP b).filterMap flO=smallF:=by cases b <;> kernel_rfl
theorem pm_en (b:Bool):(smallP b).filterMap enO=entsP b:=by cases b <;> kernel_rfl
theorem pm_li (b:Bool):(smallP b).filterMap liO=[]:=by cases b <;> kernel_rfl
theorem pm_cur (b:Bool):(smallP b).filterMap (onO tGroup)=[xU]:=by cases b <;> kernel_rfl
theorem pm_res (b:Bool):(smallP b).filterMap (onO tReserve)=[xc]:=by cases b <;> kernel_rfl
theorem pm_dif (b:Bool):(smallP b).filterMap (onO tDiffer)=[xa]:=by cases b <;> kernel_rfl
theorem pm_min (b:Bool):(smallP b).filterMap (onO tMinor)=[xc]:=by cases b <;> kernel_rfl
theorem pm_stk (b:Bool):(smallP b).filterMap (onO tStake)=[xa]:=by cases b <;> kernel_rfl
theorem smallP_good (b:Bool):∀ ws∈smallP b,Un.Good ws:=by
 intro ws hw
 rcases List.mem_append.1 hw with h | h
 ·exact small_good ws (List.mem_append_left _ h)
 rcases List.mem_append.1 h with h | h
 ·exact small_good ws (List.mem_append_right _ (by
   unfold restLines
   simp only [List.mem_cons,List.not_mem_nil,or_false] at h ⊢
   rcases h with h | h | h | h | h | h | h | h | h | h | h <;> simp [h]))
 ·cases b with
  | false=>cases h
  | true =>
    have:ws=[tEntity,xE2,xU]:=by simpa [extraL] using h
    subst this
    exact .inr (.inr (by kernel_rfl))
theorem smallP_ok (b:Bool):Ok (smallP b) where
 good:=smallP_good b
 ac:=by rw [pm_ac];decide
 al:=by rw [pm_ac];decide
 fc:=by rw [pm_fl];decide
 fk:=by rw [pm_fl];decide
 fl:=by rw [pm_fl];decide
 ec:=by rw [pm_en];cases b <;> decide
 el:=by rw [pm_en];cases b <;> decide
 lc:=by rw [pm_li];decide
 ll:=by rw [pm_li];decide
 on t ht:=by
  simp only [ones,List.mem_cons,List.not_mem_nil,or_false] at ht
  rcases ht with rfl | rfl | rfl | rfl | rfl
  ·rw [pm_cur];decide
  ·rw [pm_res];decide
  ·rw [pm_dif];decide
  ·rw [pm_min];decide
  ·rw [pm_stk];decide
theorem rightW_of {l:List (List ByteArray)} (h:(l.all fun ws=>decide (ws≠[]) && ws.all fun x=>rightL x.data.toList)=true):∀ ws∈l,rightW ws:=fun ws hw=>by
 have h1:=List.all_eq_true.1 h ws hw
 rw [Bool.and_eq_true,decide_eq_true_eq] at h1
 exact ⟨h1.1,fun x hx=>List.all_eq_true.1 h1.2 x hx⟩
theorem smallP_right (b:Bool):∀ ws∈smallP b,rightW ws:=rightW_of (by cases b <;> kernel_rfl)
structure SmallM (b:Bool) (M:Mast):Prop where
 e1:hasE M xE1=true
 e2:hasE M xE2=b
 a:findL M.chart xa=some (plainAcc xa 0)
 f0:Fl.findF M.flows xF0=some ⟨xF0,0⟩
 f1:Fl.findF M.flows xF1=some ⟨xF1,1⟩
 f8:Fl.findF M.flows xF8=some ⟨xF8,2⟩
 fz:Fl.findF M.flows xFz=some ⟨xFz,4⟩
 mv:Fl.ofF M.flows 1=[xF1]
 sane:Sane M
theorem smallP_size (b:Bool):szL (smallP b)≤200:=by cases b <;> decide
theorem smallP_parse (b:Bool):∃ M,parseM (mkB (textW (smallP b)))=(M,0)∧SmallM b M:=by
 obtain ⟨M,hM,hi⟩:=run_ok (smallP_ok b)
 have hch:=hi.chart
 have hfl:=hi.flows
 have hen:=hi.ents
 have hli:=hi.lines
 have hcu:=hi.cur
 have hre:=hi.res
 have hdi:=hi.dif
 have hmi:=hi.min
 have hst:=hi.stk
 rw [pm_ac] at hch
 rw [pm_fl] at hfl
 rw [pm_en] at hen
 rw [pm_li] at hli
 rw [pm_cur] at hcu
 rw [pm_res] at hre
 rw [pm_dif] at hdi
 rw [pm_min] at hmi
 rw [pm_stk] at hst
 have e1:=oneL_at hcu
 have e2:=oneL_at hre
 have e3:=oneL_at hdi
 have e4:=oneL_at hmi
 have e5:=oneL_at hst
 have hlins:M.lines=[]:=List.perm_nil.1 hli
 have ma:plainAcc xa 0∈M.chart:=(hch.mem_iff).2 (by simp [smallA])
 have mc:plainAcc xc 2∈M.chart:=(hch.mem_iff).2 (by simp [smallA])
 have mf:∀ f∈smallF,f∈M.flows:=fun f hf=>(hfl.mem_iff).2 hf
 have hrf:=Fl.rise_codes hi.sane.fl
 have hroles:rolesN M=true:=by
  unfold rolesN
  rw [e2,e3,e4,e5,has_of mc,has_of ma];rfl
 have hlines:linesN M=true:=by
  unfold linesN
  rw [hlins];rfl
 have hwhole:Fl.wholeF M.flows=true:=by
  unfold Fl.wholeF
  rw [hasF_of (mf ⟨xF0,0⟩ (by simp [smallF])),hasF_of (mf ⟨xF8,2⟩ (by simp [smallF])),hasF_of (mf ⟨xF9,3⟩ (by simp [smallF])),hasF_of (mf ⟨xFz,4⟩ (by simp [smallF]))];rfl
 have hplain:rolesP M=true:=by
  unfold rolesP
  rw [e2,e3,e4,e5,plain_of hi.sane.ch mc 2 rfl,plain_of hi.sane.ch ma 0 rfl];rfl
 have hall:allE M=0:=by
  unfold allE
  rw [if_neg,if_neg,if_neg]
  ·rw [hplain];simp
  ·rw [hwhole];simp
  ·rw [hroles,hlines,e1]
   have:(xU:ByteArray)≠emp:=by decide
   simp [this]
 obtain ⟨hE,hW⟩:=text_back (smallP b) (smallP_right b) (by have:=smallP_size b;omega)
 refine ⟨M,?_,?_,?_,?_,?_,?_,?_,?_,?_,hi.sane⟩
 ·unfold parseM
  rw [if_pos hE,hW]
  unfold linesM
  rw [hM,endM_ok M hall]
 ·exact findG_some (key:=Ent.code) ((hen.mem_iff).2 (by cases b <;> simp [entsP]):(⟨xE1,xU⟩:Ent)∈M.ents)
 ·cases b with
  | true=>exact findG_some (key:=Ent.code) ((hen.mem_iff).2 (by simp [entsP]):(⟨xE2,xU⟩:Ent)∈M.ents)
  | false =>
    have hents:M.ents=[⟨xE1,xU⟩]:=List.perm_singleton.1 hen
    unfold hasE
    rw [hents];decide
 ·have h1:G.findK Acct.code M.chart xa=some (plainAcc xa 0):=G.findK_of_mem (by rw [←riseL_eq];exact hi.sane.ch) ma
  rw [←h1]
  generalize M.chart=C
  induction C with
  | nil=>rfl
  | cons y C ih=>simp only [findL,G.findK];rw [ih]
 ·exact findK_of_mem (key:=Fl.Flow.code) hrf (mf ⟨xF0,0⟩ (by simp [smallF]))
 ·exact findK_of_mem (key:=Fl.Flow.code) hrf (mf ⟨xF1,1⟩ (by simp [smallF]))
 ·exact findK_of_mem (key:=Fl.Flow.code) hrf (mf ⟨xF8,2⟩ (by simp [smallF]))
 ·exact findK_of_mem (key:=Fl.Flow.code) hrf (mf ⟨xFz,4⟩ (by simp [smallF]))
 ·have h1:(Fl.ofF M.flows 1).Perm (Fl.ofF smallF 1):=(hfl.filter _).map _
  exact List.perm_singleton.1 (by rw [show Fl.ofF smallF 1=[xF1] by decide] at h1;exact h1)
section
variable {b:Bool} {M:Mast}
theorem SmallM.check (h:SmallM b M) {c fl:ByteArray} {k:Int} {x:ByteArray} (hc:hasE M c=true) (hf:Fl.findF M.flows fl=some ⟨x,k⟩) (m:Int):checkE M ⟨c,xa,fl,emp,m⟩=if k=2 then 8 else 0:=by
 have hp:isP (⟨c,xa,fl,emp,m⟩:Key)=false:=by unfold isP;simp
 have hin:inM M ⟨c,xa,fl,emp,m⟩=true:=by
  unfold inM hasA hasFl
  dsimp only
  rw [hc,h.a,hf,hp];rfl
 unfold checkE
 rw [if_neg (by rw [hin];simp),hp,if_neg (by simp),if_neg]
 ·unfold kindF
  dsimp only
  rw [hf];rfl
 ·unfold mutA
  dsimp only
  rw [h.a];simp
theorem SmallM.pack (_h:SmallM b M) {S:St} {c:ByteArray} (hn:nmB c=true) (hc:hasE M c=true) (hh:S.had=[]):lineE M S [tPackage,c]=0∧lineV S [tPackage,c]=⟨c,0,[c],S.facts⟩:=by
 refine ⟨?_,?_⟩
 ·unfold lineE
  rw [if_pos (show wd [tPackage,c] 0=tPackage from rfl),if_pos (show [tPackage,c].length=2 from rfl)]
  show (if begE M c=0 then (if hadB S.had c=true then (7:Int) else 0) else begE M c)=0
  rw [if_pos (begE_zero.2 ⟨hn,hc⟩),hh,if_neg]
  rw [Bool.not_eq_true]
  exact hadB_no.2 (by simp)
 ·unfold lineV
  rw [if_pos (show wd [tPackage,c] 0=tPackage from rfl),hh];rfl
theorem SmallM.journal (_h:SmallM b M) {S:St} {c:ByteArray} (hn:nmB c=true) (hc:hasE M c=true):lineE M S [tJournal,c]=0∧lineV S [tJournal,c]=⟨c,1,S.had,S.facts⟩:=by
 refine ⟨?_,?_⟩
 ·unfold lineE
  rw [if_neg (show wd [tJournal,c] 0≠tPackage from tP_J.symm),if_pos (show wd [tJournal,c] 0=tJournal from rfl),if_pos (show [tJournal,c].length=2 from rfl)]
  exact begE_zero.2 ⟨hn,hc⟩
 ·unfold lineV
  rw [if_neg (show wd [tJournal,c] 0≠tPackage from tP_J.symm),if_pos (show wd [tJournal,c] 0=tJournal from rfl)];rfl
theorem SmallM.fact (h:SmallM b M) {S:St} {fl t:ByteArray} {x:ByteArray} {k n:Int} (he:S.ent≠emp) (hc:hasE M S.ent=true) (hn:nmB fl=true) (hf:Fl.findF M.flows fl=some ⟨x,k⟩) (hk:k≠2) (hv:parseV t.data.toList=n) (hp:parseE t.data.toList=0) :
 lineE M S [tFact,xa,fl,tDash,t]=0∧lineV S [tFact,xa,fl,tDash,t]=⟨S.ent,S.mrk,S.had,S.facts++[⟨⟨S.ent,xa,fl,emp,S.mrk⟩,n⟩]⟩:=by
 have hK:keyF S [tFact,xa,fl,tDash,t]=⟨S.ent,xa,fl,emp,S.mrk⟩:=rfl
 refine ⟨?_,?_⟩
 ·unfold lineE
  rw [if_neg (show wd [tFact,xa,fl,tDash,t] 0≠tPackage from tP_F.symm),if_neg (show wd [tFact,xa,fl,tDash,t] 0≠tJournal from tJ_F.symm),if_pos (show wd [tFact,xa,fl,tDash,t] 0=tFact from rfl),if_pos (show [tFact,xa,fl,tDash,t].length=5 from rfl)]
  unfold factE
  rw [hK,if_neg,if_pos (show parseE (wd [tFact,xa,fl,tDash,t] 4).data.toList=0 from hp),h.check hc hf,if_neg hk]
  have hp':isP (⟨S.ent,xa,fl,emp,S.mrk⟩:Key)=false:=by unfold isP;simp
  unfold namedK
  dsimp only
  rw [hp',hn,show nmB xa=true by decide]
  simp [he]
 ·unfold lineV
  rw [if_neg (show wd [tFact,xa,fl,tDash,t] 0≠tPackage from tP_F.symm),if_neg (show wd [tFact,xa,fl,tDash,t] 0≠tJournal from tJ_F.symm)]
  unfold factV
  rw [hK,show wd [tFact,xa,fl,tDash,t] 4=t from rfl,hv]
theorem text_parse {l:List (List ByteArray)} (hr:∀ ws∈l,rightW ws) (hs:szL l≤20000):parseP M (mkB (textW l))=endP (runP M st0 l):=by
 obtain ⟨hE,hW⟩:=text_back l hr hs
 unfold parseP
 rw [if_pos hE,hW]
end
end Go.Proofs.YtfhhihamndbcnaaGreatDoor.Pk
end
section
namespace Go.Proofs.YtfhhihamndbcnaaGreatDoor.Pk
open Go.RowKit Go.Maps Go.Proofs.YtfhhihamndbcnaaGreatDoor.Un
def LaidP (w:World):Prop:=Laid w∧Fl.Laid w∧LaidC w
theorem LaidP.keep {w w':World} (h:LaidP w) (hb:Below w.heap.size w w'):LaidP w':=⟨h.1.below hb (Nat.le_refl _),h.2.1.below hb (Nat.le_refl _),h.2.2.below hb⟩
def SmallPTold (b:Bool) (w:World) (en:Ending) (w':World):Prop:=∃ M c f e l,SmallM b M∧en=.returned (.tuple #[aggM c f e l M,.int .i64 0])∧MastIn w' c f e l M∧Below w.heap.size w w'
theorem parse_smallP (b:Bool) (s:ByteArray) (hs:s=mkB (textW (smallP b))) (w:World) (hl:LaidP w):Calls Tryz.prog 27 #[.string s] w (SmallPTold b w):=by
 subst hs
 obtain ⟨M,hM,hS⟩:=smallP_parse b
 have:=Un.parse_any (mkB (textW (smallP b))) w (by rw [mkB_size,textW_length];have:=smallP_size b;omega) hl.1 hl.2.1
 rw [hM] at this
 refine this.mono ?_
 rintro en w' ⟨v,rfl,⟨c,f,e,l,rfl,hm⟩,hb⟩
 exact ⟨M,c,f,e,l,hS,rfl,hm,hb⟩
end Go.Proofs.YtfhhihamndbcnaaGreatDoor.Pk
end
section
namespace Go.Proofs.YtfhhihamndbcnaaGreatDoor.Pk
open Go.ChangeShapes Go.WideShapes Go.ChangeAt Go.RowKit Go.Deep Go.Proofs.YtfhhihamndbcnaaGreatDoor.Un
theorem own:ownKnob Tryz.prog.godebug=none:=by kernel_rfl
abbrev listed:List (String × DataW Unit):=Rows.carryTellsRow.laid
theorem door_met (os:Os) (args:Array Value):laidMetH Tryz.prog listed ((World.doorLaid Tryz.prog 400 os).forCall (fun _ _=>0) ⟨#[],args,[]⟩).memory :=
 laidMetH_of_parts3 (fuel:=8) (laidMet_of_run' 8 (by kernel_rfl) (by kernel_rfl)) (by kernel_rfl) (by kernel_rfl)
theorem pow_data:Rows.laid_internal_strconv_uint64pow10 (H:=Unit)=Lib.tabData .u64 Lib.pow10Tab:=by kernel_rfl
theorem tPow:(Tryz.prog.globals[5]?).map (·.type)=some 315:=by kernel_rfl
theorem tRng:(Tryz.prog.globals[4]?).map (·.type)=some 264:=by kernel_rfl
theorem cPow:Tryz.prog.cellsOf 315=20:=by kernel_rfl
theorem cU64:Tryz.prog.cellsOf 288=1:=by kernel_rfl
theorem cErrS:Tryz.prog.cellsOf 307=1:=by kernel_rfl
theorem star : "*" ++ "errors.errorString" = "*errors.errorString":=by decide
theorem rowErr (u:TypeId) (h:Tryz.prog.typeName? 3 u=some "*errors.errorString"):u=305 :=
 typeName_ptr_named (nm := "errors.errorString") (by rw [star];kernel_rfl) (by kernel_rfl) (by decide) u (by rw [star];exact h)
theorem gCls:Tryz.prog.globalNamed "comptroller/chart.classWords"=some 1:=by kernel_rfl
theorem tCls:(Tryz.prog.globals[1]?).map (·.type)=some 269:=by kernel_rfl
theorem cCls:Tryz.prog.cellsOf 269=3:=by kernel_rfl
theorem gKin:Tryz.prog.globalNamed "comptroller/flow.kindWords"=some 2:=by kernel_rfl
theorem tKin:(Tryz.prog.globals[2]?).map (·.type)=some 272:=by kernel_rfl
theorem cKin:Tryz.prog.cellsOf 272=5:=by kernel_rfl
theorem cStr:Tryz.prog.cellsOf 9=1:=by kernel_rfl
theorem of_laid {W:World} (h:laidMetH Tryz.prog listed W):LaidP W:=by
 rw [MakeChecks.laidMetH_plain _ _ _ (by kernel_rfl)] at h
 have hp:laidMet Tryz.prog (("internal/strconv.uint64pow10",Lib.tabData .u64 Lib.pow10Tab)::[("strconv.ErrRange",Rows.laid_strconv_ErrRange),("strconv.ErrSyntax",Rows.laid_strconv_ErrSyntax),("comptroller/chart.classWords",.agg ([[97,115,115,101,116],[108,105,97,98,105,108,105,116,121],[101,113,117,105,116,121]].map fun z=>.lit (.string z))),("comptroller/flow.kindWords",.agg ([[111,112,101,110],[109,111,118,101],[102,120],[115,99,111,112,101],[99,108,111,115,101]].map fun z=>.lit (.string z)))]) W:=by
  rw [←pow_data];exact h.tail.tail
 have h2:laidMet Tryz.prog [("comptroller/chart.classWords",.agg ([[97,115,115,101,116],[108,105,97,98,105,108,105,116,121],[101,113,117,105,116,121]].map fun z=>.lit (.string z))),("comptroller/flow.kindWords",.agg ([[111,112,101,110],[109,111,118,101],[102,120],[115,99,111,112,101],[99,108,111,115,101]].map fun z=>.lit (.string z)))] W:=h.tail.tail.tail.tail.tail
 have h3:=h2.tail
 refine ⟨?_,?_,?_⟩
 ·obtain ⟨ps,⟨g',t',cs,fuel,p,q,hg',ht',hvar,hd,_,_⟩,_⟩:=h2
  obtain rfl:=Option.some.inj (gCls.symm.trans hg')
  obtain rfl:=Option.some.inj (tCls.symm.trans ht')
  have hc:=cells_of_texts Tryz.underlying269 Tryz.underlying9 cStr cCls hd
  have hv:=World.var?_cell gCls hvar
  refine ⟨?_,?_,?_⟩
  ·rw [hv 0];show _=some (Value.string (mkB [97,115,115,101,116]));simpa using hc 0 _ rfl
  ·rw [hv 1];show _=some (Value.string (mkB [108,105,97,98,105,108,105,116,121]));simpa using hc 1 _ rfl
  ·rw [hv 2];show _=some (Value.string (mkB [101,113,117,105,116,121]));simpa using hc 2 _ rfl
 ·obtain ⟨ps,⟨g',t',cs,fuel,p,q,hg',ht',hvar,hd,_,_⟩,_⟩:=h3
  obtain rfl:=Option.some.inj (gKin.symm.trans hg')
  obtain rfl:=Option.some.inj (tKin.symm.trans ht')
  have hc:=cells_of_texts Tryz.underlying272 Tryz.underlying9 cStr cKin hd
  have hv:=World.var?_cell gKin hvar
  refine ⟨?_,?_,?_,?_,?_⟩
  ·rw [hv 0];show _=some (Value.string (mkB [111,112,101,110]));simpa using hc 0 _ rfl
  ·rw [hv 1];show _=some (Value.string (mkB [109,111,118,101]));simpa using hc 1 _ rfl
  ·rw [hv 2];show _=some (Value.string (mkB [102,120]));simpa using hc 2 _ rfl
  ·rw [hv 3];show _=some (Value.string (mkB [115,99,111,112,101]));simpa using hc 3 _ rfl
  ·rw [hv 4];show _=some (Value.string (mkB [99,108,111,115,101]));simpa using hc 4 _ rfl
 ·refine ⟨Lib.tabIs_of_head gPow tPow Tryz.underlying315 Tryz.underlying288 cU64 cPow hp,?_⟩
  obtain ⟨a0,s0,hv0,-,-,-⟩:=laid_sentinel hp.tail gRng tRng Tryz.underlying264 rowErr Tryz.underlying305 Tryz.underlying307 rfl rfl Tryz.underlying9 cErrS cStr
  exact ⟨_,_,hv0⟩
set_option maxRecDepth 100000
section
variable {H:Type} {enc:TypeId × Value→H} {W:World} {base:Nat} {sp:Nat→Bool} {held:Bool}
end
end Go.Proofs.YtfhhihamndbcnaaGreatDoor.Pk
end
section
namespace Go.Proofs.YtfhhihamndbcnaaGreatDoor.Cy
open Go.RowKit Go.Maps Go.Proofs.YtfhhihamndbcnaaGreatDoor.Un Go.Proofs.YtfhhihamndbcnaaGreatDoor.Fa Go.Proofs.YtfhhihamndbcnaaGreatDoor.Pk Go.Proofs.YtfhhihamndbcnaaGreatDoor.Co
def c13:List Fact:=[⟨⟨xE1,xa,xFz,emp,0⟩,7⟩,⟨⟨xE1,xa,xFz,emp,1⟩,1⟩]
def d13:List Fact:=[⟨⟨xE1,xa,xF0,emp,0⟩,8⟩]
def b13:List Fact:=[⟨⟨xE1,xa,xF0,emp,0⟩,8⟩,⟨⟨xE1,xa,xFz,emp,0⟩,7⟩,⟨⟨xE1,xa,xFz,emp,1⟩,1⟩]
def t13:ByteArray:=⟨#[112,97,99,107,97,103,101,32,69,49,10,102,97,99,116,32,97,32,70,122,32,45,32,55,10,106,111,117,114,110,97,108,32,69,49,10,102,97,99,116,32,97,32,70,122,32,45,32,49,10]⟩
theorem parse13 {M:Mast} (h:SmallM false M):parseP M t13=(c13,0):=by
 rw [show t13=mkB (textW [[tPackage,xE1],[tFact,xa,xFz,tDash,⟨#[55]⟩],[tJournal,xE1],[tFact,xa,xFz,tDash,⟨#[49]⟩]]) by kernel_rfl,text_parse (rightW_of (by kernel_rfl)) (by decide)]
 have hne:(xE1:ByteArray)≠emp:=by decide
 have hn:nmB xE1=true:=by decide
 obtain ⟨p1,p2⟩:=h.pack (S:=Pk.st0) hn h.e1 rfl
 rw [runP_cons _ p1,p2]
 obtain ⟨q1,q2⟩:=h.fact (S:=⟨xE1,0,[xE1],[]⟩) (fl:=xFz) (t:=⟨#[55]⟩) (n:=7) hne h.e1 (by decide) h.fz (by decide) (by decide) (by decide)
 rw [show (⟨xE1,0,[xE1],Pk.st0.facts⟩:St)=⟨xE1,0,[xE1],[]⟩ from rfl,runP_cons _ q1,q2]
 obtain ⟨r1,r2⟩:=h.journal (S:=⟨xE1,0,[xE1],[]++[⟨⟨xE1,xa,xFz,emp,0⟩,7⟩]⟩) hn h.e1
 rw [runP_cons _ r1,r2]
 obtain ⟨q1,q2⟩:=h.fact (S:=⟨xE1,1,[xE1],[]++[⟨⟨xE1,xa,xFz,emp,0⟩,7⟩]⟩) (fl:=xFz) (t:=⟨#[49]⟩) (n:=1) hne h.e1 (by decide) h.fz (by decide) (by decide) (by decide)
 rw [runP_cons _ q1,q2]
 show endP (⟨xE1,1,[xE1],_⟩,0)=_
 rw [endP_ok]
 kernel_rfl
theorem sm_ofK {M:Mast} {f:ByteArray} {x:ByteArray} {k:Int} (hf:Fl.findF M.flows f=some ⟨x,k⟩) (n m:Int):ofK M n ⟨xE1,xa,f,emp,m⟩=decide (k=n):=by
 unfold ofK hasFl kindF
 dsimp only
 rw [hf];rfl
section
variable {M:Mast} (h:SmallM false M)
include h
theorem sm_has:Fl.hasF M.flows 0=true:=by
 obtain ⟨_,h2⟩:=findK_mem h.f0
 exact hasF_of (f:=⟨xF0,0⟩) h2
theorem sm_first:firstF M=xF0:=by
 have ho:=opens_of h.sane.fl (sm_has h)
 refine (ho.one xF0 ?_ ?_).symm
 ·unfold hasFl;rw [h.f0];rfl
 ·unfold kindF;rw [h.f0];rfl
theorem sm_opn:Opn M:=⟨Fl.rise_codes h.sane.fl,by have:=h.sane.lf;omega,sm_has h⟩
theorem told13:toldF M c13 4 xF0=[⟨⟨xE1,xa,xF0,emp,0⟩,7⟩,⟨⟨xE1,xa,xF0,emp,0⟩,1⟩]:=by
 unfold toldF c13
 simp only [List.filter_cons,List.filter_nil,sm_ofK h.fz]
 rfl
theorem open13:openP M c13=(d13,0):=by
 unfold openP
 rw [sm_first h,told13 h]
 kernel_rfl
theorem rest13:restF M c13=c13:=by
 unfold restF c13
 simp only [List.filter_cons,List.filter_nil,sm_ofK h.fz]
 rfl
theorem bring13:bringP M c13 c13=(b13,0):=by
 unfold bringP
 rw [open13 h,if_neg (by simp),rest13 h]
 kernel_rfl
theorem checkB13:checkP M c13 b13=0:=bring_check (opens_of h.sane.fl (sm_has h)) (bring13 h)
theorem checkC13:checkP M c13 c13=8:=by
 unfold checkP
 rw [open13 h,if_neg (by simp)]
 have e:toldF M c13 0 (firstF M)=[]:=by
  unfold toldF c13
  simp only [List.filter_cons,List.filter_nil,sm_ofK h.fz]
  rfl
 rw [e,if_neg (by decide),if_neg (by decide)]
end
set_option maxRecDepth 100000 in
set_option maxHeartbeats 16000000 in
theorem alive13_any (w:World) (hl:LaidP w):Calls Tryz.prog 8 #[] w fun en w'=>en=.returned (.bool true)∧Below w.heap.size w w':=by
 have HL:=Lib.hid hl
 clear hl
 go_enter Tryz.func8,Tryz.ntmps8
 go_wp2_with fail
 refine (parse_smallP false _ (by kernel_rfl) _ HL.out).mono ?_
 rintro en w1 ⟨M,c,f,e,l,hS,rfl,hm,hb1⟩
 obtain ⟨pc,cc,pf,cf,pe,ce,pl,cl,rfl,rfl,rfl,rfl⟩:=shapes hm
 have hb2:=(Below.refl w1.heap.size w1).alloc (Nat.le_refl _) (.cells (cellsM (.slice pc M.chart.length cc) (.slice pf M.flows.length cf) (.slice pe M.ents.length ce) (.slice pl M.lines.length cl) M) 31)
 have HB2:=Lib.hid (hb1.trans (hb2.mono hb1.size))
 have HM2:=Lib.hid (hm.keep hb2)
 have HN2:=Lib.hid (nine_new w1 (.slice pc M.chart.length cc) (.slice pf M.flows.length cf) (.slice pe M.ents.length ce) (.slice pl M.lines.length cl) M 31)
 have HL2:=Lib.hid (HL.out.keep HB2.out)
 have HP1:=Lib.hid (fun W h hL=>by
  have:=pparse_any (.slice pc M.chart.length cc) (.slice pf M.flows.length cf) (.slice pe M.ents.length ce) (.slice pl M.lines.length cl) M t13 W h hS.sane hL (by decide)
  rw [parse13 hS] at this
  exact this)
 have hC13:∀ x∈c13,In64 x.amt:=fun x hx=>by
  simp only [c13,List.mem_cons,List.not_mem_nil,or_false] at hx
  rcases hx with rfl | rfl <;> exact ⟨by decide,by decide⟩
 have hD13:∀ x∈b13,In64 x.amt:=fun x hx=>by
  simp only [b13,List.mem_cons,List.not_mem_nil,or_false] at hx
  rcases hx with rfl | rfl | rfl <;> exact ⟨by decide,by decide⟩
 have HOP:Hid (∀ (W:World) (v:Value),FlIn W (.slice pc M.chart.length cc) (.slice pf M.flows.length cf) (.slice pe M.ents.length ce) (.slice pl M.lines.length cl) M→FactsV W v c13→Calls Tryz.prog 12 #[aggM (.slice pc M.chart.length cc) (.slice pf M.flows.length cf) (.slice pe M.ents.length ce) (.slice pl M.lines.length cl) M,v] W (CubeTold W (d13,0))):=Lib.hid fun W v h1 h2=>by
  have:=open_any _ _ _ _ v M c13 W h1 (sm_opn hS) h2 hC13 (by decide)
  rw [open13 hS] at this
  exact this
 have HBR:Hid (∀ (W:World) (v:Value),FlIn W (.slice pc M.chart.length cc) (.slice pf M.flows.length cf) (.slice pe M.ents.length ce) (.slice pl M.lines.length cl) M→FactsV W v c13→Calls Tryz.prog 15 #[aggM (.slice pc M.chart.length cc) (.slice pf M.flows.length cf) (.slice pe M.ents.length ce) (.slice pl M.lines.length cl) M,v,v] W (CubeTold W (b13,0))):=Lib.hid fun W v h1 h2=>by
  have:=bring_any _ _ _ _ v v M c13 c13 W h1 (sm_opn hS) h2 hC13 (by decide) h2 hC13 (by decide) (sum_length (by decide) (by decide))
  rw [bring13 hS] at this
  exact this
 have HC0:Hid (∀ (W:World) (v u:Value),FlIn W (.slice pc M.chart.length cc) (.slice pf M.flows.length cf) (.slice pe M.ents.length ce) (.slice pl M.lines.length cl) M→FactsV W v c13→FactsV W u b13→Calls Tryz.prog 19 #[aggM (.slice pc M.chart.length cc) (.slice pf M.flows.length cf) (.slice pe M.ents.length ce) (.slice pl M.lines.length cl) M,v,u] W fun en w'=>en=.returned (.int .i64 0)∧Below W.heap.size W w'):=Lib.hid fun W v u h1 h2 h3=>by
  have:=check_any _ _ _ _ v u M c13 b13 W h1 (sm_opn hS) h2 hC13 (by decide) h3 hD13 (by decide)
  rw [checkB13 hS] at this
  exact this
 have HC8:Hid (∀ (W:World) (v:Value),FlIn W (.slice pc M.chart.length cc) (.slice pf M.flows.length cf) (.slice pe M.ents.length ce) (.slice pl M.lines.length cl) M→FactsV W v c13→Calls Tryz.prog 19 #[aggM (.slice pc M.chart.length cc) (.slice pf M.flows.length cf) (.slice pe M.ents.length ce) (.slice pl M.lines.length cl) M,v,v] W fun en w'=>en=.returned (.int .i64 8)∧Below W.heap.size W w'):=Lib.hid fun W v h1 h2=>by
  have:=check_any _ _ _ _ v v M c13 c13 W h1 (sm_opn hS) h2 hC13 (by decide) h2 hC13 (by decide)
  rw [checkC13 hS] at this
  exact this
 clear hm hb1 hb2 hS hC13 hD13
 obtain ⟨k0,k1,k2,k3,k4,k5,k6,k7,k8⟩:=HN2.out
 go_wp2_with fail
 clear k0 k1 k2 k3 k4 k5 k6 k7 k8
 refine (HP1.out _ HM2.out HL2.out.2.2).mono ?_
 rintro en w3 ⟨u3,rfl,hf3,hb3⟩
 dsimp only at hf3
 have HV3:=Lib.hid hf3
 have HB3:=Lib.hid (HB2.out.trans (hb3.mono HB2.out.size))
 have HM3:=Lib.hid (HM2.out.keep hb3)
 have HN3:=Lib.hid (HN2.out.kept hb3)
 clear hb3 hf3 HB2 HM2 HN2 HL2 HP1
 obtain ⟨k0,k1,k2,k3,k4,k5,k6,k7,k8⟩:=HN3.out
 go_wp2_with fail
 clear k0 k1 k2 k3 k4 k5 k6 k7 k8
 refine (HOP.out _ _ (.of HM3.out) HV3.out).mono ?_
 rintro en w4 ⟨u4,rfl,hf4,hb4⟩
 dsimp only at hf4
 have HD4:=Lib.hid hf4
 have HB4:=Lib.hid (HB3.out.trans (hb4.mono HB3.out.size))
 have HM4:=Lib.hid (HM3.out.keep hb4)
 have HN4:=Lib.hid (HN3.out.kept hb4)
 have HV4:=Lib.hid (HV3.out.keep hb4)
 clear hb4 hf4 HB3 HM3 HN3 HV3 HOP
 obtain ⟨k0,k1,k2,k3,k4,k5,k6,k7,k8⟩:=HN4.out
 go_wp2_with fail
 clear k0 k1 k2 k3 k4 k5 k6 k7 k8
 refine (HBR.out _ _ (.of HM4.out) HV4.out).mono ?_
 rintro en w5 ⟨u5,rfl,hf5,hb5⟩
 dsimp only at hf5
 have HE5:=Lib.hid hf5
 have HB5:=Lib.hid (HB4.out.trans (hb5.mono HB4.out.size))
 have HM5:=Lib.hid (HM4.out.keep hb5)
 have HN5:=Lib.hid (HN4.out.kept hb5)
 have HV5:=Lib.hid (HV4.out.keep hb5)
 have HD5:=Lib.hid (HD4.out.keep hb5)
 clear hb5 hf5 HB4 HM4 HN4 HV4 HBR HD4
 obtain ⟨p4,c4,rfl,_,_,_,hcl⟩:=id HD5.out
 obtain ⟨b4,o4,rfl,hat⟩:=hcl 0 _ rfl
 obtain ⟨f0,f1,f2,f3,f4,f5⟩:=fact6 hat
 simp only [show encF.k=6 from rfl,Nat.zero_mul,Nat.add_zero] at f0 f1 f2 f3 f4 f5
 obtain ⟨p5,c5,rfl,_⟩:=id HE5.out
 have hl1:d13.length=1:=rfl
 have hl3:b13.length=3:=rfl
 rw [hl3] at HE5
 simp only [hl1,hl3]
 clear hcl hat HD5 hl1 hl3
 obtain ⟨k0,k1,k2,k3,k4,k5,k6,k7,k8⟩:=HN5.out
 go_wp2_with fail
 clear k0 k1 k2 k3 k4 k5 k6 k7 k8 f0 f1 f2 f3 f4 f5
 refine (HC0.out _ _ _ (.of HM5.out) HV5.out HE5.out).mono ?_
 rintro en w6 ⟨rfl,hb6⟩
 have HB6:=Lib.hid (HB5.out.trans (hb6.mono HB5.out.size))
 have HM6:=Lib.hid (HM5.out.keep hb6)
 have HN6:=Lib.hid (HN5.out.kept hb6)
 have HV6:=Lib.hid (HV5.out.keep hb6)
 clear hb6 HB5 HM5 HN5 HV5 HC0
 obtain ⟨k0,k1,k2,k3,k4,k5,k6,k7,k8⟩:=HN6.out
 go_wp2_with fail
 clear k0 k1 k2 k3 k4 k5 k6 k7 k8
 refine (HC8.out _ _ (.of HM6.out) HV6.out).mono ?_
 rintro en w7 ⟨rfl,hb7⟩
 have HB7:=Lib.hid (HB6.out.trans (hb7.mono HB6.out.size))
 clear hb7
 go_wp2
 go_ret
 exact ⟨rfl,HB7.out⟩
end Go.Proofs.YtfhhihamndbcnaaGreatDoor.Cy
end
section
namespace Go.Proofs.YtfhhihamndbcnaaGreatDoor.Pk
open Go.RowKit Go.Maps Go.Proofs.YtfhhihamndbcnaaGreatDoor.Un
theorem start1 (w:World):BoxM (rzeroBox (zeroBox w)) w.heap.size 31 nil4 nil4 nil4 nil4 zeroM:=(box_start w).kept ((Below.refl _ _).alloc (Nat.le_refl _) _)
theorem start2 (w:World):BoxM (rzeroBox (zeroBox w)) (w.heap.size+1) 37 nil4 nil4 nil4 nil4 zeroM:=by
 have:=rbox_start (zeroBox w)
 rw [World.size_alloc] at this
 exact this
theorem start_keep {w w3:World} (g3:(rzeroBox (zeroBox w)).grownBy w3 (some w.heap.size)):BoxM w3 (w.heap.size+1) 37 nil4 nil4 nil4 nil4 zeroM :=
 (g3.block _ (start2 w).lt (fun e0=>by have:=Option.some.inj e0;omega)).trans (start2 w)
structure TwoM (w0 w:World) (c f e l c' f' e' l':Value) (M:Mast):Prop where
 bel:Below w0.heap.size w0 w
 mast:MastIn w c f e l M
 mast':MastIn w c' f' e' l' M
 nine:NineAt w w0.heap.size c f e l M
 nine':NineAt w (w0.heap.size+1) c' f' e' l' M
theorem two_of {w w3 w4:World} {c f e l c' f' e' l':Value} {M:Mast} (hm:MastIn w c f e l M) (hm':MastIn w c' f' e' l' M) (h3:BoxM w3 w.heap.size 31 c f e l M) (g3:(rzeroBox (zeroBox w)).grownBy w3 (some w.heap.size))
 (h4:BoxM w4 (w.heap.size+1) 37 c' f' e' l' M) (g4:w3.grownBy w4 (some (w.heap.size+1))):TwoM w w4 c f e l c' f' e' l' M:=by
 have b0:Below w.heap.size w (rzeroBox (zeroBox w)):=((Below.refl w.heap.size w).alloc (Nat.le_refl _) _).alloc (by rw [World.size_alloc];omega) _
 have b3:=b0.grown g3 b0.size (fun j hj=>by cases hj;exact Nat.le_refl _)
 have b4:=b3.grown g4 b3.size (fun j hj=>by cases hj;omega)
 refine ⟨b4,hm.keep b4,hm'.keep b4,?_,h4.nine⟩
 exact BoxM.nine ((g4.block _ h3.lt (fun e0=>by have:=Option.some.inj e0;omega)).trans h3)
theorem TwoM.keep {w0 w w':World} {c f e l c' f' e' l':Value} {M:Mast} (h:TwoM w0 w c f e l c' f' e' l' M) (hb:Below w.heap.size w w'):TwoM w0 w' c f e l c' f' e' l' M :=
 ⟨h.bel.trans (hb.mono h.bel.size),h.mast.keep hb,h.mast'.keep hb,h.nine.kept hb,h.nine'.kept hb⟩
end Go.Proofs.YtfhhihamndbcnaaGreatDoor.Pk
end
section
namespace Go.Proofs.YtfhhihamndbcnaaGreatDoor.Cy
open Go.RowKit Go.Maps Go.Proofs.YtfhhihamndbcnaaGreatDoor.Un Go.Proofs.YtfhhihamndbcnaaGreatDoor.Fa Go.Proofs.YtfhhihamndbcnaaGreatDoor.Pk Go.Proofs.YtfhhihamndbcnaaGreatDoor.Co
theorem has_open {M:Mast} (h:allE M=0):Fl.hasF M.flows 0=true:=by
 obtain ⟨_,_,_,hw,_⟩:=allE_parts h
 unfold Fl.wholeF at hw
 simp only [Bool.and_eq_true] at hw
 exact hw.1.1.1
theorem four_new (w:World) (a b c d:Value) (t:TypeId):(w.alloc (.cells #[a,b,c,d] t)).cell? ⟨w.heap.size,0,none⟩=some a∧(w.alloc (.cells #[a,b,c,d] t)).cell? ⟨w.heap.size,1,none⟩=some b∧(w.alloc (.cells #[a,b,c,d] t)).cell? ⟨w.heap.size,2,none⟩=some c∧(w.alloc (.cells #[a,b,c,d] t)).cell? ⟨w.heap.size,3,none⟩=some d :=
 ⟨by rw [cell_of_row _ w.heap.size 0 _ t (0,0) (heap_alloc_new w _)];rfl,by rw [cell_of_row _ w.heap.size 1 _ t (0,0) (heap_alloc_new w _)];rfl,by rw [cell_of_row _ w.heap.size 2 _ t (0,0) (heap_alloc_new w _)];rfl,by rw [cell_of_row _ w.heap.size 3 _ t (0,0) (heap_alloc_new w _)];rfl⟩
theorem opn_of {M:Mast} (hs:Sane M) (h:allE M=0):Opn M:=⟨Fl.rise_codes hs.fl,by have:=hs.lf;omega,has_open h⟩
end Go.Proofs.YtfhhihamndbcnaaGreatDoor.Cy
end
section
namespace Go.Proofs.YtfhhihamndbcnaaGreatDoor.Cy
open Go.RowKit Go.Maps Go.Proofs.YtfhhihamndbcnaaGreatDoor.Un Go.Proofs.YtfhhihamndbcnaaGreatDoor.Fa Go.Proofs.YtfhhihamndbcnaaGreatDoor.Pk Go.Proofs.YtfhhihamndbcnaaGreatDoor.Co
theorem box_set {W:World} {g:Nat} {t:TypeId} {k:Key} (h:BoxE Fa.encK W g t k) (m:Int):BoxE Fa.encK (W.setCell ⟨g,4,none⟩ (.int .i64 m)) g t ⟨k.e,k.a,k.f,k.p,m⟩:=by
 unfold BoxE at h ⊢
 rw [Joins.block_setCell h]
 rfl
theorem box_free {α:Type} {E:Enc α} {W:World} {g:Nat} {t:TypeId} {k:α} (h:BoxE E W g t k) (o:Nat):W.frozen? ⟨g,o,none⟩=false:=by simp [World.frozen?,show W.heap[g]?=_ from h]
end Go.Proofs.YtfhhihamndbcnaaGreatDoor.Cy
end
