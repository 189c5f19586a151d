/- CyMark CyOpenM CarryChecks -/
import Derived.Test.YtfhhihamndbcnaaGreatDoorR49
import Derived.Test.YtfhhihamndbcnaaGreatDoorR54
section
namespace Go.Proofs.YtfhhihamndbcnaaGreatDoor.Cy
open Go.RowKit Go.Maps Go.Proofs.YtfhhihamndbcnaaGreatDoor.Un Go.Proofs.YtfhhihamndbcnaaGreatDoor.Fa Go.Proofs.YtfhhihamndbcnaaGreatDoor.Pk Go.Proofs.YtfhhihamndbcnaaGreatDoor.Co
def In16 (a:Int):Prop:=-32768≤a∧a≤32767
def keyZ:Key:=⟨⟨#[]⟩,⟨#[]⟩,⟨#[]⟩,⟨#[]⟩,0⟩
theorem own_boxE {α:Type} {E:Enc α} {w:World} {B b:Nat} {t:TypeId} {a:α} (h:w.ownsRow B t E.k (.slice (some ⟨b,0,none⟩) 1 1) 1 (flat E [a])):BoxE E w b t a:=by
 rcases h.2 with ⟨h',_⟩ | ⟨g,cap,cur,e,_,hg,_,_,hsz,htk⟩
 ·cases h'
 ·cases e
  unfold BoxE
  rw [hg]
  have:cur.toList=E.cs a:=by
   rw [flat_one] at htk
   rw [←htk,List.take_of_length_le (by rw [Array.length_toList,hsz];exact Nat.le_refl _)]
  rw [←this]
theorem wp_store_boxK {α:Type} {E:Enc α} {P:Program} {o:Oper} {a:Act} {w:World} {K:Act→World→Prop} {Q:Exit→Act→World→Prop} (ty:TypeId) (x y:Operand) (ho:o.op=.store ty x y)
 (g:Nat) (t:TypeId) (z0 z:α) (hx:a.eval x=.pointer (some ⟨g,0,none⟩)) (hy:a.eval y=.agg (E.cs z).toArray) (hg:BoxE E w g t z0) (hti:(P.info? ty).map (·.size)=some E.k)
 (h:∀ w',BoxE E w' g t z→w.grownBy w' (some g)→K (a.put o.dst undef) w'):o.wp P a w K Q :=
 wp_store_part ty x y ho g g 1 1 t [z0] 0 z (by rw [Nat.zero_mul];exact hx) hy (box_own hg (Nat.le_refl _)) rfl (by omega) hti (fun w' h1 h2=>h w' (own_boxE h1) h2)
theorem box_fl {W:World} {g:Nat} {t:TypeId} {k:Key} (h:BoxE Fa.encK W g t k) (c:ByteArray):BoxE Fa.encK (W.setCell ⟨g,2,none⟩ (.string c)) g t ⟨k.e,k.a,c,k.p,k.m⟩:=by
 unfold BoxE at h ⊢
 rw [Joins.block_setCell h]
 rfl
theorem box_holds {W:World} {g:Nat} {t:TypeId} {k:Key} (h:BoxE Fa.encK W g t k) {n:Nat} {v:Value} (hc:W.cell? ⟨g,n,none⟩=some v):(n < 4∧∃ s,v=.string s)∨n=4:=by
 have e:=cell_of_row W g n _ _ (0,0) h
 rw [hc] at e
 match n with
 | 0=>cases e;exact .inl ⟨by omega,_,rfl⟩
 | 1=>cases e;exact .inl ⟨by omega,_,rfl⟩
 | 2=>cases e;exact .inl ⟨by omega,_,rfl⟩
 | 3=>cases e;exact .inl ⟨by omega,_,rfl⟩
 | 4=>exact .inr rfl
 | n+5=>cases e
theorem el_apart {W:World} {g b o:Nat} {t:TypeId} {k:Key} {α:Type} {E:Enc α} {x:α} (hb:BoxE Fa.encK W g t k) (h:ElAt E W b o x) (hk:5 < E.k):b≠g:=by
 rintro rfl
 have hl:5 < (E.cs x).length:=by rw [E.len];exact hk
 have hc:=h 5 _ (List.getElem?_eq_getElem hl)
 rcases box_holds hb hc with ⟨h1,_⟩ | h1 <;> omega
theorem el_put {W:World} {g b o:Nat} {α:Type} {E:Enc α} {x:α} (h:ElAt E W b o x) (hn:b≠g) (n:Nat) (y:Value):ElAt E (W.setCell ⟨g,n,none⟩ y) b o x:=fun j v hj=>by
 rw [World.cell?_setCell_other]
 ·exact h j v hj
 ·intro e
  simp only [Addr.mk.injEq] at e
  omega
theorem els_put {α:Type} {E:Enc α} {W:World} {g:Nat} {t:TypeId} {k:Key} {v:Value} {L:List α} (hb:BoxE Fa.encK W g t k) (h:ElsV E W v L) (hk:5 < E.k) (n:Nat) (y:Value):ElsV E (W.setCell ⟨g,n,none⟩ y) v L:=by
 obtain ⟨p,c,e,h1,h2,h3,hc⟩:=h
 exact ⟨p,c,e,h1,h2,h3,fun i x hx=>by
  obtain ⟨b,o,ep,hat⟩:=hc i x hx
  exact ⟨b,o,ep,el_put hat (el_apart hb hat hk) n y⟩⟩
theorem facts_put {W:World} {g:Nat} {t:TypeId} {k:Key} {v:Value} {L:List Fact} (hb:BoxE Fa.encK W g t k) (h:FactsV W v L) (n:Nat) (y:Value):FactsV (W.setCell ⟨g,n,none⟩ y) v L:=els_put hb h (by decide) n y
theorem flows_put {W:World} {g:Nat} {t:TypeId} {k:Key} {v:Value} {L:List Fl.Flow} (hb:BoxE Fa.encK W g t k) (h:Fl.FlowsV W v L) (h2:2≤L.length) (n:Nat) (y:Value):Fl.FlowsV (W.setCell ⟨g,n,none⟩ y) v L:=by
 obtain ⟨p,c,e,h1,h4,h3,hc⟩:=h
 obtain ⟨b,o,ep,hat⟩:=hc 0 _ (List.getElem?_eq_getElem (by omega))
 obtain ⟨b',o',ep',hat'⟩:=hc 1 _ (List.getElem?_eq_getElem (by omega))
 rw [ep] at ep'
 cases ep'
 have hn:b≠g:=by
  rintro rfl
  have c0:=hat 1 _ rfl
  have c1:=hat' 1 _ rfl
  have c2:=hat' 0 _ rfl
  rw [show Fl.encF.k=2 from rfl] at c0 c1 c2
  rcases box_holds hb c0 with ⟨_,s,h5⟩ | h5
  ·cases h5
  ·rcases box_holds hb c1 with ⟨h6,_⟩ | h6 <;> omega
 refine ⟨p,c,e,h1,h4,h3,fun i x hx=>?_⟩
 obtain ⟨b2,o2,e2,hat2⟩:=hc i x hx
 rw [ep] at e2
 cases e2
 exact ⟨b,o,ep,el_put hat2 hn n y⟩
theorem nine_put {W:World} {g b:Nat} {c f e l:Value} {M:Mast} (h:NineAt W b c f e l M) (hne:b≠g) (n:Nat) (y:Value):NineAt (W.setCell ⟨g,n,none⟩ y) b c f e l M:=by
 have key:∀ (o:Nat) (v:Value),W.cell? ⟨b,o,none⟩=some v→(W.setCell ⟨g,n,none⟩ y).cell? ⟨b,o,none⟩=some v:=fun o v hv=>by
  rw [World.cell?_setCell_other]
  ·exact hv
  ·intro e4
   simp only [Addr.mk.injEq] at e4
   omega
 obtain ⟨a0,a1,a2,a3,a4,a5,a6,a7,a8⟩:=h
 exact ⟨key _ _ a0,key _ _ a1,key _ _ a2,key _ _ a3,key _ _ a4,key _ _ a5,key _ _ a6,key _ _ a7,key _ _ a8⟩
theorem two_flows {M:Mast} (h:allE M=0):2≤M.flows.length:=by
 obtain ⟨_,_,_,hw,_⟩:=allE_parts h
 unfold Fl.wholeF at hw
 simp only [Bool.and_eq_true] at hw
 have h0:=hw.1.1.1
 have h4:=hw.2
 have one:∀ n,Fl.hasF M.flows n=true→∃ f∈M.flows,f.kind=n:=fun n hn=>by
  unfold Fl.hasF at hn
  obtain ⟨c,hc⟩:=List.exists_mem_of_length_pos (of_decide_eq_true hn)
  obtain ⟨f,hf,hk,_⟩:=Fl.mem_of.1 hc
  exact ⟨f,hf,hk⟩
 obtain ⟨f,hf,hk⟩:=one 0 h0
 obtain ⟨g,hg,hk'⟩:=one 4 h4
 generalize M.flows=L at hf hg
 match L with
 | []=>cases hf
 | [a] =>
   obtain rfl:=List.mem_singleton.1 hf
   obtain rfl:=List.mem_singleton.1 hg
   omega
 | a::b::r=>simp
def lastF (L:List Fl.Flow) (d:ByteArray):ByteArray:=(Fl.ofF L 0).getLast?.getD d
theorem last_yes {L:List Fl.Flow} {d:ByteArray} {f:Fl.Flow} (h:f.kind=0):lastF (L++[f]) d=f.code:=by
 unfold lastF
 rw [Fl.ofF_snoc,if_pos h,List.getLast?_append]
 rfl
theorem last_no {L:List Fl.Flow} {d:ByteArray} {f:Fl.Flow} (h:f.kind≠0):lastF (L++[f]) d=lastF L d:=by
 unfold lastF
 rw [Fl.ofF_snoc,if_neg h]
theorem last_first {M:Mast} (hr:Fl.riseF M.flows=true) (h0:Fl.hasF M.flows 0=true) (d:ByteArray):lastF M.flows d=firstF M:=by
 have h2:=ones_len (Fl.rise_ones hr) (n:=0) (by omega) (by omega) h0
 rw [←Fl.ofF_length] at h2
 unfold lastF firstF
 match h3:Fl.ofF M.flows 0,h2 with
 | [x],_=>rfl
end Go.Proofs.YtfhhihamndbcnaaGreatDoor.Cy
end
section
namespace Go.Proofs.YtfhhihamndbcnaaGreatDoor.Cy
open Go.ChangeShapes Go.WideShapes Go.ChangeAt Go.RowKit Go.Deep Go.Proofs.YtfhhihamndbcnaaGreatDoor.Fa
set_option maxRecDepth 100000
theorem in_of_wf_i16 {a:Int} (h:(Lit.int .i16 a).wf=true):In16 a:=by
 have e1:IntKind.i16.min=-32768:=rfl
 have e2:IntKind.i16.max=32767:=rfl
 simp [Lit.wf,e1,e2] at h
 exact h
def encM:Enc { x:Key × Int // In64 x.1.m∧In16 x.2 } where
 cs x:=encK.cs x.1.1++[.int .i16 x.1.2]
 k:=6
 len _:=rfl
 pos:=by decide
 one x:=by
  intro v hv
  rcases List.mem_append.1 hv with h | h
  ·exact encK.one _ v h
  ·simp at h;subst h;rfl
section
variable {H:Type} {enc:TypeId × Value→H} {W:World} {base:Nat} {sp:Nat→Bool} {held:Bool}
theorem more_cells (fuel:Nat) (cs:List Value) (x:DataW H × List MemPlace) (h:DataW.trod enc Tryz.prog W base sp held fuel 77 cs=some x):∃ a:{ x:Key × Int // In64 x.1.m∧In16 x.2 },cs=encM.cs a:=by
 obtain ⟨xs,n,_,_,hl,hxl,hg⟩:=DataW.trod_struct Tryz.underlying77 h
 have hC:Tryz.prog.cellsOf 77=6:=by kernel_rfl
 have cK:Tryz.prog.cellsOf 74=5:=by kernel_rfl
 have cI:Tryz.prog.cellsOf 75=1:=by kernel_rfl
 match cs,hl.trans hC,xs,hxl with
 | [c0,c1,c2,c3,c4,c5],_,[y0,y1],_ =>
   have g0:=hg 0 _ rfl
   have g1:=hg 1 _ rfl
   simp [cK,cI] at g0 g1
   obtain ⟨k,hk⟩:=key_cells _ _ _ g0
   obtain ⟨i5,e5,_,z5⟩:=DataW.trod_int Tryz.underlying75 g1
   simp at e5
   subst e5
   have hk':[c0,c1,c2,c3,c4]=[Value.string k.1.e,.string k.1.a,.string k.1.f,.string k.1.p,.int .i64 k.1.m]:=hk
   simp only [List.cons.injEq,and_true] at hk'
   obtain ⟨rfl,rfl,rfl,rfl,rfl⟩:=hk'
   exact ⟨⟨(k.1,i5),k.2,in_of_wf_i16 z5⟩,rfl⟩
theorem more_open {r:Reach} {b0:Nat} {v:Value} {d:DataW H} {p:List MemPlace} (hv:Value.okWide Tryz.prog W r b0 77 v) (h:DataW.Trod enc Tryz.prog W base sp held 77 v d p):∃ (k:Key) (n:Int),v=.agg #[.string k.e,.string k.a,.string k.f,.string k.p,.int .i64 k.m,.int .i16 n]∧In64 k.m∧In16 n:=by
 obtain ⟨a,rfl⟩:=el_open (E:=encM) Tryz.underlying77 more_cells hv h
 exact ⟨a.1.1,a.1.2,rfl,a.2.1,a.2.2⟩
end
end Go.Proofs.YtfhhihamndbcnaaGreatDoor.Cy
end
section
namespace Go.Proofs.YtfhhihamndbcnaaGreatDoor.Cy
open Go.RowKit Go.Maps Go.Proofs.YtfhhihamndbcnaaGreatDoor.Un Go.Proofs.YtfhhihamndbcnaaGreatDoor.Pk Go.Proofs.YtfhhihamndbcnaaGreatDoor.Co
open Go.Proofs.YtfhhihamndbcnaaGreatDoor.Fa (Key Fact encF key5 fact6 FactsV CubeTold)
structure MoreAt (w:World) (b:Nat) (k:Key) (n:Int):Prop where
 c0:w.cell? ⟨b,0,none⟩=some (.string k.e)
 c1:w.cell? ⟨b,1,none⟩=some (.string k.a)
 c2:w.cell? ⟨b,2,none⟩=some (.string k.f)
 c3:w.cell? ⟨b,3,none⟩=some (.string k.p)
 c4:w.cell? ⟨b,4,none⟩=some (.int .i64 k.m)
 c5:w.cell? ⟨b,5,none⟩=some (.int .i16 n)
theorem more_new (w:World) (k:Key) (n:Int) (t:TypeId):MoreAt (w.alloc (.cells #[.string k.e,.string k.a,.string k.f,.string k.p,.int .i64 k.m,.int .i16 n] t)) w.heap.size k n :=
 ⟨by rw [cell_of_row _ w.heap.size 0 _ t (0,0) (heap_alloc_new w _)];rfl,by rw [cell_of_row _ w.heap.size 1 _ t (0,0) (heap_alloc_new w _)];rfl,by rw [cell_of_row _ w.heap.size 2 _ t (0,0) (heap_alloc_new w _)];rfl,by rw [cell_of_row _ w.heap.size 3 _ t (0,0) (heap_alloc_new w _)];rfl,by rw [cell_of_row _ w.heap.size 4 _ t (0,0) (heap_alloc_new w _)];rfl,by rw [cell_of_row _ w.heap.size 5 _ t (0,0) (heap_alloc_new w _)];rfl⟩
theorem MoreAt.kept {w w':World} {b:Nat} {k:Key} {n:Int} (h:MoreAt w b k n) (hb:Below w.heap.size w w'):MoreAt w' b k n :=
 ⟨(hb.cell (World.block_lt_of_cell? w _ h.c0)).trans h.c0,(hb.cell (World.block_lt_of_cell? w _ h.c1)).trans h.c1,(hb.cell (World.block_lt_of_cell? w _ h.c2)).trans h.c2,(hb.cell (World.block_lt_of_cell? w _ h.c3)).trans h.c3,(hb.cell (World.block_lt_of_cell? w _ h.c4)).trans h.c4,(hb.cell (World.block_lt_of_cell? w _ h.c5)).trans h.c5⟩
set_option maxRecDepth 100000 in
set_option maxHeartbeats 16000000 in
theorem carryChecks_walk (s0 s1:ByteArray) (k:Key) (n:Int) (w:World) (_hs0:s0.size≤maxLen) (_hs1:s1.size≤maxLen) (_hk:In64 k.m) (hn:In16 n) (hU:LaidP w):Calls Tryz.prog 7 #[.string s0,.string s1,.agg #[.string k.e,.string k.a,.string k.f,.string k.p,.int .i64 k.m,.int .i16 n]] w fun en w'=>en=.returned (.bool true)∧Below w.heap.size w w':=by
 have hb0:=(Below.refl w.heap.size w).alloc (Nat.le_refl _) (.cells #[.string k.e,.string k.a,.string k.f,.string k.p,.int .i64 k.m,.int .i16 n] 77)
 have hg0:=more_new w k n 77
 obtain ⟨W0,hW0⟩:∃ W0,w.alloc (.cells #[.string k.e,.string k.a,.string k.f,.string k.p,.int .i64 k.m,.int .i16 n] 77)=W0:=⟨_,rfl⟩
 rw [hW0] at hb0 hg0
 have HB0:=Lib.hid hb0
 have HG0:=Lib.hid hg0
 have HL:=Lib.hid (hU.keep HB0.out)
 have HN64:=Lib.hid (show In64 n by obtain ⟨h1,h2⟩:=hn;exact ⟨by omega,by omega⟩)
 obtain ⟨hn1,hn2⟩:=hn
 clear hU hb0 hg0 _hs0 _hs1 _hk
 go_enter Tryz.func7,Tryz.ntmps7
 go_wp2_with fail
 clear hW0
 refine (alive13_any _ HL.out).mono ?_
 rintro en v1 ⟨rfl,hb1⟩
 have HB1:=Lib.hid (HB0.out.trans (hb1.mono HB0.out.size))
 have HG1:=Lib.hid (HG0.out.kept hb1)
 have HL1:=Lib.hid (HL.out.keep hb1)
 clear hb1 HB0 HG0 HL
 obtain ⟨y0,y1,y2,y3,y4,y5⟩:=HG1.out
 have t0:=fun q:Past v1=>cell_past y0 q
 have t1:=fun q:Past v1=>cell_past y1 q
 have t2:=fun q:Past v1=>cell_past y2 q
 have t3:=fun q:Past v1=>cell_past y3 q
 have t4:=fun q:Past v1=>cell_past y4 q
 have t5:=fun q:Past v1=>cell_past y5 q
 clear y0 y1 y2 y3 y4 y5
 go_wp2_with fail
 refine wp_region_plan (.one [0,1,2,3] 4 (.one [] 5 (.last [6]))) (by kernel_rfl) (by kernel_rfl) (fun d _ _ _ _ h=>by cases d <;> exact h) ?_
 obtain ⟨wz,hwz⟩:∃ wz,v1.drew=wz:=⟨_,rfl⟩
 rw [hwz]
 have HDX:Hid (Below v1.heap.size v1 wz):=Lib.hid (by rw [←hwz];exact ⟨rfl,rfl,rfl,Nat.le_refl _,fun _ _=>rfl⟩)
 clear hwz
 simp only [wpPlan,pick,nth]
 repeat (go_big_quiet_step (fail))
 refine wpQuiet_nil ?_
 clear t0 t1 t2 t3 t4 t5
 intro K hK
 refine alone_want (by kernel_rfl) ?_
 go_big_op
 have HBA:=Lib.hid (HDX.out.alloc HDX.out.size (.cells #[.string ⟨#[]⟩,.string ⟨#[]⟩,.string ⟨#[]⟩,.string ⟨#[]⟩,.int .i64 0] 74))
 refine hK _ _ (past_in HBA.out) ?_
 clear hK K
 refine wpQuiet_nil ?_
 intro K hK
 refine alone_want (by kernel_rfl) ?_
 refine wp_store_boxK (E:=Fa.encK) 74 (.tmp 7) (.tmp 23) rfl wz.heap.size 74 keyZ k rfl rfl (BoxE.new Fa.encK wz keyZ _) (by kernel_rfl) ?_
 intro w1 hk1 hg1
 have HBB:=Lib.hid (HBA.out.grown hg1 HBA.out.size (fun j hj=>by cases hj;exact HDX.out.size))
 refine hK _ _ (past_in HBB.out) ?_
 clear hK K
 simp only [Act.put]
 repeat (go_big_quiet_step (fail))
 refine wpQuiet_nil ?_
 have HKB1:=Lib.hid hk1
 have HGS:=Lib.hid HDX.out.size
 have HB1':=Lib.hid (HB1.out.trans (HBB.out.mono HB1.out.size))
 have HL1':=Lib.hid (HL1.out.keep HBB.out)
 clear hk1 hg1 HBA HBB HL1 HG1
 obtain ⟨g,hg⟩:∃ g,wz.heap.size=g:=⟨_,rfl⟩
 rw [hg] at HKB1 HGS ⊢
 clear hg HDX
 have HGW:Hid (w.heap.size≤g):=Lib.hid (Nat.le_trans HB1.out.size HGS.out)
 clear HB1 HGS
 go_wp2_with fail
 refine (master_any s0 _ HL1'.out.1 HL1'.out.2.1).mono ?_
 rintro en w2 ⟨M,c,f,e,l,c',f',e',l',is,rfl,hm,hm',hb2,his⟩
 obtain ⟨pc,cc,pf,cf,pe,ce,pl,cl,rfl,rfl,rfl,rfl⟩:=shapes hm
 obtain ⟨pc',cc',pf',cf',pe',ce',pl',cl',rfl,rfl,rfl,rfl⟩:=shapes hm'
 have HM2:=Lib.hid hm
 have HM2':=Lib.hid hm'
 have HB2:=Lib.hid (HB1'.out.trans (hb2.mono HB1'.out.size))
 have HKB2:=Lib.hid (HKB1.out.kept hb2)
 have HNE:=Lib.hid (show w2.heap.size≠g by have:=HKB2.out.lt;omega)
 have HL2:=Lib.hid (HL1'.out.keep hb2)
 have HIS:=Lib.hid his
 clear hm hm' hb2 his HB1' HL1' HKB1
 by_cases hbig:4000 < s1.size
 ·cases is
  all_goals
   go_wp2_with (first
    | (refine wpList_store_mast rfl 31 (.tmp 9) (.tmp 29) rfl w2.heap.size nil4 nil4 nil4 nil4 (.slice pc M.chart.length cc) (.slice pf M.flows.length cf) (.slice pe M.ents.length ce) (.slice pl M.lines.length cl) zeroM M 31 rfl rfl (start1 w2) ⟨rfl,rfl,rfl,rfl⟩ (by kernel_rfl) ?_;intro w3 hb3 hg3;have HX3:=Lib.hid hb3;have HG3:=Lib.hid hg3;clear hb3 hg3)
    | (refine wpList_store_mast rfl 37 (.tmp 10) (.tmp 30) rfl (w2.heap.size+1) nil4 nil4 nil4 nil4 (.slice pc' M.chart.length cc') (.slice pf' M.flows.length cf') (.slice pe' M.ents.length ce') (.slice pl' M.lines.length cl') zeroM M 37 rfl rfl (start_keep HG3.out) ⟨rfl,rfl,rfl,rfl⟩ (by kernel_rfl) ?_;intro w4 hb4 hg4;have HT4:=Lib.hid (two_of HM2.out HM2'.out HX3.out HG3.out hb4 hg4);clear hb4 hg4;have HB4:=Lib.hid (HB2.out.trans (HT4.out.bel.mono HB2.out.size));have HKB4:=Lib.hid (HKB2.out.kept HT4.out.bel);obtain ⟨y0,y1,y2,y3,y4⟩:=key5 HKB4.out.at0;simp only [Nat.zero_add] at y0 y1 y2 y3 y4)
    | fail)
   go_ret
   exact ⟨rfl,HB4.out⟩
 by_cases hn0:n=0
 ·subst hn0
  cases is
  all_goals
   go_wp2_with (first
    | (refine wpList_store_mast rfl 31 (.tmp 9) (.tmp 29) rfl w2.heap.size nil4 nil4 nil4 nil4 (.slice pc M.chart.length cc) (.slice pf M.flows.length cf) (.slice pe M.ents.length ce) (.slice pl M.lines.length cl) zeroM M 31 rfl rfl (start1 w2) ⟨rfl,rfl,rfl,rfl⟩ (by kernel_rfl) ?_;intro w3 hb3 hg3;have HX3:=Lib.hid hb3;have HG3:=Lib.hid hg3;clear hb3 hg3)
    | (refine wpList_store_mast rfl 37 (.tmp 10) (.tmp 30) rfl (w2.heap.size+1) nil4 nil4 nil4 nil4 (.slice pc' M.chart.length cc') (.slice pf' M.flows.length cf') (.slice pe' M.ents.length ce') (.slice pl' M.lines.length cl') zeroM M 37 rfl rfl (start_keep HG3.out) ⟨rfl,rfl,rfl,rfl⟩ (by kernel_rfl) ?_;intro w4 hb4 hg4;have HT4:=Lib.hid (two_of HM2.out HM2'.out HX3.out HG3.out hb4 hg4);clear hb4 hg4;have HB4:=Lib.hid (HB2.out.trans (HT4.out.bel.mono HB2.out.size));have HKB4:=Lib.hid (HKB2.out.kept HT4.out.bel);obtain ⟨y0,y1,y2,y3,y4⟩:=key5 HKB4.out.at0;simp only [Nat.zero_add] at y0 y1 y2 y3 y4)
    | fail)
   go_ret
   exact ⟨rfl,HB4.out⟩
 have hn00:(n==0)=false:=by simpa using hn0
 have HN0:=Lib.hid hn0
 clear hn0
 cases is with
 | false =>
   go_wp2_with (first
    | (refine wpList_store_mast rfl 31 (.tmp 9) (.tmp 29) rfl w2.heap.size nil4 nil4 nil4 nil4 (.slice pc M.chart.length cc) (.slice pf M.flows.length cf) (.slice pe M.ents.length ce) (.slice pl M.lines.length cl) zeroM M 31 rfl rfl (start1 w2) ⟨rfl,rfl,rfl,rfl⟩ (by kernel_rfl) ?_;intro w3 hb3 hg3;have HX3:=Lib.hid hb3;have HG3:=Lib.hid hg3;clear hb3 hg3)
    | (refine wpList_store_mast rfl 37 (.tmp 10) (.tmp 30) rfl (w2.heap.size+1) nil4 nil4 nil4 nil4 (.slice pc' M.chart.length cc') (.slice pf' M.flows.length cf') (.slice pe' M.ents.length ce') (.slice pl' M.lines.length cl') zeroM M 37 rfl rfl (start_keep HG3.out) ⟨rfl,rfl,rfl,rfl⟩ (by kernel_rfl) ?_;intro w4 hb4 hg4;have HT4:=Lib.hid (two_of HM2.out HM2'.out HX3.out HG3.out hb4 hg4);clear hb4 hg4;have HB4:=Lib.hid (HB2.out.trans (HT4.out.bel.mono HB2.out.size));have HKB4:=Lib.hid (HKB2.out.kept HT4.out.bel);obtain ⟨y0,y1,y2,y3,y4⟩:=key5 HKB4.out.at0;simp only [Nat.zero_add] at y0 y1 y2 y3 y4)
    | fail)
   go_ret
   exact ⟨rfl,HB4.out⟩
 | true =>
 go_wp2_with (first
  | (refine wpList_store_mast rfl 31 (.tmp 9) (.tmp 29) rfl w2.heap.size nil4 nil4 nil4 nil4 (.slice pc M.chart.length cc) (.slice pf M.flows.length cf) (.slice pe M.ents.length ce) (.slice pl M.lines.length cl) zeroM M 31 rfl rfl (start1 w2) ⟨rfl,rfl,rfl,rfl⟩ (by kernel_rfl) ?_;intro w3 hb3 hg3;have HX3:=Lib.hid hb3;have HG3:=Lib.hid hg3;clear hb3 hg3)
  | (refine wpList_store_mast rfl 37 (.tmp 10) (.tmp 30) rfl (w2.heap.size+1) nil4 nil4 nil4 nil4 (.slice pc' M.chart.length cc') (.slice pf' M.flows.length cf') (.slice pe' M.ents.length ce') (.slice pl' M.lines.length cl') zeroM M 37 rfl rfl (start_keep HG3.out) ⟨rfl,rfl,rfl,rfl⟩ (by kernel_rfl) ?_;intro w4 hb4 hg4;have HT4:=Lib.hid (two_of HM2.out HM2'.out HX3.out HG3.out hb4 hg4);clear hb4 hg4;have HB4:=Lib.hid (HB2.out.trans (HT4.out.bel.mono HB2.out.size));have HKB4:=Lib.hid (HKB2.out.kept HT4.out.bel);obtain ⟨y0,y1,y2,y3,y4⟩:=key5 HKB4.out.at0;simp only [Nat.zero_add] at y0 y1 y2 y3 y4)
  | fail)
 clear y0 y1 y2 y3 y4
 have HL4:=Lib.hid (HL2.out.keep HT4.out.bel)
 clear HM2 HM2' HB2 HL2 HX3 HG3 HKB2
 have hb5:=(Below.refl w4.heap.size w4).alloc (Nat.le_refl _) (.cells (flat encF [(⟨k,0⟩:Fact)]).toArray 79)
 have HX5:=Lib.hid (els_new encF w4 [(⟨k,0⟩:Fact)] 79 (by simp [maxLen]))
 have HB5:=Lib.hid (HB4.out.trans (hb5.mono HB4.out.size))
 have HT5:=Lib.hid (HT4.out.keep hb5)
 have HKB5:=Lib.hid (HKB4.out.kept hb5)
 have HL5:=Lib.hid (HL4.out.keep hb5)
 clear HB4 HT4 HKB4 HL4
 clear hb5
 refine (Fa.few_any _ [(⟨k,0⟩:Fact)] _ HX5.out).mono ?_
 rintro en w6 ⟨rfl,hb6⟩
 have HB6:=Lib.hid (HB5.out.trans (hb6.mono HB5.out.size))
 have HT6:=Lib.hid (HT5.out.keep hb6)
 have HKB6:=Lib.hid (HKB5.out.kept hb6)
 have HL6:=Lib.hid (HL5.out.keep hb6)
 clear HB5 HT5 HKB5 HL5
 clear hb6 HX5
 cases hfew:Fa.fewL [(⟨k,0⟩:Fact)] with
 | false =>
   go_wp2
   go_ret
   exact ⟨rfl,HB6.out⟩
 | true =>
 clear hfew
 have hR:=(HIS.out (by first | trivial | rfl)).1
 have HSN:=Lib.hid hR.inv.sane
 have HOP:=Lib.hid (opn_of hR.inv.sane hR.all)
 have HON:=Lib.hid (opens_of hR.inv.sane.fl (has_open hR.all))
 have HTW:=Lib.hid (two_flows hR.all)
 have hsz:s1.size≤4000:=by omega
 have HSZ:=Lib.hid hsz
 have HPP:=Lib.hid (fun W h hL=>pparse_any (.slice pc M.chart.length cc) (.slice pf M.flows.length cf) (.slice pe M.ents.length ce) (.slice pl M.lines.length cl) M s1 W h HSN.out hL (by have:=HSZ.out;omega))
 obtain ⟨PR,hPR⟩:∃ PR,parseP M s1=PR:=⟨_,rfl⟩
 have HRD:=Lib.hid (read_of (c:=PR.1) (er:=PR.2) hPR hsz)
 simp only [hPR] at HPP
 obtain ⟨C1,e1⟩:=PR
 dsimp only at HRD
 clear hR hsz hPR hbig
 obtain ⟨n0,n1,n2,n3,n4,n5,n6,n7,n8⟩:=HT6.out.nine
 go_wp2_with fail
 clear n0 n1 n2 n3 n4 n5 n6 n7 n8
 refine (HPP.out _ HT6.out.mast HL6.out.2.2).mono ?_
 rintro en w7 ⟨u7,rfl,hv7,hb7⟩
 dsimp only at hv7
 have HVC7:=Lib.hid hv7
 have HB7:=Lib.hid (HB6.out.trans (hb7.mono HB6.out.size))
 have HT7:=Lib.hid (HT6.out.keep hb7)
 have HKB7:=Lib.hid (HKB6.out.kept hb7)
 have HL7:=Lib.hid (HL6.out.keep hb7)
 clear HB6 HT6 HKB6 HL6
 clear hb7 hv7 HPP
 obtain ⟨BR,hBR⟩:∃ R,bringP M C1 []=R:=⟨_,rfl⟩
 have HBR:=Lib.hid hBR
 have hbl:BR.1.length≤800:=by rw [←hBR];exact bring_few (by have:=HRD.out.2;simp;omega)
 have hbz:∀ x∈BR.1,In64 x.amt:=by rw [←hBR];exact bring_in64 M C1 []
 have HLB:=Lib.hid hbl
 have HBZ:=Lib.hid hbz
 have HCB:Hid (∀ W (v:Value),FlIn W (.slice pc M.chart.length cc) (.slice pf M.flows.length cf) (.slice pe M.ents.length ce) (.slice pl M.lines.length cl) M→FactsV W v C1→Calls Tryz.prog 15 #[aggM (.slice pc M.chart.length cc) (.slice pf M.flows.length cf) (.slice pe M.ents.length ce) (.slice pl M.lines.length cl) M,v,.slice none 0 0] W (CubeTold W BR)):=Lib.hid fun W v h1 h2=>by
  have:=bring_any (.slice pc M.chart.length cc) (.slice pf M.flows.length cf) (.slice pe M.ents.length ce) (.slice pl M.lines.length cl) v (.slice none 0 0) M C1 [] W h1 HOP.out h2 HRD.out.1 (by have:=HRD.out.2;omega) (ElsV.nil _) (fun x hx=>by cases hx) (by simp) (sum_length (by have:=HRD.out.2;omega) (by simp))
  rw [HBR.out] at this
  exact this
 obtain ⟨B,eb⟩:=BR
 dsimp only at HLB HBZ
 clear hBR hbl hbz HL7
 obtain ⟨n0,n1,n2,n3,n4,n5,n6,n7,n8⟩:=HT7.out.nine
 go_wp2_with fail
 clear n0 n1 n2 n3 n4 n5 n6 n7 n8
 refine (HCB.out _ _ (.of HT7.out.mast) HVC7.out).mono ?_
 rintro en w8 ⟨u8,rfl,hv8,hb8⟩
 dsimp only at hv8
 have HVB8:=Lib.hid hv8
 have HB8:=Lib.hid (HB7.out.trans (hb8.mono HB7.out.size))
 have HT8:=Lib.hid (HT7.out.keep hb8)
 have HKB8:=Lib.hid (HKB7.out.kept hb8)
 have HVC8:=Lib.hid (ElsV.keep HVC7.out hb8)
 clear HB7 HT7 HKB7 HVC7
 clear hb8 hv8 HCB
 by_cases he1:e1=0
 ·subst he1
  by_cases heb:eb=0
  ·subst heb
   have hlf:=HOP.out.flen
   have hfl8:=HT8.out.mast.flows
   have HF8:=Lib.hid hfl8
   have HN8:=Lib.hid HT8.out.nine
   clear hfl8 HT8
   obtain ⟨n0,n1,n2,n3,n4,n5,n6,n7,n8⟩:=HN8.out
   go_wp2_with fail
   clear n0 n1 n2 n3 n4 n5 n6 n7 n8
   go_loopw [71] (fun s71 wr=>∃ (i:Nat) (c:ByteArray),s71=.int .i64 (i:Int)∧i≤M.flows.length∧Hid (lastF (M.flows.take i) k.f=c)∧Hid (BoxE Fa.encK wr g 74 ⟨k.e,k.a,c,k.p,k.m⟩)∧Hid (Fl.FlowsV wr (.slice pf M.flows.length cf) M.flows)∧Hid (NineAt wr w2.heap.size (.slice pc M.chart.length cc) (.slice pf M.flows.length cf) (.slice pe M.ents.length ce) (.slice pl M.lines.length cl) M)∧Hid (FactsV wr u7 C1)∧Hid (FactsV wr u8 B)∧Hid (Below w.heap.size w wr)) (fun s71 _=>M.flows.length - (intOf s71).toNat)
   case atStart=>exact ⟨0,k.f,rfl,Nat.zero_le _,Lib.hid rfl,HKB8,HF8,HN8,HVC8,HVB8,HB8⟩
   case round =>
    obtain ⟨i,c,rfl,hi,HC,HKR,HFR,HNR,HVCR,HVBR,HBR2⟩:=hrel
    by_cases hlt:i < M.flows.length
    ·obtain ⟨fl,hx⟩:∃ x,M.flows[i]?=some x:=⟨_,List.getElem?_eq_getElem hlt⟩
     obtain ⟨b,o,e',hat⟩:=Fa.ElsV.at_ HFR.out hx
     cases e'
     have HTK:Hid (M.flows.take (i+1)=M.flows.take i++[fl]):=Lib.hid (by rw [List.take_add_one,hx];rfl)
     obtain ⟨fc,fk⟩:=fl
     have r0:=hat 0 _ rfl
     have r1:=hat 1 _ rfl
     simp only [Nat.add_zero] at r0 r1
     have hq1:=(Below.refl wr.heap.size wr).alloc (Nat.le_refl _) (.cells #[.string fc,.int .i64 fk] 81)
     have hf1:BoxE Fl.encF (wr.alloc (.cells #[.string fc,.int .i64 fk] 81)) wr.heap.size 81 ⟨fc,fk⟩:=BoxE.new Fl.encF wr ⟨fc,fk⟩ _
     have HB1:=Lib.hid (HBR2.out.trans (hq1.mono HBR2.out.size))
     have HK1:=Lib.hid (HKR.out.kept hq1)
     have HF1:=Lib.hid (HFR.out.keep hq1)
     have HN1:=Lib.hid (HNR.out.kept hq1)
     have HVC1:=Lib.hid (ElsV.keep HVCR.out hq1)
     have HVB1:=Lib.hid (ElsV.keep HVBR.out hq1)
     obtain ⟨c0,c1⟩:=Fl.box hf1
     clear hx hat hq1 hf1
     by_cases hk:fk=0
     ·have HLS:Hid (lastF (M.flows.take (i+1)) k.f=fc):=Lib.hid (by rw [HTK.out];exact last_yes hk)
      subst hk
      have hfz:=box_free HK1.out 2
      obtain ⟨y0,y1,y2,y3,y4⟩:=key5 HK1.out.at0
      simp only [Nat.zero_add] at y0 y1 y2 y3 y4
      have HK2:=Lib.hid (box_fl HK1.out fc)
      have HF2:=Lib.hid (flows_put HK1.out HF1.out HTW.out 2 (.string fc))
      have HN2:=Lib.hid (nine_put HN1.out HNE.out 2 (.string fc))
      have HVC2:=Lib.hid (facts_put HK1.out HVC1.out 2 (.string fc))
      have HVB2:=Lib.hid (facts_put HK1.out HVB1.out 2 (.string fc))
      have HB2:=Lib.hid (HB1.out.setCell (p:=⟨g,2,none⟩) HGW.out (.string fc))
      clear HK1 HF1 HN1 HVC1 HVB1 HB1 y0 y1 y3 y4
      go_wp2
      go_roundw
      case rel=>exact ⟨i+1,fc,by go_num,by omega,HLS,HK2,HF2,HN2,HVC2,HVB2,HB2⟩
      case measure=>simp [intOf];omega
     ·have hk1:(fk==0)=false:=by simpa using hk
      have HLS:Hid (lastF (M.flows.take (i+1)) k.f=c):=Lib.hid (by rw [HTK.out,last_no hk];exact HC.out)
      clear hk
      go_wp2
      go_roundw
      case rel=>exact ⟨i+1,c,by go_num,by omega,HLS,HK1,HF1,HN1,HVC1,HVB1,HB1⟩
      case measure=>simp [intOf];omega
    ·rename World=>w9
     have HCF:Hid (c=firstF M):=Lib.hid (by
      have:=HC.out
      rw [List.take_of_length_le (by omega),last_first HSN.out.fl HOP.out.has] at this
      exact this.symm)
     obtain ⟨DR,hDR⟩:∃ R,Fa.ofL (B++[(⟨⟨k.e,k.a,c,k.p,1⟩,n⟩:Fact)])=R:=⟨_,rfl⟩
     have HDR:=Lib.hid hDR
     have hdz:=ofL_in64 (B++[(⟨⟨k.e,k.a,c,k.p,1⟩,n⟩:Fact)])
     have hdl:=Fa.ofL_length (B++[(⟨⟨k.e,k.a,c,k.p,1⟩,n⟩:Fact)])
     rw [hDR] at hdz hdl
     rw [List.length_append,List.length_singleton] at hdl
     have HDZ:=Lib.hid hdz
     have HDL:Hid (DR.1.length≤801):=Lib.hid (by have:=HLB.out;omega)
     obtain ⟨D,ed⟩:=DR
     dsimp only at HDZ HDL
     clear hDR hdz hdl
     have HK10:=Lib.hid (box_set HKR.out 1)
     have HF10:=Lib.hid (flows_put HKR.out HFR.out HTW.out 4 (.int .i64 1))
     have HN10:=Lib.hid (nine_put HNR.out HNE.out 4 (.int .i64 1))
     have HVC10:=Lib.hid (facts_put HKR.out HVCR.out 4 (.int .i64 1))
     have HVB10:=Lib.hid (facts_put HKR.out HVBR.out 4 (.int .i64 1))
     have HB10:=Lib.hid (HBR2.out.setCell (p:=⟨g,4,none⟩) HGW.out (.int .i64 1))
     have hfz:=box_free HKR.out 4
     have hb11:=(Below.refl (w9.setCell ⟨g,4,none⟩ (.int .i64 1)).heap.size (w9.setCell ⟨g,4,none⟩ (.int .i64 1))).alloc (Nat.le_refl _) (.cells (flat encF [(⟨⟨k.e,k.a,c,k.p,1⟩,n⟩:Fact)]).toArray 79)
     have hx11:=els_new encF (w9.setCell ⟨g,4,none⟩ (.int .i64 1)) [(⟨⟨k.e,k.a,c,k.p,1⟩,n⟩:Fact)] 79 (by simp [maxLen])
     rw [show (w9.setCell ⟨g,4,none⟩ (.int .i64 1)).heap.size=w9.heap.size by simp [World.setCell]] at hx11
     have HX11:=Lib.hid hx11
     have HF11:=Lib.hid (HF10.out.keep hb11)
     have HN11:=Lib.hid (HN10.out.kept hb11)
     have HVC11:=Lib.hid (ElsV.keep HVC10.out hb11)
     have HVB11:=Lib.hid (ElsV.keep HVB10.out hb11)
     have HB11:=Lib.hid (HB10.out.trans (hb11.mono HB10.out.size))
     obtain ⟨y0,y1,y2,y3,y4⟩:=key5 HKR.out.at0
     obtain ⟨z0,z1,z2,z3,z4⟩:=key5 HK10.out.at0
     simp only [Nat.zero_add] at y0 y1 y2 y3 y4 z0 z1 z2 z3 z4
     clear hx11 hb11 HK10 HF10 HN10 HVC10 HVB10 HB10 HKR HFR HNR HVCR HVBR HBR2
     go_wp2_with fail
     clear hfz y0 y1 y2 y3 y4 z0 z1 z2 z3 z4
     refine (Fa.theirs_any _ [(⟨⟨k.e,k.a,c,k.p,1⟩,n⟩:Fact)] _ HX11.out (by simp)).mono ?_
     rintro en w12 ⟨u12,rfl,ho12,hb12⟩
     have HO12:=Lib.hid (els_of_own (E:=encF) (L:=[(⟨⟨k.e,k.a,c,k.p,1⟩,n⟩:Fact)]) ho12)
     have HF12:=Lib.hid (HF11.out.keep hb12)
     have HN12:=Lib.hid (HN11.out.kept hb12)
     have HVC12:=Lib.hid (ElsV.keep HVC11.out hb12)
     have HVB12:=Lib.hid (ElsV.keep HVB11.out hb12)
     have HB12:=Lib.hid (HB11.out.trans (hb12.mono HB11.out.size))
     clear hb12 ho12 HX11 HF11 HN11 HVC11 HVB11 HB11
     have HAD:=Lib.hid (Fa.add_many u8 u12 B [(⟨⟨k.e,k.a,c,k.p,1⟩,n⟩:Fact)] w12 HVB12.out HO12.out HBZ.out (fun x hx=>by rw [List.mem_singleton.1 hx];exact HN64.out) (by have:=HLB.out;simp only [List.length_singleton];omega))
     rw [HDR.out] at HAD
     go_wp2_with fail
     refine HAD.out.mono ?_
     rintro en w13 ⟨u13,rfl,hv13,hb13⟩
     dsimp only at hv13
     have HVD13:=Lib.hid hv13
     have HF13:=Lib.hid (HF12.out.keep hb13)
     have HN13:=Lib.hid (HN12.out.kept hb13)
     have HVC13:=Lib.hid (ElsV.keep HVC12.out hb13)
     have HVB13:=Lib.hid (ElsV.keep HVB12.out hb13)
     have HB13:=Lib.hid (HB12.out.trans (hb13.mono HB12.out.size))
     clear hb13 hv13 HAD HO12 HF12 HN12 HVC12 HVB12 HB12
     by_cases hed:ed=0
     ·subst hed
      have HCM:=Lib.hid (check_more HON.out HN0.out HBR.out HCF.out HDR.out)
      obtain ⟨cd,hcd⟩:∃ x,checkP M C1 D=x:=⟨_,rfl⟩
      rw [hcd] at HCM
      have hcd1:(cd != 0)=true:=by simpa using HCM.out
      have HCC:Hid (∀ W (v u:Value),FlIn W (.slice pc M.chart.length cc) (.slice pf M.flows.length cf) (.slice pe M.ents.length ce) (.slice pl M.lines.length cl) M→FactsV W v C1→FactsV W u B→Calls Tryz.prog 19 #[aggM (.slice pc M.chart.length cc) (.slice pf M.flows.length cf) (.slice pe M.ents.length ce) (.slice pl M.lines.length cl) M,v,u] W fun en w'=>en=.returned (.int .i64 0)∧Below W.heap.size W w'):=Lib.hid fun W v u h1 h2 h3=>by
       have:=check_any (.slice pc M.chart.length cc) (.slice pf M.flows.length cf) (.slice pe M.ents.length ce) (.slice pl M.lines.length cl) v u M C1 B W h1 HOP.out h2 HRD.out.1 (by have:=HRD.out.2;omega) h3 HBZ.out (by have:=HLB.out;omega)
       rw [bring_check HON.out HBR.out] at this
       exact this
      have HCD:Hid (∀ W (v u:Value),FlIn W (.slice pc M.chart.length cc) (.slice pf M.flows.length cf) (.slice pe M.ents.length ce) (.slice pl M.lines.length cl) M→FactsV W v C1→FactsV W u D→Calls Tryz.prog 19 #[aggM (.slice pc M.chart.length cc) (.slice pf M.flows.length cf) (.slice pe M.ents.length ce) (.slice pl M.lines.length cl) M,v,u] W fun en w'=>en=.returned (.int .i64 cd)∧Below W.heap.size W w'):=Lib.hid fun W v u h1 h2 h3=>by
       have:=check_any (.slice pc M.chart.length cc) (.slice pf M.flows.length cf) (.slice pe M.ents.length ce) (.slice pl M.lines.length cl) v u M C1 D W h1 HOP.out h2 HRD.out.1 (by have:=HRD.out.2;omega) h3 HDZ.out (by have:=HDL.out;omega)
       rw [hcd] at this
       exact this
      clear hcd
      obtain ⟨n0,n1,n2,n3,n4,n5,n6,n7,n8⟩:=HN13.out
      go_wp2_with fail
      clear n0 n1 n2 n3 n4 n5 n6 n7 n8
      refine (HCC.out _ _ _ ⟨⟨_,_,_,rfl⟩,HF13.out,⟨_,_,_,rfl⟩,⟨_,_,_,rfl⟩⟩ HVC13.out HVB13.out).mono ?_
      rintro en w14 ⟨rfl,hb14⟩
      have HVD14:=Lib.hid (ElsV.keep HVD13.out hb14)
      have HF14:=Lib.hid (HF13.out.keep hb14)
      have HN14:=Lib.hid (HN13.out.kept hb14)
      have HVC14:=Lib.hid (ElsV.keep HVC13.out hb14)
      have HB14:=Lib.hid (HB13.out.trans (hb14.mono HB13.out.size))
      clear hb14 HVD13 HF13 HN13 HVC13 HVB13 HB13 HCC
      obtain ⟨n0,n1,n2,n3,n4,n5,n6,n7,n8⟩:=HN14.out
      go_wp2_with fail
      clear n0 n1 n2 n3 n4 n5 n6 n7 n8
      refine (HCD.out _ _ _ ⟨⟨_,_,_,rfl⟩,HF14.out,⟨_,_,_,rfl⟩,⟨_,_,_,rfl⟩⟩ HVC14.out HVD14.out).mono ?_
      rintro en w15 ⟨rfl,hb15⟩
      have HB15:=Lib.hid (HB14.out.trans (hb15.mono HB14.out.size))
      clear hb15
      go_wp2
      go_ret
      exact ⟨rfl,HB15.out⟩
     ·have hed1:(ed != 0)=true:=by simpa using hed
      clear hed
      go_wp2
      go_ret
      exact ⟨rfl,HB13.out⟩
  ·have heb1:(eb != 0)=true:=by simpa using heb
   clear heb
   go_wp2
   go_ret
   exact ⟨rfl,HB8.out⟩
 ·have he11:(e1 != 0)=true:=by simpa using he1
  clear he1
  go_wp2
  go_ret
  exact ⟨rfl,HB8.out⟩
end Go.Proofs.YtfhhihamndbcnaaGreatDoor.Cy
end
