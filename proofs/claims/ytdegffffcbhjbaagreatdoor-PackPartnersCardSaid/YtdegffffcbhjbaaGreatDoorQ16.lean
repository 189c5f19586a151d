/- UnitDocSmall -/
import Derived.Test.YtdegffffcbhjbaaGreatDoorQ06
import Derived.Test.YtdegffffcbhjbaaGreatDoorQ15
namespace Go.Proofs.YtdegffffcbhjbaaGreatDoor.Un
open Go.RowKit
def OffV (P:Nat→Prop) (v:Value):Prop:=∀ (ad:Addr) (n c:Nat),v=.slice (some ad) n c→0 < n→P ad.block
def Off1 (w:World) (v v':Value):Prop:=∀ P:Nat→Prop,(∀ b,w.heap.size≤b→P b)→OffV P v→OffV P v'
theorem Off1.refl (w:World) (v:Value):Off1 w v v:=fun _ _ h=>h
theorem Off1.mono {w0 w:World} {v v':Value} (h:Off1 w v v') (hs:w0.heap.size≤w.heap.size):Off1 w0 v v':=fun P hp hv=>h P (fun b hb=>hp b (Nat.le_trans hs hb)) hv
theorem Off1.own {w W:World} {B n s:Nat} {t:TypeId} {v v':Value} {xs:List Value} (h:W.ownsRow B t s v' n xs) (hB:w.heap.size≤B):Off1 w v v':=fun P hp _ ad m c e _=>by
 rcases h.2 with ⟨e1,_⟩ | ⟨g,cap,cur,e1,hb,_⟩
 ·rw [e1] at e;cases e
 ·rw [e1] at e;cases e;exact hp _ (Nat.le_trans hB hb)
theorem Off1.told {α:Type} {E:Enc α} {w w1 w3:World} {v v':Value} {L:List α} {n:Int} (h1:n≠0→v'=v) (h2:n=0→∃ t,w3.ownsRow w1.heap.size t E.k v' L.length (flat E L)) (hs:w.heap.size≤w1.heap.size):Off1 w v v':=by
 by_cases h:n=0
 ·obtain ⟨t,h3⟩:=h2 h
  exact Off1.own h3 hs
 ·rw [h1 h];exact Off1.refl _ _
def Off4 (w:World) (c f e l c' f' e' l':Value):Prop:=Off1 w c c'∧Off1 w f f'∧Off1 w e e'∧Off1 w l l'
theorem Off4.refl (w:World) (c f e l:Value):Off4 w c f e l c f e l:=⟨Off1.refl _ _,Off1.refl _ _,Off1.refl _ _,Off1.refl _ _⟩
theorem els_off {α:Type} {E:Enc α} {P:Nat→Prop} {w w':World} {v:Value} {L:List α} (h:ElsV E w v L) (ho:OffV P v) (hk:∀ b,P b→b < w.heap.size→w'.heap[b]?=w.heap[b]?):ElsV E w' v L:=by
 obtain ⟨p,c,e,h1,h2,h3,hc⟩:=h
 refine ⟨p,c,e,h1,h2,h3,fun i x hx=>?_⟩
 obtain ⟨b,o,e',hat⟩:=hc i x hx
 have hb:=ho ⟨b,o,none⟩ _ _ (by rw [e,e']) (by have:=(List.getElem?_eq_some_iff.1 hx).1;omega)
 exact ⟨b,o,e',fun j u hj=>(World.cell?_of_block (hk b hb hat.lt)).trans (hat j u hj)⟩
theorem off_of_els {α:Type} {E:Enc α} {P:Nat→Prop} {w:World} {v:Value} {L:List α} (h:ElsV E w v L) (hp:∀ b,b < w.heap.size→P b):OffV P v:=fun ad n c e hn=>by
 obtain ⟨p,c',e',_,_,_,hc⟩:=h
 rw [e'] at e
 cases e
 obtain ⟨x,hx⟩:∃ x,L[0]?=some x:=⟨_,List.getElem?_eq_getElem hn⟩
 obtain ⟨b,o,e1,hat⟩:=hc 0 x hx
 cases e1
 exact hp b hat.lt
theorem off_of_mast {P:Nat→Prop} {w:World} {c f e l:Value} {M:Mast} (h:MastIn w c f e l M) (hp:∀ b,b < w.heap.size→P b):OffV P c∧OffV P f∧OffV P e∧OffV P l :=
 ⟨off_of_els (chart_els.1 h.chart) hp,off_of_els h.flows hp,off_of_els h.ents hp,off_of_els h.lines hp⟩
theorem mast_off {P:Nat→Prop} {w w':World} {c f e l:Value} {M:Mast} (h:MastIn w c f e l M) (h0:OffV P c) (h1:OffV P f) (h2:OffV P e) (h3:OffV P l) (hk:∀ b,P b→b < w.heap.size→w'.heap[b]?=w.heap[b]?):MastIn w' c f e l M :=
 ⟨chart_els.2 (els_off (chart_els.1 h.chart) h0 hk),els_off h.flows h1 hk,els_off h.ents h2 hk,els_off h.lines h3 hk⟩
def OneTold (w:World) (c0 f0 e0 l0:Value) (M:Mast) (ws:List ByteArray) (en:Ending) (w':World):Prop :=
 ∃ c f e l M',en=.returned (.tuple #[aggM c f e l M',.int .i64 (stepE M ws)])∧(stepE M ws=0→M'=stepV M ws∧MastIn w' c f e l M')∧Ones c f e l∧Off4 w c0 f0 e0 l0 c f e l∧Below w.heap.size w w'
structure TwoAt (w W:World) (c f e l:Value) (M:Mast):Prop where
 box:BoxM W w.heap.size 36 c f e l M
 res:BoxM W (w.heap.size+1) 36 nil4 nil4 nil4 nil4 zeroM
 bel:Below w.heap.size w W
 mast:MastIn W c f e l M
abbrev two0 (w:World) (c f e l:Value) (M:Mast):World:=(w.alloc (.cells (cellsM c f e l M) 36)).alloc (.cells #[.slice none 0 0,.slice none 0 0,.slice none 0 0,.slice none 0 0,.string ⟨#[]⟩,.string ⟨#[]⟩,.string ⟨#[]⟩,.string ⟨#[]⟩,.string ⟨#[]⟩] 36)
theorem two_start (w:World) {c f e l:Value} {M:Mast} (h:MastIn w c f e l M):TwoAt w (two0 w c f e l M) c f e l M:=by
 have hb:=(Below.refl w.heap.size w).alloc (Nat.le_refl _) (.cells (cellsM c f e l M) 36)
 have hb2:=hb.alloc hb.size (.cells (cellsM nil4 nil4 nil4 nil4 zeroM) 36)
 refine ⟨(BoxM.new w c f e l M _).kept ((Below.refl _ _).alloc (Nat.le_refl _) _),?_,hb2,h.keep hb2⟩
 have:=BoxM.new (w.alloc (.cells (cellsM c f e l M) 36)) nil4 nil4 nil4 nil4 zeroM 36
 rwa [World.size_alloc] at this
theorem TwoAt.below {w W W':World} {c f e l:Value} {M:Mast} (h:TwoAt w W c f e l M) (hb:Below W.heap.size W W'):TwoAt w W' c f e l M :=
 ⟨h.box.kept hb,h.res.kept hb,h.bel.trans (hb.mono h.bel.size),h.mast.keep hb⟩
theorem boxM_free {w:World} {b:Nat} {t:TypeId} {c f e l:Value} {M:Mast} (h:BoxM w b t c f e l M) (o:Nat):w.frozen? ⟨b,o,none⟩=false:=by
 unfold BoxM at h
 simp [World.frozen?,h]
theorem set_below {w W:World} (hb:Below w.heap.size w W) (o:Nat) (u:Value):Below w.heap.size w (W.setCell ⟨w.heap.size,o,none⟩ u):=hb.setCell (p:=⟨w.heap.size,o,none⟩) (Nat.le_refl _) u
theorem box_set {W:World} {g i:Nat} {t:TypeId} {c f e l c' f' e' l':Value} {M N:Mast} {u:Value} (h:BoxM W g t c f e l M) (hs:(cellsM c f e l M).setIfInBounds i u=cellsM c' f' e' l' N):BoxM (W.setCell ⟨g,i,none⟩ u) g t c' f' e' l' N:=by
 unfold BoxM at h ⊢
 rw [Joins.block_setCell h,hs]
theorem formed_no {ws:List ByteArray} (h:formedW ws=false) {M:Mast} (h1:wd ws 0≠tAccount) (h2:wd ws 0≠Fl.tFlow):stepE M ws=5:=by
 unfold stepE
 rw [if_neg h1,if_neg h2,if_pos h]
theorem told_shape {α:Type} {E:Enc α} {w w':World} {p:Option Addr} {m c:Nat} {v':Value} {L:List α} {n:Int} (h1:n≠0→v'=.slice p m c) (h2:n=0→∃ t,w'.ownsRow w.heap.size t E.k v' L.length (flat E L)):∃ p' m' c',v'=.slice p' m' c':=by
 by_cases h:n=0
 ·obtain ⟨t,h3⟩:=h2 h
  rcases h3.2 with ⟨rfl,_⟩ | ⟨g,cap,cur,rfl,_⟩
  ·exact ⟨_,_,_,rfl⟩
  ·exact ⟨_,_,_,rfl⟩
 ·exact ⟨_,_,_,h1 h⟩
set_option maxRecDepth 100000 in
set_option maxHeartbeats 4000000 in
theorem small_names (v c f e l:Value) (ws:List ByteArray) (M:Mast) (w:World) (hm:MastIn w c f e l M) (hv:StrsV w v ws) (hn:namesW ws=false) (hE:stepE M ws=5) :
 Calls Tryz.prog 77 #[aggM c f e l M,v] w (OneTold w c f e l M ws):=by
 have HS:=Lib.hid (two_start w hm)
 have HNA:=Lib.hid (rnames_any v ws (two0 w c f e l M) (hv.keep HS.out.bel))
 rw [hn] at HNA
 have HO:=Lib.hid (ones_of hm)
 have HE:=Lib.hid hE
 obtain ⟨p,cp,rfl,_⟩:=hv
 clear hm hn hE
 obtain ⟨k0,k1,k2,k3,k4,k5,k6,k7,k8⟩:=HS.out.box.nine
 go_enter Tryz.func77,Tryz.ntmps77
 go_wp2_with fail
 refine HNA.out.mono ?_
 rintro en w1 ⟨rfl,rfl⟩
 go_wp2_with (refine wpList_store_mast rfl 36 (.tmp 4) (.tmp 10) rfl (w.heap.size+1) nil4 nil4 nil4 nil4 c f e l zeroM M 36 rfl rfl HS.out.res HO.out (by kernel_rfl) ?_;intro w4 hb4 hg4)
 clear k0 k1 k2 k3 k4 k5 k6 k7 k8
 have HBG:=Lib.hid (HS.out.bel.grown hg4 HS.out.bel.size (fun j hj=>by cases hj;exact Nat.le_succ _))
 obtain ⟨c0,c1,c2,c3,c4,c5,c6,c7,c8⟩:=hb4.nine
 clear hb4 hg4
 exact bodyPost_ret (v:=.tuple #[aggM c f e l M,.int .i64 5]) (by simp [results,Tryz.results77,go_sem,c0,c1,c2,c3,c4,c5,c6,c7,c8]) rfl ⟨c,f,e,l,M,by rw [HE.out],(fun h=>by rw [HE.out] at h;cases h),HO.out,Off4.refl _ _ _ _ _,HBG.out⟩
set_option maxRecDepth 100000 in
set_option maxHeartbeats 8000000 in
theorem small_no_none (v c f e l:Value) (ws:List ByteArray) (M:Mast) (w:World) (hm:MastIn w c f e l M) (hv:StrsV w v ws) (hn:namesW ws=true) (hE:stepE M ws=5) (x0:ByteArray) (hx:ws[0]?=some x0) (g0:(x0.toList==[101,110,116,105,116,121])=false) (g1:(x0.toList==[109,97,112])=false) (g2:(x0.toList==[103,114,111,117,112])=false) (g3:(x0.toList==[114,101,115,101,114,118,101])=false) (g4:(x0.toList==[100,105,102,102,101,114])=false) (g5:(x0.toList==[109,105,110,111,114])=false) (g6:(x0.toList==[115,116,97,107,101])=false) :
 Calls Tryz.prog 77 #[aggM c f e l M,v] w (OneTold w c f e l M ws):=by
 have HS:=Lib.hid (two_start w hm)
 have HV:=Lib.hid (hv.keep HS.out.bel)
 have HNA:=Lib.hid (rnames_any v ws (two0 w c f e l M) HV.out)
 rw [hn] at HNA
 have HO:=Lib.hid (ones_of hm)
 have HE:=Lib.hid hE
 obtain ⟨p,cp,rfl,hcap,hml,hc⟩:=HV.out
 obtain ⟨g,o,rfl,y0⟩:=hc 0 x0 hx
 rw [Nat.add_zero] at y0
 obtain ⟨n,hnn⟩:∃ n,ws.length=n:=⟨_,rfl⟩
 have hn0:0 < n:=by rw [←hnn];exact (List.getElem?_eq_some_iff.1 hx).1
 rw [hnn] at HNA HV hcap ⊢
 clear hm hn hE hv HV hc hx hnn
 obtain ⟨k0,k1,k2,k3,k4,k5,k6,k7,k8⟩:=HS.out.box.nine
 go_enter Tryz.func77,Tryz.ntmps77
 go_wp2_with fail
 refine HNA.out.mono ?_
 rintro en w1 ⟨rfl,rfl⟩
 go_wp2_with (refine wpList_store_mast rfl 36 (.tmp 4) (.tmp 162) rfl (w.heap.size+1) nil4 nil4 nil4 nil4 c f e l zeroM M 36 rfl rfl HS.out.res HO.out (by kernel_rfl) ?_;intro w4 hb4 hg4)
 clear k0 k1 k2 k3 k4 k5 k6 k7 k8
 have HBG:=Lib.hid (HS.out.bel.grown hg4 HS.out.bel.size (fun j hj=>by cases hj;exact Nat.le_succ _))
 obtain ⟨c0,c1,c2,c3,c4,c5,c6,c7,c8⟩:=hb4.nine
 clear hb4 hg4
 exact bodyPost_ret (v:=.tuple #[aggM c f e l M,.int .i64 5]) (by simp [results,Tryz.results77,go_sem,c0,c1,c2,c3,c4,c5,c6,c7,c8]) rfl ⟨c,f,e,l,M,by rw [HE.out],(fun h=>by rw [HE.out] at h;cases h),HO.out,Off4.refl _ _ _ _ _,HBG.out⟩
set_option maxRecDepth 100000 in
set_option maxHeartbeats 8000000 in
theorem small_no_entity (v c f e l:Value) (ws:List ByteArray) (M:Mast) (w:World) (hm:MastIn w c f e l M) (hv:StrsV w v ws) (hn:namesW ws=true) (hE:stepE M ws=5) (x0:ByteArray) (hx:ws[0]?=some x0) (g0:(x0.toList==[101,110,116,105,116,121])=true) (g1:(x0.toList==[109,97,112])=false) (g2:(x0.toList==[103,114,111,117,112])=false) (g3:(x0.toList==[114,101,115,101,114,118,101])=false) (g4:(x0.toList==[100,105,102,102,101,114])=false) (g5:(x0.toList==[109,105,110,111,114])=false) (g6:(x0.toList==[115,116,97,107,101])=false) (hl:ws.length≠3) :
 Calls Tryz.prog 77 #[aggM c f e l M,v] w (OneTold w c f e l M ws):=by
 have HS:=Lib.hid (two_start w hm)
 have HV:=Lib.hid (hv.keep HS.out.bel)
 have HNA:=Lib.hid (rnames_any v ws (two0 w c f e l M) HV.out)
 rw [hn] at HNA
 have HO:=Lib.hid (ones_of hm)
 have HE:=Lib.hid hE
 obtain ⟨p,cp,rfl,hcap,hml,hc⟩:=HV.out
 obtain ⟨g,o,rfl,y0⟩:=hc 0 x0 hx
 rw [Nat.add_zero] at y0
 obtain ⟨n,hnn⟩:∃ n,ws.length=n:=⟨_,rfl⟩
 have hn0:0 < n:=by rw [←hnn];exact (List.getElem?_eq_some_iff.1 hx).1
 rw [hnn] at HNA HV hcap hl ⊢
 have hlz:((n:Int)==3)=false:=by simp;omega
 clear hm hn hE hv HV hc hx hnn
 obtain ⟨k0,k1,k2,k3,k4,k5,k6,k7,k8⟩:=HS.out.box.nine
 go_enter Tryz.func77,Tryz.ntmps77
 go_wp2_with fail
 refine HNA.out.mono ?_
 rintro en w1 ⟨rfl,rfl⟩
 go_wp2_with (refine wpList_store_mast rfl 36 (.tmp 4) (.tmp 162) rfl (w.heap.size+1) nil4 nil4 nil4 nil4 c f e l zeroM M 36 rfl rfl HS.out.res HO.out (by kernel_rfl) ?_;intro w4 hb4 hg4)
 clear k0 k1 k2 k3 k4 k5 k6 k7 k8
 have HBG:=Lib.hid (HS.out.bel.grown hg4 HS.out.bel.size (fun j hj=>by cases hj;exact Nat.le_succ _))
 obtain ⟨c0,c1,c2,c3,c4,c5,c6,c7,c8⟩:=hb4.nine
 clear hb4 hg4
 exact bodyPost_ret (v:=.tuple #[aggM c f e l M,.int .i64 5]) (by simp [results,Tryz.results77,go_sem,c0,c1,c2,c3,c4,c5,c6,c7,c8]) rfl ⟨c,f,e,l,M,by rw [HE.out],(fun h=>by rw [HE.out] at h;cases h),HO.out,Off4.refl _ _ _ _ _,HBG.out⟩
set_option maxRecDepth 100000 in
set_option maxHeartbeats 8000000 in
theorem small_no_map (v c f e l:Value) (ws:List ByteArray) (M:Mast) (w:World) (hm:MastIn w c f e l M) (hv:StrsV w v ws) (hn:namesW ws=true) (hE:stepE M ws=5) (x0:ByteArray) (hx:ws[0]?=some x0) (g0:(x0.toList==[101,110,116,105,116,121])=false) (g1:(x0.toList==[109,97,112])=true) (g2:(x0.toList==[103,114,111,117,112])=false) (g3:(x0.toList==[114,101,115,101,114,118,101])=false) (g4:(x0.toList==[100,105,102,102,101,114])=false) (g5:(x0.toList==[109,105,110,111,114])=false) (g6:(x0.toList==[115,116,97,107,101])=false) (hl:ws.length≠4) :
 Calls Tryz.prog 77 #[aggM c f e l M,v] w (OneTold w c f e l M ws):=by
 have HS:=Lib.hid (two_start w hm)
 have HV:=Lib.hid (hv.keep HS.out.bel)
 have HNA:=Lib.hid (rnames_any v ws (two0 w c f e l M) HV.out)
 rw [hn] at HNA
 have HO:=Lib.hid (ones_of hm)
 have HE:=Lib.hid hE
 obtain ⟨p,cp,rfl,hcap,hml,hc⟩:=HV.out
 obtain ⟨g,o,rfl,y0⟩:=hc 0 x0 hx
 rw [Nat.add_zero] at y0
 obtain ⟨n,hnn⟩:∃ n,ws.length=n:=⟨_,rfl⟩
 have hn0:0 < n:=by rw [←hnn];exact (List.getElem?_eq_some_iff.1 hx).1
 rw [hnn] at HNA HV hcap hl ⊢
 have hlz:((n:Int)==4)=false:=by simp;omega
 clear hm hn hE hv HV hc hx hnn
 obtain ⟨k0,k1,k2,k3,k4,k5,k6,k7,k8⟩:=HS.out.box.nine
 go_enter Tryz.func77,Tryz.ntmps77
 go_wp2_with fail
 refine HNA.out.mono ?_
 rintro en w1 ⟨rfl,rfl⟩
 go_wp2_with (refine wpList_store_mast rfl 36 (.tmp 4) (.tmp 162) rfl (w.heap.size+1) nil4 nil4 nil4 nil4 c f e l zeroM M 36 rfl rfl HS.out.res HO.out (by kernel_rfl) ?_;intro w4 hb4 hg4)
 clear k0 k1 k2 k3 k4 k5 k6 k7 k8
 have HBG:=Lib.hid (HS.out.bel.grown hg4 HS.out.bel.size (fun j hj=>by cases hj;exact Nat.le_succ _))
 obtain ⟨c0,c1,c2,c3,c4,c5,c6,c7,c8⟩:=hb4.nine
 clear hb4 hg4
 exact bodyPost_ret (v:=.tuple #[aggM c f e l M,.int .i64 5]) (by simp [results,Tryz.results77,go_sem,c0,c1,c2,c3,c4,c5,c6,c7,c8]) rfl ⟨c,f,e,l,M,by rw [HE.out],(fun h=>by rw [HE.out] at h;cases h),HO.out,Off4.refl _ _ _ _ _,HBG.out⟩
set_option maxRecDepth 100000 in
set_option maxHeartbeats 8000000 in
theorem small_no_group (v c f e l:Value) (ws:List ByteArray) (M:Mast) (w:World) (hm:MastIn w c f e l M) (hv:StrsV w v ws) (hn:namesW ws=true) (hE:stepE M ws=5) (x0:ByteArray) (hx:ws[0]?=some x0) (g0:(x0.toList==[101,110,116,105,116,121])=false) (g1:(x0.toList==[109,97,112])=false) (g2:(x0.toList==[103,114,111,117,112])=true) (g3:(x0.toList==[114,101,115,101,114,118,101])=false) (g4:(x0.toList==[100,105,102,102,101,114])=false) (g5:(x0.toList==[109,105,110,111,114])=false) (g6:(x0.toList==[115,116,97,107,101])=false) (hl:ws.length≠2) :
 Calls Tryz.prog 77 #[aggM c f e l M,v] w (OneTold w c f e l M ws):=by
 have HS:=Lib.hid (two_start w hm)
 have HV:=Lib.hid (hv.keep HS.out.bel)
 have HNA:=Lib.hid (rnames_any v ws (two0 w c f e l M) HV.out)
 rw [hn] at HNA
 have HO:=Lib.hid (ones_of hm)
 have HE:=Lib.hid hE
 obtain ⟨p,cp,rfl,hcap,hml,hc⟩:=HV.out
 obtain ⟨g,o,rfl,y0⟩:=hc 0 x0 hx
 rw [Nat.add_zero] at y0
 obtain ⟨n,hnn⟩:∃ n,ws.length=n:=⟨_,rfl⟩
 have hn0:0 < n:=by rw [←hnn];exact (List.getElem?_eq_some_iff.1 hx).1
 rw [hnn] at HNA HV hcap hl ⊢
 have hlz:((n:Int)==2)=false:=by simp;omega
 clear hm hn hE hv HV hc hx hnn
 obtain ⟨k0,k1,k2,k3,k4,k5,k6,k7,k8⟩:=HS.out.box.nine
 go_enter Tryz.func77,Tryz.ntmps77
 go_wp2_with fail
 refine HNA.out.mono ?_
 rintro en w1 ⟨rfl,rfl⟩
 go_wp2_with (refine wpList_store_mast rfl 36 (.tmp 4) (.tmp 162) rfl (w.heap.size+1) nil4 nil4 nil4 nil4 c f e l zeroM M 36 rfl rfl HS.out.res HO.out (by kernel_rfl) ?_;intro w4 hb4 hg4)
 clear k0 k1 k2 k3 k4 k5 k6 k7 k8
 have HBG:=Lib.hid (HS.out.bel.grown hg4 HS.out.bel.size (fun j hj=>by cases hj;exact Nat.le_succ _))
 obtain ⟨c0,c1,c2,c3,c4,c5,c6,c7,c8⟩:=hb4.nine
 clear hb4 hg4
 exact bodyPost_ret (v:=.tuple #[aggM c f e l M,.int .i64 5]) (by simp [results,Tryz.results77,go_sem,c0,c1,c2,c3,c4,c5,c6,c7,c8]) rfl ⟨c,f,e,l,M,by rw [HE.out],(fun h=>by rw [HE.out] at h;cases h),HO.out,Off4.refl _ _ _ _ _,HBG.out⟩
set_option maxRecDepth 100000 in
set_option maxHeartbeats 8000000 in
theorem small_no_reserve (v c f e l:Value) (ws:List ByteArray) (M:Mast) (w:World) (hm:MastIn w c f e l M) (hv:StrsV w v ws) (hn:namesW ws=true) (hE:stepE M ws=5) (x0:ByteArray) (hx:ws[0]?=some x0) (g0:(x0.toList==[101,110,116,105,116,121])=false) (g1:(x0.toList==[109,97,112])=false) (g2:(x0.toList==[103,114,111,117,112])=false) (g3:(x0.toList==[114,101,115,101,114,118,101])=true) (g4:(x0.toList==[100,105,102,102,101,114])=false) (g5:(x0.toList==[109,105,110,111,114])=false) (g6:(x0.toList==[115,116,97,107,101])=false) (hl:ws.length≠2) :
 Calls Tryz.prog 77 #[aggM c f e l M,v] w (OneTold w c f e l M ws):=by
 have HS:=Lib.hid (two_start w hm)
 have HV:=Lib.hid (hv.keep HS.out.bel)
 have HNA:=Lib.hid (rnames_any v ws (two0 w c f e l M) HV.out)
 rw [hn] at HNA
 have HO:=Lib.hid (ones_of hm)
 have HE:=Lib.hid hE
 obtain ⟨p,cp,rfl,hcap,hml,hc⟩:=HV.out
 obtain ⟨g,o,rfl,y0⟩:=hc 0 x0 hx
 rw [Nat.add_zero] at y0
 obtain ⟨n,hnn⟩:∃ n,ws.length=n:=⟨_,rfl⟩
 have hn0:0 < n:=by rw [←hnn];exact (List.getElem?_eq_some_iff.1 hx).1
 rw [hnn] at HNA HV hcap hl ⊢
 have hlz:((n:Int)==2)=false:=by simp;omega
 clear hm hn hE hv HV hc hx hnn
 obtain ⟨k0,k1,k2,k3,k4,k5,k6,k7,k8⟩:=HS.out.box.nine
 go_enter Tryz.func77,Tryz.ntmps77
 go_wp2_with fail
 refine HNA.out.mono ?_
 rintro en w1 ⟨rfl,rfl⟩
 go_wp2_with (refine wpList_store_mast rfl 36 (.tmp 4) (.tmp 162) rfl (w.heap.size+1) nil4 nil4 nil4 nil4 c f e l zeroM M 36 rfl rfl HS.out.res HO.out (by kernel_rfl) ?_;intro w4 hb4 hg4)
 clear k0 k1 k2 k3 k4 k5 k6 k7 k8
 have HBG:=Lib.hid (HS.out.bel.grown hg4 HS.out.bel.size (fun j hj=>by cases hj;exact Nat.le_succ _))
 obtain ⟨c0,c1,c2,c3,c4,c5,c6,c7,c8⟩:=hb4.nine
 clear hb4 hg4
 exact bodyPost_ret (v:=.tuple #[aggM c f e l M,.int .i64 5]) (by simp [results,Tryz.results77,go_sem,c0,c1,c2,c3,c4,c5,c6,c7,c8]) rfl ⟨c,f,e,l,M,by rw [HE.out],(fun h=>by rw [HE.out] at h;cases h),HO.out,Off4.refl _ _ _ _ _,HBG.out⟩
set_option maxRecDepth 100000 in
set_option maxHeartbeats 8000000 in
theorem small_no_differ (v c f e l:Value) (ws:List ByteArray) (M:Mast) (w:World) (hm:MastIn w c f e l M) (hv:StrsV w v ws) (hn:namesW ws=true) (hE:stepE M ws=5) (x0:ByteArray) (hx:ws[0]?=some x0) (g0:(x0.toList==[101,110,116,105,116,121])=false) (g1:(x0.toList==[109,97,112])=false) (g2:(x0.toList==[103,114,111,117,112])=false) (g3:(x0.toList==[114,101,115,101,114,118,101])=false) (g4:(x0.toList==[100,105,102,102,101,114])=true) (g5:(x0.toList==[109,105,110,111,114])=false) (g6:(x0.toList==[115,116,97,107,101])=false) (hl:ws.length≠2) :
 Calls Tryz.prog 77 #[aggM c f e l M,v] w (OneTold w c f e l M ws):=by
 have HS:=Lib.hid (two_start w hm)
 have HV:=Lib.hid (hv.keep HS.out.bel)
 have HNA:=Lib.hid (rnames_any v ws (two0 w c f e l M) HV.out)
 rw [hn] at HNA
 have HO:=Lib.hid (ones_of hm)
 have HE:=Lib.hid hE
 obtain ⟨p,cp,rfl,hcap,hml,hc⟩:=HV.out
 obtain ⟨g,o,rfl,y0⟩:=hc 0 x0 hx
 rw [Nat.add_zero] at y0
 obtain ⟨n,hnn⟩:∃ n,ws.length=n:=⟨_,rfl⟩
 have hn0:0 < n:=by rw [←hnn];exact (List.getElem?_eq_some_iff.1 hx).1
 rw [hnn] at HNA HV hcap hl ⊢
 have hlz:((n:Int)==2)=false:=by simp;omega
 clear hm hn hE hv HV hc hx hnn
 obtain ⟨k0,k1,k2,k3,k4,k5,k6,k7,k8⟩:=HS.out.box.nine
 go_enter Tryz.func77,Tryz.ntmps77
 go_wp2_with fail
 refine HNA.out.mono ?_
 rintro en w1 ⟨rfl,rfl⟩
 go_wp2_with (refine wpList_store_mast rfl 36 (.tmp 4) (.tmp 162) rfl (w.heap.size+1) nil4 nil4 nil4 nil4 c f e l zeroM M 36 rfl rfl HS.out.res HO.out (by kernel_rfl) ?_;intro w4 hb4 hg4)
 clear k0 k1 k2 k3 k4 k5 k6 k7 k8
 have HBG:=Lib.hid (HS.out.bel.grown hg4 HS.out.bel.size (fun j hj=>by cases hj;exact Nat.le_succ _))
 obtain ⟨c0,c1,c2,c3,c4,c5,c6,c7,c8⟩:=hb4.nine
 clear hb4 hg4
 exact bodyPost_ret (v:=.tuple #[aggM c f e l M,.int .i64 5]) (by simp [results,Tryz.results77,go_sem,c0,c1,c2,c3,c4,c5,c6,c7,c8]) rfl ⟨c,f,e,l,M,by rw [HE.out],(fun h=>by rw [HE.out] at h;cases h),HO.out,Off4.refl _ _ _ _ _,HBG.out⟩
set_option maxRecDepth 100000 in
set_option maxHeartbeats 8000000 in
theorem small_no_minor (v c f e l:Value) (ws:List ByteArray) (M:Mast) (w:World) (hm:MastIn w c f e l M) (hv:StrsV w v ws) (hn:namesW ws=true) (hE:stepE M ws=5) (x0:ByteArray) (hx:ws[0]?=some x0) (g0:(x0.toList==[101,110,116,105,116,121])=false) (g1:(x0.toList==[109,97,112])=false) (g2:(x0.toList==[103,114,111,117,112])=false) (g3:(x0.toList==[114,101,115,101,114,118,101])=false) (g4:(x0.toList==[100,105,102,102,101,114])=false) (g5:(x0.toList==[109,105,110,111,114])=true) (g6:(x0.toList==[115,116,97,107,101])=false) (hl:ws.length≠2) :
 Calls Tryz.prog 77 #[aggM c f e l M,v] w (OneTold w c f e l M ws):=by
 have HS:=Lib.hid (two_start w hm)
 have HV:=Lib.hid (hv.keep HS.out.bel)
 have HNA:=Lib.hid (rnames_any v ws (two0 w c f e l M) HV.out)
 rw [hn] at HNA
 have HO:=Lib.hid (ones_of hm)
 have HE:=Lib.hid hE
 obtain ⟨p,cp,rfl,hcap,hml,hc⟩:=HV.out
 obtain ⟨g,o,rfl,y0⟩:=hc 0 x0 hx
 rw [Nat.add_zero] at y0
 obtain ⟨n,hnn⟩:∃ n,ws.length=n:=⟨_,rfl⟩
 have hn0:0 < n:=by rw [←hnn];exact (List.getElem?_eq_some_iff.1 hx).1
 rw [hnn] at HNA HV hcap hl ⊢
 have hlz:((n:Int)==2)=false:=by simp;omega
 clear hm hn hE hv HV hc hx hnn
 obtain ⟨k0,k1,k2,k3,k4,k5,k6,k7,k8⟩:=HS.out.box.nine
 go_enter Tryz.func77,Tryz.ntmps77
 go_wp2_with fail
 refine HNA.out.mono ?_
 rintro en w1 ⟨rfl,rfl⟩
 go_wp2_with (refine wpList_store_mast rfl 36 (.tmp 4) (.tmp 162) rfl (w.heap.size+1) nil4 nil4 nil4 nil4 c f e l zeroM M 36 rfl rfl HS.out.res HO.out (by kernel_rfl) ?_;intro w4 hb4 hg4)
 clear k0 k1 k2 k3 k4 k5 k6 k7 k8
 have HBG:=Lib.hid (HS.out.bel.grown hg4 HS.out.bel.size (fun j hj=>by cases hj;exact Nat.le_succ _))
 obtain ⟨c0,c1,c2,c3,c4,c5,c6,c7,c8⟩:=hb4.nine
 clear hb4 hg4
 exact bodyPost_ret (v:=.tuple #[aggM c f e l M,.int .i64 5]) (by simp [results,Tryz.results77,go_sem,c0,c1,c2,c3,c4,c5,c6,c7,c8]) rfl ⟨c,f,e,l,M,by rw [HE.out],(fun h=>by rw [HE.out] at h;cases h),HO.out,Off4.refl _ _ _ _ _,HBG.out⟩
set_option maxRecDepth 100000 in
set_option maxHeartbeats 8000000 in
theorem small_no_stake (v c f e l:Value) (ws:List ByteArray) (M:Mast) (w:World) (hm:MastIn w c f e l M) (hv:StrsV w v ws) (hn:namesW ws=true) (hE:stepE M ws=5) (x0:ByteArray) (hx:ws[0]?=some x0) (g0:(x0.toList==[101,110,116,105,116,121])=false) (g1:(x0.toList==[109,97,112])=false) (g2:(x0.toList==[103,114,111,117,112])=false) (g3:(x0.toList==[114,101,115,101,114,118,101])=false) (g4:(x0.toList==[100,105,102,102,101,114])=false) (g5:(x0.toList==[109,105,110,111,114])=false) (g6:(x0.toList==[115,116,97,107,101])=true) (hl:ws.length≠2) :
 Calls Tryz.prog 77 #[aggM c f e l M,v] w (OneTold w c f e l M ws):=by
 have HS:=Lib.hid (two_start w hm)
 have HV:=Lib.hid (hv.keep HS.out.bel)
 have HNA:=Lib.hid (rnames_any v ws (two0 w c f e l M) HV.out)
 rw [hn] at HNA
 have HO:=Lib.hid (ones_of hm)
 have HE:=Lib.hid hE
 obtain ⟨p,cp,rfl,hcap,hml,hc⟩:=HV.out
 obtain ⟨g,o,rfl,y0⟩:=hc 0 x0 hx
 rw [Nat.add_zero] at y0
 obtain ⟨n,hnn⟩:∃ n,ws.length=n:=⟨_,rfl⟩
 have hn0:0 < n:=by rw [←hnn];exact (List.getElem?_eq_some_iff.1 hx).1
 rw [hnn] at HNA HV hcap hl ⊢
 have hlz:((n:Int)==2)=false:=by simp;omega
 clear hm hn hE hv HV hc hx hnn
 obtain ⟨k0,k1,k2,k3,k4,k5,k6,k7,k8⟩:=HS.out.box.nine
 go_enter Tryz.func77,Tryz.ntmps77
 go_wp2_with fail
 refine HNA.out.mono ?_
 rintro en w1 ⟨rfl,rfl⟩
 go_wp2_with (refine wpList_store_mast rfl 36 (.tmp 4) (.tmp 162) rfl (w.heap.size+1) nil4 nil4 nil4 nil4 c f e l zeroM M 36 rfl rfl HS.out.res HO.out (by kernel_rfl) ?_;intro w4 hb4 hg4)
 clear k0 k1 k2 k3 k4 k5 k6 k7 k8
 have HBG:=Lib.hid (HS.out.bel.grown hg4 HS.out.bel.size (fun j hj=>by cases hj;exact Nat.le_succ _))
 obtain ⟨c0,c1,c2,c3,c4,c5,c6,c7,c8⟩:=hb4.nine
 clear hb4 hg4
 exact bodyPost_ret (v:=.tuple #[aggM c f e l M,.int .i64 5]) (by simp [results,Tryz.results77,go_sem,c0,c1,c2,c3,c4,c5,c6,c7,c8]) rfl ⟨c,f,e,l,M,by rw [HE.out],(fun h=>by rw [HE.out] at h;cases h),HO.out,Off4.refl _ _ _ _ _,HBG.out⟩
set_option maxRecDepth 100000 in
set_option maxHeartbeats 8000000 in
theorem small_group (v c f e l:Value) (a:ByteArray) (M:Mast) (w:World) (hm:MastIn w c f e l M) (hv:StrsV w v [tGroup,a]) (hn:namesW [tGroup,a]=true) :
 Calls Tryz.prog 77 #[aggM c f e l M,v] w fun en w'=>∃ M',en=.returned (.tuple #[aggM c f e l M',.int .i64 (oneE M.cur)])∧(oneE M.cur=0→M'={ M with cur:=a }∧MastIn w' c f e l M')∧Ones c f e l∧Below w.heap.size w w':=by
 have HS:=Lib.hid (two_start w hm)
 have HNA:=Lib.hid (rnames_any v _ (two0 w c f e l M) (hv.keep HS.out.bel))
 rw [hn] at HNA
 have HM:=Lib.hid hm
 have HO:=Lib.hid (ones_of hm)
 obtain ⟨p,cp,rfl,hcap,hml,hc⟩:=hv
 obtain ⟨g,o,rfl,x0⟩:=hc 0 tGroup rfl
 obtain ⟨g',o',e1,x1⟩:=hc 1 a rfl
 cases e1
 rw [show ([tGroup,a]:List ByteArray).length=2 from rfl] at HNA hcap hml ⊢
 rw [Nat.add_zero] at x0
 have hgw:g < w.heap.size:=World.block_lt_of_cell? w _ x0
 have y0:=cell_later HS.out.bel x0
 have y1:=cell_later HS.out.bel x1
 have HSI:=Lib.hid (single_any M.cur a)
 obtain ⟨X,hX⟩:∃ X,(if M.cur=emp then a else M.cur)=X:=⟨_,rfl⟩
 obtain ⟨n,hnn⟩:∃ n,oneE M.cur=n:=⟨_,rfl⟩
 have HX:Hid (n=0→X=a):=Lib.hid (fun h0=>by
  rw [←hX,if_pos]
  rw [←hnn] at h0
  unfold oneE at h0
  split at h0
  ·assumption
  ·cases h0)
 simp only [hX,hnn] at HSI
 rw [hnn]
 have g0:(tGroup.toList==[101,110,116,105,116,121])=false:=by rw [qEntity];decide
 have g1:(tGroup.toList==[109,97,112])=false:=by rw [qMap];decide
 have gt:(tGroup.toList==[103,114,111,117,112])=true:=by rw [qGroup];decide
 clear hm hn hc hX hnn
 go_enter Tryz.func77,Tryz.ntmps77
 go_wp2_with fail
 refine HNA.out.mono ?_
 rintro en w1 ⟨rfl,rfl⟩
 obtain ⟨W0,hW0⟩:∃ W0,two0 w c f e l M=W0:=⟨_,rfl⟩
 rw [hW0] at HS y0 y1 ⊢
 clear hW0 HNA
 have r0:=fun p:Since w.heap.size W0=>cell_since y0 hgw p
 have r1:=fun p:Since w.heap.size W0=>cell_since y1 hgw p
 have HD:Hid (Below W0.heap.size W0 W0.drew):=Lib.hid ⟨rfl,rfl,rfl,Nat.le_refl _,fun _ _=>rfl⟩
 obtain ⟨W1,hW1⟩:∃ W1,W0.drew=W1:=⟨_,rfl⟩
 rw [hW1] at HD
 have HS1:=Lib.hid (HS.out.below HD.out)
 have HD0:Hid (Below w.heap.size W0 W1):=Lib.hid (HD.out.mono HS.out.bel.size)
 have hk:=HS1.out.box.nine.c4
 have hf:=boxM_free HS1.out.box 4
 obtain ⟨W2,hW2⟩:∃ W2,W1.setCell ⟨w.heap.size,4,none⟩ (.string X)=W2:=⟨_,rfl⟩
 have HG2:Hid (W1.grownBy W2 (some w.heap.size)):=Lib.hid (by rw [←hW2];exact set_grown W1 w.heap.size 4 (.string X))
 have HB2:Hid (BoxM W2 w.heap.size 36 c f e l { M with cur:=X }):=Lib.hid (by rw [←hW2];exact box_set HS1.out.box rfl)
 have HR2:Hid (BoxM W2 (w.heap.size+1) 36 nil4 nil4 nil4 nil4 zeroM):=Lib.hid ((HG2.out.block _ HS1.out.res.lt (by simp)).trans HS1.out.res)
 have HW2:Hid (Below w.heap.size w W2):=Lib.hid (by rw [←hW2];exact set_below HS1.out.bel 4 (.string X))
 have HD2:Hid (Below w.heap.size W0 W2):=Lib.hid (by rw [←hW2];exact HD0.out.setCell (p:=⟨w.heap.size,4,none⟩) (Nat.le_refl _) _)
 go_wp2_with fail
 refine wp_region_since w.heap.size (.one [0,2,3,4] 1 (.one [] 5 (.one [6,7,8,9] 10 (.last [11])))) (by kernel_rfl) (by kernel_rfl) (fun d _ _ _ _ h=>by cases d <;> exact h) ?_
 rw [hW1]
 clear hW1 y0 y1 x0 x1
 simp only [wpPlan,pick,nth]
 repeat (go_big_quiet_step (fail))
 refine wpQuiet_nil ?_
 intro K hK
 refine alone_want (by kernel_rfl) ?_
 go_big_op
 refine hK _ _ (since_in HD0.out) ?_
 clear hK K
 refine wpQuiet_nil ?_
 intro K hK
 refine alone_want (by kernel_rfl) ?_
 go_big_op
 refine (HSI.out _).mono ?_
 rintro en w3 ⟨rfl,rfl⟩
 refine hK _ _ (since_in HD0.out) ?_
 clear hK K
 repeat (go_big_quiet_step (fail))
 refine wpQuiet_nil ?_
 intro K hK
 refine alone_want (by kernel_rfl) ?_
 go_big_op
 refine hK _ _ (since_in HD2.out) ?_
 clear hK K r0 r1 hk hf hW2
 repeat (go_big_quiet_step (fail))
 refine wpQuiet_nil ?_
 obtain ⟨k0,k1,k2,k3,k4,k5,k6,k7,k8⟩:=HB2.out.nine
 go_wp2_with (refine wpList_store_mast rfl 36 (.tmp 4) (.tmp 162) rfl (w.heap.size+1) nil4 nil4 nil4 nil4 c f e l zeroM { M with cur:=X } 36 rfl rfl HR2.out HO.out (by kernel_rfl) ?_;intro w4 hb4 hg4)
 clear k0 k1 k2 k3 k4 k5 k6 k7 k8
 have HBG:=Lib.hid (HW2.out.grown hg4 HW2.out.size (fun j hj=>by cases hj;exact Nat.le_succ _))
 obtain ⟨c0,c1,c2,c3,c4,c5,c6,c7,c8⟩:=hb4.nine
 clear hb4 hg4
 refine bodyPost_ret (v:=.tuple #[aggM c f e l { M with cur:=X },.int .i64 n]) (by simp [results,Tryz.results77,go_sem,c0,c1,c2,c3,c4,c5,c6,c7,c8]) rfl ⟨_,rfl,fun h0=>⟨by rw [HX.out h0],?_⟩,HO.out,HBG.out⟩
 have hk:=HM.out.keep HBG.out
 exact ⟨hk.chart,hk.flows,hk.ents,hk.lines⟩
set_option maxRecDepth 100000 in
set_option maxHeartbeats 8000000 in
theorem small_reserve (v c f e l:Value) (a:ByteArray) (M:Mast) (w:World) (hm:MastIn w c f e l M) (hv:StrsV w v [tReserve,a]) (hn:namesW [tReserve,a]=true) :
 Calls Tryz.prog 77 #[aggM c f e l M,v] w fun en w'=>∃ M',en=.returned (.tuple #[aggM c f e l M',.int .i64 (oneE M.res)])∧(oneE M.res=0→M'={ M with res:=a }∧MastIn w' c f e l M')∧Ones c f e l∧Below w.heap.size w w':=by
 have HS:=Lib.hid (two_start w hm)
 have HNA:=Lib.hid (rnames_any v _ (two0 w c f e l M) (hv.keep HS.out.bel))
 rw [hn] at HNA
 have HM:=Lib.hid hm
 have HO:=Lib.hid (ones_of hm)
 obtain ⟨p,cp,rfl,hcap,hml,hc⟩:=hv
 obtain ⟨g,o,rfl,x0⟩:=hc 0 tReserve rfl
 obtain ⟨g',o',e1,x1⟩:=hc 1 a rfl
 cases e1
 rw [show ([tReserve,a]:List ByteArray).length=2 from rfl] at HNA hcap hml ⊢
 rw [Nat.add_zero] at x0
 have hgw:g < w.heap.size:=World.block_lt_of_cell? w _ x0
 have y0:=cell_later HS.out.bel x0
 have y1:=cell_later HS.out.bel x1
 have HSI:=Lib.hid (single_any M.res a)
 obtain ⟨X,hX⟩:∃ X,(if M.res=emp then a else M.res)=X:=⟨_,rfl⟩
 obtain ⟨n,hnn⟩:∃ n,oneE M.res=n:=⟨_,rfl⟩
 have HX:Hid (n=0→X=a):=Lib.hid (fun h0=>by
  rw [←hX,if_pos]
  rw [←hnn] at h0
  unfold oneE at h0
  split at h0
  ·assumption
  ·cases h0)
 simp only [hX,hnn] at HSI
 rw [hnn]
 have g0:(tReserve.toList==[101,110,116,105,116,121])=false:=by rw [qEntity];decide
 have g1:(tReserve.toList==[109,97,112])=false:=by rw [qMap];decide
 have g2:(tReserve.toList==[103,114,111,117,112])=false:=by rw [qGroup];decide
 have gt:(tReserve.toList==[114,101,115,101,114,118,101])=true:=by rw [qReserve];decide
 clear hm hn hc hX hnn
 go_enter Tryz.func77,Tryz.ntmps77
 go_wp2_with fail
 refine HNA.out.mono ?_
 rintro en w1 ⟨rfl,rfl⟩
 obtain ⟨W0,hW0⟩:∃ W0,two0 w c f e l M=W0:=⟨_,rfl⟩
 rw [hW0] at HS y0 y1 ⊢
 clear hW0 HNA
 have r0:=fun p:Since w.heap.size W0=>cell_since y0 hgw p
 have r1:=fun p:Since w.heap.size W0=>cell_since y1 hgw p
 have HD:Hid (Below W0.heap.size W0 W0.drew):=Lib.hid ⟨rfl,rfl,rfl,Nat.le_refl _,fun _ _=>rfl⟩
 obtain ⟨W1,hW1⟩:∃ W1,W0.drew=W1:=⟨_,rfl⟩
 rw [hW1] at HD
 have HS1:=Lib.hid (HS.out.below HD.out)
 have HD0:Hid (Below w.heap.size W0 W1):=Lib.hid (HD.out.mono HS.out.bel.size)
 have hk:=HS1.out.box.nine.c5
 have hf:=boxM_free HS1.out.box 5
 obtain ⟨W2,hW2⟩:∃ W2,W1.setCell ⟨w.heap.size,5,none⟩ (.string X)=W2:=⟨_,rfl⟩
 have HG2:Hid (W1.grownBy W2 (some w.heap.size)):=Lib.hid (by rw [←hW2];exact set_grown W1 w.heap.size 5 (.string X))
 have HB2:Hid (BoxM W2 w.heap.size 36 c f e l { M with res:=X }):=Lib.hid (by rw [←hW2];exact box_set HS1.out.box rfl)
 have HR2:Hid (BoxM W2 (w.heap.size+1) 36 nil4 nil4 nil4 nil4 zeroM):=Lib.hid ((HG2.out.block _ HS1.out.res.lt (by simp)).trans HS1.out.res)
 have HW2:Hid (Below w.heap.size w W2):=Lib.hid (by rw [←hW2];exact set_below HS1.out.bel 5 (.string X))
 have HD2:Hid (Below w.heap.size W0 W2):=Lib.hid (by rw [←hW2];exact HD0.out.setCell (p:=⟨w.heap.size,5,none⟩) (Nat.le_refl _) _)
 go_wp2_with fail
 refine wp_region_since w.heap.size (.one [0,2,3,4] 1 (.one [] 5 (.one [6,7,8,9] 10 (.last [11])))) (by kernel_rfl) (by kernel_rfl) (fun d _ _ _ _ h=>by cases d <;> exact h) ?_
 rw [hW1]
 clear hW1 y0 y1 x0 x1
 simp only [wpPlan,pick,nth]
 repeat (go_big_quiet_step (fail))
 refine wpQuiet_nil ?_
 intro K hK
 refine alone_want (by kernel_rfl) ?_
 go_big_op
 refine hK _ _ (since_in HD0.out) ?_
 clear hK K
 refine wpQuiet_nil ?_
 intro K hK
 refine alone_want (by kernel_rfl) ?_
 go_big_op
 refine (HSI.out _).mono ?_
 rintro en w3 ⟨rfl,rfl⟩
 refine hK _ _ (since_in HD0.out) ?_
 clear hK K
 repeat (go_big_quiet_step (fail))
 refine wpQuiet_nil ?_
 intro K hK
 refine alone_want (by kernel_rfl) ?_
 go_big_op
 refine hK _ _ (since_in HD2.out) ?_
 clear hK K r0 r1 hk hf hW2
 repeat (go_big_quiet_step (fail))
 refine wpQuiet_nil ?_
 obtain ⟨k0,k1,k2,k3,k4,k5,k6,k7,k8⟩:=HB2.out.nine
 go_wp2_with (refine wpList_store_mast rfl 36 (.tmp 4) (.tmp 162) rfl (w.heap.size+1) nil4 nil4 nil4 nil4 c f e l zeroM { M with res:=X } 36 rfl rfl HR2.out HO.out (by kernel_rfl) ?_;intro w4 hb4 hg4)
 clear k0 k1 k2 k3 k4 k5 k6 k7 k8
 have HBG:=Lib.hid (HW2.out.grown hg4 HW2.out.size (fun j hj=>by cases hj;exact Nat.le_succ _))
 obtain ⟨c0,c1,c2,c3,c4,c5,c6,c7,c8⟩:=hb4.nine
 clear hb4 hg4
 refine bodyPost_ret (v:=.tuple #[aggM c f e l { M with res:=X },.int .i64 n]) (by simp [results,Tryz.results77,go_sem,c0,c1,c2,c3,c4,c5,c6,c7,c8]) rfl ⟨_,rfl,fun h0=>⟨by rw [HX.out h0],?_⟩,HO.out,HBG.out⟩
 have hk:=HM.out.keep HBG.out
 exact ⟨hk.chart,hk.flows,hk.ents,hk.lines⟩
set_option maxRecDepth 100000 in
set_option maxHeartbeats 8000000 in
theorem small_differ (v c f e l:Value) (a:ByteArray) (M:Mast) (w:World) (hm:MastIn w c f e l M) (hv:StrsV w v [tDiffer,a]) (hn:namesW [tDiffer,a]=true) :
 Calls Tryz.prog 77 #[aggM c f e l M,v] w fun en w'=>∃ M',en=.returned (.tuple #[aggM c f e l M',.int .i64 (oneE M.dif)])∧(oneE M.dif=0→M'={ M with dif:=a }∧MastIn w' c f e l M')∧Ones c f e l∧Below w.heap.size w w':=by
 have HS:=Lib.hid (two_start w hm)
 have HNA:=Lib.hid (rnames_any v _ (two0 w c f e l M) (hv.keep HS.out.bel))
 rw [hn] at HNA
 have HM:=Lib.hid hm
 have HO:=Lib.hid (ones_of hm)
 obtain ⟨p,cp,rfl,hcap,hml,hc⟩:=hv
 obtain ⟨g,o,rfl,x0⟩:=hc 0 tDiffer rfl
 obtain ⟨g',o',e1,x1⟩:=hc 1 a rfl
 cases e1
 rw [show ([tDiffer,a]:List ByteArray).length=2 from rfl] at HNA hcap hml ⊢
 rw [Nat.add_zero] at x0
 have hgw:g < w.heap.size:=World.block_lt_of_cell? w _ x0
 have y0:=cell_later HS.out.bel x0
 have y1:=cell_later HS.out.bel x1
 have HSI:=Lib.hid (single_any M.dif a)
 obtain ⟨X,hX⟩:∃ X,(if M.dif=emp then a else M.dif)=X:=⟨_,rfl⟩
 obtain ⟨n,hnn⟩:∃ n,oneE M.dif=n:=⟨_,rfl⟩
 have HX:Hid (n=0→X=a):=Lib.hid (fun h0=>by
  rw [←hX,if_pos]
  rw [←hnn] at h0
  unfold oneE at h0
  split at h0
  ·assumption
  ·cases h0)
 simp only [hX,hnn] at HSI
 rw [hnn]
 have g0:(tDiffer.toList==[101,110,116,105,116,121])=false:=by rw [qEntity];decide
 have g1:(tDiffer.toList==[109,97,112])=false:=by rw [qMap];decide
 have g2:(tDiffer.toList==[103,114,111,117,112])=false:=by rw [qGroup];decide
 have g3:(tDiffer.toList==[114,101,115,101,114,118,101])=false:=by rw [qReserve];decide
 have gt:(tDiffer.toList==[100,105,102,102,101,114])=true:=by rw [qDiffer];decide
 clear hm hn hc hX hnn
 go_enter Tryz.func77,Tryz.ntmps77
 go_wp2_with fail
 refine HNA.out.mono ?_
 rintro en w1 ⟨rfl,rfl⟩
 obtain ⟨W0,hW0⟩:∃ W0,two0 w c f e l M=W0:=⟨_,rfl⟩
 rw [hW0] at HS y0 y1 ⊢
 clear hW0 HNA
 have r0:=fun p:Since w.heap.size W0=>cell_since y0 hgw p
 have r1:=fun p:Since w.heap.size W0=>cell_since y1 hgw p
 have HD:Hid (Below W0.heap.size W0 W0.drew):=Lib.hid ⟨rfl,rfl,rfl,Nat.le_refl _,fun _ _=>rfl⟩
 obtain ⟨W1,hW1⟩:∃ W1,W0.drew=W1:=⟨_,rfl⟩
 rw [hW1] at HD
 have HS1:=Lib.hid (HS.out.below HD.out)
 have HD0:Hid (Below w.heap.size W0 W1):=Lib.hid (HD.out.mono HS.out.bel.size)
 have hk:=HS1.out.box.nine.c6
 have hf:=boxM_free HS1.out.box 6
 obtain ⟨W2,hW2⟩:∃ W2,W1.setCell ⟨w.heap.size,6,none⟩ (.string X)=W2:=⟨_,rfl⟩
 have HG2:Hid (W1.grownBy W2 (some w.heap.size)):=Lib.hid (by rw [←hW2];exact set_grown W1 w.heap.size 6 (.string X))
 have HB2:Hid (BoxM W2 w.heap.size 36 c f e l { M with dif:=X }):=Lib.hid (by rw [←hW2];exact box_set HS1.out.box rfl)
 have HR2:Hid (BoxM W2 (w.heap.size+1) 36 nil4 nil4 nil4 nil4 zeroM):=Lib.hid ((HG2.out.block _ HS1.out.res.lt (by simp)).trans HS1.out.res)
 have HW2:Hid (Below w.heap.size w W2):=Lib.hid (by rw [←hW2];exact set_below HS1.out.bel 6 (.string X))
 have HD2:Hid (Below w.heap.size W0 W2):=Lib.hid (by rw [←hW2];exact HD0.out.setCell (p:=⟨w.heap.size,6,none⟩) (Nat.le_refl _) _)
 go_wp2_with fail
 refine wp_region_since w.heap.size (.one [0,2,3,4] 1 (.one [] 5 (.one [6,7,8,9] 10 (.last [11])))) (by kernel_rfl) (by kernel_rfl) (fun d _ _ _ _ h=>by cases d <;> exact h) ?_
 rw [hW1]
 clear hW1 y0 y1 x0 x1
 simp only [wpPlan,pick,nth]
 repeat (go_big_quiet_step (fail))
 refine wpQuiet_nil ?_
 intro K hK
 refine alone_want (by kernel_rfl) ?_
 go_big_op
 refine hK _ _ (since_in HD0.out) ?_
 clear hK K
 refine wpQuiet_nil ?_
 intro K hK
 refine alone_want (by kernel_rfl) ?_
 go_big_op
 refine (HSI.out _).mono ?_
 rintro en w3 ⟨rfl,rfl⟩
 refine hK _ _ (since_in HD0.out) ?_
 clear hK K
 repeat (go_big_quiet_step (fail))
 refine wpQuiet_nil ?_
 intro K hK
 refine alone_want (by kernel_rfl) ?_
 go_big_op
 refine hK _ _ (since_in HD2.out) ?_
 clear hK K r0 r1 hk hf hW2
 repeat (go_big_quiet_step (fail))
 refine wpQuiet_nil ?_
 obtain ⟨k0,k1,k2,k3,k4,k5,k6,k7,k8⟩:=HB2.out.nine
 go_wp2_with (refine wpList_store_mast rfl 36 (.tmp 4) (.tmp 162) rfl (w.heap.size+1) nil4 nil4 nil4 nil4 c f e l zeroM { M with dif:=X } 36 rfl rfl HR2.out HO.out (by kernel_rfl) ?_;intro w4 hb4 hg4)
 clear k0 k1 k2 k3 k4 k5 k6 k7 k8
 have HBG:=Lib.hid (HW2.out.grown hg4 HW2.out.size (fun j hj=>by cases hj;exact Nat.le_succ _))
 obtain ⟨c0,c1,c2,c3,c4,c5,c6,c7,c8⟩:=hb4.nine
 clear hb4 hg4
 refine bodyPost_ret (v:=.tuple #[aggM c f e l { M with dif:=X },.int .i64 n]) (by simp [results,Tryz.results77,go_sem,c0,c1,c2,c3,c4,c5,c6,c7,c8]) rfl ⟨_,rfl,fun h0=>⟨by rw [HX.out h0],?_⟩,HO.out,HBG.out⟩
 have hk:=HM.out.keep HBG.out
 exact ⟨hk.chart,hk.flows,hk.ents,hk.lines⟩
set_option maxRecDepth 100000 in
set_option maxHeartbeats 8000000 in
theorem small_minor (v c f e l:Value) (a:ByteArray) (M:Mast) (w:World) (hm:MastIn w c f e l M) (hv:StrsV w v [tMinor,a]) (hn:namesW [tMinor,a]=true) :
 Calls Tryz.prog 77 #[aggM c f e l M,v] w fun en w'=>∃ M',en=.returned (.tuple #[aggM c f e l M',.int .i64 (oneE M.min)])∧(oneE M.min=0→M'={ M with min:=a }∧MastIn w' c f e l M')∧Ones c f e l∧Below w.heap.size w w':=by
 have HS:=Lib.hid (two_start w hm)
 have HNA:=Lib.hid (rnames_any v _ (two0 w c f e l M) (hv.keep HS.out.bel))
 rw [hn] at HNA
 have HM:=Lib.hid hm
 have HO:=Lib.hid (ones_of hm)
 obtain ⟨p,cp,rfl,hcap,hml,hc⟩:=hv
 obtain ⟨g,o,rfl,x0⟩:=hc 0 tMinor rfl
 obtain ⟨g',o',e1,x1⟩:=hc 1 a rfl
 cases e1
 rw [show ([tMinor,a]:List ByteArray).length=2 from rfl] at HNA hcap hml ⊢
 rw [Nat.add_zero] at x0
 have hgw:g < w.heap.size:=World.block_lt_of_cell? w _ x0
 have y0:=cell_later HS.out.bel x0
 have y1:=cell_later HS.out.bel x1
 have HSI:=Lib.hid (single_any M.min a)
 obtain ⟨X,hX⟩:∃ X,(if M.min=emp then a else M.min)=X:=⟨_,rfl⟩
 obtain ⟨n,hnn⟩:∃ n,oneE M.min=n:=⟨_,rfl⟩
 have HX:Hid (n=0→X=a):=Lib.hid (fun h0=>by
  rw [←hX,if_pos]
  rw [←hnn] at h0
  unfold oneE at h0
  split at h0
  ·assumption
  ·cases h0)
 simp only [hX,hnn] at HSI
 rw [hnn]
 have g0:(tMinor.toList==[101,110,116,105,116,121])=false:=by rw [qEntity];decide
 have g1:(tMinor.toList==[109,97,112])=false:=by rw [qMap];decide
 have g2:(tMinor.toList==[103,114,111,117,112])=false:=by rw [qGroup];decide
 have g3:(tMinor.toList==[114,101,115,101,114,118,101])=false:=by rw [qReserve];decide
 have g4:(tMinor.toList==[100,105,102,102,101,114])=false:=by rw [qDiffer];decide
 have gt:(tMinor.toList==[109,105,110,111,114])=true:=by rw [qMinor];decide
 clear hm hn hc hX hnn
 go_enter Tryz.func77,Tryz.ntmps77
 go_wp2_with fail
 refine HNA.out.mono ?_
 rintro en w1 ⟨rfl,rfl⟩
 obtain ⟨W0,hW0⟩:∃ W0,two0 w c f e l M=W0:=⟨_,rfl⟩
 rw [hW0] at HS y0 y1 ⊢
 clear hW0 HNA
 have r0:=fun p:Since w.heap.size W0=>cell_since y0 hgw p
 have r1:=fun p:Since w.heap.size W0=>cell_since y1 hgw p
 have HD:Hid (Below W0.heap.size W0 W0.drew):=Lib.hid ⟨rfl,rfl,rfl,Nat.le_refl _,fun _ _=>rfl⟩
 obtain ⟨W1,hW1⟩:∃ W1,W0.drew=W1:=⟨_,rfl⟩
 rw [hW1] at HD
 have HS1:=Lib.hid (HS.out.below HD.out)
 have HD0:Hid (Below w.heap.size W0 W1):=Lib.hid (HD.out.mono HS.out.bel.size)
 have hk:=HS1.out.box.nine.c7
 have hf:=boxM_free HS1.out.box 7
 obtain ⟨W2,hW2⟩:∃ W2,W1.setCell ⟨w.heap.size,7,none⟩ (.string X)=W2:=⟨_,rfl⟩
 have HG2:Hid (W1.grownBy W2 (some w.heap.size)):=Lib.hid (by rw [←hW2];exact set_grown W1 w.heap.size 7 (.string X))
 have HB2:Hid (BoxM W2 w.heap.size 36 c f e l { M with min:=X }):=Lib.hid (by rw [←hW2];exact box_set HS1.out.box rfl)
 have HR2:Hid (BoxM W2 (w.heap.size+1) 36 nil4 nil4 nil4 nil4 zeroM):=Lib.hid ((HG2.out.block _ HS1.out.res.lt (by simp)).trans HS1.out.res)
 have HW2:Hid (Below w.heap.size w W2):=Lib.hid (by rw [←hW2];exact set_below HS1.out.bel 7 (.string X))
 have HD2:Hid (Below w.heap.size W0 W2):=Lib.hid (by rw [←hW2];exact HD0.out.setCell (p:=⟨w.heap.size,7,none⟩) (Nat.le_refl _) _)
 go_wp2_with fail
 refine wp_region_since w.heap.size (.one [0,2,3,4] 1 (.one [] 5 (.one [6,7,8,9] 10 (.last [11])))) (by kernel_rfl) (by kernel_rfl) (fun d _ _ _ _ h=>by cases d <;> exact h) ?_
 rw [hW1]
 clear hW1 y0 y1 x0 x1
 simp only [wpPlan,pick,nth]
 repeat (go_big_quiet_step (fail))
 refine wpQuiet_nil ?_
 intro K hK
 refine alone_want (by kernel_rfl) ?_
 go_big_op
 refine hK _ _ (since_in HD0.out) ?_
 clear hK K
 refine wpQuiet_nil ?_
 intro K hK
 refine alone_want (by kernel_rfl) ?_
 go_big_op
 refine (HSI.out _).mono ?_
 rintro en w3 ⟨rfl,rfl⟩
 refine hK _ _ (since_in HD0.out) ?_
 clear hK K
 repeat (go_big_quiet_step (fail))
 refine wpQuiet_nil ?_
 intro K hK
 refine alone_want (by kernel_rfl) ?_
 go_big_op
 refine hK _ _ (since_in HD2.out) ?_
 clear hK K r0 r1 hk hf hW2
 repeat (go_big_quiet_step (fail))
 refine wpQuiet_nil ?_
 obtain ⟨k0,k1,k2,k3,k4,k5,k6,k7,k8⟩:=HB2.out.nine
 go_wp2_with (refine wpList_store_mast rfl 36 (.tmp 4) (.tmp 162) rfl (w.heap.size+1) nil4 nil4 nil4 nil4 c f e l zeroM { M with min:=X } 36 rfl rfl HR2.out HO.out (by kernel_rfl) ?_;intro w4 hb4 hg4)
 clear k0 k1 k2 k3 k4 k5 k6 k7 k8
 have HBG:=Lib.hid (HW2.out.grown hg4 HW2.out.size (fun j hj=>by cases hj;exact Nat.le_succ _))
 obtain ⟨c0,c1,c2,c3,c4,c5,c6,c7,c8⟩:=hb4.nine
 clear hb4 hg4
 refine bodyPost_ret (v:=.tuple #[aggM c f e l { M with min:=X },.int .i64 n]) (by simp [results,Tryz.results77,go_sem,c0,c1,c2,c3,c4,c5,c6,c7,c8]) rfl ⟨_,rfl,fun h0=>⟨by rw [HX.out h0],?_⟩,HO.out,HBG.out⟩
 have hk:=HM.out.keep HBG.out
 exact ⟨hk.chart,hk.flows,hk.ents,hk.lines⟩
set_option maxRecDepth 100000 in
set_option maxHeartbeats 8000000 in
theorem small_stake (v c f e l:Value) (a:ByteArray) (M:Mast) (w:World) (hm:MastIn w c f e l M) (hv:StrsV w v [tStake,a]) (hn:namesW [tStake,a]=true) :
 Calls Tryz.prog 77 #[aggM c f e l M,v] w fun en w'=>∃ M',en=.returned (.tuple #[aggM c f e l M',.int .i64 (oneE M.stk)])∧(oneE M.stk=0→M'={ M with stk:=a }∧MastIn w' c f e l M')∧Ones c f e l∧Below w.heap.size w w':=by
 have HS:=Lib.hid (two_start w hm)
 have HNA:=Lib.hid (rnames_any v _ (two0 w c f e l M) (hv.keep HS.out.bel))
 rw [hn] at HNA
 have HM:=Lib.hid hm
 have HO:=Lib.hid (ones_of hm)
 obtain ⟨p,cp,rfl,hcap,hml,hc⟩:=hv
 obtain ⟨g,o,rfl,x0⟩:=hc 0 tStake rfl
 obtain ⟨g',o',e1,x1⟩:=hc 1 a rfl
 cases e1
 rw [show ([tStake,a]:List ByteArray).length=2 from rfl] at HNA hcap hml ⊢
 rw [Nat.add_zero] at x0
 have hgw:g < w.heap.size:=World.block_lt_of_cell? w _ x0
 have y0:=cell_later HS.out.bel x0
 have y1:=cell_later HS.out.bel x1
 have HSI:=Lib.hid (single_any M.stk a)
 obtain ⟨X,hX⟩:∃ X,(if M.stk=emp then a else M.stk)=X:=⟨_,rfl⟩
 obtain ⟨n,hnn⟩:∃ n,oneE M.stk=n:=⟨_,rfl⟩
 have HX:Hid (n=0→X=a):=Lib.hid (fun h0=>by
  rw [←hX,if_pos]
  rw [←hnn] at h0
  unfold oneE at h0
  split at h0
  ·assumption
  ·cases h0)
 simp only [hX,hnn] at HSI
 rw [hnn]
 have g0:(tStake.toList==[101,110,116,105,116,121])=false:=by rw [qEntity];decide
 have g1:(tStake.toList==[109,97,112])=false:=by rw [qMap];decide
 have g2:(tStake.toList==[103,114,111,117,112])=false:=by rw [qGroup];decide
 have g3:(tStake.toList==[114,101,115,101,114,118,101])=false:=by rw [qReserve];decide
 have g4:(tStake.toList==[100,105,102,102,101,114])=false:=by rw [qDiffer];decide
 have g5:(tStake.toList==[109,105,110,111,114])=false:=by rw [qMinor];decide
 have gt:(tStake.toList==[115,116,97,107,101])=true:=by rw [qStake];decide
 clear hm hn hc hX hnn
 go_enter Tryz.func77,Tryz.ntmps77
 go_wp2_with fail
 refine HNA.out.mono ?_
 rintro en w1 ⟨rfl,rfl⟩
 obtain ⟨W0,hW0⟩:∃ W0,two0 w c f e l M=W0:=⟨_,rfl⟩
 rw [hW0] at HS y0 y1 ⊢
 clear hW0 HNA
 have r0:=fun p:Since w.heap.size W0=>cell_since y0 hgw p
 have r1:=fun p:Since w.heap.size W0=>cell_since y1 hgw p
 have HD:Hid (Below W0.heap.size W0 W0.drew):=Lib.hid ⟨rfl,rfl,rfl,Nat.le_refl _,fun _ _=>rfl⟩
 obtain ⟨W1,hW1⟩:∃ W1,W0.drew=W1:=⟨_,rfl⟩
 rw [hW1] at HD
 have HS1:=Lib.hid (HS.out.below HD.out)
 have HD0:Hid (Below w.heap.size W0 W1):=Lib.hid (HD.out.mono HS.out.bel.size)
 have hk:=HS1.out.box.nine.c8
 have hf:=boxM_free HS1.out.box 8
 obtain ⟨W2,hW2⟩:∃ W2,W1.setCell ⟨w.heap.size,8,none⟩ (.string X)=W2:=⟨_,rfl⟩
 have HG2:Hid (W1.grownBy W2 (some w.heap.size)):=Lib.hid (by rw [←hW2];exact set_grown W1 w.heap.size 8 (.string X))
 have HB2:Hid (BoxM W2 w.heap.size 36 c f e l { M with stk:=X }):=Lib.hid (by rw [←hW2];exact box_set HS1.out.box rfl)
 have HR2:Hid (BoxM W2 (w.heap.size+1) 36 nil4 nil4 nil4 nil4 zeroM):=Lib.hid ((HG2.out.block _ HS1.out.res.lt (by simp)).trans HS1.out.res)
 have HW2:Hid (Below w.heap.size w W2):=Lib.hid (by rw [←hW2];exact set_below HS1.out.bel 8 (.string X))
 have HD2:Hid (Below w.heap.size W0 W2):=Lib.hid (by rw [←hW2];exact HD0.out.setCell (p:=⟨w.heap.size,8,none⟩) (Nat.le_refl _) _)
 go_wp2_with fail
 refine wp_region_since w.heap.size (.one [0,2,3,4] 1 (.one [] 5 (.one [6,7,8,9] 10 (.last [11])))) (by kernel_rfl) (by kernel_rfl) (fun d _ _ _ _ h=>by cases d <;> exact h) ?_
 rw [hW1]
 clear hW1 y0 y1 x0 x1
 simp only [wpPlan,pick,nth]
 repeat (go_big_quiet_step (fail))
 refine wpQuiet_nil ?_
 intro K hK
 refine alone_want (by kernel_rfl) ?_
 go_big_op
 refine hK _ _ (since_in HD0.out) ?_
 clear hK K
 refine wpQuiet_nil ?_
 intro K hK
 refine alone_want (by kernel_rfl) ?_
 go_big_op
 refine (HSI.out _).mono ?_
 rintro en w3 ⟨rfl,rfl⟩
 refine hK _ _ (since_in HD0.out) ?_
 clear hK K
 repeat (go_big_quiet_step (fail))
 refine wpQuiet_nil ?_
 intro K hK
 refine alone_want (by kernel_rfl) ?_
 go_big_op
 refine hK _ _ (since_in HD2.out) ?_
 clear hK K r0 r1 hk hf hW2
 repeat (go_big_quiet_step (fail))
 refine wpQuiet_nil ?_
 obtain ⟨k0,k1,k2,k3,k4,k5,k6,k7,k8⟩:=HB2.out.nine
 go_wp2_with (refine wpList_store_mast rfl 36 (.tmp 4) (.tmp 162) rfl (w.heap.size+1) nil4 nil4 nil4 nil4 c f e l zeroM { M with stk:=X } 36 rfl rfl HR2.out HO.out (by kernel_rfl) ?_;intro w4 hb4 hg4)
 clear k0 k1 k2 k3 k4 k5 k6 k7 k8
 have HBG:=Lib.hid (HW2.out.grown hg4 HW2.out.size (fun j hj=>by cases hj;exact Nat.le_succ _))
 obtain ⟨c0,c1,c2,c3,c4,c5,c6,c7,c8⟩:=hb4.nine
 clear hb4 hg4
 refine bodyPost_ret (v:=.tuple #[aggM c f e l { M with stk:=X },.int .i64 n]) (by simp [results,Tryz.results77,go_sem,c0,c1,c2,c3,c4,c5,c6,c7,c8]) rfl ⟨_,rfl,fun h0=>⟨by rw [HX.out h0],?_⟩,HO.out,HBG.out⟩
 have hk:=HM.out.keep HBG.out
 exact ⟨hk.chart,hk.flows,hk.ents,hk.lines⟩
set_option maxRecDepth 100000 in
set_option maxHeartbeats 16000000 in
theorem small_entity (v c f e l:Value) (a b:ByteArray) (M:Mast) (w:World) (hm:MastIn w c f e l M) (hs:Sane M) (hv:StrsV w v [tEntity,a,b]) (hn:namesW [tEntity,a,b]=true) :
 Calls Tryz.prog 77 #[aggM c f e l M,v] w fun en w'=>∃ v3 M',en=.returned (.tuple #[aggM c f v3 l M',.int .i64 (entE M.ents ⟨a,b⟩)])∧(entE M.ents ⟨a,b⟩=0→M'={ M with ents:=G.insR Ent.code M.ents ⟨a,b⟩ }∧MastIn w' c f v3 l M')∧Ones c f v3 l∧Off1 w e v3∧Below w.heap.size w w':=by
 obtain ⟨pe,ce,ee0,_⟩:=hm.ents
 subst ee0
 have hlen:M.ents.length≤1000:=by have:=hs.le;omega
 have HS:=Lib.hid (two_start w hm)
 have HNA:=Lib.hid (rnames_any v _ (two0 w c f (.slice pe M.ents.length ce) l M) (hv.keep HS.out.bel))
 rw [hn] at HNA
 have HM:=Lib.hid hm
 have HO:=Lib.hid (ones_of hm)
 obtain ⟨p,cp,rfl,hcap,hml,hc⟩:=hv
 obtain ⟨g,o,rfl,x0⟩:=hc 0 tEntity rfl
 obtain ⟨g',o',e1,x1⟩:=hc 1 a rfl
 cases e1
 obtain ⟨g',o',e1,x2⟩:=hc 2 b rfl
 cases e1
 rw [show ([tEntity,a,b]:List ByteArray).length=3 from rfl] at HNA hcap hml ⊢
 rw [Nat.add_zero] at x0
 have hgw:g < w.heap.size:=World.block_lt_of_cell? w _ x0
 have y0:=cell_later HS.out.bel x0
 have y1:=cell_later HS.out.bel x1
 have y2:=cell_later HS.out.bel x2
 have gt:(tEntity.toList==[101,110,116,105,116,121])=true:=by rw [qEntity];decide
 obtain ⟨n,hnn⟩:∃ n,entE M.ents ⟨a,b⟩=n:=⟨_,rfl⟩
 obtain ⟨R,hR⟩:∃ R,G.insR Ent.code M.ents ⟨a,b⟩=R:=⟨_,rfl⟩
 rw [hnn,hR]
 clear hm hn hc
 go_enter Tryz.func77,Tryz.ntmps77
 go_wp2_with fail
 refine HNA.out.mono ?_
 rintro en w1 ⟨rfl,rfl⟩
 obtain ⟨W0,hW0⟩:∃ W0,two0 w c f (.slice pe M.ents.length ce) l M=W0:=⟨_,rfl⟩
 rw [hW0] at HS y0 y1 y2 ⊢
 clear hW0 HNA
 have r0:=fun p:Since w.heap.size W0=>cell_since y0 hgw p
 have r1:=fun p:Since w.heap.size W0=>cell_since y1 hgw p
 have r2:=fun p:Since w.heap.size W0=>cell_since y2 hgw p
 have HD:Hid (Below W0.heap.size W0 W0.drew):=Lib.hid ⟨rfl,rfl,rfl,Nat.le_refl _,fun _ _=>rfl⟩
 obtain ⟨W1,hW1⟩:∃ W1,W0.drew=W1:=⟨_,rfl⟩
 rw [hW1] at HD
 have HS1:=Lib.hid (HS.out.below HD.out)
 have HD0:Hid (Below w.heap.size W0 W1):=Lib.hid (HD.out.mono HS.out.bel.size)
 have HCA:=Lib.hid (rent_any (.slice pe M.ents.length ce) M.ents ⟨a,b⟩ W1 HS1.out.mast.ents hlen)
 rw [hnn,hR] at HCA
 have hk:=HS1.out.box.nine.c2
 clear hnn hR hlen hs
 go_wp2_with fail
 refine wp_region_since w.heap.size (.one [0,2,3,4,5,6,7,8] 1 (.one [] 9 (.one [10,11,12,13] 14 (.last [15])))) (by kernel_rfl) (by kernel_rfl) (fun d _ _ _ _ h=>by cases d <;> exact h) ?_
 rw [hW1]
 clear hW1 y0 x0 y1 x1 y2 x2
 simp only [wpPlan,pick,nth]
 repeat (go_big_quiet_step (fail))
 refine wpQuiet_nil ?_
 intro K hK
 refine alone_want (by kernel_rfl) ?_
 go_big_op
 refine hK _ _ (since_in HD0.out) ?_
 clear hK K
 refine wpQuiet_nil ?_
 intro K hK
 refine alone_want (by kernel_rfl) ?_
 go_big_op
 refine HCA.out.mono ?_
 rintro en w3 ⟨v3,rfl,ho3,hn3,hb3⟩
 obtain ⟨p3,m3,cp3,rfl⟩:=told_shape ho3 hn3
 have HO3:=Lib.hid ho3
 have HN3:=Lib.hid hn3
 have HS3:=Lib.hid (HS1.out.below hb3)
 have HD3:Hid (Below w.heap.size W0 w3):=Lib.hid (HD0.out.trans (hb3.mono HS1.out.bel.size))
 have hB1:=HS1.out.bel.size
 have hk3:=HS3.out.box.nine.c2
 have hf3:=boxM_free HS3.out.box 2
 obtain ⟨W2,hW2⟩:∃ W2,w3.setCell ⟨w.heap.size,2,none⟩ (.slice p3 m3 cp3)=W2:=⟨_,rfl⟩
 have HG2:Hid (w3.grownBy W2 (some w.heap.size)):=Lib.hid (by rw [←hW2];exact set_grown w3 w.heap.size 2 (.slice p3 m3 cp3))
 have HW2:Hid (Below w.heap.size w W2):=Lib.hid (by rw [←hW2];exact set_below HS3.out.bel 2 _)
 have HD2:Hid (Below w.heap.size W0 W2):=Lib.hid (by rw [←hW2];exact HD3.out.setCell (p:=⟨w.heap.size,2,none⟩) (Nat.le_refl _) _)
 obtain ⟨M2,hM2⟩:∃ M2:Mast,{ M with ents:=R }=M2:=⟨_,rfl⟩
 have HB2:Hid (BoxM W2 w.heap.size 36 c f (.slice p3 m3 cp3) l M2):=Lib.hid (by rw [←hW2,←hM2];exact box_set HS3.out.box rfl)
 have HR2:Hid (BoxM W2 (w.heap.size+1) 36 nil4 nil4 nil4 nil4 zeroM):=Lib.hid ((HG2.out.block _ HS3.out.res.lt (by simp)).trans HS3.out.res)
 have HM2:Hid (M2.chart=M.chart∧M2.flows=M.flows∧M2.lines=M.lines):=Lib.hid (by rw [←hM2];exact ⟨rfl,rfl,rfl⟩)
 have HMM:=Lib.hid hM2
 have HO2:Hid (Ones c f (.slice p3 m3 cp3) l):=Lib.hid ⟨HO.out.c,HO.out.f,rfl,HO.out.l⟩
 clear ho3 hn3 hb3 hM2
 refine hK _ _ (since_in HD3.out) ?_
 clear hK K hk
 repeat (go_big_quiet_step (fail))
 refine wpQuiet_nil ?_
 intro K hK
 refine alone_want (by kernel_rfl) ?_
 go_big_op
 refine hK _ _ (since_in HD2.out) ?_
 clear hK K r0 r1 r2 hk3 hf3 hW2
 repeat (go_big_quiet_step (fail))
 refine wpQuiet_nil ?_
 obtain ⟨k0,k1,k2,k3,k4,k5,k6,k7,k8⟩:=HB2.out.nine
 go_wp2_with (refine wpList_store_mast rfl 36 (.tmp 4) (.tmp 162) rfl (w.heap.size+1) nil4 nil4 nil4 nil4 c f (.slice p3 m3 cp3) l zeroM M2 36 rfl rfl HR2.out HO2.out (by kernel_rfl) ?_;intro w4 hb4 hg4)
 clear k0 k1 k2 k3 k4 k5 k6 k7 k8
 have HBG:=Lib.hid (HW2.out.grown hg4 HW2.out.size (fun j hj=>by cases hj;exact Nat.le_succ _))
 have HX4:Hid (n=0→ElsV encE w4 (.slice p3 m3 cp3) M2.ents):=Lib.hid (fun h0=>by
  obtain ⟨t,hr⟩:=HN3.out h0
  have h2:=(hr.kept HG2.out (.inr (fun e0=>by
   rcases hr.2 with ⟨e,_⟩ | ⟨g',_,_,e,hge,_⟩
   ·cases e;simp [Value.ownBlock] at e0
   ·cases e
    have h3:g'=w.heap.size:=by simpa [Value.ownBlock] using e0
    have:=HS1.out.box.lt
    omega))).kept hg4 (.inr (fun e0=>by
   rcases hr.2 with ⟨e,_⟩ | ⟨g',_,_,e,hge,_⟩
   ·cases e;simp [Value.ownBlock] at e0
   ·cases e
    have h3:g'=w.heap.size+1:=by simpa [Value.ownBlock] using e0
    have:=HS1.out.res.lt
    omega))
  rw [←HMM.out]
  exact els_of_own h2)
 obtain ⟨c0,c1,c2,c3,c4,c5,c6,c7,c8⟩:=hb4.nine
 clear hb4 hg4
 refine bodyPost_ret (v:=.tuple #[aggM c f (.slice p3 m3 cp3) l M2,.int .i64 n]) (by simp [results,Tryz.results77,go_sem,c0,c1,c2,c3,c4,c5,c6,c7,c8]) rfl ⟨_,_,rfl,fun h0=>⟨HMM.out.symm,?_⟩,HO2.out,Off1.told HO3.out HN3.out HS1.out.bel.size,HBG.out⟩
 have hk:=HM.out.keep HBG.out
 obtain ⟨m1,m2,m3⟩:=HM2.out
 exact ⟨by rw [m1];exact hk.chart,by rw [m2];exact hk.flows,HX4.out h0,by rw [m3];exact hk.lines⟩
set_option maxRecDepth 100000 in
set_option maxHeartbeats 16000000 in
theorem small_map (v c f e l:Value) (a b d:ByteArray) (M:Mast) (w:World) (hm:MastIn w c f e l M) (hs:Sane M) (hv:StrsV w v [tMap,a,b,d]) (hn:namesW [tMap,a,b,d]=true) :
 Calls Tryz.prog 77 #[aggM c f e l M,v] w fun en w'=>∃ v3 M',en=.returned (.tuple #[aggM c f e v3 M',.int .i64 (linEr M.lines ⟨a,b,d⟩)])∧(linEr M.lines ⟨a,b,d⟩=0→M'={ M with lines:=G.insR Lin.key M.lines ⟨a,b,d⟩ }∧MastIn w' c f e v3 M')∧Ones c f e v3∧Off1 w l v3∧Below w.heap.size w w':=by
 obtain ⟨pl,cl,el0,_⟩:=hm.lines
 subst el0
 have hlen:M.lines.length≤1000:=by have:=hs.ll;omega
 have HS:=Lib.hid (two_start w hm)
 have HNA:=Lib.hid (rnames_any v _ (two0 w c f e (.slice pl M.lines.length cl) M) (hv.keep HS.out.bel))
 rw [hn] at HNA
 have HM:=Lib.hid hm
 have HO:=Lib.hid (ones_of hm)
 obtain ⟨p,cp,rfl,hcap,hml,hc⟩:=hv
 obtain ⟨g,o,rfl,x0⟩:=hc 0 tMap rfl
 obtain ⟨g',o',e1,x1⟩:=hc 1 a rfl
 cases e1
 obtain ⟨g',o',e1,x2⟩:=hc 2 b rfl
 cases e1
 obtain ⟨g',o',e1,x3⟩:=hc 3 d rfl
 cases e1
 rw [show ([tMap,a,b,d]:List ByteArray).length=4 from rfl] at HNA hcap hml ⊢
 rw [Nat.add_zero] at x0
 have hgw:g < w.heap.size:=World.block_lt_of_cell? w _ x0
 have y0:=cell_later HS.out.bel x0
 have y1:=cell_later HS.out.bel x1
 have y2:=cell_later HS.out.bel x2
 have y3:=cell_later HS.out.bel x3
 have g0:(tMap.toList==[101,110,116,105,116,121])=false:=by rw [qEntity];decide
 have gt:(tMap.toList==[109,97,112])=true:=by rw [qMap];decide
 obtain ⟨n,hnn⟩:∃ n,linEr M.lines ⟨a,b,d⟩=n:=⟨_,rfl⟩
 obtain ⟨R,hR⟩:∃ R,G.insR Lin.key M.lines ⟨a,b,d⟩=R:=⟨_,rfl⟩
 rw [hnn,hR]
 clear hm hn hc
 go_enter Tryz.func77,Tryz.ntmps77
 go_wp2_with fail
 refine HNA.out.mono ?_
 rintro en w1 ⟨rfl,rfl⟩
 obtain ⟨W0,hW0⟩:∃ W0,two0 w c f e (.slice pl M.lines.length cl) M=W0:=⟨_,rfl⟩
 rw [hW0] at HS y0 y1 y2 y3 ⊢
 clear hW0 HNA
 have r0:=fun p:Since w.heap.size W0=>cell_since y0 hgw p
 have r1:=fun p:Since w.heap.size W0=>cell_since y1 hgw p
 have r2:=fun p:Since w.heap.size W0=>cell_since y2 hgw p
 have r3:=fun p:Since w.heap.size W0=>cell_since y3 hgw p
 have HD:Hid (Below W0.heap.size W0 W0.drew):=Lib.hid ⟨rfl,rfl,rfl,Nat.le_refl _,fun _ _=>rfl⟩
 obtain ⟨W1,hW1⟩:∃ W1,W0.drew=W1:=⟨_,rfl⟩
 rw [hW1] at HD
 have HS1:=Lib.hid (HS.out.below HD.out)
 have HD0:Hid (Below w.heap.size W0 W1):=Lib.hid (HD.out.mono HS.out.bel.size)
 have HCA:=Lib.hid (rline_any (.slice pl M.lines.length cl) M.lines ⟨a,b,d⟩ W1 HS1.out.mast.lines hlen)
 rw [hnn,hR] at HCA
 have hk:=HS1.out.box.nine.c3
 clear hnn hR hlen hs
 go_wp2_with fail
 refine wp_region_since w.heap.size (.one [0,2,3,4,5,6,7,8,9,10,11] 1 (.one [] 12 (.one [13,14,15,16] 17 (.last [18])))) (by kernel_rfl) (by kernel_rfl) (fun d _ _ _ _ h=>by cases d <;> exact h) ?_
 rw [hW1]
 clear hW1 y0 x0 y1 x1 y2 x2 y3 x3
 simp only [wpPlan,pick,nth]
 repeat (go_big_quiet_step (fail))
 refine wpQuiet_nil ?_
 intro K hK
 refine alone_want (by kernel_rfl) ?_
 go_big_op
 refine hK _ _ (since_in HD0.out) ?_
 clear hK K
 refine wpQuiet_nil ?_
 intro K hK
 refine alone_want (by kernel_rfl) ?_
 go_big_op
 refine HCA.out.mono ?_
 rintro en w3 ⟨v3,rfl,ho3,hn3,hb3⟩
 obtain ⟨p3,m3,cp3,rfl⟩:=told_shape ho3 hn3
 have HO3:=Lib.hid ho3
 have HN3:=Lib.hid hn3
 have HS3:=Lib.hid (HS1.out.below hb3)
 have HD3:Hid (Below w.heap.size W0 w3):=Lib.hid (HD0.out.trans (hb3.mono HS1.out.bel.size))
 have hB1:=HS1.out.bel.size
 have hk3:=HS3.out.box.nine.c3
 have hf3:=boxM_free HS3.out.box 3
 obtain ⟨W2,hW2⟩:∃ W2,w3.setCell ⟨w.heap.size,3,none⟩ (.slice p3 m3 cp3)=W2:=⟨_,rfl⟩
 have HG2:Hid (w3.grownBy W2 (some w.heap.size)):=Lib.hid (by rw [←hW2];exact set_grown w3 w.heap.size 3 (.slice p3 m3 cp3))
 have HW2:Hid (Below w.heap.size w W2):=Lib.hid (by rw [←hW2];exact set_below HS3.out.bel 3 _)
 have HD2:Hid (Below w.heap.size W0 W2):=Lib.hid (by rw [←hW2];exact HD3.out.setCell (p:=⟨w.heap.size,3,none⟩) (Nat.le_refl _) _)
 obtain ⟨M2,hM2⟩:∃ M2:Mast,{ M with lines:=R }=M2:=⟨_,rfl⟩
 have HB2:Hid (BoxM W2 w.heap.size 36 c f e (.slice p3 m3 cp3) M2):=Lib.hid (by rw [←hW2,←hM2];exact box_set HS3.out.box rfl)
 have HR2:Hid (BoxM W2 (w.heap.size+1) 36 nil4 nil4 nil4 nil4 zeroM):=Lib.hid ((HG2.out.block _ HS3.out.res.lt (by simp)).trans HS3.out.res)
 have HM2:Hid (M2.chart=M.chart∧M2.flows=M.flows∧M2.ents=M.ents):=Lib.hid (by rw [←hM2];exact ⟨rfl,rfl,rfl⟩)
 have HMM:=Lib.hid hM2
 have HO2:Hid (Ones c f e (.slice p3 m3 cp3)):=Lib.hid ⟨HO.out.c,HO.out.f,HO.out.e,rfl⟩
 clear ho3 hn3 hb3 hM2
 refine hK _ _ (since_in HD3.out) ?_
 clear hK K hk
 repeat (go_big_quiet_step (fail))
 refine wpQuiet_nil ?_
 intro K hK
 refine alone_want (by kernel_rfl) ?_
 go_big_op
 refine hK _ _ (since_in HD2.out) ?_
 clear hK K r0 r1 r2 r3 hk3 hf3 hW2
 repeat (go_big_quiet_step (fail))
 refine wpQuiet_nil ?_
 obtain ⟨k0,k1,k2,k3,k4,k5,k6,k7,k8⟩:=HB2.out.nine
 go_wp2_with (refine wpList_store_mast rfl 36 (.tmp 4) (.tmp 162) rfl (w.heap.size+1) nil4 nil4 nil4 nil4 c f e (.slice p3 m3 cp3) zeroM M2 36 rfl rfl HR2.out HO2.out (by kernel_rfl) ?_;intro w4 hb4 hg4)
 clear k0 k1 k2 k3 k4 k5 k6 k7 k8
 have HBG:=Lib.hid (HW2.out.grown hg4 HW2.out.size (fun j hj=>by cases hj;exact Nat.le_succ _))
 have HX4:Hid (n=0→ElsV encL w4 (.slice p3 m3 cp3) M2.lines):=Lib.hid (fun h0=>by
  obtain ⟨t,hr⟩:=HN3.out h0
  have h2:=(hr.kept HG2.out (.inr (fun e0=>by
   rcases hr.2 with ⟨e,_⟩ | ⟨g',_,_,e,hge,_⟩
   ·cases e;simp [Value.ownBlock] at e0
   ·cases e
    have h3:g'=w.heap.size:=by simpa [Value.ownBlock] using e0
    have:=HS1.out.box.lt
    omega))).kept hg4 (.inr (fun e0=>by
   rcases hr.2 with ⟨e,_⟩ | ⟨g',_,_,e,hge,_⟩
   ·cases e;simp [Value.ownBlock] at e0
   ·cases e
    have h3:g'=w.heap.size+1:=by simpa [Value.ownBlock] using e0
    have:=HS1.out.res.lt
    omega))
  rw [←HMM.out]
  exact els_of_own h2)
 obtain ⟨c0,c1,c2,c3,c4,c5,c6,c7,c8⟩:=hb4.nine
 clear hb4 hg4
 refine bodyPost_ret (v:=.tuple #[aggM c f e (.slice p3 m3 cp3) M2,.int .i64 n]) (by simp [results,Tryz.results77,go_sem,c0,c1,c2,c3,c4,c5,c6,c7,c8]) rfl ⟨_,_,rfl,fun h0=>⟨HMM.out.symm,?_⟩,HO2.out,Off1.told HO3.out HN3.out HS1.out.bel.size,HBG.out⟩
 have hk:=HM.out.keep HBG.out
 obtain ⟨m1,m2,m3⟩:=HM2.out
 exact ⟨by rw [m1];exact hk.chart,by rw [m2];exact hk.flows,by rw [m3];exact hk.ents,HX4.out h0⟩
theorem formed_no_names {ws:List ByteArray} (h:namesW ws=false):formedW ws=false:=by unfold formedW;rw [h];simp
theorem formed_no_len {ws:List ByteArray} {k:Nat} (hl:lenW (wd ws 0)=(k:Int)) (h:formedW ws=false) (hn:namesW ws=true) (h0:0 < ws.length):ws.length≠k:=fun e=>by
 unfold formedW at h
 rw [hn,hl,e] at h
 have:0 < k:=by omega
 simp [this] at h
theorem step_entity {M:Mast} {ws:List ByteArray} (hf:formedW ws=true) (h0:wd ws 0=tEntity):stepE M ws=entE M.ents (entOf ws)∧stepV M ws={ M with ents:=G.insK Ent.code M.ents (entOf ws) }:=by
 refine ⟨?_,?_⟩
 ·unfold stepE;rw [if_neg (by rw [h0];decide),if_neg (by rw [h0];decide),if_neg (by rw [hf];simp),if_pos h0]
 ·unfold stepV;rw [if_neg (by rw [h0];decide),if_neg (by rw [h0];decide),if_pos h0]
theorem step_map {M:Mast} {ws:List ByteArray} (hf:formedW ws=true) (h0:wd ws 0=tMap):stepE M ws=linEr M.lines (linOf ws)∧stepV M ws={ M with lines:=G.insK Lin.key M.lines (linOf ws) }:=by
 refine ⟨?_,?_⟩
 ·unfold stepE;rw [if_neg (by rw [h0];decide),if_neg (by rw [h0];decide),if_neg (by rw [hf];simp),if_neg (by rw [h0];decide),if_pos h0]
 ·unfold stepV;rw [if_neg (by rw [h0];decide),if_neg (by rw [h0];decide),if_neg (by rw [h0];decide),if_pos h0]
theorem step_group {M:Mast} {ws:List ByteArray} (hf:formedW ws=true) (h0:wd ws 0=tGroup):stepE M ws=oneE M.cur∧stepV M ws={ M with cur:=wd ws 1 }:=by
 refine ⟨?_,?_⟩
 ·unfold stepE;rw [if_neg (by rw [h0];decide),if_neg (by rw [h0];decide),if_neg (by rw [hf];simp),if_neg (by rw [h0];decide),if_neg (by rw [h0];decide),if_pos h0]
 ·unfold stepV;rw [if_neg (by rw [h0];decide),if_neg (by rw [h0];decide),if_neg (by rw [h0];decide),if_neg (by rw [h0];decide),if_pos h0]
theorem step_reserve {M:Mast} {ws:List ByteArray} (hf:formedW ws=true) (h0:wd ws 0=tReserve):stepE M ws=oneE M.res∧stepV M ws={ M with res:=wd ws 1 }:=by
 refine ⟨?_,?_⟩
 ·unfold stepE;rw [if_neg (by rw [h0];decide),if_neg (by rw [h0];decide),if_neg (by rw [hf];simp),if_neg (by rw [h0];decide),if_neg (by rw [h0];decide),if_neg (by rw [h0];decide),if_pos h0]
 ·unfold stepV;rw [if_neg (by rw [h0];decide),if_neg (by rw [h0];decide),if_neg (by rw [h0];decide),if_neg (by rw [h0];decide),if_neg (by rw [h0];decide),if_pos h0]
theorem step_differ {M:Mast} {ws:List ByteArray} (hf:formedW ws=true) (h0:wd ws 0=tDiffer):stepE M ws=oneE M.dif∧stepV M ws={ M with dif:=wd ws 1 }:=by
 refine ⟨?_,?_⟩
 ·unfold stepE;rw [if_neg (by rw [h0];decide),if_neg (by rw [h0];decide),if_neg (by rw [hf];simp),if_neg (by rw [h0];decide),if_neg (by rw [h0];decide),if_neg (by rw [h0];decide),if_neg (by rw [h0];decide),if_pos h0]
 ·unfold stepV;rw [if_neg (by rw [h0];decide),if_neg (by rw [h0];decide),if_neg (by rw [h0];decide),if_neg (by rw [h0];decide),if_neg (by rw [h0];decide),if_neg (by rw [h0];decide),if_pos h0]
theorem step_minor {M:Mast} {ws:List ByteArray} (hf:formedW ws=true) (h0:wd ws 0=tMinor):stepE M ws=oneE M.min∧stepV M ws={ M with min:=wd ws 1 }:=by
 refine ⟨?_,?_⟩
 ·unfold stepE;rw [if_neg (by rw [h0];decide),if_neg (by rw [h0];decide),if_neg (by rw [hf];simp),if_neg (by rw [h0];decide),if_neg (by rw [h0];decide),if_neg (by rw [h0];decide),if_neg (by rw [h0];decide),if_neg (by rw [h0];decide),if_pos h0]
 ·unfold stepV;rw [if_neg (by rw [h0];decide),if_neg (by rw [h0];decide),if_neg (by rw [h0];decide),if_neg (by rw [h0];decide),if_neg (by rw [h0];decide),if_neg (by rw [h0];decide),if_neg (by rw [h0];decide),if_pos h0]
theorem step_stake {M:Mast} {ws:List ByteArray} (hf:formedW ws=true) (h0:wd ws 0=tStake):stepE M ws=oneE M.stk∧stepV M ws={ M with stk:=wd ws 1 }:=by
 refine ⟨?_,?_⟩
 ·unfold stepE;rw [if_neg (by rw [h0];decide),if_neg (by rw [h0];decide),if_neg (by rw [hf];simp),if_neg (by rw [h0];decide),if_neg (by rw [h0];decide),if_neg (by rw [h0];decide),if_neg (by rw [h0];decide),if_neg (by rw [h0];decide),if_neg (by rw [h0];decide)]
 ·unfold stepV;rw [if_neg (by rw [h0];decide),if_neg (by rw [h0];decide),if_neg (by rw [h0];decide),if_neg (by rw [h0];decide),if_neg (by rw [h0];decide),if_neg (by rw [h0];decide),if_neg (by rw [h0];decide),if_neg (by rw [h0];decide)]
theorem rsmall_any (v c f e l:Value) (ws:List ByteArray) (M:Mast) (w:World) (hm:MastIn w c f e l M) (hs:Sane M) (hv:StrsV w v ws) (h0:0 < ws.length) (hA:wd ws 0≠tAccount) (hF:wd ws 0≠Fl.tFlow) :
 Calls Tryz.prog 77 #[aggM c f e l M,v] w (OneTold w c f e l M ws):=by
 obtain ⟨x0,hx0⟩:∃ x,ws[0]?=some x:=⟨_,List.getElem?_eq_getElem h0⟩
 have hwd:wd ws 0=x0:=wd_of hx0
 cases hn:namesW ws with
 | false=>exact small_names v c f e l ws M w hm hv hn (formed_no (formed_no_names hn) hA hF)
 | true =>
   cases hf:formedW ws with
   | false =>
     have hE:=formed_no hf hA hF (M:=M)
     by_cases h10:x0=tEntity
     ·have h1:=hwd.trans h10
      have hl:=formed_no_len (k:=3) (lenW_3 h1) hf hn h0
      subst h10
      exact small_no_entity v c f e l ws M w hm hv hn hE _ hx0 (by rw [qEntity];decide) (by rw [qMap];decide) (by rw [qGroup];decide) (by rw [qReserve];decide) (by rw [qDiffer];decide) (by rw [qMinor];decide) (by rw [qStake];decide) hl
     by_cases h11:x0=tMap
     ·have h1:=hwd.trans h11
      have hl:=formed_no_len (k:=4) (lenW_4 h1) hf hn h0
      subst h11
      exact small_no_map v c f e l ws M w hm hv hn hE _ hx0 (by rw [qEntity];decide) (by rw [qMap];decide) (by rw [qGroup];decide) (by rw [qReserve];decide) (by rw [qDiffer];decide) (by rw [qMinor];decide) (by rw [qStake];decide) hl
     by_cases h12:x0=tGroup
     ·have h1:=hwd.trans h12
      have hl:=formed_no_len (k:=2) (lenW_2 (by simp [h1])) hf hn h0
      subst h12
      exact small_no_group v c f e l ws M w hm hv hn hE _ hx0 (by rw [qEntity];decide) (by rw [qMap];decide) (by rw [qGroup];decide) (by rw [qReserve];decide) (by rw [qDiffer];decide) (by rw [qMinor];decide) (by rw [qStake];decide) hl
     by_cases h13:x0=tReserve
     ·have h1:=hwd.trans h13
      have hl:=formed_no_len (k:=2) (lenW_2 (by simp [h1])) hf hn h0
      subst h13
      exact small_no_reserve v c f e l ws M w hm hv hn hE _ hx0 (by rw [qEntity];decide) (by rw [qMap];decide) (by rw [qGroup];decide) (by rw [qReserve];decide) (by rw [qDiffer];decide) (by rw [qMinor];decide) (by rw [qStake];decide) hl
     by_cases h14:x0=tDiffer
     ·have h1:=hwd.trans h14
      have hl:=formed_no_len (k:=2) (lenW_2 (by simp [h1])) hf hn h0
      subst h14
      exact small_no_differ v c f e l ws M w hm hv hn hE _ hx0 (by rw [qEntity];decide) (by rw [qMap];decide) (by rw [qGroup];decide) (by rw [qReserve];decide) (by rw [qDiffer];decide) (by rw [qMinor];decide) (by rw [qStake];decide) hl
     by_cases h15:x0=tMinor
     ·have h1:=hwd.trans h15
      have hl:=formed_no_len (k:=2) (lenW_2 (by simp [h1])) hf hn h0
      subst h15
      exact small_no_minor v c f e l ws M w hm hv hn hE _ hx0 (by rw [qEntity];decide) (by rw [qMap];decide) (by rw [qGroup];decide) (by rw [qReserve];decide) (by rw [qDiffer];decide) (by rw [qMinor];decide) (by rw [qStake];decide) hl
     by_cases h16:x0=tStake
     ·have h1:=hwd.trans h16
      have hl:=formed_no_len (k:=2) (lenW_2 (by simp [h1])) hf hn h0
      subst h16
      exact small_no_stake v c f e l ws M w hm hv hn hE _ hx0 (by rw [qEntity];decide) (by rw [qMap];decide) (by rw [qGroup];decide) (by rw [qReserve];decide) (by rw [qDiffer];decide) (by rw [qMinor];decide) (by rw [qStake];decide) hl
     exact small_no_none v c f e l ws M w hm hv hn hE x0 hx0 (by rw [qEntity,decide_eq_false h10]) (by rw [qMap,decide_eq_false h11]) (by rw [qGroup,decide_eq_false h12]) (by rw [qReserve,decide_eq_false h13]) (by rw [qDiffer,decide_eq_false h14]) (by rw [qMinor,decide_eq_false h15]) (by rw [qStake,decide_eq_false h16])
   | true =>
     rcases formed_ways hf with ⟨w0,a,b,e1,_⟩ | ⟨w0,a,b,d,e1,_⟩ | ⟨w0,a,e1,_⟩
     ·obtain ⟨s1,s2⟩:=step_entity hf w0 (M:=M)
      subst e1
      unfold OneTold
      rw [s1,s2]
      refine (small_entity v c f e l a b M w hm hs hv hn).mono ?_
      rintro en w' ⟨v3,M',rfl,h2,h3,h8,h4⟩
      refine ⟨_,_,_,_,M',rfl,fun h5=>?_,h3,⟨Off1.refl _ _,Off1.refl _ _,h8,Off1.refl _ _⟩,h4⟩
      obtain ⟨h6,h7⟩:=h2 h5
      exact ⟨by rw [h6,show G.insR Ent.code M.ents ⟨a,b⟩=_ from G.insR_eq (x:=(⟨a,b⟩:Ent)) hs.en (entE_zero h5).1];rfl,h7⟩
     ·obtain ⟨s1,s2⟩:=step_map hf w0 (M:=M)
      subst e1
      unfold OneTold
      rw [s1,s2]
      refine (small_map v c f e l a b d M w hm hs hv hn).mono ?_
      rintro en w' ⟨v3,M',rfl,h2,h3,h8,h4⟩
      refine ⟨_,_,_,_,M',rfl,fun h5=>?_,h3,⟨Off1.refl _ _,Off1.refl _ _,Off1.refl _ _,h8⟩,h4⟩
      obtain ⟨h6,h7⟩:=h2 h5
      exact ⟨by rw [h6,show G.insR Lin.key M.lines ⟨a,b,d⟩=_ from G.insR_eq (x:=(⟨a,b,d⟩:Lin)) hs.li (linEr_zero h5).1];rfl,h7⟩
     ·have e2:wd ws 1=a:=by rw [e1];rfl
      rcases w0 with w0 | w0 | w0 | w0 | w0
      ·obtain ⟨s1,s2⟩:=step_group hf w0 (M:=M)
       rw [w0] at e1
       unfold OneTold
       rw [s1,s2,e2]
       subst e1
       refine (small_group v c f e l a M w hm hv hn).mono ?_
       rintro en w' ⟨M',rfl,h2,h3,h4⟩
       exact ⟨_,_,_,_,M',rfl,h2,h3,Off4.refl _ _ _ _ _,h4⟩
      ·obtain ⟨s1,s2⟩:=step_reserve hf w0 (M:=M)
       rw [w0] at e1
       unfold OneTold
       rw [s1,s2,e2]
       subst e1
       refine (small_reserve v c f e l a M w hm hv hn).mono ?_
       rintro en w' ⟨M',rfl,h2,h3,h4⟩
       exact ⟨_,_,_,_,M',rfl,h2,h3,Off4.refl _ _ _ _ _,h4⟩
      ·obtain ⟨s1,s2⟩:=step_differ hf w0 (M:=M)
       rw [w0] at e1
       unfold OneTold
       rw [s1,s2,e2]
       subst e1
       refine (small_differ v c f e l a M w hm hv hn).mono ?_
       rintro en w' ⟨M',rfl,h2,h3,h4⟩
       exact ⟨_,_,_,_,M',rfl,h2,h3,Off4.refl _ _ _ _ _,h4⟩
      ·obtain ⟨s1,s2⟩:=step_minor hf w0 (M:=M)
       rw [w0] at e1
       unfold OneTold
       rw [s1,s2,e2]
       subst e1
       refine (small_minor v c f e l a M w hm hv hn).mono ?_
       rintro en w' ⟨M',rfl,h2,h3,h4⟩
       exact ⟨_,_,_,_,M',rfl,h2,h3,Off4.refl _ _ _ _ _,h4⟩
      ·obtain ⟨s1,s2⟩:=step_stake hf w0 (M:=M)
       rw [w0] at e1
       unfold OneTold
       rw [s1,s2,e2]
       subst e1
       refine (small_stake v c f e l a M w hm hv hn).mono ?_
       rintro en w' ⟨M',rfl,h2,h3,h4⟩
       exact ⟨_,_,_,_,M',rfl,h2,h3,Off4.refl _ _ _ _ _,h4⟩
end Go.Proofs.YtdegffffcbhjbaaGreatDoor.Un
