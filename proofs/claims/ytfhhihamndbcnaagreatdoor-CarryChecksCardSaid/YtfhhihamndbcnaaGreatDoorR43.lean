/- UnitParseA UnitAlive UnitTold UnitDocSmall UnitDocOne UnitHad UnitDocParse -/
import Derived.Test.YtfhhihamndbcnaaGreatDoorR20
import Derived.Test.YtfhhihamndbcnaaGreatDoorR35
import Derived.Test.YtfhhihamndbcnaaGreatDoorR38
import Derived.Test.YtfhhihamndbcnaaGreatDoorR40
import Derived.Test.YtfhhihamndbcnaaGreatDoorR42
section
namespace Go.Proofs.YtfhhihamndbcnaaGreatDoor.Un
open Go.RowKit Go.Maps
theorem parse_any (s:ByteArray) (w:World) (hs:s.size≤30000) (hl:Laid w) (hlf:Fl.Laid w) :
 Calls Tryz.prog 27 #[.string s] w (MastTold w (parseM s).1 (parseM s).2) :=
 parse_with (fun v ws W0 W R m n c f e l D M=>read_any v ws W0 W R m n c f e l D M) s w hs hl hlf
end Go.Proofs.YtfhhihamndbcnaaGreatDoor.Un
end
section
namespace Go.Proofs.YtfhhihamndbcnaaGreatDoor.Un
open Go.RowKit
theorem mkB_size (l:List UInt8):(mkB l).size=l.length:=by
 rw [←size_list,mkB_data]
end Go.Proofs.YtfhhihamndbcnaaGreatDoor.Un
end
section
namespace Go.Proofs.YtfhhihamndbcnaaGreatDoor.Un
open Go.RowKit
structure RightOf (s:ByteArray) (M:Mast):Prop where
 run:runM zeroM (wordsT s)=(M,0)
 inv:Inv (wordsT s) M
 all:allE M=0
 lin:linE s.data.toList=0
end Go.Proofs.YtfhhihamndbcnaaGreatDoor.Un
end
section
namespace Go.Proofs.YtfhhihamndbcnaaGreatDoor.Un
open Go.RowKit
def OffV (P:Nat→Prop) (v:Value):Prop:=∀ (ad:Addr) (n c:Nat),v=.slice (some ad) n c→0 < n→P ad.block
def Off1 (w:World) (v v':Value):Prop:=∀ P:Nat→Prop,(∀ b,w.heap.size≤b→P b)→OffV P v→OffV P v'
theorem Off1.refl (w:World) (v:Value):Off1 w v v:=fun _ _ h=>h
theorem Off1.mono {w0 w:World} {v v':Value} (h:Off1 w v v') (hs:w0.heap.size≤w.heap.size):Off1 w0 v v':=fun P hp hv=>h P (fun b hb=>hp b (Nat.le_trans hs hb)) hv
theorem Off1.own {w W:World} {B n s:Nat} {t:TypeId} {v v':Value} {xs:List Value} (h:W.ownsRow B t s v' n xs) (hB:w.heap.size≤B):Off1 w v v':=fun P hp _ ad m c e _=>by
 rcases h.2 with ⟨e1,_⟩ | ⟨g,cap,cur,e1,hb,_⟩
 ·rw [e1] at e;cases e
 ·rw [e1] at e;cases e;exact hp _ (Nat.le_trans hB hb)
theorem Off1.told {α:Type} {E:Enc α} {w w1 w3:World} {v v':Value} {L:List α} {n:Int} (h1:n≠0→v'=v) (h2:n=0→∃ t,w3.ownsRow w1.heap.size t E.k v' L.length (flat E L)) (hs:w.heap.size≤w1.heap.size):Off1 w v v':=by
 by_cases h:n=0
 ·obtain ⟨t,h3⟩:=h2 h
  exact Off1.own h3 hs
 ·rw [h1 h];exact Off1.refl _ _
def Off4 (w:World) (c f e l c' f' e' l':Value):Prop:=Off1 w c c'∧Off1 w f f'∧Off1 w e e'∧Off1 w l l'
theorem Off4.refl (w:World) (c f e l:Value):Off4 w c f e l c f e l:=⟨Off1.refl _ _,Off1.refl _ _,Off1.refl _ _,Off1.refl _ _⟩
theorem els_off {α:Type} {E:Enc α} {P:Nat→Prop} {w w':World} {v:Value} {L:List α} (h:ElsV E w v L) (ho:OffV P v) (hk:∀ b,P b→b < w.heap.size→w'.heap[b]?=w.heap[b]?):ElsV E w' v L:=by
 obtain ⟨p,c,e,h1,h2,h3,hc⟩:=h
 refine ⟨p,c,e,h1,h2,h3,fun i x hx=>?_⟩
 obtain ⟨b,o,e',hat⟩:=hc i x hx
 have hb:=ho ⟨b,o,none⟩ _ _ (by rw [e,e']) (by have:=(List.getElem?_eq_some_iff.1 hx).1;omega)
 exact ⟨b,o,e',fun j u hj=>(World.cell?_of_block (hk b hb hat.lt)).trans (hat j u hj)⟩
theorem off_of_els {α:Type} {E:Enc α} {P:Nat→Prop} {w:World} {v:Value} {L:List α} (h:ElsV E w v L) (hp:∀ b,b < w.heap.size→P b):OffV P v:=fun ad n c e hn=>by
 obtain ⟨p,c',e',_,_,_,hc⟩:=h
 rw [e'] at e
 cases e
 obtain ⟨x,hx⟩:∃ x,L[0]?=some x:=⟨_,List.getElem?_eq_getElem hn⟩
 obtain ⟨b,o,e1,hat⟩:=hc 0 x hx
 cases e1
 exact hp b hat.lt
theorem off_of_mast {P:Nat→Prop} {w:World} {c f e l:Value} {M:Mast} (h:MastIn w c f e l M) (hp:∀ b,b < w.heap.size→P b):OffV P c∧OffV P f∧OffV P e∧OffV P l :=
 ⟨off_of_els (chart_els.1 h.chart) hp,off_of_els h.flows hp,off_of_els h.ents hp,off_of_els h.lines hp⟩
theorem mast_off {P:Nat→Prop} {w w':World} {c f e l:Value} {M:Mast} (h:MastIn w c f e l M) (h0:OffV P c) (h1:OffV P f) (h2:OffV P e) (h3:OffV P l) (hk:∀ b,P b→b < w.heap.size→w'.heap[b]?=w.heap[b]?):MastIn w' c f e l M :=
 ⟨chart_els.2 (els_off (chart_els.1 h.chart) h0 hk),els_off h.flows h1 hk,els_off h.ents h2 hk,els_off h.lines h3 hk⟩
def OneTold (w:World) (c0 f0 e0 l0:Value) (M:Mast) (ws:List ByteArray) (en:Ending) (w':World):Prop :=
 ∃ c f e l M',en=.returned (.tuple #[aggM c f e l M',.int .i64 (stepE M ws)])∧(stepE M ws=0→M'=stepV M ws∧MastIn w' c f e l M')∧Ones c f e l∧Off4 w c0 f0 e0 l0 c f e l∧Below w.heap.size w w'
structure TwoAt (w W:World) (c f e l:Value) (M:Mast):Prop where
 box:BoxM W w.heap.size 37 c f e l M
 res:BoxM W (w.heap.size+1) 37 nil4 nil4 nil4 nil4 zeroM
 bel:Below w.heap.size w W
 mast:MastIn W c f e l M
abbrev two0 (w:World) (c f e l:Value) (M:Mast):World:=(w.alloc (.cells (cellsM c f e l M) 37)).alloc (.cells #[.slice none 0 0,.slice none 0 0,.slice none 0 0,.slice none 0 0,.string ⟨#[]⟩,.string ⟨#[]⟩,.string ⟨#[]⟩,.string ⟨#[]⟩,.string ⟨#[]⟩] 37)
theorem two_start (w:World) {c f e l:Value} {M:Mast} (h:MastIn w c f e l M):TwoAt w (two0 w c f e l M) c f e l M:=by
 have hb:=(Below.refl w.heap.size w).alloc (Nat.le_refl _) (.cells (cellsM c f e l M) 37)
 have hb2:=hb.alloc hb.size (.cells (cellsM nil4 nil4 nil4 nil4 zeroM) 37)
 refine ⟨(BoxM.new w c f e l M _).kept ((Below.refl _ _).alloc (Nat.le_refl _) _),?_,hb2,h.keep hb2⟩
 have:=BoxM.new (w.alloc (.cells (cellsM c f e l M) 37)) nil4 nil4 nil4 nil4 zeroM 37
 rwa [World.size_alloc] at this
theorem TwoAt.below {w W W':World} {c f e l:Value} {M:Mast} (h:TwoAt w W c f e l M) (hb:Below W.heap.size W W'):TwoAt w W' c f e l M :=
 ⟨h.box.kept hb,h.res.kept hb,h.bel.trans (hb.mono h.bel.size),h.mast.keep hb⟩
theorem boxM_free {w:World} {b:Nat} {t:TypeId} {c f e l:Value} {M:Mast} (h:BoxM w b t c f e l M) (o:Nat):w.frozen? ⟨b,o,none⟩=false:=by
 unfold BoxM at h
 simp [World.frozen?,h]
theorem set_below {w W:World} (hb:Below w.heap.size w W) (o:Nat) (u:Value):Below w.heap.size w (W.setCell ⟨w.heap.size,o,none⟩ u):=hb.setCell (p:=⟨w.heap.size,o,none⟩) (Nat.le_refl _) u
theorem box_set {W:World} {g i:Nat} {t:TypeId} {c f e l c' f' e' l':Value} {M N:Mast} {u:Value} (h:BoxM W g t c f e l M) (hs:(cellsM c f e l M).setIfInBounds i u=cellsM c' f' e' l' N):BoxM (W.setCell ⟨g,i,none⟩ u) g t c' f' e' l' N:=by
 unfold BoxM at h ⊢
 rw [Joins.block_setCell h,hs]
theorem formed_no {ws:List ByteArray} (h:formedW ws=false) {M:Mast} (h1:wd ws 0≠tAccount) (h2:wd ws 0≠Fl.tFlow):stepE M ws=5:=by
 unfold stepE
 rw [if_neg h1,if_neg h2,if_pos h]
theorem told_shape {α:Type} {E:Enc α} {w w':World} {p:Option Addr} {m c:Nat} {v':Value} {L:List α} {n:Int} (h1:n≠0→v'=.slice p m c) (h2:n=0→∃ t,w'.ownsRow w.heap.size t E.k v' L.length (flat E L)):∃ p' m' c',v'=.slice p' m' c':=by
 by_cases h:n=0
 ·obtain ⟨t,h3⟩:=h2 h
  rcases h3.2 with ⟨rfl,_⟩ | ⟨g,cap,cur,rfl,_⟩
  ·exact ⟨_,_,_,rfl⟩
  ·exact ⟨_,_,_,rfl⟩
 ·exact ⟨_,_,_,h1 h⟩
set_option maxRecDepth 100000 in
set_option maxHeartbeats 4000000 in
theorem small_names (v c f e l:Value) (ws:List ByteArray) (M:Mast) (w:World) (hm:MastIn w c f e l M) (hv:StrsV w v ws) (hn:namesW ws=false) (hE:stepE M ws=5) :
 Calls Tryz.prog 90 #[aggM c f e l M,v] w (OneTold w c f e l M ws):=by
 have HS:=Lib.hid (two_start w hm)
 have HNA:=Lib.hid (rnames_any v ws (two0 w c f e l M) (hv.keep HS.out.bel))
 rw [hn] at HNA
 have HO:=Lib.hid (ones_of hm)
 have HE:=Lib.hid hE
 obtain ⟨p,cp,rfl,_⟩:=hv
 clear hm hn hE
 obtain ⟨k0,k1,k2,k3,k4,k5,k6,k7,k8⟩:=HS.out.box.nine
 go_enter Tryz.func90,Tryz.ntmps90
 go_wp2_with fail
 refine HNA.out.mono ?_
 rintro en w1 ⟨rfl,rfl⟩
 go_wp2_with (refine wpList_store_mast rfl 37 (.tmp 4) (.tmp 10) rfl (w.heap.size+1) nil4 nil4 nil4 nil4 c f e l zeroM M 37 rfl rfl HS.out.res HO.out (by kernel_rfl) ?_;intro w4 hb4 hg4)
 clear k0 k1 k2 k3 k4 k5 k6 k7 k8
 have HBG:=Lib.hid (HS.out.bel.grown hg4 HS.out.bel.size (fun j hj=>by cases hj;exact Nat.le_succ _))
 obtain ⟨c0,c1,c2,c3,c4,c5,c6,c7,c8⟩:=hb4.nine
 clear hb4 hg4
 exact bodyPost_ret (v:=.tuple #[aggM c f e l M,.int .i64 5]) (by simp [results,Tryz.results90,go_sem,c0,c1,c2,c3,c4,c5,c6,c7,c8]) rfl ⟨c,f,e,l,M,by rw [HE.out],(fun h=>by rw [HE.out] at h;cases h),HO.out,Off4.refl _ _ _ _ _,HBG.out⟩
set_option maxRecDepth 100000 in
set_option maxHeartbeats 64000000 in
theorem small_no (v c f e l:Value) (ws:List ByteArray) (M:Mast) (w:World) (hm:MastIn w c f e l M) (hv:StrsV w v ws) (hn:namesW ws=true) (hE:stepE M ws=5) (x0:ByteArray) (hx:ws[0]?=some x0) (l3:x0=tEntity→ws.length≠3) (l4:x0=tMap→ws.length≠4) (l2:x0=tGroup∨x0=tReserve∨x0=tDiffer∨x0=tMinor∨x0=tStake→ws.length≠2) :
 Calls Tryz.prog 90 #[aggM c f e l M,v] w (OneTold w c f e l M ws):=by
 obtain ⟨k,b0,b1,b2,b3,b4,b5,b6,hkl,hb,g0,g1,g2,g3,g4,g5,g6⟩:∃ (k:Int) (b0 b1 b2 b3 b4 b5 b6:Bool),(((ws.length:Nat):Int)==k)=false∧(k=3∧b0=true∧b1=false∧b2=false∧b3=false∧b4=false∧b5=false∧b6=false∨k=4∧b0=false∧b1=true∧b2=false∧b3=false∧b4=false∧b5=false∧b6=false∨k=2∧b0=false∧b1=false∧b2=true∧b3=false∧b4=false∧b5=false∧b6=false∨k=2∧b0=false∧b1=false∧b2=false∧b3=true∧b4=false∧b5=false∧b6=false∨k=2∧b0=false∧b1=false∧b2=false∧b3=false∧b4=true∧b5=false∧b6=false∨k=2∧b0=false∧b1=false∧b2=false∧b3=false∧b4=false∧b5=true∧b6=false∨k=2∧b0=false∧b1=false∧b2=false∧b3=false∧b4=false∧b5=false∧b6=true∨k=0∧b0=false∧b1=false∧b2=false∧b3=false∧b4=false∧b5=false∧b6=false)∧(x0.toList==[101,110,116,105,116,121])=b0∧(x0.toList==[109,97,112])=b1∧(x0.toList==[103,114,111,117,112])=b2∧(x0.toList==[114,101,115,101,114,118,101])=b3∧(x0.toList==[100,105,102,102,101,114])=b4∧(x0.toList==[109,105,110,111,114])=b5∧(x0.toList==[115,116,97,107,101])=b6:=by
  have h1:0 < ws.length:=(List.getElem?_eq_some_iff.1 hx).1
  rw [qEntity,qMap,qGroup,qReserve,qDiffer,qMinor,qStake]
  by_cases h10:x0=tEntity
  ·have:=l3 h10
   subst h10
   exact ⟨3,_,_,_,_,_,_,_,by simp only [beq_eq_false_iff_ne,ne_eq];omega,by decide,rfl,rfl,rfl,rfl,rfl,rfl,rfl⟩
  by_cases h11:x0=tMap
  ·have:=l4 h11
   subst h11
   exact ⟨4,_,_,_,_,_,_,_,by simp only [beq_eq_false_iff_ne,ne_eq];omega,by decide,rfl,rfl,rfl,rfl,rfl,rfl,rfl⟩
  by_cases h12:x0=tGroup
  ·have:=l2 (by simp [h12])
   subst h12
   exact ⟨2,_,_,_,_,_,_,_,by simp only [beq_eq_false_iff_ne,ne_eq];omega,by decide,rfl,rfl,rfl,rfl,rfl,rfl,rfl⟩
  by_cases h13:x0=tReserve
  ·have:=l2 (by simp [h13])
   subst h13
   exact ⟨2,_,_,_,_,_,_,_,by simp only [beq_eq_false_iff_ne,ne_eq];omega,by decide,rfl,rfl,rfl,rfl,rfl,rfl,rfl⟩
  by_cases h14:x0=tDiffer
  ·have:=l2 (by simp [h14])
   subst h14
   exact ⟨2,_,_,_,_,_,_,_,by simp only [beq_eq_false_iff_ne,ne_eq];omega,by decide,rfl,rfl,rfl,rfl,rfl,rfl,rfl⟩
  by_cases h15:x0=tMinor
  ·have:=l2 (by simp [h15])
   subst h15
   exact ⟨2,_,_,_,_,_,_,_,by simp only [beq_eq_false_iff_ne,ne_eq];omega,by decide,rfl,rfl,rfl,rfl,rfl,rfl,rfl⟩
  by_cases h16:x0=tStake
  ·have:=l2 (by simp [h16])
   subst h16
   exact ⟨2,_,_,_,_,_,_,_,by simp only [beq_eq_false_iff_ne,ne_eq];omega,by decide,rfl,rfl,rfl,rfl,rfl,rfl,rfl⟩
  exact ⟨0,_,_,_,_,_,_,_,by simp only [beq_eq_false_iff_ne,ne_eq];omega,by decide,decide_eq_false h10,decide_eq_false h11,decide_eq_false h12,decide_eq_false h13,decide_eq_false h14,decide_eq_false h15,decide_eq_false h16⟩
 have HS:=Lib.hid (two_start w hm)
 have HV:=Lib.hid (hv.keep HS.out.bel)
 have HNA:=Lib.hid (rnames_any v ws (two0 w c f e l M) HV.out)
 rw [hn] at HNA
 have HO:=Lib.hid (ones_of hm)
 have HE:=Lib.hid hE
 obtain ⟨p,cp,rfl,hcap,hml,hc⟩:=HV.out
 obtain ⟨g,o,rfl,y0⟩:=hc 0 x0 hx
 rw [Nat.add_zero] at y0
 obtain ⟨n,hnn⟩:∃ n,ws.length=n:=⟨_,rfl⟩
 have hn0:0 < n:=by rw [←hnn];exact (List.getElem?_eq_some_iff.1 hx).1
 rw [hnn] at HNA HV hcap hkl ⊢
 clear hm hn hE hv HV hc hx hnn l2 l3 l4
 rcases hb with ⟨rfl,rfl,rfl,rfl,rfl,rfl,rfl,rfl⟩ | ⟨rfl,rfl,rfl,rfl,rfl,rfl,rfl,rfl⟩ | ⟨rfl,rfl,rfl,rfl,rfl,rfl,rfl,rfl⟩ | ⟨rfl,rfl,rfl,rfl,rfl,rfl,rfl,rfl⟩ | ⟨rfl,rfl,rfl,rfl,rfl,rfl,rfl,rfl⟩ | ⟨rfl,rfl,rfl,rfl,rfl,rfl,rfl,rfl⟩ | ⟨rfl,rfl,rfl,rfl,rfl,rfl,rfl,rfl⟩ | ⟨rfl,rfl,rfl,rfl,rfl,rfl,rfl,rfl⟩
 all_goals
  obtain ⟨k0,k1,k2,k3,k4,k5,k6,k7,k8⟩:=HS.out.box.nine
  go_enter Tryz.func90,Tryz.ntmps90
  go_wp2_with fail
  refine HNA.out.mono ?_
  rintro en w1 ⟨rfl,rfl⟩
  go_wp2_with (refine wpList_store_mast rfl 37 (.tmp 4) (.tmp 162) rfl (w.heap.size+1) nil4 nil4 nil4 nil4 c f e l zeroM M 37 rfl rfl HS.out.res HO.out (by kernel_rfl) ?_;intro w4 hb4 hg4)
  clear k0 k1 k2 k3 k4 k5 k6 k7 k8
  have HBG:=Lib.hid (HS.out.bel.grown hg4 HS.out.bel.size (fun j hj=>by cases hj;exact Nat.le_succ _))
  obtain ⟨c0,c1,c2,c3,c4,c5,c6,c7,c8⟩:=hb4.nine
  clear hb4 hg4
  exact bodyPost_ret (v:=.tuple #[aggM c f e l M,.int .i64 5]) (by simp [results,Tryz.results90,go_sem,c0,c1,c2,c3,c4,c5,c6,c7,c8]) rfl ⟨c,f,e,l,M,by rw [HE.out],(fun h=>by rw [HE.out] at h;cases h),HO.out,Off4.refl _ _ _ _ _,HBG.out⟩
set_option maxRecDepth 100000 in
set_option maxHeartbeats 64000000 in
theorem small_one (T z:ByteArray) (i:Nat) (N:ByteArray→Mast) (b2 b3 b4 b5 b6:Bool) (v c f e l:Value) (a:ByteArray) (M:Mast) (w:World) (hm:MastIn w c f e l M) (hv:StrsV w v [T,a]) (hn:namesW [T,a]=true)
 (hw:(i=4∧T=tGroup∧z=M.cur∧N=(fun X=>{ M with cur:=X })∧b2=true∧b3=false∧b4=false∧b5=false∧b6=false)∨(i=5∧T=tReserve∧z=M.res∧N=(fun X=>{ M with res:=X })∧b2=false∧b3=true∧b4=false∧b5=false∧b6=false)∨(i=6∧T=tDiffer∧z=M.dif∧N=(fun X=>{ M with dif:=X })∧b2=false∧b3=false∧b4=true∧b5=false∧b6=false)∨(i=7∧T=tMinor∧z=M.min∧N=(fun X=>{ M with min:=X })∧b2=false∧b3=false∧b4=false∧b5=true∧b6=false)∨(i=8∧T=tStake∧z=M.stk∧N=(fun X=>{ M with stk:=X })∧b2=false∧b3=false∧b4=false∧b5=false∧b6=true)) :
 Calls Tryz.prog 90 #[aggM c f e l M,v] w fun en w'=>∃ M',en=.returned (.tuple #[aggM c f e l M',.int .i64 (oneE z)])∧(oneE z=0→M'=N a∧MastIn w' c f e l M')∧Ones c f e l∧Below w.heap.size w w':=by
 have HS:=Lib.hid (two_start w hm)
 have HNA:=Lib.hid (rnames_any v _ (two0 w c f e l M) (hv.keep HS.out.bel))
 rw [hn] at HNA
 have HM:=Lib.hid hm
 have HO:=Lib.hid (ones_of hm)
 obtain ⟨p,cp,rfl,hcap,hml,hc⟩:=hv
 obtain ⟨g,o,rfl,x0⟩:=hc 0 T rfl
 obtain ⟨g',o',e1,x1⟩:=hc 1 a rfl
 cases e1
 rw [show ([T,a]:List ByteArray).length=2 from rfl] at HNA hcap hml ⊢
 rw [Nat.add_zero] at x0
 have hgw:g < w.heap.size:=World.block_lt_of_cell? w _ x0
 have y0:=cell_later HS.out.bel x0
 have y1:=cell_later HS.out.bel x1
 have HSI:=Lib.hid (single_any z a)
 obtain ⟨X,hX⟩:∃ X,(if z=emp then a else z)=X:=⟨_,rfl⟩
 obtain ⟨n,hnn⟩:∃ n,oneE z=n:=⟨_,rfl⟩
 have HX:Hid (n=0→X=a):=Lib.hid (fun h0=>by
  rw [←hX,if_pos]
  rw [←hnn] at h0
  unfold oneE at h0
  split at h0
  ·assumption
  ·cases h0)
 simp only [hX,hnn] at HSI
 rw [hnn]
 obtain ⟨Y,hY⟩:∃ Y,N X=Y:=⟨_,rfl⟩
 have HY:Hid (n=0→Y=N a):=Lib.hid fun h0=>by rw [←hY,HX.out h0]
 obtain ⟨g0,g1,g2,g3,g4,g5,g6,hse,hla⟩:(T.toList==[101,110,116,105,116,121])=false∧(T.toList==[109,97,112])=false∧(T.toList==[103,114,111,117,112])=b2∧(T.toList==[114,101,115,101,114,118,101])=b3∧(T.toList==[100,105,102,102,101,114])=b4∧(T.toList==[109,105,110,111,114])=b5∧(T.toList==[115,116,97,107,101])=b6∧(cellsM c f e l M).setIfInBounds i (.string X)=cellsM c f e l Y∧Y.chart=M.chart∧Y.flows=M.flows∧Y.ents=M.ents∧Y.lines=M.lines:=by
  subst hY
  rw [qEntity,qMap,qGroup,qReserve,qDiffer,qMinor,qStake]
  clear HSI HX HY hnn hX hn HNA x0
  rcases hw with ⟨rfl,rfl,rfl,rfl,rfl,rfl,rfl,rfl,rfl⟩ | ⟨rfl,rfl,rfl,rfl,rfl,rfl,rfl,rfl,rfl⟩ | ⟨rfl,rfl,rfl,rfl,rfl,rfl,rfl,rfl,rfl⟩ | ⟨rfl,rfl,rfl,rfl,rfl,rfl,rfl,rfl,rfl⟩ | ⟨rfl,rfl,rfl,rfl,rfl,rfl,rfl,rfl,rfl⟩
  all_goals exact ⟨by decide,by decide,by decide,by decide,by decide,by decide,by decide,rfl,rfl,rfl,rfl,rfl⟩
 have HST:Hid (∀ W:World,∃ W2,W.setCell ⟨w.heap.size,i,none⟩ (.string X)=W2):=Lib.hid fun W=>⟨_,rfl⟩
 have HFR:Hid (∀ W:World,BoxM W w.heap.size 37 c f e l M→W.frozen? ⟨w.heap.size,i,none⟩=false):=Lib.hid fun W h=>boxM_free h i
 have HSE:=Lib.hid hse
 have HLA:=Lib.hid hla
 clear hm hn hc hX hnn hY hse hla
 rcases hw with ⟨rfl,-,rfl,-,rfl,rfl,rfl,rfl,rfl⟩ | ⟨rfl,-,rfl,-,rfl,rfl,rfl,rfl,rfl⟩ | ⟨rfl,-,rfl,-,rfl,rfl,rfl,rfl,rfl⟩ | ⟨rfl,-,rfl,-,rfl,rfl,rfl,rfl,rfl⟩ | ⟨rfl,-,rfl,-,rfl,rfl,rfl,rfl,rfl⟩
 all_goals
  go_enter Tryz.func90,Tryz.ntmps90
  go_wp2_with fail
  refine HNA.out.mono ?_
  rintro en w1 ⟨rfl,rfl⟩
  obtain ⟨W0,hW0⟩:∃ W0,two0 w c f e l M=W0:=⟨_,rfl⟩
  rw [hW0] at HS y0 y1 ⊢
  clear hW0 HNA
  have r0:=fun p:Since w.heap.size W0=>cell_since y0 hgw p
  have r1:=fun p:Since w.heap.size W0=>cell_since y1 hgw p
  have HD:Hid (Below W0.heap.size W0 W0.drew):=Lib.hid ⟨rfl,rfl,rfl,Nat.le_refl _,fun _ _=>rfl⟩
  obtain ⟨W1,hW1⟩:∃ W1,W0.drew=W1:=⟨_,rfl⟩
  rw [hW1] at HD
  have HS1:=Lib.hid (HS.out.below HD.out)
  have HD0:Hid (Below w.heap.size W0 W1):=Lib.hid (HD.out.mono HS.out.bel.size)
  obtain ⟨_,_,_,_,k4,k5,k6,k7,k8⟩:=HS1.out.box.nine
  have hf:=HFR.out _ HS1.out.box
  obtain ⟨W2,hW2⟩:=HST.out W1
  have HG2:Hid (W1.grownBy W2 (some w.heap.size)):=Lib.hid (by rw [←hW2];exact set_grown W1 w.heap.size _ (.string X))
  have HB2:Hid (BoxM W2 w.heap.size 37 c f e l Y):=Lib.hid (by rw [←hW2];exact box_set HS1.out.box HSE.out)
  have HR2:Hid (BoxM W2 (w.heap.size+1) 37 nil4 nil4 nil4 nil4 zeroM):=Lib.hid ((HG2.out.block _ HS1.out.res.lt (by simp)).trans HS1.out.res)
  have HW2:Hid (Below w.heap.size w W2):=Lib.hid (by rw [←hW2];exact set_below HS1.out.bel _ (.string X))
  have HD2:Hid (Below w.heap.size W0 W2):=Lib.hid (by rw [←hW2];exact HD0.out.setCell (p:=⟨w.heap.size,_,none⟩) (Nat.le_refl _) _)
  go_wp2_with fail
  refine wp_region_since w.heap.size (.one [0,2,3,4] 1 (.one [] 5 (.one [6,7,8,9] 10 (.last [11])))) (by kernel_rfl) (by kernel_rfl) (fun d _ _ _ _ h=>by cases d <;> exact h) ?_
  rw [hW1]
  clear hW1 y0 y1 x0 x1
  simp only [wpPlan,pick,nth]
  repeat (go_big_quiet_step (fail))
  refine wpQuiet_nil ?_
  intro K hK
  refine alone_want (by kernel_rfl) ?_
  go_big_op
  refine hK _ _ (since_in HD0.out) ?_
  clear hK K
  refine wpQuiet_nil ?_
  intro K hK
  refine alone_want (by kernel_rfl) ?_
  go_big_op
  refine (HSI.out _).mono ?_
  rintro en w3 ⟨rfl,rfl⟩
  refine hK _ _ (since_in HD0.out) ?_
  clear hK K
  repeat (go_big_quiet_step (fail))
  refine wpQuiet_nil ?_
  intro K hK
  refine alone_want (by kernel_rfl) ?_
  go_big_op
  refine hK _ _ (since_in HD2.out) ?_
  clear hK K r0 r1 k4 k5 k6 k7 k8 hf hW2
  repeat (go_big_quiet_step (fail))
  refine wpQuiet_nil ?_
  obtain ⟨k0,k1,k2,k3,k4,k5,k6,k7,k8⟩:=HB2.out.nine
  go_wp2_with (refine wpList_store_mast rfl 37 (.tmp 4) (.tmp 162) rfl (w.heap.size+1) nil4 nil4 nil4 nil4 c f e l zeroM Y 37 rfl rfl HR2.out HO.out (by kernel_rfl) ?_;intro w4 hb4 hg4)
  clear k0 k1 k2 k3 k4 k5 k6 k7 k8
  have HBG:=Lib.hid (HW2.out.grown hg4 HW2.out.size (fun j hj=>by cases hj;exact Nat.le_succ _))
  obtain ⟨c0,c1,c2,c3,c4,c5,c6,c7,c8⟩:=hb4.nine
  clear hb4 hg4
  refine bodyPost_ret (v:=.tuple #[aggM c f e l Y,.int .i64 n]) (by simp [results,Tryz.results90,go_sem,c0,c1,c2,c3,c4,c5,c6,c7,c8]) rfl ⟨_,rfl,fun h0=>⟨HY.out h0,?_⟩,HO.out,HBG.out⟩
  have hk:=HM.out.keep HBG.out
  obtain ⟨q1,q2,q3,q4⟩:=HLA.out
  exact ⟨by rw [q1];exact hk.chart,by rw [q2];exact hk.flows,by rw [q3];exact hk.ents,by rw [q4];exact hk.lines⟩
set_option maxRecDepth 100000 in
set_option maxHeartbeats 16000000 in
theorem small_entity (v c f e l:Value) (a b:ByteArray) (M:Mast) (w:World) (hm:MastIn w c f e l M) (hs:Sane M) (hv:StrsV w v [tEntity,a,b]) (hn:namesW [tEntity,a,b]=true) :
 Calls Tryz.prog 90 #[aggM c f e l M,v] w fun en w'=>∃ v3 M',en=.returned (.tuple #[aggM c f v3 l M',.int .i64 (entE M.ents ⟨a,b⟩)])∧(entE M.ents ⟨a,b⟩=0→M'={ M with ents:=G.insR Ent.code M.ents ⟨a,b⟩ }∧MastIn w' c f v3 l M')∧Ones c f v3 l∧Off1 w e v3∧Below w.heap.size w w':=by
 obtain ⟨pe,ce,ee0,_⟩:=hm.ents
 subst ee0
 have hlen:M.ents.length≤1000:=by have:=hs.le;omega
 have HS:=Lib.hid (two_start w hm)
 have HNA:=Lib.hid (rnames_any v _ (two0 w c f (.slice pe M.ents.length ce) l M) (hv.keep HS.out.bel))
 rw [hn] at HNA
 have HM:=Lib.hid hm
 have HO:=Lib.hid (ones_of hm)
 obtain ⟨p,cp,rfl,hcap,hml,hc⟩:=hv
 obtain ⟨g,o,rfl,x0⟩:=hc 0 tEntity rfl
 obtain ⟨g',o',e1,x1⟩:=hc 1 a rfl
 cases e1
 obtain ⟨g',o',e1,x2⟩:=hc 2 b rfl
 cases e1
 rw [show ([tEntity,a,b]:List ByteArray).length=3 from rfl] at HNA hcap hml ⊢
 rw [Nat.add_zero] at x0
 have hgw:g < w.heap.size:=World.block_lt_of_cell? w _ x0
 have y0:=cell_later HS.out.bel x0
 have y1:=cell_later HS.out.bel x1
 have y2:=cell_later HS.out.bel x2
 have gt:(tEntity.toList==[101,110,116,105,116,121])=true:=by rw [qEntity];decide
 obtain ⟨n,hnn⟩:∃ n,entE M.ents ⟨a,b⟩=n:=⟨_,rfl⟩
 obtain ⟨R,hR⟩:∃ R,G.insR Ent.code M.ents ⟨a,b⟩=R:=⟨_,rfl⟩
 rw [hnn,hR]
 clear hm hn hc
 go_enter Tryz.func90,Tryz.ntmps90
 go_wp2_with fail
 refine HNA.out.mono ?_
 rintro en w1 ⟨rfl,rfl⟩
 obtain ⟨W0,hW0⟩:∃ W0,two0 w c f (.slice pe M.ents.length ce) l M=W0:=⟨_,rfl⟩
 rw [hW0] at HS y0 y1 y2 ⊢
 clear hW0 HNA
 have r0:=fun p:Since w.heap.size W0=>cell_since y0 hgw p
 have r1:=fun p:Since w.heap.size W0=>cell_since y1 hgw p
 have r2:=fun p:Since w.heap.size W0=>cell_since y2 hgw p
 have HD:Hid (Below W0.heap.size W0 W0.drew):=Lib.hid ⟨rfl,rfl,rfl,Nat.le_refl _,fun _ _=>rfl⟩
 obtain ⟨W1,hW1⟩:∃ W1,W0.drew=W1:=⟨_,rfl⟩
 rw [hW1] at HD
 have HS1:=Lib.hid (HS.out.below HD.out)
 have HD0:Hid (Below w.heap.size W0 W1):=Lib.hid (HD.out.mono HS.out.bel.size)
 have HCA:=Lib.hid (rent_any (.slice pe M.ents.length ce) M.ents ⟨a,b⟩ W1 HS1.out.mast.ents hlen)
 rw [hnn,hR] at HCA
 have hk:=HS1.out.box.nine.c2
 clear hnn hR hlen hs
 go_wp2_with fail
 refine wp_region_since w.heap.size (.one [0,2,3,4,5,6,7,8] 1 (.one [] 9 (.one [10,11,12,13] 14 (.last [15])))) (by kernel_rfl) (by kernel_rfl) (fun d _ _ _ _ h=>by cases d <;> exact h) ?_
 rw [hW1]
 clear hW1 y0 x0 y1 x1 y2 x2
 simp only [wpPlan,pick,nth]
 repeat (go_big_quiet_step (fail))
 refine wpQuiet_nil ?_
 intro K hK
 refine alone_want (by kernel_rfl) ?_
 go_big_op
 refine hK _ _ (since_in HD0.out) ?_
 clear hK K
 refine wpQuiet_nil ?_
 intro K hK
 refine alone_want (by kernel_rfl) ?_
 go_big_op
 refine HCA.out.mono ?_
 rintro en w3 ⟨v3,rfl,ho3,hn3,hb3⟩
 obtain ⟨p3,m3,cp3,rfl⟩:=told_shape ho3 hn3
 have HO3:=Lib.hid ho3
 have HN3:=Lib.hid hn3
 have HS3:=Lib.hid (HS1.out.below hb3)
 have HD3:Hid (Below w.heap.size W0 w3):=Lib.hid (HD0.out.trans (hb3.mono HS1.out.bel.size))
 have hB1:=HS1.out.bel.size
 have hk3:=HS3.out.box.nine.c2
 have hf3:=boxM_free HS3.out.box 2
 obtain ⟨W2,hW2⟩:∃ W2,w3.setCell ⟨w.heap.size,2,none⟩ (.slice p3 m3 cp3)=W2:=⟨_,rfl⟩
 have HG2:Hid (w3.grownBy W2 (some w.heap.size)):=Lib.hid (by rw [←hW2];exact set_grown w3 w.heap.size 2 (.slice p3 m3 cp3))
 have HW2:Hid (Below w.heap.size w W2):=Lib.hid (by rw [←hW2];exact set_below HS3.out.bel 2 _)
 have HD2:Hid (Below w.heap.size W0 W2):=Lib.hid (by rw [←hW2];exact HD3.out.setCell (p:=⟨w.heap.size,2,none⟩) (Nat.le_refl _) _)
 obtain ⟨M2,hM2⟩:∃ M2:Mast,{ M with ents:=R }=M2:=⟨_,rfl⟩
 have HB2:Hid (BoxM W2 w.heap.size 37 c f (.slice p3 m3 cp3) l M2):=Lib.hid (by rw [←hW2,←hM2];exact box_set HS3.out.box rfl)
 have HR2:Hid (BoxM W2 (w.heap.size+1) 37 nil4 nil4 nil4 nil4 zeroM):=Lib.hid ((HG2.out.block _ HS3.out.res.lt (by simp)).trans HS3.out.res)
 have HM2:Hid (M2.chart=M.chart∧M2.flows=M.flows∧M2.lines=M.lines):=Lib.hid (by rw [←hM2];exact ⟨rfl,rfl,rfl⟩)
 have HMM:=Lib.hid hM2
 have HO2:Hid (Ones c f (.slice p3 m3 cp3) l):=Lib.hid ⟨HO.out.c,HO.out.f,rfl,HO.out.l⟩
 clear ho3 hn3 hb3 hM2
 refine hK _ _ (since_in HD3.out) ?_
 clear hK K hk
 repeat (go_big_quiet_step (fail))
 refine wpQuiet_nil ?_
 intro K hK
 refine alone_want (by kernel_rfl) ?_
 go_big_op
 refine hK _ _ (since_in HD2.out) ?_
 clear hK K r0 r1 r2 hk3 hf3 hW2
 repeat (go_big_quiet_step (fail))
 refine wpQuiet_nil ?_
 obtain ⟨k0,k1,k2,k3,k4,k5,k6,k7,k8⟩:=HB2.out.nine
 go_wp2_with (refine wpList_store_mast rfl 37 (.tmp 4) (.tmp 162) rfl (w.heap.size+1) nil4 nil4 nil4 nil4 c f (.slice p3 m3 cp3) l zeroM M2 37 rfl rfl HR2.out HO2.out (by kernel_rfl) ?_;intro w4 hb4 hg4)
 clear k0 k1 k2 k3 k4 k5 k6 k7 k8
 have HBG:=Lib.hid (HW2.out.grown hg4 HW2.out.size (fun j hj=>by cases hj;exact Nat.le_succ _))
 have HX4:Hid (n=0→ElsV encE w4 (.slice p3 m3 cp3) M2.ents):=Lib.hid (fun h0=>by
  obtain ⟨t,hr⟩:=HN3.out h0
  have h2:=(hr.kept HG2.out (.inr (fun e0=>by
   rcases hr.2 with ⟨e,_⟩ | ⟨g',_,_,e,hge,_⟩
   ·cases e;simp [Value.ownBlock] at e0
   ·cases e
    have h3:g'=w.heap.size:=by simpa [Value.ownBlock] using e0
    have:=HS1.out.box.lt
    omega))).kept hg4 (.inr (fun e0=>by
   rcases hr.2 with ⟨e,_⟩ | ⟨g',_,_,e,hge,_⟩
   ·cases e;simp [Value.ownBlock] at e0
   ·cases e
    have h3:g'=w.heap.size+1:=by simpa [Value.ownBlock] using e0
    have:=HS1.out.res.lt
    omega))
  rw [←HMM.out]
  exact els_of_own h2)
 obtain ⟨c0,c1,c2,c3,c4,c5,c6,c7,c8⟩:=hb4.nine
 clear hb4 hg4
 refine bodyPost_ret (v:=.tuple #[aggM c f (.slice p3 m3 cp3) l M2,.int .i64 n]) (by simp [results,Tryz.results90,go_sem,c0,c1,c2,c3,c4,c5,c6,c7,c8]) rfl ⟨_,_,rfl,fun h0=>⟨HMM.out.symm,?_⟩,HO2.out,Off1.told HO3.out HN3.out HS1.out.bel.size,HBG.out⟩
 have hk:=HM.out.keep HBG.out
 obtain ⟨m1,m2,m3⟩:=HM2.out
 exact ⟨by rw [m1];exact hk.chart,by rw [m2];exact hk.flows,HX4.out h0,by rw [m3];exact hk.lines⟩
set_option maxRecDepth 100000 in
set_option maxHeartbeats 16000000 in
theorem small_map (v c f e l:Value) (a b d:ByteArray) (M:Mast) (w:World) (hm:MastIn w c f e l M) (hs:Sane M) (hv:StrsV w v [tMap,a,b,d]) (hn:namesW [tMap,a,b,d]=true) :
 Calls Tryz.prog 90 #[aggM c f e l M,v] w fun en w'=>∃ v3 M',en=.returned (.tuple #[aggM c f e v3 M',.int .i64 (linEr M.lines ⟨a,b,d⟩)])∧(linEr M.lines ⟨a,b,d⟩=0→M'={ M with lines:=G.insR Lin.key M.lines ⟨a,b,d⟩ }∧MastIn w' c f e v3 M')∧Ones c f e v3∧Off1 w l v3∧Below w.heap.size w w':=by
 obtain ⟨pl,cl,el0,_⟩:=hm.lines
 subst el0
 have hlen:M.lines.length≤1000:=by have:=hs.ll;omega
 have HS:=Lib.hid (two_start w hm)
 have HNA:=Lib.hid (rnames_any v _ (two0 w c f e (.slice pl M.lines.length cl) M) (hv.keep HS.out.bel))
 rw [hn] at HNA
 have HM:=Lib.hid hm
 have HO:=Lib.hid (ones_of hm)
 obtain ⟨p,cp,rfl,hcap,hml,hc⟩:=hv
 obtain ⟨g,o,rfl,x0⟩:=hc 0 tMap rfl
 obtain ⟨g',o',e1,x1⟩:=hc 1 a rfl
 cases e1
 obtain ⟨g',o',e1,x2⟩:=hc 2 b rfl
 cases e1
 obtain ⟨g',o',e1,x3⟩:=hc 3 d rfl
 cases e1
 rw [show ([tMap,a,b,d]:List ByteArray).length=4 from rfl] at HNA hcap hml ⊢
 rw [Nat.add_zero] at x0
 have hgw:g < w.heap.size:=World.block_lt_of_cell? w _ x0
 have y0:=cell_later HS.out.bel x0
 have y1:=cell_later HS.out.bel x1
 have y2:=cell_later HS.out.bel x2
 have y3:=cell_later HS.out.bel x3
 have g0:(tMap.toList==[101,110,116,105,116,121])=false:=by rw [qEntity];decide
 have gt:(tMap.toList==[109,97,112])=true:=by rw [qMap];decide
 obtain ⟨n,hnn⟩:∃ n,linEr M.lines ⟨a,b,d⟩=n:=⟨_,rfl⟩
 obtain ⟨R,hR⟩:∃ R,G.insR Lin.key M.lines ⟨a,b,d⟩=R:=⟨_,rfl⟩
 rw [hnn,hR]
 clear hm hn hc
 go_enter Tryz.func90,Tryz.ntmps90
 go_wp2_with fail
 refine HNA.out.mono ?_
 rintro en w1 ⟨rfl,rfl⟩
 obtain ⟨W0,hW0⟩:∃ W0,two0 w c f e (.slice pl M.lines.length cl) M=W0:=⟨_,rfl⟩
 rw [hW0] at HS y0 y1 y2 y3 ⊢
 clear hW0 HNA
 have r0:=fun p:Since w.heap.size W0=>cell_since y0 hgw p
 have r1:=fun p:Since w.heap.size W0=>cell_since y1 hgw p
 have r2:=fun p:Since w.heap.size W0=>cell_since y2 hgw p
 have r3:=fun p:Since w.heap.size W0=>cell_since y3 hgw p
 have HD:Hid (Below W0.heap.size W0 W0.drew):=Lib.hid ⟨rfl,rfl,rfl,Nat.le_refl _,fun _ _=>rfl⟩
 obtain ⟨W1,hW1⟩:∃ W1,W0.drew=W1:=⟨_,rfl⟩
 rw [hW1] at HD
 have HS1:=Lib.hid (HS.out.below HD.out)
 have HD0:Hid (Below w.heap.size W0 W1):=Lib.hid (HD.out.mono HS.out.bel.size)
 have HCA:=Lib.hid (rline_any (.slice pl M.lines.length cl) M.lines ⟨a,b,d⟩ W1 HS1.out.mast.lines hlen)
 rw [hnn,hR] at HCA
 have hk:=HS1.out.box.nine.c3
 clear hnn hR hlen hs
 go_wp2_with fail
 refine wp_region_since w.heap.size (.one [0,2,3,4,5,6,7,8,9,10,11] 1 (.one [] 12 (.one [13,14,15,16] 17 (.last [18])))) (by kernel_rfl) (by kernel_rfl) (fun d _ _ _ _ h=>by cases d <;> exact h) ?_
 rw [hW1]
 clear hW1 y0 x0 y1 x1 y2 x2 y3 x3
 simp only [wpPlan,pick,nth]
 repeat (go_big_quiet_step (fail))
 refine wpQuiet_nil ?_
 intro K hK
 refine alone_want (by kernel_rfl) ?_
 go_big_op
 refine hK _ _ (since_in HD0.out) ?_
 clear hK K
 refine wpQuiet_nil ?_
 intro K hK
 refine alone_want (by kernel_rfl) ?_
 go_big_op
 refine HCA.out.mono ?_
 rintro en w3 ⟨v3,rfl,ho3,hn3,hb3⟩
 obtain ⟨p3,m3,cp3,rfl⟩:=told_shape ho3 hn3
 have HO3:=Lib.hid ho3
 have HN3:=Lib.hid hn3
 have HS3:=Lib.hid (HS1.out.below hb3)
 have HD3:Hid (Below w.heap.size W0 w3):=Lib.hid (HD0.out.trans (hb3.mono HS1.out.bel.size))
 have hB1:=HS1.out.bel.size
 have hk3:=HS3.out.box.nine.c3
 have hf3:=boxM_free HS3.out.box 3
 obtain ⟨W2,hW2⟩:∃ W2,w3.setCell ⟨w.heap.size,3,none⟩ (.slice p3 m3 cp3)=W2:=⟨_,rfl⟩
 have HG2:Hid (w3.grownBy W2 (some w.heap.size)):=Lib.hid (by rw [←hW2];exact set_grown w3 w.heap.size 3 (.slice p3 m3 cp3))
 have HW2:Hid (Below w.heap.size w W2):=Lib.hid (by rw [←hW2];exact set_below HS3.out.bel 3 _)
 have HD2:Hid (Below w.heap.size W0 W2):=Lib.hid (by rw [←hW2];exact HD3.out.setCell (p:=⟨w.heap.size,3,none⟩) (Nat.le_refl _) _)
 obtain ⟨M2,hM2⟩:∃ M2:Mast,{ M with lines:=R }=M2:=⟨_,rfl⟩
 have HB2:Hid (BoxM W2 w.heap.size 37 c f e (.slice p3 m3 cp3) M2):=Lib.hid (by rw [←hW2,←hM2];exact box_set HS3.out.box rfl)
 have HR2:Hid (BoxM W2 (w.heap.size+1) 37 nil4 nil4 nil4 nil4 zeroM):=Lib.hid ((HG2.out.block _ HS3.out.res.lt (by simp)).trans HS3.out.res)
 have HM2:Hid (M2.chart=M.chart∧M2.flows=M.flows∧M2.ents=M.ents):=Lib.hid (by rw [←hM2];exact ⟨rfl,rfl,rfl⟩)
 have HMM:=Lib.hid hM2
 have HO2:Hid (Ones c f e (.slice p3 m3 cp3)):=Lib.hid ⟨HO.out.c,HO.out.f,HO.out.e,rfl⟩
 clear ho3 hn3 hb3 hM2
 refine hK _ _ (since_in HD3.out) ?_
 clear hK K hk
 repeat (go_big_quiet_step (fail))
 refine wpQuiet_nil ?_
 intro K hK
 refine alone_want (by kernel_rfl) ?_
 go_big_op
 refine hK _ _ (since_in HD2.out) ?_
 clear hK K r0 r1 r2 r3 hk3 hf3 hW2
 repeat (go_big_quiet_step (fail))
 refine wpQuiet_nil ?_
 obtain ⟨k0,k1,k2,k3,k4,k5,k6,k7,k8⟩:=HB2.out.nine
 go_wp2_with (refine wpList_store_mast rfl 37 (.tmp 4) (.tmp 162) rfl (w.heap.size+1) nil4 nil4 nil4 nil4 c f e (.slice p3 m3 cp3) zeroM M2 37 rfl rfl HR2.out HO2.out (by kernel_rfl) ?_;intro w4 hb4 hg4)
 clear k0 k1 k2 k3 k4 k5 k6 k7 k8
 have HBG:=Lib.hid (HW2.out.grown hg4 HW2.out.size (fun j hj=>by cases hj;exact Nat.le_succ _))
 have HX4:Hid (n=0→ElsV encL w4 (.slice p3 m3 cp3) M2.lines):=Lib.hid (fun h0=>by
  obtain ⟨t,hr⟩:=HN3.out h0
  have h2:=(hr.kept HG2.out (.inr (fun e0=>by
   rcases hr.2 with ⟨e,_⟩ | ⟨g',_,_,e,hge,_⟩
   ·cases e;simp [Value.ownBlock] at e0
   ·cases e
    have h3:g'=w.heap.size:=by simpa [Value.ownBlock] using e0
    have:=HS1.out.box.lt
    omega))).kept hg4 (.inr (fun e0=>by
   rcases hr.2 with ⟨e,_⟩ | ⟨g',_,_,e,hge,_⟩
   ·cases e;simp [Value.ownBlock] at e0
   ·cases e
    have h3:g'=w.heap.size+1:=by simpa [Value.ownBlock] using e0
    have:=HS1.out.res.lt
    omega))
  rw [←HMM.out]
  exact els_of_own h2)
 obtain ⟨c0,c1,c2,c3,c4,c5,c6,c7,c8⟩:=hb4.nine
 clear hb4 hg4
 refine bodyPost_ret (v:=.tuple #[aggM c f e (.slice p3 m3 cp3) M2,.int .i64 n]) (by simp [results,Tryz.results90,go_sem,c0,c1,c2,c3,c4,c5,c6,c7,c8]) rfl ⟨_,_,rfl,fun h0=>⟨HMM.out.symm,?_⟩,HO2.out,Off1.told HO3.out HN3.out HS1.out.bel.size,HBG.out⟩
 have hk:=HM.out.keep HBG.out
 obtain ⟨m1,m2,m3⟩:=HM2.out
 exact ⟨by rw [m1];exact hk.chart,by rw [m2];exact hk.flows,by rw [m3];exact hk.ents,HX4.out h0⟩
theorem formed_no_names {ws:List ByteArray} (h:namesW ws=false):formedW ws=false:=by unfold formedW;rw [h];simp
theorem formed_no_len {ws:List ByteArray} {k:Nat} (hl:lenW (wd ws 0)=(k:Int)) (h:formedW ws=false) (hn:namesW ws=true) (h0:0 < ws.length):ws.length≠k:=fun e=>by
 unfold formedW at h
 rw [hn,hl,e] at h
 have:0 < k:=by omega
 simp [this] at h
theorem step_entity {M:Mast} {ws:List ByteArray} (hf:formedW ws=true) (h0:wd ws 0=tEntity):stepE M ws=entE M.ents (entOf ws)∧stepV M ws={ M with ents:=G.insK Ent.code M.ents (entOf ws) }:=by
 refine ⟨?_,?_⟩
 ·unfold stepE;rw [if_neg (by rw [h0];decide),if_neg (by rw [h0];decide),if_neg (by rw [hf];simp),if_pos h0]
 ·unfold stepV;rw [if_neg (by rw [h0];decide),if_neg (by rw [h0];decide),if_pos h0]
theorem step_map {M:Mast} {ws:List ByteArray} (hf:formedW ws=true) (h0:wd ws 0=tMap):stepE M ws=linEr M.lines (linOf ws)∧stepV M ws={ M with lines:=G.insK Lin.key M.lines (linOf ws) }:=by
 refine ⟨?_,?_⟩
 ·unfold stepE;rw [if_neg (by rw [h0];decide),if_neg (by rw [h0];decide),if_neg (by rw [hf];simp),if_neg (by rw [h0];decide),if_pos h0]
 ·unfold stepV;rw [if_neg (by rw [h0];decide),if_neg (by rw [h0];decide),if_neg (by rw [h0];decide),if_pos h0]
theorem step_group {M:Mast} {ws:List ByteArray} (hf:formedW ws=true) (h0:wd ws 0=tGroup):stepE M ws=oneE M.cur∧stepV M ws={ M with cur:=wd ws 1 }:=by
 refine ⟨?_,?_⟩
 ·unfold stepE;rw [if_neg (by rw [h0];decide),if_neg (by rw [h0];decide),if_neg (by rw [hf];simp),if_neg (by rw [h0];decide),if_neg (by rw [h0];decide),if_pos h0]
 ·unfold stepV;rw [if_neg (by rw [h0];decide),if_neg (by rw [h0];decide),if_neg (by rw [h0];decide),if_neg (by rw [h0];decide),if_pos h0]
theorem step_reserve {M:Mast} {ws:List ByteArray} (hf:formedW ws=true) (h0:wd ws 0=tReserve):stepE M ws=oneE M.res∧stepV M ws={ M with res:=wd ws 1 }:=by
 refine ⟨?_,?_⟩
 ·unfold stepE;rw [if_neg (by rw [h0];decide),if_neg (by rw [h0];decide),if_neg (by rw [hf];simp),if_neg (by rw [h0];decide),if_neg (by rw [h0];decide),if_neg (by rw [h0];decide),if_pos h0]
 ·unfold stepV;rw [if_neg (by rw [h0];decide),if_neg (by rw [h0];decide),if_neg (by rw [h0];decide),if_neg (by rw [h0];decide),if_neg (by rw [h0];decide),if_pos h0]
theorem step_differ {M:Mast} {ws:List ByteArray} (hf:formedW ws=true) (h0:wd ws 0=tDiffer):stepE M ws=oneE M.dif∧stepV M ws={ M with dif:=wd ws 1 }:=by
 refine ⟨?_,?_⟩
 ·unfold stepE;rw [if_neg (by rw [h0];decide),if_neg (by rw [h0];decide),if_neg (by rw [hf];simp),if_neg (by rw [h0];decide),if_neg (by rw [h0];decide),if_neg (by rw [h0];decide),if_neg (by rw [h0];decide),if_pos h0]
 ·unfold stepV;rw [if_neg (by rw [h0];decide),if_neg (by rw [h0];decide),if_neg (by rw [h0];decide),if_neg (by rw [h0];decide),if_neg (by rw [h0];decide),if_neg (by rw [h0];decide),if_pos h0]
theorem step_minor {M:Mast} {ws:List ByteArray} (hf:formedW ws=true) (h0:wd ws 0=tMinor):stepE M ws=oneE M.min∧stepV M ws={ M with min:=wd ws 1 }:=by
 refine ⟨?_,?_⟩
 ·unfold stepE;rw [if_neg (by rw [h0];decide),if_neg (by rw [h0];decide),if_neg (by rw [hf];simp),if_neg (by rw [h0];decide),if_neg (by rw [h0];decide),if_neg (by rw [h0];decide),if_neg (by rw [h0];decide),if_neg (by rw [h0];decide),if_pos h0]
 ·unfold stepV;rw [if_neg (by rw [h0];decide),if_neg (by rw [h0];decide),if_neg (by rw [h0];decide),if_neg (by rw [h0];decide),if_neg (by rw [h0];decide),if_neg (by rw [h0];decide),if_neg (by rw [h0];decide),if_pos h0]
theorem step_stake {M:Mast} {ws:List ByteArray} (hf:formedW ws=true) (h0:wd ws 0=tStake):stepE M ws=oneE M.stk∧stepV M ws={ M with stk:=wd ws 1 }:=by
 refine ⟨?_,?_⟩
 ·unfold stepE;rw [if_neg (by rw [h0];decide),if_neg (by rw [h0];decide),if_neg (by rw [hf];simp),if_neg (by rw [h0];decide),if_neg (by rw [h0];decide),if_neg (by rw [h0];decide),if_neg (by rw [h0];decide),if_neg (by rw [h0];decide),if_neg (by rw [h0];decide)]
 ·unfold stepV;rw [if_neg (by rw [h0];decide),if_neg (by rw [h0];decide),if_neg (by rw [h0];decide),if_neg (by rw [h0];decide),if_neg (by rw [h0];decide),if_neg (by rw [h0];decide),if_neg (by rw [h0];decide),if_neg (by rw [h0];decide)]
theorem rsmall_any (v c f e l:Value) (ws:List ByteArray) (M:Mast) (w:World) (hm:MastIn w c f e l M) (hs:Sane M) (hv:StrsV w v ws) (h0:0 < ws.length) (hA:wd ws 0≠tAccount) (hF:wd ws 0≠Fl.tFlow) :
 Calls Tryz.prog 90 #[aggM c f e l M,v] w (OneTold w c f e l M ws):=by
 obtain ⟨x0,hx0⟩:∃ x,ws[0]?=some x:=⟨_,List.getElem?_eq_getElem h0⟩
 have hwd:wd ws 0=x0:=wd_of hx0
 cases hn:namesW ws with
 | false=>exact small_names v c f e l ws M w hm hv hn (formed_no (formed_no_names hn) hA hF)
 | true =>
   cases hf:formedW ws with
   | false =>
     have hE:=formed_no hf hA hF (M:=M)
     refine small_no v c f e l ws M w hm hv hn hE x0 hx0 (fun h=>formed_no_len (k:=3) (lenW_3 (hwd.trans h)) hf hn h0) (fun h=>formed_no_len (k:=4) (lenW_4 (hwd.trans h)) hf hn h0) (fun h=>formed_no_len (k:=2) (lenW_2 (by simpa [hwd] using h)) hf hn h0)
   | true =>
     rcases formed_ways hf with ⟨w0,a,b,e1,_⟩ | ⟨w0,a,b,d,e1,_⟩ | ⟨w0,a,e1,_⟩
     ·obtain ⟨s1,s2⟩:=step_entity hf w0 (M:=M)
      subst e1
      unfold OneTold
      rw [s1,s2]
      refine (small_entity v c f e l a b M w hm hs hv hn).mono ?_
      rintro en w' ⟨v3,M',rfl,h2,h3,h8,h4⟩
      refine ⟨_,_,_,_,M',rfl,fun h5=>?_,h3,⟨Off1.refl _ _,Off1.refl _ _,h8,Off1.refl _ _⟩,h4⟩
      obtain ⟨h6,h7⟩:=h2 h5
      exact ⟨by rw [h6,show G.insR Ent.code M.ents ⟨a,b⟩=_ from G.insR_eq (x:=(⟨a,b⟩:Ent)) hs.en (entE_zero h5).1];rfl,h7⟩
     ·obtain ⟨s1,s2⟩:=step_map hf w0 (M:=M)
      subst e1
      unfold OneTold
      rw [s1,s2]
      refine (small_map v c f e l a b d M w hm hs hv hn).mono ?_
      rintro en w' ⟨v3,M',rfl,h2,h3,h8,h4⟩
      refine ⟨_,_,_,_,M',rfl,fun h5=>?_,h3,⟨Off1.refl _ _,Off1.refl _ _,Off1.refl _ _,h8⟩,h4⟩
      obtain ⟨h6,h7⟩:=h2 h5
      exact ⟨by rw [h6,show G.insR Lin.key M.lines ⟨a,b,d⟩=_ from G.insR_eq (x:=(⟨a,b,d⟩:Lin)) hs.li (linEr_zero h5).1];rfl,h7⟩
     ·have e2:wd ws 1=a:=by rw [e1];rfl
      rcases w0 with w0 | w0 | w0 | w0 | w0
      ·obtain ⟨s1,s2⟩:=step_group hf w0 (M:=M)
       rw [w0] at e1
       unfold OneTold
       rw [s1,s2,e2]
       subst e1
       refine (small_one _ _ _ _ true false false false false v c f e l a M w hm hv hn (.inl ⟨rfl,rfl,rfl,rfl,rfl,rfl,rfl,rfl,rfl⟩)).mono ?_
       rintro en w' ⟨M',rfl,h2,h3,h4⟩
       exact ⟨_,_,_,_,M',rfl,h2,h3,Off4.refl _ _ _ _ _,h4⟩
      ·obtain ⟨s1,s2⟩:=step_reserve hf w0 (M:=M)
       rw [w0] at e1
       unfold OneTold
       rw [s1,s2,e2]
       subst e1
       refine (small_one _ _ _ _ false true false false false v c f e l a M w hm hv hn (.inr (.inl ⟨rfl,rfl,rfl,rfl,rfl,rfl,rfl,rfl,rfl⟩))).mono ?_
       rintro en w' ⟨M',rfl,h2,h3,h4⟩
       exact ⟨_,_,_,_,M',rfl,h2,h3,Off4.refl _ _ _ _ _,h4⟩
      ·obtain ⟨s1,s2⟩:=step_differ hf w0 (M:=M)
       rw [w0] at e1
       unfold OneTold
       rw [s1,s2,e2]
       subst e1
       refine (small_one _ _ _ _ false false true false false v c f e l a M w hm hv hn (.inr (.inr (.inl ⟨rfl,rfl,rfl,rfl,rfl,rfl,rfl,rfl,rfl⟩)))).mono ?_
       rintro en w' ⟨M',rfl,h2,h3,h4⟩
       exact ⟨_,_,_,_,M',rfl,h2,h3,Off4.refl _ _ _ _ _,h4⟩
      ·obtain ⟨s1,s2⟩:=step_minor hf w0 (M:=M)
       rw [w0] at e1
       unfold OneTold
       rw [s1,s2,e2]
       subst e1
       refine (small_one _ _ _ _ false false false true false v c f e l a M w hm hv hn (.inr (.inr (.inr (.inl ⟨rfl,rfl,rfl,rfl,rfl,rfl,rfl,rfl,rfl⟩))))).mono ?_
       rintro en w' ⟨M',rfl,h2,h3,h4⟩
       exact ⟨_,_,_,_,M',rfl,h2,h3,Off4.refl _ _ _ _ _,h4⟩
      ·obtain ⟨s1,s2⟩:=step_stake hf w0 (M:=M)
       rw [w0] at e1
       unfold OneTold
       rw [s1,s2,e2]
       subst e1
       refine (small_one _ _ _ _ false false false false true v c f e l a M w hm hv hn (.inr (.inr (.inr (.inr ⟨rfl,rfl,rfl,rfl,rfl,rfl,rfl,rfl,rfl⟩))))).mono ?_
       rintro en w' ⟨M',rfl,h2,h3,h4⟩
       exact ⟨_,_,_,_,M',rfl,h2,h3,Off4.refl _ _ _ _ _,h4⟩
end Go.Proofs.YtfhhihamndbcnaaGreatDoor.Un
end
section
namespace Go.Proofs.YtfhhihamndbcnaaGreatDoor.Un
open Go.RowKit
theorem step_account {M:Mast} {ws:List ByteArray} (h0:wd ws 0=tAccount):stepE M ws=(if (parseA ws).2=0 then addE M.chart (parseA ws).1 else (parseA ws).2)∧stepV M ws={ M with chart:=insL M.chart (parseA ws).1 }:=by
 refine ⟨?_,?_⟩
 ·unfold stepE;rw [if_pos h0]
 ·unfold stepV;rw [if_pos h0]
theorem step_flow {M:Mast} {ws:List ByteArray} (h0:wd ws 0=Fl.tFlow):stepE M ws=(if (Fl.parseF ws).2=0 then Fl.addE M.flows (Fl.parseF ws).1 else (Fl.parseF ws).2)∧stepV M ws={ M with flows:=insK Fl.Flow.code M.flows (Fl.parseF ws).1 }:=by
 refine ⟨?_,?_⟩
 ·unfold stepE;rw [if_neg (by rw [h0];decide),if_pos h0]
 ·unfold stepV;rw [if_neg (by rw [h0];decide),if_pos h0]
set_option maxRecDepth 100000 in
set_option maxHeartbeats 16000000 in
theorem one_account (v c f e l:Value) (ws:List ByteArray) (M:Mast) (w:World) (hm:MastIn w c f e l M) (hs:Sane M) (hv:StrsV w v ws) (hx:ws[0]?=some tAccount) :
 Calls Tryz.prog 54 #[aggM c f e l M,v] w (OneTold w c f e l M ws):=by
 obtain ⟨pc,cc,ec,_⟩:=hm.chart
 subst ec
 have hlen:M.chart.length≤1000:=by have:=hs.lc;omega
 have HS:=Lib.hid (two_start w hm)
 have HPR:=Lib.hid (rparse_any v ws (two0 w (.slice pc M.chart.length cc) f e l M) (hv.keep HS.out.bel))
 have HM:=Lib.hid hm
 have HO:=Lib.hid (ones_of hm)
 obtain ⟨s1,s2⟩:=step_account (M:=M) (ws:=ws) (wd_of hx)
 obtain ⟨A,hA⟩:∃ A,(parseA ws).1=A:=⟨_,rfl⟩
 obtain ⟨n1,hn1⟩:∃ n,(parseA ws).2=n:=⟨_,rfl⟩
 rw [hA,hn1] at HPR s1
 rw [hA] at s2
 obtain ⟨n,hn⟩:∃ n,addE M.chart A=n:=⟨_,rfl⟩
 obtain ⟨R,hR⟩:∃ R,G.insR Acct.code M.chart A=R:=⟨_,rfl⟩
 rw [hn] at s1
 rw [insL_eqR,hR] at s2
 have HCA:=Lib.hid (fun W h=>rcadd_any (.slice pc M.chart.length cc) M.chart A W h hlen)
 rw [hn,hR] at HCA
 obtain ⟨N,hN⟩:∃ N,stepE M ws=N:=⟨_,rfl⟩
 have HNE:=Lib.hid s1
 have HV2:=Lib.hid s2
 rw [hN] at HNE
 unfold OneTold
 rw [hN]
 obtain ⟨p,cp,rfl,hcap,hml,hc⟩:=hv
 obtain ⟨g,o,rfl,x0⟩:=hc 0 tAccount hx
 rw [Nat.add_zero] at x0
 have y0:=cell_later HS.out.bel x0
 obtain ⟨nw,hnw⟩:∃ nw,ws.length=nw:=⟨_,rfl⟩
 have hw0:0 < nw:=by rw [←hnw];exact (List.getElem?_eq_some_iff.1 hx).1
 rw [hnw] at HPR hcap hml ⊢
 have gt:(tAccount.toList==[97,99,99,111,117,110,116])=true:=by rw [qAccount];decide
 clear hm hs hc hx hlen s1 s2 hA hn1 hn hR hN x0 hnw
 go_enter Tryz.func54,Tryz.ntmps54
 go_wp2_with fail
 refine HPR.out.mono ?_
 rintro en w1 ⟨rfl,hb1⟩
 have HS1:=Lib.hid (HS.out.below hb1)
 have HBA:=Lib.hid ((Below.refl w1.heap.size w1).alloc (Nat.le_refl _) (.cells (encA.cs zeroA).toArray 172))
 clear hb1 y0 gt
 by_cases h1:n1=0
 ·subst h1
  have HNN:Hid (N=n):=Lib.hid (by rw [HNE.out,if_pos rfl])
  go_wp2_with (refine wpList_store_acct rfl 172 (.tmp 6) (.tmp 22) rfl w1.heap.size zeroA A 172 rfl rfl (BoxA.new w1 zeroA _) (by kernel_rfl) ?_;intro w2 hb2 hg2;have HG2:Hid (Below w1.heap.size w1 w2):=Lib.hid (HBA.out.grown hg2 HBA.out.size (fun j hj=>by cases hj;exact Nat.le_refl _));have HX2:=Lib.hid hb2;clear hb2 hg2;have HS2:=Lib.hid (HS1.out.below HG2.out);have hk:=HS2.out.box.nine.c0;obtain ⟨q0,q1,q2,q3,q4,q5⟩:=HX2.out.facts)
  refine (HCA.out w2 (chart_els.1 HS2.out.mast.chart)).mono ?_
  rintro en w3 ⟨v3,rfl,ho3,hn3,hb3⟩
  obtain ⟨p3,m3,cp3,rfl⟩:=told_shape ho3 hn3
  have HO3:=Lib.hid ho3
  have HN3:=Lib.hid hn3
  have HS3:=Lib.hid (HS2.out.below hb3)
  have hB2:=HS2.out.bel.size
  have hk3:=HS3.out.box.nine.c0
  have hf3:=boxM_free HS3.out.box 0
  obtain ⟨W2,hW2⟩:∃ W2,w3.setCell ⟨w.heap.size,0,none⟩ (.slice p3 m3 cp3)=W2:=⟨_,rfl⟩
  have HG4:Hid (w3.grownBy W2 (some w.heap.size)):=Lib.hid (by rw [←hW2];exact set_grown w3 w.heap.size 0 (.slice p3 m3 cp3))
  have HW2:Hid (Below w.heap.size w W2):=Lib.hid (by rw [←hW2];exact set_below HS3.out.bel 0 _)
  obtain ⟨M2,hM2⟩:∃ M2:Mast,{ M with chart:=R }=M2:=⟨_,rfl⟩
  have HB2:Hid (BoxM W2 w.heap.size 37 (.slice p3 m3 cp3) f e l M2):=Lib.hid (by rw [←hW2,←hM2];exact box_set HS3.out.box rfl)
  have HR2:Hid (BoxM W2 (w.heap.size+1) 37 nil4 nil4 nil4 nil4 zeroM):=Lib.hid ((HG4.out.block _ HS3.out.res.lt (by simp)).trans HS3.out.res)
  have HM2:Hid (M2.flows=M.flows∧M2.ents=M.ents∧M2.lines=M.lines∧M2.chart=R):=Lib.hid (by rw [←hM2];exact ⟨rfl,rfl,rfl,rfl⟩)
  have HMM:=Lib.hid hM2
  have HO2:Hid (Ones (.slice p3 m3 cp3) f e l):=Lib.hid ⟨rfl,HO.out.f,HO.out.e,HO.out.l⟩
  clear ho3 hn3 hb3 hM2 hk q0 q1 q2 q3 q4 q5
  obtain ⟨k0,k1,k2,k3,k4,k5,k6,k7,k8⟩:=HB2.out.nine
  go_wp2_with (refine wpList_store_mast rfl 37 (.tmp 4) (.tmp 37) rfl (w.heap.size+1) nil4 nil4 nil4 nil4 (.slice p3 m3 cp3) f e l zeroM M2 37 rfl rfl HR2.out HO2.out (by kernel_rfl) ?_;intro w4 hb4 hg4)
  clear k0 k1 k2 k3 k4 k5 k6 k7 k8 hk3 hf3 hW2
  have HBG:=Lib.hid (HW2.out.grown hg4 HW2.out.size (fun j hj=>by cases hj;exact Nat.le_succ _))
  have HX4:Hid (n=0→ElsV encA w4 (.slice p3 m3 cp3) M2.chart):=Lib.hid (fun h0=>by
   obtain ⟨t,hr⟩:=HN3.out h0
   have h2:=(hr.kept HG4.out (.inr (fun e0=>by
    rcases hr.2 with ⟨e,_⟩ | ⟨g',_,_,e,hge,_⟩
    ·cases e;simp [Value.ownBlock] at e0
    ·cases e
     have h3:g'=w.heap.size:=by simpa [Value.ownBlock] using e0
     have:=HS2.out.box.lt
     omega))).kept hg4 (.inr (fun e0=>by
    rcases hr.2 with ⟨e,_⟩ | ⟨g',_,_,e,hge,_⟩
    ·cases e;simp [Value.ownBlock] at e0
    ·cases e
     have h3:g'=w.heap.size+1:=by simpa [Value.ownBlock] using e0
     have:=HS2.out.res.lt
     omega))
   rw [HM2.out.2.2.2]
   exact els_of_own h2)
  obtain ⟨c0,c1,c2,c3,c4,c5,c6,c7,c8⟩:=hb4.nine
  clear hb4 hg4
  refine bodyPost_ret (v:=.tuple #[aggM (.slice p3 m3 cp3) f e l M2,.int .i64 n]) (by simp [results,Tryz.results54,go_sem,c0,c1,c2,c3,c4,c5,c6,c7,c8]) rfl ⟨_,_,_,_,M2,by rw [HNN.out],fun h0=>⟨?_,?_⟩,HO2.out,⟨Off1.told HO3.out HN3.out HS2.out.bel.size,Off1.refl _ _,Off1.refl _ _,Off1.refl _ _⟩,HBG.out⟩
  ·rw [HV2.out];exact HMM.out.symm
  ·have hk:=HM.out.keep HBG.out
   obtain ⟨m1,m2,m3,_⟩:=HM2.out
   exact ⟨chart_els.2 (HX4.out (by rw [←HNN.out];exact h0)),by rw [m1];exact hk.flows,by rw [m2];exact hk.ents,by rw [m3];exact hk.lines⟩
 ·have HNN:Hid (N=n1):=Lib.hid (by rw [HNE.out,if_neg h1])
  have h1z:(n1 != 0)=true:=by simp [h1]
  go_wp2_with (first
   | (refine wpList_store_acct rfl 172 (.tmp 6) (.tmp 22) rfl w1.heap.size zeroA A 172 rfl rfl (BoxA.new w1 zeroA _) (by kernel_rfl) ?_;intro w2 hb2 hg2;have HG2:Hid (Below w1.heap.size w1 w2):=Lib.hid (HBA.out.grown hg2 HBA.out.size (fun j hj=>by cases hj;exact Nat.le_refl _));have HX2:=Lib.hid hb2;clear hb2 hg2;have HS2:=Lib.hid (HS1.out.below HG2.out);obtain ⟨k0,k1,k2,k3,k4,k5,k6,k7,k8⟩:=HS2.out.box.nine)
   | (refine wpList_store_mast rfl 37 (.tmp 4) (.tmp 26) rfl (w.heap.size+1) nil4 nil4 nil4 nil4 (.slice pc M.chart.length cc) f e l zeroM M 37 rfl rfl HS2.out.res HO.out (by kernel_rfl) ?_;intro w4 hb4 hg4)
   | fail)
  clear k0 k1 k2 k3 k4 k5 k6 k7 k8
  have HBG:=Lib.hid (HS2.out.bel.grown hg4 HS2.out.bel.size (fun j hj=>by cases hj;exact Nat.le_succ _))
  obtain ⟨c0,c1,c2,c3,c4,c5,c6,c7,c8⟩:=hb4.nine
  clear hb4 hg4
  exact bodyPost_ret (v:=.tuple #[aggM (.slice pc M.chart.length cc) f e l M,.int .i64 n1]) (by simp [results,Tryz.results54,go_sem,c0,c1,c2,c3,c4,c5,c6,c7,c8]) rfl ⟨_,_,_,_,M,by rw [HNN.out],(fun h=>absurd (HNN.out.symm.trans h) h1),HO.out,Off4.refl _ _ _ _ _,HBG.out⟩
set_option maxRecDepth 100000 in
set_option maxHeartbeats 16000000 in
theorem one_flow (v c f e l:Value) (ws:List ByteArray) (M:Mast) (w:World) (hm:MastIn w c f e l M) (hs:Sane M) (hv:StrsV w v ws) (hx:ws[0]?=some Fl.tFlow) :
 Calls Tryz.prog 54 #[aggM c f e l M,v] w (OneTold w c f e l M ws):=by
 obtain ⟨pf,cf,ef,_⟩:=hm.flows
 subst ef
 have hlen:M.flows.length≤1000:=by have:=hs.lf;omega
 have HS:=Lib.hid (two_start w hm)
 have HPR:=Lib.hid (Fl.rparse_any v ws (two0 w c (.slice pf M.flows.length cf) e l M) (hv.keep HS.out.bel))
 have HM:=Lib.hid hm
 have HO:=Lib.hid (ones_of hm)
 obtain ⟨s1,s2⟩:=step_flow (M:=M) (ws:=ws) (wd_of hx)
 obtain ⟨A,hA⟩:∃ A,(Fl.parseF ws).1=A:=⟨_,rfl⟩
 obtain ⟨n1,hn1⟩:∃ n,(Fl.parseF ws).2=n:=⟨_,rfl⟩
 rw [hA,hn1] at HPR s1
 rw [hA] at s2
 obtain ⟨n,hn⟩:∃ n,Fl.addE M.flows A=n:=⟨_,rfl⟩
 obtain ⟨R,hR⟩:∃ R,G.insR Fl.Flow.code M.flows A=R:=⟨_,rfl⟩
 rw [hn] at s1
 have hri:=Fl.rise_codes hs.fl
 have HIN:Hid (n=0→insK Fl.Flow.code M.flows A=R):=Lib.hid (fun h0=>by
  rw [←hn] at h0
  rw [insF_eqR hri (Fl.addE_zero hri h0).2.1,hR])
 have HCA:=Lib.hid (fun W h=>rfadd_any (.slice pf M.flows.length cf) M.flows A W h hri hlen)
 rw [hn,hR] at HCA
 obtain ⟨N,hN⟩:∃ N,stepE M ws=N:=⟨_,rfl⟩
 have HNE:=Lib.hid s1
 have HV2:=Lib.hid s2
 rw [hN] at HNE
 unfold OneTold
 rw [hN]
 obtain ⟨p,cp,rfl,hcap,hml,hc⟩:=hv
 obtain ⟨g,o,rfl,x0⟩:=hc 0 Fl.tFlow hx
 rw [Nat.add_zero] at x0
 have y0:=cell_later HS.out.bel x0
 obtain ⟨nw,hnw⟩:∃ nw,ws.length=nw:=⟨_,rfl⟩
 have hw0:0 < nw:=by rw [←hnw];exact (List.getElem?_eq_some_iff.1 hx).1
 rw [hnw] at HPR hcap hml ⊢
 have gt:(Fl.tFlow.toList==[102,108,111,119])=true:=by rw [qFlow];decide
 have g0:(Fl.tFlow.toList==[97,99,99,111,117,110,116])=false:=by rw [qAccount];decide
 clear hm hs hc hx hlen hri s1 s2 hA hn1 hn hR hN x0 hnw
 go_enter Tryz.func54,Tryz.ntmps54
 go_wp2_with fail
 refine HPR.out.mono ?_
 rintro en w1 ⟨rfl,hb1⟩
 have HS1:=Lib.hid (HS.out.below hb1)
 have HBA:=Lib.hid ((Below.refl w1.heap.size w1).alloc (Nat.le_refl _) (.cells (Fl.encF.cs Fl.zeroF).toArray 140))
 clear hb1 y0 gt g0
 by_cases h1:n1=0
 ·subst h1
  have HNN:Hid (N=n):=Lib.hid (by rw [HNE.out,if_pos rfl])
  go_wp2_with (refine wpList_store_el (E:=Fl.encF) rfl 140 (.tmp 10) (.tmp 44) rfl w1.heap.size Fl.zeroF A 140 rfl rfl (BoxE.new Fl.encF w1 Fl.zeroF _) (by kernel_rfl) ?_;intro w2 hb2 hg2;have HG2:Hid (Below w1.heap.size w1 w2):=Lib.hid (HBA.out.grown hg2 HBA.out.size (fun j hj=>by cases hj;exact Nat.le_refl _));have HX2:=Lib.hid hb2;clear hb2 hg2;have HS2:=Lib.hid (HS1.out.below HG2.out);have hk:=HS2.out.box.nine.c1;obtain ⟨q0,q1⟩:=Fl.two HX2.out.at0)
  refine (HCA.out w2 HS2.out.mast.flows).mono ?_
  rintro en w3 ⟨v3,rfl,ho3,hn3,hb3⟩
  obtain ⟨p3,m3,cp3,rfl⟩:=told_shape ho3 hn3
  have HO3:=Lib.hid ho3
  have HN3:=Lib.hid hn3
  have HS3:=Lib.hid (HS2.out.below hb3)
  have hB2:=HS2.out.bel.size
  have hk3:=HS3.out.box.nine.c1
  have hf3:=boxM_free HS3.out.box 1
  obtain ⟨W2,hW2⟩:∃ W2,w3.setCell ⟨w.heap.size,1,none⟩ (.slice p3 m3 cp3)=W2:=⟨_,rfl⟩
  have HG4:Hid (w3.grownBy W2 (some w.heap.size)):=Lib.hid (by rw [←hW2];exact set_grown w3 w.heap.size 1 (.slice p3 m3 cp3))
  have HW2:Hid (Below w.heap.size w W2):=Lib.hid (by rw [←hW2];exact set_below HS3.out.bel 1 _)
  obtain ⟨M2,hM2⟩:∃ M2:Mast,{ M with flows:=R }=M2:=⟨_,rfl⟩
  have HB2:Hid (BoxM W2 w.heap.size 37 c (.slice p3 m3 cp3) e l M2):=Lib.hid (by rw [←hW2,←hM2];exact box_set HS3.out.box rfl)
  have HR2:Hid (BoxM W2 (w.heap.size+1) 37 nil4 nil4 nil4 nil4 zeroM):=Lib.hid ((HG4.out.block _ HS3.out.res.lt (by simp)).trans HS3.out.res)
  have HM2:Hid (M2.chart=M.chart∧M2.ents=M.ents∧M2.lines=M.lines∧M2.flows=R):=Lib.hid (by rw [←hM2];exact ⟨rfl,rfl,rfl,rfl⟩)
  have HMM:=Lib.hid hM2
  have HO2:Hid (Ones c (.slice p3 m3 cp3) e l):=Lib.hid ⟨HO.out.c,rfl,HO.out.e,HO.out.l⟩
  clear ho3 hn3 hb3 hM2 hk q0 q1
  obtain ⟨k0,k1,k2,k3,k4,k5,k6,k7,k8⟩:=HB2.out.nine
  go_wp2_with (refine wpList_store_mast rfl 37 (.tmp 4) (.tmp 59) rfl (w.heap.size+1) nil4 nil4 nil4 nil4 c (.slice p3 m3 cp3) e l zeroM M2 37 rfl rfl HR2.out HO2.out (by kernel_rfl) ?_;intro w4 hb4 hg4)
  clear k0 k1 k2 k3 k4 k5 k6 k7 k8 hk3 hf3 hW2
  have HBG:=Lib.hid (HW2.out.grown hg4 HW2.out.size (fun j hj=>by cases hj;exact Nat.le_succ _))
  have HX4:Hid (n=0→ElsV Fl.encF w4 (.slice p3 m3 cp3) M2.flows):=Lib.hid (fun h0=>by
   obtain ⟨t,hr⟩:=HN3.out h0
   have h2:=(hr.kept HG4.out (.inr (fun e0=>by
    rcases hr.2 with ⟨e,_⟩ | ⟨g',_,_,e,hge,_⟩
    ·cases e;simp [Value.ownBlock] at e0
    ·cases e
     have h3:g'=w.heap.size:=by simpa [Value.ownBlock] using e0
     have:=HS2.out.box.lt
     omega))).kept hg4 (.inr (fun e0=>by
    rcases hr.2 with ⟨e,_⟩ | ⟨g',_,_,e,hge,_⟩
    ·cases e;simp [Value.ownBlock] at e0
    ·cases e
     have h3:g'=w.heap.size+1:=by simpa [Value.ownBlock] using e0
     have:=HS2.out.res.lt
     omega))
   rw [HM2.out.2.2.2]
   exact els_of_own h2)
  obtain ⟨c0,c1,c2,c3,c4,c5,c6,c7,c8⟩:=hb4.nine
  clear hb4 hg4
  refine bodyPost_ret (v:=.tuple #[aggM c (.slice p3 m3 cp3) e l M2,.int .i64 n]) (by simp [results,Tryz.results54,go_sem,c0,c1,c2,c3,c4,c5,c6,c7,c8]) rfl ⟨_,_,_,_,M2,by rw [HNN.out],fun h0=>⟨?_,?_⟩,HO2.out,⟨Off1.refl _ _,Off1.told HO3.out HN3.out HS2.out.bel.size,Off1.refl _ _,Off1.refl _ _⟩,HBG.out⟩
  ·rw [HV2.out,HIN.out (by rw [←HNN.out];exact h0)];exact HMM.out.symm
  ·have hk:=HM.out.keep HBG.out
   obtain ⟨m1,m2,m3,_⟩:=HM2.out
   exact ⟨by rw [m1];exact hk.chart,HX4.out (by rw [←HNN.out];exact h0),by rw [m2];exact hk.ents,by rw [m3];exact hk.lines⟩
 ·have HNN:Hid (N=n1):=Lib.hid (by rw [HNE.out,if_neg h1])
  have h1z:(n1 != 0)=true:=by simp [h1]
  go_wp2_with (first
   | (refine wpList_store_el (E:=Fl.encF) rfl 140 (.tmp 10) (.tmp 44) rfl w1.heap.size Fl.zeroF A 140 rfl rfl (BoxE.new Fl.encF w1 Fl.zeroF _) (by kernel_rfl) ?_;intro w2 hb2 hg2;have HG2:Hid (Below w1.heap.size w1 w2):=Lib.hid (HBA.out.grown hg2 HBA.out.size (fun j hj=>by cases hj;exact Nat.le_refl _));have HX2:=Lib.hid hb2;clear hb2 hg2;have HS2:=Lib.hid (HS1.out.below HG2.out);obtain ⟨k0,k1,k2,k3,k4,k5,k6,k7,k8⟩:=HS2.out.box.nine)
   | (refine wpList_store_mast rfl 37 (.tmp 4) (.tmp 48) rfl (w.heap.size+1) nil4 nil4 nil4 nil4 c (.slice pf M.flows.length cf) e l zeroM M 37 rfl rfl HS2.out.res HO.out (by kernel_rfl) ?_;intro w4 hb4 hg4)
   | fail)
  clear k0 k1 k2 k3 k4 k5 k6 k7 k8
  have HBG:=Lib.hid (HS2.out.bel.grown hg4 HS2.out.bel.size (fun j hj=>by cases hj;exact Nat.le_succ _))
  obtain ⟨c0,c1,c2,c3,c4,c5,c6,c7,c8⟩:=hb4.nine
  clear hb4 hg4
  exact bodyPost_ret (v:=.tuple #[aggM c (.slice pf M.flows.length cf) e l M,.int .i64 n1]) (by simp [results,Tryz.results54,go_sem,c0,c1,c2,c3,c4,c5,c6,c7,c8]) rfl ⟨_,_,_,_,M,by rw [HNN.out],(fun h=>absurd (HNN.out.symm.trans h) h1),HO.out,Off4.refl _ _ _ _ _,HBG.out⟩
set_option maxRecDepth 100000 in
set_option maxHeartbeats 16000000 in
theorem one_small (v c f e l:Value) (ws:List ByteArray) (M:Mast) (w:World) (hm:MastIn w c f e l M) (hs:Sane M) (hv:StrsV w v ws) (x0:ByteArray) (hx:ws[0]?=some x0) (hA:x0≠tAccount) (hF:x0≠Fl.tFlow) :
 Calls Tryz.prog 54 #[aggM c f e l M,v] w (OneTold w c f e l M ws):=by
 have HS:=Lib.hid (two_start w hm)
 have h0:0 < ws.length:=(List.getElem?_eq_some_iff.1 hx).1
 have HCA:=Lib.hid (rsmall_any v c f e l ws M (two0 w c f e l M) HS.out.mast hs (hv.keep HS.out.bel) h0 (by rw [wd_of hx];exact hA) (by rw [wd_of hx];exact hF))
 have HQ:=Lib.hid (off_of_mast (P:=fun b=>b≠w.heap.size+1) hm (fun b hb e0=>by omega))
 have hof0:∀ (c' f' e' l':Value),Off4 (two0 w c f e l M) c f e l c' f' e' l'→Off4 w c f e l c' f' e' l':=fun _ _ _ _ h=>by
  have hle:w.heap.size≤(two0 w c f e l M).heap.size:=HS.out.bel.size
  exact ⟨h.1.mono hle,h.2.1.mono hle,h.2.2.1.mono hle,h.2.2.2.mono hle⟩
 have HOM:=Lib.hid hof0
 have g0:=qAccount x0
 have g1:=qFlow x0
 rw [decide_eq_false hA] at g0
 rw [decide_eq_false hF] at g1
 obtain ⟨p,cp,rfl,hcap,hml,hc⟩:=hv
 obtain ⟨g,o,rfl,y0'⟩:=hc 0 x0 hx
 rw [Nat.add_zero] at y0'
 have y0:=cell_later HS.out.bel y0'
 obtain ⟨nw,hnw⟩:∃ nw,ws.length=nw:=⟨_,rfl⟩
 rw [hnw] at HCA hcap hml h0 ⊢
 clear hm hs hc hx hA hF y0' hnw hof0
 obtain ⟨k0,k1,k2,k3,k4,k5,k6,k7,k8⟩:=HS.out.box.nine
 go_enter Tryz.func54,Tryz.ntmps54
 go_wp2_with fail
 clear k0 k1 k2 k3 k4 k5 k6 k7 k8
 refine HCA.out.mono ?_
 rintro en w1 ⟨c',f',e',l',M',rfl,hz,ho,hof,hb1⟩
 have HS1:=Lib.hid (HS.out.below hb1)
 have HZ:=Lib.hid hz
 have HO:=Lib.hid ho
 have HOF:=Lib.hid hof
 obtain ⟨N,hN⟩:∃ N,stepE M ws=N:=⟨_,rfl⟩
 rw [hN]
 have HN:=Lib.hid hN
 clear hz ho hof hb1 hN y0 g0 g1
 go_wp2_with (refine wpList_store_mast rfl 37 (.tmp 4) (.tmp 64) rfl (w.heap.size+1) nil4 nil4 nil4 nil4 c' f' e' l' zeroM M' 37 rfl rfl HS1.out.res HO.out (by kernel_rfl) ?_;intro w4 hb4 hg4)
 have HBG:=Lib.hid (HS1.out.bel.grown hg4 HS1.out.bel.size (fun j hj=>by cases hj;exact Nat.le_succ _))
 have HX4:Hid (N=0→M'=stepV M ws∧MastIn w4 c' f' e' l' M'):=Lib.hid (fun h0=>by
  obtain ⟨h1,h2⟩:=HZ.out (by rw [HN.out];exact h0)
  obtain ⟨o0,o1,o2,o3⟩:=HOF.out
  have hsz:(two0 w c f e l M).heap.size=w.heap.size+2:=by simp [two0]
  have hP:∀ b,(two0 w c f e l M).heap.size≤b→b≠w.heap.size+1:=fun b hb e0=>by omega
  obtain ⟨p0,p1,p2,p3⟩:=HQ.out
  exact ⟨h1,mast_off h2 (o0 _ hP p0) (o1 _ hP p1) (o2 _ hP p2) (o3 _ hP p3) (fun b hb hlt=>hg4.block b hlt (fun e0=>hb (Option.some.inj e0)))⟩)
 obtain ⟨c0,c1,c2,c3,c4,c5,c6,c7,c8⟩:=hb4.nine
 clear hb4 hg4
 exact bodyPost_ret (v:=.tuple #[aggM c' f' e' l' M',.int .i64 N]) (by simp [results,Tryz.results54,go_sem,c0,c1,c2,c3,c4,c5,c6,c7,c8]) rfl ⟨_,_,_,_,M',by rw [HN.out],(fun h=>HX4.out (by rw [←HN.out];exact h)),HO.out,HOM.out _ _ _ _ HOF.out,HBG.out⟩
theorem rone_any (v c f e l:Value) (ws:List ByteArray) (M:Mast) (w:World) (hm:MastIn w c f e l M) (hs:Sane M) (hv:StrsV w v ws) (h0:0 < ws.length) :
 Calls Tryz.prog 54 #[aggM c f e l M,v] w (OneTold w c f e l M ws):=by
 obtain ⟨x0,hx⟩:∃ x,ws[0]?=some x:=⟨_,List.getElem?_eq_getElem h0⟩
 by_cases hA:x0=tAccount
 ·subst hA;exact one_account v c f e l ws M w hm hs hv hx
 ·by_cases hF:x0=Fl.tFlow
  ·subst hF;exact one_flow v c f e l ws M w hm hs hv hx
  ·exact one_small v c f e l ws M w hm hs hv x0 hx hA hF
end Go.Proofs.YtfhhihamndbcnaaGreatDoor.Un
end
section
namespace Go.Proofs.YtfhhihamndbcnaaGreatDoor.Un
open Go.RowKit
def HadAt (W:World) (B Bw:Nat) (v:Value) (L:List (Int × List ByteArray)):Prop :=
 ∃ LV,W.ownsRow B 129 2 v LV.length (flatL LV)∧WordsOwn W Bw 9 LV L
theorem HadAt.lines {W:World} {B Bw:Nat} {v:Value} {L:List (Int × List ByteArray)} (h:HadAt W B Bw v L):LinesV W v L:=by
 obtain ⟨LV,h1,h2⟩:=h
 exact lines_of_in h1 h2.isIn
theorem had_of {w:World} {L:List (Int × List ByteArray)} {c:Int} {e:Ending} {w':World} (h:LinesHad w L c e w'):∃ v,e=.returned (.tuple #[v,.int .i64 c])∧HadAt w' w.heap.size w.heap.size v L∧Below w.heap.size w w':=by
 obtain ⟨v,LV,he,h1,h2,hb⟩:=h
 exact ⟨v,he,⟨LV,h1,h2⟩,hb⟩
theorem szW_le {l:List (List ByteArray)} {ws:List ByteArray} (h:ws∈l):szW ws≤szL l:=by
 induction l with
 | nil=>cases h
 | cons a l ih =>
   have:szL (a::l)=szW a+szL l:=rfl
   rw [this]
   rcases List.mem_cons.1 h with rfl | h
   ·omega
   ·have:=ih h;omega
end Go.Proofs.YtfhhihamndbcnaaGreatDoor.Un
end
section
namespace Go.Proofs.YtfhhihamndbcnaaGreatDoor.Un
open Go.RowKit
theorem spec_plain {c:List Acct} {s:ByteArray} {k:Int} {a:Acct} (hf:findL c s=some a) (hr:rightA a=true):specA (findV (findL c s)) k=plainA c s k:=by
 unfold plainA findV
 rw [hf]
 have hc:=(find_mem hf).1
 simp only [Option.getD_some]
 obtain ⟨co,cl,ca,mu,fi,wo⟩:=a
 dsimp only at hc
 subst hc
 unfold specA
 rw [Bool.eq_iff_iff,decide_eq_true_eq]
 simp only [Bool.and_eq_true,decide_eq_true_eq,Bool.not_eq_true',Acct.mk.injEq,true_and]
 have hm:=marks_ways (right_parts hr).2.2
 dsimp only at hm
 constructor
 ·rintro ⟨⟨⟨h1,h2⟩,h3⟩,h4⟩
  have h5:fi=emp:=by
   by_cases e:fi=emp
   ·exact e
   ·rw [(neB_iff fi).2 e] at h4;cases h4
  refine ⟨h1,h2,h3,h5,?_⟩
  rcases hm with ⟨_,_,_,h⟩ | ⟨_,_,_,h,_⟩ | ⟨_,_,_,h,_⟩ | ⟨_,_,_,h,_⟩ | ⟨_,_,_,h,_⟩
  ·exact h
  ·exact h
  ·exact h
  ·rw [h] at h4;cases h4
  ·rw [h] at h4;cases h4
 ·rintro ⟨h1,h2,h3,h4,_⟩
  exact ⟨⟨⟨h1,h2⟩,h3⟩,by rw [h4];exact neB_empty⟩
theorem allD_eq {l:List (List ByteArray)} {M:Mast} (h:Inv l M):allD M=allE M:=by
 have hs:=h.sane
 have hri:=Fl.rise_codes hs.fl
 have e1:(codesD M).all (fun x=>(findL M.chart x.1).isSome)=rolesN M:=by
  simp only [codesD,rolesN,hasA,List.all_cons,List.all_nil,Bool.and_true]
  cases (findL M.chart M.res).isSome <;> cases (findL M.chart M.min).isSome <;> cases (findL M.chart M.dif).isSome <;> rfl
 have e2:M.lines.all (fun x=>(findL M.chart x.acc).isSome && (Fl.findF M.flows x.flow).isSome)=linesN M:=by
  unfold linesN
  congr 1
  funext x
  unfold lineN hasA
  rw [(isK_find hri x.flow).1]
 have e3:Fl.wholeTo M.flows 5=Fl.wholeF M.flows:=Fl.whole_eq (Fl.rise_ones hs.fl)
 unfold allD allE
 rw [e1,e2,e3]
 by_cases h1:M.cur=emp
 ·rw [if_pos h1,if_pos (by simp [h1])]
 ·rw [if_neg h1]
  cases hr:rolesN M with
  | false=>rw [if_pos rfl,if_pos (by simp)]
  | true =>
    rw [if_neg (by simp)]
    cases hl:linesN M with
    | false=>rw [if_pos rfl,if_pos (by simp)]
    | true =>
      have e4:(codesD M).all (fun x=>specA (findV (findL M.chart x.1)) x.2)=rolesP M:=by
       unfold rolesN hasA at hr
       simp only [Bool.and_eq_true] at hr
       obtain ⟨⟨⟨r1,r2⟩,r3⟩,r4⟩:=hr
       obtain ⟨a1,g1⟩:=Option.isSome_iff_exists.1 r1
       obtain ⟨a2,g2⟩:=Option.isSome_iff_exists.1 r2
       obtain ⟨a3,g3⟩:=Option.isSome_iff_exists.1 r3
       obtain ⟨a4,g4⟩:=Option.isSome_iff_exists.1 r4
       simp only [codesD,rolesP,List.all_cons,List.all_nil,Bool.and_true]
       rw [spec_plain g1 (h.right _ (find_mem g1).2),spec_plain g2 (h.right _ (find_mem g2).2),spec_plain g3 (h.right _ (find_mem g3).2),spec_plain g4 (h.right _ (find_mem g4).2)]
       cases plainA M.chart M.res 2 <;> cases plainA M.chart M.min 2 <;> cases plainA M.chart M.dif 0 <;> rfl
      rw [e4]
      simp [h1]
theorem wp_store_mast {P:Program} {o:Oper} {act:Act} {w:World} {K:Act→World→Prop} {Q:Exit→Act→World→Prop} (ty:TypeId) (x y:Operand) (ho:o.op=.store ty x y)
 (g:Nat) (c0 f0 e0 l0 c f e l:Value) (M0 M:Mast) (t:TypeId) (hx:act.eval x=.pointer (some ⟨g,0,none⟩)) (hy:act.eval y=aggM c f e l M) (hg:BoxM w g t c0 f0 e0 l0 M0) (h1:Ones c f e l) (hi:(P.info? ty).map (·.size)=some 9)
 (h:∀ w',BoxM w' g t c f e l M→w.grownBy w' (some g)→K (act.put o.dst undef) w'):o.wp P act w K Q :=
 wp_store_row ty x y ho g _ hx hy t _ hg hi rfl (by have hs:∀ s,(Value.string s).oneCell'=true:=fun _=>rfl;simp [h1.c,h1.f,h1.e,h1.l,hs]) (h _ (setRow_heap w g _ _ t _ hg) (grownBy_set w g _))
def OffM (gr gm:Nat) (c f e l:Value):Prop:=OffV (fun b=>b≠gm∧b≠gr) c∧OffV (fun b=>b≠gm∧b≠gr) f∧OffV (fun b=>b≠gm∧b≠gr) e∧OffV (fun b=>b≠gm∧b≠gr) l
structure DocAt (w0 wr:World) (gr gm:Nat) (c f e l:Value) (M:Mast):Prop where
 box:BoxM wr gm 37 c f e l M
 res:BoxM wr gr 37 nil4 nil4 nil4 nil4 zeroM
 mast:MastIn wr c f e l M
 off:OffM gr gm c f e l
 bel:Below w0.heap.size w0 wr
 lo:w0.heap.size≤gr∧w0.heap.size≤gm∧gr≠gm
theorem DocAt.below {w0 wr w':World} {gr gm:Nat} {c f e l:Value} {M:Mast} (h:DocAt w0 wr gr gm c f e l M) (hb:Below wr.heap.size wr w'):DocAt w0 w' gr gm c f e l M :=
 ⟨h.box.kept hb,h.res.kept hb,h.mast.keep hb,h.off,h.bel.trans (hb.mono h.bel.size),h.lo⟩
structure NextAt (w0 w3:World) (gr gm gn:Nat) (c f e l c' f' e' l':Value) (M M':Mast) (N:Int):Prop where
 box:BoxM w3 gm 37 c f e l M
 res:BoxM w3 gr 37 nil4 nil4 nil4 nil4 zeroM
 new:BoxM w3 gn 37 c' f' e' l' M'
 mast:N=0→MastIn w3 c' f' e' l' M'
 off:OffM gr gm c' f' e' l'
 ones:Ones c' f' e' l'
 bel:Below w0.heap.size w0 w3
 lo:w0.heap.size≤gr∧w0.heap.size≤gm∧gr≠gm
theorem off4_M {w:World} {gr gm:Nat} {c f e l c' f' e' l':Value} (h:Off4 w c f e l c' f' e' l') (ho:OffM gr gm c f e l) (hr:gr < w.heap.size) (hm:gm < w.heap.size):OffM gr gm c' f' e' l':=by
 have hp:∀ b,w.heap.size≤b→b≠gm∧b≠gr:=fun b hb=>⟨by omega,by omega⟩
 exact ⟨h.1 _ hp ho.1,h.2.1 _ hp ho.2.1,h.2.2.1 _ hp ho.2.2.1,h.2.2.2 _ hp ho.2.2.2⟩
theorem DocAt.call_box {w0 wr w1 w2 w3:World} {gr gm:Nat} {c f e l c' f' e' l':Value} {M M':Mast} {N:Int} (h:DocAt w0 wr gr gm c f e l M) (hb1:Below wr.heap.size wr w1) (hm:N=0→MastIn w2 c' f' e' l' M') (ho:Ones c' f' e' l') (hof:Off4 w1 c f e l c' f' e' l') (hb2:Below w1.heap.size w1 w2)
 (hn:BoxM w3 w2.heap.size 37 c' f' e' l' M') (hb3:Below w2.heap.size w2 w3):NextAt w0 w3 gr gm w2.heap.size c f e l c' f' e' l' M M' N:=by
 have h1:=((h.below hb1).below hb2).below hb3
 exact ⟨h1.box,h1.res,hn,fun h0=>(hm h0).keep hb3,off4_M hof h.off (h.res.kept hb1).lt (h.box.kept hb1).lt,ho,h1.bel,h.lo⟩
theorem DocAt.box_call {w0 wr w1 w2 w3:World} {gr gm g:Nat} {c f e l c' f' e' l':Value} {M M':Mast} {N:Int} (h:DocAt w0 wr gr gm c f e l M) (hg0:wr.heap.size≤g) (hg1:g < w1.heap.size) (hb1:Below wr.heap.size wr w1) (hm:N=0→MastIn w2 c' f' e' l' M') (ho:Ones c' f' e' l') (hof:Off4 w1 c f e l c' f' e' l') (hb2:Below w1.heap.size w1 w2)
 (hn:BoxM w3 g 37 c' f' e' l' M') (hg:w2.grownBy w3 (some g)):NextAt w0 w3 gr gm g c f e l c' f' e' l' M M' N:=by
 have h1:=(h.below hb1).below hb2
 have hgm:=h.box.lt
 have hgr:=h.res.lt
 have hP:=off_of_mast (P:=fun b=>b≠g) h.mast (fun b hb e0=>by omega)
 have hp:∀ b,w1.heap.size≤b→b≠g:=fun b hb e0=>by omega
 have k:∀ j,j < w2.heap.size→j≠g→w3.heap[j]?=w2.heap[j]?:=fun j hj hne=>hg.block j hj (fun e0=>hne (Option.some.inj e0))
 refine ⟨(k _ h1.box.lt (by omega)).trans h1.box,(k _ h1.res.lt (by omega)).trans h1.res,hn,fun h0=>?_,off4_M hof h.off (h.res.kept hb1).lt (h.box.kept hb1).lt,ho,?_,h.lo⟩
 ·exact mast_off (hm h0) (hof.1 _ hp hP.1) (hof.2.1 _ hp hP.2.1) (hof.2.2.1 _ hp hP.2.2.1) (hof.2.2.2 _ hp hP.2.2.2) (fun b hb hlt=>k b hlt hb)
 ·exact h1.bel.grown hg h1.bel.size (fun j hj=>by cases hj;have:=h.bel.size;omega)
theorem NextAt.stored {w0 w3 w4:World} {gr gm gn:Nat} {c f e l c' f' e' l':Value} {M M':Mast} {N:Int} (h:NextAt w0 w3 gr gm gn c f e l c' f' e' l' M M' N) (h0:N=0) (hb:BoxM w4 gm 37 c' f' e' l' M') (hg:w3.grownBy w4 (some gm)):DocAt w0 w4 gr gm c' f' e' l' M':=by
 have k:∀ j,j < w3.heap.size→j≠gm→w4.heap[j]?=w3.heap[j]?:=fun j hj hne=>hg.block j hj (fun e0=>hne (Option.some.inj e0))
 refine ⟨hb,(k _ h.res.lt h.lo.2.2).trans h.res,?_,h.off,?_,h.lo⟩
 ·exact mast_off (h.mast h0) h.off.1 h.off.2.1 h.off.2.2.1 h.off.2.2.2 (fun b hb hlt=>k b hlt hb.1)
 ·exact h.bel.grown hg h.bel.size (fun j hj=>by cases hj;exact h.lo.2.1)
theorem DocAt.result {w0 w3 w4:World} {gr gm:Nat} {c f e l:Value} {M:Mast} (h:DocAt w0 w3 gr gm c f e l M) (hg:w3.grownBy w4 (some gr)):MastIn w4 c f e l M∧Below w0.heap.size w0 w4:=by
 have k:∀ j,j < w3.heap.size→j≠gr→w4.heap[j]?=w3.heap[j]?:=fun j hj hne=>hg.block j hj (fun e0=>hne (Option.some.inj e0))
 exact ⟨mast_off h.mast h.off.1 h.off.2.1 h.off.2.2.1 h.off.2.2.2 (fun b hb hlt=>k b hlt hb.2),h.bel.grown hg h.bel.size (fun j hj=>by cases hj;exact h.lo.1)⟩
set_option maxRecDepth 100000 in
set_option maxHeartbeats 16000000 in
theorem rparseU_any (s:ByteArray) (w:World) (hs:s.size≤30000) :
 Calls Tryz.prog 28 #[.string s] w (MastTold w (parseM s).1 (parseM s).2):=by
 have hb0:=(Below.refl w.heap.size w).alloc (Nat.le_refl _) (.cells #[.slice none 0 0,.slice none 0 0,.slice none 0 0,.slice none 0 0,.string ⟨#[]⟩,.string ⟨#[]⟩,.string ⟨#[]⟩,.string ⟨#[]⟩,.string ⟨#[]⟩] 37)
 have hx0:BoxM (w.alloc (.cells #[.slice none 0 0,.slice none 0 0,.slice none 0 0,.slice none 0 0,.string ⟨#[]⟩,.string ⟨#[]⟩,.string ⟨#[]⟩,.string ⟨#[]⟩,.string ⟨#[]⟩] 37)) w.heap.size 37 nil4 nil4 nil4 nil4 zeroM:=heap_alloc_new w _
 obtain ⟨W0,hW0⟩:∃ W0,w.alloc (.cells #[.slice none 0 0,.slice none 0 0,.slice none 0 0,.slice none 0 0,.string ⟨#[]⟩,.string ⟨#[]⟩,.string ⟨#[]⟩,.string ⟨#[]⟩,.string ⟨#[]⟩] 37)=W0:=⟨_,rfl⟩
 rw [hW0] at hb0 hx0
 have HB0:=Lib.hid hb0
 have HX0:=Lib.hid hx0
 have HLN:=Lib.hid (fun W=>rlines_had s W hs)
 have HWP:=Lib.hid (words_pos s)
 have hpm:parseM s=if linE s.data.toList=0 then linesM (wordsT s) else (zeroM,linE s.data.toList):=rfl
 have hinv:∀ M,runM zeroM (wordsT s)=(M,0)→allD M=allE M:=fun M h=>allD_eq (run_zero_of h)
 obtain ⟨L,hL⟩:∃ L,asB (linV s.data.toList)=L:=⟨_,rfl⟩
 have hWT:wordsT s=L.map (·.2):=by unfold wordsT;rw [hL]
 rw [hWT] at hpm HWP hinv
 have HINV:=Lib.hid hinv
 have hLL:L.length≤30001:=by
  rw [←hL,asB_length]
  unfold linV
  split
  ·simp
  ·split
   ·unfold linesL
    have h1:=numP_length (enumL 1 (linesGo [] s.data.toList))
    rw [enumL_length] at h1
    have h2:=linesGo_length [] s.data.toList
    rw [size_list] at h2
    omega
   ·simp
 obtain ⟨e0,he0⟩:∃ e0,linE s.data.toList=e0:=⟨_,rfl⟩
 rw [he0] at hpm HLN
 rw [hL] at HLN
 obtain ⟨PM,hPM⟩:∃ PM,(parseM s).1=PM:=⟨_,rfl⟩
 obtain ⟨PE,hPE⟩:∃ PE,(parseM s).2=PE:=⟨_,rfl⟩
 rw [hPM,hPE]
 have HPR:Hid ((PM,PE)=if e0=0 then linesM (L.map (·.2)) else (zeroM,e0)):=Lib.hid (by rw [←hpm,←hPM,←hPE])
 clear hpm hL hWT he0 hPM hPE hb0 hx0 hinv hs
 go_enter Tryz.func28,Tryz.ntmps28
 go_wp2_with fail
 refine (HLN.out _).mono ?_
 intro en w2 hlh
 obtain ⟨v2,rfl,hh2,hb2⟩:=had_of hlh
 have HX2:=Lib.hid (HX0.out.kept hb2)
 have HB2:=Lib.hid (HB0.out.trans (hb2.mono HB0.out.size))
 obtain ⟨p,cp,e2,hm2,hc2⟩:=hh2.lines
 subst e2
 have HC:=Lib.hid hc2
 obtain ⟨n,hn⟩:∃ n,L.length=n:=⟨_,rfl⟩
 rw [hn] at hLL hm2 ⊢
 have HN:=Lib.hid hn
 clear hlh hh2 hb2 hc2 hn hW0 HLN
 by_cases h0:e0=0
 ·subst h0
  have HPR2:Hid ((PM,PE)=linesM (L.map (·.2))):=Lib.hid (by rw [HPR.out,if_pos rfl])
  clear HPR
  have hb3:=(Below.refl w2.heap.size w2).alloc (Nat.le_refl _) (.cells #[.slice none 0 0,.slice none 0 0,.slice none 0 0,.slice none 0 0,.string ⟨#[]⟩,.string ⟨#[]⟩,.string ⟨#[]⟩,.string ⟨#[]⟩,.string ⟨#[]⟩] 37)
  have hx3:BoxM (w2.alloc (.cells #[.slice none 0 0,.slice none 0 0,.slice none 0 0,.slice none 0 0,.string ⟨#[]⟩,.string ⟨#[]⟩,.string ⟨#[]⟩,.string ⟨#[]⟩,.string ⟨#[]⟩] 37)) w2.heap.size 37 nil4 nil4 nil4 nil4 zeroM:=heap_alloc_new w2 _
  have hoff:OffV (fun b=>b≠w2.heap.size∧b≠w.heap.size) nil4:=fun _ _ _ e=>by cases e
  have HST:Hid (∃ c f e k M,DocAt w (w2.alloc (.cells #[.slice none 0 0,.slice none 0 0,.slice none 0 0,.slice none 0 0,.string ⟨#[]⟩,.string ⟨#[]⟩,.string ⟨#[]⟩,.string ⟨#[]⟩,.string ⟨#[]⟩] 37)) w.heap.size w2.heap.size c f e k M∧Sane M∧runM zeroM (L.map (·.2))=runM M ((L.map (·.2)).drop 0)) :=
   Lib.hid ⟨nil4,nil4,nil4,nil4,zeroM,⟨hx3,HX2.out.kept hb3,MastIn.zero _,⟨hoff,hoff,hoff,hoff⟩,HB2.out.trans (hb3.mono HB2.out.size),⟨Nat.le_refl _,HB2.out.size,by have:=HX2.out.lt;omega⟩⟩,Sane.zero,rfl⟩
  have HBL:Hid (Below w2.heap.size w2 (w2.alloc (.cells #[.slice none 0 0,.slice none 0 0,.slice none 0 0,.slice none 0 0,.string ⟨#[]⟩,.string ⟨#[]⟩,.string ⟨#[]⟩,.string ⟨#[]⟩,.string ⟨#[]⟩] 37))):=Lib.hid hb3
  clear hb3 hx3 hoff
  go_wp2
  go_loopw [7] (fun s7 wr=>∃ i:Nat,i≤n∧s7=.int .i64 (i:Int)∧Hid (∃ c f e k M,DocAt w wr w.heap.size w2.heap.size c f e k M∧Sane M∧runM zeroM (L.map (·.2))=runM M ((L.map (·.2)).drop i))∧Hid (Below w2.heap.size w2 wr)) (fun s7 _=>n - (intOf s7).toNat)
  case atStart=>exact ⟨0,Nat.zero_le _,rfl,HST,HBL⟩
  case round =>
   obtain ⟨i,hi,rfl,HPA,HBR⟩:=hrel
   obtain ⟨c,f,e,k,M,hd,hsn,hru⟩:=HPA.out
   have HD0:=Lib.hid hd
   have HSN:=Lib.hid hsn
   have HRU:=Lib.hid hru
   clear hd hsn hru HPA HST HBL
   by_cases hlt:i < n
   ·obtain ⟨⟨ln,ws⟩,hx⟩:∃ x,L[i]?=some x:=⟨_,List.getElem?_eq_getElem (by rw [HN.out];exact hlt)⟩
    obtain ⟨b,o,u,rfl,d0,d1,hu⟩:=HC.out i _ hx
    dsimp only at d0 d1 hu
    have hwx:(L.map (·.2))[i]?=some ws:=by rw [List.getElem?_map,hx];rfl
    have HWX:=Lib.hid hwx
    have HW0:=Lib.hid (HWP.out ws (List.mem_of_getElem? hwx))
    have HU:=Lib.hid (hu.keep HBR.out)
    obtain ⟨pu,cu,eu,_⟩:=hu
    subst eu
    have y1:=cell_later HBR.out d1
    obtain ⟨nw,hnw⟩:∃ nw,ws.length=nw:=⟨_,rfl⟩
    rw [hnw] at y1 HU
    obtain ⟨k0,k1,k2,k3,k4,k5,k6,k7,k8⟩:=HD0.out.box.nine
    have r0:=fun p:Past wr=>cell_past k0 p
    have r1:=fun p:Past wr=>cell_past k1 p
    have r2:=fun p:Past wr=>cell_past k2 p
    have r3:=fun p:Past wr=>cell_past k3 p
    have r4:=fun p:Past wr=>cell_past k4 p
    have r5:=fun p:Past wr=>cell_past k5 p
    have r6:=fun p:Past wr=>cell_past k6 p
    have r7:=fun p:Past wr=>cell_past k7 p
    have r8:=fun p:Past wr=>cell_past k8 p
    have r9:=fun p:Past wr=>cell_past y1 p
    have HRC:=Lib.hid (fun W (hW:Below wr.heap.size wr W)=>rone_any (.slice pu nw cu) c f e k ws M W (HD0.out.mast.keep hW) HSN.out (HU.out.keep hW) HW0.out)
    obtain ⟨N,hN⟩:∃ N,stepE M ws=N:=⟨_,rfl⟩
    unfold OneTold at HRC
    rw [hN] at HRC
    have HNE:=Lib.hid hN
    clear hx hwx d0 d1 hnw y1 k0 k1 k2 k3 k4 k5 k6 k7 k8 hN
    go_wp2_with fail
    refine wp_region_plan (.two [0,1,2,3,4,5] 6 (.one [7,8,9] 10 (.one [] 11 (.last [12]))) 10 (.one [] 6 (.one [7,8,9] 11 (.last [12])))) (by kernel_rfl) (by kernel_rfl) (fun d _ _ _ _ h=>by cases d <;> exact h) ?_
    obtain ⟨wq,hwq⟩:∃ wq,wr.drew=wq:=⟨_,rfl⟩
    rw [hwq]
    have HD:Hid (Below wr.heap.size wr wq):=Lib.hid (by rw [←hwq];exact ⟨rfl,rfl,rfl,Nat.le_refl _,fun _ _=>rfl⟩)
    clear hwq
    simp only [wpPlan,pick,nth]
    repeat (go_big_quiet_step (fail))
    refine wpQuiet_nil ?_
    clear r0 r1 r2 r3 r4 r5 r6 r7 r8 r9
    refine ⟨?_,?_⟩
    ·intro K hK
     refine alone_want (by kernel_rfl) ?_
     go_big_op
     refine (HRC.out wq HD.out).mono ?_
     rintro en w3 ⟨c',f',e',k',M',rfl,hz,ho,hof,hb3⟩
     have HP3:=Lib.hid (HD.out.trans (hb3.mono HD.out.size))
     have HZ:Hid (N=0→M'=stepV M ws):=Lib.hid (fun h0=>(hz h0).1)
     have HZM:Hid (N=0→MastIn w3 c' f' e' k' M'):=Lib.hid (fun h0=>(hz h0).2)
     have HO:=Lib.hid ho
     have HOF:=Lib.hid hof
     have HB3:=Lib.hid hb3
     clear hz ho hof hb3
     refine hK _ _ (past_in HP3.out) ?_
     clear hK K
     repeat (go_big_quiet_step (fail))
     refine wpQuiet_nil ?_
     intro K hK
     refine alone_want (by kernel_rfl) ?_
     go_big_op
     have HA4:=Lib.hid ((Below.refl w3.heap.size w3).alloc (Nat.le_refl _) (.cells #[.slice none 0 0,.slice none 0 0,.slice none 0 0,.slice none 0 0,.string ⟨#[]⟩,.string ⟨#[]⟩,.string ⟨#[]⟩,.string ⟨#[]⟩,.string ⟨#[]⟩] 37))
     have HP4:=Lib.hid (HP3.out.trans (HA4.out.mono HP3.out.size))
     have hx4:BoxM (w3.alloc (.cells #[.slice none 0 0,.slice none 0 0,.slice none 0 0,.slice none 0 0,.string ⟨#[]⟩,.string ⟨#[]⟩,.string ⟨#[]⟩,.string ⟨#[]⟩,.string ⟨#[]⟩] 37)) w3.heap.size 37 nil4 nil4 nil4 nil4 zeroM:=heap_alloc_new w3 _
     refine hK _ _ (past_in HP4.out) ?_
     clear hK K
     refine wpQuiet_nil ?_
     intro K hK
     refine alone_want (by kernel_rfl) ?_
     refine wp_store_mast 37 (.tmp 8) (.tmp 34) rfl w3.heap.size nil4 nil4 nil4 nil4 c' f' e' k' zeroM M' 37 rfl rfl hx4 HO.out (by kernel_rfl) ?_
     intro w5 hb5 hg5
     have HG5:=Lib.hid (HA4.out.grown hg5 HA4.out.size (fun j hj=>by cases hj;exact Nat.le_refl _))
     have HNX:=Lib.hid (HD0.out.call_box HD.out HZM.out HO.out HOF.out HB3.out hb5 HG5.out)
     have HP5:=Lib.hid (HP3.out.trans (HG5.out.mono HP3.out.size))
     have HBN:=Lib.hid (HBR.out.trans (HP5.out.mono HBR.out.size))
     clear hb5 hg5 hx4
     refine hK _ _ (past_in HP5.out) ?_
     clear hK K
     simp only [Act.put]
     repeat (go_big_quiet_step (fail))
     refine wpQuiet_nil ?_
     have HDR:Hid ((L.map (·.2)).drop i=ws::(L.map (·.2)).drop (i+1)):=Lib.hid (by
      have hlt':=(List.getElem?_eq_some_iff.1 HWX.out).1
      rw [List.drop_eq_getElem_cons hlt',(List.getElem?_eq_some_iff.1 HWX.out).2])
     by_cases hN0:N=0
     ·subst hN0
      obtain ⟨z0,z1,z2,z3,z4,z5,z6,z7,z8⟩:=HNX.out.new.nine
      go_wp2_with (refine wpList_store_mast rfl 37 (.tmp 6) (.tmp 40) rfl w2.heap.size c f e k c' f' e' k' M M' 37 rfl rfl HNX.out.box HNX.out.ones (by kernel_rfl) ?_;intro w6 hb6 hg6;have HDN:=Lib.hid (HNX.out.stored rfl hb6 hg6);have HBW:=Lib.hid (HBN.out.grown hg6 HBN.out.size (fun j hj=>by cases hj;exact Nat.le_refl _));clear hb6 hg6 z0 z1 z2 z3 z4 z5 z6 z7 z8)
      have HNN:Hid (∃ c f e k M,DocAt w w6 w.heap.size w2.heap.size c f e k M∧Sane M∧runM zeroM (L.map (·.2))=runM M ((L.map (·.2)).drop (i+1))):=Lib.hid (by
       have hst:M'=stepV M ws:=HZ.out rfl
       refine ⟨_,_,_,_,_,HDN.out,?_,?_⟩
       ·rw [hst];exact HSN.out.step HNE.out
       ·rw [HRU.out,HDR.out,runM_cons _ _ _ HNE.out,hst])
      go_roundw
      case rel=>exact ⟨i+1,by omega,by go_num,HNN,HBW⟩
      case measure=>simp [intOf];omega
     ·have HPF:Hid (PM=zeroM∧PE=N):=Lib.hid (by
       have h1:=HPR2.out
       unfold linesM at h1
       rw [HRU.out,HDR.out,runM_stop _ _ _ (by rw [HNE.out];exact hN0),endM_stop _ (by rw [HNE.out];exact hN0),HNE.out] at h1
       exact Prod.mk.inj h1)
      have hNz:(N != 0)=true:=by simp [hN0]
      go_wp2_with (refine wpList_store_mast rfl 37 (.tmp 2) (.tmp 38) rfl w.heap.size nil4 nil4 nil4 nil4 nil4 nil4 nil4 nil4 zeroM zeroM 37 rfl rfl HNX.out.res ones_nil (by kernel_rfl) ?_;intro w6 hb6 hg6)
      have HBG:=Lib.hid (HNX.out.bel.grown hg6 HNX.out.bel.size (fun j hj=>by cases hj;exact Nat.le_refl _))
      obtain ⟨c0,c1,c2,c3,c4,c5,c6,c7,c8⟩:=hb6.nine
      have HZZ:=Lib.hid (MastIn.zero w6)
      clear hb6 hg6
      refine bodyPost_ret (v:=.tuple #[aggM nil4 nil4 nil4 nil4 zeroM,.int .i64 N]) (by simp [results,Tryz.results28,go_sem,c0,c1,c2,c3,c4,c5,c6,c7,c8]) rfl ⟨_,by rw [HPF.out.2],?_,HBG.out⟩
      rw [HPF.out.1]
      exact ⟨_,_,_,_,rfl,HZZ.out⟩
    ·intro K hK
     refine alone_want (by kernel_rfl) ?_
     go_big_op
     have HA2:=Lib.hid (HD.out.alloc HD.out.size (.cells #[.slice none 0 0,.slice none 0 0,.slice none 0 0,.slice none 0 0,.string ⟨#[]⟩,.string ⟨#[]⟩,.string ⟨#[]⟩,.string ⟨#[]⟩,.string ⟨#[]⟩] 37))
     have hx2:BoxM (wq.alloc (.cells #[.slice none 0 0,.slice none 0 0,.slice none 0 0,.slice none 0 0,.string ⟨#[]⟩,.string ⟨#[]⟩,.string ⟨#[]⟩,.string ⟨#[]⟩,.string ⟨#[]⟩] 37)) wq.heap.size 37 nil4 nil4 nil4 nil4 zeroM:=heap_alloc_new wq _
     have HX4:=Lib.hid hx2
     have HQ1:Hid (wr.heap.size≤wq.heap.size):=Lib.hid HD.out.size
     refine hK _ _ (past_in HA2.out) ?_
     clear hK K hx2
     refine wpQuiet_nil ?_
     intro K hK
     refine alone_want (by kernel_rfl) ?_
     go_big_op
     refine (HRC.out _ HA2.out).mono ?_
     rintro en w3 ⟨c',f',e',k',M',rfl,hz,ho,hof,hb3⟩
     have HP3:=Lib.hid (HA2.out.trans (hb3.mono HA2.out.size))
     have HZ:Hid (N=0→M'=stepV M ws):=Lib.hid (fun h0=>(hz h0).1)
     have HZM:Hid (N=0→MastIn w3 c' f' e' k' M'):=Lib.hid (fun h0=>(hz h0).2)
     have HO:=Lib.hid ho
     have HOF:=Lib.hid hof
     have HB3:=Lib.hid hb3
     have HX5:=Lib.hid (HX4.out.kept hb3)
     clear hz ho hof hb3
     refine hK _ _ (past_in HP3.out) ?_
     clear hK K
     repeat (go_big_quiet_step (fail))
     refine wpQuiet_nil ?_
     intro K hK
     refine alone_want (by kernel_rfl) ?_
     refine wp_store_mast 37 (.tmp 8) (.tmp 34) rfl wq.heap.size nil4 nil4 nil4 nil4 c' f' e' k' zeroM M' 37 rfl rfl HX5.out HO.out (by kernel_rfl) ?_
     intro w5 hb5 hg5
     have HNX:=Lib.hid (HD0.out.box_call HQ1.out HX4.out.lt HA2.out HZM.out HO.out HOF.out HB3.out hb5 hg5)
     have HP5:=Lib.hid (HP3.out.grown hg5 HP3.out.size (fun j hj=>by cases hj;exact HQ1.out))
     have HBN:=Lib.hid (HBR.out.trans (HP5.out.mono HBR.out.size))
     clear hb5 hg5
     refine hK _ _ (past_in HP5.out) ?_
     clear hK K
     simp only [Act.put]
     repeat (go_big_quiet_step (fail))
     refine wpQuiet_nil ?_
     have HDR:Hid ((L.map (·.2)).drop i=ws::(L.map (·.2)).drop (i+1)):=Lib.hid (by
      have hlt':=(List.getElem?_eq_some_iff.1 HWX.out).1
      rw [List.drop_eq_getElem_cons hlt',(List.getElem?_eq_some_iff.1 HWX.out).2])
     by_cases hN0:N=0
     ·subst hN0
      obtain ⟨z0,z1,z2,z3,z4,z5,z6,z7,z8⟩:=HNX.out.new.nine
      go_wp2_with (refine wpList_store_mast rfl 37 (.tmp 6) (.tmp 40) rfl w2.heap.size c f e k c' f' e' k' M M' 37 rfl rfl HNX.out.box HNX.out.ones (by kernel_rfl) ?_;intro w6 hb6 hg6;have HDN:=Lib.hid (HNX.out.stored rfl hb6 hg6);have HBW:=Lib.hid (HBN.out.grown hg6 HBN.out.size (fun j hj=>by cases hj;exact Nat.le_refl _));clear hb6 hg6 z0 z1 z2 z3 z4 z5 z6 z7 z8)
      have HNN:Hid (∃ c f e k M,DocAt w w6 w.heap.size w2.heap.size c f e k M∧Sane M∧runM zeroM (L.map (·.2))=runM M ((L.map (·.2)).drop (i+1))):=Lib.hid (by
       have hst:M'=stepV M ws:=HZ.out rfl
       refine ⟨_,_,_,_,_,HDN.out,?_,?_⟩
       ·rw [hst];exact HSN.out.step HNE.out
       ·rw [HRU.out,HDR.out,runM_cons _ _ _ HNE.out,hst])
      go_roundw
      case rel=>exact ⟨i+1,by omega,by go_num,HNN,HBW⟩
      case measure=>simp [intOf];omega
     ·have HPF:Hid (PM=zeroM∧PE=N):=Lib.hid (by
       have h1:=HPR2.out
       unfold linesM at h1
       rw [HRU.out,HDR.out,runM_stop _ _ _ (by rw [HNE.out];exact hN0),endM_stop _ (by rw [HNE.out];exact hN0),HNE.out] at h1
       exact Prod.mk.inj h1)
      have hNz:(N != 0)=true:=by simp [hN0]
      go_wp2_with (refine wpList_store_mast rfl 37 (.tmp 2) (.tmp 38) rfl w.heap.size nil4 nil4 nil4 nil4 nil4 nil4 nil4 nil4 zeroM zeroM 37 rfl rfl HNX.out.res ones_nil (by kernel_rfl) ?_;intro w6 hb6 hg6)
      have HBG:=Lib.hid (HNX.out.bel.grown hg6 HNX.out.bel.size (fun j hj=>by cases hj;exact Nat.le_refl _))
      obtain ⟨c0,c1,c2,c3,c4,c5,c6,c7,c8⟩:=hb6.nine
      have HZZ:=Lib.hid (MastIn.zero w6)
      clear hb6 hg6
      refine bodyPost_ret (v:=.tuple #[aggM nil4 nil4 nil4 nil4 zeroM,.int .i64 N]) (by simp [results,Tryz.results28,go_sem,c0,c1,c2,c3,c4,c5,c6,c7,c8]) rfl ⟨_,by rw [HPF.out.2],?_,HBG.out⟩
      rw [HPF.out.1]
      exact ⟨_,_,_,_,rfl,HZZ.out⟩
   ·have HRN:Hid (runM zeroM (L.map (·.2))=(M,0)):=Lib.hid (by
     rw [HRU.out,List.drop_eq_nil_of_le (by rw [List.length_map,HN.out];omega)];rfl)
    have HPF:Hid ((PM,PE)=endM (M,0)):=Lib.hid (by rw [HPR2.out];unfold linesM;rw [HRN.out])
    have HCK:=Lib.hid (rall_any c f e k M wr HD0.out.mast (by have:=HSN.out.lf;omega))
    rw [HINV.out M HRN.out] at HCK
    obtain ⟨A,hA⟩:∃ A,allE M=A:=⟨_,rfl⟩
    rw [hA] at HCK
    have HA:=Lib.hid hA
    obtain ⟨c0,c1,c2,c3,c4,c5,c6,c7,c8⟩:=HD0.out.box.nine
    have HO:=Lib.hid (ones_of HD0.out.mast)
    clear hA
    go_wp2_with fail
    clear c0 c1 c2 c3 c4 c5 c6 c7 c8
    refine HCK.out.mono ?_
    rintro en w3 ⟨rfl,hb3⟩
    have HD3:=Lib.hid (HD0.out.below hb3)
    clear hb3
    by_cases hA0:A=0
    ·subst hA0
     have HPG:Hid (PM=M∧PE=0):=Lib.hid (by
      have h1:=HPF.out
      rw [endM_ok _ HA.out] at h1
      exact Prod.mk.inj h1)
     obtain ⟨c0,c1,c2,c3,c4,c5,c6,c7,c8⟩:=HD3.out.box.nine
     go_wp2_with (refine wpList_store_mast rfl 37 (.tmp 2) (.tmp 47) rfl w.heap.size nil4 nil4 nil4 nil4 c f e k zeroM M 37 rfl rfl HD3.out.res HO.out (by kernel_rfl) ?_;intro w4 hb4 hg4)
     clear c0 c1 c2 c3 c4 c5 c6 c7 c8
     have HRS:=Lib.hid (HD3.out.result hg4)
     obtain ⟨c0,c1,c2,c3,c4,c5,c6,c7,c8⟩:=hb4.nine
     clear hb4 hg4
     refine bodyPost_ret (v:=.tuple #[aggM c f e k M,.int .i64 0]) (by simp [results,Tryz.results28,go_sem,c0,c1,c2,c3,c4,c5,c6,c7,c8]) rfl ⟨_,by rw [HPG.out.2],?_,HRS.out.2⟩
     rw [HPG.out.1]
     exact ⟨_,_,_,_,rfl,HRS.out.1⟩
    ·have HPG:Hid (PM=zeroM∧PE=A):=Lib.hid (by
      have h1:=HPF.out
      rw [endM_no _ (by rw [HA.out];exact hA0),HA.out] at h1
      exact Prod.mk.inj h1)
     have hAz:(A != 0)=true:=by simp [hA0]
     go_wp2_with (refine wpList_store_mast rfl 37 (.tmp 2) (.tmp 45) rfl w.heap.size nil4 nil4 nil4 nil4 nil4 nil4 nil4 nil4 zeroM zeroM 37 rfl rfl HD3.out.res ones_nil (by kernel_rfl) ?_;intro w4 hb4 hg4)
     have HRS:=Lib.hid (HD3.out.result hg4)
     obtain ⟨c0,c1,c2,c3,c4,c5,c6,c7,c8⟩:=hb4.nine
     have HZ:=Lib.hid (MastIn.zero w4)
     clear hb4 hg4
     refine bodyPost_ret (v:=.tuple #[aggM nil4 nil4 nil4 nil4 zeroM,.int .i64 A]) (by simp [results,Tryz.results28,go_sem,c0,c1,c2,c3,c4,c5,c6,c7,c8]) rfl ⟨_,by rw [HPG.out.2],?_,HRS.out.2⟩
     rw [HPG.out.1]
     exact ⟨_,_,_,_,rfl,HZ.out⟩
 ·have HPF:Hid (PM=zeroM∧PE=e0):=Lib.hid (by
   have h1:=HPR.out
   rw [if_neg h0] at h1
   exact Prod.mk.inj h1)
  have h0z:(e0 != 0)=true:=by simp [h0]
  go_wp2_with (refine wpList_store_mast rfl 37 (.tmp 2) (.tmp 18) rfl w.heap.size nil4 nil4 nil4 nil4 nil4 nil4 nil4 nil4 zeroM zeroM 37 rfl rfl HX2.out ones_nil (by kernel_rfl) ?_;intro w4 hb4 hg4)
  have HBG:=Lib.hid (HB2.out.grown hg4 HB2.out.size (fun j hj=>by cases hj;exact Nat.le_refl _))
  obtain ⟨c0,c1,c2,c3,c4,c5,c6,c7,c8⟩:=hb4.nine
  have HZ:=Lib.hid (MastIn.zero w4)
  clear hb4 hg4
  refine bodyPost_ret (v:=.tuple #[aggM nil4 nil4 nil4 nil4 zeroM,.int .i64 e0]) (by simp [results,Tryz.results28,go_sem,c0,c1,c2,c3,c4,c5,c6,c7,c8]) rfl ⟨_,by rw [HPF.out.2],?_,HBG.out⟩
  rw [HPF.out.1]
  exact ⟨_,_,_,_,rfl,HZ.out⟩
end Go.Proofs.YtfhhihamndbcnaaGreatDoor.Un
end
