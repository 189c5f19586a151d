/- UnitDocSmall -/
import Derived.Test.YtdhfpgjnjlcciaaGreatDoorQ15
import Derived.Test.YtdhfpgjnjlcciaaGreatDoorQ16
namespace Go.Proofs.YtdhfpgjnjlcciaaGreatDoor.Un
open Go.RowKit
def OffV (P:Nat→Prop) (v:Value):Prop:=∀ (ad:Addr) (n c:Nat),v=.slice (some ad) n c→0 < n→P ad.block
def Off1 (w:World) (v v':Value):Prop:=∀ P:Nat→Prop,(∀ b,w.heap.size≤b→P b)→OffV P v→OffV P v'
theorem Off1.refl (w:World) (v:Value):Off1 w v v:=fun _ _ h=>h
theorem Off1.mono {w0 w:World} {v v':Value} (h:Off1 w v v') (hs:w0.heap.size≤w.heap.size):Off1 w0 v v':=fun P hp hv=>h P (fun b hb=>hp b (Nat.le_trans hs hb)) hv
theorem Off1.own {w W:World} {B n s:Nat} {t:TypeId} {v v':Value} {xs:List Value} (h:W.ownsRow B t s v' n xs) (hB:w.heap.size≤B):Off1 w v v':=fun P hp _ ad m c e _=>by
 rcases h.2 with ⟨e1,_⟩ | ⟨g,cap,cur,e1,hb,_⟩
 ·rw [e1] at e;cases e
 ·rw [e1] at e;cases e;exact hp _ (Nat.le_trans hB hb)
theorem Off1.told {α:Type} {E:Enc α} {w w1 w3:World} {v v':Value} {L:List α} {n:Int} (h1:n≠0→v'=v) (h2:n=0→∃ t,w3.ownsRow w1.heap.size t E.k v' L.length (flat E L)) (hs:w.heap.size≤w1.heap.size):Off1 w v v':=by
 by_cases h:n=0
 ·obtain ⟨t,h3⟩:=h2 h
  exact Off1.own h3 hs
 ·rw [h1 h];exact Off1.refl _ _
def Off4 (w:World) (c f e l c' f' e' l':Value):Prop:=Off1 w c c'∧Off1 w f f'∧Off1 w e e'∧Off1 w l l'
theorem Off4.refl (w:World) (c f e l:Value):Off4 w c f e l c f e l:=⟨Off1.refl _ _,Off1.refl _ _,Off1.refl _ _,Off1.refl _ _⟩
theorem Zs {α:Type} {E:Enc α} {P:Nat→Prop} {w w':World} {v:Value} {L:List α} (h:ElsV E w v L) (ho:OffV P v) (hk:∀ b,P b→b < w.heap.size→w'.heap[b]?=w.heap[b]?):ElsV E w' v L:=by
 obtain ⟨p,c,e,h1,h2,h3,hc⟩:=h
 refine ⟨p,c,e,h1,h2,h3,fun i x hx=>?_⟩
 obtain ⟨b,o,e',hat⟩:=hc i x hx
 have hb:=ho ⟨b,o,none⟩ _ _ (by rw [e,e']) (by have:=(List.getElem?_eq_some_iff.1 hx).1;omega)
 exact ⟨b,o,e',fun j u hj=>(World.cell?_of_block (hk b hb hat.lt)).trans (hat j u hj)⟩
theorem Zf {α:Type} {E:Enc α} {P:Nat→Prop} {w:World} {v:Value} {L:List α} (h:ElsV E w v L) (hp:∀ b,b < w.heap.size→P b):OffV P v:=fun ad n c e hn=>by
 obtain ⟨p,c',e',_,_,_,hc⟩:=h
 rw [e'] at e
 cases e
 obtain ⟨x,hx⟩:∃ x,L[0]?=some x:=⟨_,List.getElem?_eq_getElem hn⟩
 obtain ⟨b,o,e1,hat⟩:=hc 0 x hx
 cases e1
 exact hp b hat.lt
theorem KO {P:Nat→Prop} {w:World} {c f e l:Value} {M:Mast} (h:MastIn w c f e l M) (hp:∀ b,b < w.heap.size→P b):OffV P c∧OffV P f∧OffV P e∧OffV P l :=
 ⟨Zf (jR.1 h.chart) hp,Zf h.flows hp,Zf h.ents hp,Zf h.lines hp⟩
theorem xm {P:Nat→Prop} {w w':World} {c f e l:Value} {M:Mast} (h:MastIn w c f e l M) (h0:OffV P c) (h1:OffV P f) (h2:OffV P e) (h3:OffV P l) (hk:∀ b,P b→b < w.heap.size→w'.heap[b]?=w.heap[b]?):MastIn w' c f e l M :=
 ⟨jR.2 (Zs (jR.1 h.chart) h0 hk),Zs h.flows h1 hk,Zs h.ents h2 hk,Zs h.lines h3 hk⟩
def qg (w:World) (c0 f0 e0 l0:Value) (M:Mast) (ws:List ByteArray) (en:Ending) (w':World):Prop :=
 ∃ c f e l M',en=.returned (.tuple #[aggM c f e l M',.int .i64 (stepE M ws)])∧(stepE M ws=0→M'=stepV M ws∧MastIn w' c f e l M')∧Ones c f e l∧Off4 w c0 f0 e0 l0 c f e l∧Below w.heap.size w w'
structure TwoAt (w W:World) (c f e l:Value) (M:Mast):Prop where
 box:BoxM W w.heap.size 39 c f e l M
 res:BoxM W (w.heap.size+1) 39 nil4 nil4 nil4 nil4 zeroM
 bel:Below w.heap.size w W
 mast:MastIn W c f e l M
abbrev two0 (w:World) (c f e l:Value) (M:Mast):World:=(w.alloc (.cells (cellsM c f e l M) 39)).alloc (.cells #[.slice none 0 0,.slice none 0 0,.slice none 0 0,.slice none 0 0,.string ⟨#[]⟩,.string ⟨#[]⟩,.string ⟨#[]⟩,.string ⟨#[]⟩,.string ⟨#[]⟩] 39)
theorem ye (w:World) {c f e l:Value} {M:Mast} (h:MastIn w c f e l M):TwoAt w (two0 w c f e l M) c f e l M:=by
 have hb:=(Below.refl w.heap.size w).alloc (Nat.le_refl _) (.cells (cellsM c f e l M) 39)
 have hb2:=hb.alloc hb.size (.cells (cellsM nil4 nil4 nil4 nil4 zeroM) 39)
 refine ⟨(BoxM.new w c f e l M _).kept ((Below.refl _ _).alloc (Nat.le_refl _) _),?_,hb2,h.keep hb2⟩
 have:=BoxM.new (w.alloc (.cells (cellsM c f e l M) 39)) nil4 nil4 nil4 nil4 zeroM 39
 rwa [World.size_alloc] at this
theorem TwoAt.below {w W W':World} {c f e l:Value} {M:Mast} (h:TwoAt w W c f e l M) (hb:Below W.heap.size W W'):TwoAt w W' c f e l M :=
 ⟨h.box.kept hb,h.res.kept hb,h.bel.trans (hb.mono h.bel.size),h.mast.keep hb⟩
theorem vA {w:World} {b:Nat} {t:TypeId} {c f e l:Value} {M:Mast} (h:BoxM w b t c f e l M) (o:Nat):w.frozen? ⟨b,o,none⟩=false:=by
 unfold BoxM at h
 simp [World.frozen?,h]
theorem xq {w W:World} (hb:Below w.heap.size w W) (o:Nat) (u:Value):Below w.heap.size w (W.setCell ⟨w.heap.size,o,none⟩ u):=hb.setCell (p:=⟨w.heap.size,o,none⟩) (Nat.le_refl _) u
theorem vR {W:World} {g i:Nat} {t:TypeId} {c f e l c' f' e' l':Value} {M N:Mast} {u:Value} (h:BoxM W g t c f e l M) (hs:(cellsM c f e l M).setIfInBounds i u=cellsM c' f' e' l' N):BoxM (W.setCell ⟨g,i,none⟩ u) g t c' f' e' l' N:=by
 unfold BoxM at h ⊢
 rw [Joins.block_setCell h,hs]
theorem zaC {ws:List ByteArray} (h:zj ws=false) {M:Mast} (h1:wd ws 0≠zb) (h2:wd ws 0≠Fl.tFlow):stepE M ws=5:=by
 unfold stepE
 rw [if_neg h1,if_neg h2,if_pos h]
theorem ZV {α:Type} {E:Enc α} {w w':World} {p:Option Addr} {m c:Nat} {v':Value} {L:List α} {n:Int} (h1:n≠0→v'=.slice p m c) (h2:n=0→∃ t,w'.ownsRow w.heap.size t E.k v' L.length (flat E L)):∃ p' m' c',v'=.slice p' m' c':=by
 by_cases h:n=0
 ·obtain ⟨t,h3⟩:=h2 h
  rcases h3.2 with ⟨rfl,_⟩ | ⟨g,cap,cur,rfl,_⟩
  ·exact ⟨_,_,_,rfl⟩
  ·exact ⟨_,_,_,rfl⟩
 ·exact ⟨_,_,_,h1 h⟩
set_option maxRecDepth 100000 in
set_option maxHeartbeats 4000000 in
theorem zg4 (v c f e l:Value) (ws:List ByteArray) (M:Mast) (w:World) (hm:MastIn w c f e l M) (hv:StrsV w v ws) (hn:namesW ws=false) (hE:stepE M ws=5) :
 Calls Tryz.prog 100 #[aggM c f e l M,v] w (qg w c f e l M ws):=by
 have HS:=Lib.hid (ye w hm)
 have HNA:=Lib.hid (vX v ws (two0 w c f e l M) (hv.keep HS.out.bel))
 rw [hn] at HNA
 have HO:=Lib.hid (jJ hm)
 have HE:=Lib.hid hE
 obtain ⟨p,cp,rfl,_⟩:=hv
 clear hm hn hE
 obtain ⟨k0,k1,k2,k3,k4,k5,k6,k7,k8⟩:=HS.out.box.nine
 go_enter Tryz.func100,Tryz.ntmps100
 go_wp2_with fail
 refine HNA.out.mono ?_
 rintro en w1 ⟨rfl,rfl⟩
 go_wp2_with (refine zi rfl 39 (.tmp 4) (.tmp 10) rfl (w.heap.size+1) nil4 nil4 nil4 nil4 c f e l zeroM M 39 rfl rfl HS.out.res HO.out (by kernel_rfl) ?_;intro w4 hb4 hg4)
 clear k0 k1 k2 k3 k4 k5 k6 k7 k8
 have HBG:=Lib.hid (HS.out.bel.grown hg4 HS.out.bel.size (fun j hj=>by cases hj;exact Nat.le_succ _))
 obtain ⟨c0,c1,c2,c3,c4,c5,c6,c7,c8⟩:=hb4.nine
 clear hb4 hg4
 exact bodyPost_ret (v:=.tuple #[aggM c f e l M,.int .i64 5]) (by simp [results,Tryz.results100,go_sem,c0,c1,c2,c3,c4,c5,c6,c7,c8]) rfl ⟨c,f,e,l,M,by rw [HE.out],(fun h=>by rw [HE.out] at h;cases h),HO.out,Off4.refl _ _ _ _ _,HBG.out⟩
set_option maxRecDepth 100000 in
set_option maxHeartbeats 64000000 in
theorem zcB (v c f e l:Value) (ws:List ByteArray) (M:Mast) (w:World) (hm:MastIn w c f e l M) (hv:StrsV w v ws) (hn:namesW ws=true) (hE:stepE M ws=5) (x0:ByteArray) (hx:ws[0]?=some x0) (l3:x0=zm→ws.length≠3) (l4:x0=tMap→ws.length≠4) (l2:x0=tGroup∨x0=zI∨x0=zD∨x0=tMinor∨x0=tStake→ws.length≠2) :
 Calls Tryz.prog 100 #[aggM c f e l M,v] w (qg w c f e l M ws):=by
 obtain ⟨k,b0,b1,b2,b3,b4,b5,b6,hkl,hb,g0,g1,g2,g3,g4,g5,g6⟩:∃ (k:Int) (b0 b1 b2 b3 b4 b5 b6:Bool),(((ws.length:Nat):Int)==k)=false∧(k=3∧b0=true∧b1=false∧b2=false∧b3=false∧b4=false∧b5=false∧b6=false∨k=4∧b0=false∧b1=true∧b2=false∧b3=false∧b4=false∧b5=false∧b6=false∨k=2∧b0=false∧b1=false∧b2=true∧b3=false∧b4=false∧b5=false∧b6=false∨k=2∧b0=false∧b1=false∧b2=false∧b3=true∧b4=false∧b5=false∧b6=false∨k=2∧b0=false∧b1=false∧b2=false∧b3=false∧b4=true∧b5=false∧b6=false∨k=2∧b0=false∧b1=false∧b2=false∧b3=false∧b4=false∧b5=true∧b6=false∨k=2∧b0=false∧b1=false∧b2=false∧b3=false∧b4=false∧b5=false∧b6=true∨k=0∧b0=false∧b1=false∧b2=false∧b3=false∧b4=false∧b5=false∧b6=false)∧(x0.toList==[101,110,116,105,116,121])=b0∧(x0.toList==[109,97,112])=b1∧(x0.toList==[103,114,111,117,112])=b2∧(x0.toList==[114,101,115,101,114,118,101])=b3∧(x0.toList==[100,105,102,102,101,114])=b4∧(x0.toList==[109,105,110,111,114])=b5∧(x0.toList==[115,116,97,107,101])=b6:=by
  have h1:0 < ws.length:=(List.getElem?_eq_some_iff.1 hx).1
  rw [qo,qMap,qGroup,yB,ku,qMinor,qStake]
  by_cases h10:x0=zm
  ·have:=l3 h10
   subst h10
   exact ⟨3,_,_,_,_,_,_,_,by simp only [beq_eq_false_iff_ne,ne_eq];omega,by decide,rfl,rfl,rfl,rfl,rfl,rfl,rfl⟩
  by_cases h11:x0=tMap
  ·have:=l4 h11
   subst h11
   exact ⟨4,_,_,_,_,_,_,_,by simp only [beq_eq_false_iff_ne,ne_eq];omega,by decide,rfl,rfl,rfl,rfl,rfl,rfl,rfl⟩
  by_cases h12:x0=tGroup
  ·have:=l2 (by simp [h12])
   subst h12
   exact ⟨2,_,_,_,_,_,_,_,by simp only [beq_eq_false_iff_ne,ne_eq];omega,by decide,rfl,rfl,rfl,rfl,rfl,rfl,rfl⟩
  by_cases h13:x0=zI
  ·have:=l2 (by simp [h13])
   subst h13
   exact ⟨2,_,_,_,_,_,_,_,by simp only [beq_eq_false_iff_ne,ne_eq];omega,by decide,rfl,rfl,rfl,rfl,rfl,rfl,rfl⟩
  by_cases h14:x0=zD
  ·have:=l2 (by simp [h14])
   subst h14
   exact ⟨2,_,_,_,_,_,_,_,by simp only [beq_eq_false_iff_ne,ne_eq];omega,by decide,rfl,rfl,rfl,rfl,rfl,rfl,rfl⟩
  by_cases h15:x0=tMinor
  ·have:=l2 (by simp [h15])
   subst h15
   exact ⟨2,_,_,_,_,_,_,_,by simp only [beq_eq_false_iff_ne,ne_eq];omega,by decide,rfl,rfl,rfl,rfl,rfl,rfl,rfl⟩
  by_cases h16:x0=tStake
  ·have:=l2 (by simp [h16])
   subst h16
   exact ⟨2,_,_,_,_,_,_,_,by simp only [beq_eq_false_iff_ne,ne_eq];omega,by decide,rfl,rfl,rfl,rfl,rfl,rfl,rfl⟩
  exact ⟨0,_,_,_,_,_,_,_,by simp only [beq_eq_false_iff_ne,ne_eq];omega,by decide,decide_eq_false h10,decide_eq_false h11,decide_eq_false h12,decide_eq_false h13,decide_eq_false h14,decide_eq_false h15,decide_eq_false h16⟩
 have HS:=Lib.hid (ye w hm)
 have HV:=Lib.hid (hv.keep HS.out.bel)
 have HNA:=Lib.hid (vX v ws (two0 w c f e l M) HV.out)
 rw [hn] at HNA
 have HO:=Lib.hid (jJ hm)
 have HE:=Lib.hid hE
 obtain ⟨p,cp,rfl,hcap,hml,hc⟩:=HV.out
 obtain ⟨g,o,rfl,y0⟩:=hc 0 x0 hx
 rw [Nat.add_zero] at y0
 obtain ⟨n,hnn⟩:∃ n,ws.length=n:=⟨_,rfl⟩
 have hn0:0 < n:=by rw [←hnn];exact (List.getElem?_eq_some_iff.1 hx).1
 rw [hnn] at HNA HV hcap hkl ⊢
 clear hm hn hE hv HV hc hx hnn l2 l3 l4
 rcases hb with ⟨rfl,rfl,rfl,rfl,rfl,rfl,rfl,rfl⟩ | ⟨rfl,rfl,rfl,rfl,rfl,rfl,rfl,rfl⟩ | ⟨rfl,rfl,rfl,rfl,rfl,rfl,rfl,rfl⟩ | ⟨rfl,rfl,rfl,rfl,rfl,rfl,rfl,rfl⟩ | ⟨rfl,rfl,rfl,rfl,rfl,rfl,rfl,rfl⟩ | ⟨rfl,rfl,rfl,rfl,rfl,rfl,rfl,rfl⟩ | ⟨rfl,rfl,rfl,rfl,rfl,rfl,rfl,rfl⟩ | ⟨rfl,rfl,rfl,rfl,rfl,rfl,rfl,rfl⟩
 all_goals
  obtain ⟨k0,k1,k2,k3,k4,k5,k6,k7,k8⟩:=HS.out.box.nine
  go_enter Tryz.func100,Tryz.ntmps100
  go_wp2_with fail
  refine HNA.out.mono ?_
  rintro en w1 ⟨rfl,rfl⟩
  go_wp2_with (refine zi rfl 39 (.tmp 4) (.tmp 162) rfl (w.heap.size+1) nil4 nil4 nil4 nil4 c f e l zeroM M 39 rfl rfl HS.out.res HO.out (by kernel_rfl) ?_;intro w4 hb4 hg4)
  clear k0 k1 k2 k3 k4 k5 k6 k7 k8
  have HBG:=Lib.hid (HS.out.bel.grown hg4 HS.out.bel.size (fun j hj=>by cases hj;exact Nat.le_succ _))
  obtain ⟨c0,c1,c2,c3,c4,c5,c6,c7,c8⟩:=hb4.nine
  clear hb4 hg4
  exact bodyPost_ret (v:=.tuple #[aggM c f e l M,.int .i64 5]) (by simp [results,Tryz.results100,go_sem,c0,c1,c2,c3,c4,c5,c6,c7,c8]) rfl ⟨c,f,e,l,M,by rw [HE.out],(fun h=>by rw [HE.out] at h;cases h),HO.out,Off4.refl _ _ _ _ _,HBG.out⟩
set_option maxRecDepth 100000 in
set_option maxHeartbeats 64000000 in
theorem xB (T z:ByteArray) (i:Nat) (N:ByteArray→Mast) (b2 b3 b4 b5 b6:Bool) (v c f e l:Value) (a:ByteArray) (M:Mast) (w:World) (hm:MastIn w c f e l M) (hv:StrsV w v [T,a]) (hn:namesW [T,a]=true)
 (hw:(i=4∧T=tGroup∧z=M.cur∧N=(fun X=>{ M with cur:=X })∧b2=true∧b3=false∧b4=false∧b5=false∧b6=false)∨(i=5∧T=zI∧z=M.res∧N=(fun X=>{ M with res:=X })∧b2=false∧b3=true∧b4=false∧b5=false∧b6=false)∨(i=6∧T=zD∧z=M.dif∧N=(fun X=>{ M with dif:=X })∧b2=false∧b3=false∧b4=true∧b5=false∧b6=false)∨(i=7∧T=tMinor∧z=M.min∧N=(fun X=>{ M with min:=X })∧b2=false∧b3=false∧b4=false∧b5=true∧b6=false)∨(i=8∧T=tStake∧z=M.stk∧N=(fun X=>{ M with stk:=X })∧b2=false∧b3=false∧b4=false∧b5=false∧b6=true)) :
 Calls Tryz.prog 100 #[aggM c f e l M,v] w fun en w'=>∃ M',en=.returned (.tuple #[aggM c f e l M',.int .i64 (oneE z)])∧(oneE z=0→M'=N a∧MastIn w' c f e l M')∧Ones c f e l∧Below w.heap.size w w':=by
 have HS:=Lib.hid (ye w hm)
 have HNA:=Lib.hid (vX v _ (two0 w c f e l M) (hv.keep HS.out.bel))
 rw [hn] at HNA
 have HM:=Lib.hid hm
 have HO:=Lib.hid (jJ hm)
 obtain ⟨p,cp,rfl,hcap,hml,hc⟩:=hv
 obtain ⟨g,o,rfl,x0⟩:=hc 0 T rfl
 obtain ⟨g',o',e1,x1⟩:=hc 1 a rfl
 cases e1
 rw [show ([T,a]:List ByteArray).length=2 from rfl] at HNA hcap hml ⊢
 rw [Nat.add_zero] at x0
 have hgw:g < w.heap.size:=World.block_lt_of_cell? w _ x0
 have y0:=cell_later HS.out.bel x0
 have y1:=cell_later HS.out.bel x1
 have HSI:=Lib.hid (zh9 z a)
 obtain ⟨X,hX⟩:∃ X,(if z=emp then a else z)=X:=⟨_,rfl⟩
 obtain ⟨n,hnn⟩:∃ n,oneE z=n:=⟨_,rfl⟩
 have HX:Hid (n=0→X=a):=Lib.hid (fun h0=>by
  rw [←hX,if_pos]
  rw [←hnn] at h0
  unfold oneE at h0
  split at h0
  ·assumption
  ·cases h0)
 simp only [hX,hnn] at HSI
 rw [hnn]
 obtain ⟨Y,hY⟩:∃ Y,N X=Y:=⟨_,rfl⟩
 have HY:Hid (n=0→Y=N a):=Lib.hid fun h0=>by rw [←hY,HX.out h0]
 obtain ⟨g0,g1,g2,g3,g4,g5,g6,hse,hla⟩:(T.toList==[101,110,116,105,116,121])=false∧(T.toList==[109,97,112])=false∧(T.toList==[103,114,111,117,112])=b2∧(T.toList==[114,101,115,101,114,118,101])=b3∧(T.toList==[100,105,102,102,101,114])=b4∧(T.toList==[109,105,110,111,114])=b5∧(T.toList==[115,116,97,107,101])=b6∧(cellsM c f e l M).setIfInBounds i (.string X)=cellsM c f e l Y∧Y.chart=M.chart∧Y.flows=M.flows∧Y.ents=M.ents∧Y.lines=M.lines:=by
  subst hY
  rw [qo,qMap,qGroup,yB,ku,qMinor,qStake]
  clear HSI HX HY hnn hX hn HNA x0
  rcases hw with ⟨rfl,rfl,rfl,rfl,rfl,rfl,rfl,rfl,rfl⟩ | ⟨rfl,rfl,rfl,rfl,rfl,rfl,rfl,rfl,rfl⟩ | ⟨rfl,rfl,rfl,rfl,rfl,rfl,rfl,rfl,rfl⟩ | ⟨rfl,rfl,rfl,rfl,rfl,rfl,rfl,rfl,rfl⟩ | ⟨rfl,rfl,rfl,rfl,rfl,rfl,rfl,rfl,rfl⟩
  all_goals exact ⟨by decide,by decide,by decide,by decide,by decide,by decide,by decide,rfl,rfl,rfl,rfl,rfl⟩
 have HST:Hid (∀ W:World,∃ W2,W.setCell ⟨w.heap.size,i,none⟩ (.string X)=W2):=Lib.hid fun W=>⟨_,rfl⟩
 have HFR:Hid (∀ W:World,BoxM W w.heap.size 39 c f e l M→W.frozen? ⟨w.heap.size,i,none⟩=false):=Lib.hid fun W h=>vA h i
 have HSE:=Lib.hid hse
 have HLA:=Lib.hid hla
 clear hm hn hc hX hnn hY hse hla
 rcases hw with ⟨rfl,-,rfl,-,rfl,rfl,rfl,rfl,rfl⟩ | ⟨rfl,-,rfl,-,rfl,rfl,rfl,rfl,rfl⟩ | ⟨rfl,-,rfl,-,rfl,rfl,rfl,rfl,rfl⟩ | ⟨rfl,-,rfl,-,rfl,rfl,rfl,rfl,rfl⟩ | ⟨rfl,-,rfl,-,rfl,rfl,rfl,rfl,rfl⟩
 all_goals
  go_enter Tryz.func100,Tryz.ntmps100
  go_wp2_with fail
  refine HNA.out.mono ?_
  rintro en w1 ⟨rfl,rfl⟩
  obtain ⟨W0,hW0⟩:∃ W0,two0 w c f e l M=W0:=⟨_,rfl⟩
  rw [hW0] at HS y0 y1 ⊢
  clear hW0 HNA
  have r0:=fun p:Since w.heap.size W0=>jI y0 hgw p
  have r1:=fun p:Since w.heap.size W0=>jI y1 hgw p
  have HD:Hid (Below W0.heap.size W0 W0.drew):=Lib.hid ⟨rfl,rfl,rfl,Nat.le_refl _,fun _ _=>rfl⟩
  obtain ⟨W1,hW1⟩:∃ W1,W0.drew=W1:=⟨_,rfl⟩
  rw [hW1] at HD
  have HS1:=Lib.hid (HS.out.below HD.out)
  have HD0:Hid (Below w.heap.size W0 W1):=Lib.hid (HD.out.mono HS.out.bel.size)
  obtain ⟨_,_,_,_,k4,k5,k6,k7,k8⟩:=HS1.out.box.nine
  have hf:=HFR.out _ HS1.out.box
  obtain ⟨W2,hW2⟩:=HST.out W1
  have HG2:Hid (W1.grownBy W2 (some w.heap.size)):=Lib.hid (by rw [←hW2];exact vG W1 w.heap.size _ (.string X))
  have HB2:Hid (BoxM W2 w.heap.size 39 c f e l Y):=Lib.hid (by rw [←hW2];exact vR HS1.out.box HSE.out)
  have HR2:Hid (BoxM W2 (w.heap.size+1) 39 nil4 nil4 nil4 nil4 zeroM):=Lib.hid ((HG2.out.block _ HS1.out.res.lt (by simp)).trans HS1.out.res)
  have HW2:Hid (Below w.heap.size w W2):=Lib.hid (by rw [←hW2];exact xq HS1.out.bel _ (.string X))
  have HD2:Hid (Below w.heap.size W0 W2):=Lib.hid (by rw [←hW2];exact HD0.out.setCell (p:=⟨w.heap.size,_,none⟩) (Nat.le_refl _) _)
  go_wp2_with fail
  refine JX w.heap.size (.one [0,2,3,4] 1 (.one [] 5 (.one [6,7,8,9] 10 (.last [11])))) (by kernel_rfl) (by kernel_rfl) (fun d _ _ _ _ h=>by cases d <;> exact h) ?_
  rw [hW1]
  clear hW1 y0 y1 x0 x1
  simp only [wpPlan,pick,nth]
  repeat (go_big_quiet_step (fail))
  refine wpQuiet_nil ?_
  intro K hK
  refine ze (by kernel_rfl) ?_
  go_big_op
  refine hK _ _ (jA HD0.out) ?_
  clear hK K
  refine wpQuiet_nil ?_
  intro K hK
  refine ze (by kernel_rfl) ?_
  go_big_op
  refine (HSI.out _).mono ?_
  rintro en w3 ⟨rfl,rfl⟩
  refine hK _ _ (jA HD0.out) ?_
  clear hK K
  repeat (go_big_quiet_step (fail))
  refine wpQuiet_nil ?_
  intro K hK
  refine ze (by kernel_rfl) ?_
  go_big_op
  refine hK _ _ (jA HD2.out) ?_
  clear hK K r0 r1 k4 k5 k6 k7 k8 hf hW2
  repeat (go_big_quiet_step (fail))
  refine wpQuiet_nil ?_
  obtain ⟨k0,k1,k2,k3,k4,k5,k6,k7,k8⟩:=HB2.out.nine
  go_wp2_with (refine zi rfl 39 (.tmp 4) (.tmp 162) rfl (w.heap.size+1) nil4 nil4 nil4 nil4 c f e l zeroM Y 39 rfl rfl HR2.out HO.out (by kernel_rfl) ?_;intro w4 hb4 hg4)
  clear k0 k1 k2 k3 k4 k5 k6 k7 k8
  have HBG:=Lib.hid (HW2.out.grown hg4 HW2.out.size (fun j hj=>by cases hj;exact Nat.le_succ _))
  obtain ⟨c0,c1,c2,c3,c4,c5,c6,c7,c8⟩:=hb4.nine
  clear hb4 hg4
  refine bodyPost_ret (v:=.tuple #[aggM c f e l Y,.int .i64 n]) (by simp [results,Tryz.results100,go_sem,c0,c1,c2,c3,c4,c5,c6,c7,c8]) rfl ⟨_,rfl,fun h0=>⟨HY.out h0,?_⟩,HO.out,HBG.out⟩
  have hk:=HM.out.keep HBG.out
  obtain ⟨q1,q2,q3,q4⟩:=HLA.out
  exact ⟨by rw [q1];exact hk.chart,by rw [q2];exact hk.flows,by rw [q3];exact hk.ents,by rw [q4];exact hk.lines⟩
set_option maxRecDepth 100000 in
set_option maxHeartbeats 16000000 in
theorem zcZ (v c f e l:Value) (a b:ByteArray) (M:Mast) (w:World) (hm:MastIn w c f e l M) (hs:Sane M) (hv:StrsV w v [zm,a,b]) (hn:namesW [zm,a,b]=true) :
 Calls Tryz.prog 100 #[aggM c f e l M,v] w fun en w'=>∃ v3 M',en=.returned (.tuple #[aggM c f v3 l M',.int .i64 (entE M.ents ⟨a,b⟩)])∧(entE M.ents ⟨a,b⟩=0→M'={ M with ents:=G.insR Ent.code M.ents ⟨a,b⟩ }∧MastIn w' c f v3 l M')∧Ones c f v3 l∧Off1 w e v3∧Below w.heap.size w w':=by
 obtain ⟨pe,ce,ee0,_⟩:=hm.ents
 subst ee0
 have hlen:M.ents.length≤1000:=by have:=hs.le;omega
 have HS:=Lib.hid (ye w hm)
 have HNA:=Lib.hid (vX v _ (two0 w c f (.slice pe M.ents.length ce) l M) (hv.keep HS.out.bel))
 rw [hn] at HNA
 have HM:=Lib.hid hm
 have HO:=Lib.hid (jJ hm)
 obtain ⟨p,cp,rfl,hcap,hml,hc⟩:=hv
 obtain ⟨g,o,rfl,x0⟩:=hc 0 zm rfl
 obtain ⟨g',o',e1,x1⟩:=hc 1 a rfl
 cases e1
 obtain ⟨g',o',e1,x2⟩:=hc 2 b rfl
 cases e1
 rw [show ([zm,a,b]:List ByteArray).length=3 from rfl] at HNA hcap hml ⊢
 rw [Nat.add_zero] at x0
 have hgw:g < w.heap.size:=World.block_lt_of_cell? w _ x0
 have y0:=cell_later HS.out.bel x0
 have y1:=cell_later HS.out.bel x1
 have y2:=cell_later HS.out.bel x2
 have gt:(zm.toList==[101,110,116,105,116,121])=true:=by rw [qo];decide
 obtain ⟨n,hnn⟩:∃ n,entE M.ents ⟨a,b⟩=n:=⟨_,rfl⟩
 obtain ⟨R,hR⟩:∃ R,G.insR Ent.code M.ents ⟨a,b⟩=R:=⟨_,rfl⟩
 rw [hnn,hR]
 clear hm hn hc
 go_enter Tryz.func100,Tryz.ntmps100
 go_wp2_with fail
 refine HNA.out.mono ?_
 rintro en w1 ⟨rfl,rfl⟩
 obtain ⟨W0,hW0⟩:∃ W0,two0 w c f (.slice pe M.ents.length ce) l M=W0:=⟨_,rfl⟩
 rw [hW0] at HS y0 y1 y2 ⊢
 clear hW0 HNA
 have r0:=fun p:Since w.heap.size W0=>jI y0 hgw p
 have r1:=fun p:Since w.heap.size W0=>jI y1 hgw p
 have r2:=fun p:Since w.heap.size W0=>jI y2 hgw p
 have HD:Hid (Below W0.heap.size W0 W0.drew):=Lib.hid ⟨rfl,rfl,rfl,Nat.le_refl _,fun _ _=>rfl⟩
 obtain ⟨W1,hW1⟩:∃ W1,W0.drew=W1:=⟨_,rfl⟩
 rw [hW1] at HD
 have HS1:=Lib.hid (HS.out.below HD.out)
 have HD0:Hid (Below w.heap.size W0 W1):=Lib.hid (HD.out.mono HS.out.bel.size)
 have HCA:=Lib.hid (zcA (.slice pe M.ents.length ce) M.ents ⟨a,b⟩ W1 HS1.out.mast.ents hlen)
 rw [hnn,hR] at HCA
 have hk:=HS1.out.box.nine.c2
 clear hnn hR hlen hs
 go_wp2_with fail
 refine JX w.heap.size (.one [0,2,3,4,5,6,7,8] 1 (.one [] 9 (.one [10,11,12,13] 14 (.last [15])))) (by kernel_rfl) (by kernel_rfl) (fun d _ _ _ _ h=>by cases d <;> exact h) ?_
 rw [hW1]
 clear hW1 y0 x0 y1 x1 y2 x2
 simp only [wpPlan,pick,nth]
 repeat (go_big_quiet_step (fail))
 refine wpQuiet_nil ?_
 intro K hK
 refine ze (by kernel_rfl) ?_
 go_big_op
 refine hK _ _ (jA HD0.out) ?_
 clear hK K
 refine wpQuiet_nil ?_
 intro K hK
 refine ze (by kernel_rfl) ?_
 go_big_op
 refine HCA.out.mono ?_
 rintro en w3 ⟨v3,rfl,ho3,hn3,hb3⟩
 obtain ⟨p3,m3,cp3,rfl⟩:=ZV ho3 hn3
 have HO3:=Lib.hid ho3
 have HN3:=Lib.hid hn3
 have HS3:=Lib.hid (HS1.out.below hb3)
 have HD3:Hid (Below w.heap.size W0 w3):=Lib.hid (HD0.out.trans (hb3.mono HS1.out.bel.size))
 have hB1:=HS1.out.bel.size
 have hk3:=HS3.out.box.nine.c2
 have hf3:=vA HS3.out.box 2
 obtain ⟨W2,hW2⟩:∃ W2,w3.setCell ⟨w.heap.size,2,none⟩ (.slice p3 m3 cp3)=W2:=⟨_,rfl⟩
 have HG2:Hid (w3.grownBy W2 (some w.heap.size)):=Lib.hid (by rw [←hW2];exact vG w3 w.heap.size 2 (.slice p3 m3 cp3))
 have HW2:Hid (Below w.heap.size w W2):=Lib.hid (by rw [←hW2];exact xq HS3.out.bel 2 _)
 have HD2:Hid (Below w.heap.size W0 W2):=Lib.hid (by rw [←hW2];exact HD3.out.setCell (p:=⟨w.heap.size,2,none⟩) (Nat.le_refl _) _)
 obtain ⟨M2,hM2⟩:∃ M2:Mast,{ M with ents:=R }=M2:=⟨_,rfl⟩
 have HB2:Hid (BoxM W2 w.heap.size 39 c f (.slice p3 m3 cp3) l M2):=Lib.hid (by rw [←hW2,←hM2];exact vR HS3.out.box rfl)
 have HR2:Hid (BoxM W2 (w.heap.size+1) 39 nil4 nil4 nil4 nil4 zeroM):=Lib.hid ((HG2.out.block _ HS3.out.res.lt (by simp)).trans HS3.out.res)
 have HM2:Hid (M2.chart=M.chart∧M2.flows=M.flows∧M2.lines=M.lines):=Lib.hid (by rw [←hM2];exact ⟨rfl,rfl,rfl⟩)
 have HMM:=Lib.hid hM2
 have HO2:Hid (Ones c f (.slice p3 m3 cp3) l):=Lib.hid ⟨HO.out.c,HO.out.f,rfl,HO.out.l⟩
 clear ho3 hn3 hb3 hM2
 refine hK _ _ (jA HD3.out) ?_
 clear hK K hk
 repeat (go_big_quiet_step (fail))
 refine wpQuiet_nil ?_
 intro K hK
 refine ze (by kernel_rfl) ?_
 go_big_op
 refine hK _ _ (jA HD2.out) ?_
 clear hK K r0 r1 r2 hk3 hf3 hW2
 repeat (go_big_quiet_step (fail))
 refine wpQuiet_nil ?_
 obtain ⟨k0,k1,k2,k3,k4,k5,k6,k7,k8⟩:=HB2.out.nine
 go_wp2_with (refine zi rfl 39 (.tmp 4) (.tmp 162) rfl (w.heap.size+1) nil4 nil4 nil4 nil4 c f (.slice p3 m3 cp3) l zeroM M2 39 rfl rfl HR2.out HO2.out (by kernel_rfl) ?_;intro w4 hb4 hg4)
 clear k0 k1 k2 k3 k4 k5 k6 k7 k8
 have HBG:=Lib.hid (HW2.out.grown hg4 HW2.out.size (fun j hj=>by cases hj;exact Nat.le_succ _))
 have HX4:Hid (n=0→ElsV encE w4 (.slice p3 m3 cp3) M2.ents):=Lib.hid (fun h0=>by
  obtain ⟨t,hr⟩:=HN3.out h0
  have h2:=(hr.kept HG2.out (.inr (fun e0=>by
   rcases hr.2 with ⟨e,_⟩ | ⟨g',_,_,e,hge,_⟩
   ·cases e;simp [Value.ownBlock] at e0
   ·cases e
    have h3:g'=w.heap.size:=by simpa [Value.ownBlock] using e0
    have:=HS1.out.box.lt
    omega))).kept hg4 (.inr (fun e0=>by
   rcases hr.2 with ⟨e,_⟩ | ⟨g',_,_,e,hge,_⟩
   ·cases e;simp [Value.ownBlock] at e0
   ·cases e
    have h3:g'=w.heap.size+1:=by simpa [Value.ownBlock] using e0
    have:=HS1.out.res.lt
    omega))
  rw [←HMM.out]
  exact zq h2)
 obtain ⟨c0,c1,c2,c3,c4,c5,c6,c7,c8⟩:=hb4.nine
 clear hb4 hg4
 refine bodyPost_ret (v:=.tuple #[aggM c f (.slice p3 m3 cp3) l M2,.int .i64 n]) (by simp [results,Tryz.results100,go_sem,c0,c1,c2,c3,c4,c5,c6,c7,c8]) rfl ⟨_,_,rfl,fun h0=>⟨HMM.out.symm,?_⟩,HO2.out,Off1.told HO3.out HN3.out HS1.out.bel.size,HBG.out⟩
 have hk:=HM.out.keep HBG.out
 obtain ⟨m1,m2,m3⟩:=HM2.out
 exact ⟨by rw [m1];exact hk.chart,by rw [m2];exact hk.flows,HX4.out h0,by rw [m3];exact hk.lines⟩
set_option maxRecDepth 100000 in
set_option maxHeartbeats 16000000 in
theorem zef (v c f e l:Value) (a b d:ByteArray) (M:Mast) (w:World) (hm:MastIn w c f e l M) (hs:Sane M) (hv:StrsV w v [tMap,a,b,d]) (hn:namesW [tMap,a,b,d]=true) :
 Calls Tryz.prog 100 #[aggM c f e l M,v] w fun en w'=>∃ v3 M',en=.returned (.tuple #[aggM c f e v3 M',.int .i64 (linEr M.lines ⟨a,b,d⟩)])∧(linEr M.lines ⟨a,b,d⟩=0→M'={ M with lines:=G.insR Lin.key M.lines ⟨a,b,d⟩ }∧MastIn w' c f e v3 M')∧Ones c f e v3∧Off1 w l v3∧Below w.heap.size w w':=by
 obtain ⟨pl,cl,el0,_⟩:=hm.lines
 subst el0
 have hlen:M.lines.length≤1000:=by have:=hs.ll;omega
 have HS:=Lib.hid (ye w hm)
 have HNA:=Lib.hid (vX v _ (two0 w c f e (.slice pl M.lines.length cl) M) (hv.keep HS.out.bel))
 rw [hn] at HNA
 have HM:=Lib.hid hm
 have HO:=Lib.hid (jJ hm)
 obtain ⟨p,cp,rfl,hcap,hml,hc⟩:=hv
 obtain ⟨g,o,rfl,x0⟩:=hc 0 tMap rfl
 obtain ⟨g',o',e1,x1⟩:=hc 1 a rfl
 cases e1
 obtain ⟨g',o',e1,x2⟩:=hc 2 b rfl
 cases e1
 obtain ⟨g',o',e1,x3⟩:=hc 3 d rfl
 cases e1
 rw [show ([tMap,a,b,d]:List ByteArray).length=4 from rfl] at HNA hcap hml ⊢
 rw [Nat.add_zero] at x0
 have hgw:g < w.heap.size:=World.block_lt_of_cell? w _ x0
 have y0:=cell_later HS.out.bel x0
 have y1:=cell_later HS.out.bel x1
 have y2:=cell_later HS.out.bel x2
 have y3:=cell_later HS.out.bel x3
 have g0:(tMap.toList==[101,110,116,105,116,121])=false:=by rw [qo];decide
 have gt:(tMap.toList==[109,97,112])=true:=by rw [qMap];decide
 obtain ⟨n,hnn⟩:∃ n,linEr M.lines ⟨a,b,d⟩=n:=⟨_,rfl⟩
 obtain ⟨R,hR⟩:∃ R,G.insR Lin.key M.lines ⟨a,b,d⟩=R:=⟨_,rfl⟩
 rw [hnn,hR]
 clear hm hn hc
 go_enter Tryz.func100,Tryz.ntmps100
 go_wp2_with fail
 refine HNA.out.mono ?_
 rintro en w1 ⟨rfl,rfl⟩
 obtain ⟨W0,hW0⟩:∃ W0,two0 w c f e (.slice pl M.lines.length cl) M=W0:=⟨_,rfl⟩
 rw [hW0] at HS y0 y1 y2 y3 ⊢
 clear hW0 HNA
 have r0:=fun p:Since w.heap.size W0=>jI y0 hgw p
 have r1:=fun p:Since w.heap.size W0=>jI y1 hgw p
 have r2:=fun p:Since w.heap.size W0=>jI y2 hgw p
 have r3:=fun p:Since w.heap.size W0=>jI y3 hgw p
 have HD:Hid (Below W0.heap.size W0 W0.drew):=Lib.hid ⟨rfl,rfl,rfl,Nat.le_refl _,fun _ _=>rfl⟩
 obtain ⟨W1,hW1⟩:∃ W1,W0.drew=W1:=⟨_,rfl⟩
 rw [hW1] at HD
 have HS1:=Lib.hid (HS.out.below HD.out)
 have HD0:Hid (Below w.heap.size W0 W1):=Lib.hid (HD.out.mono HS.out.bel.size)
 have HCA:=Lib.hid (zfJ (.slice pl M.lines.length cl) M.lines ⟨a,b,d⟩ W1 HS1.out.mast.lines hlen)
 rw [hnn,hR] at HCA
 have hk:=HS1.out.box.nine.c3
 clear hnn hR hlen hs
 go_wp2_with fail
 refine JX w.heap.size (.one [0,2,3,4,5,6,7,8,9,10,11] 1 (.one [] 12 (.one [13,14,15,16] 17 (.last [18])))) (by kernel_rfl) (by kernel_rfl) (fun d _ _ _ _ h=>by cases d <;> exact h) ?_
 rw [hW1]
 clear hW1 y0 x0 y1 x1 y2 x2 y3 x3
 simp only [wpPlan,pick,nth]
 repeat (go_big_quiet_step (fail))
 refine wpQuiet_nil ?_
 intro K hK
 refine ze (by kernel_rfl) ?_
 go_big_op
 refine hK _ _ (jA HD0.out) ?_
 clear hK K
 refine wpQuiet_nil ?_
 intro K hK
 refine ze (by kernel_rfl) ?_
 go_big_op
 refine HCA.out.mono ?_
 rintro en w3 ⟨v3,rfl,ho3,hn3,hb3⟩
 obtain ⟨p3,m3,cp3,rfl⟩:=ZV ho3 hn3
 have HO3:=Lib.hid ho3
 have HN3:=Lib.hid hn3
 have HS3:=Lib.hid (HS1.out.below hb3)
 have HD3:Hid (Below w.heap.size W0 w3):=Lib.hid (HD0.out.trans (hb3.mono HS1.out.bel.size))
 have hB1:=HS1.out.bel.size
 have hk3:=HS3.out.box.nine.c3
 have hf3:=vA HS3.out.box 3
 obtain ⟨W2,hW2⟩:∃ W2,w3.setCell ⟨w.heap.size,3,none⟩ (.slice p3 m3 cp3)=W2:=⟨_,rfl⟩
 have HG2:Hid (w3.grownBy W2 (some w.heap.size)):=Lib.hid (by rw [←hW2];exact vG w3 w.heap.size 3 (.slice p3 m3 cp3))
 have HW2:Hid (Below w.heap.size w W2):=Lib.hid (by rw [←hW2];exact xq HS3.out.bel 3 _)
 have HD2:Hid (Below w.heap.size W0 W2):=Lib.hid (by rw [←hW2];exact HD3.out.setCell (p:=⟨w.heap.size,3,none⟩) (Nat.le_refl _) _)
 obtain ⟨M2,hM2⟩:∃ M2:Mast,{ M with lines:=R }=M2:=⟨_,rfl⟩
 have HB2:Hid (BoxM W2 w.heap.size 39 c f e (.slice p3 m3 cp3) M2):=Lib.hid (by rw [←hW2,←hM2];exact vR HS3.out.box rfl)
 have HR2:Hid (BoxM W2 (w.heap.size+1) 39 nil4 nil4 nil4 nil4 zeroM):=Lib.hid ((HG2.out.block _ HS3.out.res.lt (by simp)).trans HS3.out.res)
 have HM2:Hid (M2.chart=M.chart∧M2.flows=M.flows∧M2.ents=M.ents):=Lib.hid (by rw [←hM2];exact ⟨rfl,rfl,rfl⟩)
 have HMM:=Lib.hid hM2
 have HO2:Hid (Ones c f e (.slice p3 m3 cp3)):=Lib.hid ⟨HO.out.c,HO.out.f,HO.out.e,rfl⟩
 clear ho3 hn3 hb3 hM2
 refine hK _ _ (jA HD3.out) ?_
 clear hK K hk
 repeat (go_big_quiet_step (fail))
 refine wpQuiet_nil ?_
 intro K hK
 refine ze (by kernel_rfl) ?_
 go_big_op
 refine hK _ _ (jA HD2.out) ?_
 clear hK K r0 r1 r2 r3 hk3 hf3 hW2
 repeat (go_big_quiet_step (fail))
 refine wpQuiet_nil ?_
 obtain ⟨k0,k1,k2,k3,k4,k5,k6,k7,k8⟩:=HB2.out.nine
 go_wp2_with (refine zi rfl 39 (.tmp 4) (.tmp 162) rfl (w.heap.size+1) nil4 nil4 nil4 nil4 c f e (.slice p3 m3 cp3) zeroM M2 39 rfl rfl HR2.out HO2.out (by kernel_rfl) ?_;intro w4 hb4 hg4)
 clear k0 k1 k2 k3 k4 k5 k6 k7 k8
 have HBG:=Lib.hid (HW2.out.grown hg4 HW2.out.size (fun j hj=>by cases hj;exact Nat.le_succ _))
 have HX4:Hid (n=0→ElsV encL w4 (.slice p3 m3 cp3) M2.lines):=Lib.hid (fun h0=>by
  obtain ⟨t,hr⟩:=HN3.out h0
  have h2:=(hr.kept HG2.out (.inr (fun e0=>by
   rcases hr.2 with ⟨e,_⟩ | ⟨g',_,_,e,hge,_⟩
   ·cases e;simp [Value.ownBlock] at e0
   ·cases e
    have h3:g'=w.heap.size:=by simpa [Value.ownBlock] using e0
    have:=HS1.out.box.lt
    omega))).kept hg4 (.inr (fun e0=>by
   rcases hr.2 with ⟨e,_⟩ | ⟨g',_,_,e,hge,_⟩
   ·cases e;simp [Value.ownBlock] at e0
   ·cases e
    have h3:g'=w.heap.size+1:=by simpa [Value.ownBlock] using e0
    have:=HS1.out.res.lt
    omega))
  rw [←HMM.out]
  exact zq h2)
 obtain ⟨c0,c1,c2,c3,c4,c5,c6,c7,c8⟩:=hb4.nine
 clear hb4 hg4
 refine bodyPost_ret (v:=.tuple #[aggM c f e (.slice p3 m3 cp3) M2,.int .i64 n]) (by simp [results,Tryz.results100,go_sem,c0,c1,c2,c3,c4,c5,c6,c7,c8]) rfl ⟨_,_,rfl,fun h0=>⟨HMM.out.symm,?_⟩,HO2.out,Off1.told HO3.out HN3.out HS1.out.bel.size,HBG.out⟩
 have hk:=HM.out.keep HBG.out
 obtain ⟨m1,m2,m3⟩:=HM2.out
 exact ⟨by rw [m1];exact hk.chart,by rw [m2];exact hk.flows,by rw [m3];exact hk.ents,HX4.out h0⟩
theorem zg2 {ws:List ByteArray} (h:namesW ws=false):zj ws=false:=by unfold zj;rw [h];simp
theorem Qr {ws:List ByteArray} {k:Nat} (hl:lenW (wd ws 0)=(k:Int)) (h:zj ws=false) (hn:namesW ws=true) (h0:0 < ws.length):ws.length≠k:=fun e=>by
 unfold zj at h
 rw [hn,hl,e] at h
 have:0 < k:=by omega
 simp [this] at h
theorem zeh {M:Mast} {ws:List ByteArray} (hf:zj ws=true) (h0:wd ws 0=zm):stepE M ws=entE M.ents (entOf ws)∧stepV M ws={ M with ents:=G.insK Ent.code M.ents (entOf ws) }:=by
 refine ⟨?_,?_⟩
 ·unfold stepE;rw [if_neg (by rw [h0];decide),if_neg (by rw [h0];decide),if_neg (by rw [hf];simp),if_pos h0]
 ·unfold stepV;rw [if_neg (by rw [h0];decide),if_neg (by rw [h0];decide),if_pos h0]
theorem step_map {M:Mast} {ws:List ByteArray} (hf:zj ws=true) (h0:wd ws 0=tMap):stepE M ws=linEr M.lines (linOf ws)∧stepV M ws={ M with lines:=G.insK Lin.key M.lines (linOf ws) }:=by
 refine ⟨?_,?_⟩
 ·unfold stepE;rw [if_neg (by rw [h0];decide),if_neg (by rw [h0];decide),if_neg (by rw [hf];simp),if_neg (by rw [h0];decide),if_pos h0]
 ·unfold stepV;rw [if_neg (by rw [h0];decide),if_neg (by rw [h0];decide),if_neg (by rw [h0];decide),if_pos h0]
theorem zjd {M:Mast} {ws:List ByteArray} (hf:zj ws=true) (h0:wd ws 0=tGroup):stepE M ws=oneE M.cur∧stepV M ws={ M with cur:=wd ws 1 }:=by
 refine ⟨?_,?_⟩
 ·unfold stepE;rw [if_neg (by rw [h0];decide),if_neg (by rw [h0];decide),if_neg (by rw [hf];simp),if_neg (by rw [h0];decide),if_neg (by rw [h0];decide),if_pos h0]
 ·unfold stepV;rw [if_neg (by rw [h0];decide),if_neg (by rw [h0];decide),if_neg (by rw [h0];decide),if_neg (by rw [h0];decide),if_pos h0]
theorem ziT {M:Mast} {ws:List ByteArray} (hf:zj ws=true) (h0:wd ws 0=zI):stepE M ws=oneE M.res∧stepV M ws={ M with res:=wd ws 1 }:=by
 refine ⟨?_,?_⟩
 ·unfold stepE;rw [if_neg (by rw [h0];decide),if_neg (by rw [h0];decide),if_neg (by rw [hf];simp),if_neg (by rw [h0];decide),if_neg (by rw [h0];decide),if_neg (by rw [h0];decide),if_pos h0]
 ·unfold stepV;rw [if_neg (by rw [h0];decide),if_neg (by rw [h0];decide),if_neg (by rw [h0];decide),if_neg (by rw [h0];decide),if_neg (by rw [h0];decide),if_pos h0]
theorem zhB {M:Mast} {ws:List ByteArray} (hf:zj ws=true) (h0:wd ws 0=zD):stepE M ws=oneE M.dif∧stepV M ws={ M with dif:=wd ws 1 }:=by
 refine ⟨?_,?_⟩
 ·unfold stepE;rw [if_neg (by rw [h0];decide),if_neg (by rw [h0];decide),if_neg (by rw [hf];simp),if_neg (by rw [h0];decide),if_neg (by rw [h0];decide),if_neg (by rw [h0];decide),if_neg (by rw [h0];decide),if_pos h0]
 ·unfold stepV;rw [if_neg (by rw [h0];decide),if_neg (by rw [h0];decide),if_neg (by rw [h0];decide),if_neg (by rw [h0];decide),if_neg (by rw [h0];decide),if_neg (by rw [h0];decide),if_pos h0]
theorem zdH {M:Mast} {ws:List ByteArray} (hf:zj ws=true) (h0:wd ws 0=tMinor):stepE M ws=oneE M.min∧stepV M ws={ M with min:=wd ws 1 }:=by
 refine ⟨?_,?_⟩
 ·unfold stepE;rw [if_neg (by rw [h0];decide),if_neg (by rw [h0];decide),if_neg (by rw [hf];simp),if_neg (by rw [h0];decide),if_neg (by rw [h0];decide),if_neg (by rw [h0];decide),if_neg (by rw [h0];decide),if_neg (by rw [h0];decide),if_pos h0]
 ·unfold stepV;rw [if_neg (by rw [h0];decide),if_neg (by rw [h0];decide),if_neg (by rw [h0];decide),if_neg (by rw [h0];decide),if_neg (by rw [h0];decide),if_neg (by rw [h0];decide),if_neg (by rw [h0];decide),if_pos h0]
theorem ziv {M:Mast} {ws:List ByteArray} (hf:zj ws=true) (h0:wd ws 0=tStake):stepE M ws=oneE M.stk∧stepV M ws={ M with stk:=wd ws 1 }:=by
 refine ⟨?_,?_⟩
 ·unfold stepE;rw [if_neg (by rw [h0];decide),if_neg (by rw [h0];decide),if_neg (by rw [hf];simp),if_neg (by rw [h0];decide),if_neg (by rw [h0];decide),if_neg (by rw [h0];decide),if_neg (by rw [h0];decide),if_neg (by rw [h0];decide),if_neg (by rw [h0];decide)]
 ·unfold stepV;rw [if_neg (by rw [h0];decide),if_neg (by rw [h0];decide),if_neg (by rw [h0];decide),if_neg (by rw [h0];decide),if_neg (by rw [h0];decide),if_neg (by rw [h0];decide),if_neg (by rw [h0];decide),if_neg (by rw [h0];decide)]
theorem zdM (v c f e l:Value) (ws:List ByteArray) (M:Mast) (w:World) (hm:MastIn w c f e l M) (hs:Sane M) (hv:StrsV w v ws) (h0:0 < ws.length) (hA:wd ws 0≠zb) (hF:wd ws 0≠Fl.tFlow) :
 Calls Tryz.prog 100 #[aggM c f e l M,v] w (qg w c f e l M ws):=by
 obtain ⟨x0,hx0⟩:∃ x,ws[0]?=some x:=⟨_,List.getElem?_eq_getElem h0⟩
 have hwd:wd ws 0=x0:=jd hx0
 cases hn:namesW ws with
 | false=>exact zg4 v c f e l ws M w hm hv hn (zaC (zg2 hn) hA hF)
 | true =>
   cases hf:zj ws with
   | false =>
     have hE:=zaC hf hA hF (M:=M)
     refine zcB v c f e l ws M w hm hv hn hE x0 hx0 (fun h=>Qr (k:=3) (Xv (hwd.trans h)) hf hn h0) (fun h=>Qr (k:=4) (Kx (hwd.trans h)) hf hn h0) (fun h=>Qr (k:=2) (VY (by simpa [hwd] using h)) hf hn h0)
   | true =>
     rcases jk hf with ⟨w0,a,b,e1,_⟩ | ⟨w0,a,b,d,e1,_⟩ | ⟨w0,a,e1,_⟩
     ·obtain ⟨s1,s2⟩:=zeh hf w0 (M:=M)
      subst e1
      unfold qg
      rw [s1,s2]
      refine (zcZ v c f e l a b M w hm hs hv hn).mono ?_
      rintro en w' ⟨v3,M',rfl,h2,h3,h8,h4⟩
      refine ⟨_,_,_,_,M',rfl,fun h5=>?_,h3,⟨Off1.refl _ _,Off1.refl _ _,h8,Off1.refl _ _⟩,h4⟩
      obtain ⟨h6,h7⟩:=h2 h5
      exact ⟨by rw [h6,show G.insR Ent.code M.ents ⟨a,b⟩=_ from G.JQ (x:=(⟨a,b⟩:Ent)) hs.en (Zi h5).1];rfl,h7⟩
     ·obtain ⟨s1,s2⟩:=step_map hf w0 (M:=M)
      subst e1
      unfold qg
      rw [s1,s2]
      refine (zef v c f e l a b d M w hm hs hv hn).mono ?_
      rintro en w' ⟨v3,M',rfl,h2,h3,h8,h4⟩
      refine ⟨_,_,_,_,M',rfl,fun h5=>?_,h3,⟨Off1.refl _ _,Off1.refl _ _,Off1.refl _ _,h8⟩,h4⟩
      obtain ⟨h6,h7⟩:=h2 h5
      exact ⟨by rw [h6,show G.insR Lin.key M.lines ⟨a,b,d⟩=_ from G.JQ (x:=(⟨a,b,d⟩:Lin)) hs.li (ZO h5).1];rfl,h7⟩
     ·have e2:wd ws 1=a:=by rw [e1];rfl
      rcases w0 with w0 | w0 | w0 | w0 | w0
      ·obtain ⟨s1,s2⟩:=zjd hf w0 (M:=M)
       rw [w0] at e1
       unfold qg
       rw [s1,s2,e2]
       subst e1
       refine (xB _ _ _ _ true false false false false v c f e l a M w hm hv hn (.inl ⟨rfl,rfl,rfl,rfl,rfl,rfl,rfl,rfl,rfl⟩)).mono ?_
       rintro en w' ⟨M',rfl,h2,h3,h4⟩
       exact ⟨_,_,_,_,M',rfl,h2,h3,Off4.refl _ _ _ _ _,h4⟩
      ·obtain ⟨s1,s2⟩:=ziT hf w0 (M:=M)
       rw [w0] at e1
       unfold qg
       rw [s1,s2,e2]
       subst e1
       refine (xB _ _ _ _ false true false false false v c f e l a M w hm hv hn (.inr (.inl ⟨rfl,rfl,rfl,rfl,rfl,rfl,rfl,rfl,rfl⟩))).mono ?_
       rintro en w' ⟨M',rfl,h2,h3,h4⟩
       exact ⟨_,_,_,_,M',rfl,h2,h3,Off4.refl _ _ _ _ _,h4⟩
      ·obtain ⟨s1,s2⟩:=zhB hf w0 (M:=M)
       rw [w0] at e1
       unfold qg
       rw [s1,s2,e2]
       subst e1
       refine (xB _ _ _ _ false false true false false v c f e l a M w hm hv hn (.inr (.inr (.inl ⟨rfl,rfl,rfl,rfl,rfl,rfl,rfl,rfl,rfl⟩)))).mono ?_
       rintro en w' ⟨M',rfl,h2,h3,h4⟩
       exact ⟨_,_,_,_,M',rfl,h2,h3,Off4.refl _ _ _ _ _,h4⟩
      ·obtain ⟨s1,s2⟩:=zdH hf w0 (M:=M)
       rw [w0] at e1
       unfold qg
       rw [s1,s2,e2]
       subst e1
       refine (xB _ _ _ _ false false false true false v c f e l a M w hm hv hn (.inr (.inr (.inr (.inl ⟨rfl,rfl,rfl,rfl,rfl,rfl,rfl,rfl,rfl⟩))))).mono ?_
       rintro en w' ⟨M',rfl,h2,h3,h4⟩
       exact ⟨_,_,_,_,M',rfl,h2,h3,Off4.refl _ _ _ _ _,h4⟩
      ·obtain ⟨s1,s2⟩:=ziv hf w0 (M:=M)
       rw [w0] at e1
       unfold qg
       rw [s1,s2,e2]
       subst e1
       refine (xB _ _ _ _ false false false false true v c f e l a M w hm hv hn (.inr (.inr (.inr (.inr ⟨rfl,rfl,rfl,rfl,rfl,rfl,rfl,rfl,rfl⟩))))).mono ?_
       rintro en w' ⟨M',rfl,h2,h3,h4⟩
       exact ⟨_,_,_,_,M',rfl,h2,h3,Off4.refl _ _ _ _ _,h4⟩
end Go.Proofs.YtdhfpgjnjlcciaaGreatDoor.Un
