/- EntPut LinPut UnitReader -/
import Derived.Lib.SmallJoins
import Derived.Test.YthcpglnmhimepaaGreatDoorS11
import Derived.Test.YthcpglnmhimepaaGreatDoorS17
import Derived.Test.YthcpglnmhimepaaGreatDoorS18
import Derived.Test.YthcpglnmhimepaaGreatDoorS19
section
namespace Go.Proofs.YthcpglnmhimepaaGreatDoor.Un.En
open Go.RowKit
theorem row_slice9 {W:World} {B:Nat} {e:TypeId} {s:Nat} {v:Value} {n:Nat} {xs:List Value} (h:W.ownsRow B e s v n xs):∃ a c,v=.slice a n c:=by
 rcases h.2 with ⟨rfl,rfl⟩ | ⟨g,cap,cur,rfl,_⟩
 ·exact ⟨none,0,rfl⟩
 ·exact ⟨_,_,rfl⟩
def PutTold (w:World) (B:Nat) (v:Value) (M:List Ent) (n m:Nat) (e:Ending) (w':World):Prop :=
 ∃ p9 n9 c9,e=.returned (.tuple #[.slice p9 n9 c9,.int .i64 (if m≤n then 4 else 0)])∧w.grownBy w' v.ownBlock∧(¬ m≤n→w'.ownsRow B 206 2 (.slice p9 n9 c9) M.length (flat encE M))
set_option maxRecDepth 100000 in
set_option maxHeartbeats 4000000 in
theorem put_any (v:Value) (L:List Ent) (x:Ent) (m B:Nat) (w:World) (h:w.ownsRow B 206 2 v L.length (flat encE L)) (hB:B≤w.heap.size) (hr:G.riseK Ent.code L=true) (hL:L.length≤1000) :
 Calls Tryz.prog 106 #[v,aggE x,.int .i64 (m:Int),.func (.func 107) #[] #[]] w (PutTold w B v (G.insK Ent.code L x) L.length m):=by
 have HB0:=Lib.hid ((Below.refl w.heap.size w).alloc (Nat.le_refl _) (.cells (encE.cs x).toArray 206))
 have HX0:=Lib.hid (BoxE.new encE w x 206)
 have HO0:=Lib.hid (h.alloc (.cells (encE.cs x).toArray 206))
 have HV0:=Lib.hid (els_of_own HO0.out)
 have hlt:∀ g,v.ownBlock=some g→g < w.heap.size:=fun g e=>(h.lt g e).2
 have HLT:=Lib.hid hlt
 have hv:∃ p c,v=.slice p L.length c∧L.length≤c∧c≤maxLen:=by
  obtain ⟨p,c,e,h1,h2,_⟩:=els_of_own h
  exact ⟨p,c,e,h1,h2⟩
 obtain ⟨p,c,rfl,hcap,hcm⟩:=hv
 have HR:=Lib.hid hr
 have HL:=Lib.hid hL
 have HSE:=Lib.hid (search_any (.slice p L.length c) L x (w.alloc (.cells (encE.cs x).toArray 206)) HV0.out hr hL)
 have HPL:=Lib.hid (G.placeK_le (key:=Ent.code) L (Ent.code x))
 have hins:G.insK Ent.code L x=L.take (G.placeK Ent.code L (Ent.code x))++x::L.drop (G.placeK Ent.code L (Ent.code x)):=rfl
 obtain ⟨M,hM⟩:∃ M,G.insK Ent.code L x=M:=⟨_,rfl⟩
 obtain ⟨pl,hpl⟩:∃ pl,G.placeK Ent.code L (Ent.code x)=pl:=⟨_,rfl⟩
 obtain ⟨is,his⟩:∃ is,G.isK Ent.code L (Ent.code x)=is:=⟨_,rfl⟩
 rw [hM,hpl] at hins
 rw [hpl,his] at HSE
 rw [hpl] at HPL
 rw [hM]
 have HM:=Lib.hid hins
 obtain ⟨n,hn⟩:∃ n,L.length=n:=⟨_,rfl⟩
 have HN:=Lib.hid hn
 rw [hn] at HSE hcap hL ⊢
 unfold maxLen at hcm
 clear h hlt hr hpl his hM hins hn
 by_cases hmn:m≤n
 ·have HMN:=Lib.hid hmn
  go_enter Tryz.func106,Tryz.ntmps106
  go_wp2
  go_ret2
  exact ⟨p,n,c,by rw [if_pos HMN.out];rfl,World.grownBy_alloc _ _ _,fun h=>absurd HMN.out h⟩
 ·have HMN:=Lib.hid hmn
  obtain ⟨c0,c1⟩:=ent2 HX0.out.at0
  go_enter Tryz.func106,Tryz.ntmps106
  go_wp2_with fail
  refine HSE.out.mono ?_
  rintro e w2 ⟨rfl,hb2⟩
  have HO2:=Lib.hid (row_below HO0.out hb2)
  have HX2:=Lib.hid (HX0.out.kept hb2)
  have HG2:Hid (w.grownBy w2 (Value.slice p n c).ownBlock):=Lib.hid ((World.grownBy_alloc w _ _).trans (grownBy_of_below hb2 _))
  have HS2:Hid (w.heap.size < w2.heap.size):=Lib.hid (by have:=hb2.size;rw [World.size_alloc] at this;omega)
  clear hb2 c0 c1
  obtain ⟨c0,c1⟩:=ent2 HX2.out.at0
  go_wp2_with fail
  clear c0 c1
  refine (insert_own (.slice p n c) L x pl w2.heap.size B (w2.alloc (.cells (encE.cs x).toArray 206)) (by rw [←HN.out];rw [HN.out] at HO2 ⊢;exact HO2.out.alloc _) (by rw [World.size_alloc];have:=HS2.out;omega) (BoxE.new encE w2 x 206) (fun e=>by have:=HLT.out _ (by rw [HN.out];exact e);have:=HS2.out;omega) HPL.out HL.out).mono ?_
  rintro e w9 ⟨v9,rfl,ho9,hg9⟩
  rw [←HM.out] at ho9
  obtain ⟨p9,c9,rfl⟩:=row_slice9 ho9
  have HO9:=Lib.hid ho9
  have HG9:Hid (w.grownBy w9 (Value.slice p n c).ownBlock):=Lib.hid ((HG2.out.trans (World.grownBy_alloc w2 _ _)).trans hg9)
  clear ho9 hg9
  go_wp2
  go_ret2
  exact ⟨p9,M.length,c9,by rw [if_neg HMN.out];rfl,HG9.out,fun _=>HO9.out⟩
end Go.Proofs.YthcpglnmhimepaaGreatDoor.Un.En
end
section
namespace Go.Proofs.YthcpglnmhimepaaGreatDoor.Un.Li
open Go.RowKit
theorem row_slice9 {W:World} {B:Nat} {e:TypeId} {s:Nat} {v:Value} {n:Nat} {xs:List Value} (h:W.ownsRow B e s v n xs):∃ a c,v=.slice a n c:=by
 rcases h.2 with ⟨rfl,rfl⟩ | ⟨g,cap,cur,rfl,_⟩
 ·exact ⟨none,0,rfl⟩
 ·exact ⟨_,_,rfl⟩
def PutTold (w:World) (B:Nat) (v:Value) (M:List Lin) (n m:Nat) (e:Ending) (w':World):Prop :=
 ∃ p9 n9 c9,e=.returned (.tuple #[.slice p9 n9 c9,.int .i64 (if m≤n then 4 else 0)])∧w.grownBy w' v.ownBlock∧(¬ m≤n→w'.ownsRow B 211 3 (.slice p9 n9 c9) M.length (flat encL M))
set_option maxRecDepth 100000 in
set_option maxHeartbeats 4000000 in
theorem put_any (v:Value) (L:List Lin) (x:Lin) (m B:Nat) (w:World) (h:w.ownsRow B 211 3 v L.length (flat encL L)) (hB:B≤w.heap.size) (hr:G.riseK Lin.key L=true) (hL:L.length≤1000) :
 Calls Tryz.prog 108 #[v,aggN x,.int .i64 (m:Int),.func (.func 109) #[] #[]] w (PutTold w B v (G.insK Lin.key L x) L.length m):=by
 have HB0:=Lib.hid ((Below.refl w.heap.size w).alloc (Nat.le_refl _) (.cells (encL.cs x).toArray 211))
 have HX0:=Lib.hid (BoxE.new encL w x 211)
 have HO0:=Lib.hid (h.alloc (.cells (encL.cs x).toArray 211))
 have HV0:=Lib.hid (els_of_own HO0.out)
 have hlt:∀ g,v.ownBlock=some g→g < w.heap.size:=fun g e=>(h.lt g e).2
 have HLT:=Lib.hid hlt
 have hv:∃ p c,v=.slice p L.length c∧L.length≤c∧c≤maxLen:=by
  obtain ⟨p,c,e,h1,h2,_⟩:=els_of_own h
  exact ⟨p,c,e,h1,h2⟩
 obtain ⟨p,c,rfl,hcap,hcm⟩:=hv
 have HR:=Lib.hid hr
 have HL:=Lib.hid hL
 have HSE:=Lib.hid (search_any (.slice p L.length c) L x (w.alloc (.cells (encL.cs x).toArray 211)) HV0.out hr hL)
 have HPL:=Lib.hid (G.placeK_le (key:=Lin.key) L (Lin.key x))
 have hins:G.insK Lin.key L x=L.take (G.placeK Lin.key L (Lin.key x))++x::L.drop (G.placeK Lin.key L (Lin.key x)):=rfl
 obtain ⟨M,hM⟩:∃ M,G.insK Lin.key L x=M:=⟨_,rfl⟩
 obtain ⟨pl,hpl⟩:∃ pl,G.placeK Lin.key L (Lin.key x)=pl:=⟨_,rfl⟩
 obtain ⟨is,his⟩:∃ is,G.isK Lin.key L (Lin.key x)=is:=⟨_,rfl⟩
 rw [hM,hpl] at hins
 rw [hpl,his] at HSE
 rw [hpl] at HPL
 rw [hM]
 have HM:=Lib.hid hins
 obtain ⟨n,hn⟩:∃ n,L.length=n:=⟨_,rfl⟩
 have HN:=Lib.hid hn
 rw [hn] at HSE hcap hL ⊢
 unfold maxLen at hcm
 clear h hlt hr hpl his hM hins hn
 by_cases hmn:m≤n
 ·have HMN:=Lib.hid hmn
  go_enter Tryz.func108,Tryz.ntmps108
  go_wp2
  go_ret2
  exact ⟨p,n,c,by rw [if_pos HMN.out];rfl,World.grownBy_alloc _ _ _,fun h=>absurd HMN.out h⟩
 ·have HMN:=Lib.hid hmn
  obtain ⟨c0,c1,c2⟩:=lin3 HX0.out.at0
  go_enter Tryz.func108,Tryz.ntmps108
  go_wp2_with fail
  refine HSE.out.mono ?_
  rintro e w2 ⟨rfl,hb2⟩
  have HO2:=Lib.hid (row_below HO0.out hb2)
  have HX2:=Lib.hid (HX0.out.kept hb2)
  have HG2:Hid (w.grownBy w2 (Value.slice p n c).ownBlock):=Lib.hid ((World.grownBy_alloc w _ _).trans (grownBy_of_below hb2 _))
  have HS2:Hid (w.heap.size < w2.heap.size):=Lib.hid (by have:=hb2.size;rw [World.size_alloc] at this;omega)
  clear hb2 c0 c1 c2
  obtain ⟨c0,c1,c2⟩:=lin3 HX2.out.at0
  go_wp2_with fail
  clear c0 c1 c2
  refine (insert_own (.slice p n c) L x pl w2.heap.size B (w2.alloc (.cells (encL.cs x).toArray 211)) (by rw [←HN.out];rw [HN.out] at HO2 ⊢;exact HO2.out.alloc _) (by rw [World.size_alloc];have:=HS2.out;omega) (BoxE.new encL w2 x 211) (fun e=>by have:=HLT.out _ (by rw [HN.out];exact e);have:=HS2.out;omega) HPL.out HL.out).mono ?_
  rintro e w9 ⟨v9,rfl,ho9,hg9⟩
  rw [←HM.out] at ho9
  obtain ⟨p9,c9,rfl⟩:=row_slice9 ho9
  have HO9:=Lib.hid ho9
  have HG9:Hid (w.grownBy w9 (Value.slice p n c).ownBlock):=Lib.hid ((HG2.out.trans (World.grownBy_alloc w2 _ _)).trans hg9)
  clear ho9 hg9
  go_wp2
  go_ret2
  exact ⟨p9,M.length,c9,by rw [if_neg HMN.out];rfl,HG9.out,fun _=>HO9.out⟩
end Go.Proofs.YthcpglnmhimepaaGreatDoor.Un.Li
end
section
namespace Go.Proofs.YthcpglnmhimepaaGreatDoor.Un
open Go.RowKit Go.Maps
abbrev rdCells (c f e l:Value) (M:Mast) (m:Nat):Array Value:=#[c,f,e,l,.string M.cur,.string M.res,.string M.dif,.string M.min,.string M.stk,.map (some m)]
abbrev BoxRd (W:World) (R m:Nat) (c f e l:Value) (M:Mast):Prop:=W.heap[R]?=some (.cells (rdCells c f e l M m) 113 (0,0))
abbrev MapRd (W:World) (m n:Nat) (D:DataW Unit):Prop:=W.ownsMap Tryz.prog 152 (plainElem Tryz.prog 3) m n D
structure RdAt (W:World) (B R m:Nat) (c f e l:Value) (n:Nat) (D:DataW Unit) (M:Mast):Prop where
 box:BoxRd W R m c f e l M
 chart:W.ownsRow B 192 6 c M.chart.length (flatA M.chart)
 flows:W.ownsRow B 70 2 f M.flows.length (flat Fl.encF M.flows)
 ents:W.ownsRow B 206 2 e M.ents.length (flat encE M.ents)
 lines:W.ownsRow B 211 3 l M.lines.length (flat encL M.lines)
 map:MapRd W m n D
 geR:B≤R
 geM:B≤m
section
variable {W W':World} {B R m n:Nat} {c f e l:Value} {D:DataW Unit} {M:Mast}
theorem RdAt.lt (h:RdAt W B R m c f e l n D M):R < W.heap.size:=(Array.getElem?_eq_some_iff.1 h.box).1
theorem RdAt.nine (h:RdAt W B R m c f e l n D M):NineAt W R c f e l M:=nine_of (more:=[.map (some m)]) h.box
theorem RdAt.ten (h:RdAt W B R m c f e l n D M):W.cell? ⟨R,9,none⟩=some (.map (some m)):=(cell_of_row W R 9 _ _ (0,0) h.box).trans rfl
theorem RdAt.free (h:RdAt W B R m c f e l n D M) (o:Nat):W.frozen? ⟨R,o,none⟩=false:=by
 have:=h.box
 unfold BoxRd at this
 simp [World.frozen?,this]
theorem RdAt.mast (h:RdAt W B R m c f e l n D M):MastIn W c f e l M:=⟨chart_of_own h.chart,els_of_own h.flows,els_of_own h.ents,els_of_own h.lines⟩
theorem RdAt.below (h:RdAt W B R m c f e l n D M) (hb:Below W.heap.size W W'):RdAt W' B R m c f e l n D M :=
 ⟨(hb.block R h.lt).trans h.box,row_below h.chart hb,row_below h.flows hb,row_below h.ents hb,row_below h.lines hb,h.map.kept (row:=none) ⟨hb.os,hb.tape,hb.output,hb.size,fun j hj _=>hb.block j hj⟩ (by simp),h.geR,h.geM⟩
theorem box_apart {W:World} {R B:Nat} {t e:TypeId} {cs:Array Value} {fr:Nat × Nat} {s n:Nat} {v:Value} {xs:List Value} (hb:W.heap[R]?=some (.cells cs t fr)) (h:W.ownsRow B e s v n xs) (hne:t≠e):v.ownBlock≠some R:=by
 rcases h.2 with ⟨rfl,_⟩ | ⟨g,cap,cur,rfl,_,hg,_⟩
 ·simp [Value.ownBlock]
 ·intro e0
  obtain rfl:g=R:=by simpa [Value.ownBlock] using e0
  rw [hb] at hg
  simp at hg
  exact hne hg.2.1
theorem map_apart {W:World} {m n B:Nat} {D:DataW Unit} {e:TypeId} {s k:Nat} {v:Value} {xs:List Value} (hm:MapRd W m n D) (h:W.ownsRow B e s v k xs):some m≠v.ownBlock:=by
 obtain ⟨es,cl,hb,_⟩:=hm
 rcases h.2 with ⟨rfl,_⟩ | ⟨g,cap,cur,rfl,_,hg,_⟩
 ·simp [Value.ownBlock]
 ·intro e0
  obtain rfl:m=g:=by simpa [Value.ownBlock] using e0
  rw [hb] at hg
  cases hg
theorem own_or {v:Value} {R:Nat} (h:v.ownBlock≠some R):v.ownBlock=none∨v.ownBlock≠some R:=.inr h
theorem rd_stored {c' f' e' l':Value} {M':Mast} (i:Nat) (v:Value) (hbox:BoxRd W R m c f e l M) (heq:(rdCells c f e l M m).setIfInBounds i v=rdCells c' f' e' l' M' m)
 (h0:W.ownsRow B 192 6 c' M'.chart.length (flatA M'.chart)) (h1:W.ownsRow B 70 2 f' M'.flows.length (flat Fl.encF M'.flows)) (h2:W.ownsRow B 206 2 e' M'.ents.length (flat encE M'.ents)) (h3:W.ownsRow B 211 3 l' M'.lines.length (flat encL M'.lines))
 (hm:MapRd W m n D) (gR:B≤R) (gM:B≤m):RdAt (W.setCell ⟨R,i,none⟩ v) B R m c' f' e' l' n D M':=by
 have hg:W.grownBy (W.setCell ⟨R,i,none⟩ v) (some R):=⟨rfl,rfl,rfl,by simp [World.setCell],fun k _ hk=>Below.heap_setCell W _ v k (fun e=>hk (by rw [e]))⟩
 refine ⟨?_,h0.kept hg (own_or (box_apart hbox h0 (by decide))),h1.kept hg (own_or (box_apart hbox h1 (by decide))),h2.kept hg (own_or (box_apart hbox h2 (by decide))),h3.kept hg (own_or (box_apart hbox h3 (by decide))),hm.kept hg (fun e=>?_),gR,gM⟩
 ·have:=Joins.block_setCell (i:=i) hbox v
  rw [heq] at this
  exact this
 ·obtain ⟨es,cl,hb,_⟩:=hm
  cases e
  rw [hbox] at hb;cases hb
theorem below_stored {W1:World} (h:Below B W1 W) (hR:B≤R) (i:Nat) (v:Value):Below B W1 (W.setCell ⟨R,i,none⟩ v):=h.setCell (p:=⟨R,i,none⟩) hR v
end
end Go.Proofs.YthcpglnmhimepaaGreatDoor.Un
end
