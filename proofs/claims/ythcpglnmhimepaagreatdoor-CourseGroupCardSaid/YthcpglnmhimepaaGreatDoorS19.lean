/- UnitMem ChartAdd FlowAdd -/
import Derived.Deep.RegionHeld3
import Derived.Test.YthcpglnmhimepaaGreatDoorS12
import Derived.Test.YthcpglnmhimepaaGreatDoorS13
import Derived.Test.YthcpglnmhimepaaGreatDoorS14
import Derived.Test.YthcpglnmhimepaaGreatDoorS15
section
namespace Go.Proofs.YthcpglnmhimepaaGreatDoor.Un
open Go.RowKit
structure MastIn (w:World) (c f e l:Value) (M:Mast):Prop where
 chart:ChartV w c M.chart
 flows:Fl.FlowsV w f M.flows
 ents:ElsV encE w e M.ents
 lines:ElsV encL w l M.lines
theorem MastIn.keep {w w':World} {c f e l:Value} {M:Mast} (h:MastIn w c f e l M) (hb:Below w.heap.size w w'):MastIn w' c f e l M :=
 ⟨h.chart.keep hb,h.flows.keep hb,h.ents.keep hb,h.lines.keep hb⟩
theorem MastIn.zero (w:World):MastIn w (.slice none 0 0) (.slice none 0 0) (.slice none 0 0) (.slice none 0 0) zeroM :=
 ⟨ChartV.nil _,ElsV.nil _,ElsV.nil _,ElsV.nil _⟩
abbrev cellsM (c f e l:Value) (M:Mast):Array Value:=#[c,f,e,l,.string M.cur,.string M.res,.string M.dif,.string M.min,.string M.stk]
abbrev aggM (c f e l:Value) (M:Mast):Value:=.agg #[c,f,e,l,.string M.cur,.string M.res,.string M.dif,.string M.min,.string M.stk]
def MastV (w:World) (v:Value) (M:Mast):Prop:=∃ c f e l,v=aggM c f e l M∧MastIn w c f e l M
def MastTold (w:World) (M:Mast) (n:Int) (en:Ending) (w':World):Prop:=∃ v,en=.returned (.tuple #[v,.int .i64 n])∧MastV w' v M∧Below w.heap.size w w'
structure NineAt (w:World) (b:Nat) (c f e l:Value) (M:Mast):Prop where
 c0:w.cell? ⟨b,0,none⟩=some c
 c1:w.cell? ⟨b,1,none⟩=some f
 c2:w.cell? ⟨b,2,none⟩=some e
 c3:w.cell? ⟨b,3,none⟩=some l
 c4:w.cell? ⟨b,4,none⟩=some (.string M.cur)
 c5:w.cell? ⟨b,5,none⟩=some (.string M.res)
 c6:w.cell? ⟨b,6,none⟩=some (.string M.dif)
 c7:w.cell? ⟨b,7,none⟩=some (.string M.min)
 c8:w.cell? ⟨b,8,none⟩=some (.string M.stk)
theorem NineAt.lt {w:World} {b:Nat} {c f e l:Value} {M:Mast} (h:NineAt w b c f e l M):b < w.heap.size:=World.block_lt_of_cell? w _ h.c0
theorem NineAt.keep {w w':World} {b B:Nat} {c f e l:Value} {M:Mast} (h:NineAt w b c f e l M) (hb:Below B w w') (hB:b < B):NineAt w' b c f e l M :=
 ⟨(hb.cell (p:=⟨b,_,none⟩) hB).trans h.c0,(hb.cell (p:=⟨b,_,none⟩) hB).trans h.c1,(hb.cell (p:=⟨b,_,none⟩) hB).trans h.c2,(hb.cell (p:=⟨b,_,none⟩) hB).trans h.c3,(hb.cell (p:=⟨b,_,none⟩) hB).trans h.c4,(hb.cell (p:=⟨b,_,none⟩) hB).trans h.c5,(hb.cell (p:=⟨b,_,none⟩) hB).trans h.c6,(hb.cell (p:=⟨b,_,none⟩) hB).trans h.c7,(hb.cell (p:=⟨b,_,none⟩) hB).trans h.c8⟩
theorem NineAt.kept {w w':World} {b:Nat} {c f e l:Value} {M:Mast} (h:NineAt w b c f e l M) (hb:Below w.heap.size w w'):NineAt w' b c f e l M:=h.keep hb h.lt
theorem nine_of {w:World} {b:Nat} {t:TypeId} {c f e l:Value} {M:Mast} {more:List Value} {fr:Nat × Nat} (h:w.heap[b]?=some (.cells ([c,f,e,l,.string M.cur,.string M.res,.string M.dif,.string M.min,.string M.stk]++more).toArray t fr)):NineAt w b c f e l M:=by
 have hc:=fun i=>cell_of_row w b i _ t fr h
 exact ⟨(hc 0).trans rfl,(hc 1).trans rfl,(hc 2).trans rfl,(hc 3).trans rfl,(hc 4).trans rfl,(hc 5).trans rfl,(hc 6).trans rfl,(hc 7).trans rfl,(hc 8).trans rfl⟩
theorem nine_new (w:World) (c f e l:Value) (M:Mast) (t:TypeId):NineAt (w.alloc (.cells (cellsM c f e l M) t)) w.heap.size c f e l M :=
 nine_of (more:=[]) (heap_alloc_new w _)
def BoxM (w:World) (b:Nat) (t:TypeId) (c f e l:Value) (M:Mast):Prop:=w.heap[b]?=some (.cells (cellsM c f e l M) t (0,0))
theorem BoxM.new (w:World) (c f e l:Value) (M:Mast) (t:TypeId):BoxM (w.alloc (.cells (cellsM c f e l M) t)) w.heap.size t c f e l M:=heap_alloc_new w _
theorem BoxM.lt {w:World} {b:Nat} {t:TypeId} {c f e l:Value} {M:Mast} (h:BoxM w b t c f e l M):b < w.heap.size:=(Array.getElem?_eq_some_iff.1 h).1
theorem BoxM.keep {w w':World} {b B:Nat} {t:TypeId} {c f e l:Value} {M:Mast} (h:BoxM w b t c f e l M) (hb:Below B w w') (hB:b < B):BoxM w' b t c f e l M:=(hb.block b hB).trans h
theorem BoxM.kept {w w':World} {b:Nat} {t:TypeId} {c f e l:Value} {M:Mast} (h:BoxM w b t c f e l M) (hb:Below w.heap.size w w'):BoxM w' b t c f e l M:=h.keep hb h.lt
theorem BoxM.nine {w:World} {b:Nat} {t:TypeId} {c f e l:Value} {M:Mast} (h:BoxM w b t c f e l M):NineAt w b c f e l M:=nine_of (more:=[]) h
structure Ones (c f e l:Value):Prop where
 c:c.oneCell'=true
 f:f.oneCell'=true
 e:e.oneCell'=true
 l:l.oneCell'=true
theorem ones_of {w:World} {c f e l:Value} {M:Mast} (h:MastIn w c f e l M):Ones c f e l:=by
 obtain ⟨p0,k0,rfl,_⟩:=h.chart
 obtain ⟨p1,k1,rfl,_⟩:=h.flows
 obtain ⟨p2,k2,rfl,_⟩:=h.ents
 obtain ⟨p3,k3,rfl,_⟩:=h.lines
 exact ⟨rfl,rfl,rfl,rfl⟩
theorem wpList_store_mast {P:Program} {ops:Array Oper} {rest:List Oper} {o:Oper} {act:Act} {w:World} {Q:Exit→Act→World→Prop} (hgd:o.guard=none) (ty:TypeId) (x y:Operand) (ho:o.op=.store ty x y)
 (g:Nat) (c0 f0 e0 l0 c f e l:Value) (M0 M:Mast) (t:TypeId) (hx:act.eval x=.pointer (some ⟨g,0,none⟩)) (hy:act.eval y=aggM c f e l M) (hg:BoxM w g t c0 f0 e0 l0 M0) (h1:Ones c f e l) (hi:(P.info? ty).map (·.size)=some 9)
 (h:∀ w',BoxM w' g t c f e l M→w.grownBy w' (some g)→wpList P ops Q rest (act.put o.dst undef) w'):wpList P ops Q (o::rest) act w :=
 wpList_store_row hgd ty x y ho g _ hx hy t _ hg hi rfl (by have hs:∀ s,(Value.string s).oneCell'=true:=fun _=>rfl;simp [h1.c,h1.f,h1.e,h1.l,hs]) (h _ (setRow_heap w g _ _ t _ hg) (grownBy_set w g _))
structure Role where
 head:ByteArray
 code:ByteArray
 cls:Int
abbrev encR:Enc Role:=⟨fun r=>[.string r.head,.string r.code,.int .i64 r.cls],3,fun _=>rfl,by decide,fun _ v hv=>by simp at hv;rcases hv with rfl | rfl | rfl <;> rfl⟩
theorem role3 {w:World} {b o:Nat} {r:Role} (h:ElAt encR w b o r):w.cell? ⟨b,o,none⟩=some (.string r.head)∧w.cell? ⟨b,o+1,none⟩=some (.string r.code)∧w.cell? ⟨b,o+2,none⟩=some (.int .i64 r.cls):=⟨h 0 _ rfl,h 1 _ rfl,h 2 _ rfl⟩
def rolesOf (M:Mast):List Role:=[⟨tReserve,M.res,2⟩,⟨tDiffer,M.dif,0⟩,⟨tMinor,M.min,2⟩,⟨tStake,M.stk,0⟩]
theorem rolesN_all (M:Mast):(rolesOf M).all (fun r=>hasA M.chart r.code)=rolesN M:=by
 simp [rolesOf,rolesN,Bool.and_assoc]
theorem rolesP_all (M:Mast):(rolesOf M).all (fun r=>plainA M.chart r.code r.cls)=rolesP M:=by
 simp [rolesOf,rolesP,Bool.and_assoc]
set_option maxHeartbeats 1000000 in
theorem roles_any (c f e l:Value) (M:Mast) (w:World) :
 Calls Tryz.prog 110 #[aggM c f e l M] w fun en w'=>∃ b,en=.returned (.slice (some ⟨b,0,none⟩) 4 4)∧ElsV encR w' (.slice (some ⟨b,0,none⟩) 4 4) (rolesOf M)∧Below w.heap.size w w':=by
 have HB:=Lib.hid ((Below.refl w.heap.size w).alloc (Nat.le_refl _) (.cells (cellsM c f e l M) 30))
 have HN:=Lib.hid (nine_new w c f e l M 30)
 have hE:=els_new encR (w.alloc (.cells (cellsM c f e l M) 30)) (rolesOf M) 217 (by unfold maxLen;simp [rolesOf])
 rw [World.size_alloc] at hE
 have HE:=Lib.hid hE
 clear hE
 obtain ⟨c0,c1,c2,c3,c4,c5,c6,c7,c8⟩:=HN.out
 go_enter Tryz.func110,Tryz.ntmps110
 go_wp2
 go_ret
 refine ⟨_,rfl,HE.out,HB.out.alloc HB.out.size _⟩
end Go.Proofs.YthcpglnmhimepaaGreatDoor.Un
end
section
namespace Go.Proofs.YthcpglnmhimepaaGreatDoor
open Go.RowKit
def AddOwn (w:World) (M:List Acct) (n:Int) (e:Ending) (w':World):Prop:=∃ v,e=.returned (.tuple #[v,.int .i64 n])∧w'.ownsRow w.heap.size 192 6 v M.length (flatA M)∧Below w.heap.size w w'
def InsRow (w:World) (B:Nat) (M:List Acct) (e:Ending) (w':World):Prop:=∃ v,e=.returned v∧w'.ownsRow B 192 6 v M.length (flatA M)∧Below B w w'
theorem insert_row (v:Value) (L:List Acct) (x:Acct) (i vb B:Nat) (w:World) (h:w.ownsRow B 192 6 v L.length (flatA L)) (hB:B≤w.heap.size) (hx:BoxA w vb 192 x) (hne:v.ownBlock≠some vb) (hi:i≤L.length) (hL:L.length≤1000) :
 Calls Tryz.prog 142 #[v,.int .i64 (i:Int),.slice (some ⟨vb,0,none⟩) 1 1] w (InsRow w B (L.take i++x::L.drop i)) :=
 (insert_own v L x i vb B w h hB hx hne hi hL).mono fun _ _ ⟨u,e,ho,hg⟩=>⟨u,e,ho,below_grown (Below.refl B w) hB h hg⟩
abbrev cellsA (a:Acct):Array Value:=#[.string a.code,.int .i64 a.cls,.bool a.cash,.bool a.both,.string a.fixed,.bool a.worn]
theorem below_undrawn {B:Nat} {w w':World} (h:Below B w.drew w'):Below B w w':=⟨h.os,h.tape,h.output,h.size,h.block⟩
theorem ret_pair {v:Value} {a b:Int} (h:a=b):Ending.returned (.tuple #[v,.int .i64 a])=.returned (.tuple #[v,.int .i64 b]):=by rw [h]
theorem ins_late {w5:World} {v:Value} {L:List Acct} {a:Acct} {i B:Nat} (h:w5.ownsRow B 192 6 v L.length (flatA L)) (hB:B≤w5.heap.size) (hi:i≤L.length) (hL:L.length≤1000) :
 Calls Tryz.prog 142 #[v,.int .i64 (i:Int),.slice (some ⟨w5.heap.size,0,none⟩) 1 1] (w5.alloc (.cells (cellsA a) 192)) (InsRow (w5.alloc (.cells (cellsA a) 192)) B (L.take i++a::L.drop i)) :=
 insert_row v L a i w5.heap.size B _ (h.alloc _) (by simp;omega) (BoxA.new w5 a _) (fun e=>by have:=(h.lt _ e).2;omega) hi hL
theorem ins_early {W w6:World} {v:Value} {L:List Acct} {a:Acct} {i B:Nat} (h:W.ownsRow B 192 6 v L.length (flatA L)) (hB:B≤W.heap.size) (hb:Below (W.alloc (.cells (cellsA a) 192)).drew.heap.size (W.alloc (.cells (cellsA a) 192)).drew w6) (hi:i≤L.length) (hL:L.length≤1000) :
 Calls Tryz.prog 142 #[v,.int .i64 (i:Int),.slice (some ⟨W.heap.size,0,none⟩) 1 1] w6 (InsRow w6 B (L.take i++a::L.drop i)):=by
 have h1:(W.alloc (.cells (cellsA a) 192)).drew.ownsRow B 192 6 v L.length (flatA L):=h.alloc _
 have h2:=row_below h1 hb
 have hs:=hb.size
 have hz:(W.alloc (.cells (cellsA a) 192)).drew.heap.size=W.heap.size+1:=by show (W.alloc _).heap.size=_;simp
 exact insert_row v L a i W.heap.size B w6 h2 (by omega) (BoxA.keep (w:=(W.alloc (.cells (cellsA a) 192)).drew) (BoxA.new W a _) hb (by omega)) (fun e=>by have:=(h.lt _ e).2;omega) hi hL
set_option maxRecDepth 100000 in
set_option maxHeartbeats 8000000 in
theorem add_own (v:Value) (L:List Acct) (a:Acct) (w:World) (h:ChartV w v L) (hL:L.length≤1000) :
 Calls Tryz.prog 102 #[v,aggF a] w (AddOwn w (addV L a) (addE L a)):=by
 obtain ⟨E,hE⟩:∃ E,addE L a=E:=⟨_,rfl⟩
 obtain ⟨M,hM⟩:∃ M,addV L a=M:=⟨_,rfl⟩
 rw [hE,hM]
 have HE:=Lib.hid hE
 have HMV:=Lib.hid hM
 clear hE hM
 have HB0:=Lib.hid ((Below.refl w.heap.size w).alloc (Nat.le_refl _) (.cells (cellsA a) 192))
 have HX0:=Lib.hid (BoxA.new w a 192)
 have HV0:=Lib.hid (h.keep HB0.out)
 have HV:=Lib.hid h
 obtain ⟨p,c,rfl,hcap,hm,hpn,hc⟩:=h
 obtain ⟨n,hn⟩:∃ n,L.length=n:=⟨_,rfl⟩
 rw [hn] at hcap HV HV0 hL ⊢
 have HN:=Lib.hid hn
 unfold maxLen at hm
 clear hc hpn hn
 obtain ⟨r,hr⟩:∃ r,rightA a=r:=⟨_,rfl⟩
 have HR:=Lib.hid (right_any a)
 rw [hr] at HR
 have HRV:=Lib.hid hr
 clear hr
 go_enter Tryz.func102,Tryz.ntmps102
 go_wp2_with fail
 refine (clone_any _ L _ HV0.out (by rw [HN.out];exact hL)).mono ?_
 rintro e w1 ⟨v1,rfl,hown,hb1⟩
 rw [World.size_alloc] at hown
 have HO1:=Lib.hid hown
 have HX1:=Lib.hid (HX0.out.keep hb1 (by simp))
 have HV1:=Lib.hid (HV0.out.keep hb1)
 have HB1:=Lib.hid (HB0.out.trans (hb1.mono HB0.out.size))
 have HS1:Hid (w.heap.size < w1.heap.size):=Lib.hid (by have:=hb1.size;simp at this;omega)
 clear hown hb1
 obtain ⟨c0,c1,c2,c3,c4,c5⟩:=HX1.out.facts
 go_wp2_with fail
 clear c0 c1 c2 c3 c4 c5
 refine (HR.out _).mono ?_
 rintro e w2 ⟨rfl,hb2⟩
 have HO2:=Lib.hid (row_below HO1.out hb2)
 have HX2:=Lib.hid (HX1.out.keep hb2 HS1.out)
 have HV2:=Lib.hid (HV1.out.keep hb2)
 have HB2:=Lib.hid (HB1.out.trans (hb2.mono HB1.out.size))
 have HS2:Hid (w.heap.size < w2.heap.size):=Lib.hid (Nat.lt_of_lt_of_le HS1.out hb2.size)
 clear hb2
 cases r with
 | false =>
   have hE1:Hid (E=1):=Lib.hid (by rw [←HE.out];unfold addE;rw [HRV.out];rfl)
   have hM1:Hid (World.ownsRow w2 w.heap.size 192 6 v1 M.length (flatA M)):=Lib.hid (by
    rw [←HMV.out];unfold addV;rw [HE.out,hE1.out]
    exact row_base HO2.out (Nat.le_succ _))
   go_wp2
   go_ret2
   exact ⟨v1,ret_pair hE1.out.symm,hM1.out,HB2.out⟩
 | true =>
   obtain ⟨c0,c1,c2,c3,c4,c5⟩:=HX2.out.facts
   go_wp2_with fail
   clear c0 c1 c2 c3 c4 c5
   refine (find_any _ L a.code _ HV2.out).mono ?_
   rintro e w3 ⟨rfl,hb3⟩
   obtain ⟨f,hf⟩:∃ f,findV (findL L a.code)=f:=⟨_,rfl⟩
   obtain ⟨b,hb⟩:∃ b,(findL L a.code).isSome=b:=⟨_,rfl⟩
   rw [hf,hb]
   have HFB:=Lib.hid hb
   have hb4:=hb3.alloc hb3.size (.cells (cellsA f) 192)
   have HO4:=Lib.hid (row_below HO2.out hb4)
   have HX4:=Lib.hid (HX2.out.keep hb4 HS2.out)
   have HV4:=Lib.hid (HV2.out.keep hb4)
   have HB4:=Lib.hid (HB2.out.trans (hb4.mono HB2.out.size))
   have HS4:Hid (w.heap.size < (w3.alloc (.cells (cellsA f) 192)).heap.size):=Lib.hid (Nat.lt_of_lt_of_le HS2.out hb4.size)
   clear hb3 hb4 hf hb
   cases b with
   | true =>
     have hE1:Hid (E=7):=Lib.hid (by rw [←HE.out];unfold addE;rw [HRV.out,HFB.out];rfl)
     have hM1:Hid (World.ownsRow (w3.alloc (.cells (cellsA f) 192)) w.heap.size 192 6 v1 M.length (flatA M)):=Lib.hid (by
      rw [←HMV.out];unfold addV;rw [HE.out,hE1.out]
      exact row_base HO4.out (Nat.le_succ _))
     go_wp2
     go_ret2
     exact ⟨v1,ret_pair hE1.out.symm,hM1.out,HB4.out⟩
   | false =>
     by_cases h60:60≤n
     ·have hE1:Hid (E=4):=Lib.hid (by rw [←HE.out];unfold addE;rw [HRV.out,HFB.out,if_neg (by simp),if_neg (by simp),if_pos (by rw [HN.out];exact h60)])
      have hM1:Hid (World.ownsRow (w3.alloc (.cells (cellsA f) 192)) w.heap.size 192 6 v1 M.length (flatA M)):=Lib.hid (by
       rw [←HMV.out];unfold addV;rw [HE.out,hE1.out]
       exact row_base HO4.out (Nat.le_succ _))
      go_wp2
      go_ret2
      exact ⟨v1,ret_pair hE1.out.symm,hM1.out,HB4.out⟩
     ·have hE1:Hid (E=0):=Lib.hid (by rw [←HE.out];unfold addE;rw [HRV.out,HFB.out,if_neg (by simp),if_neg (by simp),if_neg (by rw [HN.out];exact h60)])
      have hM1:Hid (L.take (belowL L a.code)++a::L.drop (belowL L a.code)=M):=Lib.hid (by
       rw [←HMV.out];unfold addV;rw [HE.out,hE1.out,if_pos rfl,insL_eq])
      have hbl:=belowL_le L a.code
      rw [HN.out] at hbl
      obtain ⟨k,hk⟩:∃ k,belowL L a.code=k:=⟨_,rfl⟩
      rw [hk] at hM1 hbl
      have HK:=Lib.hid hk
      clear hk
      have HBE:=Lib.hid (fun W (hW:ChartV W (.slice p n c) L)=>below_any (.slice p n c) L a.code W hW)
      rw [HK.out] at HBE
      have hS4:=HS4.out
      obtain ⟨Wr,hWr⟩:∃ Wr,w3.alloc (.cells (cellsA f) 192)=Wr:=⟨_,rfl⟩
      rw [hWr] at HO4 HX4 HV4 HB4 hS4
      clear HO1 HX1 HV1 HB1 HS1 HO2 HX2 HV2 HB2 HS2 HX0 HV0 HB0 HV HS4 HR
      go_wp2_with fail
      have HWR:=Lib.hid hWr
      clear hWr
      have bx:=Below.refl Wr.heap.size Wr
      have HXa:=Lib.hid (HX4.out.keep (bx.alloc (Nat.le_refl _) (.cells (cellsA a) 192)) hS4)
      have HVa:=Lib.hid (HV4.out.keep (bx.alloc (Nat.le_refl _) (.cells (cellsA a) 192)))
      obtain ⟨j0,j1,j2,j3,j4,j5⟩:=(show BoxA Wr.drew w.heap.size 192 a from HX4.out).facts
      obtain ⟨o0,o1,o2,o3,o4,o5⟩:=HX4.out.facts
      obtain ⟨n0,n1,n2,n3,n4,n5⟩:=(show BoxA (Wr.alloc (.cells (cellsA a) 192)).drew w.heap.size 192 a from HXa.out).facts
      have HVd:=Lib.hid (HV4.out.keep (w':=Wr.drew) ⟨rfl,rfl,rfl,Nat.le_refl _,fun _ _=>rfl⟩)
      have HVe:=Lib.hid (HVa.out.keep (w':=(Wr.alloc (.cells (cellsA a) 192)).drew) ⟨rfl,rfl,rfl,Nat.le_refl _,fun _ _=>rfl⟩)
      clear bx
      go_region_held3 (fun w'=>w'.cell? ⟨w.heap.size,0,none⟩=some (.string a.code)∧w'.cell? ⟨w.heap.size,1,none⟩=some (.int .i64 a.cls)∧w'.cell? ⟨w.heap.size,2,none⟩=some (.bool a.cash)∧w'.cell? ⟨w.heap.size,3,none⟩=some (.bool a.both)∧w'.cell? ⟨w.heap.size,4,none⟩=some (.string a.fixed)∧w'.cell? ⟨w.heap.size,5,none⟩=some (.bool a.worn))
       (first | (with_reducible exact ⟨o0,o1,o2,o3,o4,o5⟩) | (with_reducible exact ⟨j0,j1,j2,j3,j4,j5⟩) | (with_reducible exact ⟨n0,n1,n2,n3,n4,n5⟩) | (with_reducible exact ⟨m0,m1,m2,m3,m4,m5⟩) | (with_reducible exact ⟨p0,p1,p2,p3,p4,p5⟩) | (with_reducible exact ⟨s0,s1,s2,s3,s4,s5⟩) | fail)
       (first
        | (go_at_call 143;refine (HBE.out Wr.drew HVd.out).mono ?_;rintro e w5 ⟨rfl,hb5⟩;have HX5:=Lib.hid (BoxA.keep (w:=Wr.drew) HX4.out hb5 hS4);have HO5:=Lib.hid (row_below (X:=Wr.drew) HO4.out hb5);obtain ⟨m0,m1,m2,m3,m4,m5⟩:=HX5.out.facts;have hS5:w.heap.size < w5.heap.size:=Nat.lt_of_lt_of_le hS4 hb5.size;obtain ⟨p0,p1,p2,p3,p4,p5⟩:=(HX5.out.keep ((Below.refl w5.heap.size w5).alloc (Nat.le_refl _) (.cells (cellsA a) 192)) hS5).facts)
        | (go_at_call 143;refine (HBE.out (Wr.alloc (.cells (cellsA a) 192)).drew HVe.out).mono ?_;rintro e w6 ⟨rfl,hb6⟩;have HX6:=Lib.hid (BoxA.keep (w:=(Wr.alloc (.cells (cellsA a) 192)).drew) HXa.out hb6 (by show _ < (Wr.alloc _).heap.size;simp;omega));obtain ⟨m0,m1,m2,m3,m4,m5⟩:=HX6.out.facts)
        | (go_at_call 142;refine (ins_late (a:=a) HO5.out (by omega) (by rw [HN.out];exact hbl) (by rw [HN.out];exact hL)).mono ?_;rintro e w9 ⟨v9,rfl,hc9,hb9⟩;have HC9:=Lib.hid hc9;have HB9:=Lib.hid hb9;obtain ⟨s0,s1,s2,s3,s4,s5⟩:=((HX5.out.keep ((Below.refl w5.heap.size w5).alloc (Nat.le_refl _) (.cells (cellsA a) 192)) hS5).keep hb9 (Nat.lt_succ_self _)).facts)
        | (go_at_call 142;refine (ins_early (a:=a) HO4.out (by omega) hb6 (by rw [HN.out];exact hbl) (by rw [HN.out];exact hL)).mono ?_;rintro e w9 ⟨v9,rfl,hc9,hb9⟩;have HC9:=Lib.hid hc9;have HB9:=Lib.hid hb9;obtain ⟨s0,s1,s2,s3,s4,s5⟩:=(HX6.out.keep hb9 (Nat.lt_succ_self _)).facts)
        | fail)
      all_goals
       go_wp2
       go_ret2
       have HCM:Hid (w9.ownsRow w.heap.size 192 6 v9 M.length (flatA M)):=Lib.hid (by rw [←hM1.out];exact row_base HC9.out (Nat.le_succ _))
       first
        | exact ⟨v9,ret_pair hE1.out.symm,HCM.out,((HB4.out.trans ((below_undrawn hb5).mono HB4.out.size)).alloc (Nat.le_of_lt hS5) _).trans (HB9.out.mono (Nat.le_succ _))⟩
        | exact ⟨v9,ret_pair hE1.out.symm,HCM.out,((HB4.out.alloc (Nat.le_of_lt hS4) _).trans ((below_undrawn hb6).mono (by show _≤(Wr.alloc _).heap.size;simp;omega))).trans (HB9.out.mono (Nat.le_succ _))⟩
end Go.Proofs.YthcpglnmhimepaaGreatDoor
end
section
namespace Go.Proofs.YthcpglnmhimepaaGreatDoor.Fl
open Go.RowKit
def AddOwn (w:World) (M:List Flow) (n:Int) (e:Ending) (w':World):Prop:=∃ v,e=.returned (.tuple #[v,.int .i64 n])∧w'.ownsRow w.heap.size 70 2 v M.length (flat encF M)∧Below w.heap.size w w'
def InsRow (w:World) (B:Nat) (M:List Flow) (e:Ending) (w':World):Prop:=∃ v,e=.returned v∧w'.ownsRow B 70 2 v M.length (flat encF M)∧Below B w w'
theorem insert_row (v:Value) (L:List Flow) (x:Flow) (i vb B:Nat) (w:World) (h:w.ownsRow B 70 2 v L.length (flat encF L)) (hB:B≤w.heap.size) (hx:BoxE encF w vb 70 x) (hne:v.ownBlock≠some vb) (hi:i≤L.length) (hL:L.length≤1000) :
 Calls Tryz.prog 147 #[v,.int .i64 (i:Int),.slice (some ⟨vb,0,none⟩) 1 1] w (InsRow w B (L.take i++x::L.drop i)) :=
 (insert_own v L x i vb B w h hB hx hne hi hL).mono fun _ _ ⟨u,e,ho,hg⟩=>⟨u,e,ho,below_grown (Below.refl B w) hB h hg⟩
abbrev cellsF (a:Flow):Array Value:=#[.string a.code,.int .i64 a.kind]
theorem ret_pair {v:Value} {a b:Int} (h:a=b):Ending.returned (.tuple #[v,.int .i64 a])=.returned (.tuple #[v,.int .i64 b]):=by rw [h]
theorem ins_late {w5:World} {v:Value} {L:List Flow} {a:Flow} {i B:Nat} (h:w5.ownsRow B 70 2 v L.length (flat encF L)) (hB:B≤w5.heap.size) (hi:i≤L.length) (hL:L.length≤1000) :
 Calls Tryz.prog 147 #[v,.int .i64 (i:Int),.slice (some ⟨w5.heap.size,0,none⟩) 1 1] (w5.alloc (.cells (cellsF a) 70)) (InsRow (w5.alloc (.cells (cellsF a) 70)) B (L.take i++a::L.drop i)) :=
 insert_row v L a i w5.heap.size B _ (h.alloc _) (by simp;omega) (BoxE.new encF w5 a _) (fun e=>by have:=(h.lt _ e).2;omega) hi hL
set_option maxRecDepth 100000 in
set_option maxHeartbeats 8000000 in
theorem add_own (v:Value) (L:List Flow) (a:Flow) (w:World) (h:FlowsV w v L) (hrise:riseK Flow.code L=true) (hL:L.length≤1000) :
 Calls Tryz.prog 104 #[v,aggL a] w (AddOwn w (addV L a) (addE L a)):=by
 obtain ⟨E,hE⟩:∃ E,addE L a=E:=⟨_,rfl⟩
 obtain ⟨M,hM⟩:∃ M,addV L a=M:=⟨_,rfl⟩
 rw [hE,hM]
 have HE:=Lib.hid hE
 have HMV:=Lib.hid hM
 clear hE hM
 have HRI:=Lib.hid hrise
 have HB0:=Lib.hid ((Below.refl w.heap.size w).alloc (Nat.le_refl _) (.cells (cellsF a) 70))
 have HX0:=Lib.hid (BoxE.new encF w a 70)
 have HV0:=Lib.hid (h.keep HB0.out)
 obtain ⟨p,c,rfl,hcap,hm,hpn,hc⟩:=h
 obtain ⟨n,hn⟩:∃ n,L.length=n:=⟨_,rfl⟩
 have HLL:=Lib.hid hL
 rw [hn] at hcap HV0 hL ⊢
 have HN:=Lib.hid hn
 unfold maxLen at hm
 clear hc hpn hn hrise
 obtain ⟨r,hr⟩:∃ r,rightF a=r:=⟨_,rfl⟩
 have HR:=Lib.hid (right_any a)
 rw [hr] at HR
 have HRV:=Lib.hid hr
 clear hr
 go_enter Tryz.func104,Tryz.ntmps104
 go_wp2_with fail
 refine (clone_any _ L _ HV0.out HLL.out).mono ?_
 rintro e w1 ⟨v1,rfl,hown,hb1⟩
 rw [World.size_alloc] at hown
 have HO1:=Lib.hid hown
 have HX1:=Lib.hid (HX0.out.keep hb1 (by simp))
 have HV1:=Lib.hid (HV0.out.keep hb1)
 have HB1:=Lib.hid (HB0.out.trans (hb1.mono HB0.out.size))
 clear hown hb1
 obtain ⟨c0,c1⟩:=box HX1.out
 go_wp2_with fail
 clear c0 c1
 refine (HR.out _).mono ?_
 rintro e w2 ⟨rfl,hb2⟩
 have HO2:=Lib.hid (row_below HO1.out hb2)
 have HX2:=Lib.hid (HX1.out.kept hb2)
 have HV2:=Lib.hid (HV1.out.keep hb2)
 have HB2:=Lib.hid (HB1.out.trans (hb2.mono HB1.out.size))
 clear hb2
 cases r with
 | false =>
   have hE1:Hid (E=1):=Lib.hid (by rw [←HE.out];unfold addE;rw [HRV.out];rfl)
   have hM1:Hid (World.ownsRow w2 w.heap.size 70 2 v1 M.length (flat encF M)):=Lib.hid (by
    rw [←HMV.out];unfold addV;rw [HE.out,hE1.out]
    exact row_base HO2.out (Nat.le_succ _))
   go_wp2
   go_ret2
   exact ⟨v1,ret_pair hE1.out.symm,hM1.out,HB2.out⟩
 | true =>
   obtain ⟨c0,c1⟩:=box HX2.out
   obtain ⟨pl,hpl⟩:∃ pl,placeK Flow.code L a.code=pl:=⟨_,rfl⟩
   obtain ⟨is,his⟩:∃ is,isK Flow.code L a.code=is:=⟨_,rfl⟩
   have HPA:=Lib.hid (place_any _ L a.code _ HV2.out HRI.out HLL.out)
   rw [hpl,his] at HPA
   have HIS:=Lib.hid his
   have HPL:=Lib.hid hpl
   have hpn:pl≤n:=by rw [←hpl,←HN.out];exact placeK_le L a.code
   clear his hpl
   go_wp2_with fail
   clear c0 c1
   refine HPA.out.mono ?_
   rintro e w3 ⟨rfl,hb3⟩
   have HO3:=Lib.hid (row_below HO2.out hb3)
   have HX3:=Lib.hid (HX2.out.kept hb3)
   have HV3:=Lib.hid (HV2.out.keep hb3)
   have HB3:=Lib.hid (HB2.out.trans (hb3.mono HB2.out.size))
   clear hb3 HO2 HX2 HV2 HB2 HPA
   obtain ⟨c0,c1⟩:=box HX3.out
   cases is with
   | true =>
     have hE1:Hid (E=7):=Lib.hid (by rw [←HE.out];unfold addE;rw [HRV.out,HIS.out];rfl)
     have hM1:Hid (World.ownsRow w3 w.heap.size 70 2 v1 M.length (flat encF M)):=Lib.hid (by
      rw [←HMV.out];unfold addV;rw [HE.out,hE1.out]
      exact row_base HO3.out (Nat.le_succ _))
     go_wp2
     go_ret2
     exact ⟨v1,ret_pair hE1.out.symm,hM1.out,HB3.out⟩
   | false =>
     by_cases hk1:a.kind=1
     ·have hkz:(a.kind != 1)=false:=by rw [hk1];rfl
      have HAE:Hid (E=if 60≤n then 4 else 0):=Lib.hid (by
       rw [←HE.out];unfold addE
       rw [HRV.out,HIS.out,HN.out,if_neg (by simp),if_neg (by simp [hk1])])
      clear hk1
      by_cases h60:60≤n
      ·have hE1:Hid (E=4):=Lib.hid (by rw [HAE.out,if_pos h60])
       have hM1:Hid (World.ownsRow w3 w.heap.size 70 2 v1 M.length (flat encF M)):=Lib.hid (by
        rw [←HMV.out];unfold addV;rw [HE.out,hE1.out]
        exact row_base HO3.out (Nat.le_succ _))
       go_wp2
       go_ret2
       exact ⟨v1,ret_pair hE1.out.symm,hM1.out,HB3.out⟩
      ·have hE1:Hid (E=0):=Lib.hid (by rw [HAE.out,if_neg h60])
       have hM1:Hid (L.take pl++a::L.drop pl=M):=Lib.hid (by
        rw [←HMV.out];unfold addV;rw [HE.out,hE1.out,if_pos rfl];unfold insK;rw [HPL.out])
       go_wp2_with fail
       refine (ins_late (a:=a) HO3.out (Nat.succ_le_of_lt HX3.out.lt) (by rw [HN.out];exact hpn) HLL.out).mono ?_
       rintro e w9 ⟨v9,rfl,hc9,hb9⟩
       have HCM:Hid (w9.ownsRow w.heap.size 70 2 v9 M.length (flat encF M)):=Lib.hid (by rw [←hM1.out];exact row_base hc9 (Nat.le_succ _))
       have HB9:=Lib.hid ((HB3.out.alloc HB3.out.size (.cells (cellsF a) 70)).trans (hb9.mono (Nat.le_succ _)))
       clear hc9 hb9
       go_wp2
       go_ret2
       exact ⟨v9,ret_pair hE1.out.symm,HCM.out,HB9.out⟩
     ·have hkz:(a.kind != 1)=true:=by simpa using hk1
      obtain ⟨hh,hhh⟩:∃ b,hasF L a.kind=b:=⟨_,rfl⟩
      have HHA:=Lib.hid (has_any _ L a.kind _ HV3.out HLL.out)
      rw [hhh] at HHA
      have HAE:Hid (E=if hh=true then 7 else if 60≤n then 4 else 0):=Lib.hid (by
       rw [←HE.out];unfold addE
       rw [HRV.out,HIS.out,HN.out,hhh,if_neg (by simp)]
       simp [hk1])
      clear hk1 hhh
      go_wp2_with fail
      clear c0 c1
      refine HHA.out.mono ?_
      rintro e w4 ⟨rfl,hb4⟩
      have HO4:=Lib.hid (row_below HO3.out hb4)
      have HX4:=Lib.hid (HX3.out.kept hb4)
      have HB4:=Lib.hid (HB3.out.trans (hb4.mono HB3.out.size))
      clear hb4 HO3 HX3 HB3 HHA
      cases hh with
      | true =>
        have hE1:Hid (E=7):=Lib.hid (by rw [HAE.out];rfl)
        have hM1:Hid (World.ownsRow w4 w.heap.size 70 2 v1 M.length (flat encF M)):=Lib.hid (by
         rw [←HMV.out];unfold addV;rw [HE.out,hE1.out]
         exact row_base HO4.out (Nat.le_succ _))
        go_wp2
        go_ret2
        exact ⟨v1,ret_pair hE1.out.symm,hM1.out,HB4.out⟩
      | false =>
        by_cases h60:60≤n
        ·have hE1:Hid (E=4):=Lib.hid (by rw [HAE.out,if_neg (by simp),if_pos h60])
         have hM1:Hid (World.ownsRow w4 w.heap.size 70 2 v1 M.length (flat encF M)):=Lib.hid (by
          rw [←HMV.out];unfold addV;rw [HE.out,hE1.out]
          exact row_base HO4.out (Nat.le_succ _))
         go_wp2
         go_ret2
         exact ⟨v1,ret_pair hE1.out.symm,hM1.out,HB4.out⟩
        ·have hE1:Hid (E=0):=Lib.hid (by rw [HAE.out,if_neg (by simp),if_neg h60])
         have hM1:Hid (L.take pl++a::L.drop pl=M):=Lib.hid (by
          rw [←HMV.out];unfold addV;rw [HE.out,hE1.out,if_pos rfl];unfold insK;rw [HPL.out])
         obtain ⟨c0,c1⟩:=box HX4.out
         go_wp2_with fail
         refine (ins_late (a:=a) HO4.out (Nat.succ_le_of_lt HX4.out.lt) (by rw [HN.out];exact hpn) HLL.out).mono ?_
         rintro e w9 ⟨v9,rfl,hc9,hb9⟩
         have HCM:Hid (w9.ownsRow w.heap.size 70 2 v9 M.length (flat encF M)):=Lib.hid (by rw [←hM1.out];exact row_base hc9 (Nat.le_succ _))
         have HB9:=Lib.hid ((HB4.out.alloc HB4.out.size (.cells (cellsF a) 70)).trans (hb9.mono (Nat.le_succ _)))
         clear hc9 hb9
         go_wp2
         go_ret2
         exact ⟨v9,ret_pair hE1.out.symm,HCM.out,HB9.out⟩
end Go.Proofs.YthcpglnmhimepaaGreatDoor.Fl
end
