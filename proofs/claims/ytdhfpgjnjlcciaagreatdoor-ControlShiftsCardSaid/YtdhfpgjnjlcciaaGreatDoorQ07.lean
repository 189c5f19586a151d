/- PkReader ChartLaid ChartMarked ChartWords ChartWordsSame ChartParse UnitFormed -/
import Derived.Deep.CutBlock
import Derived.Deep.DeepCutAuto
import Derived.Deep.RegionLaw
import Derived.Test.YtdhfpgjnjlcciaaGreatDoorQ06
section
namespace Go.Proofs.YtdhfpgjnjlcciaaGreatDoor.Pk
open Go.RowKit Go.Maps Go.Proofs.YtdhfpgjnjlcciaaGreatDoor.Un
abbrev vQ (c f e l:Value) (M:Mast) (m:Nat) (S:St) (v:Value):Array Value:=#[c,f,e,l,.string M.cur,.string M.res,.string M.dif,.string M.min,.string M.stk,.map (some m),.string S.ent,.int .i64 S.mrk,v]
abbrev BoxPk (W:World) (R m:Nat) (c f e l:Value) (M:Mast) (S:St) (v:Value):Prop:=W.heap[R]?=some (.cells (vQ c f e l M m S v) 122 (0,0))
abbrev MapPk (W:World) (m n:Nat) (D:DataW Unit):Prop:=W.ownsMap Tryz.prog 9 (plainElem Tryz.prog 3) m n D
def HadD (D:DataW Unit) (had:List ByteArray):Prop:=∀ c:ByteArray,D.atKey (kS c) (.lit (.int .i64 0))=.lit (.int .i64 (if hadB had c=true then 1 else 0))
theorem HadD.zero:HadD (.map []) []:=fun _=>rfl
structure PkAt (W:World) (B R m:Nat) (c f e l:Value) (M:Mast) (n:Nat) (D:DataW Unit) (S:St) (v:Value):Prop where
 box:BoxPk W R m c f e l M S v
 facts:W.ownsRow B 76 6 v S.facts.length (flat Fa.encF S.facts)
 map:MapPk W m n D
 had:HadD D S.had
 geR:B≤R
 geM:B≤m
section
variable {W W':World} {B R m n:Nat} {c f e l v:Value} {D:DataW Unit} {M:Mast} {S:St}
theorem PkAt.lt (h:PkAt W B R m c f e l M n D S v):R < W.heap.size:=(Array.getElem?_eq_some_iff.1 h.box).1
theorem PkAt.nine (h:PkAt W B R m c f e l M n D S v):NineAt W R c f e l M:=vn (more:=[.map (some m),.string S.ent,.int .i64 S.mrk,v]) h.box
theorem PkAt.four (h:PkAt W B R m c f e l M n D S v):W.cell? ⟨R,9,none⟩=some (.map (some m))∧W.cell? ⟨R,10,none⟩=some (.string S.ent)∧W.cell? ⟨R,11,none⟩=some (.int .i64 S.mrk)∧W.cell? ⟨R,12,none⟩=some v:=by
 have hc:=fun i=>cell_of_row W R i _ _ (0,0) h.box
 exact ⟨(hc 9).trans rfl,(hc 10).trans rfl,(hc 11).trans rfl,(hc 12).trans rfl⟩
theorem PkAt.free (h:PkAt W B R m c f e l M n D S v) (o:Nat):W.frozen? ⟨R,o,none⟩=false:=by
 have:=h.box
 unfold BoxPk at this
 simp [World.frozen?,this]
theorem PkAt.below (h:PkAt W B R m c f e l M n D S v) (hb:Below W.heap.size W W'):PkAt W' B R m c f e l M n D S v :=
 ⟨(hb.block R h.lt).trans h.box,zu h.facts hb,h.map.kept (row:=none) ⟨hb.os,hb.tape,hb.output,hb.size,fun j hj _=>hb.block j hj⟩ (by simp),h.had,h.geR,h.geM⟩
theorem PkAt.mono {k:Nat} (h:PkAt W B R m c f e l M n D S v) (hk:n≤k):PkAt W B R m c f e l M k D S v:=⟨h.box,h.facts,h.map.mono hk,h.had,h.geR,h.geM⟩
theorem Vu {W:World} {m n B:Nat} {D:DataW Unit} {e:TypeId} {s k:Nat} {v:Value} {xs:List Value} (hm:MapPk W m n D) (h:W.ownsRow B e s v k xs):some m≠v.ownBlock:=by
 obtain ⟨es,cl,hb,_⟩:=hm
 rcases h.2 with ⟨rfl,_⟩ | ⟨g,cap,cur,rfl,_,hg,_⟩
 ·simp [Value.ownBlock]
 ·intro e0
  obtain rfl:m=g:=by simpa [Value.ownBlock] using e0
  rw [hb] at hg
  cases hg
theorem PkAt.apart (h:PkAt W B R m c f e l M n D S v):R≠m:=fun e0=>by
 subst e0
 obtain ⟨es,cl,hb,_⟩:=h.map
 have:=h.box
 unfold BoxPk at this
 rw [hb] at this;cases this
theorem PkAt.stored {S':St} {v':Value} (h:PkAt W B R m c f e l M n D S v) (i:Nat) (x:Value) (heq:(vQ c f e l M m S v).setIfInBounds i x=vQ c f e l M m S' v')
 (h0:W.ownsRow B 76 6 v' S'.facts.length (flat Fa.encF S'.facts)) (hd:S'.had=S.had):PkAt (W.setCell ⟨R,i,none⟩ x) B R m c f e l M n D S' v':=by
 have hg:W.grownBy (W.setCell ⟨R,i,none⟩ x) (some R):=⟨rfl,rfl,rfl,by simp [World.setCell],fun k _ hk=>Below.heap_setCell W _ x k (fun e=>hk (by rw [e]))⟩
 refine ⟨?_,h0.kept hg (ko (jC h.box h0 (by decide))),h.map.kept hg (fun e=>h.apart (Option.some.inj e).symm),by rw [hd];exact h.had,h.geR,h.geM⟩
 have:=Joins.block_setCell (i:=i) h.box x
 rw [heq] at this
 exact this
theorem PkAt.mapTurned {k:Nat} {D':DataW Unit} {had':List ByteArray} (h:PkAt W B R m c f e l M n D S v) (hg:W.grownBy W' (some m)) (hm:MapPk W' m k D') (hd:HadD D' had'):PkAt W' B R m c f e l M k D' ⟨S.ent,S.mrk,had',S.facts⟩ v :=
 ⟨(hg.block R h.lt (fun e0=>h.apart (Option.some.inj e0))).trans h.box,h.facts.kept hg (.inr (Vu h.map h.facts).symm),hm,hd,h.geR,h.geM⟩
end
theorem HadD.put {D:DataW Unit} {had:List ByteArray} (h:HadD D had) (ht:Tidy D) (c:ByteArray):HadD (D.put (kS c) (.lit (.int .i64 1))) (had++[c]):=fun x=>by
 by_cases he:x=c
 ·subst he
  rw [atKey_put_same ht.isMap (VC _),if_pos (ZD.2 (by simp))]
 ·rw [atKey_put_other (fun e=>he (zi4 e)),h x]
  have:hadB (had++[c]) x=hadB had x:=by
   rw [Bool.eq_iff_iff,ZD,ZD]
   simp [he]
  rw [this]
def Z2 (W:World) (B R m:Nat) (c f e l:Value) (M:Mast) (n:Nat) (D:DataW Unit) (S:St) (v:Value) (x:ByteArray) (k:Int) (en:Ending) (W':World):Prop :=
 en=.returned (.int .i64 (begE M x))∧Below B W W'∧(begE M x=0→PkAt W' B R m c f e l M n D ⟨x,k,S.had,S.facts⟩ v)
set_option maxRecDepth 100000 in
set_option maxHeartbeats 4000000 in
theorem Ka (x:ByteArray) (k:Int) (W:World) (B R m:Nat) (c f e l:Value) (M:Mast) (n:Nat) (D:DataW Unit) (S:St) (v:Value) (hB:B≤W.heap.size) (hm:MastIn W c f e l M) (h:PkAt W B R m c f e l M n D S v) :
 Calls Tryz.prog 156 #[.pointer (some ⟨R,0,none⟩),.string x,.int .i64 k] W (Z2 W B R m c f e l M n D S v x k):=by
 obtain ⟨pc,cc,pf,cf,pe,ce,pl,cl,rfl,rfl,rfl,rfl⟩:=shapes hm
 have HB0:=Lib.hid hB
 have HM:=Lib.hid hm
 have HP:=Lib.hid h
 have HNM:=Lib.hid (fun W=>jS x W)
 have HEE:=Lib.hid (fun W h=>Qw (.slice pc M.chart.length cc) (.slice pf M.flows.length cf) (.slice pe M.ents.length ce) (.slice pl M.lines.length cl) M x W h)
 obtain ⟨I,hI⟩:∃ I,nameL x.data.toList=I:=⟨_,rfl⟩
 obtain ⟨J,hJ⟩:∃ J,hasE M x=J:=⟨_,rfl⟩
 have HBE:Hid (begE M x=if I=false then 5 else if J=false then 6 else 0):=Lib.hid (by unfold begE nmB;rw [hI,hJ])
 simp only [hI] at HNM
 simp only [hJ] at HEE
 obtain ⟨N,hN⟩:∃ N,begE M x=N:=⟨_,rfl⟩
 unfold Z2
 rw [hN] at HBE ⊢
 clear hI hJ hN hm h hB
 go_enter Tryz.func156,Tryz.ntmps156
 go_wp2_with fail
 refine (HNM.out _).mono ?_
 rintro en w1 ⟨rfl,rfl⟩
 cases I with
 | false =>
   have HNN:Hid (N=5):=Lib.hid (by rw [HBE.out];rfl)
   go_wp2
   go_ret
   exact ⟨by rw [HNN.out];rfl,Below.refl _ _,fun h=>by rw [HNN.out] at h;cases h⟩
 | true =>
   obtain ⟨k0,k1,k2,k3,k4,k5,k6,k7,k8⟩:=HP.out.nine
   go_wp2_with fail
   clear k0 k1 k2 k3 k4 k5 k6 k7 k8
   refine (HEE.out _ HM.out).mono ?_
   rintro en w2 ⟨rfl,hb2⟩
   have HB2:=Lib.hid (hb2.mono HB0.out)
   have HP2:=Lib.hid (HP.out.below hb2)
   clear hb2
   cases J with
   | false =>
     have HNN:Hid (N=6):=Lib.hid (by rw [HBE.out];rfl)
     go_wp2
     go_ret
     exact ⟨by rw [HNN.out];rfl,HB2.out,fun h=>by rw [HNN.out] at h;cases h⟩
   | true =>
     have HNN:Hid (N=0):=Lib.hid (by rw [HBE.out];rfl)
     have HP3:Hid (PkAt (w2.setCell ⟨R,10,none⟩ (.string x)) B R m _ _ _ _ M n D ⟨x,S.mrk,S.had,S.facts⟩ v):=Lib.hid (HP2.out.stored 10 _ rfl HP2.out.facts rfl)
     have HP4:Hid (PkAt ((w2.setCell ⟨R,10,none⟩ (.string x)).setCell ⟨R,11,none⟩ (.int .i64 k)) B R m _ _ _ _ M n D ⟨x,k,S.had,S.facts⟩ v):=Lib.hid (HP3.out.stored 11 _ rfl HP3.out.facts rfl)
     have HB4:Hid (Below B W ((w2.setCell ⟨R,10,none⟩ (.string x)).setCell ⟨R,11,none⟩ (.int .i64 k))):=Lib.hid ((HB2.out.setCell (p:=⟨R,10,none⟩) HP.out.geR _).setCell (p:=⟨R,11,none⟩) HP.out.geR _)
     obtain ⟨_,d10,d11,_⟩:=HP2.out.four
     have fz:=HP2.out.free
     have fz10:=fz 10
     have fz11:=fz 11
     obtain ⟨_,_,e11,_⟩:=HP3.out.four
     have gz11:=HP3.out.free 11
     clear fz
     go_wp2
     go_ret
     exact ⟨by rw [HNN.out];rfl,HB4.out,fun _=>HP4.out⟩
end Go.Proofs.YtdhfpgjnjlcciaaGreatDoor.Pk
end
section
namespace Go.Proofs.YtdhfpgjnjlcciaaGreatDoor
open Go.RowKit
structure Laid (w:World):Prop where
 g0:w.cell? ⟨1,0,none⟩=some (.string tAsset)
 g1:w.cell? ⟨1,1,none⟩=some (.string qC)
 g2:w.cell? ⟨1,2,none⟩=some (.string qD)
theorem Laid.below {w w':World} {B:Nat} (h:Laid w) (hb:Below B w w') (hB:w.heap.size≤B):Laid w' :=
 have lt:=Nat.lt_of_lt_of_le (World.block_lt_of_cell? w _ h.g0) hB
 ⟨(hb.cell (p:=⟨_,0,none⟩) lt).trans h.g0,(hb.cell (p:=⟨_,1,none⟩) lt).trans h.g1,(hb.cell (p:=⟨_,2,none⟩) lt).trans h.g2⟩
theorem QD (w:World):(Instr.index 303 (.agg #[.string tAsset,.string qC,.string qD]) (.int .i64 0)).run Tryz.prog w=.ok (.string tAsset) w:=by kernel_rfl
theorem Yc (w:World):(Instr.index 303 (.agg #[.string tAsset,.string qC,.string qD]) (.int .i64 1)).run Tryz.prog w=.ok (.string qC) w:=by kernel_rfl
theorem Ql (w:World):(Instr.index 303 (.agg #[.string tAsset,.string qC,.string qD]) (.int .i64 2)).run Tryz.prog w=.ok (.string qD) w:=by kernel_rfl
theorem beqS (x y:ByteArray):(x.toList==y.toList)=decide (x=y):=by
 cases h:(x.toList==y.toList) with
 | true=>rw [decide_eq_true ((Lib.bytes_beq_iff x y).1 h)]
 | false=>rw [decide_eq_false ((Lib.bytes_beq_false_iff x y).1 h)]
set_option maxRecDepth 100000 in
set_option maxHeartbeats 2000000 in
theorem zaI (s:ByteArray) (w:World) (hL:Laid w) :
 Calls Tryz.prog 163 #[.string s] w fun e w'=>e=.returned (.int .i64 (clsOf s))∧w=w':=by
 obtain ⟨g0,g1,g2⟩:=hL
 obtain ⟨r,hr⟩:∃ r,clsOf s=r:=⟨_,rfl⟩
 rw [hr]
 have HR:=Lib.hid hr
 clear hr
 obtain ⟨A,hA⟩:∃ A,tAsset=A:=⟨_,rfl⟩
 obtain ⟨B,hB⟩:∃ B,qC=B:=⟨_,rfl⟩
 obtain ⟨C,hC⟩:∃ C,qD=C:=⟨_,rfl⟩
 have i0:=QD
 have i1:=Yc
 have i2:=Ql
 rw [hA] at g0 i0 i1 i2
 rw [hB] at g1 i0 i1 i2
 rw [hC] at g2 i0 i1 i2
 have HA:=Lib.hid hA
 have HBB:=Lib.hid hB
 have HCC:=Lib.hid hC
 clear hA hB hC
 cases hs0:(A.toList==s.toList) with
 | true =>
   have HS:=Lib.hid ((Lib.bytes_beq_iff A s).1 hs0)
   go_enter Tryz.func163,Tryz.ntmps163
   go_wp2
   refine wp_loop_rounds 1 ?_
   rw [rounds_succ]
   go_wp2
   go_ret
   exact ⟨y9 (by rw [←HR.out,←HS.out,←HA.out];decide),rfl⟩
 | false =>
   have HS:=Lib.hid ((Lib.bytes_beq_false_iff A s).1 hs0)
   cases hs1:(B.toList==s.toList) with
   | true =>
     have HS1:=Lib.hid ((Lib.bytes_beq_iff B s).1 hs1)
     go_enter Tryz.func163,Tryz.ntmps163
     go_wp2
     refine wp_loop_rounds 2 ?_
     rw [rounds_succ]
     go_wp2
     rw [rounds_succ]
     go_wp2
     go_ret
     exact ⟨y9 (by rw [←HR.out,←HS1.out,←HBB.out];decide),rfl⟩
   | false =>
     have HS1:=Lib.hid ((Lib.bytes_beq_false_iff B s).1 hs1)
     cases hs2:(C.toList==s.toList) with
     | true =>
       have HS2:=Lib.hid ((Lib.bytes_beq_iff C s).1 hs2)
       go_enter Tryz.func163,Tryz.ntmps163
       go_wp2
       refine wp_loop_rounds 3 ?_
       rw [rounds_succ]
       go_wp2
       rw [rounds_succ]
       go_wp2
       rw [rounds_succ]
       go_wp2
       go_ret
       exact ⟨y9 (by rw [←HR.out,←HS2.out,←HCC.out];decide),rfl⟩
     | false =>
       have HS2:=Lib.hid ((Lib.bytes_beq_false_iff C s).1 hs2)
       have hres:Hid (r=-1):=Lib.hid (by
        rw [←HR.out]
        have a0:s≠tAsset:=by rw [HA.out];exact fun e=>HS.out e.symm
        have a1:s≠qC:=by rw [HBB.out];exact fun e=>HS1.out e.symm
        have a2:s≠qD:=by rw [HCC.out];exact fun e=>HS2.out e.symm
        unfold clsOf
        rw [if_neg a0,if_neg a1,if_neg a2])
       go_enter Tryz.func163,Tryz.ntmps163
       go_wp2
       refine wp_loop_rounds 4 ?_
       rw [rounds_succ]
       go_wp2
       rw [rounds_succ]
       go_wp2
       rw [rounds_succ]
       go_wp2
       rw [rounds_succ]
       go_wp2
       go_ret
       exact ⟨y9 hres.out.symm,rfl⟩
end Go.Proofs.YtdhfpgjnjlcciaaGreatDoor
end
section
namespace Go.Proofs.YtdhfpgjnjlcciaaGreatDoor
open Go.RowKit
theorem zcq:tCash.toList=[99,97,115,104]:=by rw [ByteArray.toList_eq];rfl
theorem zfI:qA.toList=[109,117,116,117,97,108]:=by rw [ByteArray.toList_eq];rfl
theorem zdC:tWorn.toList=[119,111,114,110]:=by rw [ByteArray.toList_eq];rfl
theorem zbM (x:ByteArray):(x.toList==[99,97,115,104])=decide (x=tCash):=by rw [←zcq,beqS]
theorem zjh (x:ByteArray):(x.toList==[109,117,116,117,97,108])=decide (x=qA):=by rw [←zfI,beqS]
theorem zbf (x:ByteArray):(x.toList==[119,111,114,110])=decide (x=tWorn):=by rw [←zdC,beqS]
set_option maxRecDepth 100000 in
set_option maxHeartbeats 2000000 in
theorem Y1 (a:Acct) (v:Value) (ws:List ByteArray) (w:World) (h:StrsV w v ws) :
 Calls Tryz.prog 162 #[aggF a,v] w fun e w'=>e=.returned (aggF (qU a ws))∧Below w.heap.size w w':=by
 obtain ⟨p,c,rfl,_,hm,hc⟩:=h
 obtain ⟨r,hr⟩:∃ r,qU a ws=r:=⟨_,rfl⟩
 rw [hr]
 have HR:=Lib.hid hr
 clear hr
 unfold maxLen at hm
 have hc0:=hc
 clear hc
 match ws,hc0,hm,HR with
 | [],hc,hm,HR =>
   clear hc0 hc
   go_enter Tryz.func162,Tryz.ntmps162
   go_wp2
   refine bodyPost_ret (v:=.agg #[.string a.code,.int .i64 a.cls,.bool a.cash,.bool a.both,.string a.fixed,.bool a.worn]) (by simp [results,Tryz.results162,go_sem]) rfl ⟨?_,((Below.refl _ _).alloc (Nat.le_refl _) _).alloc (by simp) _⟩
   rw [←HR.out];rfl
 | [x],hc,hm,HR =>
   obtain ⟨b,o,rfl,d0⟩:=hc 0 x rfl
   have d:w.cell? ⟨b,o,none⟩=some (.string x):=d0
   clear d0
   clear hc0 hc
   have hlt:=World.block_lt_of_cell? w _ d
   go_enter Tryz.func162,Tryz.ntmps162
   go_wp2
   refine bodyPost_ret (v:=.agg #[.string a.code,.int .i64 a.cls,.bool (x.toList==[99,97,115,104]),.bool (x.toList==[109,117,116,117,97,108]),.string a.fixed,.bool a.worn]) (by simp [results,Tryz.results162,go_sem]) rfl ⟨?_,((Below.refl _ _).alloc (Nat.le_refl _) _).alloc (by simp) _⟩
   rw [←HR.out,zbM,zjh];rfl
 | [x,y],hc,hm,HR =>
   obtain ⟨b,o,rfl,d0⟩:=hc 0 x rfl
   have d:w.cell? ⟨b,o,none⟩=some (.string x):=d0
   clear d0
   obtain ⟨b',o',e',d'⟩:=hc 1 y rfl
   cases e'
   have d2:w.cell? ⟨b,o+1,none⟩=some (.string y):=d'
   clear d'
   clear hc0 hc
   have hlt:=World.block_lt_of_cell? w _ d
   go_enter Tryz.func162,Tryz.ntmps162
   go_wp2
   refine bodyPost_ret (v:=.agg #[.string a.code,.int .i64 a.cls,.bool a.cash,.bool a.both,.string y,.bool (x.toList==[119,111,114,110])]) (by simp [results,Tryz.results162,go_sem]) rfl ⟨?_,((Below.refl _ _).alloc (Nat.le_refl _) _).alloc (by simp) _⟩
   rw [←HR.out,zbf];rfl
 | x::y::z::l,hc,hm,HR =>
   clear hc0 hc
   have h1:¬ ((l.length:Int)+1+1+1=1):=by omega
   go_enter Tryz.func162,Tryz.ntmps162
   go_wp2
   refine bodyPost_ret (v:=.agg #[.string a.code,.int .i64 a.cls,.bool a.cash,.bool a.both,.string a.fixed,.bool a.worn]) (by simp [results,Tryz.results162,go_sem]) rfl ⟨?_,((Below.refl _ _).alloc (Nat.le_refl _) _).alloc (by simp) _⟩
   rw [←HR.out];rfl
end Go.Proofs.YtdhfpgjnjlcciaaGreatDoor
end
section
namespace Go.Proofs.YtdhfpgjnjlcciaaGreatDoor
open Go.RowKit
theorem qG:(Tryz.prog.info? 9).map (fun i=>(i.zero,i.size,i.bytes))=some (some (.string ⟨#[]⟩),1,16):=by kernel_rfl
def Vj (w:World) (ws:List ByteArray) (e:Ending) (w':World):Prop:=∃ v,e=.returned v∧StrsV w' v ws∧Below w.heap.size w w'
theorem jm (w:World) (x y z:ByteArray) (t:TypeId):(w.alloc (.cells #[.string x,.string y,.string z] t)).ownsRow w.heap.size t 1 (.slice (some ⟨w.heap.size,0,none⟩) 3 3) 3 ([x,y,z].map Value.string) :=
 ⟨rfl,.inr ⟨w.heap.size,3,_,rfl,Nat.le_refl _,heap_alloc_new w _,Nat.le_refl _,by unfold maxLen;omega,rfl,rfl⟩⟩
end Go.Proofs.YtdhfpgjnjlcciaaGreatDoor
namespace Go.Proofs.YtdhfpgjnjlcciaaGreatDoor.Ow
open Go.RowKit
def qw (w:World) (ws:List ByteArray) (e:Ending) (w':World):Prop:=∃ v,e=.returned v∧w'.ownsRow w.heap.size 9 1 v ws.length (ws.map Value.string)∧Below w.heap.size w w'
theorem ya {W:World} {B B':Nat} {e:TypeId} {u:Value} {ws:List ByteArray} (h:W.ownsRow B e 1 u ws.length (ws.map Value.string)) (hB:B'≤B):W.ownsRow B' e 1 u ws.length (ws.map Value.string):=zw h hB
set_option maxRecDepth 100000 in
set_option maxHeartbeats 4000000 in
theorem zgb (a:Acct) (w:World) (h:rightA a=false):Calls Tryz.prog 165 #[aggF a] w (qw w (wordsA a)):=by
 have HR:=Lib.hid (jr a)
 rw [h] at HR
 rw [xw h]
 have HB:=Lib.hid ((Below.refl w.heap.size w).alloc (Nat.le_refl _) (.cells #[.string a.code,.int .i64 a.cls,.bool a.cash,.bool a.both,.string a.fixed,.bool a.worn] 129))
 clear h
 go_enter Tryz.func165,Tryz.ntmps165
 go_wp2_with fail
 refine (HR.out _).mono ?_
 rintro e w1 ⟨rfl,hb1⟩
 have HB1:=Lib.hid hb1
 clear hb1
 go_wp2
 go_ret
 exact ⟨_,rfl,World.ownsRow_nil _ _ _ _,HB.out.trans (HB1.out.mono HB.out.size)⟩
set_option maxRecDepth 100000 in
set_option maxHeartbeats 4000000 in
theorem zbS (co:ByteArray) (cl:Int) (w:World) (hL:Laid w) (h:rightA ⟨co,cl,false,false,⟨#[]⟩,false⟩=true):Calls Tryz.prog 165 #[aggF ⟨co,cl,false,false,⟨#[]⟩,false⟩] w (qw w (wordsA ⟨co,cl,false,false,⟨#[]⟩,false⟩)):=by
 have HR:=Lib.hid (jr ⟨co,cl,false,false,⟨#[]⟩,false⟩)
 rw [h] at HR
 have hcl:=(qf h).2.1
 simp only at hcl
 have HW:Hid (wordsA ⟨co,cl,false,false,⟨#[]⟩,false⟩=[zb,co,clsW cl]):=Lib.hid (by unfold wordsA;rw [if_pos h];simp [markW,qT])
 rw [HW.out]
 obtain ⟨i0,hi,hz0,hz1,hz2⟩:=info_parts qG
 have HI:=Lib.hid (And.intro hi (And.intro hz0 (And.intro hz1 hz2)))
 clear h HW hi hz0 hz1 hz2
 have HB:=Lib.hid ((Below.refl w.heap.size w).alloc (Nat.le_refl _) (.cells #[.string co,.int .i64 cl,.bool false,.bool false,.string ⟨#[]⟩,.bool false] 129))
 have HL0:=Lib.hid (hL.below HB.out (Nat.le_refl _))
 have HX0:=Lib.hid (BoxA.new w ⟨co,cl,false,false,⟨#[]⟩,false⟩ 129)
 clear hL
 rcases hcl with rfl | rfl | rfl
 all_goals
  go_enter Tryz.func165,Tryz.ntmps165
  go_wp2_with fail
  refine (HR.out _).mono ?_
  rintro e w1 ⟨rfl,hb1⟩
  have HB1:=Lib.hid (HB.out.trans (hb1.mono HB.out.size))
  have hlt:w.heap.size < w1.heap.size:=by have:=hb1.size;simp at this;omega
  obtain ⟨g0,g1,g2⟩:=HL0.out.below hb1 (Nat.le_refl _)
  obtain ⟨c0,c1,c2,c3,c4,c5⟩:=(HX0.out.keep hb1 (by simp)).facts
  simp only at c0 c1 c2 c3 c4 c5
  clear hb1
  go_wp2
  go_region
  clear g0 g1 g2
  go_wp2
  go_ret
  exact ⟨_,rfl,zw (jm w1 zb _ _ _) HB1.out.size,below_drewN (HB1.out.alloc HB1.out.size _) 1⟩
set_option maxRecDepth 100000 in
set_option maxHeartbeats 4000000 in
theorem zdJ (co:ByteArray) (w:World) (hL:Laid w) (h:rightA ⟨co,0,true,false,⟨#[]⟩,false⟩=true):Calls Tryz.prog 165 #[aggF ⟨co,0,true,false,⟨#[]⟩,false⟩] w (qw w (wordsA ⟨co,0,true,false,⟨#[]⟩,false⟩)):=by
 have HR:=Lib.hid (jr ⟨co,0,true,false,⟨#[]⟩,false⟩)
 rw [h] at HR
 have HW:Hid (wordsA ⟨co,0,true,false,⟨#[]⟩,false⟩=[zb,co,tAsset,tCash]):=Lib.hid (by unfold wordsA;rw [if_pos h];simp [markW,clsW])
 rw [HW.out]
 obtain ⟨i0,hi,hz0,hz1,hz2⟩:=info_parts qG
 have HI:=Lib.hid (And.intro hi (And.intro hz0 (And.intro hz1 hz2)))
 clear h HW hi hz0 hz1 hz2
 have HB:=Lib.hid ((Below.refl w.heap.size w).alloc (Nat.le_refl _) (.cells #[.string co,.int .i64 0,.bool true,.bool false,.string ⟨#[]⟩,.bool false] 129))
 have HL0:=Lib.hid (hL.below HB.out (Nat.le_refl _))
 have HX0:=Lib.hid (BoxA.new w ⟨co,0,true,false,⟨#[]⟩,false⟩ 129)
 clear hL
 go_enter Tryz.func165,Tryz.ntmps165
 go_wp2_with fail
 refine (HR.out _).mono ?_
 rintro e w1 ⟨rfl,hb1⟩
 have HB1:=Lib.hid (HB.out.trans (hb1.mono HB.out.size))
 have hlt:w.heap.size < w1.heap.size:=by have:=hb1.size;simp at this;omega
 obtain ⟨g0,g1,g2⟩:=HL0.out.below hb1 (Nat.le_refl _)
 obtain ⟨c0,c1,c2,c3,c4,c5⟩:=(HX0.out.keep hb1 (by simp)).facts
 simp only at c0 c1 c2 c3 c4 c5
 clear hb1
 go_wp2
 go_region
 clear g0 g1 g2
 go_wp2_with (at_builtin;refine wpList_append_own _ rfl _ _ 105 rfl w1.heap.size 9 i0 (.string ⟨#[]⟩) 1 16 Tryz.underlying105 HI.out.1 HI.out.2.1 HI.out.2.2.1 HI.out.2.2.2 rfl (by decide) _ 3 _ rfl ((jm w1 zb _ _ _).alloc _) ⟨w1.heap.size+1,0,none⟩ 1 1 [.string tCash] rfl rfl (yZ w1 _ [.string tCash] _) (by intro u hu;simp at hu;rcases hu with rfl <;> rfl) (by unfold maxLen;omega) (by omega) (by simp;omega) ?_;intro v' w2 hown' hgrow _)
 have HF:=Lib.hid (below_grown (below_drewN ((HB1.out.alloc HB1.out.size _).alloc (by have:=HB1.out.size;simp;omega) _) 1) (by have:=HB1.out.size;simp;omega) (zw ((jm w1 zb _ _ _).alloc _) HB1.out.size) hgrow)
 go_wp2
 go_ret
 exact ⟨_,rfl,ya (ws:=[zb,co,tAsset,tCash]) hown' HB1.out.size,HF.out⟩
set_option maxRecDepth 100000 in
set_option maxHeartbeats 4000000 in
theorem zdI (co:ByteArray) (cl:Int) (w:World) (hL:Laid w) (h:rightA ⟨co,cl,false,true,⟨#[]⟩,false⟩=true) (h2:cl≠2):Calls Tryz.prog 165 #[aggF ⟨co,cl,false,true,⟨#[]⟩,false⟩] w (qw w (wordsA ⟨co,cl,false,true,⟨#[]⟩,false⟩)):=by
 have HR:=Lib.hid (jr ⟨co,cl,false,true,⟨#[]⟩,false⟩)
 rw [h] at HR
 have hcl:=(qf h).2.1
 simp only at hcl
 have HW:Hid (wordsA ⟨co,cl,false,true,⟨#[]⟩,false⟩=[zb,co,clsW cl,qA]):=Lib.hid (by unfold wordsA;rw [if_pos h];simp [markW])
 rw [HW.out]
 obtain ⟨i0,hi,hz0,hz1,hz2⟩:=info_parts qG
 have HI:=Lib.hid (And.intro hi (And.intro hz0 (And.intro hz1 hz2)))
 clear h HW hi hz0 hz1 hz2
 have HB:=Lib.hid ((Below.refl w.heap.size w).alloc (Nat.le_refl _) (.cells #[.string co,.int .i64 cl,.bool false,.bool true,.string ⟨#[]⟩,.bool false] 129))
 have HL0:=Lib.hid (hL.below HB.out (Nat.le_refl _))
 have HX0:=Lib.hid (BoxA.new w ⟨co,cl,false,true,⟨#[]⟩,false⟩ 129)
 clear hL
 rcases (by omega:cl=0∨cl=1) with rfl | rfl
 all_goals
  go_enter Tryz.func165,Tryz.ntmps165
  go_wp2_with fail
  refine (HR.out _).mono ?_
  rintro e w1 ⟨rfl,hb1⟩
  have HB1:=Lib.hid (HB.out.trans (hb1.mono HB.out.size))
  have hlt:w.heap.size < w1.heap.size:=by have:=hb1.size;simp at this;omega
  obtain ⟨g0,g1,g2⟩:=HL0.out.below hb1 (Nat.le_refl _)
  obtain ⟨c0,c1,c2,c3,c4,c5⟩:=(HX0.out.keep hb1 (by simp)).facts
  simp only at c0 c1 c2 c3 c4 c5
  clear hb1
  go_wp2
  go_region
  clear g0 g1 g2
  go_wp2_with (at_builtin;refine wpList_append_own _ rfl _ _ 105 rfl w1.heap.size 9 i0 (.string ⟨#[]⟩) 1 16 Tryz.underlying105 HI.out.1 HI.out.2.1 HI.out.2.2.1 HI.out.2.2.2 rfl (by decide) _ 3 _ rfl ((jm w1 zb _ _ _).alloc _) ⟨w1.heap.size+1,0,none⟩ 1 1 [.string qA] rfl rfl (yZ w1 _ [.string qA] _) (by intro u hu;simp at hu;rcases hu with rfl <;> rfl) (by unfold maxLen;omega) (by omega) (by simp;omega) ?_;intro v' w2 hown' hgrow _)
  have HF:=Lib.hid (below_grown (below_drewN ((HB1.out.alloc HB1.out.size _).alloc (by have:=HB1.out.size;simp;omega) _) 1) (by have:=HB1.out.size;simp;omega) (zw ((jm w1 zb _ _ _).alloc _) HB1.out.size) hgrow)
  go_wp2
  go_ret
  exact ⟨_,rfl,ya (ws:=[zb,co,_,qA]) hown' HB1.out.size,HF.out⟩
set_option maxRecDepth 100000 in
set_option maxHeartbeats 4000000 in
theorem zgo (co fi:ByteArray) (w:World) (hL:Laid w) (h:rightA ⟨co,0,false,false,fi,false⟩=true) (hf:neB fi=true):Calls Tryz.prog 165 #[aggF ⟨co,0,false,false,fi,false⟩] w (qw w (wordsA ⟨co,0,false,false,fi,false⟩)):=by
 have HR:=Lib.hid (jr ⟨co,0,false,false,fi,false⟩)
 rw [h] at HR
 have HW:Hid (wordsA ⟨co,0,false,false,fi,false⟩=[zb,co,tAsset,tFixed,fi]):=Lib.hid (by unfold wordsA;rw [if_pos h];simp [markW,clsW,hf])
 rw [HW.out]
 obtain ⟨i0,hi,hz0,hz1,hz2⟩:=info_parts qG
 have HI:=Lib.hid (And.intro hi (And.intro hz0 (And.intro hz1 hz2)))
 clear h HW hi hz0 hz1 hz2
 have HB:=Lib.hid ((Below.refl w.heap.size w).alloc (Nat.le_refl _) (.cells #[.string co,.int .i64 0,.bool false,.bool false,.string fi,.bool false] 129))
 have HL0:=Lib.hid (hL.below HB.out (Nat.le_refl _))
 have HX0:=Lib.hid (BoxA.new w ⟨co,0,false,false,fi,false⟩ 129)
 clear hL
 have HN:=Lib.hid hf
 unfold neB at hf
 go_enter Tryz.func165,Tryz.ntmps165
 go_wp2_with fail
 refine (HR.out _).mono ?_
 rintro e w1 ⟨rfl,hb1⟩
 have HB1:=Lib.hid (HB.out.trans (hb1.mono HB.out.size))
 have hlt:w.heap.size < w1.heap.size:=by have:=hb1.size;simp at this;omega
 obtain ⟨g0,g1,g2⟩:=HL0.out.below hb1 (Nat.le_refl _)
 obtain ⟨c0,c1,c2,c3,c4,c5⟩:=(HX0.out.keep hb1 (by simp)).facts
 simp only at c0 c1 c2 c3 c4 c5
 clear hb1
 go_wp2
 go_region
 clear g0 g1 g2
 go_wp2_with (at_builtin;refine wpList_append_own _ rfl _ _ 105 rfl w1.heap.size 9 i0 (.string ⟨#[]⟩) 1 16 Tryz.underlying105 HI.out.1 HI.out.2.1 HI.out.2.2.1 HI.out.2.2.2 rfl (by decide) _ 3 _ rfl ((jm w1 zb _ _ _).alloc _) ⟨w1.heap.size+1,0,none⟩ 2 2 [.string tFixed,.string fi] rfl rfl (yZ w1 _ [.string tFixed,.string fi] _) (by intro u hu;simp at hu;rcases hu with rfl | rfl <;> rfl) (by unfold maxLen;omega) (by omega) (by simp;omega) ?_;intro v' w2 hown' hgrow _)
 have HF:=Lib.hid (below_grown (below_drewN ((HB1.out.alloc HB1.out.size _).alloc (by have:=HB1.out.size;simp;omega) _) 1) (by have:=HB1.out.size;simp;omega) (zw ((jm w1 zb _ _ _).alloc _) HB1.out.size) hgrow)
 go_wp2
 go_ret
 exact ⟨_,rfl,ya (ws:=[zb,co,tAsset,tFixed,fi]) hown' HB1.out.size,HF.out⟩
set_option maxRecDepth 100000 in
set_option maxHeartbeats 4000000 in
theorem zdP (co fi:ByteArray) (w:World) (hL:Laid w) (h:rightA ⟨co,0,false,false,fi,true⟩=true):Calls Tryz.prog 165 #[aggF ⟨co,0,false,false,fi,true⟩] w (qw w (wordsA ⟨co,0,false,false,fi,true⟩)):=by
 have HR:=Lib.hid (jr ⟨co,0,false,false,fi,true⟩)
 rw [h] at HR
 have HW:Hid (wordsA ⟨co,0,false,false,fi,true⟩=[zb,co,tAsset,tWorn,fi]):=Lib.hid (by unfold wordsA;rw [if_pos h];simp [markW,clsW])
 rw [HW.out]
 obtain ⟨i0,hi,hz0,hz1,hz2⟩:=info_parts qG
 have HI:=Lib.hid (And.intro hi (And.intro hz0 (And.intro hz1 hz2)))
 clear h HW hi hz0 hz1 hz2
 have HB:=Lib.hid ((Below.refl w.heap.size w).alloc (Nat.le_refl _) (.cells #[.string co,.int .i64 0,.bool false,.bool false,.string fi,.bool true] 129))
 have HL0:=Lib.hid (hL.below HB.out (Nat.le_refl _))
 have HX0:=Lib.hid (BoxA.new w ⟨co,0,false,false,fi,true⟩ 129)
 clear hL
 go_enter Tryz.func165,Tryz.ntmps165
 go_wp2_with fail
 refine (HR.out _).mono ?_
 rintro e w1 ⟨rfl,hb1⟩
 have HB1:=Lib.hid (HB.out.trans (hb1.mono HB.out.size))
 have hlt:w.heap.size < w1.heap.size:=by have:=hb1.size;simp at this;omega
 obtain ⟨g0,g1,g2⟩:=HL0.out.below hb1 (Nat.le_refl _)
 obtain ⟨c0,c1,c2,c3,c4,c5⟩:=(HX0.out.keep hb1 (by simp)).facts
 simp only at c0 c1 c2 c3 c4 c5
 clear hb1
 go_wp2
 go_region
 clear g0 g1 g2
 go_wp2_with (at_builtin;refine wpList_append_own _ rfl _ _ 105 rfl w1.heap.size 9 i0 (.string ⟨#[]⟩) 1 16 Tryz.underlying105 HI.out.1 HI.out.2.1 HI.out.2.2.1 HI.out.2.2.2 rfl (by decide) _ 3 _ rfl ((jm w1 zb _ _ _).alloc _) ⟨w1.heap.size+1,0,none⟩ 2 2 [.string tWorn,.string fi] rfl rfl (yZ w1 _ [.string tWorn,.string fi] _) (by intro u hu;simp at hu;rcases hu with rfl | rfl <;> rfl) (by unfold maxLen;omega) (by omega) (by simp;omega) ?_;intro v' w2 hown' hgrow _)
 have HF:=Lib.hid (below_grown (below_drewN ((HB1.out.alloc HB1.out.size _).alloc (by have:=HB1.out.size;simp;omega) _) 1) (by have:=HB1.out.size;simp;omega) (zw ((jm w1 zb _ _ _).alloc _) HB1.out.size) hgrow)
 go_wp2
 go_ret
 exact ⟨_,rfl,ya (ws:=[zb,co,tAsset,tWorn,fi]) hown' HB1.out.size,HF.out⟩
theorem QL (a:Acct) (w:World) (hL:Laid w):Calls Tryz.prog 165 #[aggF a] w (qw w (wordsA a)):=by
 cases h:rightA a with
 | false=>exact zgb a w h
 | true =>
   obtain ⟨co,cl,ca,mu,fi,wo⟩:=a
   rcases xJ (qf h).2.2 with ⟨e1,e2,e3,e4⟩ | ⟨e1,e2,e3,e4,e5⟩ | ⟨e1,e2,e3,e4,e5⟩ | ⟨e1,e2,e3,e6,e4,e5⟩ | ⟨e1,e2,e3,e6,e4,e5⟩ <;> simp only at e1 e2 e3 e4 <;> subst e1 e2 e4
   ·subst e3;exact zbS co cl w hL h
   ·simp only at e5;subst e3 e5;exact zdJ co w hL h
   ·simp only at e5;subst e3;exact zdI co cl w hL h e5
   ·simp only at e5;subst e5;exact zgo co fi w hL h e6
   ·simp only at e5;subst e5;exact zdP co fi w hL h
end Go.Proofs.YtdhfpgjnjlcciaaGreatDoor.Ow
namespace Go.Proofs.YtdhfpgjnjlcciaaGreatDoor
open Go.RowKit
theorem QL (a:Acct) (w:World) (hL:Laid w):Calls Tryz.prog 165 #[aggF a] w (Vj w (wordsA a)):=by
 refine (Ow.QL a w hL).mono ?_
 rintro e w' ⟨v,rfl,ho,hb⟩
 exact ⟨v,rfl,vu ho,hb⟩
end Go.Proofs.YtdhfpgjnjlcciaaGreatDoor
end
section
namespace Go.Proofs.YtdhfpgjnjlcciaaGreatDoor
open Go.RowKit
theorem cellD (w:World) (q:Nat) (p:Addr):(w.drewN q).cell? p=w.cell? p:=rfl
def sameW (us vs:List ByteArray):Bool:=decide (us=vs)
theorem Kf {us vs:List ByteArray} (h:us.length≠vs.length):sameW us vs=false:=decide_eq_false fun e=>h (by rw [e])
theorem zaa {us vs:List ByteArray} {i:Nat} {x y:ByteArray} (hx:us[i]?=some x) (hy:vs[i]?=some y) (h:x≠y):sameW us vs=false :=
 decide_eq_false fun e=>h (by rw [e,hy] at hx;exact (Option.some.inj hx).symm)
theorem VH {us vs:List ByteArray} {n:Nat} (hu:us.length=n) (hv:vs.length=n) (h:∀ (j:Nat) (x y:ByteArray),j < n→us[j]?=some x→vs[j]?=some y→x=y):sameW us vs=true :=
 decide_eq_true (by
  apply List.ext_getElem?
  intro j
  by_cases hj:j < n
  ·rw [List.getElem?_eq_getElem (by omega),List.getElem?_eq_getElem (by omega)]
   rw [h j _ _ hj (List.getElem?_eq_getElem (by omega)) (List.getElem?_eq_getElem (by omega))]
  ·rw [List.getElem?_eq_none (by omega),List.getElem?_eq_none (by omega)])
set_option maxRecDepth 100000 in
set_option maxHeartbeats 2000000 in
theorem vg (v u:Value) (vs us:List ByteArray) (w:World) (h:StrsV w v vs) (h':StrsV w u us) :
 Calls Tryz.prog 136 #[v,u] w fun e w'=>e=.returned (.bool (sameW vs us))∧∃ q,w'=w.drewN q:=by
 obtain ⟨a,c,rfl,_,hm,hc⟩:=h
 obtain ⟨a',c',rfl,_,hm',hc'⟩:=h'
 obtain ⟨n,hn⟩:∃ n,vs.length=n:=⟨_,rfl⟩
 obtain ⟨n',hn'⟩:∃ n,us.length=n:=⟨_,rfl⟩
 obtain ⟨r,hr⟩:∃ r,sameW vs us=r:=⟨_,rfl⟩
 rw [hn] at hm ⊢
 rw [hn'] at hm' ⊢
 rw [hr]
 have H:=Lib.hid hc
 have H':=Lib.hid hc'
 have HN:=Lib.hid hn
 have HN':=Lib.hid hn'
 have HR:=Lib.hid hr
 unfold maxLen at hm hm'
 clear hc hc' hn hn' hr
 by_cases hne:n=n'
 ·subst hne
  have hnn:((n:Int) != (n:Int))=false:=by simp
  go_enter Tryz.func136,Tryz.ntmps136
  go_wp2
  go_loopg [5] n (fun kx vi wr=>∃ i q:Nat,vi=.int .i64 (i:Int)∧i≤n∧n - i≤kx∧Hid (wr=w.drewN q)∧Hid (∀ (j:Nat) (x y:ByteArray),j < i→vs[j]?=some x→us[j]?=some y→x=y))
  case atStart=>exact ⟨0,0,rfl,Nat.zero_le _,by omega,rfl,Lib.hid fun j x y hj=>absurd hj (Nat.not_lt_zero _)⟩
  case round =>
   obtain ⟨i,q,rfl,hin,hkx,HW,HA⟩:=hrel
   by_cases hlt:i < n
   ·obtain ⟨x,hx⟩:∃ y,vs[i]?=some y:=⟨_,List.getElem?_eq_getElem (by rw [HN.out];exact hlt)⟩
    obtain ⟨y,hy⟩:∃ y,us[i]?=some y:=⟨_,List.getElem?_eq_getElem (by rw [HN'.out];exact hlt)⟩
    obtain ⟨b1,o1,rfl,d1⟩:=H.out i _ hx
    obtain ⟨b2,o2,rfl,d2⟩:=H'.out i _ hy
    have HX:=Lib.hid hx
    have HY:=Lib.hid hy
    clear hx hy
    rw [←cellD w q,←HW.out] at d1 d2
    have hltz:(i:Int) < (n:Int):=by omega
    cases hxy:(x.toList==y.toList) with
    | true =>
      have HXE:=Lib.hid ((Lib.bytes_beq_iff x y).1 hxy)
      go_wp2_with fail
      go_big_quiet (fail)
      clear d1 d2 hxy
      go_wp2
      go_roundg (n - (i+1))
      case measure=>omega
      case rel=>exact ⟨i+1,q+nq,by first | rfl | go_num,by omega,Nat.le_refl _,Lib.hid (by rw [HW.out,World.drewN_drewN]),Lib.hid fun j z t hj hz ht=>by
       rcases Nat.lt_or_ge j i with h | h
       ·exact HA.out j z t h hz ht
       ·obtain rfl:j=i:=by omega
        rw [HX.out] at hz;rw [HY.out] at ht
        cases hz;cases ht;exact HXE.out⟩
    | false =>
      have HXE:=Lib.hid ((Lib.bytes_beq_false_iff x y).1 hxy)
      go_wp2_with fail
      go_big_quiet (fail)
      clear d1 d2 hxy
      go_wp2
      go_ret
      exact ⟨zk (by rw [←HR.out,zaa HX.out HY.out HXE.out]),q+nq,by rw [HW.out,World.drewN_drewN]⟩
   ·have hltz:¬ (i:Int) < (n:Int):=by omega
    go_wp2
    go_ret
    exact ⟨zk (by rw [←HR.out,VH HN.out HN'.out fun j x y hj=>HA.out j x y (by omega)]),q,HW.out⟩
 ·have hnn:((n:Int) != (n':Int))=true:=by simp;omega
  have HNE:=Lib.hid hne
  clear hne
  go_enter Tryz.func136,Tryz.ntmps136
  go_wp2
  go_ret
  exact ⟨zk (by rw [←HR.out,Kf (by rw [HN.out,HN'.out];exact HNE.out)]),0,rfl⟩
set_option maxRecDepth 100000 in
set_option maxHeartbeats 2000000 in
theorem zhf (v u:Value) (vs us:List ByteArray) (w:World) (h:StrsV w v vs) (h':StrsV w u us) :
 Calls Tryz.prog 164 #[v,u] w fun e w'=>e=.returned (.bool (sameW vs us))∧∃ q,w'=w.drewN q:=by
 obtain ⟨a,c,rfl,_,hm,hc⟩:=h
 obtain ⟨a',c',rfl,_,hm',hc'⟩:=h'
 obtain ⟨n,hn⟩:∃ n,vs.length=n:=⟨_,rfl⟩
 obtain ⟨n',hn'⟩:∃ n,us.length=n:=⟨_,rfl⟩
 obtain ⟨r,hr⟩:∃ r,sameW vs us=r:=⟨_,rfl⟩
 rw [hn] at hm ⊢
 rw [hn'] at hm' ⊢
 rw [hr]
 have H:=Lib.hid hc
 have H':=Lib.hid hc'
 have HN:=Lib.hid hn
 have HN':=Lib.hid hn'
 have HR:=Lib.hid hr
 unfold maxLen at hm hm'
 clear hc hc' hn hn' hr
 by_cases hne:n=n'
 ·subst hne
  have hnn:((n:Int) != (n:Int))=false:=by simp
  go_enter Tryz.func164,Tryz.ntmps164
  go_wp2
  go_loopg [13] n (fun kx vi wr=>∃ i q:Nat,vi=.int .i64 (i:Int)∧i≤n∧n - i≤kx∧Hid (wr=w.drewN q)∧Hid (∀ (j:Nat) (x y:ByteArray),j < i→vs[j]?=some x→us[j]?=some y→x=y))
  case atStart=>exact ⟨0,0,rfl,Nat.zero_le _,by omega,rfl,Lib.hid fun j x y hj=>absurd hj (Nat.not_lt_zero _)⟩
  case round =>
   obtain ⟨i,q,rfl,hin,hkx,HW,HA⟩:=hrel
   by_cases hlt:i < n
   ·obtain ⟨x,hx⟩:∃ y,vs[i]?=some y:=⟨_,List.getElem?_eq_getElem (by rw [HN.out];exact hlt)⟩
    obtain ⟨y,hy⟩:∃ y,us[i]?=some y:=⟨_,List.getElem?_eq_getElem (by rw [HN'.out];exact hlt)⟩
    obtain ⟨b1,o1,rfl,d1⟩:=H.out i _ hx
    obtain ⟨b2,o2,rfl,d2⟩:=H'.out i _ hy
    have HX:=Lib.hid hx
    have HY:=Lib.hid hy
    clear hx hy
    rw [←cellD w q,←HW.out] at d1 d2
    have hltz:(i:Int) < (n:Int):=by omega
    cases hxy:(x.toList==y.toList) with
    | true =>
      have HXE:=Lib.hid ((Lib.bytes_beq_iff x y).1 hxy)
      go_wp2_with fail
      go_big_quiet (fail)
      clear d1 d2 hxy
      go_wp2
      go_roundg (n - (i+1))
      case measure=>omega
      case rel=>exact ⟨i+1,q+nq,by first | rfl | go_num,by omega,Nat.le_refl _,Lib.hid (by rw [HW.out,World.drewN_drewN]),Lib.hid fun j z t hj hz ht=>by
       rcases Nat.lt_or_ge j i with h | h
       ·exact HA.out j z t h hz ht
       ·obtain rfl:j=i:=by omega
        rw [HX.out] at hz;rw [HY.out] at ht
        cases hz;cases ht;exact HXE.out⟩
    | false =>
      have HXE:=Lib.hid ((Lib.bytes_beq_false_iff x y).1 hxy)
      go_wp2_with fail
      go_big_quiet (fail)
      clear d1 d2 hxy
      go_wp2
      go_ret
      exact ⟨zk (by rw [←HR.out,zaa HX.out HY.out HXE.out]),q+nq,by rw [HW.out,World.drewN_drewN]⟩
   ·have hltz:¬ (i:Int) < (n:Int):=by omega
    go_wp2
    go_ret
    exact ⟨zk (by rw [←HR.out,VH HN.out HN'.out fun j x y hj=>HA.out j x y (by omega)]),q,HW.out⟩
 ·have hnn:((n:Int) != (n':Int))=true:=by simp;omega
  have HNE:=Lib.hid hne
  clear hne
  go_enter Tryz.func164,Tryz.ntmps164
  go_wp2
  go_ret
  exact ⟨zk (by rw [←HR.out,Kf (by rw [HN.out,HN'.out];exact HNE.out)]),0,rfl⟩
end Go.Proofs.YtdhfpgjnjlcciaaGreatDoor
end
section
namespace Go.Proofs.YtdhfpgjnjlcciaaGreatDoor
open Go.RowKit
theorem Jq {P:Program} {t:TypeId} (ht:P.underlying t=some (.slice (P.elem t))) (hs:∀ w,(sizeOf (P.elem t)).run P w=.ok 1 w) {w:World} {p:Option Addr} {n c k:Nat} {ws:List ByteArray}
 (h:StrsV w (.slice p n c) ws) (hk:k≤n):∃ v,(∀ w',(Instr.slice t (.slice p n c) (some (.int .i64 (k:Int))) none none).run P w'=.ok v w')∧StrsV w v (ws.drop k):=by
 obtain ⟨p',c',e,h1,h2,hc⟩:=h
 injection e with e1 e2 e3
 subst e1 e2 e3
 refine ⟨sliced p k ws.length c 1,fun w'=>?_,?_⟩
 ·rw [run_slice_l w' t p _ c ht .i64 (k:Int) (by omega) (by omega),hs];simp [Result.andThen]
 ·cases p with
  | none =>
    refine ⟨none,c - k,by simp [sliced],by simp;omega,by simp;omega,fun i x hx=>?_⟩
    rw [List.getElem?_drop] at hx
    obtain ⟨b,o,e,_⟩:=hc _ x hx
    cases e
  | some ad =>
    by_cases hck:c=k
    ·subst hck
     refine ⟨some ad,0,by simp [sliced],by simp;omega,by simp;omega,fun i x hx=>?_⟩
     rw [List.getElem?_drop] at hx
     have:=(List.getElem?_eq_some_iff.1 hx).1
     omega
    ·refine ⟨some (ad.add k),c - k,by simp [sliced,hck],by simp;omega,by simp;omega,fun i x hx=>?_⟩
     rw [List.getElem?_drop] at hx
     obtain ⟨b,o,e,h3⟩:=hc _ x hx
     cases e
     exact ⟨b,o+k,by rw [zl],by rw [Nat.add_assoc];exact h3⟩
theorem zhy:Tryz.prog.underlying 105=some (.slice (Tryz.prog.elem 105)):=by kernel_rfl
theorem zfh (w:World):(sizeOf (Tryz.prog.elem 105)).run Tryz.prog w=.ok 1 w:=by kernel_rfl
abbrev put6 (w:World) (g:Nat) (a:Acct):World :=
 (((((w.setCell ⟨g,0,none⟩ (.string a.code)).setCell ⟨g,1,none⟩ (.int .i64 a.cls)).setCell ⟨g,2,none⟩ (.bool a.cash)).setCell ⟨g,3,none⟩ (.bool a.both)).setCell ⟨g,4,none⟩ (.string a.fixed)).setCell ⟨g,5,none⟩ (.bool a.worn)
theorem zik {w:World} {g:Nat} {t:TypeId} {z:Acct} (h:BoxA w g t z) (a:Acct):put6 w g a=w.setRow g #[.string a.code,.int .i64 a.cls,.bool a.cash,.bool a.both,.string a.fixed,.bool a.worn]:=by
 unfold BoxA at h
 unfold put6
 rw [setCell_eq_setRow w g 0 _ t (0,0) _ h,
  setCell_eq_setRow _ g 1 _ t (0,0) _ (setRow_heap w g _ _ t _ h),setRow_setRow,
  setCell_eq_setRow _ g 2 _ t (0,0) _ (setRow_heap w g _ _ t _ h),setRow_setRow,
  setCell_eq_setRow _ g 3 _ t (0,0) _ (setRow_heap w g _ _ t _ h),setRow_setRow,
  setCell_eq_setRow _ g 4 _ t (0,0) _ (setRow_heap w g _ _ t _ h),setRow_setRow,
  setCell_eq_setRow _ g 5 _ t (0,0) _ (setRow_heap w g _ _ t _ h),setRow_setRow]
 simp
theorem Jv {w:World} {g:Nat} {t:TypeId} {z:Acct} (h:BoxA w g t z) (a:Acct):BoxA (put6 w g a) g t a∧w.grownBy (put6 w g a) (some g):=by
 rw [zik h a];exact ⟨h.set a,QE w g _⟩
theorem BoxA.free {w:World} {b:Nat} {t:TypeId} {a:Acct} (h:BoxA w b t a) (o:Nat):w.frozen? ⟨b,o,none⟩=false:=by unfold BoxA at h;simp [World.frozen?,h]
abbrev zcells:Array Value:=#[.string ⟨#[]⟩,.int .i64 0,.bool false,.bool false,.string ⟨#[]⟩,.bool false]
theorem KJ {B:Nat} {w w':World} (h:Below B w.drew w'):Below B w w':=⟨h.os,h.tape,h.output,h.size,h.block⟩
def jx (w wx:World) (g:Nat) (A:Acct):Prop:=BoxA wx g 129 A∧w.heap.size < g∧Below (w.heap.size+1) (w.alloc (.cells zcells 129)) wx
theorem zbk {w W0 w5:World} {A M:Acct} (hW:w.alloc (.cells zcells 129)=W0) (hA:M=A) (hb5:Below W0.drew.heap.size W0.drew w5) :
 jx w (w5.alloc (.cells #[.string M.code,.int .i64 M.cls,.bool M.cash,.bool M.both,.string M.fixed,.bool M.worn] 129)) w5.heap.size A:=by
 subst hA
 have hz:W0.heap.size=w.heap.size+1:=by rw [←hW];simp
 have hb:Below (w.heap.size+1) W0 w5:=by rw [←hz];exact KJ hb5
 refine ⟨BoxA.new w5 M _,?_,?_⟩
 ·have:=hb.size;omega
 ·rw [hW];exact hb.alloc (by have:=hb.size;omega) _
theorem zdX {w W0 w5:World} {A M:Acct} (hW:w.alloc (.cells zcells 129)=W0) (hA:M=A) (hx:BoxA w5 W0.heap.size 129 zeroA) (hb5:Below (W0.alloc (.cells zcells 129)).drew.heap.size (W0.alloc (.cells zcells 129)).drew w5) :
 jx w (put6 w5 W0.heap.size M) W0.heap.size A:=by
 subst hA
 have hz:W0.heap.size=w.heap.size+1:=by rw [←hW];simp
 have hb:Below W0.heap.size W0 w5:=((Below.refl W0.heap.size W0).alloc (Nat.le_refl _) _).trans ((KJ hb5).mono (by simp))
 obtain ⟨h1,h2⟩:=Jv hx M
 refine ⟨h1,by omega,?_⟩
 rw [hW,←hz]
 exact hb.grown h2 hb.size (fun j hj=>by cases hj;exact Nat.le_refl _)
set_option maxRecDepth 100000 in
set_option maxHeartbeats 8000000 in
theorem yc (v:Value) (ws:List ByteArray) (w:World) (h:StrsV w v ws) (hL:Laid w) :
 Calls Tryz.prog 123 #[v] w fun e w'=>e=.returned (.tuple #[aggF (parseA ws).1,.int .i64 (parseA ws).2])∧Below w.heap.size w w':=by
 have HV:=Lib.hid h
 obtain ⟨p,c,rfl,hcap,hm,hc⟩:=h
 obtain ⟨n,hn⟩:∃ n,ws.length=n:=⟨_,rfl⟩
 rw [hn] at hcap hm HV ⊢
 unfold maxLen at hm
 have HB0:=Lib.hid ((Below.refl w.heap.size w).alloc (Nat.le_refl _) (.cells zcells 129))
 have HX0:=Lib.hid (BoxA.new w zeroA 129)
 by_cases h3:n < 3
 ·have hP:Hid (parseA ws=(zeroA,5)):=Lib.hid (by unfold parseA;rw [if_pos (by rw [hn];exact h3)])
  rw [hP.out]
  have H3:=Lib.hid h3
  clear hn hc
  go_enter Tryz.func123,Tryz.ntmps123
  go_wp2
  refine bodyPost_ret (v:=.tuple #[aggF zeroA,.int .i64 5]) (by simp [results,Tryz.results123,go_sem,zeroA]) rfl ⟨rfl,HB0.out⟩
 ·obtain ⟨A,hA⟩:∃ A,candA ws=A:=⟨_,rfl⟩
  obtain ⟨x1,hx1⟩:∃ x,ws[1]?=some x:=⟨_,List.getElem?_eq_getElem (by omega)⟩
  obtain ⟨x2,hx2⟩:∃ x,ws[2]?=some x:=⟨_,List.getElem?_eq_getElem (by omega)⟩
  obtain ⟨b,o,rfl,k1⟩:=hc 1 x1 hx1
  obtain ⟨b',o',e',k2⟩:=hc 2 x2 hx2
  cases e'
  obtain ⟨v3,hv3,hs3⟩:=Jq zhy zfh HV.out (k:=3) (by omega)
  have HA:Hid (qU ⟨x1,clsOf x2,false,false,⟨#[]⟩,false⟩ (ws.drop 3)=A):=Lib.hid (by
   rw [←hA];unfold candA
   rw [List.getD_eq_getElem?_getD,List.getD_eq_getElem?_getD,hx1,hx2];rfl)
  have HP:Hid (parseA ws=if wordsA A=ws then (A,0) else (zeroA,5)):=Lib.hid (by unfold parseA;rw [if_neg (by rw [hn];exact h3),hA])
  obtain ⟨R,hR⟩:∃ R,parseA ws=R:=⟨_,rfl⟩
  rw [hR] at HP ⊢
  have HN:=Lib.hid hn
  have HL0:=Lib.hid (hL.below HB0.out (Nat.le_refl _))
  have HS0:=Lib.hid (hs3.keep HB0.out)
  have HV0:=Lib.hid (HV.out.keep HB0.out)
  have j1:=cell_later HB0.out k1
  have j2:=cell_later HB0.out k2
  clear hA hx1 hx2 hc hn hR hL k1 k2 hs3
  obtain ⟨W0,hW0⟩:∃ W0,w.alloc (.cells zcells 129)=W0:=⟨_,rfl⟩
  have HSZ:Hid (W0.heap.size=w.heap.size+1):=Lib.hid (by rw [←hW0];simp)
  have HX1:Hid (BoxA W0 w.heap.size 129 zeroA):=Lib.hid (by rw [←hW0];exact HX0.out)
  rw [hW0] at HB0 HL0 HS0 HV0 j1 j2
  clear HX0
  go_enter Tryz.func123,Tryz.ntmps123
  go_upto_region 3 with (fail)
  have HW0:=Lib.hid hW0
  clear hW0
  go_cut [4] (fun s4 wx=>∃ g,s4=.pointer (some ⟨g,0,none⟩)∧jx w wx g A)
  case first =>
   have hv:∀ w',(Instr.slice 105 (.slice (some ⟨b,o,none⟩) n c) (some (.int .i64 3)) none none).run Tryz.prog w'=.ok v3 w':=hv3
   clear hv3
   have l1:(1:Int) < (n:Int):=by omega
   have l2:(2:Int) < (n:Int):=by omega
   have n1:=cell_later ((Below.refl W0.heap.size W0).alloc (Nat.le_refl _) (.cells zcells 129)) j1
   have n2:=cell_later ((Below.refl W0.heap.size W0).alloc (Nat.le_refl _) (.cells zcells 129)) j2
   have y1:W0.drew.cell? ⟨b,o+1,none⟩=some (.string x1):=j1
   have y2:W0.drew.cell? ⟨b,o+2,none⟩=some (.string x2):=j2
   have z1:(W0.alloc (.cells zcells 129)).drew.cell? ⟨b,o+1,none⟩=some (.string x1):=n1
   have z2:(W0.alloc (.cells zcells 129)).drew.cell? ⟨b,o+2,none⟩=some (.string x2):=n2
   have HLa:=Lib.hid (HL0.out.below ((Below.refl W0.heap.size W0).alloc (Nat.le_refl _) (.cells zcells 129)) (Nat.le_refl _))
   have HSa:=Lib.hid (HS0.out.keep ((Below.refl W0.heap.size W0).alloc (Nat.le_refl _) (.cells zcells 129)))
   have HNE:Hid (some b≠some W0.heap.size):=Lib.hid (fun e=>World.new_ne W0 _ j1 (Option.some.inj e).symm)
   have HXa:=Lib.hid (BoxA.new W0 zeroA 129)
   go_region_held3 (fun w'=>w'.cell? ⟨b,o+1,none⟩=some (.string x1)∧w'.cell? ⟨b,o+2,none⟩=some (.string x2))
    (first | (with_reducible exact ⟨j1,j2⟩) | (with_reducible exact ⟨y1,y2⟩) | (with_reducible exact ⟨n1,n2⟩) | (with_reducible exact ⟨z1,z2⟩) | (with_reducible exact ⟨m1,m2⟩) | (with_reducible exact ⟨p1 _,p2 _⟩) | (with_reducible exact ⟨s1,s2⟩) | fail)
    (first
     | (go_at_call 163;refine (zaI x2 W0.drew ⟨HL0.out.g0,HL0.out.g1,HL0.out.g2⟩).mono ?_;rintro e w' ⟨rfl,rfl⟩)
     | (go_at_call 163;refine (zaI x2 (W0.alloc (.cells zcells 129)).drew ⟨HLa.out.g0,HLa.out.g1,HLa.out.g2⟩).mono ?_;rintro e w' ⟨rfl,rfl⟩)
     | (go_at_call 162;refine (Y1 ⟨x1,clsOf x2,false,false,⟨#[]⟩,false⟩ v3 (ws.drop 3) W0.drew HS0.out).mono ?_;rintro e w5 ⟨rfl,hb5⟩;have m1:=cell_later hb5 j1;have m2:=cell_later hb5 j2;have p1:=fun C:Array Value=>cell_later ((Below.refl w5.heap.size w5).alloc (Nat.le_refl _) (.cells C 129)) m1;have p2:=fun C:Array Value=>cell_later ((Below.refl w5.heap.size w5).alloc (Nat.le_refl _) (.cells C 129)) m2)
     | (go_at_call 162;refine (Y1 ⟨x1,clsOf x2,false,false,⟨#[]⟩,false⟩ v3 (ws.drop 3) (W0.alloc (.cells zcells 129)).drew HSa.out).mono ?_;rintro e w5 ⟨rfl,hb5⟩;have m1:=cell_later hb5 n1;have m2:=cell_later hb5 n2;have HX5:Hid (BoxA w5 W0.heap.size 129 zeroA):=Lib.hid (BoxA.keep (w:=(W0.alloc (.cells zcells 129)).drew) HXa.out hb5 (by simp));obtain ⟨d0,d1,d2,d3,d4,d5⟩:=HX5.out.facts;have f0:=HX5.out.free 0;have f1:=HX5.out.free 1;have f2:=HX5.out.free 2;have f3:=HX5.out.free 3;have f4:=HX5.out.free 4;have f5:=HX5.out.free 5;have s1:=(Jv HX5.out (qU ⟨x1,clsOf x2,false,false,⟨#[]⟩,false⟩ (ws.drop 3))).2.cell m1 HNE.out;have s2:=(Jv HX5.out (qU ⟨x1,clsOf x2,false,false,⟨#[]⟩,false⟩ (ws.drop 3))).2.cell m2 HNE.out)
     | fail)
   all_goals
    go_wp2_with fail
    go_meet
    case rel =>
     refine ⟨_,rfl,?_⟩
     first | (with_reducible exact zbk HW0.out HA.out hb5) | (with_reducible exact zdX HW0.out HA.out HX5.out hb5)
  case rest =>
   obtain ⟨g,rfl,hP⟩:=hcut
   rename World=>wx
   obtain ⟨hx,hg,hb⟩:=hP
   rw [HW0.out] at hb
   rw [←HSZ.out] at hb
   have HXR:=Lib.hid (HX1.out.keep hb (by rw [HSZ.out];omega))
   have HBX:=Lib.hid (HB0.out.trans (hb.mono (by rw [HSZ.out];omega)))
   have HLX:=Lib.hid (HL0.out.below hb (Nat.le_refl _))
   have HVX:=Lib.hid (HV0.out.keep hb)
   have HX:=Lib.hid hx
   obtain ⟨d0,d1,d2,d3,d4,d5⟩:=hx.facts
   have hlt:w.heap.size < wx.heap.size:=by have:=hb.size;rw [HSZ.out] at this;omega
   have hgx:g < wx.heap.size:=World.block_lt_of_cell? wx _ d0
   clear hx hb hv3 j1 j2
   go_wp2_with fail
   clear d0 d1 d2 d3 d4 d5
   refine (QL A _ HLX.out).mono ?_
   rintro e w6 ⟨v6,rfl,hs6,hb6⟩
   have HS6:=Lib.hid hs6
   have HV6:=Lib.hid (HVX.out.keep hb6)
   have HXR6:=Lib.hid (HXR.out.keep hb6 hlt)
   have HX6:=Lib.hid (HX.out.keep hb6 hgx)
   have HB6:=Lib.hid (HBX.out.trans (hb6.mono HBX.out.size))
   clear hs6 hb6
   go_wp2_with fail
   refine (zhf _ _ _ ws _ HS6.out HV6.out).mono ?_
   rintro e w7 ⟨rfl,q,hq⟩
   have HXR7:Hid (BoxA w7 w.heap.size 129 zeroA):=Lib.hid (by rw [hq];exact HXR6.out)
   have HX7:Hid (BoxA w7 g 129 A):=Lib.hid (by rw [hq];exact HX6.out)
   have HB7:Hid (Below w.heap.size w w7):=Lib.hid (by rw [hq];exact below_drewN HB6.out q)
   clear hq
   by_cases hw:wordsA A=ws
   ·have hsm:Hid (sameW (wordsA A) ws=true):=Lib.hid (decide_eq_true hw)
    have hRR:Hid (R=(A,0)):=Lib.hid (by rw [HP.out,if_pos hw])
    rw [hsm.out]
    clear hw
    obtain ⟨d0,d1,d2,d3,d4,d5⟩:=HX7.out.facts
    go_wp2_with (refine qp rfl 129 (.tmp 2) (.tmp 26) rfl w.heap.size zeroA A 129 rfl rfl HXR7.out (by kernel_rfl) ?_;intro w8 hb8 hg8)
    have HF:=Lib.hid (HB7.out.grown hg8 HB7.out.size (fun j hj=>by cases hj;exact Nat.le_refl _))
    obtain ⟨t0,t1,t2,t3,t4,t5⟩:=hb8.facts
    clear hb8 hg8
    refine bodyPost_ret (v:=.tuple #[aggF A,.int .i64 0]) (by simp [results,Tryz.results123,go_sem,t0,t1,t2,t3,t4,t5]) rfl ⟨by rw [hRR.out],HF.out⟩
   ·have hsm:Hid (sameW (wordsA A) ws=false):=Lib.hid (decide_eq_false hw)
    have hRR:Hid (R=(zeroA,5)):=Lib.hid (by rw [HP.out,if_neg hw])
    rw [hsm.out]
    clear hw
    go_wp2_with (refine qp rfl 129 (.tmp 2) (.tmp 25) rfl w.heap.size zeroA zeroA 129 rfl rfl HXR7.out (by kernel_rfl) ?_;intro w8 hb8 hg8)
    have HF:=Lib.hid (HB7.out.grown hg8 HB7.out.size (fun j hj=>by cases hj;exact Nat.le_refl _))
    obtain ⟨t0,t1,t2,t3,t4,t5⟩:=hb8.facts
    clear hb8 hg8
    refine bodyPost_ret (v:=.tuple #[aggF zeroA,.int .i64 5]) (by simp [results,Tryz.results123,go_sem,t0,t1,t2,t3,t4,t5]) rfl ⟨by rw [hRR.out],HF.out⟩
end Go.Proofs.YtdhfpgjnjlcciaaGreatDoor
end
section
namespace Go.Proofs.YtdhfpgjnjlcciaaGreatDoor.Un
open Go.RowKit
theorem qL (s t:ByteArray) (l:List UInt8) (h:t.data.toList=l):(s.toList==l)=decide (s=t):=by
 have e:t.toList=l:=by rw [ByteArray.toList_eq,h]
 rw [←e,Bool.eq_iff_iff,decide_eq_true_eq]
 exact ⟨fun h=>(Lib.bytes_beq_iff s t).1 h,fun h=>(Lib.bytes_beq_iff s t).2 h⟩
theorem qGroup (s:ByteArray):(s.toList==[103,114,111,117,112])=decide (s=tGroup):=qL s tGroup _ rfl
theorem yB (s:ByteArray):(s.toList==[114,101,115,101,114,118,101])=decide (s=zI):=qL s zI _ rfl
theorem ku (s:ByteArray):(s.toList==[100,105,102,102,101,114])=decide (s=zD):=qL s zD _ rfl
theorem qMinor (s:ByteArray):(s.toList==[109,105,110,111,114])=decide (s=tMinor):=qL s tMinor _ rfl
theorem qStake (s:ByteArray):(s.toList==[115,116,97,107,101])=decide (s=tStake):=qL s tStake _ rfl
theorem qo (s:ByteArray):(s.toList==[101,110,116,105,116,121])=decide (s=zm):=qL s zm _ rfl
theorem qMap (s:ByteArray):(s.toList==[109,97,112])=decide (s=tMap):=qL s tMap _ rfl
theorem vZ (s:ByteArray):(s.toList==[97,99,99,111,117,110,116])=decide (s=zb):=qL s zb _ rfl
theorem qFlow (s:ByteArray):(s.toList==[102,108,111,119])=decide (s=Fl.tFlow):=qL s Fl.tFlow _ rfl
theorem zd2 {h:ByteArray} (h1:h≠tGroup) (h2:h≠zI) (h3:h≠zD) (h4:h≠tMinor) (h5:h≠tStake) (h6:h≠zm) (h7:h≠tMap):lenW h=0:=by
 unfold lenW
 rw [if_neg (by simp [h1,h2,h3,h4,h5]),if_neg h6,if_neg h7]
theorem VY {h:ByteArray} (h1:h=tGroup∨h=zI∨h=zD∨h=tMinor∨h=tStake):lenW h=2:=by unfold lenW;rw [if_pos h1]
theorem Xv {h:ByteArray} (h1:h=zm):lenW h=3:=by subst h1;decide
theorem Kx {h:ByteArray} (h1:h=tMap):lenW h=4:=by subst h1;decide
set_option maxRecDepth 100000 in
set_option maxHeartbeats 2000000 in
theorem zcG (s:ByteArray) (w:World) :
 Calls Tryz.prog 127 #[.string s] w fun en w'=>en=.returned (.int .i64 (lenW s))∧w'=w:=by
 have g1:=qGroup s
 have g2:=yB s
 have g3:=ku s
 have g4:=qMinor s
 have g5:=qStake s
 have g6:=qo s
 have g7:=qMap s
 have n2:=VY (h:=s)
 have n3:=Xv (h:=s)
 have n4:=Kx (h:=s)
 have n0:=zd2 (h:=s)
 obtain ⟨N,hN⟩:∃ N,lenW s=N:=⟨_,rfl⟩
 rw [hN] at n2 n3 n4 n0 ⊢
 clear hN
 by_cases h1:s=tGroup
 ·have HN:=Lib.hid (n2 (by simp [h1]))
  rw [decide_eq_true h1] at g1
  clear h1 n2 n3 n4 n0
  go_enter Tryz.func127,Tryz.ntmps127
  go_wp2
  go_ret
  exact ⟨by rw [HN.out];rfl,rfl⟩
 rw [decide_eq_false h1] at g1
 by_cases h2:s=zI
 ·have HN:=Lib.hid (n2 (by simp [h2]))
  rw [decide_eq_true h2] at g2
  clear h2 n2 n3 n4 n0 h1
  go_enter Tryz.func127,Tryz.ntmps127
  go_wp2
  go_ret
  exact ⟨by rw [HN.out];rfl,rfl⟩
 rw [decide_eq_false h2] at g2
 by_cases h3:s=zD
 ·have HN:=Lib.hid (n2 (by simp [h3]))
  rw [decide_eq_true h3] at g3
  clear h3 n2 n3 n4 n0 h1 h2
  go_enter Tryz.func127,Tryz.ntmps127
  go_wp2
  go_ret
  exact ⟨by rw [HN.out];rfl,rfl⟩
 rw [decide_eq_false h3] at g3
 by_cases h4:s=tMinor
 ·have HN:=Lib.hid (n2 (by simp [h4]))
  rw [decide_eq_true h4] at g4
  clear h4 n2 n3 n4 n0 h1 h2 h3
  go_enter Tryz.func127,Tryz.ntmps127
  go_wp2
  go_ret
  exact ⟨by rw [HN.out];rfl,rfl⟩
 rw [decide_eq_false h4] at g4
 by_cases h5:s=tStake
 ·have HN:=Lib.hid (n2 (by simp [h5]))
  rw [decide_eq_true h5] at g5
  clear h5 n2 n3 n4 n0 h1 h2 h3 h4
  go_enter Tryz.func127,Tryz.ntmps127
  go_wp2
  go_ret
  exact ⟨by rw [HN.out];rfl,rfl⟩
 rw [decide_eq_false h5] at g5
 by_cases h6:s=zm
 ·have HN:=Lib.hid (n3 h6)
  rw [decide_eq_true h6] at g6
  clear h6 n2 n3 n4 n0 h1 h2 h3 h4 h5
  go_enter Tryz.func127,Tryz.ntmps127
  go_wp2
  go_ret
  exact ⟨by rw [HN.out];rfl,rfl⟩
 rw [decide_eq_false h6] at g6
 by_cases h7:s=tMap
 ·have HN:=Lib.hid (n4 h7)
  rw [decide_eq_true h7] at g7
  clear h7 n2 n3 n4 n0 h1 h2 h3 h4 h5 h6
  go_enter Tryz.func127,Tryz.ntmps127
  go_wp2
  go_ret
  exact ⟨by rw [HN.out];rfl,rfl⟩
 rw [decide_eq_false h7] at g7
 have HN:=Lib.hid (n0 h1 h2 h3 h4 h5 h6 h7)
 clear h1 h2 h3 h4 h5 h6 h7 n2 n3 n4 n0
 go_enter Tryz.func127,Tryz.ntmps127
 go_wp2
 go_ret
 exact ⟨by rw [HN.out];rfl,rfl⟩
theorem zga {ws:List ByteArray} (h0:0 < ws.length):zj ws=(decide ((ws.length:Int)=lenW (wd ws 0)) && (ws.drop 1).all nmB):=by
 unfold zj namesW
 rw [decide_eq_true h0,Bool.true_and]
def SoFarS {α:Type} (p:α→Bool) (L:List α) (i:Nat):Prop:=∀ (j:Nat) (x:α),j < i→L[j]?=some x→p x=true
theorem XR:Tryz.prog.underlying 105=some (.slice (Tryz.prog.elem 105)):=by kernel_rfl
theorem Kn (w:World):(sizeOf (Tryz.prog.elem 105)).run Tryz.prog w=.ok 1 w:=by kernel_rfl
theorem jd {ws:List ByteArray} {i:Nat} {x:ByteArray} (h:ws[i]?=some x):wd ws i=x:=by unfold wd;rw [List.getD_eq_getElem?_getD,h];rfl
set_option maxRecDepth 100000 in
set_option maxHeartbeats 2000000 in
theorem VK (v:Value) (ws:List ByteArray) (w:World) (h:StrsV w v ws) (h0:0 < ws.length) :
 Calls Tryz.prog 88 #[v] w fun en w'=>en=.returned (.bool (zj ws))∧w'=w:=by
 have HV:=Lib.hid h
 obtain ⟨p,c,rfl,hcap,hm,hc⟩:=h
 obtain ⟨x0,hx0⟩:∃ x,ws[0]?=some x:=⟨_,List.getElem?_eq_getElem h0⟩
 obtain ⟨b,o,rfl,k0⟩:=hc 0 x0 hx0
 rw [Nat.add_zero] at k0
 have hfp:=zga h0
 rw [jd hx0] at hfp
 obtain ⟨n,hn⟩:∃ n,ws.length=n:=⟨_,rfl⟩
 rw [hn] at hfp HV hcap hm h0 ⊢
 unfold maxLen at hm
 obtain ⟨N,hN⟩:∃ N,lenW x0=N:=⟨_,rfl⟩
 have HLA:=Lib.hid (fun W=>zcG x0 W)
 simp only [hN] at HLA
 rw [hN] at hfp
 obtain ⟨r,hr⟩:∃ r,zj ws=r:=⟨_,rfl⟩
 rw [hr] at hfp ⊢
 have HFP:=Lib.hid hfp
 have HN:=Lib.hid hn
 clear hfp hr hN hx0 hc hn
 by_cases hl:(n:Int)=N
 ·have HFP2:Hid (r=(ws.drop 1).all nmB):=Lib.hid (by rw [HFP.out,decide_eq_true hl,Bool.true_and])
  obtain ⟨v1,hv1,hs1⟩:=Jq XR Kn HV.out (k:=1) (by omega)
  obtain ⟨p1,c1,rfl,hcap1,hm1,hc1⟩:=hs1
  have HC1:=Lib.hid hc1
  obtain ⟨n1,hn1⟩:∃ n1,(ws.drop 1).length=n1:=⟨_,rfl⟩
  rw [hn1] at hv1 hcap1 hm1
  have HN1:=Lib.hid hn1
  unfold maxLen at hm1
  have HVE:=Lib.hid hv1
  clear hc1 hn1 hv1
  subst hl
  go_enter Tryz.func88,Tryz.ntmps88
  go_wp2_with fail
  refine (HLA.out _).mono ?_
  rintro en w1 ⟨rfl,rfl⟩
  have hv1:=HVE.out
  simp only [Int.natCast_one] at hv1
  go_wp2
  clear hv1
  go_loop [15] (fun s15=>∃ i:Nat,i≤n1∧s15=.int .i64 (i:Int)∧Hid (SoFarS nmB (ws.drop 1) i)) (fun s15=>n1 - (intOf s15).toNat)
  case atStart=>exact ⟨0,Nat.zero_le _,rfl,Lib.hid (fun j x hj=>absurd hj (Nat.not_lt_zero _))⟩
  case round =>
   obtain ⟨i,hi,rfl,HSF⟩:=hrel
   by_cases hlt:i < n1
   ·obtain ⟨x,hx⟩:∃ x,(ws.drop 1)[i]?=some x:=⟨_,List.getElem?_eq_getElem (by rw [HN1.out];exact hlt)⟩
    obtain ⟨b2,o2,rfl,q0⟩:=HC1.out i x hx
    have HX:=Lib.hid hx
    obtain ⟨bb,hbb⟩:∃ bb,nmB x=bb:=⟨_,rfl⟩
    have HNA:=Lib.hid (fun W=>jS x W)
    have hnm:nameL x.data.toList=bb:=hbb
    simp only [hnm] at HNA
    have HBB:=Lib.hid hbb
    clear hx hnm hbb
    cases bb with
    | false =>
      have HRF:Hid (r=false):=Lib.hid (by
       rw [HFP2.out,←Bool.not_eq_true,List.all_eq_true]
       intro h'
       have:=h' x (List.mem_of_getElem? HX.out)
       rw [HBB.out] at this;cases this)
      go_wp2_with fail
      refine (HNA.out _).mono ?_
      rintro en w1 ⟨rfl,rfl⟩
      go_wp2
      go_ret
      exact ⟨by rw [HRF.out];rfl,rfl⟩
    | true =>
      have HSN:Hid (SoFarS nmB (ws.drop 1) (i+1)):=Lib.hid (fun j y hj hy=>by
       rcases Nat.lt_or_ge j i with h' | h'
       ·exact HSF.out j y h' hy
       ·obtain rfl:j=i:=by omega
        rw [HX.out] at hy;cases hy;exact HBB.out)
      go_wp2_with fail
      refine (HNA.out _).mono ?_
      rintro en w1 ⟨rfl,rfl⟩
      go_wp2
      go_round
      case rel=>exact ⟨i+1,by omega,by go_num,HSN⟩
      case measure=>simp [intOf];omega
   ·have HRT:Hid (r=true):=Lib.hid (by
     rw [HFP2.out,List.all_eq_true]
     intro x hx
     obtain ⟨j,hj,ej⟩:=List.getElem_of_mem hx
     exact HSF.out j x (by rw [HN1.out] at hj;omega) (by rw [List.getElem?_eq_getElem hj,ej]))
    go_wp2
    go_ret
    exact ⟨by rw [HRT.out];rfl,rfl⟩
 ·have HRF:Hid (r=false):=Lib.hid (by rw [HFP.out,decide_eq_false hl,Bool.false_and])
  go_enter Tryz.func88,Tryz.ntmps88
  go_wp2_with fail
  refine (HLA.out _).mono ?_
  rintro en w1 ⟨rfl,rfl⟩
  go_wp2
  go_ret
  exact ⟨by rw [HRF.out];rfl,rfl⟩
end Go.Proofs.YtdhfpgjnjlcciaaGreatDoor.Un
end
