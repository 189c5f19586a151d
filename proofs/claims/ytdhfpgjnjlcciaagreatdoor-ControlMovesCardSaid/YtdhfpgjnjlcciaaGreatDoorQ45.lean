/- FaFacts CoPlain CoFacts CoMark ControlMoves -/
import Derived.Test.YtdhfpgjnjlcciaaGreatDoorQ38
import Derived.Test.YtdhfpgjnjlcciaaGreatDoorQ42
section
namespace Go.Proofs.YtdhfpgjnjlcciaaGreatDoor.Fa
theorem zjm {l l':List Fact} (h:∀ k,isum l k=isum l' k):cube l=cube l' :=
 JU (kP l) (kP l') fun f=>by rw [jB,jB,h]
end Go.Proofs.YtdhfpgjnjlcciaaGreatDoor.Fa
end
section
namespace Go.Proofs.YtdhfpgjnjlcciaaGreatDoor.Co
open Go.RowKit Go.Proofs.YtdhfpgjnjlcciaaGreatDoor.Un Go.Proofs.YtdhfpgjnjlcciaaGreatDoor.Fa Go.Proofs.YtdhfpgjnjlcciaaGreatDoor.Pk
theorem ze3 (g:Key→Int):lin g []=0:=rfl
end Go.Proofs.YtdhfpgjnjlcciaaGreatDoor.Co
end
section
namespace Go.Proofs.YtdhfpgjnjlcciaaGreatDoor.Co
open Go.RowKit Go.Proofs.YtdhfpgjnjlcciaaGreatDoor.Un Go.Proofs.YtdhfpgjnjlcciaaGreatDoor.Fa Go.Proofs.YtdhfpgjnjlcciaaGreatDoor.Pk
theorem zdj {c:List Fact} {k:Key} {n:Int} {d:List Fact} (hc:IsCube c) (hm:In64 (-n)) (h:ofL (c++[⟨k,n⟩])=(d,0)):ofL (d++[⟨k,-n⟩])=(c,0):=by
 obtain ⟨hd,e⟩:=kH h
 have his:∀ q,isum d q=isum c q+(if k=q then n else 0):=fun q=>by
  rw [e,YZ,Qn,xT,Yz];simp
 have hcs:∀ q,In64 (isum c q):=fun q=>by
  unfold isum
  rcases Ya hc.rise q with e | ⟨f,hf,_,e⟩
  ·rw [e];show In64 0;unfold In64;omega
  ·rw [e]
   have:=hc.fit f hf
   simpa using this
 have hds:∀ q,amts d q=[]∧isum d q=0∨amts d q=[isum d q]∧In64 (isum d q):=fun q=>by
  unfold isum
  rcases Ya hd.rise q with e | ⟨f,hf,_,e⟩
  ·rw [e];exact .inl ⟨rfl,rfl⟩
  ·rw [e]
   have:=hd.fit f hf
   exact .inr ⟨by simp,by simpa using this⟩
 rw [XT]
 ·congr 1
  rw [←Qk hc.rise hc.nz]
  refine zjm fun q=>?_
  rw [Qn,xT,Yz,his]
  show isum c q+(if k=q then n else 0)+((if k=q then -n else 0)+0)=isum c q
  split <;> omega
 ·intro q
  have hq:amts [(⟨k,-n⟩:Fact)] q=if k=q then [-n] else []:=by
   unfold amts
   by_cases e:k=q
   ·rw [if_pos e];simp [e]
   ·rw [if_neg e];simp [e]
  rw [XH,hq]
  have h1:=his q
  have h2:=hcs q
  by_cases hk:k=q
  ·rw [if_pos hk] at h1 ⊢
   rcases hds q with ⟨e1,e2⟩ | ⟨e1,e2⟩
   ·rw [e1,List.nil_append,Jg hm]
   ·have hs:isum d q+-n=isum c q:=by omega
    rw [e1,List.singleton_append,yS _ (by rw [Int.zero_add];exact Yr e2),Int.zero_add,yS [] (by rw [hs];exact Yr h2)]
    rfl
  ·rw [if_neg hk,List.append_nil]
   rcases hds q with ⟨e1,_⟩ | ⟨e1,e2⟩
   ·rw [e1];rfl
   ·rw [e1,Jg e2]
theorem zhq {M:Mast} {c d:List Fact} {k:Key} {n:Int} (hk:cnt M k=true) (h:ofL (c++[⟨k,n⟩])=(d,0)) (h1:(gapP M c (plc k)).2=0) (h2:(gapP M d (plc k)).2=0) :
 (gapP M d (plc k)).1=(gapP M c (plc k)).1 - n∨(gapP M d (plc k)).1=(gapP M c (plc k)).1+n:=by
 rw [XJ h h1 h2,yF,ze3]
 have hg:gapG M (plc k) k=if kindF M k.f=4 then 1 else -1:=by
  unfold gapG inGap
  rw [hk,if_pos (by simp)]
 show _+(gapG M (plc k) k * n+0)=_∨_+(gapG M (plc k) k * n+0)=_
 rw [hg]
 split <;> omega
end Go.Proofs.YtdhfpgjnjlcciaaGreatDoor.Co
end
section
namespace Go.Proofs.YtdhfpgjnjlcciaaGreatDoor.Co
open Go.RowKit Go.Maps Go.Proofs.YtdhfpgjnjlcciaaGreatDoor.Un Go.Proofs.YtdhfpgjnjlcciaaGreatDoor.Pk
open Go.Proofs.YtdhfpgjnjlcciaaGreatDoor.Fa (Key Fact encF FactsV)
theorem zed {W:World} {g:Nat} {t:TypeId} {k:Key} (h:BoxE Fa.encK W g t k) (m:Int):BoxE Fa.encK (W.setCell ⟨g,4,none⟩ (.int .i64 m)) g t ⟨k.e,k.a,k.f,k.p,m⟩:=by
 unfold BoxE at h ⊢
 rw [Joins.block_setCell h]
 rfl
theorem K6 {α:Type} {E:Enc α} {W:World} {g:Nat} {t:TypeId} {k:α} (h:BoxE E W g t k) (o:Nat):W.frozen? ⟨g,o,none⟩=false:=by simp [World.frozen?,show W.heap[g]?=_ from h]
theorem Zd {W:World} {g:Nat} {t:TypeId} {k:Key} (h:BoxE Fa.encK W g t k) {n:Nat} {v:Value} (hc:W.cell? ⟨g,n,none⟩=some v):(n < 4∧∃ s,v=.string s)∨(n=4∧v=.int .i64 k.m):=by
 have e:=cell_of_row W g n _ _ (0,0) h
 rw [hc] at e
 match n with
 | 0=>cases e;exact .inl ⟨by omega,_,rfl⟩
 | 1=>cases e;exact .inl ⟨by omega,_,rfl⟩
 | 2=>cases e;exact .inl ⟨by omega,_,rfl⟩
 | 3=>cases e;exact .inl ⟨by omega,_,rfl⟩
 | 4=>cases e;exact .inr ⟨rfl,rfl⟩
 | n+5=>cases e
theorem Jt {α:Type} {E:Enc α} {W:World} {g:Nat} {v:Value} {L:List α} (h:ElsV E W v L) (m:Int)
 (hn:∀ o:Nat,(∀ (i:Nat) (x:α),L[i]?=some x→ElAt E W g (o+i * E.k) x)→∀ (i:Nat) (x:α) (j:Nat),L[i]?=some x→j < E.k→o+i * E.k+j≠4):ElsV E (W.setCell ⟨g,4,none⟩ (.int .i64 m)) v L:=by
 obtain ⟨p,c,e,h1,h2,h3,hc⟩:=h
 refine ⟨p,c,e,h1,h2,h3,fun i x hx=>?_⟩
 obtain ⟨b,o,ep,hat⟩:=hc i x hx
 refine ⟨b,o,ep,fun j v' hj=>?_⟩
 rw [World.cell?_setCell_other]
 ·exact hat j v' hj
 ·intro e4
  have e4':b=g∧o+i * E.k+j=4:=by simp only [Addr.mk.injEq] at e4;omega
  obtain ⟨rfl,e5⟩:=e4'
  refine hn o (fun i' x' hx'=>?_) i x j hx ?_ e5
  ·obtain ⟨b',o',ep',hat'⟩:=hc i' x' hx'
   rw [ep] at ep'
   cases ep'
   exact hat'
  ·have:=(List.getElem?_eq_some_iff.1 hj).1
   rwa [E.len] at this
theorem Yf {α:Type} {E:Enc α} {W:World} {b o:Nat} {x:α} (h:ElAt E W b o x) {j:Nat} (hj:j < E.k):∃ v,v∈E.cs x∧(E.cs x)[j]?=some v∧W.cell? ⟨b,o+j,none⟩=some v:=by
 have hl:j < (E.cs x).length:=by rw [E.len];exact hj
 exact ⟨_,List.getElem_mem hl,List.getElem?_eq_getElem hl,h j _ (List.getElem?_eq_getElem hl)⟩
theorem Vl {α:Type} {E:Enc α} {W:World} {g:Nat} {t:TypeId} {k:Key} {v:Value} {L:List α} (hb:BoxE Fa.encK W g t k) (h:ElsV E W v L) (hs:∀ x,∀ v∈E.cs x,∃ s,v=.string s) (m:Int):ElsV E (W.setCell ⟨g,4,none⟩ (.int .i64 m)) v L :=
 Jt h m fun o hat i x j hx hj e=>by
  obtain ⟨u,hu,_,hc⟩:=Yf (hat i x hx) hj
  obtain ⟨s,rfl⟩:=hs x u hu
  rcases Zd hb hc with ⟨h1,_⟩ | ⟨_,h1⟩
  ·omega
  ·cases h1
theorem Xo {α:Type} {E:Enc α} {W:World} {g:Nat} {t:TypeId} {k:Key} {v:Value} {L:List α} (hb:BoxE Fa.encK W g t k) (h:ElsV E W v L) (hk:5 < E.k) (m:Int):ElsV E (W.setCell ⟨g,4,none⟩ (.int .i64 m)) v L :=
 Jt h m fun o hat i x j hx hj e=>by
  obtain ⟨u,_,_,hc⟩:=Yf (hat i x hx) hk
  rcases Zd hb hc with ⟨h1,_⟩ | ⟨h1,_⟩ <;> omega
theorem zjb {W:World} {g:Nat} {t:TypeId} {k:Key} {v:Value} {L:List Fl.Flow} (hb:BoxE Fa.encK W g t k) (h:Fl.FlowsV W v L) (h2:2≤L.length) (m:Int):Fl.FlowsV (W.setCell ⟨g,4,none⟩ (.int .i64 m)) v L :=
 Jt h m fun o hat i x j hx hj e=>by
  have hi:=(List.getElem?_eq_some_iff.1 hx).1
  have hk:Fl.encF.k=2:=rfl
  rw [hk] at hj e
  rcases Nat.lt_or_ge (i+1) L.length with hl | hl
  ·obtain ⟨u,hu,_,hc⟩:=Yf (hat (i+1) _ (List.getElem?_eq_getElem hl)) (j:=1) (by rw [hk];omega)
   rw [hk] at hc
   rcases Zd hb hc with ⟨h1,_⟩ | ⟨h1,_⟩ <;> omega
  ·have hp:i - 1 < L.length:=by omega
   have hc:=hat (i - 1) _ (List.getElem?_eq_getElem hp) 1 _ rfl
   rw [hk] at hc
   rcases Zd hb hc with ⟨_,s,h1⟩ | ⟨h1,_⟩
   ·cases h1
   ·omega
theorem zje {W:World} {g:Nat} {t:TypeId} {k:Key} {c f e l:Value} {M:Mast} (hb:BoxE Fa.encK W g t k) (h:MastIn W c f e l M) (h2:2≤M.flows.length) (m:Int):MastIn (W.setCell ⟨g,4,none⟩ (.int .i64 m)) c f e l M where
 chart:=jR.2 (Xo hb (jR.1 h.chart) (by decide) m)
 flows:=zjb hb h.flows h2 m
 ents:=Vl hb h.ents (fun x v hv=>by simp at hv;rcases hv with rfl | rfl <;> exact ⟨_,rfl⟩) m
 lines:=Vl hb h.lines (fun x v hv=>by simp at hv;rcases hv with rfl | rfl | rfl <;> exact ⟨_,rfl⟩) m
theorem zgP {W:World} {g:Nat} {t:TypeId} {k:Key} {v:Value} {L:List Fact} (hb:BoxE Fa.encK W g t k) (h:FactsV W v L) (m:Int):FactsV (W.setCell ⟨g,4,none⟩ (.int .i64 m)) v L:=Xo hb h (by decide) m
theorem zeX {W:World} {g b:Nat} {c f e l:Value} {M:Mast} (h:NineAt W b c f e l M) (hne:b≠g) (m:Int):NineAt (W.setCell ⟨g,4,none⟩ (.int .i64 m)) b c f e l M:=by
 have key:∀ (o:Nat) (v:Value),W.cell? ⟨b,o,none⟩=some v→(W.setCell ⟨g,4,none⟩ (.int .i64 m)).cell? ⟨b,o,none⟩=some v:=fun o v hv=>by
  rw [World.cell?_setCell_other]
  ·exact hv
  ·intro e4
   simp only [Addr.mk.injEq] at e4
   omega
 obtain ⟨a0,a1,a2,a3,a4,a5,a6,a7,a8⟩:=h
 exact ⟨key _ _ a0,key _ _ a1,key _ _ a2,key _ _ a3,key _ _ a4,key _ _ a5,key _ _ a6,key _ _ a7,key _ _ a8⟩
theorem zdK {α:Type} {E:Enc α} {W W0:World} {v:Value} {L:List α} (h:ElsV E W v L) (hn:Fa.NewV W0 v) {g:Nat} (hg:g < W0.heap.size) (j:Nat) (y:Value):ElsV E (W.setCell ⟨g,j,none⟩ y) v L:=by
 obtain ⟨p,c,rfl,h1,h2,h3,hc⟩:=h
 refine ⟨p,c,rfl,h1,h2,h3,fun i x hx=>?_⟩
 obtain ⟨b,o,rfl,hat⟩:=hc i x hx
 have hl:=(List.getElem?_eq_some_iff.1 hx).1
 have hb:W0.heap.size≤b:=hn _ _ _ rfl (by omega)
 refine ⟨b,o,rfl,fun j' v' hj=>?_⟩
 rw [World.cell?_setCell_other]
 ·exact hat j' v' hj
 ·intro e4
  simp only [Addr.mk.injEq] at e4
  omega
theorem zbR {W:World} {g:Nat} {t:TypeId} {x:Fact} (h:BoxE encF W g t x) (n:Int):BoxE encF (W.setCell ⟨g,5,none⟩ (.int .i64 n)) g t ⟨x.key,n⟩:=by
 unfold BoxE at h ⊢
 rw [Joins.block_setCell h]
 rfl
end Go.Proofs.YtdhfpgjnjlcciaaGreatDoor.Co
end
section
namespace Go.Proofs.YtdhfpgjnjlcciaaGreatDoor.Co
open Go.RowKit Go.Maps Go.Proofs.YtdhfpgjnjlcciaaGreatDoor.Un Go.Proofs.YtdhfpgjnjlcciaaGreatDoor.Pk
open Go.Proofs.YtdhfpgjnjlcciaaGreatDoor.Fa (Key Fact encF key5 fact6 FactsV NewV)
set_option maxRecDepth 100000 in
set_option maxHeartbeats 16000000 in
theorem zgm (s0 s1:ByteArray) (k:Key) (n:Int) (w:World) (_hs0:s0.size≤maxLen) (_hs1:s1.size≤maxLen) (_hk:In64 k.m) (hn:In32 n) (hU:LaidP w):Calls Tryz.prog 6 #[.agg #[.string s0,.string s1],Fa.aggK k,.int .i32 n] w fun en w'=>en=.returned (.bool true)∧Below w.heap.size w w':=by
 have hb0:=(Below.refl w.heap.size w).alloc (Nat.le_refl _) (.cells #[.string s0,.string s1] 68)
 have hg0:=Z4 w s0 s1 68
 obtain ⟨V0,hV0⟩:∃ V0,w.alloc (.cells #[.string s0,.string s1] 68)=V0:=⟨_,rfl⟩
 rw [hV0] at hb0 hg0
 have hb1:=(Below.refl V0.heap.size V0).alloc (Nat.le_refl _) (.cells (kCells k) 24)
 have hl0:BoxE Fa.encK (V0.alloc (.cells (kCells k) 24)) V0.heap.size 24 k:=BoxE.new Fa.encK V0 k 24
 obtain ⟨W0,hW0⟩:∃ W0,V0.alloc (.cells (kCells k) 24)=W0:=⟨_,rfl⟩
 rw [hW0] at hb1 hl0
 have HB0:=Lib.hid (hb0.trans (hb1.mono hb0.size))
 have HS0:=Lib.hid hb0.size
 have HGB0:=Lib.hid (hg0.kept hb1)
 have HKB0:=Lib.hid hl0
 have HL:=Lib.hid (hU.keep HB0.out)
 have HN64:=Lib.hid (show In64 n by obtain ⟨h1,h2⟩:=hn;exact ⟨by omega,by omega⟩)
 have HNM:=Lib.hid (show In64 (-n) by obtain ⟨h1,h2⟩:=hn;exact ⟨by omega,by omega⟩)
 obtain ⟨hn1,hn2⟩:=hn
 clear hU hb0 hb1 hg0 hl0 _hs0 _hs1 _hk
 go_enter Tryz.func6,Tryz.ntmps6
 go_wp2_with fail
 clear hV0 hW0
 refine (vV _ HL.out).mono ?_
 rintro en w1 ⟨rfl,hb1⟩
 have HB1:=Lib.hid (HB0.out.trans (hb1.mono HB0.out.size))
 have HGB1:=Lib.hid (HGB0.out.kept hb1)
 have HKB1:=Lib.hid (HKB0.out.kept hb1)
 have HL1:=Lib.hid (HL.out.keep hb1)
 clear hb1
 obtain ⟨g0,g1⟩:=HGB1.out
 go_wp2_with fail
 clear g0 g1
 refine (vz s0 _ HL1.out.1 HL1.out.2.1).mono ?_
 rintro en w2 ⟨M,c,f,e,l,c',f',e',l',is,rfl,hm,hm',hb2,his⟩
 obtain ⟨pc,cc,pf,cf,pe,ce,pl,cl,rfl,rfl,rfl,rfl⟩:=shapes hm
 obtain ⟨pc',cc',pf',cf',pe',ce',pl',cl',rfl,rfl,rfl,rfl⟩:=shapes hm'
 have HM2:=Lib.hid hm
 have HM2':=Lib.hid hm'
 have HB2:=Lib.hid (HB1.out.trans (hb2.mono HB1.out.size))
 have HGB2:=Lib.hid (HGB1.out.kept hb2)
 have HKB2:=Lib.hid (HKB1.out.kept hb2)
 have HNE:=Lib.hid (show w2.heap.size≠V0.heap.size by have:=HKB2.out.lt;omega)
 have HL2:=Lib.hid (HL1.out.keep hb2)
 have HIS:=Lib.hid his
 clear hm hm' hb2 his HB1 HL1 HGB1 HKB1 HGB0 HKB0 HL HB0
 by_cases hbig:4000 < s1.size
 ·cases is
  all_goals
   go_wp2_with (first
    | (refine zi rfl 33 (.tmp 7) (.tmp 30) rfl w2.heap.size nil4 nil4 nil4 nil4 (.slice pc M.chart.length cc) (.slice pf M.flows.length cf) (.slice pe M.ents.length ce) (.slice pl M.lines.length cl) zeroM M 33 rfl rfl (start1 w2) ⟨rfl,rfl,rfl,rfl⟩ (by kernel_rfl) ?_;intro w3 hb3 hg3;have HX3:=Lib.hid hb3;have HG3:=Lib.hid hg3;clear hb3 hg3)
    | (refine zi rfl 39 (.tmp 8) (.tmp 31) rfl (w2.heap.size+1) nil4 nil4 nil4 nil4 (.slice pc' M.chart.length cc') (.slice pf' M.flows.length cf') (.slice pe' M.ents.length ce') (.slice pl' M.lines.length cl') zeroM M 39 rfl rfl (qu HG3.out) ⟨rfl,rfl,rfl,rfl⟩ (by kernel_rfl) ?_;intro w4 hb4 hg4;have HT4:=Lib.hid (qs HM2.out HM2'.out HX3.out HG3.out hb4 hg4);clear hb4 hg4;have HB4:=Lib.hid (HB2.out.trans (HT4.out.bel.mono HB2.out.size));have HGB4:=Lib.hid (HGB2.out.kept HT4.out.bel);have HKB4:=Lib.hid (HKB2.out.kept HT4.out.bel);obtain ⟨g0,g1⟩:=HGB4.out;obtain ⟨y0,y1,y2,y3,y4⟩:=key5 HKB4.out.at0;simp only [Nat.zero_add] at y0 y1 y2 y3 y4;obtain ⟨n0,n1,n2,n3,n4,n5,n6,n7,n8⟩:=HT4.out.nine)
    | fail)
   go_ret
   exact ⟨rfl,HB4.out⟩
 cases is with
 | false =>
   go_wp2_with (first
    | (refine zi rfl 33 (.tmp 7) (.tmp 30) rfl w2.heap.size nil4 nil4 nil4 nil4 (.slice pc M.chart.length cc) (.slice pf M.flows.length cf) (.slice pe M.ents.length ce) (.slice pl M.lines.length cl) zeroM M 33 rfl rfl (start1 w2) ⟨rfl,rfl,rfl,rfl⟩ (by kernel_rfl) ?_;intro w3 hb3 hg3;have HX3:=Lib.hid hb3;have HG3:=Lib.hid hg3;clear hb3 hg3)
    | (refine zi rfl 39 (.tmp 8) (.tmp 31) rfl (w2.heap.size+1) nil4 nil4 nil4 nil4 (.slice pc' M.chart.length cc') (.slice pf' M.flows.length cf') (.slice pe' M.ents.length ce') (.slice pl' M.lines.length cl') zeroM M 39 rfl rfl (qu HG3.out) ⟨rfl,rfl,rfl,rfl⟩ (by kernel_rfl) ?_;intro w4 hb4 hg4;have HT4:=Lib.hid (qs HM2.out HM2'.out HX3.out HG3.out hb4 hg4);clear hb4 hg4;have HB4:=Lib.hid (HB2.out.trans (HT4.out.bel.mono HB2.out.size));have HGB4:=Lib.hid (HGB2.out.kept HT4.out.bel);have HKB4:=Lib.hid (HKB2.out.kept HT4.out.bel);obtain ⟨g0,g1⟩:=HGB4.out;obtain ⟨y0,y1,y2,y3,y4⟩:=key5 HKB4.out.at0;simp only [Nat.zero_add] at y0 y1 y2 y3 y4;obtain ⟨n0,n1,n2,n3,n4,n5,n6,n7,n8⟩:=HT4.out.nine)
    | fail)
   go_ret
   exact ⟨rfl,HB4.out⟩
 | true =>
 go_wp2_with (first
  | (refine zi rfl 33 (.tmp 7) (.tmp 30) rfl w2.heap.size nil4 nil4 nil4 nil4 (.slice pc M.chart.length cc) (.slice pf M.flows.length cf) (.slice pe M.ents.length ce) (.slice pl M.lines.length cl) zeroM M 33 rfl rfl (start1 w2) ⟨rfl,rfl,rfl,rfl⟩ (by kernel_rfl) ?_;intro w3 hb3 hg3;have HX3:=Lib.hid hb3;have HG3:=Lib.hid hg3;clear hb3 hg3)
  | (refine zi rfl 39 (.tmp 8) (.tmp 31) rfl (w2.heap.size+1) nil4 nil4 nil4 nil4 (.slice pc' M.chart.length cc') (.slice pf' M.flows.length cf') (.slice pe' M.ents.length ce') (.slice pl' M.lines.length cl') zeroM M 39 rfl rfl (qu HG3.out) ⟨rfl,rfl,rfl,rfl⟩ (by kernel_rfl) ?_;intro w4 hb4 hg4;have HT4:=Lib.hid (qs HM2.out HM2'.out HX3.out HG3.out hb4 hg4);clear hb4 hg4;have HB4:=Lib.hid (HB2.out.trans (HT4.out.bel.mono HB2.out.size));have HGB4:=Lib.hid (HGB2.out.kept HT4.out.bel);have HKB4:=Lib.hid (HKB2.out.kept HT4.out.bel);obtain ⟨g0,g1⟩:=HGB4.out;obtain ⟨y0,y1,y2,y3,y4⟩:=key5 HKB4.out.at0;simp only [Nat.zero_add] at y0 y1 y2 y3 y4;obtain ⟨n0,n1,n2,n3,n4,n5,n6,n7,n8⟩:=HT4.out.nine)
  | fail)
 clear g0 g1 y0 y1 y2 y3 y4 n0 n1 n2 n3 n4 n5 n6 n7 n8
 have HL4:=Lib.hid (HL2.out.keep HT4.out.bel)
 clear HM2 HM2' HB2 HL2 HX3 HG3 HGB2 HKB2
 have hb5:=(Below.refl w4.heap.size w4).alloc (Nat.le_refl _) (.cells (flat encF [(⟨k,0⟩:Fact)]).toArray 44)
 have HX5:=Lib.hid (jQ encF w4 [(⟨k,0⟩:Fact)] 44 (by simp [maxLen]))
 have HB5:=Lib.hid (HB4.out.trans (hb5.mono HB4.out.size))
 have HT5:=Lib.hid (HT4.out.keep hb5)
 have HGB5:=Lib.hid (HGB4.out.kept hb5)
 have HKB5:=Lib.hid (HKB4.out.kept hb5)
 have HL5:=Lib.hid (HL4.out.keep hb5)
 clear HB4 HT4 HGB4 HKB4 HL4
 clear hb5
 refine (Fa.Zj _ [(⟨k,0⟩:Fact)] _ HX5.out).mono ?_
 rintro en w6 ⟨rfl,hb6⟩
 have HB6:=Lib.hid (HB5.out.trans (hb6.mono HB5.out.size))
 have HT6:=Lib.hid (HT5.out.keep hb6)
 have HGB6:=Lib.hid (HGB5.out.kept hb6)
 have HKB6:=Lib.hid (HKB5.out.kept hb6)
 have HL6:=Lib.hid (HL5.out.keep hb6)
 clear HB5 HT5 HGB5 HKB5 HL5
 clear hb6 HX5
 cases hfew:Fa.fewL [(⟨k,0⟩:Fact)] with
 | false =>
   go_wp2
   go_ret
   exact ⟨rfl,HB6.out⟩
 | true =>
 clear hfew
 have hR:=(HIS.out (by first | trivial | rfl)).1
 have HSN:=Lib.hid hR.inv.sane
 have HTW:=Lib.hid (Vg hR.all)
 have HRC:=Lib.hid (Fl.qm HSN.out.fl)
 have HLF:Hid (M.flows.length≤1000):=Lib.hid (by have:=HSN.out.lf;omega)
 have hsz:s1.size≤4000:=by omega
 have HSZ:=Lib.hid hsz
 have HPP:=Lib.hid (fun W h hL=>vB (.slice pc M.chart.length cc) (.slice pf M.flows.length cf) (.slice pe M.ents.length ce) (.slice pl M.lines.length cl) M s1 W h HSN.out hL (by have:=HSZ.out;omega))
 obtain ⟨PR,hPR⟩:∃ PR,parseP M s1=PR:=⟨_,rfl⟩
 have HPR:=Lib.hid hPR
 simp only [hPR] at HPP
 obtain ⟨C,er⟩:=PR
 clear hR hsz hPR
 obtain ⟨g0,g1⟩:=HGB6.out
 obtain ⟨n0,n1,n2,n3,n4,n5,n6,n7,n8⟩:=HT6.out.nine
 go_wp2_with fail
 clear g0 g1 n0 n1 n2 n3 n4 n5 n6 n7 n8
 refine (HPP.out _ HT6.out.mast HL6.out.2.2).mono ?_
 rintro en w7 ⟨u7,rfl,hv7,hb7⟩
 dsimp only at hv7
 have HVC7:=Lib.hid hv7
 have HB7:=Lib.hid (HB6.out.trans (hb7.mono HB6.out.size))
 have HT7:=Lib.hid (HT6.out.keep hb7)
 have HKB7:=Lib.hid (HKB6.out.kept hb7)
 clear HB6 HT6 HKB6
 clear hb7 hv7 HL6 HGB6 HPP
 obtain ⟨qc,kc,rfl,_⟩:=id HVC7.out
 have HB8:=Lib.hid (HB7.out.setCell (p:=⟨V0.heap.size,4,none⟩) HS0.out (.int .i64 1))
 have HM8:=Lib.hid (zje HKB7.out HT7.out.mast HTW.out.1 1)
 have HN8:=Lib.hid (zeX HT7.out.nine HNE.out 1)
 have HVC8:=Lib.hid (zgP HKB7.out HVC7.out 1)
 have HKB8:=Lib.hid (zed HKB7.out 1)
 have hfz:=K6 HKB7.out 4
 have hb9:=(Below.refl (w7.setCell ⟨V0.heap.size,4,none⟩ (.int .i64 1)).heap.size (w7.setCell ⟨V0.heap.size,4,none⟩ (.int .i64 1))).alloc (Nat.le_refl _) (.cells (flat encF [(⟨⟨k.e,k.a,k.f,k.p,1⟩,n⟩:Fact)]).toArray 44)
 have hx9:=jQ encF (w7.setCell ⟨V0.heap.size,4,none⟩ (.int .i64 1)) [(⟨⟨k.e,k.a,k.f,k.p,1⟩,n⟩:Fact)] 44 (by simp [maxLen])
 rw [show (w7.setCell ⟨V0.heap.size,4,none⟩ (.int .i64 1)).heap.size=w7.heap.size by simp [World.setCell]] at hx9
 have HX9:=Lib.hid hx9
 clear hx9
 have HB9:=Lib.hid (HB8.out.trans (hb9.mono HB8.out.size))
 have HM9:=Lib.hid (HM8.out.keep hb9)
 have HN9:=Lib.hid (HN8.out.kept hb9)
 have HVC9:=Lib.hid (ElsV.keep HVC8.out hb9)
 have HKB9:=Lib.hid (HKB8.out.kept hb9)
 obtain ⟨y0,y1,y2,y3,y4⟩:=key5 HKB7.out.at0
 obtain ⟨z0,z1,z2,z3,z4⟩:=key5 HKB8.out.at0
 simp only [Nat.zero_add] at y0 y1 y2 y3 y4 z0 z1 z2 z3 z4
 clear HB8 HM8 HN8 HVC8 HKB8
 clear hb9 HT7 HB7 HVC7 HKB7
 go_wp2_with fail
 clear hfz y0 y1 y2 y3 y4 z0 z1 z2 z3 z4
 refine (Fa.vU _ [(⟨⟨k.e,k.a,k.f,k.p,1⟩,n⟩:Fact)] _ HX9.out (by simp)).mono ?_
 rintro en w10 ⟨u10,rfl,ho10,hb10⟩
 have HB10:=Lib.hid (HB9.out.trans (hb10.mono HB9.out.size))
 have HM10:=Lib.hid (HM9.out.keep hb10)
 have HN10:=Lib.hid (HN9.out.kept hb10)
 have HVC10:=Lib.hid (ElsV.keep HVC9.out hb10)
 have HKB10:=Lib.hid (HKB9.out.kept hb10)
 clear HB9 HM9 HN9 HVC9 HKB9
 clear hb10 HX9
 obtain ⟨p10,c10,rfl,hcap10,hm10,_,hc10⟩:=zq (E:=encF) (L:=[(⟨⟨k.e,k.a,k.f,k.p,1⟩,n⟩:Fact)]) ho10
 obtain ⟨g10,o10,rfl,hat10⟩:=hc10 0 _ rfl
 obtain ⟨f0,f1,f2,f3,f4,f5⟩:=fact6 hat10
 simp only [show encF.k=6 from rfl,Nat.zero_mul,Nat.add_zero] at f0 f1 f2 f3 f4 f5
 simp only [List.length_singleton] at hcap10 hm10 ⊢
 clear ho10 hc10 hat10
 have hq11:=(Below.refl w10.heap.size w10).alloc (Nat.le_refl _) (.cells #[.string k.e,.string k.a,.string k.f,.string k.p,.int .i64 1,.int .i64 n] 76)
 have HQ11:=Lib.hid hq11
 have HX11:Hid (BoxE encF (w10.alloc (.cells #[.string k.e,.string k.a,.string k.f,.string k.p,.int .i64 1,.int .i64 n] 76)) w10.heap.size 76 (⟨⟨k.e,k.a,k.f,k.p,1⟩,n⟩:Fact)):=Lib.hid (BoxE.new encF w10 (⟨⟨k.e,k.a,k.f,k.p,1⟩,n⟩:Fact) 76)
 clear hq11
 by_cases her:er=0
 ·subst her
  have HPD:=Lib.hid (x5 HPR.out HSZ.out)
  have HCK:=Lib.hid (fun W h=>Pk.yJ (.slice pc M.chart.length cc) (.slice pf M.flows.length cf) (.slice pe M.ents.length ce) (.slice pl M.lines.length cl) M (⟨⟨k.e,k.a,k.f,k.p,1⟩,n⟩:Fact) W h HRC.out HLF.out)
  obtain ⟨CE,hCE⟩:∃ e,checkE M ⟨k.e,k.a,k.f,k.p,1⟩=e:=⟨_,rfl⟩
  have HCE:=Lib.hid hCE
  simp only [hCE] at HCK
  clear hCE
  obtain ⟨n0,n1,n2,n3,n4,n5,n6,n7,n8⟩:=HN10.out.kept HQ11.out
  obtain ⟨e0,e1,e2,e3,e4,e5⟩:=fact6 HX11.out.at0
  simp only [Nat.zero_add] at e0 e1 e2 e3 e4 e5
  go_wp2_with fail
  clear e0 e1 e2 e3 e4 e5 n0 n1 n2 n3 n4 n5 n6 n7 n8 f0 f1 f2 f3 f4 f5
  refine (HCK.out _ (HM10.out.keep HQ11.out)).mono ?_
  rintro en w12 ⟨rfl,hb12⟩
  have HQ12:=Lib.hid (HQ11.out.trans (hb12.mono HQ11.out.size))
  have HX12:=Lib.hid (HX11.out.kept hb12)
  clear hb12 HQ11 HX11 HCK
  by_cases hce:CE=0
  ·subst hce
   have HCN:Hid (cnt M ⟨k.e,k.a,k.f,k.p,1⟩=true):=Lib.hid (XK (zaJ HCE.out))
   have HLT:=Lib.hid HX12.out.lt
   obtain ⟨R,hR⟩:∃ R,Fa.ofL (C++[(⟨⟨k.e,k.a,k.f,k.p,1⟩,n⟩:Fact)])=R:=⟨_,rfl⟩
   have HDA:Hid (∀ x∈R.1,In64 x.amt):=Lib.hid (by rw [←hR];exact ZW _)
   have HDL:Hid (R.1.length≤401):=Lib.hid (by rw [←hR];have h1:=Fa.y6 (C++[(⟨⟨k.e,k.a,k.f,k.p,1⟩,n⟩:Fact)]);have h2:=HPD.out.len;simp only [List.length_append,List.length_singleton] at h1;omega)
   have HR:=Lib.hid hR
   clear hR
   obtain ⟨D,eh⟩:=R
   dsimp only at HDA HDL
   have hx13:=jQ encF w12 [(⟨⟨k.e,k.a,k.f,k.p,1⟩,n⟩:Fact)] 76 (by simp [maxLen])
   have hb13:=(Below.refl w12.heap.size w12).alloc (Nat.le_refl _) (.cells (flat encF [(⟨⟨k.e,k.a,k.f,k.p,1⟩,n⟩:Fact)]).toArray 76)
   have had:=Fa.Ke _ _ C [(⟨⟨k.e,k.a,k.f,k.p,1⟩,n⟩:Fact)] _ (ElsV.keep (ElsV.keep HVC10.out HQ12.out) hb13) hx13 HPD.out.cube.fit (fun x hx=>by rw [List.mem_singleton.1 hx];exact HN64.out) (by have:=HPD.out.len;simp only [List.length_singleton];omega)
   rw [HR.out] at had
   have HAD:=Lib.hid had
   have HQ13:=Lib.hid (HQ12.out.trans (hb13.mono HQ12.out.size))
   have HX13:=Lib.hid (HX12.out.kept hb13)
   obtain ⟨e0,e1,e2,e3,e4,e5⟩:=fact6 HX12.out.at0
   simp only [Nat.zero_add] at e0 e1 e2 e3 e4 e5
   clear hx13 hb13 had
   go_wp2_with fail
   clear e0 e1 e2 e3 e4 e5
   refine HAD.out.mono ?_
   rintro en w14 ⟨u14,rfl,hv14,hb14,hn14⟩
   dsimp only at hv14
   obtain ⟨q14,k14,rfl,_⟩:=id hv14
   have HVD14:=Lib.hid hv14
   have HNW:=Lib.hid (hn14.mono (w0:=w12) (by simp))
   have HQ14:=Lib.hid (HQ13.out.trans (hb14.mono HQ13.out.size))
   have HX14:=Lib.hid (HX13.out.kept hb14)
   clear hv14 hb14 hn14 HAD HQ13 HX13 HQ12 HX12
   obtain ⟨gc,hgc⟩:∃ g,gapP M C (plc k)=g:=⟨_,rfl⟩
   obtain ⟨gd,hgd⟩:∃ g,gapP M D (plc k)=g:=⟨_,rfl⟩
   have HB64:=Lib.hid (show In64 gc.1 by rw [←hgc];exact J8 M C (plc k))
   have HA64:=Lib.hid (show In64 gd.1 by rw [←hgd];exact J8 M D (plc k))
   have HGC:=Lib.hid hgc
   have HGD:=Lib.hid hgd
   clear hgc hgd
   obtain ⟨gb,ei⟩:=gc
   obtain ⟨ga,ej⟩:=gd
   dsimp only at HB64 HA64
   have HCC:Hid (∀ W (v:Value),MastIn W (.slice pc M.chart.length cc) (.slice pf M.flows.length cf) (.slice pe M.ents.length ce) (.slice pl M.lines.length cl) M→FactsV W v C→Calls Tryz.prog 13 #[aggM (.slice pc M.chart.length cc) (.slice pf M.flows.length cf) (.slice pe M.ents.length ce) (.slice pl M.lines.length cl) M,v,.string k.e,.string k.a,.string k.p] W fun en w'=>en=.returned (.tuple #[.int .i64 gb,.int .i64 ei])∧Below W.heap.size W w'):=Lib.hid fun W v h1 h2=>by
    have:=(HPD.out.giv HSN.out h1 h2).gap (plc k) rfl
    rw [HGC.out] at this
    exact this
   have HCD:Hid (∀ W (v:Value),MastIn W (.slice pc M.chart.length cc) (.slice pf M.flows.length cf) (.slice pe M.ents.length ce) (.slice pl M.lines.length cl) M→FactsV W v D→Calls Tryz.prog 13 #[aggM (.slice pc M.chart.length cc) (.slice pf M.flows.length cf) (.slice pe M.ents.length ce) (.slice pl M.lines.length cl) M,v,.string k.e,.string k.a,.string k.p] W fun en w'=>en=.returned (.tuple #[.int .i64 ga,.int .i64 ej])∧Below W.heap.size W w'):=Lib.hid fun W v h1 h2=>by
    have hg:Giv W (.slice pc M.chart.length cc) (.slice pf M.flows.length cf) (.slice pe M.ents.length ce) (.slice pl M.lines.length cl) v M D:=⟨h1,HRC.out,HLF.out,h2,by have:=HDL.out;omega,HDA.out⟩
    have:=hg.gap (plc k) rfl
    rw [HGD.out] at this
    exact this
   obtain ⟨n0,n1,n2,n3,n4,n5,n6,n7,n8⟩:=HN10.out.kept HQ14.out
   obtain ⟨y0,y1,y2,y3,y4⟩:=key5 (HKB10.out.kept HQ14.out).at0
   simp only [Nat.zero_add] at y0 y1 y2 y3 y4
   go_wp2_with fail
   clear y0 y1 y2 y3 y4 n0 n1 n2 n3 n4 n5 n6 n7 n8
   refine (HCC.out _ _ (HM10.out.keep HQ14.out) (ElsV.keep HVC10.out HQ14.out)).mono ?_
   rintro en w15 ⟨rfl,hb15⟩
   have HQ15:=Lib.hid (HQ14.out.trans (hb15.mono HQ14.out.size))
   have HX15:=Lib.hid (HX14.out.kept hb15)
   have HVD15:=Lib.hid (ElsV.keep HVD14.out hb15)
   clear hb15 HQ14 HX14 HVD14
   obtain ⟨n0,n1,n2,n3,n4,n5,n6,n7,n8⟩:=HN10.out.kept HQ15.out
   obtain ⟨y0,y1,y2,y3,y4⟩:=key5 (HKB10.out.kept HQ15.out).at0
   simp only [Nat.zero_add] at y0 y1 y2 y3 y4
   go_wp2_with fail
   clear y0 y1 y2 y3 y4 n0 n1 n2 n3 n4 n5 n6 n7 n8
   refine (HCD.out _ _ (HM10.out.keep HQ15.out) HVD15.out).mono ?_
   rintro en w16 ⟨rfl,hb16⟩
   have HQ16:=Lib.hid (HQ15.out.trans (hb16.mono HQ15.out.size))
   have HX16:=Lib.hid (HX15.out.kept hb16)
   have HVD16:=Lib.hid (ElsV.keep HVD15.out hb16)
   have HB16:=Lib.hid (HB10.out.trans (HQ16.out.mono HB10.out.size))
   clear hb16 HQ15 HX15 HVD15 HCD
   by_cases hh:eh=0
   ·by_cases hi:ei=0
    ·by_cases hj:ej=0
     ·subst hh hi hj
      have hmv:ga=gb - n∨ga=gb+n:=by
       have:=zhq HCN.out HR.out (by rw [show plc ⟨k.e,k.a,k.f,k.p,1⟩=plc k from rfl,HGC.out]) (by rw [show plc ⟨k.e,k.a,k.f,k.p,1⟩=plc k from rfl,HGD.out])
       rw [show plc ⟨k.e,k.a,k.f,k.p,1⟩=plc k from rfl,HGC.out,HGD.out] at this
       exact this
      have hbk:=zdj HPD.out.cube HNM.out HR.out
      have HBK:=Lib.hid hbk
      clear hbk
      obtain ⟨a1,a2⟩:=HA64.out
      obtain ⟨b1,b2⟩:=HB64.out
      have hq17:=HQ16.out.setCell (p:=⟨w10.heap.size,5,none⟩) (Nat.le_refl _) (.int .i64 (-n))
      have hx17:=zbR HX16.out (-n)
      have hv17:=zdK HVD16.out HNW.out HLT.out 5 (.int .i64 (-n))
      have hx18:=jQ encF (w16.setCell ⟨w10.heap.size,5,none⟩ (.int .i64 (-n))) [(⟨⟨k.e,k.a,k.f,k.p,1⟩,-n⟩:Fact)] 76 (by simp [maxLen])
      have hb18:=(Below.refl (w16.setCell ⟨w10.heap.size,5,none⟩ (.int .i64 (-n))).heap.size (w16.setCell ⟨w10.heap.size,5,none⟩ (.int .i64 (-n)))).alloc (Nat.le_refl _) (.cells (flat encF [(⟨⟨k.e,k.a,k.f,k.p,1⟩,-n⟩:Fact)]).toArray 76)
      rw [show (w16.setCell ⟨w10.heap.size,5,none⟩ (.int .i64 (-n))).heap.size=w16.heap.size by simp [World.setCell]] at hx18
      have had:=Fa.Yd _ _ D [(⟨⟨k.e,k.a,k.f,k.p,1⟩,-n⟩:Fact)] _ (ElsV.keep hv17 hb18) hx18 HDA.out (fun x hx=>by rw [List.mem_singleton.1 hx];exact HNM.out) (by have:=HDL.out;simp only [List.length_singleton];omega)
      rw [HBK.out] at had
      have HAD:=Lib.hid had
      have HQ18:=Lib.hid (hq17.trans (hb18.mono hq17.size))
      have hfz:=K6 HX16.out 5
      obtain ⟨e0,e1,e2,e3,e4,e5⟩:=fact6 HX16.out.at0
      obtain ⟨d0,d1,d2,d3,d4,d5⟩:=fact6 hx17.at0
      simp only [Nat.zero_add] at e0 e1 e2 e3 e4 e5 d0 d1 d2 d3 d4 d5
      clear hq17 hx17 hv17 hx18 hb18 had HQ16 HX16 HVD16
      rcases hmv with e | e
      all_goals
       subst e
       go_wp2_with fail
      all_goals
       clear hfz e0 e1 e2 e3 e4 e5 d0 d1 d2 d3 d4 d5
       refine HAD.out.mono ?_
       rintro en w19 ⟨u19,rfl,hv19,hb19⟩
       dsimp only at hv19
       obtain ⟨q19,k19,rfl,_⟩:=id hv19
       have HVB19:=Lib.hid hv19
       have HQ19:=Lib.hid (HQ18.out.trans (hb19.mono HQ18.out.size))
       clear hv19 hb19 HAD HQ18
       obtain ⟨n0,n1,n2,n3,n4,n5,n6,n7,n8⟩:=HN10.out.kept HQ19.out
       obtain ⟨y0,y1,y2,y3,y4⟩:=key5 (HKB10.out.kept HQ19.out).at0
       simp only [Nat.zero_add] at y0 y1 y2 y3 y4
       go_wp2_with fail
       clear y0 y1 y2 y3 y4 n0 n1 n2 n3 n4 n5 n6 n7 n8
       refine (HCC.out _ _ (HM10.out.keep HQ19.out) HVB19.out).mono ?_
       rintro en w20 ⟨rfl,hb20⟩
       have HQ20:=Lib.hid (HQ19.out.trans (hb20.mono HQ19.out.size))
       have HVB20:=Lib.hid (ElsV.keep HVB19.out hb20)
       clear hb20 HQ19 HVB19 HCC
       go_wp2_with fail
       refine (Fa.qE _ C _ HVB20.out (by have:=HPD.out.len;omega)).mono ?_
       rintro en w21 ⟨o21,rfl,ho21,hb21⟩
       have HO21:=Lib.hid (zq (E:=encF) ho21)
       have HQ21:=Lib.hid (HQ20.out.trans (hb21.mono HQ20.out.size))
       clear hb21 ho21 HQ20 HVB20
       go_wp2_with fail
       refine (Fa.qE _ C _ (ElsV.keep HVC10.out HQ21.out) (by have:=HPD.out.len;omega)).mono ?_
       rintro en w22 ⟨o22,rfl,ho22,hb22⟩
       have HO22:=Lib.hid (zq (E:=encF) ho22)
       have HP22:=Lib.hid (ElsV.keep HO21.out hb22)
       have HQ22:=Lib.hid (HQ21.out.trans (hb22.mono HQ21.out.size))
       clear hb22 ho22 HQ21 HO21
       go_wp2_with fail
       refine (Fa.kL _ _ C C _ HP22.out HO22.out).mono ?_
       rintro en w23 ⟨rfl,hb23⟩
       have HQ23:=Lib.hid (HQ22.out.trans (hb23.mono HQ22.out.size))
       have HB23:=Lib.hid (HB10.out.trans (HQ23.out.mono HB10.out.size))
       clear hb23
       have hsm:Fa.sameL C C=true:=by unfold Fa.sameL;exact decide_eq_true rfl
       simp only [hsm]
       go_wp2
       go_ret
       exact ⟨rfl,HB23.out⟩
     ·have hj1:(ej != 0)=true:=by simpa using hj
      clear hj
      subst hh hi
      go_wp2
      go_ret
      exact ⟨rfl,HB16.out⟩
    ·have hi1:(ei != 0)=true:=by simpa using hi
     clear hi
     subst hh
     go_wp2
     go_ret
     exact ⟨rfl,HB16.out⟩
   ·have hh1:(eh != 0)=true:=by simpa using hh
    clear hh
    go_wp2
    go_ret
    exact ⟨rfl,HB16.out⟩
  ·have hce1:(CE != 0)=true:=by simpa using hce
   have HB12:=Lib.hid (HB10.out.trans (HQ12.out.mono HB10.out.size))
   clear hce
   go_wp2
   go_ret
   exact ⟨rfl,HB12.out⟩
 ·have her1:(er != 0)=true:=by simpa using her
  have HB11:=Lib.hid (HB10.out.trans (HQ11.out.mono HB10.out.size))
  clear her
  go_wp2
  go_ret
  exact ⟨rfl,HB11.out⟩
end Go.Proofs.YtdhfpgjnjlcciaaGreatDoor.Co
end
