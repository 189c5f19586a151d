/- Base CoOpen CoPlain CoFacts CoGiven ControlLimits -/
import Derived.Test.YtdhfpgjnjlcciaaGreatDoorQ37
import Derived.Test.YtdhfpgjnjlcciaaGreatDoorQ41
section
namespace Go.Proofs.YtdhfpgjnjlcciaaGreatDoor
open Go.RowKit
def InU16 (a:Int):Prop:=0≤a∧a≤65535
theorem XP {a:Int} (h:(Lit.int .u16 a).wf=true):InU16 a:=by
 have e1:IntKind.u16.min=0:=rfl
 have e2:IntKind.u16.max=65535:=rfl
 simp [Lit.wf,e1,e2] at h
 exact h
end Go.Proofs.YtdhfpgjnjlcciaaGreatDoor
end
section
namespace Go.Proofs.YtdhfpgjnjlcciaaGreatDoor.Co
open Go.ChangeShapes Go.WideShapes Go.ChangeAt Go.RowKit Go.Deep
set_option maxRecDepth 100000
section
variable {H:Type} {enc:TypeId × Value→H} {W:World} {base:Nat} {sp:Nat→Bool} {held:Bool}
theorem zaP {r:Reach} {b0:Nat} {v:Value} {d:DataW H} {p:List MemPlace} (hv:Value.okWide Tryz.prog W r b0 83 v) (h:DataW.Trod enc Tryz.prog W base sp held 83 v d p):∃ a b:Int,v=.agg #[.int .u16 a,.int .u16 b]∧InU16 a∧InU16 b:=by
 have hC:Tryz.prog.cellsOf 83=2:=by kernel_rfl
 have c1:Tryz.prog.cellsOf 82=1:=by kernel_rfl
 simp only [Value.okWide,Tryz.underlying83] at hv
 obtain ⟨cs,rfl,hs,_⟩:=hv
 obtain ⟨fuel,hf⟩:=h
 obtain ⟨xs,n,_,_,hl,hxl,hg⟩:=DataW.trod_array Tryz.underlying83 hf
 rw [hC] at hs
 obtain ⟨cs⟩:=cs
 match cs,hs,xs,hxl with
 | [a0,a1],_,[y0,y1],_ =>
   have g0:=hg 0 (by decide)
   have g1:=hg 1 (by decide)
   simp [c1,Value.cells] at g0 g1
   obtain ⟨i0,e0,_,z0⟩:=DataW.trod_int Tryz.underlying82 g0
   obtain ⟨i1,e1,_,z1⟩:=DataW.trod_int Tryz.underlying82 g1
   simp at e0 e1
   subst e0 e1
   exact ⟨i0,i1,rfl,XP z0,XP z1⟩
end
end Go.Proofs.YtdhfpgjnjlcciaaGreatDoor.Co
end
section
namespace Go.Proofs.YtdhfpgjnjlcciaaGreatDoor.Co
open Go.RowKit Go.Proofs.YtdhfpgjnjlcciaaGreatDoor.Un Go.Proofs.YtdhfpgjnjlcciaaGreatDoor.Fa Go.Proofs.YtdhfpgjnjlcciaaGreatDoor.Pk
def checkP (M:Mast) (c:List Fact):Int:=zB M c (places c)
end Go.Proofs.YtdhfpgjnjlcciaaGreatDoor.Co
end
section
namespace Go.Proofs.YtdhfpgjnjlcciaaGreatDoor.Co
open Go.RowKit Go.Proofs.YtdhfpgjnjlcciaaGreatDoor.Un Go.Proofs.YtdhfpgjnjlcciaaGreatDoor.Fa Go.Proofs.YtdhfpgjnjlcciaaGreatDoor.Pk
theorem ZL {M:Mast} {c:List Fact} {lim:Int} {p:Key} (r:List Key) (h1:(gapP M c p).2=0) (h2:(gapP M c p).1=0):fixGo M c lim (p::r)=fixGo M c lim r:=by
 rw [fixGo,if_neg (by rw [h1];simp),if_pos h2]
theorem Qt {M:Mast} {c:List Fact} {lim:Int} {p:Key} (r:List Key) (h1:(gapP M c p).2=0) (h2:(gapP M c p).1≠0) (h5:¬ (lim < (gapP M c p).1∨(gapP M c p).1 < -lim∨moveF M=none)) :
 fixGo M c lim (p::r)=if (fixGo M c lim r).2=0 then (fixF ((moveF M).getD emp) p (gapP M c p).1::(fixGo M c lim r).1,0) else ([],(fixGo M c lim r).2):=by
 rw [fixGo,if_neg (by rw [h1];simp),if_neg h2,if_neg h5]
theorem Qj {M:Mast} {c:List Fact} {l0 l1:Int} (hl:l0≤l1):∀ {r:List Key},(fixGo M c l0 r).2=0→fixGo M c l1 r=fixGo M c l0 r
 | [],_=>rfl
 | p::r,h=>by
   obtain ⟨h3,_⟩:=y7 h
   obtain ⟨g1,g2⟩:=h3 p List.mem_cons_self
   by_cases hz:(gapP M c p).1=0
   ·rw [ZL r g1 hz] at h
    rw [ZL r g1 hz,ZL r g1 hz]
    exact Qj hl h
   ·obtain ⟨g3,g4,g5⟩:=g2 hz
    have n0:¬ (l0 < (gapP M c p).1∨(gapP M c p).1 < -l0∨moveF M=none):=by
     rintro (h | h | h)
     ·omega
     ·omega
     ·exact g3 h
    have n1:¬ (l1 < (gapP M c p).1∨(gapP M c p).1 < -l1∨moveF M=none):=by
     rintro (h | h | h)
     ·omega
     ·omega
     ·exact g3 h
    rw [Qt r g1 hz n0] at h
    rw [Qt r g1 hz n0,Qt r g1 hz n1]
    by_cases h6:(fixGo M c l0 r).2=0
    ·rw [Qj hl h6]
    ·rw [if_neg h6] at h;exact absurd h h6
theorem zcx {M:Mast} {c:List Fact} {l0 l1:Int} (hl:l0≤l1) (h:(fixP M c l0).2=0):fixP M c l1=fixP M c l0:=by
 obtain ⟨h0,h1,_⟩:=vP (M:=M) (c:=c) (lim:=l0) (d:=(fixP M c l0).1) (Prod.ext rfl h)
 unfold fixP
 rw [Qj hl h1,if_neg (show ¬ l1 < 0 by omega),if_neg (show ¬ l0 < 0 by omega)]
theorem ziC {M:Mast} {c:List Fact} (hc:IsCube c) (h:(fixP M c 0).2=0):fixP M c 0=(c,0)∧∀ p∈places c,gapP M c p=(0,0):=by
 obtain ⟨_,h1,_⟩:=vP (M:=M) (c:=c) (lim:=0) (d:=(fixP M c 0).1) (Prod.ext rfl h)
 obtain ⟨h3,_⟩:=y7 h1
 have hg:∀ p∈places c,gapP M c p=(0,0):=fun p hp=>by
  obtain ⟨g1,g2⟩:=h3 p hp
  refine Prod.ext ?_ g1
  apply Classical.byContradiction
  intro hz
  obtain ⟨_,g3,g4⟩:=g2 hz
  exact hz (by show (gapP M c p).1=0;omega)
 exact ⟨JD hc (Int.le_refl _) hg,hg⟩
theorem za1 (M:Mast) (c:List Fact) (e:ByteArray):balP M c e=0∨balP M c e=2∨balP M c e=9:=by
 unfold balP
 rcases Yo M c e 0 with ⟨h1,_⟩ | h1 <;> rcases Yo M c e 4 with ⟨h2,_⟩ | h2
 ·rw [h1,h2];simp only [ne_eq,not_true_eq_false,if_false];(repeat' split) <;> simp
 ·rw [h1,h2];simp only [ne_eq,not_true_eq_false,if_false];(repeat' split) <;> simp
 ·rw [h1];simp
 ·rw [h1];simp
theorem Xf {M:Mast} {c:List Fact}:∀ (r:List Key),zB M c r=9∨zB M c r=2∨(zB M c r=0∧∀ p∈r,gapP M c p=(0,0))∨(zB M c r=8∧(fixGo M c 0 r).2=8)
 | []=>.inr (.inr (.inl ⟨rfl,fun _ h=>by cases h⟩))
 | p::r=>by
   rcases x7 M c p with ⟨g1,_⟩ | g1
   ·by_cases hz:(gapP M c p).1=0
    ·have hg:gapP M c p=(0,0):=Prod.ext hz g1
     have e2:zB M c (p::r)=if r.head?.map Key.e=some p.e then zB M c r else if balP M c p.e≠0 then balP M c p.e else zB M c r:=by
      rw [zB,if_neg (by rw [g1];simp),if_neg (by rw [hz];simp)]
     have hrest:∀ {x:Int},(x=zB M c r)→(x=9∨x=2∨(x=0∧∀ q∈p::r,gapP M c q=(0,0))∨(x=8∧(fixGo M c 0 r).2=8)):=by
      rintro x rfl
      rcases Xf r with h | h | ⟨h,h'⟩ | h
      ·exact .inl h
      ·exact .inr (.inl h)
      ·refine .inr (.inr (.inl ⟨h,fun q hq=>?_⟩))
       rcases List.mem_cons.1 hq with rfl | hq
       ·exact hg
       ·exact h' q hq
      ·exact .inr (.inr (.inr h))
     rw [ZL r g1 hz,e2]
     split
     ·exact hrest rfl
     ·rcases za1 M c p.e with hb | hb | hb
      ·rw [if_neg (by rw [hb];simp)];exact hrest rfl
      ·rw [if_pos (by rw [hb];simp),hb];exact .inr (.inl rfl)
      ·rw [if_pos (by rw [hb];simp),hb];exact .inl rfl
    ·have e2:zB M c (p::r)=8:=by rw [zB,if_neg (by rw [g1];simp),if_pos hz]
     have e1:fixGo M c 0 (p::r)=([],8):=by rw [fixGo,if_neg (by rw [g1];simp),if_neg hz,if_pos (by omega)]
     rw [e1,e2]
     exact .inr (.inr (.inr ⟨rfl,rfl⟩))
   ·have e2:zB M c (p::r)=2:=by rw [zB,if_pos (by rw [g1];simp),g1]
    rw [e2]
    exact .inr (.inl rfl)
theorem zf3 {M:Mast} {c:List Fact} (hc:IsCube c):checkP M c=9∨checkP M c=2∨(checkP M c=0∧(fixP M c 0).2=0)∨(checkP M c=8∧(fixP M c 0).2=8):=by
 unfold checkP
 rcases Xf (M:=M) (c:=c) (places c) with h | h | ⟨h,h'⟩ | ⟨h,h'⟩
 ·exact .inl h
 ·exact .inr (.inl h)
 ·exact .inr (.inr (.inl ⟨h,by rw [JD hc (Int.le_refl _) h']⟩))
 ·refine .inr (.inr (.inr ⟨h,?_⟩))
  unfold fixP
  rw [if_neg (by omega),if_neg (by rw [h'];simp),h']
end Go.Proofs.YtdhfpgjnjlcciaaGreatDoor.Co
end
section
namespace Go.Proofs.YtdhfpgjnjlcciaaGreatDoor.Co
open Go.RowKit Go.Proofs.YtdhfpgjnjlcciaaGreatDoor.Un Go.Proofs.YtdhfpgjnjlcciaaGreatDoor.Fa Go.Proofs.YtdhfpgjnjlcciaaGreatDoor.Pk
structure LimB (w:World) (b:Nat) (x y:Int):Prop where
 c0:w.cell? ⟨b,0,none⟩=some (.int .u16 x)
 c1:w.cell? ⟨b,1,none⟩=some (.int .u16 y)
theorem LimB.kept {w w':World} {b:Nat} {x y:Int} (h:LimB w b x y) (hb:Below w.heap.size w w'):LimB w' b x y :=
 ⟨(hb.cell (p:=⟨b,0,none⟩) (World.block_lt_of_cell? w _ h.c0)).trans h.c0,(hb.cell (p:=⟨b,1,none⟩) (World.block_lt_of_cell? w _ h.c1)).trans h.c1⟩
theorem zjp (w:World) (x y:Int) (t:TypeId):LimB (w.alloc (.cells #[.int .u16 x,.int .u16 y] t)) w.heap.size x y :=
 ⟨by rw [cell_of_row _ w.heap.size 0 _ t (0,0) (heap_alloc_new w _)];rfl,by rw [cell_of_row _ w.heap.size 1 _ t (0,0) (heap_alloc_new w _)];rfl⟩
theorem Parsed.check {M:Mast} {c:List Fact} (h:Parsed M c) {W:World} {ch f e l v:Value} (hg:Giv W ch f e l v M c):Calls Tryz.prog 20 #[aggM ch f e l M,v] W fun en w'=>en=.returned (.int .i64 (checkP M c))∧Below W.heap.size W w':=by
 have:=hg.check
 rwa [vD h.all] at this
end Go.Proofs.YtdhfpgjnjlcciaaGreatDoor.Co
end
section
namespace Go.Proofs.YtdhfpgjnjlcciaaGreatDoor.Co
open Go.RowKit Go.Maps Go.Proofs.YtdhfpgjnjlcciaaGreatDoor.Un Go.Proofs.YtdhfpgjnjlcciaaGreatDoor.Pk
open Go.Proofs.YtdhfpgjnjlcciaaGreatDoor.Fa (Key Fact encF FactsV)
set_option maxRecDepth 100000 in
set_option maxHeartbeats 16000000 in
theorem zbT (s0 s1:ByteArray) (x y:Int) (w:World) (_hs0:s0.size≤maxLen) (_hs1:s1.size≤maxLen) (hx:InU16 x) (hy:InU16 y) (hU:LaidP w):Calls Tryz.prog 8 #[.agg #[.string s0,.string s1],.agg #[.int .u16 x,.int .u16 y]] w fun en w'=>en=.returned (.bool true)∧Below w.heap.size w w':=by
 have hb0:=(Below.refl w.heap.size w).alloc (Nat.le_refl _) (.cells #[.string s0,.string s1] 68)
 have hg0:=Z4 w s0 s1 68
 obtain ⟨V0,hV0⟩:∃ V0,w.alloc (.cells #[.string s0,.string s1] 68)=V0:=⟨_,rfl⟩
 rw [hV0] at hb0 hg0
 have hb1:=(Below.refl V0.heap.size V0).alloc (Nat.le_refl _) (.cells #[.int .u16 x,.int .u16 y] 83)
 have hl0:=zjp V0 x y 83
 obtain ⟨W0,hW0⟩:∃ W0,V0.alloc (.cells #[.int .u16 x,.int .u16 y] 83)=W0:=⟨_,rfl⟩
 rw [hW0] at hb1 hl0
 have HB0:=Lib.hid (hb0.trans (hb1.mono hb0.size))
 have HGB0:=Lib.hid (hg0.kept hb1)
 have HLB0:=Lib.hid hl0
 have HL:=Lib.hid (hU.keep HB0.out)
 have HX:=Lib.hid (show In64 x by obtain ⟨h1,h2⟩:=hx;exact ⟨by omega,by omega⟩)
 have HY:=Lib.hid (show In64 y by obtain ⟨h1,h2⟩:=hy;exact ⟨by omega,by omega⟩)
 obtain ⟨x1,x2⟩:=hx
 obtain ⟨y1,y2⟩:=hy
 clear hU hb0 hb1 hg0 hl0 _hs0 _hs1
 go_enter Tryz.func8,Tryz.ntmps8
 go_wp2_with fail
 clear hV0 hW0
 refine (vV _ HL.out).mono ?_
 rintro en w1 ⟨rfl,hb1⟩
 have HB1:=Lib.hid (HB0.out.trans (hb1.mono HB0.out.size))
 have HGB1:=Lib.hid (HGB0.out.kept hb1)
 have HLB1:=Lib.hid (HLB0.out.kept hb1)
 have HL1:=Lib.hid (HL.out.keep hb1)
 clear hb1
 obtain ⟨g0,g1⟩:=HGB1.out
 go_wp2_with fail
 clear g0 g1
 refine (vz s0 _ HL1.out.1 HL1.out.2.1).mono ?_
 rintro en w2 ⟨M,c,f,e,l,c',f',e',l',is,rfl,hm,hm',hb2,his⟩
 obtain ⟨pc,cc,pf,cf,pe,ce,pl,cl,rfl,rfl,rfl,rfl⟩:=shapes hm
 obtain ⟨pc',cc',pf',cf',pe',ce',pl',cl',rfl,rfl,rfl,rfl⟩:=shapes hm'
 have HM2:=Lib.hid hm
 have HM2':=Lib.hid hm'
 have HB2:=Lib.hid (HB1.out.trans (hb2.mono HB1.out.size))
 have HGB2:=Lib.hid (HGB1.out.kept hb2)
 have HLB2:=Lib.hid (HLB1.out.kept hb2)
 have HL2:=Lib.hid (HL1.out.keep hb2)
 have HIS:=Lib.hid his
 clear hm hm' hb2 his HB1 HL1 HGB1 HLB1 HGB0 HLB0 HL HB0
 by_cases hbig:4000 < s1.size
 ·cases is
  all_goals
   go_wp2_with (first
    | (refine zi rfl 33 (.tmp 5) (.tmp 22) rfl w2.heap.size nil4 nil4 nil4 nil4 (.slice pc M.chart.length cc) (.slice pf M.flows.length cf) (.slice pe M.ents.length ce) (.slice pl M.lines.length cl) zeroM M 33 rfl rfl (start1 w2) ⟨rfl,rfl,rfl,rfl⟩ (by kernel_rfl) ?_;intro w3 hb3 hg3;have HX3:=Lib.hid hb3;have HG3:=Lib.hid hg3;clear hb3 hg3)
    | (refine zi rfl 39 (.tmp 6) (.tmp 23) rfl (w2.heap.size+1) nil4 nil4 nil4 nil4 (.slice pc' M.chart.length cc') (.slice pf' M.flows.length cf') (.slice pe' M.ents.length ce') (.slice pl' M.lines.length cl') zeroM M 39 rfl rfl (qu HG3.out) ⟨rfl,rfl,rfl,rfl⟩ (by kernel_rfl) ?_;intro w4 hb4 hg4;have HT4:=Lib.hid (qs HM2.out HM2'.out HX3.out HG3.out hb4 hg4);clear hb4 hg4;have HB4:=Lib.hid (HB2.out.trans (HT4.out.bel.mono HB2.out.size));have HGB4:=Lib.hid (HGB2.out.kept HT4.out.bel);have HLB4:=Lib.hid (HLB2.out.kept HT4.out.bel);obtain ⟨g0,g1⟩:=HGB4.out;obtain ⟨z0,z1⟩:=HLB4.out;obtain ⟨n0,n1,n2,n3,n4,n5,n6,n7,n8⟩:=HT4.out.nine)
    | fail)
   go_ret
   exact ⟨rfl,HB4.out⟩
 by_cases hlim:y < x
 ·cases is
  all_goals
   go_wp2_with (first
    | (refine zi rfl 33 (.tmp 5) (.tmp 22) rfl w2.heap.size nil4 nil4 nil4 nil4 (.slice pc M.chart.length cc) (.slice pf M.flows.length cf) (.slice pe M.ents.length ce) (.slice pl M.lines.length cl) zeroM M 33 rfl rfl (start1 w2) ⟨rfl,rfl,rfl,rfl⟩ (by kernel_rfl) ?_;intro w3 hb3 hg3;have HX3:=Lib.hid hb3;have HG3:=Lib.hid hg3;clear hb3 hg3)
    | (refine zi rfl 39 (.tmp 6) (.tmp 23) rfl (w2.heap.size+1) nil4 nil4 nil4 nil4 (.slice pc' M.chart.length cc') (.slice pf' M.flows.length cf') (.slice pe' M.ents.length ce') (.slice pl' M.lines.length cl') zeroM M 39 rfl rfl (qu HG3.out) ⟨rfl,rfl,rfl,rfl⟩ (by kernel_rfl) ?_;intro w4 hb4 hg4;have HT4:=Lib.hid (qs HM2.out HM2'.out HX3.out HG3.out hb4 hg4);clear hb4 hg4;have HB4:=Lib.hid (HB2.out.trans (HT4.out.bel.mono HB2.out.size));have HGB4:=Lib.hid (HGB2.out.kept HT4.out.bel);have HLB4:=Lib.hid (HLB2.out.kept HT4.out.bel);obtain ⟨g0,g1⟩:=HGB4.out;obtain ⟨z0,z1⟩:=HLB4.out;obtain ⟨n0,n1,n2,n3,n4,n5,n6,n7,n8⟩:=HT4.out.nine)
    | fail)
   go_ret
   exact ⟨rfl,HB4.out⟩
 cases is with
 | false =>
   go_wp2_with (first
    | (refine zi rfl 33 (.tmp 5) (.tmp 22) rfl w2.heap.size nil4 nil4 nil4 nil4 (.slice pc M.chart.length cc) (.slice pf M.flows.length cf) (.slice pe M.ents.length ce) (.slice pl M.lines.length cl) zeroM M 33 rfl rfl (start1 w2) ⟨rfl,rfl,rfl,rfl⟩ (by kernel_rfl) ?_;intro w3 hb3 hg3;have HX3:=Lib.hid hb3;have HG3:=Lib.hid hg3;clear hb3 hg3)
    | (refine zi rfl 39 (.tmp 6) (.tmp 23) rfl (w2.heap.size+1) nil4 nil4 nil4 nil4 (.slice pc' M.chart.length cc') (.slice pf' M.flows.length cf') (.slice pe' M.ents.length ce') (.slice pl' M.lines.length cl') zeroM M 39 rfl rfl (qu HG3.out) ⟨rfl,rfl,rfl,rfl⟩ (by kernel_rfl) ?_;intro w4 hb4 hg4;have HT4:=Lib.hid (qs HM2.out HM2'.out HX3.out HG3.out hb4 hg4);clear hb4 hg4;have HB4:=Lib.hid (HB2.out.trans (HT4.out.bel.mono HB2.out.size));have HGB4:=Lib.hid (HGB2.out.kept HT4.out.bel);have HLB4:=Lib.hid (HLB2.out.kept HT4.out.bel);obtain ⟨g0,g1⟩:=HGB4.out;obtain ⟨z0,z1⟩:=HLB4.out;obtain ⟨n0,n1,n2,n3,n4,n5,n6,n7,n8⟩:=HT4.out.nine)
    | fail)
   go_ret
   exact ⟨rfl,HB4.out⟩
 | true =>
 go_wp2_with (first
  | (refine zi rfl 33 (.tmp 5) (.tmp 22) rfl w2.heap.size nil4 nil4 nil4 nil4 (.slice pc M.chart.length cc) (.slice pf M.flows.length cf) (.slice pe M.ents.length ce) (.slice pl M.lines.length cl) zeroM M 33 rfl rfl (start1 w2) ⟨rfl,rfl,rfl,rfl⟩ (by kernel_rfl) ?_;intro w3 hb3 hg3;have HX3:=Lib.hid hb3;have HG3:=Lib.hid hg3;clear hb3 hg3)
  | (refine zi rfl 39 (.tmp 6) (.tmp 23) rfl (w2.heap.size+1) nil4 nil4 nil4 nil4 (.slice pc' M.chart.length cc') (.slice pf' M.flows.length cf') (.slice pe' M.ents.length ce') (.slice pl' M.lines.length cl') zeroM M 39 rfl rfl (qu HG3.out) ⟨rfl,rfl,rfl,rfl⟩ (by kernel_rfl) ?_;intro w4 hb4 hg4;have HT4:=Lib.hid (qs HM2.out HM2'.out HX3.out HG3.out hb4 hg4);clear hb4 hg4;have HB4:=Lib.hid (HB2.out.trans (HT4.out.bel.mono HB2.out.size));have HGB4:=Lib.hid (HGB2.out.kept HT4.out.bel);have HLB4:=Lib.hid (HLB2.out.kept HT4.out.bel);obtain ⟨g0,g1⟩:=HGB4.out;obtain ⟨z0,z1⟩:=HLB4.out;obtain ⟨n0,n1,n2,n3,n4,n5,n6,n7,n8⟩:=HT4.out.nine)
  | fail)
 clear g0 g1 z0 z1 n0 n1 n2 n3 n4 n5 n6 n7 n8
 have HL4:=Lib.hid (HL2.out.keep HT4.out.bel)
 clear HM2 HM2' HB2 HL2 HX3 HG3 HGB2 HLB2
 have hR:=(HIS.out (by first | trivial | rfl)).1
 have HSN:=Lib.hid hR.inv.sane
 have hsz:s1.size≤4000:=by omega
 have HSZ:=Lib.hid hsz
 have HPP:=Lib.hid (fun W h hL=>vB (.slice pc M.chart.length cc) (.slice pf M.flows.length cf) (.slice pe M.ents.length ce) (.slice pl M.lines.length cl) M s1 W h HSN.out hL (by have:=HSZ.out;omega))
 obtain ⟨PR,hPR⟩:∃ PR,parseP M s1=PR:=⟨_,rfl⟩
 have HPR:=Lib.hid hPR
 simp only [hPR] at HPP
 obtain ⟨C,er⟩:=PR
 clear hR hsz hPR
 refine (HPP.out _ HT4.out.mast HL4.out.2.2).mono ?_
 rintro en w5 ⟨u5,rfl,hv5,hb5⟩
 have HVC5:=Lib.hid hv5
 have HB5:=Lib.hid (HB4.out.trans (hb5.mono HB4.out.size))
 have HT5:=Lib.hid (HT4.out.keep hb5)
 have HGB5:=Lib.hid (HGB4.out.kept hb5)
 have HLB5:=Lib.hid (HLB4.out.kept hb5)
 clear HB4 HT4 HGB4 HLB4
 clear hb5 hv5 HL4 HPP
 obtain ⟨qc,kc,rfl,_⟩:=id HVC5.out
 by_cases her:er=0
 ·subst her
  have HPD:=Lib.hid (x5 HPR.out HSZ.out)
  have HMO:=Lib.hid (zcx (M:=M) (c:=C) (show x≤y by omega))
  have HZE:=Lib.hid (ziC (M:=M) HPD.out.cube)
  have HCF:=Lib.hid (zf3 (M:=M) HPD.out.cube)
  obtain ⟨Fx,hFx⟩:∃ F,fixP M C x=F:=⟨_,rfl⟩
  obtain ⟨Fy,hFy⟩:∃ F,fixP M C y=F:=⟨_,rfl⟩
  obtain ⟨Fz,hFz⟩:∃ F,fixP M C 0=F:=⟨_,rfl⟩
  obtain ⟨ck,hck⟩:∃ k,checkP M C=k:=⟨_,rfl⟩
  rw [hFx,hFy] at HMO
  rw [hFz] at HZE HCF
  rw [hck] at HCF
  have HFX:=Lib.hid hFx
  have HFY:=Lib.hid hFy
  have HFZ:=Lib.hid hFz
  have HCK:=Lib.hid hck
  have HLX:Hid (Fx.1.length≤1000∧Fy.1.length≤1000∧Fz.1.length≤1000):=Lib.hid (by
   have key:∀ l,(fixP M C l).1.length≤1000:=fun l=>by
    unfold fixP
    split
    ·simp
    ·split
     ·have h1:=Fa.y6 (C++(fixGo M C l (places C)).1)
      have h2:=Ze M C l (places C)
      have h3:(places C).length≤C.length:=by unfold places;refine Nat.le_trans (Fa.yp _) ?_;rw [List.length_map];exact Nat.le_refl _
      have h4:=HPD.out.len
      rw [List.length_append] at h1
      omega
     ·simp
   exact ⟨by rw [←HFX.out];exact key x,by rw [←HFY.out];exact key y,by rw [←HFZ.out];exact key 0⟩)
  clear hFx hFy hFz hck
  obtain ⟨X,ex⟩:=Fx
  obtain ⟨Y,ey⟩:=Fy
  obtain ⟨Z,ez⟩:=Fz
  obtain ⟨n0,n1,n2,n3,n4,n5,n6,n7,n8⟩:=HT5.out.nine
  obtain ⟨z0,z1⟩:=HLB5.out
  have HC6:=Lib.hid (HPD.out.fix HX.out (HPD.out.giv HSN.out HT5.out.mast HVC5.out))
  rw [HFX.out] at HC6
  go_wp2_with fail
  clear n0 n1 n2 n3 n4 n5 n6 n7 n8 z0 z1
  refine HC6.out.mono ?_
  rintro en w6 ⟨u6,rfl,hv6,hb6⟩
  dsimp only at hv6
  obtain ⟨q6,k6,rfl,_⟩:=id hv6
  have HVX6:=Lib.hid hv6
  have HB6:=Lib.hid (HB5.out.trans (hb6.mono HB5.out.size))
  have HT6:=Lib.hid (HT5.out.keep hb6)
  have HGB6:=Lib.hid (HGB5.out.kept hb6)
  have HLB6:=Lib.hid (HLB5.out.kept hb6)
  have HVC6:=Lib.hid (ElsV.keep HVC5.out hb6)
  clear HB5 HT5 HGB5 HLB5 HVC5
  clear hb6 hv6 HC6
  obtain ⟨n0,n1,n2,n3,n4,n5,n6,n7,n8⟩:=HT6.out.nine
  obtain ⟨z0,z1⟩:=HLB6.out
  have HC7:=Lib.hid (HPD.out.fix HY.out (HPD.out.giv HSN.out HT6.out.mast HVC6.out))
  rw [HFY.out] at HC7
  go_wp2_with fail
  clear n0 n1 n2 n3 n4 n5 n6 n7 n8 z0 z1
  refine HC7.out.mono ?_
  rintro en w7 ⟨u7,rfl,hv7,hb7⟩
  dsimp only at hv7
  obtain ⟨q7,k7,rfl,_⟩:=id hv7
  have HVY7:=Lib.hid hv7
  have HB7:=Lib.hid (HB6.out.trans (hb7.mono HB6.out.size))
  have HT7:=Lib.hid (HT6.out.keep hb7)
  have HGB7:=Lib.hid (HGB6.out.kept hb7)
  have HLB7:=Lib.hid (HLB6.out.kept hb7)
  have HVC7:=Lib.hid (ElsV.keep HVC6.out hb7)
  have HVX7:=Lib.hid (ElsV.keep HVX6.out hb7)
  clear HB6 HT6 HGB6 HLB6 HVC6 HVX6
  clear hb7 hv7 HC7
  obtain ⟨n0,n1,n2,n3,n4,n5,n6,n7,n8⟩:=HT7.out.nine
  obtain ⟨z0,z1⟩:=HLB7.out
  have HC8:=Lib.hid (HPD.out.fix (show In64 0 from ⟨by decide,by decide⟩) (HPD.out.giv HSN.out HT7.out.mast HVC7.out))
  rw [HFZ.out] at HC8
  go_wp2_with fail
  clear n0 n1 n2 n3 n4 n5 n6 n7 n8 z0 z1
  refine HC8.out.mono ?_
  rintro en w8 ⟨u8,rfl,hv8,hb8⟩
  dsimp only at hv8
  obtain ⟨q8,k8,rfl,_⟩:=id hv8
  have HVZ8:=Lib.hid hv8
  have HB8:=Lib.hid (HB7.out.trans (hb8.mono HB7.out.size))
  have HT8:=Lib.hid (HT7.out.keep hb8)
  have HGB8:=Lib.hid (HGB7.out.kept hb8)
  have HLB8:=Lib.hid (HLB7.out.kept hb8)
  have HVC8:=Lib.hid (ElsV.keep HVC7.out hb8)
  have HVX8:=Lib.hid (ElsV.keep HVX7.out hb8)
  have HVY8:=Lib.hid (ElsV.keep HVY7.out hb8)
  clear HB7 HT7 HGB7 HLB7 HVC7 HVX7 HVY7
  clear hb8 hv8 HC8
  by_cases hfx:ex=0
  ·by_cases hfz:ez=0
   ·have hyx:=HMO.out hfx
    have hye:ey=0:=by have:=congrArg Prod.snd hyx;exact this.trans hfx
    have HYX:Hid (X=Y):=Lib.hid (congrArg Prod.fst hyx).symm
    clear hyx
    subst hfx
    subst hye
    have HZC:Hid (Z=C):=Lib.hid (congrArg Prod.fst (HZE.out hfz).1)
    subst hfz
    go_wp2_with fail
    refine (Fa.qE _ X _ HVX8.out (by have:=HLX.out;have:=HPD.out.len;omega)).mono ?_
    rintro en w9 ⟨o9,rfl,ho9,hb9⟩
    have HO9:=Lib.hid (zq (E:=encF) ho9)
    have HB9:=Lib.hid (HB8.out.trans (hb9.mono HB8.out.size))
    have HT9:=Lib.hid (HT8.out.keep hb9)
    have HGB9:=Lib.hid (HGB8.out.kept hb9)
    have HLB9:=Lib.hid (HLB8.out.kept hb9)
    have HVC9:=Lib.hid (ElsV.keep HVC8.out hb9)
    have HVX9:=Lib.hid (ElsV.keep HVX8.out hb9)
    have HVY9:=Lib.hid (ElsV.keep HVY8.out hb9)
    have HVZ9:=Lib.hid (ElsV.keep HVZ8.out hb9)
    clear HB8 HT8 HGB8 HLB8 HVC8 HVX8 HVY8 HVZ8
    clear hb9 ho9
    go_wp2_with fail
    refine (Fa.qE _ Y _ HVY9.out (by have:=HLX.out;have:=HPD.out.len;omega)).mono ?_
    rintro en w10 ⟨o10,rfl,ho10,hb10⟩
    have HR10:=Lib.hid (zq (E:=encF) ho10)
    have HO10:=Lib.hid (ElsV.keep HO9.out hb10)
    have HB10:=Lib.hid (HB9.out.trans (hb10.mono HB9.out.size))
    have HT10:=Lib.hid (HT9.out.keep hb10)
    have HGB10:=Lib.hid (HGB9.out.kept hb10)
    have HLB10:=Lib.hid (HLB9.out.kept hb10)
    have HVC10:=Lib.hid (ElsV.keep HVC9.out hb10)
    have HVX10:=Lib.hid (ElsV.keep HVX9.out hb10)
    have HVY10:=Lib.hid (ElsV.keep HVY9.out hb10)
    have HVZ10:=Lib.hid (ElsV.keep HVZ9.out hb10)
    clear HB9 HT9 HGB9 HLB9 HVC9 HVX9 HVY9 HVZ9
    clear hb10 ho10 HO9
    go_wp2_with fail
    refine (Fa.kL _ _ X Y _ HO10.out HR10.out).mono ?_
    rintro en w11 ⟨rfl,hb11⟩
    have HB11:=Lib.hid (HB10.out.trans (hb11.mono HB10.out.size))
    have HT11:=Lib.hid (HT10.out.keep hb11)
    have HGB11:=Lib.hid (HGB10.out.kept hb11)
    have HLB11:=Lib.hid (HLB10.out.kept hb11)
    have HVC11:=Lib.hid (ElsV.keep HVC10.out hb11)
    have HVX11:=Lib.hid (ElsV.keep HVX10.out hb11)
    have HVY11:=Lib.hid (ElsV.keep HVY10.out hb11)
    have HVZ11:=Lib.hid (ElsV.keep HVZ10.out hb11)
    clear HB10 HT10 HGB10 HLB10 HVC10 HVX10 HVY10 HVZ10
    clear hb11 HO10 HR10
    have hsm:Fa.sameL X Y=true:=by unfold Fa.sameL;exact decide_eq_true HYX.out
    simp only [hsm]
    clear hsm
    go_wp2_with fail
    refine (Fa.qE _ Z _ HVZ11.out (by have:=HLX.out;have:=HPD.out.len;omega)).mono ?_
    rintro en w12 ⟨o12,rfl,ho12,hb12⟩
    have HO12:=Lib.hid (zq (E:=encF) ho12)
    have HB12:=Lib.hid (HB11.out.trans (hb12.mono HB11.out.size))
    have HT12:=Lib.hid (HT11.out.keep hb12)
    have HGB12:=Lib.hid (HGB11.out.kept hb12)
    have HLB12:=Lib.hid (HLB11.out.kept hb12)
    have HVC12:=Lib.hid (ElsV.keep HVC11.out hb12)
    have HVX12:=Lib.hid (ElsV.keep HVX11.out hb12)
    have HVY12:=Lib.hid (ElsV.keep HVY11.out hb12)
    have HVZ12:=Lib.hid (ElsV.keep HVZ11.out hb12)
    clear HB11 HT11 HGB11 HLB11 HVC11 HVX11 HVY11 HVZ11
    clear hb12 ho12
    go_wp2_with fail
    refine (Fa.qE _ C _ HVC12.out (by have:=HLX.out;have:=HPD.out.len;omega)).mono ?_
    rintro en w13 ⟨o13,rfl,ho13,hb13⟩
    have HR13:=Lib.hid (zq (E:=encF) ho13)
    have HO13:=Lib.hid (ElsV.keep HO12.out hb13)
    have HB13:=Lib.hid (HB12.out.trans (hb13.mono HB12.out.size))
    have HT13:=Lib.hid (HT12.out.keep hb13)
    have HGB13:=Lib.hid (HGB12.out.kept hb13)
    have HLB13:=Lib.hid (HLB12.out.kept hb13)
    have HVC13:=Lib.hid (ElsV.keep HVC12.out hb13)
    have HVX13:=Lib.hid (ElsV.keep HVX12.out hb13)
    have HVY13:=Lib.hid (ElsV.keep HVY12.out hb13)
    have HVZ13:=Lib.hid (ElsV.keep HVZ12.out hb13)
    clear HB12 HT12 HGB12 HLB12 HVC12 HVX12 HVY12 HVZ12
    clear hb13 ho13 HO12
    go_wp2_with fail
    refine (Fa.kL _ _ Z C _ HO13.out HR13.out).mono ?_
    rintro en w14 ⟨rfl,hb14⟩
    have HB14:=Lib.hid (HB13.out.trans (hb14.mono HB13.out.size))
    have HT14:=Lib.hid (HT13.out.keep hb14)
    have HGB14:=Lib.hid (HGB13.out.kept hb14)
    have HLB14:=Lib.hid (HLB13.out.kept hb14)
    have HVC14:=Lib.hid (ElsV.keep HVC13.out hb14)
    have HVX14:=Lib.hid (ElsV.keep HVX13.out hb14)
    have HVY14:=Lib.hid (ElsV.keep HVY13.out hb14)
    have HVZ14:=Lib.hid (ElsV.keep HVZ13.out hb14)
    clear HB13 HT13 HGB13 HLB13 HVC13 HVX13 HVY13 HVZ13
    clear hb14 HO13 HR13
    have hsm:Fa.sameL Z C=true:=by unfold Fa.sameL;exact decide_eq_true HZC.out
    simp only [hsm]
    clear hsm
    have HCC:=Lib.hid (HPD.out.check (HPD.out.giv HSN.out HT14.out.mast HVC14.out))
    rw [HCK.out] at HCC
    obtain ⟨n0,n1,n2,n3,n4,n5,n6,n7,n8⟩:=HT14.out.nine
    go_wp2_with fail
    clear n0 n1 n2 n3 n4 n5 n6 n7 n8
    refine HCC.out.mono ?_
    rintro en w15 ⟨rfl,hb15⟩
    have HB15:=Lib.hid (HB14.out.trans (hb15.mono HB14.out.size))
    clear hb15 HCC
    rcases HCF.out with h9 | h2 | ⟨h0,hz0⟩ | ⟨h8,hz8⟩
    ·subst h9
     go_wp2
     go_ret
     exact ⟨by simp,HB15.out⟩
    ·subst h2
     go_wp2
     go_ret
     exact ⟨by simp,HB15.out⟩
    ·subst h0
     go_wp2
     go_ret
     exact ⟨by simp,HB15.out⟩
    ·exact absurd hz8 (by decide)
   ·have hyx:=HMO.out hfx
    have hye:ey=0:=by have:=congrArg Prod.snd hyx;exact this.trans hfx
    have HYX:Hid (X=Y):=Lib.hid (congrArg Prod.fst hyx).symm
    clear hyx
    subst hfx
    subst hye
    have hz1:(ez==0)=false:=by simpa using hfz
    have HNZ:=Lib.hid hfz
    clear hfz
    go_wp2_with fail
    refine (Fa.qE _ X _ HVX8.out (by have:=HLX.out;have:=HPD.out.len;omega)).mono ?_
    rintro en w9 ⟨o9,rfl,ho9,hb9⟩
    have HO9:=Lib.hid (zq (E:=encF) ho9)
    have HB9:=Lib.hid (HB8.out.trans (hb9.mono HB8.out.size))
    have HT9:=Lib.hid (HT8.out.keep hb9)
    have HGB9:=Lib.hid (HGB8.out.kept hb9)
    have HLB9:=Lib.hid (HLB8.out.kept hb9)
    have HVC9:=Lib.hid (ElsV.keep HVC8.out hb9)
    have HVX9:=Lib.hid (ElsV.keep HVX8.out hb9)
    have HVY9:=Lib.hid (ElsV.keep HVY8.out hb9)
    have HVZ9:=Lib.hid (ElsV.keep HVZ8.out hb9)
    clear HB8 HT8 HGB8 HLB8 HVC8 HVX8 HVY8 HVZ8
    clear hb9 ho9
    go_wp2_with fail
    refine (Fa.qE _ Y _ HVY9.out (by have:=HLX.out;have:=HPD.out.len;omega)).mono ?_
    rintro en w10 ⟨o10,rfl,ho10,hb10⟩
    have HR10:=Lib.hid (zq (E:=encF) ho10)
    have HO10:=Lib.hid (ElsV.keep HO9.out hb10)
    have HB10:=Lib.hid (HB9.out.trans (hb10.mono HB9.out.size))
    have HT10:=Lib.hid (HT9.out.keep hb10)
    have HGB10:=Lib.hid (HGB9.out.kept hb10)
    have HLB10:=Lib.hid (HLB9.out.kept hb10)
    have HVC10:=Lib.hid (ElsV.keep HVC9.out hb10)
    have HVX10:=Lib.hid (ElsV.keep HVX9.out hb10)
    have HVY10:=Lib.hid (ElsV.keep HVY9.out hb10)
    have HVZ10:=Lib.hid (ElsV.keep HVZ9.out hb10)
    clear HB9 HT9 HGB9 HLB9 HVC9 HVX9 HVY9 HVZ9
    clear hb10 ho10 HO9
    go_wp2_with fail
    refine (Fa.kL _ _ X Y _ HO10.out HR10.out).mono ?_
    rintro en w11 ⟨rfl,hb11⟩
    have HB11:=Lib.hid (HB10.out.trans (hb11.mono HB10.out.size))
    have HT11:=Lib.hid (HT10.out.keep hb11)
    have HGB11:=Lib.hid (HGB10.out.kept hb11)
    have HLB11:=Lib.hid (HLB10.out.kept hb11)
    have HVC11:=Lib.hid (ElsV.keep HVC10.out hb11)
    have HVX11:=Lib.hid (ElsV.keep HVX10.out hb11)
    have HVY11:=Lib.hid (ElsV.keep HVY10.out hb11)
    have HVZ11:=Lib.hid (ElsV.keep HVZ10.out hb11)
    clear HB10 HT10 HGB10 HLB10 HVC10 HVX10 HVY10 HVZ10
    clear hb11 HO10 HR10
    have hsm:Fa.sameL X Y=true:=by unfold Fa.sameL;exact decide_eq_true HYX.out
    simp only [hsm]
    clear hsm
    have HCC:=Lib.hid (HPD.out.check (HPD.out.giv HSN.out HT11.out.mast HVC11.out))
    rw [HCK.out] at HCC
    obtain ⟨n0,n1,n2,n3,n4,n5,n6,n7,n8⟩:=HT11.out.nine
    go_wp2_with fail
    clear n0 n1 n2 n3 n4 n5 n6 n7 n8
    refine HCC.out.mono ?_
    rintro en w12 ⟨rfl,hb12⟩
    have HB12:=Lib.hid (HB11.out.trans (hb12.mono HB11.out.size))
    clear hb12 HCC
    rcases HCF.out with h9 | h2 | ⟨h0,hz0⟩ | ⟨h8,hz8⟩
    ·subst h9
     go_wp2
     go_ret
     exact ⟨by simp,HB12.out⟩
    ·subst h2
     go_wp2
     go_ret
     exact ⟨by simp,HB12.out⟩
    ·exact absurd hz0 HNZ.out
    ·subst h8
     go_wp2
     go_ret
     exact ⟨by simp,HB12.out⟩
  ·by_cases hfz:ez=0
   ·have hx1:(ex==0)=false:=by simpa using hfx
    clear hfx
    have HZC:Hid (Z=C):=Lib.hid (congrArg Prod.fst (HZE.out hfz).1)
    subst hfz
    go_wp2_with fail
    refine (Fa.qE _ Z _ HVZ8.out (by have:=HLX.out;have:=HPD.out.len;omega)).mono ?_
    rintro en w9 ⟨o9,rfl,ho9,hb9⟩
    have HO9:=Lib.hid (zq (E:=encF) ho9)
    have HB9:=Lib.hid (HB8.out.trans (hb9.mono HB8.out.size))
    have HT9:=Lib.hid (HT8.out.keep hb9)
    have HGB9:=Lib.hid (HGB8.out.kept hb9)
    have HLB9:=Lib.hid (HLB8.out.kept hb9)
    have HVC9:=Lib.hid (ElsV.keep HVC8.out hb9)
    have HVX9:=Lib.hid (ElsV.keep HVX8.out hb9)
    have HVY9:=Lib.hid (ElsV.keep HVY8.out hb9)
    have HVZ9:=Lib.hid (ElsV.keep HVZ8.out hb9)
    clear HB8 HT8 HGB8 HLB8 HVC8 HVX8 HVY8 HVZ8
    clear hb9 ho9
    go_wp2_with fail
    refine (Fa.qE _ C _ HVC9.out (by have:=HLX.out;have:=HPD.out.len;omega)).mono ?_
    rintro en w10 ⟨o10,rfl,ho10,hb10⟩
    have HR10:=Lib.hid (zq (E:=encF) ho10)
    have HO10:=Lib.hid (ElsV.keep HO9.out hb10)
    have HB10:=Lib.hid (HB9.out.trans (hb10.mono HB9.out.size))
    have HT10:=Lib.hid (HT9.out.keep hb10)
    have HGB10:=Lib.hid (HGB9.out.kept hb10)
    have HLB10:=Lib.hid (HLB9.out.kept hb10)
    have HVC10:=Lib.hid (ElsV.keep HVC9.out hb10)
    have HVX10:=Lib.hid (ElsV.keep HVX9.out hb10)
    have HVY10:=Lib.hid (ElsV.keep HVY9.out hb10)
    have HVZ10:=Lib.hid (ElsV.keep HVZ9.out hb10)
    clear HB9 HT9 HGB9 HLB9 HVC9 HVX9 HVY9 HVZ9
    clear hb10 ho10 HO9
    go_wp2_with fail
    refine (Fa.kL _ _ Z C _ HO10.out HR10.out).mono ?_
    rintro en w11 ⟨rfl,hb11⟩
    have HB11:=Lib.hid (HB10.out.trans (hb11.mono HB10.out.size))
    have HT11:=Lib.hid (HT10.out.keep hb11)
    have HGB11:=Lib.hid (HGB10.out.kept hb11)
    have HLB11:=Lib.hid (HLB10.out.kept hb11)
    have HVC11:=Lib.hid (ElsV.keep HVC10.out hb11)
    have HVX11:=Lib.hid (ElsV.keep HVX10.out hb11)
    have HVY11:=Lib.hid (ElsV.keep HVY10.out hb11)
    have HVZ11:=Lib.hid (ElsV.keep HVZ10.out hb11)
    clear HB10 HT10 HGB10 HLB10 HVC10 HVX10 HVY10 HVZ10
    clear hb11 HO10 HR10
    have hsm:Fa.sameL Z C=true:=by unfold Fa.sameL;exact decide_eq_true HZC.out
    simp only [hsm]
    clear hsm
    have HCC:=Lib.hid (HPD.out.check (HPD.out.giv HSN.out HT11.out.mast HVC11.out))
    rw [HCK.out] at HCC
    obtain ⟨n0,n1,n2,n3,n4,n5,n6,n7,n8⟩:=HT11.out.nine
    go_wp2_with fail
    clear n0 n1 n2 n3 n4 n5 n6 n7 n8
    refine HCC.out.mono ?_
    rintro en w12 ⟨rfl,hb12⟩
    have HB12:=Lib.hid (HB11.out.trans (hb12.mono HB11.out.size))
    clear hb12 HCC
    rcases HCF.out with h9 | h2 | ⟨h0,hz0⟩ | ⟨h8,hz8⟩
    ·subst h9
     go_wp2
     go_ret
     exact ⟨by simp,HB12.out⟩
    ·subst h2
     go_wp2
     go_ret
     exact ⟨by simp,HB12.out⟩
    ·subst h0
     go_wp2
     go_ret
     exact ⟨by simp,HB12.out⟩
    ·exact absurd hz8 (by decide)
   ·have hx1:(ex==0)=false:=by simpa using hfx
    clear hfx
    have hz1:(ez==0)=false:=by simpa using hfz
    have HNZ:=Lib.hid hfz
    clear hfz
    have HCC:=Lib.hid (HPD.out.check (HPD.out.giv HSN.out HT8.out.mast HVC8.out))
    rw [HCK.out] at HCC
    obtain ⟨n0,n1,n2,n3,n4,n5,n6,n7,n8⟩:=HT8.out.nine
    go_wp2_with fail
    clear n0 n1 n2 n3 n4 n5 n6 n7 n8
    refine HCC.out.mono ?_
    rintro en w9 ⟨rfl,hb9⟩
    have HB9:=Lib.hid (HB8.out.trans (hb9.mono HB8.out.size))
    clear hb9 HCC
    rcases HCF.out with h9 | h2 | ⟨h0,hz0⟩ | ⟨h8,hz8⟩
    ·subst h9
     go_wp2
     go_ret
     exact ⟨by simp,HB9.out⟩
    ·subst h2
     go_wp2
     go_ret
     exact ⟨by simp,HB9.out⟩
    ·exact absurd hz0 HNZ.out
    ·subst h8
     go_wp2
     go_ret
     exact ⟨by simp,HB9.out⟩
 ·have her1:(er != 0)=true:=by simpa using her
  clear her
  go_wp2
  go_ret
  exact ⟨rfl,HB5.out⟩
end Go.Proofs.YtdhfpgjnjlcciaaGreatDoor.Co
end
