/- CsPlain CsArgs CsGiven LinesTwo CsMore -/
import Derived.Test.YthcpglnmhimepaaGreatDoorS42
import Derived.Test.YthcpglnmhimepaaGreatDoorS51
section
namespace Go.Proofs.YthcpglnmhimepaaGreatDoor.Cs
open Go.RowKit Go.Proofs.YthcpglnmhimepaaGreatDoor.Un Go.Proofs.YthcpglnmhimepaaGreatDoor.Pk
theorem rate_more {L:List Crs} {x:Crs} (h:G.findK Crs.key L x.key=none) (k:ByteArray × ByteArray × ByteArray):rateO (G.insK Crs.key L x) k=if x.key=k then some (x.num,x.den) else rateO L k:=by
 unfold rateO
 rw [G.findK_ins L x k h]
 split <;> rfl
theorem of_congr {M:Mast} {L N:List Crs} {c f:ByteArray} (h1:rateO N (tFlow,f,c)=rateO L (tFlow,f,c)) (h2:rateO N (sortK (kindF M f),emp,c)=rateO L (sortK (kindF M f),emp,c)):ofC M N c f=ofC M L c f:=by
 unfold ofC
 rw [h1,h2]
theorem sortK_ne (k:Int):sortK k≠tFlow:=by
 unfold sortK
 split
 ·decide
 ·split <;> decide
theorem more_cur {M:Mast} {L:List Crs} {x:Crs} (h:G.findK Crs.key L x.key=none) {c:ByteArray} (hc:c≠x.cur) (f:ByteArray):ofC M (G.insK Crs.key L x) c f=ofC M L c f:=by
 refine of_congr ?_ ?_
 ·rw [rate_more h,if_neg fun e=>hc (congrArg (·.2.2) e).symm]
 ·rw [rate_more h,if_neg fun e=>hc (congrArg (·.2.2) e).symm]
theorem more_flow {M:Mast} {L:List Crs} {x:Crs} (h:G.findK Crs.key L x.key=none) (hs:x.sort=tFlow) {f:ByteArray} (hf:f≠x.flw) (c:ByteArray):ofC M (G.insK Crs.key L x) c f=ofC M L c f:=by
 refine of_congr ?_ ?_
 ·rw [rate_more h,if_neg fun e=>hf (congrArg (·.2.1) e).symm]
 ·rw [rate_more h,if_neg fun e=>sortK_ne _ ((congrArg (·.1) e).symm.trans hs)]
theorem more_ok {M:Mast} {L:List Crs} {x:Crs} (h:G.findK Crs.key L x.key=none) {c f:ByteArray} (h0:(ofC M L c f).2=0):(ofC M (G.insK Crs.key L x) c f).2=0:=by
 have keep:∀ k r,rateO L k=some r→∃ r',rateO (G.insK Crs.key L x) k=some r':=fun k r hr=>by
  rw [rate_more h]
  split
  ·exact ⟨_,rfl⟩
  ·exact ⟨r,hr⟩
 unfold ofC at h0 ⊢
 by_cases h1:hasFl M f=false
 ·rw [if_pos h1] at h0;cases h0
 ·rw [if_neg h1] at h0 ⊢
  by_cases h2:kindF M f=2
  ·rw [if_pos h2] at h0;cases h0
  ·rw [if_neg h2] at h0 ⊢
   by_cases h3:c=M.cur
   ·rw [if_pos h3]
   ·rw [if_neg h3] at h0 ⊢
    cases h4:rateO (G.insK Crs.key L x) (tFlow,f,c) with
    | some r=>rfl
    | none =>
      cases h5:rateO (G.insK Crs.key L x) (sortK (kindF M f),emp,c) with
      | some r=>rfl
      | none =>
        cases h6:rateO L (tFlow,f,c) with
        | some r=>obtain ⟨r',e⟩:=keep _ _ h6;rw [e] at h4;cases h4
        | none =>
          rw [h6] at h0
          cases h7:rateO L (sortK (kindF M f),emp,c) with
          | some r=>obtain ⟨r',e⟩:=keep _ _ h7;rw [e] at h5;cases h5
          | none=>rw [h7] at h0;cases h0
end Go.Proofs.YthcpglnmhimepaaGreatDoor.Cs
end
section
namespace Go.Proofs.YthcpglnmhimepaaGreatDoor.Cs
open Go.ChangeShapes Go.WideShapes Go.ChangeAt Go.RowKit
set_option maxRecDepth 100000
section
variable {H:Type} {enc:TypeId × Value→H} {W:World} {base:Nat} {sp:Nat→Bool} {held:Bool}
theorem fourS_open {r:Reach} {b0:Nat} {v:Value} {d:DataW H} {p:List MemPlace} (hv:Value.okWide Tryz.prog W r b0 65 v) (h:DataW.Trod enc Tryz.prog W base sp held 65 v d p):∃ a b c e:ByteArray,v=.agg #[.string a,.string b,.string c,.string e]∧a.size≤maxLen∧b.size≤maxLen∧c.size≤maxLen∧e.size≤maxLen:=by
 have hC:Tryz.prog.cellsOf 65=4:=by kernel_rfl
 have c1:Tryz.prog.cellsOf 9=1:=by kernel_rfl
 simp only [Value.okWide,Tryz.underlying65] at hv
 obtain ⟨cs,rfl,hs,_⟩:=hv
 obtain ⟨fuel,hf⟩:=h
 obtain ⟨xs,n,_,_,hl,hxl,hg⟩:=DataW.trod_array Tryz.underlying65 hf
 rw [hC] at hs
 obtain ⟨cs⟩:=cs
 match cs,hs,xs,hxl with
 | [a0,a1,a2,a3],_,[y0,y1,y2,y3],_ =>
   have g0:=hg 0 (by decide)
   have g1:=hg 1 (by decide)
   have g2:=hg 2 (by decide)
   have g3:=hg 3 (by decide)
   simp [c1,Value.cells] at g0 g1 g2 g3
   obtain ⟨i0,e0,_,z0⟩:=DataW.trod_string Tryz.underlying9 g0
   obtain ⟨i1,e1,_,z1⟩:=DataW.trod_string Tryz.underlying9 g1
   obtain ⟨i2,e2,_,z2⟩:=DataW.trod_string Tryz.underlying9 g2
   obtain ⟨i3,e3,_,z3⟩:=DataW.trod_string Tryz.underlying9 g3
   simp at e0 e1 e2 e3
   subst e0 e1 e2 e3
   exact ⟨i0,i1,i2,i3,rfl,z0,z1,z2,z3⟩
end
end Go.Proofs.YthcpglnmhimepaaGreatDoor.Cs
end
section
namespace Go.Proofs.YthcpglnmhimepaaGreatDoor.Cs
open Go.RowKit Go.Proofs.YthcpglnmhimepaaGreatDoor.Un Go.Proofs.YthcpglnmhimepaaGreatDoor.Pk
theorem tab_rd (M:Mast) (s:ByteArray):TabRd M (parseC M s).1:=by
 rcases parse_ways M s with ⟨L,h1,_,h3⟩ | ⟨h1,_⟩
 ·rw [h3]
  have hi:=run_zero_of h1
  exact ⟨hi.rise,hi.len,fun f h1 h3 c=>hi.flow_none h1 h3 c⟩
 ·rw [h1];exact (TabOk.nil M).rd
end Go.Proofs.YthcpglnmhimepaaGreatDoor.Cs
end
section
namespace Go.Proofs.YthcpglnmhimepaaGreatDoor.Pk
open Go.RowKit Go.Proofs.YthcpglnmhimepaaGreatDoor.Un
def wordsF (L:List (List UInt8)):List (List ByteArray):=L.flatMap fun x=>if wordsL x=[] then [] else [(wordsL x).map mkB]
theorem wordsN_num:∀ (L:List (List UInt8)) (n:Nat),wordsN (numP (enumL n L))=wordsF L
 | [],n=>rfl
 | x::L,n=>by
   have ih:=wordsN_num L (n+1)
   have e:numP (enumL n (x::L))=(if wordsL x=[] then [] else [(n,wordsL x)])++numP (enumL (n+1) L):=by simp [numP,enumL]
   rw [e,wordsN_append,ih]
   unfold wordsF
   rw [List.flatMap_cons]
   split <;> rfl
theorem linesGo_two (cur u r:List UInt8):linesGo cur (u++10::r)=linesGo cur u++linesGo [] r:=by
 induction u generalizing cur with
 | nil=>simp [linesGo]
 | cons c u ih =>
   simp only [List.cons_append,linesGo]
   split
   ·rw [ih];rfl
   ·rw [ih]
theorem wordsF_append (A B:List (List UInt8)):wordsF (A++B)=wordsF A++wordsF B:=by simp [wordsF]
theorem wordsF_none:wordsF [[]]=[]:=by decide
theorem wordsT_ok {s:ByteArray} (h:linE s.data.toList=0):s.size≤20000∧okL s.data.toList=true∧wordsT s=wordsF (linesGo [] s.data.toList):=by
 unfold linE at h
 rw [size_list] at h
 by_cases h1:20000 < s.size
 ·rw [if_pos h1] at h;cases h
 ·rw [if_neg h1] at h
  cases h2:okL s.data.toList with
  | false=>rw [h2] at h;cases h
  | true =>
    refine ⟨by omega,rfl,?_⟩
    unfold wordsT linV
    rw [size_list,if_neg h1,h2,if_pos rfl]
    exact wordsN_num _ 1
theorem words_two {a b:ByteArray} (ha:linE a.data.toList=0) (hb:linE b.data.toList=0) (hs:a.size+b.size≤20000) (hl:a.size=0∨∃ u,a.data.toList=u++[10]) :
 linE (a++b).data.toList=0∧wordsT (a++b)=wordsT a++wordsT b:=by
 obtain ⟨a1,a2,a3⟩:=wordsT_ok ha
 obtain ⟨b1,b2,b3⟩:=wordsT_ok hb
 have hd:(a++b).data.toList=a.data.toList++b.data.toList:=by simp [ByteArray.data_append]
 have h0:linE (a++b).data.toList=0:=by
  unfold linE
  rw [hd,List.length_append,size_list,size_list,if_neg (by omega),if_pos]
  unfold okL at *
  rw [List.all_append,a2,b2];rfl
 refine ⟨h0,?_⟩
 rw [(wordsT_ok h0).2.2,a3,b3,hd]
 rcases hl with h | ⟨u,h⟩
 ·have:a.data.toList=[]:=List.eq_nil_of_length_eq_zero (by rw [size_list];exact h)
  rw [this,List.nil_append]
  show _=wordsF [[]]++_
  rw [wordsF_none,List.nil_append]
 ·rw [h,List.append_assoc,List.singleton_append,linesGo_two,linesGo_two,wordsF_append,wordsF_append]
  show _=(_++wordsF [[]])++_
  rw [wordsF_none,List.append_nil]
end Go.Proofs.YthcpglnmhimepaaGreatDoor.Pk
end
section
namespace Go.Proofs.YthcpglnmhimepaaGreatDoor.Cs
open Go.RowKit Go.Proofs.YthcpglnmhimepaaGreatDoor.Un Go.Proofs.YthcpglnmhimepaaGreatDoor.Pk
theorem textW_ends:∀ l:List (List ByteArray),l=[]∨∃ u,textW l=u++[10]
 | []=>.inl rfl
 | ws::l=>.inr (by
   have e:textW (ws::l)=(lineL ws++[10])++textW l:=rfl
   rcases textW_ends l with rfl | ⟨u,hu⟩
   ·exact ⟨lineL ws,by rw [e];simp [textW]⟩
   ·exact ⟨lineL ws++[10]++u,by rw [e,hu];simp⟩)
theorem okL_split {a b:List UInt8} (h:okL (a++b)=true):okL a=true∧okL b=true:=by
 unfold okL at *
 rw [List.all_append,Bool.and_eq_true] at h
 exact h
theorem text_more {M:Mast} {s more:ByteArray} {L K:List Crs} (h:runC M [] (wordsT s)=(L,0)) (hs:s.size≤4000) (hm:more.size≤2000) (hk:parseC M (printC L++more)=(K,0)):linE more.data.toList=0∧runC M L (wordsT more)=(K,0):=by
 have hi:=run_zero_of h
 have h1:=text_size s
 have h2:=words_szL hi.good
 rw [←szL_perm' (hi.perm.map wordsX)] at h2
 have hw:∀ ws∈L.map wordsX,rightW ws:=fun ws hw=>by obtain ⟨x,hx,rfl⟩:=List.mem_map.1 hw;exact words_right (hi.rightX x hx)
 obtain ⟨t1,t2⟩:=text_back (L.map wordsX) hw (by omega)
 have hsum:linE (printC L++more).data.toList=0:=by
  unfold parseC at hk
  by_cases h0:linE (printC L++more).data.toList=0
  ·exact h0
  ·rw [if_neg h0] at hk
   exact absurd (congrArg Prod.snd hk) h0
 have hmore:linE more.data.toList=0:=by
  obtain ⟨_,a2,_⟩:=wordsT_ok hsum
  have hd:(printC L++more).data.toList=(printC L).data.toList++more.data.toList:=by simp [ByteArray.data_append]
  rw [hd] at a2
  unfold linE
  rw [size_list,if_neg (by omega),(okL_split a2).2,if_pos rfl]
 refine ⟨hmore,?_⟩
 have hp:(printC L).size≤17000:=by
  unfold printC
  rw [mkB_size,textW_length]
  omega
 have hl:(printC L).size=0∨∃ u,(printC L).data.toList=u++[10]:=by
  unfold printC
  rcases textW_ends (L.map wordsX) with e | ⟨u,hu⟩
  ·exact .inl (by rw [e];rfl)
  ·exact .inr ⟨u,by rw [mkB_data];exact hu⟩
 obtain ⟨_,hwt⟩:=words_two (a:=printC L) (b:=more) t1 hmore (by omega) hl
 unfold parseC at hk
 rw [if_pos hsum,hwt] at hk
 have e:wordsT (printC L)=L.map wordsX:=t2
 rw [e,runC_append,run_words hi,if_pos rfl] at hk
 exact hk
theorem more_one {M:Mast} {L K:List Crs} {ws:List ByteArray} (h:runC M L [ws]=(K,0)):LineOk M ws∧G.findK Crs.key L (readV ws).key=none∧K=G.insK Crs.key L (readV ws):=by
 by_cases hs:stepE M L ws=0
 ·obtain ⟨h1,h2,_⟩:=step_zero.1 hs
  rw [runC_cons _ hs] at h
  exact ⟨h1,h2,(congrArg Prod.fst h).symm⟩
 ·rw [runC_stop _ hs] at h
  exact absurd (congrArg Prod.snd h) hs
end Go.Proofs.YthcpglnmhimepaaGreatDoor.Cs
end
