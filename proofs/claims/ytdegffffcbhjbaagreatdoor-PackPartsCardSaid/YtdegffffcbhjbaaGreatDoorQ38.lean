/- CentPlain ChartAdd FlowAdd FaFacts PkFacts FaAdd -/
import Derived.Ground.Names8Prog
import Derived.Shelf.Spec.SlicesGrow
import Derived.Test.YtdegffffcbhjbaaGreatDoorQ28
import Derived.Test.YtdegffffcbhjbaaGreatDoorQ31
import Derived.Test.YtdegffffcbhjbaaGreatDoorQ33
section
namespace Go.Proofs.YtdegffffcbhjbaaGreatDoor
open Go.RowKit (wrap64)
theorem fit_sumFrom (l:List Int):∀ n:Int,fit n=true→fit (sumFrom n l).1=true:=by
 induction l with
 | nil=>intro n h;exact h
 | cons a r ih =>
   intro n h
   cases hf:fit (n+a) with
   | false=>rw [sumFrom_no r hf];decide
   | true=>rw [sumFrom_yes r hf];exact ih _ hf
end Go.Proofs.YtdegffffcbhjbaaGreatDoor
end
section
namespace Go.Proofs.YtdegffffcbhjbaaGreatDoor
open Go.RowKit
def AddTold (w:World) (M:List Acct) (n:Int) (e:Ending) (w':World):Prop:=∃ v,e=.returned (.tuple #[v,.int .i64 n])∧ChartV w' v M∧Below w.heap.size w w'
theorem add_any (v:Value) (L:List Acct) (a:Acct) (w:World) (h:ChartV w v L) (hL:L.length≤1000) :
 Calls Tryz.prog 103 #[v,aggF a] w (AddTold w (addV L a) (addE L a)) :=
 (add_own v L a w h hL).mono fun _ _ ⟨u,e,ho,hb⟩=>⟨u,e,chart_of_own ho,hb⟩
end Go.Proofs.YtdegffffcbhjbaaGreatDoor
end
section
namespace Go.Proofs.YtdegffffcbhjbaaGreatDoor.Fl
open Go.RowKit
def AddTold (w:World) (M:List Flow) (n:Int) (e:Ending) (w':World):Prop:=∃ v,e=.returned (.tuple #[v,.int .i64 n])∧FlowsV w' v M∧Below w.heap.size w w'
theorem add_any (v:Value) (L:List Flow) (a:Flow) (w:World) (h:FlowsV w v L) (hrise:riseK Flow.code L=true) (hL:L.length≤1000) :
 Calls Tryz.prog 105 #[v,aggL a] w (AddTold w (addV L a) (addE L a)) :=
 (add_own v L a w h hrise hL).mono fun _ _ ⟨u,e,ho,hb⟩=>⟨u,e,els_of_own ho,hb⟩
end Go.Proofs.YtdegffffcbhjbaaGreatDoor.Fl
end
section
namespace Go.Proofs.YtdegffffcbhjbaaGreatDoor.Fa
theorem amts_append (a b:List Fact) (k:Key):amts (a++b) k=amts a k++amts b k:=by simp [amts]
theorem isum_append (a b:List Fact) (k:Key):isum (a++b) k=isum a k+isum b k:=by unfold isum;rw [amts_append,List.sum_append]
theorem isum_rise {c:List Fact} (h:RiseF c) (k:Key):isum c k=getL c k:=by
 induction c with
 | nil=>rfl
 | cons f c ih =>
   obtain ⟨h1,h2⟩:=List.pairwise_cons.1 h
   rw [isum_cons]
   by_cases e:f.key=k
   ·subst e
    rw [if_pos rfl,getL_mem h (List.mem_cons_self ..),ih h2,getL_no fun x hx e=>ltK_ne (h1 x hx) e.symm]
    omega
   ·rw [if_neg e,ih h2,Int.zero_add]
    unfold getL
    rw [List.find?_cons_of_neg (by simpa using e)]
theorem isum_cube (l:List Fact) (k:Key):isum (cube l) k=isum l k:=by rw [isum_rise (cube_rise l),getL_cube]
end Go.Proofs.YtdegffffcbhjbaaGreatDoor.Fa
end
section
namespace Go.Proofs.YtdegffffcbhjbaaGreatDoor.Pk
open Go.RowKit Go.Proofs.YtdegffffcbhjbaaGreatDoor.Un Go.Proofs.YtdegffffcbhjbaaGreatDoor.Fa
structure Beside (H:List ByteArray) (F:List Fact) (S T:St):Prop where
 had:S.had=H++T.had
 facts:S.facts=F++T.facts
 on:T.ent=emp∨(S.ent=T.ent∧S.mrk=T.mrk)
theorem Beside.step {M:Mast} {H:List ByteArray} {F:List Fact} {S T:St} {ws:List ByteArray} (h:Beside H F S T) (he:lineE M T ws=0) :
 lineE M S ws=7∨(lineE M S ws=0∧Beside H F (lineV S ws) (lineV T ws)):=by
 rcases line_ways he with ⟨h1,h2,h3,h4,e⟩ | ⟨h1,h2,h3,e⟩ | ⟨h1,h2,h3,e⟩
 ·have e1:lineE M S ws=if hadB S.had (wd ws 1)=true then 7 else 0:=by unfold lineE;rw [if_pos h1,if_pos h2,if_pos h3]
  by_cases hm:hadB S.had (wd ws 1)=true
  ·rw [if_pos hm] at e1;exact .inl e1
  ·rw [if_neg hm] at e1
   refine .inr ⟨e1,?_⟩
   rw [e]
   unfold lineV
   rw [if_pos h1]
   exact ⟨by dsimp only;rw [h.had,List.append_assoc],h.facts,.inr ⟨rfl,rfl⟩⟩
 ·have n1:wd ws 0≠tPackage:=by rw [h1];exact tP_J.symm
  refine .inr ⟨by unfold lineE;rw [if_neg n1,if_pos h1,if_pos h2];exact h3,?_⟩
  rw [e]
  unfold lineV
  rw [if_neg n1,if_pos h1]
  exact ⟨h.had,h.facts,.inr ⟨rfl,rfl⟩⟩
 ·have n1:wd ws 0≠tPackage:=by rw [h1];exact tP_F.symm
  have n2:wd ws 0≠tJournal:=by rw [h1];exact tJ_F.symm
  obtain ⟨q1,q2,q3,q4⟩:=factE_zero h3
  obtain ⟨hent,hmk⟩:=h.on.resolve_left q1
  have hk:keyF S ws=keyF T ws:=by unfold keyF;rw [hent,hmk]
  refine .inr ⟨?_,?_⟩
  ·unfold lineE
   rw [if_neg n1,if_neg n2,if_pos h1,if_pos h2]
   unfold factE at h3 ⊢
   rw [hk,hent];exact h3
  ·rw [e]
   unfold lineV
   rw [if_neg n1,if_neg n2]
   refine ⟨h.had,?_,.inr ⟨hent,hmk⟩⟩
   dsimp only
   unfold factV
   rw [h.facts,hk,List.append_assoc]
theorem Beside.run {M:Mast} {H:List ByteArray} {F:List Fact}:∀ (l:List (List ByteArray)) {S T T':St},Beside H F S T→runP M T l=(T',0)→(runP M S l).2=7∨∃ S',runP M S l=(S',0)∧S'.facts=F++T'.facts
 | [],S,T,T',h,e=>by
   simp only [runP,Prod.mk.injEq] at e
   rw [←e.1]
   exact .inr ⟨S,rfl,h.facts⟩
 | ws::r,S,T,T',h,e=>by
   by_cases he:lineE M T ws=0
   ·rw [runP_cons r he] at e
    rcases h.step he with h7 | ⟨h0,hb⟩
    ·rw [runP_stop r (by rw [h7];decide)]
     exact .inl h7
    ·rw [runP_cons r h0]
     exact Beside.run r hb e
   ·rw [runP_stop r he] at e
    exact absurd (Prod.mk.inj e).2 he
theorem wordsN_num:∀ (L:List (List UInt8)) (n:Nat),wordsN (numP (enumL n L))=wordsF L
 | [],n=>rfl
 | x::L,n=>by
   have ih:=wordsN_num L (n+1)
   have e:numP (enumL n (x::L))=(if wordsL x=[] then [] else [(n,wordsL x)])++numP (enumL (n+1) L):=by simp [numP,enumL]
   rw [e,wordsN_append,ih]
   unfold wordsF
   rw [List.flatMap_cons]
   split <;> rfl
theorem linesGo_two (cur u r:List UInt8):linesGo cur (u++10::r)=linesGo cur u++linesGo [] r:=by
 induction u generalizing cur with
 | nil=>simp [linesGo]
 | cons c u ih =>
   simp only [List.cons_append,linesGo]
   split
   ·rw [ih];rfl
   ·rw [ih]
theorem wordsF_append (A B:List (List UInt8)):wordsF (A++B)=wordsF A++wordsF B:=by simp [wordsF]
theorem wordsF_none:wordsF [[]]=[]:=by decide
theorem wordsT_ok {s:ByteArray} (h:linE s.data.toList=0):s.size≤20000∧okL s.data.toList=true∧wordsT s=wordsF (linesGo [] s.data.toList):=by
 unfold linE at h
 rw [size_list] at h
 by_cases h1:20000 < s.size
 ·rw [if_pos h1] at h;cases h
 ·rw [if_neg h1] at h
  cases h2:okL s.data.toList with
  | false=>rw [h2] at h;cases h
  | true =>
    refine ⟨by omega,rfl,?_⟩
    unfold wordsT linV
    rw [size_list,if_neg h1,h2,if_pos rfl]
    exact wordsN_num _ 1
theorem words_two {a b:ByteArray} (ha:linE a.data.toList=0) (hb:linE b.data.toList=0) (hs:a.size+b.size≤20000) (hl:a.size=0∨∃ u,a.data.toList=u++[10]) :
 linE (a++b).data.toList=0∧wordsT (a++b)=wordsT a++wordsT b:=by
 obtain ⟨a1,a2,a3⟩:=wordsT_ok ha
 obtain ⟨b1,b2,b3⟩:=wordsT_ok hb
 have hd:(a++b).data.toList=a.data.toList++b.data.toList:=by simp [ByteArray.data_append]
 have h0:linE (a++b).data.toList=0:=by
  unfold linE
  rw [hd,List.length_append,size_list,size_list,if_neg (by omega),if_pos]
  unfold okL at *
  rw [List.all_append,a2,b2];rfl
 refine ⟨h0,?_⟩
 rw [(wordsT_ok h0).2.2,a3,b3,hd]
 rcases hl with h | ⟨u,h⟩
 ·have:a.data.toList=[]:=List.eq_nil_of_length_eq_zero (by rw [size_list];exact h)
  rw [this,List.nil_append]
  show _=wordsF [[]]++_
  rw [wordsF_none,List.nil_append]
 ·rw [h,List.append_assoc,List.singleton_append,linesGo_two,linesGo_two,wordsF_append,wordsF_append]
  show _=(_++wordsF [[]])++_
  rw [wordsF_none,List.append_nil]
theorem parts {M:Mast} {a b:ByteArray} {x y:List Fact} (ha:parseP M a=(x,0)) (hb:parseP M b=(y,0)) (hs:a.size+b.size≤20000) (hl:a.size=0∨∃ u,a.data.toList=u++[10]) :
 (parseP M (a++b)).2=7∨(parseP M (a++b)).2=2∨(ofL (x++y)).2=2∨parseP M (a++b)=ofL (x++y):=by
 rcases parseP_ways M a with ⟨Ta,a1,a2,_,_,a5⟩ | ⟨hn,_,_⟩
 rotate_left
 ·rw [ha] at hn;exact absurd rfl hn
 rcases parseP_ways M b with ⟨Tb,b1,b2,_,_,b5⟩ | ⟨hn,_,_⟩
 rotate_left
 ·rw [hb] at hn;exact absurd rfl hn
 obtain ⟨h0,hw⟩:=words_two a1 b1 hs hl
 have hrun:runP M st0 (wordsT (a++b))=runP M Ta (wordsT b):=by rw [hw];exact runP_append _ _ a2
 have hbs:Beside Ta.had Ta.facts Ta st0:=⟨(List.append_nil _).symm,(List.append_nil _).symm,.inl rfl⟩
 have hp:parseP M (a++b)=endP (runP M Ta (wordsT b)):=by unfold parseP;rw [if_pos h0,hrun]
 rcases hbs.run _ b2 with h7 | ⟨S',hS,hf⟩
 ·left
  rw [hp]
  cases hr:runP M Ta (wordsT b) with
  | mk T n =>
    rw [hr] at h7
    dsimp only at h7
    rw [endP_no T (by rw [h7];decide)]
    exact h7
 ·rw [hp,hS,endP_ok,hf]
  rw [ha] at a5
  rw [hb] at b5
  rcases ofL_ways Ta.facts with hx | hx
  rotate_left
  ·rw [hx] at a5;cases (Prod.mk.inj a5).2
  rcases ofL_ways Tb.facts with hy | hy
  rotate_left
  ·rw [hy] at b5;cases (Prod.mk.inj b5).2
  rw [hx] at a5
  rw [hy] at b5
  have ex:=(Prod.mk.inj a5).1
  have ey:=(Prod.mk.inj b5).1
  rcases ofL_ways (Ta.facts++Tb.facts) with h1 | h1
  rotate_left
  ·rw [h1];exact .inr (.inl rfl)
  rcases ofL_ways (x++y) with h2 | h2
  rotate_left
  ·rw [h2];exact .inr (.inr (.inl rfl))
  rw [h1,h2]
  refine .inr (.inr (.inr ?_))
  congr 1
  exact cube_eq fun k=>by rw [ex,ey,isum_append,isum_append,isum_cube,isum_cube]
end Go.Proofs.YtdegffffcbhjbaaGreatDoor.Pk
end
section
namespace Go.Proofs.YtdegffffcbhjbaaGreatDoor.Fa
open Go.Shelf Go.RowKit
def growRen:Go.Shelf.Ren:=⟨fun | 4=>63 | n=>n,fun | 25=>58 | 22=>40 | 20=>20 | 9=>9 | 4=>4 | 3=>3 | 0=>0 | n=>n,fun | n=>n⟩
theorem growL:Go.Proofs.Lays8.n4 Tryz.prog growRen:={
 mixed:=by kernel_rfl
 f4:=⟨Tryz.f63.name,by decide,Tryz.func63.trans (congrArg some (by kernel_rfl))⟩
 t0:=Tryz.underlying0
 a0:=Tryz.isAgg0
 z0:=Tryz.sizeOf0
 v0:=Tryz.zeroValue0
 t3:=Tryz.underlying3
 a3:=Tryz.isAgg3
 z3:=Tryz.sizeOf3
 v3:=Tryz.zeroValue3
 t4:=Tryz.underlying4
 a4:=Tryz.isAgg4
 z4:=Tryz.sizeOf4
 v4:=Tryz.zeroValue4
 t9:=Tryz.underlying9
 a9:=Tryz.isAgg9
 z9:=Tryz.sizeOf9
 v9:=Tryz.zeroValue9
 t20:=Tryz.underlying20
 a20:=Tryz.isAgg20
 z20:=Tryz.sizeOf20
 v20:=Tryz.zeroValue20
 t22:=Tryz.underlying40
 a22:=Tryz.isAgg40
 z22:=Tryz.sizeOf40
 v22:=Tryz.zeroValue40 }
theorem info_fact:(Tryz.prog.info? 58).map (fun i=>(i.zero,i.size,i.bytes))=some (some (.agg #[.string ⟨#[]⟩,.string ⟨#[]⟩,.string ⟨#[]⟩,.string ⟨#[]⟩,.int .i64 0,.int .i64 0]),6,80):=by kernel_rfl
theorem grow_any (n:Nat) (w:World) (hn:n≤2000) :
 Calls Tryz.prog 63 #[.slice none 0 0,.int .i64 n] w fun e w'=>∃ v,e=.returned v∧w'.ownsRow w.heap.size 58 6 v 0 []∧Below w.heap.size w w':=by
 obtain ⟨i0,hi,hz0,hz1,hz2⟩:=info_parts info_fact
 by_cases h0:n=0
 ·subst h0
  refine (Any8.slices_Grow_room growL none 0 0 0 w (Nat.le_refl _) (by omega) (by omega) (Nat.le_refl _)).mono ?_
  rintro e w' ⟨rfl,rfl⟩
  exact ⟨_,rfl,World.ownsRow_nil _ _ _ _,Below.refl _ _⟩
 ·refine (Any8.slices_Grow_grow growL i0 _ hi hz0 (by rw [hz1];decide) none 0 0 n [] w (Nat.le_refl _) (by omega) (by rw [hz2];omega) (by omega) (by simp) (fun _=>rfl) (fun a e=>by cases e)).mono ?_
  rintro e w' ⟨rfl,rfl⟩
  refine ⟨_,rfl,⟨rfl,.inr ⟨w.heap.size,_,_,rfl,Nat.le_refl _,heap_alloc_new w.drew _,Nat.zero_le _,grownCap_le_maxLen _ _ _ _ (by unfold maxLen;omega),?_,by simp⟩⟩,?_⟩
  ·have hg:=grownCap_ge w (0+n) 0 58
   show (_++_++_:Array Value).size=grownCap w (0+n) 0 58 * 6
   rw [Array.size_append,Array.size_append,size_zeroCells,size_zeroCells]
   simp only [List.size_toArray,List.length_nil]
   show 0+(0+n - 0) * 6+(grownCap w (0+n) 0 58 - (0+n)) * 6=_
   omega
  ·have:=(Below.refl w.heap.size w.drew).alloc (o:=.cells ([].toArray++Builtin.zeroCells (Value.cells (.agg #[.string ⟨#[]⟩,.string ⟨#[]⟩,.string ⟨#[]⟩,.string ⟨#[]⟩,.int .i64 0,.int .i64 0])) (0+n - 0)++Builtin.zeroCells (Value.cells (.agg #[.string ⟨#[]⟩,.string ⟨#[]⟩,.string ⟨#[]⟩,.string ⟨#[]⟩,.int .i64 0,.int .i64 0])) (grownCap w (0+n) 0 58 - (0+n))) 58) (Nat.le_refl _)
   exact ⟨this.os,this.tape,this.output,this.size,this.block⟩
section
variable {α:Type} {E:Enc α} {P:Program} {ops:Array Oper} {rest:List Oper} {o:Oper} {a:Act} {w:World} {Q:Exit→Act→World→Prop}
theorem wpList_append_els (hgd:o.guard=none) (s x:Operand) (t e:TypeId) (ho:o.op=.call { callee:=.builtin .append,args:=#[s,x],argTypes:=#[t,t] }) (HI:InfoE P t e E)
 (B:Nat) (L M:List α) (hrow:w.ownsRow B e E.k (a.eval s) L.length (flat E L)) (hx:ElsV E w (a.eval x) M) (hB:B≤w.heap.size) (hL:L.length+M.length≤1000000)
 (h:∀ v' w',w'.ownsRow B e E.k v' (L++M).length (flat E (L++M))→Below B w w'→wpList P ops Q rest (a.put o.dst v') w'):wpList P ops Q (o::rest) a w:=by
 obtain ⟨i,z,m,hi,hz,hs,hn,hzs,hb⟩:=HI.info
 obtain ⟨p,c,ev,hcap,hm,hpn,hc⟩:=id hx
 cases p with
 | none =>
   have h0:=hpn rfl
   have:M=[]:=List.eq_nil_of_length_eq_zero (by omega)
   subst this
   subst h0
   refine wpList_append_own_none hgd s x t ho B e i E.k HI.under hi _ _ _ rfl hrow ev ?_
   exact h _ _ (by rw [List.append_nil];exact hrow) (Below.refl _ _)
 | some ad =>
   refine wpList_append_own w hgd s x t ho B e i z E.k m HI.under hi hz hs hn hzs E.pos _ _ _ rfl hrow ad M.length c (flat E M) ev (flat_length M) (fun j u hj=>?_) (flat_ones M) (by unfold maxLen;omega) (Nat.le_trans (Nat.mul_le_mul hL hb) (by decide)) hB ?_
   ·by_cases hne:M=[]
    ·subst hne;simp [flat] at hj
    ·rw [ev] at hx
     obtain ⟨b,of,e,_,hcell⟩:=hx.cells hne
     cases e
     rw [add_off];exact hcell j u hj
   ·intro v' w' h1 h2 _
    exact h v' w' (by rw [flat_append,List.length_append];exact h1) (below_grown (Below.refl _ _) hB hrow h2)
end
set_option maxRecDepth 100000 in
set_option maxHeartbeats 4000000 in
theorem concat_any (g:Nat) (va vb:Value) (A B:List Fact) (w:World) (ha:w.cell? ⟨g,0,none⟩=some va) (hb:w.cell? ⟨g,1,none⟩=some vb) (hA:FactsV w va A) (hB:FactsV w vb B) (hLA:A.length≤1000) (hLB:B.length≤1000) :
 Calls Tryz.prog 43 #[.slice (some ⟨g,0,none⟩) 2 2] w fun e w'=>∃ v,e=.returned v∧w'.ownsRow w.heap.size 58 6 v (A++B).length (flat encF (A++B))∧Below w.heap.size w w':=by
 have HA:=Lib.hid hA
 have HB:=Lib.hid hB
 obtain ⟨pa,ca,rfl,_,_,_,_⟩:=hA
 obtain ⟨pb,cb,rfl,_,_,_,_⟩:=hB
 obtain ⟨na,hna⟩:∃ n,A.length=n:=⟨_,rfl⟩
 obtain ⟨nb,hnb⟩:∃ n,B.length=n:=⟨_,rfl⟩
 rw [hna] at ha hLA HA
 rw [hnb] at hb hLB HB
 have HNA:=Lib.hid hna
 have HNB:=Lib.hid hnb
 have hlt:=World.block_lt_of_cell? w _ ha
 have HG:=Lib.hid (grow_any (na+nb) w (by omega))
 have h1:¬ (na:Int) < 0:=by omega
 have h2:¬ (na:Int)+(nb:Int) < 0:=by omega
 rw [show ((na+nb:Nat):Int)=(na:Int)+(nb:Int) by omega] at HG
 have hca:=Lib.hid ha
 have hcb:=Lib.hid hb
 clear hna hnb
 go_enter Tryz.func43,Tryz.ntmps43
 go_wp2
 refine wp_loop_rounds 3 ?_
 rw [rounds_succ]
 go_wp2
 rw [rounds_succ]
 go_wp2
 rw [rounds_succ]
 go_wp2_with fail
 refine HG.out.mono ?_
 rintro e w1 ⟨v1,rfl,hr1,hb1⟩
 clear ha hb
 have hc0:=(hb1.cell (p:=⟨g,0,none⟩) hlt).trans hca.out
 have hc1:=(hb1.cell (p:=⟨g,1,none⟩) hlt).trans hcb.out
 have HR1:Hid (w1.ownsRow w.heap.size 58 6 v1 ([]:List Fact).length (flat encF [])):=hr1
 have HB1:=Lib.hid hb1
 have HA1:=Lib.hid (HA.out.keep hb1)
 have HBB1:=Lib.hid (HB.out.keep hb1)
 clear hr1 hb1
 go_wp2
 refine wp_loop_rounds 3 ?_
 rw [rounds_succ]
 go_wp2_with (at_builtin;refine wpList_append_els (E:=encF) rfl _ _ 40 58 rfl infoF w.heap.size [] A HR1.out HA1.out HB1.out.size (by simp;have:=HNA.out;omega) ?_;intro v2 w2 hr2 hb2)
 have hc21:=(hb2.cell (p:=⟨g,1,none⟩) hlt).trans hc1
 have HR2:Hid (w2.ownsRow w.heap.size 58 6 v2 A.length (flat encF A)):=Lib.hid (by have:=hr2;rw [List.nil_append] at this;exact this)
 have HBB2:Hid (FactsV w2 (.slice pb nb cb) B):=Lib.hid (HB.out.keep (HB1.out.trans hb2))
 have HB2:=Lib.hid (HB1.out.trans hb2)
 clear hr2 hb2 hc0 hc1
 go_wp2
 rw [rounds_succ]
 go_wp2_with (at_builtin;refine wpList_append_els (E:=encF) rfl _ _ 40 58 rfl infoF w.heap.size A B HR2.out HBB2.out HB2.out.size (by have:=HNA.out;have:=HNB.out;omega) ?_;intro v3 w3 hr3 hb3)
 have HR3:=Lib.hid hr3
 have HB3:=Lib.hid (HB2.out.trans hb3)
 clear hr3 hb3 hc21
 go_wp2
 rw [rounds_succ]
 go_wp2
 go_ret
 exact ⟨_,rfl,HR3.out,HB3.out⟩
theorem two_new (w:World) (x y:Value) (t:TypeId):(w.alloc (.cells #[x,y] t)).cell? ⟨w.heap.size,0,none⟩=some x∧(w.alloc (.cells #[x,y] t)).cell? ⟨w.heap.size,1,none⟩=some y:=by
 constructor
 ·rw [cell_of_row _ w.heap.size 0 _ t (0,0) (heap_alloc_new w _)];rfl
 ·rw [cell_of_row _ w.heap.size 1 _ t (0,0) (heap_alloc_new w _)];rfl
set_option maxRecDepth 100000 in
set_option maxHeartbeats 4000000 in
theorem add_any (va vb:Value) (A B:List Fact) (w:World) (hA:FactsV w va A) (hB:FactsV w vb B) (hzA:∀ f∈A,In64 f.amt) (hzB:∀ f∈B,In64 f.amt) (hLA:A.length≤500) (hLB:B.length≤500) :
 Calls Tryz.prog 24 #[va,vb] w (CubeTold w (ofL (A++B))):=by
 have hb0:=(Below.refl w.heap.size w).alloc (Nat.le_refl _) (.cells #[va,vb] 40)
 have HC:=Lib.hid (concat_any w.heap.size va vb A B (w.alloc (.cells #[va,vb] 40)) (two_new _ _ _ _).1 (two_new _ _ _ _).2 (hA.keep hb0) (hB.keep hb0) (by omega) (by omega))
 have HO:=Lib.hid (fun v w' (h:FactsV w' v (A++B))=>of_any v (A++B) w' h (fun f hf=>(List.mem_append.1 hf).elim (hzA f) (hzB f)) (by simp;omega))
 have HB0:=Lib.hid hb0
 obtain ⟨R,hR⟩:∃ R,ofL (A++B)=R:=⟨_,rfl⟩
 rw [hR] at HO ⊢
 obtain ⟨pa,ca,rfl,_,_,_,_⟩:=hA
 obtain ⟨pb,cb,rfl,_,_,_,_⟩:=hB
 obtain ⟨na,hna⟩:∃ n,A.length=n:=⟨_,rfl⟩
 obtain ⟨nb,hnb⟩:∃ n,B.length=n:=⟨_,rfl⟩
 rw [hna,hnb] at HC HB0
 rw [hna,hnb]
 clear hb0 hzA hzB hLA hLB hR hna hnb
 go_enter Tryz.func24,Tryz.ntmps24
 go_wp2_with fail
 refine HC.out.mono ?_
 rintro e w1 ⟨v1,rfl,hr1,hb1⟩
 have HO1:=Lib.hid (HO.out v1 w1 (els_of_own hr1))
 have HB1:=Lib.hid (HB0.out.trans (hb1.mono HB0.out.size))
 clear hr1 hb1
 go_wp2_with fail
 refine HO1.out.mono ?_
 rintro e w2 ⟨u,rfl,hu,hb2⟩
 have HU:=Lib.hid hu
 have HB2:=Lib.hid (HB1.out.trans (hb2.mono HB1.out.size))
 clear hu hb2
 go_wp2
 go_ret2
 exact ⟨u,rfl,HU.out,HB2.out⟩
end Go.Proofs.YtdegffffcbhjbaaGreatDoor.Fa
end
