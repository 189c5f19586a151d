/- CoMove FaAdd CoFix CoSmall CoAlive PkStart FaOurs -/
import Derived.Ground.Names8Prog
import Derived.Shelf.Spec.SlicesGrow
import Derived.Test.YtdhfpgjnjlcciaaGreatDoorQ30
section
namespace Go.Proofs.YtdhfpgjnjlcciaaGreatDoor.Co
open Go.RowKit Go.Proofs.YtdhfpgjnjlcciaaGreatDoor.Un Go.Proofs.YtdhfpgjnjlcciaaGreatDoor.Fa Go.Proofs.YtdhfpgjnjlcciaaGreatDoor.Pk
def badMv (M:Mast) (n lim:Int):Bool:=decide (lim < n) || (decide (n < -lim) || (moveF M).isNone)
theorem kQ {M:Mast} {n lim:Int}:badMv M n lim=true ↔ (lim < n∨n < -lim∨moveF M=none):=by
 unfold badMv
 simp only [Bool.or_eq_true,decide_eq_true_eq,Option.isNone_iff_eq_none]
theorem Xg {M:Mast}:moveF M=none ↔ Fl.ofF M.flows 1=[]:=by
 unfold moveF
 rw [List.head?_eq_none_iff]
def mvV (M:Mast) (p:Key) (n lim:Int):Fact:=if badMv M n lim=true then zeroF6 else fixF ((moveF M).getD emp) p n
def mvE (M:Mast) (n lim:Int):Int:=if badMv M n lim=true then 8 else 0
set_option maxRecDepth 100000 in
set_option maxHeartbeats 8000000 in
theorem zby (c f e l:Value) (M:Mast) (p:Key) (n lim:Int) (w:World) (hM:MastIn w c f e l M) (hlf:M.flows.length≤1000) (hl0:0≤lim) (hl1:lim≤9223372036854775807) :
 Calls Tryz.prog 45 #[aggM c f e l M,aggP p,.int .i64 n,.int .i64 lim] w fun en w'=>en=.returned (.tuple #[Fa.aggF (mvV M p n lim),.int .i64 (mvE M n lim)])∧Below w.heap.size w w':=by
 obtain ⟨pc,cc,pf,cf,pe,ce,pl,cl,rfl,rfl,rfl,rfl⟩:=shapes hM
 obtain ⟨W1,hW1⟩:∃ W1,w.alloc (.cells (cellsM (.slice pc M.chart.length cc) (.slice pf M.flows.length cf) (.slice pe M.ents.length ce) (.slice pl M.lines.length cl) M) 33)=W1:=⟨_,rfl⟩
 have hb1:Below w.heap.size w W1:=by rw [←hW1];exact (Below.refl _ w).alloc (Nat.le_refl _) _
 have hn1:NineAt W1 w.heap.size (.slice pc M.chart.length cc) (.slice pf M.flows.length cf) (.slice pe M.ents.length ce) (.slice pl M.lines.length cl) M:=by rw [←hW1];exact zM w _ _ _ _ M _
 have hs1:W1.heap.size=w.heap.size+1:=by rw [←hW1,World.size_alloc]
 obtain ⟨W2,hW2⟩:∃ W2,W1.alloc (.cells #[.string p.e,.string p.a,.string p.p] 91)=W2:=⟨_,rfl⟩
 have hb12:Below W1.heap.size W1 W2:=by rw [←hW2];exact (Below.refl _ W1).alloc (Nat.le_refl _) _
 have hp2:ElAt encP W2 W1.heap.size 0 p:=by rw [←hW2];exact zf encP W1 p _
 have hs2:W2.heap.size=w.heap.size+1+1:=by rw [←hW2,World.size_alloc,hs1]
 obtain ⟨W3,hW3⟩:∃ W3,W2.alloc (.cells #[.string ⟨#[]⟩,.string ⟨#[]⟩,.string ⟨#[]⟩,.string ⟨#[]⟩,.int .i64 0,.int .i64 0] 76)=W3:=⟨_,rfl⟩
 have hb23:Below W2.heap.size W2 W3:=by rw [←hW3];exact (Below.refl _ W2).alloc (Nat.le_refl _) _
 have hz3:BoxE encF W3 W2.heap.size 76 zeroF6:=by rw [←hW3];exact BoxE.new encF W2 zeroF6 _
 have hb13:=hb12.trans (hb23.mono hb12.size)
 have hb3:=hb1.trans (hb13.mono hb1.size)
 have HB3:=Lib.hid hb3
 have HN3:=Lib.hid (hn1.kept hb13)
 have HP3:=Lib.hid (hp2.keep hb23 hp2.lt)
 have HZ3:=Lib.hid hz3
 have HS:=Lib.hid (show W1.heap.size=w.heap.size+1∧W2.heap.size=w.heap.size+1+1 from ⟨hs1,hs2⟩)
 have HOF:=Lib.hid (Fl.jX (.slice pf M.flows.length cf) M.flows 1 W3 ((hM.keep hb3).flows) hlf)
 have HLO:=Lib.hid (Nat.le_trans (Fl.ki M.flows 1) hlf)
 have HMV:=Lib.hid (show mvV M p n lim=if badMv M n lim=true then zeroF6 else fixF ((moveF M).getD emp) p n from rfl)
 have HME:=Lib.hid (show mvE M n lim=if badMv M n lim=true then 8 else 0 from rfl)
 obtain ⟨V,hV⟩:∃ V,mvV M p n lim=V:=⟨_,rfl⟩
 obtain ⟨E,hE⟩:∃ E,mvE M n lim=E:=⟨_,rfl⟩
 rw [hV] at HMV ⊢
 rw [hE] at HME ⊢
 clear hb1 hn1 hs1 hb12 hp2 hs2 hb23 hz3 hb13 hb3 hV hE hM hlf
 obtain ⟨k0,k1,k2,k3,k4,k5,k6,k7,k8⟩:=HN3.out
 go_enter Tryz.func45,Tryz.ntmps45
 go_wp2_with fail
 clear k0 k1 k2 k3 k4 k5 k6 k7 k8 hW1 hW2 hW3
 refine HOF.out.mono ?_
 rintro en w4 ⟨v,rfl,hv,hb4⟩
 obtain ⟨p5,c5,rfl,_,_,hc5⟩:=id hv
 obtain ⟨fl,hfl⟩:∃ fl,Fl.ofF M.flows 1=fl:=⟨_,rfl⟩
 rw [hfl] at hc5 HLO
 rw [hfl]
 obtain ⟨nf,hnf⟩:∃ nf,fl.length=nf:=⟨_,rfl⟩
 rw [hnf] at HLO
 rw [hnf]
 have HFL:=Lib.hid hfl
 have HNF:=Lib.hid hnf
 have HC5:=Lib.hid hc5
 have HB4:=Lib.hid (HB3.out.trans (hb4.mono HB3.out.size))
 have HP4:=Lib.hid (HP3.out.keep hb4 HP3.out.lt)
 have HZ4:=Lib.hid (HZ3.out.keep hb4 HZ3.out.lt)
 clear hv hc5 hb4 hfl hnf HP3 HZ3 HOF HB3
 have hln:=HLO.out
 by_cases h1:lim < n
 ·have HBD:Hid (badMv M n lim=true):=Lib.hid (kQ.2 (.inl h1))
  go_wp2_with (refine zY (E:=encF) rfl 76 (.tmp 8) (.tmp 29) rfl W2.heap.size zeroF6 zeroF6 76 rfl rfl HZ4.out (by kernel_rfl) ?_;intro w7 hb7 hg7)
  have HF:=Lib.hid (HB4.out.grown hg7 HB4.out.size (fun j hj=>by cases hj;have:=HS.out;omega))
  obtain ⟨e0,e1,e2,e3,e4,e5⟩:=fact6 hb7.at0
  simp only [Nat.zero_add] at e0 e1 e2 e3 e4 e5
  clear hb7 hg7
  refine bodyPost_ret (v:=.tuple #[Fa.aggF zeroF6,.int .i64 8]) (by simp [results,Tryz.results45,go_sem,e0,e1,e2,e3,e4,e5]) rfl ⟨?_,HF.out⟩
  rw [HMV.out,HME.out,if_pos HBD.out,if_pos HBD.out]
 ·by_cases h2:n < -lim
  ·have HBD:Hid (badMv M n lim=true):=Lib.hid (kQ.2 (.inr (.inl h2)))
   go_wp2_with (refine zY (E:=encF) rfl 76 (.tmp 8) (.tmp 29) rfl W2.heap.size zeroF6 zeroF6 76 rfl rfl HZ4.out (by kernel_rfl) ?_;intro w7 hb7 hg7)
   have HF:=Lib.hid (HB4.out.grown hg7 HB4.out.size (fun j hj=>by cases hj;have:=HS.out;omega))
   obtain ⟨e0,e1,e2,e3,e4,e5⟩:=fact6 hb7.at0
   simp only [Nat.zero_add] at e0 e1 e2 e3 e4 e5
   clear hb7 hg7
   refine bodyPost_ret (v:=.tuple #[Fa.aggF zeroF6,.int .i64 8]) (by simp [results,Tryz.results45,go_sem,e0,e1,e2,e3,e4,e5]) rfl ⟨?_,HF.out⟩
   rw [HMV.out,HME.out,if_pos HBD.out,if_pos HBD.out]
  ·by_cases h3:nf=0
   ·have HBD:Hid (badMv M n lim=true):=Lib.hid (kQ.2 (.inr (.inr (Xg.2 (by rw [HFL.out];exact List.eq_nil_of_length_eq_zero (by rw [HNF.out];exact h3))))))
    subst h3
    go_wp2_with (refine zY (E:=encF) rfl 76 (.tmp 8) (.tmp 29) rfl W2.heap.size zeroF6 zeroF6 76 rfl rfl HZ4.out (by kernel_rfl) ?_;intro w7 hb7 hg7)
    have HF:=Lib.hid (HB4.out.grown hg7 HB4.out.size (fun j hj=>by cases hj;have:=HS.out;omega))
    obtain ⟨e0,e1,e2,e3,e4,e5⟩:=fact6 hb7.at0
    simp only [Nat.zero_add] at e0 e1 e2 e3 e4 e5
    clear hb7 hg7
    refine bodyPost_ret (v:=.tuple #[Fa.aggF zeroF6,.int .i64 8]) (by simp [results,Tryz.results45,go_sem,e0,e1,e2,e3,e4,e5]) rfl ⟨?_,HF.out⟩
    rw [HMV.out,HME.out,if_pos HBD.out,if_pos HBD.out]
   ·obtain ⟨x,hx⟩:∃ x,fl[0]?=some x:=⟨_,List.getElem?_eq_getElem (by rw [HNF.out];omega)⟩
    have HBD:Hid (¬ badMv M n lim=true):=Lib.hid fun hb=>by
     rcases kQ.1 hb with hb | hb | hb
     ·exact h1 hb
     ·exact h2 hb
     ·rw [Xg,HFL.out] at hb;rw [hb] at hx;simp at hx
    have HX:Hid ((moveF M).getD emp=x):=Lib.hid (by unfold moveF;rw [HFL.out,List.head?_eq_getElem?,hx];rfl)
    obtain ⟨b,o,e',hat⟩:=HC5.out 0 x hx
    cases e'
    have h3z:((nf:Int)==0)=false:=by rw [beq_eq_false_iff_ne];omega
    clear hx
    obtain ⟨q0,q1,q2⟩:=place3 HP4.out
    simp only [Nat.zero_add] at q0 q1 q2
    rw [Nat.add_zero] at hat
    have r0:=fun q:Past w4=>za q0 q
    have r1:=fun q:Past w4=>za q1 q
    have r2:=fun q:Past w4=>za q2 q
    have r3:=fun q:Past w4=>za hat q
    clear q0 q1 q2 hat
    go_wp2_with fail
    refine qX (.one [0,1,2,3,4,5,6,7,8,9] 10 (.one [] 11 (.last []))) (by kernel_rfl) (by kernel_rfl) (fun d _ _ _ _ h=>by cases d <;> exact h) ?_
    obtain ⟨wz,hwz⟩:∃ wz,w4.drew=wz:=⟨_,rfl⟩
    rw [hwz]
    have HQ:Hid (Below w4.heap.size w4 wz):=Lib.hid (by rw [←hwz];exact ⟨rfl,rfl,rfl,Nat.le_refl _,fun _ _=>rfl⟩)
    clear hwz
    simp only [wpPlan,pick,nth]
    repeat (go_big_quiet_step (fail))
    refine wpQuiet_nil ?_
    clear r0 r1 r2 r3
    intro K hK
    refine ze (by kernel_rfl) ?_
    go_big_op
    have HBA:=Lib.hid (HQ.out.alloc HQ.out.size (.cells #[.string ⟨#[]⟩,.string ⟨#[]⟩,.string ⟨#[]⟩,.string ⟨#[]⟩,.int .i64 0] 74))
    refine hK _ _ (zy HBA.out) ?_
    clear hK K
    refine wpQuiet_nil ?_
    intro K hK
    refine ze (by kernel_rfl) ?_
    refine Fa.JG (E:=Go.Proofs.YtdhfpgjnjlcciaaGreatDoor.Fa.encK) 74 (.tmp 11) (.tmp 39) rfl wz.heap.size 74 zeroK ⟨p.e,p.a,x,p.p,1⟩ rfl rfl (BoxE.new Go.Proofs.YtdhfpgjnjlcciaaGreatDoor.Fa.encK wz zeroK _) (by kernel_rfl) ?_
    intro w6 hk6 hg6
    have HB6:=Lib.hid (HBA.out.grown hg6 HBA.out.size (fun j hj=>by cases hj;exact HQ.out.size))
    refine hK _ _ (zy HB6.out) ?_
    clear hK K
    refine wpQuiet_nil ?_
    have HZ6:=Lib.hid (HZ4.out.keep HB6.out HZ4.out.lt)
    have HBF:=Lib.hid (HB4.out.trans (HB6.out.mono HB4.out.size))
    obtain ⟨j0,j1,j2,j3,j4⟩:=key5 hk6
    simp only [Nat.zero_add] at j0 j1 j2 j3 j4
    clear hk6 hg6
    go_wp2_with (refine zY (E:=encF) rfl 76 (.tmp 8) (.tmp 42) rfl W2.heap.size zeroF6 (fixF x p n) 76 rfl rfl HZ6.out (by kernel_rfl) ?_;intro w7 hb7 hg7)
    have HF:=Lib.hid (HBF.out.grown hg7 HBF.out.size (fun j hj=>by cases hj;have:=HS.out;omega))
    obtain ⟨e0,e1,e2,e3,e4,e5⟩:=fact6 hb7.at0
    simp only [Nat.zero_add] at e0 e1 e2 e3 e4 e5
    clear hb7 hg7
    refine bodyPost_ret (v:=.tuple #[Fa.aggF (fixF x p n),.int .i64 0]) (by simp [results,Tryz.results45,go_sem,e0,e1,e2,e3,e4,e5]) rfl ⟨?_,HF.out⟩
    rw [HMV.out,HME.out,if_neg HBD.out,if_neg HBD.out,HX.out]
end Go.Proofs.YtdhfpgjnjlcciaaGreatDoor.Co
end
section
namespace Go.Proofs.YtdhfpgjnjlcciaaGreatDoor.Fa
open Go.Shelf Go.RowKit
def zfQ:Go.Shelf.Ren:=⟨fun | 4=>85 | n=>n,fun | 25=>76 | 22=>57 | 20=>20 | 9=>9 | 4=>4 | 3=>3 | 0=>0 | n=>n,fun | n=>n⟩
theorem growL:Go.Proofs.Lays8.n4 Tryz.prog zfQ:={
 mixed:=by kernel_rfl
 f4:=⟨Tryz.f85.name,by decide,Tryz.func85.trans (congrArg some (by kernel_rfl))⟩
 t0:=Tryz.underlying0
 a0:=Tryz.isAgg0
 z0:=Tryz.sizeOf0
 v0:=Tryz.zeroValue0
 t3:=Tryz.underlying3
 a3:=Tryz.isAgg3
 z3:=Tryz.sizeOf3
 v3:=Tryz.zeroValue3
 t4:=Tryz.underlying4
 a4:=Tryz.isAgg4
 z4:=Tryz.sizeOf4
 v4:=Tryz.zeroValue4
 t9:=Tryz.underlying9
 a9:=Tryz.isAgg9
 z9:=Tryz.sizeOf9
 v9:=Tryz.zeroValue9
 t20:=Tryz.underlying20
 a20:=Tryz.isAgg20
 z20:=Tryz.sizeOf20
 v20:=Tryz.zeroValue20
 t22:=Tryz.underlying57
 a22:=Tryz.isAgg57
 z22:=Tryz.sizeOf57
 v22:=Tryz.zeroValue57 }
theorem zbs:(Tryz.prog.info? 76).map (fun i=>(i.zero,i.size,i.bytes))=some (some (.agg #[.string ⟨#[]⟩,.string ⟨#[]⟩,.string ⟨#[]⟩,.string ⟨#[]⟩,.int .i64 0,.int .i64 0]),6,80):=by kernel_rfl
theorem zct (n:Nat) (w:World) (hn:n≤2000) :
 Calls Tryz.prog 85 #[.slice none 0 0,.int .i64 n] w fun e w'=>∃ v,e=.returned v∧w'.ownsRow w.heap.size 76 6 v 0 []∧Below w.heap.size w w':=by
 obtain ⟨i0,hi,hz0,hz1,hz2⟩:=info_parts zbs
 by_cases h0:n=0
 ·subst h0
  refine (Any8.slices_Grow_room growL none 0 0 0 w (Nat.le_refl _) (by omega) (by omega) (Nat.le_refl _)).mono ?_
  rintro e w' ⟨rfl,rfl⟩
  exact ⟨_,rfl,World.ownsRow_nil _ _ _ _,Below.refl _ _⟩
 ·refine (Any8.slices_Grow_grow growL i0 _ hi hz0 (by rw [hz1];decide) none 0 0 n [] w (Nat.le_refl _) (by omega) (by rw [hz2];omega) (by omega) (by simp) (fun _=>rfl) (fun a e=>by cases e)).mono ?_
  rintro e w' ⟨rfl,rfl⟩
  refine ⟨_,rfl,⟨rfl,.inr ⟨w.heap.size,_,_,rfl,Nat.le_refl _,heap_alloc_new w.drew _,Nat.zero_le _,grownCap_le_maxLen _ _ _ _ (by unfold maxLen;omega),?_,by simp⟩⟩,?_⟩
  ·have hg:=grownCap_ge w (0+n) 0 76
   show (_++_++_:Array Value).size=grownCap w (0+n) 0 76 * 6
   rw [Array.size_append,Array.size_append,size_zeroCells,size_zeroCells]
   simp only [List.size_toArray,List.length_nil]
   show 0+(0+n - 0) * 6+(grownCap w (0+n) 0 76 - (0+n)) * 6=_
   omega
  ·have:=(Below.refl w.heap.size w.drew).alloc (o:=.cells ([].toArray++Builtin.zeroCells (Value.cells (.agg #[.string ⟨#[]⟩,.string ⟨#[]⟩,.string ⟨#[]⟩,.string ⟨#[]⟩,.int .i64 0,.int .i64 0])) (0+n - 0)++Builtin.zeroCells (Value.cells (.agg #[.string ⟨#[]⟩,.string ⟨#[]⟩,.string ⟨#[]⟩,.string ⟨#[]⟩,.int .i64 0,.int .i64 0])) (grownCap w (0+n) 0 76 - (0+n))) 76) (Nat.le_refl _)
   exact ⟨this.os,this.tape,this.output,this.size,this.block⟩
section
variable {α:Type} {E:Enc α} {P:Program} {ops:Array Oper} {rest:List Oper} {o:Oper} {a:Act} {w:World} {Q:Exit→Act→World→Prop}
theorem XS (hgd:o.guard=none) (s x:Operand) (t e:TypeId) (ho:o.op=.call { callee:=.builtin .append,args:=#[s,x],argTypes:=#[t,t] }) (HI:InfoE P t e E)
 (B:Nat) (L M:List α) (hrow:w.ownsRow B e E.k (a.eval s) L.length (flat E L)) (hx:ElsV E w (a.eval x) M) (hB:B≤w.heap.size) (hL:L.length+M.length≤1000000)
 (h:∀ v' w',w'.ownsRow B e E.k v' (L++M).length (flat E (L++M))→Below B w w'→wpList P ops Q rest (a.put o.dst v') w'):wpList P ops Q (o::rest) a w:=by
 obtain ⟨i,z,m,hi,hz,hs,hn,hzs,hb⟩:=HI.info
 obtain ⟨p,c,ev,hcap,hm,hpn,hc⟩:=id hx
 cases p with
 | none =>
   have h0:=hpn rfl
   have:M=[]:=List.eq_nil_of_length_eq_zero (by omega)
   subst this
   subst h0
   refine wpList_append_own_none hgd s x t ho B e i E.k HI.under hi _ _ _ rfl hrow ev ?_
   exact h _ _ (by rw [List.append_nil];exact hrow) (Below.refl _ _)
 | some ad =>
   refine wpList_append_own w hgd s x t ho B e i z E.k m HI.under hi hz hs hn hzs E.pos _ _ _ rfl hrow ad M.length c (flat E M) ev (qv M) (fun j u hj=>?_) (je M) (by unfold maxLen;omega) (Nat.le_trans (Nat.mul_le_mul hL hb) (by decide)) hB ?_
   ·by_cases hne:M=[]
    ·subst hne;simp [flat] at hj
    ·rw [ev] at hx
     obtain ⟨b,of,e,_,hcell⟩:=hx.cells hne
     cases e
     rw [zl];exact hcell j u hj
   ·intro v' w' h1 h2 _
    exact h v' w' (by rw [qy,List.length_append];exact h1) (below_grown (Below.refl _ _) hB hrow h2)
end
set_option maxRecDepth 100000 in
set_option maxHeartbeats 4000000 in
theorem zbH (g:Nat) (va vb:Value) (A B:List Fact) (w:World) (ha:w.cell? ⟨g,0,none⟩=some va) (hb:w.cell? ⟨g,1,none⟩=some vb) (hA:FactsV w va A) (hB:FactsV w vb B) (hLA:A.length≤1000) (hLB:B.length≤1000) :
 Calls Tryz.prog 58 #[.slice (some ⟨g,0,none⟩) 2 2] w fun e w'=>∃ v,e=.returned v∧w'.ownsRow w.heap.size 76 6 v (A++B).length (flat encF (A++B))∧Below w.heap.size w w':=by
 have HA:=Lib.hid hA
 have HB:=Lib.hid hB
 obtain ⟨pa,ca,rfl,_,_,_,_⟩:=hA
 obtain ⟨pb,cb,rfl,_,_,_,_⟩:=hB
 obtain ⟨na,hna⟩:∃ n,A.length=n:=⟨_,rfl⟩
 obtain ⟨nb,hnb⟩:∃ n,B.length=n:=⟨_,rfl⟩
 rw [hna] at ha hLA HA
 rw [hnb] at hb hLB HB
 have HNA:=Lib.hid hna
 have HNB:=Lib.hid hnb
 have hlt:=World.block_lt_of_cell? w _ ha
 have HG:=Lib.hid (zct (na+nb) w (by omega))
 have h1:¬ (na:Int) < 0:=by omega
 have h2:¬ (na:Int)+(nb:Int) < 0:=by omega
 rw [show ((na+nb:Nat):Int)=(na:Int)+(nb:Int) by omega] at HG
 have hca:=Lib.hid ha
 have hcb:=Lib.hid hb
 clear hna hnb
 go_enter Tryz.func58,Tryz.ntmps58
 go_wp2
 refine wp_loop_rounds 3 ?_
 rw [rounds_succ]
 go_wp2
 rw [rounds_succ]
 go_wp2
 rw [rounds_succ]
 go_wp2_with fail
 refine HG.out.mono ?_
 rintro e w1 ⟨v1,rfl,hr1,hb1⟩
 clear ha hb
 have hc0:=(hb1.cell (p:=⟨g,0,none⟩) hlt).trans hca.out
 have hc1:=(hb1.cell (p:=⟨g,1,none⟩) hlt).trans hcb.out
 have HR1:Hid (w1.ownsRow w.heap.size 76 6 v1 ([]:List Fact).length (flat encF [])):=hr1
 have HB1:=Lib.hid hb1
 have HA1:=Lib.hid (HA.out.keep hb1)
 have HBB1:=Lib.hid (HB.out.keep hb1)
 clear hr1 hb1
 go_wp2
 refine wp_loop_rounds 3 ?_
 rw [rounds_succ]
 go_wp2_with (at_builtin;refine XS (E:=encF) rfl _ _ 57 76 rfl infoF w.heap.size [] A HR1.out HA1.out HB1.out.size (by simp;have:=HNA.out;omega) ?_;intro v2 w2 hr2 hb2)
 have hc21:=(hb2.cell (p:=⟨g,1,none⟩) hlt).trans hc1
 have HR2:Hid (w2.ownsRow w.heap.size 76 6 v2 A.length (flat encF A)):=Lib.hid (by have:=hr2;rw [List.nil_append] at this;exact this)
 have HBB2:Hid (FactsV w2 (.slice pb nb cb) B):=Lib.hid (HB.out.keep (HB1.out.trans hb2))
 have HB2:=Lib.hid (HB1.out.trans hb2)
 clear hr2 hb2 hc0 hc1
 go_wp2
 rw [rounds_succ]
 go_wp2_with (at_builtin;refine XS (E:=encF) rfl _ _ 57 76 rfl infoF w.heap.size A B HR2.out HBB2.out HB2.out.size (by have:=HNA.out;have:=HNB.out;omega) ?_;intro v3 w3 hr3 hb3)
 have HR3:=Lib.hid hr3
 have HB3:=Lib.hid (HB2.out.trans hb3)
 clear hr3 hb3 hc21
 go_wp2
 rw [rounds_succ]
 go_wp2
 go_ret
 exact ⟨_,rfl,HR3.out,HB3.out⟩
theorem vF (w:World) (x y:Value) (t:TypeId):(w.alloc (.cells #[x,y] t)).cell? ⟨w.heap.size,0,none⟩=some x∧(w.alloc (.cells #[x,y] t)).cell? ⟨w.heap.size,1,none⟩=some y:=by
 constructor
 ·rw [cell_of_row _ w.heap.size 0 _ t (0,0) (heap_alloc_new w _)];rfl
 ·rw [cell_of_row _ w.heap.size 1 _ t (0,0) (heap_alloc_new w _)];rfl
set_option maxRecDepth 100000 in
set_option maxHeartbeats 4000000 in
theorem Ke (va vb:Value) (A B:List Fact) (w:World) (hA:FactsV w va A) (hB:FactsV w vb B) (hzA:∀ f∈A,In64 f.amt) (hzB:∀ f∈B,In64 f.amt) (hLAB:A.length+B.length≤1000) :
 Calls Tryz.prog 27 #[va,vb] w (ZJ w (ofL (A++B))):=by
 have hb0:=(Below.refl w.heap.size w).alloc (Nat.le_refl _) (.cells #[va,vb] 57)
 have HC:=Lib.hid (zbH w.heap.size va vb A B (w.alloc (.cells #[va,vb] 57)) (vF _ _ _ _).1 (vF _ _ _ _).2 (hA.keep hb0) (hB.keep hb0) (by omega) (by omega))
 have HO:=Lib.hid (fun v w' (h:FactsV w' v (A++B))=>Vr v (A++B) w' h (fun f hf=>(List.mem_append.1 hf).elim (hzA f) (hzB f)) (by simp;omega))
 have HB0:=Lib.hid hb0
 obtain ⟨R,hR⟩:∃ R,ofL (A++B)=R:=⟨_,rfl⟩
 rw [hR] at HO ⊢
 obtain ⟨pa,ca,rfl,_,_,_,_⟩:=hA
 obtain ⟨pb,cb,rfl,_,_,_,_⟩:=hB
 obtain ⟨na,hna⟩:∃ n,A.length=n:=⟨_,rfl⟩
 obtain ⟨nb,hnb⟩:∃ n,B.length=n:=⟨_,rfl⟩
 rw [hna,hnb] at HC HB0
 rw [hna,hnb]
 clear hb0 hzA hzB hLAB hR hna hnb
 go_enter Tryz.func27,Tryz.ntmps27
 go_wp2_with fail
 refine HC.out.mono ?_
 rintro e w1 ⟨v1,rfl,hr1,hb1⟩
 have HO1:=Lib.hid (HO.out v1 w1 (zq hr1))
 have HB1:=Lib.hid (HB0.out.trans (hb1.mono HB0.out.size))
 clear hr1 hb1
 go_wp2_with fail
 refine HO1.out.mono ?_
 rintro e w2 ⟨u,rfl,hu,hb2,hn2⟩
 have HU:=Lib.hid hu
 have HNU:=Lib.hid (hn2.mono HB1.out.size)
 have HB2:=Lib.hid (HB1.out.trans (hb2.mono HB1.out.size))
 clear hu hb2 hn2
 go_wp2
 go_ret2
 exact ⟨u,rfl,HU.out,HB2.out,HNU.out⟩
theorem Yd (va vb:Value) (A B:List Fact) (w:World) (hA:FactsV w va A) (hB:FactsV w vb B) (hzA:∀ f∈A,In64 f.amt) (hzB:∀ f∈B,In64 f.amt) (hLAB:A.length+B.length≤1000) :
 Calls Tryz.prog 27 #[va,vb] w (yh w (ofL (A++B))):=(Ke va vb A B w hA hB hzA hzB hLAB).mono fun _ _ h=>h.told
end Go.Proofs.YtdhfpgjnjlcciaaGreatDoor.Fa
end
section
namespace Go.Proofs.YtdhfpgjnjlcciaaGreatDoor.Co
open Go.RowKit Go.Proofs.YtdhfpgjnjlcciaaGreatDoor.Un Go.Proofs.YtdhfpgjnjlcciaaGreatDoor.Fa Go.Proofs.YtdhfpgjnjlcciaaGreatDoor.Pk
def appX (A:List Fact) (R:List Fact × Int):List Fact × Int:=if R.2=0 then (A++R.1,0) else ([],R.2)
def fixC (M:Mast) (c:List Fact) (lim:Int):List Fact × Int :=
 if lim < 0 then ([],1) else if (fixGo M c lim (zH M c)).2=0 then ofL (c++(fixGo M c lim (zH M c)).1) else ([],(fixGo M c lim (zH M c)).2)
theorem VZ:∀ (M:Mast) (c:List Fact) (lim:Int) (l:List Key),(fixGo M c lim l).2≠0→(fixGo M c lim l).1=[]
 | M,c,lim,[],h=>rfl
 | M,c,lim,p::r,h=>by
   unfold fixGo at h ⊢
   split
   ·rfl
   ·split
    ·rename_i h1 h2
     rw [if_neg h1,if_pos h2] at h
     exact VZ M c lim r h
    ·split
     ·rfl
     ·split
      ·rename_i h1 h2 h3 h4
       rw [if_neg h1,if_neg h2,if_neg h3,if_pos h4] at h
       exact absurd rfl h
      ·rfl
theorem zfz (R:List Fact × Int) (h:R.2≠0→R.1=[]):appX [] R=R:=by
 unfold appX
 split
 ·rename_i e;rw [List.nil_append,←e]
 ·rename_i e;rw [←h e]
theorem zdR {M:Mast} {c:List Fact} {lim:Int} {p:Key} {r:List Key} (A:List Fact) (h:(gapP M c p).2≠0):appX A (fixGo M c lim (p::r))=([],(gapP M c p).2):=by
 rw [fixGo,if_pos h]
 exact if_neg h
theorem zhC {M:Mast} {c:List Fact} {lim:Int} {p:Key} {r:List Key} (h:(gapP M c p).2=0) (h1:(gapP M c p).1=0):fixGo M c lim (p::r)=fixGo M c lim r:=by
 rw [fixGo,if_neg (by simp [h]),if_pos h1]
theorem zem {M:Mast} {c:List Fact} {lim:Int} {p:Key} {r:List Key} (A:List Fact) (h:(gapP M c p).2=0) (h1:(gapP M c p).1≠0) (h2:badMv M (gapP M c p).1 lim=true):appX A (fixGo M c lim (p::r))=([],8):=by
 rw [fixGo,if_neg (by simp [h]),if_neg h1,if_pos (kQ.1 h2)]
 rfl
theorem zdu {M:Mast} {c:List Fact} {lim:Int} {p:Key} {r:List Key} (A:List Fact) (h:(gapP M c p).2=0) (h1:(gapP M c p).1≠0) (h2:¬ badMv M (gapP M c p).1 lim=true) :
 appX A (fixGo M c lim (p::r))=appX (A++[fixF ((moveF M).getD emp) p (gapP M c p).1]) (fixGo M c lim r):=by
 rw [fixGo,if_neg (by simp [h]),if_neg h1,if_neg (fun h3=>h2 (kQ.2 h3))]
 unfold appX
 by_cases h4:(fixGo M c lim r).2=0
 ·rw [if_pos h4,if_pos rfl,if_pos h4,List.append_assoc];rfl
 ·rw [if_neg h4,if_neg h4,if_neg h4]
theorem J8 (M:Mast) (c:List Fact) (p:Key):In64 (gapP M c p).1:=jo (zaA _ 0 (by decide))
set_option maxRecDepth 100000 in
set_option maxHeartbeats 8000000 in
theorem ZI (c f e l vc:Value) (M:Mast) (L:List Fact) (lim:Int) (w:World) (h:Giv w c f e l vc M L) (hl:In64 lim) (hsum:L.length+(fixGo M L lim (zH M L)).1.length≤1000) :
 Calls Tryz.prog 18 #[aggM c f e l M,vc,.int .i64 lim] w (yh w (fixC M L lim)):=by
 obtain ⟨pc,nc,cc,pf,nf,cf,pe,ne,ce,pl,nl,cl,pv,nv,cv,rfl,rfl,rfl,rfl,rfl⟩:=h.shape
 obtain ⟨W1,hW1⟩:∃ W1,w.alloc (.cells (cellsM (.slice pc nc cc) (.slice pf nf cf) (.slice pe ne ce) (.slice pl nl cl) M) 33)=W1:=⟨_,rfl⟩
 have hb1:Below w.heap.size w W1:=by rw [←hW1];exact (Below.refl _ w).alloc (Nat.le_refl _) _
 have hn1:NineAt W1 w.heap.size (.slice pc nc cc) (.slice pf nf cf) (.slice pe ne ce) (.slice pl nl cl) M:=by rw [←hW1];exact zM w _ _ _ _ M _
 have HB1:=Lib.hid hb1
 have HN1:=Lib.hid hn1
 have HG1:=Lib.hid (h.keep hb1)
 have HPL:=Lib.hid (Vz _ _ _ _ _ M L W1 HG1.out.mast HG1.out.rise HG1.out.flen HG1.out.facts HG1.out.len)
 have hlen:=Nat.le_trans (Q4 M L) HG1.out.len
 have hplc:∀ p∈zH M L,plc p=p:=fun p hp=>VM hp
 obtain ⟨P,hP⟩:∃ P,zH M L=P:=⟨_,rfl⟩
 have HFC:Hid (fixC M L lim=if lim < 0 then ([],1) else if (fixGo M L lim P).2=0 then ofL (L++(fixGo M L lim P).1) else ([],(fixGo M L lim P).2)):=Lib.hid (by unfold fixC;rw [hP])
 rw [hP] at HPL hlen hplc hsum
 obtain ⟨R,hR⟩:∃ R,fixC M L lim=R:=⟨_,rfl⟩
 rw [hR] at HFC ⊢
 obtain ⟨G,hG⟩:∃ G,fixGo M L lim P=G:=⟨_,rfl⟩
 have HGG:=Lib.hid hG
 have HGW:Hid (G.2≠0→G.1=[]):=Lib.hid (by rw [←hG];exact VZ M L lim P)
 rw [hG] at HFC hsum
 have HSU:=Lib.hid hsum
 have HLE:=Lib.hid hlen
 have HPC:=Lib.hid hplc
 clear hb1 hn1 hlen hplc hP hR hG hsum h
 obtain ⟨l1,l2⟩:=hl
 obtain ⟨k0,k1,k2,k3,k4,k5,k6,k7,k8⟩:=HN1.out
 by_cases hneg:lim < 0
 ·have HR0:Hid (R=([],1)):=Lib.hid (by rw [HFC.out,if_pos hneg])
  go_enter Tryz.func18,Tryz.ntmps18
  go_wp2
  go_ret2
  exact ⟨.slice none 0 0,by rw [HR0.out];rfl,by rw [HR0.out];exact ElsV.nil _,HB1.out⟩
 go_enter Tryz.func18,Tryz.ntmps18
 go_wp2_with fail
 clear k0 k1 k2 k3 k4 k5 k6 k7 k8 hW1
 refine HPL.out.mono ?_
 rintro en w2 ⟨v,rfl,hp2,hb2⟩
 obtain ⟨pp,cpp,rfl,hcap,hmx,_,hcl⟩:=id hp2
 obtain ⟨n,hn⟩:∃ n,P.length=n:=⟨_,rfl⟩
 have HCL:=Lib.hid hcl
 have HNN:=Lib.hid hn
 rw [hn] at hcap HLE
 rw [hn]
 unfold maxLen at hmx
 have HN2:=Lib.hid (HN1.out.kept hb2)
 have HG2:=Lib.hid (HG1.out.keep hb2)
 have HB2:=Lib.hid (HB1.out.trans (hb2.mono HB1.out.size))
 have HLIM:Hid (0≤lim∧lim≤9223372036854775807):=Lib.hid ⟨by omega,l2⟩
 have hln:=HLE.out
 clear hp2 hb2 hcl hn HN1 HG1 HB1 HPL
 go_wp2_with fail
 go_loopw [8,20] (fun s8 s20 wr=>∃ (i:Nat) (A:List Fact),s20=.int .i64 (i:Int)∧i≤n∧A.length≤i∧Hid (wr.ownsRow w2.heap.size 76 6 s8 A.length (flat encF A))∧Hid (appX A (fixGo M L lim (P.drop i))=G)∧Hid (Below w2.heap.size w2 wr)∧Hid (∀ x∈A,In64 x.amt)) (fun _ s20 _=>n - (intOf s20).toNat)
 case atStart=>exact ⟨0,[],rfl,Nat.zero_le _,Nat.le_refl _,World.ownsRow_nil _ _ _ _,Lib.hid (by rw [List.drop_zero,HGG.out];exact zfz G HGW.out),Lib.hid (Below.refl _ _),Lib.hid (by simp)⟩
 case round =>
  obtain ⟨i,A,rfl,hi,hAi,HRO,HGO,HBR,HAM⟩:=hrel
  by_cases hlt:i < n
  ·obtain ⟨p,hp⟩:∃ p,P[i]?=some p:=⟨_,List.getElem?_eq_getElem (by rw [HNN.out];exact hlt)⟩
   obtain ⟨b,o,rfl,hat⟩:=HCL.out i p hp
   obtain ⟨p0,p1,p2⟩:=place3 (hat.keep HBR.out hat.lt)
   simp only [show encP.k=3 from rfl] at p0 p1 p2
   have hdr:P.drop i=p::P.drop (i+1):=by
    have hil:i < P.length:=by rw [HNN.out];exact hlt
    have hh:=hp
    rw [List.getElem?_eq_getElem hil] at hh
    cases hh
    exact List.drop_eq_getElem_cons hil
   have HDR:=Lib.hid hdr
   have HPP:Hid (plc p=p):=Lib.hid (HPC.out p (List.mem_of_getElem? hp))
   have hb3:Below wr.heap.size wr (wr.alloc (.cells #[.string p.e,.string p.a,.string p.p] 91)):=(Below.refl _ wr).alloc (Nat.le_refl _) _
   have HX3:=Lib.hid (zf encP wr p 91)
   have hbr3:=HBR.out.trans (hb3.mono HBR.out.size)
   have HB3:=Lib.hid hbr3
   have HRO3:=Lib.hid (zu HRO.out hb3)
   have HN3:=Lib.hid (HN2.out.kept hbr3)
   have HCP:=Lib.hid ((HG2.out.keep hbr3).gap p HPP.out)
   obtain ⟨k0,k1,k2,k3,k4,k5,k6,k7,k8⟩:=HN3.out
   obtain ⟨x0,x1,x2⟩:=place3 HX3.out
   simp only [Nat.zero_add] at x0 x1 x2
   have x0':(wr.alloc (.cells #[.string p.e,.string p.a,.string p.p] 91)).cell? ⟨wr.heap.size,0,none⟩=some (.string p.e):=x0
   have x1':(wr.alloc (.cells #[.string p.e,.string p.a,.string p.p] 91)).cell? ⟨wr.heap.size,1,none⟩=some (.string p.a):=x1
   have x2':(wr.alloc (.cells #[.string p.e,.string p.a,.string p.p] 91)).cell? ⟨wr.heap.size,2,none⟩=some (.string p.p):=x2
   clear hp hat hb3 hbr3 x0 x1 x2 hdr
   go_wp2_with fail
   obtain ⟨W3,hW3⟩:∃ W3,wr.alloc (.cells #[.string p.e,.string p.a,.string p.p] 91)=W3:=⟨_,rfl⟩
   rw [hW3]
   obtain ⟨g,hg⟩:∃ g,gapP M L p=g:=⟨_,rfl⟩
   obtain ⟨x,er⟩:=g
   have HCP2:Hid (Calls Tryz.prog 13 #[aggM (.slice pc nc cc) (.slice pf nf cf) (.slice pe ne ce) (.slice pl nl cl) M,.slice pv nv cv,.string p.e,.string p.a,.string p.p] W3 fun en w'=>en=.returned (.tuple #[.int .i64 x,.int .i64 er])∧Below W3.heap.size W3 w'):=Lib.hid (by have:=HCP.out;rw [hW3,hg] at this;exact this)
   have HX4:Hid (ElAt encP W3 wr.heap.size 0 p):=Lib.hid (by rw [←hW3];exact HX3.out)
   have HB4:Hid (Below w2.heap.size w2 W3):=Lib.hid (by rw [←hW3];exact HB3.out)
   have HRO4:Hid (W3.ownsRow w2.heap.size 76 6 u8 A.length (flat encF A)):=Lib.hid (by rw [←hW3];exact HRO3.out)
   have HGP:=Lib.hid hg
   clear k0 k1 k2 k3 k4 k5 k6 k7 k8 x0' x1' x2' p0 p1 p2 hW3 HCP HX3 HB3 HN3 HRO3 HRO hg
   refine HCP2.out.mono ?_
   rintro en w5 ⟨rfl,hb5⟩
   have HB5:=Lib.hid (HB4.out.trans (hb5.mono HB4.out.size))
   have HX5:=Lib.hid (HX4.out.keep hb5 HX4.out.lt)
   have HRO5:=Lib.hid (zu HRO4.out hb5)
   have HN5:=Lib.hid (HN2.out.kept HB5.out)
   have HG5:=Lib.hid (HG2.out.keep HB5.out)
   have HBF:=Lib.hid (HB2.out.trans (HB5.out.mono HB2.out.size))
   clear hb5 HCP2 HX4 HB4 HRO4
   by_cases her:er=0
   ·have her1:(er != 0)=false:=by simpa using her
    subst her
    by_cases hx0:x=0
    ·have hx1:(x==0)=true:=by simpa using hx0
     subst hx0
     have HGO3:Hid (appX A (fixGo M L lim (P.drop (i+1)))=G):=Lib.hid (by
      have:=HGO.out
      rwa [HDR.out,zhC (by rw [HGP.out]) (by rw [HGP.out])] at this)
     go_wp2
     go_roundw
     case rel=>exact ⟨i+1,A,by go_num,by omega,by omega,HRO5,HGO3,HB5,HAM⟩
     case measure=>simp [intOf];omega
    ·have hx1:(x==0)=false:=by simpa using hx0
     have HX0:=Lib.hid hx0
     have HMO:=Lib.hid (zby _ _ _ _ M p x lim w5 HG5.out.mast HG5.out.flen HLIM.out.1 HLIM.out.2)
     obtain ⟨me,hme⟩:∃ me,mvE M x lim=me:=⟨_,rfl⟩
     obtain ⟨mv,hmv⟩:∃ mv,mvV M p x lim=mv:=⟨_,rfl⟩
     rw [hme,hmv] at HMO
     have HME:=Lib.hid hme
     have HMV:=Lib.hid hmv
     clear hme hmv hx0
     obtain ⟨k0,k1,k2,k3,k4,k5,k6,k7,k8⟩:=HN5.out
     obtain ⟨x0,x1,x2⟩:=place3 HX5.out
     simp only [Nat.zero_add] at x0 x1 x2
     go_wp2_with fail
     clear k0 k1 k2 k3 k4 k5 k6 k7 k8 x0 x1 x2
     refine HMO.out.mono ?_
     rintro en w6 ⟨rfl,hb6⟩
     have hb7:=hb6.alloc hb6.size (.cells (encF.cs mv).toArray 76)
     have HX7:=Lib.hid (zf encF w6 mv 76)
     have HB7:=Lib.hid (HB5.out.trans (hb7.mono HB5.out.size))
     have HRO7:=Lib.hid (zu HRO5.out hb7)
     have HBF7:=Lib.hid (HB2.out.trans (HB7.out.mono HB2.out.size))
     clear hb6 hb7 HMO
     cases hbd:badMv M x lim with
     | true =>
       have e1:me=8:=by rw [←HME.out];unfold mvE;rw [if_pos hbd]
       subst e1
       have HGO3:Hid (([],8)=G):=Lib.hid (by
        have:=HGO.out
        rwa [HDR.out,zem A (by rw [HGP.out]) (by rw [HGP.out];exact HX0.out) (by rw [HGP.out];exact hbd)] at this)
       have HR8:Hid (R=([],8)):=Lib.hid (by rw [HFC.out,if_neg (Int.not_lt.2 HLIM.out.1),←HGO3.out,if_neg (by decide)])
       clear hbd
       go_wp2
       go_ret2
       exact ⟨.slice none 0 0,by rw [HR8.out];rfl,by rw [HR8.out];exact ElsV.nil _,HBF7.out⟩
     | false =>
       have e1:me=0:=by rw [←HME.out];unfold mvE;rw [if_neg (by rw [hbd];simp)]
       subst e1
       have HEV:Hid (mv=fixF ((moveF M).getD emp) p x):=Lib.hid (by rw [←HMV.out];unfold mvV;rw [if_neg (by rw [hbd];simp)])
       have HGO3:Hid (appX (A++[mv]) (fixGo M L lim (P.drop (i+1)))=G):=Lib.hid (by
        have:=HGO.out
        rwa [HDR.out,zdu A (by rw [HGP.out]) (by rw [HGP.out];exact HX0.out) (by rw [HGP.out,hbd];simp),HGP.out,←HEV.out] at this)
       have HAM3:Hid (∀ y∈A++[mv],In64 y.amt):=Lib.hid (by
        intro y hy
        rcases List.mem_append.1 hy with hy | hy
        ·exact HAM.out y hy
        ·simp at hy
         subst hy
         rw [HEV.out]
         have:=J8 M L p
         rw [HGP.out] at this
         exact this)
       have HLN:Hid ((A++[mv]).length=A.length+1):=Lib.hid (by simp)
       obtain ⟨y0,y1,y2,y3,y4,y5⟩:=fact6 HX7.out
       simp only [Nat.zero_add] at y0 y1 y2 y3 y4 y5
       have z0:(w6.alloc (.cells #[.string mv.key.e,.string mv.key.a,.string mv.key.f,.string mv.key.p,.int .i64 mv.key.m,.int .i64 mv.amt] 76)).cell? ⟨w6.heap.size,0,none⟩=some (.string mv.key.e):=y0
       have HALN:Hid (A.length≤1000000):=Lib.hid (by omega)
       clear hbd y0 y1 y2 y3 y4 y5 z0
       go_wp2_with (at_builtin;refine zx (E:=encF) rfl _ _ 57 76 rfl infoF w2.heap.size A mv (w6.heap.size+1) (HRO7.out.alloc _) rfl (Je _ _ _ _) (by have:=HB7.out.size;simp at this ⊢;omega) HALN.out ?_;intro v9 w9 hr9 hb9 hg9)
       have HR9:=Lib.hid hr9
       have HB9:Hid (Below w2.heap.size w2 w9):=Lib.hid ((HB7.out.alloc HB7.out.size _).trans hb9)
       clear hr9 hb9 hg9
       obtain ⟨q1,q2,q3,hv9⟩:=qn HR9.out
       subst hv9
       go_wp2
       go_roundw
       case rel=>exact ⟨i+1,A++[mv],by go_num,by omega,by rw [HLN.out];omega,HR9,HGO3,HB9,HAM3⟩
       case measure=>simp [intOf];omega
   ·have her1:(er != 0)=true:=by simpa using her
    have HGO3:Hid (([],er)=G):=Lib.hid (by
     have:=HGO.out
     rwa [HDR.out,zdR A (by rw [HGP.out];exact her),HGP.out] at this)
    have HR8:Hid (R=([],er)):=Lib.hid (by rw [HFC.out,if_neg (Int.not_lt.2 HLIM.out.1),←HGO3.out,if_neg her])
    clear her
    go_wp2
    go_ret2
    exact ⟨.slice none 0 0,by rw [HR8.out];rfl,by rw [HR8.out];exact ElsV.nil _,HBF.out⟩
  ·obtain rfl:i=n:=by omega
   have HGE:Hid ((A,0)=G):=Lib.hid (by
    have:=HGO.out
    rw [List.drop_of_length_le (by rw [HNN.out];exact Nat.le_refl _)] at this
    rw [←this]
    unfold appX fixGo
    rw [if_pos rfl,List.append_nil])
   have HRE:Hid (R=ofL (L++A)):=Lib.hid (by rw [HFC.out,if_neg (Int.not_lt.2 HLIM.out.1),←HGE.out,if_pos rfl])
   have hAL:L.length+A.length≤1000:=by have:=HSU.out;rw [←HGE.out] at this;exact this
   have hv:=zq (E:=encF) HRO.out
   obtain ⟨q1,q2,rfl,_⟩:=id hv
   have hgr:=HG2.out.keep HBR.out
   have HAD:=Lib.hid (Yd _ _ L A wr hgr.facts hv hgr.amts HAM.out hAL)
   rw [←HRE.out] at HAD
   have HBF:=Lib.hid (HB2.out.trans (HBR.out.mono HB2.out.size))
   clear hv hgr hAL HRO
   go_wp2_with fail
   refine HAD.out.mono ?_
   rintro en w7 ⟨u,rfl,hu,hb7⟩
   have HU:=Lib.hid hu
   have HB7:=Lib.hid (HBF.out.trans (hb7.mono HBF.out.size))
   clear hu hb7
   go_wp2
   go_ret2
   exact ⟨u,rfl,HU.out,HB7.out⟩
end Go.Proofs.YtdhfpgjnjlcciaaGreatDoor.Co
end
section
namespace Go.Proofs.YtdhfpgjnjlcciaaGreatDoor.Co
open Go.RowKit Go.Proofs.YtdhfpgjnjlcciaaGreatDoor.Un Go.Proofs.YtdhfpgjnjlcciaaGreatDoor.Fa Go.Proofs.YtdhfpgjnjlcciaaGreatDoor.Pk
def AllC (M:Mast) (c:List Fact):Prop:=∀ f∈c,cnt M f.key=true
theorem vD {M:Mast} {c:List Fact} (h:AllC M c):zH M c=places c:=by
 unfold zH
 rw [List.filter_eq_self.2 fun f hf=>h f hf]
theorem zat {M:Mast} {f:ByteArray} {x:ByteArray} {k:Int} (hf:Fl.findF M.flows f=some ⟨x,k⟩):kindF M f=k:=by
 unfold kindF
 rw [hf];rfl
section
variable {M:Mast} (h:SmallM false M)
include h
theorem jK {f:ByteArray} {x:ByteArray} {k:Int} (hf:Fl.findF M.flows f=some ⟨x,k⟩) (m:Int):cnt M ⟨xE1,xa,f,emp,m⟩=true:=by
 unfold cnt hasA hasFl
 dsimp only
 rw [h.a,hf];rfl
theorem zfb:clsF M xa=0:=by
 unfold clsF
 rw [h.a];rfl
theorem yR {f:ByteArray} {x:ByteArray} {k:Int} (hf:Fl.findF M.flows f=some ⟨x,k⟩) (m n:Int) (r:List Fact):gapL M (⟨⟨xE1,xa,f,emp,m⟩,n⟩::r) ⟨xE1,xa,emp,emp,0⟩=(decide (k=4),n)::gapL M r ⟨xE1,xa,emp,emp,0⟩:=by
 unfold gapL
 rw [List.filter_cons,if_pos,List.map_cons]
 ·show (decide (kindF M f=4),n)::_=_
  rw [zat hf]
 ·unfold inGap
  rw [jK h hf m,Bool.true_and]
  exact decide_eq_true rfl
theorem yA {f:ByteArray} {x:ByteArray} {k:Int} (hf:Fl.findF M.flows f=some ⟨x,k⟩) (m n:Int) (r:List Fact) (w:Int):weighL M (⟨⟨xE1,xa,f,emp,m⟩,n⟩::r) xE1 w=if k=w then (true,n)::weighL M r xE1 w else weighL M r xE1 w:=by
 unfold weighL
 rw [List.filter_cons]
 have e:ql M xE1 w ⟨xE1,xa,f,emp,m⟩=decide (k=w):=by
  unfold ql
  dsimp only
  rw [jK h hf m,zat hf,show (decide (xE1=emp) || decide (xE1=xE1))=true by decide]
  simp
 rw [e]
 by_cases hk:k=w
 ·rw [if_pos hk,if_pos (decide_eq_true hk),List.map_cons]
  show (decide (clsF M xa=0),n)::_=_
  rw [zfb h];rfl
 ·rw [if_neg hk,if_neg (by simpa using hk)]
end
def c12:List Fact:=[⟨⟨xE1,xa,xF0,emp,0⟩,5⟩,⟨⟨xE1,xa,xF1,emp,0⟩,2⟩,⟨⟨xE1,xa,xFz,emp,0⟩,9⟩]
def d12:List Fact:=[⟨⟨xE1,xa,xF0,emp,0⟩,5⟩,⟨⟨xE1,xa,xF1,emp,0⟩,2⟩,⟨⟨xE1,xa,xF1,emp,1⟩,2⟩,⟨⟨xE1,xa,xFz,emp,0⟩,9⟩]
abbrev p12:Key:=⟨xE1,xa,emp,emp,0⟩
def t12:ByteArray:=⟨#[112,97,99,107,97,103,101,32,69,49,10,102,97,99,116,32,97,32,70,48,32,45,32,53,10,102,97,99,116,32,97,32,70,49,32,45,32,50,10,102,97,99,116,32,97,32,70,122,32,45,32,57,10]⟩
theorem zbl {M:Mast} (h:SmallM false M):parseP M t12=(c12,0):=by
 rw [show t12=mkB (textW [[zA,xE1],[tFact,xa,xF0,tDash,⟨#[53]⟩],[tFact,xa,xF1,tDash,⟨#[50]⟩],[tFact,xa,xFz,tDash,⟨#[57]⟩]]) by kernel_rfl,zgD (Vs (by kernel_rfl)) (by decide)]
 have hne:(xE1:ByteArray)≠emp:=by decide
 have hn:nmB xE1=true:=by decide
 obtain ⟨p1,p2⟩:=h.pack (S:=Pk.st0) hn h.e1 rfl
 rw [yP _ p1,p2]
 obtain ⟨q1,q2⟩:=h.fact (S:=⟨xE1,0,[xE1],[]⟩) (fl:=xF0) (t:=⟨#[53]⟩) (n:=5) hne h.e1 (by decide) h.f0 (by decide) (by decide) (by decide)
 rw [show (⟨xE1,0,[xE1],Pk.st0.facts⟩:St)=⟨xE1,0,[xE1],[]⟩ from rfl,yP _ q1,q2]
 obtain ⟨q1,q2⟩:=h.fact (S:=⟨xE1,0,[xE1],[]++[⟨⟨xE1,xa,xF0,emp,0⟩,5⟩]⟩) (fl:=xF1) (t:=⟨#[50]⟩) (n:=2) hne h.e1 (by decide) h.f1 (by decide) (by decide) (by decide)
 rw [yP _ q1,q2]
 obtain ⟨q1,q2⟩:=h.fact (S:=⟨xE1,0,[xE1],[]++[⟨⟨xE1,xa,xF0,emp,0⟩,5⟩]++[⟨⟨xE1,xa,xF1,emp,0⟩,2⟩]⟩) (fl:=xFz) (t:=⟨#[57]⟩) (n:=9) hne h.e1 (by decide) h.fz (by decide) (by decide) (by decide)
 rw [yP _ q1,q2]
 show endP (⟨xE1,0,[xE1],_⟩,0)=_
 rw [Qv]
 kernel_rfl
section
variable {M:Mast} (h:SmallM false M)
include h
theorem gap12:gapP M c12 p12=(2,0):=by
 unfold gapP c12
 rw [yR h h.f0,yR h h.f1,yR h h.fz]
 kernel_rfl
theorem gap12d:gapP M d12 p12=(0,0):=by
 unfold gapP d12
 rw [yR h h.f0,yR h h.f1,yR h h.f1,yR h h.fz]
 kernel_rfl
theorem zgK:weighP M c12 xE1 4=(9,0):=by
 unfold weighP c12
 rw [yA h h.f0,yA h h.f1,yA h h.fz]
 kernel_rfl
theorem zgk:weighP M d12 xE1 0=(5,0):=by
 unfold weighP d12
 rw [yA h h.f0,yA h h.f1,yA h h.f1,yA h h.fz]
 kernel_rfl
theorem all12:AllC M c12:=by
 intro f hf
 simp only [c12,List.mem_cons,List.not_mem_nil,or_false] at hf
 rcases hf with rfl | rfl | rfl
 ·exact jK h h.f0 0
 ·exact jK h h.f1 0
 ·exact jK h h.fz 0
theorem all12d:AllC M d12:=by
 intro f hf
 simp only [d12,List.mem_cons,List.not_mem_nil,or_false] at hf
 rcases hf with rfl | rfl | rfl | rfl
 ·exact jK h h.f0 0
 ·exact jK h h.f1 0
 ·exact jK h h.f1 1
 ·exact jK h h.fz 0
theorem pl12:zH M c12=[p12]:=by rw [vD (all12 h)];kernel_rfl
theorem pl12d:zH M d12=[p12]:=by rw [vD (all12d h)];kernel_rfl
theorem mv12:moveF M=some xF1:=by unfold moveF;rw [h.mv];rfl
theorem go12:fixGo M c12 2 [p12]=([⟨⟨xE1,xa,xF1,emp,1⟩,2⟩],0):=by
 rw [fixGo,gap12 h,if_neg (by decide),if_neg (by decide),if_neg (by rw [mv12 h];simp),mv12 h]
 rfl
theorem go12n:fixGo M c12 1 [p12]=([],8):=by
 rw [fixGo,gap12 h,if_neg (by decide),if_neg (by decide),if_pos (.inl (by decide))]
theorem fix12:fixC M c12 2=(d12,0):=by
 unfold fixC
 rw [pl12 h,go12 h,if_neg (by decide),if_pos rfl]
 kernel_rfl
theorem fix12n:fixC M c12 1=([],8):=by
 unfold fixC
 rw [pl12 h,go12n h,if_neg (by decide),if_neg (by decide)]
theorem chk12:zB M c12 (zH M c12)=8:=by
 rw [pl12 h]
 unfold zB
 rw [gap12 h,if_neg (by decide),if_pos (by decide)]
theorem chk12d:zB M d12 (zH M d12)=9:=by
 rw [pl12d h]
 have hb:balP M d12 xE1=9:=by
  unfold balP
  rw [zgk h,if_neg (by decide),if_pos (by decide)]
 unfold zB
 rw [gap12d h,if_neg (by decide),if_neg (by decide),if_neg (by simp),hb,if_pos (by decide)]
end
theorem chk12n (M:Mast):zB M [] (zH M [])=0:=rfl
end Go.Proofs.YtdhfpgjnjlcciaaGreatDoor.Co
end
section
namespace Go.Proofs.YtdhfpgjnjlcciaaGreatDoor.Co
open Go.RowKit Go.Maps Go.Proofs.YtdhfpgjnjlcciaaGreatDoor.Un Go.Proofs.YtdhfpgjnjlcciaaGreatDoor.Fa Go.Proofs.YtdhfpgjnjlcciaaGreatDoor.Pk
theorem Giv.check {w:World} {c f e l vc:Value} {M:Mast} {L:List Fact} (h:Giv w c f e l vc M L):Calls Tryz.prog 20 #[aggM c f e l M,vc] w fun en w'=>en=.returned (.int .i64 (zB M L (zH M L)))∧Below w.heap.size w w':=yJ c f e l vc M L w h
set_option maxRecDepth 100000 in
set_option maxHeartbeats 16000000 in
theorem vV (w:World) (hl:LaidP w):Calls Tryz.prog 9 #[] w fun en w'=>en=.returned (.bool true)∧Below w.heap.size w w':=by
 have HL:=Lib.hid hl
 clear hl
 go_enter Tryz.func9,Tryz.ntmps9
 go_wp2_with fail
 refine (zbc false _ (by kernel_rfl) _ HL.out).mono ?_
 rintro en w1 ⟨M,c,f,e,l,hS,rfl,hm,hb1⟩
 obtain ⟨pc,cc,pf,cf,pe,ce,pl,cl,rfl,rfl,rfl,rfl⟩:=shapes hm
 have HS:=Lib.hid hS
 have hb2:=(Below.refl w1.heap.size w1).alloc (Nat.le_refl _) (.cells (cellsM (.slice pc M.chart.length cc) (.slice pf M.flows.length cf) (.slice pe M.ents.length ce) (.slice pl M.lines.length cl) M) 33)
 have HB2:=Lib.hid (hb1.trans (hb2.mono hb1.size))
 have HM2:=Lib.hid (hm.keep hb2)
 have HN2:=Lib.hid (zM w1 (.slice pc M.chart.length cc) (.slice pf M.flows.length cf) (.slice pe M.ents.length ce) (.slice pl M.lines.length cl) M 33)
 have HL2:=Lib.hid (HL.out.keep HB2.out)
 have HP1:=Lib.hid (fun W h hL=>by
  have:=vB (.slice pc M.chart.length cc) (.slice pf M.flows.length cf) (.slice pe M.ents.length ce) (.slice pl M.lines.length cl) M t12 W h hS.sane hL (by decide)
  rw [zbl hS] at this
  exact this)
 have hgv:∀ (W:World) (vc:Value) (L:List Fact),MastIn W (.slice pc M.chart.length cc) (.slice pf M.flows.length cf) (.slice pe M.ents.length ce) (.slice pl M.lines.length cl) M→FactsV W vc L→L.length≤1000→(∀ x∈L,In64 x.amt)→Giv W (.slice pc M.chart.length cc) (.slice pf M.flows.length cf) (.slice pe M.ents.length ce) (.slice pl M.lines.length cl) vc M L:=fun W vc L h1 h2 h3 h4=>⟨h1,Fl.qm hS.sane.fl,by have:=hS.sane.lf;omega,h2,h3,h4⟩
 have HGV:=Lib.hid hgv
 have HA12:Hid (∀ x∈c12,In64 x.amt):=Lib.hid (fun x hx=>by
  simp only [c12,List.mem_cons,List.not_mem_nil,or_false] at hx
  rcases hx with rfl | rfl | rfl <;> exact ⟨by decide,by decide⟩)
 have HD12:Hid (∀ x∈d12,In64 x.amt):=Lib.hid (fun x hx=>by
  simp only [d12,List.mem_cons,List.not_mem_nil,or_false] at hx
  rcases hx with rfl | rfl | rfl | rfl <;> exact ⟨by decide,by decide⟩)
 clear hm hb1 hb2 hS hgv
 obtain ⟨k0,k1,k2,k3,k4,k5,k6,k7,k8⟩:=HN2.out
 go_wp2_with fail
 clear k0 k1 k2 k3 k4 k5 k6 k7 k8
 refine (HP1.out _ HM2.out HL2.out.2.2).mono ?_
 rintro en w3 ⟨u3,rfl,hf3,hb3⟩
 obtain ⟨p3,c3,rfl,_⟩:=id hf3
 have HB3:=Lib.hid (HB2.out.trans (hb3.mono HB2.out.size))
 have HN3:=Lib.hid (HN2.out.kept hb3)
 have HG3:=Lib.hid (HGV.out w3 _ c12 (HM2.out.keep hb3) hf3 (by decide) HA12.out)
 clear hb3 hf3 HB2 HM2 HN2 HL2 HP1
 obtain ⟨k0,k1,k2,k3,k4,k5,k6,k7,k8⟩:=HN3.out
 have HGP:Hid (∀ W,Giv W (.slice pc M.chart.length cc) (.slice pf M.flows.length cf) (.slice pe M.ents.length ce) (.slice pl M.lines.length cl) (.slice p3 c12.length c3) M c12→Calls Tryz.prog 13 #[aggM (.slice pc M.chart.length cc) (.slice pf M.flows.length cf) (.slice pe M.ents.length ce) (.slice pl M.lines.length cl) M,.slice p3 c12.length c3,.string ⟨#[69,49]⟩,.string ⟨#[97]⟩,.string ⟨#[]⟩] W fun en w'=>en=.returned (.tuple #[.int .i64 2,.int .i64 0])∧Below W.heap.size W w'):=Lib.hid fun W hG=>by
  have:=hG.gap p12 rfl
  rw [gap12 HS.out] at this
  exact this
 have HWE:Hid (∀ W,Giv W (.slice pc M.chart.length cc) (.slice pf M.flows.length cf) (.slice pe M.ents.length ce) (.slice pl M.lines.length cl) (.slice p3 c12.length c3) M c12→Calls Tryz.prog 16 #[aggM (.slice pc M.chart.length cc) (.slice pf M.flows.length cf) (.slice pe M.ents.length ce) (.slice pl M.lines.length cl) M,.slice p3 c12.length c3,.string ⟨#[69,49]⟩,.int .i64 4] W fun en w'=>en=.returned (.tuple #[.int .i64 9,.int .i64 0])∧Below W.heap.size W w'):=Lib.hid fun W hG=>by
  have:=hG.weigh xE1 4
  rw [zgK HS.out] at this
  exact this
 have HF2:Hid (∀ W,Giv W (.slice pc M.chart.length cc) (.slice pf M.flows.length cf) (.slice pe M.ents.length ce) (.slice pl M.lines.length cl) (.slice p3 c12.length c3) M c12→Calls Tryz.prog 18 #[aggM (.slice pc M.chart.length cc) (.slice pf M.flows.length cf) (.slice pe M.ents.length ce) (.slice pl M.lines.length cl) M,.slice p3 c12.length c3,.int .i64 2] W (yh W (d12,0))):=Lib.hid fun W hG=>by
  have:=ZI _ _ _ _ _ M c12 2 W hG ⟨by decide,by decide⟩ (by rw [pl12 HS.out,go12 HS.out];decide)
  rw [fix12 HS.out] at this
  exact this
 have HF1:Hid (∀ W,Giv W (.slice pc M.chart.length cc) (.slice pf M.flows.length cf) (.slice pe M.ents.length ce) (.slice pl M.lines.length cl) (.slice p3 c12.length c3) M c12→Calls Tryz.prog 18 #[aggM (.slice pc M.chart.length cc) (.slice pf M.flows.length cf) (.slice pe M.ents.length ce) (.slice pl M.lines.length cl) M,.slice p3 c12.length c3,.int .i64 1] W (yh W ([],8))):=Lib.hid fun W hG=>by
  have:=ZI _ _ _ _ _ M c12 1 W hG ⟨by decide,by decide⟩ (by rw [pl12 HS.out,go12n HS.out];decide)
  rw [fix12n HS.out] at this
  exact this
 have HC1:Hid (∀ W,Giv W (.slice pc M.chart.length cc) (.slice pf M.flows.length cf) (.slice pe M.ents.length ce) (.slice pl M.lines.length cl) (.slice p3 c12.length c3) M c12→Calls Tryz.prog 20 #[aggM (.slice pc M.chart.length cc) (.slice pf M.flows.length cf) (.slice pe M.ents.length ce) (.slice pl M.lines.length cl) M,.slice p3 c12.length c3] W fun en w'=>en=.returned (.int .i64 8)∧Below W.heap.size W w'):=Lib.hid fun W hG=>by
  have:=hG.check
  rw [chk12 HS.out] at this
  exact this
 have HC2:Hid (∀ W (vc:Value),Giv W (.slice pc M.chart.length cc) (.slice pf M.flows.length cf) (.slice pe M.ents.length ce) (.slice pl M.lines.length cl) vc M d12→Calls Tryz.prog 20 #[aggM (.slice pc M.chart.length cc) (.slice pf M.flows.length cf) (.slice pe M.ents.length ce) (.slice pl M.lines.length cl) M,vc] W fun en w'=>en=.returned (.int .i64 9)∧Below W.heap.size W w'):=Lib.hid fun W vc hG=>by
  have:=hG.check
  rw [chk12d HS.out] at this
  exact this
 have HC3:Hid (∀ W,Giv W (.slice pc M.chart.length cc) (.slice pf M.flows.length cf) (.slice pe M.ents.length ce) (.slice pl M.lines.length cl) (.slice none 0 0) M []→Calls Tryz.prog 20 #[aggM (.slice pc M.chart.length cc) (.slice pf M.flows.length cf) (.slice pe M.ents.length ce) (.slice pl M.lines.length cl) M,.slice none 0 0] W fun en w'=>en=.returned (.int .i64 0)∧Below W.heap.size W w'):=Lib.hid fun W hG=>by
  have:=hG.check
  rw [chk12n M] at this
  exact this
 obtain ⟨n3,hn3⟩:∃ n,c12.length=n:=⟨_,rfl⟩
 rw [hn3] at HG3 HGP HWE HF2 HF1 HC1 ⊢
 clear hn3
 go_wp2_with fail
 clear k0 k1 k2 k3 k4 k5 k6 k7 k8
 refine (HGP.out _ HG3.out).mono ?_
 rintro en w4 ⟨rfl,hb4⟩
 have HB4:=Lib.hid (HB3.out.trans (hb4.mono HB3.out.size))
 have HN4:=Lib.hid (HN3.out.kept hb4)
 have HG4:=Lib.hid (HG3.out.keep hb4)
 clear hb4 HB3 HN3 HG3 HGP
 obtain ⟨k0,k1,k2,k3,k4,k5,k6,k7,k8⟩:=HN4.out
 go_wp2_with fail
 clear k0 k1 k2 k3 k4 k5 k6 k7 k8
 refine (HWE.out _ HG4.out).mono ?_
 rintro en w5 ⟨rfl,hb5⟩
 have HB5:=Lib.hid (HB4.out.trans (hb5.mono HB4.out.size))
 have HN5:=Lib.hid (HN4.out.kept hb5)
 have HG5:=Lib.hid (HG4.out.keep hb5)
 clear hb5 HB4 HN4 HG4 HWE
 obtain ⟨k0,k1,k2,k3,k4,k5,k6,k7,k8⟩:=HN5.out
 go_wp2_with fail
 clear k0 k1 k2 k3 k4 k5 k6 k7 k8
 refine (HF2.out _ HG5.out).mono ?_
 rintro en w6 ⟨u6,rfl,hf6,hb6⟩
 obtain ⟨p6,c6,rfl,_⟩:=id hf6
 have HB6:=Lib.hid (HB5.out.trans (hb6.mono HB5.out.size))
 have HN6:=Lib.hid (HN5.out.kept hb6)
 have HG6:=Lib.hid (HG5.out.keep hb6)
 have HD6:=Lib.hid (HGV.out w6 _ d12 HG6.out.mast hf6 (by decide) HD12.out)
 have hlen:d12.length=4:=rfl
 rw [hlen] at HD6
 simp only [hlen]
 clear hb6 hf6 HB5 HN5 HG5 HF2
 obtain ⟨k0,k1,k2,k3,k4,k5,k6,k7,k8⟩:=HN6.out
 go_wp2_with fail
 clear k0 k1 k2 k3 k4 k5 k6 k7 k8
 refine (HF1.out _ HG6.out).mono ?_
 rintro en w7 ⟨u7,rfl,hf7,hb7⟩
 obtain ⟨p7,c7,rfl,_⟩:=id hf7
 have HB7:=Lib.hid (HB6.out.trans (hb7.mono HB6.out.size))
 have HN7:=Lib.hid (HN6.out.kept hb7)
 have HG7:=Lib.hid (HG6.out.keep hb7)
 have HD7:=Lib.hid (HD6.out.keep hb7)
 have hlen0:([]:List Fact).length=0:=rfl
 simp only [hlen0]
 clear hb7 hf7 HB6 HN6 HG6 HD6 HF1
 obtain ⟨k0,k1,k2,k3,k4,k5,k6,k7,k8⟩:=HN7.out
 go_wp2_with fail
 clear k0 k1 k2 k3 k4 k5 k6 k7 k8
 refine (HC1.out _ HG7.out).mono ?_
 rintro en w8 ⟨rfl,hb8⟩
 have HB8:=Lib.hid (HB7.out.trans (hb8.mono HB7.out.size))
 have HN8:=Lib.hid (HN7.out.kept hb8)
 have HG8:=Lib.hid (HG7.out.keep hb8)
 have HD8:=Lib.hid (HD7.out.keep hb8)
 clear hb8 HB7 HN7 HG7 HD7 HC1
 obtain ⟨k0,k1,k2,k3,k4,k5,k6,k7,k8⟩:=HN8.out
 go_wp2_with fail
 clear k0 k1 k2 k3 k4 k5 k6 k7 k8
 refine (HC2.out _ _ HD8.out).mono ?_
 rintro en w9 ⟨rfl,hb9⟩
 have HB9:=Lib.hid (HB8.out.trans (hb9.mono HB8.out.size))
 have HN9:=Lib.hid (HN8.out.kept hb9)
 have HG9:=Lib.hid (HGV.out w9 (.slice none 0 0) [] (HG8.out.mast.keep hb9) (ElsV.nil _) (by decide) (by simp))
 clear hb9 HB8 HN8 HG8 HD8 HC2
 obtain ⟨k0,k1,k2,k3,k4,k5,k6,k7,k8⟩:=HN9.out
 go_wp2_with fail
 clear k0 k1 k2 k3 k4 k5 k6 k7 k8
 refine (HC3.out _ HG9.out).mono ?_
 rintro en w10 ⟨rfl,hb10⟩
 have HB10:=Lib.hid (HB9.out.trans (hb10.mono HB9.out.size))
 clear hb10
 go_wp2
 go_ret
 exact ⟨rfl,HB10.out⟩
end Go.Proofs.YtdhfpgjnjlcciaaGreatDoor.Co
end
section
namespace Go.Proofs.YtdhfpgjnjlcciaaGreatDoor.Pk
open Go.RowKit Go.Maps Go.Proofs.YtdhfpgjnjlcciaaGreatDoor.Un
theorem start1 (w:World):BoxM (yo (jg w)) w.heap.size 33 nil4 nil4 nil4 nil4 zeroM:=(Jh w).kept ((Below.refl _ _).alloc (Nat.le_refl _) _)
theorem start2 (w:World):BoxM (yo (jg w)) (w.heap.size+1) 39 nil4 nil4 nil4 nil4 zeroM:=by
 have:=K7 (jg w)
 rw [World.size_alloc] at this
 exact this
theorem qu {w w3:World} (g3:(yo (jg w)).grownBy w3 (some w.heap.size)):BoxM w3 (w.heap.size+1) 39 nil4 nil4 nil4 nil4 zeroM :=
 (g3.block _ (start2 w).lt (fun e0=>by have:=Option.some.inj e0;omega)).trans (start2 w)
structure TwoM (w0 w:World) (c f e l c' f' e' l':Value) (M:Mast):Prop where
 bel:Below w0.heap.size w0 w
 mast:MastIn w c f e l M
 mast':MastIn w c' f' e' l' M
 nine:NineAt w w0.heap.size c f e l M
 nine':NineAt w (w0.heap.size+1) c' f' e' l' M
theorem qs {w w3 w4:World} {c f e l c' f' e' l':Value} {M:Mast} (hm:MastIn w c f e l M) (hm':MastIn w c' f' e' l' M) (h3:BoxM w3 w.heap.size 33 c f e l M) (g3:(yo (jg w)).grownBy w3 (some w.heap.size))
 (h4:BoxM w4 (w.heap.size+1) 39 c' f' e' l' M) (g4:w3.grownBy w4 (some (w.heap.size+1))):TwoM w w4 c f e l c' f' e' l' M:=by
 have b0:Below w.heap.size w (yo (jg w)):=((Below.refl w.heap.size w).alloc (Nat.le_refl _) _).alloc (by rw [World.size_alloc];omega) _
 have b3:=b0.grown g3 b0.size (fun j hj=>by cases hj;exact Nat.le_refl _)
 have b4:=b3.grown g4 b3.size (fun j hj=>by cases hj;omega)
 refine ⟨b4,hm.keep b4,hm'.keep b4,?_,h4.nine⟩
 exact BoxM.nine ((g4.block _ h3.lt (fun e0=>by have:=Option.some.inj e0;omega)).trans h3)
theorem TwoM.keep {w0 w w':World} {c f e l c' f' e' l':Value} {M:Mast} (h:TwoM w0 w c f e l c' f' e' l' M) (hb:Below w.heap.size w w'):TwoM w0 w' c f e l c' f' e' l' M :=
 ⟨h.bel.trans (hb.mono h.bel.size),h.mast.keep hb,h.mast'.keep hb,h.nine.kept hb,h.nine'.kept hb⟩
end Go.Proofs.YtdhfpgjnjlcciaaGreatDoor.Pk
end
section
namespace Go.Proofs.YtdhfpgjnjlcciaaGreatDoor.Fa
open Go.RowKit
def smallB (x:Fact):Bool:=decide (x.amt≤4503599627370496) && decide (-4503599627370496≤x.amt)
def smallL (c:List Fact):Bool:=c.all smallB
end Go.Proofs.YtdhfpgjnjlcciaaGreatDoor.Fa
end
