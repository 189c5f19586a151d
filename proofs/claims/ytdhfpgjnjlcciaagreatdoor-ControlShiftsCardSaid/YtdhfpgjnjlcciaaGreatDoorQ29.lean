/- CoIter CoTotal CoCompact -/
import Derived.Laws.IdiomCopy
import Derived.Test.YtdhfpgjnjlcciaaGreatDoorQ28
section
namespace Go.Proofs.YtdhfpgjnjlcciaaGreatDoor.Co
open Go.RowKit Go.Shelf Go.Proofs.YtdhfpgjnjlcciaaGreatDoor.Un Go.Proofs.YtdhfpgjnjlcciaaGreatDoor.Fa Go.Proofs.YtdhfpgjnjlcciaaGreatDoor.Pk
attribute [local go_sem] Oper.semAt_some
def cfs (M:Mast) (q:Key→Bool) (l:List Fact):List CF:=(l.filter fun f=>q f.key && cnt M f.key).map (cfOf M)
theorem zhK {M:Mast} {q:Key→Bool} {l:List Fact} {i:Nat} {x:Fact} (hx:l[i]?=some x) (h1:q x.key=true) (h2:cnt M x.key=true):cfs M q (l.take (i+1))=cfs M q (l.take i)++[cfOf M x]:=by
 unfold cfs
 rw [List.take_add_one,hx]
 simp [h1,h2]
theorem VS {M:Mast} {q:Key→Bool} {l:List Fact} {i:Nat} {x:Fact} (hx:l[i]?=some x) (h:q x.key=false∨cnt M x.key=false):cfs M q (l.take (i+1))=cfs M q (l.take i):=by
 unfold cfs
 rw [List.take_add_one,hx]
 rcases h with h | h <;> simp [h]
theorem zgl {M:Mast} {q:Key→Bool} {l:List Fact} {i:Nat} {x:Fact} (hx:l[i]?=some x) (h1:q x.key=true) (h2:cnt M x.key=true):∃ r,cfs M q l=cfs M q (l.take i)++cfOf M x::r:=by
 have hi:i < l.length:=(List.getElem?_eq_some_iff.1 hx).1
 have e:l=l.take i++x::l.drop (i+1):=by
  rw [List.getElem?_eq_getElem hi] at hx
  cases hx
  rw [←List.drop_eq_getElem_cons hi,List.take_append_drop]
 refine ⟨cfs M q (l.drop (i+1)),?_⟩
 conv=>lhs;rw [e]
 unfold cfs
 simp [h1,h2]
def KpC (n1 lo hi:Nat) (W W':World):Prop:=Below n1 W W'∧∀ k,lo≤k→k < hi→W'.heap[k]?=W.heap[k]?
theorem jZ {n1 lo hi:Nat} {A B C:World} (h:KpC n1 lo hi A B) (k:KpC n1 lo hi B C):KpC n1 lo hi A C:=⟨h.1.trans k.1,fun i h1 h2=>(k.2 i h1 h2).trans (h.2 i h1 h2)⟩
theorem jU {n1 lo hi B:Nat} {W W':World} (h:Below B W W') (hB:hi≤B) (hn:n1≤B):KpC n1 lo hi W W':=⟨h.mono hn,fun k _ hk=>h.block k (by omega)⟩
theorem V6 {n1 lo hi:Nat} (W:World) (l:Nat) (o':Obj) (h:hi≤l) (hn:n1≤l) (hs:n1≤W.heap.size):KpC n1 lo hi W (W.putObj l o') :=
 ⟨(Below.refl n1 W).grown (grownBy_putObj' W l o') hs (fun k e=>by cases e;exact hn),fun k _ hk=>World.putObj_heap_other (by omega)⟩
structure ItAt (n1 lo hi:Nat) (w1:World) (g:Nat) (cb:Array Value) (bc ba bm:Nat) (c f e l vc:Value) (M:Mast) (W:World):Prop where
 below:Below n1 w1 W
 top:hi≤W.heap.size
 cc:W.cell? ⟨bc,0,none⟩=some vc
 ca:W.cell? ⟨ba,0,none⟩=some (.func (.func g) #[] cb)
 nm:NineAt W bm c f e l M
structure Ins (n1 lo hi bc ba bm:Nat):Prop where
 n:n1≤hi
 c1:lo≤bc
 c2:bc < hi
 a1:lo≤ba
 a2:ba < hi
 m1:lo≤bm
 m2:bm < hi
theorem xL {W W':World} {b:Nat} (h:W'.heap[b]?=W.heap[b]?) (o:Nat):W'.cell? ⟨b,o,none⟩=W.cell? ⟨b,o,none⟩:=by
 unfold World.cell?
 rw [h]
theorem ItAt.keep {n1 lo hi:Nat} {w1:World} {g:Nat} {cb:Array Value} {bc ba bm:Nat} {c f e l vc:Value} {M:Mast} {W W':World} (h:ItAt n1 lo hi w1 g cb bc ba bm c f e l vc M W) (hI:Ins n1 lo hi bc ba bm) (hk:KpC n1 lo hi W W'):ItAt n1 lo hi w1 g cb bc ba bm c f e l vc M W':=by
 have hm:=fun o=>xL (hk.2 bm hI.m1 hI.m2) o
 refine ⟨h.below.trans hk.1,Nat.le_trans h.top hk.1.size,(xL (hk.2 bc hI.c1 hI.c2) 0).trans h.cc,(xL (hk.2 ba hI.a1 hI.a2) 0).trans h.ca,?_⟩
 obtain ⟨k0,k1,k2,k3,k4,k5,k6,k7,k8⟩:=h.nm
 exact ⟨(hm 0).trans k0,(hm 1).trans k1,(hm 2).trans k2,(hm 3).trans k3,(hm 4).trans k4,(hm 5).trans k5,(hm 6).trans k6,(hm 7).trans k7,(hm 8).trans k8⟩
def RC (all:List CF) (pre:List CF) (x:CF) (_W:World):Prop:=∃ r,all=pre++x::r
def encsC (x:CF):Array Value:=#[aggC x]
set_option maxRecDepth 100000 in
set_option maxHeartbeats 8000000 in
theorem zbg (n:Nat) (hn:1≤n) (n1 lo hi:Nat) (w1:World) (hw1:w1.heap.size=n1) (g:Nat) (cb:Array Value) (bc ba bm:Nat) (c f e l vc:Value) (M:Mast) (L:List Fact) (q:Key→Bool) (w:World)
 (hM:MastIn w1 c f e l M) (hr:riseK Fl.Flow.code M.flows=true) (hlf:M.flows.length≤1000) (hV:FactsV w1 vc L) (hL:L.length≤1000) (hI:Ins n1 lo hi bc ba bm) (hA:ItAt n1 lo hi w1 g cb bc ba bm c f e l vc M w)
 (eg:∀ args w,(callFunc g args).run Tryz.prog w=.ok (.enter g args) w) (hq:∀ W,KpC n1 lo hi w W→∀ k,Calls Tryz.prog g (#[Fa.aggK k]++cb) W fun en w'=>en=.returned (.bool (q k))∧Below W.heap.size W w') :
 xG Fence.wide n Tryz.prog 67 #[.pointer (some ⟨bc,0,none⟩),.pointer (some ⟨ba,0,none⟩),.pointer (some ⟨bm,0,none⟩)] encsC (KpC n1 lo hi) (RC (cfs M q L)) (fun xs=>xs=cfs M q L) (fun _=>True) w:=by
 intro lp J Jx W hW hJ hJx hY h0
 have HY:=Lib.hid hY
 have HJ:=Lib.hid hJ
 have HQ:=Lib.hid hq
 have hKW:KpC n1 lo hi w W:=jU hW hA.top (Nat.le_trans hI.n hA.top)
 have hA0:=hA.keep hI hKW
 have HI:=Lib.hid hI
 have HM:=Lib.hid hM
 have HR:=Lib.hid hr
 have HLF:=Lib.hid hlf
 have HW1:=Lib.hid hw1
 obtain ⟨p,cp,rfl,hcap,hmx,_,_⟩:=id hV
 obtain ⟨N,hN⟩:∃ N,L.length=N:=⟨_,rfl⟩
 have HN:=Lib.hid hN
 have HV:=Lib.hid hV
 obtain ⟨pc,cc,pf,cf,pe,ce,pl,cl,rfl,rfl,rfl,rfl⟩:=shapes hM
 rw [hN] at hL hA0 hA
 unfold maxLen at hmx
 have HK0:=Lib.hid hKW
 clear hY hJ hJx hq hI hM hr hlf hV hN hA hcap hmx hw1 hW hKW
 refine callsIn_of_wp Tryz.func67 rfl trivial ?_ rfl
 simp only [Tryz.ntmps67,List.size_toArray,List.length_cons,List.length_nil,Nat.reduceAdd,Nat.reduceSub,Array.replicate_succ,Array.replicate_zero,List.push_toArray,List.append_toArray,List.nil_append,List.cons_append]
 have a1:=hA0.cc
 gi_wp2
 gi_loopw [11] (fun s11 wr=>∃ i:Nat,s11=.int .i64 (i:Int)∧i≤N∧J (cfs M q (L.take i)) wr∧ItAt n1 lo hi w1 g cb bc ba bm (.slice pc M.chart.length cc) (.slice pf M.flows.length cf) (.slice pe M.ents.length ce) (.slice pl M.lines.length cl) (.slice p N cp) M wr∧Hid (KpC n1 lo hi w wr)) (fun s11 _=>N - (intOf s11).toNat)
 case atStart=>exact ⟨0,rfl,Nat.zero_le _,h0,hA0,HK0⟩
 case round =>
  obtain ⟨i,rfl,hiN,hJs,hAt,HKR⟩:=hrel
  rename World=>wa
  by_cases hlt:i < N
  ·obtain ⟨x,hx⟩:∃ x,L[i]?=some x:=⟨_,List.getElem?_eq_getElem (by rw [HN.out];exact hlt)⟩
   obtain ⟨b,o,e',hat⟩:=ElsV.at_ HV.out hx
   cases e'
   have hlt1:=hat.lt
   obtain ⟨r0,r1,r2,r3,r4,r5⟩:=fact6 (hat.keep hAt.below (by rw [←HW1.out];exact hlt1))
   simp only [show encF.k=6 from rfl] at r0 r1 r2 r3 r4 r5
   have HX:=Lib.hid hx
   have HAT:=Lib.hid hAt
   have HJS:=Lib.hid hJs
   clear hx hat hAt hJs a1 hA0 h0
   have hbA:Below wa.heap.size wa (wa.alloc (.cells (fCells x) 76)):=(Below.refl wa.heap.size wa).alloc (Nat.le_refl _) _
   have HA2:Hid (ElAt encF (wa.alloc (.cells (fCells x) 76)) wa.heap.size 0 x):=Lib.hid (zf encF wa x 76)
   have HBA:=Lib.hid hbA
   have hkA:KpC n1 lo hi wa (wa.alloc (.cells (fCells x) 76)):=jU hbA HAT.out.top (Nat.le_trans HI.out.n HAT.out.top)
   have HKA:=Lib.hid hkA
   have HAT1:=Lib.hid (HAT.out.keep HI.out hkA)
   have HJ1:=Lib.hid (HJ.out _ _ _ HJS.out hbA)
   have HKR1:=Lib.hid (jZ HKR.out hkA)
   have a1:=HAT.out.cc
   have a2:=HAT1.out.ca
   obtain ⟨f0,f1,f2,f3,f4,f5⟩:=fact6 HA2.out
   simp only [Nat.zero_add] at f0 f1 f2 f3 f4 f5
   clear hbA hkA
   gi_wp2_with fail
   obtain ⟨W1,hW1⟩:∃ W1,wa.alloc (.cells (fCells x) 76)=W1:=⟨_,rfl⟩
   have hW1':wa.alloc (.cells #[.string x.key.e,.string x.key.a,.string x.key.f,.string x.key.p,.int .i64 x.key.m,.int .i64 x.amt] 76)=W1:=hW1
   rw [hW1] at HA2 HBA HKA HAT1 HJ1 HKR1
   rw [hW1']
   clear r0 r1 r2 r3 r4 r5 a1 a2 f0 f1 f2 f3 f4 f5 hW1 hW1' HAT HJS
   obtain ⟨b,hb⟩:∃ b,q x.key=b:=⟨_,rfl⟩
   have HQX:=Lib.hid hb
   have HQC:=Lib.hid (HQ.out W1 HKR1.out x.key)
   rw [hb] at HQC
   clear hb
   refine ⟨trivial,?_⟩
   refine (callsIn_wide.2 HQC.out).mono ?_
   rintro en w2 ⟨rfl,hb2⟩
   have hk2:KpC n1 lo hi W1 w2:=jU hb2 HAT1.out.top (Nat.le_trans HI.out.n HAT1.out.top)
   have HAT2:=Lib.hid (HAT1.out.keep HI.out hk2)
   have HJ2:=Lib.hid (HJ.out _ _ _ HJ1.out hb2)
   have HKR2:=Lib.hid (jZ HKR1.out hk2)
   have HX2:=Lib.hid (HA2.out.keep hb2 HA2.out.lt)
   clear hb2 hk2 HA2 HBA HKA HAT1 HJ1 HKR1 HQC
   cases b with
   | false =>
     gi_wp2
     go_roundw
     case rel=>exact ⟨i+1,by go_num,by omega,by rw [VS HX.out (.inl HQX.out)];exact HJ2.out,HAT2.out,HKR2⟩
     case measure=>simp [intOf];omega
   | true =>
     have HCT:=Lib.hid (zcd (.slice pc M.chart.length cc) (.slice pf M.flows.length cf) (.slice pe M.ents.length ce) (.slice pl M.lines.length cl) M x w2 (HM.out.keep (by rw [HW1.out];exact HAT2.out.below)) HR.out HLF.out)
     obtain ⟨k0,k1,k2,k3,k4,k5,k6,k7,k8⟩:=HAT2.out.nm
     obtain ⟨f0,f1,f2,f3,f4,f5⟩:=fact6 HX2.out
     simp only [Nat.zero_add] at f0 f1 f2 f3 f4 f5
     obtain ⟨y,hy⟩:∃ y,cfOf M x=y:=⟨_,rfl⟩
     have HY2:=Lib.hid hy
     rw [hy] at HCT
     clear hy
     cases hc:cnt M x.key with
     | false =>
       have HCN:=Lib.hid hc
       rw [hc] at HCT
       rw [if_neg (by simp)] at HCT
       clear hc
       gi_wp2_with fail
       clear k0 k1 k2 k3 k4 k5 k6 k7 k8 f0 f1 f2 f3 f4 f5
       refine ⟨trivial,?_⟩
       refine (callsIn_wide.2 HCT.out).mono ?_
       rintro en w3 ⟨rfl,hb3⟩
       have hb4:=hb3.alloc hb3.size (.cells (encC.cs zeroC).toArray 100)
       have hk4:KpC n1 lo hi w2 (w3.alloc (.cells (encC.cs zeroC).toArray 100)):=jU hb4 HAT2.out.top (Nat.le_trans HI.out.n HAT2.out.top)
       have HAT4:=Lib.hid (HAT2.out.keep HI.out hk4)
       have HJ4:=Lib.hid (HJ.out _ _ _ HJ2.out hb4)
       have HKR4:=Lib.hid (jZ HKR2.out hk4)
       clear hb3 hb4 hk4
       gi_wp2
       refine ⟨fun _ h=>(by cases h),?_⟩
       gi_wp2
       go_roundw
       case rel=>exact ⟨i+1,by go_num,by omega,by rw [VS HX.out (.inr HCN.out)];exact HJ4.out,HAT4.out,HKR4⟩
       case measure=>simp [intOf];omega
     | true =>
       have HCN:=Lib.hid hc
       rw [hc] at HCT
       rw [if_pos rfl] at HCT
       clear hc
       gi_wp2_with fail
       clear k0 k1 k2 k3 k4 k5 k6 k7 k8 f0 f1 f2 f3 f4 f5
       refine ⟨trivial,?_⟩
       refine (callsIn_wide.2 HCT.out).mono ?_
       rintro en w3 ⟨rfl,hb3⟩
       have hb4:=hb3.alloc hb3.size (.cells (encC.cs y).toArray 100)
       have hk4:KpC n1 lo hi w2 (w3.alloc (.cells (encC.cs y).toArray 100)):=jU hb4 HAT2.out.top (Nat.le_trans HI.out.n HAT2.out.top)
       have HAT4:=Lib.hid (HAT2.out.keep HI.out hk4)
       have HJ4:=Lib.hid (HJ.out _ _ _ HJ2.out hb4)
       have HKR4:=Lib.hid (jZ HKR2.out hk4)
       obtain ⟨W4,hW4⟩:∃ W4,w3.alloc (.cells (encC.cs y).toArray 100)=W4:=⟨_,rfl⟩
       have hW4':w3.alloc (.cells #[.string y.f.key.e,.string y.f.key.a,.string y.f.key.f,.string y.f.key.p,.int .i64 y.f.key.m,.int .i64 y.f.amt,.int .i64 y.k,.int .i64 y.c] 100)=W4:=hW4
       have hX4:ElAt encC W4 w3.heap.size 0 y:=by rw [←hW4];exact zf encC w3 y _
       rw [hW4] at HAT4 HJ4 HKR4
       clear hb3 hb4 hk4 hW4
       obtain ⟨r,hr⟩:=zgl HX.out HQX.out HCN.out
       rw [HY2.out] at hr
       obtain ⟨fn,tmps,assign,body,hy,hR⟩:=HY.out (cfs M q (L.take i)) y W4 HJ4.out ⟨r,hr⟩
       unfold encsC at hy
       obtain ⟨k0,k1,k2,k3,k4,k5,k6,k7⟩:=cf8 hX4
       simp only [Nat.zero_add] at k0 k1 k2 k3 k4 k5 k6 k7
       clear hX4
       gi_wp2
       refine hR.mono ?_
       rintro en W5 (⟨rfl,hJ5,hk5⟩ | ⟨rfl,hJx5⟩)
       ·have HAT5:=Lib.hid (HAT4.out.keep HI.out hk5)
        have HKR5:=Lib.hid (jZ HKR4.out hk5)
        clear hk5
        gi_wp2
        go_roundw
        case rel=>exact ⟨i+1,by go_num,by omega,by rw [zhK HX.out HQX.out HCN.out,HY2.out];exact hJ5,HAT5.out,HKR5⟩
        case measure=>simp [intOf];omega
       ·gi_wp2
        refine bodyPost_ret (results_none rfl _ _ _) rfl ?_
        exact ⟨⟨_,rfl⟩,.inr ⟨_,trivial,hJx5⟩⟩
  ·have hiE:i=N:=by omega
   subst hiE
   have HE:Hid (cfs M q (L.take i)=cfs M q L):=Lib.hid (by rw [List.take_of_length_le (by rw [HN.out];exact Nat.le_refl _)])
   gi_wp2
   go_end0
   exact ⟨⟨_,rfl⟩,.inl ⟨cfs M q (L.take i),HE.out,hJs⟩⟩
end Go.Proofs.YtdhfpgjnjlcciaaGreatDoor.Co
end
section
namespace Go.Proofs.YtdhfpgjnjlcciaaGreatDoor.Co
open Go.RowKit Go.Shelf Go.Proofs.YtdhfpgjnjlcciaaGreatDoor.Un Go.Proofs.YtdhfpgjnjlcciaaGreatDoor.Fa Go.Proofs.YtdhfpgjnjlcciaaGreatDoor.Pk
attribute [local go_sem] Oper.semAt_some
def sgs (ad:CF→Bool) (l:List CF):List (Bool × Int):=l.map fun x=>(ad x,x.f.amt)
theorem zgX (ad:CF→Bool) (l:List CF) (x:CF):sgs ad (l++[x])=sgs ad l++[(ad x,x.f.amt)]:=by simp [sgs]
theorem JB:∀ (a b:List (Bool × Int)) (n s:Int),walkS n a=(s,0)→walkS n (a++b)=walkS s b
 | [],b,n,s,h=>by
   have:n=s:=by simpa [walkS] using h
   rw [this];rfl
 | (g,x)::a,b,n,s,h=>by
   cases hf:fit (stp n g x) with
   | false=>rw [jq a hf] at h;cases h
   | true=>rw [qW a hf] at h;rw [List.cons_append,qW _ hf];exact JB a b _ s h
theorem Vy {ad:CF→Bool} {pre:List CF} {x:CF} {s:Int} (h:walkS 0 (sgs ad pre)=(s,0)) (hf:fit (stp s (ad x) x.f.amt)=true):walkS 0 (sgs ad (pre++[x]))=(stp s (ad x) x.f.amt,0):=by
 rw [zgX,JB _ _ _ _ h,qW _ hf];rfl
theorem X9 {ad:CF→Bool} {pre r:List CF} {x:CF} {s:Int} (h:walkS 0 (sgs ad pre)=(s,0)) (hf:fit (stp s (ad x) x.f.amt)=false):walkS 0 (sgs ad (pre++x::r))=(0,2):=by
 have e:sgs ad (pre++x::r)=sgs ad pre++(ad x,x.f.amt)::sgs ad r:=by simp [sgs]
 rw [e,JB _ _ _ _ h,jq _ hf]
def ToI (ad:CF→Bool) (n0:Nat) (fv:Value) (pre:List CF) (W:World):Prop :=
 ∃ s,walkS 0 (sgs ad pre)=(s,0)∧In64 s∧Boxed W n0 98 fv∧Boxed W (n0+1) 2 (.int .i64 0)∧Boxed W (n0+1+1) 45 (.int .i64 0)∧Boxed W (n0+1+1+1) 2 (.int .i64 s)
theorem zek (ad:CF→Bool) (n0:Nat) (fv:Value):Own (ToI ad n0 fv):=by
 rintro s X Y row ⟨n,h0,h1,h2,h3,h4,h5⟩ hg hrow
 have hb:∀ {B:Nat} {t:TypeId} {u:Value},Boxed X B t u→some B≠row:=fun {B t u} hu e'=>by
  obtain ⟨o,ho,hc⟩:=hrow _ e'.symm
  rw [show X.heap[B]?=_ from hu] at ho;cases ho;cases hc
 exact ⟨n,h0,h1,h2.kept hg (hb h2),h3.kept hg (hb h3),h4.kept hg (hb h4),h5.kept hg (hb h5)⟩
def ToX (n0:Nat) (c:Code) (_:List CF) (W:World):Prop:=c=.ret∧Boxed W (n0+1) 2 (.int .i64 0)∧Boxed W (n0+1+1) 45 (.int .i64 2)
theorem ze5 (n0:Nat) (c:Code):Own (ToX n0 c):=by
 rintro s X Y row ⟨h0,h1,h2⟩ hg hrow
 have hb:∀ {B:Nat} {t:TypeId} {u:Value},Boxed X B t u→some B≠row:=fun {B t u} hu e'=>by
  obtain ⟨o,ho,hc⟩:=hrow _ e'.symm
  rw [show X.heap[B]?=_ from hu] at ho;cases ho;cases hc
 exact ⟨h0,h1.kept hg (hb h1),h2.kept hg (hb h2)⟩
set_option maxRecDepth 100000 in
set_option maxHeartbeats 8000000 in
theorem Xm (n1 lo hi:Nat) (gi:Nat) (lb:Array Value) (ga:Nat) (ad:CF→Bool) (all:List CF) (w:World) (hhi:hi≤w.heap.size) (hn1:n1≤w.heap.size) (hz:∀ x∈all,In64 x.f.amt)
 (egi:∀ args w,(callFunc gi args).run Tryz.prog w=.ok (.enter gi args) w) (ega:∀ args w,(callFunc ga args).run Tryz.prog w=.ok (.enter ga args) w)
 (hadd:∀ x W,Calls Tryz.prog ga #[aggC x] W fun en w'=>en=.returned (.bool (ad x))∧Below W.heap.size W w')
 (hseq:∀ W,Below w.heap.size w W→xG Fence.wide 2 Tryz.prog gi lb encsC (KpC n1 lo hi) (RC all) (fun xs=>xs=all) (fun _=>True) W) :
 Calls Tryz.prog 33 #[.func (.func gi) #[] lb,.func (.func ga) #[] #[]] w fun en w'=>en=.returned (.tuple #[.int .i64 (walkS 0 (sgs ad all)).1,.int .i64 (walkS 0 (sgs ad all)).2])∧Below w.heap.size w w':=by
 obtain ⟨fv,hfv⟩:∃ fv,(Value.func (.func ga) #[] #[]:Value)=fv:=⟨_,rfl⟩
 obtain ⟨W0,hW0⟩:∃ W0,(((w.alloc (.cells #[.func (.func ga) #[] #[]] 98)).alloc (.cells #[.int .i64 0] 2)).alloc (.cells #[.int .i64 0] 45)).alloc (.cells #[.int .i64 0] 2)=W0:=⟨_,rfl⟩
 have hb0:Below w.heap.size w W0:=by
  rw [←hW0]
  exact ((((Below.refl w.heap.size w).alloc (Nat.le_refl _) _).alloc (by simp) _).alloc (by simp;omega) _).alloc (by simp;omega) _
 have hs0:W0.heap.size=w.heap.size+4:=by rw [←hW0];simp
 have x0:Boxed W0 w.heap.size 98 (.func (.func ga) #[] #[]):=by
  rw [←hW0];exact (((Boxed.new w _ _).alloc _).alloc _).alloc _
 have x1:Boxed W0 (w.heap.size+1) 2 (.int .i64 0):=by
  have:=((Boxed.new (w.alloc (.cells #[.func (.func ga) #[] #[]] 98)) 2 (.int .i64 0)).alloc (.cells #[.int .i64 0] 45)).alloc (.cells #[.int .i64 0] 2)
  rw [World.size_alloc] at this
  rw [←hW0];exact this
 have x2:Boxed W0 (w.heap.size+1+1) 45 (.int .i64 0):=by
  have:=(Boxed.new ((w.alloc (.cells #[.func (.func ga) #[] #[]] 98)).alloc (.cells #[.int .i64 0] 2)) 45 (.int .i64 0)).alloc (.cells #[.int .i64 0] 2)
  rw [World.size_alloc,World.size_alloc] at this
  rw [←hW0];exact this
 have x3:Boxed W0 (w.heap.size+1+1+1) 2 (.int .i64 0):=by
  have:=Boxed.new (((w.alloc (.cells #[.func (.func ga) #[] #[]] 98)).alloc (.cells #[.int .i64 0] 2)).alloc (.cells #[.int .i64 0] 45)) 2 (.int .i64 0)
  rw [World.size_alloc,World.size_alloc,World.size_alloc] at this
  rw [←hW0];exact this
 have HB0:=Lib.hid hb0
 have HS0:=Lib.hid hs0
 have H0:=Lib.hid x0
 have H1:=Lib.hid x1
 have H2:=Lib.hid x2
 have H3:=Lib.hid x3
 have HZ:=Lib.hid hz
 have HADD:=Lib.hid hadd
 have HSEQ:=Lib.hid (hseq W0 hb0)
 obtain ⟨R,hR⟩:∃ R,walkS 0 (sgs ad all)=R:=⟨_,rfl⟩
 rw [hR]
 have HRR:=Lib.hid hR
 have HHI:=Lib.hid hhi
 have HN1:=Lib.hid hn1
 clear hb0 hs0 x0 x1 x2 x3 hz hadd hseq hR hhi hn1 hfv
 refine (callsIn_wide (n:=3)).1 ?_
 refine callsIn_of_wp_marks Tryz.func33 rfl trivial ?_ rfl
 simp only [Tryz.ntmps33,List.size_toArray,List.length_cons,List.length_nil,Nat.reduceAdd,Nat.reduceSub,Array.replicate_succ,Array.replicate_zero,List.push_toArray,List.append_toArray,List.nil_append,List.cons_append]
 gi_wp2
 clear hW0
 refine JK rfl (by decide) (gf:=gi) (lb:=lb) rfl trivial egi HSEQ.out jZ
  (fun W l o o' hl hlo _ _=>V6 W l o' (by have:=HB0.out.size;have:=HHI.out;omega) (by have:=HB0.out.size;have:=HN1.out;omega) (by have:=(Array.getElem?_eq_some_iff.1 hlo).1;have:=HB0.out.size;have:=HN1.out;omega)) (fun _=>rfl)
  (fun pre W=>ToI ad w.heap.size (.func (.func ga) #[] #[]) pre W∧Below w.heap.size w W)
  (fun c pre W=>(ToX w.heap.size c pre W∧R=(0,2))∧Below w.heap.size w W)
  (OwnFrom.and (Own.from (zek _ _ _) _) (ownFrom_below (Nat.le_refl _) HB0.out.size))
  (fun c=>OwnFrom.and (OwnFrom.and (Own.from (ze5 _ _) _) (ownFrom_pure _ _)) (ownFrom_below (Nat.le_refl _) HB0.out.size))
  ⟨⟨0,rfl,⟨by decide,by decide⟩,H0.out,H1.out,H2.out,H3.out⟩,HB0.out⟩ ?_ ?_ ?_
 ·rintro lp pre x W hl ⟨⟨s,hsp,hin,h0,h1,h2,h3⟩,hB⟩ ⟨r,hr⟩
  have hbA:Below W.heap.size W (W.alloc (.cells #[.string x.f.key.e,.string x.f.key.a,.string x.f.key.f,.string x.f.key.p,.int .i64 x.f.key.m,.int .i64 x.f.amt,.int .i64 x.k,.int .i64 x.c] 100)):=(Below.refl W.heap.size W).alloc (Nat.le_refl _) _
  have HBA:=Lib.hid hbA
  have H0A:=Lib.hid (zG h0 hbA)
  have H1A:=Lib.hid (zG h1 hbA)
  have H2A:=Lib.hid (zG h2 hbA)
  have H3A:=Lib.hid (zG h3 hbA)
  have HXA:=Lib.hid (zf encC W x 100)
  have HBW:=Lib.hid hB
  have HSP:=Lib.hid hsp
  have HIN:=Lib.hid hin
  have HALL:=Lib.hid hr
  have HINX:Hid (In64 x.f.amt):=Lib.hid (HZ.out x (by rw [hr];simp))
  clear h0 h1 h2 h3 hbA hB hsp hin hr
  unfold encsC
  gi_wp2_with fail
  refine ⟨yj _ HBA.out,jU HBA.out (by have:=HBW.out.size;have:=HHI.out;omega) (by have:=HBW.out.size;have:=HN1.out;omega),?_⟩
  intro o o' hlo hoc
  obtain ⟨WA,hWA⟩:∃ WA,W.alloc (.cells #[.string x.f.key.e,.string x.f.key.a,.string x.f.key.f,.string x.f.key.p,.int .i64 x.f.key.m,.int .i64 x.f.amt,.int .i64 x.k,.int .i64 x.c] 100)=WA:=⟨_,rfl⟩
  rw [hWA] at H0A H1A H2A H3A HBA hlo
  have HSA:Hid (WA.heap.size=W.heap.size+1):=Lib.hid (by rw [←hWA,World.size_alloc])
  have HXB:Hid (ElAt encC WA W.heap.size 0 x):=Lib.hid (by rw [←hWA];exact HXA.out)
  rw [hWA]
  obtain ⟨W4,hW4⟩:∃ W4,WA.putObj lp o'=W4:=⟨_,rfl⟩
  have H04:Hid (Boxed W4 w.heap.size 98 (.func (.func ga) #[] #[])):=Lib.hid (by rw [←hW4];exact qj hlo hoc H0A.out)
  have H14:Hid (Boxed W4 (w.heap.size+1) 2 (.int .i64 0)):=Lib.hid (by rw [←hW4];exact qj hlo hoc H1A.out)
  have H24:Hid (Boxed W4 (w.heap.size+1+1) 45 (.int .i64 0)):=Lib.hid (by rw [←hW4];exact qj hlo hoc H2A.out)
  have H34:Hid (Boxed W4 (w.heap.size+1+1+1) 2 (.int .i64 s)):=Lib.hid (by rw [←hW4];exact qj hlo hoc H3A.out)
  have HB4:Hid (Below w.heap.size w W4):=Lib.hid (by
   rw [←hW4]
   exact (HBW.out.trans (HBA.out.mono HBW.out.size)).grown (grownBy_putObj' WA lp o') (by have:=HBW.out.size;have:=HBA.out.size;omega) (fun k e=>by cases e;have:=HB0.out.size;omega))
  have HX4:Hid (ElAt encC W4 W.heap.size 0 x):=Lib.hid (fun j v hj=>hW4 ▸ yH (o':=o') hlo hoc (HXB.out j v hj))
  rw [hW4]
  clear HXB HXA H0A H1A H2A H3A hlo hoc hW4 hWA HBA HSA
  obtain ⟨k0,k1,k2,k3,k4,k5,k6,k7⟩:=cf8 HX4.out
  simp only [Nat.zero_add] at k0 k1 k2 k3 k4 k5 k6 k7
  have HAM:=Lib.hid k5
  have c0:=H04.out.cell
  obtain ⟨b,hb⟩:∃ b,ad x=b:=⟨_,rfl⟩
  have HAD:=Lib.hid hb
  have HAC:=Lib.hid (HADD.out x W4)
  rw [hb] at HAC
  clear hb
  gi_wp2_with fail
  clear k0 k1 k2 k3 k4 k5 k6 k7 c0
  refine ⟨trivial,?_⟩
  refine (CallsIn.inRound lp (callsIn_wide.2 HAC.out)).mono ?_
  rintro e W5 ⟨rfl,hb5⟩
  have H05:=Lib.hid (zG H04.out hb5)
  have H15:=Lib.hid (zG H14.out hb5)
  have H25:=Lib.hid (zG H24.out hb5)
  have H35:=Lib.hid (zG H34.out hb5)
  have HAM5:Hid (W5.cell? ⟨W.heap.size,5,none⟩=some (.int .i64 x.f.amt)):=Lib.hid ((hb5.cell (p:=⟨W.heap.size,5,none⟩) (World.block_lt_of_cell? W4 _ HAM.out)).trans HAM.out)
  have HB5:Hid (Below w.heap.size w W5):=Lib.hid (HB4.out.trans (hb5.mono HB4.out.size))
  have hnn:n1≤W4.heap.size:=by have:=HB4.out.size;have:=HN1.out;omega
  have hhh:hi≤w.heap.size:=HHI.out
  have HKK:Hid (∀ v:Int,KeepsFrom W0.heap.size W4 (W5.setCell ⟨w.heap.size+1+1+1,0,none⟩ (.int .i64 v))):=Lib.hid fun v=>(yj _ hb5).trans (KeepsFrom.of_grownBy (grownBy_setCell' W5 (w.heap.size+1+1+1) (.int .i64 v)) (fun k e=>by cases e;have:=HS0.out;omega))
  have HKP:Hid (∀ v:Int,KpC n1 lo hi W4 (W5.setCell ⟨w.heap.size+1+1+1,0,none⟩ (.int .i64 v))):=Lib.hid fun v=>⟨(hb5.mono hnn).grown (grownBy_setCell' W5 (w.heap.size+1+1+1) (.int .i64 v)) (by have:=hb5.size;omega) (fun k e=>by cases e;have:=HN1.out;omega),fun k _ hk=>((grownBy_setCell' W5 (w.heap.size+1+1+1) (.int .i64 v)).block k (by have:=hb5.size;have:=HB4.out.size;omega) (by simp;omega)).trans (hb5.block k (by have:=HB4.out.size;omega))⟩
  have HBB:Hid (∀ v:Int,Below w.heap.size w (W5.setCell ⟨w.heap.size+1+1+1,0,none⟩ (.int .i64 v))):=Lib.hid fun v=>HB5.out.grown (grownBy_setCell' W5 (w.heap.size+1+1+1) (.int .i64 v)) HB5.out.size (fun k e=>by cases e;omega)
  have HKX:Hid (KeepsFrom W0.heap.size W4 ((W5.setCell ⟨w.heap.size+1,0,none⟩ (.int .i64 0)).setCell ⟨w.heap.size+1+1,0,none⟩ (.int .i64 2))):=Lib.hid (((yj _ hb5).trans (KeepsFrom.of_grownBy (grownBy_setCell' W5 (w.heap.size+1) (.int .i64 0)) (fun k e=>by cases e;have:=HS0.out;omega))).trans (KeepsFrom.of_grownBy (grownBy_setCell' _ (w.heap.size+1+1) (.int .i64 2)) (fun k e=>by cases e;have:=HS0.out;omega)))
  have HBX:Hid (Below w.heap.size w ((W5.setCell ⟨w.heap.size+1,0,none⟩ (.int .i64 0)).setCell ⟨w.heap.size+1+1,0,none⟩ (.int .i64 2))):=Lib.hid ((HB5.out.grown (grownBy_setCell' W5 (w.heap.size+1) (.int .i64 0)) HB5.out.size (fun k e=>by cases e;omega)).grown (grownBy_setCell' _ (w.heap.size+1+1) (.int .i64 2)) (by simpa using HB5.out.size) (fun k e=>by cases e;omega))
  clear hb5 hnn hhh HAM H04 H14 H24 H34 HX4 HAC
  cases b with
  | true =>
    have e0:stp s true x.f.amt=s+x.f.amt:=rfl
    have c5:=H05.out.cell
    have c3:=H35.out.cell
    have cx:=HAM5.out
    cases hf:fit (s+x.f.amt) with
    | true =>
      have HF:=Lib.hid hf
      have HNX:Hid (walkS 0 (sgs ad (pre++[x]))=(s+x.f.amt,0)):=Lib.hid (by rw [Vy HSP.out (by rw [HAD.out,e0];exact hf),HAD.out,e0])
      have f3:=H35.out.frozen
      obtain ⟨s2,hs2⟩:∃ s2,s+x.f.amt=s2:=⟨_,rfl⟩
      rw [hs2] at HNX
      have HIN2:Hid (In64 s2):=Lib.hid (by rw [←hs2];exact jo hf)
      have HCO:Hid (Calls Tryz.prog 66 #[.int .i64 s,.int .i64 x.f.amt] W5 fun e w'=>e=.returned (.tuple #[.int .i64 s2,.int .i64 0])∧W5=w'):=Lib.hid (by
       have:=Zc s x.f.amt W5 HIN.out HINX.out
       rw [yl HF.out,yL HF.out,hs2] at this
       exact this)
      clear hf hs2 e0 HF
      gi_wp2_with (refine ⟨trivial,?_⟩;gi_at_call 66;refine (CallsIn.inRound lp (callsIn_wide.2 HCO.out)).mono ?_;rintro e w' ⟨rfl,rfl⟩)
      refine ⟨HKK.out s2,HKP.out s2,⟨s2,HNX.out,HIN2.out,H05.out.other (by omega) _,H15.out.other (by omega) _,H25.out.other (by omega) _,H35.out.set _⟩,HBB.out s2⟩
    | false =>
      have HF:=Lib.hid hf
      have HNX:Hid (R=(0,2)):=Lib.hid (by rw [←HRR.out,HALL.out];exact X9 HSP.out (by rw [HAD.out,e0];exact hf))
      have c1:=H15.out.cell
      have f1:=H15.out.frozen
      have h25:=H25.out.other (B':=w.heap.size+1) (by omega) (.int .i64 0)
      have c2:=h25.cell
      have f2:=h25.frozen
      have HCO:Hid (Calls Tryz.prog 66 #[.int .i64 s,.int .i64 x.f.amt] W5 fun e w'=>e=.returned (.tuple #[.int .i64 0,.int .i64 2])∧W5=w'):=Lib.hid (by
       have:=Zc s x.f.amt W5 HIN.out HINX.out
       rw [yI HF.out,yQ HF.out] at this
       exact this)
      have H16:Hid (Boxed ((W5.setCell ⟨w.heap.size+1,0,none⟩ (.int .i64 0)).setCell ⟨w.heap.size+1+1,0,none⟩ (.int .i64 2)) (w.heap.size+1) 2 (.int .i64 0)):=Lib.hid ((H15.out.set _).other (by omega) _)
      have H26:Hid (Boxed ((W5.setCell ⟨w.heap.size+1,0,none⟩ (.int .i64 0)).setCell ⟨w.heap.size+1+1,0,none⟩ (.int .i64 2)) (w.heap.size+1+1) 45 (.int .i64 2)):=Lib.hid (h25.set _)
      clear hf e0 HF h25
      gi_wp2_with (refine ⟨trivial,?_⟩;gi_at_call 66;refine (CallsIn.inRound lp (callsIn_wide.2 HCO.out)).mono ?_;rintro e w' ⟨rfl,rfl⟩)
      exact ⟨HKX.out,⟨⟨rfl,H16.out,H26.out⟩,HNX.out⟩,HBX.out⟩
  | false =>
    have e0:stp s false x.f.amt=s - x.f.amt:=rfl
    have c5:=H05.out.cell
    have c3:=H35.out.cell
    have cx:=HAM5.out
    cases hf:fit (s - x.f.amt) with
    | true =>
      have HF:=Lib.hid hf
      have HNX:Hid (walkS 0 (sgs ad (pre++[x]))=(s - x.f.amt,0)):=Lib.hid (by rw [Vy HSP.out (by rw [HAD.out,e0];exact hf),HAD.out,e0])
      have f3:=H35.out.frozen
      obtain ⟨s2,hs2⟩:∃ s2,s - x.f.amt=s2:=⟨_,rfl⟩
      rw [hs2] at HNX
      have HIN2:Hid (In64 s2):=Lib.hid (by rw [←hs2];exact jo hf)
      have HCO:Hid (Calls Tryz.prog 65 #[.int .i64 s,.int .i64 x.f.amt] W5 fun e w'=>e=.returned (.tuple #[.int .i64 s2,.int .i64 0])∧W5=w'):=Lib.hid (by
       have:=YH s x.f.amt W5 HIN.out HINX.out
       rw [kF HF.out,yX HF.out,hs2] at this
       exact this)
      clear hf hs2 e0 HF
      gi_wp2_with (refine ⟨trivial,?_⟩;gi_at_call 65;refine (CallsIn.inRound lp (callsIn_wide.2 HCO.out)).mono ?_;rintro e w' ⟨rfl,rfl⟩)
      refine ⟨HKK.out s2,HKP.out s2,⟨s2,HNX.out,HIN2.out,H05.out.other (by omega) _,H15.out.other (by omega) _,H25.out.other (by omega) _,H35.out.set _⟩,HBB.out s2⟩
    | false =>
      have HF:=Lib.hid hf
      have HNX:Hid (R=(0,2)):=Lib.hid (by rw [←HRR.out,HALL.out];exact X9 HSP.out (by rw [HAD.out,e0];exact hf))
      have c1:=H15.out.cell
      have f1:=H15.out.frozen
      have h25:=H25.out.other (B':=w.heap.size+1) (by omega) (.int .i64 0)
      have c2:=h25.cell
      have f2:=h25.frozen
      have HCO:Hid (Calls Tryz.prog 65 #[.int .i64 s,.int .i64 x.f.amt] W5 fun e w'=>e=.returned (.tuple #[.int .i64 0,.int .i64 2])∧W5=w'):=Lib.hid (by
       have:=YH s x.f.amt W5 HIN.out HINX.out
       rw [kI HF.out,yV HF.out] at this
       exact this)
      have H16:Hid (Boxed ((W5.setCell ⟨w.heap.size+1,0,none⟩ (.int .i64 0)).setCell ⟨w.heap.size+1+1,0,none⟩ (.int .i64 2)) (w.heap.size+1) 2 (.int .i64 0)):=Lib.hid ((H15.out.set _).other (by omega) _)
      have H26:Hid (Boxed ((W5.setCell ⟨w.heap.size+1,0,none⟩ (.int .i64 0)).setCell ⟨w.heap.size+1+1,0,none⟩ (.int .i64 2)) (w.heap.size+1+1) 45 (.int .i64 2)):=Lib.hid (h25.set _)
      clear hf e0 HF h25
      gi_wp2_with (refine ⟨trivial,?_⟩;gi_at_call 65;refine (CallsIn.inRound lp (callsIn_wide.2 HCO.out)).mono ?_;rintro e w' ⟨rfl,rfl⟩)
      exact ⟨HKX.out,⟨⟨rfl,H16.out,H26.out⟩,HNX.out⟩,HBX.out⟩
 ·rintro D xs W hD hxs ⟨⟨s,hsp,_,h0,h1,h2,h3⟩,hB⟩ hK
  rw [hxs,HRR.out] at hsp
  have HRS:=Lib.hid hsp
  have c3:=h3.cell
  have c1:=h1.cell
  have f1:=h1.frozen
  have h25:=h2.other (B':=w.heap.size+1) (by omega) (.int .i64 s)
  have c2:=h25.cell
  have f2:=h25.frozen
  obtain ⟨W5,hW5⟩:∃ W5,W.setCell ⟨w.heap.size+1,0,none⟩ (.int .i64 s)=W5:=⟨_,rfl⟩
  obtain ⟨W6,hW6⟩:∃ W6,W5.setCell ⟨w.heap.size+1+1,0,none⟩ (.int .i64 0)=W6:=⟨_,rfl⟩
  have b15:Boxed W5 (w.heap.size+1) 2 (.int .i64 s):=by rw [←hW5];exact h1.set _
  rw [hW5] at h25
  have b16:Boxed W6 (w.heap.size+1) 2 (.int .i64 s):=by rw [←hW6];exact b15.other (by omega) _
  have b26:Boxed W6 (w.heap.size+1+1) 45 (.int .i64 0):=by rw [←hW6];exact h25.set _
  have hD4:w.heap.size+4≤D:=by have:=HS0.out;omega
  have hK5:W5.heap[D]?=some (.deferred (some [])):=by rw [←hW5];exact ((grownBy_setCell' W (w.heap.size+1) (.int .i64 s)).block D (Array.getElem?_eq_some_iff.1 hK).1 (by simp;omega)).trans hK
  have hK6:W6.heap[D]?=some (.deferred (some [])):=by rw [←hW6];exact ((grownBy_setCell' W5 (w.heap.size+1+1) (.int .i64 0)).block D (Array.getElem?_eq_some_iff.1 hK5).1 (by simp;omega)).trans hK5
  have hB5:Below w.heap.size w W5:=by rw [←hW5];exact hB.grown (grownBy_setCell' W (w.heap.size+1) _) hB.size (fun k e=>by cases e;omega)
  have hB6:Below w.heap.size w W6:=by rw [←hW6];exact hB5.grown (grownBy_setCell' W5 (w.heap.size+1+1) _) hB5.size (fun k e=>by cases e;omega)
  have b17:=(qj (o':=.deferred none) hK6 rfl b16).cell
  have b27:=(qj (o':=.deferred none) hK6 rfl b26).cell
  have hB7:=hB6.grown (grownBy_putObj' W6 D (.deferred none)) hB6.size (fun k e=>by cases e;omega)
  have HK6:=Lib.hid hK6
  have HB7:=Lib.hid hB7
  have H17:=Lib.hid b17
  have H27:=Lib.hid b27
  clear b15 b16 b26 hK5 hK6 hB5 hB6 b17 b27 hB7 h25 hK hB h0 h1 h2 h3 hsp hD4
  rw [hW5] at c2 f2
  gi_wp2
  refine ⟨by simp,.inl ⟨_,_,rfl,run_takeDeferred HK6.out,?_⟩⟩
  have c17:=H17.out
  have c27:=H27.out
  refine ⟨.tuple #[.int .i64 s,.int .i64 0],by simp [results,Tryz.results33,go_sem,c17,c27],?_,HB7.out⟩
  rw [HRS.out]
 ·rintro D c pre W hD _ ⟨⟨⟨rfl,h1,h2⟩,h3⟩,hB⟩ hK
  have b17:=(qj (o':=.deferred none) hK rfl h1).cell
  have b27:=(qj (o':=.deferred none) hK rfl h2).cell
  have hB7:=hB.grown (grownBy_putObj' W D (.deferred none)) hB.size (fun k e=>by cases e;have:=HB0.out.size;omega)
  have HK6:=Lib.hid hK
  have HB7:=Lib.hid hB7
  have H17:=Lib.hid b17
  have H27:=Lib.hid b27
  clear b17 b27 hB7 hK h1 h2 hB
  gi_wp2
  refine ⟨by simp,.inl ⟨_,_,rfl,run_takeDeferred HK6.out,?_⟩⟩
  have c17:=H17.out
  have c27:=H27.out
  refine ⟨.tuple #[.int .i64 0,.int .i64 2],by simp [results,Tryz.results33,go_sem,c17,c27],?_,HB7.out⟩
  rw [h3]
end Go.Proofs.YtdhfpgjnjlcciaaGreatDoor.Co
end
section
namespace Go.Proofs.YtdhfpgjnjlcciaaGreatDoor.Co
open Go.RowKit Go.Proofs.YtdhfpgjnjlcciaaGreatDoor.Fa
def eqP (a b:Key):Bool:=a.e.toList==b.e.toList && (a.a.toList==b.a.toList && a.p.toList==b.p.toList)
theorem Z1 (a b:Key):eqP a b=decide (plc a=plc b):=by
 unfold eqP
 rw [Bool.eq_iff_iff]
 simp only [Bool.and_eq_true,beq_iff_eq,decide_eq_true_eq]
 constructor
 ·rintro ⟨h0,h1,h2⟩
  unfold plc
  rw [toList_inj h0,toList_inj h1,toList_inj h2]
 ·intro h
  unfold plc at h
  simp only [Key.mk.injEq] at h
  rw [h.1,h.2.1,h.2.2.2.1]
  exact ⟨rfl,rfl,rfl⟩
theorem Yl (a b:Key) (w:World):Sem.run Tryz.prog (binOp .eql 91 (aggP a) (aggP b)) w=.ok (.bool (eqP a b)) w:=by
 have hS:Tryz.prog.underlying 91=some (.struct (Tryz.prog.fieldsOf 91)):=by kernel_rfl
 have hp:Tryz.prog.stoodInHeld 91=false:=by kernel_rfl
 rw [run_eql_struct,show (10000:Nat)=9999+1 from rfl,run_equalIn_agg w 9999 91 _ _ hS hp]
 simp only [Program.fieldsOf,Tryz.underlying91]
 go_simp
 unfold eqP
 by_cases h0:a.e.toList=b.e.toList
 ·by_cases h1:a.a.toList=b.a.toList
  ·by_cases h2:a.p.toList=b.p.toList <;> simp [h0,h1,h2]
  ·simp [h0,h1]
 ·simp [h0]
theorem zgp (a b:Key) (w:World):Sem.run Tryz.prog (binOp .neq 91 (aggP a) (aggP b)) w=.ok (.bool (!eqP a b)) w:=by
 have h:=Yl a b w
 rw [run_eql_struct] at h
 have hb:Sem.run Tryz.prog (Op.equalIn 10000 91 (aggP a) (aggP b)) w=.ok (eqP a b) w:=by
  cases hr:Sem.run Tryz.prog (Op.equalIn 10000 91 (aggP a) (aggP b)) w with
  | ok x w' =>
    rw [hr] at h
    simp only [Result.andThen] at h
    cases h
    rfl
  | halt x w' =>
    rw [hr] at h
    simp [Result.andThen] at h
 simp only [binOp,Op.equal,Op.maxDepth]
 simp [hb]
def uniqF (l:Option Key):List Key→List Key
 | []=>[]
 | a::r=>if l=some a then uniqF l r else a::uniqF (some a) r
def uniq (L:List Key):List Key:=uniqF none L
def lastF (l:Option Key):List Key→Option Key
 | []=>l
 | a::r=>lastF (some a) r
theorem Q3:∀ (A:List Key) (l:Option Key) (x:Key),uniqF l (A++[x])=uniqF l A++if lastF l A=some x then [] else [x]
 | [],l,x=>by
   show (if l=some x then uniqF l [] else x::uniqF (some x) [])=[]++if l=some x then [] else [x]
   split <;> rfl
 | a::r,l,x=>by
   show (if l=some a then uniqF l (r++[x]) else a::uniqF (some a) (r++[x]))=(if l=some a then uniqF l r else a::uniqF (some a) r)++if lastF (some a) r=some x then [] else [x]
   split
   ·rename_i e
    rw [Q3 r l x,e]
   ·rw [Q3 r (some a) x];rfl
theorem zap:∀ (A:List Key) (l:Option Key) (x:Key),lastF l (A++[x])=some x
 | [],_,_=>rfl
 | a::r,_,x=>zap r (some a) x
theorem KE {L:List Key} {j:Nat} {x y:Key} (hx:L[j+1]?=some x) (hy:L[j]?=some y):uniq (L.take (j+1+1))=uniq (L.take (j+1))++if y=x then [] else [x]:=by
 rw [List.take_add_one,hx]
 unfold uniq
 show uniqF none (L.take (j+1)++[x])=_
 rw [Q3]
 congr 1
 rw [List.take_add_one,hy]
 show (if lastF none (L.take j++[y])=some x then _ else _)=_
 rw [zap]
 simp
theorem zc8 {α:Type} {E:Enc α} {w:World} {p:Option Addr} {n c:Nat} {U Z:List α} (h:ElsV E w (.slice p n c) (U++Z)):ElsV E w (.slice p U.length c) U:=by
 obtain ⟨p',c',e,h1,h2,h3,hc⟩:=h
 cases e
 refine ⟨p,c,rfl,by simp at h1;omega,h2,h3,fun i x hx=>?_⟩
 have hi:i < U.length:=(List.getElem?_eq_some_iff.1 hx).1
 exact hc i x (by rw [List.getElem?_append_left hi];exact hx)
theorem ziX {α:Type} {E:Enc α} {P:Program} {w:World} {B g n c kk m:Nat} {e t ty:TypeId} {U V:List α} {z:α} (ht:P.underlying t=some (.slice e)) (hv:∀ w,(zeroValue e).run P w=.ok (.agg (E.cs z).toArray) w)
 (h:w.ownsRow B e E.k (.slice (some ⟨g,0,none⟩) n c) n (flat E (U++V))) (hk:U.length=kk) (hm:0 < V.length) (c2:Nat) (hml:V.length=m) :
 ∃ w',(Builtin.clear_ #[t] ty #[.slice (some ⟨g,kk * E.k,none⟩) m c2]).run P w=.ok (.tuple #[]) w'∧w'.ownsRow B e E.k (.slice (some ⟨g,0,none⟩) n c) n (flat E (U++List.replicate m z))∧w.grownBy w' (some g):=by
 subst hk
 subst hml
 have hzc:(Builtin.zeroCells (Value.agg (E.cs z).toArray).cells V.length).toList=flat E (List.replicate V.length z):=by
  apply List.ext_getElem?
  intro i
  have hs:(Value.agg (E.cs z).toArray).cells=(E.cs z).toArray:=rfl
  rw [hs]
  unfold Builtin.zeroCells
  rw [List.size_toArray,E.len]
  by_cases hi:i < V.length * E.k
  ·have hp:=E.pos
   have hd:i / E.k < V.length:=Nat.div_lt_of_lt_mul (by rw [Nat.mul_comm];exact hi)
   have hmo:i % E.k < (E.cs z).length:=by rw [E.len];exact Nat.mod_lt _ hp
   have f1:=jj (E:=E) (List.replicate V.length z) (i / E.k) z (by simp [hd]) (i % E.k) _ (List.getElem?_eq_getElem hmo)
   rw [Nat.mul_comm,Nat.div_add_mod] at f1
   rw [f1]
   simp [hi,List.getElem?_eq_getElem hmo]
  ·rw [List.getElem?_eq_none (by simp;omega),List.getElem?_eq_none (by rw [qv];simp;omega)]
 have hfr:∀ j,w.frozen? ⟨g,j,none⟩=false:=fun j=>by
  rcases h.2 with ⟨h',_⟩ | ⟨g',cap',cur,h',_,hg,_⟩
  ·cases h'
  ·cases h';simp [World.frozen?,hg]
 have hlen:(flat E (List.replicate V.length z)).length=V.length * E.k:=by rw [qv];simp
 have hst:=run_storeCells_cells (P:=P) g (U.length * E.k) (flat E (List.replicate V.length z)) 0 w (fun j hj=>by
  rw [hlen] at hj
  have hj2:U.length * E.k+j < (flat E (U++V)).length:=by
   rw [qv,List.length_append,Nat.add_mul];omega
  have:=h.cells (g:=g) rfl _ _ (List.getElem?_eq_getElem hj2)
  rw [zl,Nat.zero_add] at this
  rw [Nat.add_zero,this];rfl) (fun j _=>hfr _) (je _)
 rw [Nat.add_zero] at hst
 obtain ⟨h1,h2⟩:=XW h (flat E (List.replicate V.length z)) (U.length * E.k)
 have hpl:putL (flat E (U++V)) (U.length * E.k) (flat E (List.replicate V.length z))=flat E (U++List.replicate V.length z):=by
  have:=Qx (flat E (List.replicate V.length z)) (flat E U) (flat E V) [] (by rw [hlen,qv])
  rw [List.append_nil,List.append_nil,qv] at this
  rw [qy,qy,this]
 rw [hpl] at h1
 refine ⟨_,?_,h1,h2⟩
 obtain ⟨m,hm'⟩:∃ m,V.length=m+1:=⟨V.length - 1,by omega⟩
 rw [hm'] at hzc hst ⊢
 simp [Builtin.clear_,run_underlying ht,hv,hzc,hst]
theorem zhs {α:Type} {E:Enc α} {P:Program} {ops:Array Oper} {rest:List Oper} {o:Oper} {a:Act} {w:World} {Q:Exit→Act→World→Prop} (hgd:o.guard=none) (ty:TypeId) (x y:Operand) (ho:o.op=.store ty x y)
 (B g n c:Nat) (e:TypeId) (L:List α) (i:Nat) (z:α) (hx:a.eval x=.pointer (some ⟨g,i * E.k,none⟩)) (hy:a.eval y=.agg (E.cs z).toArray) (hrow:w.ownsRow B e E.k (.slice (some ⟨g,0,none⟩) n c) n (flat E L)) (hn:L.length=n) (hi:i < n) (hti:(P.info? ty).map (·.size)=some E.k)
 (h:∀ w',w'.ownsRow B e E.k (.slice (some ⟨g,0,none⟩) n c) n (flat E (L.set i z))→w.grownBy w' (some g)→wpList P ops Q rest (a.put o.dst undef) w'):wpList P ops Q (o::rest) a w :=
 wpList_plain hgd fun _ hK=>Vh ty x y ho B g n c e L i z hx hy hrow hn hi hti fun w' h1 h2=>hK _ _ (h w' h1 h2)
theorem Zm {α:Type} {E:Enc α} {w:World} {B g n c:Nat} {e:TypeId} {L:List α} {i:Nat} {x:α} (h:w.ownsRow B e E.k (.slice (some ⟨g,0,none⟩) n c) n (flat E L)) (hx:L[i]?=some x):ElAt E w g (i * E.k) x:=fun j v hj=>by
 have:=h.cells (g:=g) rfl _ _ (jj L i x hx j v hj)
 rwa [zl,Nat.zero_add] at this
def rowC (L:List Key) (m:Nat):List Key:=uniq (L.take m)++L.drop (uniq (L.take m)).length
theorem Kg {L:List Key} {m i:Nat} (hi:(uniq (L.take m)).length≤i):(rowC L m)[i]?=L[i]?:=by
 unfold rowC
 rw [List.getElem?_append_right hi,List.getElem?_drop]
 congr 1;omega
theorem zgC {L:List Key} {m:Nat} (h:(uniq (L.take m)).length≤L.length):(rowC L m).length=L.length:=by
 unfold rowC
 rw [List.length_append,List.length_drop];omega
theorem zfM {L:List Key} {m:Nat} (h:uniq (L.take (m+1))=uniq (L.take m)):rowC L (m+1)=rowC L m:=by unfold rowC;rw [h]
theorem zdq {L:List Key} {m:Nat} {x:Key} (hm:(uniq (L.take m)).length < L.length) (h:uniq (L.take (m+1))=uniq (L.take m)++[x]):rowC L (m+1)=(rowC L m).set (uniq (L.take m)).length x:=by
 unfold rowC
 rw [h,List.set_append_right _ _ (Nat.le_refl _),Nat.sub_self,List.drop_eq_getElem_cons hm,List.length_append,List.append_assoc]
 rfl
def zeroPl:Key:=⟨⟨#[]⟩,⟨#[]⟩,⟨#[]⟩,⟨#[]⟩,0⟩
def Compd (w:World) (g:Nat) (L:List Key) (en:Ending) (w':World):Prop:=∃ v,en=.returned v∧jM w' v (uniq L)∧w.grownBy w' (some g)
theorem ZM (w:World) (q:Nat) (g:Option Nat):w.grownBy (w.drewN q) g:=⟨rfl,rfl,rfl,Nat.le_refl _,fun _ _ _=>rfl⟩
set_option maxRecDepth 100000 in
set_option maxHeartbeats 8000000 in
theorem zfj (w:World) (B g n c:Nat) (L:List Key) (h:w.ownsRow B 91 3 (.slice (some ⟨g,0,none⟩) n c) n (flat encP L)) (hn:L.length=n) (hL:n≤1000) (hp:∀ k∈L,plc k=k) :
 Calls Tryz.prog 75 #[.slice (some ⟨g,0,none⟩) n c] w (Compd w g L):=by
 have hcap:n≤c∧c≤maxLen:=by
  rcases h.2 with ⟨e,_⟩ | ⟨g',c',cur,e,_,_,h1,h2,_⟩
  ·cases e
  ·cases e;exact ⟨h1,h2⟩
 obtain ⟨hnc,hcm⟩:=hcap
 unfold maxLen at hcm
 have HR0:=Lib.hid h
 have HN:=Lib.hid hn
 have heq:∀ (i j:Nat) (x y:Key),L[i]?=some x→L[j]?=some y→eqP x y=decide (x=y):=fun i j x y hx hy=>by
  rw [Z1,hp x (List.mem_of_getElem? hx),hp y (List.mem_of_getElem? hy)]
 have HEQ:=Lib.hid heq
 have HEV:Hid (jM w (.slice (some ⟨g,0,none⟩) n c) L):=Lib.hid (by
  have:=zq (E:=encP) (L:=L) (v:=.slice (some ⟨g,0,none⟩) n c) (by rw [hn];exact h)
  exact this)
 clear h hn hp heq
 by_cases h2:n < 2
 ·have HU:Hid (uniq L=L):=Lib.hid (by
   have e:=HN.out
   match L,e with
   | [],_=>rfl
   | [a],_=>rfl
   | a::b::r,e=>simp at e;omega)
  go_enter Tryz.func75,Tryz.ntmps75
  go_wp2
  go_ret
  exact ⟨_,rfl,by rw [HU.out];exact HEV.out,World.grownBy.refl w _⟩
 ·go_enter Tryz.func75,Tryz.ntmps75
  go_wp2
  go_loopw [3] (fun s3 wr=>∃ k q:Nat,1≤k∧k≤n∧s3=.int .i64 (k:Int)∧wr=w.drewN q∧Hid (uniq (L.take k)=L.take k)) (fun s3 _=>n - (intOf s3).toNat)
  case atStart=>exact ⟨1,0,Nat.le_refl _,by omega,rfl,rfl,Lib.hid (by
   have e:=HN.out
   match L,e with
   | [],e=>simp at e;omega
   | a::r,_=>rfl)⟩
  case round =>
   obtain ⟨k,q,hk1,hk,rfl,rfl,HK⟩:=hrel
   by_cases hlt:k < n
   ·obtain ⟨j,rfl⟩:∃ j,k=j+1:=⟨k - 1,by omega⟩
    obtain ⟨x,hx⟩:∃ x,L[j+1]?=some x:=⟨_,List.getElem?_eq_getElem (by rw [HN.out];exact hlt)⟩
    obtain ⟨y,hy⟩:∃ y,L[j]?=some y:=⟨_,List.getElem?_eq_getElem (by rw [HN.out];omega)⟩
    obtain ⟨x0,x1,x2⟩:=place3 (Zm HR0.out hx)
    obtain ⟨y0,y1,y2⟩:=place3 (Zm HR0.out hy)
    simp only [show encP.k=3 from rfl] at x0 x1 x2 y0 y1 y2
    have HST:=Lib.hid (KE hx hy)
    have hee:=HEQ.out _ _ _ _ hx hy
    have HX:=Lib.hid hx
    have HY:=Lib.hid hy
    have hq:∀ W,Sem.run Tryz.prog (binOp .eql 91 (aggP x) (aggP y)) W=.ok (.bool (decide (x=y))) W:=fun W=>by rw [Yl,hee]
    clear hee hx hy
    by_cases hxy:x=y
    ·subst hxy
     have hb:decide (x=x)=true:=decide_eq_true rfl
     rw [hb] at hq
     have HU2:Hid (uniq (L.take (j+1+1))=L.take (j+1)):=Lib.hid (by rw [HST.out,HK.out,if_pos rfl,List.append_nil])
     have HL2:Hid ((uniq (L.take (j+1+1))).length=j+1):=Lib.hid (by rw [HU2.out,List.length_take,HN.out];omega)
     have HRW:Hid (rowC L (j+1+1)=L):=Lib.hid (by unfold rowC;rw [HL2.out,HU2.out,List.take_append_drop])
     clear hb
     go_wp2_with fail
     go_big_quiet (fail)
     go_wp2
     clear hq x0 x1 x2 y0 y1 y2
     go_loopw [3,5] (fun s3 s5 wr=>∃ kk k2:Nat,s3=.int .i64 (kk:Int)∧s5=.int .i64 (k2:Int)∧1≤k2∧j+1+k2≤n∧kk < j+1+k2∧Hid ((uniq (L.take (j+1+k2))).length=kk)∧Hid (wr.ownsRow B 91 3 (.slice (some ⟨g,0,none⟩) n c) n (flat encP (rowC L (j+1+k2))))∧Hid (w.grownBy wr (some g))) (fun _ s5 _=>n - (intOf s5).toNat)
     case atStart=>exact ⟨j+1,1,rfl,rfl,Nat.le_refl _,by omega,by omega,HL2,Lib.hid (by rw [HRW.out];exact HR0.out),Lib.hid (ZM w _ _)⟩
     case round =>
      obtain ⟨kk,k2,rfl,rfl,hk2,hle,hkk,HLE,HRO,HGR⟩:=hrel
      by_cases hlt2:j+1+k2 < n
      ·obtain ⟨i2,rfl⟩:∃ i,k2=i+1:=⟨k2 - 1,by omega⟩
       obtain ⟨u,hu⟩:∃ u,L[j+1+(i2+1)]?=some u:=⟨_,List.getElem?_eq_getElem (by rw [HN.out];exact hlt2)⟩
       obtain ⟨v,hv⟩:∃ v,L[j+1+i2]?=some v:=⟨_,List.getElem?_eq_getElem (by rw [HN.out];omega)⟩
       obtain ⟨x0,x1,x2⟩:=place3 (Zm (E:=encP) HRO.out ((Kg (by rw [HLE.out];omega)).trans hu))
       obtain ⟨y0,y1,y2⟩:=place3 (Zm (E:=encP) HRO.out ((Kg (by rw [HLE.out];omega)).trans hv))
       have e1:(j+1+(i2+1)) * encP.k=(j+1) * 3+(i2+1) * 3:=by show (j+1+(i2+1)) * 3=_;omega
       have e2:(j+1+i2) * encP.k=(j+1) * 3+i2 * 3:=by show (j+1+i2) * 3=_;omega
       rw [e1] at x0 x1 x2
       rw [e2] at y0 y1 y2
       have HST2:=Lib.hid (KE (j:=j+1+i2) hu hv)
       have hee:=HEQ.out _ _ _ _ hu hv
       have hq:∀ W,Sem.run Tryz.prog (binOp .neq 91 (aggP u) (aggP v)) W=.ok (.bool (!decide (u=v))) W:=fun W=>by rw [zgp,hee]
       clear hee hu hv e1 e2
       by_cases huv:u=v
       ·have hb:decide (u=v)=true:=decide_eq_true huv
        rw [hb] at hq
        have HSA:Hid (rowC L (j+1+(i2+1)+1)=rowC L (j+1+(i2+1))):=Lib.hid (zfM (by rw [show j+1+(i2+1)=j+1+i2+1 from rfl,HST2.out,if_pos huv.symm,List.append_nil]))
        have HLA:Hid ((uniq (L.take (j+1+(i2+1)+1))).length=kk):=Lib.hid (by rw [←HLE.out,show j+1+(i2+1)=j+1+i2+1 from rfl,HST2.out,if_pos huv.symm,List.append_nil])
        clear huv hb
        go_wp2_with fail
        go_big_quiet (fail)
        go_wp2
        go_roundw
        case rel=>exact ⟨kk,i2+1+1,rfl,by go_num,by omega,by omega,by omega,HLA,Lib.hid (by rw [show j+1+(i2+1+1)=j+1+(i2+1)+1 from rfl,HSA.out];exact HRO.out),Lib.hid (HGR.out.trans (ZM _ _ _))⟩
        case measure=>simp [intOf];omega
       ·have hb:decide (u=v)=false:=decide_eq_false huv
        rw [hb] at hq
        have HUQ:Hid (uniq (L.take (j+1+(i2+1)+1))=uniq (L.take (j+1+(i2+1)))++[u]):=Lib.hid (by rw [show j+1+(i2+1)=j+1+i2+1 from rfl,HST2.out,if_neg fun e=>huv e.symm])
        have HSA:Hid (rowC L (j+1+(i2+1)+1)=(rowC L (j+1+(i2+1))).set kk u):=Lib.hid (by rw [←HLE.out];exact zdq (by rw [HLE.out,HN.out];omega) HUQ.out)
        have HLA:Hid ((uniq (L.take (j+1+(i2+1)+1))).length=kk+1):=Lib.hid (by rw [HUQ.out,List.length_append,HLE.out];rfl)
        have HRL:Hid ((rowC L (j+1+(i2+1))).length=n):=Lib.hid (by rw [←HN.out];exact zgC (by rw [HLE.out,HN.out];omega))
        clear huv hb
        go_wp2_with fail
        go_big_quiet (fail)
        have HRO2:Hid ((wr.drewN nq).ownsRow B 91 3 (.slice (some ⟨g,0,none⟩) n c) n (flat encP (rowC L (j+1+(i2+1))))):=HRO
        have HGR2:Hid (w.grownBy (wr.drewN nq) (some g)):=Lib.hid (HGR.out.trans (ZM _ _ _))
        have z0:(wr.drewN nq).cell? ⟨g,(j+1) * 3+(i2+1) * 3,none⟩=some (.string u.e):=x0
        have z1:(wr.drewN nq).cell? ⟨g,(j+1) * 3+(i2+1) * 3+1,none⟩=some (.string u.a):=x1
        have z2:(wr.drewN nq).cell? ⟨g,(j+1) * 3+(i2+1) * 3+2,none⟩=some (.string u.p):=x2
        clear x0 x1 x2 y0 y1 y2 hq HRO HGR
        generalize wr.drewN nq=wd at *
        go_wp2_with (refine zhs (E:=encP) rfl 91 (.tmp 51) (.tmp 50) rfl B g n c 91 (rowC L (j+1+(i2+1))) kk u rfl rfl HRO2.out HRL.out (by omega) (by kernel_rfl) ?_;intro w9 hr9 hg9)
        have HR9:=Lib.hid hr9
        have HG9:=Lib.hid hg9
        clear hr9 hg9 z0 z1 z2
        go_wp2
        go_roundw
        case rel=>exact ⟨kk+1,i2+1+1,by go_num,by go_num,by omega,by omega,by omega,HLA,Lib.hid (by rw [show j+1+(i2+1+1)=j+1+(i2+1)+1 from rfl,HSA.out];exact HR9.out),Lib.hid (HGR2.out.trans HG9.out)⟩
        case measure=>simp [intOf];omega
      ·have hend:j+1+k2=n:=by omega
       rw [hend] at HRO HLE hkk
       have hLt:L.take n=L:=List.take_of_length_le (by rw [HN.out];exact Nat.le_refl _)
       have HLE2:Hid ((uniq L).length=kk):=Lib.hid (by have:=HLE.out;rwa [hLt] at this)
       have HRO2:Hid (wr.ownsRow B 91 3 (.slice (some ⟨g,0,none⟩) n c) n (flat encP (uniq L++L.drop kk))):=Lib.hid (by
        have:=HRO.out
        unfold rowC at this
        rwa [HLE.out,hLt] at this)
       have hvl:(L.drop kk).length=n - kk:=by rw [List.length_drop,HN.out]
       obtain ⟨w9,hcl,hr9,hg9⟩:=ziX (P:=Tryz.prog) (E:=encP) (t:=108) (ty:=0) (z:=zeroPl) Tryz.underlying108 Tryz.zeroValue91 HRO2.out HLE2.out (by omega) (c - kk) hvl
       have HR9:=Lib.hid hr9
       have HG9:=Lib.hid (HGR.out.trans hg9)
       have hcl2:(Builtin.clear_ #[108] 0 #[.slice (some ⟨g,kk * 3,none⟩) (n - kk) (c - kk)]).run Tryz.prog wr=.ok (.tuple #[]) w9:=hcl
       clear hcl hr9 hg9 hvl hLt HRO HLE
       go_wp2
       go_ret
       refine ⟨_,rfl,?_,HG9.out⟩
       have hv:=zq (E:=encP) (L:=uniq L++List.replicate (n - kk) zeroPl) (v:=.slice (some ⟨g,0,none⟩) n c) (by
        have e0:(uniq L++List.replicate (n - kk) zeroPl).length=n:=by rw [List.length_append,HLE2.out,List.length_replicate];omega
        rw [e0];exact HR9.out)
       have:=zc8 hv
       rw [HLE2.out] at this
       exact this
    ·have hb:decide (x=y)=false:=decide_eq_false hxy
     have HNE:=Lib.hid hxy
     rw [hb] at hq
     clear hxy hb
     go_wp2_with fail
     go_big_quiet (fail)
     go_wp2
     go_roundw
     case rel=>exact ⟨j+1+1,q+nq,by omega,by omega,by go_num,rfl,Lib.hid (by
      rw [HST.out,HK.out,if_neg (fun e=>HNE.out e.symm),List.take_add_one (i:=j+1),HX.out];rfl)⟩
     case measure=>simp [intOf];omega
   ·obtain rfl:k=n:=by omega
    have HU:Hid (uniq L=L):=Lib.hid (by
     have:=HK.out
     rwa [List.take_of_length_le (by rw [HN.out];exact Nat.le_refl _)] at this)
    go_wp2
    go_ret
    exact ⟨_,rfl,by rw [HU.out];exact HEV.out,ZM w q _⟩
set_option maxHeartbeats 1000000 in
theorem zi9 (p:Option Addr) (c:Nat) (w:World):Calls Tryz.prog 75 #[.slice p 0 c] w fun e w'=>e=.returned (.slice p 0 c)∧w'=w:=by
 go_enter Tryz.func75,Tryz.ntmps75
 go_wp2
 go_ret
 exact ⟨rfl,rfl⟩
end Go.Proofs.YtdhfpgjnjlcciaaGreatDoor.Co
end
