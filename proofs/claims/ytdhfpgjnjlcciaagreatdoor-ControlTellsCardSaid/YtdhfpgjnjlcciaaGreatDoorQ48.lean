/- Els CentAdd ElsOpen FaOpen CoDoc FaOurs FdRight -/
import Derived.Test.YtdhfpgjnjlcciaaGreatDoorQ36
import Derived.Test.YtdhfpgjnjlcciaaGreatDoorQ40
section
namespace Go.Proofs.YtdhfpgjnjlcciaaGreatDoor
open Go.RowKit
section
variable {α:Type} {E:Enc α}
theorem ElsV.map {β:Type} {F:Enc β} {w:World} {v:Value} {L:List α} (f:α→β) (hk:F.k=E.k) (hf:∀ a,F.cs (f a)=E.cs a) (h:ElsV E w v L):ElsV F w v (L.map f):=by
 obtain ⟨p,c,e,h1,h2,h3,hc⟩:=h
 refine ⟨p,c,by simpa using e,by simpa using h1,h2,h3,fun i y hy=>?_⟩
 rw [List.getElem?_map] at hy
 cases hx:L[i]? with
 | none=>rw [hx] at hy;cases hy
 | some x =>
   rw [hx] at hy
   cases hy
   obtain ⟨b,o,e',hat⟩:=hc i x hx
   exact ⟨b,o,e',fun j v hj=>by rw [hk];exact hat j v (by rw [←hf];exact hj)⟩
end
end Go.Proofs.YtdhfpgjnjlcciaaGreatDoor
end
section
namespace Go.Proofs.YtdhfpgjnjlcciaaGreatDoor
open Go.RowKit
set_option maxHeartbeats 400000 in
theorem YB (a b:Int) (w:World) (ha:In64 a) (hb:In64 b) :
 Calls Tryz.prog 39 #[.int .i64 a,.int .i64 b] w fun e w'=>e=.returned (.tuple #[.int .i64 (addCV a b),.int .i64 (addCE a b)])∧w=w':=by
 obtain ⟨a1,a2⟩:=ha
 obtain ⟨b1,b2⟩:=hb
 cases hf:fit (a+b) with
 | true =>
   rw [yl hf,yL hf]
   obtain ⟨s1,s2⟩:=(qz _).1 hf
   clear hf
   go_enter Tryz.func39,Tryz.ntmps39
   go_wp2
   all_goals
    go_ret2
    exact ⟨rfl,rfl⟩
 | false =>
   rw [yI hf,yQ hf]
   rcases (Z0 _).1 hf with h | h
   ·obtain ⟨h1,h2⟩:=V9 a1 b1 h
    clear hf
    go_enter Tryz.func39,Tryz.ntmps39
    go_wp2
    all_goals
     go_ret2
     exact ⟨rfl,rfl⟩
   ·obtain ⟨h1,h2⟩:=KS a2 b2 h
    clear hf
    go_enter Tryz.func39,Tryz.ntmps39
    go_wp2
    all_goals
     go_ret2
     exact ⟨rfl,rfl⟩
set_option maxHeartbeats 400000 in
theorem QK (a b:Int) (w:World) (ha:In64 a) (hb:In64 b) :
 Calls Tryz.prog 38 #[.int .i64 a,.int .i64 b] w fun e w'=>e=.returned (.tuple #[.int .i64 (subV a b),.int .i64 (subE a b)])∧w=w':=by
 obtain ⟨a1,a2⟩:=ha
 obtain ⟨b1,b2⟩:=hb
 cases hf:fit (a - b) with
 | true =>
   rw [kF hf,yX hf]
   obtain ⟨s1,s2⟩:=(qz _).1 hf
   clear hf
   go_enter Tryz.func38,Tryz.ntmps38
   go_wp2
   all_goals
    go_ret2
    exact ⟨rfl,rfl⟩
 | false =>
   rw [kI hf,yV hf]
   rcases (Z0 _).1 hf with h | h
   ·obtain ⟨h1,h2⟩:=Vv a1 b2 h
    clear hf
    go_enter Tryz.func38,Tryz.ntmps38
    go_wp2
    all_goals
     go_ret2
     exact ⟨rfl,rfl⟩
   ·obtain ⟨h1,h2⟩:=Xq a2 b1 h
    clear hf
    go_enter Tryz.func38,Tryz.ntmps38
    go_wp2
    all_goals
     go_ret2
     exact ⟨rfl,rfl⟩
end Go.Proofs.YtdhfpgjnjlcciaaGreatDoor
end
section
namespace Go.Proofs.YtdhfpgjnjlcciaaGreatDoor
open Go.ChangeShapes Go.WideShapes Go.ChangeAt Go.RowKit Go.Deep
section
variable {H:Type} {enc:TypeId × Value→H} {P:Program} {W:World} {base:Nat} {sp:Nat→Bool} {held:Bool}
theorem zgV {α:Type} {E:Enc α} {t e:TypeId} {a:Option Addr} {n c:Nat} {d:DataW H} {p:List MemPlace} (z:α) (ht:P.underlying t=some (.slice e)) (hC:P.cellsOf e=E.k)
 (hcells:∀ fuel cs x,DataW.trod enc P W base sp held fuel e cs=some x→∃ a:α,cs=E.cs a)
 (h:DataW.Trod enc P W base sp held t (.slice a n c) d p):∃ L,ElsV E W (.slice a n c) L:=by
 obtain ⟨fuel,hf⟩:=h
 rcases Go.Deep.open_slice ht hf with ⟨hcs,_⟩ | ⟨ad,len,cap,m,k,D,Pl,hcs,_,hl,hm,hmm,_,hi⟩
 ·simp [Value.cells] at hcs
  obtain ⟨rfl,rfl,rfl⟩:=hcs
  exact ⟨[],ElsV.nil W⟩
 ·simp [Value.cells] at hcs
  obtain ⟨rfl,rfl,rfl⟩:=hcs
  have hlm:n≤m:=by rw [hmm];split <;> omega
  clear hmm
  rw [hC] at hi
  have each:∀ i,i < n→∃ x:α,∀ j v,(E.cs x)[j]?=some v→W.cell? ((ad.add (i * E.k)).add j)=some v:=fun i hin=>by
   obtain ⟨cs',hcc,ht'⟩:=hi i (by omega)
   obtain ⟨x,hx⟩:=hcells _ _ _ ht'
   obtain ⟨_,hlen,hat⟩:=World.cells?_some hcc
   refine ⟨x,fun j v hj=>?_⟩
   have hjk:j < E.k:=by rw [←E.len x];exact (List.getElem?_eq_some_iff.1 hj).1
   rw [hat j hjk,hx,hj]
  haveI:Inhabited α:=⟨z⟩
  obtain ⟨F,hF⟩:=Go.Deep.choose_lt each
  refine ⟨(List.range n).map F,some ad,c,by simp,by simpa using hl,hm,(fun e=>by cases e),fun i x hx=>?_⟩
  have hin:i < n:=by
   have:=(List.getElem?_eq_some_iff.1 hx).1
   simpa using this
  have hx':x=F i:=by
   rw [List.getElem?_map,List.getElem?_range hin] at hx
   simpa using hx.symm
  subst hx'
  have h0:=hF i hin
  obtain ⟨b,o,s⟩:=ad
  have hs:s=none:=by
   have hp:0 < (E.cs (F 0)).length:=by rw [E.len];exact E.pos
   have h00:=World.cell?_spot (hF 0 (by omega) 0 _ (List.getElem?_eq_getElem hp))
   simpa [Addr.add] using h00
  subst hs
  exact ⟨b,o,rfl,fun j v hj=>by have:=h0 j v hj;rwa [zl,zl] at this⟩
end
end Go.Proofs.YtdhfpgjnjlcciaaGreatDoor
end
section
namespace Go.Proofs.YtdhfpgjnjlcciaaGreatDoor.Fa
open Go.ChangeShapes Go.WideShapes Go.ChangeAt Go.RowKit Go.Deep
set_option maxRecDepth 100000
def encF2:Enc { f:Fact // In64 f.key.m∧In64 f.amt } where
 cs f:=encF.cs f.1
 k:=6
 len f:=encF.len f.1
 pos:=by decide
 one f:=encF.one f.1
section
variable {H:Type} {enc:TypeId × Value→H} {W:World} {base:Nat} {sp:Nat→Bool} {held:Bool}
theorem zg6 (fuel:Nat) (cs:List Value) (x:DataW H × List MemPlace) (h:DataW.trod enc Tryz.prog W base sp held fuel 44 cs=some x):∃ a:{ f:Fact // In64 f.key.m∧In64 f.amt },cs=encF2.cs a:=by
 obtain ⟨xs,n,_,_,hl,hxl,hg⟩:=DataW.trod_struct Tryz.underlying44 h
 have hC:Tryz.prog.cellsOf 44=6:=by kernel_rfl
 have cK:Tryz.prog.cellsOf 24=5:=by kernel_rfl
 have cI:Tryz.prog.cellsOf 2=1:=by kernel_rfl
 match cs,hl.trans hC,xs,hxl with
 | [c0,c1,c2,c3,c4,c5],_,[y0,y1],_ =>
   have g0:=hg 0 _ rfl
   have g1:=hg 1 _ rfl
   simp [cK,cI] at g0 g1
   obtain ⟨k,hk⟩:=YS _ _ _ g0
   obtain ⟨i5,e5,_,z5⟩:=DataW.trod_int Tryz.underlying2 g1
   simp at e5
   subst e5
   have hk':[c0,c1,c2,c3,c4]=[Value.string k.1.e,.string k.1.a,.string k.1.f,.string k.1.p,.int .i64 k.1.m]:=hk
   simp only [List.cons.injEq,and_true] at hk'
   obtain ⟨rfl,rfl,rfl,rfl,rfl⟩:=hk'
   exact ⟨⟨⟨k.1,i5⟩,k.2,JH z5⟩,rfl⟩
theorem zaX {a:Option Addr} {n c:Nat} {d:DataW H} {p:List MemPlace} (h:DataW.Trod enc Tryz.prog W base sp held 22 (.slice a n c) d p):∃ L,FactsV W (.slice a n c) L∧∀ f∈L,In64 f.key.m∧In64 f.amt:=by
 obtain ⟨L,hL⟩:=zgV (E:=encF2) ⟨⟨⟨⟨#[]⟩,⟨#[]⟩,⟨#[]⟩,⟨#[]⟩,0⟩,0⟩,⟨by decide,by decide⟩,⟨by decide,by decide⟩⟩ Tryz.underlying22 (by kernel_rfl) zg6 h
 refine ⟨L.map Subtype.val,hL.map (F:=encF) Subtype.val rfl (fun _=>rfl),fun f hf=>?_⟩
 obtain ⟨x,_,rfl⟩:=List.mem_map.1 hf
 exact x.2
end
end Go.Proofs.YtdhfpgjnjlcciaaGreatDoor.Fa
end
section
namespace Go.Proofs.YtdhfpgjnjlcciaaGreatDoor.Co
open Go.RowKit Go.Proofs.YtdhfpgjnjlcciaaGreatDoor.Un Go.Proofs.YtdhfpgjnjlcciaaGreatDoor.Fa Go.Proofs.YtdhfpgjnjlcciaaGreatDoor.Pk
theorem zeL (a b:Key) (w:World):Sem.run Tryz.prog (binOp .neq 53 (aggP a) (aggP b)) w=.ok (.bool (!eqP a b)) w:=by
 simp only [binOp,Op.equal,Op.maxDepth]
 simp [Xz a b w]
set_option maxRecDepth 100000 in
set_option maxHeartbeats 8000000 in
theorem X5 (c f e l:Value) (M:Mast) (x:Fact) (w:World) (h:MastIn w c f e l M) :
 Calls Tryz.prog 36 #[aggM c f e l M,Fa.aggF x] w fun en w'=>en=.returned (.tuple #[.int .i64 (kindF M x.key.f),.int .i64 (clsF M x.key.a),.bool (cnt M x.key)])∧Below w.heap.size w w':=by
 obtain ⟨pc,cc,pf,cf,pe,ce,pl,cl,rfl,rfl,rfl,rfl⟩:=shapes h
 have hb1:=(Below.refl w.heap.size w).alloc (Nat.le_refl _) (.cells (cellsM (.slice pc M.chart.length cc) (.slice pf M.flows.length cf) (.slice pe M.ents.length ce) (.slice pl M.lines.length cl) M) 39)
 have hn1:=zM w (.slice pc M.chart.length cc) (.slice pf M.flows.length cf) (.slice pe M.ents.length ce) (.slice pl M.lines.length cl) M 39
 obtain ⟨W1,hW1⟩:∃ W1,w.alloc (.cells (cellsM (.slice pc M.chart.length cc) (.slice pf M.flows.length cf) (.slice pe M.ents.length ce) (.slice pl M.lines.length cl) M) 39)=W1:=⟨_,rfl⟩
 rw [hW1] at hb1 hn1
 have hb2:=(Below.refl W1.heap.size W1).alloc (Nat.le_refl _) (.cells (fCells x) 44)
 obtain ⟨W2,hW2⟩:∃ W2,W1.alloc (.cells (fCells x) 44)=W2:=⟨_,rfl⟩
 have hx2:ElAt encF W2 W1.heap.size 0 x:=by rw [←hW2];exact zf encF W1 x _
 rw [hW2] at hb2
 have hb02:Below w.heap.size w W2:=hb1.trans (hb2.mono hb1.size)
 have HB2:=Lib.hid hb02
 have HM2:=Lib.hid (h.keep hb02)
 have HN2:=Lib.hid (hn1.kept hb2)
 have HX2:=Lib.hid hx2
 have HCF:=Lib.hid (fun W h=>Qg (.slice pc M.chart.length cc) M.chart x.key.a W h)
 have HFK:=Lib.hid (fun W h=>Jf (.slice pf M.flows.length cf) M.flows x.key.f W h)
 obtain ⟨A,hA⟩:∃ A,findV (findL M.chart x.key.a)=A:=⟨_,rfl⟩
 obtain ⟨AI,hAI⟩:∃ I,(findL M.chart x.key.a).isSome=I:=⟨_,rfl⟩
 obtain ⟨K,hK⟩:∃ K,kindO' (Fl.findF M.flows x.key.f)=K:=⟨_,rfl⟩
 obtain ⟨FI,hFI⟩:∃ I,(Fl.findF M.flows x.key.f).isSome=I:=⟨_,rfl⟩
 simp only [hA,hAI] at HCF
 simp only [hK,hFI] at HFK
 have HCN:Hid (cnt M x.key=(AI && FI)):=Lib.hid (by
  unfold cnt hasA hasFl
  rw [hAI,hFI])
 have HCL:Hid (clsF M x.key.a=A.cls):=Lib.hid (by unfold clsF;rw [←hA];rfl)
 have HKF:Hid (kindF M x.key.f=K):=Lib.hid (by rw [←hK];unfold kindF kindO';cases Fl.findF M.flows x.key.f <;> rfl)
 rw [HCN.out,HCL.out,HKF.out]
 clear hA hAI hK hFI hb1 hb2 hb02 h hn1 hx2 HCN HCL HKF
 obtain ⟨k0,k1,k2,k3,k4,k5,k6,k7,k8⟩:=HN2.out
 obtain ⟨f0,f1,f2,f3,f4,f5⟩:=fact6 HX2.out
 simp only [Nat.zero_add] at f0 f1 f2 f3 f4 f5
 go_enter Tryz.func36,Tryz.ntmps36
 go_wp2_with fail
 clear k0 k1 k2 k3 k4 k5 k6 k7 k8 f0 f1 f2 f3 f4 f5 hW1 hW2
 refine (HFK.out _ HM2.out.flows).mono ?_
 rintro en w4 ⟨rfl,hb4⟩
 have HB4:=Lib.hid (HB2.out.trans (hb4.mono HB2.out.size))
 have HM4:=Lib.hid (HM2.out.keep hb4)
 have HN4:=Lib.hid (HN2.out.kept hb4)
 have HX4:=Lib.hid (HX2.out.keep hb4 HX2.out.lt)
 clear hb4 HB2 HM2 HN2 HX2 HFK
 obtain ⟨k0,k1,k2,k3,k4,k5,k6,k7,k8⟩:=HN4.out
 obtain ⟨f0,f1,f2,f3,f4,f5⟩:=fact6 HX4.out
 simp only [Nat.zero_add] at f0 f1 f2 f3 f4 f5
 go_wp2_with fail
 clear k0 k1 k2 k3 k4 k5 k6 k7 k8 f0 f1 f2 f3 f4 f5
 refine (HCF.out _ HM4.out.chart).mono ?_
 rintro en w5 ⟨rfl,hb5⟩
 have hb6:=hb5.alloc hb5.size (.cells #[.string A.code,.int .i64 A.cls,.bool A.cash,.bool A.both,.string A.fixed,.bool A.worn] 151)
 have HB6:=Lib.hid (HB4.out.trans (hb6.mono HB4.out.size))
 have HA6:=Lib.hid (BoxA.new w5 A 151)
 clear hb5 hb6 HB4 HM4 HN4 HX4 HCF
 obtain ⟨z0,z1,z2,z3,z4,z5⟩:=HA6.out.facts
 cases FI with
 | false =>
   go_wp2_with fail
   go_big_quiet (fail)
   have HB7:Hid (Below w.heap.size w ((w5.alloc (.cells #[.string A.code,.int .i64 A.cls,.bool A.cash,.bool A.both,.string A.fixed,.bool A.worn] 151)).drewN nq)):=Lib.hid (belowN HB6.out nq)
   go_wp2
   exact bodyPost_ret (v:=.tuple #[.int .i64 K,.int .i64 A.cls,.bool (AI && false)]) (by simp [results,Tryz.results36,go_sem]) rfl ⟨rfl,HB7.out⟩
 | true =>
   go_wp2_with fail
   go_big_quiet (fail)
   have HB7:Hid (Below w.heap.size w ((w5.alloc (.cells #[.string A.code,.int .i64 A.cls,.bool A.cash,.bool A.both,.string A.fixed,.bool A.worn] 151)).drewN nq)):=Lib.hid (belowN HB6.out nq)
   go_wp2
   exact bodyPost_ret (v:=.tuple #[.int .i64 K,.int .i64 A.cls,.bool (AI && true)]) (by simp [results,Tryz.results36,go_sem]) rfl ⟨rfl,HB7.out⟩
theorem QV (M:Mast) (x:Fact) (r:List Fact) (p:Key):gapL M (x::r) p=if inGap M p x.key=true then (decide (kindF M x.key.f=4),x.amt)::gapL M r p else gapL M r p:=by
 unfold gapL
 rw [List.filter_cons]
 split <;> rfl
theorem v7 (M:Mast) (x:Fact) (r:List Fact) (e:ByteArray) (n:Int):weighL M (x::r) e n=if ql M e n x.key=true then (decide (clsF M x.key.a=0),x.amt)::weighL M r e n else weighL M r e n:=by
 unfold weighL
 rw [List.filter_cons]
 split <;> rfl
set_option maxRecDepth 100000 in
set_option maxHeartbeats 8000000 in
theorem zbv (c f e l vc:Value) (M:Mast) (L:List Fact) (p:Key) (w:World) (hM:MastIn w c f e l M) (hV:FactsV w vc L) (hL:L.length≤1000) (hz:∀ x∈L,In64 x.amt) (hp:plc p=p) :
 Calls Tryz.prog 15 #[aggM c f e l M,vc,aggP p] w fun en w'=>en=.returned (.tuple #[.int .i64 (gapP M L p).1,.int .i64 (gapP M L p).2])∧Below w.heap.size w w':=by
 obtain ⟨pv,cp,rfl,hcap,hmx,_,hcl⟩:=id hV
 obtain ⟨n,hn⟩:∃ n,L.length=n:=⟨_,rfl⟩
 obtain ⟨pc,cc,pf,cf,pe,ce,pl,cl,rfl,rfl,rfl,rfl⟩:=shapes hM
 obtain ⟨W1,hW1⟩:∃ W1,w.alloc (.cells (cellsM (.slice pc M.chart.length cc) (.slice pf M.flows.length cf) (.slice pe M.ents.length ce) (.slice pl M.lines.length cl) M) 39)=W1:=⟨_,rfl⟩
 have hb1:Below w.heap.size w W1:=by rw [←hW1];exact (Below.refl _ w).alloc (Nat.le_refl _) _
 have hn1:NineAt W1 w.heap.size (.slice pc M.chart.length cc) (.slice pf M.flows.length cf) (.slice pe M.ents.length ce) (.slice pl M.lines.length cl) M:=by rw [←hW1];exact zM w _ _ _ _ M _
 obtain ⟨W2,hW2⟩:∃ W2,W1.alloc (.cells #[.string p.e,.string p.a,.string p.p] 53)=W2:=⟨_,rfl⟩
 have hb12:Below W1.heap.size W1 W2:=by rw [←hW2];exact (Below.refl _ W1).alloc (Nat.le_refl _) _
 have hp2:ElAt encP W2 W1.heap.size 0 p:=by rw [←hW2];exact zf encP W1 p _
 have hb2:=hb1.trans (hb12.mono hb1.size)
 have HB2:=Lib.hid hb2
 have HN2:=Lib.hid (hn1.kept hb12)
 have HP2:=Lib.hid hp2
 have HM2:=Lib.hid (hM.keep hb2)
 have HZ:=Lib.hid hz
 have HNN:=Lib.hid hn
 have HPL:=Lib.hid hp
 have HV2:=Lib.hid (hV.keep hb2)
 obtain ⟨R,hR⟩:∃ R,gapP M L p=R:=⟨_,rfl⟩
 have HR0:Hid (walkS 0 (gapL M L p)=R):=Lib.hid hR
 rw [hR,hn]
 rw [hn] at hcap hL HV2
 unfold maxLen at hmx
 clear hR hz hp hM hV hcl hb1 hn1 hb12 hp2 hb2 hn
 go_enter Tryz.func15,Tryz.ntmps15
 go_wp2_with fail
 clear hW1 hW2
 go_loopw [8,9] (fun s8 s9 wr=>∃ (i:Nat) (s:Int),s9=.int .i64 (i:Int)∧s8=.int .i64 s∧i≤n∧Hid (In64 s)∧Hid (walkS s (gapL M (L.drop i) p)=R)∧Hid (Below W2.heap.size W2 wr)) (fun _ s9 _=>n - (intOf s9).toNat)
 case atStart=>exact ⟨0,0,rfl,rfl,Nat.zero_le _,Lib.hid ⟨by decide,by decide⟩,HR0,Lib.hid (Below.refl _ _)⟩
 case round =>
  obtain ⟨i,s,rfl,rfl,hi,HSI,HWS,HBR⟩:=hrel
  by_cases hlt:i < n
  ·obtain ⟨x,hx⟩:∃ x,L[i]?=some x:=⟨_,List.getElem?_eq_getElem (by rw [HNN.out];exact hlt)⟩
   have HDR:=Lib.hid (JJ hx)
   have HIX:Hid (In64 x.amt):=Lib.hid (HZ.out x (List.mem_of_getElem? hx))
   obtain ⟨b,o,e',hat⟩:=ElsV.at_ HV2.out hx
   cases e'
   have HXA:=Lib.hid (hat.keep HBR.out hat.lt)
   obtain ⟨f0,f1,f2,f3,f4,f5⟩:=fact6 HXA.out
   simp only [show encF.k=6 from rfl] at f0 f1 f2 f3 f4 f5
   have HN3:=Lib.hid (HN2.out.kept HBR.out)
   obtain ⟨k0,k1,k2,k3,k4,k5,k6,k7,k8⟩:=HN3.out
   have r0:=fun q:Past wr=>za f0 q
   have r1:=fun q:Past wr=>za f1 q
   have r2:=fun q:Past wr=>za f2 q
   have r3:=fun q:Past wr=>za f3 q
   have r4:=fun q:Past wr=>za f4 q
   have r5:=fun q:Past wr=>za f5 q
   have s0:=fun q:Past wr=>za k0 q
   have s1:=fun q:Past wr=>za k1 q
   have s2:=fun q:Past wr=>za k2 q
   have s3:=fun q:Past wr=>za k3 q
   have s4:=fun q:Past wr=>za k4 q
   have s5:=fun q:Past wr=>za k5 q
   have s6:=fun q:Past wr=>za k6 q
   have s7:=fun q:Past wr=>za k7 q
   have s8:=fun q:Past wr=>za k8 q
   have HCT:Hid (∀ q:Past wr,Calls Tryz.prog 36 #[aggM (.slice pc M.chart.length cc) (.slice pf M.flows.length cf) (.slice pe M.ents.length ce) (.slice pl M.lines.length cl) M,Fa.aggF x] q.goal fun en w'=>en=.returned (.tuple #[.int .i64 (kindF M x.key.f),.int .i64 (clsF M x.key.a),.bool (cnt M x.key)])∧Below q.goal.heap.size q.goal w'):=Lib.hid fun q=>X5 _ _ _ _ M x q.goal (HM2.out.keep (HBR.out.trans (q.below.mono HBR.out.size)))
   obtain ⟨kn,hkn⟩:∃ kn,kindF M x.key.f=kn:=⟨_,rfl⟩
   obtain ⟨cn,hcn⟩:∃ cn,clsF M x.key.a=cn:=⟨_,rfl⟩
   obtain ⟨is,his⟩:∃ is,cnt M x.key=is:=⟨_,rfl⟩
   rw [hkn,hcn,his] at HCT
   have HKN:=Lib.hid hkn
   have HIS:=Lib.hid his
   clear hx hat f0 f1 f2 f3 f4 f5 k0 k1 k2 k3 k4 k5 k6 k7 k8 hkn hcn his
   go_wp2_with fail
   refine zS (by kernel_rfl) (by kernel_rfl) ?_
   repeat (go_big_quiet_step (first | (go_at_call 36;exact Calls.qi (HCT.out _)) | fail))
   refine wpQuiet_nil ?_
   intro w5 hw'
   obtain ⟨⟨w5',hb5⟩,rfl⟩:=hw'
   have HB5:=Lib.hid (HBR.out.trans (hb5.mono HBR.out.size))
   have HXA5:=Lib.hid (HXA.out.keep hb5 HXA.out.lt)
   have HP5:=Lib.hid (HP2.out.keep HB5.out HP2.out.lt)
   clear hb5 HCT r0 r1 r2 r3 r4 r5 s0 s1 s2 s3 s4 s5 s6 s7 s8 HXA HN3
   cases is with
   | false =>
     have HWS2:Hid (walkS s (gapL M (L.drop (i+1)) p)=R):=Lib.hid (by
      have:=HWS.out
      rwa [HDR.out,QV,if_neg (by unfold inGap;rw [HIS.out];simp)] at this)
     go_wp2_with fail
     go_big_quiet (fail)
     have HB6:Hid (Below W2.heap.size W2 (w5.drewN nq)):=Lib.hid (belowN HB5.out nq)
     go_wp2
     go_roundw
     case rel=>exact ⟨i+1,s,by go_num,rfl,by omega,HSI,HWS2,HB6⟩
     case measure=>simp [intOf];omega
   | true =>
     obtain ⟨f0,f1,f2,f3,f4,f5⟩:=fact6 HXA5.out
     simp only [show encF.k=6 from rfl] at f0 f1 f2 f3 f4 f5
     obtain ⟨p0,p1,p2⟩:=place3 HP5.out
     simp only [Nat.zero_add] at p0 p1 p2
     have r0:=fun q:Past w5=>za f0 q
     have r1:=fun q:Past w5=>za f1 q
     have r2:=fun q:Past w5=>za f2 q
     have r3:=fun q:Past w5=>za f3 q
     have r4:=fun q:Past w5=>za f4 q
     have r5:=fun q:Past w5=>za f5 q
     have s0:=fun q:Past w5=>za p0 q
     have s1:=fun q:Past w5=>za p1 q
     have s2:=fun q:Past w5=>za p2 q
     obtain ⟨eq,heq⟩:∃ eq,eqP x.key p=eq:=⟨_,rfl⟩
     have hq:∀ W,Sem.run Tryz.prog (binOp .neq 53 (aggP x.key) (aggP p)) W=.ok (.bool (!eq)) W:=fun W=>by rw [zeL,heq]
     have HIG:Hid (inGap M p x.key=eq):=Lib.hid (by unfold inGap;rw [HIS.out,Bool.true_and,←heq,Z1,HPL.out])
     clear f0 f1 f2 f3 f4 f5 p0 p1 p2 heq
     go_wp2_with fail
     refine zS (by kernel_rfl) (by kernel_rfl) ?_
     repeat (go_big_quiet_step (first | (go_at_call 37;exact Calls.qi (jX _ _)) | fail))
     refine wpQuiet_nil ?_
     intro w6 hw'
     obtain ⟨⟨w6',hb6⟩,rfl⟩:=hw'
     have HB6:=Lib.hid (HB5.out.trans (hb6.mono HB5.out.size))
     have HXA6:=Lib.hid (HXA5.out.keep hb6 HXA5.out.lt)
     have HBF:=Lib.hid (HB2.out.trans (HB6.out.mono HB2.out.size))
     clear hb6 r0 r1 r2 r3 r4 r5 s0 s1 s2 hq HXA5 HP5
     cases eq with
     | false =>
       have HWS2:Hid (walkS s (gapL M (L.drop (i+1)) p)=R):=Lib.hid (by
        have:=HWS.out
        rwa [HDR.out,QV,if_neg (by rw [HIG.out];simp)] at this)
       go_wp2
       go_roundw
       case rel=>exact ⟨i+1,s,by go_num,rfl,by omega,HSI,HWS2,HB6⟩
       case measure=>simp [intOf];omega
     | true =>
       have HWS2:Hid (walkS s ((decide (kn=4),x.amt)::gapL M (L.drop (i+1)) p)=R):=Lib.hid (by
        have:=HWS.out
        rwa [HDR.out,QV,if_pos HIG.out,HKN.out] at this)
       clear HWS
       obtain ⟨_,_,_,_,_,f5⟩:=fact6 HXA6.out
       simp only [show encF.k=6 from rfl] at f5
       have HSB:=Lib.hid (QK s x.amt w6 HSI.out HIX.out)
       have HAD:=Lib.hid (YB s x.amt w6 HSI.out HIX.out)
       by_cases h4:kn=4
       ·have HWS3:Hid (walkS s ((true,x.amt)::gapL M (L.drop (i+1)) p)=R):=Lib.hid (by
         have:=HWS2.out
         rwa [decide_eq_true h4] at this)
        have h41:(kn==4)=true:=by simpa using h4
        clear h4 HWS2
        cases hf:fit (s+x.amt) with
        | true =>
          have HF:=Lib.hid hf
          have HWS4:Hid (walkS (s+x.amt) (gapL M (L.drop (i+1)) p)=R):=Lib.hid (by rw [←HWS3.out,qW (s:=true) _ hf];rfl)
          obtain ⟨s2,hs2⟩:∃ s2,s+x.amt=s2:=⟨_,rfl⟩
          have HIN2:Hid (In64 s2):=Lib.hid (by rw [←hs2];exact jo hf)
          rw [yl hf,yL hf,hs2] at HAD
          rw [hs2] at HWS4
          obtain ⟨sv,hsv⟩:∃ sv,subV s x.amt=sv:=⟨_,rfl⟩
          obtain ⟨se,hse⟩:∃ se,subE s x.amt=se:=⟨_,rfl⟩
          rw [hsv,hse] at HSB
          clear hf hs2 hsv hse HF
          go_wp2_with (first
           | (go_at_call 38;refine HSB.out.mono ?_;rintro en w' ⟨rfl,rfl⟩)
           | (go_at_call 39;refine HAD.out.mono ?_;rintro en w' ⟨rfl,rfl⟩)
           | fail)
          go_roundw
          case rel=>exact ⟨i+1,s2,by go_num,rfl,by omega,HIN2,HWS4,HB6⟩
          case measure=>simp [intOf];omega
        | false =>
          have HRE:Hid (R=(0,2)):=Lib.hid (by rw [←HWS3.out];exact jq (s:=true) _ hf)
          rw [yI hf,yQ hf] at HAD
          obtain ⟨sv,hsv⟩:∃ sv,subV s x.amt=sv:=⟨_,rfl⟩
          obtain ⟨se,hse⟩:∃ se,subE s x.amt=se:=⟨_,rfl⟩
          rw [hsv,hse] at HSB
          clear hf hsv hse
          go_wp2_with (first
           | (go_at_call 38;refine HSB.out.mono ?_;rintro en w' ⟨rfl,rfl⟩)
           | (go_at_call 39;refine HAD.out.mono ?_;rintro en w' ⟨rfl,rfl⟩)
           | fail)
          go_ret2
          exact ⟨by rw [HRE.out];rfl,HBF.out⟩
       ·have HWS3:Hid (walkS s ((false,x.amt)::gapL M (L.drop (i+1)) p)=R):=Lib.hid (by
         have:=HWS2.out
         rwa [decide_eq_false h4] at this)
        have h41:(kn==4)=false:=by simpa using h4
        clear h4 HWS2
        cases hf:fit (s - x.amt) with
        | true =>
          have HF:=Lib.hid hf
          have HWS4:Hid (walkS (s - x.amt) (gapL M (L.drop (i+1)) p)=R):=Lib.hid (by rw [←HWS3.out,qW (s:=false) _ hf];rfl)
          obtain ⟨s2,hs2⟩:∃ s2,s - x.amt=s2:=⟨_,rfl⟩
          have HIN2:Hid (In64 s2):=Lib.hid (by rw [←hs2];exact jo hf)
          rw [kF hf,yX hf,hs2] at HSB
          rw [hs2] at HWS4
          obtain ⟨sv,hsv⟩:∃ sv,subV s x.amt=sv:=⟨_,rfl⟩
          obtain ⟨se,hse⟩:∃ se,subE s x.amt=se:=⟨_,rfl⟩
          clear hf hs2 hsv hse HF
          go_wp2_with (first
           | (go_at_call 38;refine HSB.out.mono ?_;rintro en w' ⟨rfl,rfl⟩)
           | (go_at_call 39;refine HAD.out.mono ?_;rintro en w' ⟨rfl,rfl⟩)
           | fail)
          go_roundw
          case rel=>exact ⟨i+1,s2,by go_num,rfl,by omega,HIN2,HWS4,HB6⟩
          case measure=>simp [intOf];omega
        | false =>
          have HRE:Hid (R=(0,2)):=Lib.hid (by rw [←HWS3.out];exact jq (s:=false) _ hf)
          rw [kI hf,yV hf] at HSB
          obtain ⟨sv,hsv⟩:∃ sv,subV s x.amt=sv:=⟨_,rfl⟩
          obtain ⟨se,hse⟩:∃ se,subE s x.amt=se:=⟨_,rfl⟩
          clear hf hsv hse
          go_wp2_with (first
           | (go_at_call 38;refine HSB.out.mono ?_;rintro en w' ⟨rfl,rfl⟩)
           | (go_at_call 39;refine HAD.out.mono ?_;rintro en w' ⟨rfl,rfl⟩)
           | fail)
          go_ret2
          exact ⟨by rw [HRE.out];rfl,HBF.out⟩
  ·obtain rfl:i=n:=by omega
   have HRE:Hid (R=(s,0)):=Lib.hid (by
    have:=HWS.out
    rw [List.drop_of_length_le (by rw [HNN.out];exact Nat.le_refl _)] at this
    exact this.symm)
   have HBF:=Lib.hid (HB2.out.trans (HBR.out.mono HB2.out.size))
   go_wp2
   go_ret2
   exact ⟨by rw [HRE.out];rfl,HBF.out⟩
set_option maxRecDepth 100000 in
set_option maxHeartbeats 8000000 in
theorem zdn (c f e l vc:Value) (M:Mast) (L:List Fact) (en0:ByteArray) (kd:Int) (w:World) (hM:MastIn w c f e l M) (hV:FactsV w vc L) (hL:L.length≤1000) (hz:∀ x∈L,In64 x.amt) :
 Calls Tryz.prog 17 #[aggM c f e l M,vc,.string en0,.int .i64 kd] w fun en w'=>en=.returned (.tuple #[.int .i64 (weighP M L en0 kd).1,.int .i64 (weighP M L en0 kd).2])∧Below w.heap.size w w':=by
 obtain ⟨pv,cp,rfl,hcap,hmx,_,hcl⟩:=id hV
 obtain ⟨n,hn⟩:∃ n,L.length=n:=⟨_,rfl⟩
 obtain ⟨pc,cc,pf,cf,pe,ce,pl,cl,rfl,rfl,rfl,rfl⟩:=shapes hM
 obtain ⟨W1,hW1⟩:∃ W1,w.alloc (.cells (cellsM (.slice pc M.chart.length cc) (.slice pf M.flows.length cf) (.slice pe M.ents.length ce) (.slice pl M.lines.length cl) M) 39)=W1:=⟨_,rfl⟩
 have hb1:Below w.heap.size w W1:=by rw [←hW1];exact (Below.refl _ w).alloc (Nat.le_refl _) _
 have hn1:NineAt W1 w.heap.size (.slice pc M.chart.length cc) (.slice pf M.flows.length cf) (.slice pe M.ents.length ce) (.slice pl M.lines.length cl) M:=by rw [←hW1];exact zM w _ _ _ _ M _
 have HB2:=Lib.hid hb1
 have HN2:=Lib.hid hn1
 have HM2:=Lib.hid (hM.keep hb1)
 have HZ:=Lib.hid hz
 have HNN:=Lib.hid hn
 have HV2:=Lib.hid (hV.keep hb1)
 obtain ⟨R,hR⟩:∃ R,weighP M L en0 kd=R:=⟨_,rfl⟩
 have HR0:Hid (walkS 0 (weighL M L en0 kd)=R):=Lib.hid hR
 rw [hR,hn]
 rw [hn] at hcap hL HV2
 unfold maxLen at hmx
 clear hR hz hM hV hcl hb1 hn1 hn
 go_enter Tryz.func17,Tryz.ntmps17
 go_wp2_with fail
 clear hW1
 go_loopw [10,11] (fun s8 s9 wr=>∃ (i:Nat) (s:Int),s9=.int .i64 (i:Int)∧s8=.int .i64 s∧i≤n∧Hid (In64 s)∧Hid (walkS s (weighL M (L.drop i) en0 kd)=R)∧Hid (Below W1.heap.size W1 wr)) (fun _ s9 _=>n - (intOf s9).toNat)
 case atStart=>exact ⟨0,0,rfl,rfl,Nat.zero_le _,Lib.hid ⟨by decide,by decide⟩,HR0,Lib.hid (Below.refl _ _)⟩
 case round =>
  obtain ⟨i,s,rfl,rfl,hi,HSI,HWS,HBR⟩:=hrel
  by_cases hlt:i < n
  ·obtain ⟨x,hx⟩:∃ x,L[i]?=some x:=⟨_,List.getElem?_eq_getElem (by rw [HNN.out];exact hlt)⟩
   have HDR:=Lib.hid (JJ hx)
   have HIX:Hid (In64 x.amt):=Lib.hid (HZ.out x (List.mem_of_getElem? hx))
   obtain ⟨b,o,e',hat⟩:=ElsV.at_ HV2.out hx
   cases e'
   have HXA:=Lib.hid (hat.keep HBR.out hat.lt)
   obtain ⟨f0,f1,f2,f3,f4,f5⟩:=fact6 HXA.out
   simp only [show encF.k=6 from rfl] at f0 f1 f2 f3 f4 f5
   have HN3:=Lib.hid (HN2.out.kept HBR.out)
   obtain ⟨k0,k1,k2,k3,k4,k5,k6,k7,k8⟩:=HN3.out
   have r0:=fun q:Past wr=>za f0 q
   have r1:=fun q:Past wr=>za f1 q
   have r2:=fun q:Past wr=>za f2 q
   have r3:=fun q:Past wr=>za f3 q
   have r4:=fun q:Past wr=>za f4 q
   have r5:=fun q:Past wr=>za f5 q
   have s0:=fun q:Past wr=>za k0 q
   have s1:=fun q:Past wr=>za k1 q
   have s2:=fun q:Past wr=>za k2 q
   have s3:=fun q:Past wr=>za k3 q
   have s4:=fun q:Past wr=>za k4 q
   have s5:=fun q:Past wr=>za k5 q
   have s6:=fun q:Past wr=>za k6 q
   have s7:=fun q:Past wr=>za k7 q
   have s8:=fun q:Past wr=>za k8 q
   have HCT:Hid (∀ q:Past wr,Calls Tryz.prog 36 #[aggM (.slice pc M.chart.length cc) (.slice pf M.flows.length cf) (.slice pe M.ents.length ce) (.slice pl M.lines.length cl) M,Fa.aggF x] q.goal fun en w'=>en=.returned (.tuple #[.int .i64 (kindF M x.key.f),.int .i64 (clsF M x.key.a),.bool (cnt M x.key)])∧Below q.goal.heap.size q.goal w'):=Lib.hid fun q=>X5 _ _ _ _ M x q.goal (HM2.out.keep (HBR.out.trans (q.below.mono HBR.out.size)))
   obtain ⟨kn,hkn⟩:∃ kn,kindF M x.key.f=kn:=⟨_,rfl⟩
   obtain ⟨cn,hcn⟩:∃ cn,clsF M x.key.a=cn:=⟨_,rfl⟩
   obtain ⟨is,his⟩:∃ is,cnt M x.key=is:=⟨_,rfl⟩
   rw [hkn,hcn,his] at HCT
   have HKN:=Lib.hid hkn
   have HIS:=Lib.hid his
   have HCC:=Lib.hid hcn
   clear hx hat f0 f1 f2 f3 f4 f5 k0 k1 k2 k3 k4 k5 k6 k7 k8 hkn hcn his
   go_wp2_with fail
   refine zS (by kernel_rfl) (by kernel_rfl) ?_
   repeat (go_big_quiet_step (first | (go_at_call 36;exact Calls.qi (HCT.out _)) | fail))
   refine wpQuiet_nil ?_
   intro w5 hw'
   obtain ⟨⟨w5',hb5⟩,rfl⟩:=hw'
   have HB5:=Lib.hid (HBR.out.trans (hb5.mono HBR.out.size))
   have HXA5:=Lib.hid (HXA.out.keep hb5 HXA.out.lt)
   clear hb5 HCT r0 r1 r2 r3 r4 r5 s0 s1 s2 s3 s4 s5 s6 s7 s8 HXA HN3
   have HBF:=Lib.hid (HB2.out.trans (HB5.out.mono HB2.out.size))
   obtain ⟨f0,f1,f2,f3,f4,f5⟩:=fact6 HXA5.out
   simp only [show encF.k=6 from rfl] at f0 f1 f2 f3 f4 f5
   have HEM:=Lib.hid (Xe en0)
   cases is with
   | false =>
     have HWS2:Hid (walkS s (weighL M (L.drop (i+1)) en0 kd)=R):=Lib.hid (by
      have:=HWS.out
      rwa [HDR.out,v7,if_neg (by unfold ql;rw [HIS.out];simp)] at this)
     go_wp2
     go_roundw
     case rel=>exact ⟨i+1,s,by go_num,rfl,by omega,HSI,HWS2,HB5⟩
     case measure=>simp [intOf];omega
   | true =>
   by_cases hkd:kn=kd
   ·have hk1:(kn != kd)=false:=by simpa using hkd
    have HKD:Hid (decide (kindF M x.key.f=kd)=true):=Lib.hid (by rw [HKN.out];exact decide_eq_true hkd)
    obtain ⟨mem,hmem⟩:∃ mem,(en0.toList.isEmpty || (x.key.e.toList==en0.toList))=mem:=⟨_,rfl⟩
    have HIW:Hid (ql M en0 kd x.key=mem):=Lib.hid (by
     unfold ql
     rw [HIS.out,HKD.out,HEM.out,←hmem]
     have:decide (x.key.e=en0)=(x.key.e.toList==en0.toList):=by
      rw [Bool.eq_iff_iff,decide_eq_true_eq,beq_iff_eq]
      exact ⟨fun h=>by rw [h],fun h=>Go.Proofs.YtdhfpgjnjlcciaaGreatDoor.toList_inj h⟩
     rw [this];rfl)
    clear hkd
    cases he:en0.toList.isEmpty with
    | true =>
      rw [he,Bool.true_or] at hmem
      subst hmem
      have HWS2:Hid (walkS s ((decide (cn=0),x.amt)::weighL M (L.drop (i+1)) en0 kd)=R):=Lib.hid (by
       have:=HWS.out
       rwa [HDR.out,v7,if_pos HIW.out,HCC.out] at this)
      clear HWS
      have HSB:=Lib.hid (QK s x.amt w5 HSI.out HIX.out)
      have HAD:=Lib.hid (YB s x.amt w5 HSI.out HIX.out)
      by_cases h4:cn=0
      ·have HWS3:Hid (walkS s ((true,x.amt)::weighL M (L.drop (i+1)) en0 kd)=R):=Lib.hid (by
        have:=HWS2.out
        rwa [decide_eq_true h4] at this)
       have h41:(cn==0)=true:=by simpa using h4
       clear h4 HWS2
       cases hf:fit (s+x.amt) with
       | true =>
         have HF:=Lib.hid hf
         have HWS4:Hid (walkS (s+x.amt) (weighL M (L.drop (i+1)) en0 kd)=R):=Lib.hid (by rw [←HWS3.out,qW (s:=true) _ hf];rfl)
         obtain ⟨s2,hs2⟩:∃ s2,s+x.amt=s2:=⟨_,rfl⟩
         have HIN2:Hid (In64 s2):=Lib.hid (by rw [←hs2];exact jo hf)
         rw [yl hf,yL hf,hs2] at HAD
         rw [hs2] at HWS4
         obtain ⟨sv,hsv⟩:∃ sv,subV s x.amt=sv:=⟨_,rfl⟩
         obtain ⟨se,hse⟩:∃ se,subE s x.amt=se:=⟨_,rfl⟩
         rw [hsv,hse] at HSB
         clear hf hs2 hsv hse HF
         go_wp2_with (first
          | (go_at_call 38;refine HSB.out.mono ?_;rintro en w' ⟨rfl,rfl⟩)
          | (go_at_call 39;refine HAD.out.mono ?_;rintro en w' ⟨rfl,rfl⟩)
          | fail)
         go_roundw
         case rel=>exact ⟨i+1,s2,by go_num,rfl,by omega,HIN2,HWS4,HB5⟩
         case measure=>simp [intOf];omega
       | false =>
         have HRE:Hid (R=(0,2)):=Lib.hid (by rw [←HWS3.out];exact jq (s:=true) _ hf)
         rw [yI hf,yQ hf] at HAD
         obtain ⟨sv,hsv⟩:∃ sv,subV s x.amt=sv:=⟨_,rfl⟩
         obtain ⟨se,hse⟩:∃ se,subE s x.amt=se:=⟨_,rfl⟩
         rw [hsv,hse] at HSB
         clear hf hsv hse
         go_wp2_with (first
          | (go_at_call 38;refine HSB.out.mono ?_;rintro en w' ⟨rfl,rfl⟩)
          | (go_at_call 39;refine HAD.out.mono ?_;rintro en w' ⟨rfl,rfl⟩)
          | fail)
         go_ret2
         exact ⟨by rw [HRE.out];rfl,HBF.out⟩
      ·have HWS3:Hid (walkS s ((false,x.amt)::weighL M (L.drop (i+1)) en0 kd)=R):=Lib.hid (by
        have:=HWS2.out
        rwa [decide_eq_false h4] at this)
       have h41:(cn==0)=false:=by simpa using h4
       clear h4 HWS2
       cases hf:fit (s - x.amt) with
       | true =>
         have HF:=Lib.hid hf
         have HWS4:Hid (walkS (s - x.amt) (weighL M (L.drop (i+1)) en0 kd)=R):=Lib.hid (by rw [←HWS3.out,qW (s:=false) _ hf];rfl)
         obtain ⟨s2,hs2⟩:∃ s2,s - x.amt=s2:=⟨_,rfl⟩
         have HIN2:Hid (In64 s2):=Lib.hid (by rw [←hs2];exact jo hf)
         rw [kF hf,yX hf,hs2] at HSB
         rw [hs2] at HWS4
         obtain ⟨sv,hsv⟩:∃ sv,subV s x.amt=sv:=⟨_,rfl⟩
         obtain ⟨se,hse⟩:∃ se,subE s x.amt=se:=⟨_,rfl⟩
         clear hf hs2 hsv hse HF
         go_wp2_with (first
          | (go_at_call 38;refine HSB.out.mono ?_;rintro en w' ⟨rfl,rfl⟩)
          | (go_at_call 39;refine HAD.out.mono ?_;rintro en w' ⟨rfl,rfl⟩)
          | fail)
         go_roundw
         case rel=>exact ⟨i+1,s2,by go_num,rfl,by omega,HIN2,HWS4,HB5⟩
         case measure=>simp [intOf];omega
       | false =>
         have HRE:Hid (R=(0,2)):=Lib.hid (by rw [←HWS3.out];exact jq (s:=false) _ hf)
         rw [kI hf,yV hf] at HSB
         obtain ⟨sv,hsv⟩:∃ sv,subV s x.amt=sv:=⟨_,rfl⟩
         obtain ⟨se,hse⟩:∃ se,subE s x.amt=se:=⟨_,rfl⟩
         clear hf hsv hse
         go_wp2_with (first
          | (go_at_call 38;refine HSB.out.mono ?_;rintro en w' ⟨rfl,rfl⟩)
          | (go_at_call 39;refine HAD.out.mono ?_;rintro en w' ⟨rfl,rfl⟩)
          | fail)
         go_ret2
         exact ⟨by rw [HRE.out];rfl,HBF.out⟩
    | false =>
      cases hx:(x.key.e.toList==en0.toList) with
      | true =>
        rw [he,hx] at hmem
        have hmem2:mem=true:=hmem.symm
        subst hmem2
        have HWS2:Hid (walkS s ((decide (cn=0),x.amt)::weighL M (L.drop (i+1)) en0 kd)=R):=Lib.hid (by
         have:=HWS.out
         rwa [HDR.out,v7,if_pos HIW.out,HCC.out] at this)
        clear HWS
        have HSB:=Lib.hid (QK s x.amt w5 HSI.out HIX.out)
        have HAD:=Lib.hid (YB s x.amt w5 HSI.out HIX.out)
        by_cases h4:cn=0
        ·have HWS3:Hid (walkS s ((true,x.amt)::weighL M (L.drop (i+1)) en0 kd)=R):=Lib.hid (by
          have:=HWS2.out
          rwa [decide_eq_true h4] at this)
         have h41:(cn==0)=true:=by simpa using h4
         clear h4 HWS2
         cases hf:fit (s+x.amt) with
         | true =>
           have HF:=Lib.hid hf
           have HWS4:Hid (walkS (s+x.amt) (weighL M (L.drop (i+1)) en0 kd)=R):=Lib.hid (by rw [←HWS3.out,qW (s:=true) _ hf];rfl)
           obtain ⟨s2,hs2⟩:∃ s2,s+x.amt=s2:=⟨_,rfl⟩
           have HIN2:Hid (In64 s2):=Lib.hid (by rw [←hs2];exact jo hf)
           rw [yl hf,yL hf,hs2] at HAD
           rw [hs2] at HWS4
           obtain ⟨sv,hsv⟩:∃ sv,subV s x.amt=sv:=⟨_,rfl⟩
           obtain ⟨se,hse⟩:∃ se,subE s x.amt=se:=⟨_,rfl⟩
           rw [hsv,hse] at HSB
           clear hf hs2 hsv hse HF
           go_wp2_with (first
            | (go_at_call 38;refine HSB.out.mono ?_;rintro en w' ⟨rfl,rfl⟩)
            | (go_at_call 39;refine HAD.out.mono ?_;rintro en w' ⟨rfl,rfl⟩)
            | fail)
           go_roundw
           case rel=>exact ⟨i+1,s2,by go_num,rfl,by omega,HIN2,HWS4,HB5⟩
           case measure=>simp [intOf];omega
         | false =>
           have HRE:Hid (R=(0,2)):=Lib.hid (by rw [←HWS3.out];exact jq (s:=true) _ hf)
           rw [yI hf,yQ hf] at HAD
           obtain ⟨sv,hsv⟩:∃ sv,subV s x.amt=sv:=⟨_,rfl⟩
           obtain ⟨se,hse⟩:∃ se,subE s x.amt=se:=⟨_,rfl⟩
           rw [hsv,hse] at HSB
           clear hf hsv hse
           go_wp2_with (first
            | (go_at_call 38;refine HSB.out.mono ?_;rintro en w' ⟨rfl,rfl⟩)
            | (go_at_call 39;refine HAD.out.mono ?_;rintro en w' ⟨rfl,rfl⟩)
            | fail)
           go_ret2
           exact ⟨by rw [HRE.out];rfl,HBF.out⟩
        ·have HWS3:Hid (walkS s ((false,x.amt)::weighL M (L.drop (i+1)) en0 kd)=R):=Lib.hid (by
          have:=HWS2.out
          rwa [decide_eq_false h4] at this)
         have h41:(cn==0)=false:=by simpa using h4
         clear h4 HWS2
         cases hf:fit (s - x.amt) with
         | true =>
           have HF:=Lib.hid hf
           have HWS4:Hid (walkS (s - x.amt) (weighL M (L.drop (i+1)) en0 kd)=R):=Lib.hid (by rw [←HWS3.out,qW (s:=false) _ hf];rfl)
           obtain ⟨s2,hs2⟩:∃ s2,s - x.amt=s2:=⟨_,rfl⟩
           have HIN2:Hid (In64 s2):=Lib.hid (by rw [←hs2];exact jo hf)
           rw [kF hf,yX hf,hs2] at HSB
           rw [hs2] at HWS4
           obtain ⟨sv,hsv⟩:∃ sv,subV s x.amt=sv:=⟨_,rfl⟩
           obtain ⟨se,hse⟩:∃ se,subE s x.amt=se:=⟨_,rfl⟩
           clear hf hs2 hsv hse HF
           go_wp2_with (first
            | (go_at_call 38;refine HSB.out.mono ?_;rintro en w' ⟨rfl,rfl⟩)
            | (go_at_call 39;refine HAD.out.mono ?_;rintro en w' ⟨rfl,rfl⟩)
            | fail)
           go_roundw
           case rel=>exact ⟨i+1,s2,by go_num,rfl,by omega,HIN2,HWS4,HB5⟩
           case measure=>simp [intOf];omega
         | false =>
           have HRE:Hid (R=(0,2)):=Lib.hid (by rw [←HWS3.out];exact jq (s:=false) _ hf)
           rw [kI hf,yV hf] at HSB
           obtain ⟨sv,hsv⟩:∃ sv,subV s x.amt=sv:=⟨_,rfl⟩
           obtain ⟨se,hse⟩:∃ se,subE s x.amt=se:=⟨_,rfl⟩
           clear hf hsv hse
           go_wp2_with (first
            | (go_at_call 38;refine HSB.out.mono ?_;rintro en w' ⟨rfl,rfl⟩)
            | (go_at_call 39;refine HAD.out.mono ?_;rintro en w' ⟨rfl,rfl⟩)
            | fail)
           go_ret2
           exact ⟨by rw [HRE.out];rfl,HBF.out⟩
      | false =>
        rw [he,hx] at hmem
        have hmem2:mem=false:=hmem.symm
        subst hmem2
        have HWS2:Hid (walkS s (weighL M (L.drop (i+1)) en0 kd)=R):=Lib.hid (by
         have:=HWS.out
         rwa [HDR.out,v7,if_neg (by rw [HIW.out];simp)] at this)
        go_wp2
        go_roundw
        case rel=>exact ⟨i+1,s,by go_num,rfl,by omega,HSI,HWS2,HB5⟩
        case measure=>simp [intOf];omega
   ·have hk1:(kn != kd)=true:=by simpa using hkd
    have HKD:=Lib.hid hkd
    clear hkd
    have HWS2:Hid (walkS s (weighL M (L.drop (i+1)) en0 kd)=R):=Lib.hid (by
     have:=HWS.out
     rwa [HDR.out,v7,if_neg (by unfold ql;rw [HKN.out,decide_eq_false HKD.out,Bool.and_false,Bool.false_and];simp)] at this)
    go_wp2
    go_roundw
    case rel=>exact ⟨i+1,s,by go_num,rfl,by omega,HSI,HWS2,HB5⟩
    case measure=>simp [intOf];omega
  ·obtain rfl:i=n:=by omega
   have HRE:Hid (R=(s,0)):=Lib.hid (by
    have:=HWS.out
    rw [List.drop_of_length_le (by rw [HNN.out];exact Nat.le_refl _)] at this
    exact this.symm)
   have HBF:=Lib.hid (HB2.out.trans (HBR.out.mono HB2.out.size))
   go_wp2
   go_ret2
   exact ⟨by rw [HRE.out];rfl,HBF.out⟩
end Go.Proofs.YtdhfpgjnjlcciaaGreatDoor.Co
end
section
namespace Go.Proofs.YtdhfpgjnjlcciaaGreatDoor.Fa
open Go.RowKit
theorem zi0 {c:List Fact} (h:fewL c=true):c.length≤150:=by
 unfold fewL at h
 simp only [Bool.and_eq_true,decide_eq_true_eq] at h
 exact h.2
end Go.Proofs.YtdhfpgjnjlcciaaGreatDoor.Fa
end
section
namespace Go.Proofs.YtdhfpgjnjlcciaaGreatDoor.Fa
open Go.RowKit
set_option maxRecDepth 100000 in
set_option maxHeartbeats 8000000 in
theorem zV (v:Value) (c:List Fact) (w:World) (h:FactsV w v c) (hL:c.length≤100000) :
 Calls Tryz.prog 12 #[v] w fun e w'=>e=.returned (.bool (rightL c))∧Below w.heap.size w w':=by
 have HV:=Lib.hid h
 obtain ⟨p,cp,rfl,hcap,hm,_,_⟩:=h
 obtain ⟨n,hn⟩:∃ n,c.length=n:=⟨_,rfl⟩
 rw [hn] at hcap hL HV ⊢
 have HN:=Lib.hid hn
 obtain ⟨S,hS⟩:∃ S,rightL c=S:=⟨_,rfl⟩
 rw [hS]
 have HS:=Lib.hid hS
 unfold maxLen at hm
 clear hn hS
 go_enter Tryz.func12,Tryz.ntmps12
 go_wp2
 go_loopw [3] (fun s3 wr=>∃ i:Nat,s3=.int .i64 (i:Int)∧i≤n∧Hid (OkTo c i)∧Hid (Below w.heap.size w wr)) (fun s3 _=>n - (intOf s3).toNat)
 case atStart=>exact ⟨0,rfl,Nat.zero_le _,Lib.hid (fun j x hj=>absurd hj (Nat.not_lt_zero _)),Lib.hid (Below.refl _ _)⟩
 case round =>
  obtain ⟨i,rfl,hin,HO,HB1⟩:=hrel
  by_cases hlt:i < n
  ·obtain ⟨x,hx⟩:∃ x,c[i]?=some x:=⟨_,List.getElem?_eq_getElem (by rw [HN.out];exact hlt)⟩
   obtain ⟨b,o,rfl,hat⟩:=ElsV.at_ HV.out hx
   obtain ⟨d0,d1,d2,d3,d4,d5⟩:=fact6 (hat.keep HB1.out hat.lt)
   simp only [show encF.k=6 from rfl] at d0 d1 d2 d3 d4 d5
   have HX:=Lib.hid hx
   have u0:=fun p:Past wr=>za d0 p
   have u1:=fun p:Past wr=>za d1 p
   have u2:=fun p:Past wr=>za d2 p
   have u3:=fun p:Past wr=>za d3 p
   have u4:=fun p:Past wr=>za d4 p
   have u5:=fun p:Past wr=>za d5 p
   clear hx hat
   by_cases h0:x.amt=0
   ·have hSf:S=false:=by rw [←HS.out,ze4 HX.out h0]
    subst hSf
    have hz:(x.amt==0)=true:=by rw [beq_iff_eq];exact h0
    clear h0 d0 d1 d2 d3 d4 d5
    go_wp2_with fail
    refine zS (by kernel_rfl) (by kernel_rfl) ?_
    repeat (go_big_quiet_step (fail))
    refine wpQuiet_nil ?_
    intro w3 hw'
    obtain ⟨⟨_,hb3⟩,rfl⟩:=hw'
    clear u0 u1 u2 u3 u4 u5
    go_wp2
    go_ret
    exact ⟨rfl,HB1.out.trans (hb3.mono HB1.out.size)⟩
   ·have hz:(x.amt==0)=false:=by rw [beq_eq_false_iff_ne];exact h0
    by_cases hi0:i=0
    ·subst hi0
     have HO1:=Lib.hid (zah HO.out HX.out h0 (fun y hj=>absurd hj (Nat.not_lt_zero _)))
     clear h0 d0 d1 d2 d3 d4 d5
     simp only [Nat.zero_mul,Nat.add_zero] at u0 u1 u2 u3 u4 u5
     go_wp2_with fail
     refine zS (by kernel_rfl) (by kernel_rfl) ?_
     repeat (go_big_quiet_step (fail))
     refine wpQuiet_nil ?_
     intro w3 hw'
     obtain ⟨⟨_,hb3⟩,rfl⟩:=hw'
     clear u0 u1 u2 u3 u4 u5
     go_wp2
     go_roundw
     case rel=>exact ⟨0+1,by go_num,by omega,HO1,Lib.hid (HB1.out.trans (hb3.mono HB1.out.size))⟩
     case measure=>simp [intOf];omega
    ·obtain ⟨k,rfl⟩:∃ k,i=k+1:=⟨i - 1,by omega⟩
     obtain ⟨y,hy⟩:∃ y,c[k]?=some y:=⟨_,List.getElem?_eq_getElem (by rw [HN.out];omega)⟩
     obtain ⟨b',o',e,hat⟩:=ElsV.at_ HV.out hy
     cases e
     obtain ⟨s0,s1,s2,s3,s4,s5⟩:=fact6 (hat.keep HB1.out hat.lt)
     simp only [show encF.k=6 from rfl] at s0 s1 s2 s3 s4 s5
     have q0:=fun p:Past wr=>za s0 p
     have q1:=fun p:Past wr=>za s1 p
     have q2:=fun p:Past wr=>za s2 p
     have q3:=fun p:Past wr=>za s3 p
     have q4:=fun p:Past wr=>za s4 p
     have q5:=fun p:Past wr=>za s5 p
     have HY:=Lib.hid hy
     obtain ⟨m,hmm⟩:∃ m,cmpK y.key x.key=m:=⟨_,rfl⟩
     have HAG:=Lib.hid (fun W=>zic y.key x.key W)
     have HM:Hid (ltK y.key x.key ↔ m < 0):=Lib.hid (by unfold ltK;rw [hmm])
     simp only [hmm] at HAG
     have hwm:IntKind.i64.wrap (k:Int)=(k:Int):=by rw [IntKind.wrap_i64];omega
     have hpos:decide ((0:Int) < (k:Int)+1)=true:=decide_eq_true (by omega)
     have hH0:=Lib.hid h0
     clear hmm hy hat s0 s1 s2 s3 s4 s5 h0 hi0 d0 d1 d2 d3 d4 d5
     by_cases hm0:m < 0
     ·have HO1:=Lib.hid (zah HO.out HX.out hH0.out (fun z _ hz=>by
       rw [Nat.add_sub_cancel,HY.out] at hz
       cases hz
       exact HM.out.2 hm0))
      have hd:decide (0≤m)=false:=decide_eq_false (by omega)
      have hd2:decide (m < 0)=true:=decide_eq_true hm0
      go_wp2_with fail
      refine zS (by kernel_rfl) (by kernel_rfl) ?_
      repeat (go_big_quiet_step ((go_at_call 30;exact Calls.qi (HAG.out _))))
      refine wpQuiet_nil ?_
      intro w3 hw'
      obtain ⟨⟨_,hb3⟩,rfl⟩:=hw'
      clear q0 u0 q1 u1 q2 u2 q3 u3 q4 u4 q5 u5
      go_wp2
      go_roundw
      case rel=>exact ⟨k+1+1,by go_num,by omega,HO1,Lib.hid (HB1.out.trans (hb3.mono HB1.out.size))⟩
      case measure=>simp [intOf];omega
     ·have hSf:S=false:=by rw [←HS.out,zc0 (Nat.succ_pos k) HX.out (by exact HY.out) (fun h=>hm0 (HM.out.1 h))]
      subst hSf
      have hd:decide (0≤m)=true:=decide_eq_true (by omega)
      have hd2:decide (m < 0)=false:=decide_eq_false hm0
      go_wp2_with fail
      refine zS (by kernel_rfl) (by kernel_rfl) ?_
      repeat (go_big_quiet_step ((go_at_call 30;exact Calls.qi (HAG.out _))))
      refine wpQuiet_nil ?_
      intro w3 hw'
      obtain ⟨⟨_,hb3⟩,rfl⟩:=hw'
      clear q0 u0 q1 u1 q2 u2 q3 u3 q4 u4 q5 u5
      go_wp2
      go_ret
      exact ⟨rfl,HB1.out.trans (hb3.mono HB1.out.size)⟩
  ·obtain rfl:i=n:=by omega
   by_cases hbig:i≤2000
   ·have h2:(i:Int)≤2000:=by omega
    have hSt:S=true:=by rw [←HS.out,zeJ HN.out hbig HO.out]
    subst hSt
    go_wp2
    go_ret
    exact ⟨rfl,HB1.out⟩
   ·have h2:¬ (i:Int)≤2000:=by omega
    obtain rfl:S=false:=by rw [←HS.out];exact decide_eq_false fun hr=>by have:=hr.1;have:=HN.out;omega
    go_wp2
    go_ret
    exact ⟨rfl,HB1.out⟩
end Go.Proofs.YtdhfpgjnjlcciaaGreatDoor.Fa
end
