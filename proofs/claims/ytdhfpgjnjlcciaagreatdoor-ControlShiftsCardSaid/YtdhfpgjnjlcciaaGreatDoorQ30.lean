/- CoGap SortLay CoSort SegsIn CoPlaces CoCheck CoCheckAll -/
import Derived.CallsIn
import Derived.OrdersIn
import Derived.Shelf.SlLaysF0
import Derived.Shelf.SlSortCmp.WholeK
import Derived.TacticsIn
import Derived.Test.YtdhfpgjnjlcciaaGreatDoorQ29
section
namespace Go.Proofs.YtdhfpgjnjlcciaaGreatDoor.Co
open Go.RowKit Go.Shelf Go.Proofs.YtdhfpgjnjlcciaaGreatDoor.Un Go.Proofs.YtdhfpgjnjlcciaaGreatDoor.Fa Go.Proofs.YtdhfpgjnjlcciaaGreatDoor.Pk
def memB (s:ByteArray) (ws:List ByteArray):Bool:=ws.any fun y=>decide (y=s)
theorem Q6 {s:ByteArray} {ws:List ByteArray}:memB s ws=true ↔ s∈ws:=by
 unfold memB
 rw [List.any_eq_true]
 constructor
 ·rintro ⟨y,hy,e⟩
  rw [decide_eq_true_eq] at e
  exact e ▸ hy
 ·exact fun h=>⟨s,h,decide_eq_true rfl⟩
theorem zff (M:Mast) (c:List Fact) (p:Key) (hp:plc p=p):sgs (fun x=>x.k==4) (cfs M (fun k=>eqP k p) c)=gapL M c p:=by
 unfold sgs cfs gapL
 rw [List.map_map]
 have e:(fun f:Fact=>eqP f.key p && cnt M f.key)=fun f=>inGap M p f.key:=by
  funext f
  unfold inGap
  rw [Z1,hp,Bool.and_comm]
 rw [e]
 exact List.map_congr_left fun f _=>by
  show ((kindF M f.key.f==4),f.amt)=(decide (kindF M f.key.f=4),f.amt)
  rfl
def inFl (M:Mast) (e:ByteArray) (n:Int) (k:Key):Bool:=(decide (e=emp) || decide (k.e=e)) && memB k.f (Fl.ofF M.flows n)
theorem zdy {M:Mast} (hr:riseK Fl.Flow.code M.flows=true) {c:ByteArray} (h:hasFl M c=true) (n:Int):c∈Fl.ofF M.flows n ↔ kindF M c=n:=by
 unfold hasFl Fl.findF at h
 unfold kindF Fl.findF
 cases hf:findK Fl.Flow.code M.flows c with
 | none=>rw [hf] at h;cases h
 | some y =>
   obtain ⟨h1,h2⟩:=jf hf
   rw [Fl.mem_of]
   constructor
   ·rintro ⟨f,hm,hk,hc⟩
    have:=Qa hr hm h2 (by rw [hc,h1])
    subst this
    exact hk
   ·intro e
    exact ⟨y,h2,e,h1⟩
theorem zcT (M:Mast) (hr:riseK Fl.Flow.code M.flows=true) (c:List Fact) (e:ByteArray) (n:Int):sgs (fun x=>x.c==0) (cfs M (inFl M e n) c)=weighL M c e n:=by
 unfold sgs cfs weighL
 rw [List.map_map]
 have e:(fun f:Fact=>inFl M e n f.key && cnt M f.key)=fun f=>ql M e n f.key:=by
  funext f
  unfold inFl ql
  cases hc:cnt M f.key with
  | false=>simp
  | true =>
    have hh:hasFl M f.key.f=true:=by unfold cnt at hc;simp only [Bool.and_eq_true] at hc;exact hc.2
    rw [Bool.and_true,Bool.true_and,Bool.and_comm]
    congr 1
    rw [Bool.eq_iff_iff,Q6,decide_eq_true_eq]
    exact zdy hr hh n
 rw [e]
 exact List.map_congr_left fun f _=>rfl
theorem zao {M:Mast} {q:Key→Bool} {c:List Fact} (hz:∀ f∈c,In64 f.amt):∀ x∈cfs M q c,In64 x.f.amt:=by
 intro x hx
 unfold cfs at hx
 obtain ⟨f,hf,rfl⟩:=List.mem_map.1 hx
 exact hz f (List.mem_filter.1 hf).1
def Shaped (c f e l:Value):Prop:=∃ pc nc cc pf nf cf pe ne ce pl nl cl,c=.slice pc nc cc∧f=.slice pf nf cf∧e=.slice pe ne ce∧l=.slice pl nl cl
theorem Z5 {w:World} {c f e l:Value} {M:Mast} (h:MastIn w c f e l M):Shaped c f e l:=by
 obtain ⟨pc,cc,pf,cf,pe,ce,pl,cl,rfl,rfl,rfl,rfl⟩:=shapes h
 exact ⟨_,_,_,_,_,_,_,_,_,_,_,_,rfl,rfl,rfl,rfl⟩
set_option maxRecDepth 100000 in
set_option maxHeartbeats 2000000 in
theorem zi3 (b:Nat) (p k:Key) (W:World) (h:ElAt encP W b 0 p) :
 Calls Tryz.prog 31 #[Fa.aggK k,.pointer (some ⟨b,0,none⟩)] W fun en w'=>en=.returned (.bool (eqP k p))∧Below W.heap.size W w':=by
 have hb1:=(Below.refl W.heap.size W).alloc (Nat.le_refl _) (.cells #[.string k.e,.string k.a,.string k.f,.string k.p,.int .i64 k.m] 74)
 have hk1:=zf Go.Proofs.YtdhfpgjnjlcciaaGreatDoor.Fa.encK W k 74
 obtain ⟨W1,hW1⟩:∃ W1,W.alloc (.cells #[.string k.e,.string k.a,.string k.f,.string k.p,.int .i64 k.m] 74)=W1:=⟨_,rfl⟩
 have hk2:ElAt Go.Proofs.YtdhfpgjnjlcciaaGreatDoor.Fa.encK W1 W.heap.size 0 k:=by rw [←hW1];exact hk1
 rw [hW1] at hb1
 obtain ⟨k0,k1,k2,k3,k4⟩:=key5 hk2
 obtain ⟨p0,p1,p2⟩:=place3 (h.keep hb1 h.lt)
 simp only [Nat.zero_add] at k0 k1 k2 k3 k4 p0 p1 p2
 have r0:=fun q:Past W1=>za k0 q
 have r1:=fun q:Past W1=>za k1 q
 have r2:=fun q:Past W1=>za k2 q
 have r3:=fun q:Past W1=>za k3 q
 have r4:=fun q:Past W1=>za k4 q
 have s0:=fun q:Past W1=>za p0 q
 have s1:=fun q:Past W1=>za p1 q
 have s2:=fun q:Past W1=>za p2 q
 have HB1:=Lib.hid hb1
 have hq:∀ W,Sem.run Tryz.prog (binOp .eql 91 (aggP k) (aggP p)) W=.ok (.bool (eqP k p)) W:=fun W=>Yl k p W
 clear hk1 hk2 hb1 h k0 k1 k2 k3 k4 p0 p1 p2
 go_enter Tryz.func31,Tryz.ntmps31
 go_wp2_with fail
 refine zS (by kernel_rfl) (by kernel_rfl) ?_
 repeat (go_big_quiet_step (first | (go_at_call 32;exact Calls.qi (Jn _ _)) | fail))
 refine wpQuiet_nil ?_
 intro w10 hw'
 obtain ⟨⟨w10',hb10⟩,rfl⟩:=hw'
 have HB10:=Lib.hid (HB1.out.trans (hb10.mono HB1.out.size))
 clear hb10 r0 r1 r2 r3 r4 s0 s1 s2
 go_wp2
 go_ret
 exact ⟨rfl,HB10.out⟩
set_option maxHeartbeats 1000000 in
theorem zew (v:Value) (ws:List ByteArray) (s:ByteArray) (w:World) (h:StrsV w v ws) (hl:ws.length≤1000) :
 Calls Tryz.prog 71 #[v,.string s] w fun e w'=>(∃ r:Int,e=.returned (.int .i64 r)∧decide (0≤r)=memB s ws)∧w'=w:=by
 obtain ⟨p,c,rfl,hcap,hm,hc⟩:=h
 obtain ⟨n,hn⟩:∃ n,ws.length=n:=⟨_,rfl⟩
 rw [hn] at hcap hm hl ⊢
 have HC:=Lib.hid hc
 have HN:=Lib.hid hn
 unfold maxLen at hm
 clear hc hn
 go_enter Tryz.func71,Tryz.ntmps71
 go_wp2
 go_loop [8] (fun s8=>∃ i:Nat,i≤n∧s8=.int .i64 (i:Int)∧Hid (∀ (j:Nat) (y:ByteArray),j < i→ws[j]?=some y→y≠s)) (fun s8=>n - (intOf s8).toNat)
 case atStart=>exact ⟨0,Nat.zero_le _,rfl,Lib.hid fun j y hj=>absurd hj (Nat.not_lt_zero _)⟩
 case round =>
  obtain ⟨i,hi,rfl,HNO⟩:=hrel
  by_cases hlt:i < n
  ·obtain ⟨x,hx⟩:∃ x,ws[i]?=some x:=⟨_,List.getElem?_eq_getElem (by rw [HN.out];exact hlt)⟩
   obtain ⟨b,o,rfl,hat⟩:=HC.out i x hx
   have HX:=Lib.hid hx
   clear hx
   cases hxe:(s.toList==x.toList) with
   | false =>
     have HXE:=Lib.hid ((Lib.bytes_beq_false_iff s x).1 hxe)
     go_wp2
     go_round
     case rel=>exact ⟨i+1,by omega,by go_num,Lib.hid fun j y hj hy=>by
      rcases Nat.lt_or_ge j i with h | h
      ·exact HNO.out j y h hy
      ·obtain rfl:j=i:=by omega
       rw [HX.out] at hy;cases hy;exact fun e=>HXE.out e.symm⟩
     case measure=>simp [intOf];omega
   | true =>
     have HXE:=Lib.hid ((Lib.bytes_beq_iff s x).1 hxe)
     go_wp2
     go_ret
     exact ⟨⟨i,rfl,by rw [decide_eq_true (by omega:(0:Int)≤i),Q6.2 (by rw [HXE.out];exact List.mem_of_getElem? HX.out)]⟩,rfl⟩
  ·have HNM:Hid (memB s ws=false):=Lib.hid (Bool.eq_false_iff.2 fun hm0=>by
    have hm:=Q6.1 hm0
    obtain ⟨j,hj,e⟩:=List.mem_iff_getElem.1 hm
    exact HNO.out j _ (by rw [HN.out] at hj;omega) (List.getElem?_eq_getElem hj) e)
   go_wp2
   go_ret
   exact ⟨⟨-1,rfl,by rw [HNM.out];rfl⟩,rfl⟩
set_option maxHeartbeats 1000000 in
theorem zbw (v:Value) (ws:List ByteArray) (s:ByteArray) (w:World) (h:StrsV w v ws) (hl:ws.length≤1000) :
 Calls Tryz.prog 42 #[v,.string s] w fun e w'=>e=.returned (.bool (memB s ws))∧w'=w:=by
 have HI:=Lib.hid (zew v ws s w h hl)
 obtain ⟨b,hb⟩:∃ b,memB s ws=b:=⟨_,rfl⟩
 rw [hb] at HI ⊢
 obtain ⟨p,c,rfl,_⟩:=h
 clear hb hl
 go_enter Tryz.func42,Tryz.ntmps42
 go_wp2_with fail
 refine HI.out.mono ?_
 rintro e w' ⟨⟨r,rfl,hr⟩,rfl⟩
 have HR:=Lib.hid hr
 clear hr
 go_wp2
 go_ret
 exact ⟨by rw [←HR.out];rfl,rfl⟩
theorem Xe (e:ByteArray):decide (e=emp)=e.toList.isEmpty:=by
 rw [Bool.eq_iff_iff,decide_eq_true_eq,List.isEmpty_iff]
 have h0:emp.toList=[]:=by rw [ByteArray.toList_eq]
 exact ⟨fun h=>by rw [h,h0],fun h=>Go.Proofs.YtdhfpgjnjlcciaaGreatDoor.toList_inj (by rw [h,h0])⟩
set_option maxRecDepth 100000 in
set_option maxHeartbeats 2000000 in
theorem zgz (b1 b2:Nat) (M:Mast) (e:ByteArray) (n:Int) (v:Value) (k:Key) (W:World) (h1:W.cell? ⟨b1,0,none⟩=some (.string e)) (h2:W.cell? ⟨b2,0,none⟩=some v) (hv:StrsV W v (Fl.ofF M.flows n)) (hl:(Fl.ofF M.flows n).length≤1000) :
 Calls Tryz.prog 41 #[Fa.aggK k,.pointer (some ⟨b1,0,none⟩),.pointer (some ⟨b2,0,none⟩)] W fun en w'=>en=.returned (.bool (inFl M e n k))∧Below W.heap.size W w':=by
 have hb1:=(Below.refl W.heap.size W).alloc (Nat.le_refl _) (.cells #[.string k.e,.string k.a,.string k.f,.string k.p,.int .i64 k.m] 74)
 have hk1:=zf Go.Proofs.YtdhfpgjnjlcciaaGreatDoor.Fa.encK W k 74
 obtain ⟨W1,hW1⟩:∃ W1,W.alloc (.cells #[.string k.e,.string k.a,.string k.f,.string k.p,.int .i64 k.m] 74)=W1:=⟨_,rfl⟩
 have hk2:ElAt Go.Proofs.YtdhfpgjnjlcciaaGreatDoor.Fa.encK W1 W.heap.size 0 k:=by rw [←hW1];exact hk1
 rw [hW1] at hb1
 obtain ⟨k0,k1,k2,k3,k4⟩:=key5 hk2
 simp only [Nat.zero_add] at k0 k1 k2 k3 k4
 have p1:=(hb1.cell (p:=⟨b1,0,none⟩) (World.block_lt_of_cell? W _ h1)).trans h1
 have p2:=(hb1.cell (p:=⟨b2,0,none⟩) (World.block_lt_of_cell? W _ h2)).trans h2
 have HCO:=Lib.hid (zbw v (Fl.ofF M.flows n) k.f W1 (hv.keep hb1) hl)
 obtain ⟨b,hb⟩:∃ b,memB k.f (Fl.ofF M.flows n)=b:=⟨_,rfl⟩
 have HIN:Hid (inFl M e n k=((e.toList.isEmpty || (k.e.toList==e.toList)) && b)):=Lib.hid (by
  unfold inFl
  rw [hb,Xe]
  congr 2
  rw [Bool.eq_iff_iff,decide_eq_true_eq,beq_iff_eq]
  exact ⟨fun h=>by rw [h],fun h=>Go.Proofs.YtdhfpgjnjlcciaaGreatDoor.toList_inj h⟩)
 rw [hb] at HCO
 rw [HIN.out]
 have HB1:=Lib.hid hb1
 obtain ⟨p,c,rfl,_⟩:=hv
 clear hk1 hk2 hb1 hb h1 h2 hl
 cases he:e.toList.isEmpty with
 | true =>
   go_enter Tryz.func41,Tryz.ntmps41
   go_wp2_with (first | (go_at_call 42;refine HCO.out.mono ?_;rintro en w' ⟨rfl,rfl⟩) | fail)
   go_ret
   exact ⟨by simp,HB1.out⟩
 | false =>
   cases hk:(k.e.toList==e.toList) with
   | true =>
     go_enter Tryz.func41,Tryz.ntmps41
     go_wp2_with (first | (go_at_call 42;refine HCO.out.mono ?_;rintro en w' ⟨rfl,rfl⟩) | fail)
     go_ret
     exact ⟨by simp,HB1.out⟩
   | false =>
     go_enter Tryz.func41,Tryz.ntmps41
     go_wp2
     go_ret
     exact ⟨by simp,HB1.out⟩
set_option maxHeartbeats 1000000 in
theorem QU (c f e l:Value) (M:Mast) (p:Option Addr) (n cp:Nat) (g:Nat) (cb:Array Value) (w:World) (h:Shaped c f e l) :
 Calls Tryz.prog 34 #[aggM c f e l M,.slice p n cp,.func (.func g) #[] cb] w fun en w' =>
  en=.returned (.func (.func 67) #[] #[.pointer (some ⟨w.heap.size+1,0,none⟩),.pointer (some ⟨w.heap.size+1+1,0,none⟩),.pointer (some ⟨w.heap.size,0,none⟩)]) ∧
  w'=((w.alloc (.cells (cellsM c f e l M) 33)).alloc (.cells #[.slice p n cp] 57)).alloc (.cells #[.func (.func g) #[] cb] 93):=by
 obtain ⟨pc,nc,cc,pf,nf,cf,pe,ne,ce,pl,nl,cl,rfl,rfl,rfl,rfl⟩:=h
 go_enter Tryz.func34,Tryz.ntmps34
 go_wp2
 go_ret
 exact ⟨rfl,rfl⟩
theorem J2 {n1 lo:Nat} {w1 W2:World} {c f e l vc:Value} {M:Mast} {g:Nat} {cb:Array Value} (hb:Below n1 w1 W2) (hnn:n1≤W2.heap.size) {W3:World}
 (h3:W3=((W2.alloc (.cells (cellsM c f e l M) 33)).alloc (.cells #[vc] 57)).alloc (.cells #[.func (.func g) #[] cb] 93)) :
 ItAt n1 lo (W2.heap.size+3) w1 g cb (W2.heap.size+1) (W2.heap.size+1+1) W2.heap.size c f e l vc M W3∧W3.heap.size=W2.heap.size+3∧Below W2.heap.size W2 W3:=by
 have b1:=(Below.refl W2.heap.size W2).alloc (Nat.le_refl _) (.cells (cellsM c f e l M) 33)
 have b2:=b1.alloc b1.size (.cells #[vc] 57)
 have b3:=b2.alloc b2.size (.cells #[.func (.func g) #[] cb] 93)
 have hs:W3.heap.size=W2.heap.size+3:=by rw [h3];simp
 have hn:=zM W2 c f e l M 33
 obtain ⟨V1,hV1⟩:∃ V1,W2.alloc (.cells (cellsM c f e l M) 33)=V1:=⟨_,rfl⟩
 rw [hV1] at b1 b2 b3 hn h3
 have s1:V1.heap.size=W2.heap.size+1:=by rw [←hV1,World.size_alloc]
 have x2:=Boxed.new V1 57 vc
 obtain ⟨V2,hV2⟩:∃ V2,V1.alloc (.cells #[vc] 57)=V2:=⟨_,rfl⟩
 have d2:Below V1.heap.size V1 V2:=by rw [←hV2];exact (Below.refl _ V1).alloc (Nat.le_refl _) _
 rw [hV2] at b2 b3 h3 x2
 have s2:V2.heap.size=W2.heap.size+1+1:=by rw [←hV2,World.size_alloc,s1]
 have x3:=Boxed.new V2 93 (.func (.func g) #[] cb)
 have d3:Below V2.heap.size V2 W3:=by rw [h3];exact (Below.refl _ V2).alloc (Nat.le_refl _) _
 rw [←h3] at b3 x3
 rw [s1] at x2
 rw [s2] at x3
 exact ⟨⟨hb.trans (b3.mono hnn),by rw [hs];exact Nat.le_refl _,(zG x2 d3).cell,x3.cell,(hn.kept d2).kept d3⟩,hs,b3⟩
theorem seqC {n1 lo hi:Nat} {w1:World} (hw1:w1.heap.size=n1) {g:Nat} {cb:Array Value} {bc ba bm:Nat} {c f e l vc:Value} {M:Mast} {L:List Fact} {q:Key→Bool} {W3:World}
 (hM:MastIn w1 c f e l M) (hr:riseK Fl.Flow.code M.flows=true) (hlf:M.flows.length≤1000) (hV:FactsV w1 vc L) (hL:L.length≤1000) (hI:Ins n1 lo hi bc ba bm) (hA:ItAt n1 lo hi w1 g cb bc ba bm c f e l vc M W3)
 (eg:∀ args w,(callFunc g args).run Tryz.prog w=.ok (.enter g args) w) (hq:∀ W,KpC n1 lo hi W3 W→∀ k,Calls Tryz.prog g (#[Fa.aggK k]++cb) W fun en w'=>en=.returned (.bool (q k))∧Below W.heap.size W w') :
 ∀ W,Below W3.heap.size W3 W→xG Fence.wide 2 Tryz.prog 67 #[.pointer (some ⟨bc,0,none⟩),.pointer (some ⟨ba,0,none⟩),.pointer (some ⟨bm,0,none⟩)] encsC (KpC n1 lo hi) (RC (cfs M q L)) (fun xs=>xs=cfs M q L) (fun _=>True) W:=fun W hW=>by
 have hk:KpC n1 lo hi W3 W:=jU hW hA.top (Nat.le_trans hI.n hA.top)
 exact zbg 2 (by decide) n1 lo hi w1 hw1 g cb bc ba bm c f e l vc M L q W hM hr hlf hV hL hI (hA.keep hI hk) eg (fun W' hk' k=>hq W' (jZ hk hk') k)
theorem zf6 {α:Type} {E:Enc α} {n1 lo hi b o:Nat} {W W':World} {a:α} (h:ElAt E W b o a) (hk:KpC n1 lo hi W W') (h1:lo≤b) (h2:b < hi):ElAt E W' b o a:=fun j v hj=>(xL (hk.2 b h1 h2) _).trans (h j v hj)
set_option maxRecDepth 100000 in
set_option maxHeartbeats 4000000 in
theorem zhA (c f e l vc:Value) (M:Mast) (L:List Fact) (p:Key) (w:World) (hM:MastIn w c f e l M) (hr:riseK Fl.Flow.code M.flows=true) (hlf:M.flows.length≤1000) (hV:FactsV w vc L) (hL:L.length≤1000) (hz:∀ x∈L,In64 x.amt) (hp:plc p=p) :
 Calls Tryz.prog 13 #[aggM c f e l M,vc,.string p.e,.string p.a,.string p.p] w fun en w'=>en=.returned (.tuple #[.int .i64 (gapP M L p).1,.int .i64 (gapP M L p).2])∧Below w.heap.size w w':=by
 obtain ⟨pv,cp,rfl,_⟩:=id hV
 obtain ⟨N,hN⟩:∃ N,L.length=N:=⟨_,rfl⟩
 have HSH:=Lib.hid (Z5 hM)
 obtain ⟨pc,cc,pf,cf,pe,ce,pl,cl,rfl,rfl,rfl,rfl⟩:=shapes hM
 obtain ⟨W1,hW1⟩:∃ W1,w.alloc (.cells (cellsM (.slice pc M.chart.length cc) (.slice pf M.flows.length cf) (.slice pe M.ents.length ce) (.slice pl M.lines.length cl) M) 33)=W1:=⟨_,rfl⟩
 have hb1:Below w.heap.size w W1:=by rw [←hW1];exact (Below.refl _ w).alloc (Nat.le_refl _) _
 have hn1:NineAt W1 w.heap.size (.slice pc M.chart.length cc) (.slice pf M.flows.length cf) (.slice pe M.ents.length ce) (.slice pl M.lines.length cl) M:=by rw [←hW1];exact zM w _ _ _ _ M _
 have hs1:W1.heap.size=w.heap.size+1:=by rw [←hW1,World.size_alloc]
 obtain ⟨W2,hW2⟩:∃ W2,W1.alloc (.cells #[.string p.e,.string p.a,.string p.p] 91)=W2:=⟨_,rfl⟩
 have hb12:Below W1.heap.size W1 W2:=by rw [←hW2];exact (Below.refl _ W1).alloc (Nat.le_refl _) _
 have hs2:W2.heap.size=w.heap.size+1+1:=by rw [←hW2,World.size_alloc,hs1]
 have hp2:ElAt encP W2 W1.heap.size 0 p:=by rw [←hW2];exact zf encP W1 p _
 have HS1:=Lib.hid hs1
 have HB2:=Lib.hid (hb1.trans (hb12.mono hb1.size))
 have HN2:=Lib.hid (hn1.kept hb12)
 have HS2:=Lib.hid hs2
 have HP2:=Lib.hid hp2
 have HM:=Lib.hid hM
 have HR:=Lib.hid hr
 have HLF:=Lib.hid hlf
 have HV:=Lib.hid hV
 have HL:=Lib.hid hL
 have HZ:=Lib.hid (zao (M:=M) (q:=fun k=>eqP k p) hz)
 have HNN:=Lib.hid hN
 have HG:=Lib.hid (zff M L p hp)
 obtain ⟨R,hR⟩:∃ R,gapP M L p=R:=⟨_,rfl⟩
 have HRR:Hid (walkS 0 (sgs (fun x=>x.k==4) (cfs M (fun k=>eqP k p) L))=R):=Lib.hid (by rw [HG.out];exact hR)
 rw [hR,hN]
 clear hR hz hp hL hV hlf hr hM hb1 hn1 hb12 hs1 hs2 hp2 hN HG
 obtain ⟨k0,k1,k2,k3,k4,k5,k6,k7,k8⟩:=HN2.out
 go_enter Tryz.func13,Tryz.ntmps13
 go_wp2_with fail
 clear k0 k1 k2 k3 k4 k5 k6 k7 k8 hW1 hW2
 refine (QU _ _ _ _ M _ _ _ _ _ _ HSH.out).mono ?_
 rintro en W3 ⟨rfl,h3⟩
 obtain ⟨hA,hs3,hb23⟩:=J2 (lo:=w.heap.size) HB2.out HB2.out.size h3
 have HI:Ins w.heap.size w.heap.size (W2.heap.size+3) (W2.heap.size+1) (W2.heap.size+1+1) W2.heap.size:=by
  have:=HS2.out
  exact ⟨by omega,by omega,by omega,by omega,by omega,by omega,by omega⟩
 have hp3:ElAt encP W3 W1.heap.size 0 p:=HP2.out.keep hb23 HP2.out.lt
 have hq:∀ W,KpC w.heap.size w.heap.size (W2.heap.size+3) W3 W→∀ k,Calls Tryz.prog 31 (#[Fa.aggK k]++#[.pointer (some ⟨W1.heap.size,0,none⟩)]) W fun en w'=>en=.returned (.bool (eqP k p))∧Below W.heap.size W w':=fun W hk k=>by
  rw [List.append_toArray]
  exact zi3 W1.heap.size p k W (zf6 hp3 hk (by have:=HS1.out;omega) (by have:=HS2.out;have:=HS1.out;omega))
 rw [←HNN.out] at hA
 have hseq:=seqC (n1:=w.heap.size) (lo:=w.heap.size) (hi:=W2.heap.size+3) (w1:=w) (g:=31) (cb:=#[.pointer (some ⟨W1.heap.size,0,none⟩)]) (q:=fun k=>eqP k p) rfl HM.out HR.out HLF.out HV.out HL.out HI hA (enters_of Tryz.func31 (by kernel_rfl) rfl) hq
 clear hq
 have HTO:=Lib.hid (Xm w.heap.size w.heap.size (W2.heap.size+3) 67 _ 35 (fun x=>x.k==4) (cfs M (fun k=>eqP k p) L) W3 (by rw [hs3];exact Nat.le_refl _) (by rw [hs3];have:=HS2.out;omega) HZ.out (enters_of Tryz.func67 (by kernel_rfl) rfl) (enters_of Tryz.func35 (by kernel_rfl) rfl) zbO hseq)
 rw [HRR.out] at HTO
 have HB3:=Lib.hid (HB2.out.trans (hb23.mono HB2.out.size))
 clear h3 hA hs3 hb23 HI hp3 hseq
 go_wp2_with fail
 refine HTO.out.mono ?_
 rintro en w4 ⟨rfl,hb4⟩
 have HB4:=Lib.hid (HB3.out.trans (hb4.mono HB3.out.size))
 clear hb4
 go_wp2
 go_ret2
 exact ⟨rfl,HB4.out⟩
theorem zd3 {n hi:Nat} {W W':World} (h:KpC n n hi W W'):Below hi W W':=⟨h.1.os,h.1.tape,h.1.output,h.1.size,fun k hk=>by
 rcases Nat.lt_or_ge k n with h1 | h1
 ·exact h.1.block k h1
 ·exact h.2 k h1 hk⟩
set_option maxRecDepth 100000 in
set_option maxHeartbeats 4000000 in
theorem zfl (c f e l vc:Value) (M:Mast) (L:List Fact) (s:ByteArray) (kn:Int) (w:World) (hM:MastIn w c f e l M) (hr:riseK Fl.Flow.code M.flows=true) (hlf:M.flows.length≤1000) (hV:FactsV w vc L) (hL:L.length≤1000) (hz:∀ x∈L,In64 x.amt) :
 Calls Tryz.prog 16 #[aggM c f e l M,vc,.string s,.int .i64 kn] w fun en w'=>en=.returned (.tuple #[.int .i64 (weighP M L s kn).1,.int .i64 (weighP M L s kn).2])∧Below w.heap.size w w':=by
 obtain ⟨pv,cp,rfl,_⟩:=id hV
 obtain ⟨N,hN⟩:∃ N,L.length=N:=⟨_,rfl⟩
 have HSH:=Lib.hid (Z5 hM)
 obtain ⟨pc,cc,pf,cf,pe,ce,pl,cl,rfl,rfl,rfl,rfl⟩:=shapes hM
 obtain ⟨W1,hW1⟩:∃ W1,w.alloc (.cells (cellsM (.slice pc M.chart.length cc) (.slice pf M.flows.length cf) (.slice pe M.ents.length ce) (.slice pl M.lines.length cl) M) 33)=W1:=⟨_,rfl⟩
 have hb1:Below w.heap.size w W1:=by rw [←hW1];exact (Below.refl _ w).alloc (Nat.le_refl _) _
 have hn1:NineAt W1 w.heap.size (.slice pc M.chart.length cc) (.slice pf M.flows.length cf) (.slice pe M.ents.length ce) (.slice pl M.lines.length cl) M:=by rw [←hW1];exact zM w _ _ _ _ M _
 have hs1:W1.heap.size=w.heap.size+1:=by rw [←hW1,World.size_alloc]
 obtain ⟨W2,hW2⟩:∃ W2,W1.alloc (.cells #[.string s] 9)=W2:=⟨_,rfl⟩
 have hb12:Below W1.heap.size W1 W2:=by rw [←hW2];exact (Below.refl _ W1).alloc (Nat.le_refl _) _
 have hs2:W2.heap.size=w.heap.size+1+1:=by rw [←hW2,World.size_alloc,hs1]
 have hp2:Boxed W2 W1.heap.size 9 (.string s):=by rw [←hW2];exact Boxed.new W1 _ _
 have HS1:=Lib.hid hs1
 have HB2:=Lib.hid (hb1.trans (hb12.mono hb1.size))
 have HN2:=Lib.hid (hn1.kept hb12)
 have HS2:=Lib.hid hs2
 have HP2:=Lib.hid hp2
 have HM:=Lib.hid hM
 have HR:=Lib.hid hr
 have HLF:=Lib.hid hlf
 have HV:=Lib.hid hV
 have HL:=Lib.hid hL
 have HZ:=Lib.hid (zao (M:=M) (q:=inFl M s kn) hz)
 have HNN:=Lib.hid hN
 have HG:=Lib.hid (zcT M hr L s kn)
 obtain ⟨R,hR⟩:∃ R,weighP M L s kn=R:=⟨_,rfl⟩
 have HRR:Hid (walkS 0 (sgs (fun x=>x.c==0) (cfs M (inFl M s kn) L))=R):=Lib.hid (by rw [HG.out];exact hR)
 have HOF:=Lib.hid (Fl.jX (.slice pf M.flows.length cf) M.flows kn W2 ((hM.keep HB2.out).flows) hlf)
 have HLO:=Lib.hid (Nat.le_trans (Fl.ki M.flows kn) hlf)
 rw [hR,hN]
 clear hR hz hL hV hlf hr hM hb1 hn1 hb12 hs1 hs2 hp2 hN HG
 obtain ⟨k0,k1,k2,k3,k4,k5,k6,k7,k8⟩:=HN2.out
 go_enter Tryz.func16,Tryz.ntmps16
 go_wp2_with fail
 clear k0 k1 k2 k3 k4 k5 k6 k7 k8 hW1 hW2
 refine HOF.out.mono ?_
 rintro en W3 ⟨v,rfl,hv,hb3⟩
 obtain ⟨p5,c5,rfl,_⟩:=id hv
 obtain ⟨nf,hnf⟩:∃ nf,(Fl.ofF M.flows kn).length=nf:=⟨_,rfl⟩
 rw [hnf] at hv HLO
 rw [hnf]
 have HSV:=Lib.hid hv
 have HNF:=Lib.hid hnf
 obtain ⟨W4,hW4⟩:∃ W4,W3.alloc (.cells #[.slice p5 nf c5] 105)=W4:=⟨_,rfl⟩
 have hb34:Below W3.heap.size W3 W4:=by rw [←hW4];exact (Below.refl _ W3).alloc (Nat.le_refl _) _
 have hs4:W4.heap.size=W3.heap.size+1:=by rw [←hW4,World.size_alloc]
 have x4:Boxed W4 W3.heap.size 105 (.slice p5 nf c5):=by rw [←hW4];exact Boxed.new W3 _ _
 have hb24:Below W2.heap.size W2 W4:=hb3.trans (hb34.mono hb3.size)
 have HB24:=Lib.hid hb24
 have HB4:=Lib.hid (HB2.out.trans (hb24.mono HB2.out.size))
 have HS4:=Lib.hid hs4
 have HSZ:=Lib.hid hb3.size
 have HX4:=Lib.hid x4
 have HE4:=Lib.hid (zG HP2.out hb24)
 have HV4:=Lib.hid (hv.keep hb34)
 have HN4:=Lib.hid (HN2.out.kept hb24)
 clear hv hnf hb3 hb34 hs4 x4 hb24 HSV HP2 HOF
 obtain ⟨k0,k1,k2,k3,k4,k5,k6,k7,k8⟩:=HN4.out
 go_wp2_with fail
 clear k0 k1 k2 k3 k4 k5 k6 k7 k8 hW4
 refine (QU _ _ _ _ M _ _ _ _ _ _ HSH.out).mono ?_
 rintro en W5 ⟨rfl,h5⟩
 obtain ⟨hA,hs5,hb45⟩:=J2 (lo:=w.heap.size) HB4.out HB4.out.size h5
 have HI:Ins w.heap.size w.heap.size (W4.heap.size+3) (W4.heap.size+1) (W4.heap.size+1+1) W4.heap.size:=by
  have:=HB4.out.size
  exact ⟨by omega,by omega,by omega,by omega,by omega,by omega,by omega⟩
 have e5:=zG HE4.out hb45
 have f5:=zG HX4.out hb45
 have v5:=HV4.out.keep hb45
 have hq:∀ W,KpC w.heap.size w.heap.size (W4.heap.size+3) W5 W→∀ k,Calls Tryz.prog 41 (#[Fa.aggK k]++#[.pointer (some ⟨W1.heap.size,0,none⟩),.pointer (some ⟨W3.heap.size,0,none⟩)]) W fun en w'=>en=.returned (.bool (inFl M s kn k))∧Below W.heap.size W w':=fun W hk k=>by
  rw [List.append_toArray]
  have hf:Below W5.heap.size W5 W:=by rw [hs5];exact zd3 hk
  exact zgz W1.heap.size W3.heap.size M s kn (.slice p5 nf c5) k W (zG e5 hf).cell (zG f5 hf).cell (v5.keep hf) (by rw [HNF.out];exact HLO.out)
 rw [←HNN.out] at hA
 have hseq:=seqC (n1:=w.heap.size) (lo:=w.heap.size) (hi:=W4.heap.size+3) (w1:=w) (g:=41) (cb:=#[.pointer (some ⟨W1.heap.size,0,none⟩),.pointer (some ⟨W3.heap.size,0,none⟩)]) (q:=inFl M s kn) rfl HM.out HR.out HLF.out HV.out HL.out HI hA (enters_of Tryz.func41 (by kernel_rfl) rfl) hq
 clear hq
 have HTO:=Lib.hid (Xm w.heap.size w.heap.size (W4.heap.size+3) 67 _ 43 (fun x=>x.c==0) (cfs M (inFl M s kn) L) W5 (by rw [hs5];exact Nat.le_refl _) (by rw [hs5];have:=HB4.out.size;omega) HZ.out (enters_of Tryz.func67 (by kernel_rfl) rfl) (enters_of Tryz.func43 (by kernel_rfl) rfl) zcf hseq)
 rw [HRR.out] at HTO
 have HB5:=Lib.hid (HB4.out.trans (hb45.mono HB4.out.size))
 clear h5 hA hs5 hb45 HI hseq e5 f5 v5
 go_wp2_with fail
 refine HTO.out.mono ?_
 rintro en w6 ⟨rfl,hb6⟩
 have HB6:=Lib.hid (HB5.out.trans (hb6.mono HB5.out.size))
 clear hb6
 go_wp2
 go_ret2
 exact ⟨rfl,HB6.out⟩
end Go.Proofs.YtdhfpgjnjlcciaaGreatDoor.Co
end
section
namespace Go.Proofs
open Go.Shelf
def Tryz.YM:Go.Shelf.Ren:=⟨fun | 6=>73 | 15=>104 | 14=>103 | 28=>152 | 29=>153 | 20=>144 | 21=>145 | 22=>146 | 23=>147 | 24=>148 | 25=>149 | 26=>150 | 27=>151 | 46=>183 | 47=>184 | 48=>185 | 49=>186 | 50=>187 | 57=>205 | n=>n,fun | 22=>108 | 24=>91 | 25=>156 | 3=>3 | 39=>200 | 0=>0 | 53=>263 | 55=>265 | 4=>4 | 46=>257 | 45=>256 | 50=>132 | 5=>5 | 9=>9 | 66=>290 | 70=>294 | 76=>313 | 77=>314 | n=>n,fun | n=>n⟩
theorem Tryz.sortPl:Go.Proofs.SlLaysF0.n6 Tryz.prog Tryz.YM:={
 mixed:=by kernel_rfl
 f6:=⟨Tryz.f73.name,by decide,Tryz.func73.trans (congrArg some (by kernel_rfl))⟩
 f14:=⟨Tryz.f103.name,by decide,Tryz.func103.trans (congrArg some (by kernel_rfl))⟩
 f15:=Tryz.func104.trans (congrArg some (by kernel_rfl))
 f20:=⟨Tryz.f144.name,by decide,Tryz.func144.trans (congrArg some (by kernel_rfl))⟩
 f21:=⟨Tryz.f145.name,by decide,Tryz.func145.trans (congrArg some (by kernel_rfl))⟩
 f22:=⟨Tryz.f146.name,by decide,Tryz.func146.trans (congrArg some (by kernel_rfl))⟩
 f23:=⟨Tryz.f147.name,by decide,Tryz.func147.trans (congrArg some (by kernel_rfl))⟩
 f24:=⟨Tryz.f148.name,by decide,Tryz.func148.trans (congrArg some (by kernel_rfl))⟩
 f25:=⟨Tryz.f149.name,by decide,Tryz.func149.trans (congrArg some (by kernel_rfl))⟩
 f26:=⟨Tryz.f150.name,by decide,Tryz.func150.trans (congrArg some (by kernel_rfl))⟩
 f27:=⟨Tryz.f151.name,by decide,Tryz.func151.trans (congrArg some (by kernel_rfl))⟩
 f28:=Tryz.func152.trans (congrArg some (by kernel_rfl))
 f29:=Tryz.func153.trans (congrArg some (by kernel_rfl))
 f46:=⟨Tryz.f183.name,by decide,Tryz.func183.trans (congrArg some (by kernel_rfl))⟩
 f47:=Tryz.func184.trans (congrArg some (by kernel_rfl))
 f48:=Tryz.func185.trans (congrArg some (by kernel_rfl))
 f49:=⟨Tryz.f186.name,by decide,Tryz.func186.trans (congrArg some (by kernel_rfl))⟩
 f50:=⟨Tryz.f187.name,by decide,Tryz.func187.trans (congrArg some (by kernel_rfl))⟩
 f57:=⟨Tryz.f205.name,by decide,Tryz.func205.trans (congrArg some (by kernel_rfl))⟩
 t0:=Tryz.underlying0
 a0:=Tryz.isAgg0
 z0:=Tryz.sizeOf0
 v0:=Tryz.zeroValue0
 t3:=Tryz.underlying3
 a3:=Tryz.isAgg3
 z3:=Tryz.sizeOf3
 v3:=Tryz.zeroValue3
 t4:=Tryz.underlying4
 a4:=Tryz.isAgg4
 z4:=Tryz.sizeOf4
 v4:=Tryz.zeroValue4
 t5:=Tryz.underlying5
 a5:=Tryz.isAgg5
 z5:=Tryz.sizeOf5
 v5:=Tryz.zeroValue5
 t9:=Tryz.underlying9
 a9:=Tryz.isAgg9
 z9:=Tryz.sizeOf9
 v9:=Tryz.zeroValue9
 t22:=Tryz.underlying108
 a22:=Tryz.isAgg108
 z22:=Tryz.sizeOf108
 v22:=Tryz.zeroValue108
 t25:=Tryz.underlying156
 a25:=Tryz.isAgg156
 z25:=Tryz.sizeOf156
 v25:=Tryz.zeroValue156
 t39:=Tryz.underlying200
 a39:=Tryz.isAgg200
 z39:=Tryz.sizeOf200
 v39:=Tryz.zeroValue200
 t45:=Tryz.underlying256
 a45:=Tryz.isAgg256
 z45:=Tryz.sizeOf256
 v45:=Tryz.zeroValue256
 t46:=Tryz.underlying257
 a46:=Tryz.isAgg257
 z46:=Tryz.sizeOf257
 v46:=Tryz.zeroValue257
 t50:=Tryz.underlying132
 a50:=Tryz.isAgg132
 z50:=Tryz.sizeOf132
 v50:=Tryz.zeroValue132
 t53:=Tryz.underlying263
 a53:=Tryz.isAgg263
 z53:=Tryz.sizeOf263
 v53:=Tryz.zeroValue263
 t55:=Tryz.underlying265
 a55:=Tryz.isAgg265
 z55:=Tryz.sizeOf265
 v55:=Tryz.zeroValue265
 t66:=Tryz.underlying290
 a66:=Tryz.isAgg290
 z66:=Tryz.sizeOf290
 v66:=Tryz.zeroValue290
 t70:=Tryz.underlying294
 a70:=Tryz.isAgg294
 z70:=Tryz.sizeOf294
 v70:=Tryz.zeroValue294
 t76:=Tryz.underlying313
 a76:=Tryz.isAgg313
 z76:=Tryz.sizeOf313
 v76:=Tryz.zeroValue313
 t77:=Tryz.underlying314
 a77:=Tryz.isAgg314
 z77:=Tryz.sizeOf314
 v77:=Tryz.zeroValue314 }
end Go.Proofs
end
section
namespace Go.Proofs.YtdhfpgjnjlcciaaGreatDoor.Co
open Go.Shelf Go.RowKit Go.Lib Go.Sort Go.Proofs.YtdhfpgjnjlcciaaGreatDoor.Fa
def cmpP (x y:Key):Int:=orL [cmpB x.e y.e,cmpB x.a y.a,cmpB x.p y.p]
theorem vL (x y:Key):cmpP x y=cmpK (plc x) (plc y):=by
 have h1:cmpB (plc x).f (plc y).f=0:=(yw.eq0 _ _).2 rfl
 have h2:cmpI (plc x).m (plc y).m=0:=(Vb.eq0 _ _).2 rfl
 unfold cmpK
 rw [h1,h2]
 show orL [cmpB x.e y.e,cmpB x.a y.a,cmpB x.p y.p]=orI (cmpB x.e y.e) (orI (cmpB x.a y.a) (orI 0 (orI (cmpB x.p y.p) 0)))
 generalize cmpB x.e y.e=a
 generalize cmpB x.a y.a=b
 generalize cmpB x.p y.p=c
 unfold orI orL orL orL orL
 rw [if_pos rfl]
theorem swoP:SWO (ltOf cmpP) where
 irrefl x:=by unfold ltOf;rw [vL];exact decide_eq_false (xx _)
 trans x y z h1 h2:=by
  unfold ltOf at *
  rw [decide_eq_true_eq,vL] at *
  exact yg h1 h2
 ntrans x y z h1 h2:=by
  unfold ltOf at *
  rw [decide_eq_false_iff_not,vL] at *
  intro h
  by_cases e:plc x=plc y
  ·rw [e] at h;exact h2 h
  ·exact h2 (yg (ZY h1 e) h)
theorem zis (w:World) (t:TypeId) (a b c:Int) (i:Nat) (x:Int) (hx:[a,b,c][i]?=some x):(w.alloc (.cells #[.int .i64 a,.int .i64 b,.int .i64 c] t)).cell? ⟨w.heap.size,i,none⟩=some (.int .i64 x):=by
 rw [cell_of_row _ w.heap.size i _ t (0,0) (heap_alloc_new w _)]
 match i,hx with
 | 0,hx=>simp at hx;subst hx;rfl
 | 1,hx=>simp at hx;subst hx;rfl
 | 2,hx=>simp at hx;subst hx;rfl
set_option maxHeartbeats 4000000 in
set_option maxRecDepth 100000 in
theorem kE (x y:Key) (w:World) :
 Calls Tryz.prog 74 #[aggP x,aggP y] w fun e w'=>e=.returned (.int .i64 (cmpP x y))∧Grew w w':=by
 obtain ⟨r,hr⟩:∃ r,cmpP x y=r:=⟨_,rfl⟩
 have hA:orL [cmpB x.e y.e,cmpB x.a y.a,cmpB x.p y.p]=r:=hr
 rw [hr]
 have HA:=Lib.hid hA
 clear hr hA
 obtain ⟨W1,hW1⟩:∃ W1,(w.alloc (.cells #[.string x.e,.string x.a,.string x.p] 91)).alloc (.cells #[.string y.e,.string y.a,.string y.p] 91)=W1:=⟨_,rfl⟩
 obtain ⟨W2,hW2⟩:∃ W2,W1.drew=W2:=⟨_,rfl⟩
 have bx:BoxE encP W2 w.heap.size 91 x:=by
  rw [←hW2,←hW1]
  have hb:=(RowKit.Below.refl (w.alloc (.cells #[.string x.e,.string x.a,.string x.p] 91)).heap.size (w.alloc (.cells #[.string x.e,.string x.a,.string x.p] 91))).alloc (Nat.le_refl _) (.cells #[.string y.e,.string y.a,.string y.p] 91)
  exact (BoxE.new encP w x 91).kept ⟨hb.os,hb.tape,hb.output,hb.size,hb.block⟩
 have bY:BoxE encP W2 (w.heap.size+1) 91 y:=by
  rw [←hW2,←hW1]
  have:=BoxE.new encP (w.alloc (.cells #[.string x.e,.string x.a,.string x.p] 91)) y 91
  rw [World.size_alloc] at this
  exact this
 have HG:Hid (Grew w W2):=Lib.hid (by
  rw [←hW2,←hW1]
  exact (((Grew.refl w).alloc _).alloc _).drew)
 obtain ⟨k0,k1,k2⟩:=place3 bx.at0
 obtain ⟨j0,j1,j2⟩:=place3 bY.at0
 simp only [Nat.zero_add] at k0 k1 k2 j0 j1 j2
 clear bx bY
 go_enter Tryz.func74,Tryz.ntmps74
 go_wp2_with fail
 refine wp_region_still_tail 15 (by kernel_rfl) (by kernel_rfl) ?_
 simp only [List.take_succ_cons,List.take_zero,List.drop_succ_cons,List.drop_zero]
 rw [show ({ heap:=W1.heap,tape:=W1.tape,drawn:=W1.drawn+1,os:=W1.os,output:=W1.output }:World)=W2 from hW2]
 clear hW1 hW2
 repeat still_step
 still_call (qM _ _ _)
 repeat still_step
 still_call (qM _ _ _)
 repeat still_step
 still_call (qM _ _ _)
 refine wpStill_nil ?_
 go_wp2_with (go_at_call 105;refine (Z3 _ 3 _ _ rfl (by decide) (zis _ _ _ _ _)).mono ?_;rintro e w' ⟨rfl,rfl⟩)
 go_ret
 exact ⟨by rw [←HA.out];rfl,HG.out.alloc _⟩
theorem zd8 (blk off size:Nat) (w:World):CmpLays Tryz.prog 74 #[] encP.cs 3 cmpP blk off size w :=
 fun _ _ _ _ x y=>kE x y _
section
variable {α:Type} [Inhabited α] {E:Enc α}
theorem YT {w:World} {B e g n c:Nat} {L:List α} (h:w.ownsRow B e E.k (.slice (some ⟨g,0,none⟩) n c) L.length (flat E L)):HoldsK E.cs E.k w g 0 L.toArray:=by
 have h0:=h
 rcases h.2 with ⟨e0,_⟩ | ⟨g',cap,cur,e0,_,hh,_⟩
 ·cases e0
 ·cases e0
  intro t ht
  rw [size_flatK,List.size_toArray] at ht
  have hp:=E.pos
  have hi:t / E.k < L.length:=Nat.div_lt_of_lt_mul (by rw [Nat.mul_comm];exact ht)
  rw [get_flatK _ _ _ _ (by rw [List.size_toArray];exact ht)]
  have hj:t % E.k < (E.cs L[t / E.k]).length:=by rw [E.len];exact Nat.mod_lt _ hp
  refine ⟨?_,by simp [World.frozen?,hh]⟩
  have:=h0.cells (g:=g) rfl _ _ (jj L (t / E.k) _ (List.getElem?_eq_getElem hi) (t % E.k) _ (List.getElem?_eq_getElem hj))
  rw [zl] at this
  have e:0+(t / E.k * E.k+t % E.k)=0+t:=by rw [Nat.mul_comm,Nat.div_add_mod]
  rw [e] at this
  rw [this]
  have ea:(L.toArray)[t / E.k]! = L[t / E.k]:=by rw [getElem!_pos _ _ (by simpa using hi)];simp
  rw [ea,getElem!_pos (E.cs L[t / E.k]) (t % E.k) hj]
  rfl
theorem zc5 {w W:World} {B e g n c:Nat} {L:List α} {d:Array α} (h:w.ownsRow B e E.k (.slice (some ⟨g,0,none⟩) n c) L.length (flat E L)) (hS:SWK E.cs E.k w g 0 d W) (hd:d.size=L.length) (hg:g < w.heap.size) :
 W.ownsRow B e E.k (.slice (some ⟨g,0,none⟩) n c) L.length (flat E d.toList):=by
 have hH:=hS.holds hg (YT h) (by rw [hd];simp)
 rcases h.2 with ⟨e0,_⟩ | ⟨g',cap,cur,e0,hB,hh,h1,h2,h3,h4⟩
 ·cases e0
 ·cases e0
  obtain ⟨cur',hc',hs'⟩:∃ cur',W.heap[g]?=some (.cells cur' e (0,0))∧cur'.size=cur.size:=by
   obtain ⟨q,os,rfl⟩:=hS
   unfold sortWorldK putRowK
   rw [heap_grow_old _ _ (by simp [putRow,mapBlock,Sort.ahead];exact hg)]
   simp [putRow,mapBlock,Sort.ahead,Array.getElem?_modify,hh,onCells,putCells]
  refine ⟨by rw [qv];simp [hd],.inr ⟨g,c,cur',rfl,hB,hc',h1,h2,by rw [hs',h3],?_⟩⟩
  apply List.ext_getElem?
  intro j
  by_cases hj:j < L.length * E.k
  ·have hp:=E.pos
   have hi:j / E.k < d.size:=by rw [hd];exact Nat.div_lt_of_lt_mul (by rw [Nat.mul_comm];exact hj)
   have hjd:j < d.size * E.k:=by rw [hd];exact hj
   have c1:=(hH j (by rw [size_flatK];exact hjd)).1
   rw [get_flatK _ _ _ _ hjd,cell_of_row _ g _ _ _ _ hc',Nat.zero_add] at c1
   have hm:j % E.k < (E.cs d[j / E.k]).length:=by rw [E.len];exact Nat.mod_lt _ hp
   have ea:d[j / E.k]! = d[j / E.k]:=getElem!_pos d (j / E.k) hi
   rw [ea,getElem!_pos (E.cs d[j / E.k]) (j % E.k) hm] at c1
   have f1:=jj d.toList (j / E.k) d[j / E.k] (by simp [hi]) (j % E.k) _ (List.getElem?_eq_getElem hm)
   rw [Nat.mul_comm,Nat.div_add_mod] at f1
   rw [f1,List.getElem?_take,if_pos hj]
   simpa using c1
  ·rw [List.getElem?_eq_none (by rw [List.length_take];omega),List.getElem?_eq_none (by rw [qv];simp [hd];omega)]
end
theorem aE:∀ w,(isAgg 91).run Tryz.prog w=.ok true w:=Tryz.isAgg91
theorem zE:∀ w,(Go.sizeOf 91).run Tryz.prog w=.ok 3 w:=Tryz.sizeOf91
def Rises (L:List Key):Prop:=L.Pairwise fun x y=>¬ cmpP y x < 0
theorem zhS {d:Array Key} (h:SortedIn (ltOf cmpP) 0 d.size d):Rises d.toList:=by
 unfold Rises
 rw [List.pairwise_iff_getElem]
 intro i j hi hj hij
 have hj':j < d.size:=by simpa using hj
 have:=h i j (Nat.zero_le _) hij hj'
 unfold ltOf at this
 rw [decide_eq_false_iff_not,getElem!_pos d j hj',getElem!_pos d i (by omega)] at this
 simpa using this
theorem zhJ {d d':Array Key} (h:PermIn 0 d.size d d'):d'.toList.Perm d.toList:=by
 obtain ⟨h1,_,h3⟩:=h
 have e1:d'.extract 0 d.size=d':=by rw [←h1];simp
 have e2:d.extract 0 d.size=d:=by simp
 rw [e1,e2] at h3
 exact h3
set_option maxHeartbeats 2000000 in
theorem ziU (w:World) (B e g c:Nat) (L:List Key) (h:w.ownsRow B e 3 (.slice (some ⟨g,0,none⟩) L.length c) L.length (flat encP L)) (hg:g < w.heap.size) (hL:L.length≤1000) :
 Calls Tryz.prog 73 #[.slice (some ⟨g,0,none⟩) L.length c,.func (.func 74) #[] #[]] w fun en w' =>
  en=.returned (.tuple #[])∧∃ L',L'.Perm L∧Rises L'∧w'.ownsRow B e 3 (.slice (some ⟨g,0,none⟩) L.length c) L.length (flat encP L')∧w.grownBy w' (some g):=by
 have hcon:=AnyQ.slices_SortFunc Tryz.sortPl 3 aE zE encP.cs encP.len encP.one cmpP swoP 74 #[] g 0 c L.toArray w (enters_of Tryz.func74 (by kernel_rfl) rfl) (zd8 g 0 _ w) (YT (E:=encP) h) hg (by simp;omega)
 simp only [List.size_toArray] at hcon
 refine Calls.mono hcon ?_
 rintro en w' ⟨rfl,d',n,os,hp,hs,rfl⟩
 have hsz:d'.size=L.length:=by have:=hp.1;simpa using this
 have hS:SWK encP.cs 3 w g 0 d' (sortWorldK encP.cs 3 w g 0 n d' os):=⟨n,os,rfl⟩
 refine ⟨rfl,d'.toList,?_,?_,zc5 (E:=encP) h hS hsz hg,?_⟩
 ·have:=zhJ (d:=L.toArray) (d':=d') (by simpa using hp)
  simpa using this
 ·exact zhS (by rw [hsz];exact hs)
 ·unfold sortWorldK putRowK
  refine ⟨rfl,rfl,rfl,by simp [putRow,mapBlock,Sort.ahead,grow],fun k hk hne=>?_⟩
  rw [heap_grow_old _ _ (by simp [putRow,mapBlock,Sort.ahead];exact hk)]
  have:g≠k:=fun e=>hne (by rw [e])
  simp [putRow,mapBlock,Sort.ahead,Array.getElem?_modify,this]
set_option maxHeartbeats 1000000 in
theorem zds (p:Option Addr) (c:Nat) (f:Value) (w:World):Calls Tryz.prog 144 #[.slice p 0 c,.int .i64 0,.int .i64 0,f] w fun e w'=>e=.returned (.tuple #[])∧w'=w:=by
 go_enter Tryz.func144,Tryz.ntmps144
 go_wp2
 refine wp_loop_rounds 1 ?_
 rw [rounds_succ]
 go_wp2
 go_end0
 exact ⟨rfl,rfl⟩
set_option maxHeartbeats 1000000 in
theorem zfs (p:Option Addr) (c:Nat) (n:Int) (f:Value) (w:World):Calls Tryz.prog 103 #[.slice p 0 c,.int .i64 0,.int .i64 0,.int .i64 n,f] w fun e w'=>e=.returned (.tuple #[])∧w'=w:=by
 go_enter Tryz.func103,Tryz.ntmps103
 go_wp2
 refine wp_loop_rounds 1 ?_
 rw [rounds_succ]
 go_wp2_with fail
 refine (zds _ _ _ _).mono ?_
 rintro e w' ⟨rfl,rfl⟩
 go_wp2
 refine bodyPost_ret (results_none rfl _ _ _) rfl ?_
 exact ⟨rfl,rfl⟩
set_option maxHeartbeats 1000000 in
theorem zb6 (p:Option Addr) (c:Nat) (f:Value) (w:World):Calls Tryz.prog 73 #[.slice p 0 c,f] w fun e w'=>e=.returned (.tuple #[])∧w'=w:=by
 have hl:Calls Tryz.prog 104 #[.int .u64 0] w fun e w'=>e=.returned (.int .i64 (Lib.bitLen 0:Nat))∧w'=w:=Any.bits_Len (SlLaysF0.n15.bits (P:=Tryz.prog) (ρ:=Tryz.YM) { Tryz.sortPl with }) 0 w (by omega) (by omega)
 go_enter Tryz.func73,Tryz.ntmps73
 go_wp2_with fail
 refine hl.mono ?_
 rintro e w' ⟨rfl,rfl⟩
 go_wp2_with fail
 refine (zfs _ _ _ _ _).mono ?_
 rintro e w' ⟨rfl,rfl⟩
 go_wp2
 go_end0
 exact ⟨rfl,rfl⟩
end Go.Proofs.YtdhfpgjnjlcciaaGreatDoor.Co
end
section
namespace Go.Proofs.YtdhfpgjnjlcciaaGreatDoor
open Go.RowKit
section
variable {P:Program} {md:Region.Mode} {ops:Array Oper} {Q:Exit→Act→World→Prop} {S:World→Prop}
def xK (ops:Array Oper):Bool:=ops.toList.all fun o=>match o.op with | .defer _=>false | _=>true
theorem zcI {i:Nat} {o:Oper} (h:xK ops=true) (ho:ops[i]?=some o):∀ c,o.op≠.defer c:=by
 intro c e
 unfold xK at h
 rw [List.all_eq_true] at h
 have:=h o (by rw [←Array.getElem?_toList] at ho;exact List.mem_of_getElem? ho)
 rw [e] at this
 cases this
theorem zfn {n:Nat} {row:String} {args:Array Value} {w:World} {R:Value→World→Prop} (l:Nat) (h:Rows P row args w R):RowsIn (Fence.wide.inRound l) n P row args w R :=
 fun c cs _=>let ⟨v,w',r,s⟩:=h c cs;⟨v,w',r,stepsIn_wide.2 s⟩
theorem zb0 {n i:Nat} {K:Act→World→Prop} {a:Act} {w:World} (l:Nat) (hd:xK ops=true) (hQ:¬ LetsOut Q) (h:wpOp P ops Q i K a w):wpOpIn (Fence.wide.inRound l) n P ops Q i K a w:=by
 unfold wpOp at h
 unfold wpOpIn
 cases ho:ops[i]? with
 | none=>simp only [ho] at h ⊢;exact h
 | some o =>
   simp only [ho] at h ⊢
   split at h
   ·rename_i hw
    rw [if_pos hw]
    rcases h with h | h
    ·refine ⟨fun _ _=>trivial,?_⟩
     rw [show (Fence.wide.inRound l).round=some l from rfl,Oper.semAt_some l _ _ (zcI hd ho)]
     unfold Oper.wp at h
     generalize (execOp a.eval o).run P w=r at *
     cases r with
     | ok x w' =>
       cases x <;> simp only [Oper.upon,Oper.uponIn] at h ⊢
       case value u=>exact h
       case skip=>exact h
       case defer d=>exact h
       case enter f args=>exact ⟨fun e=>(by cases e),CallsIn.inRound l (callsIn_wide.2 h)⟩
       case row row args=>exact ⟨fun e=>(by cases e),zfn l h⟩
     | halt x w' =>
       cases x <;> simp only [Oper.upon,Oper.uponIn] at h ⊢
       case panic u=>exact h
    ·exact absurd h.2 hQ
   ·rename_i hw
    rw [if_neg hw]
    exact ⟨fun _ _=>trivial,h⟩
theorem Xl {n:Nat} (l:Nat) (hd:xK ops=true) (hQ:¬ LetsOut Q):∀ (fuel:Nat) (listed:Array Bool) (a:Act) (w:World),wpAny P md ops Q fuel listed a w→wpAnyIn (Fence.wide.inRound l) n P md ops Q fuel listed a w
 | 0,_,_,_,h=>h
 | fuel+1,_,_,_,h=>⟨h.1,fun i hi=>zb0 l hd hQ (wpOp_mono (fun a' w' h'=>Xl l hd hQ fuel _ a' w' h') (h.2 i hi))⟩
theorem zf9 {id n:Nat} {l:List Oper} {a:Act} {w:World} (lp:Nat) (p:Plan) (hm:P.follows .mixedOrders=true)
 (hs:(Region.noSelect l.toArray && planB .any l.toArray p (Array.replicate l.toArray.size false) && (planN p==l.toArray.size) && xK l.toArray)=true)
 (hQ:∀ d v c a w,Q (.panic c) (Act.put a d v) w→Q (.panic c) a w) (hO:¬ LetsOut Q) (hS:S w.drew)
 (h:wpPlan P l Q S p a w.drew):(Code.region id l.toArray true).wpIn (Fence.wide.inRound lp) n P Q a w:=by
 simp only [Bool.and_eq_true,beq_iff_eq] at hs
 refine wpIn_region_any hm (Xl lp hs.2 hO _ _ _ _ ?_)
 have:=wpAny_of_held _ _ _ _ (xk (P:=P) hs.1.1.1 hQ p _ a w.drew hs.1.1.2 (S:=S) hS h)
 rw [hs.1.2] at this
 exact this
end
end Go.Proofs.YtdhfpgjnjlcciaaGreatDoor
end
section
namespace Go.Proofs.YtdhfpgjnjlcciaaGreatDoor.Co
open Go.RowKit Go.Shelf Go.Proofs.YtdhfpgjnjlcciaaGreatDoor.Un Go.Proofs.YtdhfpgjnjlcciaaGreatDoor.Fa Go.Proofs.YtdhfpgjnjlcciaaGreatDoor.Pk
attribute [local go_sem] Oper.semAt_some
def pls (l:List CF):List Key:=l.map fun x=>plc x.f.key
theorem QM (l:List CF) (x:CF):pls (l++[x])=pls l++[plc x.f.key]:=by simp [pls]
theorem YV (l:List CF):∀ k∈pls l,plc k=k:=by
 intro k hk
 obtain ⟨x,_,rfl⟩:=List.mem_map.1 hk
 rfl
theorem JE:∀ (L:List Key) (l:Option Key) (k:Key),k∈uniqF l L→k∈L
 | [],_,_,h=>by cases h
 | a::r,l,k,h=>by
   unfold uniqF at h
   split at h
   ·exact List.mem_cons_of_mem _ (JE r l k h)
   ·rcases List.mem_cons.1 h with rfl | h
    ·exact List.mem_cons_self
    ·exact List.mem_cons_of_mem _ (JE r _ k h)
theorem Q7:∀ (L:List Key) (l:Option Key) (k:Key),k∈L→k∈uniqF l L∨l=some k
 | [],_,_,h=>by cases h
 | a::r,l,k,h=>by
   unfold uniqF
   split
   ·rename_i e
    rcases List.mem_cons.1 h with rfl | h
    ·exact .inr e
    ·exact Q7 r l k h
   ·rcases List.mem_cons.1 h with rfl | h
    ·exact .inl List.mem_cons_self
    ·rcases Q7 r (some a) k h with h1 | h1
     ·exact .inl (List.mem_cons_of_mem _ h1)
     ·cases h1;exact .inl List.mem_cons_self
theorem Qi:∀ (L:List Key) (l:Option Key),Rises L→(∀ k∈L,plc k=k)→(∀ a,l=some a→plc a=a∧∀ k∈L,¬ cmpP k a < 0)→Rise (uniqF l L)∧∀ a,l=some a→∀ k∈uniqF l L,ltK a k
 | [],_,_,_,_=>⟨List.Pairwise.nil,fun _ _ _ h=>by cases h⟩
 | b::r,l,hr,hp,hl=>by
   obtain ⟨h1,h2⟩:=List.pairwise_cons.1 hr
   have hb:=hp b List.mem_cons_self
   have hpr:∀ k∈r,plc k=k:=fun k hk=>hp k (List.mem_cons_of_mem _ hk)
   unfold uniqF
   split
   ·rename_i e
    exact Qi r l h2 hpr fun a ea=>⟨(hl a ea).1,fun k hk=>(hl a ea).2 k (List.mem_cons_of_mem _ hk)⟩
   ·rename_i e
    obtain ⟨i1,i2⟩:=Qi r (some b) h2 hpr fun a ea=>by cases ea;exact ⟨hb,h1⟩
    refine ⟨List.pairwise_cons.2 ⟨i2 b rfl,i1⟩,fun a ea k hk=>?_⟩
    have hab:ltK a b:=by
     have hn:=(hl a ea).2 b List.mem_cons_self
     rw [vL,hb,(hl a ea).1] at hn
     exact ZY hn fun e'=>e (by rw [ea,e'])
    rcases List.mem_cons.1 hk with rfl | hk
    ·exact hab
    ·exact yg hab (i2 b rfl k hk)
def zH (M:Mast) (c:List Fact):List Key:=places (c.filter fun f=>cnt M f.key)
theorem zez (M:Mast) (c:List Fact):pls (cfs M (fun _=>true) c)=(c.filter fun f=>cnt M f.key).map fun f=>plc f.key:=by
 unfold pls cfs
 rw [List.map_map]
 simp only [Bool.true_and]
 rfl
theorem Kr {M:Mast} {c:List Fact} {S:List Key} (hp:S.Perm (pls (cfs M (fun _=>true) c))) (hr:Rises S):uniq S=zH M c:=by
 have hpl:∀ k∈S,plc k=k:=fun k hk=>YV _ k (hp.mem_iff.1 hk)
 obtain ⟨h1,_⟩:=Qi S none hr hpl fun a e=>by cases e
 refine xW xx yg h1 (j9 _) fun k=>?_
 unfold zH
 rw [vm]
 have hm:k∈uniq S ↔ k∈S:=⟨JE S none k,fun h=>(Q7 S none k h).resolve_right (by simp)⟩
 rw [hm,hp.mem_iff,zez,List.mem_map]
theorem zgF (M:Mast) (q:Key→Bool) (c:List Fact):(cfs M q c).length≤c.length:=by
 unfold cfs
 rw [List.length_map]
 exact List.length_filter_le _ _
theorem infoP:InfoE Tryz.prog 108 91 encP:=.of (z:=.agg #[.string ⟨#[]⟩,.string ⟨#[]⟩,.string ⟨#[]⟩]) (n:=48) Tryz.underlying108 (by kernel_rfl) rfl (by decide)
set_option maxHeartbeats 400000 in
theorem zbr (k:Key) (w:World):Calls Tryz.prog 72 #[Fa.aggK k] w fun en w'=>en=.returned (.bool true)∧Below w.heap.size w w':=by
 have HB:=Lib.hid ((Below.refl w.heap.size w).alloc (Nat.le_refl _) (.cells #[.string k.e,.string k.a,.string k.f,.string k.p,.int .i64 k.m] 74))
 go_enter Tryz.func72,Tryz.ntmps72
 go_wp2
 go_ret
 exact ⟨rfl,HB.out⟩
def PlI (n0 hi:Nat) (pre:List CF) (W:World):Prop :=
 ∃ v,Boxed W (n0+1) 108 v∧W.ownsRow hi 91 3 v (pls pre).length (flat encP (pls pre))∧hi≤W.heap.size
theorem zgR (n0 hi:Nat):Own (PlI n0 hi):=by
 rintro s X Y row ⟨v,hv,hr,hh⟩ hg hrow
 refine ⟨v,hv.kept hg fun e'=>?_,yu hr hg hrow,Nat.le_trans hh hg.size⟩
 obtain ⟨o,ho,hc⟩:=hrow _ e'.symm
 rw [show X.heap[n0+1]?=_ from hv] at ho;cases ho;cases hc
theorem JP {n0 hi B0:Nat} {W4 w5 w9:World} {v v':Value} {A:List Key} {y:Key} (hv:Boxed W4 (n0+1) 108 v) (hr:W4.ownsRow hi 91 3 v A.length (flat encP A)) (hhi:hi≤W4.heap.size) (hn:n0+2≤hi) (hb5:Below W4.heap.size W4 w5)
 (hr9:w9.ownsRow hi 91 3 v' (A++[y]).length (flat encP (A++[y]))) (hg9:(w5.alloc (.cells #[.string y.e,.string y.a,.string y.p] 91)).grownBy w9 v.ownBlock) :
 KeepsFrom B0 W4 (w9.setCell ⟨n0+1,0,none⟩ v')∧KpC n0 (n0+2) hi W4 (w9.setCell ⟨n0+1,0,none⟩ v')∧Boxed (w9.setCell ⟨n0+1,0,none⟩ v') (n0+1) 108 v'∧(w9.setCell ⟨n0+1,0,none⟩ v').ownsRow hi 91 3 v' (A++[y]).length (flat encP (A++[y]))∧Below n0 W4 (w9.setCell ⟨n0+1,0,none⟩ v')∧hi≤(w9.setCell ⟨n0+1,0,none⟩ v').heap.size:=by
 have hv5:=zG hv hb5
 have hr5:=zu hr hb5
 have hs5:=hb5.size
 obtain ⟨_,h2,_,h4,h5⟩:=hv5.appended (n₀:=n0) (by decide) (zw hr5 (by omega)) (by omega) (by omega) (zw hr9 (by omega)) hg9
 have hr9':(w9.setCell ⟨n0+1,0,none⟩ v').ownsRow hi 91 3 v' (A++[y]).length (flat encP (A++[y])) :=
  hr9.kept (grownBy_setCell' w9 _ _) (.inr (((hv5.alloc _).kept hg9 (hv5.not_row (by decide) hr5)).not_row (by decide) hr9).symm)
 refine ⟨(yj B0 hb5).trans (h4.from _),⟨(hb5.mono (by omega)).trans h5,fun k hk1 hk2=>?_⟩,h2,hr9',(hb5.mono (by omega)).trans h5,by have:=h5.size;omega⟩
 have e0:=hb5.block k (by omega)
 have e1:=(World.grownBy_alloc w5 (.cells #[.string y.e,.string y.a,.string y.p] 91) none).block k (by omega) (by simp)
 have e2:=hg9.block k (by simp;omega) (Vn hr5 hk2)
 have e3:=(grownBy_setCell' w9 (n0+1) v').block k (by have:=hg9.size;simp at this;omega) (by simp;omega)
 exact e3.trans (e2.trans (e1.trans e0))
theorem zeI {α:Type} {E:Enc α} {W:World} {b:Nat} {t e:TypeId} {a:α} (h:BoxE E W b t a) (hte:t≠e) {base size k:Nat} {v:Value} {xs:List Value} (hr:W.ownsRow base e size v k xs):some b≠v.ownBlock:=by
 rcases hr.2 with ⟨rfl,_⟩ | ⟨g,cap,cur,rfl,_,hgb,_⟩
 ·simp [Value.ownBlock]
 ·intro e'
  simp only [Value.ownBlock,Option.some.injEq] at e'
  subst e'
  rw [show W.heap[b]?=_ from h] at hgb
  cases hgb
  exact hte rfl
set_option maxRecDepth 100000 in
set_option maxHeartbeats 8000000 in
theorem Vz (c f e l vc:Value) (M:Mast) (L:List Fact) (w:World) (hM:MastIn w c f e l M) (hr:riseK Fl.Flow.code M.flows=true) (hlf:M.flows.length≤1000) (hV:FactsV w vc L) (hL:L.length≤1000) :
 Calls Tryz.prog 44 #[aggM c f e l M,vc] w fun en w'=>∃ v,en=.returned v∧jM w' v (zH M L)∧Below w.heap.size w w':=by
 obtain ⟨pv,cp,rfl,_⟩:=id hV
 obtain ⟨N,hN⟩:∃ N,L.length=N:=⟨_,rfl⟩
 have HSH:=Lib.hid (Z5 hM)
 obtain ⟨pc,cc,pf,cf,pe,ce,pl,cl,rfl,rfl,rfl,rfl⟩:=shapes hM
 obtain ⟨W1,hW1⟩:∃ W1,w.alloc (.cells (cellsM (.slice pc M.chart.length cc) (.slice pf M.flows.length cf) (.slice pe M.ents.length ce) (.slice pl M.lines.length cl) M) 33)=W1:=⟨_,rfl⟩
 have hb1:Below w.heap.size w W1:=by rw [←hW1];exact (Below.refl _ w).alloc (Nat.le_refl _) _
 have hn1:NineAt W1 w.heap.size (.slice pc M.chart.length cc) (.slice pf M.flows.length cf) (.slice pe M.ents.length ce) (.slice pl M.lines.length cl) M:=by rw [←hW1];exact zM w _ _ _ _ M _
 have hs1:W1.heap.size=w.heap.size+1:=by rw [←hW1,World.size_alloc]
 obtain ⟨W2,hW2⟩:∃ W2,W1.alloc (.cells #[.slice none 0 0] 108)=W2:=⟨_,rfl⟩
 have hb12:Below W1.heap.size W1 W2:=by rw [←hW2];exact (Below.refl _ W1).alloc (Nat.le_refl _) _
 have hs2:W2.heap.size=w.heap.size+1+1:=by rw [←hW2,World.size_alloc,hs1]
 have hp2:Boxed W2 (w.heap.size+1) 108 (.slice none 0 0):=by rw [←hW2,←hs1];exact Boxed.new W1 _ _
 have HS1:=Lib.hid hs1
 have HB2:=Lib.hid (hb1.trans (hb12.mono hb1.size))
 have HN2:=Lib.hid (hn1.kept hb12)
 have HS2:=Lib.hid hs2
 have HP2:=Lib.hid hp2
 have HM:=Lib.hid hM
 have HR:=Lib.hid hr
 have HLF:=Lib.hid hlf
 have HV:=Lib.hid hV
 have HL:=Lib.hid hL
 have HNN:=Lib.hid hN
 have HLA:=Lib.hid (Nat.le_trans (zgF M (fun _=>true) L) hL)
 obtain ⟨all,hall⟩:∃ all,cfs M (fun _=>true) L=all:=⟨_,rfl⟩
 rw [hall] at HLA
 have HALL:=Lib.hid hall
 rw [hN]
 clear hL hV hlf hr hM hb1 hn1 hb12 hs1 hs2 hp2 hN hall
 obtain ⟨k0,k1,k2,k3,k4,k5,k6,k7,k8⟩:=HN2.out
 refine (callsIn_wide (n:=3)).1 ?_
 refine callsIn_of_wp_marks Tryz.func44 rfl trivial ?_ rfl
 simp only [Tryz.ntmps44,List.size_toArray,List.length_cons,List.length_nil,Nat.reduceAdd,Nat.reduceSub,Array.replicate_succ,Array.replicate_zero,List.push_toArray,List.append_toArray,List.nil_append,List.cons_append]
 gi_wp2_with fail
 clear k0 k1 k2 k3 k4 k5 k6 k7 k8 hW1 hW2
 rw [HS1.out]
 refine ⟨trivial,?_⟩
 refine (callsIn_wide.2 (QU _ _ _ _ M _ _ _ _ _ _ HSH.out)).mono ?_
 rintro en W3 ⟨rfl,h3⟩
 obtain ⟨hA,hs3,hb23⟩:=J2 (lo:=w.heap.size+2) HB2.out HB2.out.size h3
 have HI:Ins w.heap.size (w.heap.size+2) (W2.heap.size+3) (W2.heap.size+1) (W2.heap.size+1+1) W2.heap.size:=by
  have:=HS2.out
  exact ⟨by omega,by omega,by omega,by omega,by omega,by omega,by omega⟩
 have hq:∀ W,KpC w.heap.size (w.heap.size+2) (W2.heap.size+3) W3 W→∀ k,Calls Tryz.prog 72 (#[Fa.aggK k]++#[]) W fun en w'=>en=.returned (.bool ((fun _=>true) k))∧Below W.heap.size W w':=fun W hk k=>by
  rw [List.append_toArray]
  exact zbr k W
 rw [←HNN.out] at hA
 have hseq:=seqC (n1:=w.heap.size) (lo:=w.heap.size+2) (hi:=W2.heap.size+3) (w1:=w) (g:=72) (cb:=#[]) (q:=fun _=>true) rfl HM.out HR.out HLF.out HV.out HL.out HI hA (enters_of Tryz.func72 (by kernel_rfl) rfl) hq W3 (Below.refl _ _)
 rw [HALL.out] at hseq
 have HB3:=Lib.hid (HB2.out.trans (hb23.mono HB2.out.size))
 have HP3:=Lib.hid (zG HP2.out hb23)
 have HSEQ:=Lib.hid hseq
 obtain ⟨hi,hhi⟩:∃ hi,W2.heap.size+3=hi:=⟨_,rfl⟩
 rw [hhi] at HSEQ hs3
 have HS3:=Lib.hid hs3
 have HHN:Hid (w.heap.size+2≤hi):=Lib.hid (by have:=HS2.out;omega)
 clear h3 hA hs3 hb23 HI hq hseq HP2 hhi
 gi_wp2_with fail
 refine JK rfl (by decide) (gf:=67) (lb:=#[.pointer (some ⟨W2.heap.size+1,0,none⟩),.pointer (some ⟨W2.heap.size+1+1,0,none⟩),.pointer (some ⟨W2.heap.size,0,none⟩)]) rfl trivial (enters_of Tryz.func67 (by kernel_rfl) rfl) HSEQ.out jZ
  (fun W l o o' hl hlo _ _=>V6 W l o' (by have:=HS3.out;omega) (by have:=HB3.out.size;omega) (by have:=(Array.getElem?_eq_some_iff.1 hlo).1;have:=HB3.out.size;omega)) (fun _=>rfl)
  (fun pre W=>PlI w.heap.size hi pre W∧Below w.heap.size w W)
  (fun _ _ _=>False)
  (OwnFrom.and (Own.from (zgR _ _) _) (ownFrom_below (Nat.le_refl _) HB3.out.size))
  (fun c=>fun _ _ _ _ h _ _=>h)
  ⟨⟨_,HP3.out,World.ownsRow_nil _ _ _ _,by rw [HS3.out];exact Nat.le_refl _⟩,HB3.out⟩ ?_ ?_ ?_
 ·rintro lp pre x W hl ⟨⟨v0,hv,hr,hh⟩,hB⟩ ⟨r,hr2⟩
  have hbA:Below W.heap.size W (W.alloc (.cells #[.string x.f.key.e,.string x.f.key.a,.string x.f.key.f,.string x.f.key.p,.int .i64 x.f.key.m,.int .i64 x.f.amt,.int .i64 x.k,.int .i64 x.c] 100)):=(Below.refl W.heap.size W).alloc (Nat.le_refl _) _
  obtain ⟨p1,q1,m1,hv1⟩:=qn hr
  subst hv1
  have HBA:=Lib.hid hbA
  have HVA:=Lib.hid (zG hv hbA)
  have HRA:=Lib.hid (zu hr hbA)
  have HXA:=Lib.hid (BoxE.new encC W x 100)
  have HBW:=Lib.hid hB
  have HHW:=Lib.hid hh
  have HLP:Hid ((pls pre).length≤1000000):=Lib.hid (by
   have e1:=HLA.out
   rw [hr2] at e1
   unfold pls
   simp at e1 ⊢
   omega)
  clear hv hr hbA hB hh hr2
  unfold encsC
  gi_wp2_with fail
  refine ⟨yj _ HBA.out,jU HBA.out HHW.out (by have:=HBW.out.size;omega),?_⟩
  intro o o' hlo hoc
  obtain ⟨WA,hWA⟩:∃ WA,W.alloc (.cells #[.string x.f.key.e,.string x.f.key.a,.string x.f.key.f,.string x.f.key.p,.int .i64 x.f.key.m,.int .i64 x.f.amt,.int .i64 x.k,.int .i64 x.c] 100)=WA:=⟨_,rfl⟩
  rw [hWA] at HVA HRA HBA hlo
  have HXB:Hid (BoxE encC WA W.heap.size 100 x):=Lib.hid (by rw [←hWA];exact HXA.out)
  rw [hWA]
  obtain ⟨W4,hW4⟩:∃ W4,WA.putObj lp o'=W4:=⟨_,rfl⟩
  have HV4:Hid (Boxed W4 (w.heap.size+1) 108 (.slice p1 m1 q1)):=Lib.hid (by rw [←hW4];exact qj hlo hoc HVA.out)
  have HR4:Hid (W4.ownsRow hi 91 3 (.slice p1 m1 q1) (pls pre).length (flat encP (pls pre))):=Lib.hid (by rw [←hW4];exact yu HRA.out (grownBy_putObj' WA lp o') (fun r e=>by cases e;exact ⟨o,hlo,hoc⟩))
  have HB4:Hid (Below w.heap.size w W4):=Lib.hid (by
   rw [←hW4]
   exact (HBW.out.trans (HBA.out.mono HBW.out.size)).grown (grownBy_putObj' WA lp o') (by have:=HBW.out.size;have:=HBA.out.size;omega) (fun k e=>by cases e;have:=HB3.out.size;omega))
  have HX4:Hid (BoxE encC W4 W.heap.size 100 x):=Lib.hid (by
   rw [←hW4]
   have hne:lp≠W.heap.size:=fun e=>by
    have h1:=HXB.out
    unfold BoxE at h1
    rw [e,h1] at hlo
    cases hlo
    cases hoc
   exact (World.putObj_heap_other (fun e=>hne e.symm)).trans HXB.out)
  have HH4:Hid (hi≤W4.heap.size):=Lib.hid (by rw [←hW4];have:=HHW.out;have:=HBA.out.size;simp;omega)
  have HXH:Hid (hi≤W.heap.size):=HHW
  rw [hW4]
  clear HXB HXA HVA HRA hlo hoc hW4 hWA HBA
  gi_wp2_with fail
  obtain ⟨k0,k1,k2,k3,k4,_,_,_⟩:=cf8 HX4.out.at0
  simp only [Nat.zero_add] at k0 k1 k2 k3 k4
  have hok:W.heap.size≠w.heap.size+1∧some W.heap.size≠(Value.slice p1 m1 q1).ownBlock:=⟨by have:=HXH.out;have:=HHN.out;omega,zeI HX4.out (by decide) HR4.out⟩
  have t0:=fun q:Leave (fun j=>j≠w.heap.size+1∧some j≠(Value.slice p1 m1 q1).ownBlock) W4=>zJ k0 hok q
  have t1:=fun q:Leave (fun j=>j≠w.heap.size+1∧some j≠(Value.slice p1 m1 q1).ownBlock) W4=>zJ k1 hok q
  have t2:=fun q:Leave (fun j=>j≠w.heap.size+1∧some j≠(Value.slice p1 m1 q1).ownBlock) W4=>zJ k2 hok q
  have t3:=fun q:Leave (fun j=>j≠w.heap.size+1∧some j≠(Value.slice p1 m1 q1).ownBlock) W4=>zJ k3 hok q
  have t4:=fun q:Leave (fun j=>j≠w.heap.size+1∧some j≠(Value.slice p1 m1 q1).ownBlock) W4=>zJ k4 hok q
  clear k0 k1 k2 k3 k4 hok
  refine zf9 (S:=fun w'=>∃ q:Leave (fun j=>j≠w.heap.size+1∧some j≠(Value.slice p1 m1 q1).ownBlock) W4,w'=q.its) lp (.two [1,2,3] 0 (.one [] 4 (.one [] 5 (.one [] 6 (.one [] 7 (.last []))))) 4 (.two [] 0 (.one [] 5 (.one [] 6 (.one [] 7 (.last [])))) 5 (.one [] 0 (.one [] 6 (.one [] 7 (.last [])))))) (by kernel_rfl) (by kernel_rfl) (fun d _ _ _ _ h=>by cases d <;> exact h) (by rintro ⟨_,_,h⟩;exact h) ⟨⟨W4.drew,fun _ _ _=>rfl⟩,rfl⟩ ?_
  obtain ⟨wz,hwz⟩:∃ wz,W4.drew=wz:=⟨_,rfl⟩
  rw [hwz]
  have HQ:Hid (Below W4.heap.size W4 wz):=Lib.hid (by rw [←hwz];exact ⟨rfl,rfl,rfl,Nat.le_refl _,fun _ _=>rfl⟩)
  clear hwz
  simp only [wpPlan,pick,nth]
  repeat (go_big_quiet_step (fail))
  refine wpQuiet_nil ?_
  clear t0 t1 t2 t3 t4
  refine ⟨?_,?_⟩
  ·have c0:=(zG HV4.out HQ.out).cell
   intro K hK
   refine ze (by kernel_rfl) ?_
   go_big_op
   refine hK _ _ (zN fun j _ hjl=>HQ.out.block j hjl) ?_
   clear hK K c0
   refine wpQuiet_nil ?_
   intro K hK
   refine ze (by kernel_rfl) ?_
   go_big_op
   refine (Jn x.f.key _).mono ?_
   rintro en w5 ⟨rfl,hb5⟩
   have HB5:=Lib.hid (HQ.out.trans (hb5.mono HQ.out.size))
   refine hK _ _ (zN fun j _ hjl=>HB5.out.block j hjl) ?_
   clear hK K hb5
   refine wpQuiet_nil ?_
   intro K hK
   refine ze (by kernel_rfl) ?_
   go_big_op
   refine hK _ _ (zN fun j _ hjl=>(heap_alloc_old _ _ (by have:=HB5.out.size;omega)).trans (HB5.out.block j hjl)) ?_
   clear hK K
   refine wpQuiet_nil ?_
   intro K hK
   refine ze (by kernel_rfl) ?_
   refine xC (E:=encP) (.tmp 13) (.tmp 18) 108 91 rfl infoP hi (.slice p1 m1 q1) (pls pre) (plc x.f.key) w5.heap.size rfl ((zu HR4.out HB5.out).alloc _) rfl (zf encP w5 (plc x.f.key) _) (by have:=HB5.out.size;have:=HH4.out;simp;omega) HLP.out ?_
   intro v2 w9 hr9 hb9 hg9
   have hv5:=zG HV4.out HB5.out
   have hv9:=(hv5.alloc (.cells #[.string x.f.key.e,.string x.f.key.a,.string x.f.key.p] 91)).kept hg9 (hv5.not_row (by decide) (zu HR4.out HB5.out))
   have c9:=hv9.cell
   have f9:=hv9.frozen
   have HG9:=Lib.hid hg9
   have HEND:=Lib.hid (JP (B0:=W3.heap.size) (y:=plc x.f.key) HV4.out HR4.out HH4.out HHN.out HB5.out hr9 hg9)
   obtain ⟨p2,q2,m2,hv2⟩:=qn hr9
   subst hv2
   refine hK _ _ (zN fun j hj hjl=>?_) ?_
   ·rw [HG9.out.block j (by rw [World.size_alloc];have:=HB5.out.size;omega) (fun e0=>hj.2 e0)]
    exact (heap_alloc_old _ _ (by have:=HB5.out.size;omega)).trans (HB5.out.block j hjl)
   clear hK K hr9 hb9 hg9 hv5 hv9
   simp only [Act.put,List.setIfInBounds_toArray,List.set_cons_zero,List.set_cons_succ]
   refine wpQuiet_nil ?_
   intro K hK
   refine ze (by kernel_rfl) ?_
   go_big_op
   refine hK _ _ (zN fun j hj hjl=>?_) ?_
   ·rw [Below.heap_setCell _ _ _ _ (fun e0=>hj.1 e0),HG9.out.block j (by rw [World.size_alloc];have:=HB5.out.size;omega) (fun e0=>hj.2 e0)]
    exact (heap_alloc_old _ _ (by have:=HB5.out.size;omega)).trans (HB5.out.block j hjl)
   clear hK K c9 f9
   refine wpQuiet_nil ?_
   obtain ⟨e1,e2,e3,e4,e5,e6⟩:=HEND.out
   exact ⟨e1,e2,⟨_,e3,by rw [QM];exact e4,e6⟩,HB4.out.trans e5⟩
  ·intro K hK
   refine ze (by kernel_rfl) ?_
   go_big_op
   refine (Jn x.f.key _).mono ?_
   rintro en w5 ⟨rfl,hb5⟩
   have HB5:=Lib.hid (HQ.out.trans (hb5.mono HQ.out.size))
   refine hK _ _ (zN fun j _ hjl=>HB5.out.block j hjl) ?_
   clear hK K hb5
   refine wpQuiet_nil ?_
   refine ⟨?_,?_⟩
   ·have c0:=(zG HV4.out HB5.out).cell
    intro K hK
    refine ze (by kernel_rfl) ?_
    go_big_op
    refine hK _ _ (zN fun j _ hjl=>HB5.out.block j hjl) ?_
    clear hK K c0
    refine wpQuiet_nil ?_
    intro K hK
    refine ze (by kernel_rfl) ?_
    go_big_op
    refine hK _ _ (zN fun j _ hjl=>(heap_alloc_old _ _ (by have:=HB5.out.size;omega)).trans (HB5.out.block j hjl)) ?_
    clear hK K
    refine wpQuiet_nil ?_
    intro K hK
    refine ze (by kernel_rfl) ?_
    refine xC (E:=encP) (.tmp 13) (.tmp 18) 108 91 rfl infoP hi (.slice p1 m1 q1) (pls pre) (plc x.f.key) w5.heap.size rfl ((zu HR4.out HB5.out).alloc _) rfl (zf encP w5 (plc x.f.key) _) (by have:=HB5.out.size;have:=HH4.out;simp;omega) HLP.out ?_
    intro v2 w9 hr9 hb9 hg9
    have hv5:=zG HV4.out HB5.out
    have hv9:=(hv5.alloc (.cells #[.string x.f.key.e,.string x.f.key.a,.string x.f.key.p] 91)).kept hg9 (hv5.not_row (by decide) (zu HR4.out HB5.out))
    have c9:=hv9.cell
    have f9:=hv9.frozen
    have HG9:=Lib.hid hg9
    have HEND:=Lib.hid (JP (B0:=W3.heap.size) (y:=plc x.f.key) HV4.out HR4.out HH4.out HHN.out HB5.out hr9 hg9)
    obtain ⟨p2,q2,m2,hv2⟩:=qn hr9
    subst hv2
    refine hK _ _ (zN fun j hj hjl=>?_) ?_
    ·rw [HG9.out.block j (by rw [World.size_alloc];have:=HB5.out.size;omega) (fun e0=>hj.2 e0)]
     exact (heap_alloc_old _ _ (by have:=HB5.out.size;omega)).trans (HB5.out.block j hjl)
    clear hK K hr9 hb9 hg9 hv5 hv9
    simp only [Act.put,List.setIfInBounds_toArray,List.set_cons_zero,List.set_cons_succ]
    refine wpQuiet_nil ?_
    intro K hK
    refine ze (by kernel_rfl) ?_
    go_big_op
    refine hK _ _ (zN fun j hj hjl=>?_) ?_
    ·rw [Below.heap_setCell _ _ _ _ (fun e0=>hj.1 e0),HG9.out.block j (by rw [World.size_alloc];have:=HB5.out.size;omega) (fun e0=>hj.2 e0)]
     exact (heap_alloc_old _ _ (by have:=HB5.out.size;omega)).trans (HB5.out.block j hjl)
    clear hK K c9 f9
    refine wpQuiet_nil ?_
    obtain ⟨e1,e2,e3,e4,e5,e6⟩:=HEND.out
    exact ⟨e1,e2,⟨_,e3,by rw [QM];exact e4,e6⟩,HB4.out.trans e5⟩
   ·intro K hK
    refine ze (by kernel_rfl) ?_
    go_big_op
    refine hK _ _ (zN fun j _ hjl=>(heap_alloc_old _ _ (by have:=HB5.out.size;omega)).trans (HB5.out.block j hjl)) ?_
    clear hK K
    refine wpQuiet_nil ?_
    have c0:=((zG HV4.out HB5.out).alloc (.cells #[.string x.f.key.e,.string x.f.key.a,.string x.f.key.p] 91)).cell
    intro K hK
    refine ze (by kernel_rfl) ?_
    go_big_op
    refine hK _ _ (zN fun j _ hjl=>(heap_alloc_old _ _ (by have:=HB5.out.size;omega)).trans (HB5.out.block j hjl)) ?_
    clear hK K c0
    refine wpQuiet_nil ?_
    intro K hK
    refine ze (by kernel_rfl) ?_
    refine xC (E:=encP) (.tmp 13) (.tmp 18) 108 91 rfl infoP hi (.slice p1 m1 q1) (pls pre) (plc x.f.key) w5.heap.size rfl ((zu HR4.out HB5.out).alloc _) rfl (zf encP w5 (plc x.f.key) _) (by have:=HB5.out.size;have:=HH4.out;simp;omega) HLP.out ?_
    intro v2 w9 hr9 hb9 hg9
    have hv5:=zG HV4.out HB5.out
    have hv9:=(hv5.alloc (.cells #[.string x.f.key.e,.string x.f.key.a,.string x.f.key.p] 91)).kept hg9 (hv5.not_row (by decide) (zu HR4.out HB5.out))
    have c9:=hv9.cell
    have f9:=hv9.frozen
    have HG9:=Lib.hid hg9
    have HEND:=Lib.hid (JP (B0:=W3.heap.size) (y:=plc x.f.key) HV4.out HR4.out HH4.out HHN.out HB5.out hr9 hg9)
    obtain ⟨p2,q2,m2,hv2⟩:=qn hr9
    subst hv2
    refine hK _ _ (zN fun j hj hjl=>?_) ?_
    ·rw [HG9.out.block j (by rw [World.size_alloc];have:=HB5.out.size;omega) (fun e0=>hj.2 e0)]
     exact (heap_alloc_old _ _ (by have:=HB5.out.size;omega)).trans (HB5.out.block j hjl)
    clear hK K hr9 hb9 hg9 hv5 hv9
    simp only [Act.put,List.setIfInBounds_toArray,List.set_cons_zero,List.set_cons_succ]
    refine wpQuiet_nil ?_
    intro K hK
    refine ze (by kernel_rfl) ?_
    go_big_op
    refine hK _ _ (zN fun j hj hjl=>?_) ?_
    ·rw [Below.heap_setCell _ _ _ _ (fun e0=>hj.1 e0),HG9.out.block j (by rw [World.size_alloc];have:=HB5.out.size;omega) (fun e0=>hj.2 e0)]
     exact (heap_alloc_old _ _ (by have:=HB5.out.size;omega)).trans (HB5.out.block j hjl)
    clear hK K c9 f9
    refine wpQuiet_nil ?_
    obtain ⟨e1,e2,e3,e4,e5,e6⟩:=HEND.out
    exact ⟨e1,e2,⟨_,e3,by rw [QM];exact e4,e6⟩,HB4.out.trans e5⟩
 ·rintro D xs W hD hxs ⟨⟨v0,hv,hr,hh⟩,hB⟩ hK
  rw [hxs] at hr
  have hD4:w.heap.size≤D:=by have:=HB3.out.size;omega
  have c0:=hv.cell
  have HB:=Lib.hid hB
  have HK:=Lib.hid hK
  have HLL:Hid ((pls all).length≤1000):=Lib.hid (by unfold pls;rw [List.length_map];exact HLA.out)
  have hDn:∀ o u,W.cell? ⟨D,o,none⟩≠some u:=fun o u h=>by
   unfold World.cell? at h
   rw [hK] at h
   cases h
  rcases hr.2 with ⟨e0,hn0⟩ | ⟨g,cap,cur,e0,hg,hh2,hnc,hcm,hcs,hct⟩
  ·subst e0
   have HU:Hid (zH M L=[]):=Lib.hid (by
    have e1:pls all=[]:=List.eq_nil_of_length_eq_zero hn0
    have:=Kr (M:=M) (c:=L) (S:=[]) (by rw [HALL.out,e1]) List.Pairwise.nil
    exact this.symm)
   clear hn0 hr hh hB hK
   gi_wp2_with fail
   refine ⟨trivial,?_⟩
   refine (callsIn_wide.2 (zb6 _ _ _ _)).mono ?_
   rintro en w5 ⟨rfl,rfl⟩
   gi_wp2_with fail
   refine ⟨trivial,?_⟩
   refine (callsIn_wide.2 (zi9 _ _ _)).mono ?_
   rintro en w6 ⟨rfl,rfl⟩
   gi_wp2
   refine ⟨by simp,.inl ⟨_,_,rfl,run_takeDeferred HK.out,?_⟩⟩
   refine ⟨_,results_tmp rfl _ _ _,_,rfl,by rw [HU.out];exact ElsV.nil _,HB.out.grown (grownBy_putObj' _ D (.deferred none)) HB.out.size (fun k e=>by cases e;exact hD4)⟩
  ·subst e0
   obtain ⟨n,hn⟩:∃ n,(pls all).length=n:=⟨_,rfl⟩
   rw [hn] at hr HLL
   have hlt:g < W.heap.size:=(Array.getElem?_eq_some_iff.1 hh2).1
   have hne:D≠g:=fun e=>by rw [e,hh2] at hK;cases hK
   have HSO:=Lib.hid (ziU W hi 91 g cap (pls all) (by rw [hn];exact hr) hlt (by rw [hn];exact HLL.out))
   rw [hn] at HSO
   have HNL:=Lib.hid hn
   have HGE:Hid (hi≤g):=Lib.hid hg
   rw [hn] at c0
   have HVB:=Lib.hid hv
   have HNE:Hid (w.heap.size+1≠g):=Lib.hid (by have:=HHN.out;omega)
   clear hr hh hB hK hh2 hnc hcm hcs hct hn hg
   gi_wp2_with fail
   refine ⟨trivial,?_⟩
   refine (callsIn_wide.2 HSO.out).mono ?_
   rintro en w5 ⟨rfl,S,hS1,hS2,hS3,hS4⟩
   have c5:=hS4.cell c0 (fun e=>HNE.out (by simpa using e))
   have HK5:Hid (w5.heap[D]?=some (.deferred (some []))):=Lib.hid ((hS4.block D (Array.getElem?_eq_some_iff.1 HK.out).1 (by simpa using hne)).trans HK.out)
   have HB5:=Lib.hid (HB.out.grown hS4 HB.out.size (fun k e=>by cases e;have:=HGE.out;have:=HHN.out;omega))
   have hSl:S.length=n:=by rw [hS1.length_eq];exact HNL.out
   have HCP:=Lib.hid (zfj w5 hi g n cap S hS3 hSl HLL.out (fun k hk=>YV _ k (hS1.mem_iff.1 hk)))
   have HU:Hid (uniq S=zH M L):=Lib.hid (Kr (by rw [HALL.out];exact hS1) hS2)
   clear hS1 hS2 hS3 hS4 hSl c0 HSO
   gi_wp2_with fail
   refine ⟨trivial,?_⟩
   refine (callsIn_wide.2 HCP.out).mono ?_
   rintro en w6 ⟨v6,rfl,hp6,hg6⟩
   rw [HU.out] at hp6
   have HK6:Hid (w6.heap[D]?=some (.deferred (some []))):=Lib.hid ((hg6.block D (Array.getElem?_eq_some_iff.1 HK5.out).1 (by simpa using hne)).trans HK5.out)
   have HB6:=Lib.hid (HB5.out.grown hg6 HB5.out.size (fun k e=>by cases e;have:=HGE.out;have:=HHN.out;omega))
   have HP6:=Lib.hid hp6
   obtain ⟨p6,c6,rfl,_⟩:=id hp6
   clear hp6 hg6 c5 HCP
   gi_wp2
   refine ⟨by simp,.inl ⟨_,_,rfl,run_takeDeferred HK6.out,?_⟩⟩
   refine ⟨.slice p6 (zH M L).length c6,by simp [results,Tryz.results44,go_sem],.slice p6 (zH M L).length c6,rfl,HP6.out.beside (grownBy_putObj' _ D (.deferred none)) (fun o u h=>?_),HB6.out.grown (grownBy_putObj' _ D (.deferred none)) HB6.out.size (fun k e=>by cases e;exact hD4)⟩
   unfold World.cell? at h
   rw [HK6.out] at h
   cases h
 ·rintro D c pre W hD _ h _
  exact h.elim
end Go.Proofs.YtdhfpgjnjlcciaaGreatDoor.Co
end
section
namespace Go.Proofs.YtdhfpgjnjlcciaaGreatDoor.Co
open Go.RowKit Go.Proofs.YtdhfpgjnjlcciaaGreatDoor.Un Go.Proofs.YtdhfpgjnjlcciaaGreatDoor.Fa Go.Proofs.YtdhfpgjnjlcciaaGreatDoor.Pk
structure Giv (w:World) (c f e l vc:Value) (M:Mast) (L:List Fact):Prop where
 mast:MastIn w c f e l M
 rise:riseK Fl.Flow.code M.flows=true
 flen:M.flows.length≤1000
 facts:FactsV w vc L
 len:L.length≤1000
 amts:∀ x∈L,In64 x.amt
theorem Giv.keep {w w':World} {c f e l vc:Value} {M:Mast} {L:List Fact} (h:Giv w c f e l vc M L) (hb:Below w.heap.size w w'):Giv w' c f e l vc M L:=⟨h.mast.keep hb,h.rise,h.flen,h.facts.keep hb,h.len,h.amts⟩
theorem Giv.gap {w:World} {c f e l vc:Value} {M:Mast} {L:List Fact} (h:Giv w c f e l vc M L) (p:Key) (hp:plc p=p):Calls Tryz.prog 13 #[aggM c f e l M,vc,.string p.e,.string p.a,.string p.p] w fun en w'=>en=.returned (.tuple #[.int .i64 (gapP M L p).1,.int .i64 (gapP M L p).2])∧Below w.heap.size w w' :=
 zhA c f e l vc M L p w h.mast h.rise h.flen h.facts h.len h.amts hp
theorem Giv.weigh {w:World} {c f e l vc:Value} {M:Mast} {L:List Fact} (h:Giv w c f e l vc M L) (s:ByteArray) (k:Int):Calls Tryz.prog 16 #[aggM c f e l M,vc,.string s,.int .i64 k] w fun en w'=>en=.returned (.tuple #[.int .i64 (weighP M L s k).1,.int .i64 (weighP M L s k).2])∧Below w.heap.size w w' :=
 zfl c f e l vc M L s k w h.mast h.rise h.flen h.facts h.len h.amts
theorem Giv.shape {w:World} {c f e l vc:Value} {M:Mast} {L:List Fact} (h:Giv w c f e l vc M L):∃ pc nc cc pf nf cf pe ne ce pl nl cl pv nv cv,c=.slice pc nc cc∧f=.slice pf nf cf∧e=.slice pe ne ce∧l=.slice pl nl cl∧vc=.slice pv nv cv:=by
 obtain ⟨pc,nc,cc,pf,nf,cf,pe,ne,ce,pl,nl,cl,rfl,rfl,rfl,rfl⟩:=Z5 h.mast
 obtain ⟨p,cp,rfl,_⟩:=h.facts
 exact ⟨_,_,_,_,_,_,_,_,_,_,_,_,_,_,_,rfl,rfl,rfl,rfl,rfl⟩
def chkPl (M:Mast) (L:List Fact) (p:Key):Int:=if (gapP M L p).2≠0 then (gapP M L p).2 else if (gapP M L p).1≠0 then 8 else 0
set_option maxRecDepth 100000 in
set_option maxHeartbeats 4000000 in
theorem zeG (c f e l vc:Value) (M:Mast) (L:List Fact) (p:Key) (w:World) (h:Giv w c f e l vc M L) (hp:plc p=p) :
 Calls Tryz.prog 48 #[aggM c f e l M,vc,aggP p] w fun en w'=>en=.returned (.int .i64 (chkPl M L p))∧Below w.heap.size w w':=by
 obtain ⟨pc,nc,cc,pf,nf,cf,pe,ne,ce,pl,nl,cl,pv,nv,cv,rfl,rfl,rfl,rfl,rfl⟩:=h.shape
 obtain ⟨W1,hW1⟩:∃ W1,w.alloc (.cells (cellsM (.slice pc nc cc) (.slice pf nf cf) (.slice pe ne ce) (.slice pl nl cl) M) 33)=W1:=⟨_,rfl⟩
 have hb1:Below w.heap.size w W1:=by rw [←hW1];exact (Below.refl _ w).alloc (Nat.le_refl _) _
 have hn1:NineAt W1 w.heap.size (.slice pc nc cc) (.slice pf nf cf) (.slice pe ne ce) (.slice pl nl cl) M:=by rw [←hW1];exact zM w _ _ _ _ M _
 obtain ⟨W2,hW2⟩:∃ W2,W1.alloc (.cells #[.string p.e,.string p.a,.string p.p] 91)=W2:=⟨_,rfl⟩
 have hb12:Below W1.heap.size W1 W2:=by rw [←hW2];exact (Below.refl _ W1).alloc (Nat.le_refl _) _
 have hp2:ElAt encP W2 W1.heap.size 0 p:=by rw [←hW2];exact zf encP W1 p _
 have hb2:=hb1.trans (hb12.mono hb1.size)
 have HB2:=Lib.hid hb2
 have HN2:=Lib.hid (hn1.kept hb12)
 have HP2:=Lib.hid hp2
 have HGP:=Lib.hid ((h.keep hb2).gap p hp)
 obtain ⟨R,hR⟩:∃ R,gapP M L p=R:=⟨_,rfl⟩
 obtain ⟨x,n⟩:=R
 have HC:Hid (chkPl M L p=if n≠0 then n else if x≠0 then 8 else 0):=Lib.hid (by unfold chkPl;rw [hR])
 rw [hR] at HGP
 obtain ⟨C,hC⟩:∃ C,chkPl M L p=C:=⟨_,rfl⟩
 rw [hC] at HC ⊢
 clear hb1 hn1 hb12 hp2 hb2 hR hC h hp
 obtain ⟨k0,k1,k2,k3,k4,k5,k6,k7,k8⟩:=HN2.out
 obtain ⟨p0,p1,p2⟩:=place3 HP2.out
 simp only [Nat.zero_add] at p0 p1 p2
 go_enter Tryz.func48,Tryz.ntmps48
 go_wp2_with fail
 clear k0 k1 k2 k3 k4 k5 k6 k7 k8 p0 p1 p2 hW1 hW2
 refine HGP.out.mono ?_
 rintro en w3 ⟨rfl,hb3⟩
 have HB3:=Lib.hid (HB2.out.trans (hb3.mono HB2.out.size))
 clear hb3 HGP
 by_cases hn:n=0
 ·have hn2:(n != 0)=false:=by simpa using hn
  subst hn
  by_cases hx:x=0
  ·have hx2:(x != 0)=false:=by simpa using hx
   subst hx
   go_wp2
   go_ret
   exact ⟨by rw [HC.out];rfl,HB3.out⟩
  ·have hx2:(x != 0)=true:=by simpa using hx
   have HC2:Hid (C=8):=Lib.hid (by rw [HC.out,if_neg (by simp),if_pos hx])
   clear hx
   go_wp2
   go_ret
   exact ⟨by rw [HC2.out];rfl,HB3.out⟩
 ·have hn2:(n != 0)=true:=by simpa using hn
  have HC2:Hid (C=n):=Lib.hid (by rw [HC.out,if_pos hn])
  clear hn
  go_wp2
  go_ret
  exact ⟨by rw [HC2.out];rfl,HB3.out⟩
theorem idx0 (w:World):(Instr.index 161 (.agg #[.int .i64 0,.int .i64 4]) (.int .i64 0)).run Tryz.prog w=.ok (.int .i64 0) w:=by kernel_rfl
theorem idx1 (w:World):(Instr.index 161 (.agg #[.int .i64 0,.int .i64 4]) (.int .i64 1)).run Tryz.prog w=.ok (.int .i64 4) w:=by kernel_rfl
set_option maxRecDepth 100000 in
set_option maxHeartbeats 4000000 in
theorem zbh (c f e l vc:Value) (M:Mast) (L:List Fact) (s:ByteArray) (w:World) (h:Giv w c f e l vc M L) :
 Calls Tryz.prog 49 #[aggM c f e l M,vc,.string s] w fun en w'=>en=.returned (.int .i64 (balP M L s))∧Below w.heap.size w w':=by
 obtain ⟨pc,nc,cc,pf,nf,cf,pe,ne,ce,pl,nl,cl,pv,nv,cv,rfl,rfl,rfl,rfl,rfl⟩:=h.shape
 obtain ⟨W1,hW1⟩:∃ W1,w.alloc (.cells (cellsM (.slice pc nc cc) (.slice pf nf cf) (.slice pe ne ce) (.slice pl nl cl) M) 33)=W1:=⟨_,rfl⟩
 have hb1:Below w.heap.size w W1:=by rw [←hW1];exact (Below.refl _ w).alloc (Nat.le_refl _) _
 have hn1:NineAt W1 w.heap.size (.slice pc nc cc) (.slice pf nf cf) (.slice pe ne ce) (.slice pl nl cl) M:=by rw [←hW1];exact zM w _ _ _ _ M _
 have HB1:=Lib.hid hb1
 have HN1:=Lib.hid hn1
 have HG:=Lib.hid (h.keep hb1)
 have HW0:=Lib.hid (HG.out.weigh s 0)
 obtain ⟨R0,hR0⟩:∃ R,weighP M L s 0=R:=⟨_,rfl⟩
 obtain ⟨R4,hR4⟩:∃ R,weighP M L s 4=R:=⟨_,rfl⟩
 obtain ⟨x0,n0⟩:=R0
 obtain ⟨x4,n4⟩:=R4
 have HW4:Hid (∀ W,Below W1.heap.size W1 W→Calls Tryz.prog 16 #[aggM (.slice pc nc cc) (.slice pf nf cf) (.slice pe ne ce) (.slice pl nl cl) M,.slice pv nv cv,.string s,.int .i64 4] W fun en w'=>en=.returned (.tuple #[.int .i64 x4,.int .i64 n4])∧Below W.heap.size W w'):=Lib.hid fun W hb=>by
  have:=(HG.out.keep hb).weigh s 4
  rw [hR4] at this
  exact this
 have HC:Hid (balP M L s=if n0≠0 then n0 else if x0≠0 then 9 else if n4≠0 then n4 else if x4≠0 then 9 else 0):=Lib.hid (by unfold balP;rw [hR0,hR4])
 rw [hR0] at HW0
 obtain ⟨C,hC⟩:∃ C,balP M L s=C:=⟨_,rfl⟩
 rw [hC] at HC ⊢
 clear hb1 hn1 hR0 hR4 hC h HG
 obtain ⟨k0,k1,k2,k3,k4,k5,k6,k7,k8⟩:=HN1.out
 have i0:=idx0
 have i1:=idx1
 go_enter Tryz.func49,Tryz.ntmps49
 go_wp2_with fail
 refine wp_loop_rounds 3 ?_
 rw [rounds_succ]
 go_wp2_with fail
 clear k0 k1 k2 k3 k4 k5 k6 k7 k8 hW1
 refine HW0.out.mono ?_
 rintro en w3 ⟨rfl,hb3⟩
 have HB3:=Lib.hid (HB1.out.trans (hb3.mono HB1.out.size))
 have HN3:=Lib.hid (HN1.out.kept hb3)
 have HW5:=Lib.hid (HW4.out w3 hb3)
 clear hb3 HW0 HN1 HW4
 by_cases hn:n0=0
 ·have hn2:(n0 != 0)=false:=by simpa using hn
  subst hn
  by_cases hx:x0=0
  ·have hx2:(x0 != 0)=false:=by simpa using hx
   subst hx
   obtain ⟨k0,k1,k2,k3,k4,k5,k6,k7,k8⟩:=HN3.out
   go_wp2_with fail
   rw [rounds_succ]
   go_wp2_with fail
   clear k0 k1 k2 k3 k4 k5 k6 k7 k8
   refine HW5.out.mono ?_
   rintro en w5 ⟨rfl,hb5⟩
   have HB5:=Lib.hid (HB3.out.trans (hb5.mono HB3.out.size))
   clear hb5 HW5
   by_cases hm:n4=0
   ·have hm2:(n4 != 0)=false:=by simpa using hm
    subst hm
    by_cases hy:x4=0
    ·have hy2:(x4 != 0)=false:=by simpa using hy
     subst hy
     go_wp2_with fail
     rw [rounds_succ]
     go_wp2
     go_ret
     exact ⟨by rw [HC.out];rfl,HB5.out⟩
    ·have hy2:(x4 != 0)=true:=by simpa using hy
     have HC2:Hid (C=9):=Lib.hid (by rw [HC.out,if_neg (by simp),if_neg (by simp),if_neg (by simp),if_pos hy])
     clear hy
     go_wp2
     go_ret
     exact ⟨by rw [HC2.out];rfl,HB5.out⟩
   ·have hm2:(n4 != 0)=true:=by simpa using hm
    have HC2:Hid (C=n4):=Lib.hid (by rw [HC.out,if_neg (by simp),if_neg (by simp),if_pos hm])
    clear hm
    go_wp2
    go_ret
    exact ⟨by rw [HC2.out];rfl,HB5.out⟩
  ·have hx2:(x0 != 0)=true:=by simpa using hx
   have HC2:Hid (C=9):=Lib.hid (by rw [HC.out,if_neg (by simp),if_pos hx])
   clear hx
   go_wp2
   go_ret
   exact ⟨by rw [HC2.out];rfl,HB3.out⟩
 ·have hn2:(n0 != 0)=true:=by simpa using hn
  have HC2:Hid (C=n0):=Lib.hid (by rw [HC.out,if_pos hn])
  clear hn
  go_wp2
  go_ret
  exact ⟨by rw [HC2.out];rfl,HB3.out⟩
end Go.Proofs.YtdhfpgjnjlcciaaGreatDoor.Co
end
section
namespace Go.Proofs.YtdhfpgjnjlcciaaGreatDoor.Co
open Go.RowKit Go.Proofs.YtdhfpgjnjlcciaaGreatDoor.Un Go.Proofs.YtdhfpgjnjlcciaaGreatDoor.Fa Go.Proofs.YtdhfpgjnjlcciaaGreatDoor.Pk
theorem zjk {M:Mast} {c:List Fact} {p:Key} {r:List Key} (h:chkPl M c p≠0):zB M c (p::r)=chkPl M c p:=by
 unfold zB
 unfold chkPl at h ⊢
 by_cases h1:(gapP M c p).2≠0
 ·rw [if_pos h1,if_pos h1]
 ·rw [if_neg h1] at h ⊢
  rw [if_neg h1]
  by_cases h2:(gapP M c p).1≠0
  ·rw [if_pos h2,if_pos h2]
  ·rw [if_neg h2] at h;exact absurd rfl h
theorem zhm {M:Mast} {c:List Fact} {p:Key} {r:List Key} (h:chkPl M c p=0):zB M c (p::r)=if r.head?.map Key.e=some p.e then zB M c r else if balP M c p.e≠0 then balP M c p.e else zB M c r:=by
 have h1:¬ (gapP M c p).2≠0:=fun h1=>by
  unfold chkPl at h
  rw [if_pos h1] at h
  exact h1 h
 have h2:¬ (gapP M c p).1≠0:=fun h2=>by
  unfold chkPl at h
  rw [if_neg h1,if_pos h2] at h
  cases h
 rw [zB,if_neg h1,if_neg h2]
theorem Q4 (M:Mast) (L:List Fact):(zH M L).length≤L.length:=by
 unfold zH places
 refine Nat.le_trans (yp _) ?_
 rw [List.length_map]
 exact List.length_filter_le _ _
theorem VM {M:Mast} {L:List Fact} {p:Key} (h:p∈zH M L):plc p=p:=vY h
set_option maxRecDepth 100000 in
set_option maxHeartbeats 8000000 in
theorem yJ (c f e l vc:Value) (M:Mast) (L:List Fact) (w:World) (h:Giv w c f e l vc M L) :
 Calls Tryz.prog 20 #[aggM c f e l M,vc] w fun en w'=>en=.returned (.int .i64 (zB M L (zH M L)))∧Below w.heap.size w w':=by
 obtain ⟨pc,nc,cc,pf,nf,cf,pe,ne,ce,pl,nl,cl,pv,nv,cv,rfl,rfl,rfl,rfl,rfl⟩:=h.shape
 obtain ⟨W1,hW1⟩:∃ W1,w.alloc (.cells (cellsM (.slice pc nc cc) (.slice pf nf cf) (.slice pe ne ce) (.slice pl nl cl) M) 33)=W1:=⟨_,rfl⟩
 have hb1:Below w.heap.size w W1:=by rw [←hW1];exact (Below.refl _ w).alloc (Nat.le_refl _) _
 have hn1:NineAt W1 w.heap.size (.slice pc nc cc) (.slice pf nf cf) (.slice pe ne ce) (.slice pl nl cl) M:=by rw [←hW1];exact zM w _ _ _ _ M _
 have HB1:=Lib.hid hb1
 have HN1:=Lib.hid hn1
 have HG1:=Lib.hid (h.keep hb1)
 have HPL:=Lib.hid (Vz _ _ _ _ _ M L W1 HG1.out.mast HG1.out.rise HG1.out.flen HG1.out.facts HG1.out.len)
 have hlen:=Nat.le_trans (Q4 M L) HG1.out.len
 have hplc:∀ p∈zH M L,plc p=p:=fun p hp=>VM hp
 obtain ⟨P,hP⟩:∃ P,zH M L=P:=⟨_,rfl⟩
 rw [hP] at HPL hlen hplc
 obtain ⟨C,hC⟩:∃ C,zB M L P=C:=⟨_,rfl⟩
 rw [hP,hC]
 have HC:=Lib.hid hC
 have HLE:=Lib.hid hlen
 have HPC:=Lib.hid hplc
 clear hb1 hn1 hlen hplc hP hC h
 obtain ⟨k0,k1,k2,k3,k4,k5,k6,k7,k8⟩:=HN1.out
 go_enter Tryz.func20,Tryz.ntmps20
 go_wp2_with fail
 clear k0 k1 k2 k3 k4 k5 k6 k7 k8 hW1
 refine HPL.out.mono ?_
 rintro en w2 ⟨v,rfl,hp2,hb2⟩
 obtain ⟨pp,cpp,rfl,hcap,hmx,_,hcl⟩:=id hp2
 obtain ⟨n,hn⟩:∃ n,P.length=n:=⟨_,rfl⟩
 have HCL:=Lib.hid hcl
 have HNN:=Lib.hid hn
 rw [hn] at hcap HLE
 rw [hn]
 unfold maxLen at hmx
 have HN2:=Lib.hid (HN1.out.kept hb2)
 have HG2:=Lib.hid (HG1.out.keep hb2)
 have HB2:=Lib.hid (HB1.out.trans (hb2.mono HB1.out.size))
 clear hp2 hb2 hcl hn HN1 HG1 HB1 HPL
 go_wp2_with fail
 go_loopw [16] (fun s16 wr=>∃ i:Nat,s16=.int .i64 (i:Int)∧i≤n∧Hid (zB M L (P.drop i)=C)∧Hid (Below w2.heap.size w2 wr)) (fun s16 _=>n - (intOf s16).toNat)
 case atStart=>exact ⟨0,rfl,Nat.zero_le _,HC,Lib.hid (Below.refl _ _)⟩
 case round =>
  obtain ⟨i,rfl,hi,HGO,HBR⟩:=hrel
  by_cases hlt:i < n
  ·obtain ⟨p,hp⟩:∃ p,P[i]?=some p:=⟨_,List.getElem?_eq_getElem (by rw [HNN.out];exact hlt)⟩
   obtain ⟨b,o,rfl,hat⟩:=HCL.out i p hp
   obtain ⟨p0,p1,p2⟩:=place3 (hat.keep HBR.out hat.lt)
   simp only [show encP.k=3 from rfl] at p0 p1 p2
   have HP:=Lib.hid hp
   have HPP:Hid (plc p=p):=Lib.hid (HPC.out p (List.mem_of_getElem? hp))
   have hb3:Below wr.heap.size wr (wr.alloc (.cells #[.string p.e,.string p.a,.string p.p] 91)):=(Below.refl _ wr).alloc (Nat.le_refl _) _
   have HX3:=Lib.hid (zf encP wr p 91)
   have hbr3:=HBR.out.trans (hb3.mono HBR.out.size)
   have HB3:=Lib.hid hbr3
   have HN3:=Lib.hid (HN2.out.kept hbr3)
   have HG3:=Lib.hid (HG2.out.keep hbr3)
   have HCP:=Lib.hid (zeG _ _ _ _ _ M L p _ HG3.out HPP.out)
   obtain ⟨k0,k1,k2,k3,k4,k5,k6,k7,k8⟩:=HN3.out
   obtain ⟨x0,x1,x2⟩:=place3 HX3.out
   simp only [Nat.zero_add] at x0 x1 x2
   have x0':(wr.alloc (.cells #[.string p.e,.string p.a,.string p.p] 91)).cell? ⟨wr.heap.size,0,none⟩=some (.string p.e):=x0
   have x1':(wr.alloc (.cells #[.string p.e,.string p.a,.string p.p] 91)).cell? ⟨wr.heap.size,1,none⟩=some (.string p.a):=x1
   have x2':(wr.alloc (.cells #[.string p.e,.string p.a,.string p.p] 91)).cell? ⟨wr.heap.size,2,none⟩=some (.string p.p):=x2
   clear hp hat hb3 hbr3 x0 x1 x2
   go_wp2_with fail
   obtain ⟨W3,hW3⟩:∃ W3,wr.alloc (.cells #[.string p.e,.string p.a,.string p.p] 91)=W3:=⟨_,rfl⟩
   rw [hW3]
   have HCP2:Hid (Calls Tryz.prog 48 #[aggM (.slice pc nc cc) (.slice pf nf cf) (.slice pe ne ce) (.slice pl nl cl) M,.slice pv nv cv,aggP p] W3 fun en w'=>en=.returned (.int .i64 (chkPl M L p))∧Below W3.heap.size W3 w'):=Lib.hid (by rw [←hW3];exact HCP.out)
   have HX4:Hid (ElAt encP W3 wr.heap.size 0 p):=Lib.hid (by rw [←hW3];exact HX3.out)
   have HB4:Hid (Below w2.heap.size w2 W3):=Lib.hid (by rw [←hW3];exact HB3.out)
   clear k0 k1 k2 k3 k4 k5 k6 k7 k8 x0' x1' x2' p0 p1 p2 hW3 HCP HX3 HB3 HN3 HG3
   refine HCP2.out.mono ?_
   rintro en w5 ⟨rfl,hb5⟩
   have HB5:=Lib.hid (HB4.out.trans (hb5.mono HB4.out.size))
   have HX5:=Lib.hid (HX4.out.keep hb5 HX4.out.lt)
   have HN5:=Lib.hid (HN2.out.kept HB5.out)
   have HG5:=Lib.hid (HG2.out.keep HB5.out)
   clear hb5 HCP2 HX4 HB4
   obtain ⟨ck,hck⟩:∃ ck,chkPl M L p=ck:=⟨_,rfl⟩
   have HCK:=Lib.hid hck
   rw [hck]
   clear hck
   have HBF:=Lib.hid (HB2.out.trans (HB5.out.mono HB2.out.size))
   have hdr:P.drop i=p::P.drop (i+1):=by
    have hh:=HP.out
    have hil:i < P.length:=by rw [HNN.out];exact hlt
    rw [List.getElem?_eq_getElem hil] at hh
    cases hh
    exact List.drop_eq_getElem_cons hil
   by_cases hc0:ck=0
   ·have hc1:(ck != 0)=false:=by simpa using hc0
    subst hc0
    have hgo:=HGO.out
    rw [hdr,zhm HCK.out] at hgo
    have HGO2:=Lib.hid hgo
    have HCE:=Lib.hid (fun W hb=>zbh _ _ _ _ _ M L p.e W (HG5.out.keep hb))
    obtain ⟨bl,hbl⟩:∃ bl,balP M L p.e=bl:=⟨_,rfl⟩
    simp only [hbl] at HCE
    rw [hbl] at HGO2
    clear hgo hdr hbl
    obtain ⟨x0,x1,x2⟩:=place3 HX5.out
    simp only [Nat.zero_add] at x0 x1 x2
    by_cases him:i+1=n
    ·have him2:((i:Int)==(n:Int) - 1)=true:=by rw [beq_iff_eq];omega
     have HLST:Hid ((P.drop (i+1)).head?.map Key.e≠some p.e):=Lib.hid (by rw [List.drop_of_length_le (by rw [HNN.out];omega)];simp)
     go_wp2_with fail
     go_big_quiet (fail)
     have y0:(w5.drewN nq).cell? ⟨wr.heap.size,0,none⟩=some (.string p.e):=x0
     have HQ:Hid (Below w5.heap.size w5 (w5.drewN nq)):=Lib.hid (belowN (Below.refl _ _) nq)
     have HN6:=Lib.hid (HN5.out.kept HQ.out)
     have HCE2:=Lib.hid (HCE.out _ HQ.out)
     clear x0 x1 x2
     generalize w5.drewN nq=w6 at *
     obtain ⟨k0,k1,k2,k3,k4,k5,k6,k7,k8⟩:=HN6.out
     go_wp2_with fail
     clear k0 k1 k2 k3 k4 k5 k6 k7 k8 y0
     refine HCE2.out.mono ?_
     rintro en w7 ⟨rfl,hb7⟩
     have HB7:=Lib.hid (HB5.out.trans ((HQ.out.trans (hb7.mono HQ.out.size)).mono HB5.out.size))
     have HBF7:=Lib.hid (HB2.out.trans (HB7.out.mono HB2.out.size))
     clear hb7 HCE HCE2
     by_cases hbl:bl=0
     ·have hbl1:(bl != 0)=false:=by simpa using hbl
      have HGO3:Hid (zB M L (P.drop (i+1))=C):=Lib.hid (by
       have:=HGO2.out
       rwa [if_neg HLST.out,if_neg (by simpa using hbl)] at this)
      subst hbl
      go_wp2
      go_roundw
      case rel=>exact ⟨i+1,by go_num,by omega,HGO3,HB7⟩
      case measure=>simp [intOf];omega
     ·have hbl1:(bl != 0)=true:=by simpa using hbl
      have HGO3:Hid (C=bl):=Lib.hid (by
       have:=HGO2.out
       rw [if_neg HLST.out,if_pos hbl] at this
       exact this.symm)
      clear hbl
      go_wp2
      go_ret
      exact ⟨by rw [HGO3.out];rfl,HBF7.out⟩
    ·have him2:((i:Int)==(n:Int) - 1)=false:=by rw [beq_eq_false_iff_ne];omega
     have hlt2:i+1 < n:=by omega
     obtain ⟨q,hq⟩:∃ q,P[i+1]?=some q:=⟨_,List.getElem?_eq_getElem (by rw [HNN.out];exact hlt2)⟩
     obtain ⟨b',o',e',hat⟩:=HCL.out (i+1) q hq
     cases e'
     obtain ⟨q0,q1,q2⟩:=place3 (hat.keep HB5.out hat.lt)
     simp only [show encP.k=3 from rfl] at q0 q1 q2
     have HHD:Hid ((P.drop (i+1)).head?.map Key.e=some q.e):=Lib.hid (by rw [List.head?_drop,hq];rfl)
     clear hq hat
     cases hqe:(q.e.toList==p.e.toList) with
     | true =>
       have HGO3:Hid (zB M L (P.drop (i+1))=C):=Lib.hid (by
        have:=HGO2.out
        rwa [if_pos (by rw [HHD.out,(Lib.bytes_beq_iff _ _).1 hqe])] at this)
       go_wp2_with fail
       go_big_quiet (fail)
       have HB6:Hid (Below w2.heap.size w2 (w5.drewN nq)):=Lib.hid (belowN HB5.out nq)
       go_wp2
       go_roundw
       case rel=>exact ⟨i+1,by go_num,by omega,HGO3,HB6⟩
       case measure=>simp [intOf];omega
     | false =>
       have HLST:Hid ((P.drop (i+1)).head?.map Key.e≠some p.e):=Lib.hid (by
        rw [HHD.out]
        intro e
        exact (Lib.bytes_beq_false_iff _ _).1 hqe (Option.some.inj e))
       go_wp2_with fail
       go_big_quiet (fail)
       have y0:(w5.drewN nq).cell? ⟨wr.heap.size,0,none⟩=some (.string p.e):=x0
       have HQ:Hid (Below w5.heap.size w5 (w5.drewN nq)):=Lib.hid (belowN (Below.refl _ _) nq)
       have HN6:=Lib.hid (HN5.out.kept HQ.out)
       have HCE2:=Lib.hid (HCE.out _ HQ.out)
       clear x0 x1 x2 q0 q1 q2
       generalize w5.drewN nq=w6 at *
       obtain ⟨k0,k1,k2,k3,k4,k5,k6,k7,k8⟩:=HN6.out
       go_wp2_with fail
       clear k0 k1 k2 k3 k4 k5 k6 k7 k8 y0
       refine HCE2.out.mono ?_
       rintro en w7 ⟨rfl,hb7⟩
       have HB7:=Lib.hid (HB5.out.trans ((HQ.out.trans (hb7.mono HQ.out.size)).mono HB5.out.size))
       have HBF7:=Lib.hid (HB2.out.trans (HB7.out.mono HB2.out.size))
       clear hb7 HCE HCE2
       by_cases hbl:bl=0
       ·have hbl1:(bl != 0)=false:=by simpa using hbl
        have HGO3:Hid (zB M L (P.drop (i+1))=C):=Lib.hid (by
         have:=HGO2.out
         rwa [if_neg HLST.out,if_neg (by simpa using hbl)] at this)
        subst hbl
        go_wp2
        go_roundw
        case rel=>exact ⟨i+1,by go_num,by omega,HGO3,HB7⟩
        case measure=>simp [intOf];omega
       ·have hbl1:(bl != 0)=true:=by simpa using hbl
        have HGO3:Hid (C=bl):=Lib.hid (by
         have:=HGO2.out
         rw [if_neg HLST.out,if_pos hbl] at this
         exact this.symm)
        clear hbl
        go_wp2
        go_ret
        exact ⟨by rw [HGO3.out];rfl,HBF7.out⟩
   ·have hc1:(ck != 0)=true:=by simpa using hc0
    have HCE:Hid (C=ck):=Lib.hid (by rw [←HGO.out,hdr,zjk (by rw [HCK.out];exact hc0),HCK.out])
    clear hc0 hdr
    go_wp2
    go_ret
    exact ⟨by rw [HCE.out];rfl,HBF.out⟩
  ·obtain rfl:i=n:=by omega
   have HC0:Hid (C=0):=Lib.hid (by rw [←HGO.out,List.drop_of_length_le (by rw [HNN.out];exact Nat.le_refl _)];rfl)
   have HBF:=Lib.hid (HB2.out.trans (HBR.out.mono HB2.out.size))
   go_wp2
   go_ret
   exact ⟨by rw [HC0.out];rfl,HBF.out⟩
end Go.Proofs.YtdhfpgjnjlcciaaGreatDoor.Co
end
