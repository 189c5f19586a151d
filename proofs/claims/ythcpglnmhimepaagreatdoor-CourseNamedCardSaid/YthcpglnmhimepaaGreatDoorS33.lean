/- CsSearch CsPlace CsRight UnitDocAll -/
import Derived.Test.YthcpglnmhimepaaGreatDoorS30
section
namespace Go.Proofs.YthcpglnmhimepaaGreatDoor.Cs.Ta
open Go.RowKit Go.Proofs.YthcpglnmhimepaaGreatDoor.Un Go.Proofs.YthcpglnmhimepaaGreatDoor.Pk
structure SearchAt (w wr:World) (L:List Crs) (c:Key3) (lo hi:Nat):Prop where
 le:lo≤hi
 top:hi≤L.length
 bel:Below (w.heap.size+1) (w.alloc (.cells (encT.cs c).toArray 83)) wr
 low:∀ (t:Nat) (x:Crs),t < lo→L[t]?=some x→G.KeyO.lt (Crs.key x) c=true
 high:∀ (t:Nat) (x:Crs),hi≤t→L[t]?=some x→G.KeyO.lt (Crs.key x) c=false
set_option maxRecDepth 100000 in
set_option maxHeartbeats 8000000 in
theorem search_any (v:Value) (L:List Crs) (c:Key3) (w:World) (h:ElsV encX w v L) (hr:G.riseK Crs.key L=true) (hL:L.length≤1000) :
 Calls Tryz.prog 60 #[v,aggT c,.func (.func 61) #[] #[]] w fun e w'=>e=.returned (.tuple #[.int .i64 (G.placeK Crs.key L c:Nat),.bool (G.isK Crs.key L c)])∧Below w.heap.size w w':=by
 have HB0:=Lib.hid ((Below.refl w.heap.size w).alloc (Nat.le_refl _) (.cells (encT.cs c).toArray 83))
 have HX0:=Lib.hid (BoxE.new encT w c 83)
 have hV:=h.keep HB0.out
 obtain ⟨p,cap,rfl,hcap,hm,_,hc⟩:=hV
 obtain ⟨n,hn⟩:∃ n,L.length=n:=⟨_,rfl⟩
 obtain ⟨pl,hpl⟩:∃ pl,G.placeK Crs.key L c=pl:=⟨_,rfl⟩
 obtain ⟨is,his⟩:∃ is,G.isK Crs.key L c=is:=⟨_,rfl⟩
 rw [hn] at hcap hL ⊢
 rw [hpl,his]
 have HC:=Lib.hid hc
 have HN:=Lib.hid hn
 have HPL:=Lib.hid hpl
 have HIS:=Lib.hid his
 have HRI:=Lib.hid hr
 unfold maxLen at hm
 have HAT:Hid (∀ (wr:World),Below (w.heap.size+1) (w.alloc (.cells (encT.cs c).toArray 83)) wr→∀ (i:Nat) (x:Crs),L[i]?=some x→∃ b o,p=some ⟨b,o,none⟩∧ElAt encX wr b (o+i * encX.k) x∧ElAt encT wr w.heap.size 0 c):=Lib.hid (fun wr hb i x hx=>by
  obtain ⟨b,o,e,hat⟩:=HC.out i x hx
  have hlt:=hat.lt
  rw [World.size_alloc] at hlt
  exact ⟨b,o,e,hat.keep hb hlt,HX0.out.at0.keep hb (Nat.lt_succ_self _)⟩)
 have HBE:Hid (∀ (wr:World),Below (w.heap.size+1) (w.alloc (.cells (encT.cs c).toArray 83)) wr→Below w.heap.size w wr):=Lib.hid (fun wr hb=>HB0.out.trans (hb.mono (Nat.le_succ _)))
 clear hc hn hpl his hr h
 go_enter Tryz.func60,Tryz.ntmps60
 go_wp2
 go_loopg [9,10] n (fun kx s9 s10 wr=>∃ lo hi:Nat,s9=.int .i64 (lo:Int)∧s10=.int .i64 (hi:Int)∧hi - lo≤kx∧lo≤hi∧hi≤n∧Hid (SearchAt w wr L c lo hi))
 case atStart=>exact ⟨0,n,rfl,rfl,by omega,Nat.zero_le _,Nat.le_refl _,Lib.hid ⟨Nat.zero_le _,by rw [HN.out];exact Nat.le_refl _,Below.refl _ _,fun t x ht=>absurd ht (Nat.not_lt_zero _),fun t x ht hx=>by
  have:=(List.getElem?_eq_some_iff.1 hx).1
  rw [HN.out] at this;omega⟩⟩
 case round =>
  obtain ⟨lo,hi,rfl,rfl,hkx,hlh,hin,HA⟩:=hrel
  have HSZ:Hid (w.heap.size+1≤wr.heap.size):=Lib.hid (by have:=HA.out.bel.size;rwa [World.size_alloc] at this)
  by_cases hlt:lo < hi
  ·have hmid:(lo+hi) / 2 < n:=by omega
   obtain ⟨x,hx⟩:∃ x,L[(lo+hi) / 2]?=some x:=⟨_,List.getElem?_eq_getElem (by rw [HN.out];exact hmid)⟩
   obtain ⟨b,o,rfl,hat,hct⟩:=HAT.out _ HA.out.bel _ x hx
   obtain ⟨r0,r1,r2,r3,r4⟩:=crs5 hat
   obtain ⟨s0,s1,s2⟩:=key3 hct
   simp only [show encX.k=5 from rfl] at r0 r1 r2 r3 r4
   simp only [Nat.zero_add] at s1 s2
   have q0:=fun p:Past wr=>cell_past r0 p
   have u0:=fun p:Past wr=>cell_past s0 p
   have q1:=fun p:Past wr=>cell_past r1 p
   have u1:=fun p:Past wr=>cell_past s1 p
   have q2:=fun p:Past wr=>cell_past r2 p
   have u2:=fun p:Past wr=>cell_past s2 p
   have q3:=fun p:Past wr=>cell_past r3 p
   have q4:=fun p:Past wr=>cell_past r4 p
   clear r0 s0 r1 s1 r2 s2 r3 r4
   have HX:=Lib.hid hx
   clear hx hat hct
   have HAG:=Lib.hid (fun W=>against_any x c W)
   obtain ⟨m,hmm⟩:∃ m,cmpT x.key c=m:=⟨_,rfl⟩
   have HM:=Lib.hid (cmpT_lt x.key c)
   rw [hmm] at HM
   simp only [hmm] at HAG
   clear hmm
   have hwm:IntKind.i64.wrap ((lo:Int)+(hi:Int))=(lo:Int)+(hi:Int):=by rw [IntKind.wrap_i64];omega
   by_cases hm0:m < 0
   ·have HLT:Hid (G.KeyO.lt (Crs.key x) c=true):=Lib.hid (by rw [←HM.out];exact decide_eq_true hm0)
    go_wp2_with fail
    refine wp_region_past (by kernel_rfl) (by kernel_rfl) ?_
    repeat (go_big_quiet_step ((go_at_call 61;exact Calls.past_of (HAG.out _))))
    refine wpQuiet_nil ?_
    intro _ hw'
    obtain ⟨⟨w3,hb3⟩,rfl⟩:=hw'
    clear q0 u0 q1 u1 q2 u2 q3 q4
    go_wp2
    go_roundg (hi - ((lo+hi) / 2+1))
    case measure=>omega
    case rel=>exact ⟨(lo+hi) / 2+1,hi,by rw [show ((lo:Int)+(hi:Int)) / 2+1=(((lo+hi) / 2+1:Nat):Int) by omega],rfl,Nat.le_refl _,by omega,hin,Lib.hid ⟨by omega,HA.out.top,HA.out.bel.trans (hb3.mono HSZ.out),fun t y ht hy=>by
     rcases Nat.lt_or_ge t ((lo+hi) / 2) with h | h
     ·exact G.KeyO.trans (G.riseK_at HRI.out h hy HX.out) HLT.out
     ·obtain rfl:t=(lo+hi) / 2:=by omega
      rw [HX.out] at hy;cases hy;exact HLT.out,HA.out.high⟩⟩
   ·have HLT:Hid (G.KeyO.lt (Crs.key x) c=false):=Lib.hid (by rw [←HM.out];exact decide_eq_false hm0)
    go_wp2_with fail
    refine wp_region_past (by kernel_rfl) (by kernel_rfl) ?_
    repeat (go_big_quiet_step ((go_at_call 61;exact Calls.past_of (HAG.out _))))
    refine wpQuiet_nil ?_
    intro _ hw'
    obtain ⟨⟨w3,hb3⟩,rfl⟩:=hw'
    clear q0 u0 q1 u1 q2 u2 q3 q4
    go_wp2
    go_roundg ((lo+hi) / 2 - lo)
    case measure=>omega
    case rel=>exact ⟨lo,(lo+hi) / 2,rfl,by rw [show ((lo:Int)+(hi:Int)) / 2=(((lo+hi) / 2:Nat):Int) by omega],Nat.le_refl _,by omega,by omega,Lib.hid ⟨by omega,by have:=HA.out.top;omega,HA.out.bel.trans (hb3.mono HSZ.out),HA.out.low,fun t y ht hy=>by
     rcases Nat.lt_or_ge ((lo+hi) / 2) t with h | h
     ·cases hy':G.KeyO.lt (Crs.key y) c with
      | false=>rfl
      | true=>rw [G.KeyO.trans (G.riseK_at HRI.out h HX.out hy) hy'] at HLT;cases HLT.out
     ·obtain rfl:t=(lo+hi) / 2:=by omega
      rw [HX.out] at hy;cases hy;exact HLT.out⟩⟩
  ·obtain rfl:hi=lo:=by omega
   have hpl:Hid (pl=hi):=Lib.hid (by
    rw [←HPL.out]
    exact G.placeK_at HA.out.top HA.out.low (fun y hy=>HA.out.high hi y (Nat.le_refl _) hy))
   by_cases hn:hi < n
   ·obtain ⟨x,hx⟩:∃ x,L[hi]?=some x:=⟨_,List.getElem?_eq_getElem (by rw [HN.out];exact hn)⟩
    obtain ⟨b,o,rfl,hat,hct⟩:=HAT.out _ HA.out.bel _ x hx
    obtain ⟨r0,r1,r2,r3,r4⟩:=crs5 hat
    obtain ⟨s0,s1,s2⟩:=key3 hct
    simp only [show encX.k=5 from rfl] at r0 r1 r2 r3 r4
    simp only [Nat.zero_add] at s1 s2
    have q0:=fun p:Past wr=>cell_past r0 p
    have u0:=fun p:Past wr=>cell_past s0 p
    have q1:=fun p:Past wr=>cell_past r1 p
    have u1:=fun p:Past wr=>cell_past s1 p
    have q2:=fun p:Past wr=>cell_past r2 p
    have u2:=fun p:Past wr=>cell_past s2 p
    have q3:=fun p:Past wr=>cell_past r3 p
    have q4:=fun p:Past wr=>cell_past r4 p
    clear r0 s0 r1 s1 r2 s2 r3 r4
    have HX:=Lib.hid hx
    clear hx hat hct
    have HAG:=Lib.hid (fun W=>against_any x c W)
    obtain ⟨m,hmm⟩:∃ m,cmpT x.key c=m:=⟨_,rfl⟩
    have HM:=Lib.hid (cmpT_eq x.key c)
    rw [hmm] at HM
    simp only [hmm] at HAG
    clear hmm
    have HI2:Hid (is=(m==0)):=Lib.hid (by
     rw [←HIS.out,HM.out]
     unfold G.isK
     rw [HPL.out,hpl.out,HX.out])
    go_wp2_with fail
    refine wp_region_past (by kernel_rfl) (by kernel_rfl) ?_
    repeat (go_big_quiet_step ((go_at_call 61;exact Calls.past_of (HAG.out _))))
    refine wpQuiet_nil ?_
    intro _ hw'
    obtain ⟨⟨w3,hb3⟩,rfl⟩:=hw'
    clear q0 u0 q1 u1 q2 u2 q3 q4
    go_wp2
    go_ret2
    exact ⟨by rw [hpl.out,HI2.out];rfl,HBE.out _ (HA.out.bel.trans (hb3.mono HSZ.out))⟩
   ·have HI2:Hid (is=false):=Lib.hid (by
     rw [←HIS.out]
     unfold G.isK
     rw [HPL.out,hpl.out,List.getElem?_eq_none (by rw [HN.out];omega)])
    have hd:decide (hi < n)=false:=decide_eq_false hn
    go_wp2_with fail
    refine wp_region_past (by kernel_rfl) (by kernel_rfl) ?_
    repeat (go_big_quiet_step (fail))
    refine wpQuiet_nil ?_
    intro _ hw'
    obtain ⟨⟨w3,hb3⟩,rfl⟩:=hw'
    go_wp2
    go_ret2
    exact ⟨by rw [hpl.out,HI2.out];rfl,HBE.out _ (HA.out.bel.trans (hb3.mono HSZ.out))⟩
end Go.Proofs.YthcpglnmhimepaaGreatDoor.Cs.Ta
end
section
namespace Go.Proofs.YthcpglnmhimepaaGreatDoor.Cs.Ta
open Go.RowKit Go.Proofs.YthcpglnmhimepaaGreatDoor.Un Go.Proofs.YthcpglnmhimepaaGreatDoor.Pk
abbrev aggTab (v:Value):Value:=.agg #[v]
set_option maxRecDepth 100000 in
set_option maxHeartbeats 4000000 in
theorem place_any (v:Value) (L:List Crs) (k:Key3) (w:World) (h:TabV w v L) (hr:G.riseK Crs.key L=true) (hL:L.length≤1000) :
 Calls Tryz.prog 35 #[aggTab v,aggT k] w fun e w'=>e=.returned (.tuple #[.int .i64 (G.placeK Crs.key L k:Nat),.bool (G.isK Crs.key L k)])∧Below w.heap.size w w':=by
 obtain ⟨p,c,rfl,_⟩:=id h
 obtain ⟨W1,hW1⟩:∃ W1,w.alloc (.cells #[.slice p L.length c] 41)=W1:=⟨_,rfl⟩
 have hb1:Below w.heap.size w W1:=by rw [←hW1];exact (Below.refl _ w).alloc (Nat.le_refl _) _
 have hs1:W1.heap.size=w.heap.size+1:=by rw [←hW1,World.size_alloc]
 have c1:W1.cell? ⟨w.heap.size,0,none⟩=some (.slice p L.length c):=by rw [←hW1];exact (cell_of_row _ w.heap.size 0 _ _ (0,0) (heap_alloc_new w _)).trans rfl
 obtain ⟨W2,hW2⟩:∃ W2,W1.alloc (.cells #[.string k.1,.string k.2.1,.string k.2.2] 83)=W2:=⟨_,rfl⟩
 have hb12:Below W1.heap.size W1 W2:=by rw [←hW2];exact (Below.refl _ W1).alloc (Nat.le_refl _) _
 have hk2:ElAt encT W2 W1.heap.size 0 k:=by rw [←hW2];exact el_new encT W1 k _
 have hb2:=hb1.trans (hb12.mono hb1.size)
 have c2:W2.cell? ⟨w.heap.size,0,none⟩=some (.slice p L.length c):=(hb12.cell (p:=⟨w.heap.size,0,none⟩) (by rw [hs1];exact Nat.lt_succ_self _)).trans c1
 obtain ⟨y0,y1,y2⟩:=key3 hk2
 simp only [Nat.zero_add] at y0 y1 y2
 have HB2:=Lib.hid hb2
 have HSE:=Lib.hid (search_any (.slice p L.length c) L k W2 (h.keep hb2) hr hL)
 obtain ⟨pl,hpl⟩:∃ pl,G.placeK Crs.key L k=pl:=⟨_,rfl⟩
 obtain ⟨is,his⟩:∃ is,G.isK Crs.key L k=is:=⟨_,rfl⟩
 rw [hpl,his] at HSE ⊢
 clear hpl his h hr hb1 hb12 hb2 hk2 c1 hs1
 go_enter Tryz.func35,Tryz.ntmps35
 go_wp2_with fail
 clear hW1 hW2 c2 y0 y1 y2
 refine HSE.out.mono ?_
 rintro e w3 ⟨rfl,hb3⟩
 have HB3:=Lib.hid (HB2.out.trans (hb3.mono HB2.out.size))
 clear hb3
 go_wp2
 go_ret2
 exact ⟨rfl,HB3.out⟩
set_option maxRecDepth 100000 in
set_option maxHeartbeats 4000000 in
theorem kindOf_any (c f e l:Value) (M:Mast) (x:ByteArray) (w:World) (h:MastIn w c f e l M) (hr:riseK Fl.Flow.code M.flows=true) (hlf:M.flows.length≤1000) :
 Calls Tryz.prog 33 #[aggM c f e l M,.string x] w fun en w'=>en=.returned (.tuple #[.int .i64 (kindF M x),.bool (hasFl M x)])∧Below w.heap.size w w':=by
 obtain ⟨pc,cc,pf,cf,pe,ce,pl,cl,rfl,rfl,rfl,rfl⟩:=shapes h
 have hb:=(Below.refl w.heap.size w).alloc (Nat.le_refl _) (.cells (cellsM (.slice pc M.chart.length cc) (.slice pf M.flows.length cf) (.slice pe M.ents.length ce) (.slice pl M.lines.length cl) M) 30)
 have HB:=Lib.hid hb
 have HM:=Lib.hid (h.keep hb)
 have HN:=Lib.hid (nine_new w (.slice pc M.chart.length cc) (.slice pf M.flows.length cf) (.slice pe M.ents.length ce) (.slice pl M.lines.length cl) M 30)
 have hK:Fl.kindL M.flows x=kindF M x:=kind_of_find hr x
 have hI:isK Fl.Flow.code M.flows x=hasFl M x:=(isK_find hr x).1
 have HF:=Lib.hid (fun W h=>Fl.kind_any (.slice pf M.flows.length cf) M.flows x W h hr hlf)
 obtain ⟨K,hKK⟩:∃ K,kindF M x=K:=⟨_,rfl⟩
 obtain ⟨I,hII⟩:∃ I,hasFl M x=I:=⟨_,rfl⟩
 rw [hKK] at hK ⊢
 rw [hII] at hI ⊢
 simp only [hK,hI] at HF
 clear hK hI hKK hII hb h hr
 obtain ⟨k0,k1,k2,k3,k4,k5,k6,k7,k8⟩:=HN.out
 go_enter Tryz.func33,Tryz.ntmps33
 go_wp2_with fail
 clear k0 k1 k2 k3 k4 k5 k6 k7 k8
 refine (HF.out _ HM.out.flows).mono ?_
 rintro en w2 ⟨rfl,hb2⟩
 have HB2:=Lib.hid (HB.out.trans (hb2.mono HB.out.size))
 clear hb2
 go_wp2
 go_ret2
 exact ⟨rfl,HB2.out⟩
def chkE (M:Mast) (k:Key3):Int:=if k.1=tFlow then (if hasFl M k.2.1=false then 6 else if kindF M k.2.1=1∨kindF M k.2.1=3 then (if k.2.2=M.cur then 1 else 0) else 8) else if k.2.2=M.cur then 1 else 0
theorem chk_step (M:Mast) (L:List Crs) (x:Crs):rightE M L x=if chkE M x.key=0 then tabE L x else chkE M x.key:=by
 unfold rightE chkE flowE Crs.key
 simp only
 (repeat' split) <;> simp_all
set_option maxRecDepth 100000 in
set_option maxHeartbeats 8000000 in
theorem check_any (c f e l:Value) (M:Mast) (k:Key3) (w:World) (h:MastIn w c f e l M) (hr:riseK Fl.Flow.code M.flows=true) (hlf:M.flows.length≤1000) :
 Calls Tryz.prog 50 #[aggM c f e l M,aggT k] w fun en w'=>en=.returned (.int .i64 (chkE M k))∧Below w.heap.size w w':=by
 obtain ⟨pc,cc,pf,cf,pe,ce,pl,cl,rfl,rfl,rfl,rfl⟩:=shapes h
 obtain ⟨W1,hW1⟩:∃ W1,w.alloc (.cells (cellsM (.slice pc M.chart.length cc) (.slice pf M.flows.length cf) (.slice pe M.ents.length ce) (.slice pl M.lines.length cl) M) 30)=W1:=⟨_,rfl⟩
 have hb1:Below w.heap.size w W1:=by rw [←hW1];exact (Below.refl _ w).alloc (Nat.le_refl _) _
 have hn1:NineAt W1 w.heap.size (.slice pc M.chart.length cc) (.slice pf M.flows.length cf) (.slice pe M.ents.length ce) (.slice pl M.lines.length cl) M:=by rw [←hW1];exact nine_new w _ _ _ _ M _
 have hs1:W1.heap.size=w.heap.size+1:=by rw [←hW1,World.size_alloc]
 obtain ⟨W2,hW2⟩:∃ W2,W1.alloc (.cells #[.string k.1,.string k.2.1,.string k.2.2] 83)=W2:=⟨_,rfl⟩
 have hb12:Below W1.heap.size W1 W2:=by rw [←hW2];exact (Below.refl _ W1).alloc (Nat.le_refl _) _
 have hk2:ElAt encT W2 W1.heap.size 0 k:=by rw [←hW2];exact el_new encT W1 k _
 have hb2:=hb1.trans (hb12.mono hb1.size)
 have HB2:=Lib.hid hb2
 have HN2:=Lib.hid (hn1.kept hb12)
 have HK2:=Lib.hid hk2
 have HM2:=Lib.hid (h.keep hb2)
 have HKO:=Lib.hid (fun W h=>kindOf_any (.slice pc M.chart.length cc) (.slice pf M.flows.length cf) (.slice pe M.ents.length ce) (.slice pl M.lines.length cl) M k.2.1 W h hr hlf)
 obtain ⟨E,hE⟩:∃ E,chkE M k=E:=⟨_,rfl⟩
 rw [hE]
 have hE2:=hE
 unfold chkE at hE2
 obtain ⟨K,hK⟩:∃ K,kindF M k.2.1=K:=⟨_,rfl⟩
 obtain ⟨I,hI⟩:∃ I,hasFl M k.2.1=I:=⟨_,rfl⟩
 simp only [hK,hI] at HKO
 rw [hK,hI] at hE2
 have HE:=Lib.hid hE2
 clear hE hE2 hK hI h hr hb1 hb12 hb2 hn1 hk2 hs1
 obtain ⟨k0,k1,k2,k3,k4,k5,k6,k7,k8⟩:=HN2.out
 obtain ⟨y0,y1,y2⟩:=key3 HK2.out
 simp only [Nat.zero_add] at y0 y1 y2
 by_cases hf:k.1=tFlow
 ·have hz:(k.1.toList==[102,108,111,119])=true:=by rw [←flow_list,hf];exact beq_self_eq_true _
  have HE1:Hid ((if I=false then 6 else if K=1∨K=3 then (if k.2.2=M.cur then 1 else 0) else 8)=E):=Lib.hid (by have:=HE.out;rw [if_pos hf] at this;exact this)
  clear hf HE
  go_enter Tryz.func50,Tryz.ntmps50
  go_wp2_with fail
  clear k0 k1 k2 k3 k4 k5 k6 k7 k8 y0 y1 y2 hW1 hW2 hz
  refine (HKO.out _ HM2.out).mono ?_
  rintro en w3 ⟨rfl,hb3⟩
  have HB3:=Lib.hid (HB2.out.trans (hb3.mono HB2.out.size))
  have HN3:=Lib.hid (HN2.out.kept hb3)
  have HK3:=Lib.hid (HK2.out.keep hb3 HK2.out.lt)
  clear hb3 HB2 HN2 HM2 HK2 HKO
  cases I with
  | false =>
    have HEE:Hid (6=E):=Lib.hid (by have:=HE1.out;rw [if_pos rfl] at this;exact this)
    go_wp2
    go_ret
    exact ⟨by rw [←HEE.out];rfl,HB3.out⟩
  | true =>
    have HE3:Hid ((if K=1∨K=3 then (if k.2.2=M.cur then 1 else 0) else 8)=E):=Lib.hid (by have:=HE1.out;rw [if_neg (by simp)] at this;exact this)
    obtain ⟨k0,k1,k2,k3,k4,k5,k6,k7,k8⟩:=HN3.out
    obtain ⟨y0,y1,y2⟩:=key3 HK3.out
    simp only [Nat.zero_add] at y0 y1 y2
    by_cases h13:K=1∨K=3
    ·have HE4:Hid ((if k.2.2=M.cur then 1 else 0)=E):=Lib.hid (by have:=HE3.out;rw [if_pos h13] at this;exact this)
     clear HE1 HE3
     cases hc:(k.2.2.toList==M.cur.toList) with
     | true =>
       have HEE:Hid (1=E):=Lib.hid (by have:=HE4.out;rw [if_pos ((Lib.bytes_beq_iff _ _).1 hc)] at this;exact this)
       rcases h13 with rfl | rfl
       all_goals
        go_wp2
        go_ret
        exact ⟨by rw [←HEE.out];rfl,HB3.out⟩
     | false =>
       have HEE:Hid (0=E):=Lib.hid (by have:=HE4.out;rw [if_neg ((Lib.bytes_beq_false_iff _ _).1 hc)] at this;exact this)
       rcases h13 with rfl | rfl
       all_goals
        go_wp2
        go_ret
        exact ⟨by rw [←HEE.out];rfl,HB3.out⟩
    ·have HEE:Hid (8=E):=Lib.hid (by have:=HE3.out;rw [if_neg h13] at this;exact this)
     have h1:(K != 1)=true:=by simp;omega
     have h3:(K != 3)=true:=by simp;omega
     clear h13 HE1 HE3
     go_wp2
     go_ret
     exact ⟨by rw [←HEE.out];rfl,HB3.out⟩
 ·have hz:(k.1.toList==[102,108,111,119])=false:=by rw [←flow_list];exact (Lib.bytes_beq_false_iff k.1 tFlow).2 hf
  have HE1:Hid ((if k.2.2=M.cur then 1 else 0)=E):=Lib.hid (by have:=HE.out;rw [if_neg hf] at this;exact this)
  clear hf HE
  cases hc:(k.2.2.toList==M.cur.toList) with
  | true =>
    have HEE:Hid (1=E):=Lib.hid (by have:=HE1.out;rw [if_pos ((Lib.bytes_beq_iff _ _).1 hc)] at this;exact this)
    go_enter Tryz.func50,Tryz.ntmps50
    go_wp2
    go_ret
    exact ⟨by rw [←HEE.out];rfl,HB2.out⟩
  | false =>
    have HEE:Hid (0=E):=Lib.hid (by have:=HE1.out;rw [if_neg ((Lib.bytes_beq_false_iff _ _).1 hc)] at this;exact this)
    go_enter Tryz.func50,Tryz.ntmps50
    go_wp2
    go_ret
    exact ⟨by rw [←HEE.out];rfl,HB2.out⟩
end Go.Proofs.YthcpglnmhimepaaGreatDoor.Cs.Ta
end
section
namespace Go.Proofs.YthcpglnmhimepaaGreatDoor.Cs
open Go.RowKit Go.Proofs.YthcpglnmhimepaaGreatDoor.Un Go.Proofs.YthcpglnmhimepaaGreatDoor.Pk
theorem kind_doc (M:Mast) (c:ByteArray):kindF M c=kindO' (Fl.findF M.flows c):=by unfold kindF kindO';cases Fl.findF M.flows c <;> rfl
set_option maxRecDepth 100000 in
set_option maxHeartbeats 8000000 in
theorem right_any (c f e l vl:Value) (M:Mast) (L:List Crs) (x:Crs) (w:World) (hM:MastIn w c f e l M) (hV:TabV w vl L) (hL:L.length≤1000) :
 Calls Tryz.prog 27 #[aggM c f e l M,vl,aggX x] w fun en w'=>en=.returned (.int .i64 (rightE M L x))∧Below w.heap.size w w':=by
 obtain ⟨pv,cp,rfl,hcap,hmx,_,hcl⟩:=id hV
 obtain ⟨n,hn⟩:∃ n,L.length=n:=⟨_,rfl⟩
 obtain ⟨pc,cc,pf,cf,pe,ce,pl,cl,rfl,rfl,rfl,rfl⟩:=shapes hM
 obtain ⟨W1,hW1⟩:∃ W1,w.alloc (.cells (cellsM (.slice pc M.chart.length cc) (.slice pf M.flows.length cf) (.slice pe M.ents.length ce) (.slice pl M.lines.length cl) M) 36)=W1:=⟨_,rfl⟩
 have hb1:Below w.heap.size w W1:=by rw [←hW1];exact (Below.refl _ w).alloc (Nat.le_refl _) _
 have hn1:NineAt W1 w.heap.size (.slice pc M.chart.length cc) (.slice pf M.flows.length cf) (.slice pe M.ents.length ce) (.slice pl M.lines.length cl) M:=by rw [←hW1];exact nine_new w _ _ _ _ M _
 obtain ⟨W2,hW2⟩:∃ W2,W1.alloc (.cells #[.string x.sort,.string x.flw,.string x.cur,.int .i64 x.num,.int .i64 x.den] 90)=W2:=⟨_,rfl⟩
 have hb12:Below W1.heap.size W1 W2:=by rw [←hW2];exact (Below.refl _ W1).alloc (Nat.le_refl _) _
 have hx2:ElAt encX W2 W1.heap.size 0 x:=by rw [←hW2];exact el_new encX W1 x _
 have hb2:=hb1.trans (hb12.mono hb1.size)
 have HB2:=Lib.hid hb2
 have HN2:=Lib.hid (hn1.kept hb12)
 have HX2:=Lib.hid hx2
 have HM2:=Lib.hid (hM.keep hb2)
 have HV2:=Lib.hid (hV.keep hb2)
 have HNN:=Lib.hid hn
 obtain ⟨R,hR⟩:∃ R,rightE M L x=R:=⟨_,rfl⟩
 have HR:=Lib.hid hR
 rw [hR,hn]
 rw [hn] at hcap hL HV2
 have HKI:=Lib.hid (fun W h=>rkind_any (.slice pf M.flows.length cf) M.flows x.flw W h)
 have HKD:Hid (kindF M x.flw=kindO' (Fl.findF M.flows x.flw)):=Lib.hid (kind_doc M x.flw)
 have HHF:Hid (hasFl M x.flw=(Fl.findF M.flows x.flw).isSome):=Lib.hid rfl
 obtain ⟨kn,hkn⟩:∃ k,kindO' (Fl.findF M.flows x.flw)=k:=⟨_,rfl⟩
 obtain ⟨is,his⟩:∃ b,(Fl.findF M.flows x.flw).isSome=b:=⟨_,rfl⟩
 simp only [hkn,his] at HKI
 rw [hkn] at HKD
 rw [his] at HHF
 clear hM hV hcl hn hR hb1 hn1 hb12 hx2 hb2 hkn his hmx
 obtain ⟨k0,k1,k2,k3,k4,k5,k6,k7,k8⟩:=HN2.out
 obtain ⟨c0,c1,c2,c3,c4⟩:=crs5 HX2.out
 simp only [Nat.zero_add] at c0 c1 c2 c3 c4
 go_enter Tryz.func27,Tryz.ntmps27
 by_cases hs:x.sort=tFlow
 ·have hz:(x.sort.toList==[102,108,111,119])=true:=by rw [←flow_list,hs];exact beq_self_eq_true _
  have HS:=Lib.hid hs
  clear hs
  go_wp2_with fail
  clear k0 k1 k2 k3 k4 k5 k6 k7 k8 c0 c1 c2 c3 c4 hz hW1 hW2
  refine (HKI.out _ HM2.out.flows).mono ?_
  rintro en w3 ⟨rfl,hb3⟩
  have HB3:=Lib.hid (HB2.out.trans (hb3.mono HB2.out.size))
  have HN3:=Lib.hid (HN2.out.kept hb3)
  have HX3:=Lib.hid (HX2.out.keep hb3 HX2.out.lt)
  have HV3:=Lib.hid (HV2.out.keep hb3)
  clear hb3 HB2 HN2 HX2 HV2 HM2 HKI
  cases is with
  | false =>
    have HR6:Hid (R=6):=Lib.hid (by rw [←HR.out];unfold rightE flowE;rw [if_pos HS.out,HHF.out];simp)
    go_wp2
    go_ret
    exact ⟨by rw [HR6.out];first | done | rfl,HB3.out⟩
  | true =>
  by_cases hk:kn=1∨kn=3
  ·have HFE:Hid (flowE M x=0):=Lib.hid (by unfold flowE;rw [if_pos HS.out,HHF.out,if_neg (by simp),HKD.out,if_pos hk])
   rcases hk with rfl | rfl
   all_goals
    have HE:Hid (R=if x.cur=M.cur then 1 else tabE L x):=Lib.hid (by rw [←HR.out];unfold rightE;rw [HFE.out];simp)
    obtain ⟨k0,k1,k2,k3,k4,k5,k6,k7,k8⟩:=HN3.out
    obtain ⟨c0,c1,c2,c3,c4⟩:=crs5 HX3.out
    simp only [Nat.zero_add] at c0 c1 c2 c3 c4
    cases hc:(x.cur.toList==M.cur.toList) with
    | true =>
      have HR1:Hid (R=1):=Lib.hid (by rw [HE.out,if_pos ((Lib.bytes_beq_iff x.cur M.cur).1 hc)])
      go_wp2
      go_ret
      exact ⟨by rw [HR1.out];first | done | rfl,HB3.out⟩
    | false =>
      have HR2:Hid (R=tabE L x):=Lib.hid (by rw [HE.out,if_neg ((Lib.bytes_beq_false_iff x.cur M.cur).1 hc)])
      go_wp2_with fail
      clear k0 k1 k2 k3 k4 k5 k6 k7 k8 c0 c1 c2 c3 c4 hc
      go_loopw [9] (fun s9 wr=>∃ i:Nat,s9=.int .i64 (i:Int)∧i≤n∧Hid (∀ (j:Nat) (y:Crs),j < i→L[j]?=some y→y.key≠x.key)∧Hid (Below w3.heap.size w3 wr)) (fun s9 _=>n - (intOf s9).toNat)
      case atStart=>exact ⟨0,rfl,Nat.zero_le _,Lib.hid fun j y hj=>absurd hj (Nat.not_lt_zero _),Lib.hid (Below.refl _ _)⟩
      case round =>
       obtain ⟨i,rfl,hi,HNO,HBr⟩:=hrel
       have HBF:=Lib.hid (HB3.out.trans (HBr.out.mono HB3.out.size))
       by_cases hlt:i < n
       ·obtain ⟨y,hy⟩:∃ y,L[i]?=some y:=⟨_,List.getElem?_eq_getElem (by rw [HNN.out];exact hlt)⟩
        obtain ⟨b,o,e',hat⟩:=Fa.ElsV.at_ (HV3.out.keep HBr.out) hy
        cases e'
        obtain ⟨r0,r1,r2,r3,r4⟩:=crs5 hat
        simp only [show encX.k=5 from rfl] at r0 r1 r2 r3 r4
        obtain ⟨c0,c1,c2,c3,c4⟩:=crs5 (HX3.out.keep HBr.out HX3.out.lt)
        simp only [Nat.zero_add] at c0 c1 c2 c3 c4
        have HY:=Lib.hid hy
        have hnx:Hid (y.key≠x.key→∀ (j:Nat) (z:Crs),j < i+1→L[j]?=some z→z.key≠x.key):=Lib.hid fun hne j z hj hz=>by
         rcases Nat.lt_or_ge j i with h | h
         ·exact HNO.out j z h hz
         ·obtain rfl:j=i:=by omega
          rw [HY.out] at hz
          cases hz
          exact hne
        clear hy hat
        cases h1:(y.sort.toList==x.sort.toList) with
        | false =>
          have HN2:=Lib.hid (hnx.out fun e=>(Lib.bytes_beq_false_iff y.sort x.sort).1 h1 (congrArg Prod.fst e))
          go_wp2_with fail
          go_big_quiet (fail)
          have HB3:=Lib.hid (Fa.belowN HBr.out nq)
          clear r0 r1 r2 r3 r4 c0 c1 c2 c3 c4 h1
          go_wp2
          go_roundw
          case rel=>exact ⟨i+1,by go_num,by omega,HN2,HB3⟩
          case measure=>simp [intOf];omega
        | true =>
        cases h2:(y.flw.toList==x.flw.toList) with
        | false =>
          have HN2:=Lib.hid (hnx.out fun e=>(Lib.bytes_beq_false_iff y.flw x.flw).1 h2 (congrArg (fun z=>z.2.1) e))
          go_wp2_with fail
          go_big_quiet (fail)
          have HB3:=Lib.hid (Fa.belowN HBr.out nq)
          clear r0 r1 r2 r3 r4 c0 c1 c2 c3 c4 h1 h2
          go_wp2
          go_roundw
          case rel=>exact ⟨i+1,by go_num,by omega,HN2,HB3⟩
          case measure=>simp [intOf];omega
        | true =>
        cases h3:(y.cur.toList==x.cur.toList) with
        | false =>
          have HN2:=Lib.hid (hnx.out fun e=>(Lib.bytes_beq_false_iff y.cur x.cur).1 h3 (congrArg (fun z=>z.2.2) e))
          go_wp2_with fail
          go_big_quiet (fail)
          have HB3:=Lib.hid (Fa.belowN HBr.out nq)
          clear r0 r1 r2 r3 r4 c0 c1 c2 c3 c4 h1 h2 h3
          go_wp2
          go_roundw
          case rel=>exact ⟨i+1,by go_num,by omega,HN2,HB3⟩
          case measure=>simp [intOf];omega
        | true =>
          have hkey:y.key=x.key:=by
           unfold Crs.key
           rw [(Lib.bytes_beq_iff y.sort x.sort).1 h1,(Lib.bytes_beq_iff y.flw x.flw).1 h2,(Lib.bytes_beq_iff y.cur x.cur).1 h3]
          have HR7:Hid (R=7):=Lib.hid (by rw [HR2.out];unfold tabE;rw [fnd_first HNO.out HY.out hkey];rfl)
          clear hkey hnx
          go_wp2_with fail
          go_big_quiet (fail)
          have HB3:=Lib.hid (Fa.belowN HBF.out nq)
          clear r0 r1 r2 r3 r4 c0 c1 c2 c3 c4 h1 h2 h3
          go_wp2
          go_ret
          exact ⟨by rw [HR7.out];first | done | rfl,HB3.out⟩
       ·obtain rfl:i=n:=by omega
        have HNF:Hid (G.findK Crs.key L x.key=none):=Lib.hid (fnd_nowhere fun j y hy=>HNO.out j y (by have:=(List.getElem?_eq_some_iff.1 hy).1;rw [HNN.out] at this;exact this) hy)
        by_cases h5:500≤i
        ·have HR4:Hid (R=4):=Lib.hid (by rw [HR2.out];unfold tabE;rw [HNF.out,if_neg (by simp),if_pos (by rw [HNN.out];exact h5)])
         go_wp2
         go_ret
         exact ⟨by rw [HR4.out];first | done | rfl,HBF.out⟩
        ·have HR0:Hid (R=0):=Lib.hid (by rw [HR2.out];unfold tabE;rw [HNF.out,if_neg (by simp),if_neg (by rw [HNN.out];exact h5)])
         go_wp2
         go_ret
         exact ⟨by rw [HR0.out];first | done | rfl,HBF.out⟩
  ·have HFE:Hid (flowE M x=8):=Lib.hid (by unfold flowE;rw [if_pos HS.out,HHF.out,if_neg (by simp),HKD.out,if_neg hk])
   have HR8:Hid (R=8):=Lib.hid (by rw [←HR.out];unfold rightE;rw [HFE.out];simp)
   have hk1:(kn != 1)=true:=by rw [bne_iff_ne];exact fun e=>hk (.inl e)
   have hk3:(kn != 3)=true:=by rw [bne_iff_ne];exact fun e=>hk (.inr e)
   clear hk
   go_wp2
   go_ret
   exact ⟨by rw [HR8.out];first | done | rfl,HB3.out⟩
 ·have hz:(x.sort.toList==[102,108,111,119])=false:=by rw [←flow_list];exact (Lib.bytes_beq_false_iff x.sort tFlow).2 hs
  have HFE:Hid (flowE M x=0):=Lib.hid (by unfold flowE;rw [if_neg hs])
  clear hs k0 k1 k2 k3 k4 k5 k6 k7 k8 c0 c1 c2 c3 c4
  have HE:Hid (R=if x.cur=M.cur then 1 else tabE L x):=Lib.hid (by rw [←HR.out];unfold rightE;rw [HFE.out];simp)
  obtain ⟨k0,k1,k2,k3,k4,k5,k6,k7,k8⟩:=HN2.out
  obtain ⟨c0,c1,c2,c3,c4⟩:=crs5 HX2.out
  simp only [Nat.zero_add] at c0 c1 c2 c3 c4
  cases hc:(x.cur.toList==M.cur.toList) with
  | true =>
    have HR1:Hid (R=1):=Lib.hid (by rw [HE.out,if_pos ((Lib.bytes_beq_iff x.cur M.cur).1 hc)])
    go_wp2
    go_ret
    exact ⟨by rw [HR1.out];first | done | rfl,HB2.out⟩
  | false =>
    have HR2:Hid (R=tabE L x):=Lib.hid (by rw [HE.out,if_neg ((Lib.bytes_beq_false_iff x.cur M.cur).1 hc)])
    go_wp2_with fail
    clear k0 k1 k2 k3 k4 k5 k6 k7 k8 c0 c1 c2 c3 c4 hc hW1 hW2
    go_loopw [9] (fun s9 wr=>∃ i:Nat,s9=.int .i64 (i:Int)∧i≤n∧Hid (∀ (j:Nat) (y:Crs),j < i→L[j]?=some y→y.key≠x.key)∧Hid (Below W2.heap.size W2 wr)) (fun s9 _=>n - (intOf s9).toNat)
    case atStart=>exact ⟨0,rfl,Nat.zero_le _,Lib.hid fun j y hj=>absurd hj (Nat.not_lt_zero _),Lib.hid (Below.refl _ _)⟩
    case round =>
     obtain ⟨i,rfl,hi,HNO,HBr⟩:=hrel
     have HBF:=Lib.hid (HB2.out.trans (HBr.out.mono HB2.out.size))
     by_cases hlt:i < n
     ·obtain ⟨y,hy⟩:∃ y,L[i]?=some y:=⟨_,List.getElem?_eq_getElem (by rw [HNN.out];exact hlt)⟩
      obtain ⟨b,o,e',hat⟩:=Fa.ElsV.at_ (HV2.out.keep HBr.out) hy
      cases e'
      obtain ⟨r0,r1,r2,r3,r4⟩:=crs5 hat
      simp only [show encX.k=5 from rfl] at r0 r1 r2 r3 r4
      obtain ⟨c0,c1,c2,c3,c4⟩:=crs5 (HX2.out.keep HBr.out HX2.out.lt)
      simp only [Nat.zero_add] at c0 c1 c2 c3 c4
      have HY:=Lib.hid hy
      have hnx:Hid (y.key≠x.key→∀ (j:Nat) (z:Crs),j < i+1→L[j]?=some z→z.key≠x.key):=Lib.hid fun hne j z hj hz=>by
       rcases Nat.lt_or_ge j i with h | h
       ·exact HNO.out j z h hz
       ·obtain rfl:j=i:=by omega
        rw [HY.out] at hz
        cases hz
        exact hne
      clear hy hat
      cases h1:(y.sort.toList==x.sort.toList) with
      | false =>
        have HN2:=Lib.hid (hnx.out fun e=>(Lib.bytes_beq_false_iff y.sort x.sort).1 h1 (congrArg Prod.fst e))
        go_wp2_with fail
        go_big_quiet (fail)
        have HB3:=Lib.hid (Fa.belowN HBr.out nq)
        clear r0 r1 r2 r3 r4 c0 c1 c2 c3 c4 h1
        go_wp2
        go_roundw
        case rel=>exact ⟨i+1,by go_num,by omega,HN2,HB3⟩
        case measure=>simp [intOf];omega
      | true =>
      cases h2:(y.flw.toList==x.flw.toList) with
      | false =>
        have HN2:=Lib.hid (hnx.out fun e=>(Lib.bytes_beq_false_iff y.flw x.flw).1 h2 (congrArg (fun z=>z.2.1) e))
        go_wp2_with fail
        go_big_quiet (fail)
        have HB3:=Lib.hid (Fa.belowN HBr.out nq)
        clear r0 r1 r2 r3 r4 c0 c1 c2 c3 c4 h1 h2
        go_wp2
        go_roundw
        case rel=>exact ⟨i+1,by go_num,by omega,HN2,HB3⟩
        case measure=>simp [intOf];omega
      | true =>
      cases h3:(y.cur.toList==x.cur.toList) with
      | false =>
        have HN2:=Lib.hid (hnx.out fun e=>(Lib.bytes_beq_false_iff y.cur x.cur).1 h3 (congrArg (fun z=>z.2.2) e))
        go_wp2_with fail
        go_big_quiet (fail)
        have HB3:=Lib.hid (Fa.belowN HBr.out nq)
        clear r0 r1 r2 r3 r4 c0 c1 c2 c3 c4 h1 h2 h3
        go_wp2
        go_roundw
        case rel=>exact ⟨i+1,by go_num,by omega,HN2,HB3⟩
        case measure=>simp [intOf];omega
      | true =>
        have hkey:y.key=x.key:=by
         unfold Crs.key
         rw [(Lib.bytes_beq_iff y.sort x.sort).1 h1,(Lib.bytes_beq_iff y.flw x.flw).1 h2,(Lib.bytes_beq_iff y.cur x.cur).1 h3]
        have HR7:Hid (R=7):=Lib.hid (by rw [HR2.out];unfold tabE;rw [fnd_first HNO.out HY.out hkey];rfl)
        clear hkey hnx
        go_wp2_with fail
        go_big_quiet (fail)
        have HB3:=Lib.hid (Fa.belowN HBF.out nq)
        clear r0 r1 r2 r3 r4 c0 c1 c2 c3 c4 h1 h2 h3
        go_wp2
        go_ret
        exact ⟨by rw [HR7.out];first | done | rfl,HB3.out⟩
     ·obtain rfl:i=n:=by omega
      have HNF:Hid (G.findK Crs.key L x.key=none):=Lib.hid (fnd_nowhere fun j y hy=>HNO.out j y (by have:=(List.getElem?_eq_some_iff.1 hy).1;rw [HNN.out] at this;exact this) hy)
      by_cases h5:500≤i
      ·have HR4:Hid (R=4):=Lib.hid (by rw [HR2.out];unfold tabE;rw [HNF.out,if_neg (by simp),if_pos (by rw [HNN.out];exact h5)])
       go_wp2
       go_ret
       exact ⟨by rw [HR4.out];first | done | rfl,HBF.out⟩
      ·have HR0:Hid (R=0):=Lib.hid (by rw [HR2.out];unfold tabE;rw [HNF.out,if_neg (by simp),if_neg (by rw [HNN.out];exact h5)])
       go_wp2
       go_ret
       exact ⟨by rw [HR0.out];first | done | rfl,HBF.out⟩
end Go.Proofs.YthcpglnmhimepaaGreatDoor.Cs
end
section
namespace Go.Proofs.YthcpglnmhimepaaGreatDoor.Un
open Go.RowKit
theorem wp_store_acct {P:Program} {o:Oper} {act:Act} {w:World} {K:Act→World→Prop} {Q:Exit→Act→World→Prop} (ty:TypeId) (x y:Operand) (ho:o.op=.store ty x y)
 (g:Nat) (z a:Acct) (t:TypeId) (hx:act.eval x=.pointer (some ⟨g,0,none⟩)) (hy:act.eval y=aggF a) (hg:BoxA w g t z) (hi:(P.info? ty).map (·.size)=some 6)
 (h:∀ w',BoxA w' g t a→w.grownBy w' (some g)→K (act.put o.dst undef) w'):o.wp P act w K Q :=
 wp_store_row ty x y ho g _ hx hy t _ hg hi rfl (acct_one a) (h _ (hg.set a) (grownBy_setRow w g _))
def codesD (M:Mast):List (ByteArray × Int):=[(M.res,2),(M.min,2),(M.dif,0),(M.stk,0)]
theorem codesD_cls {M:Mast} {i:Nat} {x:ByteArray} {k:Int} (h:(codesD M)[i]?=some (x,k)):k=if 1 < i then 0 else 2:=by
 match i,h with
 | 0,h=>simp [codesD] at h;simp [h.2.symm]
 | 1,h=>simp [codesD] at h;simp [h.2.symm]
 | 2,h=>simp [codesD] at h;simp [h.2.symm]
 | 3,h=>simp [codesD] at h;simp [h.2.symm]
 | i+4,h=>simp [codesD] at h
def allD (M:Mast):Int :=
 if M.cur=emp then 6
 else if (codesD M).all (fun x=>(findL M.chart x.1).isSome)=false then 6
 else if M.lines.all (fun x=>(findL M.chart x.acc).isSome && (Fl.findF M.flows x.flow).isSome)=false then 6
 else if Fl.wholeTo M.flows 5=false then 8
 else if (codesD M).all (fun x=>specA (findV (findL M.chart x.1)) x.2)=false then 15 else 0
set_option maxRecDepth 100000 in
set_option maxHeartbeats 16000000 in
theorem rall_any (c f e l:Value) (M:Mast) (w:World) (h:MastIn w c f e l M) (hfl:M.flows.length≤1000) :
 Calls Tryz.prog 44 #[aggM c f e l M] w fun en w'=>en=.returned (.int .i64 (allD M))∧Below w.heap.size w w':=by
 have hb0:=(Below.refl w.heap.size w).alloc (Nat.le_refl _) (.cells (cellsM c f e l M) 36)
 have hb1:=hb0.alloc hb0.size (.cells #[.string M.res,.string M.min,.string M.dif,.string M.stk] 9)
 have hbx:=(Below.refl _ (w.alloc (.cells (cellsM c f e l M) 36))).alloc (Nat.le_refl _) (.cells #[.string M.res,.string M.min,.string M.dif,.string M.stk] 9)
 have hn0:=nine_new w c f e l M 36
 have hn1:=hn0.kept hbx
 have hm1:=h.keep hb1
 have hst:=strs_new (w.alloc (.cells (cellsM c f e l M) 36)) ((codesD M).map (·.1)) 9 (by unfold maxLen;simp [codesD])
 rw [World.size_alloc] at hst
 obtain ⟨W1,hW1⟩:∃ W1,(w.alloc (.cells (cellsM c f e l M) 36)).alloc (.cells #[.string M.res,.string M.min,.string M.dif,.string M.stk] 9)=W1:=⟨_,rfl⟩
 have hst1:StrsV W1 (.slice (some ⟨w.heap.size+1,0,none⟩) 4 4) ((codesD M).map (·.1)):=by rw [←hW1];exact hst
 rw [hW1] at hb1 hn1 hm1
 have HB1:=Lib.hid hb1
 have HN1:=Lib.hid hn1
 have HM1:=Lib.hid hm1
 obtain ⟨p,cp,e1,_,_,hst2⟩:=hst1
 cases e1
 have HST:=Lib.hid hst2
 have HCN:Hid ((codesD M).length=4):=Lib.hid rfl
 obtain ⟨pl,cl,el,hcl,hml,_,hlv⟩:=hm1.lines
 subst el
 obtain ⟨n,hn⟩:∃ n,M.lines.length=n:=⟨_,rfl⟩
 rw [hn] at hcl HN1 HM1 hn1 hW1 ⊢
 have HN:=Lib.hid hn
 have HLV:=Lib.hid hlv
 have HFI:=Lib.hid (fun x W hW=>rcfind_any c M.chart x W hW)
 have HKI:=Lib.hid (fun x W hW=>rkind_any f M.flows x W hW)
 have HWH:=Lib.hid (fun W hW=>rwhole_any f M.flows W hW hfl)
 obtain ⟨R,hR⟩:∃ R,allD M=R:=⟨_,rfl⟩
 rw [hR]
 have HR:Hid (allD M=R):=Lib.hid hR
 unfold maxLen at hml
 by_cases hcur:M.cur=emp
 ·have HRF:Hid (R=6):=Lib.hid (by rw [←HR.out];unfold allD;rw [if_pos hcur])
  have hq2:M.cur.toList.isEmpty=true:=by
   have hne:(!M.cur.toList.isEmpty)=false:=by rw [hcur];exact neB_empty
   revert hne;cases M.cur.toList.isEmpty <;> simp
  clear hb0 hb1 hbx hn0 hm1 hst hst2 hn hlv hR h hcur
  obtain ⟨k0,k1,k2,k3,k4,k5,k6,k7,k8⟩:=hn1
  go_enter Tryz.func44,Tryz.ntmps44
  go_wp2
  go_ret
  exact ⟨by rw [HRF.out];rfl,HB1.out⟩
 have HCU:=Lib.hid hcur
 have hq2:M.cur.toList.isEmpty=false:=by
  have hne:(!M.cur.toList.isEmpty)=true:=(neB_iff M.cur).2 hcur
  revert hne;cases M.cur.toList.isEmpty <;> simp
 clear hb0 hb1 hbx hn0 hm1 hst hst2 hn hlv hR h hcur
 obtain ⟨k0,k1,k2,k3,k4,k5,k6,k7,k8⟩:=hn1
 go_enter Tryz.func44,Tryz.ntmps44
 go_wp2
 clear k0 k1 k2 k3 k4 k5 k6 k7 k8 hW1 hq2
 go_loopw [4] (fun si wr=>∃ i:Nat,i≤4∧si=.int .i64 (i:Int)∧Hid (Below W1.heap.size W1 wr)∧Hid (SoFar (fun x:ByteArray × Int=>(findL M.chart x.1).isSome) (codesD M) i)) (fun si _=>4 - (intOf si).toNat)
 case atStart=>exact ⟨0,by omega,rfl,Lib.hid (Below.refl _ _),Lib.hid (SoFar.zero _ _)⟩
 case round =>
  obtain ⟨i,hi,rfl,HB,HSF⟩:=hrel
  by_cases hlt:i < 4
  ·obtain ⟨⟨x,kx⟩,hx⟩:∃ x,(codesD M)[i]?=some x:=⟨_,List.getElem?_eq_getElem (by rw [HCN.out];exact hlt)⟩
   obtain ⟨b,o,e2,hcx⟩:=HST.out i x (by rw [List.getElem?_map,hx];rfl)
   cases e2
   have HX:=Lib.hid hx
   have y0:=cell_later HB.out hcx
   rw [Nat.zero_add] at y0
   have k0:=(HN1.out.keep HB.out HN1.out.lt).c0
   have r0:=fun p:Past wr=>cell_past y0 p
   have r1:=fun p:Past wr=>cell_past k0 p
   obtain ⟨FA,hFA⟩:∃ FA,findV (findL M.chart x)=FA:=⟨_,rfl⟩
   obtain ⟨IS,hIS⟩:∃ IS,(findL M.chart x).isSome=IS:=⟨_,rfl⟩
   have HF:=Lib.hid (HFI.out x)
   rw [hFA,hIS] at HF
   have HIS:=Lib.hid hIS
   have HCH:=Lib.hid (HM1.out.chart.keep HB.out)
   clear hx hcx hFA hIS y0 k0
   go_wp2_with fail
   refine wp_region_plan (.two [0,1,2,3,4,5] 6 (.one [7,8,9] 10 (.one [] 11 (.last [12]))) 10 (.one [] 6 (.one [7,8,9] 11 (.last [12])))) (by kernel_rfl) (by kernel_rfl) (fun d _ _ _ _ h=>by cases d <;> exact h) ?_
   obtain ⟨wq,hwq⟩:∃ wq,wr.drew=wq:=⟨_,rfl⟩
   rw [hwq]
   have HD:Hid (Below wr.heap.size wr wq):=Lib.hid (by rw [←hwq];exact ⟨rfl,rfl,rfl,Nat.le_refl _,fun _ _=>rfl⟩)
   clear hwq
   simp only [wpPlan,pick,nth]
   repeat (go_big_quiet_step (fail))
   refine wpQuiet_nil ?_
   clear r0 r1
   refine ⟨?_,?_⟩
   ·intro K hK
    refine alone_want (by kernel_rfl) ?_
    go_big_op
    refine (HF.out wq (HCH.out.keep HD.out)).mono ?_
    rintro en w2 ⟨rfl,hb2⟩
    have HP2:=Lib.hid (HD.out.trans (hb2.mono HD.out.size))
    clear hb2
    refine hK _ _ (past_in HP2.out) ?_
    clear hK K
    repeat (go_big_quiet_step (fail))
    refine wpQuiet_nil ?_
    intro K hK
    refine alone_want (by kernel_rfl) ?_
    go_big_op
    have HP3:=Lib.hid (HP2.out.alloc HP2.out.size (.cells (encA.cs zeroA).toArray 157))
    refine hK _ _ (past_in HP3.out) ?_
    clear hK K
    refine wpQuiet_nil ?_
    intro K hK
    refine alone_want (by kernel_rfl) ?_
    refine wp_store_acct 157 (.tmp 5) (.tmp 40) rfl w2.heap.size zeroA FA 157 rfl rfl (BoxA.new w2 zeroA _) (by kernel_rfl) ?_
    intro w3 hb3 hg3
    have HP4:=Lib.hid (HP3.out.grown hg3 HP3.out.size (fun j hj=>by cases hj;exact HP2.out.size))
    have HX3:=Lib.hid hb3
    clear hb3 hg3
    refine hK _ _ (past_in HP4.out) ?_
    clear hK K
    simp only [Act.put]
    repeat (go_big_quiet_step (fail))
    refine wpQuiet_nil ?_
    have HBN:=Lib.hid (HB.out.trans (HP4.out.mono HB.out.size))
    cases IS with
    | false =>
      have HRF:Hid (R=6):=Lib.hid (by
       rw [←HR.out];unfold allD
       rw [if_neg HCU.out,if_pos (all_no HX.out HIS.out)])
      go_wp2
      go_ret
      exact ⟨by rw [HRF.out];rfl,HB1.out.trans (HBN.out.mono HB1.out.size)⟩
    | true =>
      have HSN:=Lib.hid (HSF.out.next HX.out HIS.out)
      go_wp2
      go_roundw
      case rel=>exact ⟨i+1,by omega,by go_num,HBN,HSN⟩
      case measure=>simp [intOf];omega
   ·intro K hK
    refine alone_want (by kernel_rfl) ?_
    go_big_op
    have HP2:=Lib.hid (HD.out.alloc HD.out.size (.cells (encA.cs zeroA).toArray 157))
    have hb2:BoxA (wq.alloc (.cells (encA.cs zeroA).toArray 157)) wq.heap.size 157 zeroA:=BoxA.new wq zeroA _
    refine hK _ _ (past_in HP2.out) ?_
    clear hK K
    refine wpQuiet_nil ?_
    intro K hK
    refine alone_want (by kernel_rfl) ?_
    go_big_op
    refine (HF.out _ (HCH.out.keep HP2.out)).mono ?_
    rintro en w2 ⟨rfl,hb3⟩
    have HP3:=Lib.hid (HP2.out.trans (hb3.mono HP2.out.size))
    have HX2:=Lib.hid (hb2.keep hb3 (Array.getElem?_eq_some_iff.1 hb2).1)
    clear hb2 hb3
    refine hK _ _ (past_in HP3.out) ?_
    clear hK K
    repeat (go_big_quiet_step (fail))
    refine wpQuiet_nil ?_
    intro K hK
    refine alone_want (by kernel_rfl) ?_
    refine wp_store_acct 157 (.tmp 5) (.tmp 40) rfl wq.heap.size zeroA FA 157 rfl rfl HX2.out (by kernel_rfl) ?_
    intro w3 hb3 hg3
    have HP4:=Lib.hid (HP3.out.grown hg3 HP3.out.size (fun j hj=>by cases hj;exact HD.out.size))
    have HX3:=Lib.hid hb3
    clear hb3 hg3
    refine hK _ _ (past_in HP4.out) ?_
    clear hK K
    simp only [Act.put]
    repeat (go_big_quiet_step (fail))
    refine wpQuiet_nil ?_
    have HBN:=Lib.hid (HB.out.trans (HP4.out.mono HB.out.size))
    cases IS with
    | false =>
      have HRF:Hid (R=6):=Lib.hid (by
       rw [←HR.out];unfold allD
       rw [if_neg HCU.out,if_pos (all_no HX.out HIS.out)])
      go_wp2
      go_ret
      exact ⟨by rw [HRF.out];rfl,HB1.out.trans (HBN.out.mono HB1.out.size)⟩
    | true =>
      have HSN:=Lib.hid (HSF.out.next HX.out HIS.out)
      go_wp2
      go_roundw
      case rel=>exact ⟨i+1,by omega,by go_num,HBN,HSN⟩
      case measure=>simp [intOf];omega
  ·have HA1:Hid ((codesD M).all (fun x=>(findL M.chart x.1).isSome)=true):=Lib.hid (HSF.out.done (by rw [HCN.out];omega))
   rename World=>wa
   go_wp2
   go_loopw [7] (fun si wr=>∃ i:Nat,i≤n∧si=.int .i64 (i:Int)∧Hid (Below W1.heap.size W1 wr)∧Hid (SoFar (fun x:Lin=>(findL M.chart x.acc).isSome && (Fl.findF M.flows x.flow).isSome) M.lines i)) (fun si _=>n - (intOf si).toNat)
   case atStart=>exact ⟨0,by omega,rfl,HB,Lib.hid (SoFar.zero _ _)⟩
   case round =>
    clear HB HSF
    obtain ⟨i,hi,rfl,HB,HSF⟩:=hrel
    by_cases hlt:i < n
    ·obtain ⟨x,hx⟩:∃ x,M.lines[i]?=some x:=⟨_,List.getElem?_eq_getElem (by rw [HN.out];exact hlt)⟩
     obtain ⟨b,o,rfl,hat⟩:=HLV.out i x hx
     have HX:=Lib.hid hx
     have HAT:=Lib.hid hat
     obtain ⟨d0,d1,d2⟩:=lin3 (hat.keep HB.out hat.lt)
     obtain ⟨k0,k1,k2,k3,k4,k5,k6,k7,k8⟩:=HN1.out.keep HB.out HN1.out.lt
     have r0:=fun p:Past wr=>cell_past d0 p
     have r1:=fun p:Past wr=>cell_past k0 p
     have r2:=fun p:Past wr=>cell_past k3 p
     obtain ⟨FA,hFA⟩:∃ FA,findV (findL M.chart x.acc)=FA:=⟨_,rfl⟩
     obtain ⟨IS,hIS⟩:∃ IS,(findL M.chart x.acc).isSome=IS:=⟨_,rfl⟩
     obtain ⟨KK,hKK⟩:∃ KK,kindO' (Fl.findF M.flows x.flow)=KK:=⟨_,rfl⟩
     obtain ⟨HS,hHS⟩:∃ HS,(Fl.findF M.flows x.flow).isSome=HS:=⟨_,rfl⟩
     have HF:=Lib.hid (HFI.out x.acc)
     have HK:=Lib.hid (HKI.out x.flow)
     rw [hFA,hIS] at HF
     rw [hKK,hHS] at HK
     have HIS:=Lib.hid hIS
     have HHS:=Lib.hid hHS
     have HCH:=Lib.hid (HM1.out.chart.keep HB.out)
     clear hx hat hFA hIS hKK hHS d0 d1 d2 k0 k1 k2 k4 k5 k6 k7 k8
     go_wp2_with fail
     refine wp_region_plan (.two [0,1,2,3,4,5,6,7] 8 (.one [9,10,11] 12 (.one [] 13 (.last [14]))) 12 (.one [] 8 (.one [9,10,11] 13 (.last [14])))) (by kernel_rfl) (by kernel_rfl) (fun d _ _ _ _ h=>by cases d <;> exact h) ?_
     obtain ⟨wq,hwq⟩:∃ wq,wr.drew=wq:=⟨_,rfl⟩
     rw [hwq]
     have HD:Hid (Below wr.heap.size wr wq):=Lib.hid (by rw [←hwq];exact ⟨rfl,rfl,rfl,Nat.le_refl _,fun _ _=>rfl⟩)
     clear hwq
     simp only [wpPlan,pick,nth]
     repeat (go_big_quiet_step (fail))
     refine wpQuiet_nil ?_
     clear r0 r1 r2 k3
     refine ⟨?_,?_⟩
     ·intro K hK
      refine alone_want (by kernel_rfl) ?_
      go_big_op
      refine (HF.out wq (HCH.out.keep HD.out)).mono ?_
      rintro en w2 ⟨rfl,hb2⟩
      have HP2:=Lib.hid (HD.out.trans (hb2.mono HD.out.size))
      clear hb2
      refine hK _ _ (past_in HP2.out) ?_
      clear hK K
      repeat (go_big_quiet_step (fail))
      refine wpQuiet_nil ?_
      intro K hK
      refine alone_want (by kernel_rfl) ?_
      go_big_op
      have HP3:=Lib.hid (HP2.out.alloc HP2.out.size (.cells (encA.cs zeroA).toArray 157))
      refine hK _ _ (past_in HP3.out) ?_
      clear hK K
      refine wpQuiet_nil ?_
      intro K hK
      refine alone_want (by kernel_rfl) ?_
      refine wp_store_acct 157 (.tmp 8) (.tmp 61) rfl w2.heap.size zeroA FA 157 rfl rfl (BoxA.new w2 zeroA _) (by kernel_rfl) ?_
      intro w3 hb3 hg3
      have HP4:=Lib.hid (HP3.out.grown hg3 HP3.out.size (fun j hj=>by cases hj;exact HP2.out.size))
      have HX3:=Lib.hid hb3
      clear hb3 hg3
      refine hK _ _ (past_in HP4.out) ?_
      clear hK K
      simp only [Act.put]
      repeat (go_big_quiet_step (fail))
      refine wpQuiet_nil ?_
      have HBN:=Lib.hid (HB.out.trans (HP4.out.mono HB.out.size))
      obtain ⟨d0,d1,d2⟩:=lin3 (HAT.out.keep HBN.out HAT.out.lt)
      obtain ⟨k0,k1,k2,k3,k4,k5,k6,k7,k8⟩:=HN1.out.keep HBN.out HN1.out.lt
      have s0:=fun p:Past w3=>cell_past d1 p
      have s1:=fun p:Past w3=>cell_past k1 p
      have s2:=fun p:Past w3=>cell_past k3 p
      have HFV:=Lib.hid (HM1.out.flows.keep HBN.out)
      have HD5:Hid (Below w3.heap.size w3 w3.drew):=Lib.hid ⟨rfl,rfl,rfl,Nat.le_refl _,fun _ _=>rfl⟩
      clear d0 d1 d2 k0 k1 k2 k3 k4 k5 k6 k7 k8
      go_wp2_with fail
      refine wp_region_plan (.one [0,1,2,3,4,5,6,7] 8 (.last [9,10,11,12,13])) (by kernel_rfl) (by kernel_rfl) (fun d _ _ _ _ h=>by cases d <;> exact h) ?_
      simp only [wpPlan,pick,nth]
      repeat (go_big_quiet_step (fail))
      refine wpQuiet_nil ?_
      intro K hK
      refine alone_want (by kernel_rfl) ?_
      go_big_op
      refine (HK.out _ (HFV.out.keep HD5.out)).mono ?_
      rintro en w5 ⟨rfl,hb5⟩
      have HP5:=Lib.hid (HD5.out.trans (hb5.mono HD5.out.size))
      have HBM:=Lib.hid (HBN.out.trans (HP5.out.mono HBN.out.size))
      refine hK _ _ (past_in HP5.out) ?_
      clear hK K hb5 s0 s1 s2
      repeat (go_big_quiet_step (fail))
      refine wpQuiet_nil ?_
      have HRX:Hid ((IS && HS)=false→R=6):=Lib.hid (fun hf=>by
       rw [←HR.out];unfold allD
       rw [if_neg HCU.out,if_neg (by rw [HA1.out];simp),if_pos (all_no HX.out (by rw [HIS.out,HHS.out];exact hf))])
      cases IS with
      | false =>
        have HRF:=Lib.hid (HRX.out rfl)
        go_wp2
        go_ret
        exact ⟨by rw [HRF.out];rfl,HB1.out.trans (HBM.out.mono HB1.out.size)⟩
      | true =>
        cases HS with
        | false =>
          have HRF:=Lib.hid (HRX.out rfl)
          go_wp2
          go_ret
          exact ⟨by rw [HRF.out];rfl,HB1.out.trans (HBM.out.mono HB1.out.size)⟩
        | true =>
          have HSN:=Lib.hid (HSF.out.next HX.out (by rw [HIS.out,HHS.out];rfl))
          go_wp2
          go_roundw
          case rel=>exact ⟨i+1,by omega,by go_num,HBM,HSN⟩
          case measure=>simp [intOf];omega
     ·intro K hK
      refine alone_want (by kernel_rfl) ?_
      go_big_op
      have HP2:=Lib.hid (HD.out.alloc HD.out.size (.cells (encA.cs zeroA).toArray 157))
      have hb2:BoxA (wq.alloc (.cells (encA.cs zeroA).toArray 157)) wq.heap.size 157 zeroA:=BoxA.new wq zeroA _
      refine hK _ _ (past_in HP2.out) ?_
      clear hK K
      refine wpQuiet_nil ?_
      intro K hK
      refine alone_want (by kernel_rfl) ?_
      go_big_op
      refine (HF.out _ (HCH.out.keep HP2.out)).mono ?_
      rintro en w2 ⟨rfl,hb3⟩
      have HP3:=Lib.hid (HP2.out.trans (hb3.mono HP2.out.size))
      have HX2:=Lib.hid (hb2.keep hb3 (Array.getElem?_eq_some_iff.1 hb2).1)
      clear hb2 hb3
      refine hK _ _ (past_in HP3.out) ?_
      clear hK K
      repeat (go_big_quiet_step (fail))
      refine wpQuiet_nil ?_
      intro K hK
      refine alone_want (by kernel_rfl) ?_
      refine wp_store_acct 157 (.tmp 8) (.tmp 61) rfl wq.heap.size zeroA FA 157 rfl rfl HX2.out (by kernel_rfl) ?_
      intro w3 hb3 hg3
      have HP4:=Lib.hid (HP3.out.grown hg3 HP3.out.size (fun j hj=>by cases hj;exact HD.out.size))
      have HX3:=Lib.hid hb3
      clear hb3 hg3
      refine hK _ _ (past_in HP4.out) ?_
      clear hK K
      simp only [Act.put]
      repeat (go_big_quiet_step (fail))
      refine wpQuiet_nil ?_
      have HBN:=Lib.hid (HB.out.trans (HP4.out.mono HB.out.size))
      obtain ⟨d0,d1,d2⟩:=lin3 (HAT.out.keep HBN.out HAT.out.lt)
      obtain ⟨k0,k1,k2,k3,k4,k5,k6,k7,k8⟩:=HN1.out.keep HBN.out HN1.out.lt
      have s0:=fun p:Past w3=>cell_past d1 p
      have s1:=fun p:Past w3=>cell_past k1 p
      have s2:=fun p:Past w3=>cell_past k3 p
      have HFV:=Lib.hid (HM1.out.flows.keep HBN.out)
      have HD5:Hid (Below w3.heap.size w3 w3.drew):=Lib.hid ⟨rfl,rfl,rfl,Nat.le_refl _,fun _ _=>rfl⟩
      clear d0 d1 d2 k0 k1 k2 k3 k4 k5 k6 k7 k8
      go_wp2_with fail
      refine wp_region_plan (.one [0,1,2,3,4,5,6,7] 8 (.last [9,10,11,12,13])) (by kernel_rfl) (by kernel_rfl) (fun d _ _ _ _ h=>by cases d <;> exact h) ?_
      simp only [wpPlan,pick,nth]
      repeat (go_big_quiet_step (fail))
      refine wpQuiet_nil ?_
      intro K hK
      refine alone_want (by kernel_rfl) ?_
      go_big_op
      refine (HK.out _ (HFV.out.keep HD5.out)).mono ?_
      rintro en w5 ⟨rfl,hb5⟩
      have HP5:=Lib.hid (HD5.out.trans (hb5.mono HD5.out.size))
      have HBM:=Lib.hid (HBN.out.trans (HP5.out.mono HBN.out.size))
      refine hK _ _ (past_in HP5.out) ?_
      clear hK K hb5 s0 s1 s2
      repeat (go_big_quiet_step (fail))
      refine wpQuiet_nil ?_
      have HRX:Hid ((IS && HS)=false→R=6):=Lib.hid (fun hf=>by
       rw [←HR.out];unfold allD
       rw [if_neg HCU.out,if_neg (by rw [HA1.out];simp),if_pos (all_no HX.out (by rw [HIS.out,HHS.out];exact hf))])
      cases IS with
      | false =>
        have HRF:=Lib.hid (HRX.out rfl)
        go_wp2
        go_ret
        exact ⟨by rw [HRF.out];rfl,HB1.out.trans (HBM.out.mono HB1.out.size)⟩
      | true =>
        cases HS with
        | false =>
          have HRF:=Lib.hid (HRX.out rfl)
          go_wp2
          go_ret
          exact ⟨by rw [HRF.out];rfl,HB1.out.trans (HBM.out.mono HB1.out.size)⟩
        | true =>
          have HSN:=Lib.hid (HSF.out.next HX.out (by rw [HIS.out,HHS.out];rfl))
          go_wp2
          go_roundw
          case rel=>exact ⟨i+1,by omega,by go_num,HBM,HSN⟩
          case measure=>simp [intOf];omega
    ·have HA2:Hid (M.lines.all (fun x=>(findL M.chart x.acc).isSome && (Fl.findF M.flows x.flow).isSome)=true):=Lib.hid (HSF.out.done (by rw [HN.out];omega))
     obtain ⟨k0,k1,k2,k3,k4,k5,k6,k7,k8⟩:=HN1.out.keep HB.out HN1.out.lt
     have HFV:=Lib.hid (HM1.out.flows.keep HB.out)
     obtain ⟨WH,hWH⟩:∃ WH,Fl.wholeTo M.flows 5=WH:=⟨_,rfl⟩
     have HW:=Lib.hid (HWH.out)
     rw [hWH] at HW
     have HHW:=Lib.hid hWH
     clear hWH
     go_wp2_with fail
     refine (HW.out _ HFV.out).mono ?_
     rintro en w5 ⟨rfl,hb5⟩
     have HB5:=Lib.hid (HB.out.trans (hb5.mono HB.out.size))
     clear hb5 k0 k1 k2 k3 k4 k5 k6 k7 k8
     cases WH with
     | false =>
       have HRF:Hid (R=8):=Lib.hid (by
        rw [←HR.out];unfold allD
        rw [if_neg HCU.out,if_neg (by rw [HA1.out];simp),if_neg (by rw [HA2.out];simp),if_pos HHW.out])
       go_wp2
       go_ret
       exact ⟨by rw [HRF.out];rfl,HB1.out.trans (HB5.out.mono HB1.out.size)⟩
     | true =>
       go_wp2
       go_loopw [12] (fun si wr=>∃ i:Nat,i≤4∧si=.int .i64 (i:Int)∧Hid (Below W1.heap.size W1 wr)∧Hid (SoFar (fun x:ByteArray × Int=>specA (findV (findL M.chart x.1)) x.2) (codesD M) i)) (fun si _=>4 - (intOf si).toNat)
       case atStart=>exact ⟨0,by omega,rfl,HB5,Lib.hid (SoFar.zero _ _)⟩
       case round =>
        clear HB HSF
        obtain ⟨i,hi,rfl,HB,HSF⟩:=hrel
        by_cases hlt:i < 4
        ·obtain ⟨⟨x,kx⟩,hx⟩:∃ x,(codesD M)[i]?=some x:=⟨_,List.getElem?_eq_getElem (by rw [HCN.out];exact hlt)⟩
         obtain ⟨b,o,e2,hcx⟩:=HST.out i x (by rw [List.getElem?_map,hx];rfl)
         cases e2
         have HX:=Lib.hid hx
         have hkx:=codesD_cls hx
         have y0:=cell_later HB.out hcx
         rw [Nat.zero_add] at y0
         have k0:=(HN1.out.keep HB.out HN1.out.lt).c0
         have r0:=fun p:Past wr=>cell_past y0 p
         have r1:=fun p:Past wr=>cell_past k0 p
         obtain ⟨FA,hFA⟩:∃ FA,findV (findL M.chart x)=FA:=⟨_,rfl⟩
         obtain ⟨IS,hIS⟩:∃ IS,(findL M.chart x).isSome=IS:=⟨_,rfl⟩
         have HF:=Lib.hid (HFI.out x)
         rw [hFA,hIS] at HF
         have HFA:=Lib.hid hFA
         have HCH:=Lib.hid (HM1.out.chart.keep HB.out)
         clear hx hcx hFA hIS y0 k0
         go_wp2_with fail
         refine wp_region_plan (.two [0,1,2,3,4,5] 6 (.one [7,8,9] 10 (.one [] 11 (.last [12]))) 10 (.one [] 6 (.one [7,8,9] 11 (.last [12])))) (by kernel_rfl) (by kernel_rfl) (fun d _ _ _ _ h=>by cases d <;> exact h) ?_
         obtain ⟨wq,hwq⟩:∃ wq,wr.drew=wq:=⟨_,rfl⟩
         rw [hwq]
         have HD:Hid (Below wr.heap.size wr wq):=Lib.hid (by rw [←hwq];exact ⟨rfl,rfl,rfl,Nat.le_refl _,fun _ _=>rfl⟩)
         clear hwq
         simp only [wpPlan,pick,nth]
         repeat (go_big_quiet_step (fail))
         refine wpQuiet_nil ?_
         clear r0 r1
         refine ⟨?_,?_⟩
         ·intro K hK
          refine alone_want (by kernel_rfl) ?_
          go_big_op
          refine (HF.out wq (HCH.out.keep HD.out)).mono ?_
          rintro en w2 ⟨rfl,hb2⟩
          have HP2:=Lib.hid (HD.out.trans (hb2.mono HD.out.size))
          clear hb2
          refine hK _ _ (past_in HP2.out) ?_
          clear hK K
          repeat (go_big_quiet_step (fail))
          refine wpQuiet_nil ?_
          intro K hK
          refine alone_want (by kernel_rfl) ?_
          go_big_op
          have HP3:=Lib.hid (HP2.out.alloc HP2.out.size (.cells (encA.cs zeroA).toArray 157))
          refine hK _ _ (past_in HP3.out) ?_
          clear hK K
          refine wpQuiet_nil ?_
          intro K hK
          refine alone_want (by kernel_rfl) ?_
          refine wp_store_acct 157 (.tmp 13) (.tmp 97) rfl w2.heap.size zeroA FA 157 rfl rfl (BoxA.new w2 zeroA _) (by kernel_rfl) ?_
          intro w3 hb3 hg3
          have HP4:=Lib.hid (HP3.out.grown hg3 HP3.out.size (fun j hj=>by cases hj;exact HP2.out.size))
          have HX3:=Lib.hid hb3
          clear hb3 hg3
          refine hK _ _ (past_in HP4.out) ?_
          clear hK K
          simp only [Act.put]
          repeat (go_big_quiet_step (fail))
          refine wpQuiet_nil ?_
          have HBN:=Lib.hid (HB.out.trans (HP4.out.mono HB.out.size))
          obtain ⟨q0,q1,q2,q3,q4,q5⟩:=HX3.out.facts
          obtain ⟨SP,hSP⟩:∃ SP,specA FA kx=SP:=⟨_,rfl⟩
          have HSP:=Lib.hid hSP
          have HSC:=Lib.hid (fun W=>special_any FA kx W)
          rw [hSP] at HSC
          clear hSP
          by_cases hi1:1 < i
          ·rw [if_pos hi1] at hkx
           subst hkx
           have hi1z:(1:Int) < (i:Int):=by omega
           go_wp2_with fail
           refine (HSC.out _).mono ?_
           rintro en w5 ⟨rfl,hb5⟩
           have HBM:=Lib.hid (HBN.out.trans (hb5.mono HBN.out.size))
           clear hb5 q0 q1 q2 q3 q4 q5
           cases SP with
           | false =>
             have HRF:Hid (R=15):=Lib.hid (by
              rw [←HR.out];unfold allD
              rw [if_neg HCU.out,if_neg (by rw [HA1.out];simp),if_neg (by rw [HA2.out];simp),if_neg (by rw [HHW.out];simp),if_pos (all_no HX.out (by rw [HFA.out];exact HSP.out))])
             go_wp2
             go_ret
             exact ⟨by rw [HRF.out];rfl,HB1.out.trans (HBM.out.mono HB1.out.size)⟩
           | true =>
             have HSN:=Lib.hid (HSF.out.next HX.out (by rw [HFA.out];exact HSP.out))
             go_wp2
             go_roundw
             case rel=>exact ⟨i+1,by omega,by go_num,HBM,HSN⟩
             case measure=>simp [intOf];omega
          ·rw [if_neg hi1] at hkx
           subst hkx
           have hi1z:¬ (1:Int) < (i:Int):=by omega
           go_wp2_with fail
           refine (HSC.out _).mono ?_
           rintro en w5 ⟨rfl,hb5⟩
           have HBM:=Lib.hid (HBN.out.trans (hb5.mono HBN.out.size))
           clear hb5 q0 q1 q2 q3 q4 q5
           cases SP with
           | false =>
             have HRF:Hid (R=15):=Lib.hid (by
              rw [←HR.out];unfold allD
              rw [if_neg HCU.out,if_neg (by rw [HA1.out];simp),if_neg (by rw [HA2.out];simp),if_neg (by rw [HHW.out];simp),if_pos (all_no HX.out (by rw [HFA.out];exact HSP.out))])
             go_wp2
             go_ret
             exact ⟨by rw [HRF.out];rfl,HB1.out.trans (HBM.out.mono HB1.out.size)⟩
           | true =>
             have HSN:=Lib.hid (HSF.out.next HX.out (by rw [HFA.out];exact HSP.out))
             go_wp2
             go_roundw
             case rel=>exact ⟨i+1,by omega,by go_num,HBM,HSN⟩
             case measure=>simp [intOf];omega
         ·intro K hK
          refine alone_want (by kernel_rfl) ?_
          go_big_op
          have HP2:=Lib.hid (HD.out.alloc HD.out.size (.cells (encA.cs zeroA).toArray 157))
          have hb2:BoxA (wq.alloc (.cells (encA.cs zeroA).toArray 157)) wq.heap.size 157 zeroA:=BoxA.new wq zeroA _
          refine hK _ _ (past_in HP2.out) ?_
          clear hK K
          refine wpQuiet_nil ?_
          intro K hK
          refine alone_want (by kernel_rfl) ?_
          go_big_op
          refine (HF.out _ (HCH.out.keep HP2.out)).mono ?_
          rintro en w2 ⟨rfl,hb3⟩
          have HP3:=Lib.hid (HP2.out.trans (hb3.mono HP2.out.size))
          have HX2:=Lib.hid (hb2.keep hb3 (Array.getElem?_eq_some_iff.1 hb2).1)
          clear hb2 hb3
          refine hK _ _ (past_in HP3.out) ?_
          clear hK K
          repeat (go_big_quiet_step (fail))
          refine wpQuiet_nil ?_
          intro K hK
          refine alone_want (by kernel_rfl) ?_
          refine wp_store_acct 157 (.tmp 13) (.tmp 97) rfl wq.heap.size zeroA FA 157 rfl rfl HX2.out (by kernel_rfl) ?_
          intro w3 hb3 hg3
          have HP4:=Lib.hid (HP3.out.grown hg3 HP3.out.size (fun j hj=>by cases hj;exact HD.out.size))
          have HX3:=Lib.hid hb3
          clear hb3 hg3
          refine hK _ _ (past_in HP4.out) ?_
          clear hK K
          simp only [Act.put]
          repeat (go_big_quiet_step (fail))
          refine wpQuiet_nil ?_
          have HBN:=Lib.hid (HB.out.trans (HP4.out.mono HB.out.size))
          obtain ⟨q0,q1,q2,q3,q4,q5⟩:=HX3.out.facts
          obtain ⟨SP,hSP⟩:∃ SP,specA FA kx=SP:=⟨_,rfl⟩
          have HSP:=Lib.hid hSP
          have HSC:=Lib.hid (fun W=>special_any FA kx W)
          rw [hSP] at HSC
          clear hSP
          by_cases hi1:1 < i
          ·rw [if_pos hi1] at hkx
           subst hkx
           have hi1z:(1:Int) < (i:Int):=by omega
           go_wp2_with fail
           refine (HSC.out _).mono ?_
           rintro en w5 ⟨rfl,hb5⟩
           have HBM:=Lib.hid (HBN.out.trans (hb5.mono HBN.out.size))
           clear hb5 q0 q1 q2 q3 q4 q5
           cases SP with
           | false =>
             have HRF:Hid (R=15):=Lib.hid (by
              rw [←HR.out];unfold allD
              rw [if_neg HCU.out,if_neg (by rw [HA1.out];simp),if_neg (by rw [HA2.out];simp),if_neg (by rw [HHW.out];simp),if_pos (all_no HX.out (by rw [HFA.out];exact HSP.out))])
             go_wp2
             go_ret
             exact ⟨by rw [HRF.out];rfl,HB1.out.trans (HBM.out.mono HB1.out.size)⟩
           | true =>
             have HSN:=Lib.hid (HSF.out.next HX.out (by rw [HFA.out];exact HSP.out))
             go_wp2
             go_roundw
             case rel=>exact ⟨i+1,by omega,by go_num,HBM,HSN⟩
             case measure=>simp [intOf];omega
          ·rw [if_neg hi1] at hkx
           subst hkx
           have hi1z:¬ (1:Int) < (i:Int):=by omega
           go_wp2_with fail
           refine (HSC.out _).mono ?_
           rintro en w5 ⟨rfl,hb5⟩
           have HBM:=Lib.hid (HBN.out.trans (hb5.mono HBN.out.size))
           clear hb5 q0 q1 q2 q3 q4 q5
           cases SP with
           | false =>
             have HRF:Hid (R=15):=Lib.hid (by
              rw [←HR.out];unfold allD
              rw [if_neg HCU.out,if_neg (by rw [HA1.out];simp),if_neg (by rw [HA2.out];simp),if_neg (by rw [HHW.out];simp),if_pos (all_no HX.out (by rw [HFA.out];exact HSP.out))])
             go_wp2
             go_ret
             exact ⟨by rw [HRF.out];rfl,HB1.out.trans (HBM.out.mono HB1.out.size)⟩
           | true =>
             have HSN:=Lib.hid (HSF.out.next HX.out (by rw [HFA.out];exact HSP.out))
             go_wp2
             go_roundw
             case rel=>exact ⟨i+1,by omega,by go_num,HBM,HSN⟩
             case measure=>simp [intOf];omega
        ·have HA3:Hid ((codesD M).all (fun x=>specA (findV (findL M.chart x.1)) x.2)=true):=Lib.hid (HSF.out.done (by rw [HCN.out];omega))
         have HRF:Hid (R=0):=Lib.hid (by
          rw [←HR.out];unfold allD
          rw [if_neg HCU.out,if_neg (by rw [HA1.out];simp),if_neg (by rw [HA2.out];simp),if_neg (by rw [HHW.out];simp),if_neg (by rw [HA3.out];simp)])
         go_wp2
         go_ret
         exact ⟨by rw [HRF.out];rfl,HB1.out.trans (HB.out.mono HB1.out.size)⟩
end Go.Proofs.YthcpglnmhimepaaGreatDoor.Un
end
