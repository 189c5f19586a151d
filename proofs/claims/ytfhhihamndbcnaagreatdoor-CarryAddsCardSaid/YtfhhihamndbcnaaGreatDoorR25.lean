/- LinSearch LinPut -/
import Derived.Test.YtfhhihamndbcnaaGreatDoorR16
import Derived.Test.YtfhhihamndbcnaaGreatDoorR17
section
namespace Go.Proofs.YtfhhihamndbcnaaGreatDoor.Un.Li
open Go.RowKit
structure SearchAt (w wr:World) (L:List Lin) (c:Lin) (lo hi:Nat):Prop where
 le:lo≤hi
 top:hi≤L.length
 bel:Below (w.heap.size+1) (w.alloc (.cells (encL.cs c).toArray 217)) wr
 low:∀ (t:Nat) (x:Lin),t < lo→L[t]?=some x→G.KeyO.lt (Lin.key x) (Lin.key c)=true
 high:∀ (t:Nat) (x:Lin),hi≤t→L[t]?=some x→G.KeyO.lt (Lin.key x) (Lin.key c)=false
set_option maxRecDepth 100000 in
set_option maxHeartbeats 8000000 in
theorem search_any (v:Value) (L:List Lin) (c:Lin) (w:World) (h:ElsV encL w v L) (hr:G.riseK Lin.key L=true) (hL:L.length≤1000) :
 Calls Tryz.prog 156 #[v,aggN c,.func (.func 119) #[] #[]] w fun e w'=>e=.returned (.tuple #[.int .i64 (G.placeK Lin.key L (Lin.key c):Nat),.bool (G.isK Lin.key L (Lin.key c))])∧Below w.heap.size w w':=by
 have HB0:=Lib.hid ((Below.refl w.heap.size w).alloc (Nat.le_refl _) (.cells (encL.cs c).toArray 217))
 have HX0:=Lib.hid (BoxE.new encL w c 217)
 have hV:=h.keep HB0.out
 obtain ⟨p,cap,rfl,hcap,hm,_,hc⟩:=hV
 obtain ⟨n,hn⟩:∃ n,L.length=n:=⟨_,rfl⟩
 obtain ⟨pl,hpl⟩:∃ pl,G.placeK Lin.key L (Lin.key c)=pl:=⟨_,rfl⟩
 obtain ⟨is,his⟩:∃ is,G.isK Lin.key L (Lin.key c)=is:=⟨_,rfl⟩
 rw [hn] at hcap hL ⊢
 rw [hpl,his]
 have HC:=Lib.hid hc
 have HN:=Lib.hid hn
 have HPL:=Lib.hid hpl
 have HIS:=Lib.hid his
 have HRI:=Lib.hid hr
 unfold maxLen at hm
 have HAT:Hid (∀ (wr:World),Below (w.heap.size+1) (w.alloc (.cells (encL.cs c).toArray 217)) wr→∀ (i:Nat) (x:Lin),L[i]?=some x→∃ b o,p=some ⟨b,o,none⟩∧ElAt encL wr b (o+i * encL.k) x∧ElAt encL wr w.heap.size 0 c):=Lib.hid (fun wr hb i x hx=>by
  obtain ⟨b,o,e,hat⟩:=HC.out i x hx
  have hlt:=hat.lt
  rw [World.size_alloc] at hlt
  exact ⟨b,o,e,hat.keep hb hlt,HX0.out.at0.keep hb (Nat.lt_succ_self _)⟩)
 have HBE:Hid (∀ (wr:World),Below (w.heap.size+1) (w.alloc (.cells (encL.cs c).toArray 217)) wr→Below w.heap.size w wr):=Lib.hid (fun wr hb=>HB0.out.trans (hb.mono (Nat.le_succ _)))
 clear hc hn hpl his hr h
 go_enter Tryz.func156,Tryz.ntmps156
 go_wp2
 go_loopg [9,10] n (fun kx s9 s10 wr=>∃ lo hi:Nat,s9=.int .i64 (lo:Int)∧s10=.int .i64 (hi:Int)∧hi - lo≤kx∧lo≤hi∧hi≤n∧Hid (SearchAt w wr L c lo hi))
 case atStart=>exact ⟨0,n,rfl,rfl,by omega,Nat.zero_le _,Nat.le_refl _,Lib.hid ⟨Nat.zero_le _,by rw [HN.out];exact Nat.le_refl _,Below.refl _ _,fun t x ht=>absurd ht (Nat.not_lt_zero _),fun t x ht hx=>by
  have:=(List.getElem?_eq_some_iff.1 hx).1
  rw [HN.out] at this;omega⟩⟩
 case round =>
  obtain ⟨lo,hi,rfl,rfl,hkx,hlh,hin,HA⟩:=hrel
  have HSZ:Hid (w.heap.size+1≤wr.heap.size):=Lib.hid (by have:=HA.out.bel.size;rwa [World.size_alloc] at this)
  by_cases hlt:lo < hi
  ·have hmid:(lo+hi) / 2 < n:=by omega
   obtain ⟨x,hx⟩:∃ x,L[(lo+hi) / 2]?=some x:=⟨_,List.getElem?_eq_getElem (by rw [HN.out];exact hmid)⟩
   obtain ⟨b,o,rfl,hat,hct⟩:=HAT.out _ HA.out.bel _ x hx
   obtain ⟨r0,r1,r2⟩:=lin3 hat
   obtain ⟨s0,s1,s2⟩:=lin3 hct
   have q0:=fun p:Past wr=>cell_past r0 p
   have u0:=fun p:Past wr=>cell_past s0 p
   have q1:=fun p:Past wr=>cell_past r1 p
   have u1:=fun p:Past wr=>cell_past s1 p
   have q2:=fun p:Past wr=>cell_past r2 p
   have u2:=fun p:Past wr=>cell_past s2 p
   clear r0 s0 r1 s1 r2 s2
   have HX:=Lib.hid hx
   clear hx hat hct
   have HAG:=Lib.hid (fun W=>againstN_any x c W)
   obtain ⟨m,hmm⟩:∃ m,cmpN x c=m:=⟨_,rfl⟩
   have HM:=Lib.hid (cmpN_lt x c)
   rw [hmm] at HM
   simp only [hmm] at HAG
   clear hmm
   have hwm:IntKind.i64.wrap ((lo:Int)+(hi:Int))=(lo:Int)+(hi:Int):=by rw [IntKind.wrap_i64];omega
   by_cases hm0:m < 0
   ·have HLT:Hid (G.KeyO.lt (Lin.key x) (Lin.key c)=true):=Lib.hid (by rw [←HM.out];exact decide_eq_true hm0)
    go_wp2_with fail
    refine wp_region_past (by kernel_rfl) (by kernel_rfl) ?_
    repeat (go_big_quiet_step ((go_at_call 119;exact Calls.past_of (HAG.out _))))
    refine wpQuiet_nil ?_
    intro _ hw'
    obtain ⟨⟨w3,hb3⟩,rfl⟩:=hw'
    clear q0 u0 q1 u1 q2 u2
    go_wp2
    go_roundg (hi - ((lo+hi) / 2+1))
    case measure=>omega
    case rel=>exact ⟨(lo+hi) / 2+1,hi,by rw [show ((lo:Int)+(hi:Int)) / 2+1=(((lo+hi) / 2+1:Nat):Int) by omega],rfl,Nat.le_refl _,by omega,hin,Lib.hid ⟨by omega,HA.out.top,HA.out.bel.trans (hb3.mono HSZ.out),fun t y ht hy=>by
     rcases Nat.lt_or_ge t ((lo+hi) / 2) with h | h
     ·exact G.KeyO.trans (G.riseK_at HRI.out h hy HX.out) HLT.out
     ·obtain rfl:t=(lo+hi) / 2:=by omega
      rw [HX.out] at hy;cases hy;exact HLT.out,HA.out.high⟩⟩
   ·have HLT:Hid (G.KeyO.lt (Lin.key x) (Lin.key c)=false):=Lib.hid (by rw [←HM.out];exact decide_eq_false hm0)
    go_wp2_with fail
    refine wp_region_past (by kernel_rfl) (by kernel_rfl) ?_
    repeat (go_big_quiet_step ((go_at_call 119;exact Calls.past_of (HAG.out _))))
    refine wpQuiet_nil ?_
    intro _ hw'
    obtain ⟨⟨w3,hb3⟩,rfl⟩:=hw'
    clear q0 u0 q1 u1 q2 u2
    go_wp2
    go_roundg ((lo+hi) / 2 - lo)
    case measure=>omega
    case rel=>exact ⟨lo,(lo+hi) / 2,rfl,by rw [show ((lo:Int)+(hi:Int)) / 2=(((lo+hi) / 2:Nat):Int) by omega],Nat.le_refl _,by omega,by omega,Lib.hid ⟨by omega,by have:=HA.out.top;omega,HA.out.bel.trans (hb3.mono HSZ.out),HA.out.low,fun t y ht hy=>by
     rcases Nat.lt_or_ge ((lo+hi) / 2) t with h | h
     ·cases hy':G.KeyO.lt (Lin.key y) (Lin.key c) with
      | false=>rfl
      | true=>rw [G.KeyO.trans (G.riseK_at HRI.out h HX.out hy) hy'] at HLT;cases HLT.out
     ·obtain rfl:t=(lo+hi) / 2:=by omega
      rw [HX.out] at hy;cases hy;exact HLT.out⟩⟩
  ·obtain rfl:hi=lo:=by omega
   have hpl:Hid (pl=hi):=Lib.hid (by
    rw [←HPL.out]
    exact G.placeK_at HA.out.top HA.out.low (fun y hy=>HA.out.high hi y (Nat.le_refl _) hy))
   by_cases hn:hi < n
   ·obtain ⟨x,hx⟩:∃ x,L[hi]?=some x:=⟨_,List.getElem?_eq_getElem (by rw [HN.out];exact hn)⟩
    obtain ⟨b,o,rfl,hat,hct⟩:=HAT.out _ HA.out.bel _ x hx
    obtain ⟨r0,r1,r2⟩:=lin3 hat
    obtain ⟨s0,s1,s2⟩:=lin3 hct
    have q0:=fun p:Past wr=>cell_past r0 p
    have u0:=fun p:Past wr=>cell_past s0 p
    have q1:=fun p:Past wr=>cell_past r1 p
    have u1:=fun p:Past wr=>cell_past s1 p
    have q2:=fun p:Past wr=>cell_past r2 p
    have u2:=fun p:Past wr=>cell_past s2 p
    clear r0 s0 r1 s1 r2 s2
    have HX:=Lib.hid hx
    clear hx hat hct
    have HAG:=Lib.hid (fun W=>againstN_any x c W)
    obtain ⟨m,hmm⟩:∃ m,cmpN x c=m:=⟨_,rfl⟩
    have HM:=Lib.hid (cmpN_eq x c)
    rw [hmm] at HM
    simp only [hmm] at HAG
    clear hmm
    have HI2:Hid (is=(m==0)):=Lib.hid (by
     rw [←HIS.out,HM.out]
     unfold G.isK
     rw [HPL.out,hpl.out,HX.out])
    go_wp2_with fail
    refine wp_region_past (by kernel_rfl) (by kernel_rfl) ?_
    repeat (go_big_quiet_step ((go_at_call 119;exact Calls.past_of (HAG.out _))))
    refine wpQuiet_nil ?_
    intro _ hw'
    obtain ⟨⟨w3,hb3⟩,rfl⟩:=hw'
    clear q0 u0 q1 u1 q2 u2
    go_wp2
    go_ret2
    exact ⟨by rw [hpl.out,HI2.out];rfl,HBE.out _ (HA.out.bel.trans (hb3.mono HSZ.out))⟩
   ·have HI2:Hid (is=false):=Lib.hid (by
     rw [←HIS.out]
     unfold G.isK
     rw [HPL.out,hpl.out,List.getElem?_eq_none (by rw [HN.out];omega)])
    have hd:decide (hi < n)=false:=decide_eq_false hn
    go_wp2_with fail
    refine wp_region_past (by kernel_rfl) (by kernel_rfl) ?_
    repeat (go_big_quiet_step (fail))
    refine wpQuiet_nil ?_
    intro _ hw'
    obtain ⟨⟨w3,hb3⟩,rfl⟩:=hw'
    go_wp2
    go_ret2
    exact ⟨by rw [hpl.out,HI2.out];rfl,HBE.out _ (HA.out.bel.trans (hb3.mono HSZ.out))⟩
end Go.Proofs.YtfhhihamndbcnaaGreatDoor.Un.Li
end
section
namespace Go.Proofs.YtfhhihamndbcnaaGreatDoor.Un.Li
open Go.RowKit
theorem row_slice9 {W:World} {B:Nat} {e:TypeId} {s:Nat} {v:Value} {n:Nat} {xs:List Value} (h:W.ownsRow B e s v n xs):∃ a c,v=.slice a n c:=by
 rcases h.2 with ⟨rfl,rfl⟩ | ⟨g,cap,cur,rfl,_⟩
 ·exact ⟨none,0,rfl⟩
 ·exact ⟨_,_,rfl⟩
def PutTold (w:World) (B:Nat) (v:Value) (M:List Lin) (n m:Nat) (e:Ending) (w':World):Prop :=
 ∃ p9 n9 c9,e=.returned (.tuple #[.slice p9 n9 c9,.int .i64 (if m≤n then 4 else 0)])∧w.grownBy w' v.ownBlock∧(¬ m≤n→w'.ownsRow B 217 3 (.slice p9 n9 c9) M.length (flat encL M))
set_option maxRecDepth 100000 in
set_option maxHeartbeats 4000000 in
theorem put_any (v:Value) (L:List Lin) (x:Lin) (m B:Nat) (w:World) (h:w.ownsRow B 217 3 v L.length (flat encL L)) (hB:B≤w.heap.size) (hr:G.riseK Lin.key L=true) (hL:L.length≤1000) :
 Calls Tryz.prog 118 #[v,aggN x,.int .i64 (m:Int),.func (.func 119) #[] #[]] w (PutTold w B v (G.insK Lin.key L x) L.length m):=by
 have HB0:=Lib.hid ((Below.refl w.heap.size w).alloc (Nat.le_refl _) (.cells (encL.cs x).toArray 217))
 have HX0:=Lib.hid (BoxE.new encL w x 217)
 have HO0:=Lib.hid (h.alloc (.cells (encL.cs x).toArray 217))
 have HV0:=Lib.hid (els_of_own HO0.out)
 have hlt:∀ g,v.ownBlock=some g→g < w.heap.size:=fun g e=>(h.lt g e).2
 have HLT:=Lib.hid hlt
 have hv:∃ p c,v=.slice p L.length c∧L.length≤c∧c≤maxLen:=by
  obtain ⟨p,c,e,h1,h2,_⟩:=els_of_own h
  exact ⟨p,c,e,h1,h2⟩
 obtain ⟨p,c,rfl,hcap,hcm⟩:=hv
 have HR:=Lib.hid hr
 have HL:=Lib.hid hL
 have HSE:=Lib.hid (search_any (.slice p L.length c) L x (w.alloc (.cells (encL.cs x).toArray 217)) HV0.out hr hL)
 have HPL:=Lib.hid (G.placeK_le (key:=Lin.key) L (Lin.key x))
 have hins:G.insK Lin.key L x=L.take (G.placeK Lin.key L (Lin.key x))++x::L.drop (G.placeK Lin.key L (Lin.key x)):=rfl
 obtain ⟨M,hM⟩:∃ M,G.insK Lin.key L x=M:=⟨_,rfl⟩
 obtain ⟨pl,hpl⟩:∃ pl,G.placeK Lin.key L (Lin.key x)=pl:=⟨_,rfl⟩
 obtain ⟨is,his⟩:∃ is,G.isK Lin.key L (Lin.key x)=is:=⟨_,rfl⟩
 rw [hM,hpl] at hins
 rw [hpl,his] at HSE
 rw [hpl] at HPL
 rw [hM]
 have HM:=Lib.hid hins
 obtain ⟨n,hn⟩:∃ n,L.length=n:=⟨_,rfl⟩
 have HN:=Lib.hid hn
 rw [hn] at HSE hcap hL ⊢
 unfold maxLen at hcm
 clear h hlt hr hpl his hM hins hn
 by_cases hmn:m≤n
 ·have HMN:=Lib.hid hmn
  go_enter Tryz.func118,Tryz.ntmps118
  go_wp2
  go_ret2
  exact ⟨p,n,c,by rw [if_pos HMN.out];rfl,World.grownBy_alloc _ _ _,fun h=>absurd HMN.out h⟩
 ·have HMN:=Lib.hid hmn
  obtain ⟨c0,c1,c2⟩:=lin3 HX0.out.at0
  go_enter Tryz.func118,Tryz.ntmps118
  go_wp2_with fail
  refine HSE.out.mono ?_
  rintro e w2 ⟨rfl,hb2⟩
  have HO2:=Lib.hid (row_below HO0.out hb2)
  have HX2:=Lib.hid (HX0.out.kept hb2)
  have HG2:Hid (w.grownBy w2 (Value.slice p n c).ownBlock):=Lib.hid ((World.grownBy_alloc w _ _).trans (grownBy_of_below hb2 _))
  have HS2:Hid (w.heap.size < w2.heap.size):=Lib.hid (by have:=hb2.size;rw [World.size_alloc] at this;omega)
  clear hb2 c0 c1 c2
  obtain ⟨c0,c1,c2⟩:=lin3 HX2.out.at0
  go_wp2_with fail
  clear c0 c1 c2
  refine (insert_own (.slice p n c) L x pl w2.heap.size B (w2.alloc (.cells (encL.cs x).toArray 217)) (by rw [←HN.out];rw [HN.out] at HO2 ⊢;exact HO2.out.alloc _) (by rw [World.size_alloc];have:=HS2.out;omega) (BoxE.new encL w2 x 217) (fun e=>by have:=HLT.out _ (by rw [HN.out];exact e);have:=HS2.out;omega) HPL.out HL.out).mono ?_
  rintro e w9 ⟨v9,rfl,ho9,hg9⟩
  rw [←HM.out] at ho9
  obtain ⟨p9,c9,rfl⟩:=row_slice9 ho9
  have HO9:=Lib.hid ho9
  have HG9:Hid (w.grownBy w9 (Value.slice p n c).ownBlock):=Lib.hid ((HG2.out.trans (World.grownBy_alloc w2 _ _)).trans hg9)
  clear ho9 hg9
  go_wp2
  go_ret2
  exact ⟨p9,M.length,c9,by rw [if_neg HMN.out];rfl,HG9.out,fun _=>HO9.out⟩
end Go.Proofs.YtfhhihamndbcnaaGreatDoor.Un.Li
end
