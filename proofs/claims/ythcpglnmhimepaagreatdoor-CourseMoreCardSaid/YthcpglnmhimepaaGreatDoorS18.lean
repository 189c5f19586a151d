/- UnitOrdN LinSearch -/
import Derived.StillTailTactics
import Derived.Test.YthcpglnmhimepaaGreatDoorS13
section
namespace Go.Proofs.YthcpglnmhimepaaGreatDoor.Un
open Go.RowKit
theorem orI_cmp (x y:Lin):orI (Fl.cmpB x.acc y.acc) (Fl.cmpB x.flow y.flow)=cmpN x y:=rfl
theorem two_new (w:World) (x y:Int) (t:TypeId):(w.alloc (.cells #[.int .i64 x,.int .i64 y] t)).cell? ⟨w.heap.size,0,none⟩=some (.int .i64 x)∧(w.alloc (.cells #[.int .i64 x,.int .i64 y] t)).cell? ⟨w.heap.size,1,none⟩=some (.int .i64 y):=by
 constructor
 ·rw [cell_of_row _ w.heap.size 0 _ t (0,0) (heap_alloc_new w _)];rfl
 ·rw [cell_of_row _ w.heap.size 1 _ t (0,0) (heap_alloc_new w _)];rfl
set_option maxHeartbeats 4000000 in
set_option maxRecDepth 100000 in
theorem againstN_any (x y:Lin) (w:World) :
 Calls Tryz.prog 109 #[aggN x,aggN y] w fun e w'=>e=.returned (.int .i64 (cmpN x y))∧Below w.heap.size w w':=by
 have HB:=Lib.hid (((Below.refl w.heap.size w).alloc (Nat.le_refl _) (.cells #[.string x.acc,.string x.flow,.string x.goal] 211)).alloc (by simp) (.cells #[.string y.acc,.string y.flow,.string y.goal] 211))
 obtain ⟨r,hr⟩:∃ r,cmpN x y=r:=⟨_,rfl⟩
 have hA:=orI_cmp x y
 rw [hr] at hA ⊢
 have HA:=Lib.hid hA
 clear hr hA
 obtain ⟨W1,hW1⟩:∃ W1,(w.alloc (.cells #[.string x.acc,.string x.flow,.string x.goal] 211)).alloc (.cells #[.string y.acc,.string y.flow,.string y.goal] 211)=W1:=⟨_,rfl⟩
 obtain ⟨W2,hW2⟩:∃ W2,W1.drew=W2:=⟨_,rfl⟩
 have bx:BoxE encL W2 w.heap.size 211 x:=by
  rw [←hW2,←hW1]
  have hb:=(Below.refl (w.alloc (.cells #[.string x.acc,.string x.flow,.string x.goal] 211)).heap.size (w.alloc (.cells #[.string x.acc,.string x.flow,.string x.goal] 211))).alloc (Nat.le_refl _) (.cells #[.string y.acc,.string y.flow,.string y.goal] 211)
  exact (BoxE.new encL w x 211).kept ⟨hb.os,hb.tape,hb.output,hb.size,hb.block⟩
 have bY:BoxE encL W2 (w.heap.size+1) 211 y:=by
  rw [←hW2,←hW1]
  have:=BoxE.new encL (w.alloc (.cells #[.string x.acc,.string x.flow,.string x.goal] 211)) y 211
  rw [World.size_alloc] at this
  exact this
 have HB2:Hid (Below w.heap.size w W2):=Lib.hid (by
  rw [←hW2,←hW1]
  exact ⟨HB.out.os,HB.out.tape,HB.out.output,HB.out.size,HB.out.block⟩)
 have k0:=bx.at0 0 _ rfl
 have k1:=bx.at0 1 _ rfl
 have k2:=bY.at0 0 _ rfl
 have k3:=bY.at0 1 _ rfl
 simp only [Nat.add_zero] at k0 k1 k2 k3
 clear bx bY HB
 go_enter Tryz.func109,Tryz.ntmps109
 go_wp2_with fail
 refine wp_region_still_tail 10 (by kernel_rfl) (by kernel_rfl) ?_
 simp only [List.take_succ_cons,List.take_zero,List.drop_succ_cons,List.drop_zero]
 rw [show ({ heap:=W1.heap,tape:=W1.tape,drawn:=W1.drawn+1,os:=W1.os,output:=W1.output }:World)=W2 from hW2]
 clear hW1 hW2
 repeat still_step
 still_call (Fl.compare_any _ _ _)
 repeat still_step
 still_call (Fl.compare_any _ _ _)
 refine wpStill_nil ?_
 go_wp2_with (go_at_call 98;refine (cmpOr_any _ _ _ _ (two_new _ _ _ _).1 (two_new _ _ _ _).2).mono ?_;rintro e w' ⟨rfl,rfl⟩)
 go_ret
 exact ⟨by rw [←HA.out];rfl,HB2.out.alloc HB2.out.size _⟩
end Go.Proofs.YthcpglnmhimepaaGreatDoor.Un
end
section
namespace Go.Proofs.YthcpglnmhimepaaGreatDoor.Un.Li
open Go.RowKit
structure SearchAt (w wr:World) (L:List Lin) (c:Lin) (lo hi:Nat):Prop where
 le:lo≤hi
 top:hi≤L.length
 bel:Below (w.heap.size+1) (w.alloc (.cells (encL.cs c).toArray 211)) wr
 low:∀ (t:Nat) (x:Lin),t < lo→L[t]?=some x→G.KeyO.lt (Lin.key x) (Lin.key c)=true
 high:∀ (t:Nat) (x:Lin),hi≤t→L[t]?=some x→G.KeyO.lt (Lin.key x) (Lin.key c)=false
set_option maxRecDepth 100000 in
set_option maxHeartbeats 8000000 in
theorem search_any (v:Value) (L:List Lin) (c:Lin) (w:World) (h:ElsV encL w v L) (hr:G.riseK Lin.key L=true) (hL:L.length≤1000) :
 Calls Tryz.prog 150 #[v,aggN c,.func (.func 109) #[] #[]] w fun e w'=>e=.returned (.tuple #[.int .i64 (G.placeK Lin.key L (Lin.key c):Nat),.bool (G.isK Lin.key L (Lin.key c))])∧Below w.heap.size w w':=by
 have HB0:=Lib.hid ((Below.refl w.heap.size w).alloc (Nat.le_refl _) (.cells (encL.cs c).toArray 211))
 have HX0:=Lib.hid (BoxE.new encL w c 211)
 have hV:=h.keep HB0.out
 obtain ⟨p,cap,rfl,hcap,hm,_,hc⟩:=hV
 obtain ⟨n,hn⟩:∃ n,L.length=n:=⟨_,rfl⟩
 obtain ⟨pl,hpl⟩:∃ pl,G.placeK Lin.key L (Lin.key c)=pl:=⟨_,rfl⟩
 obtain ⟨is,his⟩:∃ is,G.isK Lin.key L (Lin.key c)=is:=⟨_,rfl⟩
 rw [hn] at hcap hL ⊢
 rw [hpl,his]
 have HC:=Lib.hid hc
 have HN:=Lib.hid hn
 have HPL:=Lib.hid hpl
 have HIS:=Lib.hid his
 have HRI:=Lib.hid hr
 unfold maxLen at hm
 have HAT:Hid (∀ (wr:World),Below (w.heap.size+1) (w.alloc (.cells (encL.cs c).toArray 211)) wr→∀ (i:Nat) (x:Lin),L[i]?=some x→∃ b o,p=some ⟨b,o,none⟩∧ElAt encL wr b (o+i * encL.k) x∧ElAt encL wr w.heap.size 0 c):=Lib.hid (fun wr hb i x hx=>by
  obtain ⟨b,o,e,hat⟩:=HC.out i x hx
  have hlt:=hat.lt
  rw [World.size_alloc] at hlt
  exact ⟨b,o,e,hat.keep hb hlt,HX0.out.at0.keep hb (Nat.lt_succ_self _)⟩)
 have HBE:Hid (∀ (wr:World),Below (w.heap.size+1) (w.alloc (.cells (encL.cs c).toArray 211)) wr→Below w.heap.size w wr):=Lib.hid (fun wr hb=>HB0.out.trans (hb.mono (Nat.le_succ _)))
 clear hc hn hpl his hr h
 go_enter Tryz.func150,Tryz.ntmps150
 go_wp2
 go_loopg [9,10] n (fun kx s9 s10 wr=>∃ lo hi:Nat,s9=.int .i64 (lo:Int)∧s10=.int .i64 (hi:Int)∧hi - lo≤kx∧lo≤hi∧hi≤n∧Hid (SearchAt w wr L c lo hi))
 case atStart=>exact ⟨0,n,rfl,rfl,by omega,Nat.zero_le _,Nat.le_refl _,Lib.hid ⟨Nat.zero_le _,by rw [HN.out];exact Nat.le_refl _,Below.refl _ _,fun t x ht=>absurd ht (Nat.not_lt_zero _),fun t x ht hx=>by
  have:=(List.getElem?_eq_some_iff.1 hx).1
  rw [HN.out] at this;omega⟩⟩
 case round =>
  obtain ⟨lo,hi,rfl,rfl,hkx,hlh,hin,HA⟩:=hrel
  have HSZ:Hid (w.heap.size+1≤wr.heap.size):=Lib.hid (by have:=HA.out.bel.size;rwa [World.size_alloc] at this)
  by_cases hlt:lo < hi
  ·have hmid:(lo+hi) / 2 < n:=by omega
   obtain ⟨x,hx⟩:∃ x,L[(lo+hi) / 2]?=some x:=⟨_,List.getElem?_eq_getElem (by rw [HN.out];exact hmid)⟩
   obtain ⟨b,o,rfl,hat,hct⟩:=HAT.out _ HA.out.bel _ x hx
   obtain ⟨r0,r1,r2⟩:=lin3 hat
   obtain ⟨s0,s1,s2⟩:=lin3 hct
   have q0:=fun p:Past wr=>cell_past r0 p
   have u0:=fun p:Past wr=>cell_past s0 p
   have q1:=fun p:Past wr=>cell_past r1 p
   have u1:=fun p:Past wr=>cell_past s1 p
   have q2:=fun p:Past wr=>cell_past r2 p
   have u2:=fun p:Past wr=>cell_past s2 p
   clear r0 s0 r1 s1 r2 s2
   have HX:=Lib.hid hx
   clear hx hat hct
   have HAG:=Lib.hid (fun W=>againstN_any x c W)
   obtain ⟨m,hmm⟩:∃ m,cmpN x c=m:=⟨_,rfl⟩
   have HM:=Lib.hid (cmpN_lt x c)
   rw [hmm] at HM
   simp only [hmm] at HAG
   clear hmm
   have hwm:IntKind.i64.wrap ((lo:Int)+(hi:Int))=(lo:Int)+(hi:Int):=by rw [IntKind.wrap_i64];omega
   by_cases hm0:m < 0
   ·have HLT:Hid (G.KeyO.lt (Lin.key x) (Lin.key c)=true):=Lib.hid (by rw [←HM.out];exact decide_eq_true hm0)
    go_wp2_with fail
    refine wp_region_past (by kernel_rfl) (by kernel_rfl) ?_
    repeat (go_big_quiet_step ((go_at_call 109;exact Calls.past_of (HAG.out _))))
    refine wpQuiet_nil ?_
    intro _ hw'
    obtain ⟨⟨w3,hb3⟩,rfl⟩:=hw'
    clear q0 u0 q1 u1 q2 u2
    go_wp2
    go_roundg (hi - ((lo+hi) / 2+1))
    case measure=>omega
    case rel=>exact ⟨(lo+hi) / 2+1,hi,by rw [show ((lo:Int)+(hi:Int)) / 2+1=(((lo+hi) / 2+1:Nat):Int) by omega],rfl,Nat.le_refl _,by omega,hin,Lib.hid ⟨by omega,HA.out.top,HA.out.bel.trans (hb3.mono HSZ.out),fun t y ht hy=>by
     rcases Nat.lt_or_ge t ((lo+hi) / 2) with h | h
     ·exact G.KeyO.trans (G.riseK_at HRI.out h hy HX.out) HLT.out
     ·obtain rfl:t=(lo+hi) / 2:=by omega
      rw [HX.out] at hy;cases hy;exact HLT.out,HA.out.high⟩⟩
   ·have HLT:Hid (G.KeyO.lt (Lin.key x) (Lin.key c)=false):=Lib.hid (by rw [←HM.out];exact decide_eq_false hm0)
    go_wp2_with fail
    refine wp_region_past (by kernel_rfl) (by kernel_rfl) ?_
    repeat (go_big_quiet_step ((go_at_call 109;exact Calls.past_of (HAG.out _))))
    refine wpQuiet_nil ?_
    intro _ hw'
    obtain ⟨⟨w3,hb3⟩,rfl⟩:=hw'
    clear q0 u0 q1 u1 q2 u2
    go_wp2
    go_roundg ((lo+hi) / 2 - lo)
    case measure=>omega
    case rel=>exact ⟨lo,(lo+hi) / 2,rfl,by rw [show ((lo:Int)+(hi:Int)) / 2=(((lo+hi) / 2:Nat):Int) by omega],Nat.le_refl _,by omega,by omega,Lib.hid ⟨by omega,by have:=HA.out.top;omega,HA.out.bel.trans (hb3.mono HSZ.out),HA.out.low,fun t y ht hy=>by
     rcases Nat.lt_or_ge ((lo+hi) / 2) t with h | h
     ·cases hy':G.KeyO.lt (Lin.key y) (Lin.key c) with
      | false=>rfl
      | true=>rw [G.KeyO.trans (G.riseK_at HRI.out h HX.out hy) hy'] at HLT;cases HLT.out
     ·obtain rfl:t=(lo+hi) / 2:=by omega
      rw [HX.out] at hy;cases hy;exact HLT.out⟩⟩
  ·obtain rfl:hi=lo:=by omega
   have hpl:Hid (pl=hi):=Lib.hid (by
    rw [←HPL.out]
    exact G.placeK_at HA.out.top HA.out.low (fun y hy=>HA.out.high hi y (Nat.le_refl _) hy))
   by_cases hn:hi < n
   ·obtain ⟨x,hx⟩:∃ x,L[hi]?=some x:=⟨_,List.getElem?_eq_getElem (by rw [HN.out];exact hn)⟩
    obtain ⟨b,o,rfl,hat,hct⟩:=HAT.out _ HA.out.bel _ x hx
    obtain ⟨r0,r1,r2⟩:=lin3 hat
    obtain ⟨s0,s1,s2⟩:=lin3 hct
    have q0:=fun p:Past wr=>cell_past r0 p
    have u0:=fun p:Past wr=>cell_past s0 p
    have q1:=fun p:Past wr=>cell_past r1 p
    have u1:=fun p:Past wr=>cell_past s1 p
    have q2:=fun p:Past wr=>cell_past r2 p
    have u2:=fun p:Past wr=>cell_past s2 p
    clear r0 s0 r1 s1 r2 s2
    have HX:=Lib.hid hx
    clear hx hat hct
    have HAG:=Lib.hid (fun W=>againstN_any x c W)
    obtain ⟨m,hmm⟩:∃ m,cmpN x c=m:=⟨_,rfl⟩
    have HM:=Lib.hid (cmpN_eq x c)
    rw [hmm] at HM
    simp only [hmm] at HAG
    clear hmm
    have HI2:Hid (is=(m==0)):=Lib.hid (by
     rw [←HIS.out,HM.out]
     unfold G.isK
     rw [HPL.out,hpl.out,HX.out])
    go_wp2_with fail
    refine wp_region_past (by kernel_rfl) (by kernel_rfl) ?_
    repeat (go_big_quiet_step ((go_at_call 109;exact Calls.past_of (HAG.out _))))
    refine wpQuiet_nil ?_
    intro _ hw'
    obtain ⟨⟨w3,hb3⟩,rfl⟩:=hw'
    clear q0 u0 q1 u1 q2 u2
    go_wp2
    go_ret2
    exact ⟨by rw [hpl.out,HI2.out];rfl,HBE.out _ (HA.out.bel.trans (hb3.mono HSZ.out))⟩
   ·have HI2:Hid (is=false):=Lib.hid (by
     rw [←HIS.out]
     unfold G.isK
     rw [HPL.out,hpl.out,List.getElem?_eq_none (by rw [HN.out];omega)])
    have hd:decide (hi < n)=false:=decide_eq_false hn
    go_wp2_with fail
    refine wp_region_past (by kernel_rfl) (by kernel_rfl) ?_
    repeat (go_big_quiet_step (fail))
    refine wpQuiet_nil ?_
    intro _ hw'
    obtain ⟨⟨w3,hb3⟩,rfl⟩:=hw'
    go_wp2
    go_ret2
    exact ⟨by rw [hpl.out,HI2.out];rfl,HBE.out _ (HA.out.bel.trans (hb3.mono HSZ.out))⟩
end Go.Proofs.YthcpglnmhimepaaGreatDoor.Un.Li
end
