/- LinSearch LinClone LinInsert LinPut ChartOurs ChartClone ChartInsert ChartBelow ChartRight ChartRight2 ChartAdd FlowClone -/
import Derived.Deep.RegionHeld3
import Derived.Test.YtdegffffcbhjbaaGreatDoorQ02
section
namespace Go.Proofs.YtdegffffcbhjbaaGreatDoor.Un.Li
open Go.RowKit
structure SearchAt (w wr:World) (L:List Lin) (c:Lin) (lo hi:Nat):Prop where
 le:lo≤hi
 top:hi≤L.length
 bel:Below (w.heap.size+1) (w.alloc (.cells (encL.cs c).toArray 207)) wr
 low:∀ (t:Nat) (x:Lin),t < lo→L[t]?=some x→G.KeyO.lt (Lin.key x) (Lin.key c)=true
 high:∀ (t:Nat) (x:Lin),hi≤t→L[t]?=some x→G.KeyO.lt (Lin.key x) (Lin.key c)=false
set_option maxRecDepth 100000 in
set_option maxHeartbeats 8000000 in
theorem search_any (v:Value) (L:List Lin) (c:Lin) (w:World) (h:ElsV encL w v L) (hr:G.riseK Lin.key L=true) (hL:L.length≤1000) :
 Calls Tryz.prog 149 #[v,aggN c,.func (.func 111) #[] #[]] w fun e w'=>e=.returned (.tuple #[.int .i64 (G.placeK Lin.key L (Lin.key c):Nat),.bool (G.isK Lin.key L (Lin.key c))])∧Below w.heap.size w w':=by
 have HB0:=Lib.hid ((Below.refl w.heap.size w).alloc (Nat.le_refl _) (.cells (encL.cs c).toArray 207))
 have HX0:=Lib.hid (BoxE.new encL w c 207)
 have hV:=h.keep HB0.out
 obtain ⟨p,cap,rfl,hcap,hm,_,hc⟩:=hV
 obtain ⟨n,hn⟩:∃ n,L.length=n:=⟨_,rfl⟩
 obtain ⟨pl,hpl⟩:∃ pl,G.placeK Lin.key L (Lin.key c)=pl:=⟨_,rfl⟩
 obtain ⟨is,his⟩:∃ is,G.isK Lin.key L (Lin.key c)=is:=⟨_,rfl⟩
 rw [hn] at hcap hL ⊢
 rw [hpl,his]
 have HC:=Lib.hid hc
 have HN:=Lib.hid hn
 have HPL:=Lib.hid hpl
 have HIS:=Lib.hid his
 have HRI:=Lib.hid hr
 unfold maxLen at hm
 have HAT:Hid (∀ (wr:World),Below (w.heap.size+1) (w.alloc (.cells (encL.cs c).toArray 207)) wr→∀ (i:Nat) (x:Lin),L[i]?=some x→∃ b o,p=some ⟨b,o,none⟩∧ElAt encL wr b (o+i * encL.k) x∧ElAt encL wr w.heap.size 0 c):=Lib.hid (fun wr hb i x hx=>by
  obtain ⟨b,o,e,hat⟩:=HC.out i x hx
  have hlt:=hat.lt
  rw [World.size_alloc] at hlt
  exact ⟨b,o,e,hat.keep hb hlt,HX0.out.at0.keep hb (Nat.lt_succ_self _)⟩)
 have HBE:Hid (∀ (wr:World),Below (w.heap.size+1) (w.alloc (.cells (encL.cs c).toArray 207)) wr→Below w.heap.size w wr):=Lib.hid (fun wr hb=>HB0.out.trans (hb.mono (Nat.le_succ _)))
 clear hc hn hpl his hr h
 go_enter Tryz.func149,Tryz.ntmps149
 go_wp2
 go_loopg [9,10] n (fun kx s9 s10 wr=>∃ lo hi:Nat,s9=.int .i64 (lo:Int)∧s10=.int .i64 (hi:Int)∧hi - lo≤kx∧lo≤hi∧hi≤n∧Hid (SearchAt w wr L c lo hi))
 case atStart=>exact ⟨0,n,rfl,rfl,by omega,Nat.zero_le _,Nat.le_refl _,Lib.hid ⟨Nat.zero_le _,by rw [HN.out];exact Nat.le_refl _,Below.refl _ _,fun t x ht=>absurd ht (Nat.not_lt_zero _),fun t x ht hx=>by
  have:=(List.getElem?_eq_some_iff.1 hx).1
  rw [HN.out] at this;omega⟩⟩
 case round =>
  obtain ⟨lo,hi,rfl,rfl,hkx,hlh,hin,HA⟩:=hrel
  have HSZ:Hid (w.heap.size+1≤wr.heap.size):=Lib.hid (by have:=HA.out.bel.size;rwa [World.size_alloc] at this)
  by_cases hlt:lo < hi
  ·have hmid:(lo+hi) / 2 < n:=by omega
   obtain ⟨x,hx⟩:∃ x,L[(lo+hi) / 2]?=some x:=⟨_,List.getElem?_eq_getElem (by rw [HN.out];exact hmid)⟩
   obtain ⟨b,o,rfl,hat,hct⟩:=HAT.out _ HA.out.bel _ x hx
   obtain ⟨r0,r1,r2⟩:=lin3 hat
   obtain ⟨s0,s1,s2⟩:=lin3 hct
   have q0:=fun p:Past wr=>cell_past r0 p
   have u0:=fun p:Past wr=>cell_past s0 p
   have q1:=fun p:Past wr=>cell_past r1 p
   have u1:=fun p:Past wr=>cell_past s1 p
   have q2:=fun p:Past wr=>cell_past r2 p
   have u2:=fun p:Past wr=>cell_past s2 p
   clear r0 s0 r1 s1 r2 s2
   have HX:=Lib.hid hx
   clear hx hat hct
   have HAG:=Lib.hid (fun W=>againstN_any x c W)
   obtain ⟨m,hmm⟩:∃ m,cmpN x c=m:=⟨_,rfl⟩
   have HM:=Lib.hid (cmpN_lt x c)
   rw [hmm] at HM
   simp only [hmm] at HAG
   clear hmm
   have hwm:IntKind.i64.wrap ((lo:Int)+(hi:Int))=(lo:Int)+(hi:Int):=by rw [IntKind.wrap_i64];omega
   by_cases hm0:m < 0
   ·have HLT:Hid (G.KeyO.lt (Lin.key x) (Lin.key c)=true):=Lib.hid (by rw [←HM.out];exact decide_eq_true hm0)
    go_wp2_with fail
    refine wp_region_past (by kernel_rfl) (by kernel_rfl) ?_
    repeat (go_big_quiet_step ((go_at_call 111;exact Calls.past_of (HAG.out _))))
    refine wpQuiet_nil ?_
    intro _ hw'
    obtain ⟨⟨w3,hb3⟩,rfl⟩:=hw'
    clear q0 u0 q1 u1 q2 u2
    go_wp2
    go_roundg (hi - ((lo+hi) / 2+1))
    case measure=>omega
    case rel=>exact ⟨(lo+hi) / 2+1,hi,by rw [show ((lo:Int)+(hi:Int)) / 2+1=(((lo+hi) / 2+1:Nat):Int) by omega],rfl,Nat.le_refl _,by omega,hin,Lib.hid ⟨by omega,HA.out.top,HA.out.bel.trans (hb3.mono HSZ.out),fun t y ht hy=>by
     rcases Nat.lt_or_ge t ((lo+hi) / 2) with h | h
     ·exact G.KeyO.trans (G.riseK_at HRI.out h hy HX.out) HLT.out
     ·obtain rfl:t=(lo+hi) / 2:=by omega
      rw [HX.out] at hy;cases hy;exact HLT.out,HA.out.high⟩⟩
   ·have HLT:Hid (G.KeyO.lt (Lin.key x) (Lin.key c)=false):=Lib.hid (by rw [←HM.out];exact decide_eq_false hm0)
    go_wp2_with fail
    refine wp_region_past (by kernel_rfl) (by kernel_rfl) ?_
    repeat (go_big_quiet_step ((go_at_call 111;exact Calls.past_of (HAG.out _))))
    refine wpQuiet_nil ?_
    intro _ hw'
    obtain ⟨⟨w3,hb3⟩,rfl⟩:=hw'
    clear q0 u0 q1 u1 q2 u2
    go_wp2
    go_roundg ((lo+hi) / 2 - lo)
    case measure=>omega
    case rel=>exact ⟨lo,(lo+hi) / 2,rfl,by rw [show ((lo:Int)+(hi:Int)) / 2=(((lo+hi) / 2:Nat):Int) by omega],Nat.le_refl _,by omega,by omega,Lib.hid ⟨by omega,by have:=HA.out.top;omega,HA.out.bel.trans (hb3.mono HSZ.out),HA.out.low,fun t y ht hy=>by
     rcases Nat.lt_or_ge ((lo+hi) / 2) t with h | h
     ·cases hy':G.KeyO.lt (Lin.key y) (Lin.key c) with
      | false=>rfl
      | true=>rw [G.KeyO.trans (G.riseK_at HRI.out h HX.out hy) hy'] at HLT;cases HLT.out
     ·obtain rfl:t=(lo+hi) / 2:=by omega
      rw [HX.out] at hy;cases hy;exact HLT.out⟩⟩
  ·obtain rfl:hi=lo:=by omega
   have hpl:Hid (pl=hi):=Lib.hid (by
    rw [←HPL.out]
    exact G.placeK_at HA.out.top HA.out.low (fun y hy=>HA.out.high hi y (Nat.le_refl _) hy))
   by_cases hn:hi < n
   ·obtain ⟨x,hx⟩:∃ x,L[hi]?=some x:=⟨_,List.getElem?_eq_getElem (by rw [HN.out];exact hn)⟩
    obtain ⟨b,o,rfl,hat,hct⟩:=HAT.out _ HA.out.bel _ x hx
    obtain ⟨r0,r1,r2⟩:=lin3 hat
    obtain ⟨s0,s1,s2⟩:=lin3 hct
    have q0:=fun p:Past wr=>cell_past r0 p
    have u0:=fun p:Past wr=>cell_past s0 p
    have q1:=fun p:Past wr=>cell_past r1 p
    have u1:=fun p:Past wr=>cell_past s1 p
    have q2:=fun p:Past wr=>cell_past r2 p
    have u2:=fun p:Past wr=>cell_past s2 p
    clear r0 s0 r1 s1 r2 s2
    have HX:=Lib.hid hx
    clear hx hat hct
    have HAG:=Lib.hid (fun W=>againstN_any x c W)
    obtain ⟨m,hmm⟩:∃ m,cmpN x c=m:=⟨_,rfl⟩
    have HM:=Lib.hid (cmpN_eq x c)
    rw [hmm] at HM
    simp only [hmm] at HAG
    clear hmm
    have HI2:Hid (is=(m==0)):=Lib.hid (by
     rw [←HIS.out,HM.out]
     unfold G.isK
     rw [HPL.out,hpl.out,HX.out])
    go_wp2_with fail
    refine wp_region_past (by kernel_rfl) (by kernel_rfl) ?_
    repeat (go_big_quiet_step ((go_at_call 111;exact Calls.past_of (HAG.out _))))
    refine wpQuiet_nil ?_
    intro _ hw'
    obtain ⟨⟨w3,hb3⟩,rfl⟩:=hw'
    clear q0 u0 q1 u1 q2 u2
    go_wp2
    go_ret2
    exact ⟨by rw [hpl.out,HI2.out];rfl,HBE.out _ (HA.out.bel.trans (hb3.mono HSZ.out))⟩
   ·have HI2:Hid (is=false):=Lib.hid (by
     rw [←HIS.out]
     unfold G.isK
     rw [HPL.out,hpl.out,List.getElem?_eq_none (by rw [HN.out];omega)])
    have hd:decide (hi < n)=false:=decide_eq_false hn
    go_wp2_with fail
    refine wp_region_past (by kernel_rfl) (by kernel_rfl) ?_
    repeat (go_big_quiet_step (fail))
    refine wpQuiet_nil ?_
    intro _ hw'
    obtain ⟨⟨w3,hb3⟩,rfl⟩:=hw'
    go_wp2
    go_ret2
    exact ⟨by rw [hpl.out,HI2.out];rfl,HBE.out _ (HA.out.bel.trans (hb3.mono HSZ.out))⟩
end Go.Proofs.YtdegffffcbhjbaaGreatDoor.Un.Li
end
section
namespace Go.Proofs.YtdegffffcbhjbaaGreatDoor.Un.Li
open Go.RowKit
theorem gen_info:(Tryz.prog.info? 207).map (fun i=>(i.zero,i.size,i.bytes))=some (some (.agg #[.string ⟨#[]⟩,.string ⟨#[]⟩,.string ⟨#[]⟩]),3,48):=by kernel_rfl
theorem gen_length (L:List Lin):(flat encL L).length=L.length * 3:=flat_length L
theorem gen_take (L:List Lin) (k:Nat):flat encL (L.take k)=(flat encL L).take (k * 3):=flat_take L k
theorem gen_drop (L:List Lin) (k:Nat):flat encL (L.drop k)=(flat encL L).drop (k * 3):=flat_drop L k
def RowTold (w:World) (L:List Lin) (e:Ending) (w':World):Prop:=∃ v,e=.returned v∧w'.ownsRow w.heap.size 207 3 v L.length (flat encL L)∧Below w.heap.size w w'
end Go.Proofs.YtdegffffcbhjbaaGreatDoor.Un.Li
end
section
namespace Go.Proofs.YtdegffffcbhjbaaGreatDoor.Un.Li
open Go.RowKit
theorem ins_u:Tryz.prog.underlying 28=some (.slice (Tryz.prog.elem 28)):=by kernel_rfl
theorem ins_s (w:World):(sizeOf (Tryz.prog.elem 28)).run Tryz.prog w=.ok 3 w:=by kernel_rfl
theorem ins_sz:(Tryz.prog.info? 207).map (·.size)=some 3:=by kernel_rfl
theorem ins_size (w:World):(sizeOf 207).run Tryz.prog w=.ok 3 w:=by kernel_rfl
theorem from_at (w:World) (g n c k:Nat) (z:Int) (hz:z=(k:Int)) (hk:k≤n) (hc:k < c):(Instr.slice 28 (.slice (some ⟨g,0,none⟩) n c) (some (.int .i64 z)) none none).run Tryz.prog w=.ok (.slice (some ⟨g,k * 3,none⟩) (n - k) (c - k)) w:=by
 subst hz
 rw [run_slice_l w 28 _ n c ins_u .i64 (k:Int) (by omega) (by omega),ins_s]
 have:¬ c=k:=by omega
 simp [Result.andThen,sliced,this,add_off]
theorem upto_at (w:World) (g n c k:Nat) (z:Int) (hz:z=(k:Int)) (hk:k≤c):(Instr.slice 28 (.slice (some ⟨g,0,none⟩) n c) none (some (.int .i64 z)) none).run Tryz.prog w=.ok (.slice (some ⟨g,0,none⟩) k c) w:=by
 subst hz
 rw [run_slice_h w 28 _ n c ins_u .i64 (k:Int) (by omega) (by omega),ins_s]
 simp [Result.andThen,sliced,Addr.add]
theorem overlaps_no (w:World) (vb g off lb cb:Nat) (x:Lin) (cur:Array Value) (hne:vb≠g) (hx:BoxE encL w vb 207 x) (hg:w.heap[g]?=some (.cells cur 207 (0,0))) (h0:cur.size≠0) :
 (callFunc 167 #[.slice (some ⟨vb,0,none⟩) 1 1,.slice (some ⟨g,off,none⟩) lb cb]).run Tryz.prog w=.ok (.value (.bool false)) w:=by
 unfold BoxE encL at hx
 rw [run_callFunc_extern Tryz.func167 (by kernel_rfl) (by kernel_rfl) (by kernel_rfl) (e:=Extern.SlicesOverlaps.overlaps #[28,28] #[4]) (by kernel_rfl),
  Lib.run_overlaps_apart w 28 4 207 Tryz.underlying28 3 ins_size ⟨vb,0,none⟩ ⟨g,off,none⟩ 1 1 lb cb hne 207 207 3 cur.size (by simp [World.shape?,hx]) (by simp [World.shape?,hg]) h0 (by simp [World.frozen?,hx]) (by simp [World.frozen?,hx])]
 rfl
theorem ins_cells (L:List Lin) (x:Lin) (i:Nat):flat encL (L.take i++x::L.drop i)=(flat encL L).take (i * 3)++((encL.cs x)++(flat encL L).drop (i * 3)):=by
 rw [flat_append,flat_cons,gen_take,gen_drop]
def InsOwn (w:World) (B:Nat) (v0:Value) (M:List Lin) (e:Ending) (w':World):Prop:=∃ v,e=.returned v∧w'.ownsRow B 207 3 v M.length (flat encL M)∧w.grownBy w' v0.ownBlock
theorem grownBy_drewN (w:World) (q:Nat) (row:Option Nat):w.grownBy (w.drewN q) row:=⟨rfl,rfl,rfl,Nat.le_refl _,fun _ _ _=>rfl⟩
theorem grownBy_of_below {w w':World} (h:Below w.heap.size w w') (row:Option Nat):w.grownBy w' row:=⟨h.os,h.tape,h.output,h.size,fun j hj _=>h.block j hj⟩
set_option maxRecDepth 100000 in
set_option maxHeartbeats 4000000 in
theorem insert_end (v:Value) (L:List Lin) (x:Lin) (vb B:Nat) (w:World) (h:w.ownsRow B 207 3 v L.length (flat encL L)) (hB:B≤w.heap.size) (hx:BoxE encL w vb 207 x) (hL:L.length≤1000) :
 Calls Tryz.prog 150 #[v,.int .i64 (L.length:Int),.slice (some ⟨vb,0,none⟩) 1 1] w (InsOwn w B v (L.take L.length++x::L.drop L.length)):=by
 have HM:Hid (L.take L.length++x::L.drop L.length=L++[x]):=Lib.hid (by simp)
 rw [HM.out]
 obtain ⟨i0,hi,hz0,hz1,hz2⟩:=info_parts gen_info
 have hcx:∀ (j:Nat) u,(encL.cs x)[j]?=some u→w.cell? ((⟨vb,0,none⟩:Addr).add j)=some u:=fun j u hj=>by rw [add_off];exact hx.at0 j u hj
 have HOW:=Lib.hid h
 have hv:∃ p c,v=.slice p L.length c∧L.length≤c∧c≤maxLen∧(p=none→c=0)∧(∀ a,p=some a→∃ g,a=⟨g,0,none⟩):=by
  rcases h.2 with ⟨rfl,hn⟩ | ⟨g,cap,cur,rfl,_,_,hnc,hcm,_⟩
  ·exact ⟨none,0,by rw [hn],by omega,by simp,fun _=>rfl,fun a e=>by cases e⟩
  ·exact ⟨_,cap,rfl,hnc,hcm,(fun e=>by cases e),fun a e=>by cases e;exact ⟨g,rfl⟩⟩
 obtain ⟨p,c,rfl,hnc,hcm,hpn,hps⟩:=hv
 obtain ⟨v',w',hr,h2,h3,_⟩:=run_append_own (P:=Tryz.prog) w B 28 28 207 i0 _ 3 48 Tryz.underlying28 hi hz0 hz1 hz2 rfl (by decide) _ _ _ h ⟨vb,0,none⟩ 1 1 (encL.cs x) rfl hcx (encL.one x) (by unfold maxLen;omega) (by omega) hB
 have hra:(Builtin.append_ #[28,28] 28 #[.slice p L.length c,.slice (some ⟨vb,0,none⟩) 1 1]).run Tryz.prog w=.ok v' w':=by
  rw [append_types w _ _ _ _ _ i0 Tryz.underlying28 Tryz.underlying28 hi];exact hr
 have HRA:=Lib.hid hra
 have HCV:Hid (w'.ownsRow B 207 3 v' (L++[x]).length (flat encL (L++[x]))):=Lib.hid (by
  have:w'.ownsRow B 207 3 v' (L++[x]).length (flat encL (L++[x])):=by
   rw [List.length_append,flat_append,show flat encL [x]=encL.cs x from flat_one x];exact h2
  exact this)
 have HBL:=Lib.hid h3
 obtain ⟨n,hn⟩:∃ n,L.length=n:=⟨_,rfl⟩
 rw [hn] at HRA hL hnc ⊢
 unfold maxLen at hcm
 clear hr h2 h3 hra h HOW hn hi hz0 hz1 hz2 hcx
 cases p with
 | none =>
   have hc0:=hpn rfl
   obtain rfl:n=0:=by omega
   subst hc0
   go_enter Tryz.func150,Tryz.ntmps150
   go_wp2_with (at_builtin;refine Lib.wpList_append_run _ rfl _ _ _ _ rfl _ _ rfl rfl v' w' HRA.out ?_)
   go_ret
   exact ⟨v',rfl,HCV.out,HBL.out⟩
 | some a =>
   obtain ⟨g,rfl⟩:=hps a rfl
   have hnn:(n:Int)≤(n:Int):=Int.le_refl _
   by_cases hcn:c=n
   ·subst hcn
    go_enter Tryz.func150,Tryz.ntmps150
    go_wp2_with (at_builtin;refine Lib.wpList_append_run _ rfl _ _ _ _ rfl _ _ rfl rfl v' w' HRA.out ?_)
    go_ret
    exact ⟨v',rfl,HCV.out,HBL.out⟩
   ·have e1:=from_at (z:=(n:Int)) (g:=g) (n:=n) (c:=c) (k:=n) (hz:=rfl) (hk:=Nat.le_refl _) (hc:=by omega)
    go_enter Tryz.func150,Tryz.ntmps150
    go_wp2_with (at_builtin;refine Lib.wpList_append_run _ rfl _ _ _ _ rfl _ _ rfl rfl v' w' HRA.out ?_)
    go_ret
    exact ⟨v',rfl,HCV.out,HBL.out⟩
set_option maxRecDepth 100000 in
set_option maxHeartbeats 4000000 in
theorem insert_room (g cap:Nat) (cur:Array Value) (L:List Lin) (x:Lin) (i vb B:Nat) (w:World) (hBg:B≤g) (hg:w.heap[g]?=some (.cells cur 207 (0,0))) (hcap:cap≤maxLen) (hcs:cur.size=cap * 3) (htk:cur.toList.take (L.length * 3)=flat encL L)
 (hx:BoxE encL w vb 207 x) (hne:vb≠g) (hi:i < L.length) (hr:L.length+1≤cap) :
 Calls Tryz.prog 150 #[.slice (some ⟨g,0,none⟩) L.length cap,.int .i64 (i:Int),.slice (some ⟨vb,0,none⟩) 1 1] w (InsOwn w B (.slice (some ⟨g,0,none⟩) L.length cap) (L.take i++x::L.drop i)):=by
 obtain ⟨M,hM⟩:∃ M,L.take i++x::L.drop i=M:=⟨_,rfl⟩
 obtain ⟨n,hn⟩:∃ n,L.length=n:=⟨_,rfl⟩
 have hML:M.length=n+1:=by rw [←hM,←hn];simp;omega
 obtain ⟨A,hA⟩:∃ A,(flat encL L).take (i * 3)=A:=⟨_,rfl⟩
 obtain ⟨D,hD⟩:∃ D,(flat encL L).drop (i * 3)=D:=⟨_,rfl⟩
 have hFM:flat encL M=A++((encL.cs x)++D):=by rw [←hM,ins_cells,hA,hD]
 have hFL:flat encL L=A++D:=by rw [←hA,←hD,List.take_append_drop]
 have hFlen:=gen_length L
 rw [hn] at hFlen htk hi hr ⊢
 have hAl:A.length=i * 3:=by rw [←hA,List.length_take,hFlen];omega
 have hDl:D.length=(n - i) * 3:=by rw [←hD,List.length_drop,hFlen];omega
 obtain ⟨S,hS⟩:∃ S,cur.toList.drop (n * 3)=S:=⟨_,rfl⟩
 have hcur:cur.toList=A++(D++S):=by rw [←List.take_append_drop (n * 3) cur.toList,htk,hS,hFL,List.append_assoc]
 have hSl:S.length=(cap - n) * 3:=by rw [←hS,List.length_drop,Array.length_toList,hcs];omega
 have hXl:(encL.cs x).length=3:=rfl
 have hg':w.heap[g]?=some (.cells (A++(D++S)).toArray 207 (0,0)):=by rw [←hcur];simpa using hg
 have hDone:∀ v∈D,v.oneCell'=true:=fun v hv=>flat_ones L v (by rw [hFL];simp [hv])
 have HG:=Lib.hid hg'
 have HX:=Lib.hid hx
 have HM:=Lib.hid hM
 have HOV:=Lib.hid (fun off lb cb=>overlaps_no w vb g off lb cb x cur hne hx hg (by rw [hcs];omega))
 have HSRC:Hid (∀ (w':World),w'.heap[g]?=w.heap[g]?→∀ (j:Nat) v,D[j]?=some v→w'.cell? ((⟨g,i * 3,none⟩:Addr).add j)=some v):=Lib.hid (fun w' hw' j v hj=>by
  rw [add_off,cell_of_row _ g (i * 3+j) _ 207 (0,0) (hw'.trans hg')]
  simp only [List.getElem?_toArray]
  rw [←hAl,List.getElem?_append_right (by omega),Nat.add_sub_cancel_left,List.getElem?_append_left (List.getElem?_eq_some_iff.1 hj).1]
  exact hj)
 have HL:=Lib.hid (And.intro hML (And.intro hFM (And.intro hAl (And.intro hDl (And.intro hSl hDone)))))
 rw [hM]
 unfold maxLen at hcap
 have e0:=fun wq=>from_at (w:=wq) (z:=(i:Int)) (g:=g) (n:=n) (c:=cap) (k:=i) (hz:=rfl) (hk:=by omega) (hc:=by omega)
 have e1:=fun wq=>upto_at (w:=wq) (z:=(n:Int)+1) (g:=g) (n:=n) (c:=cap) (k:=n+1) (hz:=by omega) (hk:=by omega)
 have e2:=fun wq=>from_at (w:=wq) (z:=(i:Int)+1) (g:=g) (n:=n+1) (c:=cap) (k:=i+1) (hz:=by omega) (hk:=by omega) (hc:=by omega)
 have e3:=fun wq=>from_at (w:=wq) (z:=(i:Int)) (g:=g) (n:=n+1) (c:=cap) (k:=i) (hz:=rfl) (hk:=by omega) (hc:=by omega)
 have hz1:¬ ((i:Int)=(n:Int)):=by omega
 have hz2:¬ ((cap:Int) < (n:Int)+1):=by omega
 have hw1:IntKind.i64.wrap ((i:Int)+1)=(i:Int)+1:=by rw [IntKind.wrap_i64];omega
 have hov:=HOV.out
 clear hFlen hcur hS hFL hA hD hn hM hML hFM hAl hDl hSl hXl hg hg' hDone htk hcs hx HOV
 go_enter Tryz.func150,Tryz.ntmps150
 go_wp2_with (simp only [hov])
 go_region_law (refine step_copyK rfl (.tmp 73) (.tmp 76) 28 28 rfl 207 Tryz.underlying28 3 ins_sz (some ⟨g,(i+1) * 3,none⟩) (some ⟨g,i * 3,none⟩) (n+1 - (i+1)) (cap - (i+1)) (n+1 - i) (cap - i) (by simp [Act.eval,Act.put]) (by simp [Act.eval,Act.put]) g ((i+1) * 3) (A++(D++S)) 207 HG.out D (n - i) (by simp only [Nat.min_def];split <;> omega) HL.out.2.2.2.1 rfl ⟨g,i * 3,none⟩ rfl (HSRC.out _ rfl) (by have h:=HL.out;simp only [List.length_append];omega) HL.out.2.2.2.2.2 ?_;intro w1 hg1 hgr1)
 have HG1:=Lib.hid hg1.out
 have HGR1:=Lib.hid hgr1
 have HX1:Hid (BoxE encL w1 vb 207 x):=Lib.hid (by
  have hb:=HX.out
  have hlt:vb < w.heap.size:=(Array.getElem?_eq_some_iff.1 hb).1
  exact (hgr1.block vb hlt (fun e=>hne (Option.some.inj e))).trans hb)
 clear hg1 hgr1
 go_wp2_with (refine wpList_copyK rfl (.tmp 80) (.tmp 81) 28 28 rfl 207 Tryz.underlying28 3 ins_sz _ _ _ _ _ _ rfl rfl g (i * 3) (splice (A++(D++S)) ((i+1) * 3) D) 207 HG1.out (encL.cs x) 1 (by simp only [Nat.min_def];split <;> omega) rfl rfl ⟨vb,0,none⟩ rfl (fun j u hj=>by rw [add_off];exact HX1.out.at0 j u hj) (by have h:=HL.out;rw [length_splice _ _ _ (by simp only [List.length_append];omega)];simp only [List.length_append];show _+3≤_;omega) (encL.one x) ?_;intro w2 hg2 hgr2)
 have HF:Hid (w2.ownsRow B 207 3 (.slice (some ⟨g,0,none⟩) (n+1) cap) M.length (flat encL M)):=Lib.hid (by
  obtain ⟨hML,hFM,hAl,hDl,hSl,_⟩:=HL.out
  have hsp:splice (splice (A++(D++S)) ((i+1) * 3) D) (i * 3) (encL.cs x)=A++((encL.cs x)++(D++(D++S).drop (3+D.length))):=by
   rw [show (i+1) * 3=A.length+(encL.cs x).length by rw [hAl];show _=_+3;omega,show i * 3=A.length from hAl.symm]
   exact splice_back A (encL.cs x) D (D++S) (by simp only [List.length_append];show 3+_≤_;omega)
  have hh:=hg2.out
  rw [hsp] at hh
  have own:w2.ownsRow B 207 3 (.slice (some ⟨g,0,none⟩) M.length cap) M.length (flat encL M):=by
   refine ⟨gen_length M,.inr ⟨g,cap,_,rfl,hBg,hh,by omega,by unfold maxLen;omega,?_,?_⟩⟩
   ·simp only [List.size_toArray,List.length_append,List.length_drop]
    show _+(3+_)=_
    omega
   ·rw [hFM,hML]
    have:(A++((encL.cs x)++D)).length=(n+1) * 3:=by simp only [List.length_append];show _+(3+_)=_;omega
    rw [←this,show A++((encL.cs x)++(D++(D++S).drop (3+D.length)))=(A++((encL.cs x)++D))++(D++S).drop (3+D.length) by simp]
    exact List.take_left
  rw [←hML]
  exact own)
 have HBL:Hid (w.grownBy w2 (some g)):=Lib.hid (((grownBy_drewN w 1 (some g)).trans HGR1.out).trans hgr2)
 clear hg2 hgr2
 go_ret
 exact ⟨_,rfl,HF.out,HBL.out⟩
set_option maxRecDepth 100000 in
set_option maxHeartbeats 4000000 in
theorem insert_grow (g cap:Nat) (cur:Array Value) (L:List Lin) (x:Lin) (i vb B:Nat) (w:World) (hg:w.heap[g]?=some (.cells cur 207 (0,0))) (hcap:cap≤maxLen) (hcs:cur.size=cap * 3) (htk:cur.toList.take (L.length * 3)=flat encL L)
 (hB:B≤w.heap.size) (hx:BoxE encL w vb 207 x) (hi:i < L.length) (hnc:L.length≤cap) (hr:cap < L.length+1) (hL:L.length≤1000) :
 Calls Tryz.prog 150 #[.slice (some ⟨g,0,none⟩) L.length cap,.int .i64 (i:Int),.slice (some ⟨vb,0,none⟩) 1 1] w (InsOwn w B (.slice (some ⟨g,0,none⟩) L.length cap) (L.take i++x::L.drop i)):=by
 obtain ⟨M,hM⟩:∃ M,L.take i++x::L.drop i=M:=⟨_,rfl⟩
 obtain ⟨n,hn⟩:∃ n,L.length=n:=⟨_,rfl⟩
 have hML:M.length=n+1:=by rw [←hM,←hn];simp;omega
 obtain ⟨A,hA⟩:∃ A,(flat encL L).take (i * 3)=A:=⟨_,rfl⟩
 obtain ⟨D,hD⟩:∃ D,(flat encL L).drop (i * 3)=D:=⟨_,rfl⟩
 have hFM:flat encL M=A++((encL.cs x)++D):=by rw [←hM,ins_cells,hA,hD]
 have hFL:flat encL L=A++D:=by rw [←hA,←hD,List.take_append_drop]
 have hFlen:=gen_length L
 rw [hn] at hFlen htk hi hr hnc hL ⊢
 obtain rfl:cap=n:=by omega
 have hAl:A.length=i * 3:=by rw [←hA,List.length_take,hFlen];omega
 have hDl:D.length=(cap - i) * 3:=by rw [←hD,List.length_drop,hFlen];omega
 have hcur:cur.toList=A++D:=by rw [←hFL,←htk,List.take_of_length_le (by rw [Array.length_toList,hcs];exact Nat.le_refl _)]
 have hg':w.heap[g]?=some (.cells (A++D).toArray 207 (0,0)):=by rw [←hcur];simpa using hg
 have hDone:∀ v∈D,v.oneCell'=true:=fun v hv=>flat_ones L v (by rw [hFL];simp [hv])
 obtain ⟨i0,hi0,hz0,hz1,hz2⟩:=info_parts gen_info
 have hgl:g < w.heap.size:=(Array.getElem?_eq_some_iff.1 hg).1
 have hvl:vb < w.heap.size:=(Array.getElem?_eq_some_iff.1 hx).1
 have hAt:∀ (j:Nat) v,A[j]?=some v→w.cell? ((⟨g,0,none⟩:Addr).add j)=some v:=fun j v hj=>by
  rw [add_off,Nat.zero_add,cell_of_row _ g j _ 207 (0,0) hg']
  simp only [List.getElem?_toArray]
  rw [List.getElem?_append_left (List.getElem?_eq_some_iff.1 hj).1];exact hj
 have hold:(Builtin.firstCells i0.size i (.slice (some ⟨g,0,none⟩) i cap)).run Tryz.prog w.drew=.ok A.toArray w.drew:=by
  rw [hz1];exact run_firstCells_some w.drew 3 i ⟨g,0,none⟩ i cap A hAl hAt
 have hk:i+(cap+1 - i)=cap+1:=by omega
 have hrz:∀ ty,(Builtin.append_ #[28,3] ty #[.slice (some ⟨g,0,none⟩) i cap,.int .i64 ((cap+1 - i:Nat):Int)]).run Tryz.prog w=_:=fun ty =>
  Lib.run_append_grow_zeros w 28 3 ty 207 i0 _ .i64 .i64 Tryz.underlying28 Tryz.underlying3 hi0 hz0 (some ⟨g,0,none⟩) i cap A hold (cap+1 - i) (by omega) (by omega) (by omega) (by omega) (by rw [hz2];omega) (by rw [hz2,hk];exact growslice_fits (by omega) (by omega))
 rw [hk] at hrz
 obtain ⟨G,hG⟩:∃ G,grownCap w (cap+1) cap 207=G:=⟨_,rfl⟩
 have hGge:cap+1≤G:=by rw [←hG];exact grownCap_ge w _ _ _
 have hGle:G≤maxLen:=by rw [←hG];exact grownCap_le_maxLen w _ _ _ (by unfold maxLen;omega)
 rw [hG] at hrz
 obtain ⟨Z,hZ⟩:∃ Z:List Value,(Builtin.zeroCells (Value.agg #[.string ⟨#[]⟩,.string ⟨#[]⟩,.string ⟨#[]⟩]).cells (cap+1 - i)++Builtin.zeroCells (Value.agg #[.string ⟨#[]⟩,.string ⟨#[]⟩,.string ⟨#[]⟩]).cells (G - (cap+1))).toList=Z:=⟨_,rfl⟩
 have hZl:Z.length=(cap+1 - i) * 3+(G - (cap+1)) * 3:=by rw [←hZ];simp [Builtin.zeroCells,Value.cells]
 obtain ⟨W1,hW1⟩:∃ W1,w.drew.alloc (.cells (A++Z).toArray 207)=W1:=⟨_,rfl⟩
 have hrow:(A.toArray++Builtin.zeroCells (Value.agg #[.string ⟨#[]⟩,.string ⟨#[]⟩,.string ⟨#[]⟩]).cells (cap+1 - i)++Builtin.zeroCells (Value.agg #[.string ⟨#[]⟩,.string ⟨#[]⟩,.string ⟨#[]⟩]).cells (G - (cap+1)))=(A++Z).toArray:=by
  rw [←hZ];apply Array.ext';simp
 rw [hrow,hW1] at hrz
 have hG1:W1.heap[w.heap.size]?=some (.cells (A++Z).toArray 207 (0,0)):=by rw [←hW1];exact heap_alloc_new w.drew _
 have hB1:Below w.heap.size w W1:=by rw [←hW1];exact (below_drewN (Below.refl w.heap.size w) 1).alloc (Nat.le_refl _) _
 have HG1:=Lib.hid hG1
 have HB1:=Lib.hid hB1
 have HX1:Hid (BoxE encL W1 vb 207 x):=Lib.hid (hx.keep hB1 hvl)
 have HGO:Hid (W1.heap[g]?=some (.cells (A++D).toArray 207 (0,0))):=Lib.hid ((hB1.block g hgl).trans hg')
 have HL:=Lib.hid (And.intro hML (And.intro hFM (And.intro hAl (And.intro hDl (And.intro hZl hDone)))))
 have HRZ:=Lib.hid (hrz 28)
 rw [hM]
 unfold maxLen at hcap hGle
 have hki:((cap:Int)+1 - (i:Int))=((cap+1 - i:Nat):Int):=by omega
 have HKI:=Lib.hid hki
 have e0:=fun wq=>from_at (w:=wq) (z:=(i:Int)) (g:=g) (n:=cap) (c:=cap) (k:=i) (hz:=rfl) (hk:=by omega) (hc:=by omega)
 have e1:=fun wq=>upto_at (w:=wq) (z:=(i:Int)) (g:=g) (n:=cap) (c:=cap) (k:=i) (hz:=rfl) (hk:=by omega)
 have e2:=fun wq=>from_at (w:=wq) (z:=(i:Int)+1) (g:=w.heap.size) (n:=cap+1) (c:=G) (k:=i+1) (hz:=by omega) (hk:=by omega) (hc:=by omega)
 have e3:=fun wq=>from_at (w:=wq) (z:=(i:Int)) (g:=w.heap.size) (n:=cap+1) (c:=G) (k:=i) (hz:=rfl) (hk:=by omega) (hc:=by omega)
 have hz1':¬ ((i:Int)=(cap:Int)):=by omega
 have hz2':((cap:Int) < (cap:Int)+1):=by omega
 have hw1:IntKind.i64.wrap ((i:Int)+1)=(i:Int)+1:=by rw [IntKind.wrap_i64];omega
 have HGL:=Lib.hid hgl
 clear hFlen hcur hFL hA hD hn hM hML hFM hAl hDl hg hg' hDone htk hcs hx hZ hZl hW1 hrow hrz hG1 hB1 hG hold hAt hi0 hz0 hz1 hz2 hk hki hgl hvl
 go_enter Tryz.func150,Tryz.ntmps150
 go_wp2_with (first
  | (at_builtin;refine Lib.wpList_append_run _ rfl _ _ _ _ rfl _ _ rfl rfl _ W1 (by rw [HKI.out];exact HRZ.out) ?_)
  | (refine wpList_copyK rfl (.tmp 43) (.tmp 44) 28 28 rfl 207 Tryz.underlying28 3 ins_sz _ _ _ _ _ _ rfl rfl w.heap.size (i * 3) (A++Z) 207 HG1.out (encL.cs x) 1 (by simp only [Nat.min_def];split <;> omega) rfl rfl ⟨vb,0,none⟩ rfl (fun j u hj=>by rw [add_off];exact HX1.out.at0 j u hj) (by have h:=HL.out;simp only [List.length_append];show _+3≤_;omega) (encL.one x) ?_;intro w2 hg2 hgr2))
 have HG2:=Lib.hid hg2.out
 have HGR2:=Lib.hid hgr2
 have HGO2:Hid (w2.heap[g]?=some (.cells (A++D).toArray 207 (0,0))):=Lib.hid ((hgr2.block g (Nat.lt_of_lt_of_le HGL.out HB1.out.size) (fun e=>by have:=Option.some.inj e;have:=HGL.out;omega)).trans HGO.out)
 have HSRC:Hid (∀ (j:Nat) v,D[j]?=some v→w2.cell? ((⟨g,i * 3,none⟩:Addr).add j)=some v):=Lib.hid (fun j v hj=>by
  rw [add_off,cell_of_row _ g (i * 3+j) _ 207 (0,0) HGO2.out]
  simp only [List.getElem?_toArray]
  rw [←HL.out.2.2.1,List.getElem?_append_right (by omega),Nat.add_sub_cancel_left]
  exact hj)
 clear hg2 hgr2
 go_region_law (refine step_copyK rfl (.tmp 50) (.tmp 53) 28 28 rfl 207 Tryz.underlying28 3 ins_sz (some ⟨w.heap.size,(i+1) * 3,none⟩) (some ⟨g,i * 3,none⟩) (cap+1 - (i+1)) (G - (i+1)) (cap - i) (cap - i) (by simp [Act.eval,Act.put]) (by simp [Act.eval,Act.put]) w.heap.size ((i+1) * 3) (splice (A++Z) (i * 3) (encL.cs x)) 207 HG2.out D (cap - i) (by simp only [Nat.min_def];split <;> omega) HL.out.2.2.2.1 rfl ⟨g,i * 3,none⟩ rfl HSRC.out (by have h:=HL.out;rw [length_splice _ _ _ (by simp only [List.length_append];show _+3≤_;omega)];simp only [List.length_append];omega) HL.out.2.2.2.2.2 ?_;intro w3 hg3 hgr3)
 have HF:Hid (w3.ownsRow B 207 3 (.slice (some ⟨w.heap.size,0,none⟩) (cap+1) G) M.length (flat encL M)):=Lib.hid (by
  obtain ⟨hML,hFM,hAl,hDl,hZl,_⟩:=HL.out
  have hsp:splice (splice (A++Z) (i * 3) (encL.cs x)) ((i+1) * 3) D=A++((encL.cs x)++(D++Z.drop (3+D.length))):=by
   rw [show (i+1) * 3=A.length+(encL.cs x).length by rw [hAl];show _=_+3;omega,show i * 3=A.length from hAl.symm]
   exact splice_fwd A (encL.cs x) D Z (by show 3+_≤_;omega)
  have hh:=hg3.out
  rw [hsp] at hh
  have own:w3.ownsRow w.heap.size 207 3 (.slice (some ⟨w.heap.size,0,none⟩) M.length G) M.length (flat encL M):=by
   refine ⟨gen_length M,.inr ⟨w.heap.size,G,_,rfl,Nat.le_refl _,hh,by omega,by unfold maxLen;omega,?_,?_⟩⟩
   ·simp only [List.size_toArray,List.length_append,List.length_drop]
    show _+(3+_)=_
    omega
   ·rw [hFM,hML]
    have:(A++((encL.cs x)++D)).length=(cap+1) * 3:=by simp only [List.length_append];show _+(3+_)=_;omega
    rw [←this,show A++((encL.cs x)++(D++Z.drop (3+D.length)))=(A++((encL.cs x)++D))++Z.drop (3+D.length) by simp]
    exact List.take_left
  rw [←hML]
  exact row_base own hB)
 have HBL:Hid (w.grownBy w3 (some g)):=Lib.hid (((grownBy_of_below HB1.out (some g)).andThen HGR2.out (fun j hj=>.inl (by cases hj;exact Nat.le_refl _))).andThen ((grownBy_drewN w2 1 (some w.heap.size)).trans hgr3) (fun j hj=>.inl (by cases hj;exact Nat.le_refl _)))
 clear hg3 hgr3
 go_wp2
 go_ret
 exact ⟨_,rfl,HF.out,HBL.out⟩
theorem insert_own (v:Value) (L:List Lin) (x:Lin) (i vb B:Nat) (w:World) (h:w.ownsRow B 207 3 v L.length (flat encL L)) (hB:B≤w.heap.size) (hx:BoxE encL w vb 207 x) (hne:v.ownBlock≠some vb) (hi:i≤L.length) (hL:L.length≤1000) :
 Calls Tryz.prog 150 #[v,.int .i64 (i:Int),.slice (some ⟨vb,0,none⟩) 1 1] w (InsOwn w B v (L.take i++x::L.drop i)):=by
 by_cases hie:i=L.length
 ·subst hie;exact insert_end v L x vb B w h hB hx hL
 ·rcases h.2 with ⟨rfl,hn⟩ | ⟨g,cap,cur,rfl,hBg,hg,hnc,hcm,hcs,htk⟩
  ·omega
  ·by_cases hr:L.length+1≤cap
   ·exact insert_room g cap cur L x i vb B w hBg hg hcm hcs htk hx (fun e=>hne (by rw [e];rfl)) (by omega) hr
   ·exact insert_grow g cap cur L x i vb B w hg hcm hcs htk hB hx (by omega) hnc (by omega) hL
end Go.Proofs.YtdegffffcbhjbaaGreatDoor.Un.Li
end
section
namespace Go.Proofs.YtdegffffcbhjbaaGreatDoor.Un.Li
open Go.RowKit
theorem row_slice9 {W:World} {B:Nat} {e:TypeId} {s:Nat} {v:Value} {n:Nat} {xs:List Value} (h:W.ownsRow B e s v n xs):∃ a c,v=.slice a n c:=by
 rcases h.2 with ⟨rfl,rfl⟩ | ⟨g,cap,cur,rfl,_⟩
 ·exact ⟨none,0,rfl⟩
 ·exact ⟨_,_,rfl⟩
def PutTold (w:World) (B:Nat) (v:Value) (M:List Lin) (n m:Nat) (e:Ending) (w':World):Prop :=
 ∃ p9 n9 c9,e=.returned (.tuple #[.slice p9 n9 c9,.int .i64 (if m≤n then 4 else 0)])∧w.grownBy w' v.ownBlock∧(¬ m≤n→w'.ownsRow B 207 3 (.slice p9 n9 c9) M.length (flat encL M))
set_option maxRecDepth 100000 in
set_option maxHeartbeats 4000000 in
theorem put_any (v:Value) (L:List Lin) (x:Lin) (m B:Nat) (w:World) (h:w.ownsRow B 207 3 v L.length (flat encL L)) (hB:B≤w.heap.size) (hr:G.riseK Lin.key L=true) (hL:L.length≤1000) :
 Calls Tryz.prog 110 #[v,aggN x,.int .i64 (m:Int),.func (.func 111) #[] #[]] w (PutTold w B v (G.insK Lin.key L x) L.length m):=by
 have HB0:=Lib.hid ((Below.refl w.heap.size w).alloc (Nat.le_refl _) (.cells (encL.cs x).toArray 207))
 have HX0:=Lib.hid (BoxE.new encL w x 207)
 have HO0:=Lib.hid (h.alloc (.cells (encL.cs x).toArray 207))
 have HV0:=Lib.hid (els_of_own HO0.out)
 have hlt:∀ g,v.ownBlock=some g→g < w.heap.size:=fun g e=>(h.lt g e).2
 have HLT:=Lib.hid hlt
 have hv:∃ p c,v=.slice p L.length c∧L.length≤c∧c≤maxLen:=by
  obtain ⟨p,c,e,h1,h2,_⟩:=els_of_own h
  exact ⟨p,c,e,h1,h2⟩
 obtain ⟨p,c,rfl,hcap,hcm⟩:=hv
 have HR:=Lib.hid hr
 have HL:=Lib.hid hL
 have HSE:=Lib.hid (search_any (.slice p L.length c) L x (w.alloc (.cells (encL.cs x).toArray 207)) HV0.out hr hL)
 have HPL:=Lib.hid (G.placeK_le (key:=Lin.key) L (Lin.key x))
 have hins:G.insK Lin.key L x=L.take (G.placeK Lin.key L (Lin.key x))++x::L.drop (G.placeK Lin.key L (Lin.key x)):=rfl
 obtain ⟨M,hM⟩:∃ M,G.insK Lin.key L x=M:=⟨_,rfl⟩
 obtain ⟨pl,hpl⟩:∃ pl,G.placeK Lin.key L (Lin.key x)=pl:=⟨_,rfl⟩
 obtain ⟨is,his⟩:∃ is,G.isK Lin.key L (Lin.key x)=is:=⟨_,rfl⟩
 rw [hM,hpl] at hins
 rw [hpl,his] at HSE
 rw [hpl] at HPL
 rw [hM]
 have HM:=Lib.hid hins
 obtain ⟨n,hn⟩:∃ n,L.length=n:=⟨_,rfl⟩
 have HN:=Lib.hid hn
 rw [hn] at HSE hcap hL ⊢
 unfold maxLen at hcm
 clear h hlt hr hpl his hM hins hn
 by_cases hmn:m≤n
 ·have HMN:=Lib.hid hmn
  go_enter Tryz.func110,Tryz.ntmps110
  go_wp2
  go_ret2
  exact ⟨p,n,c,by rw [if_pos HMN.out];rfl,World.grownBy_alloc _ _ _,fun h=>absurd HMN.out h⟩
 ·have HMN:=Lib.hid hmn
  obtain ⟨c0,c1,c2⟩:=lin3 HX0.out.at0
  go_enter Tryz.func110,Tryz.ntmps110
  go_wp2_with fail
  refine HSE.out.mono ?_
  rintro e w2 ⟨rfl,hb2⟩
  have HO2:=Lib.hid (row_below HO0.out hb2)
  have HX2:=Lib.hid (HX0.out.kept hb2)
  have HG2:Hid (w.grownBy w2 (Value.slice p n c).ownBlock):=Lib.hid ((World.grownBy_alloc w _ _).trans (grownBy_of_below hb2 _))
  have HS2:Hid (w.heap.size < w2.heap.size):=Lib.hid (by have:=hb2.size;rw [World.size_alloc] at this;omega)
  clear hb2 c0 c1 c2
  obtain ⟨c0,c1,c2⟩:=lin3 HX2.out.at0
  go_wp2_with fail
  clear c0 c1 c2
  refine (insert_own (.slice p n c) L x pl w2.heap.size B (w2.alloc (.cells (encL.cs x).toArray 207)) (by rw [←HN.out];rw [HN.out] at HO2 ⊢;exact HO2.out.alloc _) (by rw [World.size_alloc];have:=HS2.out;omega) (BoxE.new encL w2 x 207) (fun e=>by have:=HLT.out _ (by rw [HN.out];exact e);have:=HS2.out;omega) HPL.out HL.out).mono ?_
  rintro e w9 ⟨v9,rfl,ho9,hg9⟩
  rw [←HM.out] at ho9
  obtain ⟨p9,c9,rfl⟩:=row_slice9 ho9
  have HO9:=Lib.hid ho9
  have HG9:Hid (w.grownBy w9 (Value.slice p n c).ownBlock):=Lib.hid ((HG2.out.trans (World.grownBy_alloc w2 _ _)).trans hg9)
  clear ho9 hg9
  go_wp2
  go_ret2
  exact ⟨p9,M.length,c9,by rw [if_neg HMN.out];rfl,HG9.out,fun _=>HO9.out⟩
end Go.Proofs.YtdegffffcbhjbaaGreatDoor.Un.Li
end
section
namespace Go.Proofs.YtdegffffcbhjbaaGreatDoor
open Go.RowKit
theorem info_theirs_any:(Tryz.prog.info? 99).map (fun i=>(i.zero,i.size,i.bytes))=some (some (.agg #[.string ⟨#[]⟩,.int .i64 0,.bool false,.bool false,.string ⟨#[]⟩,.bool false]),6,56):=by kernel_rfl
end Go.Proofs.YtdegffffcbhjbaaGreatDoor
end
section
namespace Go.Proofs.YtdegffffcbhjbaaGreatDoor
open Go.RowKit
def RowTold (w:World) (L:List Acct) (e:Ending) (w':World):Prop:=∃ v,e=.returned v∧w'.ownsRow w.heap.size 99 6 v L.length (flatA L)∧Below w.heap.size w w'
set_option maxRecDepth 100000 in
set_option maxHeartbeats 2000000 in
theorem clone_any (v:Value) (L:List Acct) (w:World) (h:ChartV w v L) (hL:L.length≤1000) :
 Calls Tryz.prog 137 #[v] w (RowTold w L):=by
 have HV:=Lib.hid h
 obtain ⟨p,c,rfl,hcap,hm,hp,hc⟩:=h
 have hq:∀ (w:World) (a:Option Addr) (n c n' c':Nat),(binOp .eql 24 (.slice a n c) (.slice none n' c')).run Tryz.prog w=.ok (.bool a.isNone) w:=fun w a n c n' c'=>Lib.run_eql_slice_nil w _ _ a n c n' c' Tryz.underlying24
 obtain ⟨i0,hi,hz0,hz1,hz2⟩:=info_parts info_theirs_any
 have HI:=Lib.hid (And.intro hi (And.intro hz0 (And.intro hz1 hz2)))
 clear hi hz0 hz1 hz2 hc
 unfold maxLen at hm
 cases p with
 | none =>
   have h0:=hp rfl
   have:L=[]:=List.eq_nil_of_length_eq_zero (by omega)
   subst this
   clear HV hp
   go_enter Tryz.func137,Tryz.ntmps137
   go_wp2
   go_ret
   exact ⟨_,rfl,World.ownsRow_nil _ _ _ _,Below.refl _ _⟩
 | some ad =>
   have HC:Hid (∀ (j:Nat) u,(flatA L)[j]?=some u→w.cell? (ad.add j)=some u):=Lib.hid (fun j u hj=>by
    by_cases hne:L=[]
    ·subst hne;simp [flatA] at hj
    ·obtain ⟨b,o,e,_,hcell⟩:=HV.out.cells hne
     cases e
     rw [add_off];exact hcell j u hj)
   obtain ⟨n,hn⟩:∃ n,L.length=n:=⟨_,rfl⟩
   have HN:=Lib.hid hn
   rw [hn] at hcap hL ⊢
   clear hn hp HV
   go_enter Tryz.func137,Tryz.ntmps137
   go_wp2_with (at_builtin;refine wpList_append_own _ rfl _ _ 24 rfl w.heap.size 99 i0 (.agg #[.string ⟨#[]⟩,.int .i64 0,.bool false,.bool false,.string ⟨#[]⟩,.bool false]) 6 56 Tryz.underlying24 HI.out.1 HI.out.2.1 HI.out.2.2.1 HI.out.2.2.2 rfl (by decide) _ _ _ rfl (World.ownsRow_made w #[] 0 (Nat.le_refl _) (Nat.zero_le _) (by simp)) ad n c (flatA L) rfl ?qc1 ?qc2 ?qc3 ?qc4 ?qc5 ?qc6 ?_)
   case qc1=>rw [flatA_length,HN.out]
   case qc2=>exact fun j u hj=>Lib.cell?_alloc_some _ (HC.out j u hj)
   case qc3=>exact flatA_one L
   case qc4=>rw [Nat.zero_add];unfold maxLen;omega
   case qc5=>rw [Nat.zero_add];omega
   case qc6=>simp
   intro v' w1 hown hgrow hnil
   have HOW:Hid (w1.ownsRow w.heap.size 99 6 v' L.length (flatA L)):=Lib.hid (by rw [HN.out];simpa using hown)
   have HBL:=Lib.hid (((Below.refl _ w).alloc (Nat.le_refl _) (.cells #[] 99)).grown hgrow (by simp) (by intro k hk;simp [Value.ownBlock] at hk;omega))
   clear hown hgrow hnil
   go_wp2
   go_ret
   exact ⟨v',rfl,HOW.out,HBL.out⟩
end Go.Proofs.YtdegffffcbhjbaaGreatDoor
end
section
namespace Go.Proofs.YtdegffffcbhjbaaGreatDoor
open Go.RowKit
theorem ins_u:Tryz.prog.underlying 24=some (.slice (Tryz.prog.elem 24)):=by kernel_rfl
theorem ins_s (w:World):(sizeOf (Tryz.prog.elem 24)).run Tryz.prog w=.ok 6 w:=by kernel_rfl
theorem ins_sz:(Tryz.prog.info? 99).map (·.size)=some 6:=by kernel_rfl
theorem ins_size (w:World):(sizeOf 99).run Tryz.prog w=.ok 6 w:=by kernel_rfl
theorem from_at (w:World) (g n c k:Nat) (z:Int) (hz:z=(k:Int)) (hk:k≤n) (hc:k < c):(Instr.slice 24 (.slice (some ⟨g,0,none⟩) n c) (some (.int .i64 z)) none none).run Tryz.prog w=.ok (.slice (some ⟨g,k * 6,none⟩) (n - k) (c - k)) w:=by
 subst hz
 rw [run_slice_l w 24 _ n c ins_u .i64 (k:Int) (by omega) (by omega),ins_s]
 have:¬ c=k:=by omega
 simp [Result.andThen,sliced,this,add_off]
theorem upto_at (w:World) (g n c k:Nat) (z:Int) (hz:z=(k:Int)) (hk:k≤c):(Instr.slice 24 (.slice (some ⟨g,0,none⟩) n c) none (some (.int .i64 z)) none).run Tryz.prog w=.ok (.slice (some ⟨g,0,none⟩) k c) w:=by
 subst hz
 rw [run_slice_h w 24 _ n c ins_u .i64 (k:Int) (by omega) (by omega),ins_s]
 simp [Result.andThen,sliced,Addr.add]
theorem overlaps_no (w:World) (vb g off lb cb:Nat) (x:Acct) (cur:Array Value) (hne:vb≠g) (hx:BoxA w vb 99 x) (hg:w.heap[g]?=some (.cells cur 99 (0,0))) (h0:cur.size≠0) :
 (callFunc 161 #[.slice (some ⟨vb,0,none⟩) 1 1,.slice (some ⟨g,off,none⟩) lb cb]).run Tryz.prog w=.ok (.value (.bool false)) w:=by
 unfold BoxA at hx
 rw [run_callFunc_extern Tryz.func161 (by kernel_rfl) (by kernel_rfl) (by kernel_rfl) (e:=Extern.SlicesOverlaps.overlaps #[23,23] #[4]) (by kernel_rfl),
  Lib.run_overlaps_apart w 23 4 99 Tryz.underlying23 6 ins_size ⟨vb,0,none⟩ ⟨g,off,none⟩ 1 1 lb cb hne 99 99 6 cur.size (by simp [World.shape?,hx]) (by simp [World.shape?,hg]) h0 (by simp [World.frozen?,hx]) (by simp [World.frozen?,hx])]
 rfl
theorem ins_cells (L:List Acct) (x:Acct) (i:Nat):flatA (L.take i++x::L.drop i)=(flatA L).take (i * 6)++(x.cells++(flatA L).drop (i * 6)):=by
 rw [flatA_append,flatA_cons,flatA_take,flatA_drop]
theorem acct_cells (x:Acct):∀ u∈x.cells,u.oneCell'=true:=by
 intro u hu;simp [Acct.cells] at hu;rcases hu with rfl | rfl | rfl | rfl | rfl | rfl <;> rfl
def InsOwn (w:World) (B:Nat) (v0:Value) (M:List Acct) (e:Ending) (w':World):Prop:=∃ v,e=.returned v∧w'.ownsRow B 99 6 v M.length (flatA M)∧w.grownBy w' v0.ownBlock
theorem grownBy_drewN (w:World) (q:Nat) (row:Option Nat):w.grownBy (w.drewN q) row:=⟨rfl,rfl,rfl,Nat.le_refl _,fun _ _ _=>rfl⟩
theorem grownBy_of_below {w w':World} (h:Below w.heap.size w w') (row:Option Nat):w.grownBy w' row:=⟨h.os,h.tape,h.output,h.size,fun j hj _=>h.block j hj⟩
set_option maxRecDepth 100000 in
set_option maxHeartbeats 4000000 in
theorem insert_end (v:Value) (L:List Acct) (x:Acct) (vb B:Nat) (w:World) (h:w.ownsRow B 99 6 v L.length (flatA L)) (hB:B≤w.heap.size) (hx:BoxA w vb 99 x) (hL:L.length≤1000) :
 Calls Tryz.prog 139 #[v,.int .i64 (L.length:Int),.slice (some ⟨vb,0,none⟩) 1 1] w (InsOwn w B v (L.take L.length++x::L.drop L.length)):=by
 have HM:Hid (L.take L.length++x::L.drop L.length=L++[x]):=Lib.hid (by simp)
 rw [HM.out]
 obtain ⟨i0,hi,hz0,hz1,hz2⟩:=info_parts info_theirs_any
 have hcx:∀ (j:Nat) u,x.cells[j]?=some u→w.cell? ((⟨vb,0,none⟩:Addr).add j)=some u:=fun j u hj=>by rw [add_off];exact hx.at0.cell j u hj
 have HOW:=Lib.hid h
 have hv:∃ p c,v=.slice p L.length c∧L.length≤c∧c≤maxLen∧(p=none→c=0)∧(∀ a,p=some a→∃ g,a=⟨g,0,none⟩):=by
  rcases h.2 with ⟨rfl,hn⟩ | ⟨g,cap,cur,rfl,_,_,hnc,hcm,_⟩
  ·exact ⟨none,0,by rw [hn],by omega,by simp,fun _=>rfl,fun a e=>by cases e⟩
  ·exact ⟨_,cap,rfl,hnc,hcm,(fun e=>by cases e),fun a e=>by cases e;exact ⟨g,rfl⟩⟩
 obtain ⟨p,c,rfl,hnc,hcm,hpn,hps⟩:=hv
 obtain ⟨v',w',hr,h2,h3,_⟩:=run_append_own (P:=Tryz.prog) w B 24 24 99 i0 _ 6 56 Tryz.underlying24 hi hz0 hz1 hz2 rfl (by decide) _ _ _ h ⟨vb,0,none⟩ 1 1 x.cells rfl hcx (acct_cells x) (by unfold maxLen;omega) (by omega) hB
 have hra:(Builtin.append_ #[24,23] 24 #[.slice p L.length c,.slice (some ⟨vb,0,none⟩) 1 1]).run Tryz.prog w=.ok v' w':=by
  rw [append_types w _ _ _ _ _ i0 Tryz.underlying24 Tryz.underlying23 hi];exact hr
 have HRA:=Lib.hid hra
 have HCV:Hid (w'.ownsRow B 99 6 v' (L++[x]).length (flatA (L++[x]))):=Lib.hid (by
  have:w'.ownsRow B 99 6 v' (L++[x]).length (flatA (L++[x])):=by
   rw [List.length_append,flatA_append,show flatA [x]=x.cells from by simp [flatA]];exact h2
  exact this)
 have HBL:=Lib.hid h3
 obtain ⟨n,hn⟩:∃ n,L.length=n:=⟨_,rfl⟩
 rw [hn] at HRA hL hnc ⊢
 unfold maxLen at hcm
 clear hr h2 h3 hra h HOW hn hi hz0 hz1 hz2 hcx
 cases p with
 | none =>
   have hc0:=hpn rfl
   obtain rfl:n=0:=by omega
   subst hc0
   go_enter Tryz.func139,Tryz.ntmps139
   go_wp2_with (at_builtin;refine Lib.wpList_append_run _ rfl _ _ _ _ rfl _ _ rfl rfl v' w' HRA.out ?_)
   go_ret
   exact ⟨v',rfl,HCV.out,HBL.out⟩
 | some a =>
   obtain ⟨g,rfl⟩:=hps a rfl
   have hnn:(n:Int)≤(n:Int):=Int.le_refl _
   by_cases hcn:c=n
   ·subst hcn
    go_enter Tryz.func139,Tryz.ntmps139
    go_wp2_with (at_builtin;refine Lib.wpList_append_run _ rfl _ _ _ _ rfl _ _ rfl rfl v' w' HRA.out ?_)
    go_ret
    exact ⟨v',rfl,HCV.out,HBL.out⟩
   ·have e1:=from_at (z:=(n:Int)) (g:=g) (n:=n) (c:=c) (k:=n) (hz:=rfl) (hk:=Nat.le_refl _) (hc:=by omega)
    go_enter Tryz.func139,Tryz.ntmps139
    go_wp2_with (at_builtin;refine Lib.wpList_append_run _ rfl _ _ _ _ rfl _ _ rfl rfl v' w' HRA.out ?_)
    go_ret
    exact ⟨v',rfl,HCV.out,HBL.out⟩
set_option maxRecDepth 100000 in
set_option maxHeartbeats 4000000 in
theorem insert_room (g cap:Nat) (cur:Array Value) (L:List Acct) (x:Acct) (i vb B:Nat) (w:World) (hBg:B≤g) (hg:w.heap[g]?=some (.cells cur 99 (0,0))) (hcap:cap≤maxLen) (hcs:cur.size=cap * 6) (htk:cur.toList.take (L.length * 6)=flatA L)
 (hx:BoxA w vb 99 x) (hne:vb≠g) (hi:i < L.length) (hr:L.length+1≤cap) :
 Calls Tryz.prog 139 #[.slice (some ⟨g,0,none⟩) L.length cap,.int .i64 (i:Int),.slice (some ⟨vb,0,none⟩) 1 1] w (InsOwn w B (.slice (some ⟨g,0,none⟩) L.length cap) (L.take i++x::L.drop i)):=by
 obtain ⟨M,hM⟩:∃ M,L.take i++x::L.drop i=M:=⟨_,rfl⟩
 obtain ⟨n,hn⟩:∃ n,L.length=n:=⟨_,rfl⟩
 have hML:M.length=n+1:=by rw [←hM,←hn];simp;omega
 obtain ⟨A,hA⟩:∃ A,(flatA L).take (i * 6)=A:=⟨_,rfl⟩
 obtain ⟨D,hD⟩:∃ D,(flatA L).drop (i * 6)=D:=⟨_,rfl⟩
 have hFM:flatA M=A++(x.cells++D):=by rw [←hM,ins_cells,hA,hD]
 have hFL:flatA L=A++D:=by rw [←hA,←hD,List.take_append_drop]
 have hFlen:=flatA_length L
 rw [hn] at hFlen htk hi hr ⊢
 have hAl:A.length=i * 6:=by rw [←hA,List.length_take,hFlen];omega
 have hDl:D.length=(n - i) * 6:=by rw [←hD,List.length_drop,hFlen];omega
 obtain ⟨S,hS⟩:∃ S,cur.toList.drop (n * 6)=S:=⟨_,rfl⟩
 have hcur:cur.toList=A++(D++S):=by rw [←List.take_append_drop (n * 6) cur.toList,htk,hS,hFL,List.append_assoc]
 have hSl:S.length=(cap - n) * 6:=by rw [←hS,List.length_drop,Array.length_toList,hcs];omega
 have hXl:x.cells.length=6:=rfl
 have hg':w.heap[g]?=some (.cells (A++(D++S)).toArray 99 (0,0)):=by rw [←hcur];simpa using hg
 have hDone:∀ v∈D,v.oneCell'=true:=fun v hv=>flatA_one L v (by rw [hFL];simp [hv])
 have HG:=Lib.hid hg'
 have HX:=Lib.hid hx
 have HM:=Lib.hid hM
 have HOV:=Lib.hid (fun off lb cb=>overlaps_no w vb g off lb cb x cur hne hx hg (by rw [hcs];omega))
 have HSRC:Hid (∀ (w':World),w'.heap[g]?=w.heap[g]?→∀ (j:Nat) v,D[j]?=some v→w'.cell? ((⟨g,i * 6,none⟩:Addr).add j)=some v):=Lib.hid (fun w' hw' j v hj=>by
  rw [add_off,cell_of_row _ g (i * 6+j) _ 99 (0,0) (hw'.trans hg')]
  simp only [List.getElem?_toArray]
  rw [←hAl,List.getElem?_append_right (by omega),Nat.add_sub_cancel_left,List.getElem?_append_left (List.getElem?_eq_some_iff.1 hj).1]
  exact hj)
 have HL:=Lib.hid (And.intro hML (And.intro hFM (And.intro hAl (And.intro hDl (And.intro hSl hDone)))))
 rw [hM]
 unfold maxLen at hcap
 have e0:=fun wq=>from_at (w:=wq) (z:=(i:Int)) (g:=g) (n:=n) (c:=cap) (k:=i) (hz:=rfl) (hk:=by omega) (hc:=by omega)
 have e1:=fun wq=>upto_at (w:=wq) (z:=(n:Int)+1) (g:=g) (n:=n) (c:=cap) (k:=n+1) (hz:=by omega) (hk:=by omega)
 have e2:=fun wq=>from_at (w:=wq) (z:=(i:Int)+1) (g:=g) (n:=n+1) (c:=cap) (k:=i+1) (hz:=by omega) (hk:=by omega) (hc:=by omega)
 have e3:=fun wq=>from_at (w:=wq) (z:=(i:Int)) (g:=g) (n:=n+1) (c:=cap) (k:=i) (hz:=rfl) (hk:=by omega) (hc:=by omega)
 have hz1:¬ ((i:Int)=(n:Int)):=by omega
 have hz2:¬ ((cap:Int) < (n:Int)+1):=by omega
 have hw1:IntKind.i64.wrap ((i:Int)+1)=(i:Int)+1:=by rw [IntKind.wrap_i64];omega
 have hov:=HOV.out
 clear hFlen hcur hS hFL hA hD hn hM hML hFM hAl hDl hSl hXl hg hg' hDone htk hcs hx HOV
 go_enter Tryz.func139,Tryz.ntmps139
 go_wp2_with (simp only [hov])
 go_region_law (refine step_copyK rfl (.tmp 73) (.tmp 76) 24 24 rfl 99 Tryz.underlying24 6 ins_sz (some ⟨g,(i+1) * 6,none⟩) (some ⟨g,i * 6,none⟩) (n+1 - (i+1)) (cap - (i+1)) (n+1 - i) (cap - i) (by simp [Act.eval,Act.put]) (by simp [Act.eval,Act.put]) g ((i+1) * 6) (A++(D++S)) 99 HG.out D (n - i) (by simp only [Nat.min_def];split <;> omega) HL.out.2.2.2.1 rfl ⟨g,i * 6,none⟩ rfl (HSRC.out _ rfl) (by have h:=HL.out;simp only [List.length_append];omega) HL.out.2.2.2.2.2 ?_;intro w1 hg1 hgr1)
 have HG1:=Lib.hid hg1.out
 have HGR1:=Lib.hid hgr1
 have HX1:Hid (BoxA w1 vb 99 x):=Lib.hid (by
  have hb:=HX.out
  have hlt:vb < w.heap.size:=(Array.getElem?_eq_some_iff.1 hb).1
  exact (hgr1.block vb hlt (fun e=>hne (Option.some.inj e))).trans hb)
 clear hg1 hgr1
 go_wp2_with (refine wpList_copyK rfl (.tmp 80) (.tmp 81) 24 23 rfl 99 Tryz.underlying24 6 ins_sz _ _ _ _ _ _ rfl rfl g (i * 6) (splice (A++(D++S)) ((i+1) * 6) D) 99 HG1.out x.cells 1 (by simp only [Nat.min_def];split <;> omega) rfl rfl ⟨vb,0,none⟩ rfl (fun j u hj=>by rw [add_off];exact HX1.out.at0.cell j u hj) (by have h:=HL.out;rw [length_splice _ _ _ (by simp only [List.length_append];omega)];simp only [List.length_append];show _+6≤_;omega) (acct_cells x) ?_;intro w2 hg2 hgr2)
 have HF:Hid (w2.ownsRow B 99 6 (.slice (some ⟨g,0,none⟩) (n+1) cap) M.length (flatA M)):=Lib.hid (by
  obtain ⟨hML,hFM,hAl,hDl,hSl,_⟩:=HL.out
  have hsp:splice (splice (A++(D++S)) ((i+1) * 6) D) (i * 6) x.cells=A++(x.cells++(D++(D++S).drop (6+D.length))):=by
   rw [show (i+1) * 6=A.length+x.cells.length by rw [hAl];show _=_+6;omega,show i * 6=A.length from hAl.symm]
   exact splice_back A x.cells D (D++S) (by simp only [List.length_append];show 6+_≤_;omega)
  have hh:=hg2.out
  rw [hsp] at hh
  have own:w2.ownsRow B 99 6 (.slice (some ⟨g,0,none⟩) M.length cap) M.length (flatA M):=by
   refine ⟨flatA_length M,.inr ⟨g,cap,_,rfl,hBg,hh,by omega,by unfold maxLen;omega,?_,?_⟩⟩
   ·simp only [List.size_toArray,List.length_append,List.length_drop]
    show _+(6+_)=_
    omega
   ·rw [hFM,hML]
    have:(A++(x.cells++D)).length=(n+1) * 6:=by simp only [List.length_append];show _+(6+_)=_;omega
    rw [←this,show A++(x.cells++(D++(D++S).drop (6+D.length)))=(A++(x.cells++D))++(D++S).drop (6+D.length) by simp]
    exact List.take_left
  rw [←hML]
  exact own)
 have HBL:Hid (w.grownBy w2 (some g)):=Lib.hid (((grownBy_drewN w 1 (some g)).trans HGR1.out).trans hgr2)
 clear hg2 hgr2
 go_ret
 exact ⟨_,rfl,HF.out,HBL.out⟩
set_option maxRecDepth 100000 in
set_option maxHeartbeats 4000000 in
theorem insert_grow (g cap:Nat) (cur:Array Value) (L:List Acct) (x:Acct) (i vb B:Nat) (w:World) (hg:w.heap[g]?=some (.cells cur 99 (0,0))) (hcap:cap≤maxLen) (hcs:cur.size=cap * 6) (htk:cur.toList.take (L.length * 6)=flatA L)
 (hB:B≤w.heap.size) (hx:BoxA w vb 99 x) (hi:i < L.length) (hnc:L.length≤cap) (hr:cap < L.length+1) (hL:L.length≤1000) :
 Calls Tryz.prog 139 #[.slice (some ⟨g,0,none⟩) L.length cap,.int .i64 (i:Int),.slice (some ⟨vb,0,none⟩) 1 1] w (InsOwn w B (.slice (some ⟨g,0,none⟩) L.length cap) (L.take i++x::L.drop i)):=by
 obtain ⟨M,hM⟩:∃ M,L.take i++x::L.drop i=M:=⟨_,rfl⟩
 obtain ⟨n,hn⟩:∃ n,L.length=n:=⟨_,rfl⟩
 have hML:M.length=n+1:=by rw [←hM,←hn];simp;omega
 obtain ⟨A,hA⟩:∃ A,(flatA L).take (i * 6)=A:=⟨_,rfl⟩
 obtain ⟨D,hD⟩:∃ D,(flatA L).drop (i * 6)=D:=⟨_,rfl⟩
 have hFM:flatA M=A++(x.cells++D):=by rw [←hM,ins_cells,hA,hD]
 have hFL:flatA L=A++D:=by rw [←hA,←hD,List.take_append_drop]
 have hFlen:=flatA_length L
 rw [hn] at hFlen htk hi hr hnc hL ⊢
 obtain rfl:cap=n:=by omega
 have hAl:A.length=i * 6:=by rw [←hA,List.length_take,hFlen];omega
 have hDl:D.length=(cap - i) * 6:=by rw [←hD,List.length_drop,hFlen];omega
 have hcur:cur.toList=A++D:=by rw [←hFL,←htk,List.take_of_length_le (by rw [Array.length_toList,hcs];exact Nat.le_refl _)]
 have hg':w.heap[g]?=some (.cells (A++D).toArray 99 (0,0)):=by rw [←hcur];simpa using hg
 have hDone:∀ v∈D,v.oneCell'=true:=fun v hv=>flatA_one L v (by rw [hFL];simp [hv])
 obtain ⟨i0,hi0,hz0,hz1,hz2⟩:=info_parts info_theirs_any
 have hgl:g < w.heap.size:=(Array.getElem?_eq_some_iff.1 hg).1
 have hvl:vb < w.heap.size:=(Array.getElem?_eq_some_iff.1 hx).1
 have hAt:∀ (j:Nat) v,A[j]?=some v→w.cell? ((⟨g,0,none⟩:Addr).add j)=some v:=fun j v hj=>by
  rw [add_off,Nat.zero_add,cell_of_row _ g j _ 99 (0,0) hg']
  simp only [List.getElem?_toArray]
  rw [List.getElem?_append_left (List.getElem?_eq_some_iff.1 hj).1];exact hj
 have hold:(Builtin.firstCells i0.size i (.slice (some ⟨g,0,none⟩) i cap)).run Tryz.prog w.drew=.ok A.toArray w.drew:=by
  rw [hz1];exact run_firstCells_some w.drew 6 i ⟨g,0,none⟩ i cap A hAl hAt
 have hk:i+(cap+1 - i)=cap+1:=by omega
 have hrz:∀ ty,(Builtin.append_ #[24,3] ty #[.slice (some ⟨g,0,none⟩) i cap,.int .i64 ((cap+1 - i:Nat):Int)]).run Tryz.prog w=_:=fun ty =>
  Lib.run_append_grow_zeros w 24 3 ty 99 i0 _ .i64 .i64 Tryz.underlying24 Tryz.underlying3 hi0 hz0 (some ⟨g,0,none⟩) i cap A hold (cap+1 - i) (by omega) (by omega) (by omega) (by omega) (by rw [hz2];omega) (by rw [hz2,hk];exact growslice_fits (by omega) (by omega))
 rw [hk] at hrz
 obtain ⟨G,hG⟩:∃ G,grownCap w (cap+1) cap 99=G:=⟨_,rfl⟩
 have hGge:cap+1≤G:=by rw [←hG];exact grownCap_ge w _ _ _
 have hGle:G≤maxLen:=by rw [←hG];exact grownCap_le_maxLen w _ _ _ (by unfold maxLen;omega)
 rw [hG] at hrz
 obtain ⟨Z,hZ⟩:∃ Z:List Value,(Builtin.zeroCells (Value.agg #[.string ⟨#[]⟩,.int .i64 0,.bool false,.bool false,.string ⟨#[]⟩,.bool false]).cells (cap+1 - i)++Builtin.zeroCells (Value.agg #[.string ⟨#[]⟩,.int .i64 0,.bool false,.bool false,.string ⟨#[]⟩,.bool false]).cells (G - (cap+1))).toList=Z:=⟨_,rfl⟩
 have hZl:Z.length=(cap+1 - i) * 6+(G - (cap+1)) * 6:=by rw [←hZ];simp [Builtin.zeroCells,Value.cells]
 obtain ⟨W1,hW1⟩:∃ W1,w.drew.alloc (.cells (A++Z).toArray 99)=W1:=⟨_,rfl⟩
 have hrow:(A.toArray++Builtin.zeroCells (Value.agg #[.string ⟨#[]⟩,.int .i64 0,.bool false,.bool false,.string ⟨#[]⟩,.bool false]).cells (cap+1 - i)++Builtin.zeroCells (Value.agg #[.string ⟨#[]⟩,.int .i64 0,.bool false,.bool false,.string ⟨#[]⟩,.bool false]).cells (G - (cap+1)))=(A++Z).toArray:=by
  rw [←hZ];apply Array.ext';simp
 rw [hrow,hW1] at hrz
 have hG1:W1.heap[w.heap.size]?=some (.cells (A++Z).toArray 99 (0,0)):=by rw [←hW1];exact heap_alloc_new w.drew _
 have hB1:Below w.heap.size w W1:=by rw [←hW1];exact (below_drewN (Below.refl w.heap.size w) 1).alloc (Nat.le_refl _) _
 have HG1:=Lib.hid hG1
 have HB1:=Lib.hid hB1
 have HX1:Hid (BoxA W1 vb 99 x):=Lib.hid (hx.keep hB1 hvl)
 have HGO:Hid (W1.heap[g]?=some (.cells (A++D).toArray 99 (0,0))):=Lib.hid ((hB1.block g hgl).trans hg')
 have HL:=Lib.hid (And.intro hML (And.intro hFM (And.intro hAl (And.intro hDl (And.intro hZl hDone)))))
 have HRZ:=Lib.hid (hrz 24)
 rw [hM]
 unfold maxLen at hcap hGle
 have hki:((cap:Int)+1 - (i:Int))=((cap+1 - i:Nat):Int):=by omega
 have HKI:=Lib.hid hki
 have e0:=fun wq=>from_at (w:=wq) (z:=(i:Int)) (g:=g) (n:=cap) (c:=cap) (k:=i) (hz:=rfl) (hk:=by omega) (hc:=by omega)
 have e1:=fun wq=>upto_at (w:=wq) (z:=(i:Int)) (g:=g) (n:=cap) (c:=cap) (k:=i) (hz:=rfl) (hk:=by omega)
 have e2:=fun wq=>from_at (w:=wq) (z:=(i:Int)+1) (g:=w.heap.size) (n:=cap+1) (c:=G) (k:=i+1) (hz:=by omega) (hk:=by omega) (hc:=by omega)
 have e3:=fun wq=>from_at (w:=wq) (z:=(i:Int)) (g:=w.heap.size) (n:=cap+1) (c:=G) (k:=i) (hz:=rfl) (hk:=by omega) (hc:=by omega)
 have hz1':¬ ((i:Int)=(cap:Int)):=by omega
 have hz2':((cap:Int) < (cap:Int)+1):=by omega
 have hw1:IntKind.i64.wrap ((i:Int)+1)=(i:Int)+1:=by rw [IntKind.wrap_i64];omega
 have HGL:=Lib.hid hgl
 clear hFlen hcur hFL hA hD hn hM hML hFM hAl hDl hg hg' hDone htk hcs hx hZ hZl hW1 hrow hrz hG1 hB1 hG hold hAt hi0 hz0 hz1 hz2 hk hki hgl hvl
 go_enter Tryz.func139,Tryz.ntmps139
 go_wp2_with (first
  | (at_builtin;refine Lib.wpList_append_run _ rfl _ _ _ _ rfl _ _ rfl rfl _ W1 (by rw [HKI.out];exact HRZ.out) ?_)
  | (refine wpList_copyK rfl (.tmp 43) (.tmp 44) 24 23 rfl 99 Tryz.underlying24 6 ins_sz _ _ _ _ _ _ rfl rfl w.heap.size (i * 6) (A++Z) 99 HG1.out x.cells 1 (by simp only [Nat.min_def];split <;> omega) rfl rfl ⟨vb,0,none⟩ rfl (fun j u hj=>by rw [add_off];exact HX1.out.at0.cell j u hj) (by have h:=HL.out;simp only [List.length_append];show _+6≤_;omega) (acct_cells x) ?_;intro w2 hg2 hgr2))
 have HG2:=Lib.hid hg2.out
 have HGR2:=Lib.hid hgr2
 have HGO2:Hid (w2.heap[g]?=some (.cells (A++D).toArray 99 (0,0))):=Lib.hid ((hgr2.block g (Nat.lt_of_lt_of_le HGL.out HB1.out.size) (fun e=>by have:=Option.some.inj e;have:=HGL.out;omega)).trans HGO.out)
 have HSRC:Hid (∀ (j:Nat) v,D[j]?=some v→w2.cell? ((⟨g,i * 6,none⟩:Addr).add j)=some v):=Lib.hid (fun j v hj=>by
  rw [add_off,cell_of_row _ g (i * 6+j) _ 99 (0,0) HGO2.out]
  simp only [List.getElem?_toArray]
  rw [←HL.out.2.2.1,List.getElem?_append_right (by omega),Nat.add_sub_cancel_left]
  exact hj)
 clear hg2 hgr2
 go_region_law (refine step_copyK rfl (.tmp 50) (.tmp 53) 24 24 rfl 99 Tryz.underlying24 6 ins_sz (some ⟨w.heap.size,(i+1) * 6,none⟩) (some ⟨g,i * 6,none⟩) (cap+1 - (i+1)) (G - (i+1)) (cap - i) (cap - i) (by simp [Act.eval,Act.put]) (by simp [Act.eval,Act.put]) w.heap.size ((i+1) * 6) (splice (A++Z) (i * 6) x.cells) 99 HG2.out D (cap - i) (by simp only [Nat.min_def];split <;> omega) HL.out.2.2.2.1 rfl ⟨g,i * 6,none⟩ rfl HSRC.out (by have h:=HL.out;rw [length_splice _ _ _ (by simp only [List.length_append];show _+6≤_;omega)];simp only [List.length_append];omega) HL.out.2.2.2.2.2 ?_;intro w3 hg3 hgr3)
 have HF:Hid (w3.ownsRow B 99 6 (.slice (some ⟨w.heap.size,0,none⟩) (cap+1) G) M.length (flatA M)):=Lib.hid (by
  obtain ⟨hML,hFM,hAl,hDl,hZl,_⟩:=HL.out
  have hsp:splice (splice (A++Z) (i * 6) x.cells) ((i+1) * 6) D=A++(x.cells++(D++Z.drop (6+D.length))):=by
   rw [show (i+1) * 6=A.length+x.cells.length by rw [hAl];show _=_+6;omega,show i * 6=A.length from hAl.symm]
   exact splice_fwd A x.cells D Z (by show 6+_≤_;omega)
  have hh:=hg3.out
  rw [hsp] at hh
  have own:w3.ownsRow w.heap.size 99 6 (.slice (some ⟨w.heap.size,0,none⟩) M.length G) M.length (flatA M):=by
   refine ⟨flatA_length M,.inr ⟨w.heap.size,G,_,rfl,Nat.le_refl _,hh,by omega,by unfold maxLen;omega,?_,?_⟩⟩
   ·simp only [List.size_toArray,List.length_append,List.length_drop]
    show _+(6+_)=_
    omega
   ·rw [hFM,hML]
    have:(A++(x.cells++D)).length=(cap+1) * 6:=by simp only [List.length_append];show _+(6+_)=_;omega
    rw [←this,show A++(x.cells++(D++Z.drop (6+D.length)))=(A++(x.cells++D))++Z.drop (6+D.length) by simp]
    exact List.take_left
  rw [←hML]
  exact row_base own hB)
 have HBL:Hid (w.grownBy w3 (some g)):=Lib.hid (((grownBy_of_below HB1.out (some g)).andThen HGR2.out (fun j hj=>.inl (by cases hj;exact Nat.le_refl _))).andThen ((grownBy_drewN w2 1 (some w.heap.size)).trans hgr3) (fun j hj=>.inl (by cases hj;exact Nat.le_refl _)))
 clear hg3 hgr3
 go_wp2
 go_ret
 exact ⟨_,rfl,HF.out,HBL.out⟩
theorem insert_own (v:Value) (L:List Acct) (x:Acct) (i vb B:Nat) (w:World) (h:w.ownsRow B 99 6 v L.length (flatA L)) (hB:B≤w.heap.size) (hx:BoxA w vb 99 x) (hne:v.ownBlock≠some vb) (hi:i≤L.length) (hL:L.length≤1000) :
 Calls Tryz.prog 139 #[v,.int .i64 (i:Int),.slice (some ⟨vb,0,none⟩) 1 1] w (InsOwn w B v (L.take i++x::L.drop i)):=by
 by_cases hie:i=L.length
 ·subst hie;exact insert_end v L x vb B w h hB hx hL
 ·rcases h.2 with ⟨rfl,hn⟩ | ⟨g,cap,cur,rfl,hBg,hg,hnc,hcm,hcs,htk⟩
  ·omega
  ·by_cases hr:L.length+1≤cap
   ·exact insert_room g cap cur L x i vb B w hBg hg hcm hcs htk hx (fun e=>hne (by rw [e];rfl)) (by omega) hr
   ·exact insert_grow g cap cur L x i vb B w hg hcm hcs htk hB hx (by omega) hnc (by omega) hL
end Go.Proofs.YtdegffffcbhjbaaGreatDoor
end
section
namespace Go.Proofs.YtdegffffcbhjbaaGreatDoor
open Go.RowKit
theorem ret_num {k:IntKind} {a b:Int} (h:a=b):Ending.returned (.int k a)=.returned (.int k b):=by rw [h]
set_option maxRecDepth 100000 in
set_option maxHeartbeats 2000000 in
theorem below_any (v:Value) (L:List Acct) (code:ByteArray) (w:World) (h:ChartV w v L) :
 Calls Tryz.prog 140 #[v,.string code] w fun e w'=>e=.returned (.int .i64 (belowL L code))∧Below w.heap.size w w':=by
 obtain ⟨a,c,rfl,hcap,hm,_,hc⟩:=h
 obtain ⟨n,hn⟩:∃ n,L.length=n:=⟨_,rfl⟩
 obtain ⟨r,hr⟩:∃ r,belowL L code=r:=⟨_,rfl⟩
 rw [hn] at hcap ⊢
 rw [hr]
 have HC:=Lib.hid hc
 have HN:=Lib.hid hn
 have HR:=Lib.hid hr
 unfold maxLen at hm
 clear hc hn hr
 go_enter Tryz.func140,Tryz.ntmps140
 go_wp2
 go_loopw [9] (fun s9 wr=>∃ i:Nat,i≤n∧s9=.int .i64 (i:Int)∧Below w.heap.size w wr∧Hid (∀ (j:Nat) (y:Acct),j < i→L[j]?=some y→gtS y.code code=false)) (fun s9 _=>n - (intOf s9).toNat)
 case atStart=>exact ⟨0,Nat.zero_le _,rfl,Below.refl _ _,Lib.hid fun j y hj=>absurd hj (Nat.not_lt_zero _)⟩
 case round =>
  obtain ⟨i,hi,rfl,hnx,HNO⟩:=hrel
  by_cases hlt:i < n
  ·obtain ⟨x,hx⟩:∃ x,L[i]?=some x:=⟨_,List.getElem?_eq_getElem (by rw [HN.out];exact hlt)⟩
   obtain ⟨b,o,rfl,hat⟩:=HC.out i x hx
   obtain ⟨c0,c1,c2,c3,c4,c5⟩:=hat.keep hnx hat.lt
   have HX:=Lib.hid hx
   have HNX:=Lib.hid (hnx.alloc hnx.size (.cells #[.string x.code,.int .i64 x.cls,.bool x.cash,.bool x.both,.string x.fixed,.bool x.worn] 99))
   clear hx hat
   cases hxe:gtS x.code code with
   | false =>
     have HXE:=Lib.hid hxe
     unfold gtS ltS at hxe
     simp only [Bool.not_eq_false'] at hxe
     go_wp2
     all_goals
      go_roundw
      case rel=>exact ⟨i+1,by omega,by go_num,HNX.out,Lib.hid fun j y hj hy=>by
       rcases Nat.lt_or_ge j i with h | h
       ·exact HNO.out j y h hy
       ·obtain rfl:j=i:=by omega
        rw [HX.out] at hy;cases hy;exact HXE.out⟩
      case measure=>simp [intOf];omega
   | true =>
     have HXE:=Lib.hid hxe
     have hres:Hid (r=i):=Lib.hid (by rw [←HR.out];exact below_at HNO.out HX.out HXE.out)
     unfold gtS ltS at hxe
     simp only [Bool.not_eq_true',Bool.or_eq_false_iff] at hxe
     obtain ⟨g1,g2⟩:=hxe
     go_wp2
     all_goals
      go_ret
      exact ⟨ret_num (by rw [hres.out]),HNX.out⟩
  ·have hres:Hid (r=n):=Lib.hid (by
    rw [←HR.out,←HN.out]
    refine below_none fun j y hy=>HNO.out j y ?_ hy
    have:=(List.getElem?_eq_some_iff.1 hy).1
    rw [HN.out] at this;omega)
   go_wp2
   go_ret
   exact ⟨ret_num (by rw [hres.out]),hnx⟩
end Go.Proofs.YtdegffffcbhjbaaGreatDoor
end
section
namespace Go.Proofs.YtdegffffcbhjbaaGreatDoor
open Go.RowKit
abbrev aggA (a:Acct):Value:=.agg #[.string a.code,.int .i64 a.cls,.bool a.cash,.bool a.both,.string a.fixed,.bool a.worn]
set_option maxRecDepth 100000 in
set_option maxHeartbeats 4000000 in
theorem marksFit_any (a:Acct) (w:World):Calls Tryz.prog 160 #[aggA a] w fun e w'=>e=.returned (.bool (marksA a))∧Below w.heap.size w w':=by
 obtain ⟨co,cl,ca,mu,fi,wo⟩:=a
 have HB:=Lib.hid ((Below.refl w.heap.size w).alloc (Nat.le_refl _) (.cells #[.string co,.int .i64 cl,.bool ca,.bool mu,.string fi,.bool wo] 99))
 obtain ⟨r,hr⟩:∃ r,marksA ⟨co,cl,ca,mu,fi,wo⟩=r:=⟨_,rfl⟩
 rw [hr]
 have HR:=Lib.hid hr
 clear hr
 by_cases hf:fi=⟨#[]⟩
 ·subst hf
  cases ca <;> cases mu <;> cases wo
  all_goals
   go_enter Tryz.func160,Tryz.ntmps160
   go_wp2
   go_ret
   exact ⟨ret_bool (by rw [←HR.out];simp [marksA,neB_empty]),HB.out⟩
 ·have hn:=(neB_iff fi).2 hf
  have HN:=Lib.hid hn
  unfold neB at hn
  cases hm:nmB fi <;> cases ca <;> cases mu <;> cases wo
  all_goals
   have HM:=Lib.hid hm
   clear hm
   go_enter Tryz.func160,Tryz.ntmps160
   go_wp2_with fail
   refine (name_at _ _).mono ?_
   rintro e w' ⟨rfl,rfl⟩
   rw [show nameL fi.data.toList=nmB fi from rfl,HM.out]
   go_wp2
   go_ret
   exact ⟨ret_bool (by rw [←HR.out];simp [marksA,HN.out,HM.out]),HB.out⟩
end Go.Proofs.YtdegffffcbhjbaaGreatDoor
end
section
namespace Go.Proofs.YtdegffffcbhjbaaGreatDoor
open Go.RowKit
theorem name_is (s:ByteArray) (b:Bool) (h:nmB s=b) (w:World):Calls Tryz.prog 107 #[.string s] w fun e w'=>e=.returned (.bool b)∧w=w':=by
 rw [←h];exact name_at s w
set_option maxRecDepth 100000 in
set_option maxHeartbeats 4000000 in
theorem right_any (a:Acct) (w:World):Calls Tryz.prog 138 #[aggA a] w fun e w'=>e=.returned (.bool (rightA a))∧Below w.heap.size w w':=by
 have HM0:=Lib.hid (marksFit_any a)
 obtain ⟨m,hm⟩:∃ m,marksA a=m:=⟨_,rfl⟩
 rw [hm] at HM0
 have HM:=Lib.hid hm
 clear hm
 have HB:=Lib.hid ((Below.refl w.heap.size w).alloc (Nat.le_refl _) (.cells #[.string a.code,.int .i64 a.cls,.bool a.cash,.bool a.both,.string a.fixed,.bool a.worn] 99))
 obtain ⟨r,hr⟩:∃ r,rightA a=r:=⟨_,rfl⟩
 rw [hr]
 have HR:=Lib.hid hr
 clear hr
 obtain ⟨co,cl,ca,mu,fi,wo⟩:=a
 simp only at HB HM0 HM HR ⊢
 cases hc:nmB co with
 | false =>
   have HC:=Lib.hid hc
   clear hc
   go_enter Tryz.func138,Tryz.ntmps138
   go_wp2_with (go_at_call 107;refine (name_is co _ HC.out _).mono ?_;rintro e w' ⟨rfl,rfl⟩)
   go_ret
   exact ⟨ret_bool (by rw [←HR.out];simp [rightA,HC.out]),HB.out⟩
 | true =>
   have HC:=Lib.hid hc
   clear hc
   by_cases h0:0≤cl
   ·by_cases h3:cl < 3
    ·go_enter Tryz.func138,Tryz.ntmps138
     go_wp2_with (go_at_call 107;refine (name_is co _ HC.out _).mono ?_;rintro e w' ⟨rfl,rfl⟩)
     refine (HM0.out _).mono ?_
     rintro e w1 ⟨rfl,hb1⟩
     have HB1:=Lib.hid hb1
     clear hb1
     go_wp2
     go_ret
     exact ⟨ret_bool (by rw [←HR.out];simp [rightA,HC.out,h0,h3,HM.out]),HB.out.trans (HB1.out.mono HB.out.size)⟩
    ·go_enter Tryz.func138,Tryz.ntmps138
     go_wp2_with (go_at_call 107;refine (name_is co _ HC.out _).mono ?_;rintro e w' ⟨rfl,rfl⟩)
     go_ret
     exact ⟨ret_bool (by rw [←HR.out];have:¬ cl < 3:=(by omega);simp [rightA,this]),HB.out⟩
   ·go_enter Tryz.func138,Tryz.ntmps138
    go_wp2_with (go_at_call 107;refine (name_is co _ HC.out _).mono ?_;rintro e w' ⟨rfl,rfl⟩)
    go_ret
    exact ⟨ret_bool (by rw [←HR.out];have:¬ 0≤cl:=(by omega);simp [rightA,this]),HB.out⟩
end Go.Proofs.YtdegffffcbhjbaaGreatDoor
end
section
namespace Go.Proofs.YtdegffffcbhjbaaGreatDoor
open Go.RowKit
def AddOwn (w:World) (M:List Acct) (n:Int) (e:Ending) (w':World):Prop:=∃ v,e=.returned (.tuple #[v,.int .i64 n])∧w'.ownsRow w.heap.size 99 6 v M.length (flatA M)∧Below w.heap.size w w'
def InsRow (w:World) (B:Nat) (M:List Acct) (e:Ending) (w':World):Prop:=∃ v,e=.returned v∧w'.ownsRow B 99 6 v M.length (flatA M)∧Below B w w'
theorem insert_row (v:Value) (L:List Acct) (x:Acct) (i vb B:Nat) (w:World) (h:w.ownsRow B 99 6 v L.length (flatA L)) (hB:B≤w.heap.size) (hx:BoxA w vb 99 x) (hne:v.ownBlock≠some vb) (hi:i≤L.length) (hL:L.length≤1000) :
 Calls Tryz.prog 139 #[v,.int .i64 (i:Int),.slice (some ⟨vb,0,none⟩) 1 1] w (InsRow w B (L.take i++x::L.drop i)) :=
 (insert_own v L x i vb B w h hB hx hne hi hL).mono fun _ _ ⟨u,e,ho,hg⟩=>⟨u,e,ho,below_grown (Below.refl B w) hB h hg⟩
abbrev cellsA (a:Acct):Array Value:=#[.string a.code,.int .i64 a.cls,.bool a.cash,.bool a.both,.string a.fixed,.bool a.worn]
theorem below_undrawn {B:Nat} {w w':World} (h:Below B w.drew w'):Below B w w':=⟨h.os,h.tape,h.output,h.size,h.block⟩
theorem ret_pair {v:Value} {a b:Int} (h:a=b):Ending.returned (.tuple #[v,.int .i64 a])=.returned (.tuple #[v,.int .i64 b]):=by rw [h]
theorem ins_late {w5:World} {v:Value} {L:List Acct} {a:Acct} {i B:Nat} (h:w5.ownsRow B 99 6 v L.length (flatA L)) (hB:B≤w5.heap.size) (hi:i≤L.length) (hL:L.length≤1000) :
 Calls Tryz.prog 139 #[v,.int .i64 (i:Int),.slice (some ⟨w5.heap.size,0,none⟩) 1 1] (w5.alloc (.cells (cellsA a) 99)) (InsRow (w5.alloc (.cells (cellsA a) 99)) B (L.take i++a::L.drop i)) :=
 insert_row v L a i w5.heap.size B _ (h.alloc _) (by simp;omega) (BoxA.new w5 a _) (fun e=>by have:=(h.lt _ e).2;omega) hi hL
theorem ins_early {W w6:World} {v:Value} {L:List Acct} {a:Acct} {i B:Nat} (h:W.ownsRow B 99 6 v L.length (flatA L)) (hB:B≤W.heap.size) (hb:Below (W.alloc (.cells (cellsA a) 99)).drew.heap.size (W.alloc (.cells (cellsA a) 99)).drew w6) (hi:i≤L.length) (hL:L.length≤1000) :
 Calls Tryz.prog 139 #[v,.int .i64 (i:Int),.slice (some ⟨W.heap.size,0,none⟩) 1 1] w6 (InsRow w6 B (L.take i++a::L.drop i)):=by
 have h1:(W.alloc (.cells (cellsA a) 99)).drew.ownsRow B 99 6 v L.length (flatA L):=h.alloc _
 have h2:=row_below h1 hb
 have hs:=hb.size
 have hz:(W.alloc (.cells (cellsA a) 99)).drew.heap.size=W.heap.size+1:=by show (W.alloc _).heap.size=_;simp
 exact insert_row v L a i W.heap.size B w6 h2 (by omega) (BoxA.keep (w:=(W.alloc (.cells (cellsA a) 99)).drew) (BoxA.new W a _) hb (by omega)) (fun e=>by have:=(h.lt _ e).2;omega) hi hL
set_option maxRecDepth 100000 in
set_option maxHeartbeats 8000000 in
theorem add_own (v:Value) (L:List Acct) (a:Acct) (w:World) (h:ChartV w v L) (hL:L.length≤1000) :
 Calls Tryz.prog 103 #[v,aggF a] w (AddOwn w (addV L a) (addE L a)):=by
 obtain ⟨E,hE⟩:∃ E,addE L a=E:=⟨_,rfl⟩
 obtain ⟨M,hM⟩:∃ M,addV L a=M:=⟨_,rfl⟩
 rw [hE,hM]
 have HE:=Lib.hid hE
 have HMV:=Lib.hid hM
 clear hE hM
 have HB0:=Lib.hid ((Below.refl w.heap.size w).alloc (Nat.le_refl _) (.cells (cellsA a) 99))
 have HX0:=Lib.hid (BoxA.new w a 99)
 have HV0:=Lib.hid (h.keep HB0.out)
 have HV:=Lib.hid h
 obtain ⟨p,c,rfl,hcap,hm,hpn,hc⟩:=h
 obtain ⟨n,hn⟩:∃ n,L.length=n:=⟨_,rfl⟩
 rw [hn] at hcap HV HV0 hL ⊢
 have HN:=Lib.hid hn
 unfold maxLen at hm
 clear hc hpn hn
 obtain ⟨r,hr⟩:∃ r,rightA a=r:=⟨_,rfl⟩
 have HR:=Lib.hid (right_any a)
 rw [hr] at HR
 have HRV:=Lib.hid hr
 clear hr
 go_enter Tryz.func103,Tryz.ntmps103
 go_wp2_with fail
 refine (clone_any _ L _ HV0.out (by rw [HN.out];exact hL)).mono ?_
 rintro e w1 ⟨v1,rfl,hown,hb1⟩
 rw [World.size_alloc] at hown
 have HO1:=Lib.hid hown
 have HX1:=Lib.hid (HX0.out.keep hb1 (by simp))
 have HV1:=Lib.hid (HV0.out.keep hb1)
 have HB1:=Lib.hid (HB0.out.trans (hb1.mono HB0.out.size))
 have HS1:Hid (w.heap.size < w1.heap.size):=Lib.hid (by have:=hb1.size;simp at this;omega)
 clear hown hb1
 obtain ⟨c0,c1,c2,c3,c4,c5⟩:=HX1.out.facts
 go_wp2_with fail
 clear c0 c1 c2 c3 c4 c5
 refine (HR.out _).mono ?_
 rintro e w2 ⟨rfl,hb2⟩
 have HO2:=Lib.hid (row_below HO1.out hb2)
 have HX2:=Lib.hid (HX1.out.keep hb2 HS1.out)
 have HV2:=Lib.hid (HV1.out.keep hb2)
 have HB2:=Lib.hid (HB1.out.trans (hb2.mono HB1.out.size))
 have HS2:Hid (w.heap.size < w2.heap.size):=Lib.hid (Nat.lt_of_lt_of_le HS1.out hb2.size)
 clear hb2
 cases r with
 | false =>
   have hE1:Hid (E=1):=Lib.hid (by rw [←HE.out];unfold addE;rw [HRV.out];rfl)
   have hM1:Hid (World.ownsRow w2 w.heap.size 99 6 v1 M.length (flatA M)):=Lib.hid (by
    rw [←HMV.out];unfold addV;rw [HE.out,hE1.out]
    exact row_base HO2.out (Nat.le_succ _))
   go_wp2
   go_ret2
   exact ⟨v1,ret_pair hE1.out.symm,hM1.out,HB2.out⟩
 | true =>
   obtain ⟨c0,c1,c2,c3,c4,c5⟩:=HX2.out.facts
   go_wp2_with fail
   clear c0 c1 c2 c3 c4 c5
   refine (find_any _ L a.code _ HV2.out).mono ?_
   rintro e w3 ⟨rfl,hb3⟩
   obtain ⟨f,hf⟩:∃ f,findV (findL L a.code)=f:=⟨_,rfl⟩
   obtain ⟨b,hb⟩:∃ b,(findL L a.code).isSome=b:=⟨_,rfl⟩
   rw [hf,hb]
   have HFB:=Lib.hid hb
   have hb4:=hb3.alloc hb3.size (.cells (cellsA f) 99)
   have HO4:=Lib.hid (row_below HO2.out hb4)
   have HX4:=Lib.hid (HX2.out.keep hb4 HS2.out)
   have HV4:=Lib.hid (HV2.out.keep hb4)
   have HB4:=Lib.hid (HB2.out.trans (hb4.mono HB2.out.size))
   have HS4:Hid (w.heap.size < (w3.alloc (.cells (cellsA f) 99)).heap.size):=Lib.hid (Nat.lt_of_lt_of_le HS2.out hb4.size)
   clear hb3 hb4 hf hb
   cases b with
   | true =>
     have hE1:Hid (E=7):=Lib.hid (by rw [←HE.out];unfold addE;rw [HRV.out,HFB.out];rfl)
     have hM1:Hid (World.ownsRow (w3.alloc (.cells (cellsA f) 99)) w.heap.size 99 6 v1 M.length (flatA M)):=Lib.hid (by
      rw [←HMV.out];unfold addV;rw [HE.out,hE1.out]
      exact row_base HO4.out (Nat.le_succ _))
     go_wp2
     go_ret2
     exact ⟨v1,ret_pair hE1.out.symm,hM1.out,HB4.out⟩
   | false =>
     by_cases h60:60≤n
     ·have hE1:Hid (E=4):=Lib.hid (by rw [←HE.out];unfold addE;rw [HRV.out,HFB.out,if_neg (by simp),if_neg (by simp),if_pos (by rw [HN.out];exact h60)])
      have hM1:Hid (World.ownsRow (w3.alloc (.cells (cellsA f) 99)) w.heap.size 99 6 v1 M.length (flatA M)):=Lib.hid (by
       rw [←HMV.out];unfold addV;rw [HE.out,hE1.out]
       exact row_base HO4.out (Nat.le_succ _))
      go_wp2
      go_ret2
      exact ⟨v1,ret_pair hE1.out.symm,hM1.out,HB4.out⟩
     ·have hE1:Hid (E=0):=Lib.hid (by rw [←HE.out];unfold addE;rw [HRV.out,HFB.out,if_neg (by simp),if_neg (by simp),if_neg (by rw [HN.out];exact h60)])
      have hM1:Hid (L.take (belowL L a.code)++a::L.drop (belowL L a.code)=M):=Lib.hid (by
       rw [←HMV.out];unfold addV;rw [HE.out,hE1.out,if_pos rfl,insL_eq])
      have hbl:=belowL_le L a.code
      rw [HN.out] at hbl
      obtain ⟨k,hk⟩:∃ k,belowL L a.code=k:=⟨_,rfl⟩
      rw [hk] at hM1 hbl
      have HK:=Lib.hid hk
      clear hk
      have HBE:=Lib.hid (fun W (hW:ChartV W (.slice p n c) L)=>below_any (.slice p n c) L a.code W hW)
      rw [HK.out] at HBE
      have hS4:=HS4.out
      obtain ⟨Wr,hWr⟩:∃ Wr,w3.alloc (.cells (cellsA f) 99)=Wr:=⟨_,rfl⟩
      rw [hWr] at HO4 HX4 HV4 HB4 hS4
      clear HO1 HX1 HV1 HB1 HS1 HO2 HX2 HV2 HB2 HS2 HX0 HV0 HB0 HV HS4 HR
      go_wp2_with fail
      have HWR:=Lib.hid hWr
      clear hWr
      have bx:=Below.refl Wr.heap.size Wr
      have HXa:=Lib.hid (HX4.out.keep (bx.alloc (Nat.le_refl _) (.cells (cellsA a) 99)) hS4)
      have HVa:=Lib.hid (HV4.out.keep (bx.alloc (Nat.le_refl _) (.cells (cellsA a) 99)))
      obtain ⟨j0,j1,j2,j3,j4,j5⟩:=(show BoxA Wr.drew w.heap.size 99 a from HX4.out).facts
      obtain ⟨o0,o1,o2,o3,o4,o5⟩:=HX4.out.facts
      obtain ⟨n0,n1,n2,n3,n4,n5⟩:=(show BoxA (Wr.alloc (.cells (cellsA a) 99)).drew w.heap.size 99 a from HXa.out).facts
      have HVd:=Lib.hid (HV4.out.keep (w':=Wr.drew) ⟨rfl,rfl,rfl,Nat.le_refl _,fun _ _=>rfl⟩)
      have HVe:=Lib.hid (HVa.out.keep (w':=(Wr.alloc (.cells (cellsA a) 99)).drew) ⟨rfl,rfl,rfl,Nat.le_refl _,fun _ _=>rfl⟩)
      clear bx
      go_region_held3 (fun w'=>w'.cell? ⟨w.heap.size,0,none⟩=some (.string a.code)∧w'.cell? ⟨w.heap.size,1,none⟩=some (.int .i64 a.cls)∧w'.cell? ⟨w.heap.size,2,none⟩=some (.bool a.cash)∧w'.cell? ⟨w.heap.size,3,none⟩=some (.bool a.both)∧w'.cell? ⟨w.heap.size,4,none⟩=some (.string a.fixed)∧w'.cell? ⟨w.heap.size,5,none⟩=some (.bool a.worn))
       (first | (with_reducible exact ⟨o0,o1,o2,o3,o4,o5⟩) | (with_reducible exact ⟨j0,j1,j2,j3,j4,j5⟩) | (with_reducible exact ⟨n0,n1,n2,n3,n4,n5⟩) | (with_reducible exact ⟨m0,m1,m2,m3,m4,m5⟩) | (with_reducible exact ⟨p0,p1,p2,p3,p4,p5⟩) | (with_reducible exact ⟨s0,s1,s2,s3,s4,s5⟩) | fail)
       (first
        | (go_at_call 140;refine (HBE.out Wr.drew HVd.out).mono ?_;rintro e w5 ⟨rfl,hb5⟩;have HX5:=Lib.hid (BoxA.keep (w:=Wr.drew) HX4.out hb5 hS4);have HO5:=Lib.hid (row_below (X:=Wr.drew) HO4.out hb5);obtain ⟨m0,m1,m2,m3,m4,m5⟩:=HX5.out.facts;have hS5:w.heap.size < w5.heap.size:=Nat.lt_of_lt_of_le hS4 hb5.size;obtain ⟨p0,p1,p2,p3,p4,p5⟩:=(HX5.out.keep ((Below.refl w5.heap.size w5).alloc (Nat.le_refl _) (.cells (cellsA a) 99)) hS5).facts)
        | (go_at_call 140;refine (HBE.out (Wr.alloc (.cells (cellsA a) 99)).drew HVe.out).mono ?_;rintro e w6 ⟨rfl,hb6⟩;have HX6:=Lib.hid (BoxA.keep (w:=(Wr.alloc (.cells (cellsA a) 99)).drew) HXa.out hb6 (by show _ < (Wr.alloc _).heap.size;simp;omega));obtain ⟨m0,m1,m2,m3,m4,m5⟩:=HX6.out.facts)
        | (go_at_call 139;refine (ins_late (a:=a) HO5.out (by omega) (by rw [HN.out];exact hbl) (by rw [HN.out];exact hL)).mono ?_;rintro e w9 ⟨v9,rfl,hc9,hb9⟩;have HC9:=Lib.hid hc9;have HB9:=Lib.hid hb9;obtain ⟨s0,s1,s2,s3,s4,s5⟩:=((HX5.out.keep ((Below.refl w5.heap.size w5).alloc (Nat.le_refl _) (.cells (cellsA a) 99)) hS5).keep hb9 (Nat.lt_succ_self _)).facts)
        | (go_at_call 139;refine (ins_early (a:=a) HO4.out (by omega) hb6 (by rw [HN.out];exact hbl) (by rw [HN.out];exact hL)).mono ?_;rintro e w9 ⟨v9,rfl,hc9,hb9⟩;have HC9:=Lib.hid hc9;have HB9:=Lib.hid hb9;obtain ⟨s0,s1,s2,s3,s4,s5⟩:=(HX6.out.keep hb9 (Nat.lt_succ_self _)).facts)
        | fail)
      all_goals
       go_wp2
       go_ret2
       have HCM:Hid (w9.ownsRow w.heap.size 99 6 v9 M.length (flatA M)):=Lib.hid (by rw [←hM1.out];exact row_base HC9.out (Nat.le_succ _))
       first
        | exact ⟨v9,ret_pair hE1.out.symm,HCM.out,((HB4.out.trans ((below_undrawn hb5).mono HB4.out.size)).alloc (Nat.le_of_lt hS5) _).trans (HB9.out.mono (Nat.le_succ _))⟩
        | exact ⟨v9,ret_pair hE1.out.symm,HCM.out,((HB4.out.alloc (Nat.le_of_lt hS4) _).trans ((below_undrawn hb6).mono (by show _≤(Wr.alloc _).heap.size;simp;omega))).trans (HB9.out.mono (Nat.le_succ _))⟩
end Go.Proofs.YtdegffffcbhjbaaGreatDoor
end
section
namespace Go.Proofs.YtdegffffcbhjbaaGreatDoor.Fl
open Go.RowKit
theorem gen_info:(Tryz.prog.info? 143).map (fun i=>(i.zero,i.size,i.bytes))=some (some (.agg #[.string ⟨#[]⟩,.int .i64 0]),2,24):=by kernel_rfl
theorem gen_length (L:List Flow):(flat encF L).length=L.length * 2:=flat_length L
theorem gen_take (L:List Flow) (k:Nat):flat encF (L.take k)=(flat encF L).take (k * 2):=flat_take L k
theorem gen_drop (L:List Flow) (k:Nat):flat encF (L.drop k)=(flat encF L).drop (k * 2):=flat_drop L k
def RowTold (w:World) (L:List Flow) (e:Ending) (w':World):Prop:=∃ v,e=.returned v∧w'.ownsRow w.heap.size 143 2 v L.length (flat encF L)∧Below w.heap.size w w'
set_option maxRecDepth 100000 in
set_option maxHeartbeats 2000000 in
theorem clone_any (v:Value) (L:List Flow) (w:World) (h:ElsV encF w v L) (hL:L.length≤1000) :
 Calls Tryz.prog 143 #[v] w (RowTold w L):=by
 have HV:=Lib.hid h
 obtain ⟨p,c,rfl,hcap,hm,hp,hc⟩:=h
 have hq:∀ (w:World) (a:Option Addr) (n c n' c':Nat),(binOp .eql 26 (.slice a n c) (.slice none n' c')).run Tryz.prog w=.ok (.bool a.isNone) w:=fun w a n c n' c'=>Lib.run_eql_slice_nil w _ _ a n c n' c' Tryz.underlying26
 obtain ⟨i0,hi,hz0,hz1,hz2⟩:=info_parts gen_info
 have HI:=Lib.hid (And.intro hi (And.intro hz0 (And.intro hz1 hz2)))
 clear hi hz0 hz1 hz2 hc
 unfold maxLen at hm
 cases p with
 | none =>
   have h0:=hp rfl
   have:L=[]:=List.eq_nil_of_length_eq_zero (by omega)
   subst this
   clear HV hp
   go_enter Tryz.func143,Tryz.ntmps143
   go_wp2
   go_ret
   exact ⟨_,rfl,World.ownsRow_nil _ _ _ _,Below.refl _ _⟩
 | some ad =>
   have HC:Hid (∀ (j:Nat) u,(flat encF L)[j]?=some u→w.cell? (ad.add j)=some u):=Lib.hid (fun j u hj=>by
    by_cases hne:L=[]
    ·subst hne;simp [flat] at hj
    ·obtain ⟨b,o,e,_,hcell⟩:=HV.out.cells hne
     cases e
     rw [add_off];exact hcell j u hj)
   obtain ⟨n,hn⟩:∃ n,L.length=n:=⟨_,rfl⟩
   have HN:=Lib.hid hn
   rw [hn] at hcap hL ⊢
   clear hn hp HV
   go_enter Tryz.func143,Tryz.ntmps143
   go_wp2_with (at_builtin;refine wpList_append_own _ rfl _ _ 26 rfl w.heap.size 143 i0 (.agg #[.string ⟨#[]⟩,.int .i64 0]) 2 24 Tryz.underlying26 HI.out.1 HI.out.2.1 HI.out.2.2.1 HI.out.2.2.2 rfl (by decide) _ _ _ rfl (World.ownsRow_made w #[] 0 (Nat.le_refl _) (Nat.zero_le _) (by simp)) ad n c (flat encF L) rfl ?qc1 ?qc2 ?qc3 ?qc4 ?qc5 ?qc6 ?_)
   case qc1=>rw [gen_length,HN.out]
   case qc2=>exact fun j u hj=>Lib.cell?_alloc_some _ (HC.out j u hj)
   case qc3=>exact flat_ones L
   case qc4=>rw [Nat.zero_add];unfold maxLen;omega
   case qc5=>rw [Nat.zero_add];omega
   case qc6=>simp
   intro v' w1 hown hgrow hnil
   have HOW:Hid (w1.ownsRow w.heap.size 143 2 v' L.length (flat encF L)):=Lib.hid (by rw [HN.out];simpa using hown)
   have HBL:=Lib.hid (((Below.refl _ w).alloc (Nat.le_refl _) (.cells #[] 143)).grown hgrow (by simp) (by intro k hk;simp [Value.ownBlock] at hk;omega))
   clear hown hgrow hnil
   go_wp2
   go_ret
   exact ⟨v',rfl,HOW.out,HBL.out⟩
end Go.Proofs.YtdegffffcbhjbaaGreatDoor.Fl
end
