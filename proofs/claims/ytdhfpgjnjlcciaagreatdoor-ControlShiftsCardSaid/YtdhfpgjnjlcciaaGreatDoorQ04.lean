/- EntSearch EntClone CopyK EntInsert EntPut UnitOrdN LinSearch LinClone -/
import Derived.Laws.CopyOwn
import Derived.Laws.Externs
import Derived.Laws.NewBlocks
import Derived.Laws.Slices
import Derived.Lib.AppendZerosOnto
import Derived.Lib.Overlaps
import Derived.Lib.SliceRun
import Derived.Maps.AppendAt
import Derived.Maps.Range
import Derived.StillTailTactics
import Derived.Test.YtdhfpgjnjlcciaaGreatDoorQ03
section
namespace Go.Proofs.YtdhfpgjnjlcciaaGreatDoor.Un.En
open Go.RowKit
structure kO (w wr:World) (L:List Ent) (c:Ent) (lo hi:Nat):Prop where
 le:lo≤hi
 top:hi≤L.length
 bel:Below (w.heap.size+1) (w.alloc (.cells (encE.cs c).toArray 219)) wr
 low:∀ (t:Nat) (x:Ent),t < lo→L[t]?=some x→G.KeyO.lt (Ent.code x) (Ent.code c)=true
 high:∀ (t:Nat) (x:Ent),hi≤t→L[t]?=some x→G.KeyO.lt (Ent.code x) (Ent.code c)=false
set_option maxRecDepth 100000 in
set_option maxHeartbeats 8000000 in
theorem xy (v:Value) (L:List Ent) (c:Ent) (w:World) (h:ElsV encE w v L) (hr:G.riseK Ent.code L=true) (hL:L.length≤1000) :
 Calls Tryz.prog 176 #[v,aggE c,.func (.func 130) #[] #[]] w fun e w'=>e=.returned (.tuple #[.int .i64 (G.placeK Ent.code L (Ent.code c):Nat),.bool (G.isK Ent.code L (Ent.code c))])∧Below w.heap.size w w':=by
 have HB0:=Lib.hid ((Below.refl w.heap.size w).alloc (Nat.le_refl _) (.cells (encE.cs c).toArray 219))
 have HX0:=Lib.hid (BoxE.new encE w c 219)
 have hV:=h.keep HB0.out
 obtain ⟨p,cap,rfl,hcap,hm,_,hc⟩:=hV
 obtain ⟨n,hn⟩:∃ n,L.length=n:=⟨_,rfl⟩
 obtain ⟨pl,hpl⟩:∃ pl,G.placeK Ent.code L (Ent.code c)=pl:=⟨_,rfl⟩
 obtain ⟨is,his⟩:∃ is,G.isK Ent.code L (Ent.code c)=is:=⟨_,rfl⟩
 rw [hn] at hcap hL ⊢
 rw [hpl,his]
 have HC:=Lib.hid hc
 have HN:=Lib.hid hn
 have HPL:=Lib.hid hpl
 have HIS:=Lib.hid his
 have HRI:=Lib.hid hr
 unfold maxLen at hm
 have HAT:Hid (∀ (wr:World),Below (w.heap.size+1) (w.alloc (.cells (encE.cs c).toArray 219)) wr→∀ (i:Nat) (x:Ent),L[i]?=some x→∃ b o,p=some ⟨b,o,none⟩∧ElAt encE wr b (o+i * encE.k) x∧ElAt encE wr w.heap.size 0 c):=Lib.hid (fun wr hb i x hx=>by
  obtain ⟨b,o,e,hat⟩:=HC.out i x hx
  have hlt:=hat.lt
  rw [World.size_alloc] at hlt
  exact ⟨b,o,e,hat.keep hb hlt,HX0.out.at0.keep hb (Nat.lt_succ_self _)⟩)
 have HBE:Hid (∀ (wr:World),Below (w.heap.size+1) (w.alloc (.cells (encE.cs c).toArray 219)) wr→Below w.heap.size w wr):=Lib.hid (fun wr hb=>HB0.out.trans (hb.mono (Nat.le_succ _)))
 clear hc hn hpl his hr h
 go_enter Tryz.func176,Tryz.ntmps176
 go_wp2
 go_loopg [9,10] n (fun kx s9 s10 wr=>∃ lo hi:Nat,s9=.int .i64 (lo:Int)∧s10=.int .i64 (hi:Int)∧hi - lo≤kx∧lo≤hi∧hi≤n∧Hid (kO w wr L c lo hi))
 case atStart=>exact ⟨0,n,rfl,rfl,by omega,Nat.zero_le _,Nat.le_refl _,Lib.hid ⟨Nat.zero_le _,by rw [HN.out];exact Nat.le_refl _,Below.refl _ _,fun t x ht=>absurd ht (Nat.not_lt_zero _),fun t x ht hx=>by
  have:=(List.getElem?_eq_some_iff.1 hx).1
  rw [HN.out] at this;omega⟩⟩
 case round =>
  obtain ⟨lo,hi,rfl,rfl,hkx,hlh,hin,HA⟩:=hrel
  have HSZ:Hid (w.heap.size+1≤wr.heap.size):=Lib.hid (by have:=HA.out.bel.size;rwa [World.size_alloc] at this)
  by_cases hlt:lo < hi
  ·have hmid:(lo+hi) / 2 < n:=by omega
   obtain ⟨x,hx⟩:∃ x,L[(lo+hi) / 2]?=some x:=⟨_,List.getElem?_eq_getElem (by rw [HN.out];exact hmid)⟩
   obtain ⟨b,o,rfl,hat,hct⟩:=HAT.out _ HA.out.bel _ x hx
   obtain ⟨r0,r1⟩:=ent2 hat
   obtain ⟨s0,s1⟩:=ent2 hct
   have q0:=fun p:Past wr=>za r0 p
   have u0:=fun p:Past wr=>za s0 p
   have q1:=fun p:Past wr=>za r1 p
   have u1:=fun p:Past wr=>za s1 p
   clear r0 s0 r1 s1
   have HX:=Lib.hid hx
   clear hx hat hct
   have HAG:=Lib.hid (fun W=>VV x c W)
   obtain ⟨m,hmm⟩:∃ m,cmpE x c=m:=⟨_,rfl⟩
   have HM:=Lib.hid (zh0 x c)
   rw [hmm] at HM
   simp only [hmm] at HAG
   clear hmm
   have hwm:IntKind.i64.wrap ((lo:Int)+(hi:Int))=(lo:Int)+(hi:Int):=by rw [IntKind.wrap_i64];omega
   by_cases hm0:m < 0
   ·have HLT:Hid (G.KeyO.lt (Ent.code x) (Ent.code c)=true):=Lib.hid (by rw [←HM.out];exact decide_eq_true hm0)
    go_wp2_with fail
    refine zS (by kernel_rfl) (by kernel_rfl) ?_
    repeat (go_big_quiet_step ((go_at_call 130;exact Calls.qi (HAG.out _))))
    refine wpQuiet_nil ?_
    intro _ hw'
    obtain ⟨⟨w3,hb3⟩,rfl⟩:=hw'
    clear q0 u0 q1 u1
    go_wp2
    go_roundg (hi - ((lo+hi) / 2+1))
    case measure=>omega
    case rel=>exact ⟨(lo+hi) / 2+1,hi,by rw [show ((lo:Int)+(hi:Int)) / 2+1=(((lo+hi) / 2+1:Nat):Int) by omega],rfl,Nat.le_refl _,by omega,hin,Lib.hid ⟨by omega,HA.out.top,HA.out.bel.trans (hb3.mono HSZ.out),fun t y ht hy=>by
     rcases Nat.lt_or_ge t ((lo+hi) / 2) with h | h
     ·exact G.KeyO.trans (G.qF HRI.out h hy HX.out) HLT.out
     ·obtain rfl:t=(lo+hi) / 2:=by omega
      rw [HX.out] at hy;cases hy;exact HLT.out,HA.out.high⟩⟩
   ·have HLT:Hid (G.KeyO.lt (Ent.code x) (Ent.code c)=false):=Lib.hid (by rw [←HM.out];exact decide_eq_false hm0)
    go_wp2_with fail
    refine zS (by kernel_rfl) (by kernel_rfl) ?_
    repeat (go_big_quiet_step ((go_at_call 130;exact Calls.qi (HAG.out _))))
    refine wpQuiet_nil ?_
    intro _ hw'
    obtain ⟨⟨w3,hb3⟩,rfl⟩:=hw'
    clear q0 u0 q1 u1
    go_wp2
    go_roundg ((lo+hi) / 2 - lo)
    case measure=>omega
    case rel=>exact ⟨lo,(lo+hi) / 2,rfl,by rw [show ((lo:Int)+(hi:Int)) / 2=(((lo+hi) / 2:Nat):Int) by omega],Nat.le_refl _,by omega,by omega,Lib.hid ⟨by omega,by have:=HA.out.top;omega,HA.out.bel.trans (hb3.mono HSZ.out),HA.out.low,fun t y ht hy=>by
     rcases Nat.lt_or_ge ((lo+hi) / 2) t with h | h
     ·cases hy':G.KeyO.lt (Ent.code y) (Ent.code c) with
      | false=>rfl
      | true=>rw [G.KeyO.trans (G.qF HRI.out h HX.out hy) hy'] at HLT;cases HLT.out
     ·obtain rfl:t=(lo+hi) / 2:=by omega
      rw [HX.out] at hy;cases hy;exact HLT.out⟩⟩
  ·obtain rfl:hi=lo:=by omega
   have hpl:Hid (pl=hi):=Lib.hid (by
    rw [←HPL.out]
    exact G.x6 HA.out.top HA.out.low (fun y hy=>HA.out.high hi y (Nat.le_refl _) hy))
   by_cases hn:hi < n
   ·obtain ⟨x,hx⟩:∃ x,L[hi]?=some x:=⟨_,List.getElem?_eq_getElem (by rw [HN.out];exact hn)⟩
    obtain ⟨b,o,rfl,hat,hct⟩:=HAT.out _ HA.out.bel _ x hx
    obtain ⟨r0,r1⟩:=ent2 hat
    obtain ⟨s0,s1⟩:=ent2 hct
    have q0:=fun p:Past wr=>za r0 p
    have u0:=fun p:Past wr=>za s0 p
    have q1:=fun p:Past wr=>za r1 p
    have u1:=fun p:Past wr=>za s1 p
    clear r0 s0 r1 s1
    have HX:=Lib.hid hx
    clear hx hat hct
    have HAG:=Lib.hid (fun W=>VV x c W)
    obtain ⟨m,hmm⟩:∃ m,cmpE x c=m:=⟨_,rfl⟩
    have HM:=Lib.hid (zbd x c)
    rw [hmm] at HM
    simp only [hmm] at HAG
    clear hmm
    have HI2:Hid (is=(m==0)):=Lib.hid (by
     rw [←HIS.out,HM.out]
     unfold G.isK
     rw [HPL.out,hpl.out,HX.out])
    go_wp2_with fail
    refine zS (by kernel_rfl) (by kernel_rfl) ?_
    repeat (go_big_quiet_step ((go_at_call 130;exact Calls.qi (HAG.out _))))
    refine wpQuiet_nil ?_
    intro _ hw'
    obtain ⟨⟨w3,hb3⟩,rfl⟩:=hw'
    clear q0 u0 q1 u1
    go_wp2
    go_ret2
    exact ⟨by rw [hpl.out,HI2.out];rfl,HBE.out _ (HA.out.bel.trans (hb3.mono HSZ.out))⟩
   ·have HI2:Hid (is=false):=Lib.hid (by
     rw [←HIS.out]
     unfold G.isK
     rw [HPL.out,hpl.out,List.getElem?_eq_none (by rw [HN.out];omega)])
    have hd:decide (hi < n)=false:=decide_eq_false hn
    go_wp2_with fail
    refine zS (by kernel_rfl) (by kernel_rfl) ?_
    repeat (go_big_quiet_step (fail))
    refine wpQuiet_nil ?_
    intro _ hw'
    obtain ⟨⟨w3,hb3⟩,rfl⟩:=hw'
    go_wp2
    go_ret2
    exact ⟨by rw [hpl.out,HI2.out];rfl,HBE.out _ (HA.out.bel.trans (hb3.mono HSZ.out))⟩
end Go.Proofs.YtdhfpgjnjlcciaaGreatDoor.Un.En
end
section
namespace Go.Proofs.YtdhfpgjnjlcciaaGreatDoor.Un.En
open Go.RowKit
theorem qZ:(Tryz.prog.info? 219).map (fun i=>(i.zero,i.size,i.bytes))=some (some (.agg #[.string ⟨#[]⟩,.string ⟨#[]⟩]),2,32):=by kernel_rfl
theorem qd (L:List Ent):(flat encE L).length=L.length * 2:=qv L
theorem kJ (L:List Ent) (k:Nat):flat encE (L.take k)=(flat encE L).take (k * 2):=xO L k
theorem kf (L:List Ent) (k:Nat):flat encE (L.drop k)=(flat encE L).drop (k * 2):=Zt L k
def yM (w:World) (L:List Ent) (e:Ending) (w':World):Prop:=∃ v,e=.returned v∧w'.ownsRow w.heap.size 219 2 v L.length (flat encE L)∧Below w.heap.size w w'
end Go.Proofs.YtdhfpgjnjlcciaaGreatDoor.Un.En
end
section
namespace Go.Proofs.YtdhfpgjnjlcciaaGreatDoor
open Go.RowKit
section
variable {P:Program}
theorem VJ (w:World) (dT sT ty elem:TypeId) (g o dLen dCap:Nat) (a:Addr) (sLen sCap:Nat) (cur:Array Value) (t:TypeId) (cs:List Value) (k:Nat)
 (hu:P.underlying dT=some (.slice elem)) (hs:(P.info? elem).map (·.size)=some k)
 (hg:w.heap[g]?=some (.cells cur t (0,0))) (hn:cs.length=Nat.min sLen dLen * k)
 (hsrc:∀ j v,cs[j]?=some v→w.cell? (a.add j)=some v) (hfit:o+cs.length≤cur.size) (h1:∀ v∈cs,v.oneCell'=true) :
 (Builtin.copy_ #[dT,sT] ty #[.slice (some ⟨g,o,none⟩) dLen dCap,.slice (some a) sLen sCap]).run P w =
  .ok (goInt (Nat.min sLen dLen)) (w.setRow g (cur.toList.take o++cs++cur.toList.drop (o+cs.length)).toArray):=by
 have hl:=run_loadCells_list (P:=P) w a cs hsrc
 have hst:=run_storeCells_at P g o t cs 0 cur w hg (by simpa using hfit) h1
 cases hq:P.info? elem with
 | none=>simp [hq] at hs
 | some i =>
   have hi:i.size=k:=by simpa [hq] using hs
   simp [Builtin.copy_,run_underlying hu,Builtin.lenOf,Builtin.firstCells,sizeOf,typeInfo,hq,hi,←hn,hl,hst]
theorem XN (w:World) (g:Nat) (cs:Array Value):w.grownBy (w.setRow g cs) (some g) :=
 ⟨rfl,rfl,rfl,by simp [World.setRow],fun k _ hk=>setRow_other w g k cs (fun e=>hk (by rw [e]))⟩
theorem jV {w:World} {ops:Array Oper} {rest:List Oper} {o:Oper} {a:Act} {Q:Exit→Act→World→Prop} (hgd:o.guard=none) (d s:Operand) (dT sT:TypeId)
 (ho:o.op=.call { callee:=.builtin .copy,args:=#[d,s],argTypes:=#[dT,sT] }) (elem:TypeId) (hu:P.underlying dT=some (.slice elem)) (k:Nat) (hsz:(P.info? elem).map (·.size)=some k)
 (dp sp:Option Addr) (dLen dCap sLen sCap:Nat) (hd:a.eval d=.slice dp dLen dCap) (hs:a.eval s=.slice sp sLen sCap)
 (g off:Nat) (cur:List Value) (t:TypeId) (hg:w.heap[g]?=some (.cells cur.toArray t (0,0))) (cs:List Value) (m:Nat) (hm:Nat.min sLen dLen=m) (hn:cs.length=m * k)
 (hdp:dp=some ⟨g,off,none⟩) (ad:Addr) (hsp:sp=some ad) (hsrc:∀ j v,cs[j]?=some v→w.cell? (ad.add j)=some v)
 (hfit:off+cs.length≤cur.length) (h1:∀ v∈cs,v.oneCell'=true)
 (h:∀ w',Hid (w'.heap[g]?=some (.cells (splice cur off cs).toArray t (0,0)))→w.grownBy w' (some g)→wpList P ops Q rest (a.put o.dst (goInt m)) w') :
 wpList P ops Q (o::rest) a w:=by
 subst hdp hsp hm
 refine wpList_plain hgd fun K hK=>?_
 have hrun:=VJ w dT sT o.type elem g off dLen dCap ad sLen sCap cur.toArray t cs k hu hsz hg hn hsrc (by simpa using hfit) h1
 unfold Oper.wp
 simp only [execOp,ho,resolve,invoke,builtin,Sem.run_bind,Sem.run_pure,Result.andThen_ok,List.map_toArray,List.map_cons,List.map_nil,hd,hs,hrun]
 exact hK _ _ (h _ (show _=_ by simpa [splice] using setRow_heap w g _ _ t _ hg) (XN w g _))
theorem jW {ops:Array Oper} {o:Oper} {a:Act} {w:World} {K:Act→World→Prop} {Q:Exit→Act→World→Prop} {E:Prop} (hgd:o.guard=none) (d s:Operand) (dT sT:TypeId)
 (ho:o.op=.call { callee:=.builtin .copy,args:=#[d,s],argTypes:=#[dT,sT] }) (elem:TypeId) (hu:P.underlying dT=some (.slice elem)) (k:Nat) (hsz:(P.info? elem).map (·.size)=some k)
 (dp sp:Option Addr) (dLen dCap sLen sCap:Nat) (hd:a.eval d=.slice dp dLen dCap) (hs:a.eval s=.slice sp sLen sCap)
 (g off:Nat) (cur:List Value) (t:TypeId) (hg:w.heap[g]?=some (.cells cur.toArray t (0,0))) (cs:List Value) (m:Nat) (hm:Nat.min sLen dLen=m) (hn:cs.length=m * k)
 (hdp:dp=some ⟨g,off,none⟩) (ad:Addr) (hsp:sp=some ad) (hsrc:∀ j v,cs[j]?=some v→w.cell? (ad.add j)=some v)
 (hfit:off+cs.length≤cur.length) (h1:∀ v∈cs,v.oneCell'=true)
 (h:∀ w',Hid (w'.heap[g]?=some (.cells (splice cur off cs).toArray t (0,0)))→w.grownBy w' (some g)→K (a.put o.dst (goInt m)) w') :
 if Region.wanted o (yielded ops a.tmps)=true then Oper.wp P o a w K Q else E:=by
 subst hdp hsp hm
 have hw:Region.wanted o (yielded ops a.tmps)=true:=by simp [Region.wanted,hgd]
 rw [if_pos hw]
 have hrun:=VJ w dT sT o.type elem g off dLen dCap ad sLen sCap cur.toArray t cs k hu hsz hg hn hsrc (by simpa using hfit) h1
 unfold Oper.wp
 simp only [execOp,ho,resolve,invoke,builtin,Sem.run_bind,Sem.run_pure,Result.andThen_ok,List.map_toArray,List.map_cons,List.map_nil,hd,hs,hrun]
 exact h _ (show _=_ by simpa [splice] using setRow_heap w g _ _ t _ hg) (XN w g _)
theorem ZA (w:World) (t tx ty e e':TypeId) (i:TypeInfo) (ht:P.underlying t=some (.slice e)) (hx:P.underlying tx=some (.slice e')) (hi:P.info? e=some i) (base b:Option Addr) (n c m c':Nat) :
 (Builtin.append_ #[t,tx] ty #[.slice base n c,.slice b m c']).run P w=(Builtin.append_ #[t,t] ty #[.slice base n c,.slice b m c']).run P w:=by
 simp [Builtin.append_,run_underlying ht,run_underlying hx,sizeOf,typeInfo,hi]
end
theorem Zy {α:Type} (A X D R:List α) (_h:X.length+D.length≤R.length):splice (splice (A++R) A.length X) (A.length+X.length) D=A++(X++(D++R.drop (X.length+D.length))):=by
 have e1:splice (A++R) A.length X=A++(X++R.drop X.length):=by
  unfold splice
  rw [List.take_left,List.drop_append]
  simp
 rw [e1]
 unfold splice
 rw [←List.append_assoc A X,List.take_append_of_le_length (by simp),List.take_of_length_le (by simp),List.drop_append]
 simp [Nat.add_assoc]
 rw [List.drop_of_length_le (l:=X) (by omega),List.nil_append]
 congr 1
 omega
theorem ZT {α:Type} (A X D R:List α) (h:X.length+D.length≤R.length):splice (splice (A++R) (A.length+X.length) D) A.length X=A++(X++(D++R.drop (X.length+D.length))):=by
 unfold splice
 have e1:(A++R).take (A.length+X.length)=A++R.take X.length:=by rw [List.take_append,List.take_of_length_le (by omega)];simp
 have e2:(A++R).drop (A.length+X.length+D.length)=R.drop (X.length+D.length):=by rw [List.drop_append];simp [Nat.add_assoc]
 have e3:(R.take X.length).length=X.length:=by simp;omega
 rw [e1,e2,List.append_assoc,List.take_left,List.drop_append]
 simp only [Nat.add_sub_cancel_left]
 rw [List.drop_of_length_le (by omega),List.nil_append,List.drop_append,e3,Nat.sub_self,List.drop_of_length_le (by omega)]
 simp
end Go.Proofs.YtdhfpgjnjlcciaaGreatDoor
end
section
namespace Go.Proofs.YtdhfpgjnjlcciaaGreatDoor.Un.En
open Go.RowKit
theorem qY:Tryz.prog.underlying 30=some (.slice (Tryz.prog.elem 30)):=by kernel_rfl
theorem qV (w:World):(sizeOf (Tryz.prog.elem 30)).run Tryz.prog w=.ok 2 w:=by kernel_rfl
theorem zW:(Tryz.prog.info? 219).map (·.size)=some 2:=by kernel_rfl
theorem ym (w:World):(sizeOf 219).run Tryz.prog w=.ok 2 w:=by kernel_rfl
theorem zF (w:World) (g n c k:Nat) (z:Int) (hz:z=(k:Int)) (hk:k≤n) (hc:k < c):(Instr.slice 30 (.slice (some ⟨g,0,none⟩) n c) (some (.int .i64 z)) none none).run Tryz.prog w=.ok (.slice (some ⟨g,k * 2,none⟩) (n - k) (c - k)) w:=by
 subst hz
 rw [run_slice_l w 30 _ n c qY .i64 (k:Int) (by omega) (by omega),qV]
 have:¬ c=k:=by omega
 simp [Result.andThen,sliced,this,zl]
theorem qR (w:World) (g n c k:Nat) (z:Int) (hz:z=(k:Int)) (hk:k≤c):(Instr.slice 30 (.slice (some ⟨g,0,none⟩) n c) none (some (.int .i64 z)) none).run Tryz.prog w=.ok (.slice (some ⟨g,0,none⟩) k c) w:=by
 subst hz
 rw [run_slice_h w 30 _ n c qY .i64 (k:Int) (by omega) (by omega),qV]
 simp [Result.andThen,sliced,Addr.add]
theorem yN (w:World) (vb g off lb cb:Nat) (x:Ent) (cur:Array Value) (hne:vb≠g) (hx:BoxE encE w vb 219 x) (hg:w.heap[g]?=some (.cells cur 219 (0,0))) (h0:cur.size≠0) :
 (callFunc 200 #[.slice (some ⟨vb,0,none⟩) 1 1,.slice (some ⟨g,off,none⟩) lb cb]).run Tryz.prog w=.ok (.value (.bool false)) w:=by
 unfold BoxE encE at hx
 rw [run_callFunc_extern Tryz.func200 (by kernel_rfl) (by kernel_rfl) (by kernel_rfl) (e:=Extern.SlicesOverlaps.overlaps #[30,30] #[4]) (by kernel_rfl),
  Lib.run_overlaps_apart w 30 4 219 Tryz.underlying30 2 ym ⟨vb,0,none⟩ ⟨g,off,none⟩ 1 1 lb cb hne 219 219 2 cur.size (by simp [World.shape?,hx]) (by simp [World.shape?,hg]) h0 (by simp [World.frozen?,hx]) (by simp [World.frozen?,hx])]
 rfl
theorem q9 (L:List Ent) (x:Ent) (i:Nat):flat encE (L.take i++x::L.drop i)=(flat encE L).take (i * 2)++((encE.cs x)++(flat encE L).drop (i * 2)):=by
 rw [qy,ja,kJ,kf]
def InsOwn (w:World) (B:Nat) (v0:Value) (M:List Ent) (e:Ending) (w':World):Prop:=∃ v,e=.returned v∧w'.ownsRow B 219 2 v M.length (flat encE M)∧w.grownBy w' v0.ownBlock
theorem qS (w:World) (q:Nat) (row:Option Nat):w.grownBy (w.drewN q) row:=⟨rfl,rfl,rfl,Nat.le_refl _,fun _ _ _=>rfl⟩
theorem jH {w w':World} (h:Below w.heap.size w w') (row:Option Nat):w.grownBy w' row:=⟨h.os,h.tape,h.output,h.size,fun j hj _=>h.block j hj⟩
set_option maxRecDepth 100000 in
set_option maxHeartbeats 4000000 in
theorem yK (v:Value) (L:List Ent) (x:Ent) (vb B:Nat) (w:World) (h:w.ownsRow B 219 2 v L.length (flat encE L)) (hB:B≤w.heap.size) (hx:BoxE encE w vb 219 x) (hL:L.length≤1000) :
 Calls Tryz.prog 177 #[v,.int .i64 (L.length:Int),.slice (some ⟨vb,0,none⟩) 1 1] w (InsOwn w B v (L.take L.length++x::L.drop L.length)):=by
 have HM:Hid (L.take L.length++x::L.drop L.length=L++[x]):=Lib.hid (by simp)
 rw [HM.out]
 obtain ⟨i0,hi,hz0,hz1,hz2⟩:=info_parts qZ
 have hcx:∀ (j:Nat) u,(encE.cs x)[j]?=some u→w.cell? ((⟨vb,0,none⟩:Addr).add j)=some u:=fun j u hj=>by rw [zl];exact hx.at0 j u hj
 have HOW:=Lib.hid h
 have hv:∃ p c,v=.slice p L.length c∧L.length≤c∧c≤maxLen∧(p=none→c=0)∧(∀ a,p=some a→∃ g,a=⟨g,0,none⟩):=by
  rcases h.2 with ⟨rfl,hn⟩ | ⟨g,cap,cur,rfl,_,_,hnc,hcm,_⟩
  ·exact ⟨none,0,by rw [hn],by omega,by simp,fun _=>rfl,fun a e=>by cases e⟩
  ·exact ⟨_,cap,rfl,hnc,hcm,(fun e=>by cases e),fun a e=>by cases e;exact ⟨g,rfl⟩⟩
 obtain ⟨p,c,rfl,hnc,hcm,hpn,hps⟩:=hv
 obtain ⟨v',w',hr,h2,h3,_⟩:=run_append_own (P:=Tryz.prog) w B 30 30 219 i0 _ 2 32 Tryz.underlying30 hi hz0 hz1 hz2 rfl (by decide) _ _ _ h ⟨vb,0,none⟩ 1 1 (encE.cs x) rfl hcx (encE.one x) (by unfold maxLen;omega) (by omega) hB
 have hra:(Builtin.append_ #[30,30] 30 #[.slice p L.length c,.slice (some ⟨vb,0,none⟩) 1 1]).run Tryz.prog w=.ok v' w':=by
  rw [ZA w _ _ _ _ _ i0 Tryz.underlying30 Tryz.underlying30 hi];exact hr
 have HRA:=Lib.hid hra
 have HCV:Hid (w'.ownsRow B 219 2 v' (L++[x]).length (flat encE (L++[x]))):=Lib.hid (by
  have:w'.ownsRow B 219 2 v' (L++[x]).length (flat encE (L++[x])):=by
   rw [List.length_append,qy,show flat encE [x]=encE.cs x from jY x];exact h2
  exact this)
 have HBL:=Lib.hid h3
 obtain ⟨n,hn⟩:∃ n,L.length=n:=⟨_,rfl⟩
 rw [hn] at HRA hL hnc ⊢
 unfold maxLen at hcm
 clear hr h2 h3 hra h HOW hn hi hz0 hz1 hz2 hcx
 cases p with
 | none =>
   have hc0:=hpn rfl
   obtain rfl:n=0:=by omega
   subst hc0
   go_enter Tryz.func177,Tryz.ntmps177
   go_wp2_with (at_builtin;refine Lib.wpList_append_run _ rfl _ _ _ _ rfl _ _ rfl rfl v' w' HRA.out ?_)
   go_ret
   exact ⟨v',rfl,HCV.out,HBL.out⟩
 | some a =>
   obtain ⟨g,rfl⟩:=hps a rfl
   have hnn:(n:Int)≤(n:Int):=Int.le_refl _
   by_cases hcn:c=n
   ·subst hcn
    go_enter Tryz.func177,Tryz.ntmps177
    go_wp2_with (at_builtin;refine Lib.wpList_append_run _ rfl _ _ _ _ rfl _ _ rfl rfl v' w' HRA.out ?_)
    go_ret
    exact ⟨v',rfl,HCV.out,HBL.out⟩
   ·have e1:=zF (z:=(n:Int)) (g:=g) (n:=n) (c:=c) (k:=n) (hz:=rfl) (hk:=Nat.le_refl _) (hc:=by omega)
    go_enter Tryz.func177,Tryz.ntmps177
    go_wp2_with (at_builtin;refine Lib.wpList_append_run _ rfl _ _ _ _ rfl _ _ rfl rfl v' w' HRA.out ?_)
    go_ret
    exact ⟨v',rfl,HCV.out,HBL.out⟩
set_option maxRecDepth 100000 in
set_option maxHeartbeats 4000000 in
theorem yz (g cap:Nat) (cur:Array Value) (L:List Ent) (x:Ent) (i vb B:Nat) (w:World) (hBg:B≤g) (hg:w.heap[g]?=some (.cells cur 219 (0,0))) (hcap:cap≤maxLen) (hcs:cur.size=cap * 2) (htk:cur.toList.take (L.length * 2)=flat encE L)
 (hx:BoxE encE w vb 219 x) (hne:vb≠g) (hi:i < L.length) (hr:L.length+1≤cap) :
 Calls Tryz.prog 177 #[.slice (some ⟨g,0,none⟩) L.length cap,.int .i64 (i:Int),.slice (some ⟨vb,0,none⟩) 1 1] w (InsOwn w B (.slice (some ⟨g,0,none⟩) L.length cap) (L.take i++x::L.drop i)):=by
 obtain ⟨M,hM⟩:∃ M,L.take i++x::L.drop i=M:=⟨_,rfl⟩
 obtain ⟨n,hn⟩:∃ n,L.length=n:=⟨_,rfl⟩
 have hML:M.length=n+1:=by rw [←hM,←hn];simp;omega
 obtain ⟨A,hA⟩:∃ A,(flat encE L).take (i * 2)=A:=⟨_,rfl⟩
 obtain ⟨D,hD⟩:∃ D,(flat encE L).drop (i * 2)=D:=⟨_,rfl⟩
 have hFM:flat encE M=A++((encE.cs x)++D):=by rw [←hM,q9,hA,hD]
 have hFL:flat encE L=A++D:=by rw [←hA,←hD,List.take_append_drop]
 have hFlen:=qd L
 rw [hn] at hFlen htk hi hr ⊢
 have hAl:A.length=i * 2:=by rw [←hA,List.length_take,hFlen];omega
 have hDl:D.length=(n - i) * 2:=by rw [←hD,List.length_drop,hFlen];omega
 obtain ⟨S,hS⟩:∃ S,cur.toList.drop (n * 2)=S:=⟨_,rfl⟩
 have hcur:cur.toList=A++(D++S):=by rw [←List.take_append_drop (n * 2) cur.toList,htk,hS,hFL,List.append_assoc]
 have hSl:S.length=(cap - n) * 2:=by rw [←hS,List.length_drop,Array.length_toList,hcs];omega
 have hXl:(encE.cs x).length=2:=rfl
 have hg':w.heap[g]?=some (.cells (A++(D++S)).toArray 219 (0,0)):=by rw [←hcur];simpa using hg
 have hDone:∀ v∈D,v.oneCell'=true:=fun v hv=>je L v (by rw [hFL];simp [hv])
 have HG:=Lib.hid hg'
 have HX:=Lib.hid hx
 have HM:=Lib.hid hM
 have HOV:=Lib.hid (fun off lb cb=>yN w vb g off lb cb x cur hne hx hg (by rw [hcs];omega))
 have HSRC:Hid (∀ (w':World),w'.heap[g]?=w.heap[g]?→∀ (j:Nat) v,D[j]?=some v→w'.cell? ((⟨g,i * 2,none⟩:Addr).add j)=some v):=Lib.hid (fun w' hw' j v hj=>by
  rw [zl,cell_of_row _ g (i * 2+j) _ 219 (0,0) (hw'.trans hg')]
  simp only [List.getElem?_toArray]
  rw [←hAl,List.getElem?_append_right (by omega),Nat.add_sub_cancel_left,List.getElem?_append_left (List.getElem?_eq_some_iff.1 hj).1]
  exact hj)
 have HL:=Lib.hid (And.intro hML (And.intro hFM (And.intro hAl (And.intro hDl (And.intro hSl hDone)))))
 rw [hM]
 unfold maxLen at hcap
 have e0:=fun wq=>zF (w:=wq) (z:=(i:Int)) (g:=g) (n:=n) (c:=cap) (k:=i) (hz:=rfl) (hk:=by omega) (hc:=by omega)
 have e1:=fun wq=>qR (w:=wq) (z:=(n:Int)+1) (g:=g) (n:=n) (c:=cap) (k:=n+1) (hz:=by omega) (hk:=by omega)
 have e2:=fun wq=>zF (w:=wq) (z:=(i:Int)+1) (g:=g) (n:=n+1) (c:=cap) (k:=i+1) (hz:=by omega) (hk:=by omega) (hc:=by omega)
 have e3:=fun wq=>zF (w:=wq) (z:=(i:Int)) (g:=g) (n:=n+1) (c:=cap) (k:=i) (hz:=rfl) (hk:=by omega) (hc:=by omega)
 have hz1:¬ ((i:Int)=(n:Int)):=by omega
 have hz2:¬ ((cap:Int) < (n:Int)+1):=by omega
 have hw1:IntKind.i64.wrap ((i:Int)+1)=(i:Int)+1:=by rw [IntKind.wrap_i64];omega
 have hov:=HOV.out
 clear hFlen hcur hS hFL hA hD hn hM hML hFM hAl hDl hSl hXl hg hg' hDone htk hcs hx HOV
 go_enter Tryz.func177,Tryz.ntmps177
 go_wp2_with (simp only [hov])
 go_region_law (refine jW rfl (.tmp 73) (.tmp 76) 30 30 rfl 219 Tryz.underlying30 2 zW (some ⟨g,(i+1) * 2,none⟩) (some ⟨g,i * 2,none⟩) (n+1 - (i+1)) (cap - (i+1)) (n+1 - i) (cap - i) (by simp [Act.eval,Act.put]) (by simp [Act.eval,Act.put]) g ((i+1) * 2) (A++(D++S)) 219 HG.out D (n - i) (by simp only [Nat.min_def];split <;> omega) HL.out.2.2.2.1 rfl ⟨g,i * 2,none⟩ rfl (HSRC.out _ rfl) (by have h:=HL.out;simp only [List.length_append];omega) HL.out.2.2.2.2.2 ?_;intro w1 hg1 hgr1)
 have HG1:=Lib.hid hg1.out
 have HGR1:=Lib.hid hgr1
 have HX1:Hid (BoxE encE w1 vb 219 x):=Lib.hid (by
  have hb:=HX.out
  have hlt:vb < w.heap.size:=(Array.getElem?_eq_some_iff.1 hb).1
  exact (hgr1.block vb hlt (fun e=>hne (Option.some.inj e))).trans hb)
 clear hg1 hgr1
 go_wp2_with (refine jV rfl (.tmp 80) (.tmp 81) 30 30 rfl 219 Tryz.underlying30 2 zW _ _ _ _ _ _ rfl rfl g (i * 2) (splice (A++(D++S)) ((i+1) * 2) D) 219 HG1.out (encE.cs x) 1 (by simp only [Nat.min_def];split <;> omega) rfl rfl ⟨vb,0,none⟩ rfl (fun j u hj=>by rw [zl];exact HX1.out.at0 j u hj) (by have h:=HL.out;rw [length_splice _ _ _ (by simp only [List.length_append];omega)];simp only [List.length_append];show _+2≤_;omega) (encE.one x) ?_;intro w2 hg2 hgr2)
 have HF:Hid (w2.ownsRow B 219 2 (.slice (some ⟨g,0,none⟩) (n+1) cap) M.length (flat encE M)):=Lib.hid (by
  obtain ⟨hML,hFM,hAl,hDl,hSl,_⟩:=HL.out
  have hsp:splice (splice (A++(D++S)) ((i+1) * 2) D) (i * 2) (encE.cs x)=A++((encE.cs x)++(D++(D++S).drop (2+D.length))):=by
   rw [show (i+1) * 2=A.length+(encE.cs x).length by rw [hAl];show _=_+2;omega,show i * 2=A.length from hAl.symm]
   exact ZT A (encE.cs x) D (D++S) (by simp only [List.length_append];show 2+_≤_;omega)
  have hh:=hg2.out
  rw [hsp] at hh
  have own:w2.ownsRow B 219 2 (.slice (some ⟨g,0,none⟩) M.length cap) M.length (flat encE M):=by
   refine ⟨qd M,.inr ⟨g,cap,_,rfl,hBg,hh,by omega,by unfold maxLen;omega,?_,?_⟩⟩
   ·simp only [List.size_toArray,List.length_append,List.length_drop]
    show _+(2+_)=_
    omega
   ·rw [hFM,hML]
    have:(A++((encE.cs x)++D)).length=(n+1) * 2:=by simp only [List.length_append];show _+(2+_)=_;omega
    rw [←this,show A++((encE.cs x)++(D++(D++S).drop (2+D.length)))=(A++((encE.cs x)++D))++(D++S).drop (2+D.length) by simp]
    exact List.take_left
  rw [←hML]
  exact own)
 have HBL:Hid (w.grownBy w2 (some g)):=Lib.hid (((qS w 1 (some g)).trans HGR1.out).trans hgr2)
 clear hg2 hgr2
 go_ret
 exact ⟨_,rfl,HF.out,HBL.out⟩
set_option maxRecDepth 100000 in
set_option maxHeartbeats 4000000 in
theorem yC (g cap:Nat) (cur:Array Value) (L:List Ent) (x:Ent) (i vb B:Nat) (w:World) (hg:w.heap[g]?=some (.cells cur 219 (0,0))) (hcap:cap≤maxLen) (hcs:cur.size=cap * 2) (htk:cur.toList.take (L.length * 2)=flat encE L)
 (hB:B≤w.heap.size) (hx:BoxE encE w vb 219 x) (hi:i < L.length) (hnc:L.length≤cap) (hr:cap < L.length+1) (hL:L.length≤1000) :
 Calls Tryz.prog 177 #[.slice (some ⟨g,0,none⟩) L.length cap,.int .i64 (i:Int),.slice (some ⟨vb,0,none⟩) 1 1] w (InsOwn w B (.slice (some ⟨g,0,none⟩) L.length cap) (L.take i++x::L.drop i)):=by
 obtain ⟨M,hM⟩:∃ M,L.take i++x::L.drop i=M:=⟨_,rfl⟩
 obtain ⟨n,hn⟩:∃ n,L.length=n:=⟨_,rfl⟩
 have hML:M.length=n+1:=by rw [←hM,←hn];simp;omega
 obtain ⟨A,hA⟩:∃ A,(flat encE L).take (i * 2)=A:=⟨_,rfl⟩
 obtain ⟨D,hD⟩:∃ D,(flat encE L).drop (i * 2)=D:=⟨_,rfl⟩
 have hFM:flat encE M=A++((encE.cs x)++D):=by rw [←hM,q9,hA,hD]
 have hFL:flat encE L=A++D:=by rw [←hA,←hD,List.take_append_drop]
 have hFlen:=qd L
 rw [hn] at hFlen htk hi hr hnc hL ⊢
 obtain rfl:cap=n:=by omega
 have hAl:A.length=i * 2:=by rw [←hA,List.length_take,hFlen];omega
 have hDl:D.length=(cap - i) * 2:=by rw [←hD,List.length_drop,hFlen];omega
 have hcur:cur.toList=A++D:=by rw [←hFL,←htk,List.take_of_length_le (by rw [Array.length_toList,hcs];exact Nat.le_refl _)]
 have hg':w.heap[g]?=some (.cells (A++D).toArray 219 (0,0)):=by rw [←hcur];simpa using hg
 have hDone:∀ v∈D,v.oneCell'=true:=fun v hv=>je L v (by rw [hFL];simp [hv])
 obtain ⟨i0,hi0,hz0,hz1,hz2⟩:=info_parts qZ
 have hgl:g < w.heap.size:=(Array.getElem?_eq_some_iff.1 hg).1
 have hvl:vb < w.heap.size:=(Array.getElem?_eq_some_iff.1 hx).1
 have hAt:∀ (j:Nat) v,A[j]?=some v→w.cell? ((⟨g,0,none⟩:Addr).add j)=some v:=fun j v hj=>by
  rw [zl,Nat.zero_add,cell_of_row _ g j _ 219 (0,0) hg']
  simp only [List.getElem?_toArray]
  rw [List.getElem?_append_left (List.getElem?_eq_some_iff.1 hj).1];exact hj
 have hold:(Builtin.firstCells i0.size i (.slice (some ⟨g,0,none⟩) i cap)).run Tryz.prog w.drew=.ok A.toArray w.drew:=by
  rw [hz1];exact run_firstCells_some w.drew 2 i ⟨g,0,none⟩ i cap A hAl hAt
 have hk:i+(cap+1 - i)=cap+1:=by omega
 have hrz:∀ ty,(Builtin.append_ #[30,3] ty #[.slice (some ⟨g,0,none⟩) i cap,.int .i64 ((cap+1 - i:Nat):Int)]).run Tryz.prog w=_:=fun ty =>
  Lib.run_append_grow_zeros w 30 3 ty 219 i0 _ .i64 .i64 Tryz.underlying30 Tryz.underlying3 hi0 hz0 (some ⟨g,0,none⟩) i cap A hold (cap+1 - i) (by omega) (by omega) (by omega) (by omega) (by rw [hz2];omega) (by rw [hz2,hk];exact growslice_fits (by omega) (by omega))
 rw [hk] at hrz
 obtain ⟨G,hG⟩:∃ G,grownCap w (cap+1) cap 219=G:=⟨_,rfl⟩
 have hGge:cap+1≤G:=by rw [←hG];exact grownCap_ge w _ _ _
 have hGle:G≤maxLen:=by rw [←hG];exact grownCap_le_maxLen w _ _ _ (by unfold maxLen;omega)
 rw [hG] at hrz
 obtain ⟨Z,hZ⟩:∃ Z:List Value,(Builtin.zeroCells (Value.agg #[.string ⟨#[]⟩,.string ⟨#[]⟩]).cells (cap+1 - i)++Builtin.zeroCells (Value.agg #[.string ⟨#[]⟩,.string ⟨#[]⟩]).cells (G - (cap+1))).toList=Z:=⟨_,rfl⟩
 have hZl:Z.length=(cap+1 - i) * 2+(G - (cap+1)) * 2:=by rw [←hZ];simp [Builtin.zeroCells,Value.cells]
 obtain ⟨W1,hW1⟩:∃ W1,w.drew.alloc (.cells (A++Z).toArray 219)=W1:=⟨_,rfl⟩
 have hrow:(A.toArray++Builtin.zeroCells (Value.agg #[.string ⟨#[]⟩,.string ⟨#[]⟩]).cells (cap+1 - i)++Builtin.zeroCells (Value.agg #[.string ⟨#[]⟩,.string ⟨#[]⟩]).cells (G - (cap+1)))=(A++Z).toArray:=by
  rw [←hZ];apply Array.ext';simp
 rw [hrow,hW1] at hrz
 have hG1:W1.heap[w.heap.size]?=some (.cells (A++Z).toArray 219 (0,0)):=by rw [←hW1];exact heap_alloc_new w.drew _
 have hB1:Below w.heap.size w W1:=by rw [←hW1];exact (below_drewN (Below.refl w.heap.size w) 1).alloc (Nat.le_refl _) _
 have HG1:=Lib.hid hG1
 have HB1:=Lib.hid hB1
 have HX1:Hid (BoxE encE W1 vb 219 x):=Lib.hid (hx.keep hB1 hvl)
 have HGO:Hid (W1.heap[g]?=some (.cells (A++D).toArray 219 (0,0))):=Lib.hid ((hB1.block g hgl).trans hg')
 have HL:=Lib.hid (And.intro hML (And.intro hFM (And.intro hAl (And.intro hDl (And.intro hZl hDone)))))
 have HRZ:=Lib.hid (hrz 30)
 rw [hM]
 unfold maxLen at hcap hGle
 have hki:((cap:Int)+1 - (i:Int))=((cap+1 - i:Nat):Int):=by omega
 have HKI:=Lib.hid hki
 have e0:=fun wq=>zF (w:=wq) (z:=(i:Int)) (g:=g) (n:=cap) (c:=cap) (k:=i) (hz:=rfl) (hk:=by omega) (hc:=by omega)
 have e1:=fun wq=>qR (w:=wq) (z:=(i:Int)) (g:=g) (n:=cap) (c:=cap) (k:=i) (hz:=rfl) (hk:=by omega)
 have e2:=fun wq=>zF (w:=wq) (z:=(i:Int)+1) (g:=w.heap.size) (n:=cap+1) (c:=G) (k:=i+1) (hz:=by omega) (hk:=by omega) (hc:=by omega)
 have e3:=fun wq=>zF (w:=wq) (z:=(i:Int)) (g:=w.heap.size) (n:=cap+1) (c:=G) (k:=i) (hz:=rfl) (hk:=by omega) (hc:=by omega)
 have hz1':¬ ((i:Int)=(cap:Int)):=by omega
 have hz2':((cap:Int) < (cap:Int)+1):=by omega
 have hw1:IntKind.i64.wrap ((i:Int)+1)=(i:Int)+1:=by rw [IntKind.wrap_i64];omega
 have HGL:=Lib.hid hgl
 clear hFlen hcur hFL hA hD hn hM hML hFM hAl hDl hg hg' hDone htk hcs hx hZ hZl hW1 hrow hrz hG1 hB1 hG hold hAt hi0 hz0 hz1 hz2 hk hki hgl hvl
 go_enter Tryz.func177,Tryz.ntmps177
 go_wp2_with (first
  | (at_builtin;refine Lib.wpList_append_run _ rfl _ _ _ _ rfl _ _ rfl rfl _ W1 (by rw [HKI.out];exact HRZ.out) ?_)
  | (refine jV rfl (.tmp 43) (.tmp 44) 30 30 rfl 219 Tryz.underlying30 2 zW _ _ _ _ _ _ rfl rfl w.heap.size (i * 2) (A++Z) 219 HG1.out (encE.cs x) 1 (by simp only [Nat.min_def];split <;> omega) rfl rfl ⟨vb,0,none⟩ rfl (fun j u hj=>by rw [zl];exact HX1.out.at0 j u hj) (by have h:=HL.out;simp only [List.length_append];show _+2≤_;omega) (encE.one x) ?_;intro w2 hg2 hgr2))
 have HG2:=Lib.hid hg2.out
 have HGR2:=Lib.hid hgr2
 have HGO2:Hid (w2.heap[g]?=some (.cells (A++D).toArray 219 (0,0))):=Lib.hid ((hgr2.block g (Nat.lt_of_lt_of_le HGL.out HB1.out.size) (fun e=>by have:=Option.some.inj e;have:=HGL.out;omega)).trans HGO.out)
 have HSRC:Hid (∀ (j:Nat) v,D[j]?=some v→w2.cell? ((⟨g,i * 2,none⟩:Addr).add j)=some v):=Lib.hid (fun j v hj=>by
  rw [zl,cell_of_row _ g (i * 2+j) _ 219 (0,0) HGO2.out]
  simp only [List.getElem?_toArray]
  rw [←HL.out.2.2.1,List.getElem?_append_right (by omega),Nat.add_sub_cancel_left]
  exact hj)
 clear hg2 hgr2
 go_region_law (refine jW rfl (.tmp 50) (.tmp 53) 30 30 rfl 219 Tryz.underlying30 2 zW (some ⟨w.heap.size,(i+1) * 2,none⟩) (some ⟨g,i * 2,none⟩) (cap+1 - (i+1)) (G - (i+1)) (cap - i) (cap - i) (by simp [Act.eval,Act.put]) (by simp [Act.eval,Act.put]) w.heap.size ((i+1) * 2) (splice (A++Z) (i * 2) (encE.cs x)) 219 HG2.out D (cap - i) (by simp only [Nat.min_def];split <;> omega) HL.out.2.2.2.1 rfl ⟨g,i * 2,none⟩ rfl HSRC.out (by have h:=HL.out;rw [length_splice _ _ _ (by simp only [List.length_append];show _+2≤_;omega)];simp only [List.length_append];omega) HL.out.2.2.2.2.2 ?_;intro w3 hg3 hgr3)
 have HF:Hid (w3.ownsRow B 219 2 (.slice (some ⟨w.heap.size,0,none⟩) (cap+1) G) M.length (flat encE M)):=Lib.hid (by
  obtain ⟨hML,hFM,hAl,hDl,hZl,_⟩:=HL.out
  have hsp:splice (splice (A++Z) (i * 2) (encE.cs x)) ((i+1) * 2) D=A++((encE.cs x)++(D++Z.drop (2+D.length))):=by
   rw [show (i+1) * 2=A.length+(encE.cs x).length by rw [hAl];show _=_+2;omega,show i * 2=A.length from hAl.symm]
   exact Zy A (encE.cs x) D Z (by show 2+_≤_;omega)
  have hh:=hg3.out
  rw [hsp] at hh
  have own:w3.ownsRow w.heap.size 219 2 (.slice (some ⟨w.heap.size,0,none⟩) M.length G) M.length (flat encE M):=by
   refine ⟨qd M,.inr ⟨w.heap.size,G,_,rfl,Nat.le_refl _,hh,by omega,by unfold maxLen;omega,?_,?_⟩⟩
   ·simp only [List.size_toArray,List.length_append,List.length_drop]
    show _+(2+_)=_
    omega
   ·rw [hFM,hML]
    have:(A++((encE.cs x)++D)).length=(cap+1) * 2:=by simp only [List.length_append];show _+(2+_)=_;omega
    rw [←this,show A++((encE.cs x)++(D++Z.drop (2+D.length)))=(A++((encE.cs x)++D))++Z.drop (2+D.length) by simp]
    exact List.take_left
  rw [←hML]
  exact zw own hB)
 have HBL:Hid (w.grownBy w3 (some g)):=Lib.hid (((jH HB1.out (some g)).andThen HGR2.out (fun j hj=>.inl (by cases hj;exact Nat.le_refl _))).andThen ((qS w2 1 (some w.heap.size)).trans hgr3) (fun j hj=>.inl (by cases hj;exact Nat.le_refl _)))
 clear hg3 hgr3
 go_wp2
 go_ret
 exact ⟨_,rfl,HF.out,HBL.out⟩
theorem yt (v:Value) (L:List Ent) (x:Ent) (i vb B:Nat) (w:World) (h:w.ownsRow B 219 2 v L.length (flat encE L)) (hB:B≤w.heap.size) (hx:BoxE encE w vb 219 x) (hne:v.ownBlock≠some vb) (hi:i≤L.length) (hL:L.length≤1000) :
 Calls Tryz.prog 177 #[v,.int .i64 (i:Int),.slice (some ⟨vb,0,none⟩) 1 1] w (InsOwn w B v (L.take i++x::L.drop i)):=by
 by_cases hie:i=L.length
 ·subst hie;exact yK v L x vb B w h hB hx hL
 ·rcases h.2 with ⟨rfl,hn⟩ | ⟨g,cap,cur,rfl,hBg,hg,hnc,hcm,hcs,htk⟩
  ·omega
  ·by_cases hr:L.length+1≤cap
   ·exact yz g cap cur L x i vb B w hBg hg hcm hcs htk hx (fun e=>hne (by rw [e];rfl)) (by omega) hr
   ·exact yC g cap cur L x i vb B w hg hcm hcs htk hB hx (by omega) hnc (by omega) hL
end Go.Proofs.YtdhfpgjnjlcciaaGreatDoor.Un.En
end
section
namespace Go.Proofs.YtdhfpgjnjlcciaaGreatDoor.Un.En
open Go.RowKit
theorem JZ {W:World} {B:Nat} {e:TypeId} {s:Nat} {v:Value} {n:Nat} {xs:List Value} (h:W.ownsRow B e s v n xs):∃ a c,v=.slice a n c:=by
 rcases h.2 with ⟨rfl,rfl⟩ | ⟨g,cap,cur,rfl,_⟩
 ·exact ⟨none,0,rfl⟩
 ·exact ⟨_,_,rfl⟩
def Qf (w:World) (B:Nat) (v:Value) (M:List Ent) (n m:Nat) (e:Ending) (w':World):Prop :=
 ∃ p9 n9 c9,e=.returned (.tuple #[.slice p9 n9 c9,.int .i64 (if m≤n then 4 else 0)])∧w.grownBy w' v.ownBlock∧(¬ m≤n→w'.ownsRow B 219 2 (.slice p9 n9 c9) M.length (flat encE M))
set_option maxRecDepth 100000 in
set_option maxHeartbeats 4000000 in
theorem Yg (v:Value) (L:List Ent) (x:Ent) (m B:Nat) (w:World) (h:w.ownsRow B 219 2 v L.length (flat encE L)) (hB:B≤w.heap.size) (hr:G.riseK Ent.code L=true) (hL:L.length≤1000) :
 Calls Tryz.prog 129 #[v,aggE x,.int .i64 (m:Int),.func (.func 130) #[] #[]] w (Qf w B v (G.insK Ent.code L x) L.length m):=by
 have HB0:=Lib.hid ((Below.refl w.heap.size w).alloc (Nat.le_refl _) (.cells (encE.cs x).toArray 219))
 have HX0:=Lib.hid (BoxE.new encE w x 219)
 have HO0:=Lib.hid (h.alloc (.cells (encE.cs x).toArray 219))
 have HV0:=Lib.hid (zq HO0.out)
 have hlt:∀ g,v.ownBlock=some g→g < w.heap.size:=fun g e=>(h.lt g e).2
 have HLT:=Lib.hid hlt
 have hv:∃ p c,v=.slice p L.length c∧L.length≤c∧c≤maxLen:=by
  obtain ⟨p,c,e,h1,h2,_⟩:=zq h
  exact ⟨p,c,e,h1,h2⟩
 obtain ⟨p,c,rfl,hcap,hcm⟩:=hv
 have HR:=Lib.hid hr
 have HL:=Lib.hid hL
 have HSE:=Lib.hid (xy (.slice p L.length c) L x (w.alloc (.cells (encE.cs x).toArray 219)) HV0.out hr hL)
 have HPL:=Lib.hid (G.kT (key:=Ent.code) L (Ent.code x))
 have hins:G.insK Ent.code L x=L.take (G.placeK Ent.code L (Ent.code x))++x::L.drop (G.placeK Ent.code L (Ent.code x)):=rfl
 obtain ⟨M,hM⟩:∃ M,G.insK Ent.code L x=M:=⟨_,rfl⟩
 obtain ⟨pl,hpl⟩:∃ pl,G.placeK Ent.code L (Ent.code x)=pl:=⟨_,rfl⟩
 obtain ⟨is,his⟩:∃ is,G.isK Ent.code L (Ent.code x)=is:=⟨_,rfl⟩
 rw [hM,hpl] at hins
 rw [hpl,his] at HSE
 rw [hpl] at HPL
 rw [hM]
 have HM:=Lib.hid hins
 obtain ⟨n,hn⟩:∃ n,L.length=n:=⟨_,rfl⟩
 have HN:=Lib.hid hn
 rw [hn] at HSE hcap hL ⊢
 unfold maxLen at hcm
 clear h hlt hr hpl his hM hins hn
 by_cases hmn:m≤n
 ·have HMN:=Lib.hid hmn
  go_enter Tryz.func129,Tryz.ntmps129
  go_wp2
  go_ret2
  exact ⟨p,n,c,by rw [if_pos HMN.out];rfl,World.grownBy_alloc _ _ _,fun h=>absurd HMN.out h⟩
 ·have HMN:=Lib.hid hmn
  obtain ⟨c0,c1⟩:=ent2 HX0.out.at0
  go_enter Tryz.func129,Tryz.ntmps129
  go_wp2_with fail
  refine HSE.out.mono ?_
  rintro e w2 ⟨rfl,hb2⟩
  have HO2:=Lib.hid (zu HO0.out hb2)
  have HX2:=Lib.hid (HX0.out.kept hb2)
  have HG2:Hid (w.grownBy w2 (Value.slice p n c).ownBlock):=Lib.hid ((World.grownBy_alloc w _ _).trans (jH hb2 _))
  have HS2:Hid (w.heap.size < w2.heap.size):=Lib.hid (by have:=hb2.size;rw [World.size_alloc] at this;omega)
  clear hb2 c0 c1
  obtain ⟨c0,c1⟩:=ent2 HX2.out.at0
  go_wp2_with fail
  clear c0 c1
  refine (yt (.slice p n c) L x pl w2.heap.size B (w2.alloc (.cells (encE.cs x).toArray 219)) (by rw [←HN.out];rw [HN.out] at HO2 ⊢;exact HO2.out.alloc _) (by rw [World.size_alloc];have:=HS2.out;omega) (BoxE.new encE w2 x 219) (fun e=>by have:=HLT.out _ (by rw [HN.out];exact e);have:=HS2.out;omega) HPL.out HL.out).mono ?_
  rintro e w9 ⟨v9,rfl,ho9,hg9⟩
  rw [←HM.out] at ho9
  obtain ⟨p9,c9,rfl⟩:=JZ ho9
  have HO9:=Lib.hid ho9
  have HG9:Hid (w.grownBy w9 (Value.slice p n c).ownBlock):=Lib.hid ((HG2.out.trans (World.grownBy_alloc w2 _ _)).trans hg9)
  clear ho9 hg9
  go_wp2
  go_ret2
  exact ⟨p9,M.length,c9,by rw [if_neg HMN.out];rfl,HG9.out,fun _=>HO9.out⟩
end Go.Proofs.YtdhfpgjnjlcciaaGreatDoor.Un.En
end
section
namespace Go.Proofs.YtdhfpgjnjlcciaaGreatDoor.Un
open Go.RowKit
theorem zb7 (x y:Lin):orI (Fl.cmpB x.acc y.acc) (Fl.cmpB x.flow y.flow)=cmpN x y:=rfl
theorem vF (w:World) (x y:Int) (t:TypeId):(w.alloc (.cells #[.int .i64 x,.int .i64 y] t)).cell? ⟨w.heap.size,0,none⟩=some (.int .i64 x)∧(w.alloc (.cells #[.int .i64 x,.int .i64 y] t)).cell? ⟨w.heap.size,1,none⟩=some (.int .i64 y):=by
 constructor
 ·rw [cell_of_row _ w.heap.size 0 _ t (0,0) (heap_alloc_new w _)];rfl
 ·rw [cell_of_row _ w.heap.size 1 _ t (0,0) (heap_alloc_new w _)];rfl
set_option maxHeartbeats 4000000 in
set_option maxRecDepth 100000 in
theorem YY (x y:Lin) (w:World) :
 Calls Tryz.prog 132 #[aggN x,aggN y] w fun e w'=>e=.returned (.int .i64 (cmpN x y))∧Below w.heap.size w w':=by
 have HB:=Lib.hid (((Below.refl w.heap.size w).alloc (Nat.le_refl _) (.cells #[.string x.acc,.string x.flow,.string x.goal] 235)).alloc (by simp) (.cells #[.string y.acc,.string y.flow,.string y.goal] 235))
 obtain ⟨r,hr⟩:∃ r,cmpN x y=r:=⟨_,rfl⟩
 have hA:=zb7 x y
 rw [hr] at hA ⊢
 have HA:=Lib.hid hA
 clear hr hA
 obtain ⟨W1,hW1⟩:∃ W1,(w.alloc (.cells #[.string x.acc,.string x.flow,.string x.goal] 235)).alloc (.cells #[.string y.acc,.string y.flow,.string y.goal] 235)=W1:=⟨_,rfl⟩
 obtain ⟨W2,hW2⟩:∃ W2,W1.drew=W2:=⟨_,rfl⟩
 have bx:BoxE encL W2 w.heap.size 235 x:=by
  rw [←hW2,←hW1]
  have hb:=(Below.refl (w.alloc (.cells #[.string x.acc,.string x.flow,.string x.goal] 235)).heap.size (w.alloc (.cells #[.string x.acc,.string x.flow,.string x.goal] 235))).alloc (Nat.le_refl _) (.cells #[.string y.acc,.string y.flow,.string y.goal] 235)
  exact (BoxE.new encL w x 235).kept ⟨hb.os,hb.tape,hb.output,hb.size,hb.block⟩
 have bY:BoxE encL W2 (w.heap.size+1) 235 y:=by
  rw [←hW2,←hW1]
  have:=BoxE.new encL (w.alloc (.cells #[.string x.acc,.string x.flow,.string x.goal] 235)) y 235
  rw [World.size_alloc] at this
  exact this
 have HB2:Hid (Below w.heap.size w W2):=Lib.hid (by
  rw [←hW2,←hW1]
  exact ⟨HB.out.os,HB.out.tape,HB.out.output,HB.out.size,HB.out.block⟩)
 have k0:=bx.at0 0 _ rfl
 have k1:=bx.at0 1 _ rfl
 have k2:=bY.at0 0 _ rfl
 have k3:=bY.at0 1 _ rfl
 simp only [Nat.add_zero] at k0 k1 k2 k3
 clear bx bY HB
 go_enter Tryz.func132,Tryz.ntmps132
 go_wp2_with fail
 refine wp_region_still_tail 10 (by kernel_rfl) (by kernel_rfl) ?_
 simp only [List.take_succ_cons,List.take_zero,List.drop_succ_cons,List.drop_zero]
 rw [show ({ heap:=W1.heap,tape:=W1.tape,drawn:=W1.drawn+1,os:=W1.os,output:=W1.output }:World)=W2 from hW2]
 clear hW1 hW2
 repeat still_step
 still_call (Fl.qM _ _ _)
 repeat still_step
 still_call (Fl.qM _ _ _)
 refine wpStill_nil ?_
 go_wp2_with (go_at_call 105;refine (Z3 _ _ _ _ (vF _ _ _ _).1 (vF _ _ _ _).2).mono ?_;rintro e w' ⟨rfl,rfl⟩)
 go_ret
 exact ⟨by rw [←HA.out];rfl,HB2.out.alloc HB2.out.size _⟩
end Go.Proofs.YtdhfpgjnjlcciaaGreatDoor.Un
end
section
namespace Go.Proofs.YtdhfpgjnjlcciaaGreatDoor.Un.Li
open Go.RowKit
structure kO (w wr:World) (L:List Lin) (c:Lin) (lo hi:Nat):Prop where
 le:lo≤hi
 top:hi≤L.length
 bel:Below (w.heap.size+1) (w.alloc (.cells (encL.cs c).toArray 235)) wr
 low:∀ (t:Nat) (x:Lin),t < lo→L[t]?=some x→G.KeyO.lt (Lin.key x) (Lin.key c)=true
 high:∀ (t:Nat) (x:Lin),hi≤t→L[t]?=some x→G.KeyO.lt (Lin.key x) (Lin.key c)=false
set_option maxRecDepth 100000 in
set_option maxHeartbeats 8000000 in
theorem xy (v:Value) (L:List Lin) (c:Lin) (w:World) (h:ElsV encL w v L) (hr:G.riseK Lin.key L=true) (hL:L.length≤1000) :
 Calls Tryz.prog 178 #[v,aggN c,.func (.func 132) #[] #[]] w fun e w'=>e=.returned (.tuple #[.int .i64 (G.placeK Lin.key L (Lin.key c):Nat),.bool (G.isK Lin.key L (Lin.key c))])∧Below w.heap.size w w':=by
 have HB0:=Lib.hid ((Below.refl w.heap.size w).alloc (Nat.le_refl _) (.cells (encL.cs c).toArray 235))
 have HX0:=Lib.hid (BoxE.new encL w c 235)
 have hV:=h.keep HB0.out
 obtain ⟨p,cap,rfl,hcap,hm,_,hc⟩:=hV
 obtain ⟨n,hn⟩:∃ n,L.length=n:=⟨_,rfl⟩
 obtain ⟨pl,hpl⟩:∃ pl,G.placeK Lin.key L (Lin.key c)=pl:=⟨_,rfl⟩
 obtain ⟨is,his⟩:∃ is,G.isK Lin.key L (Lin.key c)=is:=⟨_,rfl⟩
 rw [hn] at hcap hL ⊢
 rw [hpl,his]
 have HC:=Lib.hid hc
 have HN:=Lib.hid hn
 have HPL:=Lib.hid hpl
 have HIS:=Lib.hid his
 have HRI:=Lib.hid hr
 unfold maxLen at hm
 have HAT:Hid (∀ (wr:World),Below (w.heap.size+1) (w.alloc (.cells (encL.cs c).toArray 235)) wr→∀ (i:Nat) (x:Lin),L[i]?=some x→∃ b o,p=some ⟨b,o,none⟩∧ElAt encL wr b (o+i * encL.k) x∧ElAt encL wr w.heap.size 0 c):=Lib.hid (fun wr hb i x hx=>by
  obtain ⟨b,o,e,hat⟩:=HC.out i x hx
  have hlt:=hat.lt
  rw [World.size_alloc] at hlt
  exact ⟨b,o,e,hat.keep hb hlt,HX0.out.at0.keep hb (Nat.lt_succ_self _)⟩)
 have HBE:Hid (∀ (wr:World),Below (w.heap.size+1) (w.alloc (.cells (encL.cs c).toArray 235)) wr→Below w.heap.size w wr):=Lib.hid (fun wr hb=>HB0.out.trans (hb.mono (Nat.le_succ _)))
 clear hc hn hpl his hr h
 go_enter Tryz.func178,Tryz.ntmps178
 go_wp2
 go_loopg [9,10] n (fun kx s9 s10 wr=>∃ lo hi:Nat,s9=.int .i64 (lo:Int)∧s10=.int .i64 (hi:Int)∧hi - lo≤kx∧lo≤hi∧hi≤n∧Hid (kO w wr L c lo hi))
 case atStart=>exact ⟨0,n,rfl,rfl,by omega,Nat.zero_le _,Nat.le_refl _,Lib.hid ⟨Nat.zero_le _,by rw [HN.out];exact Nat.le_refl _,Below.refl _ _,fun t x ht=>absurd ht (Nat.not_lt_zero _),fun t x ht hx=>by
  have:=(List.getElem?_eq_some_iff.1 hx).1
  rw [HN.out] at this;omega⟩⟩
 case round =>
  obtain ⟨lo,hi,rfl,rfl,hkx,hlh,hin,HA⟩:=hrel
  have HSZ:Hid (w.heap.size+1≤wr.heap.size):=Lib.hid (by have:=HA.out.bel.size;rwa [World.size_alloc] at this)
  by_cases hlt:lo < hi
  ·have hmid:(lo+hi) / 2 < n:=by omega
   obtain ⟨x,hx⟩:∃ x,L[(lo+hi) / 2]?=some x:=⟨_,List.getElem?_eq_getElem (by rw [HN.out];exact hmid)⟩
   obtain ⟨b,o,rfl,hat,hct⟩:=HAT.out _ HA.out.bel _ x hx
   obtain ⟨r0,r1,r2⟩:=lin3 hat
   obtain ⟨s0,s1,s2⟩:=lin3 hct
   have q0:=fun p:Past wr=>za r0 p
   have u0:=fun p:Past wr=>za s0 p
   have q1:=fun p:Past wr=>za r1 p
   have u1:=fun p:Past wr=>za s1 p
   have q2:=fun p:Past wr=>za r2 p
   have u2:=fun p:Past wr=>za s2 p
   clear r0 s0 r1 s1 r2 s2
   have HX:=Lib.hid hx
   clear hx hat hct
   have HAG:=Lib.hid (fun W=>YY x c W)
   obtain ⟨m,hmm⟩:∃ m,cmpN x c=m:=⟨_,rfl⟩
   have HM:=Lib.hid (zdv x c)
   rw [hmm] at HM
   simp only [hmm] at HAG
   clear hmm
   have hwm:IntKind.i64.wrap ((lo:Int)+(hi:Int))=(lo:Int)+(hi:Int):=by rw [IntKind.wrap_i64];omega
   by_cases hm0:m < 0
   ·have HLT:Hid (G.KeyO.lt (Lin.key x) (Lin.key c)=true):=Lib.hid (by rw [←HM.out];exact decide_eq_true hm0)
    go_wp2_with fail
    refine zS (by kernel_rfl) (by kernel_rfl) ?_
    repeat (go_big_quiet_step ((go_at_call 132;exact Calls.qi (HAG.out _))))
    refine wpQuiet_nil ?_
    intro _ hw'
    obtain ⟨⟨w3,hb3⟩,rfl⟩:=hw'
    clear q0 u0 q1 u1 q2 u2
    go_wp2
    go_roundg (hi - ((lo+hi) / 2+1))
    case measure=>omega
    case rel=>exact ⟨(lo+hi) / 2+1,hi,by rw [show ((lo:Int)+(hi:Int)) / 2+1=(((lo+hi) / 2+1:Nat):Int) by omega],rfl,Nat.le_refl _,by omega,hin,Lib.hid ⟨by omega,HA.out.top,HA.out.bel.trans (hb3.mono HSZ.out),fun t y ht hy=>by
     rcases Nat.lt_or_ge t ((lo+hi) / 2) with h | h
     ·exact G.KeyO.trans (G.qF HRI.out h hy HX.out) HLT.out
     ·obtain rfl:t=(lo+hi) / 2:=by omega
      rw [HX.out] at hy;cases hy;exact HLT.out,HA.out.high⟩⟩
   ·have HLT:Hid (G.KeyO.lt (Lin.key x) (Lin.key c)=false):=Lib.hid (by rw [←HM.out];exact decide_eq_false hm0)
    go_wp2_with fail
    refine zS (by kernel_rfl) (by kernel_rfl) ?_
    repeat (go_big_quiet_step ((go_at_call 132;exact Calls.qi (HAG.out _))))
    refine wpQuiet_nil ?_
    intro _ hw'
    obtain ⟨⟨w3,hb3⟩,rfl⟩:=hw'
    clear q0 u0 q1 u1 q2 u2
    go_wp2
    go_roundg ((lo+hi) / 2 - lo)
    case measure=>omega
    case rel=>exact ⟨lo,(lo+hi) / 2,rfl,by rw [show ((lo:Int)+(hi:Int)) / 2=(((lo+hi) / 2:Nat):Int) by omega],Nat.le_refl _,by omega,by omega,Lib.hid ⟨by omega,by have:=HA.out.top;omega,HA.out.bel.trans (hb3.mono HSZ.out),HA.out.low,fun t y ht hy=>by
     rcases Nat.lt_or_ge ((lo+hi) / 2) t with h | h
     ·cases hy':G.KeyO.lt (Lin.key y) (Lin.key c) with
      | false=>rfl
      | true=>rw [G.KeyO.trans (G.qF HRI.out h HX.out hy) hy'] at HLT;cases HLT.out
     ·obtain rfl:t=(lo+hi) / 2:=by omega
      rw [HX.out] at hy;cases hy;exact HLT.out⟩⟩
  ·obtain rfl:hi=lo:=by omega
   have hpl:Hid (pl=hi):=Lib.hid (by
    rw [←HPL.out]
    exact G.x6 HA.out.top HA.out.low (fun y hy=>HA.out.high hi y (Nat.le_refl _) hy))
   by_cases hn:hi < n
   ·obtain ⟨x,hx⟩:∃ x,L[hi]?=some x:=⟨_,List.getElem?_eq_getElem (by rw [HN.out];exact hn)⟩
    obtain ⟨b,o,rfl,hat,hct⟩:=HAT.out _ HA.out.bel _ x hx
    obtain ⟨r0,r1,r2⟩:=lin3 hat
    obtain ⟨s0,s1,s2⟩:=lin3 hct
    have q0:=fun p:Past wr=>za r0 p
    have u0:=fun p:Past wr=>za s0 p
    have q1:=fun p:Past wr=>za r1 p
    have u1:=fun p:Past wr=>za s1 p
    have q2:=fun p:Past wr=>za r2 p
    have u2:=fun p:Past wr=>za s2 p
    clear r0 s0 r1 s1 r2 s2
    have HX:=Lib.hid hx
    clear hx hat hct
    have HAG:=Lib.hid (fun W=>YY x c W)
    obtain ⟨m,hmm⟩:∃ m,cmpN x c=m:=⟨_,rfl⟩
    have HM:=Lib.hid (zcD x c)
    rw [hmm] at HM
    simp only [hmm] at HAG
    clear hmm
    have HI2:Hid (is=(m==0)):=Lib.hid (by
     rw [←HIS.out,HM.out]
     unfold G.isK
     rw [HPL.out,hpl.out,HX.out])
    go_wp2_with fail
    refine zS (by kernel_rfl) (by kernel_rfl) ?_
    repeat (go_big_quiet_step ((go_at_call 132;exact Calls.qi (HAG.out _))))
    refine wpQuiet_nil ?_
    intro _ hw'
    obtain ⟨⟨w3,hb3⟩,rfl⟩:=hw'
    clear q0 u0 q1 u1 q2 u2
    go_wp2
    go_ret2
    exact ⟨by rw [hpl.out,HI2.out];rfl,HBE.out _ (HA.out.bel.trans (hb3.mono HSZ.out))⟩
   ·have HI2:Hid (is=false):=Lib.hid (by
     rw [←HIS.out]
     unfold G.isK
     rw [HPL.out,hpl.out,List.getElem?_eq_none (by rw [HN.out];omega)])
    have hd:decide (hi < n)=false:=decide_eq_false hn
    go_wp2_with fail
    refine zS (by kernel_rfl) (by kernel_rfl) ?_
    repeat (go_big_quiet_step (fail))
    refine wpQuiet_nil ?_
    intro _ hw'
    obtain ⟨⟨w3,hb3⟩,rfl⟩:=hw'
    go_wp2
    go_ret2
    exact ⟨by rw [hpl.out,HI2.out];rfl,HBE.out _ (HA.out.bel.trans (hb3.mono HSZ.out))⟩
end Go.Proofs.YtdhfpgjnjlcciaaGreatDoor.Un.Li
end
section
namespace Go.Proofs.YtdhfpgjnjlcciaaGreatDoor.Un.Li
open Go.RowKit
theorem qZ:(Tryz.prog.info? 235).map (fun i=>(i.zero,i.size,i.bytes))=some (some (.agg #[.string ⟨#[]⟩,.string ⟨#[]⟩,.string ⟨#[]⟩]),3,48):=by kernel_rfl
theorem qd (L:List Lin):(flat encL L).length=L.length * 3:=qv L
theorem kJ (L:List Lin) (k:Nat):flat encL (L.take k)=(flat encL L).take (k * 3):=xO L k
theorem kf (L:List Lin) (k:Nat):flat encL (L.drop k)=(flat encL L).drop (k * 3):=Zt L k
def yM (w:World) (L:List Lin) (e:Ending) (w':World):Prop:=∃ v,e=.returned v∧w'.ownsRow w.heap.size 235 3 v L.length (flat encL L)∧Below w.heap.size w w'
end Go.Proofs.YtdhfpgjnjlcciaaGreatDoor.Un.Li
end
