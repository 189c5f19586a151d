/- FlowDocKind FlowDocAdd FlowDocParse UnitDocOne FlowOurs -/
import Derived.Test.YtdhfpgjnjlcciaaGreatDoorQ17
import Derived.Test.YtdhfpgjnjlcciaaGreatDoorQ18
import Derived.Test.YtdhfpgjnjlcciaaGreatDoorQ19
section
namespace Go.Proofs.YtdhfpgjnjlcciaaGreatDoor.Un
open Go.RowKit
def kindO' (o:Option Fl.Flow):Int:=(o.getD Fl.zeroF).kind
theorem J7 {α:Type} {key:α→ByteArray} {L:List α} {c:ByteArray} {i:Nat} {x:α} (hb:∀ (j:Nat) (y:α),j < i→L[j]?=some y→key y≠c) (hx:L[i]?=some x) (h:key x=c):findK key L c=some x:=by
 induction L generalizing i with
 | nil=>simp at hx
 | cons a L ih =>
   cases i with
   | zero =>
     simp at hx;subst hx
     simp only [findK];rw [if_pos h]
   | succ i =>
     simp only [findK]
     rw [if_neg (hb 0 a (Nat.succ_pos _) rfl)]
     refine ih (i:=i) (fun j y hj hy=>hb (j+1) y (by omega) (by simpa using hy)) (by simpa using hx)
theorem YC {α:Type} {key:α→ByteArray} {L:List α} {c:ByteArray} (h:∀ (j:Nat) (y:α),L[j]?=some y→key y≠c):findK key L c=none :=
 qx fun y hy e=>by
  obtain ⟨j,hj,rfl⟩:=List.getElem_of_mem hy
  exact h j _ (List.getElem?_eq_getElem hj) e
set_option maxRecDepth 100000 in
set_option maxHeartbeats 2000000 in
theorem Jf (v:Value) (L:List Fl.Flow) (code:ByteArray) (w:World) (h:Fl.FlowsV w v L) :
 Calls Tryz.prog 69 #[v,.string code] w fun e w'=>e=.returned (.tuple #[.int .i64 (kindO' (Fl.findF L code)),.bool (Fl.findF L code).isSome])∧Below w.heap.size w w':=by
 obtain ⟨a,c,rfl,hcap,hm,_,hc⟩:=h
 obtain ⟨n,hn⟩:∃ n,L.length=n:=⟨_,rfl⟩
 obtain ⟨r,hr⟩:∃ r,Fl.findF L code=r:=⟨_,rfl⟩
 rw [hn] at hcap ⊢
 rw [hr]
 have HC:=Lib.hid hc
 have HN:=Lib.hid hn
 have HR:=Lib.hid hr
 unfold maxLen at hm
 clear hc hn hr
 obtain ⟨R,hR⟩:∃ R,kindO' r=R:=⟨_,rfl⟩
 obtain ⟨S,hS⟩:∃ S,r.isSome=S:=⟨_,rfl⟩
 rw [hR,hS]
 have HRV:=Lib.hid hR
 have HSV:=Lib.hid hS
 clear hR hS
 go_enter Tryz.func69,Tryz.ntmps69
 go_wp2
 go_loopw [6] (fun s6 wr=>∃ i:Nat,i≤n∧s6=.int .i64 (i:Int)∧Below w.heap.size w wr∧Hid (∀ (j:Nat) (y:Fl.Flow),j < i→L[j]?=some y→y.code≠code)) (fun s6 _=>n - (intOf s6).toNat)
 case atStart=>exact ⟨0,Nat.zero_le _,rfl,Below.refl _ _,Lib.hid fun j y hj=>absurd hj (Nat.not_lt_zero _)⟩
 case round =>
  obtain ⟨i,hi,rfl,hnx,HNO⟩:=hrel
  by_cases hlt:i < n
  ·obtain ⟨x,hx⟩:∃ x,L[i]?=some x:=⟨_,List.getElem?_eq_getElem (by rw [HN.out];exact hlt)⟩
   obtain ⟨b,o,rfl,hat⟩:=HC.out i x hx
   obtain ⟨c0,c1⟩:=Fl.two (hat.keep hnx hat.lt)
   have HX:=Lib.hid hx
   have HNX:=Lib.hid hnx
   clear hx hat hnx
   cases hxe:(x.code.toList==code.toList) with
   | false =>
     have HXE:=Lib.hid ((Lib.bytes_beq_false_iff x.code code).1 hxe)
     go_wp2
     go_roundw
     case rel=>exact ⟨i+1,by omega,by go_num,HNX.out,Lib.hid fun j y hj hy=>by
      rcases Nat.lt_or_ge j i with h | h
      ·exact HNO.out j y h hy
      ·obtain rfl:j=i:=by omega
       rw [HX.out] at hy;cases hy;exact HXE.out⟩
     case measure=>simp [intOf];omega
   | true =>
     have HXE:=Lib.hid ((Lib.bytes_beq_iff x.code code).1 hxe)
     have hres:Hid (r=some x):=Lib.hid (by rw [←HR.out];exact J7 HNO.out HX.out HXE.out)
     go_wp2
     go_ret2
     rw [←HRV.out,←HSV.out,hres.out]
     exact ⟨rfl,HNX.out⟩
  ·have hres:Hid (r=none):=Lib.hid (by
    rw [←HR.out]
    refine YC fun j y hy=>HNO.out j y ?_ hy
    have:=(List.getElem?_eq_some_iff.1 hy).1
    rw [HN.out] at this;omega)
   have HNX:=Lib.hid hnx
   go_wp2
   go_ret2
   rw [←HRV.out,←HSV.out,hres.out]
   exact ⟨rfl,HNX.out⟩
set_option maxRecDepth 100000 in
set_option maxHeartbeats 2000000 in
theorem ziP (v:Value) (L:List Fl.Flow) (w:World) (h:Fl.FlowsV w v L) (hL:L.length≤1000) :
 Calls Tryz.prog 101 #[v] w fun e w'=>e=.returned (.bool (Fl.qb L 5))∧Below w.heap.size w w':=by
 have HV:=Lib.hid h
 obtain ⟨R,hR⟩:∃ R,Fl.qb L 5=R:=⟨_,rfl⟩
 rw [hR]
 have HR:=Lib.hid hR
 have HLL:=Lib.hid hL
 obtain ⟨p,c,rfl,hcap,hm,_,hc⟩:=h
 obtain ⟨n,hn⟩:∃ n,L.length=n:=⟨_,rfl⟩
 rw [hn] at hcap HV ⊢
 unfold maxLen at hm
 clear hc hR hL hn
 go_enter Tryz.func101,Tryz.ntmps101
 go_wp2
 go_loopw [3] (fun s3 wr=>∃ k:Nat,k≤5∧s3=.int .i64 (k:Int)∧Hid (Below w.heap.size w wr)∧Hid (Fl.qb L k=true)) (fun s3 _=>5 - (intOf s3).toNat)
 case atStart=>exact ⟨0,by omega,rfl,Lib.hid (Below.refl _ _),Lib.hid rfl⟩
 case round =>
  obtain ⟨k,hk,rfl,HNX,HW⟩:=hrel
  by_cases h5:k < 5
  ·have hk5:decide ((k:Int) < 5)=true:=decide_eq_true (by omega)
   by_cases h1:k=1
   ·subst h1
    have HW2:Hid (Fl.qb L 2=true):=Lib.hid (by rw [Fl.qb,HW.out];rfl)
    go_wp2
    go_roundw
    case rel=>exact ⟨2,by omega,by go_num,HNX,HW2⟩
    case measure=>simp [intOf]
   ·have hk1:((k:Int) != 1)=true:=by simp;omega
    have HOF:=Lib.hid (Fl.Vq (.slice p n c) L (k:Int) wr (HV.out.keep HNX.out) HLL.out)
    obtain ⟨m,hmm⟩:∃ m,(Fl.ofF L (k:Int)).length=m:=⟨_,rfl⟩
    have HMM:=Lib.hid hmm
    have HMB:Hid (m≤1000):=Lib.hid (by rw [←hmm];exact Nat.le_trans (Fl.ki L _) HLL.out)
    have HWN:Hid (Fl.qb L (k+1)=decide (m=1)):=Lib.hid (by rw [Fl.qb,HW.out,decide_eq_false (p:=(k:Int)=1) (by omega),hmm];rfl)
    clear hmm
    go_wp2_with fail
    refine HOF.out.mono ?_
    rintro en w1 ⟨v1,rfl,⟨p1,c1,rfl,_,hm1,_⟩,hb1⟩
    rw [HMM.out] at hm1 ⊢
    have HNX1:=Lib.hid (HNX.out.trans (hb1.mono HNX.out.size))
    have hmb:=HMB.out
    clear hb1
    by_cases hm0:m=1
    ·subst hm0
     go_wp2
     go_roundw
     case rel=>exact ⟨k+1,by omega,by go_num,HNX1,Lib.hid (by rw [HWN.out];rfl)⟩
     case measure=>simp [intOf];omega
    ·have hmz:((m:Int) != 1)=true:=by simp;omega
     have HRF:Hid (R=false):=Lib.hid (by
      rw [←HR.out]
      have h0:Fl.qb L (k+1)=false:=by rw [HWN.out];exact decide_eq_false hm0
      have hstep:∀ q,Fl.qb L q=false→Fl.qb L (q+1)=false:=fun q hq=>by rw [Fl.qb,hq];rfl
      rcases (by omega:k=0∨k=1∨k=2∨k=3∨k=4) with rfl | rfl | rfl | rfl | rfl
      ·exact hstep _ (hstep _ (hstep _ (hstep _ h0)))
      ·exact hstep _ (hstep _ (hstep _ h0))
      ·exact hstep _ (hstep _ h0)
      ·exact hstep _ h0
      ·exact h0)
     go_wp2
     go_ret
     exact ⟨zk HRF.out.symm,HNX1.out⟩
  ·obtain rfl:k=5:=by omega
   have HRF:Hid (R=true):=Lib.hid (by rw [←HR.out,HW.out])
   go_wp2
   go_ret
   exact ⟨zk HRF.out.symm,HNX.out⟩
end Go.Proofs.YtdhfpgjnjlcciaaGreatDoor.Un
end
section
namespace Go.Proofs.YtdhfpgjnjlcciaaGreatDoor.Un
open Go.RowKit
theorem zdS:InfoE Tryz.prog 35 159 Fl.encF :=
 InfoE.of (z:=.agg #[.string ⟨#[]⟩,.int .i64 0]) (n:=24) Tryz.underlying35 (by kernel_rfl) (by kernel_rfl) (by decide)
theorem Y6:∀ (L:List Fl.Flow) (c:ByteArray),placeK Fl.Flow.code L c=G.placeK Fl.Flow.code L c
 | [],_=>rfl
 | a::L,c=>by
   have ih:=Y6 L c
   simp only [placeK,G.placeK]
   rw [ih];rfl
theorem za9 (L:List Fl.Flow) (x:Fl.Flow):insK Fl.Flow.code L x=G.insK Fl.Flow.code L x:=by
 unfold insK G.insK
 rw [Y6]
theorem X8:∀ (L:List Fl.Flow) (c:ByteArray),findK Fl.Flow.code L c=G.findK Fl.Flow.code L c
 | [],_=>rfl
 | a::L,c=>by
   have ih:=X8 L c
   simp only [findK,G.findK]
   rw [ih]
theorem zii {L:List Fl.Flow} {x:Fl.Flow} (hr:riseK Fl.Flow.code L=true) (h:Fl.findF L x.code=none):insK Fl.Flow.code L x=G.insR Fl.Flow.code L x:=by
 rw [za9,G.JQ (by rw [←XD];exact hr) (by rw [←X8];exact h)]
theorem zi2 {L:List Fl.Flow} {c:ByteArray} (h:(Fl.findF L c).isSome=false):∀ (j:Nat) (y:Fl.Flow),L[j]?=some y→y.code≠c:=fun j y hy e=>by
 cases hf:Fl.findF L c with
 | some z=>rw [hf] at h;cases h
 | none=>exact qH hf y (List.mem_of_getElem? hy) e
set_option maxRecDepth 100000 in
set_option maxHeartbeats 8000000 in
theorem zi5 (v:Value) (L:List Fl.Flow) (x:Fl.Flow) (w:World) (h:Fl.FlowsV w v L) (hr:riseK Fl.Flow.code L=true) (hL:L.length≤1000) :
 Calls Tryz.prog 99 #[v,Fl.aggL x] w (ZP Fl.encF w v (G.insR Fl.Flow.code L x) (Fl.addE L x)):=by
 have hB0:=(Below.refl w.heap.size w).alloc (Nat.le_refl _) (.cells (Fl.encF.cs x).toArray 159)
 have HX:=Lib.hid (BoxE.new Fl.encF w x 159)
 have HV:=Lib.hid (h.keep hB0)
 have HB:=Lib.hid hB0
 have HF:=Lib.hid (Jf v L x.code (w.alloc (.cells (Fl.encF.cs x).toArray 159)) HV.out)
 have HOF:=Lib.hid (fun W (hW:Fl.FlowsV W v L)=>Fl.Vq v L x.kind W hW hL)
 obtain ⟨p,c,e,hcap,hm,_,hc⟩:=HV.out
 subst e
 obtain ⟨n,hn⟩:∃ n,L.length=n:=⟨_,rfl⟩
 rw [hn] at hcap hL HV HF HOF ⊢
 obtain ⟨FA,hFA⟩:∃ FA,kindO' (Fl.findF L x.code)=FA:=⟨_,rfl⟩
 obtain ⟨IS,hIS⟩:∃ IS,(Fl.findF L x.code).isSome=IS:=⟨_,rfl⟩
 rw [hFA,hIS] at HF
 obtain ⟨RT,hRT⟩:∃ RT,Fl.rightF x=RT:=⟨_,rfl⟩
 have HRI:=Lib.hid (Fl.zV x)
 rw [hRT] at HRI
 obtain ⟨OF,hOF⟩:∃ OF,Fl.ofF L x.kind=OF:=⟨_,rfl⟩
 rw [hOF] at HOF
 obtain ⟨m,hmm⟩:∃ m,OF.length=m:=⟨_,rfl⟩
 have hmb:m≤n:=by rw [←hmm,←hOF,←hn];exact Fl.ki L _
 obtain ⟨N,hN⟩:∃ N,Fl.addE L x=N:=⟨_,rfl⟩
 rw [hN]
 have HNE:Hid (N=if RT=false then 1 else if (IS || (decide (x.kind≠1) && decide (0 < m)))=true then 7 else if 60≤n then 4 else 0):=Lib.hid (by
  rw [←hN,←hRT,←hIS,←hn,←hmm,←hOF,←(jE hr x.code).1];rfl)
 have HI:=Lib.hid zdS
 have HN:=Lib.hid hn
 have HMM:=Lib.hid hmm
 have HISV:=Lib.hid hIS
 unfold maxLen at hm
 obtain ⟨q0,q1⟩:=Fl.two HX.out.at0
 have HC0:=Lib.hid hc
 clear h hB0 hn hFA hIS hRT hN hc hmm hOF hr
 go_enter Tryz.func99,Tryz.ntmps99
 go_wp2_with fail
 refine HF.out.mono ?_
 rintro en w1 ⟨rfl,hb1⟩
 have HB1:=Lib.hid (HB.out.trans (hb1.mono HB.out.size))
 have HX1:=Lib.hid (HX.out.kept hb1)
 have HV1:=Lib.hid (HV.out.keep hb1)
 have HC1:=Lib.hid (kz HC0.out hb1)
 clear hb1 HF HB HX HV HC0 q0 q1
 obtain ⟨q0,q1⟩:=Fl.two HX1.out.at0
 go_wp2_with fail
 refine (HRI.out _).mono ?_
 rintro en w4 ⟨rfl,hb2⟩
 have HB2:=Lib.hid (HB1.out.trans (hb2.mono HB1.out.size))
 have HX2:=Lib.hid (HX1.out.kept hb2)
 have HV2:=Lib.hid (HV1.out.keep hb2)
 have HC2:=Lib.hid (kz HC1.out hb2)
 clear hb2 HX1 HV1 HB1 HC1 HRI q0 q1
 obtain ⟨q0,q1⟩:=Fl.two HX2.out.at0
 have hmz:(m:Int)≤1000:=by omega
 cases RT with
 | false =>
   have HRS:Hid (N=1):=Lib.hid (by rw [HNE.out,if_pos rfl])
   go_wp2
   go_ret2
   rw [HRS.out]
   exact ⟨_,rfl,fun _=>rfl,fun h=>absurd h (by decide),HB2.out⟩
 | true =>
   cases IS with
   | true =>
     have HRS:Hid (N=7):=Lib.hid (by rw [HNE.out];rfl)
     go_wp2
     go_ret2
     rw [HRS.out]
     exact ⟨_,rfl,fun _=>rfl,fun h=>absurd h (by decide),HB2.out⟩
   | false =>
     have HNO:=Lib.hid (zi2 HISV.out)
     clear HISV
     by_cases hk:x.kind=1
     ·have hkz:(x.kind != 1)=false:=by simp [hk]
      have HKK:Hid (decide (x.kind≠1)=false):=Lib.hid (by simp [hk])
      clear hk
      have HX3:=HX2
      have HV3:=HV2
      have HB3:=HB2
      have HC:=HC2
      by_cases h60:60≤n
      ·have HRS:Hid (N=4):=Lib.hid (by rw [HNE.out];simp only [HKK.out,Bool.false_and,Bool.or_self,Bool.false_eq_true,Bool.true_eq_false,if_false];exact if_pos h60)
       go_wp2
       go_ret2
       rw [HRS.out]
       exact ⟨_,rfl,fun _=>rfl,fun h=>absurd h (by decide),HB3.out⟩
      ·have HRS:Hid (N=0):=Lib.hid (by rw [HNE.out];simp only [HKK.out,Bool.false_and,Bool.or_self,Bool.false_eq_true,Bool.true_eq_false,if_false];exact if_neg h60)
       have HST:Hid (InsAt Fl.encF Fl.Flow.code 159 w4 w4 L x 0 (.slice none 0 0)):=Lib.hid ⟨World.ownsRow_nil _ _ _ _,Below.refl _ _,fun j y _ hy=>HNO.out j y hy⟩
       go_wp2
       go_loopw [8,9,10] (fun s6 s7 s8 wr=>∃ (i:Nat) (v6:Value),i≤n∧s8=.int .i64 (i:Int)∧v6=s6∧s7=.bool (G.doneR Fl.Flow.code (L.take i) x)∧Hid (InsAt Fl.encF Fl.Flow.code 159 w4 wr L x i v6)) (fun _ _ s8 _=>n - (intOf s8).toNat)
       case atStart=>exact ⟨0,_,Nat.zero_le _,rfl,rfl,rfl,HST⟩
       case round =>
        obtain ⟨i,v6,hi,rfl,rfl,rfl,HA⟩:=hrel
        by_cases hlt:i < n
        ·obtain ⟨y,hy⟩:∃ y,L[i]?=some y:=⟨_,List.getElem?_eq_getElem (by rw [HN.out];exact hlt)⟩
         obtain ⟨b,o,rfl,hat⟩:=HC.out i y hy
         obtain ⟨d0,d1⟩:=Fl.two (hat.keep HA.out.bel hat.lt)
         obtain ⟨q0,q1⟩:=Fl.two ((HX3.out.keep HA.out.bel HX3.out.lt).at0)
         have HY:=Lib.hid hy
         have HAT:=Lib.hid hat
         have HTK:Hid (L.take (i+1)=L.take i++[y]):=Lib.hid (by rw [List.take_succ_eq_append_getElem (by rw [HN.out];exact hlt),(List.getElem?_eq_some_iff.1 hy).2])
         obtain ⟨D,hD⟩:∃ D,G.doneR Fl.Flow.code (L.take i) x=D:=⟨_,rfl⟩
         have HD:=Lib.hid hD
         rw [hD]
         clear hy hat hD
         have HYE:=Lib.hid (HNO.out i y HY.out)
         cases D with
         | true =>
           go_wp2_with fail
           go_big_quiet (fail)
           have HA2:=Lib.hid (HA.out.drewN nq)
           clear d0 d1 q0 q1 HA
           generalize wr.drewN nq=w2 at *
           obtain ⟨d0,d1⟩:=Fl.two (HAT.out.keep HA2.out.bel HAT.out.lt)
           obtain ⟨q0,q1⟩:=Fl.two ((HX3.out.keep HA2.out.bel HX3.out.lt).at0)
           have HBN:=Lib.hid ((Below.refl w2.heap.size w2).alloc (Nat.le_refl _) (.cells (Fl.encF.cs y).toArray 159))
           go_wp2_with (at_builtin;refine zx (E:=Fl.encF) rfl _ _ 35 159 rfl HI.out w4.heap.size _ y w2.heap.size (HA2.out.own.alloc _) rfl (zf Fl.encF w2 y _) (by have:=HA2.out.bel.size;simp;omega) (zZ HN.out hL) ?_;intro v9 w9 hr9 hb9 hg9)
           have HA9:Hid (InsAt Fl.encF Fl.Flow.code 159 w4 w9 L x (i+1) v9):=Lib.hid ⟨by rw [HTK.out,G.kg y HD.out];exact hr9,(HA2.out.bel.trans (HBN.out.mono HA2.out.bel.size)).trans hb9,zU HA2.out.no HY.out HYE.out⟩
           have HD9:Hid (G.doneR Fl.Flow.code (L.take (i+1)) x=true):=Lib.hid (by rw [HTK.out,G.zO,HD.out];first | rfl | (rw [HLT.out];rfl))
           clear hr9 hb9 hg9 d0 d1 q0 q1
           go_wp2
           go_roundw
           case rel=>exact ⟨i+1,_,by omega,by go_num,rfl,by rw [HD9.out],HA9⟩
           case measure=>simp [intOf];omega
         | false =>
           cases hlx:gtS y.code x.code with
           | true =>
             have HLT:Hid (G.KeyO.lt (Fl.Flow.code x) (Fl.Flow.code y)=true):=Lib.hid ((qN _ _).1 hlx)
             unfold gtS ltS at hlx
             simp only [Bool.not_eq_true',Bool.or_eq_false_iff] at hlx
             obtain ⟨g1,g2⟩:=hlx
             go_wp2_with fail
             go_big_quiet (fail)
             clear g1 g2
             have HA2:=Lib.hid (HA.out.drewN nq)
             clear d0 d1 q0 q1 HA
             generalize wr.drewN nq=w2 at *
             obtain ⟨d0,d1⟩:=Fl.two (HAT.out.keep HA2.out.bel HAT.out.lt)
             obtain ⟨q0,q1⟩:=Fl.two ((HX3.out.keep HA2.out.bel HX3.out.lt).at0)
             have HBN:=Lib.hid ((Below.refl w2.heap.size w2).alloc (Nat.le_refl _) (.cells (Fl.encF.cs x).toArray 159))
             go_wp2_with (at_builtin;first
              | (refine zx (E:=Fl.encF) rfl _ _ 35 159 rfl HI.out w4.heap.size _ x w2.heap.size (HA2.out.own.alloc _) rfl (zf Fl.encF w2 x _) (by have:=HA2.out.bel.size;simp;omega) (zZ HN.out hL) ?_;intro v8 w8 hr8 hb8 hg8;have HB8:Hid (Below w4.heap.size w4 w8):=Lib.hid ((HA2.out.bel.trans (HBN.out.mono HA2.out.bel.size)).trans hb8);have HO8:=Lib.hid hr8;have HB9:=Lib.hid ((Below.refl w8.heap.size w8).alloc (Nat.le_refl _) (.cells (Fl.encF.cs y).toArray 159));clear d0 d1 q0 q1 hr8 hb8 hg8;obtain ⟨d0,d1⟩:=Fl.two (HAT.out.keep HB8.out HAT.out.lt))
              | (refine zx (E:=Fl.encF) rfl _ _ 35 159 rfl HI.out w4.heap.size _ y w8.heap.size (HO8.out.alloc _) rfl (zf Fl.encF w8 y _) (by have:=HB8.out.size;simp;omega) (kW HN.out hL) ?_;intro v9 w9 hr9 hb9 hg9)
              | fail)
             have HA9:Hid (InsAt Fl.encF Fl.Flow.code 159 w4 w9 L x (i+1) v9):=Lib.hid ⟨by rw [HTK.out,G.kK HD.out HLT.out];exact hr9,(HB8.out.trans (HB9.out.mono HB8.out.size)).trans hb9,zU HA2.out.no HY.out HYE.out⟩
             have HD9:Hid (G.doneR Fl.Flow.code (L.take (i+1)) x=true):=Lib.hid (by rw [HTK.out,G.zO,HD.out,HLT.out];rfl)
             clear hr9 hb9 hg9 d0 d1
             go_wp2
             go_roundw
             case rel=>exact ⟨i+1,_,by omega,by go_num,rfl,by rw [HD9.out],HA9⟩
             case measure=>simp [intOf];omega
           | false =>
             have HLT:Hid (G.KeyO.lt (Fl.Flow.code x) (Fl.Flow.code y)=false):=Lib.hid (by
              cases hh:G.KeyO.lt (Fl.Flow.code x) (Fl.Flow.code y) with
              | false=>rfl
              | true=>rw [(qN y.code x.code).2 hh] at hlx;cases hlx)
             unfold gtS ltS at hlx
             simp only [Bool.not_eq_false'] at hlx
             go_wp2_with fail
             go_big_quiet (fail)
             clear hlx
             have HA2:=Lib.hid (HA.out.drewN nq)
             clear d0 d1 q0 q1 HA
             generalize wr.drewN nq=w2 at *
             obtain ⟨d0,d1⟩:=Fl.two (HAT.out.keep HA2.out.bel HAT.out.lt)
             obtain ⟨q0,q1⟩:=Fl.two ((HX3.out.keep HA2.out.bel HX3.out.lt).at0)
             have HBN:=Lib.hid ((Below.refl w2.heap.size w2).alloc (Nat.le_refl _) (.cells (Fl.encF.cs y).toArray 159))
             go_wp2_with (at_builtin;refine zx (E:=Fl.encF) rfl _ _ 35 159 rfl HI.out w4.heap.size _ y w2.heap.size (HA2.out.own.alloc _) rfl (zf Fl.encF w2 y _) (by have:=HA2.out.bel.size;simp;omega) (zZ HN.out hL) ?_;intro v9 w9 hr9 hb9 hg9)
             have HA9:Hid (InsAt Fl.encF Fl.Flow.code 159 w4 w9 L x (i+1) v9):=Lib.hid ⟨by rw [HTK.out,G.k9 HD.out HLT.out];exact hr9,(HA2.out.bel.trans (HBN.out.mono HA2.out.bel.size)).trans hb9,zU HA2.out.no HY.out HYE.out⟩
             have HD9:Hid (G.doneR Fl.Flow.code (L.take (i+1)) x=false):=Lib.hid (by rw [HTK.out,G.zO,HD.out];first | rfl | (rw [HLT.out];rfl))
             clear hr9 hb9 hg9 d0 d1 q0 q1
             go_wp2
             go_roundw
             case rel=>exact ⟨i+1,_,by omega,by go_num,rfl,by rw [HD9.out],HA9⟩
             case measure=>simp [intOf];omega
        ·have hTA:Hid (L.take i=L):=Lib.hid (List.take_of_length_le (by rw [HN.out];omega))
         rw [hTA.out]
         obtain ⟨D,hD⟩:∃ D,G.doneR Fl.Flow.code L x=D:=⟨_,rfl⟩
         have HD:=Lib.hid hD
         rw [hD]
         clear hD
         have HO:=Lib.hid HA.out.own
         rw [hTA.out] at HO
         cases D with
         | true =>
           go_wp2
           go_ret2
           rw [HRS.out]
           exact ⟨_,rfl,fun h=>absurd rfl h,fun _=>⟨_,by rw [←G.vo HD.out];exact zw HO.out HB3.out.size⟩,HB3.out.trans (HA.out.bel.mono HB3.out.size)⟩
         | false =>
           obtain ⟨q0,q1⟩:=Fl.two ((HX3.out.keep HA.out.bel HX3.out.lt).at0)
           have HBN:=Lib.hid ((Below.refl wr.heap.size wr).alloc (Nat.le_refl _) (.cells (Fl.encF.cs x).toArray 159))
           go_wp2_with (at_builtin;refine zx (E:=Fl.encF) rfl _ _ 35 159 rfl HI.out w4.heap.size _ x wr.heap.size (HO.out.alloc _) rfl (zf Fl.encF wr x _) (by have:=HA.out.bel.size;simp;omega) (vN HN.out hL) ?_;intro v9 w9 hr9 hb9 hg9)
           have HO9:=Lib.hid hr9
           have HB9:=Lib.hid ((HA.out.bel.trans (HBN.out.mono HA.out.bel.size)).trans hb9)
           clear hr9 hb9 hg9 q0 q1
           go_wp2
           go_ret2
           rw [HRS.out]
           exact ⟨_,rfl,fun h=>absurd rfl h,fun _=>⟨_,by rw [←G.vJ HD.out];exact zw HO9.out HB3.out.size⟩,HB3.out.trans (HB9.out.mono HB3.out.size)⟩
     ·have hkz:(x.kind != 1)=true:=by simp [hk]
      have HKK:Hid (decide (x.kind≠1)=true):=Lib.hid (by simp [hk])
      clear hk
      go_wp2_with fail
      refine (HOF.out _ HV2.out).mono ?_
      rintro en w3 ⟨v3,rfl,⟨p3,c3,rfl,_,hm3,_⟩,hb3⟩
      rw [HMM.out] at hm3 ⊢
      have HB3:=Lib.hid (HB2.out.trans (hb3.mono HB2.out.size))
      have HX3:=Lib.hid (HX2.out.kept hb3)
      have HV3:=Lib.hid (HV2.out.keep hb3)
      have HC:=Lib.hid (kz HC2.out hb3)
      clear hb3 HX2 HV2 HB2 HC2 HOF q0 q1
      by_cases hm0:0 < m
      ·have hmp:decide ((0:Int) < (m:Int))=true:=decide_eq_true (by omega)
       have hmq:decide (0 < m)=true:=decide_eq_true hm0
       have HRS:Hid (N=7):=Lib.hid (by rw [HNE.out,HKK.out,decide_eq_true hm0];rfl)
       go_wp2
       go_ret2
       rw [HRS.out]
       exact ⟨_,rfl,fun _=>rfl,fun h=>absurd h (by decide),HB3.out⟩
      ·have hmp:decide ((0:Int) < (m:Int))=false:=decide_eq_false (by omega)
       have hmq:decide (0 < m)=false:=decide_eq_false hm0
       have HMZ:Hid (decide (0 < m)=false):=Lib.hid (decide_eq_false hm0)
       clear hm0
       by_cases h60:60≤n
       ·have HRS:Hid (N=4):=Lib.hid (by rw [HNE.out];simp only [HKK.out,HMZ.out,Bool.and_false,Bool.or_self,Bool.false_eq_true,Bool.true_eq_false,if_false];exact if_pos h60)
        go_wp2
        go_ret2
        rw [HRS.out]
        exact ⟨_,rfl,fun _=>rfl,fun h=>absurd h (by decide),HB3.out⟩
       ·have HRS:Hid (N=0):=Lib.hid (by rw [HNE.out];simp only [HKK.out,HMZ.out,Bool.and_false,Bool.or_self,Bool.false_eq_true,Bool.true_eq_false,if_false];exact if_neg h60)
        have HST:Hid (InsAt Fl.encF Fl.Flow.code 159 w3 w3 L x 0 (.slice none 0 0)):=Lib.hid ⟨World.ownsRow_nil _ _ _ _,Below.refl _ _,fun j y _ hy=>HNO.out j y hy⟩
        go_wp2
        go_loopw [8,9,10] (fun s6 s7 s8 wr=>∃ (i:Nat) (v6:Value),i≤n∧s8=.int .i64 (i:Int)∧v6=s6∧s7=.bool (G.doneR Fl.Flow.code (L.take i) x)∧Hid (InsAt Fl.encF Fl.Flow.code 159 w3 wr L x i v6)) (fun _ _ s8 _=>n - (intOf s8).toNat)
        case atStart=>exact ⟨0,_,Nat.zero_le _,rfl,rfl,rfl,HST⟩
        case round =>
         obtain ⟨i,v6,hi,rfl,rfl,rfl,HA⟩:=hrel
         by_cases hlt:i < n
         ·obtain ⟨y,hy⟩:∃ y,L[i]?=some y:=⟨_,List.getElem?_eq_getElem (by rw [HN.out];exact hlt)⟩
          obtain ⟨b,o,rfl,hat⟩:=HC.out i y hy
          obtain ⟨d0,d1⟩:=Fl.two (hat.keep HA.out.bel hat.lt)
          obtain ⟨q0,q1⟩:=Fl.two ((HX3.out.keep HA.out.bel HX3.out.lt).at0)
          have HY:=Lib.hid hy
          have HAT:=Lib.hid hat
          have HTK:Hid (L.take (i+1)=L.take i++[y]):=Lib.hid (by rw [List.take_succ_eq_append_getElem (by rw [HN.out];exact hlt),(List.getElem?_eq_some_iff.1 hy).2])
          obtain ⟨D,hD⟩:∃ D,G.doneR Fl.Flow.code (L.take i) x=D:=⟨_,rfl⟩
          have HD:=Lib.hid hD
          rw [hD]
          clear hy hat hD
          have HYE:=Lib.hid (HNO.out i y HY.out)
          cases D with
          | true =>
            go_wp2_with fail
            go_big_quiet (fail)
            have HA2:=Lib.hid (HA.out.drewN nq)
            clear d0 d1 q0 q1 HA
            generalize wr.drewN nq=w2 at *
            obtain ⟨d0,d1⟩:=Fl.two (HAT.out.keep HA2.out.bel HAT.out.lt)
            obtain ⟨q0,q1⟩:=Fl.two ((HX3.out.keep HA2.out.bel HX3.out.lt).at0)
            have HBN:=Lib.hid ((Below.refl w2.heap.size w2).alloc (Nat.le_refl _) (.cells (Fl.encF.cs y).toArray 159))
            go_wp2_with (at_builtin;refine zx (E:=Fl.encF) rfl _ _ 35 159 rfl HI.out w3.heap.size _ y w2.heap.size (HA2.out.own.alloc _) rfl (zf Fl.encF w2 y _) (by have:=HA2.out.bel.size;simp;omega) (zZ HN.out hL) ?_;intro v9 w9 hr9 hb9 hg9)
            have HA9:Hid (InsAt Fl.encF Fl.Flow.code 159 w3 w9 L x (i+1) v9):=Lib.hid ⟨by rw [HTK.out,G.kg y HD.out];exact hr9,(HA2.out.bel.trans (HBN.out.mono HA2.out.bel.size)).trans hb9,zU HA2.out.no HY.out HYE.out⟩
            have HD9:Hid (G.doneR Fl.Flow.code (L.take (i+1)) x=true):=Lib.hid (by rw [HTK.out,G.zO,HD.out];first | rfl | (rw [HLT.out];rfl))
            clear hr9 hb9 hg9 d0 d1 q0 q1
            go_wp2
            go_roundw
            case rel=>exact ⟨i+1,_,by omega,by go_num,rfl,by rw [HD9.out],HA9⟩
            case measure=>simp [intOf];omega
          | false =>
            cases hlx:gtS y.code x.code with
            | true =>
              have HLT:Hid (G.KeyO.lt (Fl.Flow.code x) (Fl.Flow.code y)=true):=Lib.hid ((qN _ _).1 hlx)
              unfold gtS ltS at hlx
              simp only [Bool.not_eq_true',Bool.or_eq_false_iff] at hlx
              obtain ⟨g1,g2⟩:=hlx
              go_wp2_with fail
              go_big_quiet (fail)
              clear g1 g2
              have HA2:=Lib.hid (HA.out.drewN nq)
              clear d0 d1 q0 q1 HA
              generalize wr.drewN nq=w2 at *
              obtain ⟨d0,d1⟩:=Fl.two (HAT.out.keep HA2.out.bel HAT.out.lt)
              obtain ⟨q0,q1⟩:=Fl.two ((HX3.out.keep HA2.out.bel HX3.out.lt).at0)
              have HBN:=Lib.hid ((Below.refl w2.heap.size w2).alloc (Nat.le_refl _) (.cells (Fl.encF.cs x).toArray 159))
              go_wp2_with (at_builtin;first
               | (refine zx (E:=Fl.encF) rfl _ _ 35 159 rfl HI.out w3.heap.size _ x w2.heap.size (HA2.out.own.alloc _) rfl (zf Fl.encF w2 x _) (by have:=HA2.out.bel.size;simp;omega) (zZ HN.out hL) ?_;intro v8 w8 hr8 hb8 hg8;have HB8:Hid (Below w3.heap.size w3 w8):=Lib.hid ((HA2.out.bel.trans (HBN.out.mono HA2.out.bel.size)).trans hb8);have HO8:=Lib.hid hr8;have HB9:=Lib.hid ((Below.refl w8.heap.size w8).alloc (Nat.le_refl _) (.cells (Fl.encF.cs y).toArray 159));clear d0 d1 q0 q1 hr8 hb8 hg8;obtain ⟨d0,d1⟩:=Fl.two (HAT.out.keep HB8.out HAT.out.lt))
               | (refine zx (E:=Fl.encF) rfl _ _ 35 159 rfl HI.out w3.heap.size _ y w8.heap.size (HO8.out.alloc _) rfl (zf Fl.encF w8 y _) (by have:=HB8.out.size;simp;omega) (kW HN.out hL) ?_;intro v9 w9 hr9 hb9 hg9)
               | fail)
              have HA9:Hid (InsAt Fl.encF Fl.Flow.code 159 w3 w9 L x (i+1) v9):=Lib.hid ⟨by rw [HTK.out,G.kK HD.out HLT.out];exact hr9,(HB8.out.trans (HB9.out.mono HB8.out.size)).trans hb9,zU HA2.out.no HY.out HYE.out⟩
              have HD9:Hid (G.doneR Fl.Flow.code (L.take (i+1)) x=true):=Lib.hid (by rw [HTK.out,G.zO,HD.out,HLT.out];rfl)
              clear hr9 hb9 hg9 d0 d1
              go_wp2
              go_roundw
              case rel=>exact ⟨i+1,_,by omega,by go_num,rfl,by rw [HD9.out],HA9⟩
              case measure=>simp [intOf];omega
            | false =>
              have HLT:Hid (G.KeyO.lt (Fl.Flow.code x) (Fl.Flow.code y)=false):=Lib.hid (by
               cases hh:G.KeyO.lt (Fl.Flow.code x) (Fl.Flow.code y) with
               | false=>rfl
               | true=>rw [(qN y.code x.code).2 hh] at hlx;cases hlx)
              unfold gtS ltS at hlx
              simp only [Bool.not_eq_false'] at hlx
              go_wp2_with fail
              go_big_quiet (fail)
              clear hlx
              have HA2:=Lib.hid (HA.out.drewN nq)
              clear d0 d1 q0 q1 HA
              generalize wr.drewN nq=w2 at *
              obtain ⟨d0,d1⟩:=Fl.two (HAT.out.keep HA2.out.bel HAT.out.lt)
              obtain ⟨q0,q1⟩:=Fl.two ((HX3.out.keep HA2.out.bel HX3.out.lt).at0)
              have HBN:=Lib.hid ((Below.refl w2.heap.size w2).alloc (Nat.le_refl _) (.cells (Fl.encF.cs y).toArray 159))
              go_wp2_with (at_builtin;refine zx (E:=Fl.encF) rfl _ _ 35 159 rfl HI.out w3.heap.size _ y w2.heap.size (HA2.out.own.alloc _) rfl (zf Fl.encF w2 y _) (by have:=HA2.out.bel.size;simp;omega) (zZ HN.out hL) ?_;intro v9 w9 hr9 hb9 hg9)
              have HA9:Hid (InsAt Fl.encF Fl.Flow.code 159 w3 w9 L x (i+1) v9):=Lib.hid ⟨by rw [HTK.out,G.k9 HD.out HLT.out];exact hr9,(HA2.out.bel.trans (HBN.out.mono HA2.out.bel.size)).trans hb9,zU HA2.out.no HY.out HYE.out⟩
              have HD9:Hid (G.doneR Fl.Flow.code (L.take (i+1)) x=false):=Lib.hid (by rw [HTK.out,G.zO,HD.out];first | rfl | (rw [HLT.out];rfl))
              clear hr9 hb9 hg9 d0 d1 q0 q1
              go_wp2
              go_roundw
              case rel=>exact ⟨i+1,_,by omega,by go_num,rfl,by rw [HD9.out],HA9⟩
              case measure=>simp [intOf];omega
         ·have hTA:Hid (L.take i=L):=Lib.hid (List.take_of_length_le (by rw [HN.out];omega))
          rw [hTA.out]
          obtain ⟨D,hD⟩:∃ D,G.doneR Fl.Flow.code L x=D:=⟨_,rfl⟩
          have HD:=Lib.hid hD
          rw [hD]
          clear hD
          have HO:=Lib.hid HA.out.own
          rw [hTA.out] at HO
          cases D with
          | true =>
            go_wp2
            go_ret2
            rw [HRS.out]
            exact ⟨_,rfl,fun h=>absurd rfl h,fun _=>⟨_,by rw [←G.vo HD.out];exact zw HO.out HB3.out.size⟩,HB3.out.trans (HA.out.bel.mono HB3.out.size)⟩
          | false =>
            obtain ⟨q0,q1⟩:=Fl.two ((HX3.out.keep HA.out.bel HX3.out.lt).at0)
            have HBN:=Lib.hid ((Below.refl wr.heap.size wr).alloc (Nat.le_refl _) (.cells (Fl.encF.cs x).toArray 159))
            go_wp2_with (at_builtin;refine zx (E:=Fl.encF) rfl _ _ 35 159 rfl HI.out w3.heap.size _ x wr.heap.size (HO.out.alloc _) rfl (zf Fl.encF wr x _) (by have:=HA.out.bel.size;simp;omega) (vN HN.out hL) ?_;intro v9 w9 hr9 hb9 hg9)
            have HO9:=Lib.hid hr9
            have HB9:=Lib.hid ((HA.out.bel.trans (HBN.out.mono HA.out.bel.size)).trans hb9)
            clear hr9 hb9 hg9 q0 q1
            go_wp2
            go_ret2
            rw [HRS.out]
            exact ⟨_,rfl,fun h=>absurd rfl h,fun _=>⟨_,by rw [←G.vJ HD.out];exact zw HO9.out HB3.out.size⟩,HB3.out.trans (HB9.out.mono HB3.out.size)⟩
end Go.Proofs.YtdhfpgjnjlcciaaGreatDoor.Un
end
section
namespace Go.Proofs.YtdhfpgjnjlcciaaGreatDoor.Fl
open Go.RowKit
theorem zhD {f:Flow} {ws:List ByteArray} (hr:rightF f=true) (h:wordsF f=ws):parseF ws=(f,0):=by rw [←h];exact Yv hr
theorem zg7 {x c y:ByteArray} (h:∀ k:Nat,k < 5→¬ (rightF ⟨c,(k:Int)⟩=true∧wordsF ⟨c,(k:Int)⟩=[x,c,y])):parseF [x,c,y]=(zeroF,5):=by
 rcases kY [x,c,y] with h' | ⟨h1,h2,_⟩
 ·exact h'
 ·exfalso
  have hk:=(qf h2).2
  obtain ⟨f,hf⟩:∃ f,(parseF [x,c,y]).1=f:=⟨_,rfl⟩
  rw [hf] at h1 h2 hk
  have hc:f.code=c:=by
   rw [xM h2] at h1
   simp only [List.cons.injEq] at h1
   exact h1.2.1
  obtain ⟨co,k⟩:=f
  simp only at hc hk
  subst hc
  refine h k.toNat (by omega) ?_
  rw [show ((k.toNat:Nat):Int)=k by omega]
  exact ⟨h2,h1⟩
set_option maxRecDepth 100000 in
set_option maxHeartbeats 8000000 in
theorem Qp (v:Value) (ws:List ByteArray) (w:World) (h:StrsV w v ws) :
 Calls Tryz.prog 98 #[v] w fun e w'=>e=.returned (.tuple #[aggL (parseF ws).1,.int .i64 (parseF ws).2])∧Below w.heap.size w w':=by
 have HV:=Lib.hid h
 obtain ⟨p,c,rfl,hcap,hm,hc⟩:=h
 have HB0:=Lib.hid ((Below.refl w.heap.size w).alloc (Nat.le_refl _) (.cells zc 159))
 have HX0:=Lib.hid (BoxE.new encF w zeroF 159)
 by_cases h3:ws.length=3
 ·match ws,h3 with
  | [x0,x1,x2],_ =>
    obtain ⟨b,o,e',k1⟩:=hc 1 x1 rfl
    cases e'
    have HK1:=Lib.hid k1
    obtain ⟨R,hR⟩:∃ R,parseF [x0,x1,x2]=R:=⟨_,rfl⟩
    rw [hR]
    have HR:=Lib.hid hR
    have HV0:Hid (StrsV w (.slice (some ⟨b,o,none⟩) 3 c) [x0,x1,x2]):=HV
    clear hc k1 hm hcap HV hR
    show Calls _ _ #[.slice (some ⟨b,o,none⟩) 3 c] _ _
    go_enter Tryz.func98,Tryz.ntmps98
    go_wp2
    go_loopw [4] (fun s4 wr=>∃ k:Nat,k≤5∧s4=.int .i64 (k:Int)∧Below w.heap.size w wr∧BoxE encF wr w.heap.size 159 zeroF∧Hid (∀ j:Nat,j < k→¬ (rightF ⟨x1,(j:Int)⟩=true∧wordsF ⟨x1,(j:Int)⟩=[x0,x1,x2]))) (fun s4 _=>5 - (intOf s4).toNat)
    case atStart=>exact ⟨0,by omega,rfl,HB0.out,HX0.out,Lib.hid fun j hj=>absurd hj (Nat.not_lt_zero _)⟩
    case round =>
     obtain ⟨k,hk5,rfl,hnx,hbx,HNO⟩:=hrel
     have HNX:=Lib.hid hnx
     have HBX:=Lib.hid hbx
     have HS:Hid (w.heap.size < wr.heap.size):=Lib.hid hbx.lt
     clear hnx hbx
     by_cases hlt:k < 5
     ·have c1:=jT HNX.out HK1.out
      obtain ⟨f,hf⟩:∃ f:Flow,(⟨x1,(k:Int)⟩:Flow)=f:=⟨_,rfl⟩
      have hba:=(Below.refl wr.heap.size wr).alloc (Nat.le_refl _) (.cells #[.string x1,.int .i64 (k:Int)] 159)
      have HNA:=Lib.hid (HNX.out.trans (hba.mono HNX.out.size))
      have HBA:=Lib.hid (HBX.out.kept hba)
      have HFA:=Lib.hid (BoxE.new encF wr ⟨x1,(k:Int)⟩ 159)
      obtain ⟨r,hr⟩:∃ r,rightF ⟨x1,(k:Int)⟩=r:=⟨_,rfl⟩
      have HRR:=Lib.hid (zV ⟨x1,(k:Int)⟩)
      rw [hr] at HRR
      have HRV:=Lib.hid hr
      clear hr hba hf
      go_wp2_with fail
      clear c1
      refine (HRR.out _).mono ?_
      rintro e w2 ⟨rfl,hb2⟩
      have HN2:=Lib.hid (HNA.out.trans (hb2.mono HNA.out.size))
      have HB2:=Lib.hid (HBA.out.kept hb2)
      have HF2:=Lib.hid (HFA.out.kept hb2)
      clear hb2 HNA HBA HFA
      cases r with
      | false =>
        go_wp2
        go_roundw
        case rel=>exact ⟨k+1,by omega,by go_num,HN2.out,HB2.out,Lib.hid fun j hj hh=>by
         rcases Nat.lt_or_ge j k with h | h
         ·exact HNO.out j h hh
         ·obtain rfl:j=k:=by omega
          rw [HRV.out] at hh;cases hh.1⟩
        case measure=>simp [intOf];omega
      | true =>
        obtain ⟨d0,d1⟩:=box HF2.out
        simp only at d0 d1
        go_wp2_with fail
        clear d0 d1
        refine (js ⟨x1,(k:Int)⟩ w2).mono ?_
        rintro e w3 ⟨v3,rfl,hs3,hb3⟩
        have HN3:=Lib.hid (HN2.out.trans (hb3.mono HN2.out.size))
        have HB3:=Lib.hid (HB2.out.kept hb3)
        have HF3:=Lib.hid (HF2.out.kept hb3)
        have HS3:=Lib.hid hs3
        have HV3:=Lib.hid (HV0.out.keep HN3.out)
        clear hb3 hs3 HN2 HB2 HF2
        go_wp2_with fail
        refine (vg _ _ _ _ _ HS3.out HV3.out).mono ?_
        rintro e w4 ⟨rfl,q,hq⟩
        have HN4:Hid (Below w.heap.size w w4):=Lib.hid (by rw [hq];exact below_drewN' HN3.out q)
        have HB4:Hid (BoxE encF w4 w.heap.size 159 zeroF):=Lib.hid (by rw [hq];exact HB3.out)
        have HF4:Hid (BoxE encF w4 wr.heap.size 159 ⟨x1,(k:Int)⟩):=Lib.hid (by rw [hq];exact HF3.out)
        clear hq
        by_cases hw:wordsF ⟨x1,(k:Int)⟩=[x0,x1,x2]
        ·have hsm:Hid (sameW (wordsF ⟨x1,(k:Int)⟩) [x0,x1,x2]=true):=Lib.hid (decide_eq_true hw)
         have hRR:Hid (R=(⟨x1,(k:Int)⟩,0)):=Lib.hid (by rw [←HR.out];exact zhD HRV.out hw)
         rw [hsm.out]
         clear hw
         obtain ⟨d0,d1⟩:=box HF4.out
         simp only at d0 d1
         go_wp2_with (refine zY (E:=encF) rfl 159 (.tmp 2) (.tmp 28) rfl w.heap.size zeroF ⟨x1,(k:Int)⟩ 159 rfl rfl HB4.out (by kernel_rfl) ?_;intro w8 hb8 hg8)
         have HF:=Lib.hid (HN4.out.grown hg8 HN4.out.size (fun j hj=>by cases hj;exact Nat.le_refl _))
         obtain ⟨t0,t1⟩:=box hb8
         simp only at t0 t1
         clear hb8 hg8
         refine bodyPost_ret (v:=.tuple #[aggL ⟨x1,(k:Int)⟩,.int .i64 0]) (by simp [results,Tryz.results98,go_sem,t0,t1]) rfl ⟨by rw [hRR.out],HF.out⟩
        ·have hsm:Hid (sameW (wordsF ⟨x1,(k:Int)⟩) [x0,x1,x2]=false):=Lib.hid (decide_eq_false hw)
         have HNW:=Lib.hid hw
         rw [hsm.out]
         clear hw
         go_wp2
         go_roundw
         case rel=>exact ⟨k+1,by omega,by go_num,HN4.out,HB4.out,Lib.hid fun j hj hh=>by
          rcases Nat.lt_or_ge j k with h | h
          ·exact HNO.out j h hh
          ·obtain rfl:j=k:=by omega
           exact HNW.out hh.2⟩
         case measure=>simp [intOf];omega
     ·obtain rfl:k=5:=by omega
      have hRR:Hid (R=(zeroF,5)):=Lib.hid (by rw [←HR.out];exact zg7 HNO.out)
      clear hlt
      go_wp2_with (refine zY (E:=encF) rfl 159 (.tmp 2) (.tmp 29) rfl w.heap.size zeroF zeroF 159 rfl rfl HBX.out (by kernel_rfl) ?_;intro w8 hb8 hg8)
      have HF:=Lib.hid (HNX.out.grown hg8 HNX.out.size (fun j hj=>by cases hj;exact Nat.le_refl _))
      obtain ⟨t0,t1⟩:=box hb8
      clear hb8 hg8
      refine bodyPost_ret (v:=.tuple #[aggL zeroF,.int .i64 5]) (by simp [results,Tryz.results98,go_sem,t0,t1]) rfl ⟨by rw [hRR.out],HF.out⟩
 ·have HP:=Lib.hid (zac h3)
  rw [HP.out]
  obtain ⟨n,hn⟩:∃ n,ws.length=n:=⟨_,rfl⟩
  rw [hn] at h3 hcap hm ⊢
  unfold maxLen at hm
  have hnz:((n:Int)==3)=false:=by simp;omega
  clear hc hn h3 HV
  go_enter Tryz.func98,Tryz.ntmps98
  go_wp2
  refine wp_loop_rounds 1 ?_
  rw [rounds_succ]
  go_wp2
  refine bodyPost_ret (v:=.tuple #[aggL zeroF,.int .i64 5]) (by simp [results,Tryz.results98,go_sem,zeroF]) rfl ⟨rfl,HB0.out⟩
end Go.Proofs.YtdhfpgjnjlcciaaGreatDoor.Fl
end
section
namespace Go.Proofs.YtdhfpgjnjlcciaaGreatDoor.Un
open Go.RowKit
theorem zgM {M:Mast} {ws:List ByteArray} (h0:wd ws 0=zb):stepE M ws=(if (parseA ws).2=0 then addE M.chart (parseA ws).1 else (parseA ws).2)∧stepV M ws={ M with chart:=insL M.chart (parseA ws).1 }:=by
 refine ⟨?_,?_⟩
 ·unfold stepE;rw [if_pos h0]
 ·unfold stepV;rw [if_pos h0]
theorem zbt {M:Mast} {ws:List ByteArray} (h0:wd ws 0=Fl.tFlow):stepE M ws=(if (Fl.parseF ws).2=0 then Fl.addE M.flows (Fl.parseF ws).1 else (Fl.parseF ws).2)∧stepV M ws={ M with flows:=insK Fl.Flow.code M.flows (Fl.parseF ws).1 }:=by
 refine ⟨?_,?_⟩
 ·unfold stepE;rw [if_neg (by rw [h0];decide),if_pos h0]
 ·unfold stepV;rw [if_neg (by rw [h0];decide),if_pos h0]
set_option maxRecDepth 100000 in
set_option maxHeartbeats 16000000 in
theorem zdb (v c f e l:Value) (ws:List ByteArray) (M:Mast) (w:World) (hm:MastIn w c f e l M) (hs:Sane M) (hv:StrsV w v ws) (hx:ws[0]?=some zb) :
 Calls Tryz.prog 62 #[aggM c f e l M,v] w (qg w c f e l M ws):=by
 obtain ⟨pc,cc,ec,_⟩:=hm.chart
 subst ec
 have hlen:M.chart.length≤1000:=by have:=hs.lc;omega
 have HS:=Lib.hid (ye w hm)
 have HPR:=Lib.hid (Qp v ws (two0 w (.slice pc M.chart.length cc) f e l M) (hv.keep HS.out.bel))
 have HM:=Lib.hid hm
 have HO:=Lib.hid (jJ hm)
 obtain ⟨s1,s2⟩:=zgM (M:=M) (ws:=ws) (jd hx)
 obtain ⟨A,hA⟩:∃ A,(parseA ws).1=A:=⟨_,rfl⟩
 obtain ⟨n1,hn1⟩:∃ n,(parseA ws).2=n:=⟨_,rfl⟩
 rw [hA,hn1] at HPR s1
 rw [hA] at s2
 obtain ⟨n,hn⟩:∃ n,addE M.chart A=n:=⟨_,rfl⟩
 obtain ⟨R,hR⟩:∃ R,G.insR Acct.code M.chart A=R:=⟨_,rfl⟩
 rw [hn] at s1
 rw [YR,hR] at s2
 have HCA:=Lib.hid (fun W h=>zbL (.slice pc M.chart.length cc) M.chart A W h hlen)
 rw [hn,hR] at HCA
 obtain ⟨N,hN⟩:∃ N,stepE M ws=N:=⟨_,rfl⟩
 have HNE:=Lib.hid s1
 have HV2:=Lib.hid s2
 rw [hN] at HNE
 unfold qg
 rw [hN]
 obtain ⟨p,cp,rfl,hcap,hml,hc⟩:=hv
 obtain ⟨g,o,rfl,x0⟩:=hc 0 zb hx
 rw [Nat.add_zero] at x0
 have y0:=cell_later HS.out.bel x0
 obtain ⟨nw,hnw⟩:∃ nw,ws.length=nw:=⟨_,rfl⟩
 have hw0:0 < nw:=by rw [←hnw];exact (List.getElem?_eq_some_iff.1 hx).1
 rw [hnw] at HPR hcap hml ⊢
 have gt:(zb.toList==[97,99,99,111,117,110,116])=true:=by rw [vZ];decide
 clear hm hs hc hx hlen s1 s2 hA hn1 hn hR hN x0 hnw
 go_enter Tryz.func62,Tryz.ntmps62
 go_wp2_with fail
 refine HPR.out.mono ?_
 rintro en w1 ⟨rfl,hb1⟩
 have HS1:=Lib.hid (HS.out.below hb1)
 have HBA:=Lib.hid ((Below.refl w1.heap.size w1).alloc (Nat.le_refl _) (.cells (encA.cs zeroA).toArray 151))
 clear hb1 y0 gt
 by_cases h1:n1=0
 ·subst h1
  have HNN:Hid (N=n):=Lib.hid (by rw [HNE.out,if_pos rfl])
  go_wp2_with (refine qp rfl 151 (.tmp 6) (.tmp 22) rfl w1.heap.size zeroA A 151 rfl rfl (BoxA.new w1 zeroA _) (by kernel_rfl) ?_;intro w2 hb2 hg2;have HG2:Hid (Below w1.heap.size w1 w2):=Lib.hid (HBA.out.grown hg2 HBA.out.size (fun j hj=>by cases hj;exact Nat.le_refl _));have HX2:=Lib.hid hb2;clear hb2 hg2;have HS2:=Lib.hid (HS1.out.below HG2.out);have hk:=HS2.out.box.nine.c0;obtain ⟨q0,q1,q2,q3,q4,q5⟩:=HX2.out.facts)
  refine (HCA.out w2 (jR.1 HS2.out.mast.chart)).mono ?_
  rintro en w3 ⟨v3,rfl,ho3,hn3,hb3⟩
  obtain ⟨p3,m3,cp3,rfl⟩:=ZV ho3 hn3
  have HO3:=Lib.hid ho3
  have HN3:=Lib.hid hn3
  have HS3:=Lib.hid (HS2.out.below hb3)
  have hB2:=HS2.out.bel.size
  have hk3:=HS3.out.box.nine.c0
  have hf3:=vA HS3.out.box 0
  obtain ⟨W2,hW2⟩:∃ W2,w3.setCell ⟨w.heap.size,0,none⟩ (.slice p3 m3 cp3)=W2:=⟨_,rfl⟩
  have HG4:Hid (w3.grownBy W2 (some w.heap.size)):=Lib.hid (by rw [←hW2];exact vG w3 w.heap.size 0 (.slice p3 m3 cp3))
  have HW2:Hid (Below w.heap.size w W2):=Lib.hid (by rw [←hW2];exact xq HS3.out.bel 0 _)
  obtain ⟨M2,hM2⟩:∃ M2:Mast,{ M with chart:=R }=M2:=⟨_,rfl⟩
  have HB2:Hid (BoxM W2 w.heap.size 39 (.slice p3 m3 cp3) f e l M2):=Lib.hid (by rw [←hW2,←hM2];exact vR HS3.out.box rfl)
  have HR2:Hid (BoxM W2 (w.heap.size+1) 39 nil4 nil4 nil4 nil4 zeroM):=Lib.hid ((HG4.out.block _ HS3.out.res.lt (by simp)).trans HS3.out.res)
  have HM2:Hid (M2.flows=M.flows∧M2.ents=M.ents∧M2.lines=M.lines∧M2.chart=R):=Lib.hid (by rw [←hM2];exact ⟨rfl,rfl,rfl,rfl⟩)
  have HMM:=Lib.hid hM2
  have HO2:Hid (Ones (.slice p3 m3 cp3) f e l):=Lib.hid ⟨rfl,HO.out.f,HO.out.e,HO.out.l⟩
  clear ho3 hn3 hb3 hM2 hk q0 q1 q2 q3 q4 q5
  obtain ⟨k0,k1,k2,k3,k4,k5,k6,k7,k8⟩:=HB2.out.nine
  go_wp2_with (refine zi rfl 39 (.tmp 4) (.tmp 37) rfl (w.heap.size+1) nil4 nil4 nil4 nil4 (.slice p3 m3 cp3) f e l zeroM M2 39 rfl rfl HR2.out HO2.out (by kernel_rfl) ?_;intro w4 hb4 hg4)
  clear k0 k1 k2 k3 k4 k5 k6 k7 k8 hk3 hf3 hW2
  have HBG:=Lib.hid (HW2.out.grown hg4 HW2.out.size (fun j hj=>by cases hj;exact Nat.le_succ _))
  have HX4:Hid (n=0→ElsV encA w4 (.slice p3 m3 cp3) M2.chart):=Lib.hid (fun h0=>by
   obtain ⟨t,hr⟩:=HN3.out h0
   have h2:=(hr.kept HG4.out (.inr (fun e0=>by
    rcases hr.2 with ⟨e,_⟩ | ⟨g',_,_,e,hge,_⟩
    ·cases e;simp [Value.ownBlock] at e0
    ·cases e
     have h3:g'=w.heap.size:=by simpa [Value.ownBlock] using e0
     have:=HS2.out.box.lt
     omega))).kept hg4 (.inr (fun e0=>by
    rcases hr.2 with ⟨e,_⟩ | ⟨g',_,_,e,hge,_⟩
    ·cases e;simp [Value.ownBlock] at e0
    ·cases e
     have h3:g'=w.heap.size+1:=by simpa [Value.ownBlock] using e0
     have:=HS2.out.res.lt
     omega))
   rw [HM2.out.2.2.2]
   exact zq h2)
  obtain ⟨c0,c1,c2,c3,c4,c5,c6,c7,c8⟩:=hb4.nine
  clear hb4 hg4
  refine bodyPost_ret (v:=.tuple #[aggM (.slice p3 m3 cp3) f e l M2,.int .i64 n]) (by simp [results,Tryz.results62,go_sem,c0,c1,c2,c3,c4,c5,c6,c7,c8]) rfl ⟨_,_,_,_,M2,by rw [HNN.out],fun h0=>⟨?_,?_⟩,HO2.out,⟨Off1.told HO3.out HN3.out HS2.out.bel.size,Off1.refl _ _,Off1.refl _ _,Off1.refl _ _⟩,HBG.out⟩
  ·rw [HV2.out];exact HMM.out.symm
  ·have hk:=HM.out.keep HBG.out
   obtain ⟨m1,m2,m3,_⟩:=HM2.out
   exact ⟨jR.2 (HX4.out (by rw [←HNN.out];exact h0)),by rw [m1];exact hk.flows,by rw [m2];exact hk.ents,by rw [m3];exact hk.lines⟩
 ·have HNN:Hid (N=n1):=Lib.hid (by rw [HNE.out,if_neg h1])
  have h1z:(n1 != 0)=true:=by simp [h1]
  go_wp2_with (first
   | (refine qp rfl 151 (.tmp 6) (.tmp 22) rfl w1.heap.size zeroA A 151 rfl rfl (BoxA.new w1 zeroA _) (by kernel_rfl) ?_;intro w2 hb2 hg2;have HG2:Hid (Below w1.heap.size w1 w2):=Lib.hid (HBA.out.grown hg2 HBA.out.size (fun j hj=>by cases hj;exact Nat.le_refl _));have HX2:=Lib.hid hb2;clear hb2 hg2;have HS2:=Lib.hid (HS1.out.below HG2.out);obtain ⟨k0,k1,k2,k3,k4,k5,k6,k7,k8⟩:=HS2.out.box.nine)
   | (refine zi rfl 39 (.tmp 4) (.tmp 26) rfl (w.heap.size+1) nil4 nil4 nil4 nil4 (.slice pc M.chart.length cc) f e l zeroM M 39 rfl rfl HS2.out.res HO.out (by kernel_rfl) ?_;intro w4 hb4 hg4)
   | fail)
  clear k0 k1 k2 k3 k4 k5 k6 k7 k8
  have HBG:=Lib.hid (HS2.out.bel.grown hg4 HS2.out.bel.size (fun j hj=>by cases hj;exact Nat.le_succ _))
  obtain ⟨c0,c1,c2,c3,c4,c5,c6,c7,c8⟩:=hb4.nine
  clear hb4 hg4
  exact bodyPost_ret (v:=.tuple #[aggM (.slice pc M.chart.length cc) f e l M,.int .i64 n1]) (by simp [results,Tryz.results62,go_sem,c0,c1,c2,c3,c4,c5,c6,c7,c8]) rfl ⟨_,_,_,_,M,by rw [HNN.out],(fun h=>absurd (HNN.out.symm.trans h) h1),HO.out,Off4.refl _ _ _ _ _,HBG.out⟩
set_option maxRecDepth 100000 in
set_option maxHeartbeats 16000000 in
theorem zgw (v c f e l:Value) (ws:List ByteArray) (M:Mast) (w:World) (hm:MastIn w c f e l M) (hs:Sane M) (hv:StrsV w v ws) (hx:ws[0]?=some Fl.tFlow) :
 Calls Tryz.prog 62 #[aggM c f e l M,v] w (qg w c f e l M ws):=by
 obtain ⟨pf,cf,ef,_⟩:=hm.flows
 subst ef
 have hlen:M.flows.length≤1000:=by have:=hs.lf;omega
 have HS:=Lib.hid (ye w hm)
 have HPR:=Lib.hid (Fl.Qp v ws (two0 w c (.slice pf M.flows.length cf) e l M) (hv.keep HS.out.bel))
 have HM:=Lib.hid hm
 have HO:=Lib.hid (jJ hm)
 obtain ⟨s1,s2⟩:=zbt (M:=M) (ws:=ws) (jd hx)
 obtain ⟨A,hA⟩:∃ A,(Fl.parseF ws).1=A:=⟨_,rfl⟩
 obtain ⟨n1,hn1⟩:∃ n,(Fl.parseF ws).2=n:=⟨_,rfl⟩
 rw [hA,hn1] at HPR s1
 rw [hA] at s2
 obtain ⟨n,hn⟩:∃ n,Fl.addE M.flows A=n:=⟨_,rfl⟩
 obtain ⟨R,hR⟩:∃ R,G.insR Fl.Flow.code M.flows A=R:=⟨_,rfl⟩
 rw [hn] at s1
 have hri:=Fl.qm hs.fl
 have HIN:Hid (n=0→insK Fl.Flow.code M.flows A=R):=Lib.hid (fun h0=>by
  rw [←hn] at h0
  rw [zii hri (Fl.xI hri h0).2.1,hR])
 have HCA:=Lib.hid (fun W h=>zi5 (.slice pf M.flows.length cf) M.flows A W h hri hlen)
 rw [hn,hR] at HCA
 obtain ⟨N,hN⟩:∃ N,stepE M ws=N:=⟨_,rfl⟩
 have HNE:=Lib.hid s1
 have HV2:=Lib.hid s2
 rw [hN] at HNE
 unfold qg
 rw [hN]
 obtain ⟨p,cp,rfl,hcap,hml,hc⟩:=hv
 obtain ⟨g,o,rfl,x0⟩:=hc 0 Fl.tFlow hx
 rw [Nat.add_zero] at x0
 have y0:=cell_later HS.out.bel x0
 obtain ⟨nw,hnw⟩:∃ nw,ws.length=nw:=⟨_,rfl⟩
 have hw0:0 < nw:=by rw [←hnw];exact (List.getElem?_eq_some_iff.1 hx).1
 rw [hnw] at HPR hcap hml ⊢
 have gt:(Fl.tFlow.toList==[102,108,111,119])=true:=by rw [qFlow];decide
 have g0:(Fl.tFlow.toList==[97,99,99,111,117,110,116])=false:=by rw [vZ];decide
 clear hm hs hc hx hlen hri s1 s2 hA hn1 hn hR hN x0 hnw
 go_enter Tryz.func62,Tryz.ntmps62
 go_wp2_with fail
 refine HPR.out.mono ?_
 rintro en w1 ⟨rfl,hb1⟩
 have HS1:=Lib.hid (HS.out.below hb1)
 have HBA:=Lib.hid ((Below.refl w1.heap.size w1).alloc (Nat.le_refl _) (.cells (Fl.encF.cs Fl.zeroF).toArray 159))
 clear hb1 y0 gt g0
 by_cases h1:n1=0
 ·subst h1
  have HNN:Hid (N=n):=Lib.hid (by rw [HNE.out,if_pos rfl])
  go_wp2_with (refine zY (E:=Fl.encF) rfl 159 (.tmp 10) (.tmp 44) rfl w1.heap.size Fl.zeroF A 159 rfl rfl (BoxE.new Fl.encF w1 Fl.zeroF _) (by kernel_rfl) ?_;intro w2 hb2 hg2;have HG2:Hid (Below w1.heap.size w1 w2):=Lib.hid (HBA.out.grown hg2 HBA.out.size (fun j hj=>by cases hj;exact Nat.le_refl _));have HX2:=Lib.hid hb2;clear hb2 hg2;have HS2:=Lib.hid (HS1.out.below HG2.out);have hk:=HS2.out.box.nine.c1;obtain ⟨q0,q1⟩:=Fl.two HX2.out.at0)
  refine (HCA.out w2 HS2.out.mast.flows).mono ?_
  rintro en w3 ⟨v3,rfl,ho3,hn3,hb3⟩
  obtain ⟨p3,m3,cp3,rfl⟩:=ZV ho3 hn3
  have HO3:=Lib.hid ho3
  have HN3:=Lib.hid hn3
  have HS3:=Lib.hid (HS2.out.below hb3)
  have hB2:=HS2.out.bel.size
  have hk3:=HS3.out.box.nine.c1
  have hf3:=vA HS3.out.box 1
  obtain ⟨W2,hW2⟩:∃ W2,w3.setCell ⟨w.heap.size,1,none⟩ (.slice p3 m3 cp3)=W2:=⟨_,rfl⟩
  have HG4:Hid (w3.grownBy W2 (some w.heap.size)):=Lib.hid (by rw [←hW2];exact vG w3 w.heap.size 1 (.slice p3 m3 cp3))
  have HW2:Hid (Below w.heap.size w W2):=Lib.hid (by rw [←hW2];exact xq HS3.out.bel 1 _)
  obtain ⟨M2,hM2⟩:∃ M2:Mast,{ M with flows:=R }=M2:=⟨_,rfl⟩
  have HB2:Hid (BoxM W2 w.heap.size 39 c (.slice p3 m3 cp3) e l M2):=Lib.hid (by rw [←hW2,←hM2];exact vR HS3.out.box rfl)
  have HR2:Hid (BoxM W2 (w.heap.size+1) 39 nil4 nil4 nil4 nil4 zeroM):=Lib.hid ((HG4.out.block _ HS3.out.res.lt (by simp)).trans HS3.out.res)
  have HM2:Hid (M2.chart=M.chart∧M2.ents=M.ents∧M2.lines=M.lines∧M2.flows=R):=Lib.hid (by rw [←hM2];exact ⟨rfl,rfl,rfl,rfl⟩)
  have HMM:=Lib.hid hM2
  have HO2:Hid (Ones c (.slice p3 m3 cp3) e l):=Lib.hid ⟨HO.out.c,rfl,HO.out.e,HO.out.l⟩
  clear ho3 hn3 hb3 hM2 hk q0 q1
  obtain ⟨k0,k1,k2,k3,k4,k5,k6,k7,k8⟩:=HB2.out.nine
  go_wp2_with (refine zi rfl 39 (.tmp 4) (.tmp 59) rfl (w.heap.size+1) nil4 nil4 nil4 nil4 c (.slice p3 m3 cp3) e l zeroM M2 39 rfl rfl HR2.out HO2.out (by kernel_rfl) ?_;intro w4 hb4 hg4)
  clear k0 k1 k2 k3 k4 k5 k6 k7 k8 hk3 hf3 hW2
  have HBG:=Lib.hid (HW2.out.grown hg4 HW2.out.size (fun j hj=>by cases hj;exact Nat.le_succ _))
  have HX4:Hid (n=0→ElsV Fl.encF w4 (.slice p3 m3 cp3) M2.flows):=Lib.hid (fun h0=>by
   obtain ⟨t,hr⟩:=HN3.out h0
   have h2:=(hr.kept HG4.out (.inr (fun e0=>by
    rcases hr.2 with ⟨e,_⟩ | ⟨g',_,_,e,hge,_⟩
    ·cases e;simp [Value.ownBlock] at e0
    ·cases e
     have h3:g'=w.heap.size:=by simpa [Value.ownBlock] using e0
     have:=HS2.out.box.lt
     omega))).kept hg4 (.inr (fun e0=>by
    rcases hr.2 with ⟨e,_⟩ | ⟨g',_,_,e,hge,_⟩
    ·cases e;simp [Value.ownBlock] at e0
    ·cases e
     have h3:g'=w.heap.size+1:=by simpa [Value.ownBlock] using e0
     have:=HS2.out.res.lt
     omega))
   rw [HM2.out.2.2.2]
   exact zq h2)
  obtain ⟨c0,c1,c2,c3,c4,c5,c6,c7,c8⟩:=hb4.nine
  clear hb4 hg4
  refine bodyPost_ret (v:=.tuple #[aggM c (.slice p3 m3 cp3) e l M2,.int .i64 n]) (by simp [results,Tryz.results62,go_sem,c0,c1,c2,c3,c4,c5,c6,c7,c8]) rfl ⟨_,_,_,_,M2,by rw [HNN.out],fun h0=>⟨?_,?_⟩,HO2.out,⟨Off1.refl _ _,Off1.told HO3.out HN3.out HS2.out.bel.size,Off1.refl _ _,Off1.refl _ _⟩,HBG.out⟩
  ·rw [HV2.out,HIN.out (by rw [←HNN.out];exact h0)];exact HMM.out.symm
  ·have hk:=HM.out.keep HBG.out
   obtain ⟨m1,m2,m3,_⟩:=HM2.out
   exact ⟨by rw [m1];exact hk.chart,HX4.out (by rw [←HNN.out];exact h0),by rw [m2];exact hk.ents,by rw [m3];exact hk.lines⟩
 ·have HNN:Hid (N=n1):=Lib.hid (by rw [HNE.out,if_neg h1])
  have h1z:(n1 != 0)=true:=by simp [h1]
  go_wp2_with (first
   | (refine zY (E:=Fl.encF) rfl 159 (.tmp 10) (.tmp 44) rfl w1.heap.size Fl.zeroF A 159 rfl rfl (BoxE.new Fl.encF w1 Fl.zeroF _) (by kernel_rfl) ?_;intro w2 hb2 hg2;have HG2:Hid (Below w1.heap.size w1 w2):=Lib.hid (HBA.out.grown hg2 HBA.out.size (fun j hj=>by cases hj;exact Nat.le_refl _));have HX2:=Lib.hid hb2;clear hb2 hg2;have HS2:=Lib.hid (HS1.out.below HG2.out);obtain ⟨k0,k1,k2,k3,k4,k5,k6,k7,k8⟩:=HS2.out.box.nine)
   | (refine zi rfl 39 (.tmp 4) (.tmp 48) rfl (w.heap.size+1) nil4 nil4 nil4 nil4 c (.slice pf M.flows.length cf) e l zeroM M 39 rfl rfl HS2.out.res HO.out (by kernel_rfl) ?_;intro w4 hb4 hg4)
   | fail)
  clear k0 k1 k2 k3 k4 k5 k6 k7 k8
  have HBG:=Lib.hid (HS2.out.bel.grown hg4 HS2.out.bel.size (fun j hj=>by cases hj;exact Nat.le_succ _))
  obtain ⟨c0,c1,c2,c3,c4,c5,c6,c7,c8⟩:=hb4.nine
  clear hb4 hg4
  exact bodyPost_ret (v:=.tuple #[aggM c (.slice pf M.flows.length cf) e l M,.int .i64 n1]) (by simp [results,Tryz.results62,go_sem,c0,c1,c2,c3,c4,c5,c6,c7,c8]) rfl ⟨_,_,_,_,M,by rw [HNN.out],(fun h=>absurd (HNN.out.symm.trans h) h1),HO.out,Off4.refl _ _ _ _ _,HBG.out⟩
set_option maxRecDepth 100000 in
set_option maxHeartbeats 16000000 in
theorem zha (v c f e l:Value) (ws:List ByteArray) (M:Mast) (w:World) (hm:MastIn w c f e l M) (hs:Sane M) (hv:StrsV w v ws) (x0:ByteArray) (hx:ws[0]?=some x0) (hA:x0≠zb) (hF:x0≠Fl.tFlow) :
 Calls Tryz.prog 62 #[aggM c f e l M,v] w (qg w c f e l M ws):=by
 have HS:=Lib.hid (ye w hm)
 have h0:0 < ws.length:=(List.getElem?_eq_some_iff.1 hx).1
 have HCA:=Lib.hid (zdM v c f e l ws M (two0 w c f e l M) HS.out.mast hs (hv.keep HS.out.bel) h0 (by rw [jd hx];exact hA) (by rw [jd hx];exact hF))
 have HQ:=Lib.hid (KO (P:=fun b=>b≠w.heap.size+1) hm (fun b hb e0=>by omega))
 have hof0:∀ (c' f' e' l':Value),Off4 (two0 w c f e l M) c f e l c' f' e' l'→Off4 w c f e l c' f' e' l':=fun _ _ _ _ h=>by
  have hle:w.heap.size≤(two0 w c f e l M).heap.size:=HS.out.bel.size
  exact ⟨h.1.mono hle,h.2.1.mono hle,h.2.2.1.mono hle,h.2.2.2.mono hle⟩
 have HOM:=Lib.hid hof0
 have g0:=vZ x0
 have g1:=qFlow x0
 rw [decide_eq_false hA] at g0
 rw [decide_eq_false hF] at g1
 obtain ⟨p,cp,rfl,hcap,hml,hc⟩:=hv
 obtain ⟨g,o,rfl,y0'⟩:=hc 0 x0 hx
 rw [Nat.add_zero] at y0'
 have y0:=cell_later HS.out.bel y0'
 obtain ⟨nw,hnw⟩:∃ nw,ws.length=nw:=⟨_,rfl⟩
 rw [hnw] at HCA hcap hml h0 ⊢
 clear hm hs hc hx hA hF y0' hnw hof0
 obtain ⟨k0,k1,k2,k3,k4,k5,k6,k7,k8⟩:=HS.out.box.nine
 go_enter Tryz.func62,Tryz.ntmps62
 go_wp2_with fail
 clear k0 k1 k2 k3 k4 k5 k6 k7 k8
 refine HCA.out.mono ?_
 rintro en w1 ⟨c',f',e',l',M',rfl,hz,ho,hof,hb1⟩
 have HS1:=Lib.hid (HS.out.below hb1)
 have HZ:=Lib.hid hz
 have HO:=Lib.hid ho
 have HOF:=Lib.hid hof
 obtain ⟨N,hN⟩:∃ N,stepE M ws=N:=⟨_,rfl⟩
 rw [hN]
 have HN:=Lib.hid hN
 clear hz ho hof hb1 hN y0 g0 g1
 go_wp2_with (refine zi rfl 39 (.tmp 4) (.tmp 64) rfl (w.heap.size+1) nil4 nil4 nil4 nil4 c' f' e' l' zeroM M' 39 rfl rfl HS1.out.res HO.out (by kernel_rfl) ?_;intro w4 hb4 hg4)
 have HBG:=Lib.hid (HS1.out.bel.grown hg4 HS1.out.bel.size (fun j hj=>by cases hj;exact Nat.le_succ _))
 have HX4:Hid (N=0→M'=stepV M ws∧MastIn w4 c' f' e' l' M'):=Lib.hid (fun h0=>by
  obtain ⟨h1,h2⟩:=HZ.out (by rw [HN.out];exact h0)
  obtain ⟨o0,o1,o2,o3⟩:=HOF.out
  have hsz:(two0 w c f e l M).heap.size=w.heap.size+2:=by simp [two0]
  have hP:∀ b,(two0 w c f e l M).heap.size≤b→b≠w.heap.size+1:=fun b hb e0=>by omega
  obtain ⟨p0,p1,p2,p3⟩:=HQ.out
  exact ⟨h1,xm h2 (o0 _ hP p0) (o1 _ hP p1) (o2 _ hP p2) (o3 _ hP p3) (fun b hb hlt=>hg4.block b hlt (fun e0=>hb (Option.some.inj e0)))⟩)
 obtain ⟨c0,c1,c2,c3,c4,c5,c6,c7,c8⟩:=hb4.nine
 clear hb4 hg4
 exact bodyPost_ret (v:=.tuple #[aggM c' f' e' l' M',.int .i64 N]) (by simp [results,Tryz.results62,go_sem,c0,c1,c2,c3,c4,c5,c6,c7,c8]) rfl ⟨_,_,_,_,M',by rw [HN.out],(fun h=>HX4.out (by rw [←HN.out];exact h)),HO.out,HOM.out _ _ _ _ HOF.out,HBG.out⟩
theorem zim (v c f e l:Value) (ws:List ByteArray) (M:Mast) (w:World) (hm:MastIn w c f e l M) (hs:Sane M) (hv:StrsV w v ws) (h0:0 < ws.length) :
 Calls Tryz.prog 62 #[aggM c f e l M,v] w (qg w c f e l M ws):=by
 obtain ⟨x0,hx⟩:∃ x,ws[0]?=some x:=⟨_,List.getElem?_eq_getElem h0⟩
 by_cases hA:x0=zb
 ·subst hA;exact zdb v c f e l ws M w hm hs hv hx
 ·by_cases hF:x0=Fl.tFlow
  ·subst hF;exact zgw v c f e l ws M w hm hs hv hx
  ·exact zha v c f e l ws M w hm hs hv x0 hx hA hF
end Go.Proofs.YtdhfpgjnjlcciaaGreatDoor.Un
end
section
namespace Go.Proofs.YtdhfpgjnjlcciaaGreatDoor.Fl
open Go.RowKit
def eqF (a b:Flow):Bool:=decide (a=b)
def eqFs (a b:Flow):Bool:=a.code.toList==b.code.toList && a.kind==b.kind
theorem zax (a b:Flow):eqFs a b=eqF a b:=by
 unfold eqFs eqF
 rw [Bool.eq_iff_iff]
 simp only [Bool.and_eq_true,beq_iff_eq,decide_eq_true_eq]
 constructor
 ·rintro ⟨h0,h1⟩
  exact Flow.ext' (toList_inj h0) h1
 ·rintro rfl;exact ⟨rfl,rfl⟩
end Go.Proofs.YtdhfpgjnjlcciaaGreatDoor.Fl
end
