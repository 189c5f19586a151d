/- SortKMerge -/
import Derived.Deep.CutBlock
import Derived.Deep.DeepCutAuto
import Derived.Test.YtdhfpgjnjlcciaaGreatDoorQ24
namespace Go.Proofs.YtdhfpgjnjlcciaaGreatDoor
open Go.Shelf Go.RowKit Go.Lib Go.Sort
variable {P:Program} {K:Nat} {α:Type} [Inhabited α]
def zC (K:Nat) (enc:α→List Value) (T:α→α→Prop) (w0:World) (blk off a b:Nat) (d:Array α) (e:Ending) (w':World):Prop :=
 e=.returned (.tuple #[])∧∃ d',Keep a b d d'∧Asc T a b d'∧SWK enc K w0 blk off d' w'
def zam (P:Program) (K:Nat) (enc:α→List Value) (cf:α→α→Int) (T:α→α→Prop) (g:Nat) (cb:Array Value) (blk off cap:Nat) (w0:World) (size n:Nat):Prop :=
 ∀ (a m b:Nat) (d:Array α) (w:World),b - a≤n→d.size=size→SWK enc K w0 blk off d w→a < m→m < b→b≤size→Asc T a m d→Asc T m b d→Meet (ltOf cf) T a m b d →
   Calls P 193 #[.slice (some ⟨blk,off,none⟩) size cap,.int .i64 a,.int .i64 m,.int .i64 b,.func (.func g) #[] cb] w (zC K enc T w0 blk off a b d)
theorem zQ {T:α→α→Prop} {a s M:Nat} {d:Array α} (h1:Asc T a s d) (h2:Asc T s M d) (h:¬ (a < s∧s < M)) (has:a≤s) (hsM:s≤M):Asc T a M d:=by
 by_cases c:a < s
 ·obtain rfl:s=M:=by omega
  exact h1
 ·obtain rfl:a=s:=by omega
  exact h2
theorem zC.mk {enc:α→List Value} {T:α→α→Prop} {w0 w':World} {blk off a b:Nat} {d d':Array α} (h1:Keep a b d d') (h2:Asc T a b d') (h3:SWK enc K w0 blk off d' w'):zC K enc T w0 blk off a b d (.returned (.tuple #[])) w':=⟨rfl,d',h1,h2,h3⟩
theorem zf8 {i m e:Nat} (h:¬ (i < m∧m < e)) (him:i≤m) (hme:m≤e) (k:Nat):rotAt i m e k=k:=by
 unfold rotAt;(repeat' split) <;> omega
set_option maxHeartbeats 16000000 in
set_option maxRecDepth 1000000 in
theorem ziS (L:SortL P K) (enc:α→List Value) (cf:α→α→Int) (T:α→α→Prop) (hT:∀ x y z,T x y→T y z→T x z) (g:Nat) (cb:Array Value) (blk off cap a m b n:Nat) (d0 d:Array α) (w0 w:World)
 (eg:∀ args w,(callFunc g args).run P w=.ok (.enter g args) w) (hcmp:CmpLays P g cb enc K cf blk off d0.size w0)
 (ih:zam P K enc cf T g cb blk off cap w0 d0.size n)
 (R:RowK enc K w0 blk off d0) (hs:d.size=d0.size) (S:SWK enc K w0 blk off d w) (ham:a+1 < m) (hmb:m+1 < b) (hb:b≤d0.size) (hn:b - a≤n+1) (hsz:d0.size < 4611686018427387904)
 (hL:Asc T a m d) (hR:Asc T m b d) (hM:Meet (ltOf cf) T a m b d) :
 Calls P 193 #[.slice (some ⟨blk,off,none⟩) d0.size cap,.int .i64 a,.int .i64 m,.int .i64 b,.func (.func g) #[] cb] w (zC K enc T w0 blk off a b d):=by
 have hone:((m:Int) - (a:Int)==1)=false:=by rw [beq_eq_false_iff_ne];omega
 have htwo:((b:Int) - (m:Int)==1)=false:=by rw [beq_eq_false_iff_ne];omega
 obtain ⟨sz,hsz0⟩:∃ sz,sz=d0.size:=⟨_,rfl⟩
 rw [←hsz0] at hb hsz ih ⊢
 obtain ⟨M,hM0⟩:∃ M,M=mid0 a b:=⟨_,rfl⟩
 have eM:((a:Int)+(b:Int)) / 2=(M:Int):=by rw [hM0];unfold mid0;omega
 have M1:a < M:=by rw [hM0];unfold mid0;omega
 have M2:M < b:=by rw [hM0];unfold mid0;omega
 obtain ⟨b1,b2,b3,b4,b5,-,-⟩:=KY (show a < m by omega) (show m < b by omega)
 rw [←hM0] at b4 b5
 have est:st0 a m b=if M < m then M+m - b else a:=by rw [hM0];rfl
 have een:en0 a m b=if M < m then M else m:=by rw [hM0];rfl
 obtain ⟨s0,hs0⟩:∃ s,s=st0 a m b:=⟨_,rfl⟩
 obtain ⟨r0,hr0⟩:∃ s,s=en0 a m b:=⟨_,rfl⟩
 rw [←hs0] at b1 b2 b5 est
 rw [←hr0] at b2 b3 b4 een
 have HSZ:=Lib.hid hsz0
 have HS:=Lib.hid hs
 have HL:=Lib.hid hL
 have HR:=Lib.hid hR
 have HM:=Lib.hid hM
 have HT:=Lib.hid hT
 have HM0:=Lib.hid hM0
 have HS0:=Lib.hid hs0
 have HR0:=Lib.hid hr0
 have EM:=Lib.hid eM
 have EST:=Lib.hid est
 have EEN:=Lib.hid een
 have IH:=Lib.hid ih
 have HC:Aside _:=hcmp
 have S0:Aside (SWK enc K w0 blk off d w):=S
 clear S hs hL hR hM hT hcmp hM0 hs0 hr0 eM est een ih hsz0
 have mixed:=L.mixed;have t0:=L.t0;have a0:=L.a0;have z0:=L.z0;have v0:=L.v0;have t3:=L.t3;have a3:=L.a3;have z3:=L.z3;have v3:=L.v3;have t4:=L.t4;have a4:=L.a4;have z4:=L.z4;have v4:=L.v4;have t29:=L.t29;have a29:=L.a29;have z29:=L.z29;have v29:=L.v29;have t83:=L.t83;have a83:=L.a83;have z83:=L.z83;have v83:=L.v83;have t90:=L.t90;have a90:=L.a90;have z90:=L.z90;have v90:=L.v90;have aE:=L.aE;have zE:=L.zE
 have e55:∀ args w,(callFunc 213 args).run P w=.ok (.enter 213 args) w:=enters_of L.f55 (by kernel_rfl) rfl
 have e54:∀ args w,(callFunc 193 args).run P w=.ok (.enter 193 args) w:=enters_of L.f54 (by kernel_rfl) rfl
 go_enter L.f54,Tryz.ntmps193
 have eM1:=EM.out
 go_upto_if 140 with (fail)
 go_cut [20,21] (fun v20 v21 wx=>v20=.int .i64 (s0:Int)∧v21=.int .i64 (r0:Int)∧w=wx)
 case first =>
  clear S0
  by_cases hMm:M < m
  ·have hMz:(M:Int) < (m:Int):=by omega
   have e1:=EST.out
   have e2:=EEN.out
   rw [if_pos hMm] at e1 e2
   have E1:=Lib.hid e1
   have E2:=Lib.hid e2
   clear e1 e2
   go_wp2
   go_meet
   case rel =>
    have e1:=E1.out
    have e2:=E2.out
    exact ⟨by rw [show (s0:Int)=(M:Int)+(m:Int) - (b:Int) by omega],by rw [e2],rfl⟩
  ·have hMz:¬ (M:Int) < (m:Int):=by omega
   have e1:=EST.out
   have e2:=EEN.out
   rw [if_neg hMm] at e1 e2
   have E1:=Lib.hid e1
   have E2:=Lib.hid e2
   clear e1 e2
   go_wp2
   go_meet
   case rel=>exact ⟨by rw [E1.out],by rw [E2.out],rfl⟩
 case rest =>
  obtain ⟨rfl,rfl,rfl⟩:=hcut
  go_wp2
  go_loopg [20,21] (r0 - s0) (fun kx vi vr wr=>∃ (i r:Nat),vi=.int .i64 i∧vr=.int .i64 r∧s0≤i∧i≤r∧r≤r0∧r - i≤kx∧Aside (SWK enc K w0 blk off d wr)∧Hid (∀ c,s0≤c→c < i→T d[c]! d[M+m - 1 - c]!)∧Hid (∀ c,r≤c→c < r0→T d[M+m - 1 - c]! d[c]!))
  case atStart=>exact ⟨s0,r0,rfl,rfl,Nat.le_refl _,b2,Nat.le_refl _,Nat.le_refl _,S0,fun k h1 h2=>absurd h1 (by omega),fun k h1 h2=>absurd h1 (by omega)⟩
  case round =>
   clear S0
   obtain ⟨i,r,rfl,rfl,hsi,hir,hrr,hkx,S1,HU,HD⟩:=hrel
   by_cases hlt:i < r
   ·have hltz:(i:Int) < (r:Int):=by omega
    obtain ⟨c,hc0⟩:∃ c,c=(i+r) / 2:=⟨_,rfl⟩
    have hc1:i≤c:=by omega
    have hc2:c < r:=by omega
    have eC:((i:Int)+(r:Int)) / 2=(c:Int):=by omega
    obtain ⟨q,hq⟩:∃ q,q=M+m - 1 - c:=⟨_,rfl⟩
    obtain ⟨x,hx⟩:∃ x,x=d[q]! := ⟨_,rfl⟩
    obtain ⟨y,hy⟩:∃ x,x=d[c]! := ⟨_,rfl⟩
    have hqm:m≤q:=by omega
    have hqb:q < b:=by omega
    have hcm:c < m:=by omega
    have hac:a≤c:=by omega
    have hds:=HS.out
    have hdz:=HSZ.out
    have la:=S1.out.ld R hds P q (by omega)
    have lb:=S1.out.ld R hds P c (by omega)
    rw [←hx] at la
    rw [←hy] at lb
    have hc:=S1.out.cmp HC.out hds x y
    have mt:=HM.out c q hac hcm hqm hqb
    have up:ltOf cf x y=false→Hid (∀ k,s0≤k→k < c+1→T d[k]! d[M+m - 1 - k]!):=fun hl k k1 k2=>by
     rw [hx,hy] at hl
     by_cases e:k=c
     ·rw [e,←hq];exact mt.2 hl
     ·exact HT.out _ _ _ (HT.out _ _ _ (HL.out k c (by omega) (by omega) hcm) (mt.2 hl)) (HR.out q _ hqm (by omega) (by omega))
    have dn:ltOf cf x y=true→Hid (∀ k,c≤k→k < r0→T d[M+m - 1 - k]! d[k]!):=fun hl k k1 k2=>by
     rw [hx,hy] at hl
     by_cases e:k=c
     ·rw [e,←hq];exact mt.1 hl
     ·exact HT.out _ _ _ (HT.out _ _ _ (HR.out (M+m - 1 - k) q (by omega) (by omega) hqb) (mt.1 hl)) (HL.out c k hac (by omega) (by omega))
    have ea:((M:Int)+(m:Int) - 1 - (c:Int)).toNat=q:=by omega
    have pa:(0:Int)≤(M:Int)+(m:Int) - 1 - (c:Int):=by omega
    have pa2:(c:Int)≤(M:Int)+(m:Int) - 1:=by omega
    have ba:(M:Int)+(m:Int) - 1 - (c:Int) < (sz:Int):=by omega
    have ra:IntKind.i64.wrap ((M:Int)+(m:Int) - 1 - (c:Int))=(M:Int)+(m:Int) - 1 - (c:Int):=by rw [IntKind.wrap_i64];omega
    have bc:(c:Int) < (sz:Int):=by omega
    clear hx hy mt hds hdz hc0 hq
    by_cases hv:cf x y < 0
    ·have hd:decide (cf x y < 0)=true:=decide_eq_true hv
     have DN:=dn hd
     clear up dn
     go_wp2_with fail
     go_quiet_grown (first | (go_at_fn g;refine Calls.grown_of (hc _ _)))
     have S2:Aside (SWK enc K w0 blk off d (grow (wr.drewN nq) osq)):=S1.out.grown nq osq
     clear la lb hc S1
     generalize grow (wr.drewN nq) osq=w2 at S2 ⊢
     clear nq osq ea ra
     go_wp2
     go_roundg (c - i)
     case measure=>omega
     case rel=>exact ⟨i,c,rfl,rfl,hsi,hc1,by omega,Nat.le_refl _,S2,HU,DN⟩
    ·have hd:decide (cf x y < 0)=false:=decide_eq_false hv
     have UP:=up hd
     clear up dn
     go_wp2_with fail
     go_quiet_grown (first | (go_at_fn g;refine Calls.grown_of (hc _ _)))
     have S2:Aside (SWK enc K w0 blk off d (grow (wr.drewN nq) osq)):=S1.out.grown nq osq
     clear la lb hc S1
     generalize grow (wr.drewN nq) osq=w2 at S2 ⊢
     clear nq osq ea ra
     go_wp2
     go_roundg (r - (c+1))
     case measure=>omega
     case rel=>exact ⟨c+1,r,by first | rfl | go_num,rfl,by omega,hc2,hrr,Nat.le_refl _,S2,UP,HD⟩
   ·have hltz:¬ (i:Int) < (r:Int):=by omega
    obtain rfl:i=r:=by omega
    obtain ⟨e,he⟩:∃ e,e+i=M+m:=⟨M+m - i,by omega⟩
    have HF:Hid (Found T a m b i d):=by
     refine ⟨?_,?_,fun c h1 h2=>?_,fun c h1 h2=>?_⟩
     ·rw [←HS0.out];exact hsi
     ·rw [←HR0.out];exact hrr
     ·rw [←HM0.out];exact HU.out c (by rw [HS0.out];exact h1) h2
     ·rw [←HM0.out];exact HD.out c h1 (by rw [HR0.out];exact h2)
    have eE:(M:Int)+(m:Int) - (i:Int)=(e:Int):=by omega
    have hae:M≤e:=by omega
    have heb:e≤b:=by omega
    have him:i≤m:=by omega
    have hiM:i≤M:=by omega
    have hai:a≤i:=by omega
    have hme:m≤e:=by omega
    have HE:=Lib.hid he
    clear he HU HD
    have hd0:d.size=d0.size:=HS.out
    have HSZ2:=Lib.hid (HSZ.out)
    by_cases hc1:i < m∧m < e
    ·have x1:(i:Int) < (m:Int):=by omega
     have x2:(m:Int) < (e:Int):=by omega
     have hcall:=zcU L enc (.func (.func g) #[] cb) blk off cap i m e d0 d w0 wr R hd0.symm S1.out hc1.1 hc1.2 (by rw [hd0,←HSZ2.out];omega) (by rw [hd0,←HSZ2.out];exact hsz)
     rw [hd0,←HSZ2.out] at hcall
     have HCALL:=Lib.hid hcall
     clear hcall hc1 hd0
     go_wp2_with fail
     go_at_fn 213
     refine HCALL.out.mono ?_
     rintro e' w1 ⟨rfl,d1,g1,g2,g3⟩
     have D1:Hid (d1.size=sz):=g1
     have HP:=Lib.hid (Xd HT.out (show a < m by omega) (show m < b by omega) HL.out HR.out HM.out HF.out HM0.out.symm HE.out (g1.trans (by rw [HS.out,HSZ2.out])) g2)
     clear S1
     have S1:Aside _:=g3
     clear g1 g2 g3 HCALL
     by_cases hc2:a < i∧i < M
     ·have y1:(a:Int) < (i:Int):=by omega
      have y2:(i:Int) < (M:Int):=by omega
      have hcall:=IH.out a i M d1 w1 (by omega) D1.out S1.out (by omega) (by omega) (by omega) HP.out.2.1 HP.out.2.2.1 HP.out.2.2.2.1
      have HCALL:=Lib.hid hcall
      clear hcall hc2
      go_wp2_with fail
      go_at_fn 193
      refine HCALL.out.mono ?_
      rintro e' w2 ⟨rfl,d2,k2,a2,s2⟩
      have K2:=Lib.hid k2
      have A2:=Lib.hid a2
      have S2:Aside _:=s2
      clear k2 a2 s2 HCALL S1
      by_cases hc3:M < e∧e < b
      ·have z1:(M:Int) < (e:Int):=by omega
       have z2:(e:Int) < (b:Int):=by omega
       have hcall:=IH.out M e b d2 w2 (by omega) (K2.out.1.trans D1.out) S2.out (by omega) (by omega) hb ((HP.out.2.2.2.2.1).zh K2.out (.inr (Nat.le_refl _))) ((HP.out.2.2.2.2.2.1).zh K2.out (.inr (by omega))) ((HP.out.2.2.2.2.2.2.1).keep K2.out (.inr (Nat.le_refl _)))
       have HCALL:=Lib.hid hcall
       clear hcall
       go_wp2_with fail
       go_at_fn 193
       refine HCALL.out.mono ?_
       rintro e' w3 ⟨rfl,d3,k3,a3,s3⟩
       have K3:=Lib.hid k3
       have A3:=Lib.hid a3
       have S3:Aside _:=s3
       clear k3 a3 s3 HCALL
       go_wp2
       go_end0
       obtain ⟨x1,x2⟩:=zK (by omega) (by omega) HP.out.2.2.2.2.2.2.2 K2.out A2.out K3.out A3.out
       exact zC.mk (HP.out.1.trans x1) x2 S3.out
      ·have CC3:=Lib.hid hc3
       by_cases z1:M < e
       ·have z2:¬ e < b:=by have:=CC3.out;omega
        have z1':(M:Int) < (e:Int):=by omega
        have z2':¬ (e:Int) < (b:Int):=by omega
        clear hc3
        go_wp2
        go_end0
        obtain ⟨x1,x2⟩:=zK (by omega) (by omega) HP.out.2.2.2.2.2.2.2 K2.out A2.out (Keep.refl _ _ _) (zQ ((HP.out.2.2.2.2.1).zh K2.out (.inr (Nat.le_refl _))) ((HP.out.2.2.2.2.2.1).zh K2.out (.inr (by omega))) CC3.out (by omega) (by omega))
        exact zC.mk (HP.out.1.trans x1) x2 S2.out
       ·have z1':¬ (M:Int) < (e:Int):=by omega
        clear hc3
        go_wp2
        go_end0
        obtain ⟨x1,x2⟩:=zK (by omega) (by omega) HP.out.2.2.2.2.2.2.2 K2.out A2.out (Keep.refl _ _ _) (zQ ((HP.out.2.2.2.2.1).zh K2.out (.inr (Nat.le_refl _))) ((HP.out.2.2.2.2.2.1).zh K2.out (.inr (by omega))) CC3.out (by omega) (by omega))
        exact zC.mk (HP.out.1.trans x1) x2 S2.out
     ·have CC2:=Lib.hid hc2
      have S2:Aside (SWK enc K w0 blk off d1 w1):=S1.out
      have A2:=Lib.hid (zQ HP.out.2.1 HP.out.2.2.1 CC2.out hai hiM)
      have K2:=Lib.hid (Keep.refl a M d1)
      clear hc2 S1
      generalize hd2:d1=d2 at S2 A2
      generalize hw2:w1=w2 at S2 ⊢
      have HD2:=Lib.hid hd2
      clear hd2 hw2
      have K2:Hid (Keep a M d1 d2):=by rw [←HD2.out];exact Keep.refl _ _ _
      clear HD2
      by_cases y1:a < i
      ·have y2:¬ i < M:=by have:=CC2.out;omega
       have y1':(a:Int) < (i:Int):=by omega
       have y2':¬ (i:Int) < (M:Int):=by omega
       clear CC2
       by_cases hc3:M < e∧e < b
       ·have z1:(M:Int) < (e:Int):=by omega
        have z2:(e:Int) < (b:Int):=by omega
        have hcall:=IH.out M e b d2 w2 (by omega) (K2.out.1.trans D1.out) S2.out (by omega) (by omega) hb ((HP.out.2.2.2.2.1).zh K2.out (.inr (Nat.le_refl _))) ((HP.out.2.2.2.2.2.1).zh K2.out (.inr (by omega))) ((HP.out.2.2.2.2.2.2.1).keep K2.out (.inr (Nat.le_refl _)))
        have HCALL:=Lib.hid hcall
        clear hcall
        go_wp2_with fail
        go_at_fn 193
        refine HCALL.out.mono ?_
        rintro e' w3 ⟨rfl,d3,k3,a3,s3⟩
        have K3:=Lib.hid k3
        have A3:=Lib.hid a3
        have S3:Aside _:=s3
        clear k3 a3 s3 HCALL
        go_wp2
        go_end0
        obtain ⟨x1,x2⟩:=zK (by omega) (by omega) HP.out.2.2.2.2.2.2.2 K2.out A2.out K3.out A3.out
        exact zC.mk (HP.out.1.trans x1) x2 S3.out
       ·have CC3:=Lib.hid hc3
        by_cases z1:M < e
        ·have z2:¬ e < b:=by have:=CC3.out;omega
         have z1':(M:Int) < (e:Int):=by omega
         have z2':¬ (e:Int) < (b:Int):=by omega
         clear hc3
         go_wp2
         go_end0
         obtain ⟨x1,x2⟩:=zK (by omega) (by omega) HP.out.2.2.2.2.2.2.2 K2.out A2.out (Keep.refl _ _ _) (zQ ((HP.out.2.2.2.2.1).zh K2.out (.inr (Nat.le_refl _))) ((HP.out.2.2.2.2.2.1).zh K2.out (.inr (by omega))) CC3.out (by omega) (by omega))
         exact zC.mk (HP.out.1.trans x1) x2 S2.out
        ·have z1':¬ (M:Int) < (e:Int):=by omega
         clear hc3
         go_wp2
         go_end0
         obtain ⟨x1,x2⟩:=zK (by omega) (by omega) HP.out.2.2.2.2.2.2.2 K2.out A2.out (Keep.refl _ _ _) (zQ ((HP.out.2.2.2.2.1).zh K2.out (.inr (Nat.le_refl _))) ((HP.out.2.2.2.2.2.1).zh K2.out (.inr (by omega))) CC3.out (by omega) (by omega))
         exact zC.mk (HP.out.1.trans x1) x2 S2.out
      ·have y1':¬ (a:Int) < (i:Int):=by omega
       clear CC2
       by_cases hc3:M < e∧e < b
       ·have z1:(M:Int) < (e:Int):=by omega
        have z2:(e:Int) < (b:Int):=by omega
        have hcall:=IH.out M e b d2 w2 (by omega) (K2.out.1.trans D1.out) S2.out (by omega) (by omega) hb ((HP.out.2.2.2.2.1).zh K2.out (.inr (Nat.le_refl _))) ((HP.out.2.2.2.2.2.1).zh K2.out (.inr (by omega))) ((HP.out.2.2.2.2.2.2.1).keep K2.out (.inr (Nat.le_refl _)))
        have HCALL:=Lib.hid hcall
        clear hcall
        go_wp2_with fail
        go_at_fn 193
        refine HCALL.out.mono ?_
        rintro e' w3 ⟨rfl,d3,k3,a3,s3⟩
        have K3:=Lib.hid k3
        have A3:=Lib.hid a3
        have S3:Aside _:=s3
        clear k3 a3 s3 HCALL
        go_wp2
        go_end0
        obtain ⟨x1,x2⟩:=zK (by omega) (by omega) HP.out.2.2.2.2.2.2.2 K2.out A2.out K3.out A3.out
        exact zC.mk (HP.out.1.trans x1) x2 S3.out
       ·have CC3:=Lib.hid hc3
        by_cases z1:M < e
        ·have z2:¬ e < b:=by have:=CC3.out;omega
         have z1':(M:Int) < (e:Int):=by omega
         have z2':¬ (e:Int) < (b:Int):=by omega
         clear hc3
         go_wp2
         go_end0
         obtain ⟨x1,x2⟩:=zK (by omega) (by omega) HP.out.2.2.2.2.2.2.2 K2.out A2.out (Keep.refl _ _ _) (zQ ((HP.out.2.2.2.2.1).zh K2.out (.inr (Nat.le_refl _))) ((HP.out.2.2.2.2.2.1).zh K2.out (.inr (by omega))) CC3.out (by omega) (by omega))
         exact zC.mk (HP.out.1.trans x1) x2 S2.out
        ·have z1':¬ (M:Int) < (e:Int):=by omega
         clear hc3
         go_wp2
         go_end0
         obtain ⟨x1,x2⟩:=zK (by omega) (by omega) HP.out.2.2.2.2.2.2.2 K2.out A2.out (Keep.refl _ _ _) (zQ ((HP.out.2.2.2.2.1).zh K2.out (.inr (Nat.le_refl _))) ((HP.out.2.2.2.2.2.1).zh K2.out (.inr (by omega))) CC3.out (by omega) (by omega))
         exact zC.mk (HP.out.1.trans x1) x2 S2.out
    ·have HP:=Lib.hid (Xd HT.out (show a < m by omega) (show m < b by omega) HL.out HR.out HM.out HF.out HM0.out.symm HE.out rfl (fun k=>by rw [zf8 hc1 him hme k]))
     have D1:Hid (d.size=sz):=hd0.trans HSZ2.out.symm
     have CC1:=Lib.hid hc1
     clear hc1 hd0
     generalize hd1:d=d1 at S1 D1
     have HD1:=Lib.hid hd1
     clear hd1
     have HP2:Hid (Keep a b d d1∧Asc T a i d1∧Asc T i M d1∧Meet (ltOf cf) T a i M d1∧Asc T M e d1∧Asc T e b d1∧Meet (ltOf cf) T M e b d1∧∀ i j,a≤i→i < M→M≤j→j < b→T d1[i]! d1[j]!):=by rw [←HD1.out];exact HP.out
     clear HP HD1
     have HP:=HP2
     clear HP2
     generalize hw1:wr=w1 at S1 ⊢
     clear hw1
     by_cases x1:i < m
     ·have x2:¬ m < e:=by have:=CC1.out;omega
      have x1':(i:Int) < (m:Int):=by omega
      have x2':¬ (m:Int) < (e:Int):=by omega
      clear CC1
      by_cases hc2:a < i∧i < M
      ·have y1:(a:Int) < (i:Int):=by omega
       have y2:(i:Int) < (M:Int):=by omega
       have hcall:=IH.out a i M d1 w1 (by omega) D1.out S1.out (by omega) (by omega) (by omega) HP.out.2.1 HP.out.2.2.1 HP.out.2.2.2.1
       have HCALL:=Lib.hid hcall
       clear hcall hc2
       go_wp2_with fail
       go_at_fn 193
       refine HCALL.out.mono ?_
       rintro e' w2 ⟨rfl,d2,k2,a2,s2⟩
       have K2:=Lib.hid k2
       have A2:=Lib.hid a2
       have S2:Aside _:=s2
       clear k2 a2 s2 HCALL S1
       by_cases hc3:M < e∧e < b
       ·have z1:(M:Int) < (e:Int):=by omega
        have z2:(e:Int) < (b:Int):=by omega
        have hcall:=IH.out M e b d2 w2 (by omega) (K2.out.1.trans D1.out) S2.out (by omega) (by omega) hb ((HP.out.2.2.2.2.1).zh K2.out (.inr (Nat.le_refl _))) ((HP.out.2.2.2.2.2.1).zh K2.out (.inr (by omega))) ((HP.out.2.2.2.2.2.2.1).keep K2.out (.inr (Nat.le_refl _)))
        have HCALL:=Lib.hid hcall
        clear hcall
        go_wp2_with fail
        go_at_fn 193
        refine HCALL.out.mono ?_
        rintro e' w3 ⟨rfl,d3,k3,a3,s3⟩
        have K3:=Lib.hid k3
        have A3:=Lib.hid a3
        have S3:Aside _:=s3
        clear k3 a3 s3 HCALL
        go_wp2
        go_end0
        obtain ⟨x1,x2⟩:=zK (by omega) (by omega) HP.out.2.2.2.2.2.2.2 K2.out A2.out K3.out A3.out
        exact zC.mk (HP.out.1.trans x1) x2 S3.out
       ·have CC3:=Lib.hid hc3
        by_cases z1:M < e
        ·have z2:¬ e < b:=by have:=CC3.out;omega
         have z1':(M:Int) < (e:Int):=by omega
         have z2':¬ (e:Int) < (b:Int):=by omega
         clear hc3
         go_wp2
         go_end0
         obtain ⟨x1,x2⟩:=zK (by omega) (by omega) HP.out.2.2.2.2.2.2.2 K2.out A2.out (Keep.refl _ _ _) (zQ ((HP.out.2.2.2.2.1).zh K2.out (.inr (Nat.le_refl _))) ((HP.out.2.2.2.2.2.1).zh K2.out (.inr (by omega))) CC3.out (by omega) (by omega))
         exact zC.mk (HP.out.1.trans x1) x2 S2.out
        ·have z1':¬ (M:Int) < (e:Int):=by omega
         clear hc3
         go_wp2
         go_end0
         obtain ⟨x1,x2⟩:=zK (by omega) (by omega) HP.out.2.2.2.2.2.2.2 K2.out A2.out (Keep.refl _ _ _) (zQ ((HP.out.2.2.2.2.1).zh K2.out (.inr (Nat.le_refl _))) ((HP.out.2.2.2.2.2.1).zh K2.out (.inr (by omega))) CC3.out (by omega) (by omega))
         exact zC.mk (HP.out.1.trans x1) x2 S2.out
      ·have CC2:=Lib.hid hc2
       have S2:Aside (SWK enc K w0 blk off d1 w1):=S1.out
       have A2:=Lib.hid (zQ HP.out.2.1 HP.out.2.2.1 CC2.out hai hiM)
       have K2:=Lib.hid (Keep.refl a M d1)
       clear hc2 S1
       generalize hd2:d1=d2 at S2 A2
       generalize hw2:w1=w2 at S2 ⊢
       have HD2:=Lib.hid hd2
       clear hd2 hw2
       have K2:Hid (Keep a M d1 d2):=by rw [←HD2.out];exact Keep.refl _ _ _
       clear HD2
       by_cases y1:a < i
       ·have y2:¬ i < M:=by have:=CC2.out;omega
        have y1':(a:Int) < (i:Int):=by omega
        have y2':¬ (i:Int) < (M:Int):=by omega
        clear CC2
        by_cases hc3:M < e∧e < b
        ·have z1:(M:Int) < (e:Int):=by omega
         have z2:(e:Int) < (b:Int):=by omega
         have hcall:=IH.out M e b d2 w2 (by omega) (K2.out.1.trans D1.out) S2.out (by omega) (by omega) hb ((HP.out.2.2.2.2.1).zh K2.out (.inr (Nat.le_refl _))) ((HP.out.2.2.2.2.2.1).zh K2.out (.inr (by omega))) ((HP.out.2.2.2.2.2.2.1).keep K2.out (.inr (Nat.le_refl _)))
         have HCALL:=Lib.hid hcall
         clear hcall
         go_wp2_with fail
         go_at_fn 193
         refine HCALL.out.mono ?_
         rintro e' w3 ⟨rfl,d3,k3,a3,s3⟩
         have K3:=Lib.hid k3
         have A3:=Lib.hid a3
         have S3:Aside _:=s3
         clear k3 a3 s3 HCALL
         go_wp2
         go_end0
         obtain ⟨x1,x2⟩:=zK (by omega) (by omega) HP.out.2.2.2.2.2.2.2 K2.out A2.out K3.out A3.out
         exact zC.mk (HP.out.1.trans x1) x2 S3.out
        ·have CC3:=Lib.hid hc3
         by_cases z1:M < e
         ·have z2:¬ e < b:=by have:=CC3.out;omega
          have z1':(M:Int) < (e:Int):=by omega
          have z2':¬ (e:Int) < (b:Int):=by omega
          clear hc3
          go_wp2
          go_end0
          obtain ⟨x1,x2⟩:=zK (by omega) (by omega) HP.out.2.2.2.2.2.2.2 K2.out A2.out (Keep.refl _ _ _) (zQ ((HP.out.2.2.2.2.1).zh K2.out (.inr (Nat.le_refl _))) ((HP.out.2.2.2.2.2.1).zh K2.out (.inr (by omega))) CC3.out (by omega) (by omega))
          exact zC.mk (HP.out.1.trans x1) x2 S2.out
         ·have z1':¬ (M:Int) < (e:Int):=by omega
          clear hc3
          go_wp2
          go_end0
          obtain ⟨x1,x2⟩:=zK (by omega) (by omega) HP.out.2.2.2.2.2.2.2 K2.out A2.out (Keep.refl _ _ _) (zQ ((HP.out.2.2.2.2.1).zh K2.out (.inr (Nat.le_refl _))) ((HP.out.2.2.2.2.2.1).zh K2.out (.inr (by omega))) CC3.out (by omega) (by omega))
          exact zC.mk (HP.out.1.trans x1) x2 S2.out
       ·have y1':¬ (a:Int) < (i:Int):=by omega
        clear CC2
        by_cases hc3:M < e∧e < b
        ·have z1:(M:Int) < (e:Int):=by omega
         have z2:(e:Int) < (b:Int):=by omega
         have hcall:=IH.out M e b d2 w2 (by omega) (K2.out.1.trans D1.out) S2.out (by omega) (by omega) hb ((HP.out.2.2.2.2.1).zh K2.out (.inr (Nat.le_refl _))) ((HP.out.2.2.2.2.2.1).zh K2.out (.inr (by omega))) ((HP.out.2.2.2.2.2.2.1).keep K2.out (.inr (Nat.le_refl _)))
         have HCALL:=Lib.hid hcall
         clear hcall
         go_wp2_with fail
         go_at_fn 193
         refine HCALL.out.mono ?_
         rintro e' w3 ⟨rfl,d3,k3,a3,s3⟩
         have K3:=Lib.hid k3
         have A3:=Lib.hid a3
         have S3:Aside _:=s3
         clear k3 a3 s3 HCALL
         go_wp2
         go_end0
         obtain ⟨x1,x2⟩:=zK (by omega) (by omega) HP.out.2.2.2.2.2.2.2 K2.out A2.out K3.out A3.out
         exact zC.mk (HP.out.1.trans x1) x2 S3.out
        ·have CC3:=Lib.hid hc3
         by_cases z1:M < e
         ·have z2:¬ e < b:=by have:=CC3.out;omega
          have z1':(M:Int) < (e:Int):=by omega
          have z2':¬ (e:Int) < (b:Int):=by omega
          clear hc3
          go_wp2
          go_end0
          obtain ⟨x1,x2⟩:=zK (by omega) (by omega) HP.out.2.2.2.2.2.2.2 K2.out A2.out (Keep.refl _ _ _) (zQ ((HP.out.2.2.2.2.1).zh K2.out (.inr (Nat.le_refl _))) ((HP.out.2.2.2.2.2.1).zh K2.out (.inr (by omega))) CC3.out (by omega) (by omega))
          exact zC.mk (HP.out.1.trans x1) x2 S2.out
         ·have z1':¬ (M:Int) < (e:Int):=by omega
          clear hc3
          go_wp2
          go_end0
          obtain ⟨x1,x2⟩:=zK (by omega) (by omega) HP.out.2.2.2.2.2.2.2 K2.out A2.out (Keep.refl _ _ _) (zQ ((HP.out.2.2.2.2.1).zh K2.out (.inr (Nat.le_refl _))) ((HP.out.2.2.2.2.2.1).zh K2.out (.inr (by omega))) CC3.out (by omega) (by omega))
          exact zC.mk (HP.out.1.trans x1) x2 S2.out
     ·have x1':¬ (i:Int) < (m:Int):=by omega
      clear CC1
      by_cases hc2:a < i∧i < M
      ·have y1:(a:Int) < (i:Int):=by omega
       have y2:(i:Int) < (M:Int):=by omega
       have hcall:=IH.out a i M d1 w1 (by omega) D1.out S1.out (by omega) (by omega) (by omega) HP.out.2.1 HP.out.2.2.1 HP.out.2.2.2.1
       have HCALL:=Lib.hid hcall
       clear hcall hc2
       go_wp2_with fail
       go_at_fn 193
       refine HCALL.out.mono ?_
       rintro e' w2 ⟨rfl,d2,k2,a2,s2⟩
       have K2:=Lib.hid k2
       have A2:=Lib.hid a2
       have S2:Aside _:=s2
       clear k2 a2 s2 HCALL S1
       by_cases hc3:M < e∧e < b
       ·have z1:(M:Int) < (e:Int):=by omega
        have z2:(e:Int) < (b:Int):=by omega
        have hcall:=IH.out M e b d2 w2 (by omega) (K2.out.1.trans D1.out) S2.out (by omega) (by omega) hb ((HP.out.2.2.2.2.1).zh K2.out (.inr (Nat.le_refl _))) ((HP.out.2.2.2.2.2.1).zh K2.out (.inr (by omega))) ((HP.out.2.2.2.2.2.2.1).keep K2.out (.inr (Nat.le_refl _)))
        have HCALL:=Lib.hid hcall
        clear hcall
        go_wp2_with fail
        go_at_fn 193
        refine HCALL.out.mono ?_
        rintro e' w3 ⟨rfl,d3,k3,a3,s3⟩
        have K3:=Lib.hid k3
        have A3:=Lib.hid a3
        have S3:Aside _:=s3
        clear k3 a3 s3 HCALL
        go_wp2
        go_end0
        obtain ⟨x1,x2⟩:=zK (by omega) (by omega) HP.out.2.2.2.2.2.2.2 K2.out A2.out K3.out A3.out
        exact zC.mk (HP.out.1.trans x1) x2 S3.out
       ·have CC3:=Lib.hid hc3
        by_cases z1:M < e
        ·have z2:¬ e < b:=by have:=CC3.out;omega
         have z1':(M:Int) < (e:Int):=by omega
         have z2':¬ (e:Int) < (b:Int):=by omega
         clear hc3
         go_wp2
         go_end0
         obtain ⟨x1,x2⟩:=zK (by omega) (by omega) HP.out.2.2.2.2.2.2.2 K2.out A2.out (Keep.refl _ _ _) (zQ ((HP.out.2.2.2.2.1).zh K2.out (.inr (Nat.le_refl _))) ((HP.out.2.2.2.2.2.1).zh K2.out (.inr (by omega))) CC3.out (by omega) (by omega))
         exact zC.mk (HP.out.1.trans x1) x2 S2.out
        ·have z1':¬ (M:Int) < (e:Int):=by omega
         clear hc3
         go_wp2
         go_end0
         obtain ⟨x1,x2⟩:=zK (by omega) (by omega) HP.out.2.2.2.2.2.2.2 K2.out A2.out (Keep.refl _ _ _) (zQ ((HP.out.2.2.2.2.1).zh K2.out (.inr (Nat.le_refl _))) ((HP.out.2.2.2.2.2.1).zh K2.out (.inr (by omega))) CC3.out (by omega) (by omega))
         exact zC.mk (HP.out.1.trans x1) x2 S2.out
      ·have CC2:=Lib.hid hc2
       have S2:Aside (SWK enc K w0 blk off d1 w1):=S1.out
       have A2:=Lib.hid (zQ HP.out.2.1 HP.out.2.2.1 CC2.out hai hiM)
       have K2:=Lib.hid (Keep.refl a M d1)
       clear hc2 S1
       generalize hd2:d1=d2 at S2 A2
       generalize hw2:w1=w2 at S2 ⊢
       have HD2:=Lib.hid hd2
       clear hd2 hw2
       have K2:Hid (Keep a M d1 d2):=by rw [←HD2.out];exact Keep.refl _ _ _
       clear HD2
       by_cases y1:a < i
       ·have y2:¬ i < M:=by have:=CC2.out;omega
        have y1':(a:Int) < (i:Int):=by omega
        have y2':¬ (i:Int) < (M:Int):=by omega
        clear CC2
        by_cases hc3:M < e∧e < b
        ·have z1:(M:Int) < (e:Int):=by omega
         have z2:(e:Int) < (b:Int):=by omega
         have hcall:=IH.out M e b d2 w2 (by omega) (K2.out.1.trans D1.out) S2.out (by omega) (by omega) hb ((HP.out.2.2.2.2.1).zh K2.out (.inr (Nat.le_refl _))) ((HP.out.2.2.2.2.2.1).zh K2.out (.inr (by omega))) ((HP.out.2.2.2.2.2.2.1).keep K2.out (.inr (Nat.le_refl _)))
         have HCALL:=Lib.hid hcall
         clear hcall
         go_wp2_with fail
         go_at_fn 193
         refine HCALL.out.mono ?_
         rintro e' w3 ⟨rfl,d3,k3,a3,s3⟩
         have K3:=Lib.hid k3
         have A3:=Lib.hid a3
         have S3:Aside _:=s3
         clear k3 a3 s3 HCALL
         go_wp2
         go_end0
         obtain ⟨x1,x2⟩:=zK (by omega) (by omega) HP.out.2.2.2.2.2.2.2 K2.out A2.out K3.out A3.out
         exact zC.mk (HP.out.1.trans x1) x2 S3.out
        ·have CC3:=Lib.hid hc3
         by_cases z1:M < e
         ·have z2:¬ e < b:=by have:=CC3.out;omega
          have z1':(M:Int) < (e:Int):=by omega
          have z2':¬ (e:Int) < (b:Int):=by omega
          clear hc3
          go_wp2
          go_end0
          obtain ⟨x1,x2⟩:=zK (by omega) (by omega) HP.out.2.2.2.2.2.2.2 K2.out A2.out (Keep.refl _ _ _) (zQ ((HP.out.2.2.2.2.1).zh K2.out (.inr (Nat.le_refl _))) ((HP.out.2.2.2.2.2.1).zh K2.out (.inr (by omega))) CC3.out (by omega) (by omega))
          exact zC.mk (HP.out.1.trans x1) x2 S2.out
         ·have z1':¬ (M:Int) < (e:Int):=by omega
          clear hc3
          go_wp2
          go_end0
          obtain ⟨x1,x2⟩:=zK (by omega) (by omega) HP.out.2.2.2.2.2.2.2 K2.out A2.out (Keep.refl _ _ _) (zQ ((HP.out.2.2.2.2.1).zh K2.out (.inr (Nat.le_refl _))) ((HP.out.2.2.2.2.2.1).zh K2.out (.inr (by omega))) CC3.out (by omega) (by omega))
          exact zC.mk (HP.out.1.trans x1) x2 S2.out
       ·have y1':¬ (a:Int) < (i:Int):=by omega
        clear CC2
        by_cases hc3:M < e∧e < b
        ·have z1:(M:Int) < (e:Int):=by omega
         have z2:(e:Int) < (b:Int):=by omega
         have hcall:=IH.out M e b d2 w2 (by omega) (K2.out.1.trans D1.out) S2.out (by omega) (by omega) hb ((HP.out.2.2.2.2.1).zh K2.out (.inr (Nat.le_refl _))) ((HP.out.2.2.2.2.2.1).zh K2.out (.inr (by omega))) ((HP.out.2.2.2.2.2.2.1).keep K2.out (.inr (Nat.le_refl _)))
         have HCALL:=Lib.hid hcall
         clear hcall
         go_wp2_with fail
         go_at_fn 193
         refine HCALL.out.mono ?_
         rintro e' w3 ⟨rfl,d3,k3,a3,s3⟩
         have K3:=Lib.hid k3
         have A3:=Lib.hid a3
         have S3:Aside _:=s3
         clear k3 a3 s3 HCALL
         go_wp2
         go_end0
         obtain ⟨x1,x2⟩:=zK (by omega) (by omega) HP.out.2.2.2.2.2.2.2 K2.out A2.out K3.out A3.out
         exact zC.mk (HP.out.1.trans x1) x2 S3.out
        ·have CC3:=Lib.hid hc3
         by_cases z1:M < e
         ·have z2:¬ e < b:=by have:=CC3.out;omega
          have z1':(M:Int) < (e:Int):=by omega
          have z2':¬ (e:Int) < (b:Int):=by omega
          clear hc3
          go_wp2
          go_end0
          obtain ⟨x1,x2⟩:=zK (by omega) (by omega) HP.out.2.2.2.2.2.2.2 K2.out A2.out (Keep.refl _ _ _) (zQ ((HP.out.2.2.2.2.1).zh K2.out (.inr (Nat.le_refl _))) ((HP.out.2.2.2.2.2.1).zh K2.out (.inr (by omega))) CC3.out (by omega) (by omega))
          exact zC.mk (HP.out.1.trans x1) x2 S2.out
         ·have z1':¬ (M:Int) < (e:Int):=by omega
          clear hc3
          go_wp2
          go_end0
          obtain ⟨x1,x2⟩:=zK (by omega) (by omega) HP.out.2.2.2.2.2.2.2 K2.out A2.out (Keep.refl _ _ _) (zQ ((HP.out.2.2.2.2.1).zh K2.out (.inr (Nat.le_refl _))) ((HP.out.2.2.2.2.2.1).zh K2.out (.inr (by omega))) CC3.out (by omega) (by omega))
          exact zC.mk (HP.out.1.trans x1) x2 S2.out
theorem zch (L:SortL P K) (enc:α→List Value) (cf:α→α→Int) (T:α→α→Prop) (hT:∀ x y z,T x y→T y z→T x z) (g:Nat) (cb:Array Value) (blk off cap:Nat) (d0:Array α) (w0:World)
 (eg:∀ args w,(callFunc g args).run P w=.ok (.enter g args) w) (hcmp:CmpLays P g cb enc K cf blk off d0.size w0) (R:RowK enc K w0 blk off d0) (hsz:d0.size < 4611686018427387904) :
 ∀ n,zam P K enc cf T g cb blk off cap w0 d0.size n:=by
 intro n
 induction n with
 | zero=>intro a m b d w hn hs S h1 h2;omega
 | succ n ih =>
   intro a m b d w hn hs S h1 h2 hb hL hR hM
   by_cases c1:m=a+1
   ·have:=zjq L enc cf T hT g cb blk off cap a m b d0 d w0 w eg hcmp R hs.symm S c1 h2 (by rw [hs];exact hb) (by rw [hs];exact hsz) hR hM
    rw [hs] at this
    exact this
   ·by_cases c2:b=m+1
    ·have:=zhY L enc cf T hT g cb blk off cap a m b d0 d w0 w eg hcmp R hs.symm S (by omega) c2 (by rw [hs];exact hb) (by rw [hs];exact hsz) hL hM
     rw [hs] at this
     exact this
    ·exact ziS L enc cf T hT g cb blk off cap a m b n d0 d w0 w eg hcmp ih R hs S (by omega) (by omega) hb hn hsz hL hR hM
end Go.Proofs.YtdhfpgjnjlcciaaGreatDoor
