/- SortKRight -/
import Derived.Test.YtdhfpgjnjlcciaaGreatDoorQ23
namespace Go.Proofs.YtdhfpgjnjlcciaaGreatDoor
open Go.Shelf Go.RowKit Go.Lib Go.Sort
variable {P:Program} {K:Nat} {α:Type} [Inhabited α]
set_option maxHeartbeats 8000000 in
set_option maxRecDepth 1000000 in
theorem zhY (L:SortL P K) (enc:α→List Value) (cf:α→α→Int) (T:α→α→Prop) (hT:∀ x y z,T x y→T y z→T x z) (g:Nat) (cb:Array Value) (blk off cap a m b:Nat) (d0 d:Array α) (w0 w:World)
 (eg:∀ args w,(callFunc g args).run P w=.ok (.enter g args) w) (hcmp:CmpLays P g cb enc K cf blk off d0.size w0)
 (R:RowK enc K w0 blk off d0) (hs:d0.size=d.size) (S:SWK enc K w0 blk off d w) (ham:a+1 < m) (hmb:b=m+1) (hb:b≤d.size) (hsz:d.size < 4611686018427387904)
 (hA:Asc T a m d) (hM:Meet (ltOf cf) T a m b d) :
 Calls P 193 #[.slice (some ⟨blk,off,none⟩) d.size cap,.int .i64 a,.int .i64 m,.int .i64 b,.func (.func g) #[] cb] w fun e w'=>e=.returned (.tuple #[]) ∧
  ∃ d',Keep a b d d'∧Asc T a b d'∧SWK enc K w0 blk off d' w':=by
 have hone:((m:Int) - (a:Int)==1)=false:=by rw [beq_eq_false_iff_ne];omega
 have htwo:((b:Int) - (m:Int)==1)=true:=by rw [beq_iff_eq];omega
 have hlm:a < m:=by omega
 have hlb:m < b:=by omega
 have HAM:=Lib.hid hmb
 have HS:=Lib.hid hs
 have HA:=Lib.hid hA
 have HM:=Lib.hid hM
 have HT:=Lib.hid hT
 have HC:Aside _:=hcmp
 have S0:Aside (SWK enc K w0 blk off d w):=S
 clear S ham hmb hs hA hM hT hcmp
 have mixed:=L.mixed;have t0:=L.t0;have a0:=L.a0;have z0:=L.z0;have v0:=L.v0;have t3:=L.t3;have a3:=L.a3;have z3:=L.z3;have v3:=L.v3;have t4:=L.t4;have a4:=L.a4;have z4:=L.z4;have v4:=L.v4;have t29:=L.t29;have a29:=L.a29;have z29:=L.z29;have v29:=L.v29;have t83:=L.t83;have a83:=L.a83;have z83:=L.z83;have v83:=L.v83;have t90:=L.t90;have a90:=L.a90;have z90:=L.z90;have v90:=L.v90;have aE:=L.aE;have zE:=L.zE
 go_enter L.f54,Tryz.ntmps193
 go_wp2
 go_loopg [14,15] (m - a) (fun kx vi vj wr=>∃ (i j:Nat),vi=.int .i64 i∧vj=.int .i64 j∧a≤i∧i≤j∧j≤m∧j - i≤kx∧Aside (SWK enc K w0 blk off d wr)∧Hid (∀ k,a≤k→k < i→T d[k]! d[m]!)∧Hid (∀ k,j≤k→k < m→T d[m]! d[k]!))
 case atStart=>exact ⟨a,m,rfl,rfl,Nat.le_refl _,by omega,Nat.le_refl _,Nat.le_refl _,S0,fun k h1 h2=>absurd h1 (by omega),fun k h1 h2=>absurd h1 (by omega)⟩
 case round =>
  clear S0
  obtain ⟨i,j,rfl,rfl,hmi,hij,hjb,hkx,S1,HL,HR⟩:=hrel
  by_cases hlt:i < j
  ·have hltz:(i:Int) < (j:Int):=by omega
   obtain ⟨h,hh⟩:∃ h,h=(i+j) / 2:=⟨_,rfl⟩
   have hh1:i≤h:=by omega
   have hh2:h < j:=by omega
   have hsd:d.size=d0.size:=HS.out.symm
   have eh:((i:Int)+(j:Int)) / 2=(h:Int):=by omega
   have EH:=Lib.hid eh
   obtain ⟨x,hx⟩:∃ x,x=d[m]! := ⟨_,rfl⟩
   obtain ⟨y,hy⟩:∃ x,x=d[h]! := ⟨_,rfl⟩
   have la:=S1.out.ld R hsd P m (by omega)
   have lb:=S1.out.ld R hsd P h (by omega)
   rw [←hx] at la
   rw [←hy] at lb
   have hc:=S1.out.cmp HC.out hsd x y
   have ea:(((i:Int)+(j:Int)) / 2).toNat=h:=by omega
   have pa:(0:Int)≤((i:Int)+(j:Int)) / 2:=by omega
   have ba:((i:Int)+(j:Int)) / 2 < (d.size:Int):=by omega
   have bc:(m:Int) < (d.size:Int):=by omega
   have mt:=HM.out h m (by omega) (by omega) (Nat.le_refl _) (by omega)
   have up:ltOf cf x y=false→Hid (∀ k,a≤k→k < h+1→T d[k]! d[m]!):=fun hl k k1 k2=>by
    rw [hx,hy] at hl
    by_cases c:k=h
    ·rw [c];exact mt.2 hl
    ·exact HT.out _ _ _ (HA.out k h k1 (by omega) (by omega)) (mt.2 hl)
   have dn:ltOf cf x y=true→Hid (∀ k,h≤k→k < m→T d[m]! d[k]!):=fun hl k k1 k2=>by
    rw [hx,hy] at hl
    by_cases c:k=h
    ·rw [c];exact mt.1 hl
    ·exact HT.out _ _ _ (mt.1 hl) (HA.out h k (by omega) (by omega) k2)
   clear hx hy mt hsd hh eh
   by_cases hv:cf x y < 0
   ·have hd:decide (cf x y < 0)=true:=decide_eq_true hv
    have DN:=dn hd
    clear up dn
    go_wp2_with fail
    go_quiet_grown (first | (go_at_fn g;refine Calls.grown_of (hc _ _)))
    have S2:Aside (SWK enc K w0 blk off d (grow (wr.drewN nq) osq)):=S1.out.grown nq osq
    clear la lb hc S1
    generalize grow (wr.drewN nq) osq=w2 at S2 ⊢
    clear nq osq ea
    go_wp2
    go_roundg (h - i)
    case measure=>omega
    case rel=>exact ⟨i,h,rfl,by rw [EH.out],hmi,by omega,by omega,Nat.le_refl _,S2,HL,DN⟩
   ·have hd:decide (cf x y < 0)=false:=decide_eq_false hv
    have UP:=up hd
    clear up dn
    go_wp2_with fail
    go_quiet_grown (first | (go_at_fn g;refine Calls.grown_of (hc _ _)))
    have S2:Aside (SWK enc K w0 blk off d (grow (wr.drewN nq) osq)):=S1.out.grown nq osq
    clear la lb hc S1
    generalize grow (wr.drewN nq) osq=w2 at S2 ⊢
    clear nq osq ea
    go_wp2
    go_roundg (j - (h+1))
    case measure=>omega
    case rel=>exact ⟨h+1,j,by rw [EH.out];rfl,rfl,by omega,by omega,hjb,Nat.le_refl _,S2,UP,HR⟩
  ·have hltz:¬ (i:Int) < (j:Int):=by omega
   obtain rfl:i=j:=by omega
   rename World=>wa
   go_wp2
   go_loopg [17] (m - i) (fun ky vk wr=>∃ (k:Nat) (dk:Array α),vk=.int .i64 k∧i≤k∧k≤m∧k - i≤ky∧Hid (dk.size=d.size)∧Aside (SWK enc K w0 blk off dk wr)∧Hid (∀ x,dk[x]! = d[dnAt k m x]!))
   case atStart=>exact ⟨m,d,rfl,by omega,Nat.le_refl _,Nat.le_refl _,rfl,S1,fun x=>by rw [zbI]⟩
   case round =>
    clear S1
    obtain ⟨kk,dk,rfl,hik,hkm,hky,HD,S1,HE⟩:=hrel
    by_cases hkl:i < kk
    ·have hklz:(i:Int) < (kk:Int):=by omega
     obtain ⟨k,hk⟩:∃ k,k+1=kk:=⟨kk - 1,by omega⟩
     subst hk
     have hklz':(i:Int) < (k:Int)+1:=by omega
     have hsd:dk.size=d0.size:=by rw [HD.out,HS.out]
     have hkd:k+1 < d.size:=by omega
     have hkd':k+1 < dk.size:=by rw [HD.out];exact hkd
     obtain ⟨iN,hiN⟩:∃ q,q=k+1:=⟨_,rfl⟩
     obtain ⟨jN,hjN⟩:∃ q,q=k:=⟨_,rfl⟩
     have ea:((k:Int)+1).toNat=iN:=by omega
     have pa:(0:Int)≤(k:Int)+1:=by omega
     have ba:(k:Int)+1 < (d.size:Int):=by omega
     have ra:IntKind.i64.wrap ((k:Int)+1)=(k:Int)+1:=by rw [IntKind.wrap_i64];omega
     have ec:((k:Int)).toNat=jN:=by omega
     have pc:(0:Int)≤(k:Int):=by omega
     have bc:(k:Int) < (d.size:Int):=by omega
     have rc:IntKind.i64.wrap ((k:Int))=(k:Int):=by rw [IntKind.wrap_i64];omega
     obtain ⟨x,hx⟩:∃ x,x=dk[k+1]! := ⟨_,rfl⟩
     obtain ⟨y,hy⟩:∃ x,x=dk[k]! := ⟨_,rfl⟩
     have S2:Aside (SWK enc K w0 blk off (swp dk (k+1) (k)) ((wr.drew.setCells blk (off+iN * K) (enc y)).setCells blk (off+jN * K) (enc x))):=by rw [hiN,hjN,hx,hy];exact S1.out.swapped R (k+1) (k) (by omega) (by omega)
     have l1:=S1.out.ld1 R hsd P (k+1) (by omega)
     have l2:=S1.out.ld1 R hsd P (k) (by omega)
     have s1:=S1.out.st1 R hsd P (k+1) (by omega) y
     have s2:=S1.out.st2 R hsd P (k+1) (k) (by omega) (by omega) y x
     have n1:(enc x).length=K:=R.hk _
     have n2:(enc y).length=K:=R.hk _
     rw [←hx,←hiN] at l1
     rw [←hy,←hjN] at l2
     rw [←hiN] at s1
     rw [←hiN,←hjN] at s2
     generalize enc x=cx at S2 l1 s2 n1
     generalize enc y=cy at S2 l2 s1 s2 n2
     clear S1 hx hy hiN hjN hsd hkd hkd'
     go_wp2_with fail
     go_big_region_o
     clear l1 l2 s1 s2
     generalize (wr.drew.setCells blk (off+iN * K) cy).setCells blk (off+jN * K) cx=w2 at S2 ⊢
     clear ea ec
     go_wp2
     go_roundg (k - i)
     case measure=>omega
     case rel=>exact ⟨k,swp dk (k+1) k,by first | rfl | go_num | (congr 1;omega),by omega,by omega,Nat.le_refl _,(show Hid _ from by rw [size_swp];exact HD.out),S2,fun x=>zet HD.out HE.out (by omega) (by omega) x⟩
    ·have hklz:¬ (i:Int) < (kk:Int):=by omega
     go_wp2
     (try simp only [Exit.inBlock,Exit.then]);refine bodyPost_ret (results_none rfl _ _ _) rfl ?_
     obtain rfl:i=kk:=by omega
     have hm:=HAM.out
     subst hm
     obtain ⟨k1,k2⟩:=zgs HA.out hmi (by omega) HL.out HR.out HD.out HE.out
     exact ⟨rfl,dk,k1,k2,S1.out⟩
end Go.Proofs.YtdhfpgjnjlcciaaGreatDoor
