/- SortKStable FaSorted FaByKey FaEql RangeTold FaIter CentAdd CentSum FaOf FaGet FaRight FaFacts PkFacts PkSmall -/
import Derived.Test.YtdhfpgjnjlcciaaGreatDoorQ22
import Derived.Test.YtdhfpgjnjlcciaaGreatDoorQ25
section
namespace Go.Proofs.YtdhfpgjnjlcciaaGreatDoor
open Go.Shelf Go.RowKit Go.Lib Go.Sort
variable {P:Program} {K:Nat} {α:Type} [Inhabited α]
def GoodS (T:α→α→Prop) (v:α→Nat) (n lo hi:Nat) (d:Array α):Prop :=
 (∀ i j,lo≤i→i < j→j < hi→j < n→T d[i]! d[j]!)∧∀ i,lo≤i→i < hi→i < n→lo≤v d[i]! ∧ v d[i]! < hi
def Tells (lt:α→α→Bool) (T:α→α→Prop) (v:α→Nat):Prop:=∀ x y,v x < v y→(lt y x=true→T y x)∧(lt y x=false→T x y)
section
variable {T:α→α→Prop} {v:α→Nat} {lt:α→α→Bool} {n:Nat}
theorem GoodS.keep {lo hi a b:Nat} {d d':Array α} (h:GoodS T v n lo hi d) (hk:Keep a b d d') (ho:hi≤a∨b≤lo):GoodS T v n lo hi d':=by
 refine ⟨fun i j h1 h2 h3 h4=>?_,fun i h1 h2 h3=>?_⟩
 ·rw [hk.2.1 i (by omega),hk.2.1 j (by omega)];exact h.1 i j h1 h2 h3 h4
 ·rw [hk.2.1 i (by omega)];exact h.2 i h1 h2 h3
theorem GoodS.asc {lo hi b:Nat} {d:Array α} (h:GoodS T v n lo hi d) (h1:b≤hi) (h2:b≤n):Asc T lo b d:=fun i j a1 a2 a3=>h.1 i j a1 a2 (by omega) (by omega)
theorem GoodS.meet (ht:Tells lt T v) {lo mid hi b:Nat} {d:Array α} (h:GoodS T v n lo mid d) (h':GoodS T v n mid hi d) (h1:b≤hi) (h2:b≤n):Meet lt T lo mid b d:=fun i j a1 a2 a3 a4 =>
 ht _ _ (by have:=h.2 i a1 a2 (by omega);have:=h'.2 j a3 (by omega) (by omega);omega)
theorem GoodS.join {lo mid hi b:Nat} {d d':Array α} (h:GoodS T v n lo mid d) (h':GoodS T v n mid hi d) (hlm:lo≤mid) (hmh:mid≤hi) (hb:b=hi∨b=n) (h1:b≤hi) (h2:b≤n) (hk:Keep lo b d d') (ha:Asc T lo b d'):GoodS T v n lo hi d':=by
 refine ⟨fun i j a1 a2 a3 a4=>ha i j a1 a2 (by omega),fun i a1 a2 a3=>?_⟩
 obtain ⟨j,j1,j2,e⟩:=hk.2.2 i a1 (by omega)
 rw [e]
 by_cases c:j < mid
 ·have:=h.2 j j1 c (by omega);omega
 ·have:=h'.2 j (by omega) (by omega) (by omega);omega
theorem GoodS.more {lo hi hi':Nat} {d:Array α} (h:GoodS T v n lo hi d) (h1:n≤hi) (h2:hi≤hi'):GoodS T v n lo hi' d :=
 ⟨fun i j a1 a2 a3 a4=>h.1 i j a1 a2 (by omega) a4,fun i a1 a2 a3=>by have:=h.2 i a1 (by omega) a3;omega⟩
theorem GoodS.void {lo hi:Nat} (d:Array α) (h:n≤lo):GoodS T v n lo hi d:=⟨fun i j a1 a2 a3 a4=>by omega,fun i a1 a2 a3=>by omega⟩
theorem ziV (hT:∀ x y z,T x y→T y z→T x z) (ht:Tells lt T v) {a b hi:Nat} {d:Array α} (hab:a≤b) (hs:b≤d.size) (hv:∀ i,a≤i→i < n→v d[i]! = i) (h1:b≤hi) (h2:b≤n) (hb:b=hi∨b=n) :
 Keep a b d (insertionSort lt d a b)∧GoodS T v n a hi (insertionSort lt d a b):=by
 obtain ⟨k1,k2⟩:=ziH (lt:=lt) hT hab hs (fun k l a1 a2 a3=>ht _ _ (by rw [hv k a1 (by omega),hv l (by omega) (by omega)];exact a2))
 refine ⟨k1,fun i j a1 a2 a3 a4=>k2 i j a1 a2 (by omega),fun i a1 a2 a3=>?_⟩
 obtain ⟨j,j1,j2,e⟩:=k1.2.2 i a1 (by omega)
 rw [e,hv j j1 (by omega)];omega
theorem VB {p q s:Nat} (h:p < q):p * s+s≤q * s:=by
 have:=Nat.mul_le_mul_right s h
 rwa [Nat.succ_mul] at this
theorem ZN {bs q A:Nat} {d:Array α} (hA:A=q * (2 * bs)) (hr:∀ p,2 * q≤p→GoodS T v n (p * bs) (p * bs+bs) d):GoodS T v n A (A+bs) d∧GoodS T v n (A+bs) (A+2 * bs) d:=by
 have e:2 * q * bs=A:=by rw [hA,Nat.mul_comm 2 q,Nat.mul_assoc]
 have h1:=hr (2 * q) (Nat.le_refl _)
 have h2:=hr (2 * q+1) (Nat.le_succ _)
 rw [Nat.succ_mul] at h2
 rw [e] at h1 h2
 rw [show A+bs+bs=A+2 * bs by omega] at h2
 exact ⟨h1,h2⟩
theorem zaK {bs q A b:Nat} {d d':Array α} (hA:A=q * (2 * bs)) (hd:∀ p,p < q→GoodS T v n (p * (2 * bs)) (p * (2 * bs)+2 * bs) d) (hr:∀ p,2 * q≤p→GoodS T v n (p * bs) (p * bs+bs) d)
 (hb:b=A+2 * bs∨b=n) (h1:b≤A+2 * bs) (h2:b≤n) (hk:Keep A b d d') (ha:Asc T A b d') :
 (∀ p,p < q+1→GoodS T v n (p * (2 * bs)) (p * (2 * bs)+2 * bs) d')∧∀ p,2 * (q+1)≤p→GoodS T v n (p * bs) (p * bs+bs) d':=by
 obtain ⟨g1,g2⟩:=ZN hA hr
 refine ⟨fun p hp=>?_,fun p hp=>?_⟩
 ·by_cases c:p=q
  ·subst c
   rw [←hA]
   exact g1.join g2 (by omega) (by omega) hb h1 h2 hk ha
  ·have hl:p < q:=by omega
   exact (hd p hl).keep hk (.inl (by rw [hA];exact VB hl))
 ·refine (hr p (by omega)).keep hk (.inr ?_)
  have:2 * (q+1) * bs≤p * bs:=Nat.mul_le_mul_right _ hp
  have e:2 * (q+1) * bs=A+2 * bs:=by rw [hA,Nat.mul_comm 2 (q+1),Nat.mul_assoc,Nat.succ_mul]
  omega
theorem Kw {bs q A:Nat} {d:Array α} (hA:A=q * (2 * bs)) (hd:∀ p,p < q+1→GoodS T v n (p * (2 * bs)) (p * (2 * bs)+2 * bs) d) (h:n≤A+2 * bs):∀ p,GoodS T v n (p * (2 * bs)) (p * (2 * bs)+2 * bs) d:=by
 intro p
 by_cases c:p < q+1
 ·exact hd p c
 ·refine GoodS.void d ?_
  have:(q+1) * (2 * bs)≤p * (2 * bs):=Nat.mul_le_mul_right _ (by omega)
  rw [Nat.succ_mul,←hA] at this
  omega
theorem zeN {bs q A:Nat} {d:Array α} (hA:A=q * (2 * bs)) (hd:∀ p,p < q→GoodS T v n (p * (2 * bs)) (p * (2 * bs)+2 * bs) d) (hr:∀ p,2 * q≤p→GoodS T v n (p * bs) (p * bs+bs) d) (h:n≤A+bs) :
 ∀ p,GoodS T v n (p * (2 * bs)) (p * (2 * bs)+2 * bs) d:=by
 refine Kw hA (fun p hp=>?_) (by omega)
 by_cases c:p=q
 ·subst c
  rw [←hA]
  exact (ZN hA hr).1.more h (by omega)
 ·exact hd p (by omega)
theorem V7 (hT:∀ x y z,T x y→T y z→T x z) (ht:Tells lt T v) {q A b:Nat} {d:Array α} (hA:A=q * 20) (hs:d.size=n) (hd:∀ p,p < q→GoodS T v n (p * 20) (p * 20+20) d) (hi:∀ i,A≤i→i < n→v d[i]! = i)
 (hab:A≤b) (hb:b=A+20∨b=n) (h1:b≤A+20) (h2:b≤n) :
 (insertionSort lt d A b).size=n∧(∀ p,p < q+1→GoodS T v n (p * 20) (p * 20+20) (insertionSort lt d A b))∧(∀ i,b≤i→i < n→v (insertionSort lt d A b)[i]! = i)∧Keep A b d (insertionSort lt d A b):=by
 obtain ⟨k1,k2⟩:=ziV hT ht hab (by omega) hi h1 h2 hb
 refine ⟨k1.1.trans hs,fun p hp=>?_,fun i i1 i2=>?_,k1⟩
 ·by_cases c:p=q
  ·subst c;rw [←hA];exact k2
  ·have hl:p < q:=by omega
   exact (hd p hl).keep k1 (.inl (by rw [hA];exact VB hl))
 ·rw [k1.2.1 i (by omega)];exact hi i (by omega) i2
theorem zcH {q A:Nat} {d:Array α} (hA:A=q * 20) (hd:∀ p,p < q+1→GoodS T v n (p * 20) (p * 20+20) d) (h:n≤A+20):∀ p,GoodS T v n (p * 20) (p * 20+20) d:=by
 intro p
 by_cases c:p < q+1
 ·exact hd p c
 ·exact GoodS.void d (by omega)
end
theorem XQ (lt:α→α→Bool) (a:Nat):∀ (j:Nat) (d:Array α),(insInner lt a j d).size=d.size
 | 0,d=>by rw [insInner_stop lt a 0 d (.inl (Nat.zero_le _))]
 | j+1,d=>by
   by_cases h:a < j+1
   ·cases hl:lt d[j+1]! d[j]! with
    | true=>rw [insInner_go lt a (j+1) d h hl,Nat.add_sub_cancel,XQ lt a j,size_swp]
    | false=>rw [insInner_stop lt a (j+1) d (.inr hl)]
   ·rw [insInner_stop lt a (j+1) d (.inl (by omega))]
theorem ziL (lt:α→α→Bool) (a b:Nat):∀ (n i:Nat) (d:Array α),b - i≤n→(insOuter lt a b i d).size=d.size:=by
 intro n
 induction n with
 | zero=>intro i d h;rw [insOuter_stop lt a b i d (by omega)]
 | succ n ih =>
   intro i d h
   by_cases c:i < b
   ·rw [insOuter_go lt a b i d c,ih _ _ (by omega),XQ]
   ·rw [insOuter_stop lt a b i d c]
theorem zgi (lt:α→α→Bool) (d:Array α) (a b:Nat):(insertionSort lt d a b).size=d.size:=by
 unfold insertionSort;exact ziL lt a b _ _ d (Nat.le_refl _)
theorem insS (L:SortL P K) (enc:α→List Value) (cf:α→α→Int) (g:Nat) (cb:Array Value) (blk off cap a b:Nat) (d0 d:Array α) (w0 w:World)
 (eg:∀ args w,(callFunc g args).run P w=.ok (.enter g args) w) (hcmp:CmpLays P g cb enc K cf blk off d0.size w0) (R:RowK enc K w0 blk off d0) (hs:d0.size=d.size) (S:SWK enc K w0 blk off d w) (hab:a≤b) (hb:b≤d.size) (hsz:d.size < 4611686018427387904) :
 Calls P 192 #[.slice (some ⟨blk,off,none⟩) d.size cap,.int .i64 a,.int .i64 b,.func (.func g) #[] cb] w fun e w'=>e=.returned (.tuple #[])∧SWK enc K w0 blk off (Sort.insertionSort (ltOf cf) d a b) w':=by
 have hC:CmpLays P g cb enc K cf blk off d.size w:=fun m os dk hdk x y=>by
  obtain ⟨n0,os0,rfl⟩:=S
  rw [sortWorldK_on enc K w0 blk off n0 m d dk os0 os R.hblk hdk]
  exact hcmp _ _ dk (by omega) x y
 refine (AnyQ.insertionSortCmpFunc L.ins K L.aE L.zE enc R.hk R.h1 cf g cb blk off cap a b d w eg hC (S.holds R.hblk R.hH hs.symm) (S.lt R.hblk) hab hb hsz).mono ?_
 rintro e w' ⟨rfl,n,os,rfl⟩
 exact ⟨rfl,S.on R.hblk n _ os (zgi _ _ _ _)⟩
set_option maxHeartbeats 8000000 in
set_option maxRecDepth 1000000 in
theorem zaT (L:SortL P K) (enc:α→List Value) (cf:α→α→Int) (T:α→α→Prop) (hT:∀ x y z,T x y→T y z→T x z) (v:α→Nat) (ht:Tells (ltOf cf) T v) (g:Nat) (cb:Array Value) (blk off cap n:Nat) (d0:Array α) (w0 w:World)
 (eg:∀ args w,(callFunc g args).run P w=.ok (.enter g args) w) (hcmp:CmpLays P g cb enc K cf blk off d0.size w0)
 (R:RowK enc K w0 blk off d0) (hn:n=d0.size) (S:SWK enc K w0 blk off d0 w) (hsz:n < 100000) (hv:∀ i,i < n→v d0[i]! = i) :
 Calls P 160 #[.slice (some ⟨blk,off,none⟩) n cap,.int .i64 n,.func (.func g) #[] cb] w fun e w'=>e=.returned (.tuple #[]) ∧
  ∃ d',d'.size=n∧Asc T 0 n d'∧Keep 0 n d0 d'∧SWK enc K w0 blk off d' w':=by
 have MG:=zch L enc cf T hT g cb blk off cap d0 w0 eg hcmp R (by omega)
 rw [←hn] at MG
 have IS:=fun a b d w hs S ha hb=>insS L enc cf g cb blk off cap a b d0 d w0 w eg hcmp R hs S ha hb (by omega)
 have HMG:=Lib.hid MG
 have HIS:=Lib.hid IS
 have HN:=Lib.hid hn
 have HV:=Lib.hid hv
 have HT:=Lib.hid hT
 have HTE:=Lib.hid ht
 have S0:Aside (SWK enc K w0 blk off d0 w):=S
 clear MG IS hn hv hT ht hcmp S
 have mixed:=L.mixed;have t0:=L.t0;have a0:=L.a0;have z0:=L.z0;have v0:=L.v0;have t3:=L.t3;have a3:=L.a3;have z3:=L.z3;have v3:=L.v3;have t4:=L.t4;have a4:=L.a4;have z4:=L.z4;have v4:=L.v4;have t29:=L.t29;have a29:=L.a29;have z29:=L.z29;have v29:=L.v29;have t83:=L.t83;have a83:=L.a83;have z83:=L.z83;have v83:=L.v83;have t90:=L.t90;have a90:=L.a90;have z90:=L.z90;have v90:=L.v90;have aE:=L.aE;have zE:=L.zE
 have e53:∀ args w,(callFunc 192 args).run P w=.ok (.enter 192 args) w:=(L.ins).f20.enters rfl
 have e54:∀ args w,(callFunc 193 args).run P w=.ok (.enter 193 args) w:=enters_of L.f54 (by kernel_rfl) rfl
 go_enter L.f51,Tryz.ntmps160
 go_wp2
 go_loopg [7,8] n (fun kx va vb wr=>∃ (q A B:Nat) (d:Array α),va=.int .i64 (A:Int)∧vb=.int .i64 (B:Int)∧Hid (A=q * 20)∧Hid (B=A+20)∧A≤n∧B≤n+20∧n - A≤kx∧Hid (d.size=n)∧Aside (SWK enc K w0 blk off d wr) ∧
  Hid (∀ p,p < q→GoodS T v n (p * 20) (p * 20+20) d)∧Hid (∀ i,A≤i→i < n→v d[i]! = i)∧Hid (Keep 0 n d0 d))
 case atStart=>exact ⟨0,0,20,d0,rfl,rfl,rfl,rfl,Nat.zero_le _,by omega,by omega,HN.out.symm,S0,fun p hp=>absurd hp (Nat.not_lt_zero _),fun i _ hi=>HV.out i hi,Keep.refl _ _ _⟩
 case round =>
  clear S0
  obtain ⟨q,A,B,d,rfl,rfl,EA,EB,hAn,hBn,hkx,HD,S1,HG,HI,HK⟩:=hrel
  by_cases hle:B≤n
  ·have hlez:(B:Int)≤(n:Int):=by omega
   have hAB:A < B:=by have:=EB.out;omega
   have hc:=HIS.out A B d wr (HN.out.symm.trans HD.out.symm) S1.out (by omega) (by rw [HD.out];exact hle)
   rw [HD.out] at hc
   have HC:=Lib.hid hc
   clear hc
   go_wp2_with fail
   go_at_fn 192
   refine HC.out.mono ?_
   rintro e w1 ⟨rfl,s1⟩
   clear S1
   have S1:Aside _:=s1
   have ST:=Lib.hid (V7 HT.out HTE.out EA.out HD.out HG.out HI.out (by omega) (.inl EB.out) (by rw [EB.out];exact Nat.le_refl _) hle)
   clear s1 HC
   go_wp2
   go_roundg (n - B)
   case measure=>omega
   case rel=>exact ⟨q+1,B,B+20,insertionSort (ltOf cf) d A B,rfl,by first | rfl | go_num,(show Hid _ from by rw [Nat.succ_mul,←EA.out];exact EB.out),rfl,hle,by omega,Nat.le_refl _,ST.out.1,S1,ST.out.2.1,ST.out.2.2.1,HK.out.trans (ST.out.2.2.2.wider (Nat.zero_le _) hle)⟩
  ·have hlez:¬ (B:Int)≤(n:Int):=by omega
   have hc:=HIS.out A n d wr (HN.out.symm.trans HD.out.symm) S1.out hAn (by rw [HD.out];exact Nat.le_refl _)
   rw [HD.out] at hc
   have HC:=Lib.hid hc
   clear hc
   go_wp2_with fail
   go_at_fn 192
   refine HC.out.mono ?_
   rintro e w1 ⟨rfl,s1⟩
   clear S1
   have S1:Aside _:=s1
   have ST:=Lib.hid (V7 HT.out HTE.out EA.out HD.out HG.out HI.out hAn (.inr rfl) (by have:=EB.out;omega) (Nat.le_refl _))
   have D1:Hid _:=ST.out.1
   have G1:=Lib.hid (zcH EA.out ST.out.2.1 (by have:=EB.out;omega))
   have K1:=Lib.hid (HK.out.trans (ST.out.2.2.2.wider (Nat.zero_le _) (Nat.le_refl _)))
   generalize insertionSort (ltOf cf) d A n=d1 at S1 D1 G1 K1
   clear s1 HC ST HD HG HI HK EA EB hlez hle hBn hkx
   rename World=>wa
   go_wp2
   go_loopg [6] n (fun kx vs wr=>∃ (bs:Nat) (d:Array α),vs=.int .i64 (bs:Int)∧0 < bs∧bs≤200000∧n - bs≤kx∧Hid (d.size=n)∧Aside (SWK enc K w0 blk off d wr)∧Hid (∀ p,GoodS T v n (p * bs) (p * bs+bs) d)∧Hid (Keep 0 n d0 d))
   case atStart=>exact ⟨20,d1,rfl,by omega,by omega,by omega,D1,S1,G1,K1⟩
   case round =>
    clear S1 D1 G1 K1
    obtain ⟨bs,d,rfl,hbs,hbm,hkx,HD,S1,HG,HK⟩:=hrel
    by_cases hlt:bs < n
    ·have hltz:(bs:Int) < (n:Int):=by omega
     rename World=>wb
     have e2:(2:Int) * (bs:Int)=((2 * bs:Nat):Int):=by omega
     obtain ⟨ds,hds⟩:∃ ds,ds=2 * bs:=⟨_,rfl⟩
     rw [←hds] at e2
     have hds1:bs < ds:=by omega
     have hds2:ds≤400000:=by omega
     have EDS:=Lib.hid hds
     clear hds
     go_wp2
     go_loopg [7,8] n (fun ky va vb wr=>∃ (q A B:Nat) (d:Array α),va=.int .i64 (A:Int)∧vb=.int .i64 (B:Int)∧Hid (A=q * (2 * bs))∧Hid (B=A+2 * bs)∧A≤n∧B≤n+ds∧n - A≤ky∧Hid (d.size=n)∧Aside (SWK enc K w0 blk off d wr) ∧
      Hid (∀ p,p < q→GoodS T v n (p * (2 * bs)) (p * (2 * bs)+2 * bs) d)∧Hid (∀ p,2 * q≤p→GoodS T v n (p * bs) (p * bs+bs) d)∧Hid (Keep 0 n d0 d))
     case atStart=>exact ⟨0,0,ds,d,rfl,rfl,(show Hid _ from (Nat.zero_mul _).symm),(Lib.hid (EDS.out.trans (Nat.zero_add _).symm)),Nat.zero_le _,by omega,by omega,HD,S1,fun p hp=>absurd hp (Nat.not_lt_zero _),fun p _=>HG.out p,HK⟩
     case round =>
      clear S1 HD HG HK
      obtain ⟨q,A,B,d,rfl,rfl,EA,EB,hAn,hBn,hky,HD,S1,HG,HR,HK⟩:=hrel
      by_cases hle:B≤n
      ·have hlez:(B:Int)≤(n:Int):=by omega
       have hAB:A+bs < B:=by have:=EB.out;omega
       obtain ⟨g1,g2⟩:=ZN EA.out HR.out
       rw [←EB.out] at g2
       have hc:=HMG.out (B - A) A (A+bs) B d wr (Nat.le_refl _) HD.out S1.out (by omega) hAB hle (g1.asc (Nat.le_refl _) (by omega)) (g2.asc (Nat.le_refl _) hle) (g1.meet HTE.out g2 (Nat.le_refl _) hle)
       rw [show ((A+bs:Nat):Int)=(A:Int)+(bs:Int) by omega] at hc
       have HC:=Lib.hid hc
       clear hc g1 g2
       go_wp2_with fail
       go_at_fn 193
       refine HC.out.mono ?_
       rintro e w1 ⟨rfl,d1,k1,a1,s1⟩
       clear S1
       have S1:Aside _:=s1
       have D1:Hid (d1.size=n):=k1.1.trans HD.out
       have ST:=Lib.hid (zaK EA.out HG.out HR.out (.inl EB.out) (by rw [EB.out];exact Nat.le_refl _) hle k1 a1)
       have K2:=Lib.hid (HK.out.trans (k1.wider (Nat.zero_le _) hle))
       clear s1 k1 a1 HC HK
       go_wp2
       go_roundg (n - B)
       case measure=>omega
       case rel=>exact ⟨q+1,B,B+ds,d1,rfl,by first | rfl | go_num,(show Hid _ from by rw [Nat.succ_mul,←EA.out];exact EB.out),(Lib.hid (show B+ds=B+2 * bs by rw [EDS.out])),hle,by omega,Nat.le_refl _,D1,S1,ST.out.1,ST.out.2,K2⟩
      ·have hlez:¬ (B:Int)≤(n:Int):=by omega
       by_cases hm:A+bs < n
       ·have hmz:(A:Int)+(bs:Int) < (n:Int):=by omega
        have hnB:n≤A+2 * bs:=by have:=EB.out;omega
        obtain ⟨g1,g2⟩:=ZN EA.out HR.out
        have hc:=HMG.out (n - A) A (A+bs) n d wr (Nat.le_refl _) HD.out S1.out (by omega) hm (Nat.le_refl _) (g1.asc (Nat.le_refl _) (by omega)) (g2.asc hnB (Nat.le_refl _)) (g1.meet HTE.out g2 hnB (Nat.le_refl _))
        rw [show ((A+bs:Nat):Int)=(A:Int)+(bs:Int) by omega] at hc
        have HC:=Lib.hid hc
        clear hc g1 g2
        go_wp2_with fail
        go_at_fn 193
        refine HC.out.mono ?_
        rintro e w1 ⟨rfl,d1,k1,a1,s1⟩
        clear S1
        have S1:Aside _:=s1
        have D1:Hid (d1.size=n):=k1.1.trans HD.out
        have ST:=Lib.hid (Kw EA.out (zaK EA.out HG.out HR.out (.inr rfl) hnB (Nat.le_refl _) k1 a1).1 hnB)
        have e3:(bs:Int) * 2=(ds:Int):=by have:=EDS.out;omega
        have K2:=Lib.hid (HK.out.trans (k1.wider (Nat.zero_le _) (Nat.le_refl _)))
        clear s1 k1 a1 HC hnB HK
        go_wp2
        go_roundg (n - ds)
        case measure=>omega
        case rel=>exact ⟨ds,d1,rfl,by omega,by have:=EDS.out;omega,Nat.le_refl _,D1,S1,(show Hid _ from by rw [EDS.out];exact ST.out),K2⟩
       ·have hmz:¬ (A:Int)+(bs:Int) < (n:Int):=by omega
        have ST:=Lib.hid (zeN EA.out HG.out HR.out (by omega))
        have e3:(bs:Int) * 2=(ds:Int):=by have:=EDS.out;omega
        go_wp2
        go_roundg (n - ds)
        case measure=>omega
        case rel=>exact ⟨ds,d,rfl,by omega,by have:=EDS.out;omega,Nat.le_refl _,HD,S1,(show Hid _ from by rw [EDS.out];exact ST.out),HK⟩
    ·have hltz:¬ (bs:Int) < (n:Int):=by omega
     go_wp2
     go_end0
     refine ⟨rfl,d,HD.out,fun i j i1 i2 i3=>?_,HK.out,S1.out⟩
     have:=(HG.out 0).1 i j (by omega) i2 (by omega) i3
     exact this
set_option maxHeartbeats 800000 in
theorem zex (L:SortL P K) (enc:α→List Value) (cf:α→α→Int) (T:α→α→Prop) (hT:∀ x y z,T x y→T y z→T x z) (v:α→Nat) (ht:Tells (ltOf cf) T v) (g:Nat) (cb:Array Value) (blk off cap n:Nat) (d0:Array α) (w0 w:World)
 (eg:∀ args w,(callFunc g args).run P w=.ok (.enter g args) w) (hcmp:CmpLays P g cb enc K cf blk off d0.size w0)
 (R:RowK enc K w0 blk off d0) (hn:n=d0.size) (S:SWK enc K w0 blk off d0 w) (hsz:n < 100000) (hv:∀ i,i < n→v d0[i]! = i) :
 Calls P 117 #[.slice (some ⟨blk,off,none⟩) n cap,.func (.func g) #[] cb] w fun e w'=>e=.returned (.tuple #[]) ∧
  ∃ d',d'.size=n∧Asc T 0 n d'∧Keep 0 n d0 d'∧SWK enc K w0 blk off d' w':=by
 have HC:=Lib.hid (zaT L enc cf T hT v ht g cb blk off cap n d0 w0 w eg hcmp R hn S hsz hv)
 clear hT ht hcmp hn S hv eg
 have mixed:=L.mixed;have t0:=L.t0;have a0:=L.a0;have z0:=L.z0;have v0:=L.v0;have t3:=L.t3;have a3:=L.a3;have z3:=L.z3;have v3:=L.v3;have t4:=L.t4;have a4:=L.a4;have z4:=L.z4;have v4:=L.v4;have t29:=L.t29;have a29:=L.a29;have z29:=L.z29;have v29:=L.v29;have t83:=L.t83;have a83:=L.a83;have z83:=L.z83;have v83:=L.v83;have t90:=L.t90;have a90:=L.a90;have z90:=L.z90;have v90:=L.v90;have aE:=L.aE;have zE:=L.zE
 have e51:∀ args w,(callFunc 160 args).run P w=.ok (.enter 160 args) w:=enters_of L.f51 (by kernel_rfl) rfl
 go_enter L.f43,Tryz.ntmps117
 go_wp2_with fail
 go_at_fn 160
 refine HC.out.mono ?_
 rintro e w1 ⟨rfl,d1,h1,h2,h4,h3⟩
 have H1:=Lib.hid h1
 have H2:=Lib.hid h2
 have H4:=Lib.hid h4
 have H3:Aside _:=h3
 clear h1 h2 h3 h4
 go_wp2
 go_end0
 exact ⟨rfl,d1,H1.out,H2.out,H4.out,H3.out⟩
end Go.Proofs.YtdhfpgjnjlcciaaGreatDoor
end
section
namespace Go.Proofs.YtdhfpgjnjlcciaaGreatDoor.Fa
open Go.Sort
theorem Xh {α:Type} [DecidableEq α]:∀ (L M:List α),L.Nodup→(∀ x∈L,x∈M)→L.length≤M.length
 | [],_,_,_=>Nat.zero_le _
 | a::L,M,h,hm=>by
   obtain ⟨h1,h2⟩:=List.nodup_cons.1 h
   have ha:=hm a (List.mem_cons_self ..)
   have:=Xh L (M.erase a) h2 (fun x hx=>(List.mem_erase_of_ne (fun e=>h1 (by rw [←e];exact hx))).2 (hm x (List.mem_cons_of_mem _ hx)))
   rw [List.length_erase_of_mem ha] at this
   have hp:=List.length_pos_of_mem ha
   rw [List.length_cons];omega
theorem zcz {α:Type} [DecidableEq α] {L M:List α} (h:L.Nodup) (hm:∀ x∈L,x∈M) (hl:M.length≤L.length):∀ x∈M,x∈L:=by
 intro x hx
 by_cases c:x∈L
 ·exact c
 ·have:=Xh (x::L) M (List.nodup_cons.2 ⟨c,h⟩) (fun y hy=>by
   rcases List.mem_cons.1 hy with rfl | hy
   ·exact hx
   ·exact hm y hy)
  rw [List.length_cons] at this;omega
theorem xW {α:Type} {T:α→α→Prop} (hi:∀ x,¬ T x x) (ht:∀ {x y z},T x y→T y z→T x z):∀ {L M:List α},L.Pairwise T→M.Pairwise T→(∀ x,x∈L ↔ x∈M)→L=M
 | [],[],_,_,_=>rfl
 | [],b::M,_,_,h=>absurd ((h b).2 (List.mem_cons_self ..)) (by simp)
 | a::L,[],_,_,h=>absurd ((h a).1 (List.mem_cons_self ..)) (by simp)
 | a::L,b::M,hL,hM,h=>by
   obtain ⟨h1,h2⟩:=List.pairwise_cons.1 hL
   obtain ⟨k1,k2⟩:=List.pairwise_cons.1 hM
   have e:a=b:=by
    rcases List.mem_cons.1 ((h a).1 (List.mem_cons_self ..)) with e | ha
    ·exact e
    ·rcases List.mem_cons.1 ((h b).2 (List.mem_cons_self ..)) with e | hb
     ·exact e.symm
     ·exact absurd (ht (h1 b hb) (k1 a ha)) (hi a)
   subst e
   rw [xW hi ht h2 k2 fun x=>⟨fun hx=>?_,fun hx=>?_⟩]
   ·rcases List.mem_cons.1 ((h x).1 (List.mem_cons_of_mem _ hx)) with e | hx'
    ·exact absurd (h1 x hx) (by rw [e];exact hi a)
    ·exact hx'
   ·rcases List.mem_cons.1 ((h x).2 (List.mem_cons_of_mem _ hx)) with e | hx'
    ·exact absurd (k1 x hx) (by rw [e];exact hi a)
    ·exact hx'
def TT (x y:Fact × Nat):Prop:=ltK x.1.key y.1.key∨(x.1.key=y.1.key∧x.2 < y.2)
theorem zaH (x y z:Fact × Nat) (h1:TT x y) (h2:TT y z):TT x z:=by
 rcases h1 with h1 | ⟨e1,h1⟩ <;> rcases h2 with h2 | ⟨e2,h2⟩
 ·exact .inl (yg h1 h2)
 ·exact .inl (by rw [←e2];exact h1)
 ·exact .inl (by rw [e1];exact h2)
 ·exact .inr ⟨e1.trans e2,Nat.lt_trans h1 h2⟩
theorem Vx (x:Fact × Nat):¬ TT x x:=by rintro (h | ⟨_,h⟩);exact xx _ h;omega
def cfT (x y:Fact × Nat):Int:=cmpK x.1.key y.1.key
theorem tellsT:Tells (ltOf cfT) TT (fun x=>x.2):=by
 intro x y hv
 unfold ltOf cfT TT
 refine ⟨fun h=>.inl (of_decide_eq_true h),fun h=>?_⟩
 have h':¬ ltK y.1.key x.1.key:=of_decide_eq_false h
 by_cases e:x.1.key=y.1.key
 ·exact .inr ⟨e,hv⟩
 ·exact .inl (ZY h' (fun e'=>e e'.symm))
def jO (l:List Fact):List Fact:=(keysL l).flatMap fun k=>l.filter fun f=>decide (f.key=k)
def tagL (l:List Fact):Array (Fact × Nat):=l.zipIdx.toArray
theorem xR (l:List Fact):(tagL l).size=l.length:=by simp [tagL]
theorem JN (l:List Fact) (i:Nat) (hi:i < l.length):(tagL l)[i]! = (l[i],i):=by
 unfold tagL
 rw [getElem!_pos _ _ (by simpa using hi)]
 simp
theorem zai (l:List Fact) (x:Fact × Nat):x∈l.zipIdx ↔ l[x.2]?=some x.1:=by
 rw [List.mem_zipIdx_iff_getElem?]
theorem zhH {T:Fact × Nat→Fact × Nat→Prop} {n:Nat} {d:Array (Fact × Nat)} (hs:d.size=n) (h:Asc T 0 n d):d.toList.Pairwise T:=by
 rw [List.pairwise_iff_getElem]
 intro i j hi hj hij
 have hi':i < d.size:=by simpa using hi
 have hj':j < d.size:=by simpa using hj
 have:=h i j (Nat.zero_le _) hij (by omega)
 rw [getElem!_pos d i hi',getElem!_pos d j hj'] at this
 simpa using this
theorem zi7 (l:List Fact) (d:Array (Fact × Nat)) (hs:d.size=l.length) (h:Asc TT 0 l.length d) (hk:Keep 0 l.length (tagL l) d):d.toList.map Prod.fst=jO l:=by
 have hp:=zhH hs h
 have hmem:∀ x∈d.toList,x∈l.zipIdx:=by
  intro x hx
  obtain ⟨i,hi,rfl⟩:=List.getElem_of_mem hx
  have hi':i < d.size:=by simpa using hi
  obtain ⟨j,_,hj,e⟩:=hk.2.2 i (Nat.zero_le _) (by omega)
  rw [getElem!_pos d i hi',JN l j hj] at e
  rw [Array.getElem_toList,e,zai]
  exact List.getElem?_eq_getElem hj
 have hnd:d.toList.Nodup:=hp.imp (fun {a b} hab e=>by subst e;exact Vx _ hab)
 have hall:=zcz hnd hmem (by simp [hs])
 have e:d.toList=(keysL l).flatMap fun k=>l.zipIdx.filter fun x=>decide (x.1.key=k):=by
  refine xW Vx (fun {x y z}=>zaH x y z) hp ?_ ?_
  ·rw [List.pairwise_flatMap]
   refine ⟨fun k _=>?_,?_⟩
   ·have hz:l.zipIdx.Pairwise fun x y=>x.2 < y.2:=by
     rw [List.pairwise_iff_getElem]
     intro i j hi hj hij
     simpa using hij
    refine List.Pairwise.imp_of_mem ?_ (hz.filter _)
    intro x y hx hy hlt
    have e1:=of_decide_eq_true (List.mem_filter.1 hx).2
    have e2:=of_decide_eq_true (List.mem_filter.1 hy).2
    exact .inr ⟨e1.trans e2.symm,hlt⟩
   ·refine List.Pairwise.imp ?_ (j9 l)
    intro k k' hlt x hx y hy
    have e1:=of_decide_eq_true (List.mem_filter.1 hx).2
    have e2:=of_decide_eq_true (List.mem_filter.1 hy).2
    exact .inl (by rw [e1,e2];exact hlt)
  ·intro x
   rw [List.mem_flatMap]
   constructor
   ·intro hx
    have hz:=hmem x hx
    have hl:x.1∈l:=List.mem_of_getElem? ((zai l x).1 hz)
    exact ⟨x.1.key,mem_keys.2 ⟨_,hl,rfl⟩,List.mem_filter.2 ⟨hz,decide_eq_true rfl⟩⟩
   ·rintro ⟨k,_,hx⟩
    exact hall x (List.mem_filter.1 hx).1
 rw [e,List.map_flatMap]
 unfold jO
 congr 1
 funext k
 have:∀ (L:List (Fact × Nat)),(L.filter fun x=>decide (x.1.key=k)).map Prod.fst=(L.map Prod.fst).filter fun f=>decide (f.key=k):=fun L=>by rw [List.filter_map];rfl
 rw [this]
 congr 1
 exact List.zipIdx_map_fst 0 l
def flatG (G:List (Key × List Int)):List Fact:=G.flatMap fun g=>g.2.map (Fact.mk g.1)
theorem X6 (l:List Fact):jO l=flatG (grps l):=by
 unfold jO flatG grps
 rw [List.flatMap_map]
 congr 1
 funext k
 unfold amts
 rw [List.map_map]
 have:∀ (L:List Fact),(∀ f∈L,f.key=k)→L=L.map (Fact.mk k ∘ Fact.amt):=by
  intro L
  induction L with
  | nil=>intro _;rfl
  | cons f L ih =>
    intro h
    rw [List.map_cons,←ih fun g hg=>h g (List.mem_cons_of_mem _ hg)]
    congr 1
    have:=h f (List.mem_cons_self ..)
    subst this
    rfl
 exact this _ fun f hf=>of_decide_eq_true (List.mem_filter.1 hf).2
structure GrpsOk (G:List (Key × List Int)):Prop where
 rise:G.Pairwise fun x y=>ltK x.1 y.1
 some:∀ g∈G,g.2≠[]
theorem zcK (l:List Fact):GrpsOk (grps l):=by
 refine ⟨?_,fun g hg=>?_⟩
 ·unfold grps
  rw [List.pairwise_map]
  exact j9 l
 ·unfold grps at hg
  obtain ⟨k,hk,rfl⟩:=List.mem_map.1 hg
  obtain ⟨f,hf,e⟩:=mem_keys.1 hk
  intro h0
  unfold amts at h0
  rw [List.map_eq_nil_iff] at h0
  have:f∈l.filter fun f=>decide (f.key=k):=List.mem_filter.2 ⟨hf,decide_eq_true e⟩
  rw [h0] at this
  cases this
end Go.Proofs.YtdhfpgjnjlcciaaGreatDoor.Fa
end
section
namespace Go.Proofs.YtdhfpgjnjlcciaaGreatDoor.Fa
open Go.Shelf Go.RowKit Go.Lib Go.Sort
section
variable {α:Type} [Inhabited α] {enc:α→List Value} {K:Nat}
theorem zeR {w W:World} {g B:Nat} {d:Array α} (h:SWK enc K w g 0 d W) (hB:B≤g) (hg:g < w.heap.size):RowKit.Below B w W:=by
 obtain ⟨q,os,rfl⟩:=h
 unfold sortWorldK putRowK
 refine ⟨rfl,rfl,rfl,by simp [putRow,mapBlock,Sort.ahead,grow],fun k hk=>?_⟩
 rw [heap_grow_old _ _ (by simp [putRow,mapBlock,Sort.ahead];omega)]
 have:g≠k:=by omega
 simp [putRow,mapBlock,Sort.ahead,Array.getElem?_modify,this]
theorem zh8 {w W:World} {g:Nat} {d:Array α} (hS:SWK enc K w g 0 d W) {b o:Nat} (hb:b≠g) {v:Value} (h:w.cell? ⟨b,o,none⟩=some v):W.cell? ⟨b,o,none⟩=some v:=by
 obtain ⟨q,os,rfl⟩:=hS
 have hlt:=World.block_lt_of_cell? w _ h
 rw [←h]
 unfold sortWorldK putRowK World.cell?
 rw [heap_grow_old _ _ (by simp [putRow,mapBlock,Sort.ahead];exact hlt)]
 have:g≠b:=fun e=>hb e.symm
 simp [putRow,mapBlock,Sort.ahead,Array.getElem?_modify,this]
end
def encT (x:Fact × Nat):List Value:=encF.cs x.1
theorem zd0 (x:Fact × Nat):∀ v∈encT x,v.oneCell'=true:=encF.one x.1
theorem zb2 {w:World} {B e g n c:Nat} {L:List Fact} (h:w.ownsRow B e 6 (.slice (some ⟨g,0,none⟩) n c) L.length (flat encF L)):HoldsK encT 6 w g 0 (tagL L):=by
 have h0:=h
 rcases h.2 with ⟨e0,_⟩ | ⟨g',cap,cur,e0,_,hh,_⟩
 ·cases e0
 ·cases e0
  intro t ht
  rw [size_flatK,xR] at ht
  have hi:t / 6 < L.length:=by omega
  rw [get_flatK _ _ _ _ (by rw [xR];exact ht),JN L _ hi]
  have hj:t % 6 < (encF.cs L[t / 6]).length:=by rw [encF.len];exact Nat.mod_lt _ (by decide)
  refine ⟨?_,by simp [World.frozen?,hh]⟩
  have:=h0.cells (g:=g) rfl _ _ (jj L (t / 6) _ (List.getElem?_eq_getElem hi) (t % 6) _ (List.getElem?_eq_getElem hj))
  rw [zl] at this
  have e:0+(t / 6 * encF.k+t % 6)=0+t:=by
   show 0+(t / 6 * 6+t % 6)=0+t
   omega
  rw [e] at this
  rw [this]
  show _=some ((encF.cs L[t / 6])[t % 6]!)
  rw [getElem!_pos (encF.cs L[t / 6]) (t % 6) hj]
theorem facts_of_holds {w:World} {g n c:Nat} {d:Array (Fact × Nat)} (h:HoldsK encT 6 w g 0 d) (hs:d.size=n) (hc:n≤c) (hm:c≤maxLen):FactsV w (.slice (some ⟨g,0,none⟩) n c) (d.toList.map Prod.fst):=by
 refine ⟨_,c,by simp [hs],by simpa [hs] using hc,hm,(fun e=>by cases e),fun i x hx=>⟨g,0,rfl,fun j v hj=>?_⟩⟩
 have hjl:j < (encF.cs x).length:=(List.getElem?_eq_some_iff.1 hj).1
 rw [encF.len] at hjl
 rw [List.getElem?_map] at hx
 cases hy:d.toList[i]? with
 | none=>rw [hy] at hx;cases hx
 | some y =>
   rw [hy] at hx
   cases hx
   have hi:i < d.size:=by have:=(List.getElem?_eq_some_iff.1 hy).1;simpa using this
   have e:d[i]! = y:=by
    rw [getElem!_pos d i hi]
    have:=(List.getElem?_eq_some_iff.1 hy).2
    simpa using this
   have:=(HoldsK.cell h hi (c:=j) hjl).1
   rw [e] at this
   rw [show encF.k=6 from rfl,this]
   congr 1
   unfold encT
   rw [getElem!_pos (encF.cs y.1) j (by rw [encF.len];exact hjl)]
   exact (List.getElem?_eq_some_iff.1 hj).2
theorem zdg (blk off size:Nat) (w:World):CmpLays Tryz.prog 118 #[] encT 6 cfT blk off size w :=
 fun _ _ _ _ x y=>zc3 x.1 y.1 _
set_option maxHeartbeats 1000000 in
theorem zdx (p:Option Addr) (c:Nat) (f:Value) (w:World):Calls Tryz.prog 192 #[.slice p 0 c,.int .i64 0,.int .i64 0,f] w fun e w'=>e=.returned (.tuple #[])∧w'=w:=by
 go_enter Tryz.func192,Tryz.ntmps192
 go_wp2
 refine wp_loop_rounds 1 ?_
 rw [rounds_succ]
 go_wp2
 go_end0
 exact ⟨rfl,rfl⟩
set_option maxHeartbeats 1000000 in
theorem zin (p:Option Addr) (c:Nat) (f:Value) (w:World):Calls Tryz.prog 160 #[.slice p 0 c,.int .i64 0,f] w fun e w'=>e=.returned (.tuple #[])∧w'=w:=by
 go_enter Tryz.func160,Tryz.ntmps160
 go_wp2
 refine wp_loop_rounds 1 ?_
 rw [rounds_succ]
 go_wp2_with fail
 refine (zdx _ _ _ _).mono ?_
 rintro e w' ⟨rfl,rfl⟩
 go_wp2
 refine wp_loop_rounds 1 ?_
 rw [rounds_succ]
 go_wp2
 go_end0
 exact ⟨rfl,rfl⟩
set_option maxHeartbeats 1000000 in
theorem zh5 (p:Option Addr) (c:Nat) (f:Value) (w:World):Calls Tryz.prog 117 #[.slice p 0 c,f] w fun e w'=>e=.returned (.tuple #[])∧w'=w:=by
 go_enter Tryz.func117,Tryz.ntmps117
 go_wp2_with fail
 refine (zin _ _ _ _).mono ?_
 rintro e w' ⟨rfl,rfl⟩
 go_wp2
 go_end0
 exact ⟨rfl,rfl⟩
def HasS (lo:Nat) (W:World) (B:Nat) (S:List Fact):Prop :=
 ∃ p c,W.cell? ⟨B,0,none⟩=some (.slice p S.length c)∧FactsV W (.slice p S.length c) S∧(∀ a,p=some a→lo≤a.block∧a.block < W.heap.size)∧lo≤B∧B < W.heap.size
def zgx (w:World) (L:List Fact) (e:Ending) (w':World):Prop :=
 ∃ B,e=.returned (.func (.func 120) #[] #[.pointer (some ⟨B,0,none⟩)])∧HasS w.heap.size w' B (jO L)∧RowKit.Below w.heap.size w w'
set_option maxHeartbeats 4000000 in
theorem zc4 (v:Value) (L:List Fact) (w:World) (h:FactsV w v L) (hL:L.length≤1000) :
 Calls Tryz.prog 81 #[v] w (zgx w L):=by
 have HC:=Lib.hid (xA v L w h hL)
 obtain ⟨n,hn⟩:∃ n,L.length=n:=⟨_,rfl⟩
 have HN:=Lib.hid hn
 clear h
 go_enter Tryz.func81,Tryz.ntmps81
 go_wp2_with fail
 refine HC.out.mono ?_
 rintro e w1 ⟨u,rfl,hrow,hb⟩
 have HROW:=Lib.hid hrow
 have HB:=Lib.hid hb
 have hrow2:=hrow
 rcases hrow2.2 with ⟨rfl,h0⟩ | ⟨g,cap,cur,rfl,hg,hh,hnc,hcm,hcs,hct⟩
 ·have e0:L=[]:=List.eq_nil_of_length_eq_zero h0
  have HE:=Lib.hid e0
  clear hrow hrow2 hb h0 e0 HROW
  go_wp2_with fail
  refine (zh5 _ _ _ _).mono ?_
  rintro e w2 ⟨rfl,rfl⟩
  go_wp2
  go_ret
  refine ⟨_,rfl,⟨none,0,?_,?_,(fun a e=>by cases e),HB.out.size,by simp⟩,HB.out.trans ((((RowKit.Below.refl _ w1).alloc (Nat.le_refl _) _)).mono HB.out.size)⟩
  ·rw [HE.out,cell_of_row _ w1.heap.size 0 _ _ (0,0) (heap_alloc_new w1 _)];rfl
  ·rw [HE.out];exact ElsV.nil _
 ·have hlt:g < w1.heap.size:=(Array.getElem?_eq_some_iff.1 hh).1
  have hn1:n < 100000:=by omega
  obtain ⟨W2,hW2⟩:∃ W2,w1.alloc (.cells #[.slice (some ⟨g,0,none⟩) L.length cap] 48)=W2:=⟨_,rfl⟩
  have hs2:W2.heap.size=w1.heap.size+1:=by rw [←hW2,World.size_alloc]
  have hB2:RowKit.Below w1.heap.size w1 W2:=by rw [←hW2];exact (RowKit.Below.refl _ w1).alloc (Nat.le_refl _) _
  have hr2:W2.ownsRow w.heap.size 76 6 (.slice (some ⟨g,0,none⟩) L.length cap) L.length (flat encF L):=by rw [←hW2];exact hrow.alloc _
  have hc2:W2.cell? ⟨w1.heap.size,0,none⟩=some (.slice (some ⟨g,0,none⟩) L.length cap):=by
   rw [←hW2,cell_of_row _ w1.heap.size 0 _ _ (0,0) (heap_alloc_new w1 _)];rfl
  have R:RowK encT 6 W2 g 0 (tagL L):=⟨fun x=>encF.len x.1,zd0,zb2 hr2,by omega⟩
  have HS:=Lib.hid (zex sortL encT cfT TT zaH (fun x=>x.2) tellsT 118 #[] g 0 cap n (tagL L) W2 W2 (enters_of Tryz.func118 (by kernel_rfl) rfl) (zdg _ _ _ _) R (by rw [xR,hn]) (SWK.start R.hH) hn1 (fun i hi=>by rw [JN L i (by omega)]))
  have HB2:=Lib.hid hB2
  have HC2:=Lib.hid hc2
  have HR:=Lib.hid R
  have HSZ:=Lib.hid hs2
  have HLT:=Lib.hid hlt
  have HG:=Lib.hid hg
  have HCM:=Lib.hid (And.intro hnc hcm)
  clear hrow hrow2 hb hg hh hnc hcm hcs hct hB2 hr2 R hs2 hlt HROW
  rw [hn] at hW2 hc2 HC2 HCM
  go_wp2_with fail
  refine HS.out.mono ?_
  rintro e w3 ⟨rfl,d,h1,h2,h4,h3⟩
  have hd:d.toList.map Prod.fst=jO L:=zi7 L d (by rw [h1,hn]) (by rw [hn];exact h2) (by rw [hn];exact h4)
  have hlen:(jO L).length=n:=by rw [←hd];simp [h1]
  have hh3:=h3.holds HR.out.hblk HR.out.hH (by rw [h1,xR,hn])
  have hF:=facts_of_holds hh3 h1 HCM.out.1 HCM.out.2
  rw [hd] at hF
  have hne:w1.heap.size≠g:=by have:=HLT.out;omega
  have hcell:=zh8 h3 hne HC2.out
  have hb3:=zeR h3 (B:=w.heap.size) HG.out HR.out.hblk
  have H:Hid (HasS w.heap.size w3 w1.heap.size (jO L)):=Lib.hid ⟨some ⟨g,0,none⟩,cap,by rw [hlen];exact hcell,by rw [hlen];exact hF,(fun a e=>by cases e;exact ⟨HG.out,h3.lt HR.out.hblk⟩),HB.out.size,World.block_lt_of_cell? _ _ hcell⟩
  have HB3:=Lib.hid (HB.out.trans ((HB2.out.mono HB.out.size).trans hb3))
  clear hd hlen hh3 hF hne hcell hb3 h1 h2 h3 h4 hW2 hc2
  go_wp2
  go_ret
  exact ⟨_,rfl,H.out,HB3.out⟩
end Go.Proofs.YtdhfpgjnjlcciaaGreatDoor.Fa
end
section
namespace Go.Proofs.YtdhfpgjnjlcciaaGreatDoor.Fa
open Go.RowKit
def eqK (a b:Key):Bool:=decide (a=b)
def eqF (a b:Fact):Bool:=decide (a=b)
theorem toList_inj {x y:ByteArray} (h:x.toList=y.toList):x=y:=KX (by rw [←ByteArray.toList_eq,←ByteArray.toList_eq];exact h)
def eqKs (a b:Key):Bool:=a.e.toList==b.e.toList && (a.a.toList==b.a.toList && (a.f.toList==b.f.toList && (a.p.toList==b.p.toList && a.m==b.m)))
theorem Y2 (a b:Key):eqKs a b=eqK a b:=by
 unfold eqKs eqK
 rw [Bool.eq_iff_iff]
 simp only [Bool.and_eq_true,beq_iff_eq,decide_eq_true_eq]
 constructor
 ·rintro ⟨h0,h1,h2,h3,h4⟩
  cases a;cases b
  simp only at h0 h1 h2 h3 h4
  rw [toList_inj h0,toList_inj h1,toList_inj h2,toList_inj h3,h4]
 ·rintro rfl;exact ⟨rfl,rfl,rfl,rfl,rfl⟩
theorem Ku (a b:Key) (w:World):Sem.run Tryz.prog (binOp .eql 74 (aggK a) (aggK b)) w=.ok (.bool (eqK a b)) w:=by
 have hS:Tryz.prog.underlying 74=some (.struct (Tryz.prog.fieldsOf 74)):=by kernel_rfl
 have hp:Tryz.prog.stoodInHeld 74=false:=by kernel_rfl
 rw [run_eql_struct,show (10000:Nat)=9999+1 from rfl,run_equalIn_agg w 9999 74 _ _ hS hp,←Y2]
 simp only [Program.fieldsOf,Tryz.underlying74]
 go_simp
 unfold eqKs
 by_cases h0:a.e.toList=b.e.toList
 ·by_cases h1:a.a.toList=b.a.toList
  ·by_cases h2:a.f.toList=b.f.toList
   ·by_cases h3:a.p.toList=b.p.toList
    ·by_cases h4:a.m=b.m <;> simp [h0,h1,h2,h3,h4]
    ·simp [h0,h1,h2,h3]
   ·simp [h0,h1,h2]
  ·simp [h0,h1]
 ·simp [h0]
theorem zfx:Tryz.prog.eqGuardType Tryz.prog.depth 74=false:=by kernel_rfl
end Go.Proofs.YtdhfpgjnjlcciaaGreatDoor.Fa
end
section
namespace Go.Proofs.YtdhfpgjnjlcciaaGreatDoor
open Go.RowKit
variable {F:Fence} {n:Nat} {P:Program}
def xG {α:Type} (F:Fence) (n:Nat) (P:Program) (g:Nat) (lb:Array Value) (encs:α→Array Value) (Kp:World→World→Prop) (R:List α→α→World→Prop) (S Sp:List α→Prop) (w:World):Prop :=
 ∀ (l:Nat) (J Jx:List α→World→Prop) (W:World),Below w.heap.size w W→(∀ s A B,J s A→Below A.heap.size A B→J s B)→(∀ s A B,Jx s A→Below A.heap.size A B→Jx s B) →
   (∀ pre x W1,J pre W1→R pre x W1→YieldAt F (n - 1) P l (encs x) W1 fun e W' =>
    (e=.returned (.bool true)∧J (pre++[x]) W'∧Kp W1 W')∨(e=.returned (.bool false)∧Jx (pre++[x]) W')) →
   J [] W →
   CallsIn F n P g (#[.func (.yield l) #[] #[]]++lb) W fun e W'=>(∃ v,e=.returned v)∧((∃ xs,S xs∧J xs W')∨(∃ pre,Sp pre∧Jx pre W'))
theorem KL {A B:World} (h:Below A.heap.size A B):A.grownBy B none:=⟨h.os,h.tape,h.output,h.size,fun j hj _=>h.block j hj⟩
theorem JK {α:Type} {g:Operand} {ps:Array Tmp} {assign body:Code} {Q:Exit→Act→World→Prop} {a:Act} {w:World}
 (hro:F.round=none) (h1:1≤n) {gf:Nat} {lb:Array Value} (hg:a.eval g=.func (.func gf) #[] lb) (hFg:F.fn gf) (eg:∀ args w,(callFunc gf args).run P w=.ok (.enter gf args) w)
 {encs:α→Array Value} {Kp:World→World→Prop} {R:List α→α→World→Prop} {S Sp:List α→Prop} (hseq:xG F (n - 1) P gf lb encs Kp R S Sp w)
 (hKt:∀ {A B C:World},Kp A B→Kp B C→Kp A C) (hKb:∀ (W:World) (l:Nat) (o o':Obj),w.heap.size≤l→W.heap[l]?=some o→o.isCells=false→o.isWalk=false→Kp W (W.putObj l o')) (hps:∀ x,(encs x).size=ps.size)
 (I:List α→World→Prop) (Ix:Code→List α→World→Prop) (hI:OwnFrom w.heap.size I) (hIx:∀ c,OwnFrom w.heap.size (Ix c)) (h0:I [] w)
 (hround:∀ (l:Nat) (pre:List α) (x:α) (W:World),w.heap.size≤l→I pre W→R pre x W →
  assign.wpIn (F.inRound l) (n - 1 - 1) P (Exit.then (fun a' W'=>KeepsFrom w.heap.size W W'∧Kp W W' ∧
   ∀ o o',W'.heap[l]?=some o→o.isCells=false→body.wpIn (F.inRound l) (n - 1 - 1) P (ownPostG w.heap.size Kp I Ix (pre++[x]) (W'.putObj l o')) a' (W'.putObj l o')) (fun _ _ _=>False))
   { tmps:=(ps.zip (encs x)).foldl (fun t (p,v)=>t.setIfInBounds p v) a.tmps,defers:=[] } W)
 (hdone:∀ (D:Nat) (xs:List α) (W:World),w.heap.size≤D→S xs→I xs W→W.heap[D]?=some (.deferred (some []))→Q .normal { a with defers:={ target:=.collected D,args:=#[] }::a.defers } W)
 (hstop:∀ (D:Nat) (c:Code) (pre:List α) (W:World),w.heap.size≤D→Sp pre→Ix c pre W→W.heap[D]?=some (.deferred (some []))→c.wpIn F n P Q { a with defers:={ target:=.collected D,args:=#[] }::a.defers } W) :
 (Code.rangeFunc g ps assign body).wpIn F n P Q a w:=by
 refine wpIn_rangeFunc fun fn hfn=>?_
 rw [hro]
 obtain ⟨rc,hrc⟩:∃ rc:LoopState→Option Code→Loop,rc=fun st pe=>{ state:=st,pending:=pe,fn,tmps:=a.tmps,params:=ps,assign,body,defers:=w.heap.size }:=⟨_,rfl⟩
 obtain ⟨l,hl0⟩:∃ l,l=w.heap.size+1:=⟨_,rfl⟩
 obtain ⟨V,hV⟩:∃ V,(w.alloc (.deferred (some []))).alloc (.loop (rc .ready none))=V:=⟨_,rfl⟩
 have vl:V.heap[l]?=some (.loop (rc .ready none)):=by
  have:=World.alloc_heap_new (w.alloc (.deferred (some []))) (.loop (rc .ready none))
  rw [World.size_alloc] at this
  rw [←hV,hl0];exact this
 have vd:V.heap[w.heap.size]?=some (.deferred (some [])):=by
  rw [←hV];exact (Below.heap_alloc _ _ _ (by simp)).trans (World.alloc_heap_new w _)
 have vI:I [] V:=by rw [←hV];exact hI.alloc _ (hI.alloc _ h0)
 have vb:Below w.heap.size w V:=by rw [←hV];exact ((Below.refl _ w).alloc (Nat.le_refl _) _).alloc (by simp) _
 refine ⟨l,[{ target:=.collected w.heap.size,args:=#[] }],V,{ target:=.fn (.func gf) lb,args:=#[.func (.yield l) #[] #[]] },V,gf,#[.func (.yield l) #[] #[]]++lb,V,?_,?_,?_,?_,fun _=>h1,?_⟩
 ·rw [←hV,hrc,hl0];exact run_enterLoop_outer _ _ _ _ _
 ·simp only [resolve,hg]
  simp [go_sem]
 ·intro f' hf';simp [Target.leads] at hf';subst hf';exact hFg
 ·simp [invoke,go_sem,eg]
 refine (hseq l (fun pre W=>I pre W∧W.heap[l]?=some (.loop (rc .ready none))∧W.heap[w.heap.size]?=some (.deferred (some [])))
  (fun pre W=>∃ c,Ix c pre W∧W.heap[l]?=some (.loop (rc .done (some c)))∧W.heap[w.heap.size]?=some (.deferred (some []))) V vb ?_ ?_ ?_ ⟨vI,vl,vd⟩).mono ?_
 ·rintro s A B ⟨i1,i2,i3⟩ hb
  exact ⟨hI s A B none i1 (KL hb) (fun r e=>by cases e),(hb.block _ (Array.getElem?_eq_some_iff.1 i2).1).trans i2,(hb.block _ (Array.getElem?_eq_some_iff.1 i3).1).trans i3⟩
 ·rintro s A B ⟨c,i1,i2,i3⟩ hb
  exact ⟨c,hIx c s A B none i1 (KL hb) (fun r e=>by cases e),(hb.block _ (Array.getElem?_eq_some_iff.1 i2).1).trans i2,(hb.block _ (Array.getElem?_eq_some_iff.1 i3).1).trans i3⟩
 ·rintro pre x W ⟨i1,i2,i3⟩ hR
  have hy:=run_yield (P:=P) (args:=encs x) i2 (by rw [hrc];exact hps x)
  rw [hrc] at hy
  refine ⟨fn,_,assign,body,hy,roundIn_of_wpIn hfn (wpIn_mono (hround l pre x W (by omega) i1 hR) ?_)⟩
  clear hy
  rintro e a' Wa hp
  cases e with
  | normal =>
    obtain ⟨hk,hkp,hbody⟩:=hp
    have j2:=hk.same _ _ (by omega) i2 rfl
    have j3:=hk.same _ _ (Nat.le_refl _) i3 rfl
    have jl:=(Array.getElem?_eq_some_iff.1 j2).1
    have k2:(Wa.putObj l (.loop { rc .ready none with state:=.busy })).heap[l]?=some (.loop { rc .ready none with state:=.busy }):=World.putObj_heap_same jl
    have k3:(Wa.putObj l (.loop { rc .ready none with state:=.busy })).heap[w.heap.size]?=some (.deferred (some [])):=(World.putObj_heap_other (by omega)).trans j3
    refine ⟨_,run_beginRound j2 (by rw [hrc]),wpIn_mono (hbody _ _ j2 rfl) ?_⟩
    have ends:∀ (jump:Option Code) (W3:World),KeepsFrom w.heap.size (Wa.putObj l (.loop { rc .ready none with state:=.busy })) W3 →
     (Instr.endRound l jump).run P W3=.ok (.bool jump.isNone) (W3.putObj l (.loop (rc (if jump.isNone then .ready else .done) jump)))∧W3.heap[l]?=some (.loop { rc .ready none with state:=.busy }) ∧
     (W3.putObj l (.loop (rc (if jump.isNone then .ready else .done) jump))).heap[l]?=some (.loop (rc (if jump.isNone then .ready else .done) jump)) ∧
     (W3.putObj l (.loop (rc (if jump.isNone then .ready else .done) jump))).heap[w.heap.size]?=some (.deferred (some [])):=fun jump W3 h3=>by
     have l3:=h3.same _ _ (by omega) k2 rfl
     have e3:=run_endRound (P:=P) jump l3
     rw [hrc] at e3 ⊢
     exact ⟨e3,by rw [hrc] at l3;exact l3,World.putObj_heap_same (Array.getElem?_eq_some_iff.1 l3).1,(World.putObj_heap_other (by omega)).trans (h3.same _ _ (Nat.le_refl _) k3 rfl)⟩
    rintro e a3 W3 hp
    have jumps:∀ c,KeepsFrom w.heap.size (Wa.putObj l (.loop { rc .ready none with state:=.busy })) W3∧Ix c (pre++[x]) W3→∃ v w',(Instr.endRound l (some c)).run P W3=.ok (.bool v) w'∧v=false∧∃ c',Ix c' (pre++[x]) w'∧w'.heap[l]?=some (.loop (rc .done (some c')))∧w'.heap[w.heap.size]?=some (.deferred (some [])):=fun c hc=>by
     obtain ⟨hr,l3,l4,d4⟩:=ends (some c) W3 hc.1
     exact ⟨_,_,hr,rfl,c,(hIx _).putObj _ hc.2 (by omega) l3 rfl,l4,d4⟩
    cases e with
    | normal =>
      obtain ⟨hk3,hkp3,hi3⟩:=hp
      obtain ⟨hr,l3,l4,d4⟩:=ends none W3 hk3
      exact ⟨_,_,hr,.inl ⟨rfl,⟨hI.putObj _ hi3 (by omega) l3 rfl,l4,d4⟩,hKt hkp (hKt (hKt (hKb Wa l _ _ (by omega) j2 rfl rfl) hkp3) (hKb _ _ _ _ (by omega) l3 rfl rfl))⟩⟩
    | ret=>obtain ⟨v,w',hr,rfl,hc⟩:=jumps .ret hp;exact ⟨_,_,hr,.inr ⟨rfl,hc⟩⟩
    | exit id=>obtain ⟨v,w',hr,rfl,hc⟩:=jumps (.exit id) hp;exact ⟨_,_,hr,.inr ⟨rfl,hc⟩⟩
    | goto t=>obtain ⟨v,w',hr,rfl,hc⟩:=jumps (.goto t) hp;exact ⟨_,_,hr,.inr ⟨rfl,hc⟩⟩
    | panic ch=>exact hp.elim
    | outgrown=>exact hp.elim
  | _=>exact hp.elim
 ·rintro e W2 ⟨⟨v,rfl⟩,(⟨xs,hS,i1,i2,i3⟩ | ⟨pre,hSp,c,i1,i2,i3⟩)⟩
  ·exact ⟨none,_,by have:=run_endLoop (P:=P) i2 (by rw [hrc];simp);rw [hrc] at this;exact this,hdone _ xs _ (Nat.le_refl _) hS (hI.putObj _ i1 (by omega) i2 rfl) ((World.putObj_heap_other (by omega)).trans i3)⟩
  ·exact ⟨some c,_,by have:=run_endLoop (P:=P) i2 (by rw [hrc];simp);rw [hrc] at this;exact this,hstop _ c pre _ (Nat.le_refl _) hSp ((hIx c).putObj _ i1 (by omega) i2 rfl) ((World.putObj_heap_other (by omega)).trans i3)⟩
end Go.Proofs.YtdhfpgjnjlcciaaGreatDoor
end
section
namespace Go.Proofs.YtdhfpgjnjlcciaaGreatDoor.Fa
open Go.RowKit Go.Shelf
attribute [local go_sem] Oper.semAt_some
structure GX where
 k:Key
 a:Option Addr
 c:Nat
 ns:List Int
def GX.grp (x:GX):Key × List Int:=(x.k,x.ns)
def encG (x:GX):Array Value:=#[aggK x.k,.slice x.a x.ns.length x.c]
def RG (G:List (Key × List Int)) (pre:List GX) (x:GX) (W:World):Prop:=(∃ G',G=pre.map GX.grp++x.grp::G')∧RowIs .i64 W x.a x.ns.length x.ns
def HasSI (lo hi:Nat) (W:World) (B:Nat) (S:List Fact):Prop :=
 ∃ p c,W.cell? ⟨B,0,none⟩=some (.slice p S.length c)∧FactsV W (.slice p S.length c) S∧(∀ a,p=some a→lo≤a.block∧a.block < hi)∧lo≤B∧B < hi
def KpB (lo hi:Nat) (W W':World):Prop:=W.heap.size≤W'.heap.size∧∀ k,lo≤k→k < hi→W'.heap[k]?=W.heap[k]?
theorem HasSI.keep {lo hi B:Nat} {W W':World} {S:List Fact} (h:HasSI lo hi W B S) (hk:KpB lo hi W W'):HasSI lo hi W' B S:=by
 obtain ⟨p,c,h1,h2,h3,h4,h5⟩:=h
 have hcell:∀ b o v,lo≤b→b < hi→W.cell? ⟨b,o,none⟩=some v→W'.cell? ⟨b,o,none⟩=some v:=fun b o v hb1 hb2 hc=>by
  rw [←hc]
  unfold World.cell?
  rw [hk.2 b hb1 hb2]
 refine ⟨p,c,hcell _ _ _ h4 h5 h1,?_,h3,h4,h5⟩
 obtain ⟨p',c',e,k1,k2,k3,k4⟩:=h2
 cases e
 refine ⟨p,c,rfl,k1,k2,k3,fun i x hx=>?_⟩
 obtain ⟨b,o,e,hat⟩:=k4 i x hx
 obtain ⟨q1,q2⟩:=h3 _ e
 exact ⟨b,o,e,fun j v hj=>hcell _ _ _ q1 q2 (hat j v hj)⟩
theorem Za {lo hi B:Nat} {W W':World} (h:Below B W W') (hB:hi≤B):KpB lo hi W W':=⟨h.size,fun k _ hk=>h.block k (by omega)⟩
theorem zf0 {lo hi:Nat} {A B C:World} (h:KpB lo hi A B) (k:KpB lo hi B C):KpB lo hi A C:=⟨Nat.le_trans h.1 k.1,fun i h1 h2=>(k.2 i h1 h2).trans (h.2 i h1 h2)⟩
theorem vK (A B:List (Key × List Int)):flatG (A++B)=flatG A++flatG B:=by simp [flatG]
theorem JY (g:Key × List Int) (B:List (Key × List Int)):flatG (g::B)=g.2.map (Fact.mk g.1)++flatG B:=by simp [flatG]
theorem KR {A B:List (Key × List Int)} {k:Key} {ns:List Int} {at_ q:Nat} (ha:(flatG A).length=at_) (h1:at_≤q) (h2:q < at_+ns.length):∃ x,ns[q - at_]?=some x∧(flatG (A++(k,ns)::B))[q]?=some ⟨k,x⟩:=by
 have hq:q - at_ < ns.length:=by omega
 refine ⟨ns[q - at_],List.getElem?_eq_getElem hq,?_⟩
 rw [vK,JY,List.getElem?_append_right (by omega),ha,List.getElem?_append_left (by simpa using hq),List.getElem?_map,List.getElem?_eq_getElem hq]
 rfl
theorem zfy {A B:List (Key × List Int)} {k:Key} {ns:List Int} {at_:Nat} (hG:GrpsOk (A++(k,ns)::B)) (ha:(flatG A).length=at_) {f:Fact} (hf:(flatG (A++(k,ns)::B))[at_+ns.length]?=some f):f.key≠k:=by
 rw [vK,JY,List.getElem?_append_right (by omega),ha,List.getElem?_append_right (by simp)] at hf
 have hm:=List.mem_of_getElem? hf
 unfold flatG at hm
 obtain ⟨g,hg,hm⟩:=List.mem_flatMap.1 hm
 obtain ⟨x,_,rfl⟩:=List.mem_map.1 hm
 have hr:=(List.pairwise_append.1 hG.rise).2.1
 have:=(List.pairwise_cons.1 hr).1 g hg
 exact fun e=>yD this e.symm
theorem infoI:InfoE Tryz.prog 173 2 encI:=.of (z:=.int .i64 0) (n:=8) Tryz.underlying173 (by kernel_rfl) rfl (by decide)
def IterG (G:List (Key × List Int)) (lo hi B:Nat) (J:List GX→World→Prop) (s3:Value) (wr:World):Prop :=
 ∃ (pre:List GX) (G2:List (Key × List Int)) (q:Nat),G=pre.map GX.grp++G2∧(flatG (pre.map GX.grp)).length=q∧s3=.int .i64 (q:Int)∧J pre wr∧HasSI lo hi wr B (flatG G)∧hi≤wr.heap.size
set_option maxRecDepth 100000 in
set_option maxHeartbeats 4000000 in
theorem zb9 (n:Nat) (hn:1≤n) (lo hi B:Nat) (G:List (Key × List Int)) (hG:GrpsOk G) (hlen:(flatG G).length≤1000) (w:World) (hS:HasSI lo hi w B (flatG G)) (hhi:hi≤w.heap.size) :
 xG Fence.wide n Tryz.prog 120 #[.pointer (some ⟨B,0,none⟩)] encG (KpB lo hi) (RG G) (fun xs=>xs.map GX.grp=G) (fun _=>True) w:=by
 intro l J Jx W hW hJ hJx hY h0
 have HY:=Lib.hid hY
 have HJ:=Lib.hid hJ
 have HG:=Lib.hid hG
 have hS0:=hS.keep (Za hW hhi)
 have hhi0:hi≤W.heap.size:=Nat.le_trans hhi hW.size
 obtain ⟨N,hN⟩:∃ N,(flatG G).length=N:=⟨_,rfl⟩
 have HN:=Lib.hid hN
 rw [hN] at hlen
 clear hY hJ hJx hG hS hhi hW hN
 refine callsIn_of_wp Tryz.func120 rfl trivial ?_ rfl
 simp only [Tryz.ntmps120,List.size_toArray,List.length_cons,List.length_nil,Nat.reduceAdd,Nat.reduceSub,Array.replicate_succ,Array.replicate_zero,List.push_toArray,List.append_toArray,List.nil_append,List.cons_append]
 gi_wp2
 gi_loopw [3] (fun s3 wr=>IterG G lo hi B J s3 wr) (fun s3 _=>N - (intOf s3).toNat)
 case atStart=>exact ⟨[],G,0,rfl,rfl,rfl,h0,hS0,hhi0⟩
 case round =>
  obtain ⟨pre,G2,q,hG2,hq,rfl,hJs,hS1,hh1⟩:=hrel
  rename World=>wa
  have HQ:=Lib.hid hq
  have HG2:=Lib.hid hG2
  have HSI:=Lib.hid hS1
  obtain ⟨p,c,hc1,hF,hp,hB1,hB2⟩:=hS1
  clear hq hS0 hhi0 h0 hG2
  cases G2 with
  | nil =>
    have hqn:q=N:=by rw [←HQ.out,←HN.out,HG2.out];simp
    subst hqn
    rw [HN.out] at hc1
    gi_wp2
    go_end0
    exact ⟨⟨_,rfl⟩,.inl ⟨pre,by rw [HG2.out];simp,hJs⟩⟩
  | cons g G3 =>
    obtain ⟨k,ns⟩:=g
    have has:0 < ns.length:=List.length_pos_iff.2 (HG.out.some (k,ns) (by rw [HG2.out];simp))
    have hmore:q < N:=by rw [←HN.out,HG2.out,vK,JY];simp;rw [HQ.out];omega
    obtain ⟨x0,_,hx0⟩:=KR (B:=G3) (k:=k) (ns:=ns) HQ.out (Nat.le_refl q) (by omega)
    rw [←HG2.out] at hx0
    obtain ⟨b,o,rfl,hat0⟩:=ElsV.at_ hF hx0
    obtain ⟨r0,r1,r2,r3,r4,r5⟩:=fact6 hat0
    rw [HN.out] at hc1 hF
    have HF0:=Lib.hid hF
    clear hat0 hx0 hF r5
    simp only [show encF.k=6 from rfl] at r0 r1 r2 r3 r4
    gi_wp2_with fail
    obtain ⟨W1,hW1⟩:∃ W1,wa.alloc (.cells #[.string k.e,.string k.a,.string k.f,.string k.p,.int .i64 k.m] 74)=W1:=⟨_,rfl⟩
    rw [hW1]
    have HX:Hid (BoxE encK W1 wa.heap.size 74 k):=Lib.hid (by rw [←hW1];exact BoxE.new encK wa k 74)
    have HB1:Hid (Below wa.heap.size wa W1):=Lib.hid (by rw [←hW1];exact (Below.refl _ wa).alloc (Nat.le_refl _) _)
    have HS1:Hid (W1.heap.size=wa.heap.size+1):=Lib.hid (by rw [←hW1,World.size_alloc])
    have HP:=Lib.hid hp
    have HC1:=Lib.hid hc1
    have HIN:=Lib.hid hB2
    have HJS:=Lib.hid hJs
    clear hW1 r0 r1 r2 r3 r4 hp hc1 hB1 hB2 hJs
    have HSZ:=Lib.hid hh1
    refine wpIn_wide.2 ?_
    go_loopw [3,5] (fun s3 s5 wr=>∃ j:Nat,s3=.int .i64 (j:Int)∧q≤j∧j≤q+ns.length∧Hid (wr.ownsRow (wa.heap.size+1) 2 1 s5 (ns.take (j - q)).length (flat encI (ns.take (j - q))))∧Hid (Below (wa.heap.size+1) W1 wr)) (fun s3 _ _=>N - (intOf s3).toNat)
    case atStart=>exact ⟨q,rfl,Nat.le_refl _,Nat.le_add_right _ _,by rw [Nat.sub_self];exact World.ownsRow_nil _ _ _ _,Lib.hid (Below.refl _ _)⟩
    case round =>
     obtain ⟨j,rfl,hj1,hj2,HO,HBW⟩:=hrel
     have HBW2:=Lib.hid (HB1.out.trans (HBW.out.mono (Nat.le_succ _)))
     have hcb:wr.cell? ⟨B,0,none⟩=some (.slice (some ⟨b,o,none⟩) N c):=(HBW2.out.cell (p:=⟨B,0,none⟩) (by show B < wa.heap.size;have:=HIN.out;have:=HSZ.out;omega)).trans HC1.out
     obtain ⟨k0,k1,k2,k3,k4⟩:=key5 (HX.out.at0.keep HBW.out (Nat.lt_succ_self _))
     simp only [Nat.zero_add] at k0 k1 k2 k3 k4
     have gk:=zfx
     by_cases hlt:j < q+ns.length
     ·obtain ⟨x,hx,hfx⟩:=KR (B:=G3) (k:=k) (ns:=ns) HQ.out hj1 hlt
      rw [←HG2.out] at hfx
      obtain ⟨b',o',e,hat⟩:=ElsV.at_ HF0.out hfx
      cases e
      have hjN:j < N:=by rw [←HN.out];exact (List.getElem?_eq_some_iff.1 hfx).1
      obtain ⟨r0,r1,r2,r3,r4,r5⟩:=fact6 (hat.keep HBW2.out hat.lt)
      simp only [show encF.k=6 from rfl] at r0 r1 r2 r3 r4 r5
      have htk:ns.take (j+1 - q)=ns.take (j - q)++[x]:=by
       rw [show j+1 - q=(j - q)+1 by omega,List.take_add_one,hx];rfl
      have HTK:=Lib.hid htk
      have hq:∀ W,Sem.run Tryz.prog (binOp .eql 74 (aggK k) (aggK k)) W=.ok (.bool true) W:=fun W=>by rw [Ku];simp [eqK]
      have hd:decide ((j:Int) < (N:Int))=true:=decide_eq_true (by omega)
      have hjz:(j:Int) < (N:Int):=by omega
      clear hfx hat hx htk
      go_wp2_with fail
      go_big_quiet (fail)
      have hcb2:(wr.drewN nq).cell? ⟨B,0,none⟩=some (.slice (some ⟨b,o,none⟩) N c):=hcb
      have r52:(wr.drewN nq).cell? ⟨b,o+j * 6+5,none⟩=some (.int .i64 x):=r5
      have HO2:Hid ((wr.drewN nq).ownsRow (wa.heap.size+1) 2 1 u5 (ns.take (j - q)).length (flat encI (ns.take (j - q)))):=HO
      have HBW3:Hid (Below (wa.heap.size+1) W1 (wr.drewN nq)):=Lib.hid (belowN HBW.out nq)
      clear hcb r0 r1 r2 r3 r4 r5 HO HBW HBW2 k0 k1 k2 k3 k4 hq gk
      generalize wr.drewN nq=w2 at *
      go_wp2_with (at_builtin;refine zx (E:=encI) rfl _ _ 173 2 rfl infoI (wa.heap.size+1) (ns.take (j - q)) x w2.heap.size (HO2.out.alloc _) rfl (zf encI w2 x _) (by have:=HBW3.out.size;have:=HS1.out;simp;omega) (by simp;omega) ?_;intro v9 w9 hr9 hb9 hg9)
      have HR9:Hid (w9.ownsRow (wa.heap.size+1) 2 1 v9 (ns.take (j+1 - q)).length (flat encI (ns.take (j+1 - q)))):=Lib.hid (by rw [HTK.out];exact hr9)
      have HB9:Hid (Below (wa.heap.size+1) W1 w9):=Lib.hid ((HBW3.out.trans (((Below.refl w2.heap.size w2).alloc (Nat.le_refl _) _).mono (by have:=HBW3.out.size;have:=HS1.out;omega))).trans hb9)
      clear hr9 hb9 hg9
      go_wp2
      go_roundw
      case rel=>exact ⟨j+1,by go_num,by omega,by omega,HR9,HB9⟩
      case measure=>simp [intOf];omega
     ·obtain rfl:j=q+ns.length:=by omega
      have htk:ns.take (q+ns.length - q)=ns:=by rw [Nat.add_sub_cancel_left,List.take_length]
      rw [htk] at HO
      have hE:=zq (E:=encI) HO.out
      obtain ⟨p9,c9,e9,_⟩:=id hE
      have HE:=Lib.hid hE
      subst e9
      have hc9:(q:Int)+(ns.length:Int)=((q+ns.length:Nat):Int):=by omega
      by_cases hjN:q+ns.length < N
      ·obtain ⟨f,hf⟩:∃ f,(flatG G)[q+ns.length]?=some f:=⟨_,List.getElem?_eq_getElem (by rw [HN.out];exact hjN)⟩
       obtain ⟨b',o',e,hat⟩:=ElsV.at_ HF0.out hf
       cases e
       have hne:f.key≠k:=by rw [HG2.out] at hf;exact zfy (by rw [←HG2.out];exact HG.out) HQ.out hf
       obtain ⟨r0,r1,r2,r3,r4,r5⟩:=fact6 (hat.keep HBW2.out hat.lt)
       obtain ⟨j,hj⟩:∃ j,q+ns.length=j:=⟨_,rfl⟩
       have HJJ:=Lib.hid hj
       rw [hj] at r0 r1 r2 r3 r4 hjN hf ⊢
       clear hj
       simp only [show encF.k=6 from rfl] at r0 r1 r2 r3 r4
       have hq:∀ W,Sem.run Tryz.prog (binOp .eql 74 (aggK f.key) (aggK k)) W=.ok (.bool false) W:=fun W=>by rw [Ku];simp [eqK,hne]
       have hd:decide ((j:Int) < (N:Int))=true:=decide_eq_true (by omega)
       have hjz:(j:Int) < (N:Int):=by omega
       clear hf hat r5 hne
       go_wp2_with fail
       go_big_quiet (fail)
       go_wp2_with fail
       clear hq hd hjz r0 r1 r2 r3 r4
       have HE2:Hid (ElsV encI (wr.drewN nq) (.slice p9 ns.length c9) ns):=HE
       have HBW4:Hid (Below wa.heap.size wa (wr.drewN nq)):=Lib.hid (belowN HBW2.out nq)
       have k02:(wr.drewN nq).cell? ⟨wa.heap.size,0,none⟩=some (.string k.e):=k0
       have k12:(wr.drewN nq).cell? ⟨wa.heap.size,1,none⟩=some (.string k.a):=k1
       have k22:(wr.drewN nq).cell? ⟨wa.heap.size,2,none⟩=some (.string k.f):=k2
       have k32:(wr.drewN nq).cell? ⟨wa.heap.size,3,none⟩=some (.string k.p):=k3
       have k42:(wr.drewN nq).cell? ⟨wa.heap.size,4,none⟩=some (.int .i64 k.m):=k4
       clear hcb HE HBW HBW2 HO k0 k1 k2 k3 k4 gk
       generalize wr.drewN nq=w2 at *
       obtain ⟨fn,tmps,assign,body,hy,hR⟩:=HY.out pre ⟨k,p9,c9,ns⟩ w2 (HJ.out pre wa w2 HJS.out HBW4.out) ⟨⟨G3,HG2.out⟩,zae HE2.out⟩
       unfold encG at hy
       gi_wp2
       refine hR.mono ?_
       rintro e W3 (⟨rfl,hJ3,hk3⟩ | ⟨rfl,hJx3⟩)
       ·gi_wp2
        go_roundw
        case rel=>exact ⟨pre++[⟨k,p9,c9,ns⟩],G3,j,by rw [HG2.out];simp [GX.grp],by rw [List.map_append,vK,List.length_append,HQ.out,←HJJ.out];simp [flatG,GX.grp],rfl,hJ3,(HSI.out.keep (Za HBW4.out HSZ.out)).keep hk3,Nat.le_trans (Nat.le_trans HSZ.out HBW4.out.size) hk3.1⟩
        case measure=>simp [intOf];have:=HJJ.out;omega
       ·gi_wp2
        refine bodyPost_ret (results_none rfl _ _ _) rfl ?_
        exact ⟨⟨_,rfl⟩,.inr ⟨_,trivial,hJx3⟩⟩
      ·obtain ⟨j,hj⟩:∃ j,q+ns.length=j:=⟨_,rfl⟩
       have HJJ:=Lib.hid hj
       rw [hj] at hjN ⊢
       have hd:decide ((j:Int) < (N:Int))=false:=decide_eq_false (by omega)
       have hjz:¬ (j:Int) < (N:Int):=by omega
       clear hj
       go_wp2_with fail
       go_big_quiet (fail)
       go_wp2_with fail
       clear hd hjz
       have HE2:Hid (ElsV encI (wr.drewN nq) (.slice p9 ns.length c9) ns):=HE
       have HBW4:Hid (Below wa.heap.size wa (wr.drewN nq)):=Lib.hid (belowN HBW2.out nq)
       have k02:(wr.drewN nq).cell? ⟨wa.heap.size,0,none⟩=some (.string k.e):=k0
       have k12:(wr.drewN nq).cell? ⟨wa.heap.size,1,none⟩=some (.string k.a):=k1
       have k22:(wr.drewN nq).cell? ⟨wa.heap.size,2,none⟩=some (.string k.f):=k2
       have k32:(wr.drewN nq).cell? ⟨wa.heap.size,3,none⟩=some (.string k.p):=k3
       have k42:(wr.drewN nq).cell? ⟨wa.heap.size,4,none⟩=some (.int .i64 k.m):=k4
       clear hcb HE HBW HBW2 HO k0 k1 k2 k3 k4 gk
       generalize wr.drewN nq=w2 at *
       obtain ⟨fn,tmps,assign,body,hy,hR⟩:=HY.out pre ⟨k,p9,c9,ns⟩ w2 (HJ.out pre wa w2 HJS.out HBW4.out) ⟨⟨G3,HG2.out⟩,zae HE2.out⟩
       unfold encG at hy
       gi_wp2
       refine hR.mono ?_
       rintro e W3 (⟨rfl,hJ3,hk3⟩ | ⟨rfl,hJx3⟩)
       ·gi_wp2
        go_roundw
        case rel=>exact ⟨pre++[⟨k,p9,c9,ns⟩],G3,j,by rw [HG2.out];simp [GX.grp],by rw [List.map_append,vK,List.length_append,HQ.out,←HJJ.out];simp [flatG,GX.grp],rfl,hJ3,(HSI.out.keep (Za HBW4.out HSZ.out)).keep hk3,Nat.le_trans (Nat.le_trans HSZ.out HBW4.out.size) hk3.1⟩
        case measure=>simp [intOf];have:=HJJ.out;omega
       ·gi_wp2
        refine bodyPost_ret (results_none rfl _ _ _) rfl ?_
        exact ⟨⟨_,rfl⟩,.inr ⟨_,trivial,hJx3⟩⟩
end Go.Proofs.YtdhfpgjnjlcciaaGreatDoor.Fa
end
section
namespace Go.Proofs.YtdhfpgjnjlcciaaGreatDoor
open Go.RowKit
set_option maxHeartbeats 400000 in
theorem Zc (a b:Int) (w:World) (ha:In64 a) (hb:In64 b) :
 Calls Tryz.prog 66 #[.int .i64 a,.int .i64 b] w fun e w'=>e=.returned (.tuple #[.int .i64 (addCV a b),.int .i64 (addCE a b)])∧w=w':=by
 obtain ⟨a1,a2⟩:=ha
 obtain ⟨b1,b2⟩:=hb
 cases hf:fit (a+b) with
 | true =>
   rw [yl hf,yL hf]
   obtain ⟨s1,s2⟩:=(qz _).1 hf
   clear hf
   go_enter Tryz.func66,Tryz.ntmps66
   go_wp2
   all_goals
    go_ret2
    exact ⟨rfl,rfl⟩
 | false =>
   rw [yI hf,yQ hf]
   rcases (Z0 _).1 hf with h | h
   ·obtain ⟨h1,h2⟩:=V9 a1 b1 h
    clear hf
    go_enter Tryz.func66,Tryz.ntmps66
    go_wp2
    all_goals
     go_ret2
     exact ⟨rfl,rfl⟩
   ·obtain ⟨h1,h2⟩:=KS a2 b2 h
    clear hf
    go_enter Tryz.func66,Tryz.ntmps66
    go_wp2
    all_goals
     go_ret2
     exact ⟨rfl,rfl⟩
set_option maxHeartbeats 400000 in
theorem YH (a b:Int) (w:World) (ha:In64 a) (hb:In64 b) :
 Calls Tryz.prog 65 #[.int .i64 a,.int .i64 b] w fun e w'=>e=.returned (.tuple #[.int .i64 (subV a b),.int .i64 (subE a b)])∧w=w':=by
 obtain ⟨a1,a2⟩:=ha
 obtain ⟨b1,b2⟩:=hb
 cases hf:fit (a - b) with
 | true =>
   rw [kF hf,yX hf]
   obtain ⟨s1,s2⟩:=(qz _).1 hf
   clear hf
   go_enter Tryz.func65,Tryz.ntmps65
   go_wp2
   all_goals
    go_ret2
    exact ⟨rfl,rfl⟩
 | false =>
   rw [kI hf,yV hf]
   rcases (Z0 _).1 hf with h | h
   ·obtain ⟨h1,h2⟩:=Vv a1 b2 h
    clear hf
    go_enter Tryz.func65,Tryz.ntmps65
    go_wp2
    all_goals
     go_ret2
     exact ⟨rfl,rfl⟩
   ·obtain ⟨h1,h2⟩:=Xq a2 b1 h
    clear hf
    go_enter Tryz.func65,Tryz.ntmps65
    go_wp2
    all_goals
     go_ret2
     exact ⟨rfl,rfl⟩
end Go.Proofs.YtdhfpgjnjlcciaaGreatDoor
end
section
namespace Go.Proofs.YtdhfpgjnjlcciaaGreatDoor
open Go.RowKit
theorem zak (l:List Int) (k:Nat) (n:Int) (hk:k < l.length):zo n (l.drop k)=zo n (l.getD k 0::l.drop (k+1)):=by
 rw [List.drop_eq_getElem_cons hk,getD_at l k hk]
set_option maxHeartbeats 400000 in
theorem zig (a:Option Addr) (n c:Nat) (l:List Int) (w:World) (h:RowIs .i64 w a n l) (hz:∀ x∈l,In64 x) :
 Calls Tryz.prog 82 #[.slice a n c] w fun e w'=>e=.returned (.tuple #[.int .i64 (zo 0 l).1,.int .i64 (zo 0 l).2])∧w=w':=by
 have hm:=h.max
 unfold maxLen at hm
 have H:=Lib.hid h
 have HZ:=Lib.hid hz
 clear h hz
 go_enter Tryz.func82,Tryz.ntmps82
 go_wp2
 go_loop [4,11] (fun s i=>∃ k:Nat,∃ x:Int,k≤n∧i=.int .i64 k∧s=.int .i64 x∧In64 x∧zo 0 l=zo x (l.drop k)) (fun _ i=>n - (intOf i).toNat)
 case atStart=>exact ⟨0,0,Nat.zero_le _,rfl,rfl,⟨by omega,by omega⟩,rfl⟩
 case round =>
  obtain ⟨k,x,hk,rfl,rfl,hx,hs⟩:=hrel
  have HS:=Lib.hid hs
  clear hs
  by_cases hlt:k < n
  ·obtain ⟨b,o,rfl,hc⟩:=H.out.cell k hlt
   have hin:In64 (l.getD k 0):=by
    have hl:=H.out.len
    rw [getD_at l k (by omega)]
    exact HZ.out _ (List.getElem_mem _)
   cases hf:fit (x+l.getD k 0) with
   | true =>
     have HF:=Lib.hid hf
     clear hf
     generalize hy:l.getD k 0=y at *
     have HY:=Lib.hid hy
     clear hy
     go_wp2_with (go_at_call 66;refine (Zc x y _ hx hin).mono ?_;rintro e w' ⟨rfl,rfl⟩;rw [yl HF.out,yL HF.out])
     go_round
     case rel=>exact ⟨k+1,x+y,by omega,by go_num,rfl,jo HF.out,by rw [HS.out,zak l k x (by rw [H.out.len];exact hlt),HY.out,yS _ HF.out]⟩
     case measure=>simp [intOf];omega
   | false =>
     have HF:=Lib.hid hf
     clear hf
     generalize hy:l.getD k 0=y at *
     have HY:=Lib.hid hy
     clear hy
     have hfin:zo 0 l=(0,2):=by rw [HS.out,zak l k x (by rw [H.out.len];exact hlt),HY.out,QA _ HF.out]
     have HFIN:=Lib.hid hfin
     clear hfin
     go_wp2_with (go_at_call 66;refine (Zc x y _ hx hin).mono ?_;rintro e w' ⟨rfl,rfl⟩;rw [yI HF.out,yQ HF.out])
     go_ret2
     rw [HFIN.out]
     exact ⟨rfl,rfl⟩
  ·have hfin:zo 0 l=(x,0):=by
    rw [HS.out,List.drop_of_length_le (by rw [H.out.len];omega)];rfl
   have HFIN:=Lib.hid hfin
   clear hfin
   go_wp2
   go_ret2
   rw [HFIN.out]
   exact ⟨rfl,rfl⟩
end Go.Proofs.YtdhfpgjnjlcciaaGreatDoor
end
section
namespace Go.Proofs.YtdhfpgjnjlcciaaGreatDoor.Fa
open Go.RowKit Go.Shelf
attribute [local go_sem] Oper.semAt_some
def accG (A:List (Key × List Int)):List Fact:=A.flatMap fun g=>putF g.1 (zo 0 g.2).1
def okG (A:List (Key × List Int)):Prop:=∀ g∈A,(zo 0 g.2).2=0
theorem V4 (A B:List (Key × List Int)) (h:okG A):runG (A++B)=appG (accG A) (runG B):=by
 have key:∀ (A B:List (Key × List Int)) (c:List Fact),okG A→appG c (runG (A++B))=appG (c++accG A) (runG B):=by
  intro A
  induction A with
  | nil=>intro B c _;simp [accG]
  | cons g A ih =>
    intro B c h
    rw [List.cons_append,zhh c g (A++B) (h g (List.mem_cons_self ..)),ih B _ fun x hx=>h x (List.mem_cons_of_mem _ hx)]
    simp [accG]
 have:=key A B [] h
 rwa [zcg,List.nil_append] at this
theorem Yt (A:List (Key × List Int)) (h:okG A):runG A=(accG A,0):=by
 have:=V4 A [] h
 rw [List.append_nil] at this
 rw [this];simp [runG,appG]
theorem zh2 (A B:List (Key × List Int)) (g:Key × List Int) (h:okG A) (he:(zo 0 g.2).2≠0):runG (A++g::B)=([],(zo 0 g.2).2):=by rw [V4 A _ h,zgd _ _ _ he]
theorem zbQ (A:List (Key × List Int)) (g:Key × List Int):accG (A++[g])=accG A++putF g.1 (zo 0 g.2).1:=by simp [accG]
theorem zc1 {A:List (Key × List Int)} {g:Key × List Int} (h:okG A) (hg:(zo 0 g.2).2=0):okG (A++[g]):=by
 intro x hx
 rcases List.mem_append.1 hx with hx | hx
 ·exact h x hx
 ·simp at hx;subst hx;exact hg
theorem VT (A:List (Key × List Int)):(accG A).length≤A.length:=by
 induction A with
 | nil=>simp [accG]
 | cons g A ih =>
   have:accG (g::A)=putF g.1 (zo 0 g.2).1++accG A:=by simp [accG]
   rw [this,List.length_append,List.length_cons]
   have:(putF g.1 (zo 0 g.2).1).length≤1:=by unfold putF;split <;> simp
   omega
theorem zc7 (L:List Fact):(grps L).length≤L.length:=by unfold grps;rw [List.length_map];exact yp L
theorem zih {L:List Fact} (hz:∀ f∈L,In64 f.amt):∀ g∈grps L,∀ x∈g.2,In64 x:=by
 intro g hg x hx
 unfold grps at hg
 obtain ⟨k,_,rfl⟩:=List.mem_map.1 hg
 unfold amts at hx
 obtain ⟨f,hf,rfl⟩:=List.mem_map.1 hx
 exact hz f (List.mem_filter.1 hf).1
theorem zcn (L:List Fact):(flatG (grps L)).length=L.length:=by
 rw [←X6]
 unfold jO
 have key:∀ (K:List Key),Rise K→∀ L:List Fact,(K.flatMap fun k=>L.filter fun f=>decide (f.key=k)).length=(L.filter fun f=>decide (f.key∈K)).length:=by
  intro K
  induction K with
  | nil=>intro _ L;rw [List.filter_eq_nil_iff.2 (by simp)];rfl
  | cons k K ih =>
    intro h L
    obtain ⟨h1,h2⟩:=List.pairwise_cons.1 h
    rw [List.flatMap_cons,List.length_append,ih h2 L]
    clear ih
    induction L with
    | nil=>rfl
    | cons f L ihL =>
      by_cases e:f.key=k
      ·have hn:f.key ∉ K:=fun hm=>yD (h1 _ hm) e.symm
       simp only [List.filter_cons,e,decide_true,if_true,List.mem_cons,true_or] at ihL ⊢
       rw [e] at hn
       simp only [hn,decide_false,Bool.false_eq_true,if_false,List.length_cons]
       omega
      ·by_cases hm:f.key∈K
       ·simp only [List.filter_cons,e,hm,decide_false,decide_true,Bool.false_eq_true,if_false,if_true,List.mem_cons,false_or,List.length_cons] at ihL ⊢
        omega
       ·simp only [List.filter_cons,e,hm,decide_false,Bool.false_eq_true,if_false,List.mem_cons,or_self] at ihL ⊢
        exact ihL
 rw [key _ (j9 L) L,List.filter_eq_self.2 fun f hf=>decide_eq_true (mem_keys.2 ⟨f,hf,rfl⟩)]
theorem kept3 {W4 w9:World} {B1 C:Nat} {t:TypeId} {u v9 v':Value} {o:Obj} (h:Boxed W4 B1 t u) (hg:(W4.alloc o).grownBy w9 v'.ownBlock) (hn:some B1≠v'.ownBlock) (hne:B1≠C):Boxed (w9.setCell ⟨C,0,none⟩ v9) B1 t u:=((h.alloc o).kept hg hn).kept (grownBy_setCell' w9 C v9) (by simp [hne])
theorem Vn {W:World} {B k:Nat} {e:TypeId} {s n:Nat} {v:Value} {xs:List Value} (h:W.ownsRow B e s v n xs) (hk:k < B):some k≠v.ownBlock:=by
 rcases h.2 with ⟨rfl,_⟩ | ⟨g,cap,cur,rfl,hg,_⟩
 ·simp [Value.ownBlock]
 ·simp [Value.ownBlock];omega
def yh (w:World) (x:List Fact × Int) (e:Ending) (w':World):Prop :=
 ∃ u,e=.returned (.tuple #[u,.int .i64 x.2])∧FactsV w' u x.1∧Below w.heap.size w w'
def NewV (w:World) (v:Value):Prop:=∀ (ad:Addr) (n c:Nat),v=.slice (some ad) n c→0 < n→w.heap.size≤ad.block
theorem NewV.none (w:World) (n c:Nat):NewV w (.slice .none n c):=fun _ _ _ h=>by cases h
theorem NewV.own {w W:World} {B n s:Nat} {t:TypeId} {v:Value} {xs:List Value} (h:W.ownsRow B t s v n xs) (hB:w.heap.size≤B):NewV w v:=fun ad m c e _=>by
 rcases h.2 with ⟨rfl,_⟩ | ⟨g,cap,cur,rfl,hg,_⟩
 ·cases e
 ·cases e;show w.heap.size≤g;omega
theorem NewV.mono {w0 w:World} {v:Value} (h:NewV w v) (hs:w0.heap.size≤w.heap.size):NewV w0 v:=fun ad n c e hn=>Nat.le_trans hs (h ad n c e hn)
def ZJ (w:World) (x:List Fact × Int) (e:Ending) (w':World):Prop :=
 ∃ u,e=.returned (.tuple #[u,.int .i64 x.2])∧FactsV w' u x.1∧Below w.heap.size w w'∧NewV w u
theorem ZJ.told {w w':World} {x:List Fact × Int} {e:Ending} (h:ZJ w x e w'):yh w x e w':=by
 obtain ⟨u,h1,h2,h3,_⟩:=h
 exact ⟨u,h1,h2,h3⟩
def OfI (n0 hi:Nat) (pre:List GX) (W:World):Prop :=
 (∃ v,Boxed W (n0+1+1) 57 v∧W.ownsRow hi 76 6 v (accG (pre.map GX.grp)).length (flat encF (accG (pre.map GX.grp))))∧Boxed W n0 57 (.slice none 0 0)∧Boxed W (n0+1) 45 (.int .i64 0)∧okG (pre.map GX.grp)∧hi≤W.heap.size
theorem ziD (n0 hi:Nat):Own (OfI n0 hi):=by
 rintro s X Y row ⟨⟨v,hv,hr⟩,h1,h2,h3,h4⟩ hg hrow
 have hb:∀ {B:Nat} {t:TypeId} {u:Value},Boxed X B t u→some B≠row:=fun {B t u} hu e'=>by
  obtain ⟨o,ho,hc⟩:=hrow _ e'.symm
  rw [show X.heap[B]?=_ from hu] at ho;cases ho;cases hc
 exact ⟨⟨v,hv.kept hg (hb hv),yu hr hg hrow⟩,h1.kept hg (hb h1),h2.kept hg (hb h2),h3,Nat.le_trans h4 hg.size⟩
def OfX (n0:Nat) (e:Int) (c:Code) (_:List GX) (W:World):Prop:=c=.ret∧Boxed W n0 57 (.slice none 0 0)∧Boxed W (n0+1) 45 (.int .i64 e)
theorem zd4 (n0:Nat) (e:Int) (c:Code):Own (OfX n0 e c):=by
 rintro s X Y row ⟨h0,h1,h2⟩ hg hrow
 have hb:∀ {B:Nat} {t:TypeId} {u:Value},Boxed X B t u→some B≠row:=fun {B t u} hu e'=>by
  obtain ⟨o,ho,hc⟩:=hrow _ e'.symm
  rw [show X.heap[B]?=_ from hu] at ho;cases ho;cases hc
 exact ⟨h0,h1.kept hg (hb h1),h2.kept hg (hb h2)⟩
theorem yH {W:World} {l:Nat} {o o':Obj} (hl:W.heap[l]?=some o) (ho:o.isCells=false) {b i:Nat} {v:Value} (h:W.cell? ⟨b,i,none⟩=some v):(W.putObj l o').cell? ⟨b,i,none⟩=some v:=by
 refine (grownBy_putObj' W l o').cell h (fun e=>?_)
 cases e
 unfold World.cell? at h
 rw [hl] at h
 cases o <;> first | (simp at h;done) | (cases ho;done)
theorem qj {W:World} {l:Nat} {o o':Obj} (hl:W.heap[l]?=some o) (ho:o.isCells=false) {B:Nat} {t:TypeId} {u:Value} (h:Boxed W B t u):Boxed (W.putObj l o') B t u:=by
 refine h.kept (grownBy_putObj' W l o') fun e=>?_
 cases e
 rw [show W.heap[l]?=_ from h] at hl
 cases hl
 simp [Obj.isCells] at ho
theorem zfe {W:World} {l:Nat} {o o':Obj} (hl:W.heap[l]?=some o) (ho:o.isCells=false) {p:Option Addr} {n:Nat} {ns:List Int} (h:RowIs .i64 W p n ns):RowIs .i64 (W.putObj l o') p n ns :=
 ⟨h.len,h.max,fun i hi=>by
  obtain ⟨b,o1,e,hc⟩:=h.cell i hi
  exact ⟨b,o1,e,yH hl ho hc⟩⟩
theorem za0 {F:Fence} {n:Nat} {α:Type} {E:Enc α} {P:Program} {ops:Array Oper} {rest:List Oper} {o:Oper} {a:Act} {w:World} {Q:Exit→Act→World→Prop} (hgd:o.guard=none) (s x:Operand) (t e:TypeId) (ho:o.op=.call { callee:=.builtin .append,args:=#[s,x],argTypes:=#[t,t] }) (HI:InfoE P t e E)
 (B:Nat) (L:List α) (y:α) (g:Nat) (hrow:w.ownsRow B e E.k (a.eval s) L.length (flat E L)) (hx:a.eval x=.slice (some ⟨g,0,none⟩) 1 1) (hc:ElAt E w g 0 y) (hB:B≤w.heap.size) (hL:L.length≤1000000)
 (h:∀ v' w',w'.ownsRow B e E.k v' (L++[y]).length (flat E (L++[y]))→w.grownBy w' (a.eval s).ownBlock→wpListIn F n P ops Q rest (a.put o.dst v') w'):wpListIn F n P ops Q (o::rest) a w:=by
 obtain ⟨i,z,m,hi,hz,hs,hn,hzs,hb⟩:=HI.info
 refine wpListIn_append_own w hgd s x t ho B e i z E.k m HI.under hi hz hs hn hzs E.pos _ _ _ rfl hrow ⟨g,0,none⟩ 1 1 (E.cs y) hx (by rw [E.len,Nat.one_mul]) (fun j u hj=>by rw [zl];exact hc j u hj) (E.one y) (by unfold maxLen;omega) ?_ hB ?_
 ·exact Nat.le_trans (Nat.mul_le_mul (Nat.add_le_add_right hL 1) hb) (by decide)
 ·intro v' w' h1 h2 _
  exact h v' w' (by rw [qy,jY,List.length_append];exact h1) h2
theorem infoF:InfoE Tryz.prog 57 76 encF:=.of (z:=.agg #[.string ⟨#[]⟩,.string ⟨#[]⟩,.string ⟨#[]⟩,.string ⟨#[]⟩,.int .i64 0,.int .i64 0]) (n:=80) Tryz.underlying57 (by kernel_rfl) rfl (by decide)
set_option maxRecDepth 100000 in
set_option maxHeartbeats 4000000 in
theorem Vr (v:Value) (L:List Fact) (w:World) (h:FactsV w v L) (hz:∀ f∈L,In64 f.amt) (hL:L.length≤1000) :
 Calls Tryz.prog 53 #[v] w (ZJ w (ofL L)):=by
 obtain ⟨W1,hW1⟩:∃ W1,((w.alloc (.cells #[.slice none 0 0] 57)).alloc (.cells #[.int .i64 0] 45)).alloc (.cells #[.slice none 0 0] 57)=W1:=⟨_,rfl⟩
 have HB1:Hid (Below w.heap.size w W1):=Lib.hid (by rw [←hW1];exact (((Below.refl _ w).alloc (Nat.le_refl _) _).alloc (by simp) _).alloc (by simp;omega) _)
 have HN1:Hid (W1.heap.size=w.heap.size+3):=Lib.hid (by rw [←hW1];simp)
 have HR1:Hid (Boxed W1 w.heap.size 57 (.slice none 0 0)):=Lib.hid (by rw [←hW1];exact ((Boxed.new w _ _).alloc _).alloc _)
 have HR2:Hid (Boxed W1 (w.heap.size+1) 45 (.int .i64 0)):=Lib.hid (by
  rw [←hW1]
  have:=Boxed.new (w.alloc (.cells #[.slice none 0 0] 57)) 45 (.int .i64 0)
  rw [World.size_alloc] at this
  exact this.alloc _)
 have HRC:Hid (Boxed W1 (w.heap.size+1+1) 57 (.slice none 0 0)):=Lib.hid (by
  rw [←hW1]
  have:=Boxed.new ((w.alloc (.cells #[.slice none 0 0] 57)).alloc (.cells #[.int .i64 0] 45)) 57 (.slice none 0 0)
  rw [World.size_alloc,World.size_alloc] at this
  exact this)
 have HK:=Lib.hid (zc4 v L W1 (h.keep HB1.out) hL)
 have HZ:=Lib.hid (zih hz)
 have hlen:=zcn L
 rw [←hlen] at hL
 have HGL:Hid ((grps L).length≤1000):=Lib.hid (Nat.le_trans (zc7 L) (by omega))
 have HL:=Lib.hid hL
 obtain ⟨R,hR⟩:∃ R,ofL L=R:=⟨_,rfl⟩
 have HR:=Lib.hid (show runG (grps L)=R from hR)
 rw [hR]
 clear h hz hL hlen hR
 refine (callsIn_wide (n:=3)).1 ?_
 refine callsIn_of_wp_marks Tryz.func53 rfl trivial ?_ rfl
 simp only [Tryz.ntmps53,List.size_toArray,List.length_cons,List.length_nil,Nat.reduceAdd,Nat.reduceSub,Array.replicate_succ,Array.replicate_zero,List.push_toArray,List.append_toArray,List.nil_append,List.cons_append]
 gi_wp2_with (refine ⟨trivial,?_⟩;gi_at_call 81;refine (callsIn_wide.2 HK.out).mono ?_;rintro e w2 ⟨B,rfl,hS,hb2⟩)
 have hS':HasSI W1.heap.size w2.heap.size w2 B (flatG (grps L)):=by rw [←X6];exact hS
 have HB2:Hid (Below w.heap.size w w2):=Lib.hid (HB1.out.trans (hb2.mono HB1.out.size))
 have HC2:Hid (Boxed w2 (w.heap.size+1+1) 57 (.slice none 0 0)):=Lib.hid (zG HRC.out hb2)
 have H12:Hid (Boxed w2 w.heap.size 57 (.slice none 0 0)):=Lib.hid (zG HR1.out hb2)
 have H22:Hid (Boxed w2 (w.heap.size+1) 45 (.int .i64 0)):=Lib.hid (zG HR2.out hb2)
 have HSZ:Hid (W1.heap.size≤w2.heap.size):=Lib.hid hb2.size
 clear hS hb2
 refine JK rfl (by decide) (gf:=120) (lb:=#[.pointer (some ⟨B,0,none⟩)]) rfl trivial (enters_of Tryz.func120 (by kernel_rfl) rfl)
  (zb9 2 (by decide) W1.heap.size w2.heap.size B (grps L) (zcK L) HL.out w2 hS' (Nat.le_refl _)) zf0
  (fun W l o o' hl _ _ _=>⟨by simp,fun k _ hk=>World.putObj_heap_other (by omega)⟩) (fun _=>rfl)
  (fun pre W=>OfI w.heap.size w2.heap.size pre W∧Below w.heap.size w W)
  (fun c pre W=>(OfX w.heap.size R.2 c pre W∧R.1=[])∧Below w.heap.size w W)
  (OwnFrom.and (Own.from (ziD _ _) _) (ownFrom_below (Nat.le_refl _) HB2.out.size))
  (fun c=>OwnFrom.and (OwnFrom.and (Own.from (zd4 _ _ _) _) (ownFrom_pure _ _)) (ownFrom_below (Nat.le_refl _) HB2.out.size))
  ⟨⟨⟨_,HC2.out,World.ownsRow_nil _ _ _ _⟩,H12.out,H22.out,fun g hg=>by simp at hg,Nat.le_refl _⟩,HB2.out⟩ ?_ ?_ ?_
 ·rintro l pre x W hl ⟨⟨⟨v',hv,hr⟩,h1,h2,h3,hhi⟩,hB⟩ ⟨⟨G',hG'⟩,hrow⟩
  have HI:Hid (∀ y∈x.ns,In64 y):=Lib.hid (fun y hy=>HZ.out x.grp (by rw [hG'];simp) y hy)
  have hbA:Below W.heap.size W (W.alloc (.cells #[.string x.k.e,.string x.k.a,.string x.k.f,.string x.k.p,.int .i64 x.k.m] 74)):=(Below.refl W.heap.size W).alloc (Nat.le_refl _) _
  have HBA:=Lib.hid hbA
  have HRA:=Lib.hid (zu hr hbA)
  have HVA:=Lib.hid (zG hv hbA)
  have H1A:=Lib.hid (zG h1 hbA)
  have H2A:=Lib.hid (zG h2 hbA)
  have HRO:=Lib.hid (hrow.keep hbA (Nat.le_refl _))
  have HXA:=Lib.hid (BoxE.new encK W x.k 74)
  have HG':=Lib.hid hG'
  have HOK:=Lib.hid h3
  have HBW:=Lib.hid hB
  have HLC:Hid ((accG (pre.map GX.grp)).length≤1000):=Lib.hid (by
   have e1:=VT (pre.map GX.grp)
   have e2:=HGL.out
   rw [hG'] at e2
   simp at e1 e2 ⊢
   omega)
  clear hv hr h1 h2 h3 hB hG' hrow hbA
  unfold encG
  gi_wp2_with fail
  refine ⟨yj _ HBA.out,Za HBA.out hhi,?_⟩
  intro o o' hlo hoc
  obtain ⟨WA,hWA⟩:∃ WA,W.alloc (.cells #[.string x.k.e,.string x.k.a,.string x.k.f,.string x.k.p,.int .i64 x.k.m] 74)=WA:=⟨_,rfl⟩
  rw [hWA] at HRA HVA H1A H2A HRO HBA hlo
  have HSA:Hid (WA.heap.size=W.heap.size+1):=Lib.hid (by rw [←hWA,World.size_alloc])
  have HXB:Hid (BoxE encK WA W.heap.size 74 x.k):=Lib.hid (by rw [←hWA];exact HXA.out)
  rw [hWA]
  obtain ⟨W4,hW4⟩:∃ W4,WA.putObj l o'=W4:=⟨_,rfl⟩
  have hg4:WA.grownBy W4 (some l):=by rw [←hW4];exact grownBy_putObj' WA l o'
  have hv4:Boxed W4 (w.heap.size+1+1) 57 v':=by rw [←hW4];exact qj hlo hoc HVA.out
  have h14:Boxed W4 w.heap.size 57 (.slice none 0 0):=by rw [←hW4];exact qj hlo hoc H1A.out
  have h24:Boxed W4 (w.heap.size+1) 45 (.int .i64 0):=by rw [←hW4];exact qj hlo hoc H2A.out
  have HR4:Hid (W4.ownsRow w2.heap.size 76 6 v' (accG (pre.map GX.grp)).length (flat encF (accG (pre.map GX.grp)))):=Lib.hid (by rw [←hW4];exact yu HRA.out (grownBy_putObj' WA l o') (fun r e=>by cases e;exact ⟨o,hlo,hoc⟩))
  have HRO4:Hid (RowIs .i64 W4 x.a x.ns.length x.ns):=Lib.hid (by rw [←hW4];exact zfe hlo hoc HRO.out)
  have HB4:Hid (Below w.heap.size w W4):=Lib.hid (by
   rw [←hW4]
   exact (HBW.out.trans (HBA.out.mono HBW.out.size)).grown (grownBy_putObj' WA l o') (by have:=HBW.out.size;have:=HBA.out.size;omega) (fun k e=>by cases e;have:=HB2.out.size;omega))
  have HS4:Hid (W4.heap.size=W.heap.size+1):=Lib.hid (by rw [←hW4,←HSA.out];simp)
  obtain ⟨k0,k1,k2,k3,k4⟩:=key5 HXB.out.at0
  simp only [Nat.zero_add] at k0 k1 k2 k3 k4
  replace k0:=hW4 ▸ yH (o':=o') hlo hoc k0
  replace k1:=hW4 ▸ yH (o':=o') hlo hoc k1
  replace k2:=hW4 ▸ yH (o':=o') hlo hoc k2
  replace k3:=hW4 ▸ yH (o':=o') hlo hoc k3
  replace k4:=hW4 ▸ yH (o':=o') hlo hoc k4
  rw [hW4]
  have HHI:=Lib.hid hhi
  clear HXB HXA HRA HVA H1A H2A HRO hlo hoc hg4 hW4 hWA HBA HSA hhi
  have hsum:=zig x.a x.ns.length x.c x.ns W4 HRO4.out HI.out
  obtain ⟨sm,hsm⟩:∃ sm,(zo 0 x.ns).1=sm:=⟨_,rfl⟩
  obtain ⟨er,her⟩:∃ er,(zo 0 x.ns).2=er:=⟨_,rfl⟩
  rw [hsm,her] at hsum
  have HSM:=Lib.hid hsm
  have HER:=Lib.hid her
  have HSUM:=Lib.hid hsum
  clear hsum hsm her
  by_cases he0:er=0
  ·subst he0
   have HOK2:Hid (okG ((pre++[x]).map GX.grp)):=Lib.hid (by rw [List.map_append];exact zc1 HOK.out HER.out)
   have HAC:Hid (accG ((pre++[x]).map GX.grp)=accG (pre.map GX.grp)++putF x.k sm):=Lib.hid (by rw [List.map_append,List.map_cons,List.map_nil,zbQ];show _++putF x.k (zo 0 x.ns).1=_;rw [HSM.out])
   by_cases hs0:sm=0
   ·subst hs0
    gi_wp2_with (refine ⟨trivial,?_⟩;gi_at_call 82;refine (CallsIn.inRound l (callsIn_wide.2 HSUM.out)).mono ?_;rintro e W5 ⟨rfl,rfl⟩)
    refine ⟨KeepsFrom.refl _ _,⟨Nat.le_refl _,fun _ _ _=>rfl⟩,⟨⟨v',hv4,?_⟩,h14,h24,HOK2.out,by have:=HHI.out;have:=HS4.out;omega⟩,HB4.out⟩
    rw [HAC.out];simp only [putF,if_true,List.append_nil];exact HR4.out
   ·have hne:(sm != 0)=true:=by simpa using hs0
    have HPF:Hid (putF x.k sm=[⟨x.k,sm⟩]):=Lib.hid (by simp [putF,hs0])
    have hcv:=hv4.cell
    obtain ⟨n0,hn0⟩:∃ n0,(accG (pre.map GX.grp)).length=n0:=⟨_,rfl⟩
    have HLN:Hid ((accG (pre.map GX.grp)++[(⟨x.k,sm⟩:Fact)]).length=n0+1):=Lib.hid (by simp [hn0])
    have HN0:=Lib.hid hn0
    clear hn0
    gi_wp2_with (first
     | (refine ⟨trivial,?_⟩;gi_at_call 82;refine (CallsIn.inRound l (callsIn_wide.2 HSUM.out)).mono ?_;rintro e W5 ⟨rfl,rfl⟩)
     | (gi_at_builtin;refine za0 (E:=encF) rfl _ _ 57 76 rfl infoF w2.heap.size (accG (pre.map GX.grp)) ⟨x.k,sm⟩ W4.heap.size (HR4.out.alloc _) rfl (zf encF W4 ⟨x.k,sm⟩ _) (by have:=HHI.out;have:=HS4.out;simp;omega) (by have:=HLC.out;omega) ?_;intro v9 w9 hr9 hg9;rw [HLN.out] at hr9;obtain ⟨g9,c9,rfl⟩:=ownsRow_succ hr9;obtain ⟨hv5,hv6,hr6,hk6,hb6⟩:=hv4.appended (n₀:=w.heap.size) (by decide) (zw HR4.out HB2.out.size) (by have:=HB4.out.size;omega) (by omega) (zw hr9 HB2.out.size) hg9;have hc5:=hv5.cell;have hf5:=hv5.frozen)
     | fail)
    have HR9:=Lib.hid hr9
    have HG9:=Lib.hid hg9
    have HV5:=Lib.hid hv5
    have HV6:=Lib.hid hv6
    have HK6:=Lib.hid hk6
    have HB6:=Lib.hid hb6
    clear hr9 hg9 hv5 hv6 hr6 hk6 hb6 hc5 hf5 hcv
    refine ⟨HK6.out.from _,⟨HB6.out.size,fun k hk1 hk2=>?_⟩,⟨⟨_,HV6.out,?_⟩,kept3 h14 HG9.out (h14.not_row (by decide) HR4.out) (by omega),kept3 h24 HG9.out (h24.not_row (by decide) HR4.out) (by omega),HOK2.out,by have:=HHI.out;have:=HS4.out;have:=HB6.out.size;omega⟩,HB4.out.trans HB6.out⟩
    ·have hn:=HN1.out
     have hs:=HSZ.out
     have hh:=HHI.out
     have h4:=HS4.out
     have e1:=(World.grownBy_alloc W4 (.cells (encF.cs ⟨x.k,sm⟩).toArray 76) none).block k (by omega) (by simp)
     have e2:=HG9.out.block k (by simp;omega) (Vn HR4.out hk2)
     have e3:=(grownBy_setCell' w9 (w.heap.size+1+1) (.slice (some ⟨g9,0,none⟩) (n0+1) c9)).block k (by have:=HG9.out.size;simp at this;omega) (by simp;omega)
     exact e3.trans (e2.trans e1)
    ·rw [HAC.out,HPF.out,HLN.out]
     exact HR9.out.kept (grownBy_setCell' w9 _ _) (.inr (HV5.out.not_row (by decide) HR9.out).symm)
  ·have hne:(er != 0)=true:=by simpa using he0
   have c1:=h14.cell
   have f1:=h14.frozen
   have h25:=h24.other (B':=w.heap.size) (by omega) (.slice none 0 0)
   have c2:=h25.cell
   have f2:=h25.frozen
   have H16:Hid (Boxed ((W4.setCell ⟨w.heap.size,0,none⟩ (.slice none 0 0)).setCell ⟨w.heap.size+1,0,none⟩ (.int .i64 er)) w.heap.size 57 (.slice none 0 0)):=Lib.hid ((h14.set _).other (by omega) _)
   have H26:Hid (Boxed ((W4.setCell ⟨w.heap.size,0,none⟩ (.slice none 0 0)).setCell ⟨w.heap.size+1,0,none⟩ (.int .i64 er)) (w.heap.size+1) 45 (.int .i64 er)):=Lib.hid (h25.set _)
   have HK6:Hid (KeepsFrom w2.heap.size W4 ((W4.setCell ⟨w.heap.size,0,none⟩ (.slice none 0 0)).setCell ⟨w.heap.size+1,0,none⟩ (.int .i64 er))):=Lib.hid ((KeepsFrom.of_grownBy (grownBy_setCell' W4 w.heap.size (.slice none 0 0)) (fun k e=>by cases e;have:=HN1.out;have:=HSZ.out;omega)).trans (KeepsFrom.of_grownBy (grownBy_setCell' _ (w.heap.size+1) (.int .i64 er)) (fun k e=>by cases e;have:=HN1.out;have:=HSZ.out;omega)))
   have HB6:Hid (Below w.heap.size w ((W4.setCell ⟨w.heap.size,0,none⟩ (.slice none 0 0)).setCell ⟨w.heap.size+1,0,none⟩ (.int .i64 er))):=Lib.hid ((HB4.out.grown (grownBy_setCell' W4 w.heap.size (.slice none 0 0)) HB4.out.size (fun k e=>by cases e;exact Nat.le_refl _)).grown (grownBy_setCell' _ (w.heap.size+1) (.int .i64 er)) (by simpa using HB4.out.size) (fun k e=>by cases e;omega))
   have HRR:Hid (R.1=[]∧R.2=er):=Lib.hid (by
    have e1:=HR.out
    rw [HG'.out,zh2 _ _ x.grp HOK.out (by show (zo 0 x.ns).2≠0;rw [HER.out];exact he0)] at e1
    rw [←e1]
    exact ⟨rfl,HER.out⟩)
   gi_wp2_with (refine ⟨trivial,?_⟩;gi_at_call 82;refine (CallsIn.inRound l (callsIn_wide.2 HSUM.out)).mono ?_;rintro e W5 ⟨rfl,rfl⟩)
   exact ⟨HK6.out,⟨⟨rfl,H16.out,by rw [HRR.out.2];exact H26.out⟩,HRR.out.1⟩,HB6.out⟩
 ·rintro D xs W hD hxs ⟨⟨⟨v',hv,hr⟩,h1,h2,h3,hhi⟩,hB⟩ hK
  have HRR:Hid (R=(accG (grps L),0)):=Lib.hid (by rw [←HR.out,Yt _ (by rw [←hxs];exact h3)])
  rw [hxs] at hr
  have hF:=zq hr
  have HNW:=Lib.hid (NewV.own hr (w:=w) (by have:=HB2.out.size;omega))
  obtain ⟨p,c,rfl,hnc,hcm,_⟩:=id hF
  obtain ⟨n0,hn0⟩:∃ n0,(accG (grps L)).length=n0:=⟨_,rfl⟩
  have hn1:n0≤1000:=by rw [←hn0];exact Nat.le_trans (VT _) HGL.out
  have hF0:=hF
  rw [hn0] at hv hF0 HNW
  have HF:=Lib.hid hF0
  have hcv:=hv.cell
  have c1:=h1.cell
  have f1:=h1.frozen
  have h25:=h2.other (B':=w.heap.size) (by omega) (.slice p n0 c)
  have c2:=h25.cell
  have f2:=h25.frozen
  have hlt:¬ (2000:Int) < (n0:Int):=by omega
  obtain ⟨W5,hW5⟩:∃ W5,W.setCell ⟨w.heap.size,0,none⟩ (.slice p n0 c)=W5:=⟨_,rfl⟩
  obtain ⟨W6,hW6⟩:∃ W6,W5.setCell ⟨w.heap.size+1,0,none⟩ (.int .i64 0)=W6:=⟨_,rfl⟩
  have b15:Boxed W5 w.heap.size 57 (.slice p n0 c):=by rw [←hW5];exact h1.set _
  rw [hW5] at h25
  have b16:Boxed W6 w.heap.size 57 (.slice p n0 c):=by rw [←hW6];exact b15.other (by omega) _
  have b26:Boxed W6 (w.heap.size+1) 45 (.int .i64 0):=by rw [←hW6];exact h25.set _
  have r5:=hr.kept (grownBy_setCell' W w.heap.size (.slice p n0 c)) (.inr (h1.not_row (by decide) hr).symm)
  rw [hW5] at r5
  have r6:=r5.kept (grownBy_setCell' W5 (w.heap.size+1) (.int .i64 0)) (.inr (h25.not_row (by decide) r5).symm)
  rw [hW6] at r6
  have hK5:W5.heap[D]?=some (.deferred (some [])):=by rw [←hW5];exact ((grownBy_setCell' W w.heap.size (.slice p n0 c)).block D (Array.getElem?_eq_some_iff.1 hK).1 (by have:=HB2.out.size;have:=HN1.out;have:=HSZ.out;simp;omega)).trans hK
  have hK6:W6.heap[D]?=some (.deferred (some [])):=by rw [←hW6];exact ((grownBy_setCell' W5 (w.heap.size+1) (.int .i64 0)).block D (Array.getElem?_eq_some_iff.1 hK5).1 (by have:=HB2.out.size;have:=HN1.out;have:=HSZ.out;simp;omega)).trans hK5
  have hB5:Below w.heap.size w W5:=by rw [←hW5];exact hB.grown (grownBy_setCell' W w.heap.size _) hB.size (fun k e=>by cases e;exact Nat.le_refl _)
  have hB6:Below w.heap.size w W6:=by rw [←hW6];exact hB5.grown (grownBy_setCell' W5 (w.heap.size+1) _) hB5.size (fun k e=>by cases e;omega)
  have b17:=(qj (o':=.deferred none) hK6 rfl b16).cell
  have b27:=(qj (o':=.deferred none) hK6 rfl b26).cell
  have r7:=zq (E:=encF) (yu r6 (grownBy_putObj' W6 D (.deferred none)) (fun r e=>by cases e;exact ⟨_,hK6,rfl⟩))
  have hB7:=hB6.grown (grownBy_putObj' W6 D (.deferred none)) hB6.size (fun k e=>by cases e;have:=HB2.out.size;omega)
  rw [hn0] at r7
  have HK6:=Lib.hid hK6
  have HR7:=Lib.hid r7
  have HB7:=Lib.hid hB7
  have H17:=Lib.hid b17
  have H27:=Lib.hid b27
  clear hF hF0 hr b15 b16 b26 r5 r6 hK5 hK6 hB5 hB6 b17 b27 r7 hB7 h25 hK hB h1 h2 hv HF
  rw [hW5] at c2 f2
  gi_wp2
  refine ⟨by simp,.inl ⟨_,_,rfl,run_takeDeferred HK6.out,?_⟩⟩
  have c17:=H17.out
  have c27:=H27.out
  refine ⟨.tuple #[.slice p n0 c,.int .i64 0],by simp [results,Tryz.results53,go_sem,c17,c27],.slice p n0 c,by rw [HRR.out],?_,HB7.out,HNW.out⟩
  rw [HRR.out]
  exact HR7.out
 ·rintro D c pre W hD _ ⟨⟨⟨rfl,h1,h2⟩,h3⟩,hB⟩ hK
  have b17:=(qj (o':=.deferred none) hK rfl h1).cell
  have b27:=(qj (o':=.deferred none) hK rfl h2).cell
  have hB7:=hB.grown (grownBy_putObj' W D (.deferred none)) hB.size (fun k e=>by cases e;have:=HB2.out.size;omega)
  have HK6:=Lib.hid hK
  have HB7:=Lib.hid hB7
  have H17:=Lib.hid b17
  have H27:=Lib.hid b27
  clear b17 b27 hB7 hK h1 h2 hB
  gi_wp2
  refine ⟨by simp,.inl ⟨_,_,rfl,run_takeDeferred HK6.out,?_⟩⟩
  have c17:=H17.out
  have c27:=H27.out
  refine ⟨.tuple #[.slice none 0 0,.int .i64 R.2],by simp [results,Tryz.results53,go_sem,c17,c27],.slice none 0 0,rfl,?_,HB7.out,NewV.none _ _ _⟩
  rw [h3]
  exact ElsV.nil _
theorem jX (v:Value) (L:List Fact) (w:World) (h:FactsV w v L) (hz:∀ f∈L,In64 f.amt) (hL:L.length≤1000) :
 Calls Tryz.prog 53 #[v] w (yh w (ofL L)):=(Vr v L w h hz hL).mono fun _ _ h=>h.told
end Go.Proofs.YtdhfpgjnjlcciaaGreatDoor.Fa
end
section
namespace Go.Proofs.YtdhfpgjnjlcciaaGreatDoor.Fa
open Go.RowKit
def RiseF (c:List Fact):Prop:=c.Pairwise fun x y=>ltK x.key y.key
theorem zjg {c:List Fact} (h:RiseF c) {i j:Nat} {x y:Fact} (hij:i < j) (hx:c[i]?=some x) (hy:c[j]?=some y):ltK x.key y.key:=by
 have h1:=(List.getElem?_eq_some_iff.1 hx)
 have h2:=(List.getElem?_eq_some_iff.1 hy)
 have:=(List.pairwise_iff_getElem.1 h) i j h1.1 h2.1 hij
 rwa [h1.2,h2.2] at this
structure kO (w wr:World) (L:List Fact) (c:Key) (lo hi:Nat):Prop where
 le:lo≤hi
 top:hi≤L.length
 bel:Below (w.heap.size+1) (w.alloc (.cells (encK.cs c).toArray 74)) wr
 low:∀ (t:Nat) (x:Fact),t < lo→L[t]?=some x→ltK x.key c
 high:∀ (t:Nat) (x:Fact),hi≤t→L[t]?=some x→¬ ltK x.key c
end Go.Proofs.YtdhfpgjnjlcciaaGreatDoor.Fa
end
section
namespace Go.Proofs.YtdhfpgjnjlcciaaGreatDoor.Fa
open Go.RowKit
def RightP (c:List Fact):Prop:=c.length≤2000∧(∀ f∈c,f.amt≠0)∧RiseF c
instance (c:List Fact):Decidable (RightP c):=by unfold RightP RiseF;infer_instance
def rightL (c:List Fact):Bool:=decide (RightP c)
def OkTo (c:List Fact) (i:Nat):Prop:=∀ (j:Nat) (x:Fact),j < i→c[j]?=some x→x.amt≠0∧∀ y,0 < j→c[j - 1]?=some y→ltK y.key x.key
theorem zf5 {c:List Fact} (h:∀ (j:Nat) (x y:Fact),c[j]?=some x→c[j+1]?=some y→ltK x.key y.key):RiseF c:=by
 induction c with
 | nil=>exact List.Pairwise.nil
 | cons a c ih =>
   have ht:=ih fun j x y hx hy=>h (j+1) x y (by simpa using hx) (by simpa using hy)
   refine List.pairwise_cons.2 ⟨fun z hz=>?_,ht⟩
   cases c with
   | nil=>cases hz
   | cons b c =>
     have hab:=h 0 a b rfl rfl
     rcases List.mem_cons.1 hz with rfl | hz
     ·exact hab
     ·exact yg hab ((List.pairwise_cons.1 ht).1 z hz)
theorem zeJ {c:List Fact} {n:Nat} (hn:c.length=n) (h2:n≤2000) (h:OkTo c n):rightL c=true:=by
 refine decide_eq_true ⟨by omega,fun f hf=>?_,zf5 fun j x y hx hy=>?_⟩
 ·obtain ⟨j,hj,rfl⟩:=List.getElem_of_mem hf
  exact (h j _ (by omega) (List.getElem?_eq_getElem hj)).1
 ·have hj:=(List.getElem?_eq_some_iff.1 hy).1
  exact (h (j+1) y (by omega) hy).2 x (Nat.succ_pos _) hx
theorem ze4 {c:List Fact} {i:Nat} {x:Fact} (hx:c[i]?=some x) (h:x.amt=0):rightL c=false :=
 decide_eq_false fun hr=>hr.2.1 x (List.mem_of_getElem? hx) h
theorem zc0 {c:List Fact} {i:Nat} {x y:Fact} (hi:0 < i) (hx:c[i]?=some x) (hy:c[i - 1]?=some y) (h:¬ ltK y.key x.key):rightL c=false :=
 decide_eq_false fun hr=>h (zjg hr.2.2 (by omega) hy hx)
theorem zah {c:List Fact} {i:Nat} {x:Fact} (h:OkTo c i) (hx:c[i]?=some x) (h0:x.amt≠0) (h1:∀ y,0 < i→c[i - 1]?=some y→ltK y.key x.key):OkTo c (i+1):=by
 intro j z hj hz
 rcases Nat.lt_or_ge j i with hl | hl
 ·exact h j z hl hz
 ·obtain rfl:j=i:=by omega
  rw [hx] at hz;cases hz
  exact ⟨h0,h1⟩
end Go.Proofs.YtdhfpgjnjlcciaaGreatDoor.Fa
end
section
namespace Go.Proofs.YtdhfpgjnjlcciaaGreatDoor.Fa
abbrev B1:Int:=675539944105574400
end Go.Proofs.YtdhfpgjnjlcciaaGreatDoor.Fa
end
section
namespace Go.Proofs.YtdhfpgjnjlcciaaGreatDoor.Pk
open Go.RowKit Go.Proofs.YtdhfpgjnjlcciaaGreatDoor.Un Go.Proofs.YtdhfpgjnjlcciaaGreatDoor.Fa
theorem J4 (M:Mast) (s:ByteArray) :
 (∃ T,linE s.data.toList=0∧runP M st0 (wordsT s)=(T,0)∧Had M T∧T.facts.length * 10≤s.size+1∧parseP M s=ofL T.facts)∨((parseP M s).2≠0∧(parseP M s).1=[]∧((runP M st0 (wordsT s)).2≠0∨linE s.data.toList≠0)):=by
 unfold parseP
 by_cases h0:linE s.data.toList=0
 ·rw [if_pos h0]
  cases hr:runP M st0 (wordsT s) with
  | mk T n =>
    by_cases hn:n=0
    ·subst hn
     left
     exact ⟨T,h0,rfl,(Had.zero M).run _ hr,zbb hr,Qv T⟩
    ·right
     rw [XZ T hn]
     exact ⟨hn,rfl,.inl hn⟩
 ·rw [if_neg h0]
  exact .inr ⟨h0,rfl,.inr h0⟩
def wordsF (L:List (List UInt8)):List (List ByteArray):=L.flatMap fun x=>if wordsL x=[] then [] else [(wordsL x).map mkB]
end Go.Proofs.YtdhfpgjnjlcciaaGreatDoor.Pk
end
section
namespace Go.Proofs.YtdhfpgjnjlcciaaGreatDoor.Pk
open Go.RowKit Go.Proofs.YtdhfpgjnjlcciaaGreatDoor.Un Go.Proofs.YtdhfpgjnjlcciaaGreatDoor.Fa
abbrev xE2:ByteArray:=⟨#[69,50]⟩
def extraL (b:Bool):List (List ByteArray):=if b=true then [[zm,xE2,xU]] else []
def restP (b:Bool):List (List ByteArray):=[[Fl.tFlow,xF0,Fl.tOpen],[Fl.tFlow,xF1,Fl.tMove],[Fl.tFlow,xF8,Fl.tFx],[Fl.tFlow,xF9,Fl.tScope],[Fl.tFlow,xFz,Fl.tClose],[zm,xE1,xU],[tGroup,xU],[zI,xc],[tMinor,xc],[zD,xa],[tStake,xa]]++extraL b
def smallP (b:Bool):List (List ByteArray):=ZX++restP b
theorem Yq (b:Bool):(smallP b).filterMap acO=smallA:=by
 unfold smallP
 rw [List.filterMap_append,show (restP b).filterMap acO=[] by cases b <;> kernel_rfl,List.append_nil]
 unfold ZX
 rw [List.filterMap_cons,ziI,List.filterMap_cons,zfY,List.filterMap_cons,zca];rfl
def entsP (b:Bool):List Ent:=if b=true then [⟨xE1,xU⟩,⟨xE2,xU⟩] else [⟨xE1,xU⟩]
theorem ZS (b:Bool):(smallP b).filterMap flO=smallF:=by cases b <;> kernel_rfl
theorem JI (b:Bool):(smallP b).filterMap enO=entsP b:=by cases b <;> kernel_rfl
theorem J1 (b:Bool):(smallP b).filterMap liO=[]:=by cases b <;> kernel_rfl
theorem VU (b:Bool):(smallP b).filterMap (onO tGroup)=[xU]:=by cases b <;> kernel_rfl
theorem Xa (b:Bool):(smallP b).filterMap (onO zI)=[xc]:=by cases b <;> kernel_rfl
theorem zaL (b:Bool):(smallP b).filterMap (onO zD)=[xa]:=by cases b <;> kernel_rfl
theorem Xx (b:Bool):(smallP b).filterMap (onO tMinor)=[xc]:=by cases b <;> kernel_rfl
theorem Ky (b:Bool):(smallP b).filterMap (onO tStake)=[xa]:=by cases b <;> kernel_rfl
theorem zcX (b:Bool):∀ ws∈smallP b,Un.Good ws:=by
 intro ws hw
 rcases List.mem_append.1 hw with h | h
 ·exact Ve ws (List.mem_append_left _ h)
 rcases List.mem_append.1 h with h | h
 ·exact Ve ws (List.mem_append_right _ (by
   unfold Jy
   simp only [List.mem_cons,List.not_mem_nil,or_false] at h ⊢
   rcases h with h | h | h | h | h | h | h | h | h | h | h <;> simp [h]))
 ·cases b with
  | false=>cases h
  | true =>
    have:ws=[zm,xE2,xU]:=by simpa [extraL] using h
    subst this
    exact .inr (.inr (by kernel_rfl))
theorem zgN (b:Bool):Ok (smallP b) where
 good:=zcX b
 ac:=by rw [Yq];decide
 al:=by rw [Yq];decide
 fc:=by rw [ZS];decide
 fk:=by rw [ZS];decide
 fl:=by rw [ZS];decide
 ec:=by rw [JI];cases b <;> decide
 el:=by rw [JI];cases b <;> decide
 lc:=by rw [J1];decide
 ll:=by rw [J1];decide
 on t ht:=by
  simp only [ones,List.mem_cons,List.not_mem_nil,or_false] at ht
  rcases ht with rfl | rfl | rfl | rfl | rfl
  ·rw [VU];decide
  ·rw [Xa];decide
  ·rw [zaL];decide
  ·rw [Xx];decide
  ·rw [Ky];decide
theorem Vs {l:List (List ByteArray)} (h:(l.all fun ws=>decide (ws≠[]) && ws.all fun x=>rightL x.data.toList)=true):∀ ws∈l,rightW ws:=fun ws hw=>by
 have h1:=List.all_eq_true.1 h ws hw
 rw [Bool.and_eq_true,decide_eq_true_eq] at h1
 exact ⟨h1.1,fun x hx=>List.all_eq_true.1 h1.2 x hx⟩
theorem zie (b:Bool):∀ ws∈smallP b,rightW ws:=Vs (by cases b <;> kernel_rfl)
structure SmallM (b:Bool) (M:Mast):Prop where
 e1:hasE M xE1=true
 e2:hasE M xE2=b
 a:findL M.chart xa=some (qB xa 0)
 f0:Fl.findF M.flows xF0=some ⟨xF0,0⟩
 f1:Fl.findF M.flows xF1=some ⟨xF1,1⟩
 f8:Fl.findF M.flows xF8=some ⟨xF8,2⟩
 fz:Fl.findF M.flows xFz=some ⟨xFz,4⟩
 mv:Fl.ofF M.flows 1=[xF1]
 sane:Sane M
theorem K8 (b:Bool):szL (smallP b)≤200:=by cases b <;> decide
theorem ze9 (b:Bool):∃ M,parseM (mkB (textW (smallP b)))=(M,0)∧SmallM b M:=by
 obtain ⟨M,hM,hi⟩:=zdw (zgN b)
 have hch:=hi.chart
 have hfl:=hi.flows
 have hen:=hi.ents
 have hli:=hi.lines
 have hcu:=hi.cur
 have hre:=hi.res
 have hdi:=hi.dif
 have hmi:=hi.min
 have hst:=hi.stk
 rw [Yq] at hch
 rw [ZS] at hfl
 rw [JI] at hen
 rw [J1] at hli
 rw [VU] at hcu
 rw [Xa] at hre
 rw [zaL] at hdi
 rw [Xx] at hmi
 rw [Ky] at hst
 have e1:=vE hcu
 have e2:=vE hre
 have e3:=vE hdi
 have e4:=vE hmi
 have e5:=vE hst
 have hlins:M.lines=[]:=List.perm_nil.1 hli
 have ma:qB xa 0∈M.chart:=(hch.mem_iff).2 (by simp [smallA])
 have mc:qB xc 2∈M.chart:=(hch.mem_iff).2 (by simp [smallA])
 have mf:∀ f∈smallF,f∈M.flows:=fun f hf=>(hfl.mem_iff).2 hf
 have hrf:=Fl.qm hi.sane.fl
 have hroles:rolesN M=true:=by
  unfold rolesN
  rw [e2,e3,e4,e5,KW mc,KW ma];rfl
 have hlines:linesN M=true:=by
  unfold linesN
  rw [hlins];rfl
 have hwhole:Fl.wholeF M.flows=true:=by
  unfold Fl.wholeF
  rw [ZC (mf ⟨xF0,0⟩ (by simp [smallF])),ZC (mf ⟨xF8,2⟩ (by simp [smallF])),ZC (mf ⟨xF9,3⟩ (by simp [smallF])),ZC (mf ⟨xFz,4⟩ (by simp [smallF]))];rfl
 have hplain:rolesP M=true:=by
  unfold rolesP
  rw [e2,e3,e4,e5,V5 hi.sane.ch mc 2 rfl,V5 hi.sane.ch ma 0 rfl];rfl
 have hall:allE M=0:=by
  unfold allE
  rw [if_neg,if_neg,if_neg]
  ·rw [hplain];simp
  ·rw [hwhole];simp
  ·rw [hroles,hlines,e1]
   have:(xU:ByteArray)≠emp:=by decide
   simp [this]
 obtain ⟨hE,hW⟩:=VF (smallP b) (zie b) (by have:=K8 b;omega)
 refine ⟨M,?_,?_,?_,?_,?_,?_,?_,?_,?_,hi.sane⟩
 ·unfold parseM
  rw [if_pos hE,hW]
  unfold linesM
  rw [hM,Zl M hall]
 ·exact Xc (key:=Ent.code) ((hen.mem_iff).2 (by cases b <;> simp [entsP]):(⟨xE1,xU⟩:Ent)∈M.ents)
 ·cases b with
  | true=>exact Xc (key:=Ent.code) ((hen.mem_iff).2 (by simp [entsP]):(⟨xE2,xU⟩:Ent)∈M.ents)
  | false =>
    have hents:M.ents=[⟨xE1,xU⟩]:=List.perm_singleton.1 hen
    unfold hasE
    rw [hents];decide
 ·have h1:G.findK Acct.code M.chart xa=some (qB xa 0):=G.jc (by rw [←Yj];exact hi.sane.ch) ma
  rw [←h1]
  generalize M.chart=C
  induction C with
  | nil=>rfl
  | cons y C ih=>simp only [findL,G.findK];rw [ih]
 ·exact jc (key:=Fl.Flow.code) hrf (mf ⟨xF0,0⟩ (by simp [smallF]))
 ·exact jc (key:=Fl.Flow.code) hrf (mf ⟨xF1,1⟩ (by simp [smallF]))
 ·exact jc (key:=Fl.Flow.code) hrf (mf ⟨xF8,2⟩ (by simp [smallF]))
 ·exact jc (key:=Fl.Flow.code) hrf (mf ⟨xFz,4⟩ (by simp [smallF]))
 ·have h1:(Fl.ofF M.flows 1).Perm (Fl.ofF smallF 1):=(hfl.filter _).map _
  exact List.perm_singleton.1 (by rw [show Fl.ofF smallF 1=[xF1] by decide] at h1;exact h1)
section
variable {b:Bool} {M:Mast}
theorem SmallM.check (h:SmallM b M) {c fl:ByteArray} {k:Int} {x:ByteArray} (hc:hasE M c=true) (hf:Fl.findF M.flows fl=some ⟨x,k⟩) (m:Int):checkE M ⟨c,xa,fl,emp,m⟩=if k=2 then 8 else 0:=by
 have hp:isP (⟨c,xa,fl,emp,m⟩:Key)=false:=by unfold isP;simp
 have hin:inM M ⟨c,xa,fl,emp,m⟩=true:=by
  unfold inM hasA hasFl
  dsimp only
  rw [hc,h.a,hf,hp];rfl
 unfold checkE
 rw [if_neg (by rw [hin];simp),hp,if_neg (by simp),if_neg]
 ·unfold kindF
  dsimp only
  rw [hf];rfl
 ·unfold mutA
  dsimp only
  rw [h.a];simp
theorem SmallM.pack (_h:SmallM b M) {S:St} {c:ByteArray} (hn:nmB c=true) (hc:hasE M c=true) (hh:S.had=[]):lineE M S [zA,c]=0∧lineV S [zA,c]=⟨c,0,[c],S.facts⟩:=by
 refine ⟨?_,?_⟩
 ·unfold lineE
  rw [if_pos (show wd [zA,c] 0=zA from rfl),if_pos (show [zA,c].length=2 from rfl)]
  show (if begE M c=0 then (if hadB S.had c=true then (7:Int) else 0) else begE M c)=0
  rw [if_pos (Xj.2 ⟨hn,hc⟩),hh,if_neg]
  rw [Bool.not_eq_true]
  exact Kb.2 (by simp)
 ·unfold lineV
  rw [if_pos (show wd [zA,c] 0=zA from rfl),hh];rfl
theorem SmallM.fact (h:SmallM b M) {S:St} {fl t:ByteArray} {x:ByteArray} {k n:Int} (he:S.ent≠emp) (hc:hasE M S.ent=true) (hn:nmB fl=true) (hf:Fl.findF M.flows fl=some ⟨x,k⟩) (hk:k≠2) (hv:parseV t.data.toList=n) (hp:parseE t.data.toList=0) :
 lineE M S [tFact,xa,fl,tDash,t]=0∧lineV S [tFact,xa,fl,tDash,t]=⟨S.ent,S.mrk,S.had,S.facts++[⟨⟨S.ent,xa,fl,emp,S.mrk⟩,n⟩]⟩:=by
 have hK:keyF S [tFact,xa,fl,tDash,t]=⟨S.ent,xa,fl,emp,S.mrk⟩:=rfl
 refine ⟨?_,?_⟩
 ·unfold lineE
  rw [if_neg (show wd [tFact,xa,fl,tDash,t] 0≠zA from tP_F.symm),if_neg (show wd [tFact,xa,fl,tDash,t] 0≠zL from tJ_F.symm),if_pos (show wd [tFact,xa,fl,tDash,t] 0=tFact from rfl),if_pos (show [tFact,xa,fl,tDash,t].length=5 from rfl)]
  unfold factE
  rw [hK,if_neg,if_pos (show parseE (wd [tFact,xa,fl,tDash,t] 4).data.toList=0 from hp),h.check hc hf,if_neg hk]
  have hp':isP (⟨S.ent,xa,fl,emp,S.mrk⟩:Key)=false:=by unfold isP;simp
  unfold namedK
  dsimp only
  rw [hp',hn,show nmB xa=true by decide]
  simp [he]
 ·unfold lineV
  rw [if_neg (show wd [tFact,xa,fl,tDash,t] 0≠zA from tP_F.symm),if_neg (show wd [tFact,xa,fl,tDash,t] 0≠zL from tJ_F.symm)]
  unfold factV
  rw [hK,show wd [tFact,xa,fl,tDash,t] 4=t from rfl,hv]
theorem zgD {l:List (List ByteArray)} (hr:∀ ws∈l,rightW ws) (hs:szL l≤20000):parseP M (mkB (textW l))=endP (runP M st0 l):=by
 obtain ⟨hE,hW⟩:=VF l hr hs
 unfold parseP
 rw [if_pos hE,hW]
end
end Go.Proofs.YtdhfpgjnjlcciaaGreatDoor.Pk
end
