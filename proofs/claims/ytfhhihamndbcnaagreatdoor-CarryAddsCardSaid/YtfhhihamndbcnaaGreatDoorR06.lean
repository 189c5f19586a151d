/- SortPlain SortKBase SortKSwap SortKLeft SortKRight SortKMerge SortKStable FaSorted -/
import Derived.Deep.CutBlock
import Derived.Deep.DeepCutAuto
import Derived.Deep.LoopGhost
import Derived.Ground.SlsfProg
import Derived.KernelRfl
import Derived.Lib.Hide
import Derived.Shelf.SlSortCmp.KitK
import Derived.Shelf.SlSortCmp.QuietGrown
import Derived.Sort.WalkA
import Derived.Sort.WalkB12
import Derived.Sort.WalkB2
import Derived.Test.YtfhhihamndbcnaaGreatDoorR03
section
namespace Go.Proofs.YtfhhihamndbcnaaGreatDoor
open Go.Sort
variable {α:Type} [Inhabited α]
def Asc (T:α→α→Prop) (a b:Nat) (d:Array α):Prop:=∀ i j,a≤i→i < j→j < b→T d[i]! d[j]!
def Keep (a b:Nat) (d d':Array α):Prop :=
 d'.size=d.size∧(∀ i,(i < a∨b≤i)→d'[i]! = d[i]!)∧∀ i,a≤i→i < b→∃ j,a≤j∧j < b∧d'[i]! = d[j]!
def Meet (lt:α→α→Bool) (T:α→α→Prop) (a m b:Nat) (d:Array α):Prop :=
 ∀ i j,a≤i→i < m→m≤j→j < b→(lt d[j]! d[i]! = true→T d[j]! d[i]!)∧(lt d[j]! d[i]! = false→T d[i]! d[j]!)
theorem Keep.refl (a b:Nat) (d:Array α):Keep a b d d:=⟨rfl,fun _ _=>rfl,fun i h1 h2=>⟨i,h1,h2,rfl⟩⟩
theorem Keep.trans {a b:Nat} {d d' d'':Array α} (h:Keep a b d d') (h':Keep a b d' d''):Keep a b d d'' :=
 ⟨h'.1.trans h.1,fun i hi=>(h'.2.1 i hi).trans (h.2.1 i hi),fun i h1 h2=>by
  obtain ⟨j,j1,j2,e⟩:=h'.2.2 i h1 h2
  obtain ⟨k,k1,k2,e'⟩:=h.2.2 j j1 j2
  exact ⟨k,k1,k2,e.trans e'⟩⟩
theorem Keep.wider {a b a' b':Nat} {d d':Array α} (h:Keep a b d d') (ha:a'≤a) (hb:b≤b'):Keep a' b' d d' :=
 ⟨h.1,fun i hi=>h.2.1 i (by omega),fun i h1 h2=>by
  by_cases hi:a≤i∧i < b
  ·obtain ⟨j,j1,j2,e⟩:=h.2.2 i hi.1 hi.2
   exact ⟨j,by omega,by omega,e⟩
  ·exact ⟨i,h1,h2,h.2.1 i (by omega)⟩⟩
theorem swp_at (d:Array α) {i j:Nat} (hi:i < d.size) (hj:j < d.size) (k:Nat):(swp d i j)[k]! = if k=j then d[i]! else if k=i then d[j]! else d[k]! := by
 by_cases h1:k=j
 ·subst h1;rw [if_pos rfl,swp_right d i k hj]
 ·rw [if_neg h1]
  by_cases h2:k=i
  ·subst h2;rw [if_pos rfl,swp_left d k j hi h1]
  ·rw [if_neg h2,swp_other d i j k h2 h1]
theorem Keep.swp {a b i j:Nat} (d:Array α) (hi:a≤i) (hi':i < b) (hj:a≤j) (hj':j < b) (hb:b≤d.size):Keep a b d (swp d i j) :=
 ⟨size_swp d i j,fun k hk=>by rw [swp_at d (by omega) (by omega),if_neg (by omega),if_neg (by omega)],fun k h1 h2=>by
  rw [swp_at d (by omega) (by omega)]
  by_cases e1:k=j
  ·rw [if_pos e1];exact ⟨i,hi,hi',rfl⟩
  ·rw [if_neg e1]
   by_cases e2:k=i
   ·rw [if_pos e2];exact ⟨j,hj,hj',rfl⟩
   ·rw [if_neg e2];exact ⟨k,h1,h2,rfl⟩⟩
theorem Keep.of_at {a b:Nat} {d d':Array α} (hs:d'.size=d.size) (f:Nat→Nat) (hf:∀ k,d'[k]! = d[f k]!) (ho:∀ k,(k < a∨b≤k)→f k=k) (hi:∀ k,a≤k→k < b→a≤f k∧f k < b):Keep a b d d' :=
 ⟨hs,fun k hk=>by rw [hf,ho k hk],fun k h1 h2=>⟨f k,(hi k h1 h2).1,(hi k h1 h2).2,hf k⟩⟩
theorem Asc.keep_out {T:α→α→Prop} {a b lo hi:Nat} {d d':Array α} (h:Asc T a b d) (hk:Keep lo hi d d') (ho:b≤lo∨hi≤a):Asc T a b d':=by
 intro i j h1 h2 h3
 rw [hk.2.1 i (by omega),hk.2.1 j (by omega)]
 exact h i j h1 h2 h3
def swAt (a b n k:Nat):Nat:=if a≤k∧k < a+n then b+(k - a) else if b≤k∧k < b+n then a+(k - b) else k
def rotAt (lo m hi k:Nat):Nat:=if k < lo∨hi≤k then k else if k < lo+(hi - m) then k+(m - lo) else k - (hi - m)
theorem swAt_zero (a b k:Nat):swAt a b 0 k=k:=by unfold swAt;rw [if_neg (by omega),if_neg (by omega)]
theorem swAt_step {d d':Array α} {a b i:Nat} (hs:d'.size=d.size) (h:∀ k,d'[k]! = d[swAt a b i k]!) (hab:a+i < b) (hb:b+i < d.size) (k:Nat) :
 (swp d' (a+i) (b+i))[k]! = d[swAt a b (i+1) k]! := by
 rw [swp_at d' (by omega) (by omega)]
 by_cases h1:k=b+i
 ·subst h1;rw [if_pos rfl,h];unfold swAt
  rw [if_neg (by omega),if_neg (by omega),if_neg (by omega),if_pos (by omega)];congr 1;omega
 ·rw [if_neg h1]
  by_cases h2:k=a+i
  ·subst h2;rw [if_pos rfl,h];unfold swAt
   rw [if_neg (by omega),if_neg (by omega),if_pos (by omega)];congr 1;omega
  ·rw [if_neg h2,h];unfold swAt
   by_cases h3:a≤k∧k < a+i
   ·rw [if_pos h3,if_pos (by omega)]
   ·rw [if_neg h3]
    by_cases h4:b≤k∧k < b+i
    ·rw [if_pos h4,if_neg (by omega),if_pos (by omega)]
    ·rw [if_neg h4,if_neg (by omega),if_neg (by omega)]
theorem rot_more {lo m hi j k:Nat} (hlm:lo+j < m) (hh:hi=m+j):swAt lo m j (rotAt (lo+j) m hi k)=rotAt lo m hi k:=by
 subst hh
 unfold swAt rotAt
 (repeat' split) <;> omega
theorem rot_less {lo m hi i k:Nat} (hlm:lo+i=m) (hh:m+i < hi):swAt lo (hi - i) i (rotAt lo m (hi - i) k)=rotAt lo m hi k:=by
 unfold swAt rotAt
 (repeat' split) <;> omega
theorem rot_same {lo m hi i k:Nat} (hlm:lo+i=m) (hh:m+i=hi):swAt lo m i k=rotAt lo m hi k:=by
 unfold swAt rotAt
 (repeat' split) <;> omega
theorem rot_on {d dk d':Array α} {a m b lo hi lo' hi' x y n:Nat} (h:∀ k,d[rotAt a m b k]! = dk[rotAt lo m hi k]!) (hd:∀ k,d'[k]! = dk[swAt x y n k]!)
 (e:∀ k,swAt x y n (rotAt lo' m hi' k)=rotAt lo m hi k) (k:Nat):d[rotAt a m b k]! = d'[rotAt lo' m hi' k]! := by rw [h,hd,e]
def upAt (a i k:Nat):Nat:=if a≤k∧k+1 < i then k+1 else if k+1=i∧a≤k then a else k
def dnAt (i m k:Nat):Nat:=if i < k∧k≤m then k - 1 else if k=i then m else k
theorem up_step {d d':Array α} {a k:Nat} (hs:d'.size=d.size) (h:∀ x,d'[x]! = d[upAt a (k+1) x]!) (hak:a≤k) (hb:k+1 < d.size) (x:Nat):(swp d' k (k+1))[x]! = d[upAt a (k+2) x]! := by
 rw [swp_at d' (by omega) (by omega)]
 by_cases h1:x=k+1
 ·subst h1;rw [if_pos rfl,h];congr 1;unfold upAt;(repeat' split) <;> omega
 ·rw [if_neg h1]
  by_cases h2:x=k
  ·subst h2;rw [if_pos rfl,h];congr 1;unfold upAt;(repeat' split) <;> omega
  ·rw [if_neg h2,h];congr 1;unfold upAt;(repeat' split) <;> omega
theorem dn_step {d d':Array α} {m k:Nat} (hs:d'.size=d.size) (h:∀ x,d'[x]! = d[dnAt (k+1) m x]!) (hkm:k+1≤m) (hb:m < d.size) (x:Nat):(swp d' (k+1) k)[x]! = d[dnAt k m x]! := by
 rw [swp_at d' (by omega) (by omega)]
 by_cases h1:x=k
 ·subst h1;rw [if_pos rfl,h];congr 1;unfold dnAt;(repeat' split) <;> omega
 ·rw [if_neg h1]
  by_cases h2:x=k+1
  ·subst h2;rw [if_pos rfl,h];congr 1;unfold dnAt;(repeat' split) <;> omega
  ·rw [if_neg h2,h];congr 1;unfold dnAt;(repeat' split) <;> omega
theorem up_id (a x:Nat):upAt a (a+1) x=x:=by unfold upAt;(repeat' split) <;> omega
theorem dn_id (m x:Nat):dnAt m m x=x:=by unfold dnAt;(repeat' split) <;> omega
section
variable {lt:α→α→Bool} {T:α→α→Prop}
theorem merge_up {a b i:Nat} {d d':Array α} (hA:Asc T (a+1) b d) (hi:a+1≤i) (hib:i≤b) (hl:∀ k,a+1≤k→k < i→T d[k]! d[a]!) (hr:∀ k,i≤k→k < b→T d[a]! d[k]!)
 (hs:d'.size=d.size) (h:∀ x,d'[x]! = d[upAt a i x]!):Keep a b d d'∧Asc T a b d':=by
 refine ⟨Keep.of_at hs _ h (fun k hk=>by unfold upAt;(repeat' split) <;> omega) (fun k h1 h2=>by unfold upAt;(repeat' split) <;> omega),?_⟩
 intro x y hx hxy hy
 rw [h,h]
 by_cases e1:y+1 < i
 ·have ex:upAt a i x=x+1:=by unfold upAt;(repeat' split) <;> omega
  have ey:upAt a i y=y+1:=by unfold upAt;(repeat' split) <;> omega
  rw [ex,ey];exact hA _ _ (by omega) (by omega) (by omega)
 ·by_cases e2:y+1=i
  ·have ex:upAt a i x=x+1:=by unfold upAt;(repeat' split) <;> omega
   have ey:upAt a i y=a:=by unfold upAt;(repeat' split) <;> omega
   rw [ex,ey];exact hl _ (by omega) (by omega)
  ·have ey:upAt a i y=y:=by unfold upAt;(repeat' split) <;> omega
   rw [ey]
   by_cases e3:x+1 < i
   ·have ex:upAt a i x=x+1:=by unfold upAt;(repeat' split) <;> omega
    rw [ex];exact hA _ _ (by omega) (by omega) (by omega)
   ·by_cases e4:x+1=i
    ·have ex:upAt a i x=a:=by unfold upAt;(repeat' split) <;> omega
     rw [ex];exact hr _ (by omega) (by omega)
    ·have ex:upAt a i x=x:=by unfold upAt;(repeat' split) <;> omega
     rw [ex];exact hA _ _ (by omega) (by omega) (by omega)
theorem merge_dn {a m i:Nat} {d d':Array α} (hA:Asc T a m d) (hi:a≤i) (him:i≤m) (hl:∀ k,a≤k→k < i→T d[k]! d[m]!) (hr:∀ k,i≤k→k < m→T d[m]! d[k]!)
 (hs:d'.size=d.size) (h:∀ x,d'[x]! = d[dnAt i m x]!):Keep a (m+1) d d'∧Asc T a (m+1) d':=by
 refine ⟨Keep.of_at hs _ h (fun k hk=>by unfold dnAt;(repeat' split) <;> omega) (fun k h1 h2=>by unfold dnAt;(repeat' split) <;> omega),?_⟩
 intro x y hx hxy hy
 rw [h,h]
 by_cases e1:y < i
 ·have ex:dnAt i m x=x:=by unfold dnAt;(repeat' split) <;> omega
  have ey:dnAt i m y=y:=by unfold dnAt;(repeat' split) <;> omega
  rw [ex,ey];exact hA _ _ (by omega) (by omega) (by omega)
 ·by_cases e2:y=i
  ·have ex:dnAt i m x=x:=by unfold dnAt;(repeat' split) <;> omega
   have ey:dnAt i m y=m:=by unfold dnAt;(repeat' split) <;> omega
   rw [ex,ey];exact hl _ (by omega) (by omega)
  ·have ey:dnAt i m y=y - 1:=by unfold dnAt;(repeat' split) <;> omega
   rw [ey]
   by_cases e3:x < i
   ·have ex:dnAt i m x=x:=by unfold dnAt;(repeat' split) <;> omega
    rw [ex];exact hA _ _ (by omega) (by omega) (by omega)
   ·by_cases e4:x=i
    ·have ex:dnAt i m x=m:=by unfold dnAt;(repeat' split) <;> omega
     rw [ex];exact hr _ (by omega) (by omega)
    ·have ex:dnAt i m x=x - 1:=by unfold dnAt;(repeat' split) <;> omega
     rw [ex];exact hA _ _ (by omega) (by omega) (by omega)
def mid0 (a b:Nat):Nat:=(a+b) / 2
def st0 (a m b:Nat):Nat:=if mid0 a b < m then mid0 a b+m - b else a
def en0 (a m b:Nat):Nat:=if mid0 a b < m then mid0 a b else m
def Found (T:α→α→Prop) (a m b s:Nat) (d:Array α):Prop :=
 st0 a m b≤s∧s≤en0 a m b∧(∀ c,st0 a m b≤c→c < s→T d[c]! d[mid0 a b+m - 1 - c]!)∧∀ c,s≤c→c < en0 a m b→T d[mid0 a b+m - 1 - c]! d[c]!
theorem st0_bd {a m b:Nat} (h1:a < m) (h2:m < b):a≤st0 a m b∧st0 a m b≤en0 a m b∧en0 a m b≤m∧en0 a m b≤mid0 a b∧mid0 a b+m≤b+st0 a m b∧a < mid0 a b∧mid0 a b < b:=by
 unfold st0 en0 mid0;(repeat' split) <;> omega
theorem halves_part (hT:∀ x y z,T x y→T y z→T x z) {a m b s M e:Nat} {d d1:Array α} (h1:a < m) (h2:m < b) (hL:Asc T a m d) (hR:Asc T m b d) (hM:Meet lt T a m b d) (hf:Found T a m b s d)
 (hM0:mid0 a b=M) (he:e+s=M+m) (hs:d1.size=d.size) (h:∀ k,d1[k]! = d[rotAt s m e k]!) :
 Keep a b d d1∧Asc T a s d1∧Asc T s M d1∧Meet lt T a s M d1∧Asc T M e d1∧Asc T e b d1∧Meet lt T M e b d1 ∧
  ∀ i j,a≤i→i < M→M≤j→j < b→T d1[i]! d1[j]! := by
 obtain ⟨b1,b2,b3,b4,b5,b6,b7⟩:=st0_bd h1 h2
 obtain ⟨f1,f2,f3,f4⟩:=hf
 simp only [hM0] at b4 b5 b6 b7 f3 f4
 have r1:∀ k,k < s→rotAt s m e k=k:=fun k hk=>by unfold rotAt;rw [if_pos (by omega)]
 have r2:∀ k,s≤k→k < M→rotAt s m e k=k+(m - s):=fun k hk hk'=>by unfold rotAt;rw [if_neg (by omega),if_pos (by omega)]
 have r3:∀ k,M≤k→k < e→rotAt s m e k=k - (e - m):=fun k hk hk'=>by unfold rotAt;rw [if_neg (by omega),if_neg (by omega)]
 have r4:∀ k,e≤k→rotAt s m e k=k:=fun k hk=>by unfold rotAt;rw [if_pos (by omega)]
 have x1:∀ i j,a≤i→i < s→e≤j→j < b→T d[i]! d[j]! := fun i j i1 i2 j1 j2=>by
  have hs':st0 a m b < s:=by
   rcases Nat.lt_or_ge (st0 a m b) s with h | h
   ·exact h
   ·exfalso
    have:s=st0 a m b:=by omega
    unfold st0 at this
    rw [hM0] at this
    split at this <;> omega
  have:=f3 (s - 1) (by omega) (by omega)
  rw [show M+m - 1 - (s - 1)=e by omega] at this
  have t1:T d[i]! d[e]! := by
   by_cases h:i=s - 1
   ·rw [h];exact this
   ·exact hT _ _ _ (hL i (s - 1) i1 (by omega) (by omega)) this
  by_cases h:j=e
  ·rw [h];exact t1
  ·exact hT _ _ _ t1 (hR e j (by omega) (by omega) j2)
 have x2:∀ i j,s≤i→i < m→m≤j→j < e→T d[j]! d[i]! := fun i j i1 i2 j1 j2=>by
  have hs':s < en0 a m b:=by
   rcases Nat.lt_or_ge s (en0 a m b) with h | h
   ·exact h
   ·exfalso
    have:s=en0 a m b:=by omega
    unfold en0 at this
    rw [hM0] at this
    split at this <;> omega
  have:=f4 s (by omega) hs'
  rw [show M+m - 1 - s=e - 1 by omega] at this
  have t1:T d[j]! d[s]! := by
   by_cases h:j=e - 1
   ·rw [h];exact this
   ·exact hT _ _ _ (hR j (e - 1) j1 (by omega) (by omega)) this
  by_cases h:i=s
  ·rw [h];exact t1
  ·exact hT _ _ _ t1 (hL s i (by omega) (by omega) i2)
 refine ⟨?_,?_,?_,?_,?_,?_,?_,?_⟩
 ·exact Keep.of_at hs _ h (fun k hk=>by unfold rotAt;(repeat' split) <;> omega) (fun k h1 h2=>by unfold rotAt;(repeat' split) <;> omega)
 ·intro i j i1 i2 i3
  rw [h,h,r1 i (by omega),r1 j (by omega)];exact hL _ _ i1 i2 (by omega)
 ·intro i j i1 i2 i3
  rw [h,h,r2 i (by omega) (by omega),r2 j (by omega) (by omega)];exact hR _ _ (by omega) (by omega) (by omega)
 ·intro i j i1 i2 j1 j2
  rw [h i,h j,r1 i (by omega),r2 j (by omega) (by omega)];exact hM _ _ i1 (by omega) (by omega) (by omega)
 ·intro i j i1 i2 i3
  rw [h,h,r3 i (by omega) (by omega),r3 j (by omega) (by omega)];exact hL _ _ (by omega) (by omega) (by omega)
 ·intro i j i1 i2 i3
  rw [h,h,r4 i (by omega),r4 j (by omega)];exact hR _ _ (by omega) (by omega) (by omega)
 ·intro i j i1 i2 j1 j2
  rw [h i,h j,r3 i (by omega) (by omega),r4 j (by omega)];exact hM _ _ (by omega) (by omega) (by omega) (by omega)
 ·intro i j i1 i2 j1 j2
  rw [h i,h j]
  by_cases c1:i < s
  ·rw [r1 i c1]
   by_cases c2:j < e
   ·rw [r3 j j1 c2];exact hL _ _ i1 (by omega) (by omega)
   ·rw [r4 j (by omega)];exact x1 _ _ i1 c1 (by omega) j2
  ·rw [r2 i (by omega) i2]
   by_cases c2:j < e
   ·rw [r3 j j1 c2];exact x2 _ _ (by omega) (by omega) (by omega) (by omega)
   ·rw [r4 j (by omega)];exact hR _ _ (by omega) (by omega) (by omega)
theorem halves_join {a M b:Nat} {d1 d2 d3:Array α} (ha:a≤M) (hb:M≤b) (hx:∀ i j,a≤i→i < M→M≤j→j < b→T d1[i]! d1[j]!) (k2:Keep a M d1 d2) (a2:Asc T a M d2) (k3:Keep M b d2 d3) (a3:Asc T M b d3) :
 Keep a b d1 d3∧Asc T a b d3:=by
 refine ⟨(k2.wider (Nat.le_refl _) hb).trans (k3.wider ha (Nat.le_refl _)),fun i j h1 h2 h3=>?_⟩
 by_cases c1:j < M
 ·rw [k3.2.1 i (by omega),k3.2.1 j (by omega)];exact a2 i j h1 h2 c1
 ·by_cases c2:M≤i
  ·exact a3 i j c2 h2 h3
  ·rw [k3.2.1 i (by omega)]
   obtain ⟨j',j1,j2,e⟩:=k3.2.2 j (by omega) h3
   obtain ⟨i',i1,i2,e'⟩:=k2.2.2 i h1 (by omega)
   rw [e,k2.2.1 j' (by omega),e']
   exact hx _ _ i1 i2 j1 j2
theorem Meet.keep {a m b a2 b2:Nat} {d d':Array α} (h:Meet lt T a m b d) (hk:Keep a2 b2 d d') (ho:b≤a2∨b2≤a):Meet lt T a m b d':=by
 intro i j h1 h2 h3 h4
 rw [hk.2.1 i (by omega),hk.2.1 j (by omega)]
 exact h i j h1 h2 h3 h4
theorem ins_inner (hT:∀ x y z,T x y→T y z→T x z) (a i:Nat) (x:α):∀ (j:Nat) (d:Array α),a≤j→j≤i→i < d.size→d[j]! = x →
 (∀ p q,a≤p→p < q→q≤i→p≠j→q≠j→T d[p]! d[q]!)→(∀ q,j < q→q≤i→T x d[q]!)→(∀ p,a≤p→p≤i→p≠j→(lt x d[p]! = true→T x d[p]!)∧(lt x d[p]! = false→T d[p]! x)) →
 Keep a (i+1) d (insInner lt a j d)∧Asc T a (i+1) (insInner lt a j d):=by
 intro j
 induction j with
 | zero =>
   intro d h1 h2 hs hx hA hB hM
   rw [insInner]
   refine ⟨Keep.refl _ _ _,fun p q p1 p2 p3=>?_⟩
   by_cases c:p=0
   ·subst c;rw [hx];exact hB q p2 (by omega)
   ·exact hA p q p1 p2 (by omega) c (by omega)
 | succ j ih =>
   intro d h1 h2 hs hx hA hB hM
   have stop:(j+1≤a∨lt d[j+1]! d[j]! = false)→Keep a (i+1) d (insInner lt a (j+1) d)∧Asc T a (i+1) (insInner lt a (j+1) d):=fun hst=>by
    rw [insInner_stop lt a (j+1) d (by simpa using hst)]
    refine ⟨Keep.refl _ _ _,fun p q p1 p2 p3=>?_⟩
    by_cases c1:p=j+1
    ·subst c1;rw [hx];exact hB q p2 (by omega)
    ·by_cases c2:q=j+1
     ·subst c2
      rcases hst with hst | hst
      ·omega
      ·rw [hx] at hst ⊢
       have t:=(hM j (by omega) (by omega) (by omega)).2 hst
       by_cases c3:p=j
       ·subst c3;exact t
       ·exact hT _ _ _ (hA p j p1 (by omega) (by omega) c1 (by omega)) t
     ·exact hA p q p1 p2 (by omega) c1 c2
   by_cases haj:a < j+1
   ·cases hlv:lt d[j+1]! d[j]! with
    | false=>exact stop (.inr hlv)
    | true =>
      rw [insInner_go lt a (j+1) d haj (by simpa using hlv)]
      simp only [Nat.add_sub_cancel]
      rw [hx] at hlv
      have g:∀ k,(swp d (j+1) j)[k]! = if k=j then d[j+1]! else if k=j+1 then d[j]! else d[k]! := fun k=>swp_at d (by omega) (by omega) k
      have:=ih (swp d (j+1) j) (by omega) (by omega) (by rw [size_swp];exact hs) (by rw [g,if_pos rfl,hx]) ?_ ?_ ?_
      ·exact ⟨(Keep.swp d (by omega) (by omega) (by omega) (by omega) (by omega)).trans this.1,this.2⟩
      ·intro p q p1 p2 p3 p4 p5
       rw [g p,g q,if_neg p4,if_neg p5]
       by_cases c1:p=j+1
       ·subst c1;rw [if_pos rfl,if_neg (by omega)];exact hA j q (by omega) (by omega) p3 (by omega) (by omega)
       ·rw [if_neg c1]
        by_cases c2:q=j+1
        ·rw [if_pos c2];exact hA p j p1 (by omega) (by omega) c1 (by omega)
        ·rw [if_neg c2];exact hA p q p1 p2 p3 c1 c2
      ·intro q q1 q2
       rw [g q,if_neg (by omega)]
       by_cases c1:q=j+1
       ·rw [if_pos c1];exact (hM j (by omega) (by omega) (by omega)).1 hlv
       ·rw [if_neg c1];exact hB q (by omega) q2
      ·intro p p1 p2 p3
       rw [g p,if_neg p3]
       by_cases c1:p=j+1
       ·rw [if_pos c1];exact hM j (by omega) (by omega) (by omega)
       ·rw [if_neg c1];exact hM p p1 p2 c1
   ·exact stop (.inl (by omega))
theorem ins_outer (hT:∀ x y z,T x y→T y z→T x z) (a b:Nat):∀ (n i:Nat) (d:Array α),b - i≤n→a < i→i≤b→b≤d.size→Asc T a i d→(∀ k,i≤k→k < b→Meet lt T a k (k+1) d) →
 (∀ k l,i≤k→k < l→l < b→(lt d[l]! d[k]! = true→T d[l]! d[k]!)∧(lt d[l]! d[k]! = false→T d[k]! d[l]!))→Keep a b d (insOuter lt a b i d)∧Asc T a b (insOuter lt a b i d):=by
 intro n
 induction n with
 | zero =>
   intro i d hn hai hib hs hA _ _
   rw [insOuter_stop lt a b i d (by omega)]
   rw [show b=i by omega]
   exact ⟨Keep.refl _ _ _,hA⟩
 | succ n ih =>
   intro i d hn hai hib hs hA hM hM2
   by_cases hlt:i < b
   ·rw [insOuter_go lt a b i d hlt]
    have h:=ins_inner (lt:=lt) hT a i d[i]! i d (by omega) (Nat.le_refl _) (by omega) rfl (fun p q p1 p2 p3 p4 p5=>hA p q p1 p2 (by omega)) (fun q q1 q2=>by omega)
     (fun p p1 p2 p3=>hM i (Nat.le_refl _) hlt p i p1 (by omega) (Nat.le_refl _) (by omega))
    have h':=ih (i+1) _ (by omega) (by omega) (by omega) (by rw [h.1.1];exact hs) h.2 ?_ ?_
    ·exact ⟨(h.1.wider (Nat.le_refl _) (by omega)).trans h'.1,h'.2⟩
    ·intro k k1 k2 p q p1 p2 q1 q2
     obtain rfl:q=k:=by omega
     rw [h.1.2.1 q (by omega)]
     by_cases c:p < i+1
     ·obtain ⟨p',p3,p4,e⟩:=h.1.2.2 p p1 c
      rw [e]
      by_cases c2:p'=i
      ·rw [c2];exact hM2 i q (Nat.le_refl _) (by omega) k2
      ·exact hM q (by omega) k2 p' q p3 (by omega) (Nat.le_refl _) (by omega)
     ·rw [h.1.2.1 p (by omega)]
      exact hM2 p q (by omega) p2 k2
    ·intro k l k1 k2 k3
     rw [h.1.2.1 k (by omega),h.1.2.1 l (by omega)]
     exact hM2 k l (by omega) k2 k3
   ·rw [insOuter_stop lt a b i d hlt,show b=i by omega]
    exact ⟨Keep.refl _ _ _,hA⟩
theorem ins_sort (hT:∀ x y z,T x y→T y z→T x z) {a b:Nat} {d:Array α} (hab:a≤b) (hs:b≤d.size)
 (hM:∀ k l,a≤k→k < l→l < b→(lt d[l]! d[k]! = true→T d[l]! d[k]!)∧(lt d[l]! d[k]! = false→T d[k]! d[l]!)):Keep a b d (insertionSort lt d a b)∧Asc T a b (insertionSort lt d a b):=by
 unfold insertionSort
 by_cases h:a < b
 ·exact ins_outer hT a b _ (a+1) d (Nat.le_refl _) (by omega) (by omega) hs (fun i j h1 h2 h3=>by omega) (fun k k1 k2 p q p1 p2 q1 q2=>hM p q p1 (by omega) (by omega)) (fun k l k1 k2 k3=>hM k l (by omega) k2 k3)
 ·rw [insOuter_stop lt a b _ d (by omega)]
  exact ⟨Keep.refl _ _ _,fun i j h1 h2 h3=>by omega⟩
end
end Go.Proofs.YtfhhihamndbcnaaGreatDoor
end
section
namespace Go.Proofs.YtfhhihamndbcnaaGreatDoor
open Go.Shelf Go.RowKit Go.Lib Go.Sort
structure SortL (P:Program) (k:Nat):Prop where
 mixed:P.follows .mixedOrders=true
 f43:P.funcs[103]?=some Tryz.f103
 f51:P.funcs[137]?=some Tryz.f137
 f54:P.funcs[166]?=some Tryz.f166
 f55:P.funcs[186]?=some Tryz.f186
 f56:P.funcs[198]?=some Tryz.f198
 ins:SlLaysF0.n20 P ⟨fun | 20=>165 | n=>n,fun | 24=>62 | 22=>41 | 3=>3 | 25=>195 | 4=>4 | 0=>0 | n=>n,fun n=>n⟩
 t0:P.underlying 0=some (TypeDesc.tuple #[])
 a0:∀ w,(isAgg 0).run P w=.ok false w
 z0:∀ w,(Go.sizeOf 0).run P w=.ok 1 w
 v0:∀ w,(zeroValue 0).run P w=.ok (Value.tuple #[]) w
 t3:P.underlying 3=some (TypeDesc.int IntKind.i64)
 a3:∀ w,(isAgg 3).run P w=.ok false w
 z3:∀ w,(Go.sizeOf 3).run P w=.ok 1 w
 v3:∀ w,(zeroValue 3).run P w=.ok (Value.int IntKind.i64 0) w
 t4:P.underlying 4=some (TypeDesc.bool)
 a4:∀ w,(isAgg 4).run P w=.ok false w
 z4:∀ w,(Go.sizeOf 4).run P w=.ok 1 w
 v4:∀ w,(zeroValue 4).run P w=.ok (Value.bool false) w
 t29:P.underlying 41=some (TypeDesc.slice 62)
 a29:∀ w,(isAgg 41).run P w=.ok false w
 z29:∀ w,(Go.sizeOf 41).run P w=.ok 1 w
 v29:∀ w,(zeroValue 41).run P w=.ok (Value.slice none 0 0) w
 t83:P.underlying 195=some (TypeDesc.func #[62,62] #[3] false)
 a83:∀ w,(isAgg 195).run P w=.ok false w
 z83:∀ w,(Go.sizeOf 195).run P w=.ok 1 w
 v83:∀ w,(zeroValue 195).run P w=.ok (Value.nilFunc) w
 t90:P.underlying 156=some (TypeDesc.int IntKind.u64)
 a90:∀ w,(isAgg 156).run P w=.ok false w
 z90:∀ w,(Go.sizeOf 156).run P w=.ok 1 w
 v90:∀ w,(zeroValue 156).run P w=.ok (Value.int IntKind.u64 0) w
 aE:∀ w,(isAgg 62).run P w=.ok true w
 zE:∀ w,(Go.sizeOf 62).run P w=.ok k w
theorem sortL:SortL Tryz.prog 6:={
 mixed:=by kernel_rfl
 f43:=Tryz.func103
 f51:=Tryz.func137
 f54:=Tryz.func166
 f55:=Tryz.func186
 f56:=Tryz.func198
 ins:={
  mixed:=by kernel_rfl
  f20:=⟨Tryz.f165.name,by decide,Tryz.func165.trans (congrArg some (by kernel_rfl))⟩
  t0:=Tryz.underlying0
  a0:=Tryz.isAgg0
  z0:=Tryz.sizeOf0
  v0:=Tryz.zeroValue0
  t3:=Tryz.underlying3
  a3:=Tryz.isAgg3
  z3:=Tryz.sizeOf3
  v3:=Tryz.zeroValue3
  t4:=Tryz.underlying4
  a4:=Tryz.isAgg4
  z4:=Tryz.sizeOf4
  v4:=Tryz.zeroValue4
  t22:=Tryz.underlying41
  a22:=Tryz.isAgg41
  z22:=Tryz.sizeOf41
  v22:=Tryz.zeroValue41
  t25:=Tryz.underlying195
  a25:=Tryz.isAgg195
  z25:=Tryz.sizeOf195
  v25:=Tryz.zeroValue195 }
 t0:=Tryz.underlying0
 a0:=Tryz.isAgg0
 z0:=Tryz.sizeOf0
 v0:=Tryz.zeroValue0
 t3:=Tryz.underlying3
 a3:=Tryz.isAgg3
 z3:=Tryz.sizeOf3
 v3:=Tryz.zeroValue3
 t4:=Tryz.underlying4
 a4:=Tryz.isAgg4
 z4:=Tryz.sizeOf4
 v4:=Tryz.zeroValue4
 t29:=Tryz.underlying41
 a29:=Tryz.isAgg41
 z29:=Tryz.sizeOf41
 v29:=Tryz.zeroValue41
 t83:=Tryz.underlying195
 a83:=Tryz.isAgg195
 z83:=Tryz.sizeOf195
 v83:=Tryz.zeroValue195
 t90:=Tryz.underlying156
 a90:=Tryz.isAgg156
 z90:=Tryz.sizeOf156
 v90:=Tryz.zeroValue156
 aE:=Tryz.isAgg62
 zE:=Tryz.sizeOf62 }
end Go.Proofs.YtfhhihamndbcnaaGreatDoor
end
section
namespace Go.Proofs.YtfhhihamndbcnaaGreatDoor
open Go.Shelf Go.RowKit Go.Lib Go.Sort
variable {P:Program} {K:Nat} {α:Type} [Inhabited α]
set_option maxHeartbeats 4000000 in
set_option maxRecDepth 1000000 in
theorem swapRangeK (L:SortL P K) (enc:α→List Value) (cv:Value) (blk off cap a b n:Nat) (d0 d:Array α) (w0 w:World)
 (R:RowK enc K w0 blk off d0) (hs:d0.size=d.size) (S:SWK enc K w0 blk off d w) (hab:a+n≤b) (hb:b+n≤d.size) (hsz:d.size < 4611686018427387904) :
 Calls P 198 #[.slice (some ⟨blk,off,none⟩) d.size cap,.int .i64 a,.int .i64 b,.int .i64 n,cv] w fun e w'=>e=.returned (.tuple #[]) ∧
  ∃ d',d'.size=d.size∧(∀ k,d'[k]! = d[swAt a b n k]!)∧SWK enc K w0 blk off d' w':=by
 have S0:Aside (SWK enc K w0 blk off d w):=S
 clear S
 have mixed:=L.mixed;have t0:=L.t0;have a0:=L.a0;have z0:=L.z0;have v0:=L.v0;have t3:=L.t3;have a3:=L.a3;have z3:=L.z3;have v3:=L.v3;have t4:=L.t4;have a4:=L.a4;have z4:=L.z4;have v4:=L.v4;have t29:=L.t29;have a29:=L.a29;have z29:=L.z29;have v29:=L.v29;have t83:=L.t83;have a83:=L.a83;have z83:=L.z83;have v83:=L.v83;have t90:=L.t90;have a90:=L.a90;have z90:=L.z90;have v90:=L.v90;have aE:=L.aE;have zE:=L.zE
 go_enter L.f56,Tryz.ntmps198
 go_wp2
 go_loopg [10] n (fun kx vi wr=>∃ (i:Nat) (dk:Array α),vi=.int .i64 i∧i≤n∧n - i≤kx∧dk.size=d.size∧Aside (SWK enc K w0 blk off dk wr)∧Hid (∀ k,dk[k]! = d[swAt a b i k]!))
 case atStart=>exact ⟨0,d,rfl,Nat.zero_le _,by omega,rfl,S0,fun k=>by rw [swAt_zero]⟩
 case round =>
  clear S0
  obtain ⟨i,dk,rfl,hin,hkx,hds,S1,HE⟩:=hrel
  by_cases hlt:i < n
  ·have hltz:(i:Int) < (n:Int):=by omega
   go_wp2_with fail
   obtain ⟨iN,hiN⟩:∃ q,q=a+i:=⟨_,rfl⟩
   obtain ⟨jN,hjN⟩:∃ q,q=b+i:=⟨_,rfl⟩
   have ea:((a:Int)+(i:Int)).toNat=iN:=by omega
   have pa:(0:Int)≤(a:Int)+(i:Int):=by omega
   have ba:(a:Int)+(i:Int) < (d.size:Int):=by omega
   have ra:IntKind.i64.wrap ((a:Int)+(i:Int))=(a:Int)+(i:Int):=by rw [IntKind.wrap_i64];omega
   have ec:((b:Int)+(i:Int)).toNat=jN:=by omega
   have pc:(0:Int)≤(b:Int)+(i:Int):=by omega
   have bc:(b:Int)+(i:Int) < (d.size:Int):=by omega
   have rc:IntKind.i64.wrap ((b:Int)+(i:Int))=(b:Int)+(i:Int):=by rw [IntKind.wrap_i64];omega
   obtain ⟨x,hx⟩:∃ x,x=dk[a+i]! := ⟨_,rfl⟩
   obtain ⟨y,hy⟩:∃ x,x=dk[b+i]! := ⟨_,rfl⟩
   have S2:Aside (SWK enc K w0 blk off (swp dk (a+i) (b+i)) ((wr.drew.setCells blk (off+iN * K) (enc y)).setCells blk (off+jN * K) (enc x))):=by rw [hiN,hjN,hx,hy];exact S1.out.swapped R (a+i) (b+i) (by omega) (by omega)
   have l1:=S1.out.ld1 R (by omega) P (a+i) (by omega)
   have l2:=S1.out.ld1 R (by omega) P (b+i) (by omega)
   have s1:=S1.out.st1 R (by omega) P (a+i) (by omega) y
   have s2:=S1.out.st2 R (by omega) P (a+i) (b+i) (by omega) (by omega) y x
   have n1:(enc x).length=K:=R.hk _
   have n2:(enc y).length=K:=R.hk _
   rw [←hx,←hiN] at l1
   rw [←hy,←hjN] at l2
   rw [←hiN] at s1
   rw [←hiN,←hjN] at s2
   generalize enc x=cx at S2 l1 s2 n1
   generalize enc y=cy at S2 l2 s1 s2 n2
   clear S1 hx hy hiN hjN
   go_wp2_with fail
   go_big_region_o
   clear l1 l2 s1 s2
   generalize (wr.drew.setCells blk (off+iN * K) cy).setCells blk (off+jN * K) cx=w2 at S2 ⊢
   clear ea ec
   go_wp2
   go_roundg (n - (i+1))
   case measure=>omega
   case rel=>exact ⟨i+1,swp dk (a+i) (b+i),by simp,by omega,Nat.le_refl _,by rw [size_swp];exact hds,S2,fun k=>swAt_step hds HE.out (by omega) (by omega) k⟩
  ·have hltz:¬ (i:Int) < (n:Int):=by omega
   go_wp2
   go_end0
   obtain rfl:i=n:=by omega
   exact ⟨rfl,dk,hds,HE.out,S1.out⟩
set_option maxHeartbeats 4000000 in
set_option maxRecDepth 1000000 in
theorem rotateK (L:SortL P K) (enc:α→List Value) (cv:Value) (blk off cap a m b:Nat) (d0 d:Array α) (w0 w:World)
 (R:RowK enc K w0 blk off d0) (hs:d0.size=d.size) (S:SWK enc K w0 blk off d w) (ham:a < m) (hmb:m < b) (hb:b≤d.size) (hsz:d.size < 4611686018427387904) :
 Calls P 186 #[.slice (some ⟨blk,off,none⟩) d.size cap,.int .i64 a,.int .i64 m,.int .i64 b,cv] w fun e w'=>e=.returned (.tuple #[]) ∧
  ∃ d',d'.size=d.size∧(∀ k,d'[k]! = d[rotAt a m b k]!)∧SWK enc K w0 blk off d' w':=by
 have S0:Aside (SWK enc K w0 blk off d w):=S
 have HS:=Lib.hid hs
 clear S hs
 have mixed:=L.mixed;have t0:=L.t0;have a0:=L.a0;have z0:=L.z0;have v0:=L.v0;have t3:=L.t3;have a3:=L.a3;have z3:=L.z3;have v3:=L.v3;have t4:=L.t4;have a4:=L.a4;have z4:=L.z4;have v4:=L.v4;have t29:=L.t29;have a29:=L.a29;have z29:=L.z29;have v29:=L.v29;have t83:=L.t83;have a83:=L.a83;have z83:=L.z83;have v83:=L.v83;have t90:=L.t90;have a90:=L.a90;have z90:=L.z90;have v90:=L.v90;have aE:=L.aE;have zE:=L.zE
 have e56:∀ args w,(callFunc 198 args).run P w=.ok (.enter 198 args) w:=enters_of L.f56 (by kernel_rfl) rfl
 go_enter L.f55,Tryz.ntmps186
 go_wp2
 go_loopg [10,11] (b - a) (fun kx vi vj wr=>∃ (i j:Nat) (dk:Array α),vi=.int .i64 i∧vj=.int .i64 j∧0 < i∧0 < j∧a+i≤m∧m+j≤b∧i+j≤kx∧Hid (dk.size=d.size)∧Aside (SWK enc K w0 blk off dk wr)∧Hid (∀ k,d[rotAt a m b k]! = dk[rotAt (m - i) m (m+j) k]!))
 case atStart =>
  refine ⟨m - a,b - m,d,by rw [show ((m - a:Nat):Int)=(m:Int) - (a:Int) by omega],by rw [show ((b - m:Nat):Int)=(b:Int) - (m:Int) by omega],by omega,by omega,by omega,by omega,by omega,rfl,S0,fun k=>?_⟩
  rw [show m - (m - a)=a by omega,show m+(b - m)=b by omega]
 case round =>
  clear S0
  obtain ⟨i,j,dk,rfl,rfl,hi0,hj0,hia,hjb,hkx,HD,S1,HE⟩:=hrel
  rcases Nat.lt_trichotomy i j with hij | hij | hij
  ·have hne:((i:Int) != (j:Int))=true:=by rw [bne_iff_ne];omega
   have hng:¬ (j:Int) < (i:Int):=by omega
   have hc:=fun W hW=>swapRangeK L enc cv blk off cap (m - i) (m+j - i) i d0 dk w0 W R (by rw [HS.out,HD.out]) hW (by omega) (by rw [HD.out];omega) (by rw [HD.out];exact hsz)
   have HC:=Lib.hid hc
   clear hc
   have e1:((m - i:Nat):Int)=(m:Int) - (i:Int):=by omega
   have e2:((m+j - i:Nat):Int)=(m:Int)+(j:Int) - (i:Int):=by omega
   have HC2:=HC.out wr S1.out
   rw [HD.out,e1,e2] at HC2
   have HC3:=Lib.hid HC2
   clear HC HC2 e1 e2
   go_wp2_with (go_at_fn 198;refine HC3.out.mono ?_;rintro e w' ⟨rfl,d',h1,h2,h3⟩)
   have H1:=Lib.hid h1
   have H2:=Lib.hid h2
   have H3:Aside _:=h3
   clear h1 h2 h3 S1
   go_wp2
   go_roundg (i+(j - i))
   case measure=>omega
   case rel =>
    refine ⟨i,j - i,d',rfl,by rw [show ((j - i:Nat):Int)=(j:Int) - (i:Int) by omega],hi0,by omega,by omega,by omega,Nat.le_refl _,H1.out,H3,?_⟩
    exact rot_on HE.out H2.out (fun k=>by
     rw [show m+(j - i)=m+j - i by omega]
     exact rot_less (by omega) (by omega))
  ·subst hij
   have hne:((i:Int) != (i:Int))=false:=by simp
   have e1:((m - i:Nat):Int)=(m:Int) - (i:Int):=by omega
   have HC2:=swapRangeK L enc cv blk off cap (m - i) m i d0 dk w0 wr R (by rw [HS.out,HD.out]) S1.out (by omega) (by rw [HD.out];omega) (by rw [HD.out];exact hsz)
   rw [HD.out,e1] at HC2
   have HC3:=Lib.hid HC2
   clear HC2 e1
   go_wp2_with (go_at_fn 198;refine HC3.out.mono ?_;rintro e w' ⟨rfl,d',h1,h2,h3⟩)
   have H1:=Lib.hid h1
   have H2:=Lib.hid h2
   have H3:Aside _:=h3
   clear h1 h2 h3 S1
   go_wp2
   go_end0
   exact ⟨rfl,d',H1.out,fun k=>by rw [HE.out,H2.out,rot_same (hi:=m+i) (by omega) rfl],H3.out⟩
  ·have hne:((i:Int) != (j:Int))=true:=by rw [bne_iff_ne];omega
   have hng:(j:Int) < (i:Int):=by omega
   have e1:((m - i:Nat):Int)=(m:Int) - (i:Int):=by omega
   have HC2:=swapRangeK L enc cv blk off cap (m - i) m j d0 dk w0 wr R (by rw [HS.out,HD.out]) S1.out (by omega) (by rw [HD.out];omega) (by rw [HD.out];exact hsz)
   rw [HD.out,e1] at HC2
   have HC3:=Lib.hid HC2
   clear HC2 e1
   go_wp2_with (go_at_fn 198;refine HC3.out.mono ?_;rintro e w' ⟨rfl,d',h1,h2,h3⟩)
   have H1:=Lib.hid h1
   have H2:=Lib.hid h2
   have H3:Aside _:=h3
   clear h1 h2 h3 S1
   go_wp2
   go_roundg (i - j+j)
   case measure=>omega
   case rel =>
    refine ⟨i - j,j,d',by rw [show ((i - j:Nat):Int)=(i:Int) - (j:Int) by omega],rfl,by omega,hj0,by omega,by omega,Nat.le_refl _,H1.out,H3,?_⟩
    exact rot_on HE.out H2.out (fun k=>by
     rw [show m - (i - j)=m - i+j by omega]
     exact rot_more (by omega) rfl)
end Go.Proofs.YtfhhihamndbcnaaGreatDoor
end
section
namespace Go.Proofs.YtfhhihamndbcnaaGreatDoor
open Go.Shelf Go.RowKit Go.Lib Go.Sort
variable {P:Program} {K:Nat} {α:Type} [Inhabited α]
set_option maxHeartbeats 8000000 in
set_option maxRecDepth 1000000 in
theorem symMerge_leftK (L:SortL P K) (enc:α→List Value) (cf:α→α→Int) (T:α→α→Prop) (hT:∀ x y z,T x y→T y z→T x z) (g:Nat) (cb:Array Value) (blk off cap a m b:Nat) (d0 d:Array α) (w0 w:World)
 (eg:∀ args w,(callFunc g args).run P w=.ok (.enter g args) w) (hcmp:CmpLays P g cb enc K cf blk off d0.size w0)
 (R:RowK enc K w0 blk off d0) (hs:d0.size=d.size) (S:SWK enc K w0 blk off d w) (ham:m=a+1) (hmb:m < b) (hb:b≤d.size) (hsz:d.size < 4611686018427387904)
 (hA:Asc T m b d) (hM:Meet (ltOf cf) T a m b d) :
 Calls P 166 #[.slice (some ⟨blk,off,none⟩) d.size cap,.int .i64 a,.int .i64 m,.int .i64 b,.func (.func g) #[] cb] w fun e w'=>e=.returned (.tuple #[]) ∧
  ∃ d',Keep a b d d'∧Asc T a b d'∧SWK enc K w0 blk off d' w':=by
 have hone:((m:Int) - (a:Int)==1)=true:=by rw [beq_iff_eq];omega
 have hlm:a < m:=by omega
 have HAM:=Lib.hid ham
 have HS:=Lib.hid hs
 have HA:=Lib.hid hA
 have HM:=Lib.hid hM
 have HT:=Lib.hid hT
 have HC:Aside _:=hcmp
 have S0:Aside (SWK enc K w0 blk off d w):=S
 clear S ham hs hA hM hT hcmp
 have mixed:=L.mixed;have t0:=L.t0;have a0:=L.a0;have z0:=L.z0;have v0:=L.v0;have t3:=L.t3;have a3:=L.a3;have z3:=L.z3;have v3:=L.v3;have t4:=L.t4;have a4:=L.a4;have z4:=L.z4;have v4:=L.v4;have t29:=L.t29;have a29:=L.a29;have z29:=L.z29;have v29:=L.v29;have t83:=L.t83;have a83:=L.a83;have z83:=L.z83;have v83:=L.v83;have t90:=L.t90;have a90:=L.a90;have z90:=L.z90;have v90:=L.v90;have aE:=L.aE;have zE:=L.zE
 go_enter L.f54,Tryz.ntmps166
 go_wp2
 go_loopg [10,11] (b - m) (fun kx vi vj wr=>∃ (i j:Nat),vi=.int .i64 i∧vj=.int .i64 j∧m≤i∧i≤j∧j≤b∧j - i≤kx∧Aside (SWK enc K w0 blk off d wr)∧Hid (∀ k,m≤k→k < i→T d[k]! d[a]!)∧Hid (∀ k,j≤k→k < b→T d[a]! d[k]!))
 case atStart=>exact ⟨m,b,rfl,rfl,Nat.le_refl _,by omega,Nat.le_refl _,Nat.le_refl _,S0,fun k h1 h2=>absurd h1 (by omega),fun k h1 h2=>absurd h1 (by omega)⟩
 case round =>
  clear S0
  obtain ⟨i,j,rfl,rfl,hmi,hij,hjb,hkx,S1,HL,HR⟩:=hrel
  by_cases hlt:i < j
  ·have hltz:(i:Int) < (j:Int):=by omega
   obtain ⟨h,hh⟩:∃ h,h=(i+j) / 2:=⟨_,rfl⟩
   have hh1:i≤h:=by omega
   have hh2:h < j:=by omega
   have hsd:d.size=d0.size:=HS.out.symm
   have eh:((i:Int)+(j:Int)) / 2=(h:Int):=by omega
   have EH:=Lib.hid eh
   obtain ⟨x,hx⟩:∃ x,x=d[h]! := ⟨_,rfl⟩
   obtain ⟨y,hy⟩:∃ x,x=d[a]! := ⟨_,rfl⟩
   have la:=S1.out.ld R hsd P h (by omega)
   have lb:=S1.out.ld R hsd P a (by have:=HAM.out;omega)
   rw [←hx] at la
   rw [←hy] at lb
   have hc:=S1.out.cmp HC.out hsd x y
   have ea:(((i:Int)+(j:Int)) / 2).toNat=h:=by omega
   have pa:(0:Int)≤((i:Int)+(j:Int)) / 2:=by omega
   have ba:((i:Int)+(j:Int)) / 2 < (d.size:Int):=by omega
   have bc:(a:Int) < (d.size:Int):=by have:=HAM.out;omega
   have mt:=HM.out a h (Nat.le_refl _) (by have:=HAM.out;omega) (by omega) (by omega)
   have up:ltOf cf x y=true→Hid (∀ k,m≤k→k < h+1→T d[k]! d[a]!):=fun hl k k1 k2=>by
    rw [hx,hy] at hl
    by_cases c:k=h
    ·rw [c];exact mt.1 hl
    ·exact HT.out _ _ _ (HA.out k h k1 (by omega) (by omega)) (mt.1 hl)
   have dn:ltOf cf x y=false→Hid (∀ k,h≤k→k < b→T d[a]! d[k]!):=fun hl k k1 k2=>by
    rw [hx,hy] at hl
    by_cases c:k=h
    ·rw [c];exact mt.2 hl
    ·exact HT.out _ _ _ (mt.2 hl) (HA.out h k (by omega) (by omega) k2)
   clear hx hy mt hsd hh eh
   by_cases hv:cf x y < 0
   ·have hd:decide (cf x y < 0)=true:=decide_eq_true hv
    have UP:=up hd
    clear up dn
    go_wp2_with fail
    go_quiet_grown (first | (go_at_fn g;refine Calls.grown_of (hc _ _)))
    have S2:Aside (SWK enc K w0 blk off d (grow (wr.drewN nq) osq)):=S1.out.grown nq osq
    clear la lb hc S1
    generalize grow (wr.drewN nq) osq=w2 at S2 ⊢
    clear nq osq ea
    go_wp2
    go_roundg (j - (h+1))
    case measure=>omega
    case rel=>exact ⟨h+1,j,by rw [EH.out];rfl,rfl,by omega,by omega,hjb,Nat.le_refl _,S2,UP,HR⟩
   ·have hd:decide (cf x y < 0)=false:=decide_eq_false hv
    have DN:=dn hd
    clear up dn
    go_wp2_with fail
    go_quiet_grown (first | (go_at_fn g;refine Calls.grown_of (hc _ _)))
    have S2:Aside (SWK enc K w0 blk off d (grow (wr.drewN nq) osq)):=S1.out.grown nq osq
    clear la lb hc S1
    generalize grow (wr.drewN nq) osq=w2 at S2 ⊢
    clear nq osq ea
    go_wp2
    go_roundg (h - i)
    case measure=>omega
    case rel=>exact ⟨i,h,rfl,by rw [EH.out],hmi,by omega,by omega,Nat.le_refl _,S2,HL,DN⟩
  ·have hltz:¬ (i:Int) < (j:Int):=by omega
   obtain rfl:i=j:=by omega
   rename World=>wa
   go_wp2
   go_loopg [13] (i - a) (fun ky vk wr=>∃ (k:Nat) (dk:Array α),vk=.int .i64 k∧a≤k∧k < i∧i - k≤ky∧Hid (dk.size=d.size)∧Aside (SWK enc K w0 blk off dk wr)∧Hid (∀ x,dk[x]! = d[upAt a (k+1) x]!))
   case atStart=>exact ⟨a,d,rfl,Nat.le_refl _,by have:=HAM.out;omega,Nat.le_refl _,rfl,S1,fun x=>by rw [up_id]⟩
   case round =>
    clear S1
    obtain ⟨k,dk,rfl,hak,hki,hky,HD,S1,HE⟩:=hrel
    by_cases hkl:k+1 < i
    ·have hklz:(k:Int) < (i:Int) - 1:=by omega
     have hsd:dk.size=d0.size:=by rw [HD.out,HS.out]
     have hkd:k+1 < d.size:=by omega
     have hkd':k+1 < dk.size:=by rw [HD.out];exact hkd
     obtain ⟨iN,hiN⟩:∃ q,q=k:=⟨_,rfl⟩
     obtain ⟨jN,hjN⟩:∃ q,q=k+1:=⟨_,rfl⟩
     have ea:((k:Int)).toNat=iN:=by omega
     have ba:(k:Int) < (d.size:Int):=by omega
     have ec:((k:Int)+1).toNat=jN:=by omega
     have pc:(0:Int)≤(k:Int)+1:=by omega
     have bc:(k:Int)+1 < (d.size:Int):=by omega
     have rc:IntKind.i64.wrap ((k:Int)+1)=(k:Int)+1:=by rw [IntKind.wrap_i64];omega
     obtain ⟨x,hx⟩:∃ x,x=dk[k]! := ⟨_,rfl⟩
     obtain ⟨y,hy⟩:∃ x,x=dk[k+1]! := ⟨_,rfl⟩
     have S2:Aside (SWK enc K w0 blk off (swp dk (k) (k+1)) ((wr.drew.setCells blk (off+iN * K) (enc y)).setCells blk (off+jN * K) (enc x))):=by rw [hiN,hjN,hx,hy];exact S1.out.swapped R (k) (k+1) (by omega) (by omega)
     have l1:=S1.out.ld1 R hsd P (k) (by omega)
     have l2:=S1.out.ld1 R hsd P (k+1) (by omega)
     have s1:=S1.out.st1 R hsd P (k) (by omega) y
     have s2:=S1.out.st2 R hsd P (k) (k+1) (by omega) (by omega) y x
     have n1:(enc x).length=K:=R.hk _
     have n2:(enc y).length=K:=R.hk _
     rw [←hx,←hiN] at l1
     rw [←hy,←hjN] at l2
     rw [←hiN] at s1
     rw [←hjN,←hiN] at s2
     generalize enc x=cx at S2 l1 s2 n1
     generalize enc y=cy at S2 l2 s1 s2 n2
     clear S1 hx hy hiN hjN hsd hkd hkd'
     go_wp2_with fail
     go_big_region_o
     clear l1 l2 s1 s2
     generalize (wr.drew.setCells blk (off+iN * K) cy).setCells blk (off+jN * K) cx=w2 at S2 ⊢
     clear ea ec
     go_wp2
     go_roundg (i - (k+1))
     case measure=>omega
     case rel=>exact ⟨k+1,swp dk k (k+1),by first | rfl | go_num,by omega,hkl,Nat.le_refl _,(show Hid _ from by rw [size_swp];exact HD.out),S2,fun x=>up_step HD.out HE.out hak (by omega) x⟩
    ·have hklz:¬ (k:Int) < (i:Int) - 1:=by omega
     go_wp2
     (try simp only [Exit.inBlock,Exit.then]);refine bodyPost_ret (results_none rfl _ _ _) rfl ?_
     obtain rfl:i=k+1:=by omega
     have hm:=HAM.out
     subst hm
     obtain ⟨k1,k2⟩:=merge_up HA.out (by omega) (by omega) HL.out HR.out HD.out HE.out
     exact ⟨rfl,dk,k1,k2,S1.out⟩
end Go.Proofs.YtfhhihamndbcnaaGreatDoor
end
section
namespace Go.Proofs.YtfhhihamndbcnaaGreatDoor
open Go.Shelf Go.RowKit Go.Lib Go.Sort
variable {P:Program} {K:Nat} {α:Type} [Inhabited α]
set_option maxHeartbeats 8000000 in
set_option maxRecDepth 1000000 in
theorem symMerge_rightK (L:SortL P K) (enc:α→List Value) (cf:α→α→Int) (T:α→α→Prop) (hT:∀ x y z,T x y→T y z→T x z) (g:Nat) (cb:Array Value) (blk off cap a m b:Nat) (d0 d:Array α) (w0 w:World)
 (eg:∀ args w,(callFunc g args).run P w=.ok (.enter g args) w) (hcmp:CmpLays P g cb enc K cf blk off d0.size w0)
 (R:RowK enc K w0 blk off d0) (hs:d0.size=d.size) (S:SWK enc K w0 blk off d w) (ham:a+1 < m) (hmb:b=m+1) (hb:b≤d.size) (hsz:d.size < 4611686018427387904)
 (hA:Asc T a m d) (hM:Meet (ltOf cf) T a m b d) :
 Calls P 166 #[.slice (some ⟨blk,off,none⟩) d.size cap,.int .i64 a,.int .i64 m,.int .i64 b,.func (.func g) #[] cb] w fun e w'=>e=.returned (.tuple #[]) ∧
  ∃ d',Keep a b d d'∧Asc T a b d'∧SWK enc K w0 blk off d' w':=by
 have hone:((m:Int) - (a:Int)==1)=false:=by rw [beq_eq_false_iff_ne];omega
 have htwo:((b:Int) - (m:Int)==1)=true:=by rw [beq_iff_eq];omega
 have hlm:a < m:=by omega
 have hlb:m < b:=by omega
 have HAM:=Lib.hid hmb
 have HS:=Lib.hid hs
 have HA:=Lib.hid hA
 have HM:=Lib.hid hM
 have HT:=Lib.hid hT
 have HC:Aside _:=hcmp
 have S0:Aside (SWK enc K w0 blk off d w):=S
 clear S ham hmb hs hA hM hT hcmp
 have mixed:=L.mixed;have t0:=L.t0;have a0:=L.a0;have z0:=L.z0;have v0:=L.v0;have t3:=L.t3;have a3:=L.a3;have z3:=L.z3;have v3:=L.v3;have t4:=L.t4;have a4:=L.a4;have z4:=L.z4;have v4:=L.v4;have t29:=L.t29;have a29:=L.a29;have z29:=L.z29;have v29:=L.v29;have t83:=L.t83;have a83:=L.a83;have z83:=L.z83;have v83:=L.v83;have t90:=L.t90;have a90:=L.a90;have z90:=L.z90;have v90:=L.v90;have aE:=L.aE;have zE:=L.zE
 go_enter L.f54,Tryz.ntmps166
 go_wp2
 go_loopg [14,15] (m - a) (fun kx vi vj wr=>∃ (i j:Nat),vi=.int .i64 i∧vj=.int .i64 j∧a≤i∧i≤j∧j≤m∧j - i≤kx∧Aside (SWK enc K w0 blk off d wr)∧Hid (∀ k,a≤k→k < i→T d[k]! d[m]!)∧Hid (∀ k,j≤k→k < m→T d[m]! d[k]!))
 case atStart=>exact ⟨a,m,rfl,rfl,Nat.le_refl _,by omega,Nat.le_refl _,Nat.le_refl _,S0,fun k h1 h2=>absurd h1 (by omega),fun k h1 h2=>absurd h1 (by omega)⟩
 case round =>
  clear S0
  obtain ⟨i,j,rfl,rfl,hmi,hij,hjb,hkx,S1,HL,HR⟩:=hrel
  by_cases hlt:i < j
  ·have hltz:(i:Int) < (j:Int):=by omega
   obtain ⟨h,hh⟩:∃ h,h=(i+j) / 2:=⟨_,rfl⟩
   have hh1:i≤h:=by omega
   have hh2:h < j:=by omega
   have hsd:d.size=d0.size:=HS.out.symm
   have eh:((i:Int)+(j:Int)) / 2=(h:Int):=by omega
   have EH:=Lib.hid eh
   obtain ⟨x,hx⟩:∃ x,x=d[m]! := ⟨_,rfl⟩
   obtain ⟨y,hy⟩:∃ x,x=d[h]! := ⟨_,rfl⟩
   have la:=S1.out.ld R hsd P m (by omega)
   have lb:=S1.out.ld R hsd P h (by omega)
   rw [←hx] at la
   rw [←hy] at lb
   have hc:=S1.out.cmp HC.out hsd x y
   have ea:(((i:Int)+(j:Int)) / 2).toNat=h:=by omega
   have pa:(0:Int)≤((i:Int)+(j:Int)) / 2:=by omega
   have ba:((i:Int)+(j:Int)) / 2 < (d.size:Int):=by omega
   have bc:(m:Int) < (d.size:Int):=by omega
   have mt:=HM.out h m (by omega) (by omega) (Nat.le_refl _) (by omega)
   have up:ltOf cf x y=false→Hid (∀ k,a≤k→k < h+1→T d[k]! d[m]!):=fun hl k k1 k2=>by
    rw [hx,hy] at hl
    by_cases c:k=h
    ·rw [c];exact mt.2 hl
    ·exact HT.out _ _ _ (HA.out k h k1 (by omega) (by omega)) (mt.2 hl)
   have dn:ltOf cf x y=true→Hid (∀ k,h≤k→k < m→T d[m]! d[k]!):=fun hl k k1 k2=>by
    rw [hx,hy] at hl
    by_cases c:k=h
    ·rw [c];exact mt.1 hl
    ·exact HT.out _ _ _ (mt.1 hl) (HA.out h k (by omega) (by omega) k2)
   clear hx hy mt hsd hh eh
   by_cases hv:cf x y < 0
   ·have hd:decide (cf x y < 0)=true:=decide_eq_true hv
    have DN:=dn hd
    clear up dn
    go_wp2_with fail
    go_quiet_grown (first | (go_at_fn g;refine Calls.grown_of (hc _ _)))
    have S2:Aside (SWK enc K w0 blk off d (grow (wr.drewN nq) osq)):=S1.out.grown nq osq
    clear la lb hc S1
    generalize grow (wr.drewN nq) osq=w2 at S2 ⊢
    clear nq osq ea
    go_wp2
    go_roundg (h - i)
    case measure=>omega
    case rel=>exact ⟨i,h,rfl,by rw [EH.out],hmi,by omega,by omega,Nat.le_refl _,S2,HL,DN⟩
   ·have hd:decide (cf x y < 0)=false:=decide_eq_false hv
    have UP:=up hd
    clear up dn
    go_wp2_with fail
    go_quiet_grown (first | (go_at_fn g;refine Calls.grown_of (hc _ _)))
    have S2:Aside (SWK enc K w0 blk off d (grow (wr.drewN nq) osq)):=S1.out.grown nq osq
    clear la lb hc S1
    generalize grow (wr.drewN nq) osq=w2 at S2 ⊢
    clear nq osq ea
    go_wp2
    go_roundg (j - (h+1))
    case measure=>omega
    case rel=>exact ⟨h+1,j,by rw [EH.out];rfl,rfl,by omega,by omega,hjb,Nat.le_refl _,S2,UP,HR⟩
  ·have hltz:¬ (i:Int) < (j:Int):=by omega
   obtain rfl:i=j:=by omega
   rename World=>wa
   go_wp2
   go_loopg [17] (m - i) (fun ky vk wr=>∃ (k:Nat) (dk:Array α),vk=.int .i64 k∧i≤k∧k≤m∧k - i≤ky∧Hid (dk.size=d.size)∧Aside (SWK enc K w0 blk off dk wr)∧Hid (∀ x,dk[x]! = d[dnAt k m x]!))
   case atStart=>exact ⟨m,d,rfl,by omega,Nat.le_refl _,Nat.le_refl _,rfl,S1,fun x=>by rw [dn_id]⟩
   case round =>
    clear S1
    obtain ⟨kk,dk,rfl,hik,hkm,hky,HD,S1,HE⟩:=hrel
    by_cases hkl:i < kk
    ·have hklz:(i:Int) < (kk:Int):=by omega
     obtain ⟨k,hk⟩:∃ k,k+1=kk:=⟨kk - 1,by omega⟩
     subst hk
     have hklz':(i:Int) < (k:Int)+1:=by omega
     have hsd:dk.size=d0.size:=by rw [HD.out,HS.out]
     have hkd:k+1 < d.size:=by omega
     have hkd':k+1 < dk.size:=by rw [HD.out];exact hkd
     obtain ⟨iN,hiN⟩:∃ q,q=k+1:=⟨_,rfl⟩
     obtain ⟨jN,hjN⟩:∃ q,q=k:=⟨_,rfl⟩
     have ea:((k:Int)+1).toNat=iN:=by omega
     have pa:(0:Int)≤(k:Int)+1:=by omega
     have ba:(k:Int)+1 < (d.size:Int):=by omega
     have ra:IntKind.i64.wrap ((k:Int)+1)=(k:Int)+1:=by rw [IntKind.wrap_i64];omega
     have ec:((k:Int)).toNat=jN:=by omega
     have pc:(0:Int)≤(k:Int):=by omega
     have bc:(k:Int) < (d.size:Int):=by omega
     have rc:IntKind.i64.wrap ((k:Int))=(k:Int):=by rw [IntKind.wrap_i64];omega
     obtain ⟨x,hx⟩:∃ x,x=dk[k+1]! := ⟨_,rfl⟩
     obtain ⟨y,hy⟩:∃ x,x=dk[k]! := ⟨_,rfl⟩
     have S2:Aside (SWK enc K w0 blk off (swp dk (k+1) (k)) ((wr.drew.setCells blk (off+iN * K) (enc y)).setCells blk (off+jN * K) (enc x))):=by rw [hiN,hjN,hx,hy];exact S1.out.swapped R (k+1) (k) (by omega) (by omega)
     have l1:=S1.out.ld1 R hsd P (k+1) (by omega)
     have l2:=S1.out.ld1 R hsd P (k) (by omega)
     have s1:=S1.out.st1 R hsd P (k+1) (by omega) y
     have s2:=S1.out.st2 R hsd P (k+1) (k) (by omega) (by omega) y x
     have n1:(enc x).length=K:=R.hk _
     have n2:(enc y).length=K:=R.hk _
     rw [←hx,←hiN] at l1
     rw [←hy,←hjN] at l2
     rw [←hiN] at s1
     rw [←hiN,←hjN] at s2
     generalize enc x=cx at S2 l1 s2 n1
     generalize enc y=cy at S2 l2 s1 s2 n2
     clear S1 hx hy hiN hjN hsd hkd hkd'
     go_wp2_with fail
     go_big_region_o
     clear l1 l2 s1 s2
     generalize (wr.drew.setCells blk (off+iN * K) cy).setCells blk (off+jN * K) cx=w2 at S2 ⊢
     clear ea ec
     go_wp2
     go_roundg (k - i)
     case measure=>omega
     case rel=>exact ⟨k,swp dk (k+1) k,by first | rfl | go_num | (congr 1;omega),by omega,by omega,Nat.le_refl _,(show Hid _ from by rw [size_swp];exact HD.out),S2,fun x=>dn_step HD.out HE.out (by omega) (by omega) x⟩
    ·have hklz:¬ (i:Int) < (kk:Int):=by omega
     go_wp2
     (try simp only [Exit.inBlock,Exit.then]);refine bodyPost_ret (results_none rfl _ _ _) rfl ?_
     obtain rfl:i=kk:=by omega
     have hm:=HAM.out
     subst hm
     obtain ⟨k1,k2⟩:=merge_dn HA.out hmi (by omega) HL.out HR.out HD.out HE.out
     exact ⟨rfl,dk,k1,k2,S1.out⟩
end Go.Proofs.YtfhhihamndbcnaaGreatDoor
end
section
namespace Go.Proofs.YtfhhihamndbcnaaGreatDoor
open Go.Shelf Go.RowKit Go.Lib Go.Sort
variable {P:Program} {K:Nat} {α:Type} [Inhabited α]
def MergedK (K:Nat) (enc:α→List Value) (T:α→α→Prop) (w0:World) (blk off a b:Nat) (d:Array α) (e:Ending) (w':World):Prop :=
 e=.returned (.tuple #[])∧∃ d',Keep a b d d'∧Asc T a b d'∧SWK enc K w0 blk off d' w'
def MergesToK (P:Program) (K:Nat) (enc:α→List Value) (cf:α→α→Int) (T:α→α→Prop) (g:Nat) (cb:Array Value) (blk off cap:Nat) (w0:World) (size n:Nat):Prop :=
 ∀ (a m b:Nat) (d:Array α) (w:World),b - a≤n→d.size=size→SWK enc K w0 blk off d w→a < m→m < b→b≤size→Asc T a m d→Asc T m b d→Meet (ltOf cf) T a m b d →
   Calls P 166 #[.slice (some ⟨blk,off,none⟩) size cap,.int .i64 a,.int .i64 m,.int .i64 b,.func (.func g) #[] cb] w (MergedK K enc T w0 blk off a b d)
theorem asc_left {T:α→α→Prop} {a s M:Nat} {d:Array α} (h1:Asc T a s d) (h2:Asc T s M d) (h:¬ (a < s∧s < M)) (has:a≤s) (hsM:s≤M):Asc T a M d:=by
 by_cases c:a < s
 ·obtain rfl:s=M:=by omega
  exact h1
 ·obtain rfl:a=s:=by omega
  exact h2
theorem MergedK.mk {enc:α→List Value} {T:α→α→Prop} {w0 w':World} {blk off a b:Nat} {d d':Array α} (h1:Keep a b d d') (h2:Asc T a b d') (h3:SWK enc K w0 blk off d' w'):MergedK K enc T w0 blk off a b d (.returned (.tuple #[])) w':=⟨rfl,d',h1,h2,h3⟩
theorem rot_none {i m e:Nat} (h:¬ (i < m∧m < e)) (him:i≤m) (hme:m≤e) (k:Nat):rotAt i m e k=k:=by
 unfold rotAt;(repeat' split) <;> omega
set_option maxHeartbeats 16000000 in
set_option maxRecDepth 1000000 in
theorem symMerge_midK (L:SortL P K) (enc:α→List Value) (cf:α→α→Int) (T:α→α→Prop) (hT:∀ x y z,T x y→T y z→T x z) (g:Nat) (cb:Array Value) (blk off cap a m b n:Nat) (d0 d:Array α) (w0 w:World)
 (eg:∀ args w,(callFunc g args).run P w=.ok (.enter g args) w) (hcmp:CmpLays P g cb enc K cf blk off d0.size w0)
 (ih:MergesToK P K enc cf T g cb blk off cap w0 d0.size n)
 (R:RowK enc K w0 blk off d0) (hs:d.size=d0.size) (S:SWK enc K w0 blk off d w) (ham:a+1 < m) (hmb:m+1 < b) (hb:b≤d0.size) (hn:b - a≤n+1) (hsz:d0.size < 4611686018427387904)
 (hL:Asc T a m d) (hR:Asc T m b d) (hM:Meet (ltOf cf) T a m b d) :
 Calls P 166 #[.slice (some ⟨blk,off,none⟩) d0.size cap,.int .i64 a,.int .i64 m,.int .i64 b,.func (.func g) #[] cb] w (MergedK K enc T w0 blk off a b d):=by
 have hone:((m:Int) - (a:Int)==1)=false:=by rw [beq_eq_false_iff_ne];omega
 have htwo:((b:Int) - (m:Int)==1)=false:=by rw [beq_eq_false_iff_ne];omega
 obtain ⟨sz,hsz0⟩:∃ sz,sz=d0.size:=⟨_,rfl⟩
 rw [←hsz0] at hb hsz ih ⊢
 obtain ⟨M,hM0⟩:∃ M,M=mid0 a b:=⟨_,rfl⟩
 have eM:((a:Int)+(b:Int)) / 2=(M:Int):=by rw [hM0];unfold mid0;omega
 have M1:a < M:=by rw [hM0];unfold mid0;omega
 have M2:M < b:=by rw [hM0];unfold mid0;omega
 obtain ⟨b1,b2,b3,b4,b5,-,-⟩:=st0_bd (show a < m by omega) (show m < b by omega)
 rw [←hM0] at b4 b5
 have est:st0 a m b=if M < m then M+m - b else a:=by rw [hM0];rfl
 have een:en0 a m b=if M < m then M else m:=by rw [hM0];rfl
 obtain ⟨s0,hs0⟩:∃ s,s=st0 a m b:=⟨_,rfl⟩
 obtain ⟨r0,hr0⟩:∃ s,s=en0 a m b:=⟨_,rfl⟩
 rw [←hs0] at b1 b2 b5 est
 rw [←hr0] at b2 b3 b4 een
 have HSZ:=Lib.hid hsz0
 have HS:=Lib.hid hs
 have HL:=Lib.hid hL
 have HR:=Lib.hid hR
 have HM:=Lib.hid hM
 have HT:=Lib.hid hT
 have HM0:=Lib.hid hM0
 have HS0:=Lib.hid hs0
 have HR0:=Lib.hid hr0
 have EM:=Lib.hid eM
 have EST:=Lib.hid est
 have EEN:=Lib.hid een
 have IH:=Lib.hid ih
 have HC:Aside _:=hcmp
 have S0:Aside (SWK enc K w0 blk off d w):=S
 clear S hs hL hR hM hT hcmp hM0 hs0 hr0 eM est een ih hsz0
 have mixed:=L.mixed;have t0:=L.t0;have a0:=L.a0;have z0:=L.z0;have v0:=L.v0;have t3:=L.t3;have a3:=L.a3;have z3:=L.z3;have v3:=L.v3;have t4:=L.t4;have a4:=L.a4;have z4:=L.z4;have v4:=L.v4;have t29:=L.t29;have a29:=L.a29;have z29:=L.z29;have v29:=L.v29;have t83:=L.t83;have a83:=L.a83;have z83:=L.z83;have v83:=L.v83;have t90:=L.t90;have a90:=L.a90;have z90:=L.z90;have v90:=L.v90;have aE:=L.aE;have zE:=L.zE
 have e55:∀ args w,(callFunc 186 args).run P w=.ok (.enter 186 args) w:=enters_of L.f55 (by kernel_rfl) rfl
 have e54:∀ args w,(callFunc 166 args).run P w=.ok (.enter 166 args) w:=enters_of L.f54 (by kernel_rfl) rfl
 go_enter L.f54,Tryz.ntmps166
 have eM1:=EM.out
 go_upto_if 140 with (fail)
 go_cut [20,21] (fun v20 v21 wx=>v20=.int .i64 (s0:Int)∧v21=.int .i64 (r0:Int)∧w=wx)
 case first =>
  clear S0
  by_cases hMm:M < m
  ·have hMz:(M:Int) < (m:Int):=by omega
   have e1:=EST.out
   have e2:=EEN.out
   rw [if_pos hMm] at e1 e2
   have E1:=Lib.hid e1
   have E2:=Lib.hid e2
   clear e1 e2
   go_wp2
   go_meet
   case rel =>
    have e1:=E1.out
    have e2:=E2.out
    exact ⟨by rw [show (s0:Int)=(M:Int)+(m:Int) - (b:Int) by omega],by rw [e2],rfl⟩
  ·have hMz:¬ (M:Int) < (m:Int):=by omega
   have e1:=EST.out
   have e2:=EEN.out
   rw [if_neg hMm] at e1 e2
   have E1:=Lib.hid e1
   have E2:=Lib.hid e2
   clear e1 e2
   go_wp2
   go_meet
   case rel=>exact ⟨by rw [E1.out],by rw [E2.out],rfl⟩
 case rest =>
  obtain ⟨rfl,rfl,rfl⟩:=hcut
  go_wp2
  go_loopg [20,21] (r0 - s0) (fun kx vi vr wr=>∃ (i r:Nat),vi=.int .i64 i∧vr=.int .i64 r∧s0≤i∧i≤r∧r≤r0∧r - i≤kx∧Aside (SWK enc K w0 blk off d wr)∧Hid (∀ c,s0≤c→c < i→T d[c]! d[M+m - 1 - c]!)∧Hid (∀ c,r≤c→c < r0→T d[M+m - 1 - c]! d[c]!))
  case atStart=>exact ⟨s0,r0,rfl,rfl,Nat.le_refl _,b2,Nat.le_refl _,Nat.le_refl _,S0,fun k h1 h2=>absurd h1 (by omega),fun k h1 h2=>absurd h1 (by omega)⟩
  case round =>
   clear S0
   obtain ⟨i,r,rfl,rfl,hsi,hir,hrr,hkx,S1,HU,HD⟩:=hrel
   by_cases hlt:i < r
   ·have hltz:(i:Int) < (r:Int):=by omega
    obtain ⟨c,hc0⟩:∃ c,c=(i+r) / 2:=⟨_,rfl⟩
    have hc1:i≤c:=by omega
    have hc2:c < r:=by omega
    have eC:((i:Int)+(r:Int)) / 2=(c:Int):=by omega
    obtain ⟨q,hq⟩:∃ q,q=M+m - 1 - c:=⟨_,rfl⟩
    obtain ⟨x,hx⟩:∃ x,x=d[q]! := ⟨_,rfl⟩
    obtain ⟨y,hy⟩:∃ x,x=d[c]! := ⟨_,rfl⟩
    have hqm:m≤q:=by omega
    have hqb:q < b:=by omega
    have hcm:c < m:=by omega
    have hac:a≤c:=by omega
    have hds:=HS.out
    have hdz:=HSZ.out
    have la:=S1.out.ld R hds P q (by omega)
    have lb:=S1.out.ld R hds P c (by omega)
    rw [←hx] at la
    rw [←hy] at lb
    have hc:=S1.out.cmp HC.out hds x y
    have mt:=HM.out c q hac hcm hqm hqb
    have up:ltOf cf x y=false→Hid (∀ k,s0≤k→k < c+1→T d[k]! d[M+m - 1 - k]!):=fun hl k k1 k2=>by
     rw [hx,hy] at hl
     by_cases e:k=c
     ·rw [e,←hq];exact mt.2 hl
     ·exact HT.out _ _ _ (HT.out _ _ _ (HL.out k c (by omega) (by omega) hcm) (mt.2 hl)) (HR.out q _ hqm (by omega) (by omega))
    have dn:ltOf cf x y=true→Hid (∀ k,c≤k→k < r0→T d[M+m - 1 - k]! d[k]!):=fun hl k k1 k2=>by
     rw [hx,hy] at hl
     by_cases e:k=c
     ·rw [e,←hq];exact mt.1 hl
     ·exact HT.out _ _ _ (HT.out _ _ _ (HR.out (M+m - 1 - k) q (by omega) (by omega) hqb) (mt.1 hl)) (HL.out c k hac (by omega) (by omega))
    have ea:((M:Int)+(m:Int) - 1 - (c:Int)).toNat=q:=by omega
    have pa:(0:Int)≤(M:Int)+(m:Int) - 1 - (c:Int):=by omega
    have pa2:(c:Int)≤(M:Int)+(m:Int) - 1:=by omega
    have ba:(M:Int)+(m:Int) - 1 - (c:Int) < (sz:Int):=by omega
    have ra:IntKind.i64.wrap ((M:Int)+(m:Int) - 1 - (c:Int))=(M:Int)+(m:Int) - 1 - (c:Int):=by rw [IntKind.wrap_i64];omega
    have bc:(c:Int) < (sz:Int):=by omega
    clear hx hy mt hds hdz hc0 hq
    by_cases hv:cf x y < 0
    ·have hd:decide (cf x y < 0)=true:=decide_eq_true hv
     have DN:=dn hd
     clear up dn
     go_wp2_with fail
     go_quiet_grown (first | (go_at_fn g;refine Calls.grown_of (hc _ _)))
     have S2:Aside (SWK enc K w0 blk off d (grow (wr.drewN nq) osq)):=S1.out.grown nq osq
     clear la lb hc S1
     generalize grow (wr.drewN nq) osq=w2 at S2 ⊢
     clear nq osq ea ra
     go_wp2
     go_roundg (c - i)
     case measure=>omega
     case rel=>exact ⟨i,c,rfl,rfl,hsi,hc1,by omega,Nat.le_refl _,S2,HU,DN⟩
    ·have hd:decide (cf x y < 0)=false:=decide_eq_false hv
     have UP:=up hd
     clear up dn
     go_wp2_with fail
     go_quiet_grown (first | (go_at_fn g;refine Calls.grown_of (hc _ _)))
     have S2:Aside (SWK enc K w0 blk off d (grow (wr.drewN nq) osq)):=S1.out.grown nq osq
     clear la lb hc S1
     generalize grow (wr.drewN nq) osq=w2 at S2 ⊢
     clear nq osq ea ra
     go_wp2
     go_roundg (r - (c+1))
     case measure=>omega
     case rel=>exact ⟨c+1,r,by first | rfl | go_num,rfl,by omega,hc2,hrr,Nat.le_refl _,S2,UP,HD⟩
   ·have hltz:¬ (i:Int) < (r:Int):=by omega
    obtain rfl:i=r:=by omega
    obtain ⟨e,he⟩:∃ e,e+i=M+m:=⟨M+m - i,by omega⟩
    have HF:Hid (Found T a m b i d):=by
     refine ⟨?_,?_,fun c h1 h2=>?_,fun c h1 h2=>?_⟩
     ·rw [←HS0.out];exact hsi
     ·rw [←HR0.out];exact hrr
     ·rw [←HM0.out];exact HU.out c (by rw [HS0.out];exact h1) h2
     ·rw [←HM0.out];exact HD.out c h1 (by rw [HR0.out];exact h2)
    have eE:(M:Int)+(m:Int) - (i:Int)=(e:Int):=by omega
    have hae:M≤e:=by omega
    have heb:e≤b:=by omega
    have him:i≤m:=by omega
    have hiM:i≤M:=by omega
    have hai:a≤i:=by omega
    have hme:m≤e:=by omega
    have HE:=Lib.hid he
    clear he HU HD
    have hd0:d.size=d0.size:=HS.out
    have HSZ2:=Lib.hid (HSZ.out)
    by_cases hc1:i < m∧m < e
    ·have x1:(i:Int) < (m:Int):=by omega
     have x2:(m:Int) < (e:Int):=by omega
     have hcall:=rotateK L enc (.func (.func g) #[] cb) blk off cap i m e d0 d w0 wr R hd0.symm S1.out hc1.1 hc1.2 (by rw [hd0,←HSZ2.out];omega) (by rw [hd0,←HSZ2.out];exact hsz)
     rw [hd0,←HSZ2.out] at hcall
     have HCALL:=Lib.hid hcall
     clear hcall hc1 hd0
     go_wp2_with fail
     go_at_fn 186
     refine HCALL.out.mono ?_
     rintro e' w1 ⟨rfl,d1,g1,g2,g3⟩
     have D1:Hid (d1.size=sz):=g1
     have HP:=Lib.hid (halves_part HT.out (show a < m by omega) (show m < b by omega) HL.out HR.out HM.out HF.out HM0.out.symm HE.out (g1.trans (by rw [HS.out,HSZ2.out])) g2)
     clear S1
     have S1:Aside _:=g3
     clear g1 g2 g3 HCALL
     by_cases hc2:a < i∧i < M
     ·have y1:(a:Int) < (i:Int):=by omega
      have y2:(i:Int) < (M:Int):=by omega
      have hcall:=IH.out a i M d1 w1 (by omega) D1.out S1.out (by omega) (by omega) (by omega) HP.out.2.1 HP.out.2.2.1 HP.out.2.2.2.1
      have HCALL:=Lib.hid hcall
      clear hcall hc2
      go_wp2_with fail
      go_at_fn 166
      refine HCALL.out.mono ?_
      rintro e' w2 ⟨rfl,d2,k2,a2,s2⟩
      have K2:=Lib.hid k2
      have A2:=Lib.hid a2
      have S2:Aside _:=s2
      clear k2 a2 s2 HCALL S1
      by_cases hc3:M < e∧e < b
      ·have z1:(M:Int) < (e:Int):=by omega
       have z2:(e:Int) < (b:Int):=by omega
       have hcall:=IH.out M e b d2 w2 (by omega) (K2.out.1.trans D1.out) S2.out (by omega) (by omega) hb ((HP.out.2.2.2.2.1).keep_out K2.out (.inr (Nat.le_refl _))) ((HP.out.2.2.2.2.2.1).keep_out K2.out (.inr (by omega))) ((HP.out.2.2.2.2.2.2.1).keep K2.out (.inr (Nat.le_refl _)))
       have HCALL:=Lib.hid hcall
       clear hcall
       go_wp2_with fail
       go_at_fn 166
       refine HCALL.out.mono ?_
       rintro e' w3 ⟨rfl,d3,k3,a3,s3⟩
       have K3:=Lib.hid k3
       have A3:=Lib.hid a3
       have S3:Aside _:=s3
       clear k3 a3 s3 HCALL
       go_wp2
       go_end0
       obtain ⟨x1,x2⟩:=halves_join (by omega) (by omega) HP.out.2.2.2.2.2.2.2 K2.out A2.out K3.out A3.out
       exact MergedK.mk (HP.out.1.trans x1) x2 S3.out
      ·have CC3:=Lib.hid hc3
       by_cases z1:M < e
       ·have z2:¬ e < b:=by have:=CC3.out;omega
        have z1':(M:Int) < (e:Int):=by omega
        have z2':¬ (e:Int) < (b:Int):=by omega
        clear hc3
        go_wp2
        go_end0
        obtain ⟨x1,x2⟩:=halves_join (by omega) (by omega) HP.out.2.2.2.2.2.2.2 K2.out A2.out (Keep.refl _ _ _) (asc_left ((HP.out.2.2.2.2.1).keep_out K2.out (.inr (Nat.le_refl _))) ((HP.out.2.2.2.2.2.1).keep_out K2.out (.inr (by omega))) CC3.out (by omega) (by omega))
        exact MergedK.mk (HP.out.1.trans x1) x2 S2.out
       ·have z1':¬ (M:Int) < (e:Int):=by omega
        clear hc3
        go_wp2
        go_end0
        obtain ⟨x1,x2⟩:=halves_join (by omega) (by omega) HP.out.2.2.2.2.2.2.2 K2.out A2.out (Keep.refl _ _ _) (asc_left ((HP.out.2.2.2.2.1).keep_out K2.out (.inr (Nat.le_refl _))) ((HP.out.2.2.2.2.2.1).keep_out K2.out (.inr (by omega))) CC3.out (by omega) (by omega))
        exact MergedK.mk (HP.out.1.trans x1) x2 S2.out
     ·have CC2:=Lib.hid hc2
      have S2:Aside (SWK enc K w0 blk off d1 w1):=S1.out
      have A2:=Lib.hid (asc_left HP.out.2.1 HP.out.2.2.1 CC2.out hai hiM)
      have K2:=Lib.hid (Keep.refl a M d1)
      clear hc2 S1
      generalize hd2:d1=d2 at S2 A2
      generalize hw2:w1=w2 at S2 ⊢
      have HD2:=Lib.hid hd2
      clear hd2 hw2
      have K2:Hid (Keep a M d1 d2):=by rw [←HD2.out];exact Keep.refl _ _ _
      clear HD2
      by_cases y1:a < i
      ·have y2:¬ i < M:=by have:=CC2.out;omega
       have y1':(a:Int) < (i:Int):=by omega
       have y2':¬ (i:Int) < (M:Int):=by omega
       clear CC2
       by_cases hc3:M < e∧e < b
       ·have z1:(M:Int) < (e:Int):=by omega
        have z2:(e:Int) < (b:Int):=by omega
        have hcall:=IH.out M e b d2 w2 (by omega) (K2.out.1.trans D1.out) S2.out (by omega) (by omega) hb ((HP.out.2.2.2.2.1).keep_out K2.out (.inr (Nat.le_refl _))) ((HP.out.2.2.2.2.2.1).keep_out K2.out (.inr (by omega))) ((HP.out.2.2.2.2.2.2.1).keep K2.out (.inr (Nat.le_refl _)))
        have HCALL:=Lib.hid hcall
        clear hcall
        go_wp2_with fail
        go_at_fn 166
        refine HCALL.out.mono ?_
        rintro e' w3 ⟨rfl,d3,k3,a3,s3⟩
        have K3:=Lib.hid k3
        have A3:=Lib.hid a3
        have S3:Aside _:=s3
        clear k3 a3 s3 HCALL
        go_wp2
        go_end0
        obtain ⟨x1,x2⟩:=halves_join (by omega) (by omega) HP.out.2.2.2.2.2.2.2 K2.out A2.out K3.out A3.out
        exact MergedK.mk (HP.out.1.trans x1) x2 S3.out
       ·have CC3:=Lib.hid hc3
        by_cases z1:M < e
        ·have z2:¬ e < b:=by have:=CC3.out;omega
         have z1':(M:Int) < (e:Int):=by omega
         have z2':¬ (e:Int) < (b:Int):=by omega
         clear hc3
         go_wp2
         go_end0
         obtain ⟨x1,x2⟩:=halves_join (by omega) (by omega) HP.out.2.2.2.2.2.2.2 K2.out A2.out (Keep.refl _ _ _) (asc_left ((HP.out.2.2.2.2.1).keep_out K2.out (.inr (Nat.le_refl _))) ((HP.out.2.2.2.2.2.1).keep_out K2.out (.inr (by omega))) CC3.out (by omega) (by omega))
         exact MergedK.mk (HP.out.1.trans x1) x2 S2.out
        ·have z1':¬ (M:Int) < (e:Int):=by omega
         clear hc3
         go_wp2
         go_end0
         obtain ⟨x1,x2⟩:=halves_join (by omega) (by omega) HP.out.2.2.2.2.2.2.2 K2.out A2.out (Keep.refl _ _ _) (asc_left ((HP.out.2.2.2.2.1).keep_out K2.out (.inr (Nat.le_refl _))) ((HP.out.2.2.2.2.2.1).keep_out K2.out (.inr (by omega))) CC3.out (by omega) (by omega))
         exact MergedK.mk (HP.out.1.trans x1) x2 S2.out
      ·have y1':¬ (a:Int) < (i:Int):=by omega
       clear CC2
       by_cases hc3:M < e∧e < b
       ·have z1:(M:Int) < (e:Int):=by omega
        have z2:(e:Int) < (b:Int):=by omega
        have hcall:=IH.out M e b d2 w2 (by omega) (K2.out.1.trans D1.out) S2.out (by omega) (by omega) hb ((HP.out.2.2.2.2.1).keep_out K2.out (.inr (Nat.le_refl _))) ((HP.out.2.2.2.2.2.1).keep_out K2.out (.inr (by omega))) ((HP.out.2.2.2.2.2.2.1).keep K2.out (.inr (Nat.le_refl _)))
        have HCALL:=Lib.hid hcall
        clear hcall
        go_wp2_with fail
        go_at_fn 166
        refine HCALL.out.mono ?_
        rintro e' w3 ⟨rfl,d3,k3,a3,s3⟩
        have K3:=Lib.hid k3
        have A3:=Lib.hid a3
        have S3:Aside _:=s3
        clear k3 a3 s3 HCALL
        go_wp2
        go_end0
        obtain ⟨x1,x2⟩:=halves_join (by omega) (by omega) HP.out.2.2.2.2.2.2.2 K2.out A2.out K3.out A3.out
        exact MergedK.mk (HP.out.1.trans x1) x2 S3.out
       ·have CC3:=Lib.hid hc3
        by_cases z1:M < e
        ·have z2:¬ e < b:=by have:=CC3.out;omega
         have z1':(M:Int) < (e:Int):=by omega
         have z2':¬ (e:Int) < (b:Int):=by omega
         clear hc3
         go_wp2
         go_end0
         obtain ⟨x1,x2⟩:=halves_join (by omega) (by omega) HP.out.2.2.2.2.2.2.2 K2.out A2.out (Keep.refl _ _ _) (asc_left ((HP.out.2.2.2.2.1).keep_out K2.out (.inr (Nat.le_refl _))) ((HP.out.2.2.2.2.2.1).keep_out K2.out (.inr (by omega))) CC3.out (by omega) (by omega))
         exact MergedK.mk (HP.out.1.trans x1) x2 S2.out
        ·have z1':¬ (M:Int) < (e:Int):=by omega
         clear hc3
         go_wp2
         go_end0
         obtain ⟨x1,x2⟩:=halves_join (by omega) (by omega) HP.out.2.2.2.2.2.2.2 K2.out A2.out (Keep.refl _ _ _) (asc_left ((HP.out.2.2.2.2.1).keep_out K2.out (.inr (Nat.le_refl _))) ((HP.out.2.2.2.2.2.1).keep_out K2.out (.inr (by omega))) CC3.out (by omega) (by omega))
         exact MergedK.mk (HP.out.1.trans x1) x2 S2.out
    ·have HP:=Lib.hid (halves_part HT.out (show a < m by omega) (show m < b by omega) HL.out HR.out HM.out HF.out HM0.out.symm HE.out rfl (fun k=>by rw [rot_none hc1 him hme k]))
     have D1:Hid (d.size=sz):=hd0.trans HSZ2.out.symm
     have CC1:=Lib.hid hc1
     clear hc1 hd0
     generalize hd1:d=d1 at S1 D1
     have HD1:=Lib.hid hd1
     clear hd1
     have HP2:Hid (Keep a b d d1∧Asc T a i d1∧Asc T i M d1∧Meet (ltOf cf) T a i M d1∧Asc T M e d1∧Asc T e b d1∧Meet (ltOf cf) T M e b d1∧∀ i j,a≤i→i < M→M≤j→j < b→T d1[i]! d1[j]!):=by rw [←HD1.out];exact HP.out
     clear HP HD1
     have HP:=HP2
     clear HP2
     generalize hw1:wr=w1 at S1 ⊢
     clear hw1
     by_cases x1:i < m
     ·have x2:¬ m < e:=by have:=CC1.out;omega
      have x1':(i:Int) < (m:Int):=by omega
      have x2':¬ (m:Int) < (e:Int):=by omega
      clear CC1
      by_cases hc2:a < i∧i < M
      ·have y1:(a:Int) < (i:Int):=by omega
       have y2:(i:Int) < (M:Int):=by omega
       have hcall:=IH.out a i M d1 w1 (by omega) D1.out S1.out (by omega) (by omega) (by omega) HP.out.2.1 HP.out.2.2.1 HP.out.2.2.2.1
       have HCALL:=Lib.hid hcall
       clear hcall hc2
       go_wp2_with fail
       go_at_fn 166
       refine HCALL.out.mono ?_
       rintro e' w2 ⟨rfl,d2,k2,a2,s2⟩
       have K2:=Lib.hid k2
       have A2:=Lib.hid a2
       have S2:Aside _:=s2
       clear k2 a2 s2 HCALL S1
       by_cases hc3:M < e∧e < b
       ·have z1:(M:Int) < (e:Int):=by omega
        have z2:(e:Int) < (b:Int):=by omega
        have hcall:=IH.out M e b d2 w2 (by omega) (K2.out.1.trans D1.out) S2.out (by omega) (by omega) hb ((HP.out.2.2.2.2.1).keep_out K2.out (.inr (Nat.le_refl _))) ((HP.out.2.2.2.2.2.1).keep_out K2.out (.inr (by omega))) ((HP.out.2.2.2.2.2.2.1).keep K2.out (.inr (Nat.le_refl _)))
        have HCALL:=Lib.hid hcall
        clear hcall
        go_wp2_with fail
        go_at_fn 166
        refine HCALL.out.mono ?_
        rintro e' w3 ⟨rfl,d3,k3,a3,s3⟩
        have K3:=Lib.hid k3
        have A3:=Lib.hid a3
        have S3:Aside _:=s3
        clear k3 a3 s3 HCALL
        go_wp2
        go_end0
        obtain ⟨x1,x2⟩:=halves_join (by omega) (by omega) HP.out.2.2.2.2.2.2.2 K2.out A2.out K3.out A3.out
        exact MergedK.mk (HP.out.1.trans x1) x2 S3.out
       ·have CC3:=Lib.hid hc3
        by_cases z1:M < e
        ·have z2:¬ e < b:=by have:=CC3.out;omega
         have z1':(M:Int) < (e:Int):=by omega
         have z2':¬ (e:Int) < (b:Int):=by omega
         clear hc3
         go_wp2
         go_end0
         obtain ⟨x1,x2⟩:=halves_join (by omega) (by omega) HP.out.2.2.2.2.2.2.2 K2.out A2.out (Keep.refl _ _ _) (asc_left ((HP.out.2.2.2.2.1).keep_out K2.out (.inr (Nat.le_refl _))) ((HP.out.2.2.2.2.2.1).keep_out K2.out (.inr (by omega))) CC3.out (by omega) (by omega))
         exact MergedK.mk (HP.out.1.trans x1) x2 S2.out
        ·have z1':¬ (M:Int) < (e:Int):=by omega
         clear hc3
         go_wp2
         go_end0
         obtain ⟨x1,x2⟩:=halves_join (by omega) (by omega) HP.out.2.2.2.2.2.2.2 K2.out A2.out (Keep.refl _ _ _) (asc_left ((HP.out.2.2.2.2.1).keep_out K2.out (.inr (Nat.le_refl _))) ((HP.out.2.2.2.2.2.1).keep_out K2.out (.inr (by omega))) CC3.out (by omega) (by omega))
         exact MergedK.mk (HP.out.1.trans x1) x2 S2.out
      ·have CC2:=Lib.hid hc2
       have S2:Aside (SWK enc K w0 blk off d1 w1):=S1.out
       have A2:=Lib.hid (asc_left HP.out.2.1 HP.out.2.2.1 CC2.out hai hiM)
       have K2:=Lib.hid (Keep.refl a M d1)
       clear hc2 S1
       generalize hd2:d1=d2 at S2 A2
       generalize hw2:w1=w2 at S2 ⊢
       have HD2:=Lib.hid hd2
       clear hd2 hw2
       have K2:Hid (Keep a M d1 d2):=by rw [←HD2.out];exact Keep.refl _ _ _
       clear HD2
       by_cases y1:a < i
       ·have y2:¬ i < M:=by have:=CC2.out;omega
        have y1':(a:Int) < (i:Int):=by omega
        have y2':¬ (i:Int) < (M:Int):=by omega
        clear CC2
        by_cases hc3:M < e∧e < b
        ·have z1:(M:Int) < (e:Int):=by omega
         have z2:(e:Int) < (b:Int):=by omega
         have hcall:=IH.out M e b d2 w2 (by omega) (K2.out.1.trans D1.out) S2.out (by omega) (by omega) hb ((HP.out.2.2.2.2.1).keep_out K2.out (.inr (Nat.le_refl _))) ((HP.out.2.2.2.2.2.1).keep_out K2.out (.inr (by omega))) ((HP.out.2.2.2.2.2.2.1).keep K2.out (.inr (Nat.le_refl _)))
         have HCALL:=Lib.hid hcall
         clear hcall
         go_wp2_with fail
         go_at_fn 166
         refine HCALL.out.mono ?_
         rintro e' w3 ⟨rfl,d3,k3,a3,s3⟩
         have K3:=Lib.hid k3
         have A3:=Lib.hid a3
         have S3:Aside _:=s3
         clear k3 a3 s3 HCALL
         go_wp2
         go_end0
         obtain ⟨x1,x2⟩:=halves_join (by omega) (by omega) HP.out.2.2.2.2.2.2.2 K2.out A2.out K3.out A3.out
         exact MergedK.mk (HP.out.1.trans x1) x2 S3.out
        ·have CC3:=Lib.hid hc3
         by_cases z1:M < e
         ·have z2:¬ e < b:=by have:=CC3.out;omega
          have z1':(M:Int) < (e:Int):=by omega
          have z2':¬ (e:Int) < (b:Int):=by omega
          clear hc3
          go_wp2
          go_end0
          obtain ⟨x1,x2⟩:=halves_join (by omega) (by omega) HP.out.2.2.2.2.2.2.2 K2.out A2.out (Keep.refl _ _ _) (asc_left ((HP.out.2.2.2.2.1).keep_out K2.out (.inr (Nat.le_refl _))) ((HP.out.2.2.2.2.2.1).keep_out K2.out (.inr (by omega))) CC3.out (by omega) (by omega))
          exact MergedK.mk (HP.out.1.trans x1) x2 S2.out
         ·have z1':¬ (M:Int) < (e:Int):=by omega
          clear hc3
          go_wp2
          go_end0
          obtain ⟨x1,x2⟩:=halves_join (by omega) (by omega) HP.out.2.2.2.2.2.2.2 K2.out A2.out (Keep.refl _ _ _) (asc_left ((HP.out.2.2.2.2.1).keep_out K2.out (.inr (Nat.le_refl _))) ((HP.out.2.2.2.2.2.1).keep_out K2.out (.inr (by omega))) CC3.out (by omega) (by omega))
          exact MergedK.mk (HP.out.1.trans x1) x2 S2.out
       ·have y1':¬ (a:Int) < (i:Int):=by omega
        clear CC2
        by_cases hc3:M < e∧e < b
        ·have z1:(M:Int) < (e:Int):=by omega
         have z2:(e:Int) < (b:Int):=by omega
         have hcall:=IH.out M e b d2 w2 (by omega) (K2.out.1.trans D1.out) S2.out (by omega) (by omega) hb ((HP.out.2.2.2.2.1).keep_out K2.out (.inr (Nat.le_refl _))) ((HP.out.2.2.2.2.2.1).keep_out K2.out (.inr (by omega))) ((HP.out.2.2.2.2.2.2.1).keep K2.out (.inr (Nat.le_refl _)))
         have HCALL:=Lib.hid hcall
         clear hcall
         go_wp2_with fail
         go_at_fn 166
         refine HCALL.out.mono ?_
         rintro e' w3 ⟨rfl,d3,k3,a3,s3⟩
         have K3:=Lib.hid k3
         have A3:=Lib.hid a3
         have S3:Aside _:=s3
         clear k3 a3 s3 HCALL
         go_wp2
         go_end0
         obtain ⟨x1,x2⟩:=halves_join (by omega) (by omega) HP.out.2.2.2.2.2.2.2 K2.out A2.out K3.out A3.out
         exact MergedK.mk (HP.out.1.trans x1) x2 S3.out
        ·have CC3:=Lib.hid hc3
         by_cases z1:M < e
         ·have z2:¬ e < b:=by have:=CC3.out;omega
          have z1':(M:Int) < (e:Int):=by omega
          have z2':¬ (e:Int) < (b:Int):=by omega
          clear hc3
          go_wp2
          go_end0
          obtain ⟨x1,x2⟩:=halves_join (by omega) (by omega) HP.out.2.2.2.2.2.2.2 K2.out A2.out (Keep.refl _ _ _) (asc_left ((HP.out.2.2.2.2.1).keep_out K2.out (.inr (Nat.le_refl _))) ((HP.out.2.2.2.2.2.1).keep_out K2.out (.inr (by omega))) CC3.out (by omega) (by omega))
          exact MergedK.mk (HP.out.1.trans x1) x2 S2.out
         ·have z1':¬ (M:Int) < (e:Int):=by omega
          clear hc3
          go_wp2
          go_end0
          obtain ⟨x1,x2⟩:=halves_join (by omega) (by omega) HP.out.2.2.2.2.2.2.2 K2.out A2.out (Keep.refl _ _ _) (asc_left ((HP.out.2.2.2.2.1).keep_out K2.out (.inr (Nat.le_refl _))) ((HP.out.2.2.2.2.2.1).keep_out K2.out (.inr (by omega))) CC3.out (by omega) (by omega))
          exact MergedK.mk (HP.out.1.trans x1) x2 S2.out
     ·have x1':¬ (i:Int) < (m:Int):=by omega
      clear CC1
      by_cases hc2:a < i∧i < M
      ·have y1:(a:Int) < (i:Int):=by omega
       have y2:(i:Int) < (M:Int):=by omega
       have hcall:=IH.out a i M d1 w1 (by omega) D1.out S1.out (by omega) (by omega) (by omega) HP.out.2.1 HP.out.2.2.1 HP.out.2.2.2.1
       have HCALL:=Lib.hid hcall
       clear hcall hc2
       go_wp2_with fail
       go_at_fn 166
       refine HCALL.out.mono ?_
       rintro e' w2 ⟨rfl,d2,k2,a2,s2⟩
       have K2:=Lib.hid k2
       have A2:=Lib.hid a2
       have S2:Aside _:=s2
       clear k2 a2 s2 HCALL S1
       by_cases hc3:M < e∧e < b
       ·have z1:(M:Int) < (e:Int):=by omega
        have z2:(e:Int) < (b:Int):=by omega
        have hcall:=IH.out M e b d2 w2 (by omega) (K2.out.1.trans D1.out) S2.out (by omega) (by omega) hb ((HP.out.2.2.2.2.1).keep_out K2.out (.inr (Nat.le_refl _))) ((HP.out.2.2.2.2.2.1).keep_out K2.out (.inr (by omega))) ((HP.out.2.2.2.2.2.2.1).keep K2.out (.inr (Nat.le_refl _)))
        have HCALL:=Lib.hid hcall
        clear hcall
        go_wp2_with fail
        go_at_fn 166
        refine HCALL.out.mono ?_
        rintro e' w3 ⟨rfl,d3,k3,a3,s3⟩
        have K3:=Lib.hid k3
        have A3:=Lib.hid a3
        have S3:Aside _:=s3
        clear k3 a3 s3 HCALL
        go_wp2
        go_end0
        obtain ⟨x1,x2⟩:=halves_join (by omega) (by omega) HP.out.2.2.2.2.2.2.2 K2.out A2.out K3.out A3.out
        exact MergedK.mk (HP.out.1.trans x1) x2 S3.out
       ·have CC3:=Lib.hid hc3
        by_cases z1:M < e
        ·have z2:¬ e < b:=by have:=CC3.out;omega
         have z1':(M:Int) < (e:Int):=by omega
         have z2':¬ (e:Int) < (b:Int):=by omega
         clear hc3
         go_wp2
         go_end0
         obtain ⟨x1,x2⟩:=halves_join (by omega) (by omega) HP.out.2.2.2.2.2.2.2 K2.out A2.out (Keep.refl _ _ _) (asc_left ((HP.out.2.2.2.2.1).keep_out K2.out (.inr (Nat.le_refl _))) ((HP.out.2.2.2.2.2.1).keep_out K2.out (.inr (by omega))) CC3.out (by omega) (by omega))
         exact MergedK.mk (HP.out.1.trans x1) x2 S2.out
        ·have z1':¬ (M:Int) < (e:Int):=by omega
         clear hc3
         go_wp2
         go_end0
         obtain ⟨x1,x2⟩:=halves_join (by omega) (by omega) HP.out.2.2.2.2.2.2.2 K2.out A2.out (Keep.refl _ _ _) (asc_left ((HP.out.2.2.2.2.1).keep_out K2.out (.inr (Nat.le_refl _))) ((HP.out.2.2.2.2.2.1).keep_out K2.out (.inr (by omega))) CC3.out (by omega) (by omega))
         exact MergedK.mk (HP.out.1.trans x1) x2 S2.out
      ·have CC2:=Lib.hid hc2
       have S2:Aside (SWK enc K w0 blk off d1 w1):=S1.out
       have A2:=Lib.hid (asc_left HP.out.2.1 HP.out.2.2.1 CC2.out hai hiM)
       have K2:=Lib.hid (Keep.refl a M d1)
       clear hc2 S1
       generalize hd2:d1=d2 at S2 A2
       generalize hw2:w1=w2 at S2 ⊢
       have HD2:=Lib.hid hd2
       clear hd2 hw2
       have K2:Hid (Keep a M d1 d2):=by rw [←HD2.out];exact Keep.refl _ _ _
       clear HD2
       by_cases y1:a < i
       ·have y2:¬ i < M:=by have:=CC2.out;omega
        have y1':(a:Int) < (i:Int):=by omega
        have y2':¬ (i:Int) < (M:Int):=by omega
        clear CC2
        by_cases hc3:M < e∧e < b
        ·have z1:(M:Int) < (e:Int):=by omega
         have z2:(e:Int) < (b:Int):=by omega
         have hcall:=IH.out M e b d2 w2 (by omega) (K2.out.1.trans D1.out) S2.out (by omega) (by omega) hb ((HP.out.2.2.2.2.1).keep_out K2.out (.inr (Nat.le_refl _))) ((HP.out.2.2.2.2.2.1).keep_out K2.out (.inr (by omega))) ((HP.out.2.2.2.2.2.2.1).keep K2.out (.inr (Nat.le_refl _)))
         have HCALL:=Lib.hid hcall
         clear hcall
         go_wp2_with fail
         go_at_fn 166
         refine HCALL.out.mono ?_
         rintro e' w3 ⟨rfl,d3,k3,a3,s3⟩
         have K3:=Lib.hid k3
         have A3:=Lib.hid a3
         have S3:Aside _:=s3
         clear k3 a3 s3 HCALL
         go_wp2
         go_end0
         obtain ⟨x1,x2⟩:=halves_join (by omega) (by omega) HP.out.2.2.2.2.2.2.2 K2.out A2.out K3.out A3.out
         exact MergedK.mk (HP.out.1.trans x1) x2 S3.out
        ·have CC3:=Lib.hid hc3
         by_cases z1:M < e
         ·have z2:¬ e < b:=by have:=CC3.out;omega
          have z1':(M:Int) < (e:Int):=by omega
          have z2':¬ (e:Int) < (b:Int):=by omega
          clear hc3
          go_wp2
          go_end0
          obtain ⟨x1,x2⟩:=halves_join (by omega) (by omega) HP.out.2.2.2.2.2.2.2 K2.out A2.out (Keep.refl _ _ _) (asc_left ((HP.out.2.2.2.2.1).keep_out K2.out (.inr (Nat.le_refl _))) ((HP.out.2.2.2.2.2.1).keep_out K2.out (.inr (by omega))) CC3.out (by omega) (by omega))
          exact MergedK.mk (HP.out.1.trans x1) x2 S2.out
         ·have z1':¬ (M:Int) < (e:Int):=by omega
          clear hc3
          go_wp2
          go_end0
          obtain ⟨x1,x2⟩:=halves_join (by omega) (by omega) HP.out.2.2.2.2.2.2.2 K2.out A2.out (Keep.refl _ _ _) (asc_left ((HP.out.2.2.2.2.1).keep_out K2.out (.inr (Nat.le_refl _))) ((HP.out.2.2.2.2.2.1).keep_out K2.out (.inr (by omega))) CC3.out (by omega) (by omega))
          exact MergedK.mk (HP.out.1.trans x1) x2 S2.out
       ·have y1':¬ (a:Int) < (i:Int):=by omega
        clear CC2
        by_cases hc3:M < e∧e < b
        ·have z1:(M:Int) < (e:Int):=by omega
         have z2:(e:Int) < (b:Int):=by omega
         have hcall:=IH.out M e b d2 w2 (by omega) (K2.out.1.trans D1.out) S2.out (by omega) (by omega) hb ((HP.out.2.2.2.2.1).keep_out K2.out (.inr (Nat.le_refl _))) ((HP.out.2.2.2.2.2.1).keep_out K2.out (.inr (by omega))) ((HP.out.2.2.2.2.2.2.1).keep K2.out (.inr (Nat.le_refl _)))
         have HCALL:=Lib.hid hcall
         clear hcall
         go_wp2_with fail
         go_at_fn 166
         refine HCALL.out.mono ?_
         rintro e' w3 ⟨rfl,d3,k3,a3,s3⟩
         have K3:=Lib.hid k3
         have A3:=Lib.hid a3
         have S3:Aside _:=s3
         clear k3 a3 s3 HCALL
         go_wp2
         go_end0
         obtain ⟨x1,x2⟩:=halves_join (by omega) (by omega) HP.out.2.2.2.2.2.2.2 K2.out A2.out K3.out A3.out
         exact MergedK.mk (HP.out.1.trans x1) x2 S3.out
        ·have CC3:=Lib.hid hc3
         by_cases z1:M < e
         ·have z2:¬ e < b:=by have:=CC3.out;omega
          have z1':(M:Int) < (e:Int):=by omega
          have z2':¬ (e:Int) < (b:Int):=by omega
          clear hc3
          go_wp2
          go_end0
          obtain ⟨x1,x2⟩:=halves_join (by omega) (by omega) HP.out.2.2.2.2.2.2.2 K2.out A2.out (Keep.refl _ _ _) (asc_left ((HP.out.2.2.2.2.1).keep_out K2.out (.inr (Nat.le_refl _))) ((HP.out.2.2.2.2.2.1).keep_out K2.out (.inr (by omega))) CC3.out (by omega) (by omega))
          exact MergedK.mk (HP.out.1.trans x1) x2 S2.out
         ·have z1':¬ (M:Int) < (e:Int):=by omega
          clear hc3
          go_wp2
          go_end0
          obtain ⟨x1,x2⟩:=halves_join (by omega) (by omega) HP.out.2.2.2.2.2.2.2 K2.out A2.out (Keep.refl _ _ _) (asc_left ((HP.out.2.2.2.2.1).keep_out K2.out (.inr (Nat.le_refl _))) ((HP.out.2.2.2.2.2.1).keep_out K2.out (.inr (by omega))) CC3.out (by omega) (by omega))
          exact MergedK.mk (HP.out.1.trans x1) x2 S2.out
theorem symMerge_allK (L:SortL P K) (enc:α→List Value) (cf:α→α→Int) (T:α→α→Prop) (hT:∀ x y z,T x y→T y z→T x z) (g:Nat) (cb:Array Value) (blk off cap:Nat) (d0:Array α) (w0:World)
 (eg:∀ args w,(callFunc g args).run P w=.ok (.enter g args) w) (hcmp:CmpLays P g cb enc K cf blk off d0.size w0) (R:RowK enc K w0 blk off d0) (hsz:d0.size < 4611686018427387904) :
 ∀ n,MergesToK P K enc cf T g cb blk off cap w0 d0.size n:=by
 intro n
 induction n with
 | zero=>intro a m b d w hn hs S h1 h2;omega
 | succ n ih =>
   intro a m b d w hn hs S h1 h2 hb hL hR hM
   by_cases c1:m=a+1
   ·have:=symMerge_leftK L enc cf T hT g cb blk off cap a m b d0 d w0 w eg hcmp R hs.symm S c1 h2 (by rw [hs];exact hb) (by rw [hs];exact hsz) hR hM
    rw [hs] at this
    exact this
   ·by_cases c2:b=m+1
    ·have:=symMerge_rightK L enc cf T hT g cb blk off cap a m b d0 d w0 w eg hcmp R hs.symm S (by omega) c2 (by rw [hs];exact hb) (by rw [hs];exact hsz) hL hM
     rw [hs] at this
     exact this
    ·exact symMerge_midK L enc cf T hT g cb blk off cap a m b n d0 d w0 w eg hcmp ih R hs S (by omega) (by omega) hb hn hsz hL hR hM
end Go.Proofs.YtfhhihamndbcnaaGreatDoor
end
section
namespace Go.Proofs.YtfhhihamndbcnaaGreatDoor
open Go.Shelf Go.RowKit Go.Lib Go.Sort
variable {P:Program} {K:Nat} {α:Type} [Inhabited α]
def GoodS (T:α→α→Prop) (v:α→Nat) (n lo hi:Nat) (d:Array α):Prop :=
 (∀ i j,lo≤i→i < j→j < hi→j < n→T d[i]! d[j]!)∧∀ i,lo≤i→i < hi→i < n→lo≤v d[i]! ∧ v d[i]! < hi
def Tells (lt:α→α→Bool) (T:α→α→Prop) (v:α→Nat):Prop:=∀ x y,v x < v y→(lt y x=true→T y x)∧(lt y x=false→T x y)
section
variable {T:α→α→Prop} {v:α→Nat} {lt:α→α→Bool} {n:Nat}
theorem GoodS.keep {lo hi a b:Nat} {d d':Array α} (h:GoodS T v n lo hi d) (hk:Keep a b d d') (ho:hi≤a∨b≤lo):GoodS T v n lo hi d':=by
 refine ⟨fun i j h1 h2 h3 h4=>?_,fun i h1 h2 h3=>?_⟩
 ·rw [hk.2.1 i (by omega),hk.2.1 j (by omega)];exact h.1 i j h1 h2 h3 h4
 ·rw [hk.2.1 i (by omega)];exact h.2 i h1 h2 h3
theorem GoodS.asc {lo hi b:Nat} {d:Array α} (h:GoodS T v n lo hi d) (h1:b≤hi) (h2:b≤n):Asc T lo b d:=fun i j a1 a2 a3=>h.1 i j a1 a2 (by omega) (by omega)
theorem GoodS.meet (ht:Tells lt T v) {lo mid hi b:Nat} {d:Array α} (h:GoodS T v n lo mid d) (h':GoodS T v n mid hi d) (h1:b≤hi) (h2:b≤n):Meet lt T lo mid b d:=fun i j a1 a2 a3 a4 =>
 ht _ _ (by have:=h.2 i a1 a2 (by omega);have:=h'.2 j a3 (by omega) (by omega);omega)
theorem GoodS.join {lo mid hi b:Nat} {d d':Array α} (h:GoodS T v n lo mid d) (h':GoodS T v n mid hi d) (hlm:lo≤mid) (hmh:mid≤hi) (hb:b=hi∨b=n) (h1:b≤hi) (h2:b≤n) (hk:Keep lo b d d') (ha:Asc T lo b d'):GoodS T v n lo hi d':=by
 refine ⟨fun i j a1 a2 a3 a4=>ha i j a1 a2 (by omega),fun i a1 a2 a3=>?_⟩
 obtain ⟨j,j1,j2,e⟩:=hk.2.2 i a1 (by omega)
 rw [e]
 by_cases c:j < mid
 ·have:=h.2 j j1 c (by omega);omega
 ·have:=h'.2 j (by omega) (by omega) (by omega);omega
theorem GoodS.more {lo hi hi':Nat} {d:Array α} (h:GoodS T v n lo hi d) (h1:n≤hi) (h2:hi≤hi'):GoodS T v n lo hi' d :=
 ⟨fun i j a1 a2 a3 a4=>h.1 i j a1 a2 (by omega) a4,fun i a1 a2 a3=>by have:=h.2 i a1 (by omega) a3;omega⟩
theorem GoodS.void {lo hi:Nat} (d:Array α) (h:n≤lo):GoodS T v n lo hi d:=⟨fun i j a1 a2 a3 a4=>by omega,fun i a1 a2 a3=>by omega⟩
theorem ins_good (hT:∀ x y z,T x y→T y z→T x z) (ht:Tells lt T v) {a b hi:Nat} {d:Array α} (hab:a≤b) (hs:b≤d.size) (hv:∀ i,a≤i→i < n→v d[i]! = i) (h1:b≤hi) (h2:b≤n) (hb:b=hi∨b=n) :
 Keep a b d (insertionSort lt d a b)∧GoodS T v n a hi (insertionSort lt d a b):=by
 obtain ⟨k1,k2⟩:=ins_sort (lt:=lt) hT hab hs (fun k l a1 a2 a3=>ht _ _ (by rw [hv k a1 (by omega),hv l (by omega) (by omega)];exact a2))
 refine ⟨k1,fun i j a1 a2 a3 a4=>k2 i j a1 a2 (by omega),fun i a1 a2 a3=>?_⟩
 obtain ⟨j,j1,j2,e⟩:=k1.2.2 i a1 (by omega)
 rw [e,hv j j1 (by omega)];omega
theorem blk_le {p q s:Nat} (h:p < q):p * s+s≤q * s:=by
 have:=Nat.mul_le_mul_right s h
 rwa [Nat.succ_mul] at this
theorem level_two {bs q A:Nat} {d:Array α} (hA:A=q * (2 * bs)) (hr:∀ p,2 * q≤p→GoodS T v n (p * bs) (p * bs+bs) d):GoodS T v n A (A+bs) d∧GoodS T v n (A+bs) (A+2 * bs) d:=by
 have e:2 * q * bs=A:=by rw [hA,Nat.mul_comm 2 q,Nat.mul_assoc]
 have h1:=hr (2 * q) (Nat.le_refl _)
 have h2:=hr (2 * q+1) (Nat.le_succ _)
 rw [Nat.succ_mul] at h2
 rw [e] at h1 h2
 rw [show A+bs+bs=A+2 * bs by omega] at h2
 exact ⟨h1,h2⟩
theorem level_step {bs q A b:Nat} {d d':Array α} (hA:A=q * (2 * bs)) (hd:∀ p,p < q→GoodS T v n (p * (2 * bs)) (p * (2 * bs)+2 * bs) d) (hr:∀ p,2 * q≤p→GoodS T v n (p * bs) (p * bs+bs) d)
 (hb:b=A+2 * bs∨b=n) (h1:b≤A+2 * bs) (h2:b≤n) (hk:Keep A b d d') (ha:Asc T A b d') :
 (∀ p,p < q+1→GoodS T v n (p * (2 * bs)) (p * (2 * bs)+2 * bs) d')∧∀ p,2 * (q+1)≤p→GoodS T v n (p * bs) (p * bs+bs) d':=by
 obtain ⟨g1,g2⟩:=level_two hA hr
 refine ⟨fun p hp=>?_,fun p hp=>?_⟩
 ·by_cases c:p=q
  ·subst c
   rw [←hA]
   exact g1.join g2 (by omega) (by omega) hb h1 h2 hk ha
  ·have hl:p < q:=by omega
   exact (hd p hl).keep hk (.inl (by rw [hA];exact blk_le hl))
 ·refine (hr p (by omega)).keep hk (.inr ?_)
  have:2 * (q+1) * bs≤p * bs:=Nat.mul_le_mul_right _ hp
  have e:2 * (q+1) * bs=A+2 * bs:=by rw [hA,Nat.mul_comm 2 (q+1),Nat.mul_assoc,Nat.succ_mul]
  omega
theorem level_end {bs q A:Nat} {d:Array α} (hA:A=q * (2 * bs)) (hd:∀ p,p < q+1→GoodS T v n (p * (2 * bs)) (p * (2 * bs)+2 * bs) d) (h:n≤A+2 * bs):∀ p,GoodS T v n (p * (2 * bs)) (p * (2 * bs)+2 * bs) d:=by
 intro p
 by_cases c:p < q+1
 ·exact hd p c
 ·refine GoodS.void d ?_
  have:(q+1) * (2 * bs)≤p * (2 * bs):=Nat.mul_le_mul_right _ (by omega)
  rw [Nat.succ_mul,←hA] at this
  omega
theorem level_last {bs q A:Nat} {d:Array α} (hA:A=q * (2 * bs)) (hd:∀ p,p < q→GoodS T v n (p * (2 * bs)) (p * (2 * bs)+2 * bs) d) (hr:∀ p,2 * q≤p→GoodS T v n (p * bs) (p * bs+bs) d) (h:n≤A+bs) :
 ∀ p,GoodS T v n (p * (2 * bs)) (p * (2 * bs)+2 * bs) d:=by
 refine level_end hA (fun p hp=>?_) (by omega)
 by_cases c:p=q
 ·subst c
  rw [←hA]
  exact (level_two hA hr).1.more h (by omega)
 ·exact hd p (by omega)
theorem first_step (hT:∀ x y z,T x y→T y z→T x z) (ht:Tells lt T v) {q A b:Nat} {d:Array α} (hA:A=q * 20) (hs:d.size=n) (hd:∀ p,p < q→GoodS T v n (p * 20) (p * 20+20) d) (hi:∀ i,A≤i→i < n→v d[i]! = i)
 (hab:A≤b) (hb:b=A+20∨b=n) (h1:b≤A+20) (h2:b≤n) :
 (insertionSort lt d A b).size=n∧(∀ p,p < q+1→GoodS T v n (p * 20) (p * 20+20) (insertionSort lt d A b))∧(∀ i,b≤i→i < n→v (insertionSort lt d A b)[i]! = i)∧Keep A b d (insertionSort lt d A b):=by
 obtain ⟨k1,k2⟩:=ins_good hT ht hab (by omega) hi h1 h2 hb
 refine ⟨k1.1.trans hs,fun p hp=>?_,fun i i1 i2=>?_,k1⟩
 ·by_cases c:p=q
  ·subst c;rw [←hA];exact k2
  ·have hl:p < q:=by omega
   exact (hd p hl).keep k1 (.inl (by rw [hA];exact blk_le hl))
 ·rw [k1.2.1 i (by omega)];exact hi i (by omega) i2
theorem first_end {q A:Nat} {d:Array α} (hA:A=q * 20) (hd:∀ p,p < q+1→GoodS T v n (p * 20) (p * 20+20) d) (h:n≤A+20):∀ p,GoodS T v n (p * 20) (p * 20+20) d:=by
 intro p
 by_cases c:p < q+1
 ·exact hd p c
 ·exact GoodS.void d (by omega)
end
theorem size_insInner (lt:α→α→Bool) (a:Nat):∀ (j:Nat) (d:Array α),(insInner lt a j d).size=d.size
 | 0,d=>by rw [insInner_stop lt a 0 d (.inl (Nat.zero_le _))]
 | j+1,d=>by
   by_cases h:a < j+1
   ·cases hl:lt d[j+1]! d[j]! with
    | true=>rw [insInner_go lt a (j+1) d h hl,Nat.add_sub_cancel,size_insInner lt a j,size_swp]
    | false=>rw [insInner_stop lt a (j+1) d (.inr hl)]
   ·rw [insInner_stop lt a (j+1) d (.inl (by omega))]
theorem size_insOuter (lt:α→α→Bool) (a b:Nat):∀ (n i:Nat) (d:Array α),b - i≤n→(insOuter lt a b i d).size=d.size:=by
 intro n
 induction n with
 | zero=>intro i d h;rw [insOuter_stop lt a b i d (by omega)]
 | succ n ih =>
   intro i d h
   by_cases c:i < b
   ·rw [insOuter_go lt a b i d c,ih _ _ (by omega),size_insInner]
   ·rw [insOuter_stop lt a b i d c]
theorem size_insertionSort (lt:α→α→Bool) (d:Array α) (a b:Nat):(insertionSort lt d a b).size=d.size:=by
 unfold insertionSort;exact size_insOuter lt a b _ _ d (Nat.le_refl _)
theorem insS (L:SortL P K) (enc:α→List Value) (cf:α→α→Int) (g:Nat) (cb:Array Value) (blk off cap a b:Nat) (d0 d:Array α) (w0 w:World)
 (eg:∀ args w,(callFunc g args).run P w=.ok (.enter g args) w) (hcmp:CmpLays P g cb enc K cf blk off d0.size w0) (R:RowK enc K w0 blk off d0) (hs:d0.size=d.size) (S:SWK enc K w0 blk off d w) (hab:a≤b) (hb:b≤d.size) (hsz:d.size < 4611686018427387904) :
 Calls P 165 #[.slice (some ⟨blk,off,none⟩) d.size cap,.int .i64 a,.int .i64 b,.func (.func g) #[] cb] w fun e w'=>e=.returned (.tuple #[])∧SWK enc K w0 blk off (Sort.insertionSort (ltOf cf) d a b) w':=by
 have hC:CmpLays P g cb enc K cf blk off d.size w:=fun m os dk hdk x y=>by
  obtain ⟨n0,os0,rfl⟩:=S
  rw [sortWorldK_on enc K w0 blk off n0 m d dk os0 os R.hblk hdk]
  exact hcmp _ _ dk (by omega) x y
 refine (AnyQ.insertionSortCmpFunc L.ins K L.aE L.zE enc R.hk R.h1 cf g cb blk off cap a b d w eg hC (S.holds R.hblk R.hH hs.symm) (S.lt R.hblk) hab hb hsz).mono ?_
 rintro e w' ⟨rfl,n,os,rfl⟩
 exact ⟨rfl,S.on R.hblk n _ os (size_insertionSort _ _ _ _)⟩
set_option maxHeartbeats 8000000 in
set_option maxRecDepth 1000000 in
theorem stableK (L:SortL P K) (enc:α→List Value) (cf:α→α→Int) (T:α→α→Prop) (hT:∀ x y z,T x y→T y z→T x z) (v:α→Nat) (ht:Tells (ltOf cf) T v) (g:Nat) (cb:Array Value) (blk off cap n:Nat) (d0:Array α) (w0 w:World)
 (eg:∀ args w,(callFunc g args).run P w=.ok (.enter g args) w) (hcmp:CmpLays P g cb enc K cf blk off d0.size w0)
 (R:RowK enc K w0 blk off d0) (hn:n=d0.size) (S:SWK enc K w0 blk off d0 w) (hsz:n < 100000) (hv:∀ i,i < n→v d0[i]! = i) :
 Calls P 137 #[.slice (some ⟨blk,off,none⟩) n cap,.int .i64 n,.func (.func g) #[] cb] w fun e w'=>e=.returned (.tuple #[]) ∧
  ∃ d',d'.size=n∧Asc T 0 n d'∧Keep 0 n d0 d'∧SWK enc K w0 blk off d' w':=by
 have MG:=symMerge_allK L enc cf T hT g cb blk off cap d0 w0 eg hcmp R (by omega)
 rw [←hn] at MG
 have IS:=fun a b d w hs S ha hb=>insS L enc cf g cb blk off cap a b d0 d w0 w eg hcmp R hs S ha hb (by omega)
 have HMG:=Lib.hid MG
 have HIS:=Lib.hid IS
 have HN:=Lib.hid hn
 have HV:=Lib.hid hv
 have HT:=Lib.hid hT
 have HTE:=Lib.hid ht
 have S0:Aside (SWK enc K w0 blk off d0 w):=S
 clear MG IS hn hv hT ht hcmp S
 have mixed:=L.mixed;have t0:=L.t0;have a0:=L.a0;have z0:=L.z0;have v0:=L.v0;have t3:=L.t3;have a3:=L.a3;have z3:=L.z3;have v3:=L.v3;have t4:=L.t4;have a4:=L.a4;have z4:=L.z4;have v4:=L.v4;have t29:=L.t29;have a29:=L.a29;have z29:=L.z29;have v29:=L.v29;have t83:=L.t83;have a83:=L.a83;have z83:=L.z83;have v83:=L.v83;have t90:=L.t90;have a90:=L.a90;have z90:=L.z90;have v90:=L.v90;have aE:=L.aE;have zE:=L.zE
 have e53:∀ args w,(callFunc 165 args).run P w=.ok (.enter 165 args) w:=(L.ins).f20.enters rfl
 have e54:∀ args w,(callFunc 166 args).run P w=.ok (.enter 166 args) w:=enters_of L.f54 (by kernel_rfl) rfl
 go_enter L.f51,Tryz.ntmps137
 go_wp2
 go_loopg [7,8] n (fun kx va vb wr=>∃ (q A B:Nat) (d:Array α),va=.int .i64 (A:Int)∧vb=.int .i64 (B:Int)∧Hid (A=q * 20)∧Hid (B=A+20)∧A≤n∧B≤n+20∧n - A≤kx∧Hid (d.size=n)∧Aside (SWK enc K w0 blk off d wr) ∧
  Hid (∀ p,p < q→GoodS T v n (p * 20) (p * 20+20) d)∧Hid (∀ i,A≤i→i < n→v d[i]! = i)∧Hid (Keep 0 n d0 d))
 case atStart=>exact ⟨0,0,20,d0,rfl,rfl,rfl,rfl,Nat.zero_le _,by omega,by omega,HN.out.symm,S0,fun p hp=>absurd hp (Nat.not_lt_zero _),fun i _ hi=>HV.out i hi,Keep.refl _ _ _⟩
 case round =>
  clear S0
  obtain ⟨q,A,B,d,rfl,rfl,EA,EB,hAn,hBn,hkx,HD,S1,HG,HI,HK⟩:=hrel
  by_cases hle:B≤n
  ·have hlez:(B:Int)≤(n:Int):=by omega
   have hAB:A < B:=by have:=EB.out;omega
   have hc:=HIS.out A B d wr (HN.out.symm.trans HD.out.symm) S1.out (by omega) (by rw [HD.out];exact hle)
   rw [HD.out] at hc
   have HC:=Lib.hid hc
   clear hc
   go_wp2_with fail
   go_at_fn 165
   refine HC.out.mono ?_
   rintro e w1 ⟨rfl,s1⟩
   clear S1
   have S1:Aside _:=s1
   have ST:=Lib.hid (first_step HT.out HTE.out EA.out HD.out HG.out HI.out (by omega) (.inl EB.out) (by rw [EB.out];exact Nat.le_refl _) hle)
   clear s1 HC
   go_wp2
   go_roundg (n - B)
   case measure=>omega
   case rel=>exact ⟨q+1,B,B+20,insertionSort (ltOf cf) d A B,rfl,by first | rfl | go_num,(show Hid _ from by rw [Nat.succ_mul,←EA.out];exact EB.out),rfl,hle,by omega,Nat.le_refl _,ST.out.1,S1,ST.out.2.1,ST.out.2.2.1,HK.out.trans (ST.out.2.2.2.wider (Nat.zero_le _) hle)⟩
  ·have hlez:¬ (B:Int)≤(n:Int):=by omega
   have hc:=HIS.out A n d wr (HN.out.symm.trans HD.out.symm) S1.out hAn (by rw [HD.out];exact Nat.le_refl _)
   rw [HD.out] at hc
   have HC:=Lib.hid hc
   clear hc
   go_wp2_with fail
   go_at_fn 165
   refine HC.out.mono ?_
   rintro e w1 ⟨rfl,s1⟩
   clear S1
   have S1:Aside _:=s1
   have ST:=Lib.hid (first_step HT.out HTE.out EA.out HD.out HG.out HI.out hAn (.inr rfl) (by have:=EB.out;omega) (Nat.le_refl _))
   have D1:Hid _:=ST.out.1
   have G1:=Lib.hid (first_end EA.out ST.out.2.1 (by have:=EB.out;omega))
   have K1:=Lib.hid (HK.out.trans (ST.out.2.2.2.wider (Nat.zero_le _) (Nat.le_refl _)))
   generalize insertionSort (ltOf cf) d A n=d1 at S1 D1 G1 K1
   clear s1 HC ST HD HG HI HK EA EB hlez hle hBn hkx
   rename World=>wa
   go_wp2
   go_loopg [6] n (fun kx vs wr=>∃ (bs:Nat) (d:Array α),vs=.int .i64 (bs:Int)∧0 < bs∧bs≤200000∧n - bs≤kx∧Hid (d.size=n)∧Aside (SWK enc K w0 blk off d wr)∧Hid (∀ p,GoodS T v n (p * bs) (p * bs+bs) d)∧Hid (Keep 0 n d0 d))
   case atStart=>exact ⟨20,d1,rfl,by omega,by omega,by omega,D1,S1,G1,K1⟩
   case round =>
    clear S1 D1 G1 K1
    obtain ⟨bs,d,rfl,hbs,hbm,hkx,HD,S1,HG,HK⟩:=hrel
    by_cases hlt:bs < n
    ·have hltz:(bs:Int) < (n:Int):=by omega
     rename World=>wb
     have e2:(2:Int) * (bs:Int)=((2 * bs:Nat):Int):=by omega
     obtain ⟨ds,hds⟩:∃ ds,ds=2 * bs:=⟨_,rfl⟩
     rw [←hds] at e2
     have hds1:bs < ds:=by omega
     have hds2:ds≤400000:=by omega
     have EDS:=Lib.hid hds
     clear hds
     go_wp2
     go_loopg [7,8] n (fun ky va vb wr=>∃ (q A B:Nat) (d:Array α),va=.int .i64 (A:Int)∧vb=.int .i64 (B:Int)∧Hid (A=q * (2 * bs))∧Hid (B=A+2 * bs)∧A≤n∧B≤n+ds∧n - A≤ky∧Hid (d.size=n)∧Aside (SWK enc K w0 blk off d wr) ∧
      Hid (∀ p,p < q→GoodS T v n (p * (2 * bs)) (p * (2 * bs)+2 * bs) d)∧Hid (∀ p,2 * q≤p→GoodS T v n (p * bs) (p * bs+bs) d)∧Hid (Keep 0 n d0 d))
     case atStart=>exact ⟨0,0,ds,d,rfl,rfl,(show Hid _ from (Nat.zero_mul _).symm),(Lib.hid (EDS.out.trans (Nat.zero_add _).symm)),Nat.zero_le _,by omega,by omega,HD,S1,fun p hp=>absurd hp (Nat.not_lt_zero _),fun p _=>HG.out p,HK⟩
     case round =>
      clear S1 HD HG HK
      obtain ⟨q,A,B,d,rfl,rfl,EA,EB,hAn,hBn,hky,HD,S1,HG,HR,HK⟩:=hrel
      by_cases hle:B≤n
      ·have hlez:(B:Int)≤(n:Int):=by omega
       have hAB:A+bs < B:=by have:=EB.out;omega
       obtain ⟨g1,g2⟩:=level_two EA.out HR.out
       rw [←EB.out] at g2
       have hc:=HMG.out (B - A) A (A+bs) B d wr (Nat.le_refl _) HD.out S1.out (by omega) hAB hle (g1.asc (Nat.le_refl _) (by omega)) (g2.asc (Nat.le_refl _) hle) (g1.meet HTE.out g2 (Nat.le_refl _) hle)
       rw [show ((A+bs:Nat):Int)=(A:Int)+(bs:Int) by omega] at hc
       have HC:=Lib.hid hc
       clear hc g1 g2
       go_wp2_with fail
       go_at_fn 166
       refine HC.out.mono ?_
       rintro e w1 ⟨rfl,d1,k1,a1,s1⟩
       clear S1
       have S1:Aside _:=s1
       have D1:Hid (d1.size=n):=k1.1.trans HD.out
       have ST:=Lib.hid (level_step EA.out HG.out HR.out (.inl EB.out) (by rw [EB.out];exact Nat.le_refl _) hle k1 a1)
       have K2:=Lib.hid (HK.out.trans (k1.wider (Nat.zero_le _) hle))
       clear s1 k1 a1 HC HK
       go_wp2
       go_roundg (n - B)
       case measure=>omega
       case rel=>exact ⟨q+1,B,B+ds,d1,rfl,by first | rfl | go_num,(show Hid _ from by rw [Nat.succ_mul,←EA.out];exact EB.out),(Lib.hid (show B+ds=B+2 * bs by rw [EDS.out])),hle,by omega,Nat.le_refl _,D1,S1,ST.out.1,ST.out.2,K2⟩
      ·have hlez:¬ (B:Int)≤(n:Int):=by omega
       by_cases hm:A+bs < n
       ·have hmz:(A:Int)+(bs:Int) < (n:Int):=by omega
        have hnB:n≤A+2 * bs:=by have:=EB.out;omega
        obtain ⟨g1,g2⟩:=level_two EA.out HR.out
        have hc:=HMG.out (n - A) A (A+bs) n d wr (Nat.le_refl _) HD.out S1.out (by omega) hm (Nat.le_refl _) (g1.asc (Nat.le_refl _) (by omega)) (g2.asc hnB (Nat.le_refl _)) (g1.meet HTE.out g2 hnB (Nat.le_refl _))
        rw [show ((A+bs:Nat):Int)=(A:Int)+(bs:Int) by omega] at hc
        have HC:=Lib.hid hc
        clear hc g1 g2
        go_wp2_with fail
        go_at_fn 166
        refine HC.out.mono ?_
        rintro e w1 ⟨rfl,d1,k1,a1,s1⟩
        clear S1
        have S1:Aside _:=s1
        have D1:Hid (d1.size=n):=k1.1.trans HD.out
        have ST:=Lib.hid (level_end EA.out (level_step EA.out HG.out HR.out (.inr rfl) hnB (Nat.le_refl _) k1 a1).1 hnB)
        have e3:(bs:Int) * 2=(ds:Int):=by have:=EDS.out;omega
        have K2:=Lib.hid (HK.out.trans (k1.wider (Nat.zero_le _) (Nat.le_refl _)))
        clear s1 k1 a1 HC hnB HK
        go_wp2
        go_roundg (n - ds)
        case measure=>omega
        case rel=>exact ⟨ds,d1,rfl,by omega,by have:=EDS.out;omega,Nat.le_refl _,D1,S1,(show Hid _ from by rw [EDS.out];exact ST.out),K2⟩
       ·have hmz:¬ (A:Int)+(bs:Int) < (n:Int):=by omega
        have ST:=Lib.hid (level_last EA.out HG.out HR.out (by omega))
        have e3:(bs:Int) * 2=(ds:Int):=by have:=EDS.out;omega
        go_wp2
        go_roundg (n - ds)
        case measure=>omega
        case rel=>exact ⟨ds,d,rfl,by omega,by have:=EDS.out;omega,Nat.le_refl _,HD,S1,(show Hid _ from by rw [EDS.out];exact ST.out),HK⟩
    ·have hltz:¬ (bs:Int) < (n:Int):=by omega
     go_wp2
     go_end0
     refine ⟨rfl,d,HD.out,fun i j i1 i2 i3=>?_,HK.out,S1.out⟩
     have:=(HG.out 0).1 i j (by omega) i2 (by omega) i3
     exact this
set_option maxHeartbeats 800000 in
theorem sortStableK (L:SortL P K) (enc:α→List Value) (cf:α→α→Int) (T:α→α→Prop) (hT:∀ x y z,T x y→T y z→T x z) (v:α→Nat) (ht:Tells (ltOf cf) T v) (g:Nat) (cb:Array Value) (blk off cap n:Nat) (d0:Array α) (w0 w:World)
 (eg:∀ args w,(callFunc g args).run P w=.ok (.enter g args) w) (hcmp:CmpLays P g cb enc K cf blk off d0.size w0)
 (R:RowK enc K w0 blk off d0) (hn:n=d0.size) (S:SWK enc K w0 blk off d0 w) (hsz:n < 100000) (hv:∀ i,i < n→v d0[i]! = i) :
 Calls P 103 #[.slice (some ⟨blk,off,none⟩) n cap,.func (.func g) #[] cb] w fun e w'=>e=.returned (.tuple #[]) ∧
  ∃ d',d'.size=n∧Asc T 0 n d'∧Keep 0 n d0 d'∧SWK enc K w0 blk off d' w':=by
 have HC:=Lib.hid (stableK L enc cf T hT v ht g cb blk off cap n d0 w0 w eg hcmp R hn S hsz hv)
 clear hT ht hcmp hn S hv eg
 have mixed:=L.mixed;have t0:=L.t0;have a0:=L.a0;have z0:=L.z0;have v0:=L.v0;have t3:=L.t3;have a3:=L.a3;have z3:=L.z3;have v3:=L.v3;have t4:=L.t4;have a4:=L.a4;have z4:=L.z4;have v4:=L.v4;have t29:=L.t29;have a29:=L.a29;have z29:=L.z29;have v29:=L.v29;have t83:=L.t83;have a83:=L.a83;have z83:=L.z83;have v83:=L.v83;have t90:=L.t90;have a90:=L.a90;have z90:=L.z90;have v90:=L.v90;have aE:=L.aE;have zE:=L.zE
 have e51:∀ args w,(callFunc 137 args).run P w=.ok (.enter 137 args) w:=enters_of L.f51 (by kernel_rfl) rfl
 go_enter L.f43,Tryz.ntmps103
 go_wp2_with fail
 go_at_fn 137
 refine HC.out.mono ?_
 rintro e w1 ⟨rfl,d1,h1,h2,h4,h3⟩
 have H1:=Lib.hid h1
 have H2:=Lib.hid h2
 have H4:=Lib.hid h4
 have H3:Aside _:=h3
 clear h1 h2 h3 h4
 go_wp2
 go_end0
 exact ⟨rfl,d1,H1.out,H2.out,H4.out,H3.out⟩
end Go.Proofs.YtfhhihamndbcnaaGreatDoor
end
section
namespace Go.Proofs.YtfhhihamndbcnaaGreatDoor.Fa
open Go.Sort
theorem nodup_le {α:Type} [DecidableEq α]:∀ (L M:List α),L.Nodup→(∀ x∈L,x∈M)→L.length≤M.length
 | [],_,_,_=>Nat.zero_le _
 | a::L,M,h,hm=>by
   obtain ⟨h1,h2⟩:=List.nodup_cons.1 h
   have ha:=hm a (List.mem_cons_self ..)
   have:=nodup_le L (M.erase a) h2 (fun x hx=>(List.mem_erase_of_ne (fun e=>h1 (by rw [←e];exact hx))).2 (hm x (List.mem_cons_of_mem _ hx)))
   rw [List.length_erase_of_mem ha] at this
   have hp:=List.length_pos_of_mem ha
   rw [List.length_cons];omega
theorem nodup_all {α:Type} [DecidableEq α] {L M:List α} (h:L.Nodup) (hm:∀ x∈L,x∈M) (hl:M.length≤L.length):∀ x∈M,x∈L:=by
 intro x hx
 by_cases c:x∈L
 ·exact c
 ·have:=nodup_le (x::L) M (List.nodup_cons.2 ⟨c,h⟩) (fun y hy=>by
   rcases List.mem_cons.1 hy with rfl | hy
   ·exact hx
   ·exact hm y hy)
  rw [List.length_cons] at this;omega
theorem pairs_uniq {α:Type} {T:α→α→Prop} (hi:∀ x,¬ T x x) (ht:∀ {x y z},T x y→T y z→T x z):∀ {L M:List α},L.Pairwise T→M.Pairwise T→(∀ x,x∈L ↔ x∈M)→L=M
 | [],[],_,_,_=>rfl
 | [],b::M,_,_,h=>absurd ((h b).2 (List.mem_cons_self ..)) (by simp)
 | a::L,[],_,_,h=>absurd ((h a).1 (List.mem_cons_self ..)) (by simp)
 | a::L,b::M,hL,hM,h=>by
   obtain ⟨h1,h2⟩:=List.pairwise_cons.1 hL
   obtain ⟨k1,k2⟩:=List.pairwise_cons.1 hM
   have e:a=b:=by
    rcases List.mem_cons.1 ((h a).1 (List.mem_cons_self ..)) with e | ha
    ·exact e
    ·rcases List.mem_cons.1 ((h b).2 (List.mem_cons_self ..)) with e | hb
     ·exact e.symm
     ·exact absurd (ht (h1 b hb) (k1 a ha)) (hi a)
   subst e
   rw [pairs_uniq hi ht h2 k2 fun x=>⟨fun hx=>?_,fun hx=>?_⟩]
   ·rcases List.mem_cons.1 ((h x).1 (List.mem_cons_of_mem _ hx)) with e | hx'
    ·exact absurd (h1 x hx) (by rw [e];exact hi a)
    ·exact hx'
   ·rcases List.mem_cons.1 ((h x).2 (List.mem_cons_of_mem _ hx)) with e | hx'
    ·exact absurd (k1 x hx) (by rw [e];exact hi a)
    ·exact hx'
def TT (x y:Fact × Nat):Prop:=ltK x.1.key y.1.key∨(x.1.key=y.1.key∧x.2 < y.2)
theorem TT_trans (x y z:Fact × Nat) (h1:TT x y) (h2:TT y z):TT x z:=by
 rcases h1 with h1 | ⟨e1,h1⟩ <;> rcases h2 with h2 | ⟨e2,h2⟩
 ·exact .inl (ltK_trans h1 h2)
 ·exact .inl (by rw [←e2];exact h1)
 ·exact .inl (by rw [e1];exact h2)
 ·exact .inr ⟨e1.trans e2,Nat.lt_trans h1 h2⟩
theorem TT_irr (x:Fact × Nat):¬ TT x x:=by rintro (h | ⟨_,h⟩);exact ltK_irr _ h;omega
def cfT (x y:Fact × Nat):Int:=cmpK x.1.key y.1.key
theorem tellsT:Tells (ltOf cfT) TT (fun x=>x.2):=by
 intro x y hv
 unfold ltOf cfT TT
 refine ⟨fun h=>.inl (of_decide_eq_true h),fun h=>?_⟩
 have h':¬ ltK y.1.key x.1.key:=of_decide_eq_false h
 by_cases e:x.1.key=y.1.key
 ·exact .inr ⟨e,hv⟩
 ·exact .inl (ltK_total h' (fun e'=>e e'.symm))
def sortedL (l:List Fact):List Fact:=(keysL l).flatMap fun k=>l.filter fun f=>decide (f.key=k)
def tagL (l:List Fact):Array (Fact × Nat):=l.zipIdx.toArray
theorem tag_size (l:List Fact):(tagL l).size=l.length:=by simp [tagL]
theorem tag_at (l:List Fact) (i:Nat) (hi:i < l.length):(tagL l)[i]! = (l[i],i):=by
 unfold tagL
 rw [getElem!_pos _ _ (by simpa using hi)]
 simp
theorem tag_mem (l:List Fact) (x:Fact × Nat):x∈l.zipIdx ↔ l[x.2]?=some x.1:=by
 rw [List.mem_zipIdx_iff_getElem?]
theorem asc_pairs {T:Fact × Nat→Fact × Nat→Prop} {n:Nat} {d:Array (Fact × Nat)} (hs:d.size=n) (h:Asc T 0 n d):d.toList.Pairwise T:=by
 rw [List.pairwise_iff_getElem]
 intro i j hi hj hij
 have hi':i < d.size:=by simpa using hi
 have hj':j < d.size:=by simpa using hj
 have:=h i j (Nat.zero_le _) hij (by omega)
 rw [getElem!_pos d i hi',getElem!_pos d j hj'] at this
 simpa using this
theorem sorted_of (l:List Fact) (d:Array (Fact × Nat)) (hs:d.size=l.length) (h:Asc TT 0 l.length d) (hk:Keep 0 l.length (tagL l) d):d.toList.map Prod.fst=sortedL l:=by
 have hp:=asc_pairs hs h
 have hmem:∀ x∈d.toList,x∈l.zipIdx:=by
  intro x hx
  obtain ⟨i,hi,rfl⟩:=List.getElem_of_mem hx
  have hi':i < d.size:=by simpa using hi
  obtain ⟨j,_,hj,e⟩:=hk.2.2 i (Nat.zero_le _) (by omega)
  rw [getElem!_pos d i hi',tag_at l j hj] at e
  rw [Array.getElem_toList,e,tag_mem]
  exact List.getElem?_eq_getElem hj
 have hnd:d.toList.Nodup:=hp.imp (fun {a b} hab e=>by subst e;exact TT_irr _ hab)
 have hall:=nodup_all hnd hmem (by simp [hs])
 have e:d.toList=(keysL l).flatMap fun k=>l.zipIdx.filter fun x=>decide (x.1.key=k):=by
  refine pairs_uniq TT_irr (fun {x y z}=>TT_trans x y z) hp ?_ ?_
  ·rw [List.pairwise_flatMap]
   refine ⟨fun k _=>?_,?_⟩
   ·have hz:l.zipIdx.Pairwise fun x y=>x.2 < y.2:=by
     rw [List.pairwise_iff_getElem]
     intro i j hi hj hij
     simpa using hij
    refine List.Pairwise.imp_of_mem ?_ (hz.filter _)
    intro x y hx hy hlt
    have e1:=of_decide_eq_true (List.mem_filter.1 hx).2
    have e2:=of_decide_eq_true (List.mem_filter.1 hy).2
    exact .inr ⟨e1.trans e2.symm,hlt⟩
   ·refine List.Pairwise.imp ?_ (rise_keys l)
    intro k k' hlt x hx y hy
    have e1:=of_decide_eq_true (List.mem_filter.1 hx).2
    have e2:=of_decide_eq_true (List.mem_filter.1 hy).2
    exact .inl (by rw [e1,e2];exact hlt)
  ·intro x
   rw [List.mem_flatMap]
   constructor
   ·intro hx
    have hz:=hmem x hx
    have hl:x.1∈l:=List.mem_of_getElem? ((tag_mem l x).1 hz)
    exact ⟨x.1.key,mem_keys.2 ⟨_,hl,rfl⟩,List.mem_filter.2 ⟨hz,decide_eq_true rfl⟩⟩
   ·rintro ⟨k,_,hx⟩
    exact hall x (List.mem_filter.1 hx).1
 rw [e,List.map_flatMap]
 unfold sortedL
 congr 1
 funext k
 have:∀ (L:List (Fact × Nat)),(L.filter fun x=>decide (x.1.key=k)).map Prod.fst=(L.map Prod.fst).filter fun f=>decide (f.key=k):=fun L=>by rw [List.filter_map];rfl
 rw [this]
 congr 1
 exact List.zipIdx_map_fst 0 l
def flatG (G:List (Key × List Int)):List Fact:=G.flatMap fun g=>g.2.map (Fact.mk g.1)
theorem sorted_flat (l:List Fact):sortedL l=flatG (grps l):=by
 unfold sortedL flatG grps
 rw [List.flatMap_map]
 congr 1
 funext k
 unfold amts
 rw [List.map_map]
 have:∀ (L:List Fact),(∀ f∈L,f.key=k)→L=L.map (Fact.mk k ∘ Fact.amt):=by
  intro L
  induction L with
  | nil=>intro _;rfl
  | cons f L ih =>
    intro h
    rw [List.map_cons,←ih fun g hg=>h g (List.mem_cons_of_mem _ hg)]
    congr 1
    have:=h f (List.mem_cons_self ..)
    subst this
    rfl
 exact this _ fun f hf=>of_decide_eq_true (List.mem_filter.1 hf).2
structure GrpsOk (G:List (Key × List Int)):Prop where
 rise:G.Pairwise fun x y=>ltK x.1 y.1
 some:∀ g∈G,g.2≠[]
theorem grps_ok (l:List Fact):GrpsOk (grps l):=by
 refine ⟨?_,fun g hg=>?_⟩
 ·unfold grps
  rw [List.pairwise_map]
  exact rise_keys l
 ·unfold grps at hg
  obtain ⟨k,hk,rfl⟩:=List.mem_map.1 hg
  obtain ⟨f,hf,e⟩:=mem_keys.1 hk
  intro h0
  unfold amts at h0
  rw [List.map_eq_nil_iff] at h0
  have:f∈l.filter fun f=>decide (f.key=k):=List.mem_filter.2 ⟨hf,decide_eq_true e⟩
  rw [h0] at this
  cases this
end Go.Proofs.YtfhhihamndbcnaaGreatDoor.Fa
end
