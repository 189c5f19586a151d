/- FaCmp FaClone SortPlain SortKBase SortKSwap SortKLeft -/
import Derived.Ground.SlsfProg
import Derived.KernelRfl
import Derived.Lib.SliceRun
import Derived.Shelf.SlSortCmp.KitK
import Derived.Shelf.SlSortCmp.QuietGrown
import Derived.Sort.WalkA
import Derived.Sort.WalkB12
import Derived.Sort.WalkB2
import Derived.StillTailTactics
import Derived.Test.YtdhfpgjnjlcciaaGreatDoorQ03
section
namespace Go.Proofs.YtdhfpgjnjlcciaaGreatDoor.Fa
open Go.RowKit
set_option maxHeartbeats 1000000 in
set_option maxRecDepth 100000 in
theorem Ju (a b:ByteArray) (w:World) :
 Calls Tryz.prog 154 #[.string a,.string b] w fun e w'=>e=.returned (.int .i64 (cmpB a b))∧w'=w:=by
 go_enter Tryz.func154,Tryz.ntmps154
 go_wp2
 rw [run_callFunc_extern Tryz.func188 (by kernel_rfl) (by kernel_rfl) (by kernel_rfl) (e:=Extern.BytealgCompare.compare) (by kernel_rfl),Lib.run_compareString]
 simp only [Result.andThen]
 rw [Oper.upon_value]
 go_wp2
 go_ret
 exact ⟨rfl,rfl⟩
set_option maxHeartbeats 1000000 in
theorem qM (a b:ByteArray) (w:World) :
 Calls Tryz.prog 106 #[.string a,.string b] w fun e w'=>e=.returned (.int .i64 (cmpB a b))∧w'=w:=by
 go_enter Tryz.func106,Tryz.ntmps106
 go_wp2_with (go_at_call 154;refine (Ju _ _ _).mono ?_;rintro e w' ⟨rfl,rfl⟩)
 go_ret
 exact ⟨rfl,rfl⟩
set_option maxHeartbeats 400000 in
theorem J6 (x:Int) (w:World):Calls Tryz.prog 214 #[.int .i64 x] w fun e w'=>e=.returned (.bool false)∧w'=w:=by
 have hx:(x != x)=false:=by simp
 go_enter Tryz.func214,Tryz.ntmps214
 go_wp2
 go_ret
 exact ⟨rfl,rfl⟩
set_option maxHeartbeats 400000 in
theorem ziW (x y:Int) (w:World):Calls Tryz.prog 194 #[.int .i64 x,.int .i64 y] w fun e w'=>e=.returned (.int .i64 (cmpI x y))∧w'=w:=by
 rcases Int.lt_trichotomy x y with h | h | h
 ·have e:cmpI x y=-1:=by unfold cmpI;rw [if_pos h]
  rw [e]
  clear e
  go_enter Tryz.func194,Tryz.ntmps194
  go_wp2_with (go_at_call 214;refine (J6 _ _).mono ?_;rintro e w' ⟨rfl,rfl⟩)
  go_ret
  exact ⟨rfl,rfl⟩
 ·subst h
  have e:cmpI x x=0:=by unfold cmpI;rw [if_neg (by omega),if_neg (by omega)]
  rw [e]
  clear e
  have h1:¬ x < x:=by omega
  go_enter Tryz.func194,Tryz.ntmps194
  go_wp2_with (go_at_call 214;refine (J6 _ _).mono ?_;rintro e w' ⟨rfl,rfl⟩)
  go_ret
  exact ⟨rfl,rfl⟩
 ·have e:cmpI x y=1:=by unfold cmpI;rw [if_neg (by omega),if_pos h]
  rw [e]
  clear e
  have h1:¬ x < y:=by omega
  go_enter Tryz.func194,Tryz.ntmps194
  go_wp2_with (go_at_call 214;refine (J6 _ _).mono ?_;rintro e w' ⟨rfl,rfl⟩)
  go_ret
  exact ⟨rfl,rfl⟩
def orL:List Int→Int
 | []=>0
 | a::r=>if a=0 then orL r else a
theorem X0 (x y:Key):orL [cmpB x.e y.e,cmpB x.a y.a,cmpB x.f y.f,cmpB x.p y.p,cmpI x.m y.m]=cmpK x y:=by
 unfold cmpK
 simp only [orL,orI]
 (repeat' split) <;> first | rfl | omega
theorem zaq (l:List Int) (k:Nat) (x:Int) (h:l[k]?=some x):orL (l.drop k)=if x=0 then orL (l.drop (k+1)) else x:=by
 rw [List.drop_eq_getElem?_toList_append]
 simp [h,orL]
set_option maxHeartbeats 1000000 in
theorem Z3 (l:List Int) (n:Nat) (b:Nat) (w:World) (hn:l.length=n) (hb:n < 100) (hc:∀ (i:Nat) x,l[i]?=some x→w.cell? ⟨b,i,none⟩=some (.int .i64 x)) :
 Calls Tryz.prog 105 #[.slice (some ⟨b,0,none⟩) n n] w fun e w'=>e=.returned (.int .i64 (orL l))∧w'=w:=by
 have HC:=Lib.hid hc
 have HN:=Lib.hid hn
 clear hc hn
 obtain ⟨r,hr⟩:∃ r,orL l=r:=⟨_,rfl⟩
 rw [hr]
 have HR:=Lib.hid hr
 clear hr
 go_enter Tryz.func105,Tryz.ntmps105
 go_wp2
 go_loop [8] (fun i=>∃ k:Nat,k≤n∧i=.int .i64 k∧Hid (orL (l.drop k)=r)) (fun i=>n - (intOf i).toNat)
 case atStart=>exact ⟨0,Nat.zero_le _,rfl,HR⟩
 case round =>
  obtain ⟨k,hk,rfl,HK⟩:=hrel
  by_cases hlt:k < n
  ·obtain ⟨x,hx⟩:∃ x,l[k]?=some x:=⟨_,List.getElem?_eq_getElem (by rw [HN.out];exact hlt)⟩
   have c0:=HC.out k x hx
   have HS:=Lib.hid (zaq l k x hx)
   clear hx
   by_cases h0:x=0
   ·subst h0
    go_wp2
    go_round
    case rel=>exact ⟨k+1,by omega,by go_num,by rw [←HK.out,HS.out,if_pos rfl];exact Lib.hid rfl⟩
    case measure=>simp [intOf];omega
   ·obtain rfl:x=r:=by rw [←HK.out,HS.out,if_neg h0]
    go_wp2
    go_ret
    exact ⟨rfl,rfl⟩
  ·obtain rfl:r=0:=by
    have e:l.drop k=[]:=List.drop_of_length_le (by rw [HN.out];omega)
    rw [←HK.out,e];rfl
   go_wp2
   go_ret
   exact ⟨rfl,rfl⟩
theorem zgn (w:World) (l:List Int) (t:TypeId) (a b c d e:Int) (h:l=[a,b,c,d,e]) (i:Nat) (x:Int) (hx:l[i]?=some x):(w.alloc (.cells #[.int .i64 a,.int .i64 b,.int .i64 c,.int .i64 d,.int .i64 e] t)).cell? ⟨w.heap.size,i,none⟩=some (.int .i64 x):=by
 rw [cell_of_row _ w.heap.size i _ t (0,0) (heap_alloc_new w _)]
 subst h
 match i,hx with
 | 0,hx=>simp at hx;subst hx;rfl
 | 1,hx=>simp at hx;subst hx;rfl
 | 2,hx=>simp at hx;subst hx;rfl
 | 3,hx=>simp at hx;subst hx;rfl
 | 4,hx=>simp at hx;subst hx;rfl
set_option maxHeartbeats 4000000 in
set_option maxRecDepth 100000 in
theorem za3 (x y:Key) (w:World) :
 Calls Tryz.prog 161 #[aggK x,aggK y] w fun e w'=>e=.returned (.int .i64 (cmpK x y))∧Grew w w':=by
 obtain ⟨r,hr⟩:∃ r,cmpK x y=r:=⟨_,rfl⟩
 have hA:=X0 x y
 rw [hr] at hA ⊢
 have HA:=Lib.hid hA
 clear hr hA
 obtain ⟨W1,hW1⟩:∃ W1,(w.alloc (.cells #[.string x.e,.string x.a,.string x.f,.string x.p,.int .i64 x.m] 74)).alloc (.cells #[.string y.e,.string y.a,.string y.f,.string y.p,.int .i64 y.m] 74)=W1:=⟨_,rfl⟩
 obtain ⟨W2,hW2⟩:∃ W2,W1.drew=W2:=⟨_,rfl⟩
 have bx:BoxE encK W2 w.heap.size 74 x:=by
  rw [←hW2,←hW1]
  have hb:=(Below.refl (w.alloc (.cells #[.string x.e,.string x.a,.string x.f,.string x.p,.int .i64 x.m] 74)).heap.size (w.alloc (.cells #[.string x.e,.string x.a,.string x.f,.string x.p,.int .i64 x.m] 74))).alloc (Nat.le_refl _) (.cells #[.string y.e,.string y.a,.string y.f,.string y.p,.int .i64 y.m] 74)
  exact (BoxE.new encK w x 74).kept ⟨hb.os,hb.tape,hb.output,hb.size,hb.block⟩
 have bY:BoxE encK W2 (w.heap.size+1) 74 y:=by
  rw [←hW2,←hW1]
  have:=BoxE.new encK (w.alloc (.cells #[.string x.e,.string x.a,.string x.f,.string x.p,.int .i64 x.m] 74)) y 74
  rw [World.size_alloc] at this
  exact this
 have HG:Hid (Grew w W2):=Lib.hid (by
  rw [←hW2,←hW1]
  exact (((Grew.refl w).alloc _).alloc _).drew)
 obtain ⟨k0,k1,k2,k3,k4⟩:=key5 bx.at0
 obtain ⟨j0,j1,j2,j3,j4⟩:=key5 bY.at0
 simp only [Nat.zero_add] at k0 k1 k2 k3 k4 j0 j1 j2 j3 j4
 clear bx bY
 go_enter Tryz.func161,Tryz.ntmps161
 go_wp2_with fail
 refine wp_region_still_tail 25 (by kernel_rfl) (by kernel_rfl) ?_
 simp only [List.take_succ_cons,List.take_zero,List.drop_succ_cons,List.drop_zero]
 rw [show ({ heap:=W1.heap,tape:=W1.tape,drawn:=W1.drawn+1,os:=W1.os,output:=W1.output }:World)=W2 from hW2]
 clear hW1 hW2
 repeat still_step
 still_call (qM _ _ _)
 repeat still_step
 still_call (qM _ _ _)
 repeat still_step
 still_call (qM _ _ _)
 repeat still_step
 still_call (qM _ _ _)
 repeat still_step
 still_call (ziW _ _ _)
 refine wpStill_nil ?_
 go_wp2_with (go_at_call 105;refine (Z3 _ 5 _ _ rfl (by decide) (zgn _ _ _ _ _ _ _ _ rfl)).mono ?_;rintro e w' ⟨rfl,rfl⟩)
 go_ret
 exact ⟨by rw [←HA.out];rfl,HG.out.alloc _⟩
set_option maxHeartbeats 1000000 in
theorem kE (f:Fact) (k:Key) (w:World) :
 Calls Tryz.prog 119 #[aggF f,aggK k] w fun e w'=>e=.returned (.int .i64 (cmpK f.key k))∧Grew w w':=by
 obtain ⟨r,hr⟩:∃ r,cmpK f.key k=r:=⟨_,rfl⟩
 have HC:=Lib.hid (fun W=>za3 f.key k W)
 simp only [hr] at HC ⊢
 have HB:=Lib.hid (((Grew.refl w).alloc (.cells #[.string f.key.e,.string f.key.a,.string f.key.f,.string f.key.p,.int .i64 f.key.m,.int .i64 f.amt] 76)).alloc (.cells #[.string k.e,.string k.a,.string k.f,.string k.p,.int .i64 k.m] 74))
 go_enter Tryz.func119,Tryz.ntmps119
 go_wp2_with (go_at_call 161;refine (HC.out _).mono ?_;rintro e w' ⟨rfl,hG⟩)
 go_ret
 exact ⟨rfl,HB.out.trans hG⟩
set_option maxHeartbeats 1000000 in
theorem zc3 (f g:Fact) (w:World) :
 Calls Tryz.prog 118 #[aggF f,aggF g] w fun e w'=>e=.returned (.int .i64 (cmpK f.key g.key))∧Grew w w':=by
 obtain ⟨r,hr⟩:∃ r,cmpK f.key g.key=r:=⟨_,rfl⟩
 have HC:=Lib.hid (fun W=>kE f g.key W)
 simp only [hr] at HC ⊢
 have HB:=Lib.hid (((Grew.refl w).alloc (.cells #[.string f.key.e,.string f.key.a,.string f.key.f,.string f.key.p,.int .i64 f.key.m,.int .i64 f.amt] 76)).alloc (.cells #[.string g.key.e,.string g.key.a,.string g.key.f,.string g.key.p,.int .i64 g.key.m,.int .i64 g.amt] 76))
 go_enter Tryz.func118,Tryz.ntmps118
 go_wp2_with (go_at_call 119;refine (HC.out _).mono ?_;rintro e w' ⟨rfl,hG⟩)
 go_ret
 exact ⟨rfl,HB.out.trans hG⟩
end Go.Proofs.YtdhfpgjnjlcciaaGreatDoor.Fa
end
section
namespace Go.Proofs.YtdhfpgjnjlcciaaGreatDoor.Fa
open Go.RowKit
theorem qZ:(Tryz.prog.info? 76).map (fun i=>(i.zero,i.size,i.bytes))=some (some (.agg #[.string ⟨#[]⟩,.string ⟨#[]⟩,.string ⟨#[]⟩,.string ⟨#[]⟩,.int .i64 0,.int .i64 0]),6,80):=by kernel_rfl
theorem qd (L:List Fact):(flat encF L).length=L.length * 6:=qv L
theorem kJ (L:List Fact) (k:Nat):flat encF (L.take k)=(flat encF L).take (k * 6):=xO L k
theorem kf (L:List Fact) (k:Nat):flat encF (L.drop k)=(flat encF L).drop (k * 6):=Zt L k
def yM (w:World) (L:List Fact) (e:Ending) (w':World):Prop:=∃ v,e=.returned v∧w'.ownsRow w.heap.size 76 6 v L.length (flat encF L)∧Below w.heap.size w w'
set_option maxRecDepth 100000 in
set_option maxHeartbeats 2000000 in
theorem xA (v:Value) (L:List Fact) (w:World) (h:ElsV encF w v L) (hL:L.length≤1000) :
 Calls Tryz.prog 116 #[v] w (yM w L):=by
 have HV:=Lib.hid h
 obtain ⟨p,c,rfl,hcap,hm,hp,hc⟩:=h
 have hq:∀ (w:World) (a:Option Addr) (n c n' c':Nat),(binOp .eql 48 (.slice a n c) (.slice none n' c')).run Tryz.prog w=.ok (.bool a.isNone) w:=fun w a n c n' c'=>Lib.run_eql_slice_nil w _ _ a n c n' c' Tryz.underlying48
 obtain ⟨i0,hi,hz0,hz1,hz2⟩:=info_parts qZ
 have HI:=Lib.hid (And.intro hi (And.intro hz0 (And.intro hz1 hz2)))
 clear hi hz0 hz1 hz2 hc
 unfold maxLen at hm
 cases p with
 | none =>
   have h0:=hp rfl
   have:L=[]:=List.eq_nil_of_length_eq_zero (by omega)
   subst this
   clear HV hp
   go_enter Tryz.func116,Tryz.ntmps116
   go_wp2
   go_ret
   exact ⟨_,rfl,World.ownsRow_nil _ _ _ _,Below.refl _ _⟩
 | some ad =>
   have HC:Hid (∀ (j:Nat) u,(flat encF L)[j]?=some u→w.cell? (ad.add j)=some u):=Lib.hid (fun j u hj=>by
    by_cases hne:L=[]
    ·subst hne;simp [flat] at hj
    ·obtain ⟨b,o,e,_,hcell⟩:=HV.out.cells hne
     cases e
     rw [zl];exact hcell j u hj)
   obtain ⟨n,hn⟩:∃ n,L.length=n:=⟨_,rfl⟩
   have HN:=Lib.hid hn
   rw [hn] at hcap hL ⊢
   clear hn hp HV
   go_enter Tryz.func116,Tryz.ntmps116
   go_wp2_with (at_builtin;refine wpList_append_own _ rfl _ _ 48 rfl w.heap.size 76 i0 (.agg #[.string ⟨#[]⟩,.string ⟨#[]⟩,.string ⟨#[]⟩,.string ⟨#[]⟩,.int .i64 0,.int .i64 0]) 6 80 Tryz.underlying48 HI.out.1 HI.out.2.1 HI.out.2.2.1 HI.out.2.2.2 rfl (by decide) _ _ _ rfl (World.ownsRow_made w #[] 0 (Nat.le_refl _) (Nat.zero_le _) (by simp)) ad n c (flat encF L) rfl ?qc1 ?qc2 ?qc3 ?qc4 ?qc5 ?qc6 ?_)
   case qc1=>rw [qd,HN.out]
   case qc2=>exact fun j u hj=>Lib.cell?_alloc_some _ (HC.out j u hj)
   case qc3=>exact je L
   case qc4=>rw [Nat.zero_add];unfold maxLen;omega
   case qc5=>rw [Nat.zero_add];omega
   case qc6=>simp
   intro v' w1 hown hgrow hnil
   have HOW:Hid (w1.ownsRow w.heap.size 76 6 v' L.length (flat encF L)):=Lib.hid (by rw [HN.out];simpa using hown)
   have HBL:=Lib.hid (((Below.refl _ w).alloc (Nat.le_refl _) (.cells #[] 76)).grown hgrow (by simp) (by intro k hk;simp [Value.ownBlock] at hk;omega))
   clear hown hgrow hnil
   go_wp2
   go_ret
   exact ⟨v',rfl,HOW.out,HBL.out⟩
end Go.Proofs.YtdhfpgjnjlcciaaGreatDoor.Fa
end
section
namespace Go.Proofs.YtdhfpgjnjlcciaaGreatDoor
open Go.Sort
variable {α:Type} [Inhabited α]
def Asc (T:α→α→Prop) (a b:Nat) (d:Array α):Prop:=∀ i j,a≤i→i < j→j < b→T d[i]! d[j]!
def Keep (a b:Nat) (d d':Array α):Prop :=
 d'.size=d.size∧(∀ i,(i < a∨b≤i)→d'[i]! = d[i]!)∧∀ i,a≤i→i < b→∃ j,a≤j∧j < b∧d'[i]! = d[j]!
def Meet (lt:α→α→Bool) (T:α→α→Prop) (a m b:Nat) (d:Array α):Prop :=
 ∀ i j,a≤i→i < m→m≤j→j < b→(lt d[j]! d[i]! = true→T d[j]! d[i]!)∧(lt d[j]! d[i]! = false→T d[i]! d[j]!)
theorem Keep.refl (a b:Nat) (d:Array α):Keep a b d d:=⟨rfl,fun _ _=>rfl,fun i h1 h2=>⟨i,h1,h2,rfl⟩⟩
theorem Keep.trans {a b:Nat} {d d' d'':Array α} (h:Keep a b d d') (h':Keep a b d' d''):Keep a b d d'' :=
 ⟨h'.1.trans h.1,fun i hi=>(h'.2.1 i hi).trans (h.2.1 i hi),fun i h1 h2=>by
  obtain ⟨j,j1,j2,e⟩:=h'.2.2 i h1 h2
  obtain ⟨k,k1,k2,e'⟩:=h.2.2 j j1 j2
  exact ⟨k,k1,k2,e.trans e'⟩⟩
theorem Keep.wider {a b a' b':Nat} {d d':Array α} (h:Keep a b d d') (ha:a'≤a) (hb:b≤b'):Keep a' b' d d' :=
 ⟨h.1,fun i hi=>h.2.1 i (by omega),fun i h1 h2=>by
  by_cases hi:a≤i∧i < b
  ·obtain ⟨j,j1,j2,e⟩:=h.2.2 i hi.1 hi.2
   exact ⟨j,by omega,by omega,e⟩
  ·exact ⟨i,h1,h2,h.2.1 i (by omega)⟩⟩
theorem yW (d:Array α) {i j:Nat} (hi:i < d.size) (hj:j < d.size) (k:Nat):(swp d i j)[k]! = if k=j then d[i]! else if k=i then d[j]! else d[k]! := by
 by_cases h1:k=j
 ·subst h1;rw [if_pos rfl,swp_right d i k hj]
 ·rw [if_neg h1]
  by_cases h2:k=i
  ·subst h2;rw [if_pos rfl,swp_left d k j hi h1]
  ·rw [if_neg h2,swp_other d i j k h2 h1]
theorem Keep.swp {a b i j:Nat} (d:Array α) (hi:a≤i) (hi':i < b) (hj:a≤j) (hj':j < b) (hb:b≤d.size):Keep a b d (swp d i j) :=
 ⟨size_swp d i j,fun k hk=>by rw [yW d (by omega) (by omega),if_neg (by omega),if_neg (by omega)],fun k h1 h2=>by
  rw [yW d (by omega) (by omega)]
  by_cases e1:k=j
  ·rw [if_pos e1];exact ⟨i,hi,hi',rfl⟩
  ·rw [if_neg e1]
   by_cases e2:k=i
   ·rw [if_pos e2];exact ⟨j,hj,hj',rfl⟩
   ·rw [if_neg e2];exact ⟨k,h1,h2,rfl⟩⟩
theorem Keep.JO {a b:Nat} {d d':Array α} (hs:d'.size=d.size) (f:Nat→Nat) (hf:∀ k,d'[k]! = d[f k]!) (ho:∀ k,(k < a∨b≤k)→f k=k) (hi:∀ k,a≤k→k < b→a≤f k∧f k < b):Keep a b d d' :=
 ⟨hs,fun k hk=>by rw [hf,ho k hk],fun k h1 h2=>⟨f k,(hi k h1 h2).1,(hi k h1 h2).2,hf k⟩⟩
theorem Asc.zh {T:α→α→Prop} {a b lo hi:Nat} {d d':Array α} (h:Asc T a b d) (hk:Keep lo hi d d') (ho:b≤lo∨hi≤a):Asc T a b d':=by
 intro i j h1 h2 h3
 rw [hk.2.1 i (by omega),hk.2.1 j (by omega)]
 exact h i j h1 h2 h3
def swAt (a b n k:Nat):Nat:=if a≤k∧k < a+n then b+(k - a) else if b≤k∧k < b+n then a+(k - b) else k
def rotAt (lo m hi k:Nat):Nat:=if k < lo∨hi≤k then k else if k < lo+(hi - m) then k+(m - lo) else k - (hi - m)
theorem zcl (a b k:Nat):swAt a b 0 k=k:=by unfold swAt;rw [if_neg (by omega),if_neg (by omega)]
theorem zcr {d d':Array α} {a b i:Nat} (hs:d'.size=d.size) (h:∀ k,d'[k]! = d[swAt a b i k]!) (hab:a+i < b) (hb:b+i < d.size) (k:Nat) :
 (swp d' (a+i) (b+i))[k]! = d[swAt a b (i+1) k]! := by
 rw [yW d' (by omega) (by omega)]
 by_cases h1:k=b+i
 ·subst h1;rw [if_pos rfl,h];unfold swAt
  rw [if_neg (by omega),if_neg (by omega),if_neg (by omega),if_pos (by omega)];congr 1;omega
 ·rw [if_neg h1]
  by_cases h2:k=a+i
  ·subst h2;rw [if_pos rfl,h];unfold swAt
   rw [if_neg (by omega),if_neg (by omega),if_pos (by omega)];congr 1;omega
  ·rw [if_neg h2,h];unfold swAt
   by_cases h3:a≤k∧k < a+i
   ·rw [if_pos h3,if_pos (by omega)]
   ·rw [if_neg h3]
    by_cases h4:b≤k∧k < b+i
    ·rw [if_pos h4,if_neg (by omega),if_pos (by omega)]
    ·rw [if_neg h4,if_neg (by omega),if_neg (by omega)]
theorem zbX {lo m hi j k:Nat} (hlm:lo+j < m) (hh:hi=m+j):swAt lo m j (rotAt (lo+j) m hi k)=rotAt lo m hi k:=by
 subst hh
 unfold swAt rotAt
 (repeat' split) <;> omega
theorem zfu {lo m hi i k:Nat} (hlm:lo+i=m) (hh:m+i < hi):swAt lo (hi - i) i (rotAt lo m (hi - i) k)=rotAt lo m hi k:=by
 unfold swAt rotAt
 (repeat' split) <;> omega
theorem zdO {lo m hi i k:Nat} (hlm:lo+i=m) (hh:m+i=hi):swAt lo m i k=rotAt lo m hi k:=by
 unfold swAt rotAt
 (repeat' split) <;> omega
theorem Vp {d dk d':Array α} {a m b lo hi lo' hi' x y n:Nat} (h:∀ k,d[rotAt a m b k]! = dk[rotAt lo m hi k]!) (hd:∀ k,d'[k]! = dk[swAt x y n k]!)
 (e:∀ k,swAt x y n (rotAt lo' m hi' k)=rotAt lo m hi k) (k:Nat):d[rotAt a m b k]! = d'[rotAt lo' m hi' k]! := by rw [h,hd,e]
def upAt (a i k:Nat):Nat:=if a≤k∧k+1 < i then k+1 else if k+1=i∧a≤k then a else k
def dnAt (i m k:Nat):Nat:=if i < k∧k≤m then k - 1 else if k=i then m else k
theorem zcv {d d':Array α} {a k:Nat} (hs:d'.size=d.size) (h:∀ x,d'[x]! = d[upAt a (k+1) x]!) (hak:a≤k) (hb:k+1 < d.size) (x:Nat):(swp d' k (k+1))[x]! = d[upAt a (k+2) x]! := by
 rw [yW d' (by omega) (by omega)]
 by_cases h1:x=k+1
 ·subst h1;rw [if_pos rfl,h];congr 1;unfold upAt;(repeat' split) <;> omega
 ·rw [if_neg h1]
  by_cases h2:x=k
  ·subst h2;rw [if_pos rfl,h];congr 1;unfold upAt;(repeat' split) <;> omega
  ·rw [if_neg h2,h];congr 1;unfold upAt;(repeat' split) <;> omega
theorem zet {d d':Array α} {m k:Nat} (hs:d'.size=d.size) (h:∀ x,d'[x]! = d[dnAt (k+1) m x]!) (hkm:k+1≤m) (hb:m < d.size) (x:Nat):(swp d' (k+1) k)[x]! = d[dnAt k m x]! := by
 rw [yW d' (by omega) (by omega)]
 by_cases h1:x=k
 ·subst h1;rw [if_pos rfl,h];congr 1;unfold dnAt;(repeat' split) <;> omega
 ·rw [if_neg h1]
  by_cases h2:x=k+1
  ·subst h2;rw [if_pos rfl,h];congr 1;unfold dnAt;(repeat' split) <;> omega
  ·rw [if_neg h2,h];congr 1;unfold dnAt;(repeat' split) <;> omega
theorem zjj (a x:Nat):upAt a (a+1) x=x:=by unfold upAt;(repeat' split) <;> omega
theorem zbI (m x:Nat):dnAt m m x=x:=by unfold dnAt;(repeat' split) <;> omega
section
variable {lt:α→α→Bool} {T:α→α→Prop}
theorem zfF {a b i:Nat} {d d':Array α} (hA:Asc T (a+1) b d) (hi:a+1≤i) (hib:i≤b) (hl:∀ k,a+1≤k→k < i→T d[k]! d[a]!) (hr:∀ k,i≤k→k < b→T d[a]! d[k]!)
 (hs:d'.size=d.size) (h:∀ x,d'[x]! = d[upAt a i x]!):Keep a b d d'∧Asc T a b d':=by
 refine ⟨Keep.JO hs _ h (fun k hk=>by unfold upAt;(repeat' split) <;> omega) (fun k h1 h2=>by unfold upAt;(repeat' split) <;> omega),?_⟩
 intro x y hx hxy hy
 rw [h,h]
 by_cases e1:y+1 < i
 ·have ex:upAt a i x=x+1:=by unfold upAt;(repeat' split) <;> omega
  have ey:upAt a i y=y+1:=by unfold upAt;(repeat' split) <;> omega
  rw [ex,ey];exact hA _ _ (by omega) (by omega) (by omega)
 ·by_cases e2:y+1=i
  ·have ex:upAt a i x=x+1:=by unfold upAt;(repeat' split) <;> omega
   have ey:upAt a i y=a:=by unfold upAt;(repeat' split) <;> omega
   rw [ex,ey];exact hl _ (by omega) (by omega)
  ·have ey:upAt a i y=y:=by unfold upAt;(repeat' split) <;> omega
   rw [ey]
   by_cases e3:x+1 < i
   ·have ex:upAt a i x=x+1:=by unfold upAt;(repeat' split) <;> omega
    rw [ex];exact hA _ _ (by omega) (by omega) (by omega)
   ·by_cases e4:x+1=i
    ·have ex:upAt a i x=a:=by unfold upAt;(repeat' split) <;> omega
     rw [ex];exact hr _ (by omega) (by omega)
    ·have ex:upAt a i x=x:=by unfold upAt;(repeat' split) <;> omega
     rw [ex];exact hA _ _ (by omega) (by omega) (by omega)
theorem zgs {a m i:Nat} {d d':Array α} (hA:Asc T a m d) (hi:a≤i) (him:i≤m) (hl:∀ k,a≤k→k < i→T d[k]! d[m]!) (hr:∀ k,i≤k→k < m→T d[m]! d[k]!)
 (hs:d'.size=d.size) (h:∀ x,d'[x]! = d[dnAt i m x]!):Keep a (m+1) d d'∧Asc T a (m+1) d':=by
 refine ⟨Keep.JO hs _ h (fun k hk=>by unfold dnAt;(repeat' split) <;> omega) (fun k h1 h2=>by unfold dnAt;(repeat' split) <;> omega),?_⟩
 intro x y hx hxy hy
 rw [h,h]
 by_cases e1:y < i
 ·have ex:dnAt i m x=x:=by unfold dnAt;(repeat' split) <;> omega
  have ey:dnAt i m y=y:=by unfold dnAt;(repeat' split) <;> omega
  rw [ex,ey];exact hA _ _ (by omega) (by omega) (by omega)
 ·by_cases e2:y=i
  ·have ex:dnAt i m x=x:=by unfold dnAt;(repeat' split) <;> omega
   have ey:dnAt i m y=m:=by unfold dnAt;(repeat' split) <;> omega
   rw [ex,ey];exact hl _ (by omega) (by omega)
  ·have ey:dnAt i m y=y - 1:=by unfold dnAt;(repeat' split) <;> omega
   rw [ey]
   by_cases e3:x < i
   ·have ex:dnAt i m x=x:=by unfold dnAt;(repeat' split) <;> omega
    rw [ex];exact hA _ _ (by omega) (by omega) (by omega)
   ·by_cases e4:x=i
    ·have ex:dnAt i m x=m:=by unfold dnAt;(repeat' split) <;> omega
     rw [ex];exact hr _ (by omega) (by omega)
    ·have ex:dnAt i m x=x - 1:=by unfold dnAt;(repeat' split) <;> omega
     rw [ex];exact hA _ _ (by omega) (by omega) (by omega)
def mid0 (a b:Nat):Nat:=(a+b) / 2
def st0 (a m b:Nat):Nat:=if mid0 a b < m then mid0 a b+m - b else a
def en0 (a m b:Nat):Nat:=if mid0 a b < m then mid0 a b else m
def Found (T:α→α→Prop) (a m b s:Nat) (d:Array α):Prop :=
 st0 a m b≤s∧s≤en0 a m b∧(∀ c,st0 a m b≤c→c < s→T d[c]! d[mid0 a b+m - 1 - c]!)∧∀ c,s≤c→c < en0 a m b→T d[mid0 a b+m - 1 - c]! d[c]!
theorem KY {a m b:Nat} (h1:a < m) (h2:m < b):a≤st0 a m b∧st0 a m b≤en0 a m b∧en0 a m b≤m∧en0 a m b≤mid0 a b∧mid0 a b+m≤b+st0 a m b∧a < mid0 a b∧mid0 a b < b:=by
 unfold st0 en0 mid0;(repeat' split) <;> omega
theorem Xd (hT:∀ x y z,T x y→T y z→T x z) {a m b s M e:Nat} {d d1:Array α} (h1:a < m) (h2:m < b) (hL:Asc T a m d) (hR:Asc T m b d) (hM:Meet lt T a m b d) (hf:Found T a m b s d)
 (hM0:mid0 a b=M) (he:e+s=M+m) (hs:d1.size=d.size) (h:∀ k,d1[k]! = d[rotAt s m e k]!) :
 Keep a b d d1∧Asc T a s d1∧Asc T s M d1∧Meet lt T a s M d1∧Asc T M e d1∧Asc T e b d1∧Meet lt T M e b d1 ∧
  ∀ i j,a≤i→i < M→M≤j→j < b→T d1[i]! d1[j]! := by
 obtain ⟨b1,b2,b3,b4,b5,b6,b7⟩:=KY h1 h2
 obtain ⟨f1,f2,f3,f4⟩:=hf
 simp only [hM0] at b4 b5 b6 b7 f3 f4
 have r1:∀ k,k < s→rotAt s m e k=k:=fun k hk=>by unfold rotAt;rw [if_pos (by omega)]
 have r2:∀ k,s≤k→k < M→rotAt s m e k=k+(m - s):=fun k hk hk'=>by unfold rotAt;rw [if_neg (by omega),if_pos (by omega)]
 have r3:∀ k,M≤k→k < e→rotAt s m e k=k - (e - m):=fun k hk hk'=>by unfold rotAt;rw [if_neg (by omega),if_neg (by omega)]
 have r4:∀ k,e≤k→rotAt s m e k=k:=fun k hk=>by unfold rotAt;rw [if_pos (by omega)]
 have x1:∀ i j,a≤i→i < s→e≤j→j < b→T d[i]! d[j]! := fun i j i1 i2 j1 j2=>by
  have hs':st0 a m b < s:=by
   rcases Nat.lt_or_ge (st0 a m b) s with h | h
   ·exact h
   ·exfalso
    have:s=st0 a m b:=by omega
    unfold st0 at this
    rw [hM0] at this
    split at this <;> omega
  have:=f3 (s - 1) (by omega) (by omega)
  rw [show M+m - 1 - (s - 1)=e by omega] at this
  have t1:T d[i]! d[e]! := by
   by_cases h:i=s - 1
   ·rw [h];exact this
   ·exact hT _ _ _ (hL i (s - 1) i1 (by omega) (by omega)) this
  by_cases h:j=e
  ·rw [h];exact t1
  ·exact hT _ _ _ t1 (hR e j (by omega) (by omega) j2)
 have x2:∀ i j,s≤i→i < m→m≤j→j < e→T d[j]! d[i]! := fun i j i1 i2 j1 j2=>by
  have hs':s < en0 a m b:=by
   rcases Nat.lt_or_ge s (en0 a m b) with h | h
   ·exact h
   ·exfalso
    have:s=en0 a m b:=by omega
    unfold en0 at this
    rw [hM0] at this
    split at this <;> omega
  have:=f4 s (by omega) hs'
  rw [show M+m - 1 - s=e - 1 by omega] at this
  have t1:T d[j]! d[s]! := by
   by_cases h:j=e - 1
   ·rw [h];exact this
   ·exact hT _ _ _ (hR j (e - 1) j1 (by omega) (by omega)) this
  by_cases h:i=s
  ·rw [h];exact t1
  ·exact hT _ _ _ t1 (hL s i (by omega) (by omega) i2)
 refine ⟨?_,?_,?_,?_,?_,?_,?_,?_⟩
 ·exact Keep.JO hs _ h (fun k hk=>by unfold rotAt;(repeat' split) <;> omega) (fun k h1 h2=>by unfold rotAt;(repeat' split) <;> omega)
 ·intro i j i1 i2 i3
  rw [h,h,r1 i (by omega),r1 j (by omega)];exact hL _ _ i1 i2 (by omega)
 ·intro i j i1 i2 i3
  rw [h,h,r2 i (by omega) (by omega),r2 j (by omega) (by omega)];exact hR _ _ (by omega) (by omega) (by omega)
 ·intro i j i1 i2 j1 j2
  rw [h i,h j,r1 i (by omega),r2 j (by omega) (by omega)];exact hM _ _ i1 (by omega) (by omega) (by omega)
 ·intro i j i1 i2 i3
  rw [h,h,r3 i (by omega) (by omega),r3 j (by omega) (by omega)];exact hL _ _ (by omega) (by omega) (by omega)
 ·intro i j i1 i2 i3
  rw [h,h,r4 i (by omega),r4 j (by omega)];exact hR _ _ (by omega) (by omega) (by omega)
 ·intro i j i1 i2 j1 j2
  rw [h i,h j,r3 i (by omega) (by omega),r4 j (by omega)];exact hM _ _ (by omega) (by omega) (by omega) (by omega)
 ·intro i j i1 i2 j1 j2
  rw [h i,h j]
  by_cases c1:i < s
  ·rw [r1 i c1]
   by_cases c2:j < e
   ·rw [r3 j j1 c2];exact hL _ _ i1 (by omega) (by omega)
   ·rw [r4 j (by omega)];exact x1 _ _ i1 c1 (by omega) j2
  ·rw [r2 i (by omega) i2]
   by_cases c2:j < e
   ·rw [r3 j j1 c2];exact x2 _ _ (by omega) (by omega) (by omega) (by omega)
   ·rw [r4 j (by omega)];exact hR _ _ (by omega) (by omega) (by omega)
theorem zK {a M b:Nat} {d1 d2 d3:Array α} (ha:a≤M) (hb:M≤b) (hx:∀ i j,a≤i→i < M→M≤j→j < b→T d1[i]! d1[j]!) (k2:Keep a M d1 d2) (a2:Asc T a M d2) (k3:Keep M b d2 d3) (a3:Asc T M b d3) :
 Keep a b d1 d3∧Asc T a b d3:=by
 refine ⟨(k2.wider (Nat.le_refl _) hb).trans (k3.wider ha (Nat.le_refl _)),fun i j h1 h2 h3=>?_⟩
 by_cases c1:j < M
 ·rw [k3.2.1 i (by omega),k3.2.1 j (by omega)];exact a2 i j h1 h2 c1
 ·by_cases c2:M≤i
  ·exact a3 i j c2 h2 h3
  ·rw [k3.2.1 i (by omega)]
   obtain ⟨j',j1,j2,e⟩:=k3.2.2 j (by omega) h3
   obtain ⟨i',i1,i2,e'⟩:=k2.2.2 i h1 (by omega)
   rw [e,k2.2.1 j' (by omega),e']
   exact hx _ _ i1 i2 j1 j2
theorem Meet.keep {a m b a2 b2:Nat} {d d':Array α} (h:Meet lt T a m b d) (hk:Keep a2 b2 d d') (ho:b≤a2∨b2≤a):Meet lt T a m b d':=by
 intro i j h1 h2 h3 h4
 rw [hk.2.1 i (by omega),hk.2.1 j (by omega)]
 exact h i j h1 h2 h3 h4
theorem zfB (hT:∀ x y z,T x y→T y z→T x z) (a i:Nat) (x:α):∀ (j:Nat) (d:Array α),a≤j→j≤i→i < d.size→d[j]! = x →
 (∀ p q,a≤p→p < q→q≤i→p≠j→q≠j→T d[p]! d[q]!)→(∀ q,j < q→q≤i→T x d[q]!)→(∀ p,a≤p→p≤i→p≠j→(lt x d[p]! = true→T x d[p]!)∧(lt x d[p]! = false→T d[p]! x)) →
 Keep a (i+1) d (insInner lt a j d)∧Asc T a (i+1) (insInner lt a j d):=by
 intro j
 induction j with
 | zero =>
   intro d h1 h2 hs hx hA hB hM
   rw [insInner]
   refine ⟨Keep.refl _ _ _,fun p q p1 p2 p3=>?_⟩
   by_cases c:p=0
   ·subst c;rw [hx];exact hB q p2 (by omega)
   ·exact hA p q p1 p2 (by omega) c (by omega)
 | succ j ih =>
   intro d h1 h2 hs hx hA hB hM
   have stop:(j+1≤a∨lt d[j+1]! d[j]! = false)→Keep a (i+1) d (insInner lt a (j+1) d)∧Asc T a (i+1) (insInner lt a (j+1) d):=fun hst=>by
    rw [insInner_stop lt a (j+1) d (by simpa using hst)]
    refine ⟨Keep.refl _ _ _,fun p q p1 p2 p3=>?_⟩
    by_cases c1:p=j+1
    ·subst c1;rw [hx];exact hB q p2 (by omega)
    ·by_cases c2:q=j+1
     ·subst c2
      rcases hst with hst | hst
      ·omega
      ·rw [hx] at hst ⊢
       have t:=(hM j (by omega) (by omega) (by omega)).2 hst
       by_cases c3:p=j
       ·subst c3;exact t
       ·exact hT _ _ _ (hA p j p1 (by omega) (by omega) c1 (by omega)) t
     ·exact hA p q p1 p2 (by omega) c1 c2
   by_cases haj:a < j+1
   ·cases hlv:lt d[j+1]! d[j]! with
    | false=>exact stop (.inr hlv)
    | true =>
      rw [insInner_go lt a (j+1) d haj (by simpa using hlv)]
      simp only [Nat.add_sub_cancel]
      rw [hx] at hlv
      have g:∀ k,(swp d (j+1) j)[k]! = if k=j then d[j+1]! else if k=j+1 then d[j]! else d[k]! := fun k=>yW d (by omega) (by omega) k
      have:=ih (swp d (j+1) j) (by omega) (by omega) (by rw [size_swp];exact hs) (by rw [g,if_pos rfl,hx]) ?_ ?_ ?_
      ·exact ⟨(Keep.swp d (by omega) (by omega) (by omega) (by omega) (by omega)).trans this.1,this.2⟩
      ·intro p q p1 p2 p3 p4 p5
       rw [g p,g q,if_neg p4,if_neg p5]
       by_cases c1:p=j+1
       ·subst c1;rw [if_pos rfl,if_neg (by omega)];exact hA j q (by omega) (by omega) p3 (by omega) (by omega)
       ·rw [if_neg c1]
        by_cases c2:q=j+1
        ·rw [if_pos c2];exact hA p j p1 (by omega) (by omega) c1 (by omega)
        ·rw [if_neg c2];exact hA p q p1 p2 p3 c1 c2
      ·intro q q1 q2
       rw [g q,if_neg (by omega)]
       by_cases c1:q=j+1
       ·rw [if_pos c1];exact (hM j (by omega) (by omega) (by omega)).1 hlv
       ·rw [if_neg c1];exact hB q (by omega) q2
      ·intro p p1 p2 p3
       rw [g p,if_neg p3]
       by_cases c1:p=j+1
       ·rw [if_pos c1];exact hM j (by omega) (by omega) (by omega)
       ·rw [if_neg c1];exact hM p p1 p2 c1
   ·exact stop (.inl (by omega))
theorem zhX (hT:∀ x y z,T x y→T y z→T x z) (a b:Nat):∀ (n i:Nat) (d:Array α),b - i≤n→a < i→i≤b→b≤d.size→Asc T a i d→(∀ k,i≤k→k < b→Meet lt T a k (k+1) d) →
 (∀ k l,i≤k→k < l→l < b→(lt d[l]! d[k]! = true→T d[l]! d[k]!)∧(lt d[l]! d[k]! = false→T d[k]! d[l]!))→Keep a b d (insOuter lt a b i d)∧Asc T a b (insOuter lt a b i d):=by
 intro n
 induction n with
 | zero =>
   intro i d hn hai hib hs hA _ _
   rw [insOuter_stop lt a b i d (by omega)]
   rw [show b=i by omega]
   exact ⟨Keep.refl _ _ _,hA⟩
 | succ n ih =>
   intro i d hn hai hib hs hA hM hM2
   by_cases hlt:i < b
   ·rw [insOuter_go lt a b i d hlt]
    have h:=zfB (lt:=lt) hT a i d[i]! i d (by omega) (Nat.le_refl _) (by omega) rfl (fun p q p1 p2 p3 p4 p5=>hA p q p1 p2 (by omega)) (fun q q1 q2=>by omega)
     (fun p p1 p2 p3=>hM i (Nat.le_refl _) hlt p i p1 (by omega) (Nat.le_refl _) (by omega))
    have h':=ih (i+1) _ (by omega) (by omega) (by omega) (by rw [h.1.1];exact hs) h.2 ?_ ?_
    ·exact ⟨(h.1.wider (Nat.le_refl _) (by omega)).trans h'.1,h'.2⟩
    ·intro k k1 k2 p q p1 p2 q1 q2
     obtain rfl:q=k:=by omega
     rw [h.1.2.1 q (by omega)]
     by_cases c:p < i+1
     ·obtain ⟨p',p3,p4,e⟩:=h.1.2.2 p p1 c
      rw [e]
      by_cases c2:p'=i
      ·rw [c2];exact hM2 i q (Nat.le_refl _) (by omega) k2
      ·exact hM q (by omega) k2 p' q p3 (by omega) (Nat.le_refl _) (by omega)
     ·rw [h.1.2.1 p (by omega)]
      exact hM2 p q (by omega) p2 k2
    ·intro k l k1 k2 k3
     rw [h.1.2.1 k (by omega),h.1.2.1 l (by omega)]
     exact hM2 k l (by omega) k2 k3
   ·rw [insOuter_stop lt a b i d hlt,show b=i by omega]
    exact ⟨Keep.refl _ _ _,hA⟩
theorem ziH (hT:∀ x y z,T x y→T y z→T x z) {a b:Nat} {d:Array α} (hab:a≤b) (hs:b≤d.size)
 (hM:∀ k l,a≤k→k < l→l < b→(lt d[l]! d[k]! = true→T d[l]! d[k]!)∧(lt d[l]! d[k]! = false→T d[k]! d[l]!)):Keep a b d (insertionSort lt d a b)∧Asc T a b (insertionSort lt d a b):=by
 unfold insertionSort
 by_cases h:a < b
 ·exact zhX hT a b _ (a+1) d (Nat.le_refl _) (by omega) (by omega) hs (fun i j h1 h2 h3=>by omega) (fun k k1 k2 p q p1 p2 q1 q2=>hM p q p1 (by omega) (by omega)) (fun k l k1 k2 k3=>hM k l (by omega) k2 k3)
 ·rw [insOuter_stop lt a b _ d (by omega)]
  exact ⟨Keep.refl _ _ _,fun i j h1 h2 h3=>by omega⟩
end
end Go.Proofs.YtdhfpgjnjlcciaaGreatDoor
end
section
namespace Go.Proofs.YtdhfpgjnjlcciaaGreatDoor
open Go.Shelf Go.RowKit Go.Lib Go.Sort
structure SortL (P:Program) (k:Nat):Prop where
 mixed:P.follows .mixedOrders=true
 f43:P.funcs[117]?=some Tryz.f117
 f51:P.funcs[160]?=some Tryz.f160
 f54:P.funcs[193]?=some Tryz.f193
 f55:P.funcs[213]?=some Tryz.f213
 f56:P.funcs[226]?=some Tryz.f226
 ins:SlLaysF0.n20 P ⟨fun | 20=>192 | n=>n,fun | 24=>76 | 22=>48 | 3=>3 | 25=>213 | 4=>4 | 0=>0 | n=>n,fun n=>n⟩
 t0:P.underlying 0=some (TypeDesc.tuple #[])
 a0:∀ w,(isAgg 0).run P w=.ok false w
 z0:∀ w,(Go.sizeOf 0).run P w=.ok 1 w
 v0:∀ w,(zeroValue 0).run P w=.ok (Value.tuple #[]) w
 t3:P.underlying 3=some (TypeDesc.int IntKind.i64)
 a3:∀ w,(isAgg 3).run P w=.ok false w
 z3:∀ w,(Go.sizeOf 3).run P w=.ok 1 w
 v3:∀ w,(zeroValue 3).run P w=.ok (Value.int IntKind.i64 0) w
 t4:P.underlying 4=some (TypeDesc.bool)
 a4:∀ w,(isAgg 4).run P w=.ok false w
 z4:∀ w,(Go.sizeOf 4).run P w=.ok 1 w
 v4:∀ w,(zeroValue 4).run P w=.ok (Value.bool false) w
 t29:P.underlying 48=some (TypeDesc.slice 76)
 a29:∀ w,(isAgg 48).run P w=.ok false w
 z29:∀ w,(Go.sizeOf 48).run P w=.ok 1 w
 v29:∀ w,(zeroValue 48).run P w=.ok (Value.slice none 0 0) w
 t83:P.underlying 213=some (TypeDesc.func #[76,76] #[3] false)
 a83:∀ w,(isAgg 213).run P w=.ok false w
 z83:∀ w,(Go.sizeOf 213).run P w=.ok 1 w
 v83:∀ w,(zeroValue 213).run P w=.ok (Value.nilFunc) w
 t90:P.underlying 200=some (TypeDesc.int IntKind.u64)
 a90:∀ w,(isAgg 200).run P w=.ok false w
 z90:∀ w,(Go.sizeOf 200).run P w=.ok 1 w
 v90:∀ w,(zeroValue 200).run P w=.ok (Value.int IntKind.u64 0) w
 aE:∀ w,(isAgg 76).run P w=.ok true w
 zE:∀ w,(Go.sizeOf 76).run P w=.ok k w
theorem sortL:SortL Tryz.prog 6:={
 mixed:=by kernel_rfl
 f43:=Tryz.func117
 f51:=Tryz.func160
 f54:=Tryz.func193
 f55:=Tryz.func213
 f56:=Tryz.func226
 ins:={
  mixed:=by kernel_rfl
  f20:=⟨Tryz.f192.name,by decide,Tryz.func192.trans (congrArg some (by kernel_rfl))⟩
  t0:=Tryz.underlying0
  a0:=Tryz.isAgg0
  z0:=Tryz.sizeOf0
  v0:=Tryz.zeroValue0
  t3:=Tryz.underlying3
  a3:=Tryz.isAgg3
  z3:=Tryz.sizeOf3
  v3:=Tryz.zeroValue3
  t4:=Tryz.underlying4
  a4:=Tryz.isAgg4
  z4:=Tryz.sizeOf4
  v4:=Tryz.zeroValue4
  t22:=Tryz.underlying48
  a22:=Tryz.isAgg48
  z22:=Tryz.sizeOf48
  v22:=Tryz.zeroValue48
  t25:=Tryz.underlying213
  a25:=Tryz.isAgg213
  z25:=Tryz.sizeOf213
  v25:=Tryz.zeroValue213 }
 t0:=Tryz.underlying0
 a0:=Tryz.isAgg0
 z0:=Tryz.sizeOf0
 v0:=Tryz.zeroValue0
 t3:=Tryz.underlying3
 a3:=Tryz.isAgg3
 z3:=Tryz.sizeOf3
 v3:=Tryz.zeroValue3
 t4:=Tryz.underlying4
 a4:=Tryz.isAgg4
 z4:=Tryz.sizeOf4
 v4:=Tryz.zeroValue4
 t29:=Tryz.underlying48
 a29:=Tryz.isAgg48
 z29:=Tryz.sizeOf48
 v29:=Tryz.zeroValue48
 t83:=Tryz.underlying213
 a83:=Tryz.isAgg213
 z83:=Tryz.sizeOf213
 v83:=Tryz.zeroValue213
 t90:=Tryz.underlying200
 a90:=Tryz.isAgg200
 z90:=Tryz.sizeOf200
 v90:=Tryz.zeroValue200
 aE:=Tryz.isAgg76
 zE:=Tryz.sizeOf76 }
end Go.Proofs.YtdhfpgjnjlcciaaGreatDoor
end
section
namespace Go.Proofs.YtdhfpgjnjlcciaaGreatDoor
open Go.Shelf Go.RowKit Go.Lib Go.Sort
variable {P:Program} {K:Nat} {α:Type} [Inhabited α]
set_option maxHeartbeats 4000000 in
set_option maxRecDepth 1000000 in
theorem J9 (L:SortL P K) (enc:α→List Value) (cv:Value) (blk off cap a b n:Nat) (d0 d:Array α) (w0 w:World)
 (R:RowK enc K w0 blk off d0) (hs:d0.size=d.size) (S:SWK enc K w0 blk off d w) (hab:a+n≤b) (hb:b+n≤d.size) (hsz:d.size < 4611686018427387904) :
 Calls P 226 #[.slice (some ⟨blk,off,none⟩) d.size cap,.int .i64 a,.int .i64 b,.int .i64 n,cv] w fun e w'=>e=.returned (.tuple #[]) ∧
  ∃ d',d'.size=d.size∧(∀ k,d'[k]! = d[swAt a b n k]!)∧SWK enc K w0 blk off d' w':=by
 have S0:Aside (SWK enc K w0 blk off d w):=S
 clear S
 have mixed:=L.mixed;have t0:=L.t0;have a0:=L.a0;have z0:=L.z0;have v0:=L.v0;have t3:=L.t3;have a3:=L.a3;have z3:=L.z3;have v3:=L.v3;have t4:=L.t4;have a4:=L.a4;have z4:=L.z4;have v4:=L.v4;have t29:=L.t29;have a29:=L.a29;have z29:=L.z29;have v29:=L.v29;have t83:=L.t83;have a83:=L.a83;have z83:=L.z83;have v83:=L.v83;have t90:=L.t90;have a90:=L.a90;have z90:=L.z90;have v90:=L.v90;have aE:=L.aE;have zE:=L.zE
 go_enter L.f56,Tryz.ntmps226
 go_wp2
 go_loopg [10] n (fun kx vi wr=>∃ (i:Nat) (dk:Array α),vi=.int .i64 i∧i≤n∧n - i≤kx∧dk.size=d.size∧Aside (SWK enc K w0 blk off dk wr)∧Hid (∀ k,dk[k]! = d[swAt a b i k]!))
 case atStart=>exact ⟨0,d,rfl,Nat.zero_le _,by omega,rfl,S0,fun k=>by rw [zcl]⟩
 case round =>
  clear S0
  obtain ⟨i,dk,rfl,hin,hkx,hds,S1,HE⟩:=hrel
  by_cases hlt:i < n
  ·have hltz:(i:Int) < (n:Int):=by omega
   go_wp2_with fail
   obtain ⟨iN,hiN⟩:∃ q,q=a+i:=⟨_,rfl⟩
   obtain ⟨jN,hjN⟩:∃ q,q=b+i:=⟨_,rfl⟩
   have ea:((a:Int)+(i:Int)).toNat=iN:=by omega
   have pa:(0:Int)≤(a:Int)+(i:Int):=by omega
   have ba:(a:Int)+(i:Int) < (d.size:Int):=by omega
   have ra:IntKind.i64.wrap ((a:Int)+(i:Int))=(a:Int)+(i:Int):=by rw [IntKind.wrap_i64];omega
   have ec:((b:Int)+(i:Int)).toNat=jN:=by omega
   have pc:(0:Int)≤(b:Int)+(i:Int):=by omega
   have bc:(b:Int)+(i:Int) < (d.size:Int):=by omega
   have rc:IntKind.i64.wrap ((b:Int)+(i:Int))=(b:Int)+(i:Int):=by rw [IntKind.wrap_i64];omega
   obtain ⟨x,hx⟩:∃ x,x=dk[a+i]! := ⟨_,rfl⟩
   obtain ⟨y,hy⟩:∃ x,x=dk[b+i]! := ⟨_,rfl⟩
   have S2:Aside (SWK enc K w0 blk off (swp dk (a+i) (b+i)) ((wr.drew.setCells blk (off+iN * K) (enc y)).setCells blk (off+jN * K) (enc x))):=by rw [hiN,hjN,hx,hy];exact S1.out.swapped R (a+i) (b+i) (by omega) (by omega)
   have l1:=S1.out.ld1 R (by omega) P (a+i) (by omega)
   have l2:=S1.out.ld1 R (by omega) P (b+i) (by omega)
   have s1:=S1.out.st1 R (by omega) P (a+i) (by omega) y
   have s2:=S1.out.st2 R (by omega) P (a+i) (b+i) (by omega) (by omega) y x
   have n1:(enc x).length=K:=R.hk _
   have n2:(enc y).length=K:=R.hk _
   rw [←hx,←hiN] at l1
   rw [←hy,←hjN] at l2
   rw [←hiN] at s1
   rw [←hiN,←hjN] at s2
   generalize enc x=cx at S2 l1 s2 n1
   generalize enc y=cy at S2 l2 s1 s2 n2
   clear S1 hx hy hiN hjN
   go_wp2_with fail
   go_big_region_o
   clear l1 l2 s1 s2
   generalize (wr.drew.setCells blk (off+iN * K) cy).setCells blk (off+jN * K) cx=w2 at S2 ⊢
   clear ea ec
   go_wp2
   go_roundg (n - (i+1))
   case measure=>omega
   case rel=>exact ⟨i+1,swp dk (a+i) (b+i),by simp,by omega,Nat.le_refl _,by rw [size_swp];exact hds,S2,fun k=>zcr hds HE.out (by omega) (by omega) k⟩
  ·have hltz:¬ (i:Int) < (n:Int):=by omega
   go_wp2
   go_end0
   obtain rfl:i=n:=by omega
   exact ⟨rfl,dk,hds,HE.out,S1.out⟩
set_option maxHeartbeats 4000000 in
set_option maxRecDepth 1000000 in
theorem zcU (L:SortL P K) (enc:α→List Value) (cv:Value) (blk off cap a m b:Nat) (d0 d:Array α) (w0 w:World)
 (R:RowK enc K w0 blk off d0) (hs:d0.size=d.size) (S:SWK enc K w0 blk off d w) (ham:a < m) (hmb:m < b) (hb:b≤d.size) (hsz:d.size < 4611686018427387904) :
 Calls P 213 #[.slice (some ⟨blk,off,none⟩) d.size cap,.int .i64 a,.int .i64 m,.int .i64 b,cv] w fun e w'=>e=.returned (.tuple #[]) ∧
  ∃ d',d'.size=d.size∧(∀ k,d'[k]! = d[rotAt a m b k]!)∧SWK enc K w0 blk off d' w':=by
 have S0:Aside (SWK enc K w0 blk off d w):=S
 have HS:=Lib.hid hs
 clear S hs
 have mixed:=L.mixed;have t0:=L.t0;have a0:=L.a0;have z0:=L.z0;have v0:=L.v0;have t3:=L.t3;have a3:=L.a3;have z3:=L.z3;have v3:=L.v3;have t4:=L.t4;have a4:=L.a4;have z4:=L.z4;have v4:=L.v4;have t29:=L.t29;have a29:=L.a29;have z29:=L.z29;have v29:=L.v29;have t83:=L.t83;have a83:=L.a83;have z83:=L.z83;have v83:=L.v83;have t90:=L.t90;have a90:=L.a90;have z90:=L.z90;have v90:=L.v90;have aE:=L.aE;have zE:=L.zE
 have e56:∀ args w,(callFunc 226 args).run P w=.ok (.enter 226 args) w:=enters_of L.f56 (by kernel_rfl) rfl
 go_enter L.f55,Tryz.ntmps213
 go_wp2
 go_loopg [10,11] (b - a) (fun kx vi vj wr=>∃ (i j:Nat) (dk:Array α),vi=.int .i64 i∧vj=.int .i64 j∧0 < i∧0 < j∧a+i≤m∧m+j≤b∧i+j≤kx∧Hid (dk.size=d.size)∧Aside (SWK enc K w0 blk off dk wr)∧Hid (∀ k,d[rotAt a m b k]! = dk[rotAt (m - i) m (m+j) k]!))
 case atStart =>
  refine ⟨m - a,b - m,d,by rw [show ((m - a:Nat):Int)=(m:Int) - (a:Int) by omega],by rw [show ((b - m:Nat):Int)=(b:Int) - (m:Int) by omega],by omega,by omega,by omega,by omega,by omega,rfl,S0,fun k=>?_⟩
  rw [show m - (m - a)=a by omega,show m+(b - m)=b by omega]
 case round =>
  clear S0
  obtain ⟨i,j,dk,rfl,rfl,hi0,hj0,hia,hjb,hkx,HD,S1,HE⟩:=hrel
  rcases Nat.lt_trichotomy i j with hij | hij | hij
  ·have hne:((i:Int) != (j:Int))=true:=by rw [bne_iff_ne];omega
   have hng:¬ (j:Int) < (i:Int):=by omega
   have hc:=fun W hW=>J9 L enc cv blk off cap (m - i) (m+j - i) i d0 dk w0 W R (by rw [HS.out,HD.out]) hW (by omega) (by rw [HD.out];omega) (by rw [HD.out];exact hsz)
   have HC:=Lib.hid hc
   clear hc
   have e1:((m - i:Nat):Int)=(m:Int) - (i:Int):=by omega
   have e2:((m+j - i:Nat):Int)=(m:Int)+(j:Int) - (i:Int):=by omega
   have HC2:=HC.out wr S1.out
   rw [HD.out,e1,e2] at HC2
   have HC3:=Lib.hid HC2
   clear HC HC2 e1 e2
   go_wp2_with (go_at_fn 226;refine HC3.out.mono ?_;rintro e w' ⟨rfl,d',h1,h2,h3⟩)
   have H1:=Lib.hid h1
   have H2:=Lib.hid h2
   have H3:Aside _:=h3
   clear h1 h2 h3 S1
   go_wp2
   go_roundg (i+(j - i))
   case measure=>omega
   case rel =>
    refine ⟨i,j - i,d',rfl,by rw [show ((j - i:Nat):Int)=(j:Int) - (i:Int) by omega],hi0,by omega,by omega,by omega,Nat.le_refl _,H1.out,H3,?_⟩
    exact Vp HE.out H2.out (fun k=>by
     rw [show m+(j - i)=m+j - i by omega]
     exact zfu (by omega) (by omega))
  ·subst hij
   have hne:((i:Int) != (i:Int))=false:=by simp
   have e1:((m - i:Nat):Int)=(m:Int) - (i:Int):=by omega
   have HC2:=J9 L enc cv blk off cap (m - i) m i d0 dk w0 wr R (by rw [HS.out,HD.out]) S1.out (by omega) (by rw [HD.out];omega) (by rw [HD.out];exact hsz)
   rw [HD.out,e1] at HC2
   have HC3:=Lib.hid HC2
   clear HC2 e1
   go_wp2_with (go_at_fn 226;refine HC3.out.mono ?_;rintro e w' ⟨rfl,d',h1,h2,h3⟩)
   have H1:=Lib.hid h1
   have H2:=Lib.hid h2
   have H3:Aside _:=h3
   clear h1 h2 h3 S1
   go_wp2
   go_end0
   exact ⟨rfl,d',H1.out,fun k=>by rw [HE.out,H2.out,zdO (hi:=m+i) (by omega) rfl],H3.out⟩
  ·have hne:((i:Int) != (j:Int))=true:=by rw [bne_iff_ne];omega
   have hng:(j:Int) < (i:Int):=by omega
   have e1:((m - i:Nat):Int)=(m:Int) - (i:Int):=by omega
   have HC2:=J9 L enc cv blk off cap (m - i) m j d0 dk w0 wr R (by rw [HS.out,HD.out]) S1.out (by omega) (by rw [HD.out];omega) (by rw [HD.out];exact hsz)
   rw [HD.out,e1] at HC2
   have HC3:=Lib.hid HC2
   clear HC2 e1
   go_wp2_with (go_at_fn 226;refine HC3.out.mono ?_;rintro e w' ⟨rfl,d',h1,h2,h3⟩)
   have H1:=Lib.hid h1
   have H2:=Lib.hid h2
   have H3:Aside _:=h3
   clear h1 h2 h3 S1
   go_wp2
   go_roundg (i - j+j)
   case measure=>omega
   case rel =>
    refine ⟨i - j,j,d',by rw [show ((i - j:Nat):Int)=(i:Int) - (j:Int) by omega],rfl,by omega,hj0,by omega,by omega,Nat.le_refl _,H1.out,H3,?_⟩
    exact Vp HE.out H2.out (fun k=>by
     rw [show m - (i - j)=m - i+j by omega]
     exact zbX (by omega) rfl)
end Go.Proofs.YtdhfpgjnjlcciaaGreatDoor
end
section
namespace Go.Proofs.YtdhfpgjnjlcciaaGreatDoor
open Go.Shelf Go.RowKit Go.Lib Go.Sort
variable {P:Program} {K:Nat} {α:Type} [Inhabited α]
set_option maxHeartbeats 8000000 in
set_option maxRecDepth 1000000 in
theorem zjq (L:SortL P K) (enc:α→List Value) (cf:α→α→Int) (T:α→α→Prop) (hT:∀ x y z,T x y→T y z→T x z) (g:Nat) (cb:Array Value) (blk off cap a m b:Nat) (d0 d:Array α) (w0 w:World)
 (eg:∀ args w,(callFunc g args).run P w=.ok (.enter g args) w) (hcmp:CmpLays P g cb enc K cf blk off d0.size w0)
 (R:RowK enc K w0 blk off d0) (hs:d0.size=d.size) (S:SWK enc K w0 blk off d w) (ham:m=a+1) (hmb:m < b) (hb:b≤d.size) (hsz:d.size < 4611686018427387904)
 (hA:Asc T m b d) (hM:Meet (ltOf cf) T a m b d) :
 Calls P 193 #[.slice (some ⟨blk,off,none⟩) d.size cap,.int .i64 a,.int .i64 m,.int .i64 b,.func (.func g) #[] cb] w fun e w'=>e=.returned (.tuple #[]) ∧
  ∃ d',Keep a b d d'∧Asc T a b d'∧SWK enc K w0 blk off d' w':=by
 have hone:((m:Int) - (a:Int)==1)=true:=by rw [beq_iff_eq];omega
 have hlm:a < m:=by omega
 have HAM:=Lib.hid ham
 have HS:=Lib.hid hs
 have HA:=Lib.hid hA
 have HM:=Lib.hid hM
 have HT:=Lib.hid hT
 have HC:Aside _:=hcmp
 have S0:Aside (SWK enc K w0 blk off d w):=S
 clear S ham hs hA hM hT hcmp
 have mixed:=L.mixed;have t0:=L.t0;have a0:=L.a0;have z0:=L.z0;have v0:=L.v0;have t3:=L.t3;have a3:=L.a3;have z3:=L.z3;have v3:=L.v3;have t4:=L.t4;have a4:=L.a4;have z4:=L.z4;have v4:=L.v4;have t29:=L.t29;have a29:=L.a29;have z29:=L.z29;have v29:=L.v29;have t83:=L.t83;have a83:=L.a83;have z83:=L.z83;have v83:=L.v83;have t90:=L.t90;have a90:=L.a90;have z90:=L.z90;have v90:=L.v90;have aE:=L.aE;have zE:=L.zE
 go_enter L.f54,Tryz.ntmps193
 go_wp2
 go_loopg [10,11] (b - m) (fun kx vi vj wr=>∃ (i j:Nat),vi=.int .i64 i∧vj=.int .i64 j∧m≤i∧i≤j∧j≤b∧j - i≤kx∧Aside (SWK enc K w0 blk off d wr)∧Hid (∀ k,m≤k→k < i→T d[k]! d[a]!)∧Hid (∀ k,j≤k→k < b→T d[a]! d[k]!))
 case atStart=>exact ⟨m,b,rfl,rfl,Nat.le_refl _,by omega,Nat.le_refl _,Nat.le_refl _,S0,fun k h1 h2=>absurd h1 (by omega),fun k h1 h2=>absurd h1 (by omega)⟩
 case round =>
  clear S0
  obtain ⟨i,j,rfl,rfl,hmi,hij,hjb,hkx,S1,HL,HR⟩:=hrel
  by_cases hlt:i < j
  ·have hltz:(i:Int) < (j:Int):=by omega
   obtain ⟨h,hh⟩:∃ h,h=(i+j) / 2:=⟨_,rfl⟩
   have hh1:i≤h:=by omega
   have hh2:h < j:=by omega
   have hsd:d.size=d0.size:=HS.out.symm
   have eh:((i:Int)+(j:Int)) / 2=(h:Int):=by omega
   have EH:=Lib.hid eh
   obtain ⟨x,hx⟩:∃ x,x=d[h]! := ⟨_,rfl⟩
   obtain ⟨y,hy⟩:∃ x,x=d[a]! := ⟨_,rfl⟩
   have la:=S1.out.ld R hsd P h (by omega)
   have lb:=S1.out.ld R hsd P a (by have:=HAM.out;omega)
   rw [←hx] at la
   rw [←hy] at lb
   have hc:=S1.out.cmp HC.out hsd x y
   have ea:(((i:Int)+(j:Int)) / 2).toNat=h:=by omega
   have pa:(0:Int)≤((i:Int)+(j:Int)) / 2:=by omega
   have ba:((i:Int)+(j:Int)) / 2 < (d.size:Int):=by omega
   have bc:(a:Int) < (d.size:Int):=by have:=HAM.out;omega
   have mt:=HM.out a h (Nat.le_refl _) (by have:=HAM.out;omega) (by omega) (by omega)
   have up:ltOf cf x y=true→Hid (∀ k,m≤k→k < h+1→T d[k]! d[a]!):=fun hl k k1 k2=>by
    rw [hx,hy] at hl
    by_cases c:k=h
    ·rw [c];exact mt.1 hl
    ·exact HT.out _ _ _ (HA.out k h k1 (by omega) (by omega)) (mt.1 hl)
   have dn:ltOf cf x y=false→Hid (∀ k,h≤k→k < b→T d[a]! d[k]!):=fun hl k k1 k2=>by
    rw [hx,hy] at hl
    by_cases c:k=h
    ·rw [c];exact mt.2 hl
    ·exact HT.out _ _ _ (mt.2 hl) (HA.out h k (by omega) (by omega) k2)
   clear hx hy mt hsd hh eh
   by_cases hv:cf x y < 0
   ·have hd:decide (cf x y < 0)=true:=decide_eq_true hv
    have UP:=up hd
    clear up dn
    go_wp2_with fail
    go_quiet_grown (first | (go_at_fn g;refine Calls.grown_of (hc _ _)))
    have S2:Aside (SWK enc K w0 blk off d (grow (wr.drewN nq) osq)):=S1.out.grown nq osq
    clear la lb hc S1
    generalize grow (wr.drewN nq) osq=w2 at S2 ⊢
    clear nq osq ea
    go_wp2
    go_roundg (j - (h+1))
    case measure=>omega
    case rel=>exact ⟨h+1,j,by rw [EH.out];rfl,rfl,by omega,by omega,hjb,Nat.le_refl _,S2,UP,HR⟩
   ·have hd:decide (cf x y < 0)=false:=decide_eq_false hv
    have DN:=dn hd
    clear up dn
    go_wp2_with fail
    go_quiet_grown (first | (go_at_fn g;refine Calls.grown_of (hc _ _)))
    have S2:Aside (SWK enc K w0 blk off d (grow (wr.drewN nq) osq)):=S1.out.grown nq osq
    clear la lb hc S1
    generalize grow (wr.drewN nq) osq=w2 at S2 ⊢
    clear nq osq ea
    go_wp2
    go_roundg (h - i)
    case measure=>omega
    case rel=>exact ⟨i,h,rfl,by rw [EH.out],hmi,by omega,by omega,Nat.le_refl _,S2,HL,DN⟩
  ·have hltz:¬ (i:Int) < (j:Int):=by omega
   obtain rfl:i=j:=by omega
   rename World=>wa
   go_wp2
   go_loopg [13] (i - a) (fun ky vk wr=>∃ (k:Nat) (dk:Array α),vk=.int .i64 k∧a≤k∧k < i∧i - k≤ky∧Hid (dk.size=d.size)∧Aside (SWK enc K w0 blk off dk wr)∧Hid (∀ x,dk[x]! = d[upAt a (k+1) x]!))
   case atStart=>exact ⟨a,d,rfl,Nat.le_refl _,by have:=HAM.out;omega,Nat.le_refl _,rfl,S1,fun x=>by rw [zjj]⟩
   case round =>
    clear S1
    obtain ⟨k,dk,rfl,hak,hki,hky,HD,S1,HE⟩:=hrel
    by_cases hkl:k+1 < i
    ·have hklz:(k:Int) < (i:Int) - 1:=by omega
     have hsd:dk.size=d0.size:=by rw [HD.out,HS.out]
     have hkd:k+1 < d.size:=by omega
     have hkd':k+1 < dk.size:=by rw [HD.out];exact hkd
     obtain ⟨iN,hiN⟩:∃ q,q=k:=⟨_,rfl⟩
     obtain ⟨jN,hjN⟩:∃ q,q=k+1:=⟨_,rfl⟩
     have ea:((k:Int)).toNat=iN:=by omega
     have ba:(k:Int) < (d.size:Int):=by omega
     have ec:((k:Int)+1).toNat=jN:=by omega
     have pc:(0:Int)≤(k:Int)+1:=by omega
     have bc:(k:Int)+1 < (d.size:Int):=by omega
     have rc:IntKind.i64.wrap ((k:Int)+1)=(k:Int)+1:=by rw [IntKind.wrap_i64];omega
     obtain ⟨x,hx⟩:∃ x,x=dk[k]! := ⟨_,rfl⟩
     obtain ⟨y,hy⟩:∃ x,x=dk[k+1]! := ⟨_,rfl⟩
     have S2:Aside (SWK enc K w0 blk off (swp dk (k) (k+1)) ((wr.drew.setCells blk (off+iN * K) (enc y)).setCells blk (off+jN * K) (enc x))):=by rw [hiN,hjN,hx,hy];exact S1.out.swapped R (k) (k+1) (by omega) (by omega)
     have l1:=S1.out.ld1 R hsd P (k) (by omega)
     have l2:=S1.out.ld1 R hsd P (k+1) (by omega)
     have s1:=S1.out.st1 R hsd P (k) (by omega) y
     have s2:=S1.out.st2 R hsd P (k) (k+1) (by omega) (by omega) y x
     have n1:(enc x).length=K:=R.hk _
     have n2:(enc y).length=K:=R.hk _
     rw [←hx,←hiN] at l1
     rw [←hy,←hjN] at l2
     rw [←hiN] at s1
     rw [←hjN,←hiN] at s2
     generalize enc x=cx at S2 l1 s2 n1
     generalize enc y=cy at S2 l2 s1 s2 n2
     clear S1 hx hy hiN hjN hsd hkd hkd'
     go_wp2_with fail
     go_big_region_o
     clear l1 l2 s1 s2
     generalize (wr.drew.setCells blk (off+iN * K) cy).setCells blk (off+jN * K) cx=w2 at S2 ⊢
     clear ea ec
     go_wp2
     go_roundg (i - (k+1))
     case measure=>omega
     case rel=>exact ⟨k+1,swp dk k (k+1),by first | rfl | go_num,by omega,hkl,Nat.le_refl _,(show Hid _ from by rw [size_swp];exact HD.out),S2,fun x=>zcv HD.out HE.out hak (by omega) x⟩
    ·have hklz:¬ (k:Int) < (i:Int) - 1:=by omega
     go_wp2
     (try simp only [Exit.inBlock,Exit.then]);refine bodyPost_ret (results_none rfl _ _ _) rfl ?_
     obtain rfl:i=k+1:=by omega
     have hm:=HAM.out
     subst hm
     obtain ⟨k1,k2⟩:=zfF HA.out (by omega) (by omega) HL.out HR.out HD.out HE.out
     exact ⟨rfl,dk,k1,k2,S1.out⟩
end Go.Proofs.YtdhfpgjnjlcciaaGreatDoor
end
