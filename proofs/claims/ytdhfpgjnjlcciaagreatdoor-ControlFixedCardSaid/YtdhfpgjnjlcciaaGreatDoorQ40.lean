/- CoDoc FdCmp -/
import Derived.Test.YtdhfpgjnjlcciaaGreatDoorQ30
import Derived.Test.YtdhfpgjnjlcciaaGreatDoorQ33
section
namespace Go.Proofs.YtdhfpgjnjlcciaaGreatDoor.Co
open Go.RowKit Go.Proofs.YtdhfpgjnjlcciaaGreatDoor.Un Go.Proofs.YtdhfpgjnjlcciaaGreatDoor.Fa Go.Proofs.YtdhfpgjnjlcciaaGreatDoor.Pk
theorem Xz (a b:Key) (w:World):Sem.run Tryz.prog (Op.equalIn 10000 53 (aggP a) (aggP b)) w=.ok (eqP a b) w:=by
 have hS:Tryz.prog.underlying 53=some (.struct (Tryz.prog.fieldsOf 53)):=by kernel_rfl
 have hp:Tryz.prog.stoodInHeld 53=false:=by kernel_rfl
 rw [show (10000:Nat)=9999+1 from rfl,run_equalIn_agg w 9999 53 _ _ hS hp]
 simp only [Program.fieldsOf,Tryz.underlying53]
 go_simp
 unfold eqP
 by_cases h0:a.e.toList=b.e.toList
 ·by_cases h1:a.a.toList=b.a.toList
  ·by_cases h2:a.p.toList=b.p.toList <;> simp [h0,h1,h2]
  ·simp [h0,h1]
 ·simp [h0]
set_option maxRecDepth 100000 in
set_option maxHeartbeats 1000000 in
theorem jX (x:Fact) (w:World):Calls Tryz.prog 37 #[Fa.aggF x] w fun e w'=>e=.returned (aggP x.key)∧Below w.heap.size w w':=by
 have hb1:=(Below.refl w.heap.size w).alloc (Nat.le_refl _) (.cells #[.string x.key.e,.string x.key.a,.string x.key.f,.string x.key.p,.int .i64 x.key.m,.int .i64 x.amt] 44)
 have HB:=Lib.hid (hb1.alloc hb1.size (.cells #[.string x.key.e,.string x.key.a,.string x.key.p] 53))
 have e3:=place3 ((BoxE.new encP (w.alloc (.cells #[.string x.key.e,.string x.key.a,.string x.key.f,.string x.key.p,.int .i64 x.key.m,.int .i64 x.amt] 44)) x.key 53).at0)
 obtain ⟨e0,e1,e2⟩:=e3
 rw [World.size_alloc] at e0 e1 e2
 simp only [Nat.zero_add] at e0 e1 e2
 clear hb1
 have E0:=Lib.hid e0
 have E1:=Lib.hid e1
 have E2:=Lib.hid e2
 clear e0 e1 e2
 go_enter Tryz.func37,Tryz.ntmps37
 go_wp2
 exact bodyPost_ret (v:=aggP x.key) (by
  have e0:=E0.out
  have e1:=E1.out
  have e2:=E2.out
  simp only [encP] at e0 e1 e2
  simp [results,Tryz.results37,go_sem,e0,e1,e2]) rfl ⟨rfl,HB.out⟩
theorem JJ {α:Type} {L:List α} {i:Nat} {x:α} (h:L[i]?=some x):L.drop i=x::L.drop (i+1):=by
 have hil:i < L.length:=(List.getElem?_eq_some_iff.1 h).1
 rw [List.getElem?_eq_getElem hil] at h
 cases h
 exact List.drop_eq_getElem_cons hil
end Go.Proofs.YtdhfpgjnjlcciaaGreatDoor.Co
end
section
namespace Go.Proofs.YtdhfpgjnjlcciaaGreatDoor.Fa
open Go.RowKit
theorem kU:∀ (x y:List UInt8),Op.bytesLess x y=decide (Lib.compareBytes x y < 0)
 | [],[]=>by simp [Lib.compareBytes,Op.bytesLess]
 | [],_::_=>by simp [Lib.compareBytes,Op.bytesLess]
 | _::_,[]=>by simp [Lib.compareBytes,Op.bytesLess]
 | a::x,b::y=>by
   have ih:=kU x y
   unfold Lib.compareBytes Op.bytesLess
   by_cases h1:a < b
   ·simp [h1]
   ·by_cases h2:b < a
    ·have:(a==b)=false:=by
      rw [beq_eq_false_iff_ne]
      rintro rfl
      exact h1 h2
     simp [h1,h2,this]
    ·have:a=b:=by
      rw [UInt8.lt_iff_toNat_lt] at h1 h2
      exact UInt8.toNat_inj.1 (by omega)
     subst this
     simp [h1,ih]
theorem Ko:∀ (x y:List UInt8),-1≤Lib.compareBytes x y∧Lib.compareBytes x y≤1
 | [],[]=>by simp [Lib.compareBytes]
 | [],_::_=>by simp [Lib.compareBytes]
 | _::_,[]=>by simp [Lib.compareBytes]
 | a::x,b::y=>by
   have ih:=Ko x y
   unfold Lib.compareBytes
   (repeat' split) <;> omega
set_option maxHeartbeats 1000000 in
theorem xP (a b:ByteArray) (w:World):Calls Tryz.prog 64 #[.string a,.string b] w fun e w'=>e=.returned (.int .i64 (cmpB a b))∧w'=w:=by
 have l1:Op.bytesLess a.toList b.toList=decide (cmpB a b < 0):=by rw [ByteArray.toList_eq,ByteArray.toList_eq];exact kU _ _
 have l2:(a.toList==b.toList)=decide (cmpB a b=0):=by
  rw [Bool.eq_iff_iff,beq_iff_eq,decide_eq_true_eq,yw.eq0]
  exact ⟨toList_inj,fun h=>by rw [h]⟩
 have hb:-1≤cmpB a b∧cmpB a b≤1:=Ko _ _
 obtain ⟨c,hc⟩:∃ c,cmpB a b=c:=⟨_,rfl⟩
 rw [hc] at l1 l2 hb ⊢
 clear hc
 obtain rfl | rfl | rfl:c=-1∨c=0∨c=1:=by omega
 all_goals
  clear hb
  go_enter Tryz.func64,Tryz.ntmps64
  go_wp2
  go_ret
  exact ⟨rfl,rfl⟩
theorem zhu (w:World) (l:List Int) (t:TypeId) (a b c d:Int) (h:l=[a,b,c,d]) (i:Nat) (x:Int) (hx:l[i]?=some x):(w.alloc (.cells #[.int .i64 a,.int .i64 b,.int .i64 c,.int .i64 d] t)).cell? ⟨w.heap.size,i,none⟩=some (.int .i64 x):=by
 rw [cell_of_row _ w.heap.size i _ t (0,0) (heap_alloc_new w _)]
 subst h
 match i,hx with
 | 0,hx=>simp at hx;subst hx;rfl
 | 1,hx=>simp at hx;subst hx;rfl
 | 2,hx=>simp at hx;subst hx;rfl
 | 3,hx=>simp at hx;subst hx;rfl
theorem zg1 (x y:Key):cmpK x y=(if orL [cmpB x.e y.e,cmpB x.a y.a,cmpB x.f y.f,cmpB x.p y.p]=0 then cmpI x.m y.m else orL [cmpB x.e y.e,cmpB x.a y.a,cmpB x.f y.f,cmpB x.p y.p]):=by
 rw [←X0]
 simp only [orL]
 (repeat' split) <;> first | rfl | omega
set_option maxHeartbeats 4000000 in
set_option maxRecDepth 100000 in
theorem zic (x y:Key) (w:World) :
 Calls Tryz.prog 30 #[aggK x,aggK y] w fun e w'=>e=.returned (.int .i64 (cmpK x y))∧Below w.heap.size w w':=by
 obtain ⟨r,hr⟩:∃ r,cmpK x y=r:=⟨_,rfl⟩
 have hA:=zg1 x y
 rw [hr] at hA ⊢
 have HA:=Lib.hid hA
 clear hr hA
 obtain ⟨W1,hW1⟩:∃ W1,(w.alloc (.cells #[.string x.e,.string x.a,.string x.f,.string x.p,.int .i64 x.m] 24)).alloc (.cells #[.string y.e,.string y.a,.string y.f,.string y.p,.int .i64 y.m] 24)=W1:=⟨_,rfl⟩
 obtain ⟨W2,hW2⟩:∃ W2,W1.drew=W2:=⟨_,rfl⟩
 have bx:BoxE encK W2 w.heap.size 24 x:=by
  rw [←hW2,←hW1]
  have hb:=(Below.refl (w.alloc (.cells #[.string x.e,.string x.a,.string x.f,.string x.p,.int .i64 x.m] 24)).heap.size (w.alloc (.cells #[.string x.e,.string x.a,.string x.f,.string x.p,.int .i64 x.m] 24))).alloc (Nat.le_refl _) (.cells #[.string y.e,.string y.a,.string y.f,.string y.p,.int .i64 y.m] 24)
  exact (BoxE.new encK w x 24).kept ⟨hb.os,hb.tape,hb.output,hb.size,hb.block⟩
 have bY:BoxE encK W2 (w.heap.size+1) 24 y:=by
  rw [←hW2,←hW1]
  have:=BoxE.new encK (w.alloc (.cells #[.string x.e,.string x.a,.string x.f,.string x.p,.int .i64 x.m] 24)) y 24
  rw [World.size_alloc] at this
  exact this
 have HG:Hid (Below w.heap.size w W2):=Lib.hid (by
  rw [←hW2,←hW1]
  exact ((((Grew.refl w).alloc _).alloc _).drew).below)
 have HBX:=Lib.hid bx
 have HBY:=Lib.hid bY
 obtain ⟨k0,k1,k2,k3,k4⟩:=key5 bx.at0
 obtain ⟨j0,j1,j2,j3,j4⟩:=key5 bY.at0
 simp only [Nat.zero_add] at k0 k1 k2 k3 k4 j0 j1 j2 j3 j4
 clear bx bY
 obtain ⟨l,hl⟩:∃ l,[cmpB x.e y.e,cmpB x.a y.a,cmpB x.f y.f,cmpB x.p y.p]=l:=⟨_,rfl⟩
 have HL:Hid (l.length=4):=Lib.hid (by rw [←hl];rfl)
 have HNEW:=Lib.hid (zhu W2 l 3 _ _ _ _ hl.symm)
 rw [hl] at HA
 clear hl
 go_enter Tryz.func30,Tryz.ntmps30
 go_wp2_with fail
 refine wp_region_still_tail 20 (by kernel_rfl) (by kernel_rfl) ?_
 simp only [List.take_succ_cons,List.take_zero,List.drop_succ_cons,List.drop_zero]
 rw [show ({ heap:=W1.heap,tape:=W1.tape,drawn:=W1.drawn+1,os:=W1.os,output:=W1.output }:World)=W2 from hW2]
 clear hW1 hW2
 repeat still_step
 still_call (xP _ _ _)
 repeat still_step
 still_call (xP _ _ _)
 repeat still_step
 still_call (xP _ _ _)
 repeat still_step
 still_call (xP _ _ _)
 refine wpStill_nil ?_
 go_wp2_with fail
 obtain ⟨W3,hW3⟩:∃ W3,W2.alloc (.cells #[.int .i64 (cmpB x.e y.e),.int .i64 (cmpB x.a y.a),.int .i64 (cmpB x.f y.f),.int .i64 (cmpB x.p y.p)] 3)=W3:=⟨_,rfl⟩
 rw [hW3] at HNEW ⊢
 have hb3:Below W2.heap.size W2 W3:=by rw [←hW3];exact (Below.refl _ _).alloc (Nat.le_refl _) _
 have HG3:=Lib.hid (HG.out.trans (hb3.mono HG.out.size))
 obtain ⟨k0,k1,k2,k3,k4⟩:=key5 ((HBX.out.kept hb3).at0)
 obtain ⟨j0,j1,j2,j3,j4⟩:=key5 ((HBY.out.kept hb3).at0)
 simp only [Nat.zero_add] at k4 j4
 clear k0 k1 k2 k3 j0 j1 j2 j3 hb3 hW3 HBX HBY
 go_loop [6] (fun i=>∃ k:Nat,k≤4∧i=.int .i64 k∧Hid (orL (l.drop k)=orL l)) (fun i=>4 - (intOf i).toNat)
 case atStart=>exact ⟨0,Nat.zero_le _,rfl,Lib.hid rfl⟩
 case round =>
  obtain ⟨k,hk,rfl,HK⟩:=hrel
  by_cases hlt:k < 4
  ·obtain ⟨v,hv⟩:∃ x,l[k]?=some x:=⟨_,List.getElem?_eq_getElem (by rw [HL.out];exact hlt)⟩
   have c0:=HNEW.out k v hv
   have HS:=Lib.hid (zaq l k v hv)
   clear hv
   by_cases h0:v=0
   ·subst h0
    go_wp2
    go_round
    case rel=>exact ⟨k+1,by omega,by go_num,by rw [←HK.out,HS.out,if_pos rfl];exact Lib.hid rfl⟩
    case measure=>simp [intOf];omega
   ·have hne:(v != 0)=true:=by simpa using h0
    obtain rfl:r=v:=by rw [HA.out,←HK.out,HS.out,if_neg h0,if_neg h0]
    go_wp2
    go_ret
    exact ⟨rfl,HG3.out⟩
  ·have e:l.drop k=[]:=List.drop_of_length_le (by rw [HL.out];omega)
   have hr0:r=cmpI x.m y.m:=by rw [HA.out,←HK.out,e];rfl
   have HR0:=Lib.hid hr0
   clear e hr0
   rcases Int.lt_trichotomy x.m y.m with h | h | h
   ·obtain rfl:r=-1:=by rw [HR0.out];unfold cmpI;rw [if_pos h]
    go_wp2
    go_ret
    exact ⟨rfl,HG3.out⟩
   ·obtain rfl:r=0:=by rw [HR0.out];unfold cmpI;rw [if_neg (by omega),if_neg (by omega)]
    have h1:¬ x.m < y.m:=by omega
    have h2:¬ y.m < x.m:=by omega
    clear h
    go_wp2
    go_ret
    exact ⟨rfl,HG3.out⟩
   ·obtain rfl:r=1:=by rw [HR0.out];unfold cmpI;rw [if_neg (by omega),if_pos h]
    have h1:¬ x.m < y.m:=by omega
    go_wp2
    go_ret
    exact ⟨rfl,HG3.out⟩
end Go.Proofs.YtdhfpgjnjlcciaaGreatDoor.Fa
end
