/- Els ElsOpen FaOpen FaOurs FdCmp FdKeys FdRight FdPick FdOf FdAdd -/
import Derived.Test.YtfhhihamndbcnaaGreatDoorR18
import Derived.Test.YtfhhihamndbcnaaGreatDoorR21
import Derived.Test.YtfhhihamndbcnaaGreatDoorR41
section
namespace Go.Proofs.YtfhhihamndbcnaaGreatDoor
open Go.RowKit
section
variable {α:Type} {E:Enc α}
theorem ElsV.map {β:Type} {F:Enc β} {w:World} {v:Value} {L:List α} (f:α→β) (hk:F.k=E.k) (hf:∀ a,F.cs (f a)=E.cs a) (h:ElsV E w v L):ElsV F w v (L.map f):=by
 obtain ⟨p,c,e,h1,h2,h3,hc⟩:=h
 refine ⟨p,c,by simpa using e,by simpa using h1,h2,h3,fun i y hy=>?_⟩
 rw [List.getElem?_map] at hy
 cases hx:L[i]? with
 | none=>rw [hx] at hy;cases hy
 | some x =>
   rw [hx] at hy
   cases hy
   obtain ⟨b,o,e',hat⟩:=hc i x hx
   exact ⟨b,o,e',fun j v hj=>by rw [hk];exact hat j v (by rw [←hf];exact hj)⟩
end
end Go.Proofs.YtfhhihamndbcnaaGreatDoor
end
section
namespace Go.Proofs.YtfhhihamndbcnaaGreatDoor
open Go.ChangeShapes Go.WideShapes Go.ChangeAt Go.RowKit Go.Deep
section
variable {H:Type} {enc:TypeId × Value→H} {P:Program} {W:World} {base:Nat} {sp:Nat→Bool} {held:Bool}
theorem els_open {α:Type} {E:Enc α} {t e:TypeId} {a:Option Addr} {n c:Nat} {d:DataW H} {p:List MemPlace} (z:α) (ht:P.underlying t=some (.slice e)) (hC:P.cellsOf e=E.k)
 (hcells:∀ fuel cs x,DataW.trod enc P W base sp held fuel e cs=some x→∃ a:α,cs=E.cs a)
 (h:DataW.Trod enc P W base sp held t (.slice a n c) d p):∃ L,ElsV E W (.slice a n c) L:=by
 obtain ⟨fuel,hf⟩:=h
 rcases Go.Deep.open_slice ht hf with ⟨hcs,_⟩ | ⟨ad,len,cap,m,k,D,Pl,hcs,_,hl,hm,hmm,_,hi⟩
 ·simp [Value.cells] at hcs
  obtain ⟨rfl,rfl,rfl⟩:=hcs
  exact ⟨[],ElsV.nil W⟩
 ·simp [Value.cells] at hcs
  obtain ⟨rfl,rfl,rfl⟩:=hcs
  have hlm:n≤m:=by rw [hmm];split <;> omega
  clear hmm
  rw [hC] at hi
  have each:∀ i,i < n→∃ x:α,∀ j v,(E.cs x)[j]?=some v→W.cell? ((ad.add (i * E.k)).add j)=some v:=fun i hin=>by
   obtain ⟨cs',hcc,ht'⟩:=hi i (by omega)
   obtain ⟨x,hx⟩:=hcells _ _ _ ht'
   obtain ⟨_,hlen,hat⟩:=World.cells?_some hcc
   refine ⟨x,fun j v hj=>?_⟩
   have hjk:j < E.k:=by rw [←E.len x];exact (List.getElem?_eq_some_iff.1 hj).1
   rw [hat j hjk,hx,hj]
  haveI:Inhabited α:=⟨z⟩
  obtain ⟨F,hF⟩:=Go.Deep.choose_lt each
  refine ⟨(List.range n).map F,some ad,c,by simp,by simpa using hl,hm,(fun e=>by cases e),fun i x hx=>?_⟩
  have hin:i < n:=by
   have:=(List.getElem?_eq_some_iff.1 hx).1
   simpa using this
  have hx':x=F i:=by
   rw [List.getElem?_map,List.getElem?_range hin] at hx
   simpa using hx.symm
  subst hx'
  have h0:=hF i hin
  obtain ⟨b,o,s⟩:=ad
  have hs:s=none:=by
   have hp:0 < (E.cs (F 0)).length:=by rw [E.len];exact E.pos
   have h00:=World.cell?_spot (hF 0 (by omega) 0 _ (List.getElem?_eq_getElem hp))
   simpa [Addr.add] using h00
  subst hs
  exact ⟨b,o,rfl,fun j v hj=>by have:=h0 j v hj;rwa [add_off,add_off] at this⟩
end
end Go.Proofs.YtfhhihamndbcnaaGreatDoor
end
section
namespace Go.Proofs.YtfhhihamndbcnaaGreatDoor.Fa
open Go.ChangeShapes Go.WideShapes Go.ChangeAt Go.RowKit Go.Deep
set_option maxRecDepth 100000
def encF2:Enc { f:Fact // In64 f.key.m∧In64 f.amt } where
 cs f:=encF.cs f.1
 k:=6
 len f:=encF.len f.1
 pos:=by decide
 one f:=encF.one f.1
section
variable {H:Type} {enc:TypeId × Value→H} {W:World} {base:Nat} {sp:Nat→Bool} {held:Bool}
theorem fact_cells (fuel:Nat) (cs:List Value) (x:DataW H × List MemPlace) (h:DataW.trod enc Tryz.prog W base sp held fuel 79 cs=some x):∃ a:{ f:Fact // In64 f.key.m∧In64 f.amt },cs=encF2.cs a:=by
 obtain ⟨xs,n,_,_,hl,hxl,hg⟩:=DataW.trod_struct Tryz.underlying79 h
 have hC:Tryz.prog.cellsOf 79=6:=by kernel_rfl
 have cK:Tryz.prog.cellsOf 74=5:=by kernel_rfl
 have cI:Tryz.prog.cellsOf 2=1:=by kernel_rfl
 match cs,hl.trans hC,xs,hxl with
 | [c0,c1,c2,c3,c4,c5],_,[y0,y1],_ =>
   have g0:=hg 0 _ rfl
   have g1:=hg 1 _ rfl
   simp [cK,cI] at g0 g1
   obtain ⟨k,hk⟩:=key_cells _ _ _ g0
   obtain ⟨i5,e5,_,z5⟩:=DataW.trod_int Tryz.underlying2 g1
   simp at e5
   subst e5
   have hk':[c0,c1,c2,c3,c4]=[Value.string k.1.e,.string k.1.a,.string k.1.f,.string k.1.p,.int .i64 k.1.m]:=hk
   simp only [List.cons.injEq,and_true] at hk'
   obtain ⟨rfl,rfl,rfl,rfl,rfl⟩:=hk'
   exact ⟨⟨⟨k.1,i5⟩,k.2,in_of_wf_i64 z5⟩,rfl⟩
theorem facts_open {a:Option Addr} {n c:Nat} {d:DataW H} {p:List MemPlace} (h:DataW.Trod enc Tryz.prog W base sp held 22 (.slice a n c) d p):∃ L,FactsV W (.slice a n c) L∧∀ f∈L,In64 f.key.m∧In64 f.amt:=by
 obtain ⟨L,hL⟩:=els_open (E:=encF2) ⟨⟨⟨⟨#[]⟩,⟨#[]⟩,⟨#[]⟩,⟨#[]⟩,0⟩,0⟩,⟨by decide,by decide⟩,⟨by decide,by decide⟩⟩ Tryz.underlying22 (by kernel_rfl) fact_cells h
 refine ⟨L.map Subtype.val,hL.map (F:=encF) Subtype.val rfl (fun _=>rfl),fun f hf=>?_⟩
 obtain ⟨x,_,rfl⟩:=List.mem_map.1 hf
 exact x.2
end
end Go.Proofs.YtfhhihamndbcnaaGreatDoor.Fa
end
section
namespace Go.Proofs.YtfhhihamndbcnaaGreatDoor.Fa
open Go.RowKit
theorem few_length {c:List Fact} (h:fewL c=true):c.length≤150:=by
 unfold fewL at h
 simp only [Bool.and_eq_true,decide_eq_true_eq] at h
 exact h.2
end Go.Proofs.YtfhhihamndbcnaaGreatDoor.Fa
end
section
namespace Go.Proofs.YtfhhihamndbcnaaGreatDoor.Fa
open Go.RowKit
theorem less_iff:∀ (x y:List UInt8),Op.bytesLess x y=decide (Lib.compareBytes x y < 0)
 | [],[]=>by simp [Lib.compareBytes,Op.bytesLess]
 | [],_::_=>by simp [Lib.compareBytes,Op.bytesLess]
 | _::_,[]=>by simp [Lib.compareBytes,Op.bytesLess]
 | a::x,b::y=>by
   have ih:=less_iff x y
   unfold Lib.compareBytes Op.bytesLess
   by_cases h1:a < b
   ·simp [h1]
   ·by_cases h2:b < a
    ·have:(a==b)=false:=by
      rw [beq_eq_false_iff_ne]
      rintro rfl
      exact h1 h2
     simp [h1,h2,this]
    ·have:a=b:=by
      rw [UInt8.lt_iff_toNat_lt] at h1 h2
      exact UInt8.toNat_inj.1 (by omega)
     subst this
     simp [h1,ih]
theorem cmpL_bnd:∀ (x y:List UInt8),-1≤Lib.compareBytes x y∧Lib.compareBytes x y≤1
 | [],[]=>by simp [Lib.compareBytes]
 | [],_::_=>by simp [Lib.compareBytes]
 | _::_,[]=>by simp [Lib.compareBytes]
 | a::x,b::y=>by
   have ih:=cmpL_bnd x y
   unfold Lib.compareBytes
   (repeat' split) <;> omega
set_option maxHeartbeats 1000000 in
theorem rtext_any (a b:ByteArray) (w:World):Calls Tryz.prog 56 #[.string a,.string b] w fun e w'=>e=.returned (.int .i64 (cmpB a b))∧w'=w:=by
 have l1:Op.bytesLess a.toList b.toList=decide (cmpB a b < 0):=by rw [ByteArray.toList_eq,ByteArray.toList_eq];exact less_iff _ _
 have l2:(a.toList==b.toList)=decide (cmpB a b=0):=by
  rw [Bool.eq_iff_iff,beq_iff_eq,decide_eq_true_eq,isCmp_text.eq0]
  exact ⟨toList_inj,fun h=>by rw [h]⟩
 have hb:-1≤cmpB a b∧cmpB a b≤1:=cmpL_bnd _ _
 obtain ⟨c,hc⟩:∃ c,cmpB a b=c:=⟨_,rfl⟩
 rw [hc] at l1 l2 hb ⊢
 clear hc
 obtain rfl | rfl | rfl:c=-1∨c=0∨c=1:=by omega
 all_goals
  clear hb
  go_enter Tryz.func56,Tryz.ntmps56
  go_wp2
  go_ret
  exact ⟨rfl,rfl⟩
theorem four_new (w:World) (l:List Int) (t:TypeId) (a b c d:Int) (h:l=[a,b,c,d]) (i:Nat) (x:Int) (hx:l[i]?=some x):(w.alloc (.cells #[.int .i64 a,.int .i64 b,.int .i64 c,.int .i64 d] t)).cell? ⟨w.heap.size,i,none⟩=some (.int .i64 x):=by
 rw [cell_of_row _ w.heap.size i _ t (0,0) (heap_alloc_new w _)]
 subst h
 match i,hx with
 | 0,hx=>simp at hx;subst hx;rfl
 | 1,hx=>simp at hx;subst hx;rfl
 | 2,hx=>simp at hx;subst hx;rfl
 | 3,hx=>simp at hx;subst hx;rfl
theorem orL_four (x y:Key):cmpK x y=(if orL [cmpB x.e y.e,cmpB x.a y.a,cmpB x.f y.f,cmpB x.p y.p]=0 then cmpI x.m y.m else orL [cmpB x.e y.e,cmpB x.a y.a,cmpB x.f y.f,cmpB x.p y.p]):=by
 rw [←orL_key]
 simp only [orL]
 (repeat' split) <;> first | rfl | omega
set_option maxHeartbeats 4000000 in
set_option maxRecDepth 100000 in
theorem rcmp_any (x y:Key) (w:World) :
 Calls Tryz.prog 29 #[aggK x,aggK y] w fun e w'=>e=.returned (.int .i64 (cmpK x y))∧Below w.heap.size w w':=by
 obtain ⟨r,hr⟩:∃ r,cmpK x y=r:=⟨_,rfl⟩
 have hA:=orL_four x y
 rw [hr] at hA ⊢
 have HA:=Lib.hid hA
 clear hr hA
 obtain ⟨W1,hW1⟩:∃ W1,(w.alloc (.cells #[.string x.e,.string x.a,.string x.f,.string x.p,.int .i64 x.m] 74)).alloc (.cells #[.string y.e,.string y.a,.string y.f,.string y.p,.int .i64 y.m] 74)=W1:=⟨_,rfl⟩
 obtain ⟨W2,hW2⟩:∃ W2,W1.drew=W2:=⟨_,rfl⟩
 have bx:BoxE encK W2 w.heap.size 74 x:=by
  rw [←hW2,←hW1]
  have hb:=(Below.refl (w.alloc (.cells #[.string x.e,.string x.a,.string x.f,.string x.p,.int .i64 x.m] 74)).heap.size (w.alloc (.cells #[.string x.e,.string x.a,.string x.f,.string x.p,.int .i64 x.m] 74))).alloc (Nat.le_refl _) (.cells #[.string y.e,.string y.a,.string y.f,.string y.p,.int .i64 y.m] 74)
  exact (BoxE.new encK w x 74).kept ⟨hb.os,hb.tape,hb.output,hb.size,hb.block⟩
 have bY:BoxE encK W2 (w.heap.size+1) 74 y:=by
  rw [←hW2,←hW1]
  have:=BoxE.new encK (w.alloc (.cells #[.string x.e,.string x.a,.string x.f,.string x.p,.int .i64 x.m] 74)) y 74
  rw [World.size_alloc] at this
  exact this
 have HG:Hid (Below w.heap.size w W2):=Lib.hid (by
  rw [←hW2,←hW1]
  exact ((((Grew.refl w).alloc _).alloc _).drew).below)
 have HBX:=Lib.hid bx
 have HBY:=Lib.hid bY
 obtain ⟨k0,k1,k2,k3,k4⟩:=key5 bx.at0
 obtain ⟨j0,j1,j2,j3,j4⟩:=key5 bY.at0
 simp only [Nat.zero_add] at k0 k1 k2 k3 k4 j0 j1 j2 j3 j4
 clear bx bY
 obtain ⟨l,hl⟩:∃ l,[cmpB x.e y.e,cmpB x.a y.a,cmpB x.f y.f,cmpB x.p y.p]=l:=⟨_,rfl⟩
 have HL:Hid (l.length=4):=Lib.hid (by rw [←hl];rfl)
 have HNEW:=Lib.hid (four_new W2 l 3 _ _ _ _ hl.symm)
 rw [hl] at HA
 clear hl
 go_enter Tryz.func29,Tryz.ntmps29
 go_wp2_with fail
 refine wp_region_still_tail 20 (by kernel_rfl) (by kernel_rfl) ?_
 simp only [List.take_succ_cons,List.take_zero,List.drop_succ_cons,List.drop_zero]
 rw [show ({ heap:=W1.heap,tape:=W1.tape,drawn:=W1.drawn+1,os:=W1.os,output:=W1.output }:World)=W2 from hW2]
 clear hW1 hW2
 repeat still_step
 still_call (rtext_any _ _ _)
 repeat still_step
 still_call (rtext_any _ _ _)
 repeat still_step
 still_call (rtext_any _ _ _)
 repeat still_step
 still_call (rtext_any _ _ _)
 refine wpStill_nil ?_
 go_wp2_with fail
 obtain ⟨W3,hW3⟩:∃ W3,W2.alloc (.cells #[.int .i64 (cmpB x.e y.e),.int .i64 (cmpB x.a y.a),.int .i64 (cmpB x.f y.f),.int .i64 (cmpB x.p y.p)] 3)=W3:=⟨_,rfl⟩
 rw [hW3] at HNEW ⊢
 have hb3:Below W2.heap.size W2 W3:=by rw [←hW3];exact (Below.refl _ _).alloc (Nat.le_refl _) _
 have HG3:=Lib.hid (HG.out.trans (hb3.mono HG.out.size))
 obtain ⟨k0,k1,k2,k3,k4⟩:=key5 ((HBX.out.kept hb3).at0)
 obtain ⟨j0,j1,j2,j3,j4⟩:=key5 ((HBY.out.kept hb3).at0)
 simp only [Nat.zero_add] at k4 j4
 clear k0 k1 k2 k3 j0 j1 j2 j3 hb3 hW3 HBX HBY
 go_loop [6] (fun i=>∃ k:Nat,k≤4∧i=.int .i64 k∧Hid (orL (l.drop k)=orL l)) (fun i=>4 - (intOf i).toNat)
 case atStart=>exact ⟨0,Nat.zero_le _,rfl,Lib.hid rfl⟩
 case round =>
  obtain ⟨k,hk,rfl,HK⟩:=hrel
  by_cases hlt:k < 4
  ·obtain ⟨v,hv⟩:∃ x,l[k]?=some x:=⟨_,List.getElem?_eq_getElem (by rw [HL.out];exact hlt)⟩
   have c0:=HNEW.out k v hv
   have HS:=Lib.hid (orL_step l k v hv)
   clear hv
   by_cases h0:v=0
   ·subst h0
    go_wp2
    go_round
    case rel=>exact ⟨k+1,by omega,by go_num,by rw [←HK.out,HS.out,if_pos rfl];exact Lib.hid rfl⟩
    case measure=>simp [intOf];omega
   ·have hne:(v != 0)=true:=by simpa using h0
    obtain rfl:r=v:=by rw [HA.out,←HK.out,HS.out,if_neg h0,if_neg h0]
    go_wp2
    go_ret
    exact ⟨rfl,HG3.out⟩
  ·have e:l.drop k=[]:=List.drop_of_length_le (by rw [HL.out];omega)
   have hr0:r=cmpI x.m y.m:=by rw [HA.out,←HK.out,e];rfl
   have HR0:=Lib.hid hr0
   clear e hr0
   rcases Int.lt_trichotomy x.m y.m with h | h | h
   ·obtain rfl:r=-1:=by rw [HR0.out];unfold cmpI;rw [if_pos h]
    go_wp2
    go_ret
    exact ⟨rfl,HG3.out⟩
   ·obtain rfl:r=0:=by rw [HR0.out];unfold cmpI;rw [if_neg (by omega),if_neg (by omega)]
    have h1:¬ x.m < y.m:=by omega
    have h2:¬ y.m < x.m:=by omega
    clear h
    go_wp2
    go_ret
    exact ⟨rfl,HG3.out⟩
   ·obtain rfl:r=1:=by rw [HR0.out];unfold cmpI;rw [if_neg (by omega),if_pos h]
    have h1:¬ x.m < y.m:=by omega
    go_wp2
    go_ret
    exact ⟨rfl,HG3.out⟩
end Go.Proofs.YtfhhihamndbcnaaGreatDoor.Fa
end
section
namespace Go.Proofs.YtfhhihamndbcnaaGreatDoor.Fa
open Go.RowKit
theorem infoK:InfoE Tryz.prog 134 74 encK:=.of (z:=.agg #[.string ⟨#[]⟩,.string ⟨#[]⟩,.string ⟨#[]⟩,.string ⟨#[]⟩,.int .i64 0]) (n:=72) Tryz.underlying134 (by kernel_rfl) rfl (by decide)
theorem keysFrom_snoc (l:List Fact) (i:Nat) (x:Fact) (h:l[i]?=some x):keysFrom [] (l.take (i+1))=insU (keysFrom [] (l.take i)) x.key:=by
 rw [List.take_add_one,h]
 unfold keysFrom
 simp [List.foldl_append]
def MidU (A:List Key) (k:Key) (j:Nat) (N:List Key) (done:Bool):Prop:=insU A k=N++(if done=true then A.drop j else insU (A.drop j) k)
theorem midU_start (A:List Key) (k:Key):MidU A k 0 [] false:=by simp [MidU]
theorem drop_at {α:Type} {A:List α} {j:Nat} {a:α} (h:A[j]?=some a):A.drop j=a::A.drop (j+1):=by
 obtain ⟨hj,rfl⟩:=List.getElem?_eq_some_iff.1 h
 exact List.drop_eq_getElem_cons hj
theorem midU_done {A:List Key} {k a:Key} {j:Nat} {N:List Key} (h:MidU A k j N true) (ha:A[j]?=some a):MidU A k (j+1) (N++[a]) true:=by
 unfold MidU at *
 rw [h,if_pos rfl,if_pos rfl,drop_at ha];simp
theorem midU_eq {A:List Key} {k a:Key} {j:Nat} {N:List Key} (h:MidU A k j N false) (ha:A[j]?=some a) (e:k=a):MidU A k (j+1) (N++[a]) true:=by
 unfold MidU at *
 rw [h,if_neg (by simp),if_pos rfl,drop_at ha]
 conv=>lhs;unfold insU
 rw [if_pos e];simp
theorem midU_lt {A:List Key} {k a:Key} {j:Nat} {N:List Key} (h:MidU A k j N false) (ha:A[j]?=some a) (e:k≠a) (l:ltK k a):MidU A k (j+1) (N++[k]++[a]) true:=by
 unfold MidU at *
 rw [h,if_neg (by simp),if_pos rfl,drop_at ha]
 conv=>lhs;unfold insU
 rw [if_neg e,if_pos l];simp
theorem midU_gt {A:List Key} {k a:Key} {j:Nat} {N:List Key} (h:MidU A k j N false) (ha:A[j]?=some a) (e:k≠a) (l:¬ ltK k a):MidU A k (j+1) (N++[a]) false:=by
 unfold MidU at *
 rw [h,if_neg (by simp),if_neg (by simp),drop_at ha]
 conv=>lhs;unfold insU
 rw [if_neg e,if_neg l];simp
theorem midU_end1 {A:List Key} {k:Key} {j:Nat} {N:List Key} (h:MidU A k j N true) (hj:A.length≤j):insU A k=N:=by
 unfold MidU at h
 rw [h,if_pos rfl,List.drop_of_length_le hj,List.append_nil]
theorem midU_end0 {A:List Key} {k:Key} {j:Nat} {N:List Key} (h:MidU A k j N false) (hj:A.length≤j):insU A k=N++[k]:=by
 unfold MidU at h
 rw [h,if_neg (by simp),List.drop_of_length_le hj];rfl
theorem el_newK (w:World) (y:Key) (t:TypeId):ElAt encK (w.alloc (.cells (encK.cs y).toArray t)) w.heap.size 0 y:=el_new encK w y t
set_option maxRecDepth 100000 in
set_option maxHeartbeats 8000000 in
theorem rkeys_any (v:Value) (l:List Fact) (w:World) (h:FactsV w v l) (hL:l.length≤1000) :
 Calls Tryz.prog 58 #[v] w fun e w'=>∃ u,e=.returned u∧w'.ownsRow w.heap.size 74 5 u (keysL l).length (flat encK (keysL l))∧Below w.heap.size w w':=by
 have HV:=Lib.hid h
 obtain ⟨p,cp,rfl,hcap,hmx,_,_⟩:=h
 obtain ⟨n,hn⟩:∃ n,l.length=n:=⟨_,rfl⟩
 rw [hn] at hcap hL HV ⊢
 have HN:=Lib.hid hn
 unfold maxLen at hmx
 clear hn
 go_enter Tryz.func58,Tryz.ntmps58
 go_wp2
 go_loopw [3,4] (fun s3 s4 wr=>∃ i:Nat,s4=.int .i64 (i:Int)∧i≤n∧Hid (wr.ownsRow w.heap.size 74 5 s3 (keysFrom [] (l.take i)).length (flat encK (keysFrom [] (l.take i))))∧Hid (Below w.heap.size w wr)) (fun _ s4 _=>n - (intOf s4).toNat)
 case atStart=>exact ⟨0,rfl,Nat.zero_le _,World.ownsRow_nil _ _ _ _,Lib.hid (Below.refl _ _)⟩
 case round =>
  obtain ⟨i,rfl,hin,HO,HB⟩:=hrel
  rename World=>wa
  by_cases hlt:i < n
  ·obtain ⟨x,hx⟩:∃ x,l[i]?=some x:=⟨_,List.getElem?_eq_getElem (by rw [HN.out];exact hlt)⟩
   obtain ⟨b,o,rfl,hat⟩:=ElsV.at_ HV.out hx
   have HAT:=Lib.hid (hat.keep HB.out hat.lt)
   have HSN:=Lib.hid (keysFrom_snoc l i x hx)
   obtain ⟨A,hA⟩:∃ A,keysFrom [] (l.take i)=A:=⟨_,rfl⟩
   have hAL:A.length≤1000:=by
    rw [←hA]
    have:=keysFrom_length (l.take i) []
    rw [List.length_take] at this
    simp at this
    omega
   rw [hA] at HO HSN
   have HAL:=Lib.hid hAL
   have HE:=Lib.hid (els_of_own (E:=encK) HO.out)
   obtain ⟨pa,ca,rfl,_,_,_,_⟩:=id HE.out
   obtain ⟨na,hna⟩:∃ na,A.length=na:=⟨_,rfl⟩
   rw [hna] at HE hAL
   have HNA:=Lib.hid hna
   rw [hna]
   clear hx hat hA hna HO
   go_wp2
   go_loopw [5,6,7] (fun s5 s6 s7 wr=>∃ (j:Nat) (N:List Key) (d:Bool),s7=.int .i64 (j:Int)∧s6=.bool d∧j≤na∧N.length≤2 * j+1∧Hid (MidU A x.key j N d)∧Hid (wr.ownsRow wa.heap.size 74 5 s5 N.length (flat encK N))∧Hid (Below wa.heap.size wa wr)) (fun _ _ s7 _=>na - (intOf s7).toNat)
   case atStart=>exact ⟨0,[],false,rfl,rfl,Nat.zero_le _,by simp,midU_start A x.key,World.ownsRow_nil _ _ _ _,Lib.hid (Below.refl _ _)⟩
   case round =>
    obtain ⟨j,N,d,rfl,rfl,hj,hNl,HM,HO,HB2⟩:=hrel
    have HATr:=Lib.hid (HAT.out.keep HB2.out HAT.out.lt)
    by_cases hlt2:j < na
    ·obtain ⟨a,ha⟩:∃ a,A[j]?=some a:=⟨_,List.getElem?_eq_getElem (by rw [HNA.out];exact hlt2)⟩
     obtain ⟨b2,o2,rfl,hat2⟩:=ElsV.at_ HE.out ha
     have HAT2:=Lib.hid (hat2.keep HB2.out hat2.lt)
     have HAT0:=Lib.hid hat2
     obtain ⟨r0,r1,r2,r3,r4,r5⟩:=fact6 HATr.out
     obtain ⟨s0,s1,s2,s3,s4⟩:=key5 HAT2.out
     simp only [show encF.k=6 from rfl,show encK.k=5 from rfl] at r0 r1 r2 r3 r4 s0 s1 s2 s3 s4
     have q0:=fun p:Past wr=>cell_past r0 p
     have q1:=fun p:Past wr=>cell_past r1 p
     have q2:=fun p:Past wr=>cell_past r2 p
     have q3:=fun p:Past wr=>cell_past r3 p
     have q4:=fun p:Past wr=>cell_past r4 p
     have u0:=fun p:Past wr=>cell_past s0 p
     have u1:=fun p:Past wr=>cell_past s1 p
     have u2:=fun p:Past wr=>cell_past s2 p
     have u3:=fun p:Past wr=>cell_past s3 p
     have u4:=fun p:Past wr=>cell_past s4 p
     have HA:=Lib.hid ha
     have HCA:=Lib.hid (fun W=>rcmp_any x.key a W)
     obtain ⟨c,hc⟩:∃ c,cmpK x.key a=c:=⟨_,rfl⟩
     have HEQ:Hid (c=0 ↔ x.key=a):=Lib.hid (by rw [←hc];exact isCmp_key.eq0 _ _)
     have HLT:Hid (ltK x.key a ↔ c < 0):=Lib.hid (by rw [←hc];exact Iff.rfl)
     simp only [hc] at HCA
     clear ha hat2 r0 r1 r2 r3 r4 r5 s0 s1 s2 s3 s4 hc
     go_wp2_with fail
     refine wp_region_past (by kernel_rfl) (by kernel_rfl) ?_
     repeat (go_big_quiet_step ((go_at_call 29;exact Calls.past_of (HCA.out _))))
     refine wpQuiet_nil ?_
     intro w3 hw'
     obtain ⟨⟨_,hb3⟩,rfl⟩:=hw'
     have hO3:=row_below HO.out hb3
     have HO3:=Lib.hid hO3
     have HB3:=Lib.hid (HB2.out.trans (hb3.mono HB2.out.size))
     have HAT3:=Lib.hid (HATr.out.keep hb3 HATr.out.lt)
     have HA23:=Lib.hid (HAT2.out.keep hb3 HAT2.out.lt)
     obtain ⟨r0,r1,r2,r3,r4,r5⟩:=fact6 HAT3.out
     obtain ⟨s0,s1,s2,s3,s4⟩:=key5 HA23.out
     simp only [show encF.k=6 from rfl,show encK.k=5 from rfl] at r0 r1 r2 r3 r4 s0 s1 s2 s3 s4
     clear hO3 hb3 q0 q1 q2 q3 q4 u0 u1 u2 u3 u4 r5 HCA HATr HAT2 HO
     have HSZ3:Hid (wa.heap.size≤w3.heap.size):=Lib.hid HB3.out.size
     by_cases hc0:c=0
     ·subst hc0
      have HM1:Hid (MidU A x.key (j+1) (N++[a]) true):=Lib.hid (by
       cases d with
       | true=>exact midU_done HM.out HA.out
       | false=>exact midU_eq HM.out HA.out (HEQ.out.1 rfl))
      go_wp2_with (at_builtin;refine wpList_append_el (E:=encK) rfl _ _ 134 74 rfl infoK wa.heap.size N a w3.heap.size (HO3.out.alloc _) rfl (el_newK w3 a _) (by have:=HSZ3.out;simp;omega) (by omega) ?_;intro v9 w9 hr9 hb9 hg9)
      have HR9:=Lib.hid hr9
      have HB9:=Lib.hid ((HB3.out.alloc HSZ3.out _).trans hb9)
      clear hr9 hb9 hg9
      go_wp2
      go_roundw
      case rel=>exact ⟨j+1,N++[a],true,by go_num,rfl,by omega,by simp;omega,HM1,HR9,HB9⟩
      case measure=>simp [intOf];omega
     ·have hc1:(c==0)=false:=by rw [beq_eq_false_iff_ne];exact hc0
      have hne:x.key≠a:=fun e=>hc0 (HEQ.out.2 e)
      cases d with
      | true =>
        have HM1:=Lib.hid (midU_done HM.out HA.out)
        clear hne
        by_cases hlt3:c < 0
        ·go_wp2_with (at_builtin;refine wpList_append_el (E:=encK) rfl _ _ 134 74 rfl infoK wa.heap.size N a w3.heap.size (HO3.out.alloc _) rfl (el_newK w3 a _) (by have:=HSZ3.out;simp;omega) (by omega) ?_;intro v9 w9 hr9 hb9 hg9)
         have HR9:=Lib.hid hr9
         have HB9:=Lib.hid ((HB3.out.alloc HSZ3.out _).trans hb9)
         clear hr9 hb9 hg9
         go_wp2
         go_roundw
         case rel=>exact ⟨j+1,N++[a],true,by go_num,rfl,by omega,by simp;omega,HM1,HR9,HB9⟩
         case measure=>simp [intOf];omega
        ·go_wp2_with (at_builtin;refine wpList_append_el (E:=encK) rfl _ _ 134 74 rfl infoK wa.heap.size N a w3.heap.size (HO3.out.alloc _) rfl (el_newK w3 a _) (by have:=HSZ3.out;simp;omega) (by omega) ?_;intro v9 w9 hr9 hb9 hg9)
         have HR9:=Lib.hid hr9
         have HB9:=Lib.hid ((HB3.out.alloc HSZ3.out _).trans hb9)
         clear hr9 hb9 hg9
         go_wp2
         go_roundw
         case rel=>exact ⟨j+1,N++[a],true,by go_num,rfl,by omega,by simp;omega,HM1,HR9,HB9⟩
         case measure=>simp [intOf];omega
      | false =>
        by_cases hlt3:c < 0
        ·have HM1:=Lib.hid (midU_lt HM.out HA.out hne (HLT.out.2 hlt3))
         clear hne
         go_wp2_with (at_builtin;first
          | (refine wpList_append_el (E:=encK) rfl _ _ 134 74 rfl infoK wa.heap.size N x.key w3.heap.size (HO3.out.alloc _) rfl (el_newK w3 x.key _) (by have:=HSZ3.out;simp;omega) (by omega) ?_;intro v8 w8 hr8 hb8 hg8;have HR8:=Lib.hid hr8;have HB8:=Lib.hid ((HB3.out.alloc HSZ3.out (.cells (encK.cs x.key).toArray 74)).trans hb8);clear hr8 hb8 hg8 r0 r1 r2 r3 r4 s0 s1 s2 s3 s4;have HSZ8:Hid (wa.heap.size≤w8.heap.size):=Lib.hid HB8.out.size;obtain ⟨s0,s1,s2,s3,s4⟩:=key5 (HAT0.out.keep HB8.out HAT0.out.lt);simp only [show encK.k=5 from rfl] at s0 s1 s2 s3 s4)
          | (refine wpList_append_el (E:=encK) rfl _ _ 134 74 rfl infoK wa.heap.size (N++[x.key]) a w8.heap.size (HR8.out.alloc _) rfl (el_newK w8 a _) (by have:=HSZ8.out;simp;omega) (by simp;omega) ?_;intro v9 w9 hr9 hb9 hg9)
          | fail)
         have HR9:=Lib.hid hr9
         have HB9:=Lib.hid ((HB8.out.alloc HSZ8.out (.cells (encK.cs a).toArray 74)).trans hb9)
         clear hr9 hb9 hg9 s0 s1 s2 s3 s4
         go_wp2
         go_roundw
         case rel=>exact ⟨j+1,N++[x.key]++[a],true,by go_num,rfl,by omega,by simp;omega,HM1,HR9,HB9⟩
         case measure=>simp [intOf];omega
        ·have HM1:=Lib.hid (midU_gt HM.out HA.out hne (fun h=>hlt3 (HLT.out.1 h)))
         clear hne
         go_wp2_with (at_builtin;refine wpList_append_el (E:=encK) rfl _ _ 134 74 rfl infoK wa.heap.size N a w3.heap.size (HO3.out.alloc _) rfl (el_newK w3 a _) (by have:=HSZ3.out;simp;omega) (by omega) ?_;intro v9 w9 hr9 hb9 hg9)
         have HR9:=Lib.hid hr9
         have HB9:=Lib.hid ((HB3.out.alloc HSZ3.out _).trans hb9)
         clear hr9 hb9 hg9
         go_wp2
         go_roundw
         case rel=>exact ⟨j+1,N++[a],false,by go_num,rfl,by omega,by simp;omega,HM1,HR9,HB9⟩
         case measure=>simp [intOf];omega
    ·have hEND:A.length≤j:=by rw [HNA.out];omega
     have HBB:=Lib.hid (HB.out.trans (HB2.out.mono HB.out.size))
     cases d with
     | true =>
       have HRS:Hid (keysFrom [] (l.take (i+1))=N):=Lib.hid (by rw [HSN.out];exact midU_end1 HM.out hEND)
       have HO9:=Lib.hid (row_base HO.out HB.out.size)
       clear hEND HO
       go_wp2
       go_roundw
       case rel=>exact ⟨i+1,by go_num,by omega,by rw [HRS.out];exact HO9,HBB⟩
       case measure=>simp [intOf];omega
     | false =>
       have HRS:Hid (keysFrom [] (l.take (i+1))=N++[x.key]):=Lib.hid (by rw [HSN.out];exact midU_end0 HM.out hEND)
       have HSZ2:Hid (wa.heap.size≤wr.heap.size):=Lib.hid HB2.out.size
       obtain ⟨r0,r1,r2,r3,r4,r5⟩:=fact6 HATr.out
       simp only [show encF.k=6 from rfl] at r0 r1 r2 r3 r4
       clear hEND r5
       go_wp2_with (at_builtin;refine wpList_append_el (E:=encK) rfl _ _ 134 74 rfl infoK wa.heap.size N x.key wr.heap.size (HO.out.alloc _) rfl (el_newK wr x.key _) (by have:=HSZ2.out;simp;omega) (by omega) ?_;intro v9 w9 hr9 hb9 hg9)
       have HR9:=Lib.hid (row_base hr9 HB.out.size)
       have HB9:=Lib.hid (HB.out.trans (((HB2.out.alloc HSZ2.out (.cells (encK.cs x.key).toArray 74)).trans hb9).mono HB.out.size))
       clear hr9 hb9 hg9 r0 r1 r2 r3 r4
       go_wp2
       go_roundw
       case rel=>exact ⟨i+1,by go_num,by omega,by rw [HRS.out];exact HR9,HB9⟩
       case measure=>simp [intOf];omega
  ·have hTA:l.take i=l:=List.take_of_length_le (by rw [HN.out];omega)
   rw [hTA] at HO
   have HO9:=Lib.hid HO.out
   clear HO hTA
   go_wp2
   go_ret
   exact ⟨_,rfl,HO9.out,HB.out⟩
end Go.Proofs.YtfhhihamndbcnaaGreatDoor.Fa
end
section
namespace Go.Proofs.YtfhhihamndbcnaaGreatDoor.Fa
open Go.RowKit
set_option maxRecDepth 100000 in
set_option maxHeartbeats 8000000 in
theorem rright_any (v:Value) (c:List Fact) (w:World) (h:FactsV w v c) (hL:c.length≤100000) :
 Calls Tryz.prog 11 #[v] w fun e w'=>e=.returned (.bool (rightL c))∧Below w.heap.size w w':=by
 have HV:=Lib.hid h
 obtain ⟨p,cp,rfl,hcap,hm,_,_⟩:=h
 obtain ⟨n,hn⟩:∃ n,c.length=n:=⟨_,rfl⟩
 rw [hn] at hcap hL HV ⊢
 have HN:=Lib.hid hn
 obtain ⟨S,hS⟩:∃ S,rightL c=S:=⟨_,rfl⟩
 rw [hS]
 have HS:=Lib.hid hS
 unfold maxLen at hm
 clear hn hS
 go_enter Tryz.func11,Tryz.ntmps11
 go_wp2
 go_loopw [3] (fun s3 wr=>∃ i:Nat,s3=.int .i64 (i:Int)∧i≤n∧Hid (OkTo c i)∧Hid (Below w.heap.size w wr)) (fun s3 _=>n - (intOf s3).toNat)
 case atStart=>exact ⟨0,rfl,Nat.zero_le _,Lib.hid (fun j x hj=>absurd hj (Nat.not_lt_zero _)),Lib.hid (Below.refl _ _)⟩
 case round =>
  obtain ⟨i,rfl,hin,HO,HB1⟩:=hrel
  by_cases hlt:i < n
  ·obtain ⟨x,hx⟩:∃ x,c[i]?=some x:=⟨_,List.getElem?_eq_getElem (by rw [HN.out];exact hlt)⟩
   obtain ⟨b,o,rfl,hat⟩:=ElsV.at_ HV.out hx
   obtain ⟨d0,d1,d2,d3,d4,d5⟩:=fact6 (hat.keep HB1.out hat.lt)
   simp only [show encF.k=6 from rfl] at d0 d1 d2 d3 d4 d5
   have HX:=Lib.hid hx
   have u0:=fun p:Past wr=>cell_past d0 p
   have u1:=fun p:Past wr=>cell_past d1 p
   have u2:=fun p:Past wr=>cell_past d2 p
   have u3:=fun p:Past wr=>cell_past d3 p
   have u4:=fun p:Past wr=>cell_past d4 p
   have u5:=fun p:Past wr=>cell_past d5 p
   clear hx hat
   by_cases h0:x.amt=0
   ·have hSf:S=false:=by rw [←HS.out,right_no0 HX.out h0]
    subst hSf
    have hz:(x.amt==0)=true:=by rw [beq_iff_eq];exact h0
    clear h0 d0 d1 d2 d3 d4 d5
    go_wp2_with fail
    refine wp_region_past (by kernel_rfl) (by kernel_rfl) ?_
    repeat (go_big_quiet_step (fail))
    refine wpQuiet_nil ?_
    intro w3 hw'
    obtain ⟨⟨_,hb3⟩,rfl⟩:=hw'
    clear u0 u1 u2 u3 u4 u5
    go_wp2
    go_ret
    exact ⟨rfl,HB1.out.trans (hb3.mono HB1.out.size)⟩
   ·have hz:(x.amt==0)=false:=by rw [beq_eq_false_iff_ne];exact h0
    by_cases hi0:i=0
    ·subst hi0
     have HO1:=Lib.hid (okTo_next HO.out HX.out h0 (fun y hj=>absurd hj (Nat.not_lt_zero _)))
     clear h0 d0 d1 d2 d3 d4 d5
     simp only [Nat.zero_mul,Nat.add_zero] at u0 u1 u2 u3 u4 u5
     go_wp2_with fail
     refine wp_region_past (by kernel_rfl) (by kernel_rfl) ?_
     repeat (go_big_quiet_step (fail))
     refine wpQuiet_nil ?_
     intro w3 hw'
     obtain ⟨⟨_,hb3⟩,rfl⟩:=hw'
     clear u0 u1 u2 u3 u4 u5
     go_wp2
     go_roundw
     case rel=>exact ⟨0+1,by go_num,by omega,HO1,Lib.hid (HB1.out.trans (hb3.mono HB1.out.size))⟩
     case measure=>simp [intOf];omega
    ·obtain ⟨k,rfl⟩:∃ k,i=k+1:=⟨i - 1,by omega⟩
     obtain ⟨y,hy⟩:∃ y,c[k]?=some y:=⟨_,List.getElem?_eq_getElem (by rw [HN.out];omega)⟩
     obtain ⟨b',o',e,hat⟩:=ElsV.at_ HV.out hy
     cases e
     obtain ⟨s0,s1,s2,s3,s4,s5⟩:=fact6 (hat.keep HB1.out hat.lt)
     simp only [show encF.k=6 from rfl] at s0 s1 s2 s3 s4 s5
     have q0:=fun p:Past wr=>cell_past s0 p
     have q1:=fun p:Past wr=>cell_past s1 p
     have q2:=fun p:Past wr=>cell_past s2 p
     have q3:=fun p:Past wr=>cell_past s3 p
     have q4:=fun p:Past wr=>cell_past s4 p
     have q5:=fun p:Past wr=>cell_past s5 p
     have HY:=Lib.hid hy
     obtain ⟨m,hmm⟩:∃ m,cmpK y.key x.key=m:=⟨_,rfl⟩
     have HAG:=Lib.hid (fun W=>rcmp_any y.key x.key W)
     have HM:Hid (ltK y.key x.key ↔ m < 0):=Lib.hid (by unfold ltK;rw [hmm])
     simp only [hmm] at HAG
     have hwm:IntKind.i64.wrap (k:Int)=(k:Int):=by rw [IntKind.wrap_i64];omega
     have hpos:decide ((0:Int) < (k:Int)+1)=true:=decide_eq_true (by omega)
     have hH0:=Lib.hid h0
     clear hmm hy hat s0 s1 s2 s3 s4 s5 h0 hi0 d0 d1 d2 d3 d4 d5
     by_cases hm0:m < 0
     ·have HO1:=Lib.hid (okTo_next HO.out HX.out hH0.out (fun z _ hz=>by
       rw [Nat.add_sub_cancel,HY.out] at hz
       cases hz
       exact HM.out.2 hm0))
      have hd:decide (0≤m)=false:=decide_eq_false (by omega)
      have hd2:decide (m < 0)=true:=decide_eq_true hm0
      go_wp2_with fail
      refine wp_region_past (by kernel_rfl) (by kernel_rfl) ?_
      repeat (go_big_quiet_step ((go_at_call 29;exact Calls.past_of (HAG.out _))))
      refine wpQuiet_nil ?_
      intro w3 hw'
      obtain ⟨⟨_,hb3⟩,rfl⟩:=hw'
      clear q0 u0 q1 u1 q2 u2 q3 u3 q4 u4 q5 u5
      go_wp2
      go_roundw
      case rel=>exact ⟨k+1+1,by go_num,by omega,HO1,Lib.hid (HB1.out.trans (hb3.mono HB1.out.size))⟩
      case measure=>simp [intOf];omega
     ·have hSf:S=false:=by rw [←HS.out,right_no1 (Nat.succ_pos k) HX.out (by exact HY.out) (fun h=>hm0 (HM.out.1 h))]
      subst hSf
      have hd:decide (0≤m)=true:=decide_eq_true (by omega)
      have hd2:decide (m < 0)=false:=decide_eq_false hm0
      go_wp2_with fail
      refine wp_region_past (by kernel_rfl) (by kernel_rfl) ?_
      repeat (go_big_quiet_step ((go_at_call 29;exact Calls.past_of (HAG.out _))))
      refine wpQuiet_nil ?_
      intro w3 hw'
      obtain ⟨⟨_,hb3⟩,rfl⟩:=hw'
      clear q0 u0 q1 u1 q2 u2 q3 u3 q4 u4 q5 u5
      go_wp2
      go_ret
      exact ⟨rfl,HB1.out.trans (hb3.mono HB1.out.size)⟩
  ·obtain rfl:i=n:=by omega
   by_cases hbig:i≤2000
   ·have h2:(i:Int)≤2000:=by omega
    have hSt:S=true:=by rw [←HS.out,right_yes HN.out hbig HO.out]
    subst hSt
    go_wp2
    go_ret
    exact ⟨rfl,HB1.out⟩
   ·have h2:¬ (i:Int)≤2000:=by omega
    obtain rfl:S=false:=by rw [←HS.out];exact decide_eq_false fun hr=>by have:=hr.1;have:=HN.out;omega
    go_wp2
    go_ret
    exact ⟨rfl,HB1.out⟩
end Go.Proofs.YtfhhihamndbcnaaGreatDoor.Fa
end
section
namespace Go.Proofs.YtfhhihamndbcnaaGreatDoor.Fa
open Go.RowKit
theorem el_newF (w:World) (y:Fact) (t:TypeId):ElAt encF (w.alloc (.cells (encF.cs y).toArray t)) w.heap.size 0 y:=el_new encF w y t
end Go.Proofs.YtfhhihamndbcnaaGreatDoor.Fa
end
section
namespace Go.Proofs.YtfhhihamndbcnaaGreatDoor.Fa
open Go.RowKit
theorem grps_at {l:List Fact} {i:Nat} {k:Key} (h:(keysL l)[i]?=some k):(grps l)[i]?=some (k,amts l k):=by
 unfold grps;rw [List.getElem?_map,h];rfl
theorem amts_yes {l:List Fact} {j:Nat} {x:Fact} {k:Key} (hx:l[j]?=some x) (h:x.key=k):amts (l.take (j+1)) k=amts (l.take j) k++[x.amt]:=by
 unfold amts
 rw [List.take_add_one,hx]
 simp [h]
theorem amts_no {l:List Fact} {j:Nat} {x:Fact} {k:Key} (hx:l[j]?=some x) (h:x.key≠k):amts (l.take (j+1)) k=amts (l.take j) k:=by
 unfold amts
 rw [List.take_add_one,hx]
 simp [h]
theorem amts_len (l:List Fact) (j:Nat) (k:Key):(amts (l.take j) k).length≤j:=Nat.le_trans (amts_length _ _) (by rw [List.length_take];exact Nat.min_le_left _ _)
theorem el_newI (w:World) (y:Int) (t:TypeId):ElAt encI (w.alloc (.cells #[.int .i64 y] t)) w.heap.size 0 y:=el_new encI w y t
set_option maxRecDepth 100000 in
set_option maxHeartbeats 8000000 in
theorem rof_any (v:Value) (l:List Fact) (w:World) (h:FactsV w v l) (hz:∀ f∈l,In64 f.amt) (hL:l.length≤1000) :
 Calls Tryz.prog 32 #[v] w (CubeTold w (ofL l)):=by
 have HK:=Lib.hid (rkeys_any v l w h hL)
 have HV:=Lib.hid h
 obtain ⟨p,cp,rfl,hcap,hmx,_,_⟩:=h
 obtain ⟨n,hn⟩:∃ n,l.length=n:=⟨_,rfl⟩
 have HKL:=Lib.hid (keys_length l)
 rw [hn] at hcap hL HV HK HKL ⊢
 have HN:=Lib.hid hn
 have HZ:=Lib.hid (grps_in64 hz)
 obtain ⟨R,hR⟩:∃ R,ofL l=R:=⟨_,rfl⟩
 rw [hR]
 have HR:=Lib.hid (show runG (grps l)=R from hR)
 unfold maxLen at hmx
 clear hn hz hR
 go_enter Tryz.func32,Tryz.ntmps32
 go_wp2_with (go_at_call 58;refine HK.out.mono ?_;rintro e w1 ⟨vk,rfl,hok,hb1⟩)
 have HB1:=Lib.hid hb1
 have HE:=Lib.hid (els_of_own (E:=encK) hok)
 obtain ⟨pk,ck,rfl,_,_,_,_⟩:=id HE.out
 obtain ⟨nk,hnk⟩:∃ nk,(keysL l).length=nk:=⟨_,rfl⟩
 rw [hnk] at HE HKL ⊢
 have HNK:=Lib.hid hnk
 have hKL:=HKL.out
 have HSZ1:=Lib.hid hb1.size
 clear hok hb1 hnk HK
 go_wp2
 go_loopw [5,6] (fun s5 s6 wr=>∃ i:Nat,s6=.int .i64 (i:Int)∧i≤nk∧Hid (okG ((grps l).take i))∧Hid (wr.ownsRow w1.heap.size 79 6 s5 (accG ((grps l).take i)).length (flat encF (accG ((grps l).take i))))∧Hid (Below w1.heap.size w1 wr)) (fun _ s6 _=>nk - (intOf s6).toNat)
 case atStart=>exact ⟨0,rfl,Nat.zero_le _,Lib.hid (fun g hg=>by simp at hg),World.ownsRow_nil _ _ _ _,Lib.hid (Below.refl _ _)⟩
 case round =>
  obtain ⟨i,rfl,hin,HG,HO,HB⟩:=hrel
  rename World=>wa
  by_cases hlt:i < nk
  ·obtain ⟨k,hk⟩:∃ k,(keysL l)[i]?=some k:=⟨_,List.getElem?_eq_getElem (by rw [HNK.out];exact hlt)⟩
   obtain ⟨b2,o2,rfl,hat2⟩:=ElsV.at_ HE.out hk
   have HAK:=Lib.hid (hat2.keep HB.out hat2.lt)
   have HGA:=Lib.hid (grps_at hk)
   clear hk hat2
   go_wp2
   go_loopw [7,8] (fun s7 s8 wr=>∃ j:Nat,s8=.int .i64 (j:Int)∧j≤n∧Hid (wr.ownsRow wa.heap.size 2 1 s7 (amts (l.take j) k).length (flat encI (amts (l.take j) k)))∧Hid (Below wa.heap.size wa wr)) (fun _ s8 _=>n - (intOf s8).toNat)
   case atStart=>exact ⟨0,rfl,Nat.zero_le _,World.ownsRow_nil _ _ _ _,Lib.hid (Below.refl _ _)⟩
   case round =>
    obtain ⟨j,rfl,hj,HO2,HB2⟩:=hrel
    by_cases hlt2:j < n
    ·obtain ⟨x,hx⟩:∃ x,l[j]?=some x:=⟨_,List.getElem?_eq_getElem (by rw [HN.out];exact hlt2)⟩
     obtain ⟨b,o,rfl,hat⟩:=ElsV.at_ HV.out hx
     have HX:=Lib.hid hx
     have HAT:=Lib.hid (hat.keep HB1.out hat.lt)
     have HAT1:=Lib.hid (HAT.out.keep HB.out HAT.out.lt)
     obtain ⟨r0,r1,r2,r3,r4,r5⟩:=fact6 (HAT1.out.keep HB2.out HAT1.out.lt)
     obtain ⟨s0,s1,s2,s3,s4⟩:=key5 (HAK.out.keep HB2.out HAK.out.lt)
     simp only [show encF.k=6 from rfl,show encK.k=5 from rfl] at r0 r1 r2 r3 r4 r5 s0 s1 s2 s3 s4
     have gk:=guard_rkey
     have hq:=eql_rkey x.key k
     clear hx hat
     cases he:eqK x.key k with
     | true =>
       have hxk:x.key=k:=of_decide_eq_true he
       have HA:=Lib.hid (amts_yes HX.out hxk)
       have HLI:=Lib.hid (amts_len l j k)
       rw [he] at hq
       clear he hxk
       go_wp2_with fail
       go_big_quiet (fail)
       have HB3:=Lib.hid (belowN HB2.out nq)
       have HO3:=Lib.hid (row_below HO2.out (belowN (Below.refl wr.heap.size wr) nq))
       clear hq gk r0 r1 r2 r3 r4 r5 s0 s1 s2 s3 s4 HO2
       obtain ⟨W3,hW3⟩:∃ W3,wr.drewN nq=W3:=⟨_,rfl⟩
       rw [hW3] at HB3 HO3 ⊢
       clear hW3
       have HSZ3:=Lib.hid HB3.out.size
       obtain ⟨r0,r1,r2,r3,r4,r5⟩:=fact6 (HAT1.out.keep HB3.out HAT1.out.lt)
       simp only [show encF.k=6 from rfl] at r0 r1 r2 r3 r4 r5
       go_wp2_with (at_builtin;refine wpList_append_el (E:=encI) rfl _ _ 136 2 rfl infoI wa.heap.size (amts (l.take j) k) x.amt W3.heap.size (HO3.out.alloc _) rfl (el_newI _ _ _) (by have:=HSZ3.out;simp;omega) (by have:=HLI.out;omega) ?_;intro v9 w9 hr9 hb9 hg9)
       have HR9:=Lib.hid hr9
       have HB9:Hid (Below wa.heap.size wa w9):=Lib.hid ((HB3.out.alloc HSZ3.out _).trans hb9)
       clear hr9 hb9 hg9 r0 r1 r2 r3 r4 r5
       go_wp2
       go_roundw
       case rel=>exact ⟨j+1,by go_num,by omega,by rw [HA.out];exact HR9,HB9⟩
       case measure=>simp [intOf];omega
     | false =>
       have hxk:x.key≠k:=of_decide_eq_false he
       have HA:=Lib.hid (amts_no HX.out hxk)
       rw [he] at hq
       clear he hxk
       go_wp2_with fail
       go_big_quiet (fail)
       have HB3:=Lib.hid (belowN HB2.out nq)
       have HO3:=Lib.hid (row_below HO2.out (belowN (Below.refl wr.heap.size wr) nq))
       clear hq gk r0 r1 r2 r3 r4 r5 s0 s1 s2 s3 s4
       go_wp2
       go_roundw
       case rel=>exact ⟨j+1,by go_num,by omega,by rw [HA.out];exact HO3,HB3⟩
       case measure=>simp [intOf];omega
    ·have hTA:l.take j=l:=List.take_of_length_le (by rw [HN.out];omega)
     rw [hTA] at HO2
     clear hTA
     have HTK:Hid ((grps l).take (i+1)=(grps l).take i++[(k,amts l k)]):=Lib.hid (by rw [List.take_add_one,HGA.out];rfl)
     have HSP:Hid (grps l=(grps l).take i++(k,amts l k)::(grps l).drop (i+1)):=Lib.hid (by
      rw [←drop_at HGA.out,List.take_append_drop])
     have hI:∀ y∈amts l k,In64 y:=HZ.out _ (List.mem_of_getElem? HGA.out)
     obtain ⟨A,hA⟩:∃ A,amts l k=A:=⟨_,rfl⟩
     rw [hA] at HO2 HTK HSP hI
     clear hA
     have hv:=els_of_own (E:=encI) HO2.out
     obtain ⟨p9,c9,rfl,_⟩:=id hv
     have HSM:=Lib.hid (rsum_any p9 _ c9 A wr (rowIs_els hv) hI)
     obtain ⟨S,hS⟩:∃ S,sumFrom 0 A=S:=⟨_,rfl⟩
     obtain ⟨sv,se⟩:=S
     rw [hS] at HSM
     have HS:=Lib.hid hS
     have HBB:=Lib.hid (HB.out.trans (HB2.out.mono HB.out.size))
     have HOO:=Lib.hid (row_below HO.out (HB2.out.mono (Nat.le_refl _)))
     have HSZ2:=Lib.hid HB2.out.size
     have HSZa:=Lib.hid HB.out.size
     clear hv hS hI HO2
     by_cases he:se=0
     ·subst he
      have HG1:=Lib.hid (ok_snoc (g:=(k,A)) HG.out (by rw [HS.out]))
      by_cases h0:sv=0
      ·subst h0
       have HAC:Hid (accG ((grps l).take (i+1))=accG ((grps l).take i)):=Lib.hid (by rw [HTK.out,acc_snoc,HS.out];simp [putF])
       go_wp2_with (go_at_call 59;refine HSM.out.mono ?_;rintro e' w' ⟨rfl,rfl⟩)
       go_roundw
       case rel=>exact ⟨i+1,by go_num,by omega,by rw [HTK.out];exact HG1,by rw [HAC.out];exact HOO,HBB⟩
       case measure=>simp [intOf];omega
      ·have hne:(sv != 0)=true:=by rw [bne_iff_ne];exact h0
       have HAC:Hid (accG ((grps l).take (i+1))=accG ((grps l).take i)++[⟨k,sv⟩]):=Lib.hid (by rw [HTK.out,acc_snoc,HS.out];simp [putF,h0])
       have HLA:Hid ((accG ((grps l).take i)).length≤1000):=Lib.hid (by
        have e1:=acc_length ((grps l).take i)
        rw [List.length_take] at e1
        have e2:=grps_length l
        rw [HN.out] at e2
        omega)
       obtain ⟨s0,s1,s2,s3,s4⟩:=key5 (HAK.out.keep HB2.out HAK.out.lt)
       simp only [show encK.k=5 from rfl] at s0 s1 s2 s3 s4
       clear h0
       go_wp2_with (first | (go_at_call 59;refine HSM.out.mono ?_;rintro e' w' ⟨rfl,rfl⟩) | (at_builtin;refine wpList_append_el (E:=encF) rfl _ _ 22 79 rfl infoR w1.heap.size (accG ((grps l).take i)) ⟨k,sv⟩ wr.heap.size (HOO.out.alloc _) rfl (el_newF wr ⟨k,sv⟩ _) (by have:=HSZ2.out;have:=HSZa.out;simp;omega) (by have:=HLA.out;omega) ?_;intro v9 w9 hr9 hb9 hg9) | fail)
       have HR9:=Lib.hid hr9
       have HB9:Hid (Below w1.heap.size w1 w9):=Lib.hid ((HBB.out.alloc HBB.out.size _).trans hb9)
       clear hr9 hb9 hg9 s0 s1 s2 s3 s4
       go_wp2
       go_roundw
       case rel=>exact ⟨i+1,by go_num,by omega,by rw [HTK.out];exact HG1,by rw [HAC.out];exact HR9,HB9⟩
       case measure=>simp [intOf];omega
     ·have hne:(se != 0)=true:=by rw [bne_iff_ne];exact he
      have HRR:Hid (R=([],se)):=Lib.hid (by
       rw [←HR.out,HSP.out,run_err _ _ (k,A) HG.out (by rw [HS.out];exact he),HS.out])
      clear he
      go_wp2_with (go_at_call 59;refine HSM.out.mono ?_;rintro e' w' ⟨rfl,rfl⟩)
      go_ret2
      refine ⟨_,by rw [HRR.out];rfl,by rw [HRR.out];exact ElsV.nil _,HB1.out.trans (HBB.out.mono HB1.out.size)⟩
  ·have hTA:(grps l).take i=grps l:=List.take_of_length_le (by
    have:(grps l).length=nk:=by unfold grps;rw [List.length_map,HNK.out]
    omega)
   rw [hTA] at HO HG
   have HRR:Hid (R=(accG (grps l),0)):=Lib.hid (by rw [←HR.out,run_end _ HG.out])
   obtain ⟨A,hA⟩:∃ A,accG (grps l)=A:=⟨_,rfl⟩
   have hAL:A.length≤1000:=by
    rw [←hA]
    have e1:=acc_length (grps l)
    have e2:=grps_length l
    rw [HN.out] at e2
    omega
   rw [hA] at HO HRR
   have hv:=els_of_own (E:=encF) HO.out
   obtain ⟨p9,c9,rfl,_⟩:=id hv
   obtain ⟨m,hm⟩:∃ m,A.length=m:=⟨_,rfl⟩
   rw [hm] at hv hAL ⊢
   have HV9:=Lib.hid hv
   have h2:¬ (2000:Int) < (m:Int):=by omega
   clear hv hm hA hTA HO
   go_wp2
   go_ret2
   exact ⟨_,by rw [HRR.out];rfl,by rw [HRR.out];exact HV9.out,HB1.out.trans (HB.out.mono HB1.out.size)⟩
end Go.Proofs.YtfhhihamndbcnaaGreatDoor.Fa
end
section
namespace Go.Proofs.YtfhhihamndbcnaaGreatDoor.Fa
open Go.RowKit
theorem in64_both {A B:List Fact} (ha:∀ x∈A,In64 x.amt) (hb:∀ x∈B,In64 x.amt):∀ x∈A++B,In64 x.amt:=fun x hx=>(List.mem_append.1 hx).elim (ha x) (hb x)
set_option maxRecDepth 100000 in
set_option maxHeartbeats 4000000 in
theorem radd_any (va vb:Value) (A B:List Fact) (w:World) (hA:FactsV w va A) (hB:FactsV w vb B) (hzA:∀ f∈A,In64 f.amt) (hzB:∀ f∈B,In64 f.amt) (hLA:A.length≤400) (hLB:B.length≤400) :
 Calls Tryz.prog 36 #[va,vb] w (CubeTold w (ofL (A++B))):=by
 have HA:=Lib.hid hA
 have HB:=Lib.hid hB
 have HZ:=Lib.hid (in64_both hzA hzB)
 have HLA:=Lib.hid hLA
 have HLB:=Lib.hid hLB
 obtain ⟨R,hR⟩:∃ R,ofL (A++B)=R:=⟨_,rfl⟩
 rw [hR]
 have HR:=Lib.hid hR
 clear hA hB hzA hzB hR hLA hLB
 obtain ⟨pa,ca,rfl,_,_,_,_⟩:=id HA.out
 obtain ⟨pb,cb,rfl,_,_,_,_⟩:=id HB.out
 obtain ⟨na,hna⟩:∃ n,A.length=n:=⟨_,rfl⟩
 obtain ⟨nb,hnb⟩:∃ n,B.length=n:=⟨_,rfl⟩
 rw [hna] at HA HLA
 rw [hnb] at HB HLB
 have HNA:=Lib.hid hna
 have HNB:=Lib.hid hnb
 rw [hna,hnb]
 have HB0:Hid (Below w.heap.size w (w.alloc (.cells #[] 79))):=Lib.hid ((Below.refl w.heap.size w).alloc (Nat.le_refl _) _)
 have HE0:Hid ((w.alloc (.cells #[] 79)).ownsRow w.heap.size 79 6 (.slice (some ⟨w.heap.size,0,none⟩) 0 0) ([]:List Fact).length (flat encF [])):=Lib.hid ⟨rfl,.inr ⟨w.heap.size,0,#[],rfl,Nat.le_refl _,heap_alloc_new w _,Nat.le_refl _,by unfold maxLen;omega,rfl,rfl⟩⟩
 have HA0:=Lib.hid (HA.out.keep HB0.out)
 clear hna hnb
 go_enter Tryz.func36,Tryz.ntmps36
 go_wp2_with (at_builtin;first
  | (refine wpList_append_els (E:=encF) rfl _ _ 22 79 rfl infoR w.heap.size [] A HE0.out HA0.out HB0.out.size (by simp;have:=HNA.out;have:=HLA.out;omega) ?_;intro v2 w2 hr2 hb2;have HR2:Hid (w2.ownsRow w.heap.size 79 6 v2 A.length (flat encF A)):=Lib.hid (by have:=hr2;rw [List.nil_append] at this;exact this);have HB2:=Lib.hid (HB0.out.trans hb2);have HBB2:=Lib.hid (HB.out.keep HB2.out);clear hr2 hb2)
  | (refine wpList_append_els (E:=encF) rfl _ _ 22 79 rfl infoR w.heap.size A B HR2.out HBB2.out HB2.out.size (by have:=HNA.out;have:=HNB.out;have:=HLA.out;have:=HLB.out;omega) ?_;intro v3 w3 hr3 hb3)
  | fail)
 have HB3:=Lib.hid (HB2.out.trans hb3)
 have HO1:=Lib.hid (rof_any v3 (A++B) w3 (els_of_own hr3) HZ.out (by rw [List.length_append];have:=HNA.out;have:=HNB.out;have:=HLA.out;have:=HLB.out;omega))
 rw [HR.out] at HO1
 clear hr3 hb3
 go_wp2_with (go_at_call 32;refine HO1.out.mono ?_;rintro e w4 ⟨u,rfl,hu,hb4⟩)
 have HU:=Lib.hid hu
 have HB4:=Lib.hid (HB3.out.trans (hb4.mono HB3.out.size))
 clear hu hb4
 go_ret2
 exact ⟨_,rfl,HU.out,HB4.out⟩
end Go.Proofs.YtfhhihamndbcnaaGreatDoor.Fa
end
